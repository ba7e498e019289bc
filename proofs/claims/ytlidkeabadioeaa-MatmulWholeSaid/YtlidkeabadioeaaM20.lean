/-
  MatmulWhole's loop.
-/
import Derived.BigQuiet
import Derived.Deep.RegionHeld3
import Derived.Test.YtlidkeabadioeaaM01
import Derived.Test.YtlidkeabadioeaaM17
import Derived.Test.YtlidkeabadioeaaM19
namespace Go.Proofs.Ytlidkeabadioeaa
open Go.RowKit Go.Shelf


set_option maxRecDepth 100000 in
set_option maxHeartbeats 6000000 in
theorem matmulwhole_any (bb oo len cap : Nat) (es : Nat → Mk) (w : World) (_hl : len ≤ 9223372036854775807) (hb : bb < w.heap.size) (hT : ∀ i, i < len → MkAt w bb (oo + i * 5) (es i)) (hok : ∀ i, i < len → (es i).ok w) :
    Calls Try.prog 6 #[.slice (some ⟨bb, oo, none⟩) len cap] w fun e w' => e = .returned (.bool true) ∧ Below w.heap.size w w' := by
  have HT := Lib.hid (And.intro hT hok)
  clear hT hok
  go_enter Try.func6, Try.ntmps6
  go_wp2
  go_loopw [3] (fun s3 wQ => ∃ k : Nat, k ≤ len ∧ s3 = .int .i64 k ∧ Below w.heap.size w wQ) (fun s3 _ => len - (intOf s3).toNat)
  case atStart => exact ⟨0, Nat.zero_le _, rfl, Below.refl _ _⟩
  case round =>
    obtain ⟨k, hk, rfl, hB⟩ := hrel
    have hBs := hB.size
    obtain ⟨w1, hw1⟩ : ∃ w1, w1 = wr := ⟨_, rfl⟩
    subst hw1
    by_cases g : k < len ∧ k < 6
    · obtain ⟨g1, g2⟩ := g
      obtain ⟨t0, t1, t2, t3, t4⟩ := (HT.out.1 k (by omega)).below hB hb
      obtain ⟨⟨hA, hX, hV, hY⟩, ⟨l0, l1, l2, l3⟩, ⟨a0, a1⟩⟩ := HT.out.2 k (by omega)
      replace hA := hA.below hB
      replace hX := hX.below hB
      replace hV := hV.below hB
      replace hY := hY.below hB
      generalize es k = p at *
      obtain ⟨vA, vX, vB, vY, sa, da, sb, db, f⟩ := p
      simp only at t0 t1 t2 t3 t4 hA hX hV hY l0 l1 l2 l3 a0 a1
      obtain ⟨oA, cA, rfl, _, _⟩ := id hA
      obtain ⟨oX, cX, rfl, _, hxX⟩ := id hX
      obtain ⟨oB, cB, rfl, _, _⟩ := id hV
      obtain ⟨oY, cY, rfl, _, hxY⟩ := id hY
      have HXX := Lib.hid (And.intro hxX hxY)
      clear hxX hxY
      have K0 := Lib.hid (fun o => (Below.refl w1.heap.size w1).alloc (Nat.le_refl _) o)
      have K4 := Lib.hid (Blk.new w1 28 #[.slice oA sa.length cA, .slice oX da.length cX, .slice oB sb.length cB, .slice oY db.length cY, .int .i64 f])
      obtain ⟨FR, hFR⟩ : ∃ FR : World → Prop, FR = fun W => Below w1.heap.size w1 W ∧ Blk W w1.heap.size 28 #[.slice oA sa.length cA, .slice oX da.length cX, .slice oB sb.length cB, .slice oY db.length cY, .int .i64 f] := ⟨_, rfl⟩
      have FRb : Hid (∀ W, FR W → Below w1.heap.size w1 W) := Lib.hid (fun W h => by rw [hFR] at h; exact h.1)
      have FRk := Lib.hid (fun (W : World) (h : FR W) => blk5m (by rw [hFR] at h; exact h.2 : Blk W w1.heap.size 28 #[.slice oA sa.length cA, .slice oX da.length cX, .slice oB sb.length cB, .slice oY db.length cY, .int .i64 f]))
      have FRn : Hid (∀ W W', FR W → Below W.heap.size W W' → FR W') := Lib.hid (fun W W' h hb => by rw [hFR] at h ⊢; exact ⟨h.1.trans (hb.mono h.1.size), h.2.below hb h.2.lt⟩)
      have FRl : Hid (∀ W, FR W → w1.heap.size < W.heap.size) := Lib.hid (fun W h => by rw [hFR] at h; exact h.2.lt)
      have FRs : Hid (∀ W, Below (w1.alloc (.cells #[.slice oA sa.length cA, .slice oX da.length cX, .slice oB sb.length cB, .slice oY db.length cY, .int .i64 f] 28)).heap.size (w1.alloc (.cells #[.slice oA sa.length cA, .slice oX da.length cX, .slice oB sb.length cB, .slice oY db.length cY, .int .i64 f] 28)) W → FR W) := Lib.hid (fun W h => by rw [hFR]; exact ⟨(K0.out _).trans (h.mono (by simp)), K4.out.below h K4.out.lt⟩)
      clear hFR
      have LG := Lib.hid (fun (W : World) (hW : Below w1.heap.size w1 W) => heavy10_any _ _ _ _ sa da sb db f W (hA.below hW) (hX.below hW) (hV.below hW) (hY.below hW) (by omega) (by omega) (by omega) (by omega))
      cases lg : (hv8 40 sa da || hv8 40 sb db) with
      | true =>
        as_aux_lemma =>
        rw [lg] at LG
        clear lg hA hX hV hY
        go_wp2_with (go_at_call 11; (with_reducible refine (LG.out _ (K0.out _)).mono ?_); rintro e w2 ⟨rfl, hb2⟩; have F2 := Lib.hid (FRs.out _ hb2); obtain ⟨x0, x1, x2, x3, x4⟩ := FRk.out _ F2.out; clear hb2)
        go_ret
        exact ⟨rfl, hB.trans ((FRb.out _ F2.out).mono hBs)⟩
      | false =>
        rw [lg] at LG
        have na := hv10_no lg
        have HL := Lib.hid (And.intro hA (And.intro hX (And.intro hV hY)))
        have KMA := Lib.hid (fun (W : World) (hW : Below w1.heap.size w1 W) => rmay8_any _ _ sa da W (hA.below hW) (hX.below hW) (by omega) (by omega))
        have KMB := Lib.hid (fun (W : World) (hW : Below w1.heap.size w1 W) => rmay8_any _ _ sb db W (hV.below hW) (hY.below hW) (by omega) (by omega))
        clear lg hA hX hV hY
        cases ta : tnb sa da with
        | false =>
          as_aux_lemma =>
          rw [ta] at KMA
          clear ta
          have KS : Hid (∀ W, FR W → W.cell? ⟨w1.heap.size, 0, none⟩ = some (.slice oA sa.length cA) ∧ W.cell? ⟨w1.heap.size, 1, none⟩ = some (.slice oX da.length cX) ∧ W.cell? ⟨w1.heap.size, 2, none⟩ = some (.slice oB sb.length cB) ∧ W.cell? ⟨w1.heap.size, 3, none⟩ = some (.slice oY db.length cY)) := Lib.hid (fun W h => ⟨(FRk.out _ h).1, (FRk.out _ h).2.1, (FRk.out _ h).2.2.1, (FRk.out _ h).2.2.2.1⟩)
          go_upto_region 7 with (go_at_call 11; (with_reducible refine (LG.out _ (K0.out _)).mono ?_); rintro e w2 ⟨rfl, hb2⟩; have F2 := Lib.hid (FRs.out _ hb2); obtain ⟨x0, x1, x2, x3, x4⟩ := FRk.out _ F2.out; clear hb2)
          clear x0 x1 x2 x3 x4
          go_cut [78] (fun s78 wx => s78 = .bool true ∧ Hid (FR wx))
          case first =>
            as_aux_lemma =>
            have B_0 : Hid (FR w2.drew) := Lib.hid (FRn.out _ _ F2.out (below_drw (Below.refl _ _) 1))
            refine wp_region_held_drew (S := fun W => W.cell? ⟨w1.heap.size, 0, none⟩ = some (.slice oA sa.length cA) ∧ W.cell? ⟨w1.heap.size, 1, none⟩ = some (.slice oX da.length cX) ∧ W.cell? ⟨w1.heap.size, 2, none⟩ = some (.slice oB sb.length cB) ∧ W.cell? ⟨w1.heap.size, 3, none⟩ = some (.slice oY db.length cY)) (by kernel_rfl) ?_ (fun hHeld => ?_)
            · exact KS.out _ B_0.out
            have hHd := hHeld
            generalize w2.drew = w_0 at *
            (refine wpAnyH_take (i := 0) (oi := ⟨some 42, _, _, _, _, _⟩) (v := ?v0_z01) rfl (by kernel_rfl) (by kernel_rfl) (by kernel_rfl) (fun _ _ _ h => h) (Or.inl ⟨by rfl, ?hy0_z01⟩) (by assumption) ?rest0_z01; (case hy0_z01 => ((intro w hSw); (try dsimp only at hSw); go_simp; first | done | (with_reducible rfl))))
            (try simp only [Act.put, List.setIfInBounds_toArray, List.set_cons_zero, List.set_cons_succ])
            (refine wpAnyH_take (i := 1) (oi := ⟨some 43, _, _, _, _, _⟩) (v := ?v1_z02) rfl (by kernel_rfl) (by kernel_rfl) (by kernel_rfl) (fun _ _ _ h => h) (Or.inl ⟨by rfl, ?hy1_z02⟩) (by assumption) ?rest1_z02; (case hy1_z02 => ((intro w hSw); (try dsimp only at hSw); go_simp; first | done | (with_reducible rfl))))
            (try simp only [Act.put, List.setIfInBounds_toArray, List.set_cons_zero, List.set_cons_succ])
            refine wpAnyH_ready (rs := [2]) (by kernel_rfl) (by simp) ?_
            refine AllReadyH.cons (o := ⟨some 44, _, _, _, _, _⟩) rfl (fun K hK => ?_) (AllReadyH.nil)
            go_simp
            (go_at_call 12; (with_reducible refine (KMA.out _ (FRb.out _ B_0.out)).mono ?_); rintro e w_m1 ⟨rfl, hb⟩; have B_m1 := Lib.hid (FRn.out _ _ B_0.out hb); clear hb)
            refine hK.out _ _ ?_ (fun hHeld => ?_)
            · (try dsimp only)
              exact KS.out _ B_m1.out
            clear hK K
            (try simp only [Act.put, List.setIfInBounds_toArray, List.set_cons_zero, List.set_cons_succ])
            (refine wpAnyH_take (i := 3) (oi := ⟨some 45, _, _, _, _, _⟩) (v := ?v3_z03) rfl (by kernel_rfl) (by kernel_rfl) (by kernel_rfl) (fun _ _ _ h => h) (Or.inl ⟨by rfl, ?hy3_z03⟩) (by assumption) ?rest3_z03; (case hy3_z03 => ((intro w hSw); (try dsimp only at hSw); go_simp; first | done | (with_reducible rfl))))
            (try simp only [Act.put, List.setIfInBounds_toArray, List.set_cons_zero, List.set_cons_succ])
            (refine wpAnyH_take (i := 4) (oi := ⟨some 46, _, _, _, _, _⟩) (v := .bool true) rfl (by kernel_rfl) (by kernel_rfl) (by kernel_rfl) (fun _ _ _ h => h) (Or.inl ⟨by rfl, ?hy4_z04⟩) (by assumption) ?rest4_z04; (case hy4_z04 => ((intro w hSw); (try dsimp only at hSw); go_simp; first | done | (with_reducible rfl))))
            (try simp only [Act.put, List.setIfInBounds_toArray, List.set_cons_zero, List.set_cons_succ])
            (refine wpAnyH_take (i := 5) (oi := ⟨some 47, _, _, _, _, _⟩) (v := _) rfl (by kernel_rfl) (by kernel_rfl) (by kernel_rfl) (fun _ _ _ h => h) (Or.inr ⟨by rfl, rfl⟩) (by assumption) ?_)
            (try simp only [Act.put, List.setIfInBounds_toArray, List.set_cons_zero, List.set_cons_succ])
            (refine wpAnyH_take (i := 6) (oi := ⟨some 48, _, _, _, _, _⟩) (v := _) rfl (by kernel_rfl) (by kernel_rfl) (by kernel_rfl) (fun _ _ _ h => h) (Or.inr ⟨by rfl, rfl⟩) (by assumption) ?_)
            (try simp only [Act.put, List.setIfInBounds_toArray, List.set_cons_zero, List.set_cons_succ])
            (refine wpAnyH_take (i := 7) (oi := ⟨some 49, _, _, _, _, _⟩) (v := _) rfl (by kernel_rfl) (by kernel_rfl) (by kernel_rfl) (fun _ _ _ h => h) (Or.inr ⟨by rfl, rfl⟩) (by assumption) ?_)
            (try simp only [Act.put, List.setIfInBounds_toArray, List.set_cons_zero, List.set_cons_succ])
            (refine wpAnyH_take (i := 8) (oi := ⟨some 50, _, _, _, _, _⟩) (v := _) rfl (by kernel_rfl) (by kernel_rfl) (by kernel_rfl) (fun _ _ _ h => h) (Or.inr ⟨by rfl, rfl⟩) (by assumption) ?_)
            (try simp only [Act.put, List.setIfInBounds_toArray, List.set_cons_zero, List.set_cons_succ])
            (refine wpAnyH_take (i := 9) (oi := ⟨some 51, _, _, _, _, _⟩) (v := ?v9_z09) rfl (by kernel_rfl) (by kernel_rfl) (by kernel_rfl) (fun _ _ _ h => h) (Or.inl ⟨by rfl, ?hy9_z09⟩) (by assumption) ?rest9_z09; (case hy9_z09 => ((intro w hSw); (try dsimp only at hSw); go_simp; first | done | (with_reducible rfl))))
            (try simp only [Act.put, List.setIfInBounds_toArray, List.set_cons_zero, List.set_cons_succ])
            (refine wpAnyH_take (i := 10) (oi := ⟨some 52, _, _, _, _, _⟩) (v := .bool true) rfl (by kernel_rfl) (by kernel_rfl) (by kernel_rfl) (fun _ _ _ h => h) (Or.inl ⟨by rfl, ?hy10_z010⟩) (by assumption) ?rest10_z010; (case hy10_z010 => ((intro w hSw); (try dsimp only at hSw); go_simp; first | done | (with_reducible rfl))))
            (try simp only [Act.put, List.setIfInBounds_toArray, List.set_cons_zero, List.set_cons_succ])
            (refine wpAnyH_take (i := 11) (oi := ⟨some 53, _, _, _, _, _⟩) (v := _) rfl (by kernel_rfl) (by kernel_rfl) (by kernel_rfl) (fun _ _ _ h => h) (Or.inr ⟨by rfl, rfl⟩) (by assumption) ?_)
            (try simp only [Act.put, List.setIfInBounds_toArray, List.set_cons_zero, List.set_cons_succ])
            (refine wpAnyH_take (i := 12) (oi := ⟨some 54, _, _, _, _, _⟩) (v := _) rfl (by kernel_rfl) (by kernel_rfl) (by kernel_rfl) (fun _ _ _ h => h) (Or.inr ⟨by rfl, rfl⟩) (by assumption) ?_)
            (try simp only [Act.put, List.setIfInBounds_toArray, List.set_cons_zero, List.set_cons_succ])
            (refine wpAnyH_take (i := 13) (oi := ⟨some 55, _, _, _, _, _⟩) (v := _) rfl (by kernel_rfl) (by kernel_rfl) (by kernel_rfl) (fun _ _ _ h => h) (Or.inr ⟨by rfl, rfl⟩) (by assumption) ?_)
            (try simp only [Act.put, List.setIfInBounds_toArray, List.set_cons_zero, List.set_cons_succ])
            (refine wpAnyH_take (i := 14) (oi := ⟨some 56, _, _, _, _, _⟩) (v := _) rfl (by kernel_rfl) (by kernel_rfl) (by kernel_rfl) (fun _ _ _ h => h) (Or.inr ⟨by rfl, rfl⟩) (by assumption) ?_)
            (try simp only [Act.put, List.setIfInBounds_toArray, List.set_cons_zero, List.set_cons_succ])
            (refine wpAnyH_take (i := 15) (oi := ⟨some 57, _, _, _, _, _⟩) (v := _) rfl (by kernel_rfl) (by kernel_rfl) (by kernel_rfl) (fun _ _ _ h => h) (Or.inr ⟨by rfl, rfl⟩) (by assumption) ?_)
            (try simp only [Act.put, List.setIfInBounds_toArray, List.set_cons_zero, List.set_cons_succ])
            (refine wpAnyH_take (i := 16) (oi := ⟨some 58, _, _, _, _, _⟩) (v := ?v16_z016) rfl (by kernel_rfl) (by kernel_rfl) (by kernel_rfl) (fun _ _ _ h => h) (Or.inl ⟨by rfl, ?hy16_z016⟩) (by assumption) ?rest16_z016; (case hy16_z016 => ((intro w hSw); (try dsimp only at hSw); go_simp; first | done | (with_reducible rfl))))
            (try simp only [Act.put, List.setIfInBounds_toArray, List.set_cons_zero, List.set_cons_succ])
            (refine wpAnyH_take (i := 17) (oi := ⟨some 59, _, _, _, _, _⟩) (v := .bool true) rfl (by kernel_rfl) (by kernel_rfl) (by kernel_rfl) (fun _ _ _ h => h) (Or.inl ⟨by rfl, ?hy17_z017⟩) (by assumption) ?rest17_z017; (case hy17_z017 => ((intro w hSw); (try dsimp only at hSw); go_simp; first | done | (with_reducible rfl))))
            (try simp only [Act.put, List.setIfInBounds_toArray, List.set_cons_zero, List.set_cons_succ])
            (refine wpAnyH_take (i := 18) (oi := ⟨some 60, _, _, _, _, _⟩) (v := _) rfl (by kernel_rfl) (by kernel_rfl) (by kernel_rfl) (fun _ _ _ h => h) (Or.inr ⟨by rfl, rfl⟩) (by assumption) ?_)
            (try simp only [Act.put, List.setIfInBounds_toArray, List.set_cons_zero, List.set_cons_succ])
            (refine wpAnyH_take (i := 19) (oi := ⟨some 61, _, _, _, _, _⟩) (v := _) rfl (by kernel_rfl) (by kernel_rfl) (by kernel_rfl) (fun _ _ _ h => h) (Or.inr ⟨by rfl, rfl⟩) (by assumption) ?_)
            (try simp only [Act.put, List.setIfInBounds_toArray, List.set_cons_zero, List.set_cons_succ])
            (refine wpAnyH_take (i := 20) (oi := ⟨some 62, _, _, _, _, _⟩) (v := _) rfl (by kernel_rfl) (by kernel_rfl) (by kernel_rfl) (fun _ _ _ h => h) (Or.inr ⟨by rfl, rfl⟩) (by assumption) ?_)
            (try simp only [Act.put, List.setIfInBounds_toArray, List.set_cons_zero, List.set_cons_succ])
            (refine wpAnyH_take (i := 21) (oi := ⟨some 63, _, _, _, _, _⟩) (v := _) rfl (by kernel_rfl) (by kernel_rfl) (by kernel_rfl) (fun _ _ _ h => h) (Or.inr ⟨by rfl, rfl⟩) (by assumption) ?_)
            (try simp only [Act.put, List.setIfInBounds_toArray, List.set_cons_zero, List.set_cons_succ])
            (refine wpAnyH_take (i := 22) (oi := ⟨some 64, _, _, _, _, _⟩) (v := _) rfl (by kernel_rfl) (by kernel_rfl) (by kernel_rfl) (fun _ _ _ h => h) (Or.inr ⟨by rfl, rfl⟩) (by assumption) ?_)
            (try simp only [Act.put, List.setIfInBounds_toArray, List.set_cons_zero, List.set_cons_succ])
            (refine wpAnyH_take (i := 23) (oi := ⟨some 65, _, _, _, _, _⟩) (v := ?v23_z023) rfl (by kernel_rfl) (by kernel_rfl) (by kernel_rfl) (fun _ _ _ h => h) (Or.inl ⟨by rfl, ?hy23_z023⟩) (by assumption) ?rest23_z023; (case hy23_z023 => ((intro w hSw); (try dsimp only at hSw); go_simp; first | done | (with_reducible rfl))))
            (try simp only [Act.put, List.setIfInBounds_toArray, List.set_cons_zero, List.set_cons_succ])
            (refine wpAnyH_take (i := 24) (oi := ⟨some 66, _, _, _, _, _⟩) (v := .bool true) rfl (by kernel_rfl) (by kernel_rfl) (by kernel_rfl) (fun _ _ _ h => h) (Or.inl ⟨by rfl, ?hy24_z024⟩) (by assumption) ?rest24_z024; (case hy24_z024 => ((intro w hSw); (try dsimp only at hSw); go_simp; first | done | (with_reducible rfl))))
            (try simp only [Act.put, List.setIfInBounds_toArray, List.set_cons_zero, List.set_cons_succ])
            (refine wpAnyH_take (i := 25) (oi := ⟨some 67, _, _, _, _, _⟩) (v := _) rfl (by kernel_rfl) (by kernel_rfl) (by kernel_rfl) (fun _ _ _ h => h) (Or.inr ⟨by rfl, rfl⟩) (by assumption) ?_)
            (try simp only [Act.put, List.setIfInBounds_toArray, List.set_cons_zero, List.set_cons_succ])
            (refine wpAnyH_take (i := 26) (oi := ⟨some 68, _, _, _, _, _⟩) (v := _) rfl (by kernel_rfl) (by kernel_rfl) (by kernel_rfl) (fun _ _ _ h => h) (Or.inr ⟨by rfl, rfl⟩) (by assumption) ?_)
            (try simp only [Act.put, List.setIfInBounds_toArray, List.set_cons_zero, List.set_cons_succ])
            (refine wpAnyH_take (i := 27) (oi := ⟨some 69, _, _, _, _, _⟩) (v := _) rfl (by kernel_rfl) (by kernel_rfl) (by kernel_rfl) (fun _ _ _ h => h) (Or.inr ⟨by rfl, rfl⟩) (by assumption) ?_)
            (try simp only [Act.put, List.setIfInBounds_toArray, List.set_cons_zero, List.set_cons_succ])
            (refine wpAnyH_take (i := 28) (oi := ⟨some 70, _, _, _, _, _⟩) (v := _) rfl (by kernel_rfl) (by kernel_rfl) (by kernel_rfl) (fun _ _ _ h => h) (Or.inr ⟨by rfl, rfl⟩) (by assumption) ?_)
            (try simp only [Act.put, List.setIfInBounds_toArray, List.set_cons_zero, List.set_cons_succ])
            (refine wpAnyH_take (i := 29) (oi := ⟨some 71, _, _, _, _, _⟩) (v := _) rfl (by kernel_rfl) (by kernel_rfl) (by kernel_rfl) (fun _ _ _ h => h) (Or.inr ⟨by rfl, rfl⟩) (by assumption) ?_)
            (try simp only [Act.put, List.setIfInBounds_toArray, List.set_cons_zero, List.set_cons_succ])
            (refine wpAnyH_take (i := 30) (oi := ⟨some 72, _, _, _, _, _⟩) (v := _) rfl (by kernel_rfl) (by kernel_rfl) (by kernel_rfl) (fun _ _ _ h => h) (Or.inr ⟨by rfl, rfl⟩) (by assumption) ?_)
            (try simp only [Act.put, List.setIfInBounds_toArray, List.set_cons_zero, List.set_cons_succ])
            (refine wpAnyH_take (i := 31) (oi := ⟨some 73, _, _, _, _, _⟩) (v := _) rfl (by kernel_rfl) (by kernel_rfl) (by kernel_rfl) (fun _ _ _ h => h) (Or.inr ⟨by rfl, rfl⟩) (by assumption) ?_)
            (try simp only [Act.put, List.setIfInBounds_toArray, List.set_cons_zero, List.set_cons_succ])
            (refine wpAnyH_take (i := 32) (oi := ⟨some 74, _, _, _, _, _⟩) (v := _) rfl (by kernel_rfl) (by kernel_rfl) (by kernel_rfl) (fun _ _ _ h => h) (Or.inr ⟨by rfl, rfl⟩) (by assumption) ?_)
            (try simp only [Act.put, List.setIfInBounds_toArray, List.set_cons_zero, List.set_cons_succ])
            (refine wpAnyH_take (i := 33) (oi := ⟨some 75, _, _, _, _, _⟩) (v := _) rfl (by kernel_rfl) (by kernel_rfl) (by kernel_rfl) (fun _ _ _ h => h) (Or.inr ⟨by rfl, rfl⟩) (by assumption) ?_)
            (try simp only [Act.put, List.setIfInBounds_toArray, List.set_cons_zero, List.set_cons_succ])
            (refine wpAnyH_take (i := 34) (oi := ⟨some 76, _, _, _, _, _⟩) (v := _) rfl (by kernel_rfl) (by kernel_rfl) (by kernel_rfl) (fun _ _ _ h => h) (Or.inr ⟨by rfl, rfl⟩) (by assumption) ?_)
            (try simp only [Act.put, List.setIfInBounds_toArray, List.set_cons_zero, List.set_cons_succ])
            (refine wpAnyH_take (i := 35) (oi := ⟨some 77, _, _, _, _, _⟩) (v := _) rfl (by kernel_rfl) (by kernel_rfl) (by kernel_rfl) (fun _ _ _ h => h) (Or.inr ⟨by rfl, rfl⟩) (by assumption) ?_)
            (try simp only [Act.put, List.setIfInBounds_toArray, List.set_cons_zero, List.set_cons_succ])
            (refine wpAnyH_take (i := 36) (oi := ⟨some 78, _, _, _, _, _⟩) (v := ?v36_z036) rfl (by kernel_rfl) (by kernel_rfl) (by kernel_rfl) (fun _ _ _ h => h) (Or.inl ⟨by rfl, ?hy36_z036⟩) (by assumption) ?rest36_z036; (case hy36_z036 => ((intro w hSw); (try dsimp only at hSw); go_simp; first | done | (with_reducible rfl))))
            (try simp only [Act.put, List.setIfInBounds_toArray, List.set_cons_zero, List.set_cons_succ])
            refine wpAnyH_done (by kernel_rfl) ?_ _
            go_wp2
            go_meet
            exact ⟨rfl, B_m1⟩
          case rest =>
            obtain ⟨rfl, HF⟩ := hcut
            clear KS
            go_wp2
            exact ⟨⟨k + 1, by omega, by go_num, hB.trans ((FRb.out _ HF.out).mono hBs)⟩, by simp [intOf]; omega⟩
        | true =>
          rw [ta] at KMA
          cases tb : tnb sb db with
          | false =>
            as_aux_lemma =>
            rw [tb] at KMB
            clear ta tb
            have KS : Hid (∀ W, FR W → W.cell? ⟨w1.heap.size, 0, none⟩ = some (.slice oA sa.length cA) ∧ W.cell? ⟨w1.heap.size, 1, none⟩ = some (.slice oX da.length cX) ∧ W.cell? ⟨w1.heap.size, 2, none⟩ = some (.slice oB sb.length cB) ∧ W.cell? ⟨w1.heap.size, 3, none⟩ = some (.slice oY db.length cY)) := Lib.hid (fun W h => ⟨(FRk.out _ h).1, (FRk.out _ h).2.1, (FRk.out _ h).2.2.1, (FRk.out _ h).2.2.2.1⟩)
            go_upto_region 7 with (go_at_call 11; (with_reducible refine (LG.out _ (K0.out _)).mono ?_); rintro e w2 ⟨rfl, hb2⟩; have F2 := Lib.hid (FRs.out _ hb2); obtain ⟨x0, x1, x2, x3, x4⟩ := FRk.out _ F2.out; clear hb2)
            clear x0 x1 x2 x3 x4
            go_cut [78] (fun s78 wx => s78 = .bool true ∧ Hid (FR wx))
            case first =>
              as_aux_lemma =>
              have B_0 : Hid (FR w2.drew) := Lib.hid (FRn.out _ _ F2.out (below_drw (Below.refl _ _) 1))
              refine wp_region_held_drew (S := fun W => W.cell? ⟨w1.heap.size, 0, none⟩ = some (.slice oA sa.length cA) ∧ W.cell? ⟨w1.heap.size, 1, none⟩ = some (.slice oX da.length cX) ∧ W.cell? ⟨w1.heap.size, 2, none⟩ = some (.slice oB sb.length cB) ∧ W.cell? ⟨w1.heap.size, 3, none⟩ = some (.slice oY db.length cY)) (by kernel_rfl) ?_ (fun hHeld => ?_)
              · exact KS.out _ B_0.out
              have hHd := hHeld
              generalize w2.drew = w_0 at *
              (refine wpAnyH_take (i := 0) (oi := ⟨some 42, _, _, _, _, _⟩) (v := ?v0_z11) rfl (by kernel_rfl) (by kernel_rfl) (by kernel_rfl) (fun _ _ _ h => h) (Or.inl ⟨by rfl, ?hy0_z11⟩) (by assumption) ?rest0_z11; (case hy0_z11 => ((intro w hSw); (try dsimp only at hSw); go_simp; first | done | (with_reducible rfl))))
              (try simp only [Act.put, List.setIfInBounds_toArray, List.set_cons_zero, List.set_cons_succ])
              (refine wpAnyH_take (i := 1) (oi := ⟨some 43, _, _, _, _, _⟩) (v := ?v1_z12) rfl (by kernel_rfl) (by kernel_rfl) (by kernel_rfl) (fun _ _ _ h => h) (Or.inl ⟨by rfl, ?hy1_z12⟩) (by assumption) ?rest1_z12; (case hy1_z12 => ((intro w hSw); (try dsimp only at hSw); go_simp; first | done | (with_reducible rfl))))
              (try simp only [Act.put, List.setIfInBounds_toArray, List.set_cons_zero, List.set_cons_succ])
              refine wpAnyH_ready (rs := [2]) (by kernel_rfl) (by simp) ?_
              refine AllReadyH.cons (o := ⟨some 44, _, _, _, _, _⟩) rfl (fun K hK => ?_) (AllReadyH.nil)
              go_simp
              (go_at_call 12; (with_reducible refine (KMA.out _ (FRb.out _ B_0.out)).mono ?_); rintro e w_m1 ⟨rfl, hb⟩; have B_m1 := Lib.hid (FRn.out _ _ B_0.out hb); clear hb)
              refine hK.out _ _ ?_ (fun hHeld => ?_)
              · (try dsimp only)
                exact KS.out _ B_m1.out
              clear hK K
              (try simp only [Act.put, List.setIfInBounds_toArray, List.set_cons_zero, List.set_cons_succ])
              (refine wpAnyH_take (i := 3) (oi := ⟨some 45, _, _, _, _, _⟩) (v := ?v3_z13) rfl (by kernel_rfl) (by kernel_rfl) (by kernel_rfl) (fun _ _ _ h => h) (Or.inl ⟨by rfl, ?hy3_z13⟩) (by assumption) ?rest3_z13; (case hy3_z13 => ((intro w hSw); (try dsimp only at hSw); go_simp; first | done | (with_reducible rfl))))
              (try simp only [Act.put, List.setIfInBounds_toArray, List.set_cons_zero, List.set_cons_succ])
              (refine wpAnyH_take (i := 4) (oi := ⟨some 46, _, _, _, _, _⟩) (v := .bool false) rfl (by kernel_rfl) (by kernel_rfl) (by kernel_rfl) (fun _ _ _ h => h) (Or.inl ⟨by rfl, ?hy4_z14⟩) (by assumption) ?rest4_z14; (case hy4_z14 => ((intro w hSw); (try dsimp only at hSw); go_simp; first | done | (with_reducible rfl))))
              (try simp only [Act.put, List.setIfInBounds_toArray, List.set_cons_zero, List.set_cons_succ])
              (refine wpAnyH_take (i := 5) (oi := ⟨some 47, _, _, _, _, _⟩) (v := ?v5_z15) rfl (by kernel_rfl) (by kernel_rfl) (by kernel_rfl) (fun _ _ _ h => h) (Or.inl ⟨by rfl, ?hy5_z15⟩) (by assumption) ?rest5_z15; (case hy5_z15 => ((intro w hSw); (try dsimp only at hSw); go_simp; first | done | (with_reducible rfl))))
              (try simp only [Act.put, List.setIfInBounds_toArray, List.set_cons_zero, List.set_cons_succ])
              (refine wpAnyH_take (i := 6) (oi := ⟨some 48, _, _, _, _, _⟩) (v := ?v6_z16) rfl (by kernel_rfl) (by kernel_rfl) (by kernel_rfl) (fun _ _ _ h => h) (Or.inl ⟨by rfl, ?hy6_z16⟩) (by assumption) ?rest6_z16; (case hy6_z16 => ((intro w hSw); (try dsimp only at hSw); go_simp; first | done | (with_reducible rfl))))
              (try simp only [Act.put, List.setIfInBounds_toArray, List.set_cons_zero, List.set_cons_succ])
              refine wpAnyH_ready (rs := [7]) (by kernel_rfl) (by simp) ?_
              refine AllReadyH.cons (o := ⟨some 49, _, _, _, _, _⟩) rfl (fun K hK => ?_) (AllReadyH.nil)
              go_simp
              (go_at_call 12; (with_reducible refine (KMB.out _ (FRb.out _ B_m1.out)).mono ?_); rintro e w_m2 ⟨rfl, hb⟩; have B_m2 := Lib.hid (FRn.out _ _ B_m1.out hb); clear hb)
              refine hK.out _ _ ?_ (fun hHeld => ?_)
              · (try dsimp only)
                exact KS.out _ B_m2.out
              clear hK K
              (try simp only [Act.put, List.setIfInBounds_toArray, List.set_cons_zero, List.set_cons_succ])
              (refine wpAnyH_take (i := 8) (oi := ⟨some 50, _, _, _, _, _⟩) (v := ?v8_z17) rfl (by kernel_rfl) (by kernel_rfl) (by kernel_rfl) (fun _ _ _ h => h) (Or.inl ⟨by rfl, ?hy8_z17⟩) (by assumption) ?rest8_z17; (case hy8_z17 => ((intro w hSw); (try dsimp only at hSw); go_simp; first | done | (with_reducible rfl))))
              (try simp only [Act.put, List.setIfInBounds_toArray, List.set_cons_zero, List.set_cons_succ])
              (refine wpAnyH_take (i := 9) (oi := ⟨some 51, _, _, _, _, _⟩) (v := ?v9_z18) rfl (by kernel_rfl) (by kernel_rfl) (by kernel_rfl) (fun _ _ _ h => h) (Or.inl ⟨by rfl, ?hy9_z18⟩) (by assumption) ?rest9_z18; (case hy9_z18 => ((intro w hSw); (try dsimp only at hSw); go_simp; first | done | (with_reducible rfl))))
              (try simp only [Act.put, List.setIfInBounds_toArray, List.set_cons_zero, List.set_cons_succ])
              (refine wpAnyH_take (i := 10) (oi := ⟨some 52, _, _, _, _, _⟩) (v := .bool true) rfl (by kernel_rfl) (by kernel_rfl) (by kernel_rfl) (fun _ _ _ h => h) (Or.inl ⟨by rfl, ?hy10_z19⟩) (by assumption) ?rest10_z19; (case hy10_z19 => ((intro w hSw); (try dsimp only at hSw); go_simp; first | done | (with_reducible rfl))))
              (try simp only [Act.put, List.setIfInBounds_toArray, List.set_cons_zero, List.set_cons_succ])
              (refine wpAnyH_take (i := 11) (oi := ⟨some 53, _, _, _, _, _⟩) (v := _) rfl (by kernel_rfl) (by kernel_rfl) (by kernel_rfl) (fun _ _ _ h => h) (Or.inr ⟨by rfl, rfl⟩) (by assumption) ?_)
              (try simp only [Act.put, List.setIfInBounds_toArray, List.set_cons_zero, List.set_cons_succ])
              (refine wpAnyH_take (i := 12) (oi := ⟨some 54, _, _, _, _, _⟩) (v := _) rfl (by kernel_rfl) (by kernel_rfl) (by kernel_rfl) (fun _ _ _ h => h) (Or.inr ⟨by rfl, rfl⟩) (by assumption) ?_)
              (try simp only [Act.put, List.setIfInBounds_toArray, List.set_cons_zero, List.set_cons_succ])
              (refine wpAnyH_take (i := 13) (oi := ⟨some 55, _, _, _, _, _⟩) (v := _) rfl (by kernel_rfl) (by kernel_rfl) (by kernel_rfl) (fun _ _ _ h => h) (Or.inr ⟨by rfl, rfl⟩) (by assumption) ?_)
              (try simp only [Act.put, List.setIfInBounds_toArray, List.set_cons_zero, List.set_cons_succ])
              (refine wpAnyH_take (i := 14) (oi := ⟨some 56, _, _, _, _, _⟩) (v := _) rfl (by kernel_rfl) (by kernel_rfl) (by kernel_rfl) (fun _ _ _ h => h) (Or.inr ⟨by rfl, rfl⟩) (by assumption) ?_)
              (try simp only [Act.put, List.setIfInBounds_toArray, List.set_cons_zero, List.set_cons_succ])
              (refine wpAnyH_take (i := 15) (oi := ⟨some 57, _, _, _, _, _⟩) (v := _) rfl (by kernel_rfl) (by kernel_rfl) (by kernel_rfl) (fun _ _ _ h => h) (Or.inr ⟨by rfl, rfl⟩) (by assumption) ?_)
              (try simp only [Act.put, List.setIfInBounds_toArray, List.set_cons_zero, List.set_cons_succ])
              (refine wpAnyH_take (i := 16) (oi := ⟨some 58, _, _, _, _, _⟩) (v := ?v16_z115) rfl (by kernel_rfl) (by kernel_rfl) (by kernel_rfl) (fun _ _ _ h => h) (Or.inl ⟨by rfl, ?hy16_z115⟩) (by assumption) ?rest16_z115; (case hy16_z115 => ((intro w hSw); (try dsimp only at hSw); go_simp; first | done | (with_reducible rfl))))
              (try simp only [Act.put, List.setIfInBounds_toArray, List.set_cons_zero, List.set_cons_succ])
              (refine wpAnyH_take (i := 17) (oi := ⟨some 59, _, _, _, _, _⟩) (v := .bool true) rfl (by kernel_rfl) (by kernel_rfl) (by kernel_rfl) (fun _ _ _ h => h) (Or.inl ⟨by rfl, ?hy17_z116⟩) (by assumption) ?rest17_z116; (case hy17_z116 => ((intro w hSw); (try dsimp only at hSw); go_simp; first | done | (with_reducible rfl))))
              (try simp only [Act.put, List.setIfInBounds_toArray, List.set_cons_zero, List.set_cons_succ])
              (refine wpAnyH_take (i := 18) (oi := ⟨some 60, _, _, _, _, _⟩) (v := _) rfl (by kernel_rfl) (by kernel_rfl) (by kernel_rfl) (fun _ _ _ h => h) (Or.inr ⟨by rfl, rfl⟩) (by assumption) ?_)
              (try simp only [Act.put, List.setIfInBounds_toArray, List.set_cons_zero, List.set_cons_succ])
              (refine wpAnyH_take (i := 19) (oi := ⟨some 61, _, _, _, _, _⟩) (v := _) rfl (by kernel_rfl) (by kernel_rfl) (by kernel_rfl) (fun _ _ _ h => h) (Or.inr ⟨by rfl, rfl⟩) (by assumption) ?_)
              (try simp only [Act.put, List.setIfInBounds_toArray, List.set_cons_zero, List.set_cons_succ])
              (refine wpAnyH_take (i := 20) (oi := ⟨some 62, _, _, _, _, _⟩) (v := _) rfl (by kernel_rfl) (by kernel_rfl) (by kernel_rfl) (fun _ _ _ h => h) (Or.inr ⟨by rfl, rfl⟩) (by assumption) ?_)
              (try simp only [Act.put, List.setIfInBounds_toArray, List.set_cons_zero, List.set_cons_succ])
              (refine wpAnyH_take (i := 21) (oi := ⟨some 63, _, _, _, _, _⟩) (v := _) rfl (by kernel_rfl) (by kernel_rfl) (by kernel_rfl) (fun _ _ _ h => h) (Or.inr ⟨by rfl, rfl⟩) (by assumption) ?_)
              (try simp only [Act.put, List.setIfInBounds_toArray, List.set_cons_zero, List.set_cons_succ])
              (refine wpAnyH_take (i := 22) (oi := ⟨some 64, _, _, _, _, _⟩) (v := _) rfl (by kernel_rfl) (by kernel_rfl) (by kernel_rfl) (fun _ _ _ h => h) (Or.inr ⟨by rfl, rfl⟩) (by assumption) ?_)
              (try simp only [Act.put, List.setIfInBounds_toArray, List.set_cons_zero, List.set_cons_succ])
              (refine wpAnyH_take (i := 23) (oi := ⟨some 65, _, _, _, _, _⟩) (v := ?v23_z122) rfl (by kernel_rfl) (by kernel_rfl) (by kernel_rfl) (fun _ _ _ h => h) (Or.inl ⟨by rfl, ?hy23_z122⟩) (by assumption) ?rest23_z122; (case hy23_z122 => ((intro w hSw); (try dsimp only at hSw); go_simp; first | done | (with_reducible rfl))))
              (try simp only [Act.put, List.setIfInBounds_toArray, List.set_cons_zero, List.set_cons_succ])
              (refine wpAnyH_take (i := 24) (oi := ⟨some 66, _, _, _, _, _⟩) (v := .bool true) rfl (by kernel_rfl) (by kernel_rfl) (by kernel_rfl) (fun _ _ _ h => h) (Or.inl ⟨by rfl, ?hy24_z123⟩) (by assumption) ?rest24_z123; (case hy24_z123 => ((intro w hSw); (try dsimp only at hSw); go_simp; first | done | (with_reducible rfl))))
              (try simp only [Act.put, List.setIfInBounds_toArray, List.set_cons_zero, List.set_cons_succ])
              (refine wpAnyH_take (i := 25) (oi := ⟨some 67, _, _, _, _, _⟩) (v := _) rfl (by kernel_rfl) (by kernel_rfl) (by kernel_rfl) (fun _ _ _ h => h) (Or.inr ⟨by rfl, rfl⟩) (by assumption) ?_)
              (try simp only [Act.put, List.setIfInBounds_toArray, List.set_cons_zero, List.set_cons_succ])
              (refine wpAnyH_take (i := 26) (oi := ⟨some 68, _, _, _, _, _⟩) (v := _) rfl (by kernel_rfl) (by kernel_rfl) (by kernel_rfl) (fun _ _ _ h => h) (Or.inr ⟨by rfl, rfl⟩) (by assumption) ?_)
              (try simp only [Act.put, List.setIfInBounds_toArray, List.set_cons_zero, List.set_cons_succ])
              (refine wpAnyH_take (i := 27) (oi := ⟨some 69, _, _, _, _, _⟩) (v := _) rfl (by kernel_rfl) (by kernel_rfl) (by kernel_rfl) (fun _ _ _ h => h) (Or.inr ⟨by rfl, rfl⟩) (by assumption) ?_)
              (try simp only [Act.put, List.setIfInBounds_toArray, List.set_cons_zero, List.set_cons_succ])
              (refine wpAnyH_take (i := 28) (oi := ⟨some 70, _, _, _, _, _⟩) (v := _) rfl (by kernel_rfl) (by kernel_rfl) (by kernel_rfl) (fun _ _ _ h => h) (Or.inr ⟨by rfl, rfl⟩) (by assumption) ?_)
              (try simp only [Act.put, List.setIfInBounds_toArray, List.set_cons_zero, List.set_cons_succ])
              (refine wpAnyH_take (i := 29) (oi := ⟨some 71, _, _, _, _, _⟩) (v := _) rfl (by kernel_rfl) (by kernel_rfl) (by kernel_rfl) (fun _ _ _ h => h) (Or.inr ⟨by rfl, rfl⟩) (by assumption) ?_)
              (try simp only [Act.put, List.setIfInBounds_toArray, List.set_cons_zero, List.set_cons_succ])
              (refine wpAnyH_take (i := 30) (oi := ⟨some 72, _, _, _, _, _⟩) (v := _) rfl (by kernel_rfl) (by kernel_rfl) (by kernel_rfl) (fun _ _ _ h => h) (Or.inr ⟨by rfl, rfl⟩) (by assumption) ?_)
              (try simp only [Act.put, List.setIfInBounds_toArray, List.set_cons_zero, List.set_cons_succ])
              (refine wpAnyH_take (i := 31) (oi := ⟨some 73, _, _, _, _, _⟩) (v := _) rfl (by kernel_rfl) (by kernel_rfl) (by kernel_rfl) (fun _ _ _ h => h) (Or.inr ⟨by rfl, rfl⟩) (by assumption) ?_)
              (try simp only [Act.put, List.setIfInBounds_toArray, List.set_cons_zero, List.set_cons_succ])
              (refine wpAnyH_take (i := 32) (oi := ⟨some 74, _, _, _, _, _⟩) (v := _) rfl (by kernel_rfl) (by kernel_rfl) (by kernel_rfl) (fun _ _ _ h => h) (Or.inr ⟨by rfl, rfl⟩) (by assumption) ?_)
              (try simp only [Act.put, List.setIfInBounds_toArray, List.set_cons_zero, List.set_cons_succ])
              (refine wpAnyH_take (i := 33) (oi := ⟨some 75, _, _, _, _, _⟩) (v := _) rfl (by kernel_rfl) (by kernel_rfl) (by kernel_rfl) (fun _ _ _ h => h) (Or.inr ⟨by rfl, rfl⟩) (by assumption) ?_)
              (try simp only [Act.put, List.setIfInBounds_toArray, List.set_cons_zero, List.set_cons_succ])
              (refine wpAnyH_take (i := 34) (oi := ⟨some 76, _, _, _, _, _⟩) (v := _) rfl (by kernel_rfl) (by kernel_rfl) (by kernel_rfl) (fun _ _ _ h => h) (Or.inr ⟨by rfl, rfl⟩) (by assumption) ?_)
              (try simp only [Act.put, List.setIfInBounds_toArray, List.set_cons_zero, List.set_cons_succ])
              (refine wpAnyH_take (i := 35) (oi := ⟨some 77, _, _, _, _, _⟩) (v := _) rfl (by kernel_rfl) (by kernel_rfl) (by kernel_rfl) (fun _ _ _ h => h) (Or.inr ⟨by rfl, rfl⟩) (by assumption) ?_)
              (try simp only [Act.put, List.setIfInBounds_toArray, List.set_cons_zero, List.set_cons_succ])
              (refine wpAnyH_take (i := 36) (oi := ⟨some 78, _, _, _, _, _⟩) (v := ?v36_z135) rfl (by kernel_rfl) (by kernel_rfl) (by kernel_rfl) (fun _ _ _ h => h) (Or.inl ⟨by rfl, ?hy36_z135⟩) (by assumption) ?rest36_z135; (case hy36_z135 => ((intro w hSw); (try dsimp only at hSw); go_simp; first | done | (with_reducible rfl))))
              (try simp only [Act.put, List.setIfInBounds_toArray, List.set_cons_zero, List.set_cons_succ])
              refine wpAnyH_done (by kernel_rfl) ?_ _
              go_wp2
              go_meet
              exact ⟨rfl, B_m2⟩
            case rest =>
              obtain ⟨rfl, HF⟩ := hcut
              clear KS
              go_wp2
              exact ⟨⟨k + 1, by omega, by go_num, hB.trans ((FRb.out _ HF.out).mono hBs)⟩, by simp [intOf]; omega⟩
          | true =>
            rw [tb] at KMB
            by_cases hr : sa.length = 2
            · by_cases hz : sb.length = 2
              · skip
                obtain ⟨r, n, hrn⟩ := two_of hr (tnb_parts ta).1
                obtain ⟨x, c, hxc⟩ := two_of hz (tnb_parts tb).1
                have hz1 : ((sa.length : Int) != 2) = false := by simp [hr]
                have hz2 : ((sb.length : Int) != 2) = false := by simp [hz]
                have hz3 : (1 : Int) < (sa.length : Int) := by omega
                have hz4 : (0 : Int) < (sb.length : Int) := by omega
                have hz5 : 1 < sa.length := by omega
                have hz6 : 0 < sb.length := by omega
                obtain ⟨gA, fA, hoA, _⟩ := ld_at HL.out.1 (k := 0) (by omega)
                subst hoA
                obtain ⟨gB, fB, hoB, _⟩ := ld_at HL.out.2.2.1 (k := 0) (by omega)
                subst hoB
                have HSA : Hid (∀ W, FR W → W.cell? ⟨gA, fA + 1, none⟩ = some (.int .i64 (n : Int)) ∧ W.cell? ⟨gB, fB, none⟩ = some (.int .i64 (x : Int))) := Lib.hid (fun W h => by
                  have h0 := ld_cell (HL.out.1.below (FRb.out _ h)) (k := 1) (by omega)
                  have h1 := ld_cell (HL.out.2.2.1.below (FRb.out _ h)) (k := 0) (by omega)
                  have e0 : sa.getD 1 0 = (n : Int) := by rw [hrn]; rfl
                  have e1 : sb.getD 0 0 = (x : Int) := by rw [hxc]; rfl
                  rw [e0] at h0
                  rw [e1, Nat.add_zero] at h1
                  exact ⟨h0, h1⟩)
                by_cases hnx : n = x
                · subst hnx
                  have hz7 : ((n : Int) != (n : Int)) = false := by simp
                  have h1 : 1 ≤ r ∧ 1 ≤ n ∧ 1 ≤ c := by
                    have h0 := (tnb_parts ta).1
                    have h2 := (tnb_parts tb).1
                    rw [hrn] at h0
                    rw [hxc] at h2
                    have h3 : 1 ≤ (r : Int) := (may_dim h0 (i := 0) (by simp)).1
                    have h4 : 1 ≤ (n : Int) := (may_dim h0 (i := 1) (by simp)).1
                    have h5 : 1 ≤ (c : Int) := (may_dim h2 (i := 1) (by simp)).1
                    omega
                  have HRN := Lib.hid (And.intro hrn hxc)
                  have HTT := Lib.hid (And.intro ta tb)
                  have HH1 := Lib.hid h1
                  clear hrn hxc ta tb h1 hr hz
                  have KS : Hid (∀ W, FR W → W.cell? ⟨w1.heap.size, 0, none⟩ = some (.slice (some ⟨gA, fA, none⟩) sa.length cA) ∧ W.cell? ⟨w1.heap.size, 1, none⟩ = some (.slice oX da.length cX) ∧ W.cell? ⟨w1.heap.size, 2, none⟩ = some (.slice (some ⟨gB, fB, none⟩) sb.length cB) ∧ W.cell? ⟨w1.heap.size, 3, none⟩ = some (.slice oY db.length cY) ∧ W.cell? ⟨gA, fA + 1, none⟩ = some (.int .i64 (n : Int)) ∧ W.cell? ⟨gB, fB, none⟩ = some (.int .i64 (n : Int))) := Lib.hid (fun W h => ⟨(FRk.out _ h).1, (FRk.out _ h).2.1, (FRk.out _ h).2.2.1, (FRk.out _ h).2.2.2.1, (HSA.out _ h).1, (HSA.out _ h).2⟩)
                  go_upto_region 7 with (go_at_call 11; (with_reducible refine (LG.out _ (K0.out _)).mono ?_); rintro e w2 ⟨rfl, hb2⟩; have F2 := Lib.hid (FRs.out _ hb2); obtain ⟨x0, x1, x2, x3, x4⟩ := FRk.out _ F2.out; clear hb2)
                  clear x0 x1 x2 x3 x4
                  go_cut [78] (fun s78 wx => s78 = .bool false ∧ Hid (FR wx))
                  case first =>
                    as_aux_lemma =>
                    have B_0 : Hid (FR w2.drew) := Lib.hid (FRn.out _ _ F2.out (below_drw (Below.refl _ _) 1))
                    refine wp_region_held_drew (S := fun W => W.cell? ⟨w1.heap.size, 0, none⟩ = some (.slice (some ⟨gA, fA, none⟩) sa.length cA) ∧ W.cell? ⟨w1.heap.size, 1, none⟩ = some (.slice oX da.length cX) ∧ W.cell? ⟨w1.heap.size, 2, none⟩ = some (.slice (some ⟨gB, fB, none⟩) sb.length cB) ∧ W.cell? ⟨w1.heap.size, 3, none⟩ = some (.slice oY db.length cY) ∧ W.cell? ⟨gA, fA + 1, none⟩ = some (.int .i64 (n : Int)) ∧ W.cell? ⟨gB, fB, none⟩ = some (.int .i64 (n : Int))) (by kernel_rfl) ?_ (fun hHeld => ?_)
                    · exact KS.out _ B_0.out
                    have hHd := hHeld
                    generalize w2.drew = w_0 at *
                    (refine wpAnyH_take (i := 0) (oi := ⟨some 42, _, _, _, _, _⟩) (v := ?v0_z41) rfl (by kernel_rfl) (by kernel_rfl) (by kernel_rfl) (fun _ _ _ h => h) (Or.inl ⟨by rfl, ?hy0_z41⟩) (by assumption) ?rest0_z41; (case hy0_z41 => ((intro w hSw); (try dsimp only at hSw); go_simp; first | done | (with_reducible rfl))))
                    (try simp only [Act.put, List.setIfInBounds_toArray, List.set_cons_zero, List.set_cons_succ])
                    (refine wpAnyH_take (i := 1) (oi := ⟨some 43, _, _, _, _, _⟩) (v := ?v1_z42) rfl (by kernel_rfl) (by kernel_rfl) (by kernel_rfl) (fun _ _ _ h => h) (Or.inl ⟨by rfl, ?hy1_z42⟩) (by assumption) ?rest1_z42; (case hy1_z42 => ((intro w hSw); (try dsimp only at hSw); go_simp; first | done | (with_reducible rfl))))
                    (try simp only [Act.put, List.setIfInBounds_toArray, List.set_cons_zero, List.set_cons_succ])
                    refine wpAnyH_ready (rs := [2]) (by kernel_rfl) (by simp) ?_
                    refine AllReadyH.cons (o := ⟨some 44, _, _, _, _, _⟩) rfl (fun K hK => ?_) (AllReadyH.nil)
                    go_simp
                    (go_at_call 12; (with_reducible refine (KMA.out _ (FRb.out _ B_0.out)).mono ?_); rintro e w_m1 ⟨rfl, hb⟩; have B_m1 := Lib.hid (FRn.out _ _ B_0.out hb); clear hb)
                    refine hK.out _ _ ?_ (fun hHeld => ?_)
                    · (try dsimp only)
                      exact KS.out _ B_m1.out
                    clear hK K
                    (try simp only [Act.put, List.setIfInBounds_toArray, List.set_cons_zero, List.set_cons_succ])
                    (refine wpAnyH_take (i := 3) (oi := ⟨some 45, _, _, _, _, _⟩) (v := ?v3_z43) rfl (by kernel_rfl) (by kernel_rfl) (by kernel_rfl) (fun _ _ _ h => h) (Or.inl ⟨by rfl, ?hy3_z43⟩) (by assumption) ?rest3_z43; (case hy3_z43 => ((intro w hSw); (try dsimp only at hSw); go_simp; first | done | (with_reducible rfl))))
                    (try simp only [Act.put, List.setIfInBounds_toArray, List.set_cons_zero, List.set_cons_succ])
                    (refine wpAnyH_take (i := 4) (oi := ⟨some 46, _, _, _, _, _⟩) (v := .bool false) rfl (by kernel_rfl) (by kernel_rfl) (by kernel_rfl) (fun _ _ _ h => h) (Or.inl ⟨by rfl, ?hy4_z44⟩) (by assumption) ?rest4_z44; (case hy4_z44 => ((intro w hSw); (try dsimp only at hSw); go_simp; first | done | (with_reducible rfl))))
                    (try simp only [Act.put, List.setIfInBounds_toArray, List.set_cons_zero, List.set_cons_succ])
                    (refine wpAnyH_take (i := 5) (oi := ⟨some 47, _, _, _, _, _⟩) (v := ?v5_z45) rfl (by kernel_rfl) (by kernel_rfl) (by kernel_rfl) (fun _ _ _ h => h) (Or.inl ⟨by rfl, ?hy5_z45⟩) (by assumption) ?rest5_z45; (case hy5_z45 => ((intro w hSw); (try dsimp only at hSw); go_simp; first | done | (with_reducible rfl))))
                    (try simp only [Act.put, List.setIfInBounds_toArray, List.set_cons_zero, List.set_cons_succ])
                    (refine wpAnyH_take (i := 6) (oi := ⟨some 48, _, _, _, _, _⟩) (v := ?v6_z46) rfl (by kernel_rfl) (by kernel_rfl) (by kernel_rfl) (fun _ _ _ h => h) (Or.inl ⟨by rfl, ?hy6_z46⟩) (by assumption) ?rest6_z46; (case hy6_z46 => ((intro w hSw); (try dsimp only at hSw); go_simp; first | done | (with_reducible rfl))))
                    (try simp only [Act.put, List.setIfInBounds_toArray, List.set_cons_zero, List.set_cons_succ])
                    refine wpAnyH_ready (rs := [7]) (by kernel_rfl) (by simp) ?_
                    refine AllReadyH.cons (o := ⟨some 49, _, _, _, _, _⟩) rfl (fun K hK => ?_) (AllReadyH.nil)
                    go_simp
                    (go_at_call 12; (with_reducible refine (KMB.out _ (FRb.out _ B_m1.out)).mono ?_); rintro e w_m2 ⟨rfl, hb⟩; have B_m2 := Lib.hid (FRn.out _ _ B_m1.out hb); clear hb)
                    refine hK.out _ _ ?_ (fun hHeld => ?_)
                    · (try dsimp only)
                      exact KS.out _ B_m2.out
                    clear hK K
                    (try simp only [Act.put, List.setIfInBounds_toArray, List.set_cons_zero, List.set_cons_succ])
                    (refine wpAnyH_take (i := 8) (oi := ⟨some 50, _, _, _, _, _⟩) (v := ?v8_z47) rfl (by kernel_rfl) (by kernel_rfl) (by kernel_rfl) (fun _ _ _ h => h) (Or.inl ⟨by rfl, ?hy8_z47⟩) (by assumption) ?rest8_z47; (case hy8_z47 => ((intro w hSw); (try dsimp only at hSw); go_simp; first | done | (with_reducible rfl))))
                    (try simp only [Act.put, List.setIfInBounds_toArray, List.set_cons_zero, List.set_cons_succ])
                    (refine wpAnyH_take (i := 9) (oi := ⟨some 51, _, _, _, _, _⟩) (v := ?v9_z48) rfl (by kernel_rfl) (by kernel_rfl) (by kernel_rfl) (fun _ _ _ h => h) (Or.inl ⟨by rfl, ?hy9_z48⟩) (by assumption) ?rest9_z48; (case hy9_z48 => ((intro w hSw); (try dsimp only at hSw); go_simp; first | done | (with_reducible rfl))))
                    (try simp only [Act.put, List.setIfInBounds_toArray, List.set_cons_zero, List.set_cons_succ])
                    (refine wpAnyH_take (i := 10) (oi := ⟨some 52, _, _, _, _, _⟩) (v := .bool false) rfl (by kernel_rfl) (by kernel_rfl) (by kernel_rfl) (fun _ _ _ h => h) (Or.inl ⟨by rfl, ?hy10_z49⟩) (by assumption) ?rest10_z49; (case hy10_z49 => ((intro w hSw); (try dsimp only at hSw); go_simp; first | done | (with_reducible rfl))))
                    (try simp only [Act.put, List.setIfInBounds_toArray, List.set_cons_zero, List.set_cons_succ])
                    (refine wpAnyH_take (i := 11) (oi := ⟨some 53, _, _, _, _, _⟩) (v := ?v11_z410) rfl (by kernel_rfl) (by kernel_rfl) (by kernel_rfl) (fun _ _ _ h => h) (Or.inl ⟨by rfl, ?hy11_z410⟩) (by assumption) ?rest11_z410; (case hy11_z410 => ((intro w hSw); (try dsimp only at hSw); go_simp; first | done | (with_reducible rfl))))
                    (try simp only [Act.put, List.setIfInBounds_toArray, List.set_cons_zero, List.set_cons_succ])
                    (refine wpAnyH_take (i := 12) (oi := ⟨some 54, _, _, _, _, _⟩) (v := ?v12_z411) rfl (by kernel_rfl) (by kernel_rfl) (by kernel_rfl) (fun _ _ _ h => h) (Or.inl ⟨by rfl, ?hy12_z411⟩) (by assumption) ?rest12_z411; (case hy12_z411 => ((intro w hSw); (try dsimp only at hSw); go_simp; first | done | (with_reducible rfl))))
                    (try simp only [Act.put, List.setIfInBounds_toArray, List.set_cons_zero, List.set_cons_succ])
                    (refine wpAnyH_take (i := 13) (oi := ⟨some 55, _, _, _, _, _⟩) (v := ?v13_z412) rfl (by kernel_rfl) (by kernel_rfl) (by kernel_rfl) (fun _ _ _ h => h) (Or.inl ⟨by rfl, ?hy13_z412⟩) (by assumption) ?rest13_z412; (case hy13_z412 => ((intro w hSw); (try dsimp only at hSw); go_simp; first | done | (with_reducible rfl))))
                    (try simp only [Act.put, List.setIfInBounds_toArray, List.set_cons_zero, List.set_cons_succ])
                    (refine wpAnyH_take (i := 14) (oi := ⟨some 56, _, _, _, _, _⟩) (v := ?v14_z413) rfl (by kernel_rfl) (by kernel_rfl) (by kernel_rfl) (fun _ _ _ h => h) (Or.inl ⟨by rfl, ?hy14_z413⟩) (by assumption) ?rest14_z413; (case hy14_z413 => ((intro w hSw); (try dsimp only at hSw); go_simp; first | done | (with_reducible rfl))))
                    (try simp only [Act.put, List.setIfInBounds_toArray, List.set_cons_zero, List.set_cons_succ])
                    (refine wpAnyH_take (i := 15) (oi := ⟨some 57, _, _, _, _, _⟩) (v := ?v15_z414) rfl (by kernel_rfl) (by kernel_rfl) (by kernel_rfl) (fun _ _ _ h => h) (Or.inl ⟨by rfl, ?hy15_z414⟩) (by assumption) ?rest15_z414; (case hy15_z414 => ((intro w hSw); (try dsimp only at hSw); go_simp; first | done | (with_reducible rfl))))
                    (try simp only [Act.put, List.setIfInBounds_toArray, List.set_cons_zero, List.set_cons_succ])
                    (refine wpAnyH_take (i := 16) (oi := ⟨some 58, _, _, _, _, _⟩) (v := ?v16_z415) rfl (by kernel_rfl) (by kernel_rfl) (by kernel_rfl) (fun _ _ _ h => h) (Or.inl ⟨by rfl, ?hy16_z415⟩) (by assumption) ?rest16_z415; (case hy16_z415 => ((intro w hSw); (try dsimp only at hSw); go_simp; first | done | (with_reducible rfl))))
                    (try simp only [Act.put, List.setIfInBounds_toArray, List.set_cons_zero, List.set_cons_succ])
                    (refine wpAnyH_take (i := 17) (oi := ⟨some 59, _, _, _, _, _⟩) (v := .bool false) rfl (by kernel_rfl) (by kernel_rfl) (by kernel_rfl) (fun _ _ _ h => h) (Or.inl ⟨by rfl, ?hy17_z416⟩) (by assumption) ?rest17_z416; (case hy17_z416 => ((intro w hSw); (try dsimp only at hSw); go_simp; first | done | (with_reducible rfl))))
                    (try simp only [Act.put, List.setIfInBounds_toArray, List.set_cons_zero, List.set_cons_succ])
                    (refine wpAnyH_take (i := 18) (oi := ⟨some 60, _, _, _, _, _⟩) (v := ?v18_z417) rfl (by kernel_rfl) (by kernel_rfl) (by kernel_rfl) (fun _ _ _ h => h) (Or.inl ⟨by rfl, ?hy18_z417⟩) (by assumption) ?rest18_z417; (case hy18_z417 => ((intro w hSw); (try dsimp only at hSw); go_simp; first | done | (with_reducible rfl))))
                    (try simp only [Act.put, List.setIfInBounds_toArray, List.set_cons_zero, List.set_cons_succ])
                    (refine wpAnyH_take (i := 19) (oi := ⟨some 61, _, _, _, _, _⟩) (v := ?v19_z418) rfl (by kernel_rfl) (by kernel_rfl) (by kernel_rfl) (fun _ _ _ h => h) (Or.inl ⟨by rfl, ?hy19_z418⟩) (by assumption) ?rest19_z418; (case hy19_z418 => ((intro w hSw); (try dsimp only at hSw); go_simp; first | done | (with_reducible rfl))))
                    (try simp only [Act.put, List.setIfInBounds_toArray, List.set_cons_zero, List.set_cons_succ])
                    (refine wpAnyH_take (i := 20) (oi := ⟨some 62, _, _, _, _, _⟩) (v := ?v20_z419) rfl (by kernel_rfl) (by kernel_rfl) (by kernel_rfl) (fun _ _ _ h => h) (Or.inl ⟨by rfl, ?hy20_z419⟩) (by assumption) ?rest20_z419; (case hy20_z419 => ((intro w hSw); (try dsimp only at hSw); go_simp; first | done | (with_reducible rfl))))
                    (try simp only [Act.put, List.setIfInBounds_toArray, List.set_cons_zero, List.set_cons_succ])
                    (refine wpAnyH_take (i := 21) (oi := ⟨some 63, _, _, _, _, _⟩) (v := ?v21_z420) rfl (by kernel_rfl) (by kernel_rfl) (by kernel_rfl) (fun _ _ _ h => h) (Or.inl ⟨by rfl, ?hy21_z420⟩) (by assumption) ?rest21_z420; (case hy21_z420 => ((intro w hSw); (try dsimp only at hSw); go_simp; first | done | (with_reducible rfl))))
                    (try simp only [Act.put, List.setIfInBounds_toArray, List.set_cons_zero, List.set_cons_succ])
                    (refine wpAnyH_take (i := 22) (oi := ⟨some 64, _, _, _, _, _⟩) (v := ?v22_z421) rfl (by kernel_rfl) (by kernel_rfl) (by kernel_rfl) (fun _ _ _ h => h) (Or.inl ⟨by rfl, ?hy22_z421⟩) (by assumption) ?rest22_z421; (case hy22_z421 => ((intro w hSw); (try dsimp only at hSw); go_simp; first | done | (with_reducible rfl))))
                    (try simp only [Act.put, List.setIfInBounds_toArray, List.set_cons_zero, List.set_cons_succ])
                    (refine wpAnyH_take (i := 23) (oi := ⟨some 65, _, _, _, _, _⟩) (v := ?v23_z422) rfl (by kernel_rfl) (by kernel_rfl) (by kernel_rfl) (fun _ _ _ h => h) (Or.inl ⟨by rfl, ?hy23_z422⟩) (by assumption) ?rest23_z422; (case hy23_z422 => ((intro w hSw); (try dsimp only at hSw); go_simp; first | done | (with_reducible rfl))))
                    (try simp only [Act.put, List.setIfInBounds_toArray, List.set_cons_zero, List.set_cons_succ])
                    (refine wpAnyH_take (i := 24) (oi := ⟨some 66, _, _, _, _, _⟩) (v := .bool false) rfl (by kernel_rfl) (by kernel_rfl) (by kernel_rfl) (fun _ _ _ h => h) (Or.inl ⟨by rfl, ?hy24_z423⟩) (by assumption) ?rest24_z423; (case hy24_z423 => ((intro w hSw); (try dsimp only at hSw); go_simp; first | done | (with_reducible rfl))))
                    (try simp only [Act.put, List.setIfInBounds_toArray, List.set_cons_zero, List.set_cons_succ])
                    (refine wpAnyH_take (i := 25) (oi := ⟨some 67, _, _, _, _, _⟩) (v := ?v25_z424) rfl (by kernel_rfl) (by kernel_rfl) (by kernel_rfl) (fun _ _ _ h => h) (Or.inl ⟨by rfl, ?hy25_z424⟩) (by assumption) ?rest25_z424; (case hy25_z424 => ((intro w hSw); (try dsimp only at hSw); go_simp; first | done | (with_reducible rfl))))
                    (try simp only [Act.put, List.setIfInBounds_toArray, List.set_cons_zero, List.set_cons_succ])
                    (refine wpAnyH_take (i := 26) (oi := ⟨some 68, _, _, _, _, _⟩) (v := ?v26_z425) rfl (by kernel_rfl) (by kernel_rfl) (by kernel_rfl) (fun _ _ _ h => h) (Or.inl ⟨by rfl, ?hy26_z425⟩) (by assumption) ?rest26_z425; (case hy26_z425 => ((intro w hSw); (try dsimp only at hSw); go_simp; first | done | (with_reducible rfl))))
                    (try simp only [Act.put, List.setIfInBounds_toArray, List.set_cons_zero, List.set_cons_succ])
                    (refine wpAnyH_take (i := 27) (oi := ⟨some 69, _, _, _, _, _⟩) (v := ?v27_z426) rfl (by kernel_rfl) (by kernel_rfl) (by kernel_rfl) (fun _ _ _ h => h) (Or.inl ⟨by rfl, ?hy27_z426⟩) (by assumption) ?rest27_z426; (case hy27_z426 => ((intro w hSw); (try dsimp only at hSw); go_simp; first | done | (with_reducible rfl))))
                    (try simp only [Act.put, List.setIfInBounds_toArray, List.set_cons_zero, List.set_cons_succ])
                    (refine wpAnyH_take (i := 28) (oi := ⟨some 70, _, _, _, _, _⟩) (v := ?v28_z427) rfl (by kernel_rfl) (by kernel_rfl) (by kernel_rfl) (fun _ _ _ h => h) (Or.inl ⟨by rfl, ?hy28_z427⟩) (by assumption) ?rest28_z427; (case hy28_z427 => ((intro w hSw); (try dsimp only at hSw); go_simp; first | done | (with_reducible rfl))))
                    (try simp only [Act.put, List.setIfInBounds_toArray, List.set_cons_zero, List.set_cons_succ])
                    (refine wpAnyH_take (i := 29) (oi := ⟨some 71, _, _, _, _, _⟩) (v := ?v29_z428) rfl (by kernel_rfl) (by kernel_rfl) (by kernel_rfl) (fun _ _ _ h => h) (Or.inl ⟨by rfl, ?hy29_z428⟩) (by assumption) ?rest29_z428; (case hy29_z428 => ((intro w hSw); (try dsimp only at hSw); go_simp; first | done | (with_reducible rfl))))
                    (try simp only [Act.put, List.setIfInBounds_toArray, List.set_cons_zero, List.set_cons_succ])
                    (refine wpAnyH_take (i := 30) (oi := ⟨some 72, _, _, _, _, _⟩) (v := ?v30_z429) rfl (by kernel_rfl) (by kernel_rfl) (by kernel_rfl) (fun _ _ _ h => h) (Or.inl ⟨by rfl, ?hy30_z429⟩) (by assumption) ?rest30_z429; (case hy30_z429 => ((intro w hSw); (try dsimp only at hSw); go_simp; first | done | (with_reducible rfl))))
                    (try simp only [Act.put, List.setIfInBounds_toArray, List.set_cons_zero, List.set_cons_succ])
                    (refine wpAnyH_take (i := 31) (oi := ⟨some 73, _, _, _, _, _⟩) (v := ?v31_z430) rfl (by kernel_rfl) (by kernel_rfl) (by kernel_rfl) (fun _ _ _ h => h) (Or.inl ⟨by rfl, ?hy31_z430⟩) (by assumption) ?rest31_z430; (case hy31_z430 => ((intro w hSw); (try dsimp only at hSw); go_simp; first | done | (with_reducible rfl))))
                    (try simp only [Act.put, List.setIfInBounds_toArray, List.set_cons_zero, List.set_cons_succ])
                    (refine wpAnyH_take (i := 32) (oi := ⟨some 74, _, _, _, _, _⟩) (v := ?v32_z431) rfl (by kernel_rfl) (by kernel_rfl) (by kernel_rfl) (fun _ _ _ h => h) (Or.inl ⟨by rfl, ?hy32_z431⟩) (by assumption) ?rest32_z431; (case hy32_z431 => ((intro w hSw); (try dsimp only at hSw); go_simp; first | done | (with_reducible rfl))))
                    (try simp only [Act.put, List.setIfInBounds_toArray, List.set_cons_zero, List.set_cons_succ])
                    (refine wpAnyH_take (i := 33) (oi := ⟨some 75, _, _, _, _, _⟩) (v := ?v33_z432) rfl (by kernel_rfl) (by kernel_rfl) (by kernel_rfl) (fun _ _ _ h => h) (Or.inl ⟨by rfl, ?hy33_z432⟩) (by assumption) ?rest33_z432; (case hy33_z432 => ((intro w hSw); (try dsimp only at hSw); go_simp; first | done | (with_reducible rfl))))
                    (try simp only [Act.put, List.setIfInBounds_toArray, List.set_cons_zero, List.set_cons_succ])
                    (refine wpAnyH_take (i := 34) (oi := ⟨some 76, _, _, _, _, _⟩) (v := ?v34_z433) rfl (by kernel_rfl) (by kernel_rfl) (by kernel_rfl) (fun _ _ _ h => h) (Or.inl ⟨by rfl, ?hy34_z433⟩) (by assumption) ?rest34_z433; (case hy34_z433 => ((intro w hSw); (try dsimp only at hSw); go_simp; first | done | (with_reducible rfl))))
                    (try simp only [Act.put, List.setIfInBounds_toArray, List.set_cons_zero, List.set_cons_succ])
                    (refine wpAnyH_take (i := 35) (oi := ⟨some 77, _, _, _, _, _⟩) (v := ?v35_z434) rfl (by kernel_rfl) (by kernel_rfl) (by kernel_rfl) (fun _ _ _ h => h) (Or.inl ⟨by rfl, ?hy35_z434⟩) (by assumption) ?rest35_z434; (case hy35_z434 => ((intro w hSw); (try dsimp only at hSw); go_simp; first | done | (with_reducible rfl))))
                    (try simp only [Act.put, List.setIfInBounds_toArray, List.set_cons_zero, List.set_cons_succ])
                    (refine wpAnyH_take (i := 36) (oi := ⟨some 78, _, _, _, _, _⟩) (v := ?v36_z435) rfl (by kernel_rfl) (by kernel_rfl) (by kernel_rfl) (fun _ _ _ h => h) (Or.inl ⟨by rfl, ?hy36_z435⟩) (by assumption) ?rest36_z435; (case hy36_z435 => ((intro w hSw); (try dsimp only at hSw); go_simp; first | done | (with_reducible rfl))))
                    (try simp only [Act.put, List.setIfInBounds_toArray, List.set_cons_zero, List.set_cons_succ])
                    refine wpAnyH_done (by kernel_rfl) ?_ _
                    go_wp2
                    go_meet
                    exact ⟨rfl, B_m2⟩
                  case rest =>
                    obtain ⟨rfl, HF⟩ := hcut
                    clear KS
                    as_aux_lemma =>
                    obtain ⟨hrn, hxc⟩ := HRN.out
                    obtain ⟨ta, tb⟩ := HTT.out
                    have h1 := HH1.out
                    have hn40 : n ≤ 40 ∧ r ≤ 40 ∧ c ≤ 40 := by
                      have e1 : da.length = r * n := by
                        have h := (tnb_parts ta).2.1
                        rw [hrn] at h
                        have : (da.length : Int) = (r : Int) * ((n : Int) * 1) := h
                        rw [Int.mul_one, ← Int.natCast_mul] at this; omega
                      have e2 : db.length = n * c := by
                        have h := (tnb_parts tb).2.1
                        rw [hxc] at h
                        have : (db.length : Int) = (n : Int) * ((c : Int) * 1) := h
                        rw [Int.mul_one, ← Int.natCast_mul] at this; omega
                      have q1 := Nat.mul_le_mul_right n h1.1
                      have q2 := Nat.mul_le_mul_left r h1.2.1
                      have q3 := Nat.mul_le_mul_right c h1.2.1
                      have q4 := Nat.mul_le_mul_left n h1.2.2
                      omega
                    obtain ⟨hn4, hr4, hc4⟩ := hn40
                    have hdb2 : db.length = n * c := by
                      have h := (tnb_parts tb).2.1
                      rw [hxc] at h
                      have : (db.length : Int) = (n : Int) * ((c : Int) * 1) := h
                      rw [Int.mul_one, ← Int.natCast_mul] at this; omega
                    have hnc : n * c ≤ 1600 := Nat.mul_le_mul hn4 hc4
                    obtain ⟨hr1, hn1, hc1⟩ := h1
                    have ta2 : tnb [(r : Int), (n : Int)] da = true := by rw [← hrn]; exact ta
                    have tb2 : tnb [(n : Int), (c : Int)] db = true := by rw [← hxc]; exact tb
                    have may_rn := may_two hr1 hn1 hr4 hn4
                    have may_nc := may_two hn1 hc1 hn4 hc4
                    have may_cn := may_two hc1 hn1 hc4 hn4
                    have may_rc := may_two hr1 hc1 hr4 hc4
                    have may_nn := may_two hn1 hn1 hn4 hn4
                    obtain ⟨U, hU⟩ : ∃ U, U = who da := ⟨_, rfl⟩
                    obtain ⟨V, hV⟩ : ∃ U, U = who db := ⟨_, rfl⟩
                    obtain ⟨D3, hD3⟩ : ∃ D, D = tnn 1 n c db := ⟨_, rfl⟩
                    obtain ⟨Z, hZ⟩ : ∃ D, D = who D3 := ⟨_, rfl⟩
                    have bU : ∀ k, -2 ≤ U.getD k 0 ∧ U.getD k 0 ≤ 2 := fun k => by rw [hU]; exact who_bd da k
                    have bV : ∀ k, -2 ≤ V.getD k 0 ∧ V.getD k 0 ≤ 2 := fun k => by rw [hV]; exact who_bd db k
                    have bZ : ∀ k, -2 ≤ Z.getD k 0 ∧ Z.getD k 0 ≤ 2 := fun k => by rw [hZ]; exact who_bd D3 k
                    have lU : (U.length : Int) = prod [(r : Int), (n : Int)] := by rw [hU, who_len]; exact (tnb_parts ta2).2.1
                    have lV : (V.length : Int) = prod [(n : Int), (c : Int)] := by rw [hV, who_len]; exact (tnb_parts tb2).2.1
                    have t3 : tnb [(c : Int), (n : Int)] D3 = true := by rw [hD3]; exact tnn_tnb (p := []) tb2 rfl
                    have lZ : (Z.length : Int) = prod [(c : Int), (n : Int)] := by rw [hZ, who_len]; exact (tnb_parts t3).2.1
                    have tU := sc_tnb may_rn lU bU (by decide)
                    have tV := sc_tnb may_nc lV bV (by decide)
                    have tZ := sc_tnb may_cn lZ bZ (by decide)
                    have bd : ∀ {x y : Nat} {b : Int}, x ≤ 40 → 0 ≤ b → b ≤ 640 → b * x ≤ 25600 := fun {x y b} h h0 h2 => by
                      have := Int.mul_le_mul h2 (show (x : Int) ≤ 40 by omega) (by omega) (by decide)
                      omega
                    obtain ⟨AB, hAB⟩ : ∃ D, D = ipr r n c U V := ⟨_, rfl⟩
                    have bAB : ∀ k, -160 ≤ AB.getD k 0 ∧ AB.getD k 0 ≤ 160 := fun k => by
                      have q := ipr_bd (r := r) (n := n) (c := c) (bu := 2) (bv := 2) (by decide) (by decide) bU bV k
                      rw [← hAB] at q
                      omega
                    obtain ⟨BC, hBC⟩ : ∃ D, D = ipr n c n V Z := ⟨_, rfl⟩
                    have bBC : ∀ k, -160 ≤ BC.getD k 0 ∧ BC.getD k 0 ≤ 160 := fun k => by
                      have q := ipr_bd (r := n) (n := c) (c := n) (bu := 2) (bv := 2) (by decide) (by decide) bV bZ k
                      rw [← hBC] at q
                      omega
                    obtain ⟨LR, hLR⟩ : ∃ D, D = ipr r c n AB Z := ⟨_, rfl⟩
                    have bLR : ∀ k, -12800 ≤ LR.getD k 0 ∧ LR.getD k 0 ≤ 12800 := fun k => by
                      have q := ipr_bd (r := r) (n := c) (c := n) (bu := 160) (bv := 2) (by decide) (by decide) bAB bZ k
                      rw [← hLR] at q
                      omega
                    have hLR2 : LR = ipr r n n U BC := by rw [hLR, hAB, hBC, ipr_assoc]
                    obtain ⟨DV, hDV⟩ : ∃ D, D = dvl k db.length := ⟨_, rfl⟩
                    have bDV : ∀ q, -2 ≤ DV.getD q 0 ∧ DV.getD q 0 ≤ 2 := fun q => by rw [hDV]; exact dvl_bd k db.length q
                    have lDV : DV.length = db.length := by rw [hDV]; exact vls_len _ _
                    obtain ⟨SV, hSV⟩ : ∃ D, D = svl V DV := ⟨_, rfl⟩
                    have lV2 : V.length = db.length := by rw [hV, who_len]
                    have aSV : ∀ q, SV.getD q 0 = V.getD q 0 + DV.getD q 0 := fun q => by rw [hSV]; exact svl_at (by rw [lDV, lV2]) q
                    have bSV : ∀ q, -4 ≤ SV.getD q 0 ∧ SV.getD q 0 ≤ 4 := fun q => by have := aSV q; have := bV q; have := bDV q; omega
                    have lSV : SV.length = db.length := by rw [hSV]; show (vls _ _).length = _; rw [vls_len, lV2]
                    have hpnc : prod [(n : Int), (c : Int)] = (db.length : Int) := by rw [hdb2]; show (n : Int) * ((c : Int) * 1) = _; push_cast; rw [Int.mul_one]
                    have tDV := sc_tnb (s := [(n : Int), (c : Int)]) may_nc (by rw [lDV, hpnc]) bDV (by decide)
                    have tSV := sc_tnb (s := [(n : Int), (c : Int)]) may_nc (by rw [lSV, hpnc]) bSV (by decide)
                    obtain ⟨XS, hXS⟩ : ∃ D, D = ipr r n c U SV := ⟨_, rfl⟩
                    obtain ⟨YD, hYD⟩ : ∃ D, D = ipr r n c U DV := ⟨_, rfl⟩
                    have bXS : ∀ k, -320 ≤ XS.getD k 0 ∧ XS.getD k 0 ≤ 320 := fun k => by
                      have q := ipr_bd (r := r) (n := n) (c := c) (bu := 2) (bv := 4) (by decide) (by decide) bU bSV k
                      rw [← hXS] at q
                      omega
                    have bYD : ∀ k, -160 ≤ YD.getD k 0 ∧ YD.getD k 0 ≤ 160 := fun k => by
                      have q := ipr_bd (r := r) (n := n) (c := c) (bu := 2) (bv := 2) (by decide) (by decide) bU bDV k
                      rw [← hYD] at q
                      omega
                    have aXS : ∀ k, XS.getD k 0 = YD.getD k 0 + AB.getD k 0 := fun k => by rw [hXS, hYD, hAB]; exact ipr_add aSV k
                    have tAB : tnb [(r : Int), (c : Int)] (sc AB) = true := by rw [hAB]; exact ipr_tnb may_rc (fun k => by have := bAB k; rw [hAB] at this; omega)
                    have tBC : tnb [(n : Int), (n : Int)] (sc BC) = true := by rw [hBC]; exact ipr_tnb may_nn (fun k => by have := bBC k; rw [hBC] at this; omega)
                    have HLW : Hid (∀ W, FR W → Ld W (.slice (some ⟨gA, fA, none⟩) sa.length cA) sa ∧ Ld W (.slice oX da.length cX) da ∧ Ld W (.slice (some ⟨gB, fB, none⟩) sb.length cB) sb ∧ Ld W (.slice oY db.length cY) db) := Lib.hid (fun W h => ⟨HL.out.1.below (FRb.out _ h), HL.out.2.1.below (FRb.out _ h), HL.out.2.2.1.below (FRb.out _ h), HL.out.2.2.2.below (FRb.out _ h)⟩)
                    obtain ⟨mA, hmA⟩ : ∃ m, m = (sc U).length := ⟨_, rfl⟩
                    obtain ⟨mB, hmB⟩ : ∃ m, m = (sc V).length := ⟨_, rfl⟩
                    obtain ⟨m3, hm3⟩ : ∃ m, m = D3.length := ⟨_, rfl⟩
                    obtain ⟨mZ, hmZ⟩ : ∃ m, m = (sc Z).length := ⟨_, rfl⟩
                    obtain ⟨mRC, hmRC⟩ : ∃ m, m = r * c := ⟨_, rfl⟩
                    obtain ⟨mRN, hmRN⟩ : ∃ m, m = r * n := ⟨_, rfl⟩
                    obtain ⟨mNN, hmNN⟩ : ∃ m, m = n * n := ⟨_, rfl⟩
                    have hda6 : da.length ≤ 65536 := by omega
                    have hdb6 : db.length ≤ 65536 := by omega
                    have K1 : Hid (∀ W, FR W → Calls Try.prog 24 #[.agg #[.slice (some ⟨gA, fA, none⟩) sa.length cA, .slice oX da.length cX]] W (CtL W [(r : Int), (n : Int)] 2 (sc U) mA)) := Lib.hid (fun W h => by
                      have q := whole_any _ _ sa da W (HLW.out _ h).1 (HLW.out _ h).2.1 (by omega) hda6
                      rw [← hU] at q
                      exact q.mono (fun _ _ hh => ctL_of (S := [(r : Int), (n : Int)]) rfl hmA (by rw [← hrn]; exact hh)))
                    have K2 : Hid (∀ W, FR W → Calls Try.prog 24 #[.agg #[.slice (some ⟨gB, fB, none⟩) sb.length cB, .slice oY db.length cY]] W (CtL W [(n : Int), (c : Int)] 2 (sc V) mB)) := Lib.hid (fun W h => by
                      have q := whole_any _ _ sb db W (HLW.out _ h).2.2.1 (HLW.out _ h).2.2.2 (by omega) hdb6
                      rw [← hV] at q
                      exact q.mono (fun _ _ hh => ctL_of (S := [(n : Int), (c : Int)]) rfl hmB (by rw [← hxc]; exact hh)))
                    have K3 : Hid (∀ W, FR W → Calls Try.prog 14 #[.agg #[.slice (some ⟨gB, fB, none⟩) sb.length cB, .slice oY db.length cY]] W (TyL W 0 [(c : Int), (n : Int)] 2 D3 m3)) := Lib.hid (fun W h => by
                      have q := turn_ok _ _ sb db [] n c 1 W (HLW.out _ h).2.2.1 (HLW.out _ h).2.2.2 tb hxc rfl (fun _ hx => by cases hx) ⟨hn1, hc1, Nat.le_refl _⟩ (by rw [hxc]; exact prod_two [] n c 1 rfl) (by rw [Nat.one_mul]; omega) (by simp)
                      rw [← hD3] at q
                      exact q.mono (fun _ _ hh => tyL_of rfl hm3 hh))
                    have K4 : Hid (∀ W vs vd, Ld W vs [(c : Int), (n : Int)] → Ld W vd D3 → Calls Try.prog 24 #[.agg #[vs, vd]] W (CtL W [(c : Int), (n : Int)] 2 (sc Z) mZ)) := Lib.hid (fun W vs vd h1 h2 => by
                      have q := whole_any vs vd _ D3 W h1 h2 (by simp) (by have := (tnb_parts t3).2.1; have := may_prod may_cn; omega)
                      rw [← hZ] at q
                      exact q.mono (fun _ _ hh => ctL_of (S := [(c : Int), (n : Int)]) rfl hmZ hh))
                    have K5 : Hid (∀ W vs vd vt ve, Ld W vs [(r : Int), (n : Int)] → Ld W vd (sc U) → Ld W vt [(n : Int), (c : Int)] → Ld W ve (sc V) → Calls Try.prog 18 #[.agg #[vs, vd], .agg #[vt, ve], .int .i64 8] W (TyL W 0 [(r : Int), (c : Int)] 2 (sc AB) mRC)) := Lib.hid (fun W vs vd vt ve h1 h2 h3 h4 => by
                      rw [hAB, hmRC]; exact mul8 vs vd vt ve U V W h1 h2 h3 h4 tU tV may_rc (fun k => by have := bAB k; rw [hAB] at this; omega))
                    have K6 : Hid (∀ W vs vd vt ve, Ld W vs [(r : Int), (c : Int)] → Ld W vd (sc AB) → Ld W vt [(c : Int), (n : Int)] → Ld W ve (sc Z) → Calls Try.prog 18 #[.agg #[vs, vd], .agg #[vt, ve], .int .i64 8] W (TyL W 0 [(r : Int), (n : Int)] 2 (sc LR) mRN)) := Lib.hid (fun W vs vd vt ve h1 h2 h3 h4 => by
                      rw [hLR, hmRN]; exact mul8 vs vd vt ve AB Z W h1 h2 h3 h4 tAB tZ may_rn (fun k => by have := bLR k; rw [hLR] at this; omega))
                    have K7 : Hid (∀ W vs vd vt ve, Ld W vs [(n : Int), (c : Int)] → Ld W vd (sc V) → Ld W vt [(c : Int), (n : Int)] → Ld W ve (sc Z) → Calls Try.prog 18 #[.agg #[vs, vd], .agg #[vt, ve], .int .i64 8] W (TyL W 0 [(n : Int), (n : Int)] 2 (sc BC) mNN)) := Lib.hid (fun W vs vd vt ve h1 h2 h3 h4 => by
                      rw [hBC, hmNN]; exact mul8 vs vd vt ve V Z W h1 h2 h3 h4 tV tZ may_nn (fun k => by have := bBC k; rw [hBC] at this; omega))
                    have K8 : Hid (∀ W vs vd vt ve, Ld W vs [(r : Int), (n : Int)] → Ld W vd (sc U) → Ld W vt [(n : Int), (n : Int)] → Ld W ve (sc BC) → Calls Try.prog 18 #[.agg #[vs, vd], .agg #[vt, ve], .int .i64 8] W (TyL W 0 [(r : Int), (n : Int)] 2 (sc LR) mRN)) := Lib.hid (fun W vs vd vt ve h1 h2 h3 h4 => by
                      rw [hLR2, hmRN]; exact mul8 vs vd vt ve U BC W h1 h2 h3 h4 tU tBC may_rn (fun k => by have := bLR k; rw [hLR2] at this; omega))
                    have K11 : Hid (∀ W vs vd vt ve, Ld W vs [(r : Int), (n : Int)] → Ld W vd (sc U) → Ld W vt [(n : Int), (c : Int)] → Ld W ve (sc SV) → Calls Try.prog 18 #[.agg #[vs, vd], .agg #[vt, ve], .int .i64 8] W (TyL W 0 [(r : Int), (c : Int)] 2 (sc XS) mRC)) := Lib.hid (fun W vs vd vt ve h1 h2 h3 h4 => by
                      rw [hXS, hmRC]; exact mul8 vs vd vt ve U SV W h1 h2 h3 h4 tU tSV may_rc (fun k => by have := bXS k; rw [hXS] at this; omega))
                    have K12 : Hid (∀ W vs vd vt ve, Ld W vs [(r : Int), (n : Int)] → Ld W vd (sc U) → Ld W vt [(n : Int), (c : Int)] → Ld W ve (sc DV) → Calls Try.prog 18 #[.agg #[vs, vd], .agg #[vt, ve], .int .i64 8] W (TyL W 0 [(r : Int), (c : Int)] 2 (sc YD) mRC)) := Lib.hid (fun W vs vd vt ve h1 h2 h3 h4 => by
                      rw [hYD, hmRC]; exact mul8 vs vd vt ve U DV W h1 h2 h3 h4 tU tDV may_rc (fun k => by have := bYD k; rw [hYD] at this; omega))
                    have KE := Lib.hid (fun W va vb ua ub (ha : Ld W va [(r : Int), (n : Int)]) (hb : Ld W vb (sc LR)) (hc : Ld W ua [(r : Int), (n : Int)]) (hd : Ld W ub (sc LR)) => eqtensor_same va vb ua ub _ _ W ha hb hc hd (by simp) (by rw [sc_len, hLR, ipr_len]; have := Nat.mul_le_mul hr4 hn4; omega))
                    have KCP : Hid (∀ W vs vd, Ld W vs [(n : Int), (c : Int)] → Ld W vd (sc V) → Calls Try.prog 17 #[.agg #[vs, vd]] W (CoL W [(n : Int), (c : Int)] 2 (sc V) db.length)) := Lib.hid (fun W vs vd h1 h2 => (copytens_any vs vd _ _ W h1 h2 (by simp) (by rw [sc_len, lV2]; omega)).mono (fun _ _ hh => coL_of (S := [(n : Int), (c : Int)]) rfl (by rw [sc_len, lV2]) hh))
                    have HVL := Lib.hid (And.intro lV2 (And.intro lDV lSV))
                    have hmB2 : mB = db.length := by rw [hmB, sc_len, lV2]
                    have HBV := Lib.hid (And.intro bV (And.intro bDV aSV))
                    have HXY : Hid ((sc XS).length = mRC ∧ (sc YD).length = mRC ∧ (sc AB).length = mRC ∧ ∀ k, (sc XS).getD k 0 = (sc YD).getD k 0 + (sc AB).getD k 0 ∧ (-1000000 ≤ (sc YD).getD k 0 ∧ (sc YD).getD k 0 ≤ 1000000) ∧ (-1000000 ≤ (sc AB).getD k 0 ∧ (sc AB).getD k 0 ≤ 1000000)) := Lib.hid (by
                      refine ⟨by rw [sc_len, hXS, ipr_len, hmRC], by rw [sc_len, hYD, ipr_len, hmRC], by rw [sc_len, hAB, ipr_len, hmRC], fun k => ?_⟩
                      rw [sc_at, sc_at, sc_at]
                      have := aXS k; have := bYD k; have := bAB k
                      omega)
                    have hDVk : Hid (∀ j, j < db.length → (sc DV).getD j 0 = 256 * (((j * 7 + k : Nat) : Int).tmod 5 - 2)) := Lib.hid (fun j hj => by rw [sc_at, hDV, dvl_at hj])
                    have hmRC6 : mRC ≤ 65536 := by rw [hmRC]; have := Nat.mul_le_mul hr4 hc4; omega
                    have bm : ((mRC : Int) != (mRC : Int)) = false := by simp
                    have hk6 : k ≤ 1000 := by omega
                    have hdb40 : db.length ≤ 1000 := by omega
                    rw [hmB2] at K2
                    have P0n := FRn
                    clear hrn hxc ta tb hdb2 hnc hr1 hn1 hc1 hr4 hn4 hc4 ta2 tb2 may_rn may_nc may_cn may_rc may_nn hU hV hD3 hZ bU bV bZ lU lV t3 lZ tU tV tZ bd hAB bAB hBC bBC hLR bLR hLR2 hDV bDV lDV hSV lV2 aSV bSV lSV hpnc tDV tSV hXS hYD bXS bYD aXS tAB tBC hmA hmB hm3 hmZ hmRC hmRN hmNN hda6 hdb6 hmB2
                    obtain ⟨P0, hP0⟩ : ∃ P : World → Prop, P = FR := ⟨_, rfl⟩
                    subst hP0
                    clear LG KMA KMB K0 FRs F2
                    obtain ⟨v0, hv0⟩ : ∃ v, v = wc := ⟨_, rfl⟩
                    rw [← hv0] at HF ⊢
                    clear hv0
                    obtain ⟨x0, x1, x2, x3, x4⟩ := FRk.out _ HF.out
                    go_upto_region 9 with (go_at_call 24; (with_reducible refine (K1.out _ HF.out).mono ?_); rintro e wz1 ⟨os1, cs1, od1, cd1, rfl, h1, h2, hb⟩; have U1 := Lib.hid (And.intro (P0n.out _ _ HF.out hb) (And.intro h1 h2)); clear h1 h2 hb)
                    obtain ⟨v1, hv⟩ : ∃ v, v = wz1.alloc (.cells #[.slice os1 2 cs1, .slice od1 mA cd1] 26) := ⟨_, rfl⟩
                    obtain ⟨T1, hT⟩ : ∃ T, T = wz1.heap.size := ⟨_, rfl⟩
                    rw [← hv, ← hT]
                    obtain ⟨P1, hP⟩ : ∃ P : World → Prop, P = fun W => P0 W ∧ Blk W T1 26 #[.slice os1 2 cs1, .slice od1 mA cd1] ∧ Ld W (.slice os1 2 cs1) ([(r : Int), (n : Int)]) ∧ Ld W (.slice od1 mA cd1) (sc U) := ⟨_, rfl⟩
                    have G1 : Hid (P1 v1) := Lib.hid (by rw [hP]; exact ⟨by rw [hv]; exact P0n.out _ _ U1.out.1 (al_below _), by rw [hv, hT]; exact Blk.new _ _ _, by rw [hv]; exact U1.out.2.1.below (al_below _), by rw [hv]; exact U1.out.2.2.below (al_below _)⟩)
                    have P1f : Hid (∀ W, P1 W → P0 W) := Lib.hid (fun W h => by rw [hP] at h; exact h.1)
                    have P1n : Hid (∀ W W', P1 W → Below W.heap.size W W' → P1 W') := Lib.hid (fun W W' h hb => by rw [hP] at h ⊢; exact ⟨P0n.out _ _ h.1 hb, h.2.1.below hb h.2.1.lt, h.2.2.1.below hb, h.2.2.2.below hb⟩)
                    have P1t : Hid (∀ W, P1 W → (W.cell? ⟨T1, 0, none⟩ = some (.slice os1 2 cs1) ∧ W.cell? ⟨T1, 1, none⟩ = some (.slice od1 mA cd1)) ∧ Ld W (.slice os1 2 cs1) ([(r : Int), (n : Int)]) ∧ Ld W (.slice od1 mA cd1) (sc U)) := Lib.hid (fun W h => by rw [hP] at h; exact ⟨⟨(blk2 h.2.1).1, (blk2 h.2.1).2.1⟩, h.2.2⟩)
                    clear hP
                    clear hv hT U1 x0 x1 x2 x3 x4
                    obtain ⟨x0, x1, x2, x3, x4⟩ := FRk.out _ (P1f.out _ G1.out)
                    go_upto_region 10 with (go_at_call 24; (with_reducible refine (K2.out _ (P1f.out _ G1.out)).mono ?_); rintro e wz2 ⟨os2, cs2, od2, cd2, rfl, h1, h2, hb⟩; have U2 := Lib.hid (And.intro (P1n.out _ _ G1.out hb) (And.intro h1 h2)); clear h1 h2 hb)
                    obtain ⟨v2, hv⟩ : ∃ v, v = wz2.alloc (.cells #[.slice os2 2 cs2, .slice od2 db.length cd2] 26) := ⟨_, rfl⟩
                    obtain ⟨T2, hT⟩ : ∃ T, T = wz2.heap.size := ⟨_, rfl⟩
                    rw [← hv, ← hT]
                    obtain ⟨P2, hP⟩ : ∃ P : World → Prop, P = fun W => P1 W ∧ Blk W T2 26 #[.slice os2 2 cs2, .slice od2 db.length cd2] ∧ Ld W (.slice os2 2 cs2) ([(n : Int), (c : Int)]) ∧ Ld W (.slice od2 db.length cd2) (sc V) := ⟨_, rfl⟩
                    have G2 : Hid (P2 v2) := Lib.hid (by rw [hP]; exact ⟨by rw [hv]; exact P1n.out _ _ U2.out.1 (al_below _), by rw [hv, hT]; exact Blk.new _ _ _, by rw [hv]; exact U2.out.2.1.below (al_below _), by rw [hv]; exact U2.out.2.2.below (al_below _)⟩)
                    have P2f : Hid (∀ W, P2 W → P1 W) := Lib.hid (fun W h => by rw [hP] at h; exact h.1)
                    have P2n : Hid (∀ W W', P2 W → Below W.heap.size W W' → P2 W') := Lib.hid (fun W W' h hb => by rw [hP] at h ⊢; exact ⟨P1n.out _ _ h.1 hb, h.2.1.below hb h.2.1.lt, h.2.2.1.below hb, h.2.2.2.below hb⟩)
                    have P2t : Hid (∀ W, P2 W → (W.cell? ⟨T2, 0, none⟩ = some (.slice os2 2 cs2) ∧ W.cell? ⟨T2, 1, none⟩ = some (.slice od2 db.length cd2)) ∧ Ld W (.slice os2 2 cs2) ([(n : Int), (c : Int)]) ∧ Ld W (.slice od2 db.length cd2) (sc V)) := Lib.hid (fun W h => by rw [hP] at h; exact ⟨⟨(blk2 h.2.1).1, (blk2 h.2.1).2.1⟩, h.2.2⟩)
                    clear hP
                    clear hv hT U2 x0 x1 x2 x3 x4
                    obtain ⟨x0, x1, x2, x3, x4⟩ := FRk.out _ (P1f.out _ (P2f.out _ G2.out))
                    go_upto_region 11 with (go_at_call 14; (with_reducible refine (K3.out _ (P1f.out _ (P2f.out _ G2.out))).mono ?_); rintro e wz3 ⟨os3, cs3, od3, cd3, rfl, h1, h2, hb⟩; have U3 := Lib.hid (And.intro (P2n.out _ _ G2.out hb) (And.intro h1 h2)); clear h1 h2 hb)
                    obtain ⟨v3, hv⟩ : ∃ v, v = wz3.alloc (.cells #[.slice os3 2 cs3, .slice od3 m3 cd3] 26) := ⟨_, rfl⟩
                    obtain ⟨T3, hT⟩ : ∃ T, T = wz3.heap.size := ⟨_, rfl⟩
                    rw [← hv, ← hT]
                    obtain ⟨P3, hP⟩ : ∃ P : World → Prop, P = fun W => P2 W ∧ Blk W T3 26 #[.slice os3 2 cs3, .slice od3 m3 cd3] ∧ Ld W (.slice os3 2 cs3) ([(c : Int), (n : Int)]) ∧ Ld W (.slice od3 m3 cd3) (D3) := ⟨_, rfl⟩
                    have G3 : Hid (P3 v3) := Lib.hid (by rw [hP]; exact ⟨by rw [hv]; exact P2n.out _ _ U3.out.1 (al_below _), by rw [hv, hT]; exact Blk.new _ _ _, by rw [hv]; exact U3.out.2.1.below (al_below _), by rw [hv]; exact U3.out.2.2.below (al_below _)⟩)
                    have P3f : Hid (∀ W, P3 W → P2 W) := Lib.hid (fun W h => by rw [hP] at h; exact h.1)
                    have P3n : Hid (∀ W W', P3 W → Below W.heap.size W W' → P3 W') := Lib.hid (fun W W' h hb => by rw [hP] at h ⊢; exact ⟨P2n.out _ _ h.1 hb, h.2.1.below hb h.2.1.lt, h.2.2.1.below hb, h.2.2.2.below hb⟩)
                    have P3t : Hid (∀ W, P3 W → (W.cell? ⟨T3, 0, none⟩ = some (.slice os3 2 cs3) ∧ W.cell? ⟨T3, 1, none⟩ = some (.slice od3 m3 cd3)) ∧ Ld W (.slice os3 2 cs3) ([(c : Int), (n : Int)]) ∧ Ld W (.slice od3 m3 cd3) (D3)) := Lib.hid (fun W h => by rw [hP] at h; exact ⟨⟨(blk2 h.2.1).1, (blk2 h.2.1).2.1⟩, h.2.2⟩)
                    clear hP
                    clear hv hT U3 x0 x1 x2 x3 x4
                    obtain ⟨⟨y3_0, y3_1⟩, _⟩ := P3t.out _ G3.out
                    go_upto_region 12 with (go_at_call 24; (with_reducible refine (K4.out _ _ _ (P3t.out _ G3.out).2.1 (P3t.out _ G3.out).2.2).mono ?_); rintro e wz4 ⟨os4, cs4, od4, cd4, rfl, h1, h2, hb⟩; have U4 := Lib.hid (And.intro (P3n.out _ _ G3.out hb) (And.intro h1 h2)); clear h1 h2 hb)
                    obtain ⟨v4, hv⟩ : ∃ v, v = wz4.alloc (.cells #[.slice os4 2 cs4, .slice od4 mZ cd4] 26) := ⟨_, rfl⟩
                    obtain ⟨T4, hT⟩ : ∃ T, T = wz4.heap.size := ⟨_, rfl⟩
                    rw [← hv, ← hT]
                    obtain ⟨P4, hP⟩ : ∃ P : World → Prop, P = fun W => P3 W ∧ Blk W T4 26 #[.slice os4 2 cs4, .slice od4 mZ cd4] ∧ Ld W (.slice os4 2 cs4) ([(c : Int), (n : Int)]) ∧ Ld W (.slice od4 mZ cd4) (sc Z) := ⟨_, rfl⟩
                    have G4 : Hid (P4 v4) := Lib.hid (by rw [hP]; exact ⟨by rw [hv]; exact P3n.out _ _ U4.out.1 (al_below _), by rw [hv, hT]; exact Blk.new _ _ _, by rw [hv]; exact U4.out.2.1.below (al_below _), by rw [hv]; exact U4.out.2.2.below (al_below _)⟩)
                    have P4f : Hid (∀ W, P4 W → P3 W) := Lib.hid (fun W h => by rw [hP] at h; exact h.1)
                    have P4n : Hid (∀ W W', P4 W → Below W.heap.size W W' → P4 W') := Lib.hid (fun W W' h hb => by rw [hP] at h ⊢; exact ⟨P3n.out _ _ h.1 hb, h.2.1.below hb h.2.1.lt, h.2.2.1.below hb, h.2.2.2.below hb⟩)
                    have P4t : Hid (∀ W, P4 W → (W.cell? ⟨T4, 0, none⟩ = some (.slice os4 2 cs4) ∧ W.cell? ⟨T4, 1, none⟩ = some (.slice od4 mZ cd4)) ∧ Ld W (.slice os4 2 cs4) ([(c : Int), (n : Int)]) ∧ Ld W (.slice od4 mZ cd4) (sc Z)) := Lib.hid (fun W h => by rw [hP] at h; exact ⟨⟨(blk2 h.2.1).1, (blk2 h.2.1).2.1⟩, h.2.2⟩)
                    clear hP
                    clear hv hT U4 y3_0 y3_1
                    obtain ⟨⟨y1_0, y1_1⟩, _⟩ := P1t.out _ (P2f.out _ (P3f.out _ (P4f.out _ G4.out)))
                    obtain ⟨⟨y2_0, y2_1⟩, _⟩ := P2t.out _ (P3f.out _ (P4f.out _ G4.out))
                    go_upto_region 13 with (go_at_call 18; (with_reducible refine (K5.out _ _ _ _ _ (P1t.out _ (P2f.out _ (P3f.out _ (P4f.out _ G4.out)))).2.1 (P1t.out _ (P2f.out _ (P3f.out _ (P4f.out _ G4.out)))).2.2 (P2t.out _ (P3f.out _ (P4f.out _ G4.out))).2.1 (P2t.out _ (P3f.out _ (P4f.out _ G4.out))).2.2).mono ?_); rintro e wz5 ⟨os5, cs5, od5, cd5, rfl, h1, h2, hb⟩; have U5 := Lib.hid (And.intro (P4n.out _ _ G4.out hb) (And.intro h1 h2)); clear h1 h2 hb)
                    obtain ⟨v5, hv⟩ : ∃ v, v = wz5.alloc (.cells #[.slice os5 2 cs5, .slice od5 mRC cd5] 26) := ⟨_, rfl⟩
                    obtain ⟨T5, hT⟩ : ∃ T, T = wz5.heap.size := ⟨_, rfl⟩
                    rw [← hv, ← hT]
                    obtain ⟨P5, hP⟩ : ∃ P : World → Prop, P = fun W => P4 W ∧ Blk W T5 26 #[.slice os5 2 cs5, .slice od5 mRC cd5] ∧ Ld W (.slice os5 2 cs5) ([(r : Int), (c : Int)]) ∧ Ld W (.slice od5 mRC cd5) (sc AB) := ⟨_, rfl⟩
                    have G5 : Hid (P5 v5) := Lib.hid (by rw [hP]; exact ⟨by rw [hv]; exact P4n.out _ _ U5.out.1 (al_below _), by rw [hv, hT]; exact Blk.new _ _ _, by rw [hv]; exact U5.out.2.1.below (al_below _), by rw [hv]; exact U5.out.2.2.below (al_below _)⟩)
                    have P5f : Hid (∀ W, P5 W → P4 W) := Lib.hid (fun W h => by rw [hP] at h; exact h.1)
                    have P5n : Hid (∀ W W', P5 W → Below W.heap.size W W' → P5 W') := Lib.hid (fun W W' h hb => by rw [hP] at h ⊢; exact ⟨P4n.out _ _ h.1 hb, h.2.1.below hb h.2.1.lt, h.2.2.1.below hb, h.2.2.2.below hb⟩)
                    have P5t : Hid (∀ W, P5 W → (W.cell? ⟨T5, 0, none⟩ = some (.slice os5 2 cs5) ∧ W.cell? ⟨T5, 1, none⟩ = some (.slice od5 mRC cd5)) ∧ Ld W (.slice os5 2 cs5) ([(r : Int), (c : Int)]) ∧ Ld W (.slice od5 mRC cd5) (sc AB)) := Lib.hid (fun W h => by rw [hP] at h; exact ⟨⟨(blk2 h.2.1).1, (blk2 h.2.1).2.1⟩, h.2.2⟩)
                    clear hP
                    clear hv hT U5 y1_0 y1_1 y2_0 y2_1
                    obtain ⟨⟨y5_0, y5_1⟩, _⟩ := P5t.out _ G5.out
                    obtain ⟨⟨y4_0, y4_1⟩, _⟩ := P4t.out _ (P5f.out _ G5.out)
                    go_upto_region 14 with (go_at_call 18; (with_reducible refine (K6.out _ _ _ _ _ (P5t.out _ G5.out).2.1 (P5t.out _ G5.out).2.2 (P4t.out _ (P5f.out _ G5.out)).2.1 (P4t.out _ (P5f.out _ G5.out)).2.2).mono ?_); rintro e wz6 ⟨os6, cs6, od6, cd6, rfl, h1, h2, hb⟩; have U6 := Lib.hid (And.intro (P5n.out _ _ G5.out hb) (And.intro h1 h2)); clear h1 h2 hb)
                    obtain ⟨v6, hv⟩ : ∃ v, v = wz6.alloc (.cells #[.slice os6 2 cs6, .slice od6 mRN cd6] 26) := ⟨_, rfl⟩
                    obtain ⟨T6, hT⟩ : ∃ T, T = wz6.heap.size := ⟨_, rfl⟩
                    rw [← hv, ← hT]
                    obtain ⟨P6, hP⟩ : ∃ P : World → Prop, P = fun W => P5 W ∧ Blk W T6 26 #[.slice os6 2 cs6, .slice od6 mRN cd6] ∧ Ld W (.slice os6 2 cs6) ([(r : Int), (n : Int)]) ∧ Ld W (.slice od6 mRN cd6) (sc LR) := ⟨_, rfl⟩
                    have G6 : Hid (P6 v6) := Lib.hid (by rw [hP]; exact ⟨by rw [hv]; exact P5n.out _ _ U6.out.1 (al_below _), by rw [hv, hT]; exact Blk.new _ _ _, by rw [hv]; exact U6.out.2.1.below (al_below _), by rw [hv]; exact U6.out.2.2.below (al_below _)⟩)
                    have P6f : Hid (∀ W, P6 W → P5 W) := Lib.hid (fun W h => by rw [hP] at h; exact h.1)
                    have P6n : Hid (∀ W W', P6 W → Below W.heap.size W W' → P6 W') := Lib.hid (fun W W' h hb => by rw [hP] at h ⊢; exact ⟨P5n.out _ _ h.1 hb, h.2.1.below hb h.2.1.lt, h.2.2.1.below hb, h.2.2.2.below hb⟩)
                    have P6t : Hid (∀ W, P6 W → (W.cell? ⟨T6, 0, none⟩ = some (.slice os6 2 cs6) ∧ W.cell? ⟨T6, 1, none⟩ = some (.slice od6 mRN cd6)) ∧ Ld W (.slice os6 2 cs6) ([(r : Int), (n : Int)]) ∧ Ld W (.slice od6 mRN cd6) (sc LR)) := Lib.hid (fun W h => by rw [hP] at h; exact ⟨⟨(blk2 h.2.1).1, (blk2 h.2.1).2.1⟩, h.2.2⟩)
                    clear hP
                    clear hv hT U6 y5_0 y5_1 y4_0 y4_1
                    obtain ⟨⟨y2_0, y2_1⟩, _⟩ := P2t.out _ (P3f.out _ (P4f.out _ (P5f.out _ (P6f.out _ G6.out))))
                    obtain ⟨⟨y4_0, y4_1⟩, _⟩ := P4t.out _ (P5f.out _ (P6f.out _ G6.out))
                    go_upto_region 15 with (go_at_call 18; (with_reducible refine (K7.out _ _ _ _ _ (P2t.out _ (P3f.out _ (P4f.out _ (P5f.out _ (P6f.out _ G6.out))))).2.1 (P2t.out _ (P3f.out _ (P4f.out _ (P5f.out _ (P6f.out _ G6.out))))).2.2 (P4t.out _ (P5f.out _ (P6f.out _ G6.out))).2.1 (P4t.out _ (P5f.out _ (P6f.out _ G6.out))).2.2).mono ?_); rintro e wz7 ⟨os7, cs7, od7, cd7, rfl, h1, h2, hb⟩; have U7 := Lib.hid (And.intro (P6n.out _ _ G6.out hb) (And.intro h1 h2)); clear h1 h2 hb)
                    obtain ⟨v7, hv⟩ : ∃ v, v = wz7.alloc (.cells #[.slice os7 2 cs7, .slice od7 mNN cd7] 26) := ⟨_, rfl⟩
                    obtain ⟨T7, hT⟩ : ∃ T, T = wz7.heap.size := ⟨_, rfl⟩
                    rw [← hv, ← hT]
                    obtain ⟨P7, hP⟩ : ∃ P : World → Prop, P = fun W => P6 W ∧ Blk W T7 26 #[.slice os7 2 cs7, .slice od7 mNN cd7] ∧ Ld W (.slice os7 2 cs7) ([(n : Int), (n : Int)]) ∧ Ld W (.slice od7 mNN cd7) (sc BC) := ⟨_, rfl⟩
                    have G7 : Hid (P7 v7) := Lib.hid (by rw [hP]; exact ⟨by rw [hv]; exact P6n.out _ _ U7.out.1 (al_below _), by rw [hv, hT]; exact Blk.new _ _ _, by rw [hv]; exact U7.out.2.1.below (al_below _), by rw [hv]; exact U7.out.2.2.below (al_below _)⟩)
                    have P7f : Hid (∀ W, P7 W → P6 W) := Lib.hid (fun W h => by rw [hP] at h; exact h.1)
                    have P7n : Hid (∀ W W', P7 W → Below W.heap.size W W' → P7 W') := Lib.hid (fun W W' h hb => by rw [hP] at h ⊢; exact ⟨P6n.out _ _ h.1 hb, h.2.1.below hb h.2.1.lt, h.2.2.1.below hb, h.2.2.2.below hb⟩)
                    have P7t : Hid (∀ W, P7 W → (W.cell? ⟨T7, 0, none⟩ = some (.slice os7 2 cs7) ∧ W.cell? ⟨T7, 1, none⟩ = some (.slice od7 mNN cd7)) ∧ Ld W (.slice os7 2 cs7) ([(n : Int), (n : Int)]) ∧ Ld W (.slice od7 mNN cd7) (sc BC)) := Lib.hid (fun W h => by rw [hP] at h; exact ⟨⟨(blk2 h.2.1).1, (blk2 h.2.1).2.1⟩, h.2.2⟩)
                    clear hP
                    clear hv hT U7 y2_0 y2_1 y4_0 y4_1
                    obtain ⟨⟨y1_0, y1_1⟩, _⟩ := P1t.out _ (P2f.out _ (P3f.out _ (P4f.out _ (P5f.out _ (P6f.out _ (P7f.out _ G7.out))))))
                    obtain ⟨⟨y7_0, y7_1⟩, _⟩ := P7t.out _ G7.out
                    go_upto_region 16 with (go_at_call 18; (with_reducible refine (K8.out _ _ _ _ _ (P1t.out _ (P2f.out _ (P3f.out _ (P4f.out _ (P5f.out _ (P6f.out _ (P7f.out _ G7.out))))))).2.1 (P1t.out _ (P2f.out _ (P3f.out _ (P4f.out _ (P5f.out _ (P6f.out _ (P7f.out _ G7.out))))))).2.2 (P7t.out _ G7.out).2.1 (P7t.out _ G7.out).2.2).mono ?_); rintro e wz8 ⟨os8, cs8, od8, cd8, rfl, h1, h2, hb⟩; have U8 := Lib.hid (And.intro (P7n.out _ _ G7.out hb) (And.intro h1 h2)); clear h1 h2 hb)
                    obtain ⟨v8, hv⟩ : ∃ v, v = wz8.alloc (.cells #[.slice os8 2 cs8, .slice od8 mRN cd8] 26) := ⟨_, rfl⟩
                    obtain ⟨T8, hT⟩ : ∃ T, T = wz8.heap.size := ⟨_, rfl⟩
                    rw [← hv, ← hT]
                    obtain ⟨P8, hP⟩ : ∃ P : World → Prop, P = fun W => P7 W ∧ Blk W T8 26 #[.slice os8 2 cs8, .slice od8 mRN cd8] ∧ Ld W (.slice os8 2 cs8) ([(r : Int), (n : Int)]) ∧ Ld W (.slice od8 mRN cd8) (sc LR) := ⟨_, rfl⟩
                    have G8 : Hid (P8 v8) := Lib.hid (by rw [hP]; exact ⟨by rw [hv]; exact P7n.out _ _ U8.out.1 (al_below _), by rw [hv, hT]; exact Blk.new _ _ _, by rw [hv]; exact U8.out.2.1.below (al_below _), by rw [hv]; exact U8.out.2.2.below (al_below _)⟩)
                    have P8f : Hid (∀ W, P8 W → P7 W) := Lib.hid (fun W h => by rw [hP] at h; exact h.1)
                    have P8n : Hid (∀ W W', P8 W → Below W.heap.size W W' → P8 W') := Lib.hid (fun W W' h hb => by rw [hP] at h ⊢; exact ⟨P7n.out _ _ h.1 hb, h.2.1.below hb h.2.1.lt, h.2.2.1.below hb, h.2.2.2.below hb⟩)
                    have P8t : Hid (∀ W, P8 W → (W.cell? ⟨T8, 0, none⟩ = some (.slice os8 2 cs8) ∧ W.cell? ⟨T8, 1, none⟩ = some (.slice od8 mRN cd8)) ∧ Ld W (.slice os8 2 cs8) ([(r : Int), (n : Int)]) ∧ Ld W (.slice od8 mRN cd8) (sc LR)) := Lib.hid (fun W h => by rw [hP] at h; exact ⟨⟨(blk2 h.2.1).1, (blk2 h.2.1).2.1⟩, h.2.2⟩)
                    clear hP
                    clear hv hT U8 y1_0 y1_1 y7_0 y7_1
                    obtain ⟨⟨y6_0, y6_1⟩, _⟩ := P6t.out _ (P7f.out _ (P8f.out _ G8.out))
                    obtain ⟨⟨y8_0, y8_1⟩, _⟩ := P8t.out _ G8.out
                    go_upto_region 19 with (first | (go_at_call 15; (with_reducible refine (num10_any _ _).mono ?_); rintro e w' ⟨rfl, rfl⟩) | (go_at_call 16; (with_reducible refine (KE.out _ _ _ _ _ (P6t.out _ (P7f.out _ (P8f.out _ G8.out))).2.1 (P6t.out _ (P7f.out _ (P8f.out _ G8.out))).2.2 (P8t.out _ G8.out).2.1 (P8t.out _ G8.out).2.2).mono ?_); rintro e q1 ⟨rfl, hb⟩; have GQ := Lib.hid (P8n.out _ _ G8.out hb); obtain ⟨⟨y2_0, y2_1⟩, _⟩ := P2t.out _ (P3f.out _ (P4f.out _ (P5f.out _ (P6f.out _ (P7f.out _ (P8f.out _ GQ.out)))))); clear hb) | (go_at_call 17; (with_reducible refine (KCP.out _ _ _ (P2t.out _ (P3f.out _ (P4f.out _ (P5f.out _ (P6f.out _ (P7f.out _ (P8f.out _ GQ.out))))))).2.1 (P2t.out _ (P3f.out _ (P4f.out _ (P5f.out _ (P6f.out _ (P7f.out _ (P8f.out _ GQ.out))))))).2.2).mono ?_); rintro e w34 ⟨oc, cc, od, cd, rfl, h1, h2, hb⟩; have O1 := Lib.hid h1; have O2 := Lib.hid h2; have Y5 := Lib.hid hb; clear h1 h2 hb))
                    clear y6_0 y6_1 y8_0 y8_1 y2_0 y2_1
                    have hlv : (sc V).length = db.length := by rw [sc_len]; exact HVL.out.1
                    have KB := Lib.hid (Blk.new w34 26 #[.slice oc 2 cc, .slice od db.length cd])
                    have PP1 := Lib.hid (O1.out.alloc (.cells #[.slice oc 2 cc, .slice od db.length cd] 26))
                    have PP2 := Lib.hid (O2.out.alloc (.cells #[.slice oc 2 cc, .slice od db.length cd] 26))
                    have Y6 := Lib.hid (Y5.out.alloc Y5.out.size (.cells #[.slice oc 2 cc, .slice od db.length cd] 26))
                    obtain ⟨T9, hT⟩ : ∃ T, T = w34.heap.size := ⟨_, rfl⟩
                    rw [← hT] at KB
                    rw [← hT]
                    generalize w34.alloc (.cells #[.slice oc 2 cc, .slice od db.length cd] 26) = wa at *
                    clear hT O1 O2 Y5
                    have GA := Lib.hid (P8n.out _ _ GQ.out Y6.out)
                    have HQA := Lib.hid Y6.out.size
                    obtain ⟨⟨y2_0, y2_1⟩, _⟩ := P2t.out _ (P3f.out _ (P4f.out _ (P5f.out _ (P6f.out _ (P7f.out _ (P8f.out _ GA.out))))))
                    go_upto_region 20 with (go_at_call 17; (with_reducible refine (KCP.out _ _ _ (P2t.out _ (P3f.out _ (P4f.out _ (P5f.out _ (P6f.out _ (P7f.out _ (P8f.out _ GA.out))))))).2.1 (P2t.out _ (P3f.out _ (P4f.out _ (P5f.out _ (P6f.out _ (P7f.out _ (P8f.out _ GA.out))))))).2.2).mono ?_); rintro e w35 ⟨oc2, cc2, od2, cd2, rfl, h1, h2, hb⟩; have O3 := Lib.hid h1; have O4 := Lib.hid h2; have Y7 := Lib.hid hb; clear h1 h2 hb)
                    clear y2_0 y2_1
                    have KC := Lib.hid (Blk.new w35 26 #[.slice oc2 2 cc2, .slice od2 db.length cd2])
                    have PQ1 := Lib.hid (O3.out.alloc (.cells #[.slice oc2 2 cc2, .slice od2 db.length cd2] 26))
                    have PQ2 := Lib.hid (O4.out.alloc (.cells #[.slice oc2 2 cc2, .slice od2 db.length cd2] 26))
                    have Y8 := Lib.hid (Y7.out.alloc Y7.out.size (.cells #[.slice oc2 2 cc2, .slice od2 db.length cd2] 26))
                    have PR1 := Lib.hid (Below.keepOwn PP1.out Y8.out (Nat.le_refl _))
                    have PR2 := Lib.hid (Below.keepOwn PP2.out Y8.out (Nat.le_refl _))
                    have KB2 := Lib.hid (KB.out.below Y8.out KB.out.lt)
                    have Y9 := Lib.hid (Y6.out.trans (Y8.out.mono Y6.out.size))
                    have HGa : Hid (∀ g, (Value.slice od db.length cd).ownBlock = some g → g < wa.heap.size) := Lib.hid (fun g e => (PP2.out.lt g e).2)
                    have HTa : Hid (T9 < wa.heap.size) := Lib.hid KB.out.lt
                    obtain ⟨T10, hT⟩ : ∃ T, T = w35.heap.size := ⟨_, rfl⟩
                    rw [← hT] at KC
                    rw [← hT]
                    generalize w35.alloc (.cells #[.slice oc2 2 cc2, .slice od2 db.length cd2] 26) = wz at *
                    clear hT O3 O4 Y7 Y8 PP1 PP2 KB
                    go_wp2
                    go_loopw [20] (fun s20 wQ => ∃ (j : Nat) (L1 L2 : List Int), j ≤ db.length ∧ s20 = .int .i64 j ∧ Hid (L1.length = db.length ∧ (∀ i, i < j → L1.getD i 0 = (sc DV).getD i 0) ∧ ∀ i, j ≤ i → L1.getD i 0 = (sc V).getD i 0) ∧ Hid (L2.length = db.length ∧ (∀ i, i < j → L2.getD i 0 = (sc SV).getD i 0) ∧ ∀ i, j ≤ i → L2.getD i 0 = (sc V).getD i 0) ∧ Hid (wQ.ownsRow q1.heap.size 2 1 (.slice od db.length cd) db.length (ints L1)) ∧ Hid (wQ.ownsRow wa.heap.size 2 1 (.slice od2 db.length cd2) db.length (ints L2)) ∧ Hid (wQ.ownsRow q1.heap.size 3 1 (.slice oc 2 cc) 2 (ints [(n : Int), (c : Int)]) ∧ wQ.ownsRow wa.heap.size 3 1 (.slice oc2 2 cc2) 2 (ints [(n : Int), (c : Int)])) ∧ Hid (Blk wQ T9 26 #[.slice oc 2 cc, .slice od db.length cd]) ∧ Hid (Blk wQ T10 26 #[.slice oc2 2 cc2, .slice od2 db.length cd2]) ∧ Hid (Below q1.heap.size q1 wQ)) (fun s20 _ => db.length - (intOf s20).toNat)
                    case atStart => exact ⟨0, sc V, sc V, Nat.zero_le _, rfl, Lib.hid ⟨hlv, fun i hi => absurd hi (Nat.not_lt_zero _), fun i _ => rfl⟩, Lib.hid ⟨hlv, fun i hi => absurd hi (Nat.not_lt_zero _), fun i _ => rfl⟩, PR2, PQ2, Lib.hid ⟨PR1.out, PQ1.out⟩, KB2, KC, Y9⟩
                    case round =>
                      obtain ⟨j, L1, L2, hj, rfl, HL1, HL2, HO1, HO2, HI, HK1, HK2, HBB⟩ := hrel
                      obtain ⟨t0, t1, _⟩ := blk2 HK1.out
                      obtain ⟨u0, u1, _⟩ := blk2 HK2.out
                      by_cases hlt : j < db.length
                      · as_aux_lemma =>
                        clear hlv
                        obtain ⟨g, rfl⟩ := own_some HO1.out (by omega)
                        obtain ⟨g2, rfl⟩ := own_some HO2.out (by omega)
                        have hga := HGa.out g rfl
                        have hg2 := (HO2.out.lt g2 rfl).1
                        have gB : q1.heap.size ≤ g := (HO1.out.lt g rfl).1
                        have gT1 : ¬ T9 = g := fun e => tens_not_row HO1.out HK1.out (by decide) (by rw [e]; rfl)
                        have gT2 : ¬ T10 = g := fun e => tens_not_row HO1.out HK2.out (by decide) (by rw [e]; rfl)
                        have gT3 : ¬ T9 = g2 := fun e => tens_not_row HO2.out HK1.out (by decide) (by rw [e]; rfl)
                        have gT4 : ¬ T10 = g2 := fun e => tens_not_row HO2.out HK2.out (by decide) (by rw [e]; rfl)
                        have gg : g ≠ g2 := by omega
                        have qa := HQA.out
                        obtain ⟨a1, a2, y, z, e1, e1', e2, e2', e3, e4, e4', e5, e5', e6, e6', hz⟩ := dv_facts (j := j) (i := k) (by omega) hk6
                        have HF1 := Lib.hid (And.intro e1 (And.intro e1' (And.intro e2 (And.intro e2' (And.intro e3 (And.intro e4 (And.intro e4' (And.intro e5 (And.intro e5' (And.intro e6 e6'))))))))))
                        clear e1 e1' e2 e2' e3 e4 e4' e5 e5' e6 e6'
                        have hzz : Hid (z = (sc DV).getD j 0) := Lib.hid (by rw [hDVk.out j hlt]; exact hz.out)
                        have kc : wr.cell? ⟨g, j, none⟩ = some (.int .i64 (L1.getD j 0)) := by
                          have h1 := HO1.out
                          rw [← HL1.out.1] at h1
                          exact own_cell h1 (by have := HL1.out.1; omega)
                        have kf := own_frozen HO1.out j
                        generalize L1.getD j 0 = l0 at kc
                        have R1 := Lib.hid (own_put2 HO1.out HL1.out.1 hlt z)
                        have R2 := Lib.hid (HO2.out.kept (grown_set wr ⟨g, j, none⟩ (.int .i64 z)) (.inr (fun e => gg (by simpa [Value.ownBlock] using e.symm))))
                        have R3 := Lib.hid (And.intro (HI.out.1.kept (grown_set wr ⟨g, j, none⟩ (.int .i64 z)) (.inr (own_off HI.out.1 HO1.out (by decide)))) (HI.out.2.kept (grown_set wr ⟨g, j, none⟩ (.int .i64 z)) (.inr (own_off HI.out.2 HO1.out (by decide)))))
                        have R4 := Lib.hid (And.intro (HK1.out.far (p := ⟨g, j, none⟩) gT1 (.int .i64 z)) (HK2.out.far (p := ⟨g, j, none⟩) gT2 (.int .i64 z)))
                        have R5 := Lib.hid (HBB.out.setCell (p := ⟨g, j, none⟩) gB (.int .i64 z))
                        have hL1 : Hid ((L1.set j z).length = db.length ∧ (∀ i, i < j + 1 → (L1.set j z).getD i 0 = (sc DV).getD i 0) ∧ ∀ i, j + 1 ≤ i → (L1.set j z).getD i 0 = (sc V).getD i 0) := Lib.hid ⟨by rw [List.length_set]; exact HL1.out.1, fun i hi => by
                          by_cases e : j = i
                          · subst e; rw [set_getD_self (by have := HL1.out.1; omega)]; exact hzz.out
                          · rw [set_getD_ne e]; exact HL1.out.2.1 i (by omega), fun i hi => by
                          rw [set_getD_ne (by omega)]; exact HL1.out.2.2 i (by omega)⟩
                        have i1 : (j : Int) < (db.length : Int) := by omega
                        have wz1 : Hid ((wr.setCell ⟨g, j, none⟩ (.int .i64 z)).cell? ⟨g, j, none⟩ = some (.int .i64 z)) := Lib.hid (by
                          have h1 := R1.out
                          rw [← hL1.out.1] at h1
                          have q := own_cell h1 (i := j) (by have := hL1.out.1; omega)
                          rwa [set_getD_self (by have := HL1.out.1; omega)] at q)
                        clear gT1 gT2 gB hga hg2 qa hz
                        obtain ⟨e1, e1', e2, e2', e3, e4, e4', e5, e5', e6, e6'⟩ := HF1.out
                        go_upto_region 24 with fail
                        clear e1 e1' e2 e2' e3 e4 e4' e5 e5' e6 e6' HF1 kc kf t0 t1 u0 u1
                        generalize wr.setCell ⟨g, j, none⟩ (.int .i64 z) = wn at *
                        have GN := Lib.hid (P8n.out _ _ GQ.out R5.out)
                        obtain ⟨t0, t1, _⟩ := blk2 R4.out.1
                        obtain ⟨u0, u1, _⟩ := blk2 R4.out.2
                        obtain ⟨⟨y2_0, y2_1⟩, _⟩ := P2t.out _ (P3f.out _ (P4f.out _ (P5f.out _ (P6f.out _ (P7f.out _ (P8f.out _ GN.out))))))
                        obtain ⟨gb, fb, rfl, zb⟩ := ld_at (P2t.out _ (P3f.out _ (P4f.out _ (P5f.out _ (P6f.out _ (P7f.out _ (P8f.out _ GN.out))))))).2.2 (k := j) (by rw [sc_len]; have := HVL.out.1; omega)
                        have zz := wz1.out
                        have kc : wn.cell? ⟨g2, j, none⟩ = some (.int .i64 (L2.getD j 0)) := by
                          have h1 := R2.out
                          rw [← HL2.out.1] at h1
                          exact own_cell h1 (by have := HL2.out.1; omega)
                        have kf := own_frozen R2.out j
                        generalize L2.getD j 0 = l2 at kc
                        obtain ⟨x, hx⟩ : ∃ x, x = (sc V).getD j 0 := ⟨_, rfl⟩
                        rw [← hx] at zb
                        obtain ⟨s, hs⟩ : ∃ s, s = x + z := ⟨_, rfl⟩
                        have hsv : Hid (s = (sc SV).getD j 0) := Lib.hid (by rw [hs, hx, hzz.out, sc_at, sc_at, sc_at]; have := HBV.out.2.2 j; omega)
                        have HF2 := Lib.hid (sum_facts hs (by rw [hx, sc_at]; have := HBV.out.1 j; omega) (by rw [hzz.out, sc_at]; have := HBV.out.2.1 j; omega))
                        have gB2 : q1.heap.size ≤ g2 := by have := (R2.out.lt g2 rfl).1; have := HQA.out; omega
                        have R21 := Lib.hid (own_put2 R2.out HL2.out.1 hlt s)
                        have R22 := Lib.hid (R1.out.kept (grown_set wn ⟨g2, j, none⟩ (.int .i64 s)) (.inr (fun e => gg (by simpa [Value.ownBlock] using e))))
                        have R23 := Lib.hid (And.intro (R3.out.1.kept (grown_set wn ⟨g2, j, none⟩ (.int .i64 s)) (.inr (own_off R3.out.1 R2.out (by decide)))) (R3.out.2.kept (grown_set wn ⟨g2, j, none⟩ (.int .i64 s)) (.inr (own_off R3.out.2 R2.out (by decide)))))
                        have R24 := Lib.hid (And.intro (R4.out.1.far (p := ⟨g2, j, none⟩) gT3 (.int .i64 s)) (R4.out.2.far (p := ⟨g2, j, none⟩) gT4 (.int .i64 s)))
                        have R25 := Lib.hid (R5.out.setCell (p := ⟨g2, j, none⟩) gB2 (.int .i64 s))
                        have hL2 : Hid ((L2.set j s).length = db.length ∧ (∀ i, i < j + 1 → (L2.set j s).getD i 0 = (sc SV).getD i 0) ∧ ∀ i, j + 1 ≤ i → (L2.set j s).getD i 0 = (sc V).getD i 0) := Lib.hid ⟨by rw [List.length_set]; exact HL2.out.1, fun i hi => by
                          by_cases e : j = i
                          · subst e; rw [set_getD_self (by have := HL2.out.1; omega)]; exact hsv.out
                          · rw [set_getD_ne e]; exact HL2.out.2.1 i (by omega), fun i hi => by
                          rw [set_getD_ne (by omega)]; exact HL2.out.2.2 i (by omega)⟩
                        clear hx hs gT3 gT4 gg gB2
                        obtain ⟨e1, e2⟩ := HF2.out
                        go_region
                        go_wp2
                        clear e1 e2
                        exact ⟨⟨j + 1, L1.set j z, L2.set j s, by omega, by go_num, hL1, hL2, Lib.hid (R22.out.drew), Lib.hid (R21.out.drew), Lib.hid ⟨R23.out.1.drew, R23.out.2.drew⟩, Lib.hid R24.out.1, Lib.hid R24.out.2, Lib.hid (below_drw R25.out 1)⟩, by simp [intOf]; omega⟩
                      · as_aux_lemma =>
                        obtain rfl : j = db.length := by omega
                        have e1 : L1 = sc DV := ext_getD (by rw [sc_len, HVL.out.2.1]; exact HL1.out.1) (fun i hi => HL1.out.2.1 i (by have := HL1.out.1; omega))
                        have e2 : L2 = sc SV := ext_getD (by rw [sc_len, HVL.out.2.2]; exact HL2.out.1) (fun i hi => HL2.out.2.1 i (by have := HL2.out.1; omega))
                        subst e1 e2
                        have HQ1 := Lib.hid (And.intro (Ld.of_own' (ls := [(n : Int), (c : Int)]) HI.out.1 rfl) (Ld.of_own' HO1.out HL1.out.1))
                        have HQ2 := Lib.hid (And.intro (Ld.of_own' (ls := [(n : Int), (c : Int)]) HI.out.2 rfl) (Ld.of_own' HO2.out HL2.out.1))
                        obtain ⟨v9, hv9⟩ : ∃ v, v = wr := ⟨_, rfl⟩
                        rw [← hv9] at HQ1 HQ2 HK1 HK2 HBB t0 t1 u0 u1
                        rw [← hv9]
                        have GQ9 := Lib.hid (P8n.out _ _ GQ.out HBB.out)
                        clear hv9 HO1 HO2 HI HL1 HL2 hlt hlv
                        obtain ⟨P9, hP⟩ : ∃ P : World → Prop, P = fun W => P8 W ∧ Blk W T9 26 #[.slice oc 2 cc, .slice od db.length cd] ∧ Ld W (.slice oc 2 cc) ([(n : Int), (c : Int)]) ∧ Ld W (.slice od db.length cd) (sc DV) := ⟨_, rfl⟩
                        have G9 : Hid (P9 v9) := Lib.hid (by rw [hP]; exact ⟨GQ9.out, HK1.out, HQ1.out.1, HQ1.out.2⟩)
                        have P9f : Hid (∀ W, P9 W → P8 W) := Lib.hid (fun W h => by rw [hP] at h; exact h.1)
                        have P9n : Hid (∀ W W', P9 W → Below W.heap.size W W' → P9 W') := Lib.hid (fun W W' h hb => by rw [hP] at h ⊢; exact ⟨P8n.out _ _ h.1 hb, h.2.1.below hb h.2.1.lt, h.2.2.1.below hb, h.2.2.2.below hb⟩)
                        have P9t : Hid (∀ W, P9 W → (W.cell? ⟨T9, 0, none⟩ = some (.slice oc 2 cc) ∧ W.cell? ⟨T9, 1, none⟩ = some (.slice od db.length cd)) ∧ Ld W (.slice oc 2 cc) ([(n : Int), (c : Int)]) ∧ Ld W (.slice od db.length cd) (sc DV)) := Lib.hid (fun W h => by rw [hP] at h; exact ⟨⟨(blk2 h.2.1).1, (blk2 h.2.1).2.1⟩, h.2.2⟩)
                        clear hP
                        obtain ⟨P10, hP⟩ : ∃ P : World → Prop, P = fun W => P9 W ∧ Blk W T10 26 #[.slice oc2 2 cc2, .slice od2 db.length cd2] ∧ Ld W (.slice oc2 2 cc2) ([(n : Int), (c : Int)]) ∧ Ld W (.slice od2 db.length cd2) (sc SV) := ⟨_, rfl⟩
                        have G10 : Hid (P10 v9) := Lib.hid (by rw [hP]; exact ⟨G9.out, HK2.out, HQ2.out.1, HQ2.out.2⟩)
                        have P10f : Hid (∀ W, P10 W → P9 W) := Lib.hid (fun W h => by rw [hP] at h; exact h.1)
                        have P10n : Hid (∀ W W', P10 W → Below W.heap.size W W' → P10 W') := Lib.hid (fun W W' h hb => by rw [hP] at h ⊢; exact ⟨P9n.out _ _ h.1 hb, h.2.1.below hb h.2.1.lt, h.2.2.1.below hb, h.2.2.2.below hb⟩)
                        have P10t : Hid (∀ W, P10 W → (W.cell? ⟨T10, 0, none⟩ = some (.slice oc2 2 cc2) ∧ W.cell? ⟨T10, 1, none⟩ = some (.slice od2 db.length cd2)) ∧ Ld W (.slice oc2 2 cc2) ([(n : Int), (c : Int)]) ∧ Ld W (.slice od2 db.length cd2) (sc SV)) := Lib.hid (fun W h => by rw [hP] at h; exact ⟨⟨(blk2 h.2.1).1, (blk2 h.2.1).2.1⟩, h.2.2⟩)
                        clear hP
                        clear GQ9 HK1 HK2 HQ1 HQ2 HBB G9 GQ GA
                        obtain ⟨⟨y1_0, y1_1⟩, _⟩ := P1t.out _ (P2f.out _ (P3f.out _ (P4f.out _ (P5f.out _ (P6f.out _ (P7f.out _ (P8f.out _ (P9f.out _ (P10f.out _ G10.out)))))))))
                        obtain ⟨⟨y10_0, y10_1⟩, _⟩ := P10t.out _ G10.out
                        go_upto_region 26 with (go_at_call 18; (with_reducible refine (K11.out _ _ _ _ _ (P1t.out _ (P2f.out _ (P3f.out _ (P4f.out _ (P5f.out _ (P6f.out _ (P7f.out _ (P8f.out _ (P9f.out _ (P10f.out _ G10.out)))))))))).2.1 (P1t.out _ (P2f.out _ (P3f.out _ (P4f.out _ (P5f.out _ (P6f.out _ (P7f.out _ (P8f.out _ (P9f.out _ (P10f.out _ G10.out)))))))))).2.2 (P10t.out _ G10.out).2.1 (P10t.out _ G10.out).2.2).mono ?_); rintro e wz11 ⟨os11, cs11, od11, cd11, rfl, h1, h2, hb⟩; have U11 := Lib.hid (And.intro (P10n.out _ _ G10.out hb) (And.intro h1 h2)); clear h1 h2 hb)
                        obtain ⟨v11, hv⟩ : ∃ v, v = wz11.alloc (.cells #[.slice os11 2 cs11, .slice od11 mRC cd11] 26) := ⟨_, rfl⟩
                        obtain ⟨T11, hT⟩ : ∃ T, T = wz11.heap.size := ⟨_, rfl⟩
                        rw [← hv, ← hT]
                        obtain ⟨P11, hP⟩ : ∃ P : World → Prop, P = fun W => P10 W ∧ Blk W T11 26 #[.slice os11 2 cs11, .slice od11 mRC cd11] ∧ Ld W (.slice os11 2 cs11) ([(r : Int), (c : Int)]) ∧ Ld W (.slice od11 mRC cd11) (sc XS) := ⟨_, rfl⟩
                        have G11 : Hid (P11 v11) := Lib.hid (by rw [hP]; exact ⟨by rw [hv]; exact P10n.out _ _ U11.out.1 (al_below _), by rw [hv, hT]; exact Blk.new _ _ _, by rw [hv]; exact U11.out.2.1.below (al_below _), by rw [hv]; exact U11.out.2.2.below (al_below _)⟩)
                        have P11f : Hid (∀ W, P11 W → P10 W) := Lib.hid (fun W h => by rw [hP] at h; exact h.1)
                        have P11n : Hid (∀ W W', P11 W → Below W.heap.size W W' → P11 W') := Lib.hid (fun W W' h hb => by rw [hP] at h ⊢; exact ⟨P10n.out _ _ h.1 hb, h.2.1.below hb h.2.1.lt, h.2.2.1.below hb, h.2.2.2.below hb⟩)
                        have P11t : Hid (∀ W, P11 W → (W.cell? ⟨T11, 0, none⟩ = some (.slice os11 2 cs11) ∧ W.cell? ⟨T11, 1, none⟩ = some (.slice od11 mRC cd11)) ∧ Ld W (.slice os11 2 cs11) ([(r : Int), (c : Int)]) ∧ Ld W (.slice od11 mRC cd11) (sc XS)) := Lib.hid (fun W h => by rw [hP] at h; exact ⟨⟨(blk2 h.2.1).1, (blk2 h.2.1).2.1⟩, h.2.2⟩)
                        clear hP
                        clear hv hT U11 y1_0 y1_1 y10_0 y10_1 t0 t1 u0 u1
                        obtain ⟨⟨y1_0, y1_1⟩, _⟩ := P1t.out _ (P2f.out _ (P3f.out _ (P4f.out _ (P5f.out _ (P6f.out _ (P7f.out _ (P8f.out _ (P9f.out _ (P10f.out _ (P11f.out _ G11.out))))))))))
                        obtain ⟨⟨y9_0, y9_1⟩, _⟩ := P9t.out _ (P10f.out _ (P11f.out _ G11.out))
                        go_upto_region 27 with (go_at_call 18; (with_reducible refine (K12.out _ _ _ _ _ (P1t.out _ (P2f.out _ (P3f.out _ (P4f.out _ (P5f.out _ (P6f.out _ (P7f.out _ (P8f.out _ (P9f.out _ (P10f.out _ (P11f.out _ G11.out))))))))))).2.1 (P1t.out _ (P2f.out _ (P3f.out _ (P4f.out _ (P5f.out _ (P6f.out _ (P7f.out _ (P8f.out _ (P9f.out _ (P10f.out _ (P11f.out _ G11.out))))))))))).2.2 (P9t.out _ (P10f.out _ (P11f.out _ G11.out))).2.1 (P9t.out _ (P10f.out _ (P11f.out _ G11.out))).2.2).mono ?_); rintro e wz12 ⟨os12, cs12, od12, cd12, rfl, h1, h2, hb⟩; have U12 := Lib.hid (And.intro (P11n.out _ _ G11.out hb) (And.intro h1 h2)); clear h1 h2 hb)
                        obtain ⟨v12, hv⟩ : ∃ v, v = wz12.alloc (.cells #[.slice os12 2 cs12, .slice od12 mRC cd12] 26) := ⟨_, rfl⟩
                        obtain ⟨T12, hT⟩ : ∃ T, T = wz12.heap.size := ⟨_, rfl⟩
                        rw [← hv, ← hT]
                        obtain ⟨P12, hP⟩ : ∃ P : World → Prop, P = fun W => P11 W ∧ Blk W T12 26 #[.slice os12 2 cs12, .slice od12 mRC cd12] ∧ Ld W (.slice os12 2 cs12) ([(r : Int), (c : Int)]) ∧ Ld W (.slice od12 mRC cd12) (sc YD) := ⟨_, rfl⟩
                        have G12 : Hid (P12 v12) := Lib.hid (by rw [hP]; exact ⟨by rw [hv]; exact P11n.out _ _ U12.out.1 (al_below _), by rw [hv, hT]; exact Blk.new _ _ _, by rw [hv]; exact U12.out.2.1.below (al_below _), by rw [hv]; exact U12.out.2.2.below (al_below _)⟩)
                        have P12f : Hid (∀ W, P12 W → P11 W) := Lib.hid (fun W h => by rw [hP] at h; exact h.1)
                        have P12n : Hid (∀ W W', P12 W → Below W.heap.size W W' → P12 W') := Lib.hid (fun W W' h hb => by rw [hP] at h ⊢; exact ⟨P11n.out _ _ h.1 hb, h.2.1.below hb h.2.1.lt, h.2.2.1.below hb, h.2.2.2.below hb⟩)
                        have P12t : Hid (∀ W, P12 W → (W.cell? ⟨T12, 0, none⟩ = some (.slice os12 2 cs12) ∧ W.cell? ⟨T12, 1, none⟩ = some (.slice od12 mRC cd12)) ∧ Ld W (.slice os12 2 cs12) ([(r : Int), (c : Int)]) ∧ Ld W (.slice od12 mRC cd12) (sc YD)) := Lib.hid (fun W h => by rw [hP] at h; exact ⟨⟨(blk2 h.2.1).1, (blk2 h.2.1).2.1⟩, h.2.2⟩)
                        clear hP
                        clear hv hT U12 y1_0 y1_1 y9_0 y9_1
                        obtain ⟨⟨y5_0, y5_1⟩, _⟩ := P5t.out _ (P6f.out _ (P7f.out _ (P8f.out _ (P9f.out _ (P10f.out _ (P11f.out _ (P12f.out _ G12.out)))))))
                        obtain ⟨⟨y11_0, y11_1⟩, _⟩ := P11t.out _ (P12f.out _ G12.out)
                        obtain ⟨⟨y12_0, y12_1⟩, _⟩ := P12t.out _ G12.out
                        go_wp2_with (go_at_call 15; (with_reducible refine (num10_any _ _).mono ?_); rintro e w' ⟨rfl, rfl⟩)
                        go_loopw [25] (fun s25 wQ => ∃ m : Nat, m ≤ mRC ∧ s25 = .int .i64 m ∧ Hid (P12 wQ)) (fun s25 _ => mRC - (intOf s25).toNat)
                        case atStart => exact ⟨0, Nat.zero_le _, rfl, G12⟩
                        case round =>
                          obtain ⟨m, hm, rfl, HG⟩ := hrel
                          clear y5_0 y5_1 y11_0 y11_1 y12_0 y12_1
                          obtain ⟨⟨y5_0, y5_1⟩, _⟩ := P5t.out _ (P6f.out _ (P7f.out _ (P8f.out _ (P9f.out _ (P10f.out _ (P11f.out _ (P12f.out _ HG.out)))))))
                          obtain ⟨⟨y11_0, y11_1⟩, _⟩ := P11t.out _ (P12f.out _ HG.out)
                          obtain ⟨⟨y12_0, y12_1⟩, _⟩ := P12t.out _ HG.out
                          by_cases hlt : m < mRC
                          · as_aux_lemma =>
                            obtain ⟨g3, f3, rfl, z3⟩ := ld_at (P11t.out _ (P12f.out _ HG.out)).2.2 (k := m) (by rw [HXY.out.1]; exact hlt)
                            obtain ⟨g4, f4, rfl, z4⟩ := ld_at (P12t.out _ HG.out).2.2 (k := m) (by rw [HXY.out.2.1]; exact hlt)
                            obtain ⟨g5, f5, rfl, z5⟩ := ld_at (P5t.out _ (P6f.out _ (P7f.out _ (P8f.out _ (P9f.out _ (P10f.out _ (P11f.out _ (P12f.out _ HG.out)))))))).2.2 (k := m) (by rw [HXY.out.2.2.1]; exact hlt)
                            obtain ⟨hx, b1, b2⟩ := HXY.out.2.2.2 m
                            have HF3 := Lib.hid (sum_facts2 hx (by omega) (by omega))
                            clear b1 b2 hx
                            generalize (sc XS).getD m 0 = x at *
                            generalize (sc YD).getD m 0 = y at *
                            generalize (sc AB).getD m 0 = z at *
                            have bx : (x != x) = false := by simp
                            have i1 : (m : Int) < (mRC : Int) := by omega
                            obtain ⟨e1, e2⟩ := HF3.out
                            go_wp2
                            go_quiet (fail)
                            go_wp2
                            clear e1 e2
                            exact ⟨⟨m + 1, by omega, by go_num, Lib.hid (P12n.out _ _ HG.out (below_drw (Below.refl _ _) _))⟩, by simp [intOf]; omega⟩
                          · as_aux_lemma =>
                            obtain rfl : m = mRC := by omega
                            clear hlt
                            go_wp2
                            exact ⟨⟨k + 1, by omega, by go_num, hB.trans ((FRb.out _ (P1f.out _ (P2f.out _ (P3f.out _ (P4f.out _ (P5f.out _ (P6f.out _ (P7f.out _ (P8f.out _ (P9f.out _ (P10f.out _ (P11f.out _ (P12f.out _ HG.out))))))))))))).mono hBs)⟩, by simp [intOf]; omega⟩
                · as_aux_lemma =>
                  have hz7 : ((n : Int) != (x : Int)) = true := by rw [bne_iff_ne]; omega
                  clear ta tb hrn hxc hnx hr hz
                  have KS : Hid (∀ W, FR W → W.cell? ⟨w1.heap.size, 0, none⟩ = some (.slice (some ⟨gA, fA, none⟩) sa.length cA) ∧ W.cell? ⟨w1.heap.size, 1, none⟩ = some (.slice oX da.length cX) ∧ W.cell? ⟨w1.heap.size, 2, none⟩ = some (.slice (some ⟨gB, fB, none⟩) sb.length cB) ∧ W.cell? ⟨w1.heap.size, 3, none⟩ = some (.slice oY db.length cY) ∧ W.cell? ⟨gA, fA + 1, none⟩ = some (.int .i64 (n : Int)) ∧ W.cell? ⟨gB, fB, none⟩ = some (.int .i64 (x : Int))) := Lib.hid (fun W h => ⟨(FRk.out _ h).1, (FRk.out _ h).2.1, (FRk.out _ h).2.2.1, (FRk.out _ h).2.2.2.1, (HSA.out _ h).1, (HSA.out _ h).2⟩)
                  go_upto_region 7 with (go_at_call 11; (with_reducible refine (LG.out _ (K0.out _)).mono ?_); rintro e w2 ⟨rfl, hb2⟩; have F2 := Lib.hid (FRs.out _ hb2); obtain ⟨x0, x1, x2, x3, x4⟩ := FRk.out _ F2.out; clear hb2)
                  clear x0 x1 x2 x3 x4
                  go_cut [78] (fun s78 wx => s78 = .bool true ∧ Hid (FR wx))
                  case first =>
                    as_aux_lemma =>
                    have B_0 : Hid (FR w2.drew) := Lib.hid (FRn.out _ _ F2.out (below_drw (Below.refl _ _) 1))
                    refine wp_region_held_drew (S := fun W => W.cell? ⟨w1.heap.size, 0, none⟩ = some (.slice (some ⟨gA, fA, none⟩) sa.length cA) ∧ W.cell? ⟨w1.heap.size, 1, none⟩ = some (.slice oX da.length cX) ∧ W.cell? ⟨w1.heap.size, 2, none⟩ = some (.slice (some ⟨gB, fB, none⟩) sb.length cB) ∧ W.cell? ⟨w1.heap.size, 3, none⟩ = some (.slice oY db.length cY) ∧ W.cell? ⟨gA, fA + 1, none⟩ = some (.int .i64 (n : Int)) ∧ W.cell? ⟨gB, fB, none⟩ = some (.int .i64 (x : Int))) (by kernel_rfl) ?_ (fun hHeld => ?_)
                    · exact KS.out _ B_0.out
                    have hHd := hHeld
                    generalize w2.drew = w_0 at *
                    (refine wpAnyH_take (i := 0) (oi := ⟨some 42, _, _, _, _, _⟩) (v := ?v0_z4t1) rfl (by kernel_rfl) (by kernel_rfl) (by kernel_rfl) (fun _ _ _ h => h) (Or.inl ⟨by rfl, ?hy0_z4t1⟩) (by assumption) ?rest0_z4t1; (case hy0_z4t1 => ((intro w hSw); (try dsimp only at hSw); go_simp; first | done | (with_reducible rfl))))
                    (try simp only [Act.put, List.setIfInBounds_toArray, List.set_cons_zero, List.set_cons_succ])
                    (refine wpAnyH_take (i := 1) (oi := ⟨some 43, _, _, _, _, _⟩) (v := ?v1_z4t2) rfl (by kernel_rfl) (by kernel_rfl) (by kernel_rfl) (fun _ _ _ h => h) (Or.inl ⟨by rfl, ?hy1_z4t2⟩) (by assumption) ?rest1_z4t2; (case hy1_z4t2 => ((intro w hSw); (try dsimp only at hSw); go_simp; first | done | (with_reducible rfl))))
                    (try simp only [Act.put, List.setIfInBounds_toArray, List.set_cons_zero, List.set_cons_succ])
                    refine wpAnyH_ready (rs := [2]) (by kernel_rfl) (by simp) ?_
                    refine AllReadyH.cons (o := ⟨some 44, _, _, _, _, _⟩) rfl (fun K hK => ?_) (AllReadyH.nil)
                    go_simp
                    (go_at_call 12; (with_reducible refine (KMA.out _ (FRb.out _ B_0.out)).mono ?_); rintro e w_m1 ⟨rfl, hb⟩; have B_m1 := Lib.hid (FRn.out _ _ B_0.out hb); clear hb)
                    refine hK.out _ _ ?_ (fun hHeld => ?_)
                    · (try dsimp only)
                      exact KS.out _ B_m1.out
                    clear hK K
                    (try simp only [Act.put, List.setIfInBounds_toArray, List.set_cons_zero, List.set_cons_succ])
                    (refine wpAnyH_take (i := 3) (oi := ⟨some 45, _, _, _, _, _⟩) (v := ?v3_z4t3) rfl (by kernel_rfl) (by kernel_rfl) (by kernel_rfl) (fun _ _ _ h => h) (Or.inl ⟨by rfl, ?hy3_z4t3⟩) (by assumption) ?rest3_z4t3; (case hy3_z4t3 => ((intro w hSw); (try dsimp only at hSw); go_simp; first | done | (with_reducible rfl))))
                    (try simp only [Act.put, List.setIfInBounds_toArray, List.set_cons_zero, List.set_cons_succ])
                    (refine wpAnyH_take (i := 4) (oi := ⟨some 46, _, _, _, _, _⟩) (v := .bool false) rfl (by kernel_rfl) (by kernel_rfl) (by kernel_rfl) (fun _ _ _ h => h) (Or.inl ⟨by rfl, ?hy4_z4t4⟩) (by assumption) ?rest4_z4t4; (case hy4_z4t4 => ((intro w hSw); (try dsimp only at hSw); go_simp; first | done | (with_reducible rfl))))
                    (try simp only [Act.put, List.setIfInBounds_toArray, List.set_cons_zero, List.set_cons_succ])
                    (refine wpAnyH_take (i := 5) (oi := ⟨some 47, _, _, _, _, _⟩) (v := ?v5_z4t5) rfl (by kernel_rfl) (by kernel_rfl) (by kernel_rfl) (fun _ _ _ h => h) (Or.inl ⟨by rfl, ?hy5_z4t5⟩) (by assumption) ?rest5_z4t5; (case hy5_z4t5 => ((intro w hSw); (try dsimp only at hSw); go_simp; first | done | (with_reducible rfl))))
                    (try simp only [Act.put, List.setIfInBounds_toArray, List.set_cons_zero, List.set_cons_succ])
                    (refine wpAnyH_take (i := 6) (oi := ⟨some 48, _, _, _, _, _⟩) (v := ?v6_z4t6) rfl (by kernel_rfl) (by kernel_rfl) (by kernel_rfl) (fun _ _ _ h => h) (Or.inl ⟨by rfl, ?hy6_z4t6⟩) (by assumption) ?rest6_z4t6; (case hy6_z4t6 => ((intro w hSw); (try dsimp only at hSw); go_simp; first | done | (with_reducible rfl))))
                    (try simp only [Act.put, List.setIfInBounds_toArray, List.set_cons_zero, List.set_cons_succ])
                    refine wpAnyH_ready (rs := [7]) (by kernel_rfl) (by simp) ?_
                    refine AllReadyH.cons (o := ⟨some 49, _, _, _, _, _⟩) rfl (fun K hK => ?_) (AllReadyH.nil)
                    go_simp
                    (go_at_call 12; (with_reducible refine (KMB.out _ (FRb.out _ B_m1.out)).mono ?_); rintro e w_m2 ⟨rfl, hb⟩; have B_m2 := Lib.hid (FRn.out _ _ B_m1.out hb); clear hb)
                    refine hK.out _ _ ?_ (fun hHeld => ?_)
                    · (try dsimp only)
                      exact KS.out _ B_m2.out
                    clear hK K
                    (try simp only [Act.put, List.setIfInBounds_toArray, List.set_cons_zero, List.set_cons_succ])
                    (refine wpAnyH_take (i := 8) (oi := ⟨some 50, _, _, _, _, _⟩) (v := ?v8_z4t7) rfl (by kernel_rfl) (by kernel_rfl) (by kernel_rfl) (fun _ _ _ h => h) (Or.inl ⟨by rfl, ?hy8_z4t7⟩) (by assumption) ?rest8_z4t7; (case hy8_z4t7 => ((intro w hSw); (try dsimp only at hSw); go_simp; first | done | (with_reducible rfl))))
                    (try simp only [Act.put, List.setIfInBounds_toArray, List.set_cons_zero, List.set_cons_succ])
                    (refine wpAnyH_take (i := 9) (oi := ⟨some 51, _, _, _, _, _⟩) (v := ?v9_z4t8) rfl (by kernel_rfl) (by kernel_rfl) (by kernel_rfl) (fun _ _ _ h => h) (Or.inl ⟨by rfl, ?hy9_z4t8⟩) (by assumption) ?rest9_z4t8; (case hy9_z4t8 => ((intro w hSw); (try dsimp only at hSw); go_simp; first | done | (with_reducible rfl))))
                    (try simp only [Act.put, List.setIfInBounds_toArray, List.set_cons_zero, List.set_cons_succ])
                    (refine wpAnyH_take (i := 10) (oi := ⟨some 52, _, _, _, _, _⟩) (v := .bool false) rfl (by kernel_rfl) (by kernel_rfl) (by kernel_rfl) (fun _ _ _ h => h) (Or.inl ⟨by rfl, ?hy10_z4t9⟩) (by assumption) ?rest10_z4t9; (case hy10_z4t9 => ((intro w hSw); (try dsimp only at hSw); go_simp; first | done | (with_reducible rfl))))
                    (try simp only [Act.put, List.setIfInBounds_toArray, List.set_cons_zero, List.set_cons_succ])
                    (refine wpAnyH_take (i := 11) (oi := ⟨some 53, _, _, _, _, _⟩) (v := ?v11_z4t10) rfl (by kernel_rfl) (by kernel_rfl) (by kernel_rfl) (fun _ _ _ h => h) (Or.inl ⟨by rfl, ?hy11_z4t10⟩) (by assumption) ?rest11_z4t10; (case hy11_z4t10 => ((intro w hSw); (try dsimp only at hSw); go_simp; first | done | (with_reducible rfl))))
                    (try simp only [Act.put, List.setIfInBounds_toArray, List.set_cons_zero, List.set_cons_succ])
                    (refine wpAnyH_take (i := 12) (oi := ⟨some 54, _, _, _, _, _⟩) (v := ?v12_z4t11) rfl (by kernel_rfl) (by kernel_rfl) (by kernel_rfl) (fun _ _ _ h => h) (Or.inl ⟨by rfl, ?hy12_z4t11⟩) (by assumption) ?rest12_z4t11; (case hy12_z4t11 => ((intro w hSw); (try dsimp only at hSw); go_simp; first | done | (with_reducible rfl))))
                    (try simp only [Act.put, List.setIfInBounds_toArray, List.set_cons_zero, List.set_cons_succ])
                    (refine wpAnyH_take (i := 13) (oi := ⟨some 55, _, _, _, _, _⟩) (v := ?v13_z4t12) rfl (by kernel_rfl) (by kernel_rfl) (by kernel_rfl) (fun _ _ _ h => h) (Or.inl ⟨by rfl, ?hy13_z4t12⟩) (by assumption) ?rest13_z4t12; (case hy13_z4t12 => ((intro w hSw); (try dsimp only at hSw); go_simp; first | done | (with_reducible rfl))))
                    (try simp only [Act.put, List.setIfInBounds_toArray, List.set_cons_zero, List.set_cons_succ])
                    (refine wpAnyH_take (i := 14) (oi := ⟨some 56, _, _, _, _, _⟩) (v := ?v14_z4t13) rfl (by kernel_rfl) (by kernel_rfl) (by kernel_rfl) (fun _ _ _ h => h) (Or.inl ⟨by rfl, ?hy14_z4t13⟩) (by assumption) ?rest14_z4t13; (case hy14_z4t13 => ((intro w hSw); (try dsimp only at hSw); go_simp; first | done | (with_reducible rfl))))
                    (try simp only [Act.put, List.setIfInBounds_toArray, List.set_cons_zero, List.set_cons_succ])
                    (refine wpAnyH_take (i := 15) (oi := ⟨some 57, _, _, _, _, _⟩) (v := ?v15_z4t14) rfl (by kernel_rfl) (by kernel_rfl) (by kernel_rfl) (fun _ _ _ h => h) (Or.inl ⟨by rfl, ?hy15_z4t14⟩) (by assumption) ?rest15_z4t14; (case hy15_z4t14 => ((intro w hSw); (try dsimp only at hSw); go_simp; first | done | (with_reducible rfl))))
                    (try simp only [Act.put, List.setIfInBounds_toArray, List.set_cons_zero, List.set_cons_succ])
                    (refine wpAnyH_take (i := 16) (oi := ⟨some 58, _, _, _, _, _⟩) (v := ?v16_z4t15) rfl (by kernel_rfl) (by kernel_rfl) (by kernel_rfl) (fun _ _ _ h => h) (Or.inl ⟨by rfl, ?hy16_z4t15⟩) (by assumption) ?rest16_z4t15; (case hy16_z4t15 => ((intro w hSw); (try dsimp only at hSw); go_simp; first | done | (with_reducible rfl))))
                    (try simp only [Act.put, List.setIfInBounds_toArray, List.set_cons_zero, List.set_cons_succ])
                    (refine wpAnyH_take (i := 17) (oi := ⟨some 59, _, _, _, _, _⟩) (v := .bool false) rfl (by kernel_rfl) (by kernel_rfl) (by kernel_rfl) (fun _ _ _ h => h) (Or.inl ⟨by rfl, ?hy17_z4t16⟩) (by assumption) ?rest17_z4t16; (case hy17_z4t16 => ((intro w hSw); (try dsimp only at hSw); go_simp; first | done | (with_reducible rfl))))
                    (try simp only [Act.put, List.setIfInBounds_toArray, List.set_cons_zero, List.set_cons_succ])
                    (refine wpAnyH_take (i := 18) (oi := ⟨some 60, _, _, _, _, _⟩) (v := ?v18_z4t17) rfl (by kernel_rfl) (by kernel_rfl) (by kernel_rfl) (fun _ _ _ h => h) (Or.inl ⟨by rfl, ?hy18_z4t17⟩) (by assumption) ?rest18_z4t17; (case hy18_z4t17 => ((intro w hSw); (try dsimp only at hSw); go_simp; first | done | (with_reducible rfl))))
                    (try simp only [Act.put, List.setIfInBounds_toArray, List.set_cons_zero, List.set_cons_succ])
                    (refine wpAnyH_take (i := 19) (oi := ⟨some 61, _, _, _, _, _⟩) (v := ?v19_z4t18) rfl (by kernel_rfl) (by kernel_rfl) (by kernel_rfl) (fun _ _ _ h => h) (Or.inl ⟨by rfl, ?hy19_z4t18⟩) (by assumption) ?rest19_z4t18; (case hy19_z4t18 => ((intro w hSw); (try dsimp only at hSw); go_simp; first | done | (with_reducible rfl))))
                    (try simp only [Act.put, List.setIfInBounds_toArray, List.set_cons_zero, List.set_cons_succ])
                    (refine wpAnyH_take (i := 20) (oi := ⟨some 62, _, _, _, _, _⟩) (v := ?v20_z4t19) rfl (by kernel_rfl) (by kernel_rfl) (by kernel_rfl) (fun _ _ _ h => h) (Or.inl ⟨by rfl, ?hy20_z4t19⟩) (by assumption) ?rest20_z4t19; (case hy20_z4t19 => ((intro w hSw); (try dsimp only at hSw); go_simp; first | done | (with_reducible rfl))))
                    (try simp only [Act.put, List.setIfInBounds_toArray, List.set_cons_zero, List.set_cons_succ])
                    (refine wpAnyH_take (i := 21) (oi := ⟨some 63, _, _, _, _, _⟩) (v := ?v21_z4t20) rfl (by kernel_rfl) (by kernel_rfl) (by kernel_rfl) (fun _ _ _ h => h) (Or.inl ⟨by rfl, ?hy21_z4t20⟩) (by assumption) ?rest21_z4t20; (case hy21_z4t20 => ((intro w hSw); (try dsimp only at hSw); go_simp; first | done | (with_reducible rfl))))
                    (try simp only [Act.put, List.setIfInBounds_toArray, List.set_cons_zero, List.set_cons_succ])
                    (refine wpAnyH_take (i := 22) (oi := ⟨some 64, _, _, _, _, _⟩) (v := ?v22_z4t21) rfl (by kernel_rfl) (by kernel_rfl) (by kernel_rfl) (fun _ _ _ h => h) (Or.inl ⟨by rfl, ?hy22_z4t21⟩) (by assumption) ?rest22_z4t21; (case hy22_z4t21 => ((intro w hSw); (try dsimp only at hSw); go_simp; first | done | (with_reducible rfl))))
                    (try simp only [Act.put, List.setIfInBounds_toArray, List.set_cons_zero, List.set_cons_succ])
                    (refine wpAnyH_take (i := 23) (oi := ⟨some 65, _, _, _, _, _⟩) (v := ?v23_z4t22) rfl (by kernel_rfl) (by kernel_rfl) (by kernel_rfl) (fun _ _ _ h => h) (Or.inl ⟨by rfl, ?hy23_z4t22⟩) (by assumption) ?rest23_z4t22; (case hy23_z4t22 => ((intro w hSw); (try dsimp only at hSw); go_simp; first | done | (with_reducible rfl))))
                    (try simp only [Act.put, List.setIfInBounds_toArray, List.set_cons_zero, List.set_cons_succ])
                    (refine wpAnyH_take (i := 24) (oi := ⟨some 66, _, _, _, _, _⟩) (v := .bool false) rfl (by kernel_rfl) (by kernel_rfl) (by kernel_rfl) (fun _ _ _ h => h) (Or.inl ⟨by rfl, ?hy24_z4t23⟩) (by assumption) ?rest24_z4t23; (case hy24_z4t23 => ((intro w hSw); (try dsimp only at hSw); go_simp; first | done | (with_reducible rfl))))
                    (try simp only [Act.put, List.setIfInBounds_toArray, List.set_cons_zero, List.set_cons_succ])
                    (refine wpAnyH_take (i := 25) (oi := ⟨some 67, _, _, _, _, _⟩) (v := ?v25_z4t24) rfl (by kernel_rfl) (by kernel_rfl) (by kernel_rfl) (fun _ _ _ h => h) (Or.inl ⟨by rfl, ?hy25_z4t24⟩) (by assumption) ?rest25_z4t24; (case hy25_z4t24 => ((intro w hSw); (try dsimp only at hSw); go_simp; first | done | (with_reducible rfl))))
                    (try simp only [Act.put, List.setIfInBounds_toArray, List.set_cons_zero, List.set_cons_succ])
                    (refine wpAnyH_take (i := 26) (oi := ⟨some 68, _, _, _, _, _⟩) (v := ?v26_z4t25) rfl (by kernel_rfl) (by kernel_rfl) (by kernel_rfl) (fun _ _ _ h => h) (Or.inl ⟨by rfl, ?hy26_z4t25⟩) (by assumption) ?rest26_z4t25; (case hy26_z4t25 => ((intro w hSw); (try dsimp only at hSw); go_simp; first | done | (with_reducible rfl))))
                    (try simp only [Act.put, List.setIfInBounds_toArray, List.set_cons_zero, List.set_cons_succ])
                    (refine wpAnyH_take (i := 27) (oi := ⟨some 69, _, _, _, _, _⟩) (v := ?v27_z4t26) rfl (by kernel_rfl) (by kernel_rfl) (by kernel_rfl) (fun _ _ _ h => h) (Or.inl ⟨by rfl, ?hy27_z4t26⟩) (by assumption) ?rest27_z4t26; (case hy27_z4t26 => ((intro w hSw); (try dsimp only at hSw); go_simp; first | done | (with_reducible rfl))))
                    (try simp only [Act.put, List.setIfInBounds_toArray, List.set_cons_zero, List.set_cons_succ])
                    (refine wpAnyH_take (i := 28) (oi := ⟨some 70, _, _, _, _, _⟩) (v := ?v28_z4t27) rfl (by kernel_rfl) (by kernel_rfl) (by kernel_rfl) (fun _ _ _ h => h) (Or.inl ⟨by rfl, ?hy28_z4t27⟩) (by assumption) ?rest28_z4t27; (case hy28_z4t27 => ((intro w hSw); (try dsimp only at hSw); go_simp; first | done | (with_reducible rfl))))
                    (try simp only [Act.put, List.setIfInBounds_toArray, List.set_cons_zero, List.set_cons_succ])
                    (refine wpAnyH_take (i := 29) (oi := ⟨some 71, _, _, _, _, _⟩) (v := ?v29_z4t28) rfl (by kernel_rfl) (by kernel_rfl) (by kernel_rfl) (fun _ _ _ h => h) (Or.inl ⟨by rfl, ?hy29_z4t28⟩) (by assumption) ?rest29_z4t28; (case hy29_z4t28 => ((intro w hSw); (try dsimp only at hSw); go_simp; first | done | (with_reducible rfl))))
                    (try simp only [Act.put, List.setIfInBounds_toArray, List.set_cons_zero, List.set_cons_succ])
                    (refine wpAnyH_take (i := 30) (oi := ⟨some 72, _, _, _, _, _⟩) (v := ?v30_z4t29) rfl (by kernel_rfl) (by kernel_rfl) (by kernel_rfl) (fun _ _ _ h => h) (Or.inl ⟨by rfl, ?hy30_z4t29⟩) (by assumption) ?rest30_z4t29; (case hy30_z4t29 => ((intro w hSw); (try dsimp only at hSw); go_simp; first | done | (with_reducible rfl))))
                    (try simp only [Act.put, List.setIfInBounds_toArray, List.set_cons_zero, List.set_cons_succ])
                    (refine wpAnyH_take (i := 31) (oi := ⟨some 73, _, _, _, _, _⟩) (v := ?v31_z4t30) rfl (by kernel_rfl) (by kernel_rfl) (by kernel_rfl) (fun _ _ _ h => h) (Or.inl ⟨by rfl, ?hy31_z4t30⟩) (by assumption) ?rest31_z4t30; (case hy31_z4t30 => ((intro w hSw); (try dsimp only at hSw); go_simp; first | done | (with_reducible rfl))))
                    (try simp only [Act.put, List.setIfInBounds_toArray, List.set_cons_zero, List.set_cons_succ])
                    (refine wpAnyH_take (i := 32) (oi := ⟨some 74, _, _, _, _, _⟩) (v := ?v32_z4t31) rfl (by kernel_rfl) (by kernel_rfl) (by kernel_rfl) (fun _ _ _ h => h) (Or.inl ⟨by rfl, ?hy32_z4t31⟩) (by assumption) ?rest32_z4t31; (case hy32_z4t31 => ((intro w hSw); (try dsimp only at hSw); go_simp; first | done | (with_reducible rfl))))
                    (try simp only [Act.put, List.setIfInBounds_toArray, List.set_cons_zero, List.set_cons_succ])
                    (refine wpAnyH_take (i := 33) (oi := ⟨some 75, _, _, _, _, _⟩) (v := ?v33_z4t32) rfl (by kernel_rfl) (by kernel_rfl) (by kernel_rfl) (fun _ _ _ h => h) (Or.inl ⟨by rfl, ?hy33_z4t32⟩) (by assumption) ?rest33_z4t32; (case hy33_z4t32 => ((intro w hSw); (try dsimp only at hSw); go_simp; first | done | (with_reducible rfl))))
                    (try simp only [Act.put, List.setIfInBounds_toArray, List.set_cons_zero, List.set_cons_succ])
                    (refine wpAnyH_take (i := 34) (oi := ⟨some 76, _, _, _, _, _⟩) (v := ?v34_z4t33) rfl (by kernel_rfl) (by kernel_rfl) (by kernel_rfl) (fun _ _ _ h => h) (Or.inl ⟨by rfl, ?hy34_z4t33⟩) (by assumption) ?rest34_z4t33; (case hy34_z4t33 => ((intro w hSw); (try dsimp only at hSw); go_simp; first | done | (with_reducible rfl))))
                    (try simp only [Act.put, List.setIfInBounds_toArray, List.set_cons_zero, List.set_cons_succ])
                    (refine wpAnyH_take (i := 35) (oi := ⟨some 77, _, _, _, _, _⟩) (v := ?v35_z4t34) rfl (by kernel_rfl) (by kernel_rfl) (by kernel_rfl) (fun _ _ _ h => h) (Or.inl ⟨by rfl, ?hy35_z4t34⟩) (by assumption) ?rest35_z4t34; (case hy35_z4t34 => ((intro w hSw); (try dsimp only at hSw); go_simp; first | done | (with_reducible rfl))))
                    (try simp only [Act.put, List.setIfInBounds_toArray, List.set_cons_zero, List.set_cons_succ])
                    (refine wpAnyH_take (i := 36) (oi := ⟨some 78, _, _, _, _, _⟩) (v := ?v36_z4t35) rfl (by kernel_rfl) (by kernel_rfl) (by kernel_rfl) (fun _ _ _ h => h) (Or.inl ⟨by rfl, ?hy36_z4t35⟩) (by assumption) ?rest36_z4t35; (case hy36_z4t35 => ((intro w hSw); (try dsimp only at hSw); go_simp; first | done | (with_reducible rfl))))
                    (try simp only [Act.put, List.setIfInBounds_toArray, List.set_cons_zero, List.set_cons_succ])
                    refine wpAnyH_done (by kernel_rfl) ?_ _
                    go_wp2
                    go_meet
                    exact ⟨rfl, B_m2⟩
                  case rest =>
                    obtain ⟨rfl, HF⟩ := hcut
                    clear KS
                    go_wp2
                    exact ⟨⟨k + 1, by omega, by go_num, hB.trans ((FRb.out _ HF.out).mono hBs)⟩, by simp [intOf]; omega⟩
              · as_aux_lemma =>
                have hz1 : ((sa.length : Int) != 2) = false := by simp [hr]
                have hz2 : ((sb.length : Int) != 2) = true := by rw [bne_iff_ne]; omega
                clear ta tb hr hz
                have KS : Hid (∀ W, FR W → W.cell? ⟨w1.heap.size, 0, none⟩ = some (.slice oA sa.length cA) ∧ W.cell? ⟨w1.heap.size, 1, none⟩ = some (.slice oX da.length cX) ∧ W.cell? ⟨w1.heap.size, 2, none⟩ = some (.slice oB sb.length cB) ∧ W.cell? ⟨w1.heap.size, 3, none⟩ = some (.slice oY db.length cY)) := Lib.hid (fun W h => ⟨(FRk.out _ h).1, (FRk.out _ h).2.1, (FRk.out _ h).2.2.1, (FRk.out _ h).2.2.2.1⟩)
                go_upto_region 7 with (go_at_call 11; (with_reducible refine (LG.out _ (K0.out _)).mono ?_); rintro e w2 ⟨rfl, hb2⟩; have F2 := Lib.hid (FRs.out _ hb2); obtain ⟨x0, x1, x2, x3, x4⟩ := FRk.out _ F2.out; clear hb2)
                clear x0 x1 x2 x3 x4
                go_cut [78] (fun s78 wx => s78 = .bool true ∧ Hid (FR wx))
                case first =>
                  as_aux_lemma =>
                  have B_0 : Hid (FR w2.drew) := Lib.hid (FRn.out _ _ F2.out (below_drw (Below.refl _ _) 1))
                  refine wp_region_held_drew (S := fun W => W.cell? ⟨w1.heap.size, 0, none⟩ = some (.slice oA sa.length cA) ∧ W.cell? ⟨w1.heap.size, 1, none⟩ = some (.slice oX da.length cX) ∧ W.cell? ⟨w1.heap.size, 2, none⟩ = some (.slice oB sb.length cB) ∧ W.cell? ⟨w1.heap.size, 3, none⟩ = some (.slice oY db.length cY)) (by kernel_rfl) ?_ (fun hHeld => ?_)
                  · exact KS.out _ B_0.out
                  have hHd := hHeld
                  generalize w2.drew = w_0 at *
                  (refine wpAnyH_take (i := 0) (oi := ⟨some 42, _, _, _, _, _⟩) (v := ?v0_z31) rfl (by kernel_rfl) (by kernel_rfl) (by kernel_rfl) (fun _ _ _ h => h) (Or.inl ⟨by rfl, ?hy0_z31⟩) (by assumption) ?rest0_z31; (case hy0_z31 => ((intro w hSw); (try dsimp only at hSw); go_simp; first | done | (with_reducible rfl))))
                  (try simp only [Act.put, List.setIfInBounds_toArray, List.set_cons_zero, List.set_cons_succ])
                  (refine wpAnyH_take (i := 1) (oi := ⟨some 43, _, _, _, _, _⟩) (v := ?v1_z32) rfl (by kernel_rfl) (by kernel_rfl) (by kernel_rfl) (fun _ _ _ h => h) (Or.inl ⟨by rfl, ?hy1_z32⟩) (by assumption) ?rest1_z32; (case hy1_z32 => ((intro w hSw); (try dsimp only at hSw); go_simp; first | done | (with_reducible rfl))))
                  (try simp only [Act.put, List.setIfInBounds_toArray, List.set_cons_zero, List.set_cons_succ])
                  refine wpAnyH_ready (rs := [2]) (by kernel_rfl) (by simp) ?_
                  refine AllReadyH.cons (o := ⟨some 44, _, _, _, _, _⟩) rfl (fun K hK => ?_) (AllReadyH.nil)
                  go_simp
                  (go_at_call 12; (with_reducible refine (KMA.out _ (FRb.out _ B_0.out)).mono ?_); rintro e w_m1 ⟨rfl, hb⟩; have B_m1 := Lib.hid (FRn.out _ _ B_0.out hb); clear hb)
                  refine hK.out _ _ ?_ (fun hHeld => ?_)
                  · (try dsimp only)
                    exact KS.out _ B_m1.out
                  clear hK K
                  (try simp only [Act.put, List.setIfInBounds_toArray, List.set_cons_zero, List.set_cons_succ])
                  (refine wpAnyH_take (i := 3) (oi := ⟨some 45, _, _, _, _, _⟩) (v := ?v3_z33) rfl (by kernel_rfl) (by kernel_rfl) (by kernel_rfl) (fun _ _ _ h => h) (Or.inl ⟨by rfl, ?hy3_z33⟩) (by assumption) ?rest3_z33; (case hy3_z33 => ((intro w hSw); (try dsimp only at hSw); go_simp; first | done | (with_reducible rfl))))
                  (try simp only [Act.put, List.setIfInBounds_toArray, List.set_cons_zero, List.set_cons_succ])
                  (refine wpAnyH_take (i := 4) (oi := ⟨some 46, _, _, _, _, _⟩) (v := .bool false) rfl (by kernel_rfl) (by kernel_rfl) (by kernel_rfl) (fun _ _ _ h => h) (Or.inl ⟨by rfl, ?hy4_z34⟩) (by assumption) ?rest4_z34; (case hy4_z34 => ((intro w hSw); (try dsimp only at hSw); go_simp; first | done | (with_reducible rfl))))
                  (try simp only [Act.put, List.setIfInBounds_toArray, List.set_cons_zero, List.set_cons_succ])
                  (refine wpAnyH_take (i := 5) (oi := ⟨some 47, _, _, _, _, _⟩) (v := ?v5_z35) rfl (by kernel_rfl) (by kernel_rfl) (by kernel_rfl) (fun _ _ _ h => h) (Or.inl ⟨by rfl, ?hy5_z35⟩) (by assumption) ?rest5_z35; (case hy5_z35 => ((intro w hSw); (try dsimp only at hSw); go_simp; first | done | (with_reducible rfl))))
                  (try simp only [Act.put, List.setIfInBounds_toArray, List.set_cons_zero, List.set_cons_succ])
                  (refine wpAnyH_take (i := 6) (oi := ⟨some 48, _, _, _, _, _⟩) (v := ?v6_z36) rfl (by kernel_rfl) (by kernel_rfl) (by kernel_rfl) (fun _ _ _ h => h) (Or.inl ⟨by rfl, ?hy6_z36⟩) (by assumption) ?rest6_z36; (case hy6_z36 => ((intro w hSw); (try dsimp only at hSw); go_simp; first | done | (with_reducible rfl))))
                  (try simp only [Act.put, List.setIfInBounds_toArray, List.set_cons_zero, List.set_cons_succ])
                  refine wpAnyH_ready (rs := [7]) (by kernel_rfl) (by simp) ?_
                  refine AllReadyH.cons (o := ⟨some 49, _, _, _, _, _⟩) rfl (fun K hK => ?_) (AllReadyH.nil)
                  go_simp
                  (go_at_call 12; (with_reducible refine (KMB.out _ (FRb.out _ B_m1.out)).mono ?_); rintro e w_m2 ⟨rfl, hb⟩; have B_m2 := Lib.hid (FRn.out _ _ B_m1.out hb); clear hb)
                  refine hK.out _ _ ?_ (fun hHeld => ?_)
                  · (try dsimp only)
                    exact KS.out _ B_m2.out
                  clear hK K
                  (try simp only [Act.put, List.setIfInBounds_toArray, List.set_cons_zero, List.set_cons_succ])
                  (refine wpAnyH_take (i := 8) (oi := ⟨some 50, _, _, _, _, _⟩) (v := ?v8_z37) rfl (by kernel_rfl) (by kernel_rfl) (by kernel_rfl) (fun _ _ _ h => h) (Or.inl ⟨by rfl, ?hy8_z37⟩) (by assumption) ?rest8_z37; (case hy8_z37 => ((intro w hSw); (try dsimp only at hSw); go_simp; first | done | (with_reducible rfl))))
                  (try simp only [Act.put, List.setIfInBounds_toArray, List.set_cons_zero, List.set_cons_succ])
                  (refine wpAnyH_take (i := 9) (oi := ⟨some 51, _, _, _, _, _⟩) (v := ?v9_z38) rfl (by kernel_rfl) (by kernel_rfl) (by kernel_rfl) (fun _ _ _ h => h) (Or.inl ⟨by rfl, ?hy9_z38⟩) (by assumption) ?rest9_z38; (case hy9_z38 => ((intro w hSw); (try dsimp only at hSw); go_simp; first | done | (with_reducible rfl))))
                  (try simp only [Act.put, List.setIfInBounds_toArray, List.set_cons_zero, List.set_cons_succ])
                  (refine wpAnyH_take (i := 10) (oi := ⟨some 52, _, _, _, _, _⟩) (v := .bool false) rfl (by kernel_rfl) (by kernel_rfl) (by kernel_rfl) (fun _ _ _ h => h) (Or.inl ⟨by rfl, ?hy10_z39⟩) (by assumption) ?rest10_z39; (case hy10_z39 => ((intro w hSw); (try dsimp only at hSw); go_simp; first | done | (with_reducible rfl))))
                  (try simp only [Act.put, List.setIfInBounds_toArray, List.set_cons_zero, List.set_cons_succ])
                  (refine wpAnyH_take (i := 11) (oi := ⟨some 53, _, _, _, _, _⟩) (v := ?v11_z310) rfl (by kernel_rfl) (by kernel_rfl) (by kernel_rfl) (fun _ _ _ h => h) (Or.inl ⟨by rfl, ?hy11_z310⟩) (by assumption) ?rest11_z310; (case hy11_z310 => ((intro w hSw); (try dsimp only at hSw); go_simp; first | done | (with_reducible rfl))))
                  (try simp only [Act.put, List.setIfInBounds_toArray, List.set_cons_zero, List.set_cons_succ])
                  (refine wpAnyH_take (i := 12) (oi := ⟨some 54, _, _, _, _, _⟩) (v := ?v12_z311) rfl (by kernel_rfl) (by kernel_rfl) (by kernel_rfl) (fun _ _ _ h => h) (Or.inl ⟨by rfl, ?hy12_z311⟩) (by assumption) ?rest12_z311; (case hy12_z311 => ((intro w hSw); (try dsimp only at hSw); go_simp; first | done | (with_reducible rfl))))
                  (try simp only [Act.put, List.setIfInBounds_toArray, List.set_cons_zero, List.set_cons_succ])
                  (refine wpAnyH_take (i := 13) (oi := ⟨some 55, _, _, _, _, _⟩) (v := ?v13_z312) rfl (by kernel_rfl) (by kernel_rfl) (by kernel_rfl) (fun _ _ _ h => h) (Or.inl ⟨by rfl, ?hy13_z312⟩) (by assumption) ?rest13_z312; (case hy13_z312 => ((intro w hSw); (try dsimp only at hSw); go_simp; first | done | (with_reducible rfl))))
                  (try simp only [Act.put, List.setIfInBounds_toArray, List.set_cons_zero, List.set_cons_succ])
                  (refine wpAnyH_take (i := 14) (oi := ⟨some 56, _, _, _, _, _⟩) (v := ?v14_z313) rfl (by kernel_rfl) (by kernel_rfl) (by kernel_rfl) (fun _ _ _ h => h) (Or.inl ⟨by rfl, ?hy14_z313⟩) (by assumption) ?rest14_z313; (case hy14_z313 => ((intro w hSw); (try dsimp only at hSw); go_simp; first | done | (with_reducible rfl))))
                  (try simp only [Act.put, List.setIfInBounds_toArray, List.set_cons_zero, List.set_cons_succ])
                  (refine wpAnyH_take (i := 15) (oi := ⟨some 57, _, _, _, _, _⟩) (v := ?v15_z314) rfl (by kernel_rfl) (by kernel_rfl) (by kernel_rfl) (fun _ _ _ h => h) (Or.inl ⟨by rfl, ?hy15_z314⟩) (by assumption) ?rest15_z314; (case hy15_z314 => ((intro w hSw); (try dsimp only at hSw); go_simp; first | done | (with_reducible rfl))))
                  (try simp only [Act.put, List.setIfInBounds_toArray, List.set_cons_zero, List.set_cons_succ])
                  (refine wpAnyH_take (i := 16) (oi := ⟨some 58, _, _, _, _, _⟩) (v := ?v16_z315) rfl (by kernel_rfl) (by kernel_rfl) (by kernel_rfl) (fun _ _ _ h => h) (Or.inl ⟨by rfl, ?hy16_z315⟩) (by assumption) ?rest16_z315; (case hy16_z315 => ((intro w hSw); (try dsimp only at hSw); go_simp; first | done | (with_reducible rfl))))
                  (try simp only [Act.put, List.setIfInBounds_toArray, List.set_cons_zero, List.set_cons_succ])
                  (refine wpAnyH_take (i := 17) (oi := ⟨some 59, _, _, _, _, _⟩) (v := .bool false) rfl (by kernel_rfl) (by kernel_rfl) (by kernel_rfl) (fun _ _ _ h => h) (Or.inl ⟨by rfl, ?hy17_z316⟩) (by assumption) ?rest17_z316; (case hy17_z316 => ((intro w hSw); (try dsimp only at hSw); go_simp; first | done | (with_reducible rfl))))
                  (try simp only [Act.put, List.setIfInBounds_toArray, List.set_cons_zero, List.set_cons_succ])
                  (refine wpAnyH_take (i := 18) (oi := ⟨some 60, _, _, _, _, _⟩) (v := ?v18_z317) rfl (by kernel_rfl) (by kernel_rfl) (by kernel_rfl) (fun _ _ _ h => h) (Or.inl ⟨by rfl, ?hy18_z317⟩) (by assumption) ?rest18_z317; (case hy18_z317 => ((intro w hSw); (try dsimp only at hSw); go_simp; first | done | (with_reducible rfl))))
                  (try simp only [Act.put, List.setIfInBounds_toArray, List.set_cons_zero, List.set_cons_succ])
                  (refine wpAnyH_take (i := 19) (oi := ⟨some 61, _, _, _, _, _⟩) (v := ?v19_z318) rfl (by kernel_rfl) (by kernel_rfl) (by kernel_rfl) (fun _ _ _ h => h) (Or.inl ⟨by rfl, ?hy19_z318⟩) (by assumption) ?rest19_z318; (case hy19_z318 => ((intro w hSw); (try dsimp only at hSw); go_simp; first | done | (with_reducible rfl))))
                  (try simp only [Act.put, List.setIfInBounds_toArray, List.set_cons_zero, List.set_cons_succ])
                  (refine wpAnyH_take (i := 20) (oi := ⟨some 62, _, _, _, _, _⟩) (v := ?v20_z319) rfl (by kernel_rfl) (by kernel_rfl) (by kernel_rfl) (fun _ _ _ h => h) (Or.inl ⟨by rfl, ?hy20_z319⟩) (by assumption) ?rest20_z319; (case hy20_z319 => ((intro w hSw); (try dsimp only at hSw); go_simp; first | done | (with_reducible rfl))))
                  (try simp only [Act.put, List.setIfInBounds_toArray, List.set_cons_zero, List.set_cons_succ])
                  (refine wpAnyH_take (i := 21) (oi := ⟨some 63, _, _, _, _, _⟩) (v := ?v21_z320) rfl (by kernel_rfl) (by kernel_rfl) (by kernel_rfl) (fun _ _ _ h => h) (Or.inl ⟨by rfl, ?hy21_z320⟩) (by assumption) ?rest21_z320; (case hy21_z320 => ((intro w hSw); (try dsimp only at hSw); go_simp; first | done | (with_reducible rfl))))
                  (try simp only [Act.put, List.setIfInBounds_toArray, List.set_cons_zero, List.set_cons_succ])
                  (refine wpAnyH_take (i := 22) (oi := ⟨some 64, _, _, _, _, _⟩) (v := ?v22_z321) rfl (by kernel_rfl) (by kernel_rfl) (by kernel_rfl) (fun _ _ _ h => h) (Or.inl ⟨by rfl, ?hy22_z321⟩) (by assumption) ?rest22_z321; (case hy22_z321 => ((intro w hSw); (try dsimp only at hSw); go_simp; first | done | (with_reducible rfl))))
                  (try simp only [Act.put, List.setIfInBounds_toArray, List.set_cons_zero, List.set_cons_succ])
                  (refine wpAnyH_take (i := 23) (oi := ⟨some 65, _, _, _, _, _⟩) (v := ?v23_z322) rfl (by kernel_rfl) (by kernel_rfl) (by kernel_rfl) (fun _ _ _ h => h) (Or.inl ⟨by rfl, ?hy23_z322⟩) (by assumption) ?rest23_z322; (case hy23_z322 => ((intro w hSw); (try dsimp only at hSw); go_simp; first | done | (with_reducible rfl))))
                  (try simp only [Act.put, List.setIfInBounds_toArray, List.set_cons_zero, List.set_cons_succ])
                  (refine wpAnyH_take (i := 24) (oi := ⟨some 66, _, _, _, _, _⟩) (v := .bool true) rfl (by kernel_rfl) (by kernel_rfl) (by kernel_rfl) (fun _ _ _ h => h) (Or.inl ⟨by rfl, ?hy24_z323⟩) (by assumption) ?rest24_z323; (case hy24_z323 => ((intro w hSw); (try dsimp only at hSw); go_simp; first | done | (with_reducible rfl))))
                  (try simp only [Act.put, List.setIfInBounds_toArray, List.set_cons_zero, List.set_cons_succ])
                  (refine wpAnyH_take (i := 25) (oi := ⟨some 67, _, _, _, _, _⟩) (v := _) rfl (by kernel_rfl) (by kernel_rfl) (by kernel_rfl) (fun _ _ _ h => h) (Or.inr ⟨by rfl, rfl⟩) (by assumption) ?_)
                  (try simp only [Act.put, List.setIfInBounds_toArray, List.set_cons_zero, List.set_cons_succ])
                  (refine wpAnyH_take (i := 26) (oi := ⟨some 68, _, _, _, _, _⟩) (v := _) rfl (by kernel_rfl) (by kernel_rfl) (by kernel_rfl) (fun _ _ _ h => h) (Or.inr ⟨by rfl, rfl⟩) (by assumption) ?_)
                  (try simp only [Act.put, List.setIfInBounds_toArray, List.set_cons_zero, List.set_cons_succ])
                  (refine wpAnyH_take (i := 27) (oi := ⟨some 69, _, _, _, _, _⟩) (v := _) rfl (by kernel_rfl) (by kernel_rfl) (by kernel_rfl) (fun _ _ _ h => h) (Or.inr ⟨by rfl, rfl⟩) (by assumption) ?_)
                  (try simp only [Act.put, List.setIfInBounds_toArray, List.set_cons_zero, List.set_cons_succ])
                  (refine wpAnyH_take (i := 28) (oi := ⟨some 70, _, _, _, _, _⟩) (v := _) rfl (by kernel_rfl) (by kernel_rfl) (by kernel_rfl) (fun _ _ _ h => h) (Or.inr ⟨by rfl, rfl⟩) (by assumption) ?_)
                  (try simp only [Act.put, List.setIfInBounds_toArray, List.set_cons_zero, List.set_cons_succ])
                  (refine wpAnyH_take (i := 29) (oi := ⟨some 71, _, _, _, _, _⟩) (v := _) rfl (by kernel_rfl) (by kernel_rfl) (by kernel_rfl) (fun _ _ _ h => h) (Or.inr ⟨by rfl, rfl⟩) (by assumption) ?_)
                  (try simp only [Act.put, List.setIfInBounds_toArray, List.set_cons_zero, List.set_cons_succ])
                  (refine wpAnyH_take (i := 30) (oi := ⟨some 72, _, _, _, _, _⟩) (v := _) rfl (by kernel_rfl) (by kernel_rfl) (by kernel_rfl) (fun _ _ _ h => h) (Or.inr ⟨by rfl, rfl⟩) (by assumption) ?_)
                  (try simp only [Act.put, List.setIfInBounds_toArray, List.set_cons_zero, List.set_cons_succ])
                  (refine wpAnyH_take (i := 31) (oi := ⟨some 73, _, _, _, _, _⟩) (v := _) rfl (by kernel_rfl) (by kernel_rfl) (by kernel_rfl) (fun _ _ _ h => h) (Or.inr ⟨by rfl, rfl⟩) (by assumption) ?_)
                  (try simp only [Act.put, List.setIfInBounds_toArray, List.set_cons_zero, List.set_cons_succ])
                  (refine wpAnyH_take (i := 32) (oi := ⟨some 74, _, _, _, _, _⟩) (v := _) rfl (by kernel_rfl) (by kernel_rfl) (by kernel_rfl) (fun _ _ _ h => h) (Or.inr ⟨by rfl, rfl⟩) (by assumption) ?_)
                  (try simp only [Act.put, List.setIfInBounds_toArray, List.set_cons_zero, List.set_cons_succ])
                  (refine wpAnyH_take (i := 33) (oi := ⟨some 75, _, _, _, _, _⟩) (v := _) rfl (by kernel_rfl) (by kernel_rfl) (by kernel_rfl) (fun _ _ _ h => h) (Or.inr ⟨by rfl, rfl⟩) (by assumption) ?_)
                  (try simp only [Act.put, List.setIfInBounds_toArray, List.set_cons_zero, List.set_cons_succ])
                  (refine wpAnyH_take (i := 34) (oi := ⟨some 76, _, _, _, _, _⟩) (v := _) rfl (by kernel_rfl) (by kernel_rfl) (by kernel_rfl) (fun _ _ _ h => h) (Or.inr ⟨by rfl, rfl⟩) (by assumption) ?_)
                  (try simp only [Act.put, List.setIfInBounds_toArray, List.set_cons_zero, List.set_cons_succ])
                  (refine wpAnyH_take (i := 35) (oi := ⟨some 77, _, _, _, _, _⟩) (v := _) rfl (by kernel_rfl) (by kernel_rfl) (by kernel_rfl) (fun _ _ _ h => h) (Or.inr ⟨by rfl, rfl⟩) (by assumption) ?_)
                  (try simp only [Act.put, List.setIfInBounds_toArray, List.set_cons_zero, List.set_cons_succ])
                  (refine wpAnyH_take (i := 36) (oi := ⟨some 78, _, _, _, _, _⟩) (v := ?v36_z335) rfl (by kernel_rfl) (by kernel_rfl) (by kernel_rfl) (fun _ _ _ h => h) (Or.inl ⟨by rfl, ?hy36_z335⟩) (by assumption) ?rest36_z335; (case hy36_z335 => ((intro w hSw); (try dsimp only at hSw); go_simp; first | done | (with_reducible rfl))))
                  (try simp only [Act.put, List.setIfInBounds_toArray, List.set_cons_zero, List.set_cons_succ])
                  refine wpAnyH_done (by kernel_rfl) ?_ _
                  go_wp2
                  go_meet
                  exact ⟨rfl, B_m2⟩
                case rest =>
                  obtain ⟨rfl, HF⟩ := hcut
                  clear KS
                  go_wp2
                  exact ⟨⟨k + 1, by omega, by go_num, hB.trans ((FRb.out _ HF.out).mono hBs)⟩, by simp [intOf]; omega⟩
            · as_aux_lemma =>
              have hz1 : ((sa.length : Int) != 2) = true := by rw [bne_iff_ne]; omega
              clear ta tb hr
              have KS : Hid (∀ W, FR W → W.cell? ⟨w1.heap.size, 0, none⟩ = some (.slice oA sa.length cA) ∧ W.cell? ⟨w1.heap.size, 1, none⟩ = some (.slice oX da.length cX) ∧ W.cell? ⟨w1.heap.size, 2, none⟩ = some (.slice oB sb.length cB) ∧ W.cell? ⟨w1.heap.size, 3, none⟩ = some (.slice oY db.length cY)) := Lib.hid (fun W h => ⟨(FRk.out _ h).1, (FRk.out _ h).2.1, (FRk.out _ h).2.2.1, (FRk.out _ h).2.2.2.1⟩)
              go_upto_region 7 with (go_at_call 11; (with_reducible refine (LG.out _ (K0.out _)).mono ?_); rintro e w2 ⟨rfl, hb2⟩; have F2 := Lib.hid (FRs.out _ hb2); obtain ⟨x0, x1, x2, x3, x4⟩ := FRk.out _ F2.out; clear hb2)
              clear x0 x1 x2 x3 x4
              go_cut [78] (fun s78 wx => s78 = .bool true ∧ Hid (FR wx))
              case first =>
                as_aux_lemma =>
                have B_0 : Hid (FR w2.drew) := Lib.hid (FRn.out _ _ F2.out (below_drw (Below.refl _ _) 1))
                refine wp_region_held_drew (S := fun W => W.cell? ⟨w1.heap.size, 0, none⟩ = some (.slice oA sa.length cA) ∧ W.cell? ⟨w1.heap.size, 1, none⟩ = some (.slice oX da.length cX) ∧ W.cell? ⟨w1.heap.size, 2, none⟩ = some (.slice oB sb.length cB) ∧ W.cell? ⟨w1.heap.size, 3, none⟩ = some (.slice oY db.length cY)) (by kernel_rfl) ?_ (fun hHeld => ?_)
                · exact KS.out _ B_0.out
                have hHd := hHeld
                generalize w2.drew = w_0 at *
                (refine wpAnyH_take (i := 0) (oi := ⟨some 42, _, _, _, _, _⟩) (v := ?v0_z21) rfl (by kernel_rfl) (by kernel_rfl) (by kernel_rfl) (fun _ _ _ h => h) (Or.inl ⟨by rfl, ?hy0_z21⟩) (by assumption) ?rest0_z21; (case hy0_z21 => ((intro w hSw); (try dsimp only at hSw); go_simp; first | done | (with_reducible rfl))))
                (try simp only [Act.put, List.setIfInBounds_toArray, List.set_cons_zero, List.set_cons_succ])
                (refine wpAnyH_take (i := 1) (oi := ⟨some 43, _, _, _, _, _⟩) (v := ?v1_z22) rfl (by kernel_rfl) (by kernel_rfl) (by kernel_rfl) (fun _ _ _ h => h) (Or.inl ⟨by rfl, ?hy1_z22⟩) (by assumption) ?rest1_z22; (case hy1_z22 => ((intro w hSw); (try dsimp only at hSw); go_simp; first | done | (with_reducible rfl))))
                (try simp only [Act.put, List.setIfInBounds_toArray, List.set_cons_zero, List.set_cons_succ])
                refine wpAnyH_ready (rs := [2]) (by kernel_rfl) (by simp) ?_
                refine AllReadyH.cons (o := ⟨some 44, _, _, _, _, _⟩) rfl (fun K hK => ?_) (AllReadyH.nil)
                go_simp
                (go_at_call 12; (with_reducible refine (KMA.out _ (FRb.out _ B_0.out)).mono ?_); rintro e w_m1 ⟨rfl, hb⟩; have B_m1 := Lib.hid (FRn.out _ _ B_0.out hb); clear hb)
                refine hK.out _ _ ?_ (fun hHeld => ?_)
                · (try dsimp only)
                  exact KS.out _ B_m1.out
                clear hK K
                (try simp only [Act.put, List.setIfInBounds_toArray, List.set_cons_zero, List.set_cons_succ])
                (refine wpAnyH_take (i := 3) (oi := ⟨some 45, _, _, _, _, _⟩) (v := ?v3_z23) rfl (by kernel_rfl) (by kernel_rfl) (by kernel_rfl) (fun _ _ _ h => h) (Or.inl ⟨by rfl, ?hy3_z23⟩) (by assumption) ?rest3_z23; (case hy3_z23 => ((intro w hSw); (try dsimp only at hSw); go_simp; first | done | (with_reducible rfl))))
                (try simp only [Act.put, List.setIfInBounds_toArray, List.set_cons_zero, List.set_cons_succ])
                (refine wpAnyH_take (i := 4) (oi := ⟨some 46, _, _, _, _, _⟩) (v := .bool false) rfl (by kernel_rfl) (by kernel_rfl) (by kernel_rfl) (fun _ _ _ h => h) (Or.inl ⟨by rfl, ?hy4_z24⟩) (by assumption) ?rest4_z24; (case hy4_z24 => ((intro w hSw); (try dsimp only at hSw); go_simp; first | done | (with_reducible rfl))))
                (try simp only [Act.put, List.setIfInBounds_toArray, List.set_cons_zero, List.set_cons_succ])
                (refine wpAnyH_take (i := 5) (oi := ⟨some 47, _, _, _, _, _⟩) (v := ?v5_z25) rfl (by kernel_rfl) (by kernel_rfl) (by kernel_rfl) (fun _ _ _ h => h) (Or.inl ⟨by rfl, ?hy5_z25⟩) (by assumption) ?rest5_z25; (case hy5_z25 => ((intro w hSw); (try dsimp only at hSw); go_simp; first | done | (with_reducible rfl))))
                (try simp only [Act.put, List.setIfInBounds_toArray, List.set_cons_zero, List.set_cons_succ])
                (refine wpAnyH_take (i := 6) (oi := ⟨some 48, _, _, _, _, _⟩) (v := ?v6_z26) rfl (by kernel_rfl) (by kernel_rfl) (by kernel_rfl) (fun _ _ _ h => h) (Or.inl ⟨by rfl, ?hy6_z26⟩) (by assumption) ?rest6_z26; (case hy6_z26 => ((intro w hSw); (try dsimp only at hSw); go_simp; first | done | (with_reducible rfl))))
                (try simp only [Act.put, List.setIfInBounds_toArray, List.set_cons_zero, List.set_cons_succ])
                refine wpAnyH_ready (rs := [7]) (by kernel_rfl) (by simp) ?_
                refine AllReadyH.cons (o := ⟨some 49, _, _, _, _, _⟩) rfl (fun K hK => ?_) (AllReadyH.nil)
                go_simp
                (go_at_call 12; (with_reducible refine (KMB.out _ (FRb.out _ B_m1.out)).mono ?_); rintro e w_m2 ⟨rfl, hb⟩; have B_m2 := Lib.hid (FRn.out _ _ B_m1.out hb); clear hb)
                refine hK.out _ _ ?_ (fun hHeld => ?_)
                · (try dsimp only)
                  exact KS.out _ B_m2.out
                clear hK K
                (try simp only [Act.put, List.setIfInBounds_toArray, List.set_cons_zero, List.set_cons_succ])
                (refine wpAnyH_take (i := 8) (oi := ⟨some 50, _, _, _, _, _⟩) (v := ?v8_z27) rfl (by kernel_rfl) (by kernel_rfl) (by kernel_rfl) (fun _ _ _ h => h) (Or.inl ⟨by rfl, ?hy8_z27⟩) (by assumption) ?rest8_z27; (case hy8_z27 => ((intro w hSw); (try dsimp only at hSw); go_simp; first | done | (with_reducible rfl))))
                (try simp only [Act.put, List.setIfInBounds_toArray, List.set_cons_zero, List.set_cons_succ])
                (refine wpAnyH_take (i := 9) (oi := ⟨some 51, _, _, _, _, _⟩) (v := ?v9_z28) rfl (by kernel_rfl) (by kernel_rfl) (by kernel_rfl) (fun _ _ _ h => h) (Or.inl ⟨by rfl, ?hy9_z28⟩) (by assumption) ?rest9_z28; (case hy9_z28 => ((intro w hSw); (try dsimp only at hSw); go_simp; first | done | (with_reducible rfl))))
                (try simp only [Act.put, List.setIfInBounds_toArray, List.set_cons_zero, List.set_cons_succ])
                (refine wpAnyH_take (i := 10) (oi := ⟨some 52, _, _, _, _, _⟩) (v := .bool false) rfl (by kernel_rfl) (by kernel_rfl) (by kernel_rfl) (fun _ _ _ h => h) (Or.inl ⟨by rfl, ?hy10_z29⟩) (by assumption) ?rest10_z29; (case hy10_z29 => ((intro w hSw); (try dsimp only at hSw); go_simp; first | done | (with_reducible rfl))))
                (try simp only [Act.put, List.setIfInBounds_toArray, List.set_cons_zero, List.set_cons_succ])
                (refine wpAnyH_take (i := 11) (oi := ⟨some 53, _, _, _, _, _⟩) (v := ?v11_z210) rfl (by kernel_rfl) (by kernel_rfl) (by kernel_rfl) (fun _ _ _ h => h) (Or.inl ⟨by rfl, ?hy11_z210⟩) (by assumption) ?rest11_z210; (case hy11_z210 => ((intro w hSw); (try dsimp only at hSw); go_simp; first | done | (with_reducible rfl))))
                (try simp only [Act.put, List.setIfInBounds_toArray, List.set_cons_zero, List.set_cons_succ])
                (refine wpAnyH_take (i := 12) (oi := ⟨some 54, _, _, _, _, _⟩) (v := ?v12_z211) rfl (by kernel_rfl) (by kernel_rfl) (by kernel_rfl) (fun _ _ _ h => h) (Or.inl ⟨by rfl, ?hy12_z211⟩) (by assumption) ?rest12_z211; (case hy12_z211 => ((intro w hSw); (try dsimp only at hSw); go_simp; first | done | (with_reducible rfl))))
                (try simp only [Act.put, List.setIfInBounds_toArray, List.set_cons_zero, List.set_cons_succ])
                (refine wpAnyH_take (i := 13) (oi := ⟨some 55, _, _, _, _, _⟩) (v := ?v13_z212) rfl (by kernel_rfl) (by kernel_rfl) (by kernel_rfl) (fun _ _ _ h => h) (Or.inl ⟨by rfl, ?hy13_z212⟩) (by assumption) ?rest13_z212; (case hy13_z212 => ((intro w hSw); (try dsimp only at hSw); go_simp; first | done | (with_reducible rfl))))
                (try simp only [Act.put, List.setIfInBounds_toArray, List.set_cons_zero, List.set_cons_succ])
                (refine wpAnyH_take (i := 14) (oi := ⟨some 56, _, _, _, _, _⟩) (v := ?v14_z213) rfl (by kernel_rfl) (by kernel_rfl) (by kernel_rfl) (fun _ _ _ h => h) (Or.inl ⟨by rfl, ?hy14_z213⟩) (by assumption) ?rest14_z213; (case hy14_z213 => ((intro w hSw); (try dsimp only at hSw); go_simp; first | done | (with_reducible rfl))))
                (try simp only [Act.put, List.setIfInBounds_toArray, List.set_cons_zero, List.set_cons_succ])
                (refine wpAnyH_take (i := 15) (oi := ⟨some 57, _, _, _, _, _⟩) (v := ?v15_z214) rfl (by kernel_rfl) (by kernel_rfl) (by kernel_rfl) (fun _ _ _ h => h) (Or.inl ⟨by rfl, ?hy15_z214⟩) (by assumption) ?rest15_z214; (case hy15_z214 => ((intro w hSw); (try dsimp only at hSw); go_simp; first | done | (with_reducible rfl))))
                (try simp only [Act.put, List.setIfInBounds_toArray, List.set_cons_zero, List.set_cons_succ])
                (refine wpAnyH_take (i := 16) (oi := ⟨some 58, _, _, _, _, _⟩) (v := ?v16_z215) rfl (by kernel_rfl) (by kernel_rfl) (by kernel_rfl) (fun _ _ _ h => h) (Or.inl ⟨by rfl, ?hy16_z215⟩) (by assumption) ?rest16_z215; (case hy16_z215 => ((intro w hSw); (try dsimp only at hSw); go_simp; first | done | (with_reducible rfl))))
                (try simp only [Act.put, List.setIfInBounds_toArray, List.set_cons_zero, List.set_cons_succ])
                (refine wpAnyH_take (i := 17) (oi := ⟨some 59, _, _, _, _, _⟩) (v := .bool true) rfl (by kernel_rfl) (by kernel_rfl) (by kernel_rfl) (fun _ _ _ h => h) (Or.inl ⟨by rfl, ?hy17_z216⟩) (by assumption) ?rest17_z216; (case hy17_z216 => ((intro w hSw); (try dsimp only at hSw); go_simp; first | done | (with_reducible rfl))))
                (try simp only [Act.put, List.setIfInBounds_toArray, List.set_cons_zero, List.set_cons_succ])
                (refine wpAnyH_take (i := 18) (oi := ⟨some 60, _, _, _, _, _⟩) (v := _) rfl (by kernel_rfl) (by kernel_rfl) (by kernel_rfl) (fun _ _ _ h => h) (Or.inr ⟨by rfl, rfl⟩) (by assumption) ?_)
                (try simp only [Act.put, List.setIfInBounds_toArray, List.set_cons_zero, List.set_cons_succ])
                (refine wpAnyH_take (i := 19) (oi := ⟨some 61, _, _, _, _, _⟩) (v := _) rfl (by kernel_rfl) (by kernel_rfl) (by kernel_rfl) (fun _ _ _ h => h) (Or.inr ⟨by rfl, rfl⟩) (by assumption) ?_)
                (try simp only [Act.put, List.setIfInBounds_toArray, List.set_cons_zero, List.set_cons_succ])
                (refine wpAnyH_take (i := 20) (oi := ⟨some 62, _, _, _, _, _⟩) (v := _) rfl (by kernel_rfl) (by kernel_rfl) (by kernel_rfl) (fun _ _ _ h => h) (Or.inr ⟨by rfl, rfl⟩) (by assumption) ?_)
                (try simp only [Act.put, List.setIfInBounds_toArray, List.set_cons_zero, List.set_cons_succ])
                (refine wpAnyH_take (i := 21) (oi := ⟨some 63, _, _, _, _, _⟩) (v := _) rfl (by kernel_rfl) (by kernel_rfl) (by kernel_rfl) (fun _ _ _ h => h) (Or.inr ⟨by rfl, rfl⟩) (by assumption) ?_)
                (try simp only [Act.put, List.setIfInBounds_toArray, List.set_cons_zero, List.set_cons_succ])
                (refine wpAnyH_take (i := 22) (oi := ⟨some 64, _, _, _, _, _⟩) (v := _) rfl (by kernel_rfl) (by kernel_rfl) (by kernel_rfl) (fun _ _ _ h => h) (Or.inr ⟨by rfl, rfl⟩) (by assumption) ?_)
                (try simp only [Act.put, List.setIfInBounds_toArray, List.set_cons_zero, List.set_cons_succ])
                (refine wpAnyH_take (i := 23) (oi := ⟨some 65, _, _, _, _, _⟩) (v := ?v23_z222) rfl (by kernel_rfl) (by kernel_rfl) (by kernel_rfl) (fun _ _ _ h => h) (Or.inl ⟨by rfl, ?hy23_z222⟩) (by assumption) ?rest23_z222; (case hy23_z222 => ((intro w hSw); (try dsimp only at hSw); go_simp; first | done | (with_reducible rfl))))
                (try simp only [Act.put, List.setIfInBounds_toArray, List.set_cons_zero, List.set_cons_succ])
                (refine wpAnyH_take (i := 24) (oi := ⟨some 66, _, _, _, _, _⟩) (v := .bool true) rfl (by kernel_rfl) (by kernel_rfl) (by kernel_rfl) (fun _ _ _ h => h) (Or.inl ⟨by rfl, ?hy24_z223⟩) (by assumption) ?rest24_z223; (case hy24_z223 => ((intro w hSw); (try dsimp only at hSw); go_simp; first | done | (with_reducible rfl))))
                (try simp only [Act.put, List.setIfInBounds_toArray, List.set_cons_zero, List.set_cons_succ])
                (refine wpAnyH_take (i := 25) (oi := ⟨some 67, _, _, _, _, _⟩) (v := _) rfl (by kernel_rfl) (by kernel_rfl) (by kernel_rfl) (fun _ _ _ h => h) (Or.inr ⟨by rfl, rfl⟩) (by assumption) ?_)
                (try simp only [Act.put, List.setIfInBounds_toArray, List.set_cons_zero, List.set_cons_succ])
                (refine wpAnyH_take (i := 26) (oi := ⟨some 68, _, _, _, _, _⟩) (v := _) rfl (by kernel_rfl) (by kernel_rfl) (by kernel_rfl) (fun _ _ _ h => h) (Or.inr ⟨by rfl, rfl⟩) (by assumption) ?_)
                (try simp only [Act.put, List.setIfInBounds_toArray, List.set_cons_zero, List.set_cons_succ])
                (refine wpAnyH_take (i := 27) (oi := ⟨some 69, _, _, _, _, _⟩) (v := _) rfl (by kernel_rfl) (by kernel_rfl) (by kernel_rfl) (fun _ _ _ h => h) (Or.inr ⟨by rfl, rfl⟩) (by assumption) ?_)
                (try simp only [Act.put, List.setIfInBounds_toArray, List.set_cons_zero, List.set_cons_succ])
                (refine wpAnyH_take (i := 28) (oi := ⟨some 70, _, _, _, _, _⟩) (v := _) rfl (by kernel_rfl) (by kernel_rfl) (by kernel_rfl) (fun _ _ _ h => h) (Or.inr ⟨by rfl, rfl⟩) (by assumption) ?_)
                (try simp only [Act.put, List.setIfInBounds_toArray, List.set_cons_zero, List.set_cons_succ])
                (refine wpAnyH_take (i := 29) (oi := ⟨some 71, _, _, _, _, _⟩) (v := _) rfl (by kernel_rfl) (by kernel_rfl) (by kernel_rfl) (fun _ _ _ h => h) (Or.inr ⟨by rfl, rfl⟩) (by assumption) ?_)
                (try simp only [Act.put, List.setIfInBounds_toArray, List.set_cons_zero, List.set_cons_succ])
                (refine wpAnyH_take (i := 30) (oi := ⟨some 72, _, _, _, _, _⟩) (v := _) rfl (by kernel_rfl) (by kernel_rfl) (by kernel_rfl) (fun _ _ _ h => h) (Or.inr ⟨by rfl, rfl⟩) (by assumption) ?_)
                (try simp only [Act.put, List.setIfInBounds_toArray, List.set_cons_zero, List.set_cons_succ])
                (refine wpAnyH_take (i := 31) (oi := ⟨some 73, _, _, _, _, _⟩) (v := _) rfl (by kernel_rfl) (by kernel_rfl) (by kernel_rfl) (fun _ _ _ h => h) (Or.inr ⟨by rfl, rfl⟩) (by assumption) ?_)
                (try simp only [Act.put, List.setIfInBounds_toArray, List.set_cons_zero, List.set_cons_succ])
                (refine wpAnyH_take (i := 32) (oi := ⟨some 74, _, _, _, _, _⟩) (v := _) rfl (by kernel_rfl) (by kernel_rfl) (by kernel_rfl) (fun _ _ _ h => h) (Or.inr ⟨by rfl, rfl⟩) (by assumption) ?_)
                (try simp only [Act.put, List.setIfInBounds_toArray, List.set_cons_zero, List.set_cons_succ])
                (refine wpAnyH_take (i := 33) (oi := ⟨some 75, _, _, _, _, _⟩) (v := _) rfl (by kernel_rfl) (by kernel_rfl) (by kernel_rfl) (fun _ _ _ h => h) (Or.inr ⟨by rfl, rfl⟩) (by assumption) ?_)
                (try simp only [Act.put, List.setIfInBounds_toArray, List.set_cons_zero, List.set_cons_succ])
                (refine wpAnyH_take (i := 34) (oi := ⟨some 76, _, _, _, _, _⟩) (v := _) rfl (by kernel_rfl) (by kernel_rfl) (by kernel_rfl) (fun _ _ _ h => h) (Or.inr ⟨by rfl, rfl⟩) (by assumption) ?_)
                (try simp only [Act.put, List.setIfInBounds_toArray, List.set_cons_zero, List.set_cons_succ])
                (refine wpAnyH_take (i := 35) (oi := ⟨some 77, _, _, _, _, _⟩) (v := _) rfl (by kernel_rfl) (by kernel_rfl) (by kernel_rfl) (fun _ _ _ h => h) (Or.inr ⟨by rfl, rfl⟩) (by assumption) ?_)
                (try simp only [Act.put, List.setIfInBounds_toArray, List.set_cons_zero, List.set_cons_succ])
                (refine wpAnyH_take (i := 36) (oi := ⟨some 78, _, _, _, _, _⟩) (v := ?v36_z235) rfl (by kernel_rfl) (by kernel_rfl) (by kernel_rfl) (fun _ _ _ h => h) (Or.inl ⟨by rfl, ?hy36_z235⟩) (by assumption) ?rest36_z235; (case hy36_z235 => ((intro w hSw); (try dsimp only at hSw); go_simp; first | done | (with_reducible rfl))))
                (try simp only [Act.put, List.setIfInBounds_toArray, List.set_cons_zero, List.set_cons_succ])
                refine wpAnyH_done (by kernel_rfl) ?_ _
                go_wp2
                go_meet
                exact ⟨rfl, B_m2⟩
              case rest =>
                obtain ⟨rfl, HF⟩ := hcut
                clear KS
                go_wp2
                exact ⟨⟨k + 1, by omega, by go_num, hB.trans ((FRb.out _ HF.out).mono hBs)⟩, by simp [intOf]; omega⟩

    · as_aux_lemma =>
      by_cases g1 : k < len
      · have g2 : 6 ≤ k := by omega
        clear g
        go_wp2_with (go_at_call 19; (with_reducible refine (wakes10_any _).mono ?_); rintro e w9 ⟨rfl, hb9⟩)
        go_ret
        exact ⟨rfl, hB.trans (hb9.mono hBs)⟩
      · have g2 : len ≤ k := by omega
        clear g g1
        go_wp2_with (go_at_call 19; (with_reducible refine (wakes10_any _).mono ?_); rintro e w9 ⟨rfl, hb9⟩)
        go_ret
        exact ⟨rfl, hB.trans (hb9.mono hBs)⟩
end Go.Proofs.Ytlidkeabadioeaa
