/-
  package window: the window of a kernel over a shape of 1 spatial dimension(s).
-/
import Derived.BigRegion
import Derived.Test.YtnlfljekbknaaaaM06
import Derived.Test.YtnlfljekbknaaaaM07
namespace Go.Proofs.Ytnlfljekbknaaaa
open Go Go.RowKit Go.Shelf
attribute [local go_sem] Oper.semAt_some
set_option maxRecDepth 100000 in
set_option maxHeartbeats 16000000 in
theorem wof1_any (vs vk vq vst vp vd : Value) (a b l0 k0 s0 p0 d0 n0 : Int) (w : World) (hs : Ld w vs [a, b, l0]) (hk : Ld w vk [k0]) (g1 : Ld w vst [s0]) (g2 : Ld w vp [p0]) (g3 : Ld w vd [d0]) (b0 : (1 ≤ l0 ∧ l0 ≤ 4096) ∧ (1 ≤ k0 ∧ k0 ≤ 4096) ∧ (1 ≤ s0 ∧ s0 ≤ 4096) ∧ (0 ≤ p0 ∧ p0 ≤ 4096) ∧ (1 ≤ d0 ∧ d0 ≤ 4096)) (h0 : n0 = lpl l0 k0 s0 p0 d0) :
    Calls Try.prog 54 #[vs, vk, .agg #[vq, vst, vp, vd]] w fun e w' => (n0 = 0 → NoW w e w') ∧ (n0 ≠ 0 → SomeWn w [n0] (n0) (k0) (l0) (1, 1, 1, 1, 0, 1) (l0, n0, k0, s0, p0, d0) e w') := by
  obtain ⟨bS, fS, cS, rfl, yS, xS⟩ := ldc hs (by simp)
  obtain ⟨bK, fK, cK, rfl, yK, xK⟩ := ldc hk (by simp)
  obtain ⟨bA, fA, cA, rfl, yA, xA⟩ := ldc g1 (by simp)
  obtain ⟨bB, fB, cB, rfl, yB, xB⟩ := ldc g2 (by simp)
  obtain ⟨bC, fC, cC, rfl, yC, xC⟩ := ldc g3 (by simp)
  have X0 : Hid (∀ W : World, Below w.heap.size w W → W.cell? ⟨bS, fS + 2, none⟩ = some (.int .i64 l0) ∧ W.cell? ⟨bK, fK, none⟩ = some (.int .i64 k0) ∧ W.cell? ⟨bA, fA, none⟩ = some (.int .i64 s0) ∧ W.cell? ⟨bB, fB, none⟩ = some (.int .i64 p0) ∧ W.cell? ⟨bC, fC, none⟩ = some (.int .i64 d0)) := Lib.hid (fun W hW => ⟨(hW.cell (p := ⟨bS, fS + 2, none⟩) yS).trans (xS 2 (by simp)), (hW.cell (p := ⟨bK, fK + 0, none⟩) yK).trans (xK 0 (by simp)), (hW.cell (p := ⟨bA, fA + 0, none⟩) yA).trans (xA 0 (by simp)), (hW.cell (p := ⟨bB, fB + 0, none⟩) yB).trans (xB 0 (by simp)), (hW.cell (p := ⟨bC, fC + 0, none⟩) yC).trans (xC 0 (by simp))⟩)
  have N0 := Lib.hid (fun W : World => newline_any l0 k0 s0 p0 d0 W b0.1 b0.2.1 b0.2.2.1.1 b0.2.2.2.1 b0.2.2.2.2)
  rw [← h0] at N0
  have nb0 : 0 ≤ n0 ∧ n0 ≤ 12288 := by rw [h0]; exact lpl_bd b0.1 b0.2.1.1 b0.2.2.1.1 b0.2.2.2.1 b0.2.2.2.2.1
  have BD0 := Lib.hid (And.intro b0 nb0)
  have N9 := Lib.hid (fun W : World => newline_any 1 1 1 0 1 W (by decide) (by decide) (by decide) (by decide) (by decide))
  rw [show lpl 1 1 1 0 1 = 1 from rfl] at N9
  unfold Lnv at N0 N9
  clear xS yS xK yK xA yA xB yB xC yC h0 b0 nb0
  simp only [List.length_cons, List.length_nil, Nat.reduceAdd]
  obtain ⟨w2, hw2⟩ : ∃ w2, w2 = (w.alloc (.cells #[vq, .slice (some ⟨bA, fA, none⟩) 1 cA, .slice (some ⟨bB, fB, none⟩) 1 cB, .slice (some ⟨bC, fC, none⟩) 1 cC] 28)).alloc (.cells #[.slice none 0 0, .int .i64 0, .int .i64 0, .int .i64 0, .int .i64 0, .int .i64 0, .int .i64 0, .int .i64 0, .int .i64 0, .int .i64 0, .int .i64 0, .int .i64 0, .int .i64 0, .int .i64 0, .int .i64 0, .int .i64 0] 86) := ⟨_, rfl⟩
  have B2 : Hid (Below w.heap.size w w2) := Lib.hid (by rw [hw2]; exact ((Below.refl _ _).alloc (Nat.le_refl _) _).alloc (by simp) _)
  have S2 : Hid (w2.heap.size = w.heap.size + 2) := Lib.hid (by rw [hw2]; simp)
  have Q0 : Hid (Blk w2 w.heap.size 28 #[vq, .slice (some ⟨bA, fA, none⟩) 1 cA, .slice (some ⟨bB, fB, none⟩) 1 cB, .slice (some ⟨bC, fC, none⟩) 1 cC]) := Lib.hid (by rw [hw2]; exact (Blk.new w _ _).alloc _)
  have Q1 : Hid (Blk w2 (w.heap.size + 1) 86 #[.slice none 0 0, .int .i64 0, .int .i64 0, .int .i64 0, .int .i64 0, .int .i64 0, .int .i64 0, .int .i64 0, .int .i64 0, .int .i64 0, .int .i64 0, .int .i64 0, .int .i64 0, .int .i64 0, .int .i64 0, .int .i64 0]) := Lib.hid (by rw [hw2]; exact blk_new1 w _ _ _)
  have HW := Lib.hid hw2
  have C9 := Lib.hid (N9.out w2)
  rw [hw2] at C9
  obtain ⟨y0, y1, y2, y3⟩ := blk4c Q0.out
  rw [hw2] at y0 y1 y2 y3
  clear hw2 N9
  obtain ⟨i0, hi0, hz0, hz1, hz2⟩ := info_parts infoI
  go_enter Try.func54, Try.ntmps54
  go_upto_region 6 with (go_at_call 97; (with_reducible refine C9.out.mono ?_); rintro e w3 ⟨rfl, hb⟩; rw [← HW.out] at hb; have b3 := Lib.hid hb; clear hb)
  obtain ⟨w5, hw5⟩ : ∃ w5, w5 = (w3.alloc (.cells #[.int .i64 1, .int .i64 1, .int .i64 1, .int .i64 1, .int .i64 0, .int .i64 1, .int .i64 0, .int .i64 0, .int .i64 0, .int .i64 0, .int .i64 0, .int .i64 0] 147)).alloc (.cells #[.slice none 0 0, .int .i64 1, .int .i64 1, .int .i64 1, .int .i64 0, .int .i64 0, .int .i64 0, .int .i64 0, .int .i64 0, .int .i64 0, .int .i64 0, .int .i64 0, .int .i64 0, .int .i64 0, .int .i64 0, .int .i64 0] 86) := ⟨_, rfl⟩
  obtain ⟨T9, hT9⟩ : ∃ T, T = w3.heap.size := ⟨_, rfl⟩
  have R9 : Hid (Blk w5 T9 147 #[.int .i64 1, .int .i64 1, .int .i64 1, .int .i64 1, .int .i64 0, .int .i64 1, .int .i64 0, .int .i64 0, .int .i64 0, .int .i64 0, .int .i64 0, .int .i64 0]) := Lib.hid (by rw [hw5, hT9]; exact (Blk.new w3 _ _).alloc _)
  have R10 : Hid (Blk w5 (T9 + 1) 86 #[.slice none 0 0, .int .i64 1, .int .i64 1, .int .i64 1, .int .i64 0, .int .i64 0, .int .i64 0, .int .i64 0, .int .i64 0, .int .i64 0, .int .i64 0, .int .i64 0, .int .i64 0, .int .i64 0, .int .i64 0, .int .i64 0]) := Lib.hid (by rw [hw5, hT9]; exact blk_new1 w3 _ _ _)
  have B5 : Hid (Below T9 w3 w5) := Lib.hid (by rw [hw5, hT9]; exact ((Below.refl _ _).alloc (Nat.le_refl _) _).alloc (by simp) _)
  have S5 : Hid (w5.heap.size = T9 + 2) := Lib.hid (by rw [hw5, hT9]; simp)
  have KF : Hid (∀ W, Below T9 w3 W → Below w.heap.size w W ∧ Blk W w.heap.size 28 #[vq, .slice (some ⟨bA, fA, none⟩) 1 cA, .slice (some ⟨bB, fB, none⟩) 1 cB, .slice (some ⟨bC, fC, none⟩) 1 cC] ∧ Blk W (w.heap.size + 1) 86 #[.slice none 0 0, .int .i64 0, .int .i64 0, .int .i64 0, .int .i64 0, .int .i64 0, .int .i64 0, .int .i64 0, .int .i64 0, .int .i64 0, .int .i64 0, .int .i64 0, .int .i64 0, .int .i64 0, .int .i64 0, .int .i64 0]) := Lib.hid (fun W hW => by
    have e2 := S2.out
    have b := b3.out
    have hs := b.size
    rw [hT9] at hW
    exact ⟨(B2.out.trans (b.mono (by omega))).trans (hW.mono (by omega)), (Q0.out.below b (by omega)).below hW (by omega), (Q1.out.below b (by omega)).below hW (by omega)⟩)
  have HT : Hid (w.heap.size + 2 ≤ T9) := Lib.hid (by have := S2.out; have := b3.out.size; omega)
  rw [← hw5, ← hT9]
  clear hw5 hT9 b3 Q0 Q1 HW C9 B2 S2 y0 y1 y2 y3
  go_wp2
  go_loopw [34] (fun s34 wr => ∃ (j : Nat) (us : Value), j ≤ 1 ∧ s34 = .int .i64 j ∧ Hid ((1 ≤ j → n0 ≠ 0)) ∧ Hid (Blk wr T9 147 (match j with | 0 => #[.int .i64 1, .int .i64 1, .int .i64 1, .int .i64 1, .int .i64 0, .int .i64 1, .int .i64 0, .int .i64 0, .int .i64 0, .int .i64 0, .int .i64 0, .int .i64 0] | _ => #[.int .i64 1, .int .i64 1, .int .i64 1, .int .i64 1, .int .i64 0, .int .i64 1, .int .i64 l0, .int .i64 n0, .int .i64 k0, .int .i64 s0, .int .i64 p0, .int .i64 d0])) ∧ Hid (Blk wr (T9 + 1) 86 (match j with | 0 => #[us, .int .i64 1, .int .i64 1, .int .i64 1, .int .i64 0, .int .i64 0, .int .i64 0, .int .i64 0, .int .i64 0, .int .i64 0, .int .i64 0, .int .i64 0, .int .i64 0, .int .i64 0, .int .i64 0, .int .i64 0] | _ => #[us, .int .i64 n0, .int .i64 k0, .int .i64 l0, .int .i64 0, .int .i64 0, .int .i64 0, .int .i64 0, .int .i64 0, .int .i64 0, .int .i64 0, .int .i64 0, .int .i64 0, .int .i64 0, .int .i64 0, .int .i64 0])) ∧ Hid (wr.ownsRow (T9 + 2) 3 1 us j (ints ((match j with | 0 => [] | _ => [n0])))) ∧ Hid (Below T9 w3 wr) ∧ Hid (T9 + 2 ≤ wr.heap.size)) (fun s34 _ => 1 - (intOf s34).toNat)
  case atStart => exact ⟨0, .slice none 0 0, Nat.zero_le _, rfl, Lib.hid (by simp), R9, R10, Lib.hid (World.ownsRow_nil _ _ _ _), B5, Lib.hid (by rw [S5.out]; exact Nat.le_refl _)⟩
  case round =>
    clear R9 R10 B5 S5
    obtain ⟨j, us, hj, rfl, HNZ, KA, KW, KU, KB, KZ⟩ := hrel
    have KZ1 : Hid (T9 ≤ wr.heap.size) := Lib.hid (by have := KZ.out; omega)
    obtain rfl | rfl : j = 0 ∨ j = 1 := by omega
    · as_aux_lemma =>
      replace KA : Hid (Blk wr T9 147 #[.int .i64 1, .int .i64 1, .int .i64 1, .int .i64 1, .int .i64 0, .int .i64 1, .int .i64 0, .int .i64 0, .int .i64 0, .int .i64 0, .int .i64 0, .int .i64 0]) := KA
      replace KW : Hid (Blk wr (T9 + 1) 86 #[us, .int .i64 1, .int .i64 1, .int .i64 1, .int .i64 0, .int .i64 0, .int .i64 0, .int .i64 0, .int .i64 0, .int .i64 0, .int .i64 0, .int .i64 0, .int .i64 0, .int .i64 0, .int .i64 0, .int .i64 0]) := KW
      replace KU : Hid (wr.ownsRow (T9 + 2) 3 1 us 0 (ints [])) := KU
      have q0 := KF.out wr KB.out
      have XX := (X0.out wr q0.1).2.1
      clear q0
      go_upto_region 9 with fail
      go_cut [13] (fun s13 wx => ∃ P : Nat, s13 = .pointer (some ⟨P, 0, none⟩) ∧ Hid (wr.heap.size ≤ P) ∧ Hid (Blk wx P 84 #[.int .i64 l0, .int .i64 n0, .int .i64 k0, .int .i64 s0, .int .i64 p0, .int .i64 d0]) ∧ Hid (Below wr.heap.size wr wx))
      case first =>
        as_aux_lemma =>
        clear XX
        have ew1 : IntKind.i64.wrap 2 = 2 := rfl
        have KS : Hid (∀ W : World, Below wr.heap.size wr W → W.cell? ⟨w.heap.size, 1, none⟩ = some (.slice (some ⟨bA, fA, none⟩) 1 cA) ∧ W.cell? ⟨w.heap.size, 2, none⟩ = some (.slice (some ⟨bB, fB, none⟩) 1 cB) ∧ W.cell? ⟨w.heap.size, 3, none⟩ = some (.slice (some ⟨bC, fC, none⟩) 1 cC) ∧ W.cell? ⟨bS, fS + 2, none⟩ = some (.int .i64 l0) ∧ W.cell? ⟨bA, fA, none⟩ = some (.int .i64 s0) ∧ W.cell? ⟨bB, fB, none⟩ = some (.int .i64 p0) ∧ W.cell? ⟨bC, fC, none⟩ = some (.int .i64 d0)) := Lib.hid (fun W hW => by
          have q := KF.out W (KB.out.trans (hW.mono KZ1.out))
          obtain ⟨_, u1, u2, u3⟩ := blk4c q.2.1
          obtain ⟨z0, _, z2, z3, z4⟩ := X0.out W q.1
          exact ⟨u1, u2, u3, z0, z2, z3, z4⟩)
        have B0 : Hid (Below wr.heap.size wr wr.drew) := Lib.hid (below_drw (Below.refl _ _) 1)
        refine wp_region_held_drew (S := fun W => W.cell? ⟨w.heap.size, 1, none⟩ = some (.slice (some ⟨bA, fA, none⟩) 1 cA) ∧ W.cell? ⟨w.heap.size, 2, none⟩ = some (.slice (some ⟨bB, fB, none⟩) 1 cB) ∧ W.cell? ⟨w.heap.size, 3, none⟩ = some (.slice (some ⟨bC, fC, none⟩) 1 cC) ∧ W.cell? ⟨bS, fS + 2, none⟩ = some (.int .i64 l0) ∧ W.cell? ⟨bA, fA, none⟩ = some (.int .i64 s0) ∧ W.cell? ⟨bB, fB, none⟩ = some (.int .i64 p0) ∧ W.cell? ⟨bC, fC, none⟩ = some (.int .i64 d0)) (by kernel_rfl) ?_ (fun hHeld => ?_)
        · exact KS.out _ B0.out
        have hHd := hHeld
        generalize wr.drew = wd at *
        (refine wpAnyH_take (i := 0) (oi := ⟨some 39, _, _, _, _, _⟩) (v := ?v0_w01) rfl (by kernel_rfl) (by kernel_rfl) (by kernel_rfl) (fun _ _ _ h => h) (Or.inl ⟨by rfl, ?hy0_w01⟩) (by assumption) ?rest0_w01; (case hy0_w01 => ((intro w hSw); (try dsimp only at hSw); go_simp; first | done | (with_reducible rfl))))
        (try simp only [Act.put, List.setIfInBounds_toArray, List.set_cons_zero, List.set_cons_succ])
        (refine wpAnyH_take (i := 1) (oi := ⟨some 40, _, _, _, _, _⟩) (v := ?v1_w02) rfl (by kernel_rfl) (by kernel_rfl) (by kernel_rfl) (fun _ _ _ h => h) (Or.inl ⟨by rfl, ?hy1_w02⟩) (by assumption) ?rest1_w02; (case hy1_w02 => ((intro w hSw); (try dsimp only at hSw); go_simp; first | done | (with_reducible rfl))))
        (try simp only [Act.put, List.setIfInBounds_toArray, List.set_cons_zero, List.set_cons_succ])
        (refine wpAnyH_take (i := 2) (oi := ⟨some 41, _, _, _, _, _⟩) (v := ?v2_w03) rfl (by kernel_rfl) (by kernel_rfl) (by kernel_rfl) (fun _ _ _ h => h) (Or.inl ⟨by rfl, ?hy2_w03⟩) (by assumption) ?rest2_w03; (case hy2_w03 => ((intro w hSw); (try dsimp only at hSw); go_simp; first | done | (with_reducible rfl))))
        (try simp only [Act.put, List.setIfInBounds_toArray, List.set_cons_zero, List.set_cons_succ])
        (refine wpAnyH_take (i := 3) (oi := ⟨some 42, _, _, _, _, _⟩) (v := ?v3_w04) rfl (by kernel_rfl) (by kernel_rfl) (by kernel_rfl) (fun _ _ _ h => h) (Or.inl ⟨by rfl, ?hy3_w04⟩) (by assumption) ?rest3_w04; (case hy3_w04 => ((intro w hSw); (try dsimp only at hSw); go_simp; first | done | (with_reducible rfl))))
        (try simp only [Act.put, List.setIfInBounds_toArray, List.set_cons_zero, List.set_cons_succ])
        (refine wpAnyH_take (i := 4) (oi := ⟨some 43, _, _, _, _, _⟩) (v := ?v4_w05) rfl (by kernel_rfl) (by kernel_rfl) (by kernel_rfl) (fun _ _ _ h => h) (Or.inl ⟨by rfl, ?hy4_w05⟩) (by assumption) ?rest4_w05; (case hy4_w05 => ((intro w hSw); (try dsimp only at hSw); go_simp; first | done | (with_reducible rfl))))
        (try simp only [Act.put, List.setIfInBounds_toArray, List.set_cons_zero, List.set_cons_succ])
        (refine wpAnyH_take (i := 5) (oi := ⟨some 44, _, _, _, _, _⟩) (v := ?v5_w06) rfl (by kernel_rfl) (by kernel_rfl) (by kernel_rfl) (fun _ _ _ h => h) (Or.inl ⟨by rfl, ?hy5_w06⟩) (by assumption) ?rest5_w06; (case hy5_w06 => ((intro w hSw); (try dsimp only at hSw); go_simp; first | done | (with_reducible rfl))))
        (try simp only [Act.put, List.setIfInBounds_toArray, List.set_cons_zero, List.set_cons_succ])
        (refine wpAnyH_take (i := 6) (oi := ⟨some 45, _, _, _, _, _⟩) (v := ?v6_w07) rfl (by kernel_rfl) (by kernel_rfl) (by kernel_rfl) (fun _ _ _ h => h) (Or.inl ⟨by rfl, ?hy6_w07⟩) (by assumption) ?rest6_w07; (case hy6_w07 => ((intro w hSw); (try dsimp only at hSw); go_simp; first | done | (with_reducible rfl))))
        (try simp only [Act.put, List.setIfInBounds_toArray, List.set_cons_zero, List.set_cons_succ])
        (refine wpAnyH_take (i := 7) (oi := ⟨some 46, _, _, _, _, _⟩) (v := ?v7_w08) rfl (by kernel_rfl) (by kernel_rfl) (by kernel_rfl) (fun _ _ _ h => h) (Or.inl ⟨by rfl, ?hy7_w08⟩) (by assumption) ?rest7_w08; (case hy7_w08 => ((intro w hSw); (try dsimp only at hSw); go_simp; first | done | (with_reducible rfl))))
        (try simp only [Act.put, List.setIfInBounds_toArray, List.set_cons_zero, List.set_cons_succ])
        (refine wpAnyH_take (i := 8) (oi := ⟨some 47, _, _, _, _, _⟩) (v := ?v8_w09) rfl (by kernel_rfl) (by kernel_rfl) (by kernel_rfl) (fun _ _ _ h => h) (Or.inl ⟨by rfl, ?hy8_w09⟩) (by assumption) ?rest8_w09; (case hy8_w09 => ((intro w hSw); (try dsimp only at hSw); go_simp; first | done | (with_reducible rfl))))
        (try simp only [Act.put, List.setIfInBounds_toArray, List.set_cons_zero, List.set_cons_succ])
        (refine wpAnyH_take (i := 9) (oi := ⟨some 48, _, _, _, _, _⟩) (v := ?v9_w010) rfl (by kernel_rfl) (by kernel_rfl) (by kernel_rfl) (fun _ _ _ h => h) (Or.inl ⟨by rfl, ?hy9_w010⟩) (by assumption) ?rest9_w010; (case hy9_w010 => ((intro w hSw); (try dsimp only at hSw); go_simp; first | done | (with_reducible rfl))))
        (try simp only [Act.put, List.setIfInBounds_toArray, List.set_cons_zero, List.set_cons_succ])
        (refine wpAnyH_take (i := 10) (oi := ⟨some 49, _, _, _, _, _⟩) (v := ?v10_w011) rfl (by kernel_rfl) (by kernel_rfl) (by kernel_rfl) (fun _ _ _ h => h) (Or.inl ⟨by rfl, ?hy10_w011⟩) (by assumption) ?rest10_w011; (case hy10_w011 => ((intro w hSw); (try dsimp only at hSw); go_simp; first | done | (with_reducible rfl))))
        (try simp only [Act.put, List.setIfInBounds_toArray, List.set_cons_zero, List.set_cons_succ])
        (refine wpAnyH_take (i := 11) (oi := ⟨some 50, _, _, _, _, _⟩) (v := ?v11_w012) rfl (by kernel_rfl) (by kernel_rfl) (by kernel_rfl) (fun _ _ _ h => h) (Or.inl ⟨by rfl, ?hy11_w012⟩) (by assumption) ?rest11_w012; (case hy11_w012 => ((intro w hSw); (try dsimp only at hSw); go_simp; first | done | (with_reducible rfl))))
        (try simp only [Act.put, List.setIfInBounds_toArray, List.set_cons_zero, List.set_cons_succ])
        (refine wpAnyH_take (i := 12) (oi := ⟨some 51, _, _, _, _, _⟩) (v := ?v12_w013) rfl (by kernel_rfl) (by kernel_rfl) (by kernel_rfl) (fun _ _ _ h => h) (Or.inl ⟨by rfl, ?hy12_w013⟩) (by assumption) ?rest12_w013; (case hy12_w013 => ((intro w hSw); (try dsimp only at hSw); go_simp; first | done | (with_reducible rfl))))
        (try simp only [Act.put, List.setIfInBounds_toArray, List.set_cons_zero, List.set_cons_succ])
        (refine wpAnyH_take (i := 13) (oi := ⟨some 52, _, _, _, _, _⟩) (v := ?v13_w014) rfl (by kernel_rfl) (by kernel_rfl) (by kernel_rfl) (fun _ _ _ h => h) (Or.inl ⟨by rfl, ?hy13_w014⟩) (by assumption) ?rest13_w014; (case hy13_w014 => ((intro w hSw); (try dsimp only at hSw); go_simp; first | done | (with_reducible rfl))))
        (try simp only [Act.put, List.setIfInBounds_toArray, List.set_cons_zero, List.set_cons_succ])
        (refine wpAnyH_take (i := 14) (oi := ⟨some 53, _, _, _, _, _⟩) (v := ?v14_w015) rfl (by kernel_rfl) (by kernel_rfl) (by kernel_rfl) (fun _ _ _ h => h) (Or.inl ⟨by rfl, ?hy14_w015⟩) (by assumption) ?rest14_w015; (case hy14_w015 => ((intro w hSw); (try dsimp only at hSw); go_simp; first | done | (with_reducible rfl))))
        (try simp only [Act.put, List.setIfInBounds_toArray, List.set_cons_zero, List.set_cons_succ])
        (refine wpAnyH_take (i := 15) (oi := ⟨some 54, _, _, _, _, _⟩) (v := ?v15_w016) rfl (by kernel_rfl) (by kernel_rfl) (by kernel_rfl) (fun _ _ _ h => h) (Or.inl ⟨by rfl, ?hy15_w016⟩) (by assumption) ?rest15_w016; (case hy15_w016 => ((intro w hSw); (try dsimp only at hSw); go_simp; first | done | (with_reducible rfl))))
        (try simp only [Act.put, List.setIfInBounds_toArray, List.set_cons_zero, List.set_cons_succ])
        (refine wpAnyH_take (i := 16) (oi := ⟨some 55, _, _, _, _, _⟩) (v := ?v16_w017) rfl (by kernel_rfl) (by kernel_rfl) (by kernel_rfl) (fun _ _ _ h => h) (Or.inl ⟨by rfl, ?hy16_w017⟩) (by assumption) ?rest16_w017; (case hy16_w017 => ((intro w hSw); (try dsimp only at hSw); go_simp; first | done | (with_reducible rfl))))
        (try simp only [Act.put, List.setIfInBounds_toArray, List.set_cons_zero, List.set_cons_succ])
        (refine wpAnyH_take (i := 17) (oi := ⟨some 56, _, _, _, _, _⟩) (v := ?v17_w018) rfl (by kernel_rfl) (by kernel_rfl) (by kernel_rfl) (fun _ _ _ h => h) (Or.inl ⟨by rfl, ?hy17_w018⟩) (by assumption) ?rest17_w018; (case hy17_w018 => ((intro w hSw); (try dsimp only at hSw); go_simp; first | done | (with_reducible rfl))))
        (try simp only [Act.put, List.setIfInBounds_toArray, List.set_cons_zero, List.set_cons_succ])
        (refine wpAnyH_take (i := 18) (oi := ⟨some 57, _, _, _, _, _⟩) (v := ?v18_w019) rfl (by kernel_rfl) (by kernel_rfl) (by kernel_rfl) (fun _ _ _ h => h) (Or.inl ⟨by rfl, ?hy18_w019⟩) (by assumption) ?rest18_w019; (case hy18_w019 => ((intro w hSw); (try dsimp only at hSw); go_simp; first | done | (with_reducible rfl))))
        (try simp only [Act.put, List.setIfInBounds_toArray, List.set_cons_zero, List.set_cons_succ])
        (refine wpAnyH_take (i := 19) (oi := ⟨some 58, _, _, _, _, _⟩) (v := ?v19_w020) rfl (by kernel_rfl) (by kernel_rfl) (by kernel_rfl) (fun _ _ _ h => h) (Or.inl ⟨by rfl, ?hy19_w020⟩) (by assumption) ?rest19_w020; (case hy19_w020 => ((intro w hSw); (try dsimp only at hSw); go_simp; first | done | (with_reducible rfl))))
        (try simp only [Act.put, List.setIfInBounds_toArray, List.set_cons_zero, List.set_cons_succ])
        (refine wpAnyH_take (i := 20) (oi := ⟨some 59, _, _, _, _, _⟩) (v := ?v20_w021) rfl (by kernel_rfl) (by kernel_rfl) (by kernel_rfl) (fun _ _ _ h => h) (Or.inl ⟨by rfl, ?hy20_w021⟩) (by assumption) ?rest20_w021; (case hy20_w021 => ((intro w hSw); (try dsimp only at hSw); go_simp; first | done | (with_reducible rfl))))
        (try simp only [Act.put, List.setIfInBounds_toArray, List.set_cons_zero, List.set_cons_succ])
        refine wpAnyH_ready (rs := [21, 22]) (by kernel_rfl) (by simp) ?_
        refine AllReadyH.cons (o := ⟨some 60, _, _, _, _, _⟩) rfl (fun K hK => ?_) (AllReadyH.cons (o := ⟨some 13, _, _, _, _, _⟩) rfl (fun K hK => ?_) (AllReadyH.nil))
        · go_simp
          (go_at_call 97; (with_reducible refine Go.Calls.mono (N0.out _) ?_); rintro e w5 ⟨rfl, hb5⟩; have b5 := Lib.hid (B0.out.trans (hb5.mono B0.out.size)); clear hb5)
          refine hK.out _ _ ?_ (fun hHeld => ?_)
          · (try dsimp only)
            exact KS.out _ b5.out
          clear hK K
          (try simp only [Act.put, List.setIfInBounds_toArray, List.set_cons_zero, List.set_cons_succ])
          refine wpAnyH_ready (rs := [22]) (by kernel_rfl) (by simp) ?_
          refine AllReadyH.cons (o := ⟨some 13, _, _, _, _, _⟩) rfl (fun K hK => ?_) (AllReadyH.nil)
          go_simp
          have bA := Lib.hid (b5.out.alloc b5.out.size (.cells #[.int .i64 0, .int .i64 0, .int .i64 0, .int .i64 0, .int .i64 0, .int .i64 0] 84))
          have TA := Lib.hid (Blk.new w5 84 #[.int .i64 0, .int .i64 0, .int .i64 0, .int .i64 0, .int .i64 0, .int .i64 0])
          obtain ⟨g9, hg9⟩ : ∃ g, g = w5.heap.size := ⟨_, rfl⟩
          rw [← hg9] at TA
          have G9 : Hid (wr.heap.size ≤ g9) := Lib.hid (by rw [hg9]; exact b5.out.size)
          try rw [← hg9]
          clear hg9
          refine hK.out _ _ ?_ (fun hHeld => ?_)
          · (try dsimp only)
            exact KS.out _ bA.out
          clear hK K
          generalize w5.alloc (.cells #[.int .i64 0, .int .i64 0, .int .i64 0, .int .i64 0, .int .i64 0, .int .i64 0] 84) = wA at *
          (try simp only [Act.put, List.setIfInBounds_toArray, List.set_cons_zero, List.set_cons_succ])
          refine wpAnyH_ready (rs := [23]) (by kernel_rfl) (by simp) ?_
          refine AllReadyH.cons (o := ⟨none, _, _, _, _, _⟩) rfl (fun K hK => ?_) (AllReadyH.nil)
          obtain ⟨⟨p0_, p1_, p2_, p3_, p4_, p5_⟩, f0_, f1_, f2_, f3_, f4_, f5_⟩ := blk6l TA.out
          go_simp
          refine hK.out _ _ ?_ (fun hHeld => ?_)
          · (try dsimp only)
            exact KS.out _ ((((((bA.out.setCell (p := ⟨g9, 0, none⟩) G9.out _).setCell (p := ⟨g9, 1, none⟩) G9.out _).setCell (p := ⟨g9, 2, none⟩) G9.out _).setCell (p := ⟨g9, 3, none⟩) G9.out _).setCell (p := ⟨g9, 4, none⟩) G9.out _).setCell (p := ⟨g9, 5, none⟩) G9.out _)
          clear hK K
          (try simp only [Act.put, List.setIfInBounds_toArray, List.set_cons_zero, List.set_cons_succ])
          refine wpAnyH_done (by kernel_rfl) ?_ _
          have TT := Lib.hid ((((((TA.out.set_ 0 (.int .i64 l0)).set_ 1 (.int .i64 n0)).set_ 2 (.int .i64 k0)).set_ 3 (.int .i64 s0)).set_ 4 (.int .i64 p0)).set_ 5 (.int .i64 d0))
          have BT := Lib.hid ((((((bA.out.setCell (p := ⟨g9, 0, none⟩) G9.out (.int .i64 l0)).setCell (p := ⟨g9, 1, none⟩) G9.out (.int .i64 n0)).setCell (p := ⟨g9, 2, none⟩) G9.out (.int .i64 k0)).setCell (p := ⟨g9, 3, none⟩) G9.out (.int .i64 s0)).setCell (p := ⟨g9, 4, none⟩) G9.out (.int .i64 p0)).setCell (p := ⟨g9, 5, none⟩) G9.out (.int .i64 d0))
          skip
          go_wp2
          go_meet
          exact ⟨_, rfl, G9, TT, BT⟩
        · go_simp
          have bA := Lib.hid (B0.out.alloc B0.out.size (.cells #[.int .i64 0, .int .i64 0, .int .i64 0, .int .i64 0, .int .i64 0, .int .i64 0] 84))
          have TA := Lib.hid (Blk.new wd 84 #[.int .i64 0, .int .i64 0, .int .i64 0, .int .i64 0, .int .i64 0, .int .i64 0])
          obtain ⟨g9, hg9⟩ : ∃ g, g = wd.heap.size := ⟨_, rfl⟩
          rw [← hg9] at TA
          have G9 : Hid (wr.heap.size ≤ g9) := Lib.hid (by rw [hg9]; exact B0.out.size)
          try rw [← hg9]
          clear hg9
          refine hK.out _ _ ?_ (fun hHeld => ?_)
          · (try dsimp only)
            exact KS.out _ bA.out
          clear hK K
          generalize wd.alloc (.cells #[.int .i64 0, .int .i64 0, .int .i64 0, .int .i64 0, .int .i64 0, .int .i64 0] 84) = wA at *
          (try simp only [Act.put, List.setIfInBounds_toArray, List.set_cons_zero, List.set_cons_succ])
          refine wpAnyH_ready (rs := [21]) (by kernel_rfl) (by simp) ?_
          refine AllReadyH.cons (o := ⟨some 60, _, _, _, _, _⟩) rfl (fun K hK => ?_) (AllReadyH.nil)
          go_simp
          (go_at_call 97; (with_reducible refine Go.Calls.mono (N0.out _) ?_); rintro e w5 ⟨rfl, hb5⟩; have b5 := Lib.hid (bA.out.trans (hb5.mono bA.out.size)); have T5 := Lib.hid (TA.out.below hb5 TA.out.lt); clear hb5)
          refine hK.out _ _ ?_ (fun hHeld => ?_)
          · (try dsimp only)
            exact KS.out _ b5.out
          clear hK K
          (try simp only [Act.put, List.setIfInBounds_toArray, List.set_cons_zero, List.set_cons_succ])
          refine wpAnyH_ready (rs := [23]) (by kernel_rfl) (by simp) ?_
          refine AllReadyH.cons (o := ⟨none, _, _, _, _, _⟩) rfl (fun K hK => ?_) (AllReadyH.nil)
          obtain ⟨⟨p0_, p1_, p2_, p3_, p4_, p5_⟩, f0_, f1_, f2_, f3_, f4_, f5_⟩ := blk6l T5.out
          go_simp
          refine hK.out _ _ ?_ (fun hHeld => ?_)
          · (try dsimp only)
            exact KS.out _ ((((((b5.out.setCell (p := ⟨g9, 0, none⟩) G9.out _).setCell (p := ⟨g9, 1, none⟩) G9.out _).setCell (p := ⟨g9, 2, none⟩) G9.out _).setCell (p := ⟨g9, 3, none⟩) G9.out _).setCell (p := ⟨g9, 4, none⟩) G9.out _).setCell (p := ⟨g9, 5, none⟩) G9.out _)
          clear hK K
          (try simp only [Act.put, List.setIfInBounds_toArray, List.set_cons_zero, List.set_cons_succ])
          refine wpAnyH_done (by kernel_rfl) ?_ _
          have TT := Lib.hid ((((((T5.out.set_ 0 (.int .i64 l0)).set_ 1 (.int .i64 n0)).set_ 2 (.int .i64 k0)).set_ 3 (.int .i64 s0)).set_ 4 (.int .i64 p0)).set_ 5 (.int .i64 d0))
          have BT := Lib.hid ((((((b5.out.setCell (p := ⟨g9, 0, none⟩) G9.out (.int .i64 l0)).setCell (p := ⟨g9, 1, none⟩) G9.out (.int .i64 n0)).setCell (p := ⟨g9, 2, none⟩) G9.out (.int .i64 k0)).setCell (p := ⟨g9, 3, none⟩) G9.out (.int .i64 s0)).setCell (p := ⟨g9, 4, none⟩) G9.out (.int .i64 p0)).setCell (p := ⟨g9, 5, none⟩) G9.out (.int .i64 d0))
          skip
          go_wp2
          go_meet
          exact ⟨_, rfl, G9, TT, BT⟩
      case rest =>
        obtain ⟨P, rfl, HP, KL, KC⟩ := hcut
        have KBc := Lib.hid (KB.out.trans (KC.out.mono KZ1.out))
        have KA1 := Lib.hid (KA.out.below KC.out KA.out.lt)
        have KW1 := Lib.hid (KW.out.below KC.out KW.out.lt)
        have KU1 := Lib.hid (Below.keepOwn KU.out KC.out (Nat.le_refl _))
        have HZ : Hid (T9 + 2 ≤ wr.heap.size ∧ wr.heap.size ≤ wc.heap.size ∧ wr.heap.size ≤ P ∧ P < wc.heap.size) := Lib.hid ⟨KZ.out, KC.out.size, HP.out, KL.out.lt⟩
        have HU := Lib.hid (fun g e => KU.out.lt g e)
        obtain ⟨x0, x1, x2, x3, x4, x5⟩ := (blk6l KL.out).1
        clear KA KW KU KB KC HP KZ1 XX
        by_cases hz : n0 = 0
        · have hb0 : (n0 == 0) = true := by rw [hz]; rfl
          have HZR := Lib.hid hz
          clear hz
          have q := Lib.hid (KF.out wc KBc.out)
          go_wp2_with (refine wpList_store_row rfl 86 _ _ (by rfl) (w.heap.size + 1) #[.slice none 0 0, .int .i64 0, .int .i64 0, .int .i64 0, .int .i64 0, .int .i64 0, .int .i64 0, .int .i64 0, .int .i64 0, .int .i64 0, .int .i64 0, .int .i64 0, .int .i64 0, .int .i64 0, .int .i64 0, .int .i64 0] (by rfl) (by rfl) 86 _ q.out.2.2 (by kernel_rfl) rfl (by simp [Value.oneCell']) ?_)
          have QN := setrow_blk q.out.2.2 #[.slice none 0 0, .int .i64 0, .int .i64 0, .int .i64 0, .int .i64 0, .int .i64 0, .int .i64 0, .int .i64 0, .int .i64 0, .int .i64 0, .int .i64 0, .int .i64 0, .int .i64 0, .int .i64 0, .int .i64 0, .int .i64 0]
          refine bodyPost_ret (v := .tuple #[.agg #[.slice none 0 0, .int .i64 0, .int .i64 0, .int .i64 0, .int .i64 0, .int .i64 0, .int .i64 0, .int .i64 0, .int .i64 0, .int .i64 0, .int .i64 0, .int .i64 0, .int .i64 0, .int .i64 0, .int .i64 0, .int .i64 0], .int .i64 2]) (result_row _ _ rfl rfl rfl QN rfl Try.underlying86 (by kernel_rfl)) rfl ?_
          exact ⟨fun _ => ⟨rfl, setrow_below q.out.1 (Nat.le_succ _) (Nat.le_refl _) _⟩, fun a0 => absurd HZR.out a0⟩
        · skip
          have hb0 : (n0 == 0) = false := by rw [beq_eq_false_iff_ne]; exact hz
          have HZR := Lib.hid hz
          clear hz
          obtain ⟨e1, e2, e3⟩ : wrap64 n0 = n0 ∧ wrap64 k0 = k0 ∧ wrap64 l0 = l0 := by
            have hb := BD0.out
            exact ⟨IntWalk.wrap64_in _ (by omega), IntWalk.wrap64_in _ (by omega), IntWalk.wrap64_in _ (by omega)⟩
          have HE := Lib.hid (And.intro e1 (And.intro e2 e3))
          clear e1 e2 e3
          have z0 : wc.cell? ⟨T9 + 1, 0, none⟩ = some us := KW1.out.cell 0
          have g0 := KW1.out.frozen 0
          go_wp2_with (at_builtin; refine wpList_append_own _ rfl _ _ 23 rfl (T9 + 2) 3 i0 (.int .i64 0) 1 8 Try.underlying23 hi0 hz0 hz1 hz2 rfl (by decide) us 0 (ints []) rfl (KU1.out.alloc _) ⟨wc.heap.size, 0, none⟩ 1 1 [.int .i64 n0] rfl rfl ?c1_0 ?c2_0 ?c3_0 ?c4_0 ?c5_0 ?_)
          case c1_0 => exact (cell_one_new _ _ _)
          case c2_0 => simp [Value.oneCell']
          case c3_0 => unfold maxLen; omega
          case c4_0 => omega
          case c5_0 => have := HZ.out; simp; omega
          intro u9 w9 hown1 hgrow _
          obtain ⟨o9, c9, rfl⟩ := own_form1 hown1
          clear x0 x1 x2 x3 x4 x5 z0 g0
          have KW9 := Lib.hid ((KW1.out.alloc (.cells #[.int .i64 n0] 3)).kept hgrow (fun e => by have := (HU.out _ e.symm).1; omega))
          have KA9 := Lib.hid ((KA1.out.alloc (.cells #[.int .i64 n0] 3)).kept hgrow (fun e => by have := (HU.out _ e.symm).1; omega))
          have KL9 := Lib.hid ((KL.out.alloc (.cells #[.int .i64 n0] 3)).kept hgrow (fun e => by have := (HU.out _ e.symm).2; have := HZ.out; omega))
          have KB9 := Lib.hid ((KBc.out.alloc (by have := HZ.out; omega) (.cells #[.int .i64 n0] 3)).grown hgrow (by have := HZ.out; simp; omega) (fun j e => by have := (HU.out j e).1; omega))
          have KU9 : Hid (w9.ownsRow (T9 + 2) 3 1 (.slice o9 1 c9) 1 (ints [n0])) := Lib.hid hown1
          have HS9 : Hid (wc.heap.size ≤ w9.heap.size) := Lib.hid (Nat.le_trans (Nat.le_succ _) (Nat.le_trans (Nat.le_of_eq (World.size_alloc _ _).symm) hgrow.size))
          clear hown1 hgrow KW1 KA1 KL KBc KU1
          obtain ⟨w10, hw10⟩ : ∃ W, W = w9.setCell ⟨T9 + 1, 0, none⟩ (.slice o9 1 c9) := ⟨_, rfl⟩
          have VW : Hid (Blk w10 (T9 + 1) 86 #[(.slice o9 1 c9), .int .i64 1, .int .i64 1, .int .i64 1, .int .i64 0, .int .i64 0, .int .i64 0, .int .i64 0, .int .i64 0, .int .i64 0, .int .i64 0, .int .i64 0, .int .i64 0, .int .i64 0, .int .i64 0, .int .i64 0]) := Lib.hid (by rw [hw10]; exact KW9.out.set_ 0 _)
          have VA : Hid (Blk w10 T9 147 #[.int .i64 1, .int .i64 1, .int .i64 1, .int .i64 1, .int .i64 0, .int .i64 1, .int .i64 0, .int .i64 0, .int .i64 0, .int .i64 0, .int .i64 0, .int .i64 0]) := Lib.hid (by rw [hw10]; exact KA9.out.far (p := ⟨T9 + 1, 0, none⟩) (by show T9 ≠ T9 + 1; omega) _)
          have VL : Hid (Blk w10 P 84 #[.int .i64 l0, .int .i64 n0, .int .i64 k0, .int .i64 s0, .int .i64 p0, .int .i64 d0]) := Lib.hid (by rw [hw10]; exact KL9.out.far (p := ⟨T9 + 1, 0, none⟩) (by have := HZ.out; show P ≠ T9 + 1; omega) _)
          have VU : Hid (w10.ownsRow (T9 + 2) 3 1 (.slice o9 1 c9) 1 (ints [n0])) := Lib.hid (by rw [hw10]; exact own_setx KU9.out KW9.out (by decide))
          have VB : Hid (Below T9 w3 w10) := Lib.hid (by rw [hw10]; exact KB9.out.setCell (p := ⟨T9 + 1, 0, none⟩) (Nat.le_succ _) _)
          have VS : Hid (wc.heap.size ≤ w10.heap.size) := Lib.hid (by rw [hw10]; simpa using HS9.out)
          have z0 : w9.cell? ⟨T9 + 1, 0, none⟩ = some us := KW9.out.cell 0
          have g0 := KW9.out.frozen 0
          go_upto_region 13 with fail
          rw [← hw10]
          clear hw10 z0 KW9 KA9 KL9 KU9 KB9 HS9
          have z1 : w10.cell? ⟨T9 + 1, 1, none⟩ = some (.int .i64 1) := VW.out.cell 1
          have z2 : w10.cell? ⟨T9 + 1, 2, none⟩ = some (.int .i64 1) := VW.out.cell 2
          have z3 : w10.cell? ⟨T9 + 1, 3, none⟩ = some (.int .i64 1) := VW.out.cell 3
          have g1 := VW.out.frozen 1
          have g2 := VW.out.frozen 2
          have g3 := VW.out.frozen 3
          obtain ⟨x0, x1, x2, x3, x4, x5⟩ := (blk6l VL.out).1
          have e1 := HE.out.1
          have e2 := HE.out.2.1
          have e3 := HE.out.2.2
          have nP : ¬ P = T9 + 1 := by have := HZ.out; omega
          have nQ : ¬ T9 + 1 = P := by have := HZ.out; omega
          skip
          go_region
          clear z1 z2 z3 g0 g1 g2 g3 x0 x1 x2 x3 x4 x5 e1 e2 e3
          obtain ⟨w13, hw13⟩ : ∃ W, W = ((((w10.setCell ⟨T9 + 1, 1, none⟩ (.int .i64 n0)).setCell ⟨T9 + 1, 2, none⟩ (.int .i64 k0)).setCell ⟨T9 + 1, 3, none⟩ (.int .i64 l0))).drew := ⟨_, rfl⟩
          have Y3 := Lib.hid (put3 VW.out VB.out (Nat.le_succ _) VU.out (by decide) (.int .i64 n0) (.int .i64 k0) (.int .i64 l0))
          rw [← hw13] at Y3
          have YW : Hid (Blk w13 (T9 + 1) 86 #[(.slice o9 1 c9), .int .i64 n0, .int .i64 k0, .int .i64 l0, .int .i64 0, .int .i64 0, .int .i64 0, .int .i64 0, .int .i64 0, .int .i64 0, .int .i64 0, .int .i64 0, .int .i64 0, .int .i64 0, .int .i64 0, .int .i64 0]) := Lib.hid Y3.out.1
          have YB : Hid (Below T9 w3 w13) := Lib.hid Y3.out.2.1
          have YU : Hid (w13.ownsRow (T9 + 2) 3 1 (.slice o9 1 c9) 1 (ints [n0])) := Lib.hid Y3.out.2.2
          clear Y3
          have YA : Hid (Blk w13 T9 147 #[.int .i64 1, .int .i64 1, .int .i64 1, .int .i64 1, .int .i64 0, .int .i64 1, .int .i64 0, .int .i64 0, .int .i64 0, .int .i64 0, .int .i64 0, .int .i64 0]) := Lib.hid (by rw [hw13]; exact (((VA.out.far (p := ⟨T9 + 1, 1, none⟩) (by show T9 ≠ T9 + 1; omega) (.int .i64 n0)).far (p := ⟨T9 + 1, 2, none⟩) (by show T9 ≠ T9 + 1; omega) (.int .i64 k0)).far (p := ⟨T9 + 1, 3, none⟩) (by show T9 ≠ T9 + 1; omega) (.int .i64 l0)))
          have YL : Hid (Blk w13 P 84 #[.int .i64 l0, .int .i64 n0, .int .i64 k0, .int .i64 s0, .int .i64 p0, .int .i64 d0]) := Lib.hid (by rw [hw13]; exact (((VL.out.far (p := ⟨T9 + 1, 1, none⟩) (by have := HZ.out; show P ≠ T9 + 1; omega) (.int .i64 n0)).far (p := ⟨T9 + 1, 2, none⟩) (by have := HZ.out; show P ≠ T9 + 1; omega) (.int .i64 k0)).far (p := ⟨T9 + 1, 3, none⟩) (by have := HZ.out; show P ≠ T9 + 1; omega) (.int .i64 l0)))
          have YS : Hid (wc.heap.size ≤ w13.heap.size) := Lib.hid (by rw [hw13]; simpa using VS.out)
          rw [← hw13]
          clear hw13 VW VA VL VU VB VS nP nQ
          have nP : ¬ P = T9 := by have := HZ.out; omega
          have nQ : ¬ T9 = P := by have := HZ.out; omega
          go_upto_region 14 with fail
          go_step
          go_step
          go_step
          go_step
          go_step
          go_step
          go_step
          go_step
          go_step
          go_step
          go_step
          go_step
          go_step
          (refine wpList_load_row rfl 84 (.tmp 13) (by rfl) (P) (by rfl) 84 _ (0, 0) _ YL.out Try.underlying84 rfl (by kernel_rfl) ?_)
          go_step
          go_step
          go_step
          (refine wpList_store_mid rfl 84 (.tmp 95) (.tmp 94) (by rfl) (T9) 6 #[.int .i64 l0, .int .i64 n0, .int .i64 k0, .int .i64 s0, .int .i64 p0, .int .i64 d0] (by rfl) (by rfl) (there_of YA.out (by simp)) (by kernel_rfl) (by simp [Value.oneCell']) ?_)
          go_step
          obtain ⟨w14, hw14⟩ : ∃ W, W = w13.setCells T9 6 [.int .i64 l0, .int .i64 n0, .int .i64 k0, .int .i64 s0, .int .i64 p0, .int .i64 d0] := ⟨_, rfl⟩
          rw [← hw14]
          have ZA : Hid (Blk w14 T9 147 #[.int .i64 1, .int .i64 1, .int .i64 1, .int .i64 1, .int .i64 0, .int .i64 1, .int .i64 l0, .int .i64 n0, .int .i64 k0, .int .i64 s0, .int .i64 p0, .int .i64 d0]) := Lib.hid (by rw [hw14]; have q := sets_blk [.int .i64 l0, .int .i64 n0, .int .i64 k0, .int .i64 s0, .int .i64 p0, .int .i64 d0] (o := 6) YA.out; rw [setsA_12_6] at q; exact q)
          have ZB : Hid (Below T9 w3 w14) := Lib.hid (by rw [hw14]; exact sets_below (Nat.le_refl _) _ YB.out)
          have ZU : Hid (w14.ownsRow (T9 + 2) 3 1 (.slice o9 1 c9) 1 (ints [n0])) := Lib.hid (by rw [hw14]; exact sets_own (by decide) _ YA.out YU.out)
          have ZW : Hid (Blk w14 (T9 + 1) 86 #[(.slice o9 1 c9), .int .i64 n0, .int .i64 k0, .int .i64 l0, .int .i64 0, .int .i64 0, .int .i64 0, .int .i64 0, .int .i64 0, .int .i64 0, .int .i64 0, .int .i64 0, .int .i64 0, .int .i64 0, .int .i64 0, .int .i64 0]) := Lib.hid (by rw [hw14]; exact sets_far (Nat.succ_ne_self _) _ YW.out)
          have Z7 : Hid (w14.heap.size = w13.heap.size) := Lib.hid (by rw [hw14]; exact sets_size _ _ _ _)
          clear hw14 YA YB YU YW YL
          go_upto_region 15 with fail
          go_step
          go_step
          go_step
          go_step
          go_step
          go_step
          go_step
          go_wp2
          have HN2 : Hid (1 ≤ 1 → n0 ≠ 0) := Lib.hid (fun _ => HZR.out)
          exact ⟨⟨1, (.slice o9 1 c9), by omega, by first | go_num | simp, HN2, ZA, ZW, ZU, ZB, Lib.hid (by have := YS.out; have := HZ.out; have := Z7.out; omega)⟩, by first | (simp [intOf]; omega) | simp [intOf]⟩
    · as_aux_lemma =>
      replace KA : Hid (Blk wr T9 147 #[.int .i64 1, .int .i64 1, .int .i64 1, .int .i64 1, .int .i64 0, .int .i64 1, .int .i64 l0, .int .i64 n0, .int .i64 k0, .int .i64 s0, .int .i64 p0, .int .i64 d0]) := KA
      replace KW : Hid (Blk wr (T9 + 1) 86 #[us, .int .i64 n0, .int .i64 k0, .int .i64 l0, .int .i64 0, .int .i64 0, .int .i64 0, .int .i64 0, .int .i64 0, .int .i64 0, .int .i64 0, .int .i64 0, .int .i64 0, .int .i64 0, .int .i64 0, .int .i64 0]) := KW
      replace KU : Hid (wr.ownsRow (T9 + 2) 3 1 us 1 (ints [n0])) := KU
      go_upto_region 16 with fail
      have KA0 : Hid (Blk wr.drew T9 147 #[.int .i64 1, .int .i64 1, .int .i64 1, .int .i64 1, .int .i64 0, .int .i64 1, .int .i64 l0, .int .i64 n0, .int .i64 k0, .int .i64 s0, .int .i64 p0, .int .i64 d0]) := Lib.hid (blk_drw KA.out)
      have KW0 : Hid (Blk wr.drew (T9 + 1) 86 #[us, .int .i64 n0, .int .i64 k0, .int .i64 l0, .int .i64 0, .int .i64 0, .int .i64 0, .int .i64 0, .int .i64 0, .int .i64 0, .int .i64 0, .int .i64 0, .int .i64 0, .int .i64 0, .int .i64 0, .int .i64 0]) := Lib.hid (blk_drw KW.out)
      have KU0 : Hid (wr.drew.ownsRow (T9 + 2) 3 1 us 1 (ints [n0])) := Lib.hid (own_drw KU.out)
      have KB0 : Hid (Below T9 w3 wr.drew) := Lib.hid (below_drw KB.out 1)
      refine wp_region_held_drew (S := fun W => Blk W T9 147 #[.int .i64 1, .int .i64 1, .int .i64 1, .int .i64 1, .int .i64 0, .int .i64 1, .int .i64 l0, .int .i64 n0, .int .i64 k0, .int .i64 s0, .int .i64 p0, .int .i64 d0]) (by kernel_rfl) ?_ (fun hHeld => ?_)
      · exact KA0.out
      have hHd := hHeld
      generalize wr.drew = w_0 at *
      (refine wpAnyH_take (i := 0) (oi := ⟨some 97, _, _, _, _, _⟩) (v := ?v0_e11) rfl (by kernel_rfl) (by kernel_rfl) (by kernel_rfl) (fun _ _ _ h => h) (Or.inl ⟨by rfl, ?hy0_e11⟩) (by assumption) ?rest0_e11; (case hy0_e11 => ((intro w hSw); (try dsimp only at hSw); go_simp; first | done | (with_reducible rfl))))
      (try simp only [Act.put, List.setIfInBounds_toArray, List.set_cons_zero, List.set_cons_succ])
      (refine wpAnyH_take (i := 1) (oi := ⟨some 98, _, _, _, _, _⟩) (v := .agg #[.int .i64 1, .int .i64 1, .int .i64 1, .int .i64 1, .int .i64 0, .int .i64 1]) rfl (by kernel_rfl) (by kernel_rfl) (by kernel_rfl) (fun _ _ _ h => h) (yieldsIf_load_mid (by rfl) 84 _ rfl T9 0 rfl [.int .i64 1, .int .i64 1, .int .i64 1, .int .i64 1, .int .i64 0, .int .i64 1] _ (fun w h => range_of h rfl) Try.underlying84 rfl (by kernel_rfl)) (by assumption) ?_)
      (try simp only [Act.put, List.setIfInBounds_toArray, List.set_cons_zero, List.set_cons_succ])
      (refine wpAnyH_take (i := 2) (oi := ⟨some 99, _, _, _, _, _⟩) (v := ?v2_e13) rfl (by kernel_rfl) (by kernel_rfl) (by kernel_rfl) (fun _ _ _ h => h) (Or.inl ⟨by rfl, ?hy2_e13⟩) (by assumption) ?rest2_e13; (case hy2_e13 => ((intro w hSw); (try dsimp only at hSw); go_simp; first | done | (with_reducible rfl))))
      (try simp only [Act.put, List.setIfInBounds_toArray, List.set_cons_zero, List.set_cons_succ])
      (refine wpAnyH_take (i := 3) (oi := ⟨some 100, _, _, _, _, _⟩) (v := .agg #[.int .i64 l0, .int .i64 n0, .int .i64 k0, .int .i64 s0, .int .i64 p0, .int .i64 d0]) rfl (by kernel_rfl) (by kernel_rfl) (by kernel_rfl) (fun _ _ _ h => h) (yieldsIf_load_mid (by rfl) 84 _ rfl T9 6 rfl [.int .i64 l0, .int .i64 n0, .int .i64 k0, .int .i64 s0, .int .i64 p0, .int .i64 d0] _ (fun w h => range_of h rfl) Try.underlying84 rfl (by kernel_rfl)) (by assumption) ?_)
      (try simp only [Act.put, List.setIfInBounds_toArray, List.set_cons_zero, List.set_cons_succ])
      (refine wpAnyH_take (i := 4) (oi := ⟨some 101, _, _, _, _, _⟩) (v := ?v4_e15) rfl (by kernel_rfl) (by kernel_rfl) (by kernel_rfl) (fun _ _ _ h => h) (Or.inl ⟨by rfl, ?hy4_e15⟩) (by assumption) ?rest4_e15; (case hy4_e15 => ((intro w hSw); (try dsimp only at hSw); go_simp; first | done | (with_reducible rfl))))
      (try simp only [Act.put, List.setIfInBounds_toArray, List.set_cons_zero, List.set_cons_succ])
      refine wpAnyH_ready (rs := [5]) (by kernel_rfl) (by simp) ?_
      refine AllReadyH.cons (o := ⟨none, _, _, _, _, _⟩) rfl (fun K hK => ?_) (AllReadyH.nil)
      rw [if_pos (by rfl)]
      refine wp_store_mid 84 (.tmp 101) (.tmp 98) (by rfl) (T9 + 1) 4 #[.int .i64 1, .int .i64 1, .int .i64 1, .int .i64 1, .int .i64 0, .int .i64 1] (by rfl) (by rfl) (there_of KW0.out (by simp)) (by kernel_rfl) (by simp [Value.oneCell']) ?_
      rw [show (#[.int .i64 1, .int .i64 1, .int .i64 1, .int .i64 1, .int .i64 0, .int .i64 1] : Array Value).toList = [.int .i64 1, .int .i64 1, .int .i64 1, .int .i64 1, .int .i64 0, .int .i64 1] from rfl]
      have KW1 : Hid (Blk (w_0.setCells (T9 + 1) 4 [.int .i64 1, .int .i64 1, .int .i64 1, .int .i64 1, .int .i64 0, .int .i64 1]) (T9 + 1) 86 #[us, .int .i64 n0, .int .i64 k0, .int .i64 l0, .int .i64 1, .int .i64 1, .int .i64 1, .int .i64 1, .int .i64 0, .int .i64 1, .int .i64 0, .int .i64 0, .int .i64 0, .int .i64 0, .int .i64 0, .int .i64 0]) := Lib.hid (by have q := sets_blk [.int .i64 1, .int .i64 1, .int .i64 1, .int .i64 1, .int .i64 0, .int .i64 1] (o := 4) KW0.out; rw [setsA_16_4] at q; exact q)
      have KA1 : Hid (Blk (w_0.setCells (T9 + 1) 4 [.int .i64 1, .int .i64 1, .int .i64 1, .int .i64 1, .int .i64 0, .int .i64 1]) T9 147 #[.int .i64 1, .int .i64 1, .int .i64 1, .int .i64 1, .int .i64 0, .int .i64 1, .int .i64 l0, .int .i64 n0, .int .i64 k0, .int .i64 s0, .int .i64 p0, .int .i64 d0]) := Lib.hid (sets_far (Nat.ne_of_lt (Nat.lt_succ_self _)) _ KA0.out)
      have KU1 := Lib.hid (sets_own (t := 86) (by decide) [.int .i64 1, .int .i64 1, .int .i64 1, .int .i64 1, .int .i64 0, .int .i64 1] (o := 4) KW0.out KU0.out)
      have KB1 := Lib.hid (sets_below (Nat.le_succ T9) [.int .i64 1, .int .i64 1, .int .i64 1, .int .i64 1, .int .i64 0, .int .i64 1] (o := 4) KB0.out)
      refine hK.out _ _ ?_ (fun hHeld => ?_)
      · (try dsimp only)
        exact KA1.out
      clear hK K
      generalize w_0.setCells (T9 + 1) 4 [.int .i64 1, .int .i64 1, .int .i64 1, .int .i64 1, .int .i64 0, .int .i64 1] = w_1 at *
      (try simp only [Act.put])
      (refine wpAnyH_take (i := 6) (oi := ⟨some 102, _, _, _, _, _⟩) (v := ?v6_e16) rfl (by kernel_rfl) (by kernel_rfl) (by kernel_rfl) (fun _ _ _ h => h) (Or.inl ⟨by rfl, ?hy6_e16⟩) (by assumption) ?rest6_e16; (case hy6_e16 => ((intro w hSw); (try dsimp only at hSw); go_simp; first | done | (with_reducible rfl))))
      (try simp only [Act.put, List.setIfInBounds_toArray, List.set_cons_zero, List.set_cons_succ])
      refine wpAnyH_ready (rs := [7]) (by kernel_rfl) (by simp) ?_
      refine AllReadyH.cons (o := ⟨none, _, _, _, _, _⟩) rfl (fun K hK => ?_) (AllReadyH.nil)
      rw [if_pos (by rfl)]
      refine wp_store_mid 84 (.tmp 102) (.tmp 100) (by rfl) (T9 + 1) 10 #[.int .i64 l0, .int .i64 n0, .int .i64 k0, .int .i64 s0, .int .i64 p0, .int .i64 d0] (by rfl) (by rfl) (there_of KW1.out (by simp)) (by kernel_rfl) (by simp [Value.oneCell']) ?_
      rw [show (#[.int .i64 l0, .int .i64 n0, .int .i64 k0, .int .i64 s0, .int .i64 p0, .int .i64 d0] : Array Value).toList = [.int .i64 l0, .int .i64 n0, .int .i64 k0, .int .i64 s0, .int .i64 p0, .int .i64 d0] from rfl]
      have KW2 : Hid (Blk (w_1.setCells (T9 + 1) 10 [.int .i64 l0, .int .i64 n0, .int .i64 k0, .int .i64 s0, .int .i64 p0, .int .i64 d0]) (T9 + 1) 86 #[us, .int .i64 n0, .int .i64 k0, .int .i64 l0, .int .i64 1, .int .i64 1, .int .i64 1, .int .i64 1, .int .i64 0, .int .i64 1, .int .i64 l0, .int .i64 n0, .int .i64 k0, .int .i64 s0, .int .i64 p0, .int .i64 d0]) := Lib.hid (by have q := sets_blk [.int .i64 l0, .int .i64 n0, .int .i64 k0, .int .i64 s0, .int .i64 p0, .int .i64 d0] (o := 10) KW1.out; rw [setsA_16_10] at q; exact q)
      have KA2 : Hid (Blk (w_1.setCells (T9 + 1) 10 [.int .i64 l0, .int .i64 n0, .int .i64 k0, .int .i64 s0, .int .i64 p0, .int .i64 d0]) T9 147 #[.int .i64 1, .int .i64 1, .int .i64 1, .int .i64 1, .int .i64 0, .int .i64 1, .int .i64 l0, .int .i64 n0, .int .i64 k0, .int .i64 s0, .int .i64 p0, .int .i64 d0]) := Lib.hid (sets_far (Nat.ne_of_lt (Nat.lt_succ_self _)) _ KA1.out)
      have KU2 := Lib.hid (sets_own (t := 86) (by decide) [.int .i64 l0, .int .i64 n0, .int .i64 k0, .int .i64 s0, .int .i64 p0, .int .i64 d0] (o := 10) KW1.out KU1.out)
      have KB2 := Lib.hid (sets_below (Nat.le_succ T9) [.int .i64 l0, .int .i64 n0, .int .i64 k0, .int .i64 s0, .int .i64 p0, .int .i64 d0] (o := 10) KB1.out)
      refine hK.out _ _ ?_ (fun hHeld => ?_)
      · (try dsimp only)
        exact KA2.out
      clear hK K
      generalize w_1.setCells (T9 + 1) 10 [.int .i64 l0, .int .i64 n0, .int .i64 k0, .int .i64 s0, .int .i64 p0, .int .i64 d0] = w16 at *
      (try simp only [Act.put])
      refine wpAnyH_done (by kernel_rfl) ?_ _
      have YW : Hid (Blk w16 (T9 + 1) 86 #[us, .int .i64 n0, .int .i64 k0, .int .i64 l0, .int .i64 1, .int .i64 1, .int .i64 1, .int .i64 1, .int .i64 0, .int .i64 1, .int .i64 l0, .int .i64 n0, .int .i64 k0, .int .i64 s0, .int .i64 p0, .int .i64 d0]) := KW2
      have YB : Hid (Below T9 w3 w16) := KB2
      have YU : Hid (w16.ownsRow (T9 + 2) 3 1 us 1 (ints [n0])) := KU2
      clear KA KW KU KB KA0 KW0 KU0 KB0 KA1 KW1 KU1 KB1 KA2 KW2 KU2 KB2
      have q := Lib.hid (KF.out w16 YB.out)
      obtain ⟨o9, c9, rfl⟩ := own_form1 YU.out
      go_wp2_with (first | (refine wpList_load_row rfl 86 _ (by rfl) (T9 + 1) (by rfl) 86 _ (0, 0) _ YW.out Try.underlying86 rfl (by kernel_rfl) ?_) | (refine wpList_store_row rfl 86 _ _ (by rfl) (w.heap.size + 1) #[(.slice o9 1 c9), .int .i64 n0, .int .i64 k0, .int .i64 l0, .int .i64 1, .int .i64 1, .int .i64 1, .int .i64 1, .int .i64 0, .int .i64 1, .int .i64 l0, .int .i64 n0, .int .i64 k0, .int .i64 s0, .int .i64 p0, .int .i64 d0] (by rfl) (by rfl) 86 _ q.out.2.2 (by kernel_rfl) rfl (by simp [Value.oneCell']) ?_))
      have QN := setrow_blk q.out.2.2 #[(.slice o9 1 c9), .int .i64 n0, .int .i64 k0, .int .i64 l0, .int .i64 1, .int .i64 1, .int .i64 1, .int .i64 1, .int .i64 0, .int .i64 1, .int .i64 l0, .int .i64 n0, .int .i64 k0, .int .i64 s0, .int .i64 p0, .int .i64 d0]
      refine bodyPost_ret (v := .tuple #[.agg #[(.slice o9 1 c9), .int .i64 n0, .int .i64 k0, .int .i64 l0, .int .i64 1, .int .i64 1, .int .i64 1, .int .i64 1, .int .i64 0, .int .i64 1, .int .i64 l0, .int .i64 n0, .int .i64 k0, .int .i64 s0, .int .i64 p0, .int .i64 d0], .int .i64 0]) (result_row _ _ rfl rfl rfl QN rfl Try.underlying86 (by kernel_rfl)) rfl ?_
      have q3 := YU.out.kept (setrow_grown w16 (w.heap.size + 1) #[(.slice o9 1 c9), .int .i64 n0, .int .i64 k0, .int .i64 l0, .int .i64 1, .int .i64 1, .int .i64 1, .int .i64 1, .int .i64 0, .int .i64 1, .int .i64 l0, .int .i64 n0, .int .i64 k0, .int .i64 s0, .int .i64 p0, .int .i64 d0]) (.inr (tens_not_row YU.out q.out.2.2 (by decide)))
      have q2 := setrow_below q.out.1 (Nat.le_succ _) (Nat.le_refl _) #[(.slice o9 1 c9), .int .i64 n0, .int .i64 k0, .int .i64 l0, .int .i64 1, .int .i64 1, .int .i64 1, .int .i64 1, .int .i64 0, .int .i64 1, .int .i64 l0, .int .i64 n0, .int .i64 k0, .int .i64 s0, .int .i64 p0, .int .i64 d0]
      exact ⟨fun h => absurd h (by have := HNZ.out; exact this (by omega)), fun _ => ⟨o9, c9, rfl, own_base q3 (by have := HT.out; omega), q2⟩⟩
end Go.Proofs.Ytnlfljekbknaaaa
