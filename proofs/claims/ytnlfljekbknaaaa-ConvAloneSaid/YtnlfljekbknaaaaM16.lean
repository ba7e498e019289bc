/-
  The reference's places along all dimensions.
  What the laws of package conv play: answers of not too many words.
  The list of package conv's asks (two tensors, numbers, lists, fraction bits) opened to the cells of its elements.
-/
import Derived.Deep.Slices
import Derived.Deep.Fields
import Derived.ProofKit
import Derived.Carry
import Derived.SizedLaws
import Derived.Test.YtnlfljekbknaaaaM01
import Derived.Test.YtnlfljekbknaaaaM02
import Derived.Test.YtnlfljekbknaaaaM10
import Derived.Test.YtnlfljekbknaaaaM15
namespace Go.Proofs.Ytnlfljekbknaaaa
open Go Go.RowKit Go.Shelf
attribute [local go_sem] Oper.semAt_some
/-- What Spatial answers: no more places than dimensions. -/
def SpP (N : Nat) (w : World) (e : Ending) (w' : World) : Prop := ∃ o c b L, e = .returned (.tuple #[.slice o (List.length L) c, .bool b]) ∧ L.length ≤ N ∧ w'.ownsRow w.heap.size 3 1 (.slice o L.length c) L.length (ints L) ∧ Below w.heap.size w w'
set_option maxRecDepth 100000 in
set_option maxHeartbeats 8000000 in
theorem spatial11_some (vx vy vq v1 v2 v3 : Value) (a kl s p d : List Int) (w : World) (hx : Ld w vx a) (hy : Ld w vy kl) (h1 : Ld w v1 s) (h2 : Ld w v2 p) (h3 : Ld w v3 d) (la : a.length = kl.length + 2) (l1 : s.length = kl.length) (l2 : p.length = kl.length) (l3 : d.length = kl.length) (hs : ∀ i, i < s.length → 1 ≤ s.getD i 0) (lk : kl.length ≤ 2) :
    Calls Try.prog 76 #[vx, vy, .agg #[vq, v1, v2, v3]] w (SpP kl.length w) := by
  obtain ⟨i0, hi0, hz0, hz1, hz2⟩ := info_parts infoI
  obtain ⟨ox, cx, rfl, _, gx⟩ := hx
  obtain ⟨oy, cy, rfl, _, gy⟩ := hy
  obtain ⟨o1, c1, rfl, _, g1⟩ := h1
  obtain ⟨o2, c2, rfl, _, g2⟩ := h2
  obtain ⟨o3, c3, rfl, _, g3⟩ := h3
  rw [l1] at g1 hs
  rw [l2] at g2
  rw [l3] at g3
  rw [la] at gx
  rw [l1, l2, l3, la]
  have HG := Lib.hid (fun i hi => And.intro (gx (2 + i) (by omega)) (And.intro (gy i hi) (And.intro (g1 i hi) (And.intro (g2 i hi) (g3 i hi)))))
  have HS := Lib.hid hs
  clear gx gy g1 g2 g3 hs l1 l2 l3 la
  obtain ⟨N, hN⟩ : ∃ N, N = kl.length := ⟨_, rfl⟩
  rw [← hN] at HG HS lk ⊢
  have Q1 := Lib.hid (Blk.new w 28 #[vq, .slice o1 N c1, .slice o2 N c2, .slice o3 N c3])
  obtain ⟨w1, hw1⟩ : ∃ w1, w1 = w.alloc (.cells #[vq, .slice o1 N c1, .slice o2 N c2, .slice o3 N c3] 28) := ⟨_, rfl⟩
  rw [← hw1] at Q1
  have B1 : Hid (Below w.heap.size w w1) := Lib.hid (by rw [hw1]; exact (Below.refl _ _).alloc (Nat.le_refl _) _)
  have S1 : Hid (w1.heap.size = w.heap.size + 1) := Lib.hid (by rw [hw1]; simp)
  have HW := Lib.hid hw1
  clear hw1 hN
  go_enter Try.func76, Try.ntmps76
  go_wp2
  rw [← HW.out]
  go_loopw [8, 9] (fun s8 s9 wr => ∃ (k : Nat) (L : List Int) (o : Option Addr) (c : Nat), k ≤ N ∧ s9 = .int .i64 k ∧ s8 = .slice o k c ∧ Hid (L.length = k) ∧ Hid (wr.ownsRow w1.heap.size 3 1 (.slice o k c) k (ints L)) ∧ Below w1.heap.size w1 wr) (fun _ s9 _ => N - (intOf s9).toNat)
  case atStart => exact ⟨0, [], none, 0, Nat.zero_le _, rfl, rfl, rfl, World.ownsRow_nil _ _ _ _, Below.refl _ _⟩
  case round =>
    obtain ⟨k, L, o, c, hk, rfl, rfl, HL, HO, hB⟩ := hrel
    have hBs := hB.size
    by_cases hlt : k < N
    · obtain ⟨⟨bx, fx, rfl, ux, yx⟩, ⟨by', fy, rfl, uy, yy⟩, ⟨b1, f1, rfl, u1, y1⟩, ⟨b2, f2, rfl, u2, y2⟩, ⟨b3, f3, rfl, u3, y3⟩⟩ := HG.out k hlt
      have hBD : Below w1.heap.size w1 wr.drew := below_drw hB 1
      have BB := B1.out.trans (hBD.mono B1.out.size)
      obtain ⟨_, x1, x2, x3⟩ := blk4c (Q1.out.below hBD Q1.out.lt)
      have KS : Hid ((fun X => X.cell? ⟨bx, fx + (2 + k), none⟩ = some (.int .i64 (a.getD (2 + k) 0)) ∧ X.cell? ⟨by', fy + k, none⟩ = some (.int .i64 (kl.getD k 0)) ∧ (X.cell? ⟨b1, f1 + k, none⟩ = some (.int .i64 (s.getD k 0)) ∧ X.cell? ⟨b2, f2 + k, none⟩ = some (.int .i64 (p.getD k 0)) ∧ X.cell? ⟨b3, f3 + k, none⟩ = some (.int .i64 (d.getD k 0))) ∧ X.cell? ⟨w.heap.size, 1, none⟩ = some (.slice (some ⟨b1, f1, none⟩) N c1) ∧ X.cell? ⟨w.heap.size, 2, none⟩ = some (.slice (some ⟨b2, f2, none⟩) N c2) ∧ X.cell? ⟨w.heap.size, 3, none⟩ = some (.slice (some ⟨b3, f3, none⟩) N c3)) wr.drew) := Lib.hid ⟨(BB.cell (p := ⟨bx, fx + (2 + k), none⟩) ux).trans yx, (BB.cell (p := ⟨by', fy + k, none⟩) uy).trans yy, ⟨(BB.cell (p := ⟨b1, f1 + k, none⟩) u1).trans y1, (BB.cell (p := ⟨b2, f2 + k, none⟩) u2).trans y2, (BB.cell (p := ⟨b3, f3 + k, none⟩) u3).trans y3⟩, x1, x2, x3⟩
      have HP := Lib.hid (fun (l k' p' d' : Int) (W : World) => places11_some l k' (s.getD k 0) p' d' W (HS.out k hlt))
      have e2 : IntKind.i64.wrap (2 + (k : Int)) = 2 + (k : Int) := by
        have h2 : (0 : Int) ≤ 2 + (k : Int) ∧ 2 + (k : Int) ≤ 4 := by omega
        generalize 2 + (k : Int) = x at h2
        rw [IntKind.wrap_i64]; omega
      have e4 : (2 + (k : Int)).toNat = 2 + k := by omega
      have e5 : (0 : Int) ≤ 2 + (k : Int) := by omega
      have e6 : 2 + (k : Int) < (N : Int) + 2 := by omega
      have e7 : (k : Int) < (N : Int) := by omega
      clear ux yx uy yy u1 y1 u2 y2 u3 y3 BB x1 x2 x3
      generalize s.getD k 0 = sk at *
      generalize a.getD (2 + k) 0 = ak at *
      generalize kl.getD k 0 = kk at *
      generalize p.getD k 0 = pk at *
      generalize d.getD k 0 = dk at *
      have HBD := Lib.hid hBD
      have HO1 : Hid (wr.drew.ownsRow w1.heap.size 3 1 (.slice o k c) k (ints L)) := Lib.hid (own_bel HO.out (below_drw (Below.refl _ _) 1))
      have hb2 : w1.heap.size ≤ wr.drew.heap.size := hBD.size
      clear hBD hB hBs HO
      go_upto_region 5 with fail
      refine wp_region_noPanic ?_
      refine wp_region_held_drew (S := (fun X => X.cell? ⟨bx, fx + (2 + k), none⟩ = some (.int .i64 (ak)) ∧ X.cell? ⟨by', fy + k, none⟩ = some (.int .i64 (kk)) ∧ (X.cell? ⟨b1, f1 + k, none⟩ = some (.int .i64 (sk)) ∧ X.cell? ⟨b2, f2 + k, none⟩ = some (.int .i64 (pk)) ∧ X.cell? ⟨b3, f3 + k, none⟩ = some (.int .i64 (dk))) ∧ X.cell? ⟨w.heap.size, 1, none⟩ = some (.slice (some ⟨b1, f1, none⟩) N c1) ∧ X.cell? ⟨w.heap.size, 2, none⟩ = some (.slice (some ⟨b2, f2, none⟩) N c2) ∧ X.cell? ⟨w.heap.size, 3, none⟩ = some (.slice (some ⟨b3, f3, none⟩) N c3))) (by kernel_rfl) ?_ (fun hHeld => ?_)
      · exact KS.out
      have hHd := hHeld
      generalize wr.drew = wd at *
      (refine wpAnyH_take (i := 0) (oi := ⟨some 17, _, _, _, _, _⟩) (v := ?v0_s1) rfl (by kernel_rfl) (by kernel_rfl) (by kernel_rfl) (fun _ _ _ h => h) (Or.inl ⟨by rfl, ?hy0_s1⟩) (by assumption) ?rest0_s1; (case hy0_s1 => ((intro w hSw); (try dsimp only at hSw); go_simp; first | done | (with_reducible rfl))))
      (try simp only [Act.put, List.setIfInBounds_toArray, List.set_cons_zero, List.set_cons_succ])
      (refine wpAnyH_take (i := 1) (oi := ⟨some 18, _, _, _, _, _⟩) (v := ?v1_s2) rfl (by kernel_rfl) (by kernel_rfl) (by kernel_rfl) (fun _ _ _ h => h) (Or.inl ⟨by rfl, ?hy1_s2⟩) (by assumption) ?rest1_s2; (case hy1_s2 => ((intro w hSw); (try dsimp only at hSw); go_simp; first | done | (with_reducible rfl))))
      (try simp only [Act.put, List.setIfInBounds_toArray, List.set_cons_zero, List.set_cons_succ])
      (refine wpAnyH_take (i := 2) (oi := ⟨some 19, _, _, _, _, _⟩) (v := ?v2_s3) rfl (by kernel_rfl) (by kernel_rfl) (by kernel_rfl) (fun _ _ _ h => h) (Or.inl ⟨by rfl, ?hy2_s3⟩) (by assumption) ?rest2_s3; (case hy2_s3 => ((intro w hSw); (try dsimp only at hSw); go_simp; first | done | (with_reducible rfl))))
      (try simp only [Act.put, List.setIfInBounds_toArray, List.set_cons_zero, List.set_cons_succ])
      (refine wpAnyH_take (i := 3) (oi := ⟨some 20, _, _, _, _, _⟩) (v := ?v3_s4) rfl (by kernel_rfl) (by kernel_rfl) (by kernel_rfl) (fun _ _ _ h => h) (Or.inl ⟨by rfl, ?hy3_s4⟩) (by assumption) ?rest3_s4; (case hy3_s4 => ((intro w hSw); (try dsimp only at hSw); go_simp; first | done | (with_reducible rfl))))
      (try simp only [Act.put, List.setIfInBounds_toArray, List.set_cons_zero, List.set_cons_succ])
      (refine wpAnyH_take (i := 4) (oi := ⟨some 21, _, _, _, _, _⟩) (v := ?v4_s5) rfl (by kernel_rfl) (by kernel_rfl) (by kernel_rfl) (fun _ _ _ h => h) (Or.inl ⟨by rfl, ?hy4_s5⟩) (by assumption) ?rest4_s5; (case hy4_s5 => ((intro w hSw); (try dsimp only at hSw); go_simp; first | done | (with_reducible rfl))))
      (try simp only [Act.put, List.setIfInBounds_toArray, List.set_cons_zero, List.set_cons_succ])
      (refine wpAnyH_take (i := 5) (oi := ⟨some 22, _, _, _, _, _⟩) (v := ?v5_s6) rfl (by kernel_rfl) (by kernel_rfl) (by kernel_rfl) (fun _ _ _ h => h) (Or.inl ⟨by rfl, ?hy5_s6⟩) (by assumption) ?rest5_s6; (case hy5_s6 => ((intro w hSw); (try dsimp only at hSw); go_simp; first | done | (with_reducible rfl))))
      (try simp only [Act.put, List.setIfInBounds_toArray, List.set_cons_zero, List.set_cons_succ])
      (refine wpAnyH_take (i := 6) (oi := ⟨some 23, _, _, _, _, _⟩) (v := ?v6_s7) rfl (by kernel_rfl) (by kernel_rfl) (by kernel_rfl) (fun _ _ _ h => h) (Or.inl ⟨by rfl, ?hy6_s7⟩) (by assumption) ?rest6_s7; (case hy6_s7 => ((intro w hSw); (try dsimp only at hSw); go_simp; first | done | (with_reducible rfl))))
      (try simp only [Act.put, List.setIfInBounds_toArray, List.set_cons_zero, List.set_cons_succ])
      (refine wpAnyH_take (i := 7) (oi := ⟨some 24, _, _, _, _, _⟩) (v := ?v7_s8) rfl (by kernel_rfl) (by kernel_rfl) (by kernel_rfl) (fun _ _ _ h => h) (Or.inl ⟨by rfl, ?hy7_s8⟩) (by assumption) ?rest7_s8; (case hy7_s8 => ((intro w hSw); (try dsimp only at hSw); go_simp; first | done | (with_reducible rfl))))
      (try simp only [Act.put, List.setIfInBounds_toArray, List.set_cons_zero, List.set_cons_succ])
      (refine wpAnyH_take (i := 8) (oi := ⟨some 25, _, _, _, _, _⟩) (v := ?v8_s9) rfl (by kernel_rfl) (by kernel_rfl) (by kernel_rfl) (fun _ _ _ h => h) (Or.inl ⟨by rfl, ?hy8_s9⟩) (by assumption) ?rest8_s9; (case hy8_s9 => ((intro w hSw); (try dsimp only at hSw); go_simp; first | done | (with_reducible rfl))))
      (try simp only [Act.put, List.setIfInBounds_toArray, List.set_cons_zero, List.set_cons_succ])
      (refine wpAnyH_take (i := 9) (oi := ⟨some 26, _, _, _, _, _⟩) (v := ?v9_s10) rfl (by kernel_rfl) (by kernel_rfl) (by kernel_rfl) (fun _ _ _ h => h) (Or.inl ⟨by rfl, ?hy9_s10⟩) (by assumption) ?rest9_s10; (case hy9_s10 => ((intro w hSw); (try dsimp only at hSw); go_simp; first | done | (with_reducible rfl))))
      (try simp only [Act.put, List.setIfInBounds_toArray, List.set_cons_zero, List.set_cons_succ])
      (refine wpAnyH_take (i := 10) (oi := ⟨some 27, _, _, _, _, _⟩) (v := ?v10_s11) rfl (by kernel_rfl) (by kernel_rfl) (by kernel_rfl) (fun _ _ _ h => h) (Or.inl ⟨by rfl, ?hy10_s11⟩) (by assumption) ?rest10_s11; (case hy10_s11 => ((intro w hSw); (try dsimp only at hSw); go_simp; first | done | (with_reducible rfl))))
      (try simp only [Act.put, List.setIfInBounds_toArray, List.set_cons_zero, List.set_cons_succ])
      (refine wpAnyH_take (i := 11) (oi := ⟨some 28, _, _, _, _, _⟩) (v := ?v11_s12) rfl (by kernel_rfl) (by kernel_rfl) (by kernel_rfl) (fun _ _ _ h => h) (Or.inl ⟨by rfl, ?hy11_s12⟩) (by assumption) ?rest11_s12; (case hy11_s12 => ((intro w hSw); (try dsimp only at hSw); go_simp; first | done | (with_reducible rfl))))
      (try simp only [Act.put, List.setIfInBounds_toArray, List.set_cons_zero, List.set_cons_succ])
      (refine wpAnyH_take (i := 12) (oi := ⟨some 29, _, _, _, _, _⟩) (v := ?v12_s13) rfl (by kernel_rfl) (by kernel_rfl) (by kernel_rfl) (fun _ _ _ h => h) (Or.inl ⟨by rfl, ?hy12_s13⟩) (by assumption) ?rest12_s13; (case hy12_s13 => ((intro w hSw); (try dsimp only at hSw); go_simp; first | done | (with_reducible rfl))))
      (try simp only [Act.put, List.setIfInBounds_toArray, List.set_cons_zero, List.set_cons_succ])
      (refine wpAnyH_take (i := 13) (oi := ⟨some 30, _, _, _, _, _⟩) (v := ?v13_s14) rfl (by kernel_rfl) (by kernel_rfl) (by kernel_rfl) (fun _ _ _ h => h) (Or.inl ⟨by rfl, ?hy13_s14⟩) (by assumption) ?rest13_s14; (case hy13_s14 => ((intro w hSw); (try dsimp only at hSw); go_simp; first | done | (with_reducible rfl))))
      (try simp only [Act.put, List.setIfInBounds_toArray, List.set_cons_zero, List.set_cons_succ])
      (refine wpAnyH_take (i := 14) (oi := ⟨some 31, _, _, _, _, _⟩) (v := ?v14_s15) rfl (by kernel_rfl) (by kernel_rfl) (by kernel_rfl) (fun _ _ _ h => h) (Or.inl ⟨by rfl, ?hy14_s15⟩) (by assumption) ?rest14_s15; (case hy14_s15 => ((intro w hSw); (try dsimp only at hSw); go_simp; first | done | (with_reducible rfl))))
      (try simp only [Act.put, List.setIfInBounds_toArray, List.set_cons_zero, List.set_cons_succ])
      (refine wpAnyH_take (i := 15) (oi := ⟨some 32, _, _, _, _, _⟩) (v := ?v15_s16) rfl (by kernel_rfl) (by kernel_rfl) (by kernel_rfl) (fun _ _ _ h => h) (Or.inl ⟨by rfl, ?hy15_s16⟩) (by assumption) ?rest15_s16; (case hy15_s16 => ((intro w hSw); (try dsimp only at hSw); go_simp; first | done | (with_reducible rfl))))
      (try simp only [Act.put, List.setIfInBounds_toArray, List.set_cons_zero, List.set_cons_succ])
      (refine wpAnyH_take (i := 16) (oi := ⟨some 33, _, _, _, _, _⟩) (v := ?v16_s17) rfl (by kernel_rfl) (by kernel_rfl) (by kernel_rfl) (fun _ _ _ h => h) (Or.inl ⟨by rfl, ?hy16_s17⟩) (by assumption) ?rest16_s17; (case hy16_s17 => ((intro w hSw); (try dsimp only at hSw); go_simp; first | done | (with_reducible rfl))))
      (try simp only [Act.put, List.setIfInBounds_toArray, List.set_cons_zero, List.set_cons_succ])
      (refine wpAnyH_take (i := 17) (oi := ⟨some 34, _, _, _, _, _⟩) (v := ?v17_s18) rfl (by kernel_rfl) (by kernel_rfl) (by kernel_rfl) (fun _ _ _ h => h) (Or.inl ⟨by rfl, ?hy17_s18⟩) (by assumption) ?rest17_s18; (case hy17_s18 => ((intro w hSw); (try dsimp only at hSw); go_simp; first | done | (with_reducible rfl))))
      (try simp only [Act.put, List.setIfInBounds_toArray, List.set_cons_zero, List.set_cons_succ])
      (refine wpAnyH_take (i := 18) (oi := ⟨some 35, _, _, _, _, _⟩) (v := ?v18_s19) rfl (by kernel_rfl) (by kernel_rfl) (by kernel_rfl) (fun _ _ _ h => h) (Or.inl ⟨by rfl, ?hy18_s19⟩) (by assumption) ?rest18_s19; (case hy18_s19 => ((intro w hSw); (try dsimp only at hSw); go_simp; first | done | (with_reducible rfl))))
      (try simp only [Act.put, List.setIfInBounds_toArray, List.set_cons_zero, List.set_cons_succ])
      (refine wpAnyH_take (i := 19) (oi := ⟨some 36, _, _, _, _, _⟩) (v := ?v19_s20) rfl (by kernel_rfl) (by kernel_rfl) (by kernel_rfl) (fun _ _ _ h => h) (Or.inl ⟨by rfl, ?hy19_s20⟩) (by assumption) ?rest19_s20; (case hy19_s20 => ((intro w hSw); (try dsimp only at hSw); go_simp; first | done | (with_reducible rfl))))
      (try simp only [Act.put, List.setIfInBounds_toArray, List.set_cons_zero, List.set_cons_succ])
      (refine wpAnyH_take (i := 20) (oi := ⟨some 37, _, _, _, _, _⟩) (v := ?v20_s21) rfl (by kernel_rfl) (by kernel_rfl) (by kernel_rfl) (fun _ _ _ h => h) (Or.inl ⟨by rfl, ?hy20_s21⟩) (by assumption) ?rest20_s21; (case hy20_s21 => ((intro w hSw); (try dsimp only at hSw); go_simp; first | done | (with_reducible rfl))))
      (try simp only [Act.put, List.setIfInBounds_toArray, List.set_cons_zero, List.set_cons_succ])
      (refine wpAnyH_take (i := 21) (oi := ⟨some 38, _, _, _, _, _⟩) (v := ?v21_s22) rfl (by kernel_rfl) (by kernel_rfl) (by kernel_rfl) (fun _ _ _ h => h) (Or.inl ⟨by rfl, ?hy21_s22⟩) (by assumption) ?rest21_s22; (case hy21_s22 => ((intro w hSw); (try dsimp only at hSw); go_simp; first | done | (with_reducible rfl))))
      (try simp only [Act.put, List.setIfInBounds_toArray, List.set_cons_zero, List.set_cons_succ])
      (refine wpAnyH_take (i := 22) (oi := ⟨some 39, _, _, _, _, _⟩) (v := ?v22_s23) rfl (by kernel_rfl) (by kernel_rfl) (by kernel_rfl) (fun _ _ _ h => h) (Or.inl ⟨by rfl, ?hy22_s23⟩) (by assumption) ?rest22_s23; (case hy22_s23 => ((intro w hSw); (try dsimp only at hSw); go_simp; first | done | (with_reducible rfl))))
      (try simp only [Act.put, List.setIfInBounds_toArray, List.set_cons_zero, List.set_cons_succ])
      (refine wpAnyH_take (i := 23) (oi := ⟨some 40, _, _, _, _, _⟩) (v := ?v23_s24) rfl (by kernel_rfl) (by kernel_rfl) (by kernel_rfl) (fun _ _ _ h => h) (Or.inl ⟨by rfl, ?hy23_s24⟩) (by assumption) ?rest23_s24; (case hy23_s24 => ((intro w hSw); (try dsimp only at hSw); go_simp; first | done | (with_reducible rfl))))
      (try simp only [Act.put, List.setIfInBounds_toArray, List.set_cons_zero, List.set_cons_succ])
      refine wpAnyH_ready (rs := [24]) (by kernel_rfl) (by simp) ?_
      refine AllReadyH.cons (o := ⟨some 41, _, _, _, _, _⟩) rfl (fun K hK => ?_) (AllReadyH.nil)
      go_simp
      (go_at_call 112; (with_reducible refine (HP.out _ _ _ _ _).mono ?_); rintro e w' ⟨⟨r, rfl⟩, rfl⟩)
      refine hK.out _ _ ?_ (fun hHeld => ?_)
      · (try dsimp only)
        exact KS.out
      clear hK K
      (try simp only [Act.put, List.setIfInBounds_toArray, List.set_cons_zero, List.set_cons_succ])
      (refine wpAnyH_take (i := 25) (oi := ⟨some 10, _, _, _, _, _⟩) (v := ?v25_s25) rfl (by kernel_rfl) (by kernel_rfl) (by kernel_rfl) (fun _ _ _ h => h) (Or.inl ⟨by rfl, ?hy25_s25⟩) (by assumption) ?rest25_s25; (case hy25_s25 => ((intro w hSw); (try dsimp only at hSw); go_simp; first | done | (with_reducible rfl))))
      (try simp only [Act.put, List.setIfInBounds_toArray, List.set_cons_zero, List.set_cons_succ])
      refine wpAnyH_done (by kernel_rfl) ?_ _
      refine NoPanic.normal ?_
      by_cases g : r < 1
      · go_wp2
        refine bodyPost_ret (v := .tuple #[.slice none 0 0, .bool false]) (by simp [results, Try.results76, go_sem]) rfl ?_
        exact ⟨none, 0, false, [], rfl, Nat.zero_le _, World.ownsRow_nil _ _ _ _, B1.out.trans (HBD.out.mono B1.out.size)⟩
      · go_wp2_with (at_builtin; refine wpList_append_own _ rfl _ _ 23 rfl w1.heap.size 3 i0 (.int .i64 0) 1 8 Try.underlying23 hi0 hz0 hz1 hz2 rfl (by decide) _ k (ints L) rfl (HO1.out.alloc _) ⟨wd.heap.size, 0, none⟩ 1 1 [.int .i64 r] rfl rfl ?c1 ?c2 ?c3 ?c4 ?c5 ?_)
        case c2 => simp [Value.oneCell']
        case c3 => unfold maxLen; omega
        case c4 => omega
        case c5 => exact Nat.le_succ_of_le hb2
        intro u9 w9 hown1 hgrow _
        have HB9 := (HBD.out.alloc hb2 (.cells #[.int .i64 r] 3)).grown hgrow (by simp; omega) (fun q e => (HO1.out.lt q e).1)
        have HO9 : Hid (w9.ownsRow w1.heap.size 3 1 u9 (k + 1) (ints (L ++ [r]))) := Lib.hid (by rw [ints_snoc]; exact hown1)
        have HL9 : Hid ((L ++ [r]).length = k + 1) := Lib.hid (by rw [List.length_append, HL.out]; rfl)
        obtain ⟨o9, c9, rfl⟩ := own_form1 hown1
        clear hown1 hgrow
        go_wp2
        exact ⟨⟨k + 1, L ++ [r], o9, c9, by omega, by go_num, rfl, HL9, HO9, HB9⟩, by simp [intOf]; omega⟩
    · go_wp2
      refine bodyPost_ret (v := .tuple #[.slice o k c, .bool true]) (by simp [results, Try.results76, go_sem]) rfl ?_
      exact ⟨o, c, true, L, by rw [HL.out], by rw [HL.out]; exact hk, by rw [HL.out]; exact own_base HO.out B1.out.size, B1.out.trans (hB.mono B1.out.size)⟩
end Go.Proofs.Ytnlfljekbknaaaa
namespace Go.Proofs.Ytnlfljekbknaaaa
open Go Go.RowKit Go.Shelf
attribute [local go_sem] Oper.semAt_some
set_option maxRecDepth 100000 in
set_option maxHeartbeats 8000000 in
theorem wide11_some (vx vy vq v1 v2 v3 : Value) (a kl ks s p d : List Int) (w : World) (hx : Ld w vx a) (hy : Ld w vy kl) (hq : Ld w vq ks) (h1 : Ld w v1 s) (h2 : Ld w v2 p) (h3 : Ld w v3 d) (la : a.length ≤ 1073741824) (lk : kl.length ≤ 1073741824) (l0 : ks.length ≤ 1073741824) (l1 : s.length ≤ 1073741824) (l2 : p.length ≤ 1073741824) (l3 : d.length ≤ 1073741824) :
    Calls Try.prog 47 #[vx, vy, .agg #[vq, v1, v2, v3]] w (Yn w) := by
  obtain ⟨w1, hw1⟩ : ∃ w1, w1 = w.alloc (.cells #[vq, v1, v2, v3] 28) := ⟨_, rfl⟩
  have B1 : Hid (Below w.heap.size w w1) := Lib.hid (by rw [hw1]; exact (Below.refl _ _).alloc (Nat.le_refl _) _)
  have CM := Lib.hid (rmay11_any vq v1 v2 v3 ks s p d w1 (hq.below B1.out) (h1.below B1.out) (h2.below B1.out) (h3.below B1.out) (by omega) (by omega) (by omega) (by omega))
  obtain ⟨w2, hw2⟩ : ∃ w2, w2 = w1.alloc (.cells #[vq, v1, v2, v3] 28) := ⟨_, rfl⟩
  have B2 : Hid (Below w.heap.size w w2) := Lib.hid (by rw [hw2]; exact B1.out.alloc B1.out.size _)
  rw [← hw2] at CM
  have CA := Lib.hid (rmay_any vx a w2 (hx.below B2.out) la)
  have QB : Hid (Blk w2 w.heap.size 28 #[vq, v1, v2, v3]) := Lib.hid (by rw [hw2, hw1]; exact (Blk.new w _ _).alloc _)
  have QA : Hid (Blk w1 w.heap.size 28 #[vq, v1, v2, v3]) := Lib.hid (by rw [hw1]; exact Blk.new w _ _)
  have CSP := fun (e1 : a.length = kl.length + 2) (e2 : s.length = kl.length) (e3 : p.length = kl.length) (e4 : d.length = kl.length) (e5 : ∀ i, i < s.length → 1 ≤ s.getD i 0) (e6 : kl.length ≤ 2) => spatial11_some vx vy vq v1 v2 v3 a kl s p d w2 (hx.below B2.out) (hy.below B2.out) (h1.below B2.out) (h2.below B2.out) (h3.below B2.out) e1 e2 e3 e4 e5 e6
  have HY := Lib.hid hy
  obtain ⟨ox, cx, rfl, _⟩ := id hx
  obtain ⟨oy, cy, rfl, _⟩ := id hy
  obtain ⟨oq, cq, rfl, _⟩ := id hq
  obtain ⟨o1, c1, rfl, _⟩ := id h1
  obtain ⟨o2, c2, rfl, _⟩ := id h2
  obtain ⟨o3, c3, rfl, _⟩ := id h3
  obtain ⟨y0, y1, y2, y3⟩ := blk4c QA.out
  obtain ⟨x0, x1, x2, x3⟩ := blk4c QB.out
  have HW1 := Lib.hid hw1
  clear hx hy hq h1 h2 h3 hw1 hw2 l0 l2 l3
  by_cases hn : (decide (ks.length = 0) && cnm s p d) = true
  · rw [hn] at CM
    rw [Bool.and_eq_true, decide_eq_true_eq] at hn
    obtain ⟨hk0, hcn⟩ := hn
    obtain ⟨hs12, hps, hds, fs1, fp0, fd1⟩ := cnm_parts hcn
    have HS : Hid (∀ i, i < s.length → 1 ≤ s.getD i 0) := Lib.hid (fun i hi => (afr_at fs1 hi).1)
    have HPS := Lib.hid (And.intro hs12 (And.intro hps hds))
    clear hk0 hcn fs1 fp0 fd1 hps hds hs12
    cases ma : may a with
    | false =>
      rw [ma] at CA
      clear CSP
      go_enter Try.func47, Try.ntmps47
      go_wp2_with (first | (rw [← HW1.out]; go_at_call 75; (with_reducible refine CM.out.mono ?_); rintro e w' ⟨rfl, rfl⟩) | (go_at_call 48; (with_reducible refine CA.out.mono ?_); rintro e w' ⟨rfl, rfl⟩))
      go_ret
      exact ⟨⟨_, rfl⟩, B2.out⟩
    | true =>
      rw [ma] at CA
      have la4 := may_len ma
      clear ma
      have HE : wrap64 ((s.length : Int) + 2) = (s.length : Int) + 2 ∧ IntKind.i64.wrap ((s.length : Int) + 2) = (s.length : Int) + 2 := ⟨IntWalk.wrap64_in _ (by omega), IntWalk.i64_in _ (by omega)⟩
      replace HE := Lib.hid HE
      by_cases g1 : a.length = s.length + 2
      · by_cases g2 : kl.length = s.length
        · have CSQ := Lib.hid (CSP (by omega) g2.symm (by rw [HPS.out.2.1]; exact g2.symm) (by rw [HPS.out.2.2]; exact g2.symm) HS.out (by have := HPS.out.1; omega))
          have HK2 : Hid (kl.length ≤ 2) := Lib.hid (by have := HPS.out.1; omega)
          clear CSP
          obtain ⟨LY, hLY⟩ : ∃ l : List Int, l = kl := ⟨_, rfl⟩
          rw [← hLY] at HY
          have HLY := Lib.hid (by rw [hLY] : LY.length = kl.length)
          clear hLY
          generalize a.length = na at *
          generalize kl.length = nk at *
          generalize s.length = ns at *
          subst g2
          obtain ⟨na', hna⟩ : ∃ m, m = nk + 2 := ⟨_, rfl⟩
          obtain rfl : na = na' := by omega
          have HNK := Lib.hid HK2.out
          clear g1
          rcases HPS.out.1 with hs | hs
          · subst hs
            have e9 : na = 3 := by omega
            subst e9
            clear hna
            go_enter Try.func47, Try.ntmps47
            go_wp2_with (first | (rw [← HW1.out]; go_at_call 75; (with_reducible refine CM.out.mono ?_); rintro e w' ⟨rfl, rfl⟩) | (go_at_call 48; (with_reducible refine CA.out.mono ?_); rintro e w' ⟨rfl, rfl⟩) | (go_at_call 76; (with_reducible refine CSQ.out.mono ?_); rintro e w3 ⟨oS, cS, bS, L, rfl, hL, hO, hB⟩; have HL := Lib.hid hL; have HO := Lib.hid hO; have HB := Lib.hid (B2.out.trans (hB.mono B2.out.size)); clear hL hO hB))
            have HLS := Lib.hid (Ld.of_own HO.out)
            obtain ⟨nL, hnL⟩ : ∃ m, m = L.length := ⟨_, rfl⟩
            rw [← hnL] at HLS ⊢
            have HNL := Lib.hid hnL
            have hnb : nL ≤ 2 := by have := HL.out; omega
            have HNB := Lib.hid (by have := HL.out; omega : nL ≤ 1)
            have HYW := Lib.hid (HY.out.below HB.out)
            clear hnL x0 x1 x2 x3 y0 y1 y2 y3
            cases bS with
            | false =>
              go_loopw [10] (fun s10 wr => s10 = .int .i64 0 ∧ Below w3.heap.size w3 wr) (fun _ _ => 0)
              case atStart => exact ⟨rfl, Below.refl _ _⟩
              case round =>
                obtain ⟨rfl, hb⟩ := hrel
                by_cases hlt : 0 < nL
                · go_wp2
                  go_ret
                  exact ⟨⟨_, rfl⟩, HB.out.trans (hb.mono HB.out.size)⟩
                · go_wp2
                  go_ret
                  exact ⟨⟨_, rfl⟩, HB.out.trans (hb.mono HB.out.size)⟩
            | true =>
              go_loopw [9, 10] (fun s9 s10 wr => ∃ (k : Nat) (n : Int), k ≤ nL ∧ s10 = .int .i64 k ∧ s9 = .int .i64 n ∧ Below w3.heap.size w3 wr) (fun _ s10 _ => nL - (intOf s10).toNat)
              case atStart => exact ⟨0, 1, Nat.zero_le _, rfl, rfl, Below.refl _ _⟩
              case round =>
                obtain ⟨k, n, hk, rfl, rfl, hb⟩ := hrel
                by_cases hlt : k < nL
                · obtain ⟨g, f, rfl, hgc⟩ := ld_at (HLS.out.below hb) (k := k) (by rw [← HNL.out]; exact hlt)
                  obtain ⟨g2, f2, rfl, hgc2⟩ := ld_at (HYW.out.below hb) (k := k) (by rw [HLY.out]; have := HNB.out; omega)
                  generalize L.getD k 0 = u at *
                  generalize LY.getD k 0 = v at *
                  have hkb : k < 1 := by have := HNB.out; omega
                  have HBB := Lib.hid hb
                  by_cases c1 : 20 < v
                  · go_wp2
                    go_ret
                    exact ⟨⟨_, rfl⟩, HB.out.trans (hb.mono HB.out.size)⟩
                  by_cases c2 : 400 < u
                  · go_wp2
                    go_ret
                    exact ⟨⟨_, rfl⟩, HB.out.trans (hb.mono HB.out.size)⟩
                  go_upto_region 10 with fail
                  go_quiet (fail)
                  go_wp2
                  exact ⟨⟨k + 1, _, by omega, by go_num, rfl, below_drw HBB.out _⟩, by simp [intOf]; omega⟩
                · go_wp2
                  go_ret
                  exact ⟨⟨_, rfl⟩, HB.out.trans (hb.mono HB.out.size)⟩

          · subst hs
            have e9 : na = 4 := by omega
            subst e9
            clear hna
            go_enter Try.func47, Try.ntmps47
            go_wp2_with (first | (rw [← HW1.out]; go_at_call 75; (with_reducible refine CM.out.mono ?_); rintro e w' ⟨rfl, rfl⟩) | (go_at_call 48; (with_reducible refine CA.out.mono ?_); rintro e w' ⟨rfl, rfl⟩) | (go_at_call 76; (with_reducible refine CSQ.out.mono ?_); rintro e w3 ⟨oS, cS, bS, L, rfl, hL, hO, hB⟩; have HL := Lib.hid hL; have HO := Lib.hid hO; have HB := Lib.hid (B2.out.trans (hB.mono B2.out.size)); clear hL hO hB))
            have HLS := Lib.hid (Ld.of_own HO.out)
            obtain ⟨nL, hnL⟩ : ∃ m, m = L.length := ⟨_, rfl⟩
            rw [← hnL] at HLS ⊢
            have HNL := Lib.hid hnL
            have hnb : nL ≤ 2 := by have := HL.out; omega
            have HNB := Lib.hid (by have := HL.out; omega : nL ≤ 2)
            have HYW := Lib.hid (HY.out.below HB.out)
            clear hnL x0 x1 x2 x3 y0 y1 y2 y3
            cases bS with
            | false =>
              go_loopw [10] (fun s10 wr => s10 = .int .i64 0 ∧ Below w3.heap.size w3 wr) (fun _ _ => 0)
              case atStart => exact ⟨rfl, Below.refl _ _⟩
              case round =>
                obtain ⟨rfl, hb⟩ := hrel
                by_cases hlt : 0 < nL
                · go_wp2
                  go_ret
                  exact ⟨⟨_, rfl⟩, HB.out.trans (hb.mono HB.out.size)⟩
                · go_wp2
                  go_ret
                  exact ⟨⟨_, rfl⟩, HB.out.trans (hb.mono HB.out.size)⟩
            | true =>
              go_loopw [9, 10] (fun s9 s10 wr => ∃ (k : Nat) (n : Int), k ≤ nL ∧ s10 = .int .i64 k ∧ s9 = .int .i64 n ∧ Below w3.heap.size w3 wr) (fun _ s10 _ => nL - (intOf s10).toNat)
              case atStart => exact ⟨0, 1, Nat.zero_le _, rfl, rfl, Below.refl _ _⟩
              case round =>
                obtain ⟨k, n, hk, rfl, rfl, hb⟩ := hrel
                by_cases hlt : k < nL
                · obtain ⟨g, f, rfl, hgc⟩ := ld_at (HLS.out.below hb) (k := k) (by rw [← HNL.out]; exact hlt)
                  obtain ⟨g2, f2, rfl, hgc2⟩ := ld_at (HYW.out.below hb) (k := k) (by rw [HLY.out]; have := HNB.out; omega)
                  generalize L.getD k 0 = u at *
                  generalize LY.getD k 0 = v at *
                  have hkb : k < 2 := by have := HNB.out; omega
                  have HBB := Lib.hid hb
                  by_cases c1 : 20 < v
                  · go_wp2
                    go_ret
                    exact ⟨⟨_, rfl⟩, HB.out.trans (hb.mono HB.out.size)⟩
                  by_cases c2 : 400 < u
                  · go_wp2
                    go_ret
                    exact ⟨⟨_, rfl⟩, HB.out.trans (hb.mono HB.out.size)⟩
                  go_upto_region 10 with fail
                  go_quiet (fail)
                  go_wp2
                  exact ⟨⟨k + 1, _, by omega, by go_num, rfl, below_drw HBB.out _⟩, by simp [intOf]; omega⟩
                · go_wp2
                  go_ret
                  exact ⟨⟨_, rfl⟩, HB.out.trans (hb.mono HB.out.size)⟩

        · have d1 : ((a.length : Int) != (s.length : Int) + 2) = false := by rw [bne_eq_false_iff_eq]; omega
          have d2 : ((kl.length : Int) != (s.length : Int)) = true := by rw [bne_iff_ne]; omega
          clear CSP g1 g2
          obtain ⟨e0, e0'⟩ := HE.out
          go_enter Try.func47, Try.ntmps47
          go_wp2_with (first | (rw [← HW1.out]; go_at_call 75; (with_reducible refine CM.out.mono ?_); rintro e w' ⟨rfl, rfl⟩) | (go_at_call 48; (with_reducible refine CA.out.mono ?_); rintro e w' ⟨rfl, rfl⟩))
          go_ret
          exact ⟨⟨_, rfl⟩, B2.out⟩
      · have d1 : ((a.length : Int) != (s.length : Int) + 2) = true := by rw [bne_iff_ne]; omega
        clear CSP g1
        obtain ⟨e0, e0'⟩ := HE.out
        go_enter Try.func47, Try.ntmps47
        go_wp2_with (first | (rw [← HW1.out]; go_at_call 75; (with_reducible refine CM.out.mono ?_); rintro e w' ⟨rfl, rfl⟩) | (go_at_call 48; (with_reducible refine CA.out.mono ?_); rintro e w' ⟨rfl, rfl⟩))
        go_ret
        exact ⟨⟨_, rfl⟩, B2.out⟩
  · rw [Bool.eq_false_iff.2 hn] at CM
    clear hn CSP CA
    go_enter Try.func47, Try.ntmps47
    go_wp2_with (rw [← HW1.out]; go_at_call 75; (with_reducible refine CM.out.mono ?_); rintro e w' ⟨rfl, rfl⟩)
    go_ret
    exact ⟨⟨_, rfl⟩, B2.out⟩
end Go.Proofs.Ytnlfljekbknaaaa
namespace Go.Proofs.Ytnlfljekbknaaaa
open Go.ChangeShapes Go.WideShapes Go.ChangeAt Go.RowKit Go.Deep

theorem Try.own : ownKnob Try.prog.godebug = none := by kernel_rfl
theorem Try.laidOut : laidOutB Try.prog = true := by kernel_rfl
theorem s_i64 {x : Int} (h : (Lit.int .i64 x).wf = true) : -9223372036854775808 ≤ x ∧ x ≤ 9223372036854775807 := by
  simp [Lit.wf, IntKind.min, IntKind.max, IntKind.signed, IntKind.bits] at h
  exact ⟨by omega, by omega⟩
theorem cS1 : Try.prog.cellsOf 23 = 1 := by kernel_rfl
theorem cS2 : Try.prog.cellsOf 3 = 1 := by kernel_rfl
theorem cS5 : Try.prog.cellsOf 24 = 1 := by kernel_rfl
theorem cS6 : Try.prog.cellsOf 2 = 1 := by kernel_rfl
theorem cS7 : Try.prog.cellsOf 26 = 2 := by kernel_rfl
theorem cS8 : Try.prog.cellsOf 30 = 11 := by kernel_rfl
theorem cS9 : Try.prog.cellsOf 28 = 4 := by kernel_rfl
theorem bS2 : Try.prog.bytesOf 3 = 8 := by kernel_rfl
theorem bS6 : Try.prog.bytesOf 2 = 8 := by kernel_rfl
theorem reach_is : reachBytes = 140737488351232 := rfl

/-- An element: two tensors, a convolution's numbers, a kernel's dimensions, a shape, fraction bits. -/
structure Ck where
  X : Value
  XD : Value
  W : Value
  WD : Value
  VK : Value
  VS : Value
  VP : Value
  VD : Value
  K : Value
  S : Value
  sx : List Int
  dx : List Int
  sw : List Int
  dw : List Int
  ck : List Int
  cs : List Int
  cp : List Int
  cd : List Int
  kk : List Int
  ss : List Int
  f : Int
def Ck.ok (w : World) (e : Ck) : Prop := (Ld w e.X e.sx ∧ Ld w e.XD e.dx ∧ Ld w e.W e.sw ∧ Ld w e.WD e.dw ∧ Ld w e.VK e.ck ∧ Ld w e.VS e.cs ∧ Ld w e.VP e.cp ∧ Ld w e.VD e.cd ∧ Ld w e.K e.kk ∧ Ld w e.S e.ss) ∧ (e.sx.length ≤ 17592186043904 ∧ e.dx.length ≤ 17592186043904 ∧ e.sw.length ≤ 17592186043904 ∧ e.dw.length ≤ 17592186043904 ∧ e.ck.length ≤ 17592186043904 ∧ e.cs.length ≤ 17592186043904 ∧ e.cp.length ≤ 17592186043904 ∧ e.cd.length ≤ 17592186043904 ∧ e.kk.length ≤ 17592186043904 ∧ e.ss.length ≤ 17592186043904) ∧ (-9223372036854775808 ≤ e.f ∧ e.f ≤ 9223372036854775807)
def CkAt (w : World) (b p : Nat) (e : Ck) : Prop := w.cell? ⟨b, p, none⟩ = some e.X ∧ w.cell? ⟨b, p + 1, none⟩ = some e.XD ∧ w.cell? ⟨b, p + 2, none⟩ = some e.W ∧ w.cell? ⟨b, p + 3, none⟩ = some e.WD ∧ w.cell? ⟨b, p + 4, none⟩ = some e.VK ∧ w.cell? ⟨b, p + 5, none⟩ = some e.VS ∧ w.cell? ⟨b, p + 6, none⟩ = some e.VP ∧ w.cell? ⟨b, p + 7, none⟩ = some e.VD ∧ w.cell? ⟨b, p + 8, none⟩ = some e.K ∧ w.cell? ⟨b, p + 9, none⟩ = some e.S ∧ w.cell? ⟨b, p + 10, none⟩ = some (.int .i64 e.f)
theorem CkAt.below {w W : World} {b p : Nat} {e : Ck} (h : CkAt w b p e) (hB : Below w.heap.size w W) (hb : b < w.heap.size) : CkAt W b p e := by
  obtain ⟨h0, h1, h2, h3, h4, h5, h6, h7, h8, h9, h10⟩ := h
  have k : ∀ (i : Nat) (v : Value), w.cell? ⟨b, i, none⟩ = some v → W.cell? ⟨b, i, none⟩ = some v := fun i v hh => (hB.cell (p := ⟨b, i, none⟩) hb).trans hh
  exact ⟨k _ _ h0, k _ _ h1, k _ _ h2, k _ _ h3, k _ _ h4, k _ _ h5, k _ _ h6, k _ _ h7, k _ _ h8, k _ _ h9, k _ _ h10⟩

/-- All that it weighs is within reach. -/
def Lite {H : Type} (t : TypeId) (d : DataW H) : Prop := ∀ n ∈ d.weights Try.prog t, n ≤ reachBytes
theorem lite_all {H : Type} {e : TypeId} : ∀ {l : List (DataW H)} {d : DataW H}, d ∈ l → ∀ n ∈ d.weights Try.prog e, n ∈ DataW.weightsAll Try.prog e l
  | d' :: r, d, hd, n, hn => by
    simp only [DataW.weightsAll, List.mem_append]
    rcases List.mem_cons.1 hd with rfl | h
    · exact .inl hn
    · exact .inr (lite_all h n hn)
theorem lite_in {H : Type} {t e : TypeId} {elems spare : List (DataW H)} {d : DataW H} (hu : Try.prog.underlying t = some (.slice e)) (h : Lite t (.slice elems spare)) (hd : d ∈ elems) : Lite e d := fun n hn =>
  h n (by simp only [DataW.weights, hu, List.mem_cons, List.mem_append]; exact .inr (.inl (lite_all hd n hn)))
theorem lite_len {H : Type} {t e : TypeId} {elems spare : List (DataW H)} (hu : Try.prog.underlying t = some (.slice e)) (hb : Try.prog.bytesOf e = 8) (h : Lite t (.slice elems spare)) : elems.length ≤ 17592186043904 := by
  have := h ((elems.length + spare.length) * Try.prog.bytesOf e) (by simp [DataW.weights, hu])
  rw [hb, reach_is] at this
  omega
theorem lite_part {H : Type} {t : TypeId} {fs : Array Field} {parts : List (DataW H)} {j : Nat} {d : DataW H} {u : TypeId} (hu : Try.prog.underlying t = some (.struct fs)) (h : Lite t (.agg parts)) (hj : (fs.toList.map (·.type))[j]? = some u) (hd : parts[j]? = some d) : Lite u d := fun n hn =>
  h n (by simp only [DataW.weights, hu]; exact DataW.weights_mem_each hj hd n hn)

section
variable {H : Type} {enc : TypeId × Value → H} {w : World} {base : Nat} {spare : Nat → Bool} {held : Bool}
set_option maxRecDepth 100000 in
theorem open_nums {t e : TypeId} {fuel : Nat} {v : Value} {x : DataW H × List MemPlace} (hu : Try.prog.underlying t = some (.slice e)) (hc : Try.prog.cellsOf e = 1) (hb : Try.prog.bytesOf e = 8) (hi : Try.prog.underlying e = some (.int .i64))
    (h : DataW.trod enc Try.prog w base spare held fuel t [v] = some x) (hz : Lite t x.1) : ∃ ls, Ld w v ls ∧ ls.length ≤ 17592186043904 := by
  rcases open_slice1 hu hc h with ⟨hcs, _⟩ | ⟨a, len, cap, m, n, V, D, Pl, hcs, _, hl, hm, hmm, hx, hia⟩
  · simp only [List.cons.injEq, and_true] at hcs
    subst hcs
    exact ⟨[], Ld.nil w, by simp⟩
  · simp only [List.cons.injEq, and_true] at hcs
    subst hcs
    have hle : len ≤ m := by rw [hmm]; split <;> omega
    have hlen2 : len ≤ 17592186043904 := by
      rw [hx] at hz
      have := lite_len hu hb hz
      simpa using this
    have hall : ∀ i, i < len → ∃ y : Int, w.cell? (a.add i) = some (.int .i64 y) := by
      intro i hik
      obtain ⟨hc, ht⟩ := hia i (by omega)
      obtain ⟨y, e0, _, _⟩ := DataW.trod_int hi ht
      simp only [List.cons.injEq, and_true] at e0
      exact ⟨y, by rw [hc, e0]⟩
    let ys : Nat → Int := fun i => if h : i < len then (hall i h).choose else 0
    have hys : ∀ i, i < len → w.cell? (a.add i) = some (.int .i64 (ys i)) := by
      intro i hik
      have := (hall i hik).choose_spec
      simp only [ys, dif_pos hik]
      exact this
    have hlen : ((List.range len).map ys).length = len := by simp
    refine ⟨(List.range len).map ys, ⟨some a, cap, by rw [hlen], by rw [hlen]; exact hl, fun i hi2 => ?_⟩, by rw [hlen]; exact hlen2⟩
    rw [hlen] at hi2
    obtain ⟨b, off, spot⟩ := a
    have hc := hys i hi2
    have hspot : spot = none := by simpa [Addr.add] using World.cell?_spot (hys 0 (by omega))
    subst hspot
    rw [Go.WideShapes.add_plain] at hc
    have hg : ((List.range len).map ys).getD i 0 = ys i := by simp [List.getD, hi2]
    exact ⟨b, off, rfl, World.block_lt_of_cell? w _ hc, by rw [hg]; exact hc⟩

set_option maxRecDepth 100000 in
theorem open_tens {fuel : Nat} {v0 v1 : Value} {x : DataW H × List MemPlace} (h : DataW.trod enc Try.prog w base spare held fuel 26 [v0, v1] = some x) (hz : Lite 26 x.1) :
    ∃ ts tds, Ld w v0 ts ∧ Ld w v1 tds ∧ ts.length ≤ 17592186043904 ∧ tds.length ≤ 17592186043904 := by
  obtain ⟨xs, n, _, hx, _, hxl, hf⟩ := DataW.trod_struct Try.underlying26 h
  have hxl2 : xs.length = 2 := hxl
  match xs, hxl2 with
  | [x0, x1], _ =>
    have h0 : DataW.trod enc Try.prog w base spare held n 23 ((([v0, v1] : List Value).drop 0).take (Try.prog.cellsOf 23)) = some x0 := hf 0 _ rfl
    have h1 : DataW.trod enc Try.prog w base spare held n 24 ((([v0, v1] : List Value).drop 1).take (Try.prog.cellsOf 24)) = some x1 := hf 1 _ rfl
    simp only [cS1, cS5, List.drop_zero, List.drop_succ_cons, List.take_succ_cons, List.take_zero] at h0 h1
    rw [hx] at hz
    obtain ⟨s, hs, ls⟩ := open_nums Try.underlying23 cS2 bS2 Try.underlying3 h0 (lite_part (j := 0) Try.underlying26 hz rfl rfl)
    obtain ⟨t, ht, lt⟩ := open_nums Try.underlying24 cS6 bS6 Try.underlying2 h1 (lite_part (j := 1) Try.underlying26 hz rfl rfl)
    exact ⟨s, t, hs, ht, ls, lt⟩
set_option maxRecDepth 100000 in
set_option maxHeartbeats 2000000 in
theorem open_conv {fuel : Nat} {v0 v1 v2 v3 : Value} {x : DataW H × List MemPlace} (h : DataW.trod enc Try.prog w base spare held fuel 28 [v0, v1, v2, v3] = some x) (hz : Lite 28 x.1) :
    ∃ l0 l1 l2 l3, (Ld w v0 l0 ∧ Ld w v1 l1 ∧ Ld w v2 l2 ∧ Ld w v3 l3) ∧ l0.length ≤ 17592186043904 ∧ l1.length ≤ 17592186043904 ∧ l2.length ≤ 17592186043904 ∧ l3.length ≤ 17592186043904 := by
  obtain ⟨xs, n, _, hx, _, hxl, hf⟩ := DataW.trod_struct Try.underlying28 h
  have hxl2 : xs.length = 4 := hxl
  match xs, hxl2 with
  | [x0, x1, x2, x3], _ =>
    have h0 : DataW.trod enc Try.prog w base spare held n 23 ((([v0, v1, v2, v3] : List Value).drop 0).take (Try.prog.cellsOf 23)) = some x0 := hf 0 _ rfl
    have h1 : DataW.trod enc Try.prog w base spare held n 23 ((([v0, v1, v2, v3] : List Value).drop 1).take (Try.prog.cellsOf 23)) = some x1 := hf 1 _ rfl
    have h2 : DataW.trod enc Try.prog w base spare held n 23 ((([v0, v1, v2, v3] : List Value).drop 2).take (Try.prog.cellsOf 23)) = some x2 := hf 2 _ rfl
    have h3 : DataW.trod enc Try.prog w base spare held n 23 ((([v0, v1, v2, v3] : List Value).drop 3).take (Try.prog.cellsOf 23)) = some x3 := hf 3 _ rfl
    simp only [cS1, List.drop_zero, List.drop_succ_cons, List.take_succ_cons, List.take_zero] at h0 h1 h2 h3
    rw [hx] at hz
    obtain ⟨s0, a0, l0⟩ := open_nums Try.underlying23 cS2 bS2 Try.underlying3 h0 (lite_part (j := 0) Try.underlying28 hz rfl rfl)
    obtain ⟨s1, a1, l1⟩ := open_nums Try.underlying23 cS2 bS2 Try.underlying3 h1 (lite_part (j := 1) Try.underlying28 hz rfl rfl)
    obtain ⟨s2, a2, l2⟩ := open_nums Try.underlying23 cS2 bS2 Try.underlying3 h2 (lite_part (j := 2) Try.underlying28 hz rfl rfl)
    obtain ⟨s3, a3, l3⟩ := open_nums Try.underlying23 cS2 bS2 Try.underlying3 h3 (lite_part (j := 3) Try.underlying28 hz rfl rfl)
    exact ⟨s0, s1, s2, s3, ⟨a0, a1, a2, a3⟩, l0, l1, l2, l3⟩
set_option maxRecDepth 100000 in
set_option maxHeartbeats 2000000 in
theorem open_ck {fuel : Nat} {cs : List Value} {x : DataW H × List MemPlace} (h : DataW.trod enc Try.prog w base spare held fuel 30 cs = some x) (hz : Lite 30 x.1) :
    ∃ e : Ck, e.ok w ∧ cs = [e.X, e.XD, e.W, e.WD, e.VK, e.VS, e.VP, e.VD, e.K, e.S, .int .i64 e.f] := by
  obtain ⟨xs, n, _, hx, hl, hxl, hf⟩ := DataW.trod_struct Try.underlying30 h
  rw [cS8] at hl
  match cs, hl with
  | [v0, v1, v2, v3, v4, v5, v6, v7, v8, v9, v10], _ =>
    have hxl2 : xs.length = 6 := hxl
    match xs, hxl2 with
    | [x0, x1, x2, x3, x4, x5], _ =>
      have h0 : DataW.trod enc Try.prog w base spare held n 26 ((([v0, v1, v2, v3, v4, v5, v6, v7, v8, v9, v10] : List Value).drop 0).take (Try.prog.cellsOf 26)) = some x0 := hf 0 _ rfl
      have h1 : DataW.trod enc Try.prog w base spare held n 26 ((([v0, v1, v2, v3, v4, v5, v6, v7, v8, v9, v10] : List Value).drop 2).take (Try.prog.cellsOf 26)) = some x1 := hf 1 _ rfl
      have h2 : DataW.trod enc Try.prog w base spare held n 28 ((([v0, v1, v2, v3, v4, v5, v6, v7, v8, v9, v10] : List Value).drop 4).take (Try.prog.cellsOf 28)) = some x2 := hf 2 _ rfl
      have h3 : DataW.trod enc Try.prog w base spare held n 23 ((([v0, v1, v2, v3, v4, v5, v6, v7, v8, v9, v10] : List Value).drop 8).take (Try.prog.cellsOf 23)) = some x3 := hf 3 _ rfl
      have h4 : DataW.trod enc Try.prog w base spare held n 23 ((([v0, v1, v2, v3, v4, v5, v6, v7, v8, v9, v10] : List Value).drop 9).take (Try.prog.cellsOf 23)) = some x4 := hf 4 _ rfl
      have h5 : DataW.trod enc Try.prog w base spare held n 3 ((([v0, v1, v2, v3, v4, v5, v6, v7, v8, v9, v10] : List Value).drop 10).take (Try.prog.cellsOf 3)) = some x5 := hf 5 _ rfl
      simp only [cS1, cS2, cS7, cS9, List.drop_zero, List.drop_succ_cons, List.take_succ_cons, List.take_zero] at h0 h1 h2 h3 h4 h5
      rw [hx] at hz
      have q := fun (j : Nat) (u : TypeId) (d : DataW H) => lite_part (j := j) (u := u) (d := d) Try.underlying30 hz
      obtain ⟨sa, da, a0, a1, l0, l1⟩ := open_tens h0 (q 0 _ _ rfl rfl)
      obtain ⟨sb, db, a2, a3, l2, l3⟩ := open_tens h1 (q 1 _ _ rfl rfl)
      obtain ⟨s4, s5, s6, s7, ⟨a4, a5, a6, a7⟩, l4, l5, l6, l7⟩ := open_conv h2 (q 2 _ _ rfl rfl)
      obtain ⟨s8, a8, l8⟩ := open_nums Try.underlying23 cS2 bS2 Try.underlying3 h3 (q 3 _ _ rfl rfl)
      obtain ⟨s9, a9, l9⟩ := open_nums Try.underlying23 cS2 bS2 Try.underlying3 h4 (q 4 _ _ rfl rfl)
      obtain ⟨a, ea, _, wa⟩ := DataW.trod_int Try.underlying3 h5
      simp only [List.cons.injEq, and_true] at ea
      subst ea
      exact ⟨⟨v0, v1, v2, v3, v4, v5, v6, v7, v8, v9, sa, da, sb, db, s4, s5, s6, s7, s8, s9, a⟩, ⟨⟨a0, a1, a2, a3, a4, a5, a6, a7, a8, a9⟩, ⟨l0, l1, l2, l3, l4, l5, l6, l7, l8, l9⟩, s_i64 wa⟩, rfl⟩

set_option maxRecDepth 100000 in
set_option maxHeartbeats 2000000 in
/-- The list: nil or empty, or its elements' cells. -/
theorem open_cks {fuel : Nat} {v : Value} {x : DataW H × List MemPlace} (h : DataW.trod enc Try.prog w base spare held fuel 22 [v] = some x) (hz : Lite 22 x.1) :
    (∃ o cap, v = .slice o 0 cap) ∨ ∃ (b off len cap : Nat) (es : Nat → Ck), v = .slice (some ⟨b, off, none⟩) len cap ∧ len ≤ 9223372036854775807 ∧ b < w.heap.size ∧
      (∀ i, i < len → CkAt w b (off + i * 11) (es i)) ∧ (∀ i, i < len → (es i).ok w) := by
  rcases open_slice Try.underlying22 h with ⟨hcs, _⟩ | ⟨a, len, cap, m, n, D, Pl, hcs, _, hl, hm, hmm, hx, hi⟩
  · left
    simp only [List.cons.injEq, and_true] at hcs
    exact ⟨_, _, hcs⟩
  · simp only [List.cons.injEq, and_true] at hcs
    subst hcs
    by_cases h0 : len = 0
    · subst h0; exact .inl ⟨_, _, rfl⟩
    right
    have hle : len ≤ m := by rw [hmm]; split <;> omega
    rw [cS8] at hi
    rw [hx] at hz
    have hall : ∀ i, i < len → ∃ e : Ck, e.ok w ∧ ∀ j, j < 11 → w.cell? ((a.add (i * 11)).add j) = ([e.X, e.XD, e.W, e.WD, e.VK, e.VS, e.VP, e.VD, e.K, e.S, .int .i64 e.f] : List Value)[j]? := by
      intro i hik
      obtain ⟨cs', hc, ht⟩ := hi i (by omega)
      obtain ⟨e, he, rfl⟩ := open_ck ht (lite_in Try.underlying22 hz (List.mem_map.2 ⟨i, List.mem_range.2 hik, rfl⟩))
      exact ⟨e, he, (World.cells?_some hc).2.2⟩
    let es : Nat → Ck := fun i => if h : i < len then (hall i h).choose else ⟨.bool false, .bool false, .bool false, .bool false, .bool false, .bool false, .bool false, .bool false, .bool false, .bool false, [], [], [], [], [], [], [], [], [], [], 0⟩
    have hes : ∀ i, i < len → (es i).ok w ∧ ∀ j, j < 11 → w.cell? ((a.add (i * 11)).add j) = ([(es i).X, (es i).XD, (es i).W, (es i).WD, (es i).VK, (es i).VS, (es i).VP, (es i).VD, (es i).K, (es i).S, .int .i64 (es i).f] : List Value)[j]? := by
      intro i hik
      have := (hall i hik).choose_spec
      simp only [es, dif_pos hik]
      exact this
    obtain ⟨b, off, spot⟩ := a
    have hspot : spot = none := by
      have := (hes 0 (by omega)).2 0 (by decide)
      simpa [Addr.add] using World.cell?_spot this
    subst hspot
    have cell : ∀ i, i < len → ∀ j, j < 11 → w.cell? ⟨b, off + i * 11 + j, none⟩ = ([(es i).X, (es i).XD, (es i).W, (es i).WD, (es i).VK, (es i).VS, (es i).VP, (es i).VD, (es i).K, (es i).S, .int .i64 (es i).f] : List Value)[j]? := by
      intro i hik j hj
      rw [← (hes i hik).2 j hj, Go.WideShapes.add_plain, Go.WideShapes.add_plain]
    refine ⟨b, off, len, cap, es, rfl, by unfold maxLen at hm; omega, ?_, fun i hik => ?_, fun i hik => (hes i hik).1⟩
    · exact World.block_lt_of_cell? w _ (by have := cell 0 (by omega) 0 (by decide); simpa using this)
    · exact ⟨cell i hik 0 (by decide), cell i hik 1 (by decide), cell i hik 2 (by decide), cell i hik 3 (by decide), cell i hik 4 (by decide), cell i hik 5 (by decide), cell i hik 6 (by decide), cell i hik 7 (by decide), cell i hik 8 (by decide), cell i hik 9 (by decide), cell i hik 10 (by decide)⟩
end
end Go.Proofs.Ytnlfljekbknaaaa
