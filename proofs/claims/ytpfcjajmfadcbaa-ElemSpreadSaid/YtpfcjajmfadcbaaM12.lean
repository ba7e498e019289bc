/-
  The reference's May, of a tensor.
  The reference's Widen.
-/
import Derived.Deep.RegionHeld3
import Derived.Test.YtpfcjajmfadcbaaM04
import Derived.Test.YtpfcjajmfadcbaaM11
namespace Go.Proofs.Ytpfcjajmfadcbaa
open Go.RowKit Go.Shelf

set_option maxRecDepth 100000 in
set_option maxHeartbeats 8000000 in
theorem rmay8_any (vp vr : Value) (ts tds : List Int) (w : World) (hp : Ld w vp ts) (hr : Ld w vr tds) (lp : ts.length ≤ 1073741824) (lr : tds.length ≤ 17592186044416) :
    Calls Try.prog 5 #[.agg #[vp, vr]] w fun e w' => e = .returned (.bool (tnb ts tds)) ∧ Below w.heap.size w w' := by
  have B0 := Lib.hid ((Below.refl w.heap.size w).alloc (Nat.le_refl _) (.cells #[vp, vr] 26))
  have BD : Hid (Below w.heap.size w (w.alloc (.cells #[vp, vr] 26)).drew) := below_drw B0.out 1
  have KM := Lib.hid (fun (W : World) (hW : Below w.heap.size w W) => rmay_any vp ts W (hp.below hW) lp)
  have KD := Lib.hid (fun (W : World) (hW : Below w.heap.size w W) => words_any vr tds W (hr.below hW) (by omega))
  have KC := Lib.hid (fun (hm : may ts = true) (W : World) (hW : Below w.heap.size w W) => (rct_may hm ▸ rcount_any vp ts W (hp.below hW) (may_dms hm) lp : Calls Try.prog 8 #[vp] W fun e w' => e = .returned (.int .i64 (prod ts)) ∧ W = w'))
  obtain ⟨op, cp, rfl, _, _⟩ := hp
  obtain ⟨od, cd, rfl, _, _⟩ := hr
  obtain ⟨x0, x1, _⟩ := blk2 (show Blk (w.alloc (.cells #[.slice op ts.length cp, .slice od tds.length cd] 26)).drew w.heap.size 26 _ from Blk.new w _ _)
  cases hm : may ts with
  | false =>
    have E : Hid (tnb ts tds = false) := by unfold tnb; rw [hm]; exact Lib.hid (by simp)
    rw [hm] at KM
    clear hm KC
    go_enter Try.func5, Try.ntmps5
    go_wp2
    refine wp_region_held_drew (S := (fun W => W.cell? ⟨w.heap.size, 0, none⟩ = some (.slice op ts.length cp) ∧ W.cell? ⟨w.heap.size, 1, none⟩ = some (.slice od tds.length cd))) (by kernel_rfl) ?_ (fun hHeld => ?_)
    · exact ⟨x0, x1⟩
    have hHd := hHeld
    (refine wpAnyH_take (i := 0) (oi := ⟨some 3, _, _, _, _, _⟩) (v := ?v0a) rfl (by kernel_rfl) (by kernel_rfl) (by kernel_rfl) (fun _ _ _ h => h) (Or.inl ⟨by rfl, ?hy0a⟩) (by assumption) ?rest0a; (case hy0a => ((intro w hSw); (try dsimp only at hSw); go_simp; first | done | (with_reducible rfl) | (rw [b1]))))
    (try simp only [Act.put, List.setIfInBounds_toArray, List.set_cons_zero, List.set_cons_succ])
    (refine wpAnyH_take (i := 1) (oi := ⟨some 4, _, _, _, _, _⟩) (v := ?v1a) rfl (by kernel_rfl) (by kernel_rfl) (by kernel_rfl) (fun _ _ _ h => h) (Or.inl ⟨by rfl, ?hy1a⟩) (by assumption) ?rest1a; (case hy1a => ((intro w hSw); (try dsimp only at hSw); go_simp; first | done | (with_reducible rfl) | (rw [b1]))))
    (try simp only [Act.put, List.setIfInBounds_toArray, List.set_cons_zero, List.set_cons_succ])
    refine wpAnyH_ready (rs := [2]) (by kernel_rfl) (by simp) ?_
    refine AllReadyH.cons (o := ⟨some 5, _, _, _, _, _⟩) rfl (fun K hK => ?_) AllReadyH.nil
    go_simp
    (go_at_call 16; (with_reducible refine (KM.out _ BD.out).mono ?_); rintro e w' ⟨rfl, rfl⟩)
    refine hK.out _ _ ?_ (fun hHeld => ?_)
    · (try dsimp only)
      assumption
    clear hK K
    (try simp only [Act.put, List.setIfInBounds_toArray, List.set_cons_zero, List.set_cons_succ])
    (refine wpAnyH_take (i := 3) (oi := ⟨some 6, _, _, _, _, _⟩) (v := ?v3a) rfl (by kernel_rfl) (by kernel_rfl) (by kernel_rfl) (fun _ _ _ h => h) (Or.inl ⟨by rfl, ?hy3a⟩) (by assumption) ?rest3a; (case hy3a => ((intro w hSw); (try dsimp only at hSw); go_simp; first | done | (with_reducible rfl) | (rw [b1]))))
    (try simp only [Act.put, List.setIfInBounds_toArray, List.set_cons_zero, List.set_cons_succ])
    (refine wpAnyH_take (i := 4) (oi := ⟨some 7, _, _, _, _, _⟩) (v := _) rfl (by kernel_rfl) (by kernel_rfl) (by kernel_rfl) (fun _ _ _ h => h) (Or.inr ⟨by rfl, rfl⟩) (by assumption) ?_)
    (try simp only [Act.put, List.setIfInBounds_toArray, List.set_cons_zero, List.set_cons_succ])
    (refine wpAnyH_take (i := 5) (oi := ⟨some 8, _, _, _, _, _⟩) (v := _) rfl (by kernel_rfl) (by kernel_rfl) (by kernel_rfl) (fun _ _ _ h => h) (Or.inr ⟨by rfl, rfl⟩) (by assumption) ?_)
    (try simp only [Act.put, List.setIfInBounds_toArray, List.set_cons_zero, List.set_cons_succ])
    (refine wpAnyH_take (i := 6) (oi := ⟨some 9, _, _, _, _, _⟩) (v := _) rfl (by kernel_rfl) (by kernel_rfl) (by kernel_rfl) (fun _ _ _ h => h) (Or.inr ⟨by rfl, rfl⟩) (by assumption) ?_)
    (try simp only [Act.put, List.setIfInBounds_toArray, List.set_cons_zero, List.set_cons_succ])
    (refine wpAnyH_take (i := 7) (oi := ⟨some 10, _, _, _, _, _⟩) (v := _) rfl (by kernel_rfl) (by kernel_rfl) (by kernel_rfl) (fun _ _ _ h => h) (Or.inr ⟨by rfl, rfl⟩) (by assumption) ?_)
    (try simp only [Act.put, List.setIfInBounds_toArray, List.set_cons_zero, List.set_cons_succ])
    (refine wpAnyH_take (i := 8) (oi := ⟨some 11, _, _, _, _, _⟩) (v := _) rfl (by kernel_rfl) (by kernel_rfl) (by kernel_rfl) (fun _ _ _ h => h) (Or.inr ⟨by rfl, rfl⟩) (by assumption) ?_)
    (try simp only [Act.put, List.setIfInBounds_toArray, List.set_cons_zero, List.set_cons_succ])
    (refine wpAnyH_take (i := 9) (oi := ⟨some 12, _, _, _, _, _⟩) (v := _) rfl (by kernel_rfl) (by kernel_rfl) (by kernel_rfl) (fun _ _ _ h => h) (Or.inr ⟨by rfl, rfl⟩) (by assumption) ?_)
    (try simp only [Act.put, List.setIfInBounds_toArray, List.set_cons_zero, List.set_cons_succ])
    (refine wpAnyH_take (i := 10) (oi := ⟨some 13, _, _, _, _, _⟩) (v := _) rfl (by kernel_rfl) (by kernel_rfl) (by kernel_rfl) (fun _ _ _ h => h) (Or.inr ⟨by rfl, rfl⟩) (by assumption) ?_)
    (try simp only [Act.put, List.setIfInBounds_toArray, List.set_cons_zero, List.set_cons_succ])
    (refine wpAnyH_take (i := 11) (oi := ⟨some 14, _, _, _, _, _⟩) (v := ?v11a) rfl (by kernel_rfl) (by kernel_rfl) (by kernel_rfl) (fun _ _ _ h => h) (Or.inl ⟨by rfl, ?hy11a⟩) (by assumption) ?rest11a; (case hy11a => ((intro w hSw); (try dsimp only at hSw); go_simp; first | done | (with_reducible rfl) | (rw [b1]))))
    (try simp only [Act.put, List.setIfInBounds_toArray, List.set_cons_zero, List.set_cons_succ])
    (refine wpAnyH_take (i := 12) (oi := ⟨some 15, _, _, _, _, _⟩) (v := ?v12a) rfl (by kernel_rfl) (by kernel_rfl) (by kernel_rfl) (fun _ _ _ h => h) (Or.inl ⟨by rfl, ?hy12a⟩) (by assumption) ?rest12a; (case hy12a => ((intro w hSw); (try dsimp only at hSw); go_simp; first | done | (with_reducible rfl) | (rw [b1]))))
    (try simp only [Act.put, List.setIfInBounds_toArray, List.set_cons_zero, List.set_cons_succ])
    (refine wpAnyH_take (i := 13) (oi := ⟨some 16, _, _, _, _, _⟩) (v := _) rfl (by kernel_rfl) (by kernel_rfl) (by kernel_rfl) (fun _ _ _ h => h) (Or.inr ⟨by rfl, rfl⟩) (by assumption) ?_)
    (try simp only [Act.put, List.setIfInBounds_toArray, List.set_cons_zero, List.set_cons_succ])
    (refine wpAnyH_take (i := 14) (oi := ⟨some 17, _, _, _, _, _⟩) (v := _) rfl (by kernel_rfl) (by kernel_rfl) (by kernel_rfl) (fun _ _ _ h => h) (Or.inr ⟨by rfl, rfl⟩) (by assumption) ?_)
    (try simp only [Act.put, List.setIfInBounds_toArray, List.set_cons_zero, List.set_cons_succ])
    (refine wpAnyH_take (i := 15) (oi := ⟨some 18, _, _, _, _, _⟩) (v := _) rfl (by kernel_rfl) (by kernel_rfl) (by kernel_rfl) (fun _ _ _ h => h) (Or.inr ⟨by rfl, rfl⟩) (by assumption) ?_)
    (try simp only [Act.put, List.setIfInBounds_toArray, List.set_cons_zero, List.set_cons_succ])
    (refine wpAnyH_take (i := 16) (oi := ⟨some 19, _, _, _, _, _⟩) (v := ?v16a) rfl (by kernel_rfl) (by kernel_rfl) (by kernel_rfl) (fun _ _ _ h => h) (Or.inl ⟨by rfl, ?hy16a⟩) (by assumption) ?rest16a; (case hy16a => ((intro w hSw); (try dsimp only at hSw); go_simp; first | done | (with_reducible rfl) | (rw [b1]))))
    (try simp only [Act.put, List.setIfInBounds_toArray, List.set_cons_zero, List.set_cons_succ])
    (refine wpAnyH_take (i := 17) (oi := ⟨some 2, _, _, _, _, _⟩) (v := ?v17a) rfl (by kernel_rfl) (by kernel_rfl) (by kernel_rfl) (fun _ _ _ h => h) (Or.inl ⟨by rfl, ?hy17a⟩) (by assumption) ?rest17a; (case hy17a => ((intro w hSw); (try dsimp only at hSw); go_simp; first | done | (with_reducible rfl) | (rw [b1]))))
    (try simp only [Act.put, List.setIfInBounds_toArray, List.set_cons_zero, List.set_cons_succ])
    refine wpAnyH_done (by kernel_rfl) ?_ _
    go_wp2
    go_ret
    exact ⟨by rw [E.out]; rfl, BD.out⟩
  | true =>
    have KC2 := Lib.hid (KC.out hm)
    have E0 : Hid (tnb ts tds = (decide ((tds.length : Int) = prod ts) && wds tds)) := by unfold tnb; rw [hm]; exact Lib.hid (by simp)
    rw [hm] at KM
    clear hm KC
    generalize prod ts = n at *
    by_cases q : (tds.length : Int) = n
    · have b1 : ((tds.length : Int) == n) = true := by simpa using q
      have E : Hid (tnb ts tds = wds tds) := by rw [Hid, E0.out, decide_eq_true q, Bool.true_and]
      clear q E0
      go_enter Try.func5, Try.ntmps5
      go_wp2
      refine wp_region_held_drew (S := (fun W => W.cell? ⟨w.heap.size, 0, none⟩ = some (.slice op ts.length cp) ∧ W.cell? ⟨w.heap.size, 1, none⟩ = some (.slice od tds.length cd))) (by kernel_rfl) ?_ (fun hHeld => ?_)
      · exact ⟨x0, x1⟩
      have hHd := hHeld
      (refine wpAnyH_take (i := 0) (oi := ⟨some 3, _, _, _, _, _⟩) (v := ?v0b) rfl (by kernel_rfl) (by kernel_rfl) (by kernel_rfl) (fun _ _ _ h => h) (Or.inl ⟨by rfl, ?hy0b⟩) (by assumption) ?rest0b; (case hy0b => ((intro w hSw); (try dsimp only at hSw); go_simp; first | done | (with_reducible rfl) | (rw [b1]))))
      (try simp only [Act.put, List.setIfInBounds_toArray, List.set_cons_zero, List.set_cons_succ])
      (refine wpAnyH_take (i := 1) (oi := ⟨some 4, _, _, _, _, _⟩) (v := ?v1b) rfl (by kernel_rfl) (by kernel_rfl) (by kernel_rfl) (fun _ _ _ h => h) (Or.inl ⟨by rfl, ?hy1b⟩) (by assumption) ?rest1b; (case hy1b => ((intro w hSw); (try dsimp only at hSw); go_simp; first | done | (with_reducible rfl) | (rw [b1]))))
      (try simp only [Act.put, List.setIfInBounds_toArray, List.set_cons_zero, List.set_cons_succ])
      refine wpAnyH_ready (rs := [2]) (by kernel_rfl) (by simp) ?_
      refine AllReadyH.cons (o := ⟨some 5, _, _, _, _, _⟩) rfl (fun K hK => ?_) AllReadyH.nil
      go_simp
      (go_at_call 16; (with_reducible refine (KM.out _ BD.out).mono ?_); rintro e w' ⟨rfl, rfl⟩)
      refine hK.out _ _ ?_ (fun hHeld => ?_)
      · (try dsimp only)
        assumption
      clear hK K
      (try simp only [Act.put, List.setIfInBounds_toArray, List.set_cons_zero, List.set_cons_succ])
      (refine wpAnyH_take (i := 3) (oi := ⟨some 6, _, _, _, _, _⟩) (v := ?v3b) rfl (by kernel_rfl) (by kernel_rfl) (by kernel_rfl) (fun _ _ _ h => h) (Or.inl ⟨by rfl, ?hy3b⟩) (by assumption) ?rest3b; (case hy3b => ((intro w hSw); (try dsimp only at hSw); go_simp; first | done | (with_reducible rfl) | (rw [b1]))))
      (try simp only [Act.put, List.setIfInBounds_toArray, List.set_cons_zero, List.set_cons_succ])
      (refine wpAnyH_take (i := 4) (oi := ⟨some 7, _, _, _, _, _⟩) (v := ?v4b) rfl (by kernel_rfl) (by kernel_rfl) (by kernel_rfl) (fun _ _ _ h => h) (Or.inl ⟨by rfl, ?hy4b⟩) (by assumption) ?rest4b; (case hy4b => ((intro w hSw); (try dsimp only at hSw); go_simp; first | done | (with_reducible rfl) | (rw [b1]))))
      (try simp only [Act.put, List.setIfInBounds_toArray, List.set_cons_zero, List.set_cons_succ])
      (refine wpAnyH_take (i := 5) (oi := ⟨some 8, _, _, _, _, _⟩) (v := ?v5b) rfl (by kernel_rfl) (by kernel_rfl) (by kernel_rfl) (fun _ _ _ h => h) (Or.inl ⟨by rfl, ?hy5b⟩) (by assumption) ?rest5b; (case hy5b => ((intro w hSw); (try dsimp only at hSw); go_simp; first | done | (with_reducible rfl) | (rw [b1]))))
      (try simp only [Act.put, List.setIfInBounds_toArray, List.set_cons_zero, List.set_cons_succ])
      (refine wpAnyH_take (i := 6) (oi := ⟨some 9, _, _, _, _, _⟩) (v := ?v6b) rfl (by kernel_rfl) (by kernel_rfl) (by kernel_rfl) (fun _ _ _ h => h) (Or.inl ⟨by rfl, ?hy6b⟩) (by assumption) ?rest6b; (case hy6b => ((intro w hSw); (try dsimp only at hSw); go_simp; first | done | (with_reducible rfl) | (rw [b1]))))
      (try simp only [Act.put, List.setIfInBounds_toArray, List.set_cons_zero, List.set_cons_succ])
      (refine wpAnyH_take (i := 7) (oi := ⟨some 10, _, _, _, _, _⟩) (v := ?v7b) rfl (by kernel_rfl) (by kernel_rfl) (by kernel_rfl) (fun _ _ _ h => h) (Or.inl ⟨by rfl, ?hy7b⟩) (by assumption) ?rest7b; (case hy7b => ((intro w hSw); (try dsimp only at hSw); go_simp; first | done | (with_reducible rfl) | (rw [b1]))))
      (try simp only [Act.put, List.setIfInBounds_toArray, List.set_cons_zero, List.set_cons_succ])
      (refine wpAnyH_take (i := 8) (oi := ⟨some 11, _, _, _, _, _⟩) (v := ?v8b) rfl (by kernel_rfl) (by kernel_rfl) (by kernel_rfl) (fun _ _ _ h => h) (Or.inl ⟨by rfl, ?hy8b⟩) (by assumption) ?rest8b; (case hy8b => ((intro w hSw); (try dsimp only at hSw); go_simp; first | done | (with_reducible rfl) | (rw [b1]))))
      (try simp only [Act.put, List.setIfInBounds_toArray, List.set_cons_zero, List.set_cons_succ])
      refine wpAnyH_ready (rs := [9]) (by kernel_rfl) (by simp) ?_
      refine AllReadyH.cons (o := ⟨some 12, _, _, _, _, _⟩) rfl (fun K hK => ?_) AllReadyH.nil
      go_simp
      (go_at_call 8; (with_reducible refine (KC2.out _ BD.out).mono ?_); rintro e w' ⟨rfl, rfl⟩)
      refine hK.out _ _ ?_ (fun hHeld => ?_)
      · (try dsimp only)
        assumption
      clear hK K
      (try simp only [Act.put, List.setIfInBounds_toArray, List.set_cons_zero, List.set_cons_succ])
      (refine wpAnyH_take (i := 10) (oi := ⟨some 13, _, _, _, _, _⟩) (v := .bool true) rfl (by kernel_rfl) (by kernel_rfl) (by kernel_rfl) (fun _ _ _ h => h) (Or.inl ⟨by rfl, ?hy10b⟩) (by assumption) ?rest10b; (case hy10b => ((intro w hSw); (try dsimp only at hSw); go_simp; first | done | (with_reducible rfl) | (rw [b1]))))
      (try simp only [Act.put, List.setIfInBounds_toArray, List.set_cons_zero, List.set_cons_succ])
      (refine wpAnyH_take (i := 11) (oi := ⟨some 14, _, _, _, _, _⟩) (v := ?v11b) rfl (by kernel_rfl) (by kernel_rfl) (by kernel_rfl) (fun _ _ _ h => h) (Or.inl ⟨by rfl, ?hy11b⟩) (by assumption) ?rest11b; (case hy11b => ((intro w hSw); (try dsimp only at hSw); go_simp; first | done | (with_reducible rfl) | (rw [b1]))))
      (try simp only [Act.put, List.setIfInBounds_toArray, List.set_cons_zero, List.set_cons_succ])
      (refine wpAnyH_take (i := 12) (oi := ⟨some 15, _, _, _, _, _⟩) (v := ?v12b) rfl (by kernel_rfl) (by kernel_rfl) (by kernel_rfl) (fun _ _ _ h => h) (Or.inl ⟨by rfl, ?hy12b⟩) (by assumption) ?rest12b; (case hy12b => ((intro w hSw); (try dsimp only at hSw); go_simp; first | done | (with_reducible rfl) | (rw [b1]))))
      (try simp only [Act.put, List.setIfInBounds_toArray, List.set_cons_zero, List.set_cons_succ])
      (refine wpAnyH_take (i := 13) (oi := ⟨some 16, _, _, _, _, _⟩) (v := ?v13b) rfl (by kernel_rfl) (by kernel_rfl) (by kernel_rfl) (fun _ _ _ h => h) (Or.inl ⟨by rfl, ?hy13b⟩) (by assumption) ?rest13b; (case hy13b => ((intro w hSw); (try dsimp only at hSw); go_simp; first | done | (with_reducible rfl) | (rw [b1]))))
      (try simp only [Act.put, List.setIfInBounds_toArray, List.set_cons_zero, List.set_cons_succ])
      (refine wpAnyH_take (i := 14) (oi := ⟨some 17, _, _, _, _, _⟩) (v := ?v14b) rfl (by kernel_rfl) (by kernel_rfl) (by kernel_rfl) (fun _ _ _ h => h) (Or.inl ⟨by rfl, ?hy14b⟩) (by assumption) ?rest14b; (case hy14b => ((intro w hSw); (try dsimp only at hSw); go_simp; first | done | (with_reducible rfl) | (rw [b1]))))
      (try simp only [Act.put, List.setIfInBounds_toArray, List.set_cons_zero, List.set_cons_succ])
      refine wpAnyH_ready (rs := [15]) (by kernel_rfl) (by simp) ?_
      refine AllReadyH.cons (o := ⟨some 18, _, _, _, _, _⟩) rfl (fun K hK => ?_) AllReadyH.nil
      go_simp
      (go_at_call 17; (with_reducible refine (KD.out _ BD.out).mono ?_); rintro e w' ⟨rfl, rfl⟩)
      refine hK.out _ _ ?_ (fun hHeld => ?_)
      · (try dsimp only)
        assumption
      clear hK K
      (try simp only [Act.put, List.setIfInBounds_toArray, List.set_cons_zero, List.set_cons_succ])
      (refine wpAnyH_take (i := 16) (oi := ⟨some 19, _, _, _, _, _⟩) (v := ?v16b) rfl (by kernel_rfl) (by kernel_rfl) (by kernel_rfl) (fun _ _ _ h => h) (Or.inl ⟨by rfl, ?hy16b⟩) (by assumption) ?rest16b; (case hy16b => ((intro w hSw); (try dsimp only at hSw); go_simp; first | done | (with_reducible rfl) | (rw [b1]))))
      (try simp only [Act.put, List.setIfInBounds_toArray, List.set_cons_zero, List.set_cons_succ])
      (refine wpAnyH_take (i := 17) (oi := ⟨some 2, _, _, _, _, _⟩) (v := ?v17b) rfl (by kernel_rfl) (by kernel_rfl) (by kernel_rfl) (fun _ _ _ h => h) (Or.inl ⟨by rfl, ?hy17b⟩) (by assumption) ?rest17b; (case hy17b => ((intro w hSw); (try dsimp only at hSw); go_simp; first | done | (with_reducible rfl) | (rw [b1]))))
      (try simp only [Act.put, List.setIfInBounds_toArray, List.set_cons_zero, List.set_cons_succ])
      refine wpAnyH_done (by kernel_rfl) ?_ _
      go_wp2
      go_ret
      exact ⟨by rw [E.out]; rfl, BD.out⟩
    · have b1 : ((tds.length : Int) == n) = false := by simpa using q
      have E : Hid (tnb ts tds = false) := by rw [Hid, E0.out, decide_eq_false q, Bool.false_and]
      clear q E0
      go_enter Try.func5, Try.ntmps5
      go_wp2
      refine wp_region_held_drew (S := (fun W => W.cell? ⟨w.heap.size, 0, none⟩ = some (.slice op ts.length cp) ∧ W.cell? ⟨w.heap.size, 1, none⟩ = some (.slice od tds.length cd))) (by kernel_rfl) ?_ (fun hHeld => ?_)
      · exact ⟨x0, x1⟩
      have hHd := hHeld
      (refine wpAnyH_take (i := 0) (oi := ⟨some 3, _, _, _, _, _⟩) (v := ?v0c) rfl (by kernel_rfl) (by kernel_rfl) (by kernel_rfl) (fun _ _ _ h => h) (Or.inl ⟨by rfl, ?hy0c⟩) (by assumption) ?rest0c; (case hy0c => ((intro w hSw); (try dsimp only at hSw); go_simp; first | done | (with_reducible rfl) | (rw [b1]))))
      (try simp only [Act.put, List.setIfInBounds_toArray, List.set_cons_zero, List.set_cons_succ])
      (refine wpAnyH_take (i := 1) (oi := ⟨some 4, _, _, _, _, _⟩) (v := ?v1c) rfl (by kernel_rfl) (by kernel_rfl) (by kernel_rfl) (fun _ _ _ h => h) (Or.inl ⟨by rfl, ?hy1c⟩) (by assumption) ?rest1c; (case hy1c => ((intro w hSw); (try dsimp only at hSw); go_simp; first | done | (with_reducible rfl) | (rw [b1]))))
      (try simp only [Act.put, List.setIfInBounds_toArray, List.set_cons_zero, List.set_cons_succ])
      refine wpAnyH_ready (rs := [2]) (by kernel_rfl) (by simp) ?_
      refine AllReadyH.cons (o := ⟨some 5, _, _, _, _, _⟩) rfl (fun K hK => ?_) AllReadyH.nil
      go_simp
      (go_at_call 16; (with_reducible refine (KM.out _ BD.out).mono ?_); rintro e w' ⟨rfl, rfl⟩)
      refine hK.out _ _ ?_ (fun hHeld => ?_)
      · (try dsimp only)
        assumption
      clear hK K
      (try simp only [Act.put, List.setIfInBounds_toArray, List.set_cons_zero, List.set_cons_succ])
      (refine wpAnyH_take (i := 3) (oi := ⟨some 6, _, _, _, _, _⟩) (v := ?v3c) rfl (by kernel_rfl) (by kernel_rfl) (by kernel_rfl) (fun _ _ _ h => h) (Or.inl ⟨by rfl, ?hy3c⟩) (by assumption) ?rest3c; (case hy3c => ((intro w hSw); (try dsimp only at hSw); go_simp; first | done | (with_reducible rfl) | (rw [b1]))))
      (try simp only [Act.put, List.setIfInBounds_toArray, List.set_cons_zero, List.set_cons_succ])
      (refine wpAnyH_take (i := 4) (oi := ⟨some 7, _, _, _, _, _⟩) (v := ?v4c) rfl (by kernel_rfl) (by kernel_rfl) (by kernel_rfl) (fun _ _ _ h => h) (Or.inl ⟨by rfl, ?hy4c⟩) (by assumption) ?rest4c; (case hy4c => ((intro w hSw); (try dsimp only at hSw); go_simp; first | done | (with_reducible rfl) | (rw [b1]))))
      (try simp only [Act.put, List.setIfInBounds_toArray, List.set_cons_zero, List.set_cons_succ])
      (refine wpAnyH_take (i := 5) (oi := ⟨some 8, _, _, _, _, _⟩) (v := ?v5c) rfl (by kernel_rfl) (by kernel_rfl) (by kernel_rfl) (fun _ _ _ h => h) (Or.inl ⟨by rfl, ?hy5c⟩) (by assumption) ?rest5c; (case hy5c => ((intro w hSw); (try dsimp only at hSw); go_simp; first | done | (with_reducible rfl) | (rw [b1]))))
      (try simp only [Act.put, List.setIfInBounds_toArray, List.set_cons_zero, List.set_cons_succ])
      (refine wpAnyH_take (i := 6) (oi := ⟨some 9, _, _, _, _, _⟩) (v := ?v6c) rfl (by kernel_rfl) (by kernel_rfl) (by kernel_rfl) (fun _ _ _ h => h) (Or.inl ⟨by rfl, ?hy6c⟩) (by assumption) ?rest6c; (case hy6c => ((intro w hSw); (try dsimp only at hSw); go_simp; first | done | (with_reducible rfl) | (rw [b1]))))
      (try simp only [Act.put, List.setIfInBounds_toArray, List.set_cons_zero, List.set_cons_succ])
      (refine wpAnyH_take (i := 7) (oi := ⟨some 10, _, _, _, _, _⟩) (v := ?v7c) rfl (by kernel_rfl) (by kernel_rfl) (by kernel_rfl) (fun _ _ _ h => h) (Or.inl ⟨by rfl, ?hy7c⟩) (by assumption) ?rest7c; (case hy7c => ((intro w hSw); (try dsimp only at hSw); go_simp; first | done | (with_reducible rfl) | (rw [b1]))))
      (try simp only [Act.put, List.setIfInBounds_toArray, List.set_cons_zero, List.set_cons_succ])
      (refine wpAnyH_take (i := 8) (oi := ⟨some 11, _, _, _, _, _⟩) (v := ?v8c) rfl (by kernel_rfl) (by kernel_rfl) (by kernel_rfl) (fun _ _ _ h => h) (Or.inl ⟨by rfl, ?hy8c⟩) (by assumption) ?rest8c; (case hy8c => ((intro w hSw); (try dsimp only at hSw); go_simp; first | done | (with_reducible rfl) | (rw [b1]))))
      (try simp only [Act.put, List.setIfInBounds_toArray, List.set_cons_zero, List.set_cons_succ])
      refine wpAnyH_ready (rs := [9]) (by kernel_rfl) (by simp) ?_
      refine AllReadyH.cons (o := ⟨some 12, _, _, _, _, _⟩) rfl (fun K hK => ?_) AllReadyH.nil
      go_simp
      (go_at_call 8; (with_reducible refine (KC2.out _ BD.out).mono ?_); rintro e w' ⟨rfl, rfl⟩)
      refine hK.out _ _ ?_ (fun hHeld => ?_)
      · (try dsimp only)
        assumption
      clear hK K
      (try simp only [Act.put, List.setIfInBounds_toArray, List.set_cons_zero, List.set_cons_succ])
      (refine wpAnyH_take (i := 10) (oi := ⟨some 13, _, _, _, _, _⟩) (v := .bool false) rfl (by kernel_rfl) (by kernel_rfl) (by kernel_rfl) (fun _ _ _ h => h) (Or.inl ⟨by rfl, ?hy10c⟩) (by assumption) ?rest10c; (case hy10c => ((intro w hSw); (try dsimp only at hSw); go_simp; first | done | (with_reducible rfl) | (rw [b1]))))
      (try simp only [Act.put, List.setIfInBounds_toArray, List.set_cons_zero, List.set_cons_succ])
      (refine wpAnyH_take (i := 11) (oi := ⟨some 14, _, _, _, _, _⟩) (v := ?v11c) rfl (by kernel_rfl) (by kernel_rfl) (by kernel_rfl) (fun _ _ _ h => h) (Or.inl ⟨by rfl, ?hy11c⟩) (by assumption) ?rest11c; (case hy11c => ((intro w hSw); (try dsimp only at hSw); go_simp; first | done | (with_reducible rfl) | (rw [b1]))))
      (try simp only [Act.put, List.setIfInBounds_toArray, List.set_cons_zero, List.set_cons_succ])
      (refine wpAnyH_take (i := 12) (oi := ⟨some 15, _, _, _, _, _⟩) (v := ?v12c) rfl (by kernel_rfl) (by kernel_rfl) (by kernel_rfl) (fun _ _ _ h => h) (Or.inl ⟨by rfl, ?hy12c⟩) (by assumption) ?rest12c; (case hy12c => ((intro w hSw); (try dsimp only at hSw); go_simp; first | done | (with_reducible rfl) | (rw [b1]))))
      (try simp only [Act.put, List.setIfInBounds_toArray, List.set_cons_zero, List.set_cons_succ])
      (refine wpAnyH_take (i := 13) (oi := ⟨some 16, _, _, _, _, _⟩) (v := _) rfl (by kernel_rfl) (by kernel_rfl) (by kernel_rfl) (fun _ _ _ h => h) (Or.inr ⟨by rfl, rfl⟩) (by assumption) ?_)
      (try simp only [Act.put, List.setIfInBounds_toArray, List.set_cons_zero, List.set_cons_succ])
      (refine wpAnyH_take (i := 14) (oi := ⟨some 17, _, _, _, _, _⟩) (v := _) rfl (by kernel_rfl) (by kernel_rfl) (by kernel_rfl) (fun _ _ _ h => h) (Or.inr ⟨by rfl, rfl⟩) (by assumption) ?_)
      (try simp only [Act.put, List.setIfInBounds_toArray, List.set_cons_zero, List.set_cons_succ])
      (refine wpAnyH_take (i := 15) (oi := ⟨some 18, _, _, _, _, _⟩) (v := _) rfl (by kernel_rfl) (by kernel_rfl) (by kernel_rfl) (fun _ _ _ h => h) (Or.inr ⟨by rfl, rfl⟩) (by assumption) ?_)
      (try simp only [Act.put, List.setIfInBounds_toArray, List.set_cons_zero, List.set_cons_succ])
      (refine wpAnyH_take (i := 16) (oi := ⟨some 19, _, _, _, _, _⟩) (v := ?v16c) rfl (by kernel_rfl) (by kernel_rfl) (by kernel_rfl) (fun _ _ _ h => h) (Or.inl ⟨by rfl, ?hy16c⟩) (by assumption) ?rest16c; (case hy16c => ((intro w hSw); (try dsimp only at hSw); go_simp; first | done | (with_reducible rfl) | (rw [b1]))))
      (try simp only [Act.put, List.setIfInBounds_toArray, List.set_cons_zero, List.set_cons_succ])
      (refine wpAnyH_take (i := 17) (oi := ⟨some 2, _, _, _, _, _⟩) (v := ?v17c) rfl (by kernel_rfl) (by kernel_rfl) (by kernel_rfl) (fun _ _ _ h => h) (Or.inl ⟨by rfl, ?hy17c⟩) (by assumption) ?rest17c; (case hy17c => ((intro w hSw); (try dsimp only at hSw); go_simp; first | done | (with_reducible rfl) | (rw [b1]))))
      (try simp only [Act.put, List.setIfInBounds_toArray, List.set_cons_zero, List.set_cons_succ])
      refine wpAnyH_done (by kernel_rfl) ?_ _
      go_wp2
      go_ret
      exact ⟨by rw [E.out]; rfl, BD.out⟩
end Go.Proofs.Ytpfcjajmfadcbaa
namespace Go.Proofs.Ytpfcjajmfadcbaa
open Go.RowKit
attribute [local go_sem ↓] Go.wp_at_zero Go.wp_at_succ

set_option maxRecDepth 100000 in
set_option maxHeartbeats 4000000 in
theorem rwiden_any (vs vt va : Value) (sh st s : List Int) (off : Int) (w : World) (hs : Ld w vs sh) (ht : Ld w vt st) (ha : Ld w va s) (hlt0 : st.length = sh.length) (l4 : sh.length ≤ 4) (l5 : s.length ≤ 4) (hle : sh.length ≤ s.length) :
    Calls Try.prog 10 #[.agg #[vs, vt, .int .i64 off], va] w (SomeW w s (wst sh st s) off) := by
  obtain ⟨i0, hi0, hz0, hz1, hz2⟩ := info_parts infoI
  obtain ⟨w4, hw2⟩ : ∃ w4, w4 = (w.alloc (.cells #[vs, vt, .int .i64 off] 37)).alloc (.cells #[.slice none 0 0, .slice none 0 0, .int .i64 0] 37) := ⟨_, rfl⟩
  have hsz : w4.heap.size = w.heap.size + 2 := by rw [hw2]; simp
  have bb4 : Below w.heap.size w w4 := by rw [hw2]; exact ((Below.refl _ _).alloc (Nat.le_refl _) _).alloc (by simp) _
  have Y0 : Hid (Blk w4 w.heap.size 37 #[vs, vt, .int .i64 off]) := by rw [hw2]; exact (Blk.new w _ _).alloc _
  have Y1 : Hid (Blk w4 (w.heap.size + 1) 37 #[.slice none 0 0, .slice none 0 0, .int .i64 0]) := by
    rw [hw2]
    have := Blk.new (w.alloc (.cells #[vs, vt, .int .i64 off] 37)) 37 #[.slice none 0 0, .slice none 0 0, .int .i64 0]
    rwa [World.size_alloc] at this
  have CL := Lib.hid (fun (W : World) (hb : Below w.heap.size w W) => copy_any va s W (ha.below hb) (by omega))
  obtain ⟨os, cs, rfl, _, hxs⟩ := hs
  obtain ⟨ot, ct, rfl, _, hxt⟩ := ht
  obtain ⟨oa, ca, rfl, _, hxa⟩ := ha
  have HS := Lib.hid hxs
  have HT := Lib.hid hxt
  have HA := Lib.hid hxa
  clear hxs hxt hxa
  have HLS := Lib.hid hlt0
  obtain ⟨a, ha⟩ : ∃ a, s.length = sh.length + a := ⟨s.length - sh.length, by omega⟩
  have HAA := Lib.hid ha
  have ea : (s.length : Int) - (sh.length : Int) = (a : Int) := by omega
  clear ha hlt0
  have mk : ∀ W : World, (Instr.makeSlice 23 (.int .i64 (s.length : Int)) (.int .i64 (s.length : Int))).run Try.prog W = .ok (.slice (some ⟨W.heap.size, 0, none⟩) s.length s.length) (W.alloc (.cells (ints (List.replicate s.length 0)).toArray 3)) := by
    intro W
    have := run_make (w := W) 23 3 i0 (.int .i64 0) Try.underlying23 hi0 hz0 .i64 .i64 s.length s.length (by omega) (by omega) (by rw [hz2]; omega) (by omega)
    rw [this, hz1, ← made_ints]; simp [Value.cells]
  have HW := Lib.hid (And.intro hw2 hsz)
  obtain ⟨c0, c1, c2, _⟩ := blk3 Y0.out
  clear hw2 hsz
  go_enter Try.func10, Try.ntmps10
  go_wp2
  have hgo := HW.out
  rw [← hgo.1]
  clear hgo
  have bz4 : Below w4.heap.size w4 w4 := Below.refl _ _
  have KS := Lib.hid (fun (W : World) (hW : Below w4.heap.size w4 W) => (blk3 (Y0.out.below hW Y0.out.lt)).2.2.1)
  have y0l := Y0.out.lt
  have s4 := bb4.size
  go_cut [5] (fun s5 wx => ∃ (P gm c5 : Nat) (o5 : Option Addr), s5 = .pointer (some ⟨P, 0, none⟩) ∧ Blk wx P 37 #[.slice o5 s.length c5, .slice (some ⟨gm, 0, none⟩) s.length s.length, .int .i64 off] ∧ Blk wx gm 3 (ints (List.replicate s.length 0)).toArray ∧ Hid (wx.ownsRow w4.heap.size 3 1 (.slice o5 s.length c5) s.length (ints s) ∧ ∀ g, o5 = some ⟨g, 0, none⟩ → ¬ g = gm) ∧ Hid (w4.heap.size ≤ gm ∧ w4.heap.size ≤ P) ∧ Hid (Below w4.heap.size w4 wx))
  case first =>
    go_region_held3 (fun W => W.cell? ⟨w.heap.size, 2, none⟩ = some (.int .i64 off)) (first | go_keep | (refine KS.out _ ?_; repeat (first | assumption | exact Nat.le_refl _ | exact Nat.le_succ _ | exact Below.refl _ _ | apply below_drew1 | (refine Below.setCell ?_ ?_ _) | (refine Below.alloc ?_ ?_ _) | omega | (simp; done) | (simp; omega))))
      (first | (go_at_call 20; (with_reducible refine Go.Calls.mono (CL.out _ ?_) ?_); (· repeat (first | assumption | exact Nat.le_refl _ | exact Nat.le_succ _ | exact Below.refl _ _ | apply below_drew1 | (refine Below.alloc ?_ ?_ _) | omega | (simp; done) | (simp; omega))); rintro e w5 ⟨o5, c5, rfl, ho5, _, hb5⟩; have bz5 : Below w4.heap.size w4 w5 := (by refine Below.trans ?_ (hb5.mono ?_); (· repeat (first | assumption | exact Nat.le_refl _ | exact Nat.le_succ _ | exact Below.refl _ _ | apply below_drew1 | (refine Below.alloc ?_ ?_ _) | omega | (simp; done) | (simp; omega))); (· first | exact Nat.le_refl _ | omega | (simp; done) | (simp; omega))); have s5 := bz5.size; have O5 : Hid (w5.ownsRow w4.heap.size 3 1 (.slice o5 s.length c5) s.length (ints s)) := own_base ho5 (by first | exact Nat.le_refl _ | omega | (simp; done) | (simp; omega)); have O5B := Lib.hid ho5; (first | (have zg : Blk w5 w4.heap.size 3 (ints (List.replicate s.length 0)).toArray := Blk.below (by first | exact Blk.new w4 _ _ | exact (Blk.new w4 _ _).alloc _) hb5 (by first | exact Nat.le_refl _ | omega | (simp; done) | (simp; omega))) | (have zg : Blk w5 (w4.heap.size + 1) 3 (ints (List.replicate s.length 0)).toArray := Blk.below (by have q := Blk.new (w4.alloc (.cells #[.slice none 0 0, .slice none 0 0, .int .i64 0] 37)) 3 (ints (List.replicate s.length 0)).toArray; rw [World.size_alloc] at q; exact q) hb5 (by first | exact Nat.le_refl _ | omega | (simp; done) | (simp; omega))) | skip); (first | (have zP : Blk w5 w4.heap.size 37 #[.slice none 0 0, .slice none 0 0, .int .i64 0] := Blk.below (by first | exact Blk.new w4 _ _ | exact (Blk.new w4 _ _).alloc _) hb5 (by first | exact Nat.le_refl _ | omega | (simp; done) | (simp; omega)); have zPl := zP.lt; obtain ⟨p0, p1, p2, pf0, pf1, pf2⟩ := blk3 zP) | (have zP : Blk w5 (w4.heap.size + 1) 37 #[.slice none 0 0, .slice none 0 0, .int .i64 0] := Blk.below (by have q := Blk.new (w4.alloc (.cells (ints (List.replicate s.length 0)).toArray 3)) 37 #[.slice none 0 0, .slice none 0 0, .int .i64 0]; rw [World.size_alloc] at q; exact q) hb5 (by first | exact Nat.le_refl _ | omega | (simp; done) | (simp; omega)); have zPl := zP.lt; obtain ⟨p0, p1, p2, pf0, pf1, pf2⟩ := blk3 zP) | skip); have k0 := KS.out _ bz5; replace ho5 := Lib.hid ho5))
    · go_wp2
      go_meet
      refine ⟨_, w5.heap.size, c5, o5, rfl, ?_, ?_, ⟨?_, ?_⟩, ⟨?_, ?_⟩, ?_⟩
      · exact blk_new1 w5 _ _ _
      · exact (Blk.new w5 _ _).alloc _
      · exact (O5.out.alloc _).alloc _
      · intro g e; subst e; have q1 := (O5B.out.lt g rfl).1; have q2 := (O5B.out.lt g rfl).2; (try simp at q1); omega
      · first | exact Nat.le_refl _ | exact Nat.le_succ _ | omega | (simp; done) | (simp; omega)
      · first | exact Nat.le_refl _ | exact Nat.le_succ _ | omega | (simp; done) | (simp; omega)
      · exact (bz5.alloc s5 _).alloc (by simp; omega) _
    · go_wp2
      go_meet
      refine ⟨_, w5.heap.size + 1, c5, o5, rfl, ?_, ?_, ⟨?_, ?_⟩, ⟨?_, ?_⟩, ?_⟩
      · exact (Blk.new w5 _ _).alloc _
      · exact blk_new1 w5 _ _ _
      · exact (O5.out.alloc _).alloc _
      · intro g e; subst e; have q1 := (O5B.out.lt g rfl).1; have q2 := (O5B.out.lt g rfl).2; (try simp at q1); omega
      · first | exact Nat.le_refl _ | exact Nat.le_succ _ | omega | (simp; done) | (simp; omega)
      · first | exact Nat.le_refl _ | exact Nat.le_succ _ | omega | (simp; done) | (simp; omega)
      · exact (bz5.alloc s5 _).alloc (by simp; omega) _
    · go_wp2
      go_meet
      refine ⟨_, w4.heap.size, c5, o5, rfl, ?_, ?_, ⟨?_, ?_⟩, ⟨?_, ?_⟩, ?_⟩
      · exact Blk.new w5 _ _
      · exact zg.alloc _
      · exact O5.out.alloc _
      · intro g e; subst e; have q1 := (O5B.out.lt g rfl).1; have q2 := (O5B.out.lt g rfl).2; (try simp at q1); omega
      · first | exact Nat.le_refl _ | exact Nat.le_succ _ | omega | (simp; done) | (simp; omega)
      · first | exact Nat.le_refl _ | exact Nat.le_succ _ | omega | (simp; done) | (simp; omega)
      · exact bz5.alloc s5 _
    · go_wp2
      go_meet
      refine ⟨_, w4.heap.size, c5, o5, rfl, ?_, ?_, ⟨?_, ?_⟩, ⟨?_, ?_⟩, ?_⟩
      · exact ((zP.set_ 0 _).set_ 1 _).set_ 2 _
      · exact blk_box3 zg zP _ _ _
      · exact own_box O5.out zP _ _ _
      · intro g e; subst e; have q1 := (O5B.out.lt g rfl).1; have q2 := (O5B.out.lt g rfl).2; (try simp at q1); omega
      · first | exact Nat.le_refl _ | exact Nat.le_succ _ | omega | (simp; done) | (simp; omega)
      · first | exact Nat.le_refl _ | exact Nat.le_succ _ | omega | (simp; done) | (simp; omega)
      · exact Below.box bz5 (Nat.le_succ _) _ _ _
    · go_wp2
      go_meet
      refine ⟨_, w5.heap.size, c5, o5, rfl, ?_, ?_, ⟨?_, ?_⟩, ⟨?_, ?_⟩, ?_⟩
      · exact (((zP.set_ 0 _).set_ 1 _).set_ 2 _).alloc _
      · have q := Blk.new (((w5.setCell ⟨w4.heap.size, 0, none⟩ (.slice o5 s.length c5)).setCell ⟨w4.heap.size, 1, none⟩ (.slice (some ⟨w5.heap.size, 0, none⟩) s.length s.length)).setCell ⟨w4.heap.size, 2, none⟩ (.int .i64 off)) 3 (ints (List.replicate s.length 0)).toArray
        rw [show (((w5.setCell ⟨w4.heap.size, 0, none⟩ (.slice o5 s.length c5)).setCell ⟨w4.heap.size, 1, none⟩ (.slice (some ⟨w5.heap.size, 0, none⟩) s.length s.length)).setCell ⟨w4.heap.size, 2, none⟩ (.int .i64 off)).heap.size = w5.heap.size by simp] at q
        exact q
      · exact (own_box O5.out zP _ _ _).alloc _
      · intro g e; subst e; have q1 := (O5B.out.lt g rfl).1; have q2 := (O5B.out.lt g rfl).2; (try simp at q1); omega
      · first | exact Nat.le_refl _ | exact Nat.le_succ _ | omega | (simp; done) | (simp; omega)
      · first | exact Nat.le_refl _ | exact Nat.le_succ _ | omega | (simp; done) | (simp; omega)
      · exact (Below.box bz5 (Nat.le_refl _) _ _ _).alloc (by simpa using s5) _
    · go_wp2
      go_meet
      refine ⟨_, w4.heap.size + 1, c5, o5, rfl, ?_, ?_, ⟨?_, ?_⟩, ⟨?_, ?_⟩, ?_⟩
      · exact ((zP.set_ 0 _).set_ 1 _).set_ 2 _
      · exact blk_box3 zg zP _ _ _
      · exact own_box O5.out zP _ _ _
      · intro g e; subst e; have q1 := (O5B.out.lt g rfl).1; have q2 := (O5B.out.lt g rfl).2; (try simp at q1); omega
      · first | exact Nat.le_refl _ | exact Nat.le_succ _ | omega | (simp; done) | (simp; omega)
      · first | exact Nat.le_refl _ | exact Nat.le_succ _ | omega | (simp; done) | (simp; omega)
      · exact Below.box bz5 (Nat.le_refl _) _ _ _
  case rest =>
    obtain ⟨P, gm, c5, o5, rfl, hP, hgm, HO, HL, HB⟩ := hcut
    obtain ⟨t0, t1, t2, _⟩ := blk3 hP
    have HP := Lib.hid hP
    have YF := Lib.hid (Y1.out.below HB.out (by have := Y1.out.lt; omega))
    have Y0F := Lib.hid (Y0.out.below HB.out (by omega))
    obtain ⟨c0, c1, c2, _⟩ := blk3 Y0F.out
    clear hP
    go_wp2
    have g5 := hgm.lt
    have pl := HP.out.lt
    have nPg := blk_apart hgm HP.out
    go_loopw [6] (fun s6 wr => ∃ k : Nat, k ≤ sh.length ∧ s6 = .int .i64 k ∧ Hid (Blk wr gm 3 (ints (wsn sh st s k)).toArray) ∧ Hid (wc.grownBy wr (some gm))) (fun s6 _ => sh.length - (intOf s6).toNat)
    case atStart => exact ⟨0, Nat.zero_le _, rfl, hgm, World.grownBy.refl _ _⟩
    case round =>
      obtain ⟨k, hk, rfl, hw, hG⟩ := hrel
      have wl := HL.out
      have bl := HB.out.size
      have gold : ∀ (b i : Nat) (v : Value), b < w.heap.size → w.cell? ⟨b, i, none⟩ = some v → wr.cell? ⟨b, i, none⟩ = some v := fun b i v h1 h2 =>
        grown_cell hG.out (by omega) (by omega) ((HB.out.cell (p := ⟨b, i, none⟩) (by show b < _; omega)).trans ((bb4.cell (p := ⟨b, i, none⟩) h1).trans h2))
      have gbox := fun (b i : Nat) (v : Value) (h1 : b < wc.heap.size) (h2 : b ≠ gm) (h3 : wc.cell? ⟨b, i, none⟩ = some v) => grown_cell (i := i) hG.out h1 h2 h3
      have yp := blk3 HP.out
      have yb := blk3 Y0F.out
      have e0 := gbox w.heap.size 0 _ (by omega) (by omega) yb.1
      have e1 := gbox w.heap.size 1 _ (by omega) (by omega) yb.2.1
      have e2 := gbox P 1 _ pl (fun e => nPg e.symm) yp.2.1
      have GOLD := Lib.hid gold
      have KSB := Lib.hid (fun (W : World) (hW : wc.grownBy W (some gm)) => And.intro (grown_cell (i := 1) hW (by omega) (by omega) yb.2.1) (And.intro (grown_cell (i := 1) hW pl (fun e => nPg e.symm) yp.2.1) (fun (b i : Nat) (v : Value) (h1 : b < w.heap.size) (h2 : w.cell? ⟨b, i, none⟩ = some v) => grown_cell hW (by omega) (by omega) ((HB.out.cell (p := ⟨b, i, none⟩) (by show b < _; omega)).trans ((bb4.cell (p := ⟨b, i, none⟩) h1).trans h2)))))
      clear gold gbox yp yb
      by_cases hlt : k < sh.length
      · have ha := HAA.out
        have hls := HLS.out
        obtain ⟨bs, fs, rfl, ns, xs⟩ := HS.out k hlt
        obtain ⟨bt, ft, rfl, nt, xt⟩ := HT.out k (by omega)
        obtain ⟨ba, fa, rfl, na, xa⟩ := HA.out (a + k) (by omega)
        have xs' := GOLD.out _ _ _ ns xs
        have xt' := GOLD.out _ _ _ nt xt
        have xa' := GOLD.out _ _ _ na xa
        have xa2 : wr.cell? ⟨ba, fa + ((a : Int) + (k : Int)).toNat, none⟩ = some (.int .i64 (s.getD (a + k) 0)) := by rw [show ((a : Int) + (k : Int)).toNat = a + k by omega]; exact xa'
        have kc := hw.out.cell (a + k)
        rw [ints_at (by rw [wsn_len]; omega)] at kc
        have kf := hw.out.frozen (a + k)
        have akl : a + k < s.length := by omega
        have klt : k < st.length := by omega
        have HPUT : Hid (sh.getD k 0 = s.getD (a + k) 0 → wsn sh st s (k + 1) = (wsn sh st s k).set (a + k) (st.getD k 0)) := fun e => by rw [Nat.add_comm a k] at e ⊢; exact wsn_put (by omega) e
        have HSKIP : Hid (¬ sh.getD k 0 = s.getD (a + k) 0 → wsn sh st s (k + 1) = wsn sh st s k) := fun e => by rw [Nat.add_comm a k] at e; exact wsn_skip (by omega) e
        have KSW := Lib.hid (fun (W : World) (hW : wc.grownBy W (some gm)) => And.intro (KSB.out W hW).1 (And.intro (KSB.out W hW).2.1 ((KSB.out W hW).2.2 _ _ _ nt xt)))
        clear xs xt xa ha hls
        generalize (wsn sh st s k).getD (a + k) 0 = q0 at kc
        generalize sh.getD k 0 = d at *
        generalize s.getD (a + k) 0 = d2 at *
        generalize st.getD k 0 = q at *
        by_cases g : d = d2
        · subst g
          have R1 := Lib.hid (HPUT.out rfl)
          have e7 : (k : Int) + (s.length : Int) - (sh.length : Int) = ((a + k : Nat) : Int) := by have := HAA.out; omega
          go_wp2
          go_quiet (fail)
          go_wp2
          have n1 : ¬ gm = w.heap.size := by omega
          have n2 : ¬ gm = bt := by omega
          have i1 : (0 : Int) ≤ (a : Int) + (k : Int) := by omega
          have i2 : (a : Int) + (k : Int) < (s.length : Int) := by omega
          have e8 : ((a : Int) + (k : Int)).toNat = a + k := by omega
          go_region_held3 (fun W => W.cell? ⟨w.heap.size, 1, none⟩ = some (.slice (some ⟨bt, ft, none⟩) st.length ct) ∧ W.cell? ⟨P, 1, none⟩ = some (.slice (some ⟨gm, 0, none⟩) s.length s.length) ∧ W.cell? ⟨bt, ft + k, none⟩ = some (.int .i64 q)) (go_keep) (fail)
          go_wp2
          refine ⟨⟨k + 1, by omega, by go_num, ?_, ?_⟩, by simp [intOf]; omega⟩
          · rw [R1.out]
            exact Blk.put hw.out (a + k) q
          · exact grown_put (by first | exact hG.out | exact grown_drw hG.out _ | exact grown_drw (grown_drw hG.out _) _) _
        · have R1 := Lib.hid (HSKIP.out g)
          have g' : (d == d2) = false := by rw [beq_eq_false_iff_ne]; exact g
          have e7 : (k : Int) + (s.length : Int) - (sh.length : Int) = ((a + k : Nat) : Int) := by have := HAA.out; omega
          clear g
          go_wp2
          go_quiet (fail)
          go_wp2
          refine ⟨⟨k + 1, by omega, by go_num, ?_, ?_⟩, by simp [intOf]; omega⟩
          · rw [R1.out]
            exact hw.out
          · first | exact grown_drw hG.out _ | exact hG.out
      · obtain rfl : k = sh.length := by omega
        have hls : (st.length : Int) = (sh.length : Int) := by have := HLS.out; omega
        have dF := Lib.hid ((YF.out.kept hG.out (fun e => blk_apart hgm YF.out (Option.some.inj e).symm)))
        have pF := Lib.hid ((HP.out.kept hG.out (fun e => nPg (Option.some.inj e).symm)))
        obtain ⟨d0, d1, d2, f0, f1, f2⟩ := blk3 dF.out
        obtain ⟨t0, t1, t2, _⟩ := blk3 pF.out
        go_wp2
        refine bodyPost_ret (v := .agg #[.slice o5 s.length c5, .slice (some ⟨gm, 0, none⟩) s.length s.length, .int .i64 off]) (by simp [results, Try.results10, go_sem, d0, d1, d2]) rfl ?_
        have hbel : Below w4.heap.size w4 wr := HB.out.grown hG.out bl (fun k e => by cases e; exact wl.1)
        have hw2 : wr.ownsRow w4.heap.size 3 1 (.slice (some ⟨gm, 0, none⟩) s.length s.length) (wst sh st s).length (ints (wst sh st s)) := by
          have q := hw.out.owns (base := w4.heap.size) wl.1 (by rw [wsn_len]; omega)
          rw [wsn_len] at q
          unfold wst
          rw [wsn_len]
          exact q
        have ho : wr.ownsRow w4.heap.size 3 1 (.slice o5 s.length c5) s.length (ints s) := HO.out.1.kept hG.out (by
          cases o5 with
          | none => exact .inl rfl
          | some ad =>
            right
            intro e
            simp only [Value.ownBlock, Option.some.injEq] at e
            rcases HO.out.1.2 with ⟨e2, _⟩ | ⟨g, _, _, e2, _⟩
            · cases e2
            · simp only [Value.slice.injEq, Option.some.injEq] at e2
              rw [e2.1] at e
              exact HO.out.2 g (by rw [e2.1]) e)
        refine someW_end (sh := s) (st := wst sh st s) (Nat.le_succ _) (bb4.trans (hbel.mono s4)) dF.out rfl (by unfold wst; rw [wsn_len]) (Ov.base (base := w4.heap.size) ⟨ho, hw2, ?_⟩ s4)
        intro g e e2
        simp only [Value.ownBlock, Option.some.injEq] at e2
        rcases HO.out.1.2 with ⟨e3, _⟩ | ⟨g', _, _, e3, _⟩
        · simp only [Value.slice.injEq] at e3
          rw [e3.1] at e; simp [Value.ownBlock] at e
        · simp only [Value.slice.injEq] at e3
          rw [e3.1] at e
          simp only [Value.ownBlock, Option.some.injEq] at e
          exact HO.out.2 g' e3.1 (by omega)
end Go.Proofs.Ytpfcjajmfadcbaa
