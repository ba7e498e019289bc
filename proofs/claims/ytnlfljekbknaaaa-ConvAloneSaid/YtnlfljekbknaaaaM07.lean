/-
  package window: the iterator of what meets at a place.
  package window: the window of a kernel over a shape.
  package window: Within; package conv: what a round of appendMeetings leaves.
  package conv: appendMeetings: the meetings at a place, as a row.
-/
import Derived.BigRegion
import Derived.Test.YtnlfljekbknaaaaM02
import Derived.Test.YtnlfljekbknaaaaM06
namespace Go.Proofs.Ytnlfljekbknaaaa
open Go Go.RowKit Go.Shelf
attribute [local go_sem] Oper.semAt_some
/-- A drawn region inside a round, its frame known at its end alone. -/
theorem region_inG {P : Program} {n l id : Nat} {ops : Array Oper} {S : World → Prop} {a F : Act} {W X : World} {K : Exit → Act → World → Prop} (hd : (ops.toList.all fun o => nodf o.op) = true) (hm : P.follows .mixedOrders = true) (hS : S W.drew)
    (h : S W.drew → wpAnyH P .any ops (fun e a2 W2 => e = .normal ∧ a2 = F ∧ W2 = X) S ops.size (Array.replicate ops.size false) a W.drew) (hk : K .normal F X) : (Code.region id ops true).wpIn (Fence.wide.inRound l) n P K a W := by
  refine wpIn_mono (region_inA (R := fun a2 W2 => a2 = F ∧ W2 = X) hd hm hS h) ?_
  rintro e a3 W3 ⟨rfl, rfl, rfl⟩
  exact hk
set_option maxRecDepth 100000 in
set_option maxHeartbeats 8000000 in
theorem within1_told (n : Nat) (h9 : 9 ≤ n) (BW BP : Nat) (v : Value) (CT TP WD l0 n0 s0 p0 d0 l1 n1 s1 p1 d1 Pl : Int) (K0 K1 : Nat) (b0 : (1 ≤ l0 ∧ l0 ≤ 4096) ∧ (1 ≤ K0 ∧ K0 ≤ 4096) ∧ (1 ≤ s0 ∧ s0 ≤ 4096) ∧ (0 ≤ p0 ∧ p0 ≤ 4096) ∧ (1 ≤ d0 ∧ d0 ≤ 4096)) (b1 : (1 ≤ l1 ∧ l1 ≤ 4096) ∧ (1 ≤ K1 ∧ K1 ≤ 4096) ∧ (1 ≤ s1 ∧ s1 ≤ 4096) ∧ (0 ≤ p1 ∧ p1 ≤ 4096) ∧ (1 ≤ d1 ∧ d1 ≤ 4096)) (hn1 : 1 ≤ n1) (hPl : 0 ≤ Pl ∧ Pl ≤ 200000000) (hPr : Pl / n1 ≤ 12288) (hPc : Pl % n1 ≤ 12288) (w : World) (h1 : Blk w BW 86 #[v, .int .i64 CT, .int .i64 TP, .int .i64 WD, .int .i64 l0, .int .i64 n0, .int .i64 (K0 : Nat), .int .i64 s0, .int .i64 p0, .int .i64 d0, .int .i64 l1, .int .i64 n1, .int .i64 (K1 : Nat), .int .i64 s1, .int .i64 p1, .int .i64 d1]) (h2 : Blk w BP 3 #[.int .i64 Pl]) :
    SeqTold2 Fence.wide n Try.prog 135 #[.pointer (some ⟨BW, 0, none⟩), .pointer (some ⟨BP, 0, none⟩)] (mpq (R := (l0, n0, (K0 : Nat), s0, p0, d0)) (C := (l1, n1, (K1 : Nat), s1, p1, d1)) (Pr := Pl / n1) (Pc := Pl % n1) (K0 := K0) (K1 := K1)) KW (fun _ _ _ => True) (fun ys => ys = mts (l0, n0, (K0 : Nat), s0, p0, d0) (l1, n1, (K1 : Nat), s1, p1, d1) (Pl / n1) (Pl % n1) K0 K1) (fun _ => True) (K0 * K1) w := by
  obtain ⟨Pr, Pc, e1, e2, e3, e4, e5, e6, HQ⟩ := place_facts hPl.1 hPl.2 hn1
  have HPB : Hid ((0 ≤ Pr ∧ Pr ≤ 12288) ∧ (0 ≤ Pc ∧ Pc ≤ 12288)) := Lib.hid (by
    rw [HQ.out.1, HQ.out.2]
    exact ⟨⟨Int.ediv_nonneg hPl.1 (by omega), hPr⟩, ⟨Int.emod_nonneg _ (by omega), hPc⟩⟩)
  rw [← HQ.out.1, ← HQ.out.2]
  intro l J Jx W hW hlW hJ hJx hY h0
  have bW := h1.below hW h1.lt
  have bP := h2.below hW h2.lt
  obtain ⟨cs, hcs⟩ : ∃ cs : Array Value, cs = #[v, .int .i64 CT, .int .i64 TP, .int .i64 WD, .int .i64 l0, .int .i64 n0, .int .i64 (K0 : Nat), .int .i64 s0, .int .i64 p0, .int .i64 d0, .int .i64 l1, .int .i64 n1, .int .i64 (K1 : Nat), .int .i64 s1, .int .i64 p1, .int .i64 d1] := ⟨_, rfl⟩
  have nz : ¬ n1 = 0 := by omega
  have nz1 : (n1 == 0) = false := by rw [beq_eq_false_iff_ne]; omega
  have HB0 := Lib.hid b0
  have HB1 := Lib.hid b1
  obtain ⟨w1, hw1⟩ : ∃ w1, w1 = W.alloc (.cells #[.func (.yield l) #[] #[]] 155) := ⟨_, rfl⟩
  have B1 : Hid (Below W.heap.size W w1) := Lib.hid (by rw [hw1]; exact (Below.refl _ _).alloc (Nat.le_refl _) _)
  have Z1 : Hid (w1.heap.size = W.heap.size + 1) := Lib.hid (by rw [hw1]; simp)
  have I1 : Hid (Wi BW BP W.heap.size #[v, .int .i64 CT, .int .i64 TP, .int .i64 WD, .int .i64 l0, .int .i64 n0, .int .i64 (K0 : Nat), .int .i64 s0, .int .i64 p0, .int .i64 d0, .int .i64 l1, .int .i64 n1, .int .i64 (K1 : Nat), .int .i64 s1, .int .i64 p1, .int .i64 d1] Pl (.func (.yield l) #[] #[]) w1) := Lib.hid (by rw [hw1]; exact ⟨bW.alloc _, bP.alloc _, Blk.new _ _ _⟩)
  have HW1 := Lib.hid hw1
  have KS : Hid (∀ X : World, Below w1.heap.size w1 X → Blk X BW 86 #[v, .int .i64 CT, .int .i64 TP, .int .i64 WD, .int .i64 l0, .int .i64 n0, .int .i64 (K0 : Nat), .int .i64 s0, .int .i64 p0, .int .i64 d0, .int .i64 l1, .int .i64 n1, .int .i64 (K1 : Nat), .int .i64 s1, .int .i64 p1, .int .i64 d1] ∧ X.cell? ⟨BW, 11, none⟩ = some (.int .i64 n1) ∧ X.cell? ⟨BP, 0, none⟩ = some (.int .i64 Pl)) := Lib.hid (fun X hX => ⟨I1.out.1.below hX I1.out.1.lt, (I1.out.1.below hX I1.out.1.lt).cell 11, (I1.out.2.1.below hX I1.out.2.1.lt).cell 0⟩)
  have CAT := Lib.hid (fun X : World => at_any l0 (K0 : Nat) s0 p0 d0 n0 Pr X)
  have CAU := Lib.hid (fun X : World => at_any l1 (K1 : Nat) s1 p1 d1 n1 Pc X)
  unfold Lnv at CAT CAU
  clear hw1 b0 b1 h1 h2 bW bP hcs cs
  refine callsIn_of_wp_marks Try.func135 rfl trivial ?_
  simp only [Try.ntmps135, List.size_toArray, List.length_cons, List.length_nil, Nat.reduceAdd, Nat.reduceSub, Array.replicate_succ, Array.replicate_zero, List.push_toArray, List.append_toArray, List.nil_append, List.cons_append]
  refine wpIn_wide.2 ?_
  go_upto_region 1 with (fail)
  go_step3
  go_upto_region 1 with (fail)
  go_step3
  go_upto_region 1 with (fail)
  rw [← HW1.out]
  have B0 : Hid (Below w1.heap.size w1 w1.drew) := Lib.hid (below_drw (Below.refl _ _) 1)
  refine wp_region_noPanic ?_
  refine wp_region_held_drew (S := fun X => Blk X BW 86 #[v, .int .i64 CT, .int .i64 TP, .int .i64 WD, .int .i64 l0, .int .i64 n0, .int .i64 (K0 : Nat), .int .i64 s0, .int .i64 p0, .int .i64 d0, .int .i64 l1, .int .i64 n1, .int .i64 (K1 : Nat), .int .i64 s1, .int .i64 p1, .int .i64 d1] ∧ X.cell? ⟨BW, 11, none⟩ = some (.int .i64 n1) ∧ X.cell? ⟨BP, 0, none⟩ = some (.int .i64 Pl)) (by kernel_rfl) ?_ (fun hHeld => ?_)
  · exact KS.out _ B0.out
  have hHd := hHeld
  generalize hwd : w1.drew = wd at *
  (refine wpAnyH_take (i := 0) (oi := ⟨some 6, _, _, _, _, _⟩) (v := ?v0_r1) rfl (by kernel_rfl) (by kernel_rfl) (by kernel_rfl) (fun _ _ _ h => h) (Or.inl ⟨by rfl, ?hy0_r1⟩) (by assumption) ?rest0_r1; (case hy0_r1 => ((intro w hSw); (try dsimp only at hSw); go_simp; first | done | (with_reducible rfl))))
  (try simp only [Act.put, List.setIfInBounds_toArray, List.set_cons_zero, List.set_cons_succ])
  (refine wpAnyH_take (i := 1) (oi := ⟨some 7, _, _, _, _, _⟩) (v := .agg #[.int .i64 l0, .int .i64 n0, .int .i64 (K0 : Nat), .int .i64 s0, .int .i64 p0, .int .i64 d0]) rfl (by kernel_rfl) (by kernel_rfl) (by kernel_rfl) (fun _ _ _ h => h) (yieldsIf_load_mid (by rfl) 84 _ rfl BW 4 rfl [.int .i64 l0, .int .i64 n0, .int .i64 (K0 : Nat), .int .i64 s0, .int .i64 p0, .int .i64 d0] _ (fun w h => range_of h.1 rfl) Try.underlying84 rfl (by kernel_rfl)) (by assumption) ?_)
  (try simp only [Act.put, List.setIfInBounds_toArray, List.set_cons_zero, List.set_cons_succ])
  (refine wpAnyH_take (i := 2) (oi := ⟨some 8, _, _, _, _, _⟩) (v := ?v2_r3) rfl (by kernel_rfl) (by kernel_rfl) (by kernel_rfl) (fun _ _ _ h => h) (Or.inl ⟨by rfl, ?hy2_r3⟩) (by assumption) ?rest2_r3; (case hy2_r3 => ((intro w hSw); (try dsimp only at hSw); go_simp; first | done | (with_reducible rfl))))
  (try simp only [Act.put, List.setIfInBounds_toArray, List.set_cons_zero, List.set_cons_succ])
  (refine wpAnyH_take (i := 3) (oi := ⟨some 9, _, _, _, _, _⟩) (v := ?v3_r4) rfl (by kernel_rfl) (by kernel_rfl) (by kernel_rfl) (fun _ _ _ h => h) (Or.inl ⟨by rfl, ?hy3_r4⟩) (by assumption) ?rest3_r4; (case hy3_r4 => ((intro w hSw); (try dsimp only at hSw); go_simp; first | done | (with_reducible rfl))))
  (try simp only [Act.put, List.setIfInBounds_toArray, List.set_cons_zero, List.set_cons_succ])
  (refine wpAnyH_take (i := 4) (oi := ⟨some 10, _, _, _, _, _⟩) (v := ?v4_r5) rfl (by kernel_rfl) (by kernel_rfl) (by kernel_rfl) (fun _ _ _ h => h) (Or.inl ⟨by rfl, ?hy4_r5⟩) (by assumption) ?rest4_r5; (case hy4_r5 => ((intro w hSw); (try dsimp only at hSw); go_simp; first | done | (with_reducible rfl))))
  (try simp only [Act.put, List.setIfInBounds_toArray, List.set_cons_zero, List.set_cons_succ])
  (refine wpAnyH_take (i := 5) (oi := ⟨some 11, _, _, _, _, _⟩) (v := ?v5_r6) rfl (by kernel_rfl) (by kernel_rfl) (by kernel_rfl) (fun _ _ _ h => h) (Or.inl ⟨by rfl, ?hy5_r6⟩) (by assumption) ?rest5_r6; (case hy5_r6 => ((intro w hSw); (try dsimp only at hSw); go_simp; first | done | (with_reducible rfl))))
  (try simp only [Act.put, List.setIfInBounds_toArray, List.set_cons_zero, List.set_cons_succ])
  (refine wpAnyH_take (i := 6) (oi := ⟨some 12, _, _, _, _, _⟩) (v := ?v6_r7) rfl (by kernel_rfl) (by kernel_rfl) (by kernel_rfl) (fun _ _ _ h => h) (Or.inl ⟨by rfl, ?hy6_r7⟩) (by assumption) ?rest6_r7; (case hy6_r7 => ((intro w hSw); (try dsimp only at hSw); go_simp; first | done | (with_reducible rfl))))
  (try simp only [Act.put, List.setIfInBounds_toArray, List.set_cons_zero, List.set_cons_succ])
  refine wpAnyH_ready (rs := [7]) (by kernel_rfl) (by simp) ?_
  refine AllReadyH.cons (o := ⟨some 13, _, _, _, _, _⟩) rfl (fun K hK => ?_) (AllReadyH.nil)
  go_simp
  (go_at_call 136; (with_reducible refine (CAT.out _).mono ?_); rintro e w_1 ⟨rfl, rfl⟩)
  refine hK.out _ _ ?_ (fun hHeld => ?_)
  · (try dsimp only)
    exact KS.out _ ((B0.out.alloc B0.out.size _).alloc (Nat.le_trans B0.out.size (by simp)) _)
  clear hK K
  (try simp only [Act.put, List.setIfInBounds_toArray, List.set_cons_zero, List.set_cons_succ])
  refine wpAnyH_done (by kernel_rfl) ?_ _
  refine NoPanic.normal ?_
  obtain ⟨W0, hW0⟩ : ∃ X, X = (wd.alloc (.cells #[.int .i64 l0, .int .i64 n0, .int .i64 (K0 : Nat), .int .i64 s0, .int .i64 p0, .int .i64 d0] 84)).alloc (.cells #[.int .i64 Pr] 3) := ⟨_, rfl⟩
  obtain ⟨D0, hD0⟩ : ∃ d, d = wd.heap.size := ⟨_, rfl⟩
  go_wp2
  rw [← hW0, ← hD0]
  have E0 : Hid (W0.heap.size = D0 + 2 ∧ w1.heap.size ≤ D0) := Lib.hid (by rw [hW0, hD0, World.size_alloc, World.size_alloc]; exact ⟨rfl, B0.out.size⟩)
  have G0 : Hid (Below w1.heap.size w1 W0) := Lib.hid (by rw [hW0]; exact (B0.out.alloc B0.out.size _).alloc (Nat.le_trans B0.out.size (by simp)) _)
  have X1 : Hid (Blk W0 D0 84 #[.int .i64 l0, .int .i64 n0, .int .i64 (K0 : Nat), .int .i64 s0, .int .i64 p0, .int .i64 d0]) := Lib.hid (by rw [hW0, hD0]; exact (Blk.new wd _ _).alloc _)
  have X2 : Hid (Blk W0 (D0 + 1) 3 #[.int .i64 Pr]) := Lib.hid (by rw [hW0, hD0]; exact blk_new1 wd _ _ _)
  have I0 : Hid (Wi BW BP W.heap.size #[v, .int .i64 CT, .int .i64 TP, .int .i64 WD, .int .i64 l0, .int .i64 n0, .int .i64 (K0 : Nat), .int .i64 s0, .int .i64 p0, .int .i64 d0, .int .i64 l1, .int .i64 n1, .int .i64 (K1 : Nat), .int .i64 s1, .int .i64 p1, .int .i64 d1] Pl (.func (.yield l) #[] #[]) W0) := Lib.hid ⟨I1.out.1.below G0.out I1.out.1.lt, I1.out.2.1.below G0.out I1.out.2.1.lt, I1.out.2.2.below G0.out I1.out.2.2.lt⟩
  have BW0 : Hid (Below W.heap.size W W0) := Lib.hid (B1.out.trans (G0.out.mono B1.out.size))
  have J0 : Hid (J [] W0) := Lib.hid (own_below hJ h0 BW0.out)
  have HSZ : Hid (W.heap.size ≤ W0.heap.size) := Lib.hid BW0.out.size
  clear hW0 hD0 hHd hwd B0 KS CAT I1 G0 HW1 B1 h0 hW hlW
  refine (wpIn_wide (n := n)).1 ?_
  refine wpIn_rangeFunc_ownH (F := Fence.wide) (n := n) rfl (by omega) (gf := 153) (lb := #[.pointer (some ⟨D0, 0, none⟩), .pointer (some ⟨D0 + 1, 0, none⟩)]) rfl trivial (enters_of Try.func153 (by kernel_rfl) rfl)
    (at_stops Fence.wide (n - 1) trivial rfl (by omega) D0 (D0 + 1) K0 l0 s0 p0 d0 n0 Pr HB0.out.2.2.1 HB0.out.2.2.2.1 HB0.out.2.2.2.2 HPB.out.1 HB0.out.2.1.2 W0 X1.out X2.out)
    Kp2.trans (Kp2.put (by have := E0.out; omega) (by have := E0.out; omega)) (Below.refl _ _) (fun _ => rfl)
    (fun pre X => J (mall (l0, n0, (K0 : Nat), s0, p0, d0) (l1, n1, (K1 : Nat), s1, p1, d1) Pr Pc pre) X ∧ Wi BW BP W.heap.size #[v, .int .i64 CT, .int .i64 TP, .int .i64 WD, .int .i64 l0, .int .i64 n0, .int .i64 (K0 : Nat), .int .i64 s0, .int .i64 p0, .int .i64 d0, .int .i64 l1, .int .i64 n1, .int .i64 (K1 : Nat), .int .i64 s1, .int .i64 p1, .int .i64 d1] Pl (.func (.yield l) #[] #[]) X ∧ (Blk X D0 84 #[.int .i64 l0, .int .i64 n0, .int .i64 (K0 : Nat), .int .i64 s0, .int .i64 p0, .int .i64 d0] ∧ Blk X (D0 + 1) 3 #[.int .i64 Pr]) ∧ W0.heap.size ≤ X.heap.size)
    (fun c _ X => c = .ret ∧ ∃ pre, Jx pre X)
    ?ownI ?ownX ⟨J0.out, I0.out, ⟨X1.out, X2.out⟩, Nat.le_refl _⟩
    (fun x a' X => ∃ Bx, W0.heap.size ≤ Bx ∧ Blk X Bx 191 #[.int .i64 (tpp s0 p0 d0 Pr x.1), .int .i64 (x.1 : Nat), .bool (tpw l0 s0 p0 d0 Pr x.1)] ∧ a' = { tmps := #[Value.func (Fn.yield l) #[] #[], Value.pointer (some { block := BW, off := 0 }), Value.pointer (some { block := BP, off := 0 }), Value.pointer (some { block := W.heap.size, off := 0 }), Value.pointer (some { block := Bx, off := 0 }), undef, Value.pointer (some { block := BW, off := 4 }), Value.agg #[Value.int IntKind.i64 l0, Value.int IntKind.i64 n0, Value.int IntKind.i64 ↑K0, Value.int IntKind.i64 s0, Value.int IntKind.i64 p0, Value.int IntKind.i64 d0], Value.int IntKind.i64 Pl, Value.pointer (some { block := BW, off := 10 }), Value.pointer (some { block := BW, off := 11 }), Value.int IntKind.i64 n1, Value.int IntKind.i64 Pr, Value.func (Fn.func 153) #[] #[Value.pointer (some { block := D0, off := 0 }), Value.pointer (some { block := D0 + 1, off := 0 })], Value.agg #[Value.int IntKind.i64 (tpp s0 p0 d0 Pr x.1), Value.int IntKind.i64 (x.1 : Nat), Value.bool (tpw l0 s0 p0 d0 Pr x.1)], undef, undef, undef, undef, undef, undef, undef, undef, undef, undef, undef, undef, undef, undef, undef, undef, undef, undef, undef, undef, undef, undef, undef, undef, undef, undef, undef, undef, undef, undef, undef, undef, undef, undef, undef, undef], defers := [] })
    ?ownA ?assign ?body ?done ?stop
  case ownI =>
    rintro s X Y row ⟨a1, a2, a3, a4⟩ hg hr
    have hc : ∀ r, row = some r → ∃ o : Obj, X.heap[r]? = some o ∧ o.isCells = false := fun r e => (hr r e).2
    exact ⟨hJ _ X Y row a1 hg (fun r e => ⟨Nat.le_trans HSZ.out (hr r e).1, (hr r e).2⟩), wi_own (β := Unit) _ _ _ _ _ _ () X Y row a2 hg hc, ⟨blk_own (β := Unit) _ _ (fun _ => _) () X Y row a3.1 hg hc, blk_own (β := Unit) _ _ (fun _ => _) () X Y row a3.2 hg hc⟩, Nat.le_trans a4 hg.size⟩
  case ownX =>
    rintro c s X Y row ⟨a1, pr, a2⟩ hg hr
    exact ⟨a1, pr, hJx _ X Y row a2 hg (fun r e => ⟨Nat.le_trans HSZ.out (hr r e).1, (hr r e).2⟩)⟩
  case ownA => exact fun x a' _ X Y row hs hg hr => by obtain ⟨Bx, h1, h2, h3⟩ := hs; exact ⟨Bx, h1, blk_own (β := Unit) _ _ (fun _ => _) () X Y row h2 hg (fun r e => (hr r e).2), h3⟩
  case assign =>
    rintro l2 pre x X K ⟨a1, a2, a3, a4⟩ hK
    unfold ptp
    have e0 := E0.out
    have q : Below X.heap.size X (X.alloc (.cells #[.int .i64 (tpp s0 p0 d0 Pr x.1), .int .i64 (x.1 : Nat), .bool (tpw l0 s0 p0 d0 Pr x.1)] 191)) := (Below.refl _ _).alloc (Nat.le_refl _) _
    have QQ := Lib.hid (And.intro e0 q)
    clear e0 q
    gi_wp2
    have e0 := QQ.out.1
    have q := QQ.out.2
    exact hK _ _ (keeps_below _ q) ⟨q.block _ (by omega), q.block _ (by omega)⟩ ⟨own_below hJ a1 q, wi_kw a2 (KW.below q), ⟨a3.1.below q a3.1.lt, a3.2.below q a3.2.lt⟩, Nat.le_trans a4 q.size⟩ ⟨X.heap.size, a4, Blk.new X _ _, rfl⟩
  case body =>
    rintro l2 pre x a' X hl ⟨r, hr⟩ ⟨a1, a2, a3, a4⟩ ⟨Bx, hBx, bX, rfl⟩ hlt
    obtain ⟨y0, y1, y2, _⟩ := blk3 bX
    by_cases hin : tpw l0 s0 p0 d0 Pr x.1 = true
    · have HIN : Hid (lin (l0, n0, (K0 : Nat), s0, p0, d0) Pr x.1 = true) := Lib.hid hin
      rw [hin] at y2 bX
      clear hin
      have KS2 : Hid (∀ Y : World, Below X.heap.size X Y → Blk Y BW 86 #[v, .int .i64 CT, .int .i64 TP, .int .i64 WD, .int .i64 l0, .int .i64 n0, .int .i64 (K0 : Nat), .int .i64 s0, .int .i64 p0, .int .i64 d0, .int .i64 l1, .int .i64 n1, .int .i64 (K1 : Nat), .int .i64 s1, .int .i64 p1, .int .i64 d1] ∧ Y.cell? ⟨BW, 11, none⟩ = some (.int .i64 n1) ∧ Y.cell? ⟨BP, 0, none⟩ = some (.int .i64 Pl)) := Lib.hid (fun Y hY' => ⟨a2.1.below hY' a2.1.lt, (a2.1.below hY' a2.1.lt).cell 11, (a2.2.1.below hY' a2.2.1.lt).cell 0⟩)
      have B02 : Hid (Below X.heap.size X X.drew) := Lib.hid (below_drw (Below.refl _ _) 1)
      have HX := Lib.hid (And.intro a1 (And.intro a2 (And.intro a3 (And.intro a4 (And.intro hBx (And.intro bX hlt))))))
      clear a1 a2 a3 a4 hBx bX hlt
      gi_wp2
      refine' region_inG (S := fun Y => Blk Y BW 86 #[v, .int .i64 CT, .int .i64 TP, .int .i64 WD, .int .i64 l0, .int .i64 n0, .int .i64 (K0 : Nat), .int .i64 s0, .int .i64 p0, .int .i64 d0, .int .i64 l1, .int .i64 n1, .int .i64 (K1 : Nat), .int .i64 s1, .int .i64 p1, .int .i64 d1] ∧ Y.cell? ⟨BW, 11, none⟩ = some (.int .i64 n1) ∧ Y.cell? ⟨BP, 0, none⟩ = some (.int .i64 Pl)) (X := (X.drew.alloc (.cells #[.int .i64 l1, .int .i64 n1, .int .i64 (K1 : Nat), .int .i64 s1, .int .i64 p1, .int .i64 d1] 84)).alloc (.cells #[.int .i64 Pc] 3)) (by kernel_rfl) (by kernel_rfl) ?sA (fun hHeld => ?rA) ?qA
      case sA => exact KS2.out _ B02.out
      case rA =>
        simp only [List.size_toArray, List.length_cons, List.length_nil, Nat.reduceAdd, Array.replicate_succ, Array.replicate_zero, List.push_toArray, List.nil_append, List.cons_append]
        (refine wpAnyH_take (i := 0) (oi := ⟨some 18, _, _, _, _, _⟩) (v := ?v0_s1) rfl (by kernel_rfl) (by kernel_rfl) (by kernel_rfl) (fun _ _ _ h => by cases h.1) (Or.inl ⟨by rfl, ?hy0_s1⟩) (by assumption) ?rest0_s1; (case hy0_s1 => ((intro w hSw); (try dsimp only at hSw); go_simp; first | done | (with_reducible rfl))))
        (try simp only [Act.put, List.setIfInBounds_toArray, List.set_cons_zero, List.set_cons_succ])
        (refine wpAnyH_take (i := 1) (oi := ⟨some 19, _, _, _, _, _⟩) (v := .agg #[.int .i64 l1, .int .i64 n1, .int .i64 (K1 : Nat), .int .i64 s1, .int .i64 p1, .int .i64 d1]) rfl (by kernel_rfl) (by kernel_rfl) (by kernel_rfl) (fun _ _ _ h => by cases h.1) (yieldsIf_load_mid (by rfl) 84 _ rfl BW 10 rfl [.int .i64 l1, .int .i64 n1, .int .i64 (K1 : Nat), .int .i64 s1, .int .i64 p1, .int .i64 d1] _ (fun w h => range_of h.1 rfl) Try.underlying84 rfl (by kernel_rfl)) (by assumption) ?_)
        (try simp only [Act.put, List.setIfInBounds_toArray, List.set_cons_zero, List.set_cons_succ])
        (refine wpAnyH_take (i := 2) (oi := ⟨some 20, _, _, _, _, _⟩) (v := ?v2_s3) rfl (by kernel_rfl) (by kernel_rfl) (by kernel_rfl) (fun _ _ _ h => by cases h.1) (Or.inl ⟨by rfl, ?hy2_s3⟩) (by assumption) ?rest2_s3; (case hy2_s3 => ((intro w hSw); (try dsimp only at hSw); go_simp; first | done | (with_reducible rfl))))
        (try simp only [Act.put, List.setIfInBounds_toArray, List.set_cons_zero, List.set_cons_succ])
        (refine wpAnyH_take (i := 3) (oi := ⟨some 21, _, _, _, _, _⟩) (v := ?v3_s4) rfl (by kernel_rfl) (by kernel_rfl) (by kernel_rfl) (fun _ _ _ h => by cases h.1) (Or.inl ⟨by rfl, ?hy3_s4⟩) (by assumption) ?rest3_s4; (case hy3_s4 => ((intro w hSw); (try dsimp only at hSw); go_simp; first | done | (with_reducible rfl))))
        (try simp only [Act.put, List.setIfInBounds_toArray, List.set_cons_zero, List.set_cons_succ])
        (refine wpAnyH_take (i := 4) (oi := ⟨some 22, _, _, _, _, _⟩) (v := ?v4_s5) rfl (by kernel_rfl) (by kernel_rfl) (by kernel_rfl) (fun _ _ _ h => by cases h.1) (Or.inl ⟨by rfl, ?hy4_s5⟩) (by assumption) ?rest4_s5; (case hy4_s5 => ((intro w hSw); (try dsimp only at hSw); go_simp; first | done | (with_reducible rfl))))
        (try simp only [Act.put, List.setIfInBounds_toArray, List.set_cons_zero, List.set_cons_succ])
        (refine wpAnyH_take (i := 5) (oi := ⟨some 23, _, _, _, _, _⟩) (v := ?v5_s6) rfl (by kernel_rfl) (by kernel_rfl) (by kernel_rfl) (fun _ _ _ h => by cases h.1) (Or.inl ⟨by rfl, ?hy5_s6⟩) (by assumption) ?rest5_s6; (case hy5_s6 => ((intro w hSw); (try dsimp only at hSw); go_simp; first | done | (with_reducible rfl))))
        (try simp only [Act.put, List.setIfInBounds_toArray, List.set_cons_zero, List.set_cons_succ])
        (refine wpAnyH_take (i := 6) (oi := ⟨some 24, _, _, _, _, _⟩) (v := ?v6_s7) rfl (by kernel_rfl) (by kernel_rfl) (by kernel_rfl) (fun _ _ _ h => by cases h.1) (Or.inl ⟨by rfl, ?hy6_s7⟩) (by assumption) ?rest6_s7; (case hy6_s7 => ((intro w hSw); (try dsimp only at hSw); go_simp; first | done | (with_reducible rfl))))
        (try simp only [Act.put, List.setIfInBounds_toArray, List.set_cons_zero, List.set_cons_succ])
        refine wpAnyH_ready (rs := [7]) (by kernel_rfl) (by simp) ?_
        refine AllReadyH.cons (o := ⟨some 25, _, _, _, _, _⟩) rfl (fun K hK => ?_) (AllReadyH.nil)
        go_simp
        (go_at_call 136; (with_reducible refine (CAU.out _).mono ?_); rintro e w_1 ⟨rfl, rfl⟩)
        refine hK.out _ _ ?_ (fun hHeld => ?_)
        · (try dsimp only)
          exact KS2.out _ ((B02.out.alloc B02.out.size _).alloc (Nat.le_trans B02.out.size (by simp)) _)
        clear hK K
        (try simp only [List.setIfInBounds_toArray, List.set_cons_zero, List.set_cons_succ])
        refine wpAnyH_done (by kernel_rfl) ?_ _
        exact ⟨rfl, rfl, rfl⟩
      case qA =>
        clear y0 y1 y2
        gi_wp2
        obtain ⟨V0, hV0⟩ : ∃ V, V = (X.drew.alloc (.cells #[.int .i64 l1, .int .i64 n1, .int .i64 (K1 : Nat), .int .i64 s1, .int .i64 p1, .int .i64 d1] 84)).alloc (.cells #[.int .i64 Pc] 3) := ⟨_, rfl⟩
        obtain ⟨D1, hD1⟩ : ∃ d, d = X.drew.heap.size := ⟨_, rfl⟩
        rw [← hV0, ← hD1]
        have E1 : Hid (V0.heap.size = D1 + 2 ∧ D1 = X.heap.size) := Lib.hid (by rw [hV0, hD1, World.size_alloc, World.size_alloc]; exact ⟨rfl, rfl⟩)
        have KV : Hid (Below X.heap.size X V0) := Lib.hid (by rw [hV0]; exact (B02.out.alloc B02.out.size _).alloc (Nat.le_trans B02.out.size (by simp)) _)
        have Y1 : Hid (Blk V0 D1 84 #[.int .i64 l1, .int .i64 n1, .int .i64 (K1 : Nat), .int .i64 s1, .int .i64 p1, .int .i64 d1]) := Lib.hid (by rw [hV0, hD1]; exact (Blk.new X.drew _ _).alloc _)
        have Y2 : Hid (Blk V0 (D1 + 1) 3 #[.int .i64 Pc]) := Lib.hid (by rw [hV0, hD1]; exact blk_new1 X.drew _ _ _)
        clear hV0 hD1 B02 KS2 CAU
        have hr' : V0.heap[l2]? = some (.loop r) := (KV.out.block l2 (Array.getElem?_eq_some_iff.1 hr).1).trans hr
        have HS2 : Hid (W.heap.size ≤ W0.heap.size ∧ W0.heap.size ≤ X.heap.size ∧ X.heap.size ≤ V0.heap.size) := Lib.hid ⟨HSZ.out, HX.out.2.2.2.1, KV.out.size⟩
        refine wpIn_rangeFunc_ownN (l₀ := l2) (r₀ := r) rfl hr' (by omega) (gf := 153) (lb := #[.pointer (some ⟨D1, 0, none⟩), .pointer (some ⟨D1 + 1, 0, none⟩)]) rfl trivial (enters_of Try.func153 (by kernel_rfl) rfl)
          ((at_stops Fence.wide (n - 1 - 1 - 1) trivial rfl (by omega) D1 (D1 + 1) K1 l1 s1 p1 d1 n1 Pc HB1.out.2.2.1 HB1.out.2.2.2.1 HB1.out.2.2.2.2 HPB.out.2 HB1.out.2.1.2 V0 Y1.out Y2.out).inRound l2)
          Kp2.trans (Kp2.put (by have := E1.out; omega) (by have := E1.out; omega)) (Below.refl _ _) (fun _ => rfl)
          (fun pre2 Y => (J (mall (l0, n0, (K0 : Nat), s0, p0, d0) (l1, n1, (K1 : Nat), s1, p1, d1) Pr Pc pre ++ mrow (l0, n0, (K0 : Nat), s0, p0, d0) (l1, n1, (K1 : Nat), s1, p1, d1) Pr Pc x pre2) Y ∧ Wi BW BP W.heap.size #[v, .int .i64 CT, .int .i64 TP, .int .i64 WD, .int .i64 l0, .int .i64 n0, .int .i64 (K0 : Nat), .int .i64 s0, .int .i64 p0, .int .i64 d0, .int .i64 l1, .int .i64 n1, .int .i64 (K1 : Nat), .int .i64 s1, .int .i64 p1, .int .i64 d1] Pl (.func (.yield l) #[] #[]) Y) ∧ (Blk Y Bx 191 #[.int .i64 (tpp s0 p0 d0 Pr x.1), .int .i64 (x.1 : Nat), .bool true] ∧ Blk Y D1 84 #[.int .i64 l1, .int .i64 n1, .int .i64 (K1 : Nat), .int .i64 s1, .int .i64 p1, .int .i64 d1] ∧ Blk Y (D1 + 1) 3 #[.int .i64 Pc]) ∧ (Blk Y D0 84 #[.int .i64 l0, .int .i64 n0, .int .i64 (K0 : Nat), .int .i64 s0, .int .i64 p0, .int .i64 d0] ∧ Blk Y (D0 + 1) 3 #[.int .i64 Pr]) ∧ KeepsFrom W0.heap.size X Y ∧ V0.heap.size ≤ Y.heap.size)
          (fun c _ Y => (c = .ret ∧ ∃ pr, Jx pr Y) ∧ KeepsFrom W0.heap.size X Y)
          ?ownI2 ?ownX2 ?i2
          (fun y a'' Y => ∃ Bz, V0.heap.size ≤ Bz ∧ Blk Y Bz 191 #[.int .i64 (tpp s1 p1 d1 Pc y.1), .int .i64 (y.1 : Nat), .bool (tpw l1 s1 p1 d1 Pc y.1)] ∧ a'' = { tmps := #[Value.func (Fn.yield l) #[] #[], Value.pointer (some { block := BW, off := 0 }), Value.pointer (some { block := BP, off := 0 }), Value.pointer (some { block := W.heap.size, off := 0 }), Value.pointer (some { block := Bx, off := 0 }), Value.pointer (some { block := Bz, off := 0 }), Value.pointer (some { block := BW, off := 4 }), Value.agg #[Value.int IntKind.i64 l0, Value.int IntKind.i64 n0, Value.int IntKind.i64 ↑K0, Value.int IntKind.i64 s0, Value.int IntKind.i64 p0, Value.int IntKind.i64 d0], Value.int IntKind.i64 Pl, Value.pointer (some { block := BW, off := 10 }), Value.pointer (some { block := BW, off := 11 }), Value.int IntKind.i64 n1, Value.int IntKind.i64 Pr, Value.func (Fn.func 153) #[] #[Value.pointer (some { block := D0, off := 0 }), Value.pointer (some { block := D0 + 1, off := 0 })], Value.agg #[Value.int IntKind.i64 (tpp s0 p0 d0 Pr ↑x), Value.int IntKind.i64 (x.1 : Nat), Value.bool (tpw l0 s0 p0 d0 Pr ↑x)], Value.pointer (some { block := Bx, off := 2 }), Value.bool true, Value.bool false, Value.pointer (some { block := BW, off := 10 }), Value.agg #[Value.int IntKind.i64 l1, Value.int IntKind.i64 n1, Value.int IntKind.i64 ↑K1, Value.int IntKind.i64 s1, Value.int IntKind.i64 p1, Value.int IntKind.i64 d1], Value.int IntKind.i64 Pl, Value.pointer (some { block := BW, off := 10 }), Value.pointer (some { block := BW, off := 11 }), Value.int IntKind.i64 n1, Value.int IntKind.i64 Pc, Value.func (Fn.func 153) #[] #[Value.pointer (some { block := D1, off := 0 }), Value.pointer (some { block := D1 + 1, off := 0 })], Value.agg #[Value.int IntKind.i64 (tpp s1 p1 d1 Pc y.1), Value.int IntKind.i64 (y.1 : Nat), Value.bool (tpw l1 s1 p1 d1 Pc y.1)], undef, undef, undef, undef, undef, undef, undef, undef, undef, undef, undef, undef, undef, undef, undef, undef, undef, undef, undef, undef, undef, undef, undef, undef], defers := [] })
          ?ownA2 ?assign2 ?body2 ?done2 ?stop2
        case ownI2 =>
          rintro s Y Z row ⟨⟨c1, c2⟩, ⟨c3, c4, c5⟩, ⟨c6, c7⟩, c8, c9⟩ hg hr3
          have hc : ∀ r, row = some r → ∃ o : Obj, Y.heap[r]? = some o ∧ o.isCells = false := fun r e => (hr3 r e).2
          have z := HS2.out
          exact ⟨⟨hJ _ Y Z row c1 hg (fun r e => ⟨Nat.le_trans (by omega) (hr3 r e).1, (hr3 r e).2⟩), wi_own (β := Unit) _ _ _ _ _ _ () Y Z row c2 hg hc⟩, ⟨blk_own (β := Unit) _ _ (fun _ => _) () Y Z row c3 hg hc, blk_own (β := Unit) _ _ (fun _ => _) () Y Z row c4 hg hc, blk_own (β := Unit) _ _ (fun _ => _) () Y Z row c5 hg hc⟩, ⟨blk_own (β := Unit) _ _ (fun _ => _) () Y Z row c6 hg hc, blk_own (β := Unit) _ _ (fun _ => _) () Y Z row c7 hg hc⟩, ownFrom_keepsFrom (β := Unit) z.2.2 () Y Z row c8 hg hr3, Nat.le_trans c9 hg.size⟩
        case ownX2 =>
          rintro c s Y Z row ⟨⟨e, pr, c1⟩, c8⟩ hg hr3
          have z := HS2.out
          exact ⟨⟨e, pr, hJx _ Y Z row c1 hg (fun r e => ⟨Nat.le_trans (by omega) (hr3 r e).1, (hr3 r e).2⟩)⟩, ownFrom_keepsFrom (β := Unit) z.2.2 () Y Z row c8 hg hr3⟩
        case i2 =>
          obtain ⟨a1, a2, a3, a4, a5, a6, _⟩ := HX.out
          have q := KV.out
          refine ⟨⟨?_, wi_kw a2 (KW.below q)⟩, ⟨a6.below q a6.lt, Y1.out, Y2.out⟩, ⟨a3.1.below q a3.1.lt, a3.2.below q a3.2.lt⟩, keeps_below _ q, Nat.le_refl _⟩
          rw [show mrow (l0, n0, (K0 : Nat), s0, p0, d0) (l1, n1, (K1 : Nat), s1, p1, d1) Pr Pc x ([] : List (Fin K1)) = [] from rfl, List.append_nil]
          exact own_below hJ a1 q
        case ownA2 => exact fun x a' _ Y Z row hs hg hr3 => by obtain ⟨Bz, h1, h2, h3⟩ := hs; exact ⟨Bz, h1, blk_own (β := Unit) _ _ (fun _ => _) () Y Z row h2 hg (fun r e => (hr3 r e).2), h3⟩
        case assign2 =>
          rintro l3 pre2 y Y K ⟨⟨c1, c2⟩, ⟨c3, c4, c5⟩, ⟨c6, c7⟩, c8, c9⟩ hK
          unfold ptp
          have q : Below Y.heap.size Y (Y.alloc (.cells #[.int .i64 (tpp s1 p1 d1 Pc y.1), .int .i64 (y.1 : Nat), .bool (tpw l1 s1 p1 d1 Pc y.1)] 191)) := (Below.refl _ _).alloc (Nat.le_refl _) _
          have QQ := Lib.hid q
          clear q
          gi_wp2
          have q := QQ.out
          have z := HS2.out
          exact hK _ _ (keeps_below _ q) ⟨q.block _ c4.lt, q.block _ c5.lt⟩ ⟨⟨own_below hJ c1 q, wi_kw c2 (KW.below q)⟩, ⟨c3.below q c3.lt, c4.below q c4.lt, c5.below q c5.lt⟩, ⟨c6.below q c6.lt, c7.below q c7.lt⟩, c8.trans (keeps_below _ q), Nat.le_trans c9 q.size⟩ ⟨Y.heap.size, c9, Blk.new Y _ _, rfl⟩
        case body2 =>
          rintro l3 pre2 y a'' Y hl3 _ ⟨⟨c1, c2⟩, ⟨c3, c4, c5⟩, ⟨c6, c7⟩, c8, c9⟩ ⟨Bz, hBz, bZ, rfl⟩ hlt2
          obtain ⟨z0, z1, z2, _⟩ := blk3 bZ
          by_cases hin : tpw l1 s1 p1 d1 Pc y.1 = true
          · have HIN2 : Hid (lin (l1, n1, (K1 : Nat), s1, p1, d1) Pc y.1 = true) := Lib.hid hin
            have hy0 := hY (mall (l0, n0, (K0 : Nat), s0, p0, d0) (l1, n1, (K1 : Nat), s1, p1, d1) Pr Pc pre ++ mrow (l0, n0, (K0 : Nat), s0, p0, d0) (l1, n1, (K1 : Nat), s1, p1, d1) Pr Pc x pre2) ⟨(x, y), ⟨HIN.out, HIN2.out⟩⟩ Y c1 (told_lt HX.out.2.2.2.2.2.2 hlt2) trivial
            rw [hin] at z2
            clear hin
            obtain ⟨y0, y1, y2, _⟩ := blk3 c3
            have u0 : Y.cell? ⟨BW, 10, none⟩ = some (.int .i64 l1) := c2.1.cell 10
            have u1 : Y.cell? ⟨BW, 12, none⟩ = some (.int .i64 (K1 : Nat)) := c2.1.cell 12
            have u2 : Y.cell? ⟨W.heap.size, 0, none⟩ = some (.func (.yield l) #[] #[]) := c2.2.2.cell 0
            have g1 := lin_bd HIN.out
            have g2 := lin_bd HIN2.out
            obtain ⟨q1, q2, q3, q4, f1, f2, f3, f4, HF⟩ := meet_facts (l := l1) (k := (K1 : Nat)) (rp := tpp s0 p0 d0 Pr x.1) (cp := tpp s1 p1 d1 Pc y.1) (n := x.1) (m := y.1) HB1.out.1 (by have := HB1.out.2.1; omega) (by have := HB0.out.1; unfold lat at g1; simp only at g1; omega) (by have := HB1.out.1; unfold lat at g2; simp only at g2; omega) (by have := HB0.out.2.1; omega) (by have := HB1.out.2.1; omega)
            have hpt : mpq (⟨(x, y), ⟨HIN.out, HIN2.out⟩⟩ : Mt (l0, n0, (K0 : Nat), s0, p0, d0) (l1, n1, (K1 : Nat), s1, p1, d1) Pr Pc K0 K1) = #[.int .i64 q2, .int .i64 q4] := by
              unfold mpq mwd mtp lat; rw [HF.out.1, HF.out.2]
            rw [hpt] at hy0
            obtain ⟨fn, tmps, assign, body, hy, hR⟩ := hy0
            have HR := Lib.hid hR
            have HI := Lib.hid (And.intro c1 (And.intro c2 (And.intro c3 (And.intro c4 (And.intro c5 (And.intro c6 (And.intro c7 (And.intro c8 c9))))))))
            generalize tpp s0 p0 d0 Pr x.1 = rp at *
            generalize tpp s1 p1 d1 Pc y.1 = cp at *
            clear hR hpt g1 g2 c1 c2 c3 c4 c5 c6 c7 c8 c9 HF
            gi_wp2
            refine ⟨(fun h => by cases h), (oround_any2 HR.out).mono ?_⟩
            rintro e W3 ⟨hkf, (⟨rfl, hJ3, hk3⟩ | ⟨rfl, hJx3⟩)⟩
            · have F3 : Hid (KeepsFrom V0.heap.size Y W3 ∧ Kp2 D1 (D1 + 1) Y W3 ∧ (J (mall (l0, n0, (K0 : Nat), s0, p0, d0) (l1, n1, (K1 : Nat), s1, p1, d1) Pr Pc pre ++ mrow (l0, n0, (K0 : Nat), s0, p0, d0) (l1, n1, (K1 : Nat), s1, p1, d1) Pr Pc x (pre2 ++ [y])) W3 ∧ Wi BW BP W.heap.size #[v, .int .i64 CT, .int .i64 TP, .int .i64 WD, .int .i64 l0, .int .i64 n0, .int .i64 (K0 : Nat), .int .i64 s0, .int .i64 p0, .int .i64 d0, .int .i64 l1, .int .i64 n1, .int .i64 (K1 : Nat), .int .i64 s1, .int .i64 p1, .int .i64 d1] Pl (.func (.yield l) #[] #[]) W3) ∧ (Blk W3 Bx 191 #[.int .i64 rp, .int .i64 (x.1 : Nat), .bool true] ∧ Blk W3 D1 84 #[.int .i64 l1, .int .i64 n1, .int .i64 (K1 : Nat), .int .i64 s1, .int .i64 p1, .int .i64 d1] ∧ Blk W3 (D1 + 1) 3 #[.int .i64 Pc]) ∧ (Blk W3 D0 84 #[.int .i64 l0, .int .i64 n0, .int .i64 (K0 : Nat), .int .i64 s0, .int .i64 p0, .int .i64 d0] ∧ Blk W3 (D0 + 1) 3 #[.int .i64 Pr]) ∧ KeepsFrom W0.heap.size X W3 ∧ V0.heap.size ≤ W3.heap.size) := by
                obtain ⟨c1, c2, c3, c4, c5, c6, c7, c8, c9⟩ := HI.out
                have z := HS2.out
                have hn : mall (l0, n0, (K0 : Nat), s0, p0, d0) (l1, n1, (K1 : Nat), s1, p1, d1) Pr Pc pre ++ mrow (l0, n0, (K0 : Nat), s0, p0, d0) (l1, n1, (K1 : Nat), s1, p1, d1) Pr Pc x (pre2 ++ [y]) = mall (l0, n0, (K0 : Nat), s0, p0, d0) (l1, n1, (K1 : Nat), s1, p1, d1) Pr Pc pre ++ mrow (l0, n0, (K0 : Nat), s0, p0, d0) (l1, n1, (K1 : Nat), s1, p1, d1) Pr Pc x pre2 ++ [⟨(x, y), ⟨HIN.out, HIN2.out⟩⟩] := by rw [mrow_snoc, mone_yes HIN.out HIN2.out, List.append_assoc]
                rw [hn]
                exact Lib.hid ⟨keeps_up hkf (by omega), hk3.kp2 c4 c5, ⟨hJ3, wi_kw c2 hk3⟩, ⟨hk3.blk c3 (.inr (.inr (.inr (.inl rfl)))), hk3.blk c4 (.inr (.inl rfl)), hk3.blk c5 (.inl rfl)⟩, ⟨hk3.blk c6 (.inr (.inl rfl)), hk3.blk c7 (.inl rfl)⟩, c8.trans (keeps_up hkf (by omega)), Nat.le_trans c9 hkf.size⟩
              clear hkf hJ3 hk3
              gi_wp2
              exact F3.out
            · have F3 : Hid (KeepsFrom V0.heap.size Y W3 ∧ (∃ pr, Jx pr W3) ∧ KeepsFrom W0.heap.size X W3) := by
                obtain ⟨c1, c2, c3, c4, c5, c6, c7, c8, c9⟩ := HI.out
                have z := HS2.out
                exact Lib.hid ⟨keeps_up hkf (by omega), ⟨_, hJx3⟩, c8.trans (keeps_up hkf (by omega))⟩
              clear hkf hJx3
              gi_wp2
              exact ⟨F3.out.1, ⟨rfl, F3.out.2.1⟩, F3.out.2.2⟩
          · have hin' : tpw l1 s1 p1 d1 Pc y.1 = false := by simpa using hin
            have HIN2 : Hid (lin (l1, n1, (K1 : Nat), s1, p1, d1) Pc y.1 = false) := Lib.hid hin'
            rw [hin'] at z2
            clear hin hin'
            have HI := Lib.hid (And.intro c1 (And.intro c2 (And.intro c3 (And.intro c4 (And.intro c5 (And.intro c6 (And.intro c7 (And.intro c8 c9))))))))
            clear c1 c2 c3 c4 c5 c6 c7 c8 c9
            gi_wp2
            have hn : mrow (l0, n0, (K0 : Nat), s0, p0, d0) (l1, n1, (K1 : Nat), s1, p1, d1) Pr Pc x (pre2 ++ [y]) = mrow (l0, n0, (K0 : Nat), s0, p0, d0) (l1, n1, (K1 : Nat), s1, p1, d1) Pr Pc x pre2 := by rw [mrow_snoc, mone_no HIN2.out, List.append_nil]
            obtain ⟨c1, c2, c3, c4, c5, c6, c7, c8, c9⟩ := HI.out
            refine ⟨KeepsFrom.refl _ _, Kp2.refl _ _ _, ⟨?_, c2⟩, ⟨c3, c4, c5⟩, ⟨c6, c7⟩, c8, c9⟩
            rw [hn]
            exact c1
        case done2 =>
          rintro ys Y hys ⟨⟨c1, c2⟩, ⟨c3, c4, c5⟩, ⟨c6, c7⟩, c8, c9⟩
          subst hys
          have z := HS2.out
          have hn := mall_snoc (R := (l0, n0, (K0 : Nat), s0, p0, d0)) (C := (l1, n1, (K1 : Nat), s1, p1, d1)) (Pr := Pr) (Pc := Pc) (K1 := K1) pre x
          rw [← hn] at c1
          have HI := Lib.hid (And.intro c1 (And.intro c2 (And.intro c6 (And.intro c7 (And.intro c8 (Nat.le_trans (Nat.le_trans z.2.1 z.2.2) c9))))))
          have HKp : Hid (Kp2 D0 (D0 + 1) X Y) := Lib.hid ⟨c6.trans HX.out.2.2.1.1.symm, c7.trans HX.out.2.2.1.2.symm⟩
          clear c1 c2 c3 c4 c5 c6 c7 c8 c9 hn z
          gi_wp2
          obtain ⟨c1, c2, c6, c7, c8, c9⟩ := HI.out
          exact ⟨c8, HKp.out, c1, c2, ⟨c6, c7⟩, c9⟩
        case stop2 =>
          rintro c pr Y _ ⟨⟨rfl, pr', c1⟩, c8⟩
          have HI := Lib.hid (And.intro c1 c8)
          clear c1 c8
          gi_wp2
          exact ⟨HI.out.2, rfl, pr', HI.out.1⟩
    · have hin' : tpw l0 s0 p0 d0 Pr x.1 = false := by simpa using hin
      have HIN : Hid (lin (l0, n0, (K0 : Nat), s0, p0, d0) Pr x.1 = false) := Lib.hid hin'
      rw [hin'] at y2
      clear hin hin'
      gi_wp2
      have hn : mall (l0, n0, (K0 : Nat), s0, p0, d0) (l1, n1, (K1 : Nat), s1, p1, d1) Pr Pc (K1 := K1) (pre ++ [x]) = mall (l0, n0, (K0 : Nat), s0, p0, d0) (l1, n1, (K1 : Nat), s1, p1, d1) Pr Pc pre := by rw [mall_snoc, mrow_no HIN.out, List.append_nil]
      refine ⟨KeepsFrom.refl _ _, Kp2.refl _ _ _, ?_, a2, a3, a4⟩
      rw [hn]
      exact a1
  case done =>
    rintro D ys X hD hys ⟨a1, _⟩ hK
    subst hys
    have hf := hJ.putObj (.deferred none) a1 (Nat.le_trans HSZ.out hD) hK rfl
    go_wp2
    refine ⟨by simp, .inl ⟨_, _, rfl, run_takeDeferred hK, ?_⟩⟩
    refine ⟨_, results_none rfl _ _ _, ⟨_, rfl⟩, .inl ⟨_, rfl, hf⟩⟩
  case stop =>
    rintro D cd pre X hD _ ⟨rfl, pr, a1⟩ hK
    have hf := hJx.putObj (.deferred none) a1 (Nat.le_trans HSZ.out hD) hK rfl
    gi_wp2
    go_wp2
    refine ⟨by simp, .inl ⟨_, _, rfl, run_takeDeferred hK, ?_⟩⟩
    refine ⟨_, results_none rfl _ _ _, ⟨_, rfl⟩, .inr ⟨pr, trivial, hf⟩⟩
end Go.Proofs.Ytnlfljekbknaaaa
namespace Go.Proofs.Ytnlfljekbknaaaa
open Go Go.RowKit Go.Shelf
attribute [local go_sem] Oper.semAt_some

theorem ldc {w : World} {v : Value} {ls : List Int} (h : Ld w v ls) (h0 : 0 < ls.length) : ∃ b f c, v = .slice (some ⟨b, f, none⟩) ls.length c ∧ b < w.heap.size ∧ ∀ i, i < ls.length → w.cell? ⟨b, f + i, none⟩ = some (.int .i64 (ls.getD i 0)) := by
  obtain ⟨o, c, rfl, _, hx⟩ := h
  obtain ⟨b, f, rfl, h1, _⟩ := hx 0 h0
  refine ⟨b, f, c, rfl, h1, fun i hi => ?_⟩
  obtain ⟨b', f', e, _, hc⟩ := hx i hi
  simp only [Option.some.injEq, Addr.mk.injEq, and_true] at e
  obtain ⟨rfl, rfl⟩ := e
  exact hc
/-- A window, and where there is none. -/
def Wnv (v : Value) (C T S : Int) (r k : Int × Int × Int × Int × Int × Int) : Value := .agg #[v, .int .i64 C, .int .i64 T, .int .i64 S, .int .i64 r.1, .int .i64 r.2.1, .int .i64 r.2.2.1, .int .i64 r.2.2.2.1, .int .i64 r.2.2.2.2.1, .int .i64 r.2.2.2.2.2, .int .i64 k.1, .int .i64 k.2.1, .int .i64 k.2.2.1, .int .i64 k.2.2.2.1, .int .i64 k.2.2.2.2.1, .int .i64 k.2.2.2.2.2]
def SomeWn (w : World) (P : List Int) (C T S : Int) (R K : Int × Int × Int × Int × Int × Int) (e : Ending) (w' : World) : Prop := ∃ o c, e = .returned (.tuple #[Wnv (.slice o P.length c) C T S R K, .int .i64 0]) ∧ w'.ownsRow w.heap.size 3 1 (.slice o P.length c) P.length (ints P) ∧ Below w.heap.size w w'
def NoW (w : World) (e : Ending) (w' : World) : Prop := e = .returned (.tuple #[Wnv (.slice none 0 0) 0 0 0 (0, 0, 0, 0, 0, 0) (0, 0, 0, 0, 0, 0), .int .i64 2]) ∧ Below w.heap.size w w'
theorem blk_drw {W : World} {b : Nat} {t : TypeId} {cs : Array Value} (h : Blk W b t cs) : Blk W.drew b t cs := h
theorem own_drw {W : World} {base n : Nat} {e : TypeId} {v : Value} {xs : List Value} (h : W.ownsRow base e 1 v n xs) : W.drew.ownsRow base e 1 v n xs := h
theorem mul_small {a b : Int} (ha : 0 ≤ a ∧ a ≤ 12288) (hb : 0 ≤ b ∧ b ≤ 12288) : wrap64 (a * b) = a * b := by
  have h1 := Int.mul_le_mul ha.2 hb.2 hb.1 (by decide)
  have h2 := Int.mul_nonneg ha.1 hb.1
  generalize a * b = c at *
  exact IntWalk.wrap64_in _ (by omega)
theorem put3 {w W : World} {b m base n : Nat} {t : TypeId} {us : Value} {xs : List Value} {c0 c1 c2 c3 c4 c5 c6 c7 c8 c9 c10 c11 c12 c13 c14 c15 : Value} (h : Blk W b t #[c0, c1, c2, c3, c4, c5, c6, c7, c8, c9, c10, c11, c12, c13, c14, c15]) (hb : Below m w W) (hm : m ≤ b) (hu : W.ownsRow base 3 1 us n xs) (ht : 3 ≠ t) (v1 v2 v3 : Value) :
    Blk ((((W.setCell ⟨b, 1, none⟩ v1).setCell ⟨b, 2, none⟩ v2).setCell ⟨b, 3, none⟩ v3)).drew b t #[c0, v1, v2, v3, c4, c5, c6, c7, c8, c9, c10, c11, c12, c13, c14, c15] ∧ Below m w ((((W.setCell ⟨b, 1, none⟩ v1).setCell ⟨b, 2, none⟩ v2).setCell ⟨b, 3, none⟩ v3)).drew ∧ World.ownsRow ((((W.setCell ⟨b, 1, none⟩ v1).setCell ⟨b, 2, none⟩ v2).setCell ⟨b, 3, none⟩ v3)).drew base 3 1 us n xs := by
  have h1 : Blk (W.setCell ⟨b, 1, none⟩ v1) b t #[c0, v1, c2, c3, c4, c5, c6, c7, c8, c9, c10, c11, c12, c13, c14, c15] := h.set_ 1 v1
  have u1 : World.ownsRow (W.setCell ⟨b, 1, none⟩ v1) base 3 1 us n xs := own_setx hu h ht
  have b1 : Below m w (W.setCell ⟨b, 1, none⟩ v1) := hb.setCell (p := ⟨b, 1, none⟩) hm v1
  have h2 : Blk ((W.setCell ⟨b, 1, none⟩ v1).setCell ⟨b, 2, none⟩ v2) b t #[c0, v1, v2, c3, c4, c5, c6, c7, c8, c9, c10, c11, c12, c13, c14, c15] := h1.set_ 2 v2
  have u2 : World.ownsRow ((W.setCell ⟨b, 1, none⟩ v1).setCell ⟨b, 2, none⟩ v2) base 3 1 us n xs := own_setx u1 h1 ht
  have b2 : Below m w ((W.setCell ⟨b, 1, none⟩ v1).setCell ⟨b, 2, none⟩ v2) := b1.setCell (p := ⟨b, 2, none⟩) hm v2
  have h3 : Blk (((W.setCell ⟨b, 1, none⟩ v1).setCell ⟨b, 2, none⟩ v2).setCell ⟨b, 3, none⟩ v3) b t #[c0, v1, v2, v3, c4, c5, c6, c7, c8, c9, c10, c11, c12, c13, c14, c15] := h2.set_ 3 v3
  have u3 : World.ownsRow (((W.setCell ⟨b, 1, none⟩ v1).setCell ⟨b, 2, none⟩ v2).setCell ⟨b, 3, none⟩ v3) base 3 1 us n xs := own_setx u2 h2 ht
  have b3 : Below m w (((W.setCell ⟨b, 1, none⟩ v1).setCell ⟨b, 2, none⟩ v2).setCell ⟨b, 3, none⟩ v3) := b2.setCell (p := ⟨b, 3, none⟩) hm v3
  exact ⟨blk_drw h3, below_drw b3 1, own_drw u3⟩
end Go.Proofs.Ytnlfljekbknaaaa
namespace Go.Proofs.Ytnlfljekbknaaaa
open Go Go.RowKit Go.Shelf
attribute [local go_sem] Oper.semAt_some
set_option maxRecDepth 100000 in
set_option maxHeartbeats 4000000 in
theorem wwithin_any (v : Value) (C T S : Int) (r k : Int × Int × Int × Int × Int × Int) (P : Int) (w : World) : Calls Try.prog 98 #[Wnv v C T S r k, .int .i64 P] w fun e w' =>
    e = .returned (.func (.func 135) #[] #[.pointer (some ⟨w.heap.size, 0, none⟩), .pointer (some ⟨w.heap.size + 1, 0, none⟩)]) ∧ w' = (w.alloc (.cells #[v, .int .i64 C, .int .i64 T, .int .i64 S, .int .i64 r.1, .int .i64 r.2.1, .int .i64 r.2.2.1, .int .i64 r.2.2.2.1, .int .i64 r.2.2.2.2.1, .int .i64 r.2.2.2.2.2, .int .i64 k.1, .int .i64 k.2.1, .int .i64 k.2.2.1, .int .i64 k.2.2.2.1, .int .i64 k.2.2.2.2.1, .int .i64 k.2.2.2.2.2] 86)).alloc (.cells #[.int .i64 P] 3) := by
  unfold Wnv
  go_enter Try.func98, Try.ntmps98
  go_wp2
  go_ret
  exact ⟨rfl, rfl⟩
/-- The cells of a list of meetings. -/
def mcells {R C : Ln} {Pr Pc : Int} {K0 K1 : Nat} (l : List (Mt R C Pr Pc K0 K1)) : List Value := l.flatMap (fun x => [.int .i64 (mwd x), .int .i64 (mtp x)])
theorem mcells_snoc {R C : Ln} {Pr Pc : Int} {K0 K1 : Nat} (l : List (Mt R C Pr Pc K0 K1)) (x : Mt R C Pr Pc K0 K1) : mcells (l ++ [x]) = mcells l ++ [.int .i64 (mwd x), .int .i64 (mtp x)] := by simp [mcells]
/-- All that lies lies on, but for the rows of meetings from B on. -/
def FM (B : Nat) (X Y : World) : Prop := Y.os = X.os ∧ Y.tape = X.tape ∧ Y.output = X.output ∧ X.heap.size ≤ Y.heap.size ∧ ∀ k o, X.heap[k]? = some o → (k < B ∨ ∀ cs r, o ≠ .cells cs 150 r) → Y.heap[k]? = some o
theorem FM.trans {B : Nat} {X Y Z : World} (h : FM B X Y) (k : FM B Y Z) : FM B X Z := ⟨k.1.trans h.1, k.2.1.trans h.2.1, k.2.2.1.trans h.2.2.1, Nat.le_trans h.2.2.2.1 k.2.2.2.1, fun i o e c => k.2.2.2.2 i o (h.2.2.2.2 i o e c) c⟩
theorem FM.below {B : Nat} {X Y : World} (h : Below X.heap.size X Y) : FM B X Y := ⟨h.os, h.tape, h.output, h.size, fun k _o e _ => (h.block k (Array.getElem?_eq_some_iff.1 e).1).trans e⟩
theorem FM.blk {B b : Nat} {X Y : World} {t : TypeId} {cs : Array Value} (h : FM B X Y) (hb : Blk X b t cs) (ht : ¬ t = 150) : Blk Y b t cs := h.2.2.2.2 b _ hb (.inr (fun _ _ e => by cases e; exact ht rfl))
theorem FM.low {B : Nat} {X Y : World} (h : FM B X Y) (hB : B ≤ X.heap.size) : Below B X Y := by
  refine ⟨h.1, h.2.1, h.2.2.1, h.2.2.2.1, fun k hk => ?_⟩
  obtain ⟨o, ho⟩ : ∃ o, X.heap[k]? = some o := ⟨_, Array.getElem?_eq_getElem (by omega)⟩
  rw [ho]; exact h.2.2.2.2 k o ho (.inl hk)
theorem own_set2 {W : World} {T base n i sz : Nat} {t u : TypeId} {v z : Value} {xs : List Value} {cs : Array Value} (h : W.ownsRow base t sz v n xs) (hb : Blk W T u cs) (hne : ¬ t = u) : (W.setCell ⟨T, i, none⟩ z).ownsRow base t sz v n xs := by
  refine h.kept (grown_set W ⟨T, i, none⟩ z) (.inr ?_)
  intro e
  rcases h.2 with ⟨rfl, _⟩ | ⟨g, cap, cur, rfl, _, h2, _⟩
  · simp [Value.ownBlock] at e
  · simp only [Value.ownBlock, Option.some.injEq] at e
    subst e
    rw [show W.heap[g]? = _ from hb] at h2
    cases h2
    exact hne rfl
/-- One meeting is appended. -/
theorem am_step {w X w9 : World} {base b3 n : Nat} {vc v9 : Value} {xs ys : List Value} {cs0 : Array Value} (B : Nat) (hO : X.ownsRow base 150 2 vc n xs) (hb : Blk X b3 90 #[vc]) (hF : FM base w X) (hw : w.heap.size ≤ b3)
    (hg : (X.alloc (.cells cs0 150)).grownBy w9 vc.ownBlock) (hO9 : w9.ownsRow base 150 2 v9 (n + 1) ys) :
    KeepsFrom B X (w9.setCell ⟨b3, 0, none⟩ v9) ∧ KW X (w9.setCell ⟨b3, 0, none⟩ v9) ∧ Blk (w9.setCell ⟨b3, 0, none⟩ v9) b3 90 #[v9] ∧ (w9.setCell ⟨b3, 0, none⟩ v9).ownsRow base 150 2 v9 (n + 1) ys ∧ FM base w (w9.setCell ⟨b3, 0, none⟩ v9) ∧ X.heap.size ≤ (w9.setCell ⟨b3, 0, none⟩ v9).heap.size := by
  have hsz : X.heap.size ≤ w9.heap.size := Nat.le_trans (by simp) hg.size
  have hown : ∀ g, vc.ownBlock = some g → base ≤ g ∧ ∃ cur, X.heap[g]? = some (.cells cur 150 (0, 0)) := by
    intro g e
    rcases hO.2 with ⟨rfl, _⟩ | ⟨g', cap, cur, rfl, h1, h2, _⟩
    · simp [Value.ownBlock] at e
    · simp only [Value.ownBlock, Option.some.injEq] at e
      subst e; exact ⟨h1, cur, h2⟩
  -- what is no row of meetings lies on
  have step9 : ∀ k o, X.heap[k]? = some o → (k < base ∨ ∀ cs r, o ≠ .cells cs 150 r) → w9.heap[k]? = some o := by
    intro k o e c
    have hl := (Array.getElem?_eq_some_iff.1 e).1
    refine (hg.block k (by simp; omega) (fun e2 => ?_)).trans ((Below.heap_alloc _ _ _ hl).trans e)
    obtain ⟨h1, cur, h2⟩ := hown k e2.symm
    rw [e] at h2; cases h2
    rcases c with c | c
    · omega
    · exact c _ _ rfl
  have hb9 : Blk w9 b3 90 #[vc] := step9 b3 _ hb (.inr (fun _ _ e => by cases e))
  have step : ∀ k o, X.heap[k]? = some o → k ≠ b3 → (k < base ∨ ∀ cs r, o ≠ .cells cs 150 r) → (w9.setCell ⟨b3, 0, none⟩ v9).heap[k]? = some o := fun k o e hk c => (Below.heap_setCell _ _ _ _ hk).trans (step9 k o e c)
  refine ⟨⟨by simpa using hsz, fun k o _ e ho => ?_⟩, ?_, hb9.set_ 0 v9, own_set2 hO9 hb9 (by decide), ⟨?_, ?_, ?_, ?_, ?_⟩, by simpa using hsz⟩
  · refine step k o e (fun e2 => ?_) (.inr (fun cs r e3 => by subst e3; cases ho))
    subst e2; rw [show X.heap[k]? = _ from hb] at e; cases e; cases ho
  · intro k cs t fz e ht
    rw [e]
    refine step k _ e (fun e2 => ?_) (.inr (fun cs r e3 => ?_))
    · subst e2; rw [show X.heap[k]? = _ from hb] at e; cases e
      rcases ht with h | h | h | h | h <;> exact absurd h (by decide)
    · cases e3
      rcases ht with h | h | h | h | h <;> exact absurd h (by decide)
  · exact hg.os.trans hF.1
  · exact hg.tape.trans hF.2.1
  · exact hg.output.trans hF.2.2.1
  · have := hF.2.2.2.1; simp; omega
  · intro k o e c
    have hl := (Array.getElem?_eq_some_iff.1 e).1
    exact step k o (hF.2.2.2.2 k o e c) (by omega) c
end Go.Proofs.Ytnlfljekbknaaaa
namespace Go.Proofs.Ytnlfljekbknaaaa
open Go Go.RowKit Go.Shelf
attribute [local go_sem] Oper.semAt_some
theorem cell_two_new (w : World) (x y : Value) (t : TypeId) : ∀ j u, [x, y][j]? = some u → (w.alloc (.cells #[x, y] t)).cell? ((⟨w.heap.size, 0, none⟩ : Addr).add j) = some u := by
  intro j u h
  have hb := Blk.new w t #[x, y]
  match j, h with
  | 0, h => cases h; exact hb.cell 0
  | 1, h => cases h; exact hb.cell 1
  | k + 2, h => simp at h
theorem own_kept2 {W W' : World} {row : Option Nat} {base n sz : Nat} {e : TypeId} {v : Value} {xs : List Value} (h : W.ownsRow base e sz v n xs) (hg : W.grownBy W' row) (hr : ∀ r, row = some r → ∃ o : Obj, W.heap[r]? = some o ∧ o.isCells = false) : W'.ownsRow base e sz v n xs := by
  refine h.kept hg ?_
  rcases h.2 with ⟨rfl, _⟩ | ⟨g, cap, cur, rfl, _, hh, _⟩
  · exact .inl rfl
  · right
    intro e2
    obtain ⟨o, ho, hc⟩ := hr g e2.symm
    rw [hh] at ho
    cases ho
    cases hc
theorem own_form {W : World} {base n sz : Nat} {e : TypeId} {v : Value} {xs : List Value} (h : W.ownsRow base e sz v n xs) : ∃ o c, v = .slice o n c := by
  rcases h.2 with ⟨rfl, rfl⟩ | ⟨g, cap, cur, rfl, _⟩
  · exact ⟨none, 0, rfl⟩
  · exact ⟨_, _, rfl⟩
theorem FM.grownr {B : Nat} {w X Y : World} {row : Option Nat} (h : FM B w X) (hg : X.grownBy Y row) (hr : ∀ r, row = some r → w.heap.size ≤ r) : FM B w Y := by
  refine ⟨hg.os.trans h.1, hg.tape.trans h.2.1, hg.output.trans h.2.2.1, Nat.le_trans h.2.2.2.1 hg.size, fun k o e c => ?_⟩
  have hl := (Array.getElem?_eq_some_iff.1 e).1
  have e2 := h.2.2.2.2 k o e c
  exact (hg.block k (Array.getElem?_eq_some_iff.1 e2).1 (fun e3 => by have := hr k e3.symm; omega)).trans e2
theorem infoM : (Try.prog.info? 150).map (fun i => (i.zero, i.size, i.bytes)) = some (some (.agg #[.int .i64 0, .int .i64 0]), 2, 16) := by kernel_rfl
set_option maxRecDepth 100000 in
set_option maxHeartbeats 8000000 in
theorem appmeet_any (v0 : Value) (base : Nat) (v : Value) (CT TP WD l0 n0 s0 p0 d0 l1 n1 s1 p1 d1 Pl : Int) (K0 K1 : Nat) (b0 : (1 ≤ l0 ∧ l0 ≤ 4096) ∧ (1 ≤ K0 ∧ K0 ≤ 4096) ∧ (1 ≤ s0 ∧ s0 ≤ 4096) ∧ (0 ≤ p0 ∧ p0 ≤ 4096) ∧ (1 ≤ d0 ∧ d0 ≤ 4096)) (b1 : (1 ≤ l1 ∧ l1 ≤ 4096) ∧ (1 ≤ K1 ∧ K1 ≤ 4096) ∧ (1 ≤ s1 ∧ s1 ≤ 4096) ∧ (0 ≤ p1 ∧ p1 ≤ 4096) ∧ (1 ≤ d1 ∧ d1 ≤ 4096)) (hn1 : 1 ≤ n1) (hPl : 0 ≤ Pl ∧ Pl ≤ 200000000) (hPr : Pl / n1 ≤ 12288) (hPc : Pl % n1 ≤ 12288) (w : World) (hown : w.ownsRow base 150 2 v0 0 []) (hbase : base ≤ w.heap.size) :
    Calls Try.prog 56 #[v0, Wnv v CT TP WD (l0, n0, (K0 : Nat), s0, p0, d0) (l1, n1, (K1 : Nat), s1, p1, d1), .int .i64 Pl] w fun e w' => ∃ v', e = .returned v' ∧ w'.ownsRow base 150 2 v' (mts (l0, n0, (K0 : Nat), s0, p0, d0) (l1, n1, (K1 : Nat), s1, p1, d1) (Pl / n1) (Pl % n1) K0 K1).length (mcells (mts (l0, n0, (K0 : Nat), s0, p0, d0) (l1, n1, (K1 : Nat), s1, p1, d1) (Pl / n1) (Pl % n1) K0 K1)) ∧ FM base w w' := by
  obtain ⟨oA, cA, rfl⟩ := own_form hown
  obtain ⟨i1, hi1, hz0, hz1, hz2⟩ := info_parts infoM
  have KW2 := Lib.hid (fun W : World => wwithin_any v CT TP WD (l0, n0, (K0 : Nat), s0, p0, d0) (l1, n1, (K1 : Nat), s1, p1, d1) Pl W)
  simp only at KW2
  unfold Wnv at KW2 ⊢
  simp only
  obtain ⟨cs, hcs⟩ : ∃ cs : Array Value, cs = #[v, .int .i64 CT, .int .i64 TP, .int .i64 WD, .int .i64 l0, .int .i64 n0, .int .i64 (K0 : Nat), .int .i64 s0, .int .i64 p0, .int .i64 d0, .int .i64 l1, .int .i64 n1, .int .i64 (K1 : Nat), .int .i64 s1, .int .i64 p1, .int .i64 d1] := ⟨_, rfl⟩
  obtain ⟨w2, hw2⟩ : ∃ W, W = (w.alloc (.cells #[.slice oA 0 cA] 90)).alloc (.cells #[v, .int .i64 CT, .int .i64 TP, .int .i64 WD, .int .i64 l0, .int .i64 n0, .int .i64 (K0 : Nat), .int .i64 s0, .int .i64 p0, .int .i64 d0, .int .i64 l1, .int .i64 n1, .int .i64 (K1 : Nat), .int .i64 s1, .int .i64 p1, .int .i64 d1] 86) := ⟨_, rfl⟩
  have B2 : Hid (Below w.heap.size w w2) := Lib.hid (by rw [hw2]; exact ((Below.refl _ _).alloc (Nat.le_refl _) _).alloc (by simp) _)
  have S2 : Hid (w2.heap.size = w.heap.size + 2) := Lib.hid (by rw [hw2]; simp)
  have Q0 : Hid (Blk w2 w.heap.size 90 #[.slice oA 0 cA]) := Lib.hid (by rw [hw2]; exact (Blk.new w _ _).alloc _)
  have Q1 : Hid (Blk w2 (w.heap.size + 1) 86 #[v, .int .i64 CT, .int .i64 TP, .int .i64 WD, .int .i64 l0, .int .i64 n0, .int .i64 (K0 : Nat), .int .i64 s0, .int .i64 p0, .int .i64 d0, .int .i64 l1, .int .i64 n1, .int .i64 (K1 : Nat), .int .i64 s1, .int .i64 p1, .int .i64 d1]) := Lib.hid (by rw [hw2]; exact blk_new1 w _ _ _)
  have O2 : Hid (w2.ownsRow base 150 2 (.slice oA 0 cA) 0 []) := Lib.hid (by rw [hw2]; exact (hown.alloc _).alloc _)
  have HW2 := Lib.hid hw2
  have HBS := Lib.hid hbase
  clear hw2 hown hcs cs hbase
  refine (callsIn_wide (n := 12)).1 ?_
  refine callsIn_of_wp_marks Try.func56 rfl trivial ?_
  simp only [Try.ntmps56, List.size_toArray, List.length_cons, List.length_nil, Nat.reduceAdd, Nat.reduceSub, Array.replicate_succ, Array.replicate_zero, List.push_toArray, List.append_toArray, List.nil_append, List.cons_append]
  refine wpIn_wide.2 ?_
  go_upto_region 1 with fail
  rw [← HW2.out]
  go_wp2_with (first | (refine wpList_load_row rfl 86 (.tmp 4) (by rfl) (w.heap.size + 1) (by rfl) 86 _ (0, 0) _ Q1.out Try.underlying86 rfl (by kernel_rfl) ?_) | (go_at_call 98; (with_reducible refine (KW2.out _).mono ?_); rintro e w3 ⟨rfl, rfl⟩))
  obtain ⟨W3, hW3⟩ : ∃ W, W = (w2.alloc (.cells #[v, .int .i64 CT, .int .i64 TP, .int .i64 WD, .int .i64 l0, .int .i64 n0, .int .i64 (K0 : Nat), .int .i64 s0, .int .i64 p0, .int .i64 d0, .int .i64 l1, .int .i64 n1, .int .i64 (K1 : Nat), .int .i64 s1, .int .i64 p1, .int .i64 d1] 86)).alloc (.cells #[.int .i64 Pl] 3) := ⟨_, rfl⟩
  obtain ⟨D0, hD0⟩ : ∃ d, d = w2.heap.size := ⟨_, rfl⟩
  rw [← hW3, ← hD0]
  have E0 : Hid (W3.heap.size = D0 + 2 ∧ D0 = w.heap.size + 2) := Lib.hid (by rw [hW3, hD0, World.size_alloc, World.size_alloc]; exact ⟨rfl, S2.out⟩)
  have G0 : Hid (Below w2.heap.size w2 W3) := Lib.hid (by rw [hW3]; exact ((Below.refl _ _).alloc (Nat.le_refl _) _).alloc (by simp) _)
  have X1 : Hid (Blk W3 D0 86 #[v, .int .i64 CT, .int .i64 TP, .int .i64 WD, .int .i64 l0, .int .i64 n0, .int .i64 (K0 : Nat), .int .i64 s0, .int .i64 p0, .int .i64 d0, .int .i64 l1, .int .i64 n1, .int .i64 (K1 : Nat), .int .i64 s1, .int .i64 p1, .int .i64 d1]) := Lib.hid (by rw [hW3, hD0]; exact (Blk.new w2 _ _).alloc _)
  have X2 : Hid (Blk W3 (D0 + 1) 3 #[.int .i64 Pl]) := Lib.hid (by rw [hW3, hD0]; exact blk_new1 w2 _ _ _)
  have X3 : Hid (Blk W3 w.heap.size 90 #[.slice oA 0 cA]) := Lib.hid (Q0.out.below G0.out Q0.out.lt)
  have O3 : Hid (W3.ownsRow base 150 2 (.slice oA 0 cA) 0 []) := Lib.hid (by rw [hW3]; exact (O2.out.alloc _).alloc _)
  have F3 : Hid (FM base w W3) := Lib.hid (FM.below (B2.out.trans (G0.out.mono B2.out.size)))
  have HK : Hid (K0 * K1 ≤ 16777216) := Lib.hid (Nat.mul_le_mul b0.2.1.2 b1.2.1.2)
  have TO := Lib.hid (within1_told 11 (by decide) D0 (D0 + 1) v CT TP WD l0 n0 s0 p0 d0 l1 n1 s1 p1 d1 Pl K0 K1 b0 b1 hn1 hPl hPr hPc W3 X1.out X2.out)
  clear hW3 hD0 Q0 Q1 O2 B2 S2 G0 HW2 b0 b1 hn1 hPl hPr hPc KW2
  refine (wpIn_wide (n := 12)).1 ?_
  refine wpIn_rangeFunc_told2 (F := Fence.wide) (n := 12) rfl (by decide) (gf := 135) (lb := #[.pointer (some ⟨D0, 0, none⟩), .pointer (some ⟨D0 + 1, 0, none⟩)]) rfl trivial (enters_of Try.func135 (by kernel_rfl) rfl)
    TO.out KW.trans (fun W l o o' _ hl hc _ => KW.put W l o o' hl hc) (fun _ => rfl)
    (fun pre X => ∃ vc, Blk X w.heap.size 90 #[vc] ∧ X.ownsRow base 150 2 vc pre.length (mcells pre) ∧ FM base w X ∧ W3.heap.size ≤ X.heap.size)
    (fun _ _ _ => False)
    ?ownI ?ownX ?ownT ⟨_, X3.out, O3.out, F3.out, Nat.le_refl _⟩
    (fun x => { tmps := #[Value.slice oA 0 cA, Value.agg #[v, Value.int IntKind.i64 CT, Value.int IntKind.i64 TP, Value.int IntKind.i64 WD, Value.int IntKind.i64 l0, Value.int IntKind.i64 n0, Value.int IntKind.i64 ↑K0, Value.int IntKind.i64 s0, Value.int IntKind.i64 p0, Value.int IntKind.i64 d0, Value.int IntKind.i64 l1, Value.int IntKind.i64 n1, Value.int IntKind.i64 ↑K1, Value.int IntKind.i64 s1, Value.int IntKind.i64 p1, Value.int IntKind.i64 d1], Value.int IntKind.i64 Pl, Value.pointer (some { block := w.heap.size, off := 0 }), Value.pointer (some { block := w.heap.size + 1, off := 0 }), undef, Value.slice none 0 0, Value.int IntKind.i64 (mwd x), Value.int IntKind.i64 (mtp x), Value.agg #[v, Value.int IntKind.i64 CT, Value.int IntKind.i64 TP, Value.int IntKind.i64 WD, Value.int IntKind.i64 l0, Value.int IntKind.i64 n0, Value.int IntKind.i64 ↑K0, Value.int IntKind.i64 s0, Value.int IntKind.i64 p0, Value.int IntKind.i64 d0, Value.int IntKind.i64 l1, Value.int IntKind.i64 n1, Value.int IntKind.i64 ↑K1, Value.int IntKind.i64 s1, Value.int IntKind.i64 p1, Value.int IntKind.i64 d1], Value.int IntKind.i64 Pl, Value.func (Fn.func 135) #[] #[Value.pointer (some { block := D0, off := 0 }), Value.pointer (some { block := D0 + 1, off := 0 })], Value.int IntKind.i64 (mwd x), Value.int IntKind.i64 (mtp x), undef, undef, undef, undef, undef, undef, undef], defers := [] })
    ?assign ?body ?done ?stop
  case ownI =>
    rintro s X Y row ⟨vc, a1, a2, a3, a4⟩ hg hr
    have hc : ∀ r, row = some r → ∃ o : Obj, X.heap[r]? = some o ∧ o.isCells = false := fun r e => (hr r e).2
    exact ⟨vc, blk_own (β := Unit) _ _ (fun _ => _) () X Y row a1 hg hc, own_kept2 a2 hg hc, a3.grownr hg (fun r e => by have := (hr r e).1; have := E0.out; omega), Nat.le_trans a4 hg.size⟩
  case ownX => exact fun _ _ _ _ _ h _ _ => h
  case ownT => exact fun _ _ _ _ _ _ h _ _ => h
  case assign =>
    intro l x X K hK
    unfold mpq
    gi_wp2
    exact hK
  case body =>
    rintro l pre x X ⟨vc, a1, a2, a3, a4⟩ hlt _
    have c0 := a1.cell 0
    have f0 := a1.frozen 0
    have hlen : pre.length + 1 ≤ 16777216 := by have := HK.out; omega
    have HA := Lib.hid (And.intro a1 (And.intro a2 (And.intro a3 a4)))
    have HE : Hid (w.heap.size < X.heap.size ∧ ¬ X.heap.size = w.heap.size) := Lib.hid ⟨a1.lt, by have := a1.lt; omega⟩
    have HN : Hid (pre.length + 1 ≤ maxLen ∧ (pre.length + 1) * 16 ≤ 140737488355328 ∧ base ≤ X.heap.size + 1) := Lib.hid ⟨by unfold maxLen; omega, by omega, by have := HBS.out; have := a1.lt; omega⟩
    clear a1 a2 a3 a4 hlt hlen
    gi_wp2_with (gi_at_builtin; refine wpListIn_append_own _ rfl _ _ 90 rfl base 150 i1 (.agg #[.int .i64 0, .int .i64 0]) 2 16 Try.underlying90 hi1 hz0 hz1 hz2 rfl (by decide) vc pre.length (mcells pre) rfl (HA.out.2.1.alloc _) ⟨X.heap.size, 0, none⟩ 1 1 [.int .i64 (mwd x), .int .i64 (mtp x)] rfl rfl (cell_two_new _ _ _ _) (by simp [Value.oneCell']) HN.out.1 HN.out.2.1 (by simp; exact HN.out.2.2) ?_; intro v9 w9 hown hgrow _; obtain ⟨o9, q9, rfl⟩ := own_form hown; have ST := Lib.hid (am_step W3.heap.size HA.out.2.1 HA.out.1 HA.out.2.2.1 (Nat.le_refl _) hgrow hown); have q0 := (HA.out.1.alloc _).kept hgrow (fun e => by rcases HA.out.2.1.2 with ⟨rfl, _⟩ | ⟨g, cap, cur, rfl, _, hh, _⟩ <;> simp [Value.ownBlock] at e; subst e; rw [show X.heap[w.heap.size]? = _ from HA.out.1] at hh; cases hh); have q1 := q0.cell 0; have q2 := q0.frozen 0; clear q0 hown hgrow)
    refine ⟨ST.out.1, ST.out.2.1, _, ST.out.2.2.1, ?_, ST.out.2.2.2.2.1, Nat.le_trans HA.out.2.2.2 ST.out.2.2.2.2.2⟩
    rw [mcells_snoc, List.length_append]
    exact ST.out.2.2.2.1
  case done =>
    rintro D ys X hD rfl ⟨vc, a1, a2, a3, a4⟩ hK
    have c0 := a1.cell 0
    have hc : ∀ r, some D = some r → ∃ o : Obj, X.heap[r]? = some o ∧ o.isCells = false := fun r e => by cases e; exact ⟨_, hK, rfl⟩
    have e1 := own_kept2 a2 (grownBy_putObj' X D (.deferred none)) hc
    have e2 := a3.grownr (grownBy_putObj' X D (.deferred none)) (fun r e => by cases e; have := E0.out; omega)
    have HE := Lib.hid (And.intro e1 (And.intro e2 hK))
    clear a1 a2 a3 a4 hc e1 e2 hK
    go_wp2
    refine ⟨by simp, .inl ⟨_, _, rfl, run_takeDeferred HE.out.2.2, ?_⟩⟩
    exact ⟨_, results_tmp rfl _ _ _, vc, rfl, HE.out.1, HE.out.2.1⟩
  case stop => exact fun _ _ _ _ _ _ h => h.elim
end Go.Proofs.Ytnlfljekbknaaaa
