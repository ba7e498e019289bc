/-
  shape.Strides where it refuses; shape.At.
-/
import Derived.Test.YteplhlmdaabpaaaSc
import Derived.RegionIn
import Derived.BigRegionIn
namespace Go.Proofs.Yteplhlmdaabpaaa
open Go.RowKit Go.Shelf
attribute [local go_sem] Oper.semAt_some

set_option maxRecDepth 100000 in
set_option maxHeartbeats 2000000 in
theorem strides_no (v : Value) (ls : List Int) (w : World) (h : Ld w v ls) (hm : may ls = false) :
    Calls Try.prog 11 #[v] w fun e w' => e = .returned (.tuple #[.slice none 0 0, .int .i64 1]) ∧ w = w' := by
  have CK := Lib.hid (check_no v ls w h hm)
  clear h hm
  go_enter Try.func11, Try.ntmps11
  go_wp2_with (go_at_call 21; (with_reducible refine CK.out.mono ?_); rintro e w' ⟨rfl, rfl⟩)
  go_ret2
  exact ⟨rfl, rfl⟩

def ixf (ls : List Int) (n : Int) (pre : List (Fin ls.length)) : List Int × Int := pre.foldl (fun p x => (p.1.set x.1 (p.2 % ls.getD x.1 0), p.2 / ls.getD x.1 0)) (List.replicate ls.length 0, n)
theorem ixf_snoc (ls : List Int) (n : Int) (pre : List (Fin ls.length)) (x : Fin ls.length) : ixf ls n (pre ++ [x]) = ((ixf ls n pre).1.set x.1 ((ixf ls n pre).2 % ls.getD x.1 0), (ixf ls n pre).2 / ls.getD x.1 0) := by simp [ixf]
theorem ixf_len (ls : List Int) (n : Int) (pre : List (Fin ls.length)) : (ixf ls n pre).1.length = ls.length := by
  have : ∀ (pre : List (Fin ls.length)) (p : List Int × Int), p.1.length = ls.length → (pre.foldl (fun p x => (p.1.set x.1 (p.2 % ls.getD x.1 0), p.2 / ls.getD x.1 0)) p).1.length = ls.length := by
    intro pre
    induction pre with
    | nil => intro p h; exact h
    | cons x pre ih => intro p h; exact ih _ (by simpa using h)
  exact this pre _ (by simp)
theorem quo_bd {p d : Int} (h : 0 ≤ p ∧ p ≤ 65536) (hd : 1 ≤ d) : 0 ≤ p / d ∧ p / d ≤ 65536 := by
  refine ⟨Int.ediv_nonneg h.1 (by omega), ?_⟩
  have := Int.ediv_le_self d h.1
  omega
theorem ixf_bd {ls : List Int} (hp : pos ls) {n : Int} (h0 : 0 ≤ n ∧ n ≤ 65536) (pre : List (Fin ls.length)) : 0 ≤ (ixf ls n pre).2 ∧ (ixf ls n pre).2 ≤ 65536 := by
  have : ∀ (pre : List (Fin ls.length)) (p : List Int × Int), 0 ≤ p.2 ∧ p.2 ≤ 65536 → 0 ≤ (pre.foldl (fun p x => (p.1.set x.1 (p.2 % ls.getD x.1 0), p.2 / ls.getD x.1 0)) p).2 ∧ (pre.foldl (fun p x => (p.1.set x.1 (p.2 % ls.getD x.1 0), p.2 / ls.getD x.1 0)) p).2 ≤ 65536 := by
    intro pre
    induction pre with
    | nil => intro p h; exact h
    | cons x pre ih => intro p h; exact ih _ (quo_bd h (hp _ (getD_mem x.2)))
  exact this pre _ h0
theorem ixf_end {ls : List Int} (hp : pos ls) {n : Int} (h0 : 0 ≤ n) (h1 : n < prod ls) : (ixf ls n (bk ls.length)).1 = atl ls n := by
  have : ∀ (j : Nat) (hj : j ≤ ls.length) (p : List Int × Int), p.1.length = ls.length → p.2 = n / prod (ls.drop j) → (∀ i, j ≤ i → i < ls.length → p.1.getD i 0 = n / prod (ls.drop (i + 1)) % ls.getD i 0) →
      ∀ i, i < ls.length → ((rs j hj).foldl (fun p x => (p.1.set x.1 (p.2 % ls.getD x.1 0), p.2 / ls.getD x.1 0)) p).1.getD i 0 = n / prod (ls.drop (i + 1)) % ls.getD i 0 := by
    intro j
    induction j with
    | zero => intro hj p h1 h2 h3 i hi; exact h3 i (Nat.zero_le _) hi
    | succ j ih =>
      intro hj p h1 h2 h3 i hi
      simp only [rs, List.foldl_cons]
      refine ih (by omega) _ (by simpa using h1) ?_ ?_ i hi
      · simp only [h2]
        rw [prod_drop (show j < ls.length by omega), Int.ediv_ediv_of_nonneg (by have := prod_pos (pos_drop hp (j + 1)); omega), Int.mul_comm]
      · intro k k1 k2
        simp only
        by_cases e : j = k
        · subst e; rw [set_getD_self (by omega), h2]
        · rw [set_getD_ne e]; exact h3 k (by omega) k2
  refine ext_getD (by rw [ixf_len, atl_len]) fun k hk => ?_
  rw [ixf_len] at hk
  rw [atl_getD ls n k hp h0 h1 hk]
  exact this ls.length (Nat.le_refl _) (List.replicate ls.length 0, n) (by simp) (by simp [prod]) (fun i h1 h2 => by omega) k hk

set_option maxRecDepth 100000 in
set_option maxHeartbeats 4000000 in
theorem index_any (v : Value) (ls : List Int) (n : Int) (w : World) (h : Ld w v ls) (hm : may ls = true) (h0 : 0 ≤ n) (h1 : n < prod ls) :
    Calls Try.prog 33 #[v, .int .i64 n] w fun e w' => e = .returned (.slice (some ⟨w.heap.size + 1, 0, none⟩) ls.length ls.length) ∧ Blk w' (w.heap.size + 1) 3 (ints (atl ls n)).toArray ∧ Below w.heap.size w w' := by
  obtain ⟨i0, hi0, hz0, hz1, hz2⟩ := info_parts infoI
  obtain ⟨o, c, rfl, _, hx⟩ := h
  have HX := Lib.hid hx
  have hl := may_len hm
  have hpos := may_pos hm
  have hpr := may_prod hm
  have HE := Lib.hid (ixf_end hpos h0 h1)
  have HB := Lib.hid (ixf_bd hpos (n := n) (by omega))
  have HP0 := Lib.hid hpos
  clear hx hm hpos hpr
  have mk : (Instr.makeSlice 23 (.int .i64 (ls.length : Int)) (.int .i64 (ls.length : Int))).run Try.prog (w.alloc (.cells #[.int .i64 n] 3)) = .ok (.slice (some ⟨w.heap.size + 1, 0, none⟩) ls.length ls.length) ((w.alloc (.cells #[.int .i64 n] 3)).alloc (.cells (madeCells #[.int .i64 0] ls.length) 3)) := by
    have := run_make (w := w.alloc (.cells #[.int .i64 n] 3)) 23 3 i0 (.int .i64 0) Try.underlying23 hi0 hz0 .i64 .i64 ls.length ls.length (by omega) (by omega) (by rw [hz2]; omega) (by omega)
    rw [this, hz1]; simp [Value.cells]
  rw [made_ints] at mk
  refine (callsIn_wide (n := 9)).1 ?_
  refine callsIn_of_wp_marks Try.func33 rfl trivial ?_
  simp only [Try.ntmps33, List.size_toArray, List.length_cons, List.length_nil, Nat.reduceAdd, Nat.reduceSub, Array.replicate_succ, Array.replicate_zero, List.push_toArray, List.append_toArray, List.nil_append, List.cons_append]
  refine wpIn_wide.2 ?_
  go_wp2_with (go_at_call 32; (with_reducible refine (backs_any _ _ _ _).mono ?_); rintro e w3 ⟨rfl, rfl⟩)
  have b1 : Boxed ((((w.alloc (Obj.cells #[Value.int IntKind.i64 n] 3)).alloc (Obj.cells (ints (List.replicate ls.length 0)).toArray 3)).alloc (Obj.cells #[Value.slice (some ⟨w.heap.size + 1, 0, none⟩) ls.length ls.length] 23)).alloc (Obj.cells #[Value.slice o ls.length c] 23)) w.heap.size 3 (.int .i64 n) := (((Boxed.new w 3 (.int .i64 n)).alloc (Obj.cells (ints (List.replicate ls.length 0)).toArray 3)).alloc (Obj.cells #[Value.slice (some ⟨w.heap.size + 1, 0, none⟩) ls.length ls.length] 23)).alloc (Obj.cells #[Value.slice o ls.length c] 23)
  have b0 : Blk ((((w.alloc (Obj.cells #[Value.int IntKind.i64 n] 3)).alloc (Obj.cells (ints (List.replicate ls.length 0)).toArray 3)).alloc (Obj.cells #[Value.slice (some ⟨w.heap.size + 1, 0, none⟩) ls.length ls.length] 23)).alloc (Obj.cells #[Value.slice o ls.length c] 23)) (w.heap.size + 1) 3 (ints (List.replicate ls.length 0)).toArray := by
    have := ((Blk.new (w.alloc (Obj.cells #[Value.int IntKind.i64 n] 3)) 3 (ints (List.replicate ls.length 0)).toArray).alloc (Obj.cells #[Value.slice (some ⟨w.heap.size + 1, 0, none⟩) ls.length ls.length] 23)).alloc (Obj.cells #[Value.slice o ls.length c] 23)
    rwa [World.size_alloc] at this
  have b2 : Boxed ((((w.alloc (Obj.cells #[Value.int IntKind.i64 n] 3)).alloc (Obj.cells (ints (List.replicate ls.length 0)).toArray 3)).alloc (Obj.cells #[Value.slice (some ⟨w.heap.size + 1, 0, none⟩) ls.length ls.length] 23)).alloc (Obj.cells #[Value.slice o ls.length c] 23)) (w.heap.size + 2) 23 (.slice (some ⟨w.heap.size + 1, 0, none⟩) ls.length ls.length) := by
    have := (Boxed.new ((w.alloc (Obj.cells #[Value.int IntKind.i64 n] 3)).alloc (Obj.cells (ints (List.replicate ls.length 0)).toArray 3)) 23 (.slice (some ⟨w.heap.size + 1, 0, none⟩) ls.length ls.length)).alloc (Obj.cells #[Value.slice o ls.length c] 23)
    rwa [World.size_alloc, World.size_alloc] at this
  have b3 : Boxed ((((w.alloc (Obj.cells #[Value.int IntKind.i64 n] 3)).alloc (Obj.cells (ints (List.replicate ls.length 0)).toArray 3)).alloc (Obj.cells #[Value.slice (some ⟨w.heap.size + 1, 0, none⟩) ls.length ls.length] 23)).alloc (Obj.cells #[Value.slice o ls.length c] 23)) (w.heap.size + 3) 23 (.slice o ls.length c) := by
    have := Boxed.new (((w.alloc (Obj.cells #[Value.int IntKind.i64 n] 3)).alloc (Obj.cells (ints (List.replicate ls.length 0)).toArray 3)).alloc (Obj.cells #[Value.slice (some ⟨w.heap.size + 1, 0, none⟩) ls.length ls.length] 23)) 23 (.slice o ls.length c)
    rwa [World.size_alloc, World.size_alloc, World.size_alloc] at this
  have bB : Below w.heap.size w ((((w.alloc (Obj.cells #[Value.int IntKind.i64 n] 3)).alloc (Obj.cells (ints (List.replicate ls.length 0)).toArray 3)).alloc (Obj.cells #[Value.slice (some ⟨w.heap.size + 1, 0, none⟩) ls.length ls.length] 23)).alloc (Obj.cells #[Value.slice o ls.length c] 23)) :=
    ((((Below.refl _ _).alloc (Nat.le_refl _) _).alloc (by simp) _).alloc (by simp; omega) _).alloc (by simp; omega) _
  have bS : w.heap.size + 4 = ((((w.alloc (Obj.cells #[Value.int IntKind.i64 n] 3)).alloc (Obj.cells (ints (List.replicate ls.length 0)).toArray 3)).alloc (Obj.cells #[Value.slice (some ⟨w.heap.size + 1, 0, none⟩) ls.length ls.length] 23)).alloc (Obj.cells #[Value.slice o ls.length c] 23)).heap.size := by simp
  generalize (((w.alloc (Obj.cells #[Value.int IntKind.i64 n] 3)).alloc (Obj.cells (ints (List.replicate ls.length 0)).toArray 3)).alloc (Obj.cells #[Value.slice (some ⟨w.heap.size + 1, 0, none⟩) ls.length ls.length] 23)).alloc (Obj.cells #[Value.slice o ls.length c] 23) = w3 at *
  refine (wpIn_wide (n := 9)).1 ?_
  refine wpIn_rangeFunc_ownG (F := Fence.wide) (n := 9) rfl (by decide) (gf := 40) (lb := #[.pointer (some ⟨w.heap.size + 1 + 1 + 1, 0, none⟩)]) rfl trivial (enters_of Try.func40 (by kernel_rfl) rfl)
    (back_stops Fence.wide 8 trivial rfl (by decide) (w.heap.size + 1 + 1 + 1) w.heap.size o c ls (by omega) w3 (by omega) (by omega) b3.cell (fun i hi => by
      obtain ⟨b, f, e, hb, hc⟩ := HX.out i hi
      exact ⟨b, f, e, hb, (bB.cell (p := ⟨b, f + i, none⟩) hb).trans hc⟩)) KeepB.trans (KeepB.put (by omega) (by omega)) (Below.refl _ _) (fun _ => rfl)
    (fun pre W => Boxed W (w.heap.size + 2) 23 (.slice (some ⟨w.heap.size + 1, 0, none⟩) ls.length ls.length) ∧ Boxed W w.heap.size 3 (.int .i64 (ixf ls n pre).2) ∧ Blk W (w.heap.size + 1) 3 (ints (ixf ls n pre).1).toArray ∧ Below w.heap.size w W)
    (fun _ _ _ => False)
    (OwnFrom.and (Own.from (boxed_own _ _ (fun _ => _)) _) (OwnFrom.and (Own.from (boxed_own _ _ (fun pre => .int .i64 (ixf ls n pre).2)) _) (OwnFrom.and (Own.from (blk_own _ _ (fun pre => (ints (ixf ls n pre).1).toArray)) _) (ownFrom_below (Nat.le_refl _) (by omega)))))
    (fun _ _ _ _ _ hs _ _ => hs)
    ⟨b2, b1, b0, bB⟩ ?a1 ?assign ?body ?done ?stop
  case assign =>
    intro l x W K hK
    unfold pr
    gi_wp2
    exact hK
  case stop =>
    rintro D c pre W _ _ h _
    exact h.elim
  case body =>
    rintro l pre x W ⟨g1, g2, g3, g4⟩ hlt
    have SN0 := ixf_snoc ls n pre x
    have hL := ixf_len ls n pre
    have hb := HB.out pre
    obtain ⟨j, hj⟩ := x
    have ed : ls.getD j 0 = ls[j] := by simp [List.getD, List.getElem?_eq_getElem hj]
    have d1 : 1 ≤ ls[j] := HP0.out _ (List.getElem_mem hj)
    simp only [ed] at SN0
    have SN := Lib.hid SN0
    clear SN0 ed
    have c1 := g1.cell
    have c2 := g2.cell
    have f2 := g2.frozen
    have c3 := g3.cell j
    rw [ints_at (by omega)] at c3
    have f3 := g3.frozen j
    have hBs := g4.size
    generalize hP : ixf ls n pre = P at *
    have HP := Lib.hid (And.intro hP hL)
    clear hP hL
    generalize P.1.getD j 0 = y at *
    obtain ⟨p0, p1⟩ := hb
    have dz : ¬ ls[j] = 0 := by omega
    gi_wp2
    gi_region
    all_goals
      gi_wp2
      have s1 := (boxed_at g1 (p := ⟨w.heap.size + 1, j, none⟩) (by show w.heap.size + 2 ≠ w.heap.size + 1; omega) (.int .i64 (P.2 % ls[j]))).other (B' := w.heap.size) (by omega) (.int .i64 (P.2 / ls[j]))
      have s2 := (boxed_at g2 (p := ⟨w.heap.size + 1, j, none⟩) (by show w.heap.size ≠ w.heap.size + 1; omega) (.int .i64 (P.2 % ls[j]))).set (.int .i64 (P.2 / ls[j]))
      have s3 := (g3.put j (P.2 % ls[j])).box (B' := w.heap.size) (by omega) (.int .i64 (P.2 / ls[j]))
      have hk := ((KeepsOthers.setCell W ⟨w.heap.size + 1, j, none⟩ (.int .i64 (P.2 % ls[j]))).trans (KeepsOthers.setCell _ ⟨w.heap.size, 0, none⟩ (.int .i64 (P.2 / ls[j])))).from w3.heap.size
      have hp := (KeepB.set (n0 := w.heap.size) (B := w.heap.size + 1 + 1 + 1) (W := W) (p := ⟨w.heap.size + 1, j, none⟩) (by show w.heap.size + 1 ≠ _; omega) (by show w.heap.size ≤ w.heap.size + 1; omega) (.int .i64 (P.2 % ls[j]))).trans (KeepB.set (p := ⟨w.heap.size, 0, none⟩) (by show w.heap.size ≠ _; omega) (Nat.le_refl _) (.int .i64 (P.2 / ls[j])))
      refine ⟨⟨hk.size, hk.same⟩, ⟨hp.1, hp.2⟩, s1, ?_, ?_, ((g4.setCell (by show w.heap.size ≤ w.heap.size + 1; omega) _).setCell (Nat.le_refl _) _).drew⟩
      · rw [SN.out]; exact s2
      · rw [SN.out]; exact s3
  case done =>
    rintro D ys W hD rfl ⟨g1, g2, g3, g4⟩ hK
    have c1 := g1.cell
    have hfin := g4.trans (belowK_b (w := w) (Nat.le_refl _) W D _ (.deferred none) (by omega) hK rfl rfl)
    have g5 : Blk (W.putObj D (.deferred none)) (w.heap.size + 1) 3 (ints (atl ls n)).toArray := by
      rw [← HE.out]
      exact g3.kept (grownBy_putObj' W D _) (by intro e; cases e; have := g3.lt; omega)
    clear g3
    go_wp2
    refine ⟨by simp, .inl ⟨_, _, rfl, run_takeDeferred hK, ?_⟩⟩
    exact ⟨_, results_tmp rfl _ _ _, rfl, g5, hfin⟩

set_option maxRecDepth 100000 in
set_option maxHeartbeats 2000000 in
theorem at_ok (v : Value) (ls : List Int) (n : Int) (w : World) (h : Ld w v ls) (hm : may ls = true) (h0 : 0 ≤ n) (h1 : n < prod ls) :
    Calls Try.prog 14 #[v, .int .i64 n] w fun e w' => e = .returned (.tuple #[.slice (some ⟨w.heap.size + 1, 0, none⟩) ls.length ls.length, .int .i64 0]) ∧ Blk w' (w.heap.size + 1) 3 (ints (atl ls n)).toArray ∧ Below w.heap.size w w' := by
  have C := Lib.hid (count_ok v ls w h hm)
  have I := Lib.hid (index_any v ls n w h hm h0 h1)
  clear h hm
  have h1' : ¬ prod ls ≤ n := by omega
  have h0' : ¬ n < 0 := by omega
  go_enter Try.func14, Try.ntmps14
  go_wp2_with (first | (go_at_call 10; (with_reducible refine C.out.mono ?_); rintro e w' ⟨rfl, rfl⟩) | (go_at_call 33; (with_reducible refine I.out.mono ?_); rintro e w' ⟨rfl, hb, hB⟩))
  go_ret2
  exact ⟨rfl, hb, hB⟩
set_option maxRecDepth 100000 in
set_option maxHeartbeats 2000000 in
theorem at_far (v : Value) (ls : List Int) (n : Int) (w : World) (h : Ld w v ls) (hm : may ls = true) (hn : ¬ (0 ≤ n ∧ n < prod ls)) :
    Calls Try.prog 14 #[v, .int .i64 n] w fun e w' => e = .returned (.tuple #[.slice none 0 0, .int .i64 2]) ∧ w = w' := by
  have C := Lib.hid (count_ok v ls w h hm)
  clear h hm
  by_cases h0 : n < 0
  · clear hn
    go_enter Try.func14, Try.ntmps14
    go_wp2_with (go_at_call 10; (with_reducible refine C.out.mono ?_); rintro e w' ⟨rfl, rfl⟩)
    go_ret2
    exact ⟨rfl, rfl⟩
  · have h1 : prod ls ≤ n := by omega
    clear hn
    go_enter Try.func14, Try.ntmps14
    go_wp2_with (go_at_call 10; (with_reducible refine C.out.mono ?_); rintro e w' ⟨rfl, rfl⟩)
    go_ret2
    exact ⟨rfl, rfl⟩
set_option maxRecDepth 100000 in
set_option maxHeartbeats 2000000 in
theorem at_no (v : Value) (ls : List Int) (n : Int) (w : World) (h : Ld w v ls) (hm : may ls = false) :
    Calls Try.prog 14 #[v, .int .i64 n] w fun e w' => e = .returned (.tuple #[.slice none 0 0, .int .i64 1]) ∧ w = w' := by
  have C := Lib.hid (count_no v ls w h hm)
  clear h hm
  go_enter Try.func14, Try.ntmps14
  go_wp2_with (go_at_call 10; (with_reducible refine C.out.mono ?_); rintro e w' ⟨rfl, rfl⟩)
  go_ret2
  exact ⟨rfl, rfl⟩
end Go.Proofs.Yteplhlmdaabpaaa
