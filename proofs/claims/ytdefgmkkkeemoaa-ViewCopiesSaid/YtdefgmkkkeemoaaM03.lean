/-
  shape.Strides where it refuses; shape.At.
  view.areAll, sameCount, plain, Of.
-/
import Derived.RegionIn
import Derived.BigRegionIn
import Derived.Test.YtdefgmkkkeemoaaM02
namespace Go.Proofs.Ytdefgmkkkeemoaa
open Go.RowKit Go.Shelf
attribute [local go_sem] Oper.semAt_some

set_option maxRecDepth 100000 in
set_option maxHeartbeats 2000000 in
theorem strides_no (v : Value) (ls : List Int) (w : World) (h : Ld w v ls) (hm : may ls = false) :
    Calls Try.prog 57 #[v] w fun e w' => e = .returned (.tuple #[.slice none 0 0, .int .i64 1]) ∧ w = w' := by
  have CK := Lib.hid (check_no v ls w h hm)
  clear h hm
  go_enter Try.func57, Try.ntmps57
  go_wp2_with (go_at_call 52; (with_reducible refine CK.out.mono ?_); rintro e w' ⟨rfl, rfl⟩)
  go_ret2
  exact ⟨rfl, rfl⟩

def ixf (ls : List Int) (n : Int) (pre : List (Fin ls.length)) : List Int × Int := pre.foldl (fun p x => (p.1.set x.1 (p.2 % ls.getD x.1 0), p.2 / ls.getD x.1 0)) (List.replicate ls.length 0, n)
theorem ixf_snoc (ls : List Int) (n : Int) (pre : List (Fin ls.length)) (x : Fin ls.length) : ixf ls n (pre ++ [x]) = ((ixf ls n pre).1.set x.1 ((ixf ls n pre).2 % ls.getD x.1 0), (ixf ls n pre).2 / ls.getD x.1 0) := by simp [ixf]
theorem ixf_len (ls : List Int) (n : Int) (pre : List (Fin ls.length)) : (ixf ls n pre).1.length = ls.length := by
  have : ∀ (pre : List (Fin ls.length)) (p : List Int × Int), p.1.length = ls.length → (pre.foldl (fun p x => (p.1.set x.1 (p.2 % ls.getD x.1 0), p.2 / ls.getD x.1 0)) p).1.length = ls.length := by
    intro pre
    induction pre with
    | nil => intro p h; exact h
    | cons x pre ih => intro p h; exact ih _ (by simpa using h)
  exact this pre _ (by simp)
theorem quo_bd {p d : Int} (h : 0 ≤ p ∧ p ≤ 65536) (hd : 1 ≤ d) : 0 ≤ p / d ∧ p / d ≤ 65536 := by
  refine ⟨Int.ediv_nonneg h.1 (by omega), ?_⟩
  have := Int.ediv_le_self d h.1
  omega
theorem ixf_bd {ls : List Int} (hp : pos ls) {n : Int} (h0 : 0 ≤ n ∧ n ≤ 65536) (pre : List (Fin ls.length)) : 0 ≤ (ixf ls n pre).2 ∧ (ixf ls n pre).2 ≤ 65536 := by
  have : ∀ (pre : List (Fin ls.length)) (p : List Int × Int), 0 ≤ p.2 ∧ p.2 ≤ 65536 → 0 ≤ (pre.foldl (fun p x => (p.1.set x.1 (p.2 % ls.getD x.1 0), p.2 / ls.getD x.1 0)) p).2 ∧ (pre.foldl (fun p x => (p.1.set x.1 (p.2 % ls.getD x.1 0), p.2 / ls.getD x.1 0)) p).2 ≤ 65536 := by
    intro pre
    induction pre with
    | nil => intro p h; exact h
    | cons x pre ih => intro p h; exact ih _ (quo_bd h (hp _ (getD_mem x.2)))
  exact this pre _ h0
theorem ixf_end {ls : List Int} (hp : pos ls) {n : Int} (h0 : 0 ≤ n) (h1 : n < prod ls) : (ixf ls n (bk ls.length)).1 = atl ls n := by
  have : ∀ (j : Nat) (hj : j ≤ ls.length) (p : List Int × Int), p.1.length = ls.length → p.2 = n / prod (ls.drop j) → (∀ i, j ≤ i → i < ls.length → p.1.getD i 0 = n / prod (ls.drop (i + 1)) % ls.getD i 0) →
      ∀ i, i < ls.length → ((rs j hj).foldl (fun p x => (p.1.set x.1 (p.2 % ls.getD x.1 0), p.2 / ls.getD x.1 0)) p).1.getD i 0 = n / prod (ls.drop (i + 1)) % ls.getD i 0 := by
    intro j
    induction j with
    | zero => intro hj p h1 h2 h3 i hi; exact h3 i (Nat.zero_le _) hi
    | succ j ih =>
      intro hj p h1 h2 h3 i hi
      simp only [rs, List.foldl_cons]
      refine ih (by omega) _ (by simpa using h1) ?_ ?_ i hi
      · simp only [h2]
        rw [prod_drop (show j < ls.length by omega), Int.ediv_ediv_of_nonneg (by have := prod_pos (pos_drop hp (j + 1)); omega), Int.mul_comm]
      · intro k k1 k2
        simp only
        by_cases e : j = k
        · subst e; rw [set_getD_self (by omega), h2]
        · rw [set_getD_ne e]; exact h3 k (by omega) k2
  refine ext_getD (by rw [ixf_len, atl_len]) fun k hk => ?_
  rw [ixf_len] at hk
  rw [atl_getD ls n k hp h0 h1 hk]
  exact this ls.length (Nat.le_refl _) (List.replicate ls.length 0, n) (by simp) (by simp [prod]) (fun i h1 h2 => by omega) k hk

set_option maxRecDepth 100000 in
set_option maxHeartbeats 4000000 in
theorem index_any (v : Value) (ls : List Int) (n : Int) (w : World) (h : Ld w v ls) (hm : may ls = true) (h0 : 0 ≤ n) (h1 : n < prod ls) :
    Calls Try.prog 80 #[v, .int .i64 n] w fun e w' => e = .returned (.slice (some ⟨w.heap.size + 1, 0, none⟩) ls.length ls.length) ∧ Blk w' (w.heap.size + 1) 3 (ints (atl ls n)).toArray ∧ Below w.heap.size w w' := by
  obtain ⟨i0, hi0, hz0, hz1, hz2⟩ := info_parts infoI
  obtain ⟨o, c, rfl, _, hx⟩ := h
  have HX := Lib.hid hx
  have hl := may_len hm
  have hpos := may_pos hm
  have hpr := may_prod hm
  have HE := Lib.hid (ixf_end hpos h0 h1)
  have HB := Lib.hid (ixf_bd hpos (n := n) (by omega))
  have HP0 := Lib.hid hpos
  clear hx hm hpos hpr
  have mk : (Instr.makeSlice 23 (.int .i64 (ls.length : Int)) (.int .i64 (ls.length : Int))).run Try.prog (w.alloc (.cells #[.int .i64 n] 3)) = .ok (.slice (some ⟨w.heap.size + 1, 0, none⟩) ls.length ls.length) ((w.alloc (.cells #[.int .i64 n] 3)).alloc (.cells (madeCells #[.int .i64 0] ls.length) 3)) := by
    have := run_make (w := w.alloc (.cells #[.int .i64 n] 3)) 23 3 i0 (.int .i64 0) Try.underlying23 hi0 hz0 .i64 .i64 ls.length ls.length (by omega) (by omega) (by rw [hz2]; omega) (by omega)
    rw [this, hz1]; simp [Value.cells]
  rw [made_ints] at mk
  refine (callsIn_wide (n := 9)).1 ?_
  refine callsIn_of_wp_marks Try.func80 rfl trivial ?_
  simp only [Try.ntmps80, List.size_toArray, List.length_cons, List.length_nil, Nat.reduceAdd, Nat.reduceSub, Array.replicate_succ, Array.replicate_zero, List.push_toArray, List.append_toArray, List.nil_append, List.cons_append]
  refine wpIn_wide.2 ?_
  go_wp2_with (go_at_call 70; (with_reducible refine (backs_any _ _ _ _).mono ?_); rintro e w3 ⟨rfl, rfl⟩)
  have b1 : Boxed ((((w.alloc (Obj.cells #[Value.int IntKind.i64 n] 3)).alloc (Obj.cells (ints (List.replicate ls.length 0)).toArray 3)).alloc (Obj.cells #[Value.slice (some ⟨w.heap.size + 1, 0, none⟩) ls.length ls.length] 23)).alloc (Obj.cells #[Value.slice o ls.length c] 23)) w.heap.size 3 (.int .i64 n) := (((Boxed.new w 3 (.int .i64 n)).alloc (Obj.cells (ints (List.replicate ls.length 0)).toArray 3)).alloc (Obj.cells #[Value.slice (some ⟨w.heap.size + 1, 0, none⟩) ls.length ls.length] 23)).alloc (Obj.cells #[Value.slice o ls.length c] 23)
  have b0 : Blk ((((w.alloc (Obj.cells #[Value.int IntKind.i64 n] 3)).alloc (Obj.cells (ints (List.replicate ls.length 0)).toArray 3)).alloc (Obj.cells #[Value.slice (some ⟨w.heap.size + 1, 0, none⟩) ls.length ls.length] 23)).alloc (Obj.cells #[Value.slice o ls.length c] 23)) (w.heap.size + 1) 3 (ints (List.replicate ls.length 0)).toArray := by
    have := ((Blk.new (w.alloc (Obj.cells #[Value.int IntKind.i64 n] 3)) 3 (ints (List.replicate ls.length 0)).toArray).alloc (Obj.cells #[Value.slice (some ⟨w.heap.size + 1, 0, none⟩) ls.length ls.length] 23)).alloc (Obj.cells #[Value.slice o ls.length c] 23)
    rwa [World.size_alloc] at this
  have b2 : Boxed ((((w.alloc (Obj.cells #[Value.int IntKind.i64 n] 3)).alloc (Obj.cells (ints (List.replicate ls.length 0)).toArray 3)).alloc (Obj.cells #[Value.slice (some ⟨w.heap.size + 1, 0, none⟩) ls.length ls.length] 23)).alloc (Obj.cells #[Value.slice o ls.length c] 23)) (w.heap.size + 2) 23 (.slice (some ⟨w.heap.size + 1, 0, none⟩) ls.length ls.length) := by
    have := (Boxed.new ((w.alloc (Obj.cells #[Value.int IntKind.i64 n] 3)).alloc (Obj.cells (ints (List.replicate ls.length 0)).toArray 3)) 23 (.slice (some ⟨w.heap.size + 1, 0, none⟩) ls.length ls.length)).alloc (Obj.cells #[Value.slice o ls.length c] 23)
    rwa [World.size_alloc, World.size_alloc] at this
  have b3 : Boxed ((((w.alloc (Obj.cells #[Value.int IntKind.i64 n] 3)).alloc (Obj.cells (ints (List.replicate ls.length 0)).toArray 3)).alloc (Obj.cells #[Value.slice (some ⟨w.heap.size + 1, 0, none⟩) ls.length ls.length] 23)).alloc (Obj.cells #[Value.slice o ls.length c] 23)) (w.heap.size + 3) 23 (.slice o ls.length c) := by
    have := Boxed.new (((w.alloc (Obj.cells #[Value.int IntKind.i64 n] 3)).alloc (Obj.cells (ints (List.replicate ls.length 0)).toArray 3)).alloc (Obj.cells #[Value.slice (some ⟨w.heap.size + 1, 0, none⟩) ls.length ls.length] 23)) 23 (.slice o ls.length c)
    rwa [World.size_alloc, World.size_alloc, World.size_alloc] at this
  have bB : Below w.heap.size w ((((w.alloc (Obj.cells #[Value.int IntKind.i64 n] 3)).alloc (Obj.cells (ints (List.replicate ls.length 0)).toArray 3)).alloc (Obj.cells #[Value.slice (some ⟨w.heap.size + 1, 0, none⟩) ls.length ls.length] 23)).alloc (Obj.cells #[Value.slice o ls.length c] 23)) :=
    ((((Below.refl _ _).alloc (Nat.le_refl _) _).alloc (by simp) _).alloc (by simp; omega) _).alloc (by simp; omega) _
  have bS : w.heap.size + 4 = ((((w.alloc (Obj.cells #[Value.int IntKind.i64 n] 3)).alloc (Obj.cells (ints (List.replicate ls.length 0)).toArray 3)).alloc (Obj.cells #[Value.slice (some ⟨w.heap.size + 1, 0, none⟩) ls.length ls.length] 23)).alloc (Obj.cells #[Value.slice o ls.length c] 23)).heap.size := by simp
  generalize (((w.alloc (Obj.cells #[Value.int IntKind.i64 n] 3)).alloc (Obj.cells (ints (List.replicate ls.length 0)).toArray 3)).alloc (Obj.cells #[Value.slice (some ⟨w.heap.size + 1, 0, none⟩) ls.length ls.length] 23)).alloc (Obj.cells #[Value.slice o ls.length c] 23) = w3 at *
  refine (wpIn_wide (n := 9)).1 ?_
  refine wpIn_rangeFunc_ownG (F := Fence.wide) (n := 9) rfl (by decide) (gf := 77) (lb := #[.pointer (some ⟨w.heap.size + 1 + 1 + 1, 0, none⟩)]) rfl trivial (enters_of Try.func77 (by kernel_rfl) rfl)
    (back_stops Fence.wide 8 trivial rfl (by decide) (w.heap.size + 1 + 1 + 1) w.heap.size o c ls (by omega) w3 (by omega) (by omega) b3.cell (fun i hi => by
      obtain ⟨b, f, e, hb, hc⟩ := HX.out i hi
      exact ⟨b, f, e, hb, (bB.cell (p := ⟨b, f + i, none⟩) hb).trans hc⟩)) KeepB.trans (KeepB.put (by omega) (by omega)) (Below.refl _ _) (fun _ => rfl)
    (fun pre W => Boxed W (w.heap.size + 2) 23 (.slice (some ⟨w.heap.size + 1, 0, none⟩) ls.length ls.length) ∧ Boxed W w.heap.size 3 (.int .i64 (ixf ls n pre).2) ∧ Blk W (w.heap.size + 1) 3 (ints (ixf ls n pre).1).toArray ∧ Below w.heap.size w W)
    (fun _ _ _ => False)
    (OwnFrom.and (Own.from (boxed_own _ _ (fun _ => _)) _) (OwnFrom.and (Own.from (boxed_own _ _ (fun pre => .int .i64 (ixf ls n pre).2)) _) (OwnFrom.and (Own.from (blk_own _ _ (fun pre => (ints (ixf ls n pre).1).toArray)) _) (ownFrom_below (Nat.le_refl _) (by omega)))))
    (fun _ _ _ _ _ hs _ _ => hs)
    ⟨b2, b1, b0, bB⟩ ?a1 ?assign ?body ?done ?stop
  case assign =>
    intro l x W K hK
    unfold pr
    gi_wp2
    exact hK
  case stop =>
    rintro D c pre W _ _ h _
    exact h.elim
  case body =>
    rintro l pre x W ⟨g1, g2, g3, g4⟩ hlt
    have SN0 := ixf_snoc ls n pre x
    have hL := ixf_len ls n pre
    have hb := HB.out pre
    obtain ⟨j, hj⟩ := x
    have ed : ls.getD j 0 = ls[j] := by simp [List.getD, List.getElem?_eq_getElem hj]
    have d1 : 1 ≤ ls[j] := HP0.out _ (List.getElem_mem hj)
    simp only [ed] at SN0
    have SN := Lib.hid SN0
    clear SN0 ed
    have c1 := g1.cell
    have c2 := g2.cell
    have f2 := g2.frozen
    have c3 := g3.cell j
    rw [ints_at (by omega)] at c3
    have f3 := g3.frozen j
    have hBs := g4.size
    generalize hP : ixf ls n pre = P at *
    have HP := Lib.hid (And.intro hP hL)
    clear hP hL
    generalize P.1.getD j 0 = y at *
    obtain ⟨p0, p1⟩ := hb
    have dz : ¬ ls[j] = 0 := by omega
    gi_wp2
    gi_region
    all_goals
      gi_wp2
      have s1 := (boxed_at g1 (p := ⟨w.heap.size + 1, j, none⟩) (by show w.heap.size + 2 ≠ w.heap.size + 1; omega) (.int .i64 (P.2 % ls[j]))).other (B' := w.heap.size) (by omega) (.int .i64 (P.2 / ls[j]))
      have s2 := (boxed_at g2 (p := ⟨w.heap.size + 1, j, none⟩) (by show w.heap.size ≠ w.heap.size + 1; omega) (.int .i64 (P.2 % ls[j]))).set (.int .i64 (P.2 / ls[j]))
      have s3 := (g3.put j (P.2 % ls[j])).box (B' := w.heap.size) (by omega) (.int .i64 (P.2 / ls[j]))
      have hk := ((KeepsOthers.setCell W ⟨w.heap.size + 1, j, none⟩ (.int .i64 (P.2 % ls[j]))).trans (KeepsOthers.setCell _ ⟨w.heap.size, 0, none⟩ (.int .i64 (P.2 / ls[j])))).from w3.heap.size
      have hp := (KeepB.set (n0 := w.heap.size) (B := w.heap.size + 1 + 1 + 1) (W := W) (p := ⟨w.heap.size + 1, j, none⟩) (by show w.heap.size + 1 ≠ _; omega) (by show w.heap.size ≤ w.heap.size + 1; omega) (.int .i64 (P.2 % ls[j]))).trans (KeepB.set (p := ⟨w.heap.size, 0, none⟩) (by show w.heap.size ≠ _; omega) (Nat.le_refl _) (.int .i64 (P.2 / ls[j])))
      refine ⟨⟨hk.size, hk.same⟩, ⟨hp.1, hp.2⟩, s1, ?_, ?_, ((g4.setCell (by show w.heap.size ≤ w.heap.size + 1; omega) _).setCell (Nat.le_refl _) _).drew⟩
      · rw [SN.out]; exact s2
      · rw [SN.out]; exact s3
  case done =>
    rintro D ys W hD rfl ⟨g1, g2, g3, g4⟩ hK
    have c1 := g1.cell
    have hfin := g4.trans (belowK_b (w := w) (Nat.le_refl _) W D _ (.deferred none) (by omega) hK rfl rfl)
    have g5 : Blk (W.putObj D (.deferred none)) (w.heap.size + 1) 3 (ints (atl ls n)).toArray := by
      rw [← HE.out]
      exact g3.kept (grownBy_putObj' W D _) (by intro e; cases e; have := g3.lt; omega)
    clear g3
    go_wp2
    refine ⟨by simp, .inl ⟨_, _, rfl, run_takeDeferred hK, ?_⟩⟩
    exact ⟨_, results_tmp rfl _ _ _, rfl, g5, hfin⟩

end Go.Proofs.Ytdefgmkkkeemoaa
namespace Go.Proofs.Ytdefgmkkkeemoaa
open Go.RowKit

/-- A box of three. -/
def Bv (W : World) (b : Nat) (x y z : Value) : Prop := W.cell? ⟨b, 0, none⟩ = some x ∧ W.cell? ⟨b, 1, none⟩ = some y ∧ W.cell? ⟨b, 2, none⟩ = some z
theorem Bv.new (w : World) (x y z : Value) (t : TypeId) : Bv (w.alloc (.cells #[x, y, z] t)) w.heap.size x y z := by
  have h := Blk.new w t #[x, y, z]
  exact ⟨h.cell 0, h.cell 1, h.cell 2⟩
theorem Bv.next {W W' : World} {b B : Nat} {x y z : Value} (h : Bv W b x y z) (hb : Below B W W') (hlt : b < B) : Bv W' b x y z :=
  ⟨(hb.cell (p := ⟨b, 0, none⟩) hlt).trans h.1, (hb.cell (p := ⟨b, 1, none⟩) hlt).trans h.2.1, (hb.cell (p := ⟨b, 2, none⟩) hlt).trans h.2.2⟩
theorem box3 {w W : World} {x y z : Value} {t : TypeId} {B : Nat} (h : Below B (w.alloc (.cells #[x, y, z] t)) W) (hB : w.heap.size < B) : W.cell? ⟨w.heap.size, 0, none⟩ = some x ∧ W.cell? ⟨w.heap.size, 1, none⟩ = some y ∧ W.cell? ⟨w.heap.size, 2, none⟩ = some z := (Bv.new w x y z t).next h hB
theorem blk3 {W : World} {b : Nat} {t : TypeId} {x y z : Value} (h : Blk W b t #[x, y, z]) : W.cell? ⟨b, 0, none⟩ = some x ∧ W.cell? ⟨b, 1, none⟩ = some y ∧ W.cell? ⟨b, 2, none⟩ = some z ∧ W.frozen? ⟨b, 0, none⟩ = false ∧ W.frozen? ⟨b, 1, none⟩ = false ∧ W.frozen? ⟨b, 2, none⟩ = false :=
  ⟨h.cell 0, h.cell 1, h.cell 2, h.frozen 0, h.frozen 1, h.frozen 2⟩
theorem blk_box {w W : World} {cs : Array Value} {t : TypeId} {B : Nat} (h : Below B (w.alloc (.cells cs t)) W) (hB : w.heap.size < B) : Blk W w.heap.size t cs := (Blk.new w t cs).below h hB
set_option maxRecDepth 100000 in
set_option maxHeartbeats 2000000 in
theorem areall_any (v : Value) (ax : List Int) (n : Nat) (w : World) (h : Ld w v ax) (la : ax.length ≤ 17592186044416) (ln : n ≤ 1073741824) :
    Calls Try.prog 49 #[v, .int .i64 n] w fun e w' => e = .returned (.bool (axs ax n)) ∧ w = w' := by
  have C := Lib.hid (fun (x : Int) => contains_any v ax x w h la)
  have HX := Lib.hid h
  obtain ⟨o, c, rfl, _, _⟩ := h
  by_cases hl : ax.length = n
  · have HN : Hid (axs ax n = axN ax n) := by unfold axs; rw [decide_eq_true hl]; exact Lib.hid (by simp)
    have hl' : ((ax.length : Int) != (n : Int)) = false := by simp [hl]
    clear hl
    go_enter Try.func49, Try.ntmps49
    go_wp2
    go_loop [11] (fun s11 => ∃ k : Nat, k ≤ n ∧ s11 = .int .i64 k ∧ Hid (axN ax k = true)) (fun s11 => n - (intOf s11).toNat)
    case atStart => exact ⟨0, Nat.zero_le _, rfl, rfl⟩
    case round =>
      obtain ⟨k, hk, rfl, HK⟩ := hrel
      by_cases hlt : k < n
      · have C1 := Lib.hid (C.out k)
        by_cases g : (k : Int) ∈ ax
        · have R : Hid (axN ax (k + 1) = true) := by unfold axN; rw [HK.out, decide_eq_true g]; exact Lib.hid rfl
          rw [decide_eq_true g] at C1
          clear g
          go_wp2_with (go_at_call 67; (with_reducible refine C1.out.mono ?_); rintro e w' ⟨rfl, rfl⟩)
          exact ⟨⟨k + 1, by omega, by go_num, R⟩, by simp [intOf]; omega⟩
        · have R : Hid (axs ax n = false) := by
            rw [Hid, HN.out]
            cases h : axN ax n with
            | false => rfl
            | true => exact absurd (axN_iff.1 h k hlt) g
          rw [decide_eq_false g] at C1
          clear g
          go_wp2_with (go_at_call 67; (with_reducible refine C1.out.mono ?_); rintro e w' ⟨rfl, rfl⟩)
          go_ret
          exact ⟨by rw [R.out]; rfl, rfl⟩
      · have R : Hid (axs ax n = true) := by rw [Hid, HN.out, ← show k = n by omega]; exact HK.out
        go_wp2
        go_ret
        exact ⟨by rw [R.out]; rfl, rfl⟩
  · have R : Hid (axs ax n = false) := by unfold axs; rw [decide_eq_false hl]; exact Lib.hid rfl
    have hl' : ((ax.length : Int) != (n : Int)) = true := by rw [bne_iff_ne]; omega
    clear hl
    go_enter Try.func49, Try.ntmps49
    go_wp2
    go_ret
    exact ⟨by rw [R.out]; rfl, rfl⟩

set_option maxRecDepth 100000 in
set_option maxHeartbeats 2000000 in
theorem samecount_any (va vb : Value) (a b : List Int) (w : World) (ha : Ld w va a) (hb : Ld w vb b) (ma : may a = true) (mb : may b = true) :
    Calls Try.prog 55 #[va, vb] w fun e w' => e = .returned (.bool (decide (prod a = prod b))) ∧ w = w' := by
  have CA := Lib.hid (count_ok va a w ha ma)
  have CB := Lib.hid (count_ok vb b w hb mb)
  clear ha hb ma mb
  generalize prod a = x at *
  generalize prod b = y at *
  have E : Hid ((x == y) = decide (x = y)) := by rw [Hid]; exact Bool.eq_iff_iff.2 (by simp)
  go_enter Try.func55, Try.ntmps55
  go_wp2_with (first | (go_at_call 68; (with_reducible refine CA.out.mono ?_); rintro e w' ⟨rfl, rfl⟩) | (go_at_call 68; (with_reducible refine CB.out.mono ?_); rintro e w' ⟨rfl, rfl⟩))
  go_ret
  first
    | exact ⟨trivial, rfl⟩
    | exact ⟨by rw [← E.out]; rfl, rfl⟩
    | exact ⟨rfl, rfl⟩

set_option maxRecDepth 100000 in
set_option maxHeartbeats 2000000 in
theorem plain_any (vs vt : Value) (sh st : List Int) (off : Int) (w : World) (hs : Ld w vs sh) (ht : Ld w vt st) (hm : may sh = true) (lt : st.length ≤ 17592186044416) :
    Calls Try.prog 56 #[.agg #[vs, vt, .int .i64 off]] w fun e w' => e = .returned (.bool (pln sh st off)) ∧ Below w.heap.size w w' := by
  have hB0 : Below w.heap.size w (w.alloc (.cells #[vs, vt, .int .i64 off] 25)) := (Below.refl _ _).alloc (Nat.le_refl _) _
  have l4 := may_len hm
  have CS := strides_ok vs sh _ (hs.below hB0) hm
  simp only [World.size_alloc] at CS
  replace CS := Lib.hid CS
  have EQ := Lib.hid (fun (W : World) (g : Nat) (hb : Below w.heap.size w W) (hg : Blk W g 3 (ints (stl sh)).toArray) => equal_any vt (.slice (some ⟨g, 0, none⟩) sh.length sh.length) st (stl sh) W (ht.below hb) (by have := Ld.of_blk hg (c := sh.length) (by rw [stl_len]; exact Nat.le_refl _); rwa [stl_len] at this) lt (by rw [stl_len]; omega))
  obtain ⟨os, cs, rfl, _, _⟩ := id hs
  obtain ⟨ot, ct, rfl, _, _⟩ := id ht
  clear hs ht hm
  by_cases g : off = 0
  · have R : Hid (pln sh st off = decide (st = stl sh)) := by unfold pln; rw [decide_eq_true g]; exact Lib.hid (by simp)
    subst g
    generalize hx : decide (st = stl sh) = x at *
    have HX := Lib.hid hx
    clear hx
    go_enter Try.func56, Try.ntmps56
    go_wp2_with (first | (go_at_call 57; (with_reducible refine CS.out.mono ?_); rintro e w2 ⟨rfl, hk2, hb2⟩; obtain ⟨c0, c1, c2⟩ := box3 hb2 (by simp); have B2 := Lib.hid (hB0.trans (hb2.mono (by simp))); have K2 := Lib.hid hk2; clear hb2 hk2) | (go_at_call 54; (with_reducible refine (EQ.out _ _ B2.out K2.out).mono ?_); rintro e w3 ⟨rfl, hb3⟩; replace hb3 := Lib.hid hb3))
    go_ret
    have sz := B2.out.size
    exact ⟨by rw [R.out]; try rfl, B2.out.trans (hb3.out.mono sz)⟩
  · have R : Hid (pln sh st off = false) := by unfold pln; rw [decide_eq_false g]; exact Lib.hid (by simp)
    have g' : (off == 0) = false := by rw [beq_eq_false_iff_ne]; exact g
    clear g
    go_enter Try.func56, Try.ntmps56
    go_wp2_with (first | (go_at_call 57; (with_reducible refine CS.out.mono ?_); rintro e w2 ⟨rfl, hk2, hb2⟩; obtain ⟨c0, c1, c2⟩ := box3 hb2 (by simp); have B2 := Lib.hid (hB0.trans (hb2.mono (by simp))); clear hb2 hk2))
    go_ret
    exact ⟨by rw [R.out]; rfl, B2.out⟩

/-- Two lists of the call's own, apart. -/
def Ov (w : World) (base : Nat) (vs vt : Value) (sh st : List Int) : Prop := w.ownsRow base 3 1 vs sh.length (ints sh) ∧ w.ownsRow base 3 1 vt st.length (ints st) ∧ ∀ g, vs.ownBlock = some g → ¬ vt.ownBlock = some g
/-- A view in new memory, and an error. -/
def SomeV (w : World) (er : Int) (sh st : List Int) (off : Int) (e : Ending) (w' : World) : Prop := ∃ os cs ot ct, e = .returned (.tuple #[.agg #[.slice os sh.length cs, .slice ot st.length ct, .int .i64 off], .int .i64 er]) ∧ Ov w' w.heap.size (.slice os sh.length cs) (.slice ot st.length ct) sh st ∧ Below w.heap.size w w'
theorem ov_nil (w : World) (base : Nat) : Ov w base (.slice none 0 0) (.slice none 0 0) [] [] := ⟨World.ownsRow_nil _ _ _ _, World.ownsRow_nil _ _ _ _, fun g h => by simp [Value.ownBlock] at h⟩
theorem someV_no (w w' : World) (er : Int) (h : Below w.heap.size w w') : SomeV w er [] [] 0 (.returned (.tuple #[.agg #[.slice none 0 0, .slice none 0 0, .int .i64 0], .int .i64 er])) w' := ⟨none, 0, none, 0, rfl, ov_nil _ _, h⟩
theorem Below.keepOwn {w w' : World} {B base n : Nat} {e : TypeId} {v : Value} {xs : List Value} (h : w.ownsRow base e 1 v n xs) (hb : Below B w w') (hB : w.heap.size ≤ B) : w'.ownsRow base e 1 v n xs := by
  refine ⟨h.1, ?_⟩
  rcases h.2 with a | ⟨g, cap, cur, e1, e2, e3, rest⟩
  · exact .inl a
  · exact .inr ⟨g, cap, cur, e1, e2, (hb.block g (by have := (Array.getElem?_eq_some_iff.1 e3).1; omega)).trans e3, rest⟩
theorem own_base {w : World} {base base' n : Nat} {e : TypeId} {v : Value} {xs : List Value} (h : w.ownsRow base e 1 v n xs) (hb : base' ≤ base) : w.ownsRow base' e 1 v n xs := by
  refine ⟨h.1, ?_⟩
  rcases h.2 with a | ⟨g, cap, cur, e1, e2, rest⟩
  · exact .inl a
  · exact .inr ⟨g, cap, cur, e1, by omega, rest⟩
/-- A row that was there, and a newer one. -/
theorem own_apart {w : World} {base base' n n' : Nat} {e e' : TypeId} {v v' : Value} {xs xs' : List Value} {w' : World} (h : w.ownsRow base e 1 v n xs) (h' : w'.ownsRow base' e' 1 v' n' xs') (hb : w.heap.size ≤ base') : (∀ g, v.ownBlock = some g → ¬ v'.ownBlock = some g) ∧ (∀ g, v'.ownBlock = some g → ¬ v.ownBlock = some g) := by
  refine ⟨fun g a b => ?_, fun g a b => ?_⟩
  · have := (h.lt g a).2; have := (h'.lt g b).1; omega
  · have := (h.lt g b).2; have := (h'.lt g a).1; omega

theorem own_not_box {w : World} {base n b : Nat} {v : Value} {xs : List Value} {cs : Array Value} (h : w.ownsRow base 3 1 v n xs) (hb : Blk w b 25 cs) : ¬ v.ownBlock = some b := by
  intro e
  rcases h.2 with ⟨rfl, _⟩ | ⟨g, cap, cur, rfl, _, hh, _⟩
  · simp [Value.ownBlock] at e
  · simp only [Value.ownBlock, Option.some.injEq] at e
    subst e
    have := hh.symm.trans hb
    simp at this
theorem Ov.kept {w w' : World} {base : Nat} {vs vt : Value} {sh st : List Int} {row : Option Nat} (h : Ov w base vs vt sh st) (hg : w.grownBy w' row) (h1 : ¬ vs.ownBlock = row ∨ row = none) (h2 : ¬ vt.ownBlock = row ∨ row = none) : Ov w' base vs vt sh st := by
  refine ⟨h.1.kept hg ?_, h.2.1.kept hg ?_, h.2.2⟩
  · rcases h1 with h1 | rfl
    · exact .inr h1
    · cases e : vs.ownBlock with
      | none => exact .inl rfl
      | some g => exact .inr (by simp)
  · rcases h2 with h2 | rfl
    · exact .inr h2
    · cases e : vt.ownBlock with
      | none => exact .inl rfl
      | some g => exact .inr (by simp)
theorem Ov.below {w w' : World} {base : Nat} {vs vt : Value} {sh st : List Int} (h : Ov w base vs vt sh st) (hb : Below w.heap.size w w') : Ov w' base vs vt sh st := ⟨Below.keepOwn h.1 hb (Nat.le_refl _), Below.keepOwn h.2.1 hb (Nat.le_refl _), h.2.2⟩
theorem Ov.base {w : World} {base base' : Nat} {vs vt : Value} {sh st : List Int} (h : Ov w base vs vt sh st) (hb : base' ≤ base) : Ov w base' vs vt sh st := ⟨own_base h.1 hb, own_base h.2.1 hb, h.2.2⟩
theorem grown_box3 (W : World) (b : Nat) (x y z : Value) : W.grownBy (((W.setCell ⟨b, 0, none⟩ x).setCell ⟨b, 1, none⟩ y).setCell ⟨b, 2, none⟩ z) (some b) := ⟨rfl, rfl, rfl, by simp, fun j _ hne => by
  have hn : ∀ k, j ≠ (⟨b, k, none⟩ : Addr).block := fun k e => hne (by rw [e])
  exact (Below.heap_setCell _ _ _ j (hn 2)).trans ((Below.heap_setCell _ _ _ j (hn 1)).trans (Below.heap_setCell _ _ _ j (hn 0)))⟩
/-- The end of a call that tells a view: the results' box is written. -/
theorem someV_end {w W : World} {b : Nat} {os ot : Option Addr} {ns nt cs ct : Nat} {off er : Int} {sh st : List Int} {x : Array Value} (hb : w.heap.size ≤ b) (hB : Below w.heap.size w W) (hx : Blk W b 25 x) (e1 : ns = sh.length) (e2 : nt = st.length)
    (ho : Ov W w.heap.size (.slice os ns cs) (.slice ot nt ct) sh st) :
    SomeV w er sh st off (.returned (.tuple #[.agg #[.slice os ns cs, .slice ot nt ct, .int .i64 off], .int .i64 er])) (((W.setCell ⟨b, 0, none⟩ (.slice os ns cs)).setCell ⟨b, 1, none⟩ (.slice ot nt ct)).setCell ⟨b, 2, none⟩ (.int .i64 off)) := by
  subst e1 e2
  have hg := grown_box3 W b (.slice os sh.length cs) (.slice ot st.length ct) (.int .i64 off)
  exact ⟨os, cs, ot, ct, rfl, ho.kept hg (.inl (own_not_box ho.1 hx)) (.inl (own_not_box ho.2.1 hx)), hB.grown hg hB.size (fun k e => by cases e; exact hb)⟩
theorem stl_own {W : World} {base g : Nat} {s : List Int} (h : Blk W g 3 (ints (stl s)).toArray) (hb : base ≤ g) (hm : s.length ≤ 65536) : W.ownsRow base 3 1 (.slice (some ⟨g, 0, none⟩) s.length s.length) (stl s).length (ints (stl s)) := by
  have := h.owns (base := base) hb (by rw [stl_len]; exact hm)
  rwa [stl_len] at this ⊢

set_option maxRecDepth 100000 in
set_option maxHeartbeats 4000000 in
theorem of_any (v : Value) (ls : List Int) (w : World) (h : Ld w v ls) (ll : ls.length ≤ 17592186044000) :
    Calls Try.prog 24 #[v] w (SomeV w (ofe ls) (unl (ofe ls) ls) (unl (ofe ls) (stl ls)) 0) := by
  have hB0 : Below w.heap.size w (w.alloc (.cells #[.slice none 0 0, .slice none 0 0, .int .i64 0] 25)) := (Below.refl _ _).alloc (Nat.le_refl _) _
  cases hm : may ls with
  | false =>
    have CS := strides_no v ls _ (h.below hB0) hm
    replace CS := Lib.hid CS
    have R : Hid (ofe ls = 1) := by unfold ofe; rw [hm]; exact Lib.hid rfl
    obtain ⟨o, c, rfl, _, _⟩ := h
    clear hm
    go_enter Try.func24, Try.ntmps24
    go_wp2_with (first | (go_at_call 57; (with_reducible refine CS.out.mono ?_); rintro e w2 ⟨rfl, rfl⟩))
    refine bodyPost_ret (v := .tuple #[.agg #[.slice none 0 0, .slice none 0 0, .int .i64 0], .int .i64 1]) (by simp [results, Try.results24, go_sem]) rfl ?_
    rw [R.out]
    exact someV_no _ _ 1 hB0
  | true =>
    have CS := strides_ok v ls _ (h.below hB0) hm
    simp only [World.size_alloc] at CS
    replace CS := Lib.hid CS
    have CL := Lib.hid (fun (W : World) (hb : Below w.heap.size w W) => cloned_any v ls W (h.below hb) ll)
    have R : Hid (ofe ls = 0) := by unfold ofe; rw [hm]; exact Lib.hid rfl
    have HL : Hid (ls.length ≤ 65536) := by have := may_len hm; exact Lib.hid (by omega)
    obtain ⟨o, c, rfl, _, _⟩ := h
    clear hm
    go_enter Try.func24, Try.ntmps24
    go_wp2_with (first | (go_at_call 57; (with_reducible refine CS.out.mono ?_); rintro e w2 ⟨rfl, hk2, hb2⟩; have X2 := Lib.hid (blk_box hb2 (by simp)); have B2 := Lib.hid (hB0.trans (hb2.mono (by simp))); have K2 := Lib.hid hk2; have S2 := hb2.size; simp only [World.size_alloc] at S2; clear hb2 hk2) | (go_at_call 51; (with_reducible refine (CL.out _ B2.out).mono ?_); rintro e w3 ⟨o3, c3, rfl, ho3, hl3, hb3⟩; have D3 := Lib.hid (And.intro ho3 hb3); obtain ⟨d0, d1, d2, f0, f1, f2⟩ := blk3 (X2.out.below hb3 X2.out.lt); clear ho3 hl3 hb3))
    refine bodyPost_ret (v := .tuple #[.agg #[.slice o3 ls.length c3, .slice (some ⟨w.heap.size + 1, 0, none⟩) ls.length ls.length, .int .i64 0], .int .i64 0]) (by simp [results, Try.results24, go_sem, d0, d1, d2]) rfl ?_
    rw [R.out]
    refine someV_end (Nat.le_refl _) (B2.out.trans (D3.out.2.mono B2.out.size)) (X2.out.below D3.out.2 X2.out.lt) (by simp [unl]) (by simp [unl, stl_len]) ?_
    have l3 := own_apart (e := 3) (stl_own K2.out (Nat.le_add_right _ _) HL.out) D3.out.1 (Nat.le_refl _)
    exact ⟨own_base D3.out.1 B2.out.size, Below.keepOwn (stl_own K2.out (Nat.le_add_right _ _) HL.out) D3.out.2 (Nat.le_refl _), l3.2⟩
end Go.Proofs.Ytdefgmkkkeemoaa
