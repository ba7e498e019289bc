/-
  shape.Strides.
-/
import Derived.Test.YteplhlmdaabpaaaSa
import Derived.Test.YteplhlmdaabpaaaSb
import Derived.Laws.MakeOwn
import Derived.OwnWalk
import Derived.Outline
namespace Go.Proofs.Yteplhlmdaabpaaa
open Go.RowKit Go.Shelf
attribute [local go_sem] Oper.semAt_some

theorem infoI : (Try.prog.info? 3).map (fun i => (i.zero, i.size, i.bytes)) = some (some (.int .i64 0), 1, 8) := by kernel_rfl
theorem Blk.kept {W W' : World} {row : Option Nat} {B : Nat} {t : TypeId} {cs : Array Value} (h : Blk W B t cs) (hg : W.grownBy W' row) (hne : some B ≠ row) : Blk W' B t cs := (hg.block B h.lt hne).trans h
theorem blk_own {β : Type} (B : Nat) (t : TypeId) (f : β → Array Value) : Own (fun s W => Blk W B t (f s)) := fun s X Y row hs hg hrow =>
  hs.kept hg fun e => by
    obtain ⟨o, ho, hc⟩ := hrow B e.symm
    rw [show X.heap[B]? = _ from hs] at ho
    cases ho
    cases hc
theorem Blk.at_ {W : World} {B : Nat} {t : TypeId} {cs : Array Value} (h : Blk W B t cs) {p : Addr} (hp : B ≠ p.block) (u : Value) : Blk (W.setCell p u) B t cs := h.far hp u
theorem boxed_at {W : World} {B : Nat} {t : TypeId} {v : Value} (h : Boxed W B t v) {p : Addr} (hp : B ≠ p.block) (u : Value) : Boxed (W.setCell p u) B t v := (Below.heap_setCell W p u B hp).trans h

theorem Blk.box {W : World} {B B' : Nat} {t : TypeId} {cs : Array Value} (h : Blk W B t cs) (hne : B ≠ B') (u : Value) : Blk (W.setCell ⟨B', 0, none⟩ u) B t cs := h.far (p := ⟨B', 0, none⟩) hne u
theorem KeepB.set {n0 B : Nat} {W : World} {p : Addr} (hp : p.block ≠ B) (hn : n0 ≤ p.block) (u : Value) : KeepB n0 B W (W.setCell p u) :=
  ⟨Below.heap_setCell W p u B (fun e => hp e.symm), fun k hk => Below.heap_setCell W p u k (by omega)⟩

def stf (ls : List Int) (pre : List (Fin ls.length)) : List Int × Int := pre.foldl (fun p x => (p.1.set x.1 p.2, wrap64 (p.2 * ls.getD x.1 0))) (List.replicate ls.length 0, 1)
theorem stf_snoc (ls : List Int) (pre : List (Fin ls.length)) (x : Fin ls.length) : stf ls (pre ++ [x]) = ((stf ls pre).1.set x.1 (stf ls pre).2, wrap64 ((stf ls pre).2 * ls.getD x.1 0)) := by simp [stf]
theorem stf_len (ls : List Int) (pre : List (Fin ls.length)) : (stf ls pre).1.length = ls.length := by
  have : ∀ (pre : List (Fin ls.length)) (p : List Int × Int), p.1.length = ls.length → (pre.foldl (fun p x => (p.1.set x.1 p.2, wrap64 (p.2 * ls.getD x.1 0))) p).1.length = ls.length := by
    intro pre
    induction pre with
    | nil => intro p h; exact h
    | cons x pre ih => intro p h; exact ih _ (by simpa using h)
  exact this pre _ (by simp)
theorem stf_end {ls : List Int} (hm : may ls = true) : (stf ls (bk ls.length)).1 = stl ls := by
  have : ∀ (j : Nat) (hj : j ≤ ls.length) (p : List Int × Int), p.1.length = ls.length → p.2 = prod (ls.drop j) → (∀ i, j ≤ i → i < ls.length → p.1.getD i 0 = prod (ls.drop (i + 1))) →
      ∀ i, i < ls.length → ((rs j hj).foldl (fun p x => (p.1.set x.1 p.2, wrap64 (p.2 * ls.getD x.1 0))) p).1.getD i 0 = prod (ls.drop (i + 1)) := by
    intro j
    induction j with
    | zero => intro hj p h1 h2 h3 i hi; exact h3 i (Nat.zero_le _) hi
    | succ j ih =>
      intro hj p h1 h2 h3 i hi
      simp only [rs, List.foldl_cons]
      refine ih (by omega) _ (by simpa using h1) ?_ ?_ i hi
      · simp only [h2]
        rw [prod_drop (show j < ls.length by omega), Int.mul_comm]
        have := may_drop hm j
        rw [prod_drop (show j < ls.length by omega)] at this
        exact IntWalk.wrap64_in _ ⟨by omega, by omega⟩
      · intro k k1 k2
        simp only
        by_cases e : j = k
        · subst e; rw [set_getD_self (by omega), h2]
        · rw [set_getD_ne e]; exact h3 k (by omega) k2
  refine ext_getD (by rw [stf_len, stl_len]) fun k hk => ?_
  rw [stf_len] at hk
  rw [stl_getD ls k hk]
  exact this ls.length (Nat.le_refl _) (List.replicate ls.length 0, 1) (by simp) (by simp [prod]) (fun i h1 h2 => by omega) k hk

set_option maxRecDepth 100000 in
set_option maxHeartbeats 4000000 in
theorem strides_ok (v : Value) (ls : List Int) (w : World) (h : Ld w v ls) (hm : may ls = true) :
    Calls Try.prog 11 #[v] w fun e w' => e = .returned (.tuple #[.slice (some ⟨w.heap.size, 0, none⟩) ls.length ls.length, .int .i64 0]) ∧ Blk w' w.heap.size 3 (ints (stl ls)).toArray ∧ Below w.heap.size w w' := by
  obtain ⟨i0, hi0, hz0, hz1, hz2⟩ := info_parts infoI
  have CK := Lib.hid (check_ok v ls w h hm)
  obtain ⟨o, c, rfl, _, hx⟩ := h
  have HX := Lib.hid hx
  have hl := may_len hm
  have HE := Lib.hid (stf_end hm)
  clear hx hm
  have mk : (Instr.makeSlice 23 (.int .i64 (ls.length : Int)) (.int .i64 (ls.length : Int))).run Try.prog w = .ok (.slice (some ⟨w.heap.size, 0, none⟩) ls.length ls.length) (w.alloc (.cells (madeCells #[.int .i64 0] ls.length) 3)) := by
    have := run_make (w := w) 23 3 i0 (.int .i64 0) Try.underlying23 hi0 hz0 .i64 .i64 ls.length ls.length (by omega) (by omega) (by rw [hz2]; omega) (by omega)
    rw [this, hz1]; simp [Value.cells]
  rw [made_ints] at mk
  refine (callsIn_wide (n := 9)).1 ?_
  refine callsIn_of_wp_marks Try.func11 rfl trivial ?_
  simp only [Try.ntmps11, List.size_toArray, List.length_cons, List.length_nil, Nat.reduceAdd, Nat.reduceSub, Array.replicate_succ, Array.replicate_zero, List.push_toArray, List.append_toArray, List.nil_append, List.cons_append]
  refine wpIn_wide.2 ?_
  go_wp2_with (first | (go_at_call 21; (with_reducible refine CK.out.mono ?_); rintro e w' ⟨rfl, rfl⟩) | (go_at_call 32; (with_reducible refine (backs_any _ _ _ _).mono ?_); rintro e w3 ⟨rfl, rfl⟩))
  have b1 : Boxed ((((w.alloc (Obj.cells (ints (List.replicate ls.length 0)).toArray 3)).alloc (Obj.cells #[Value.slice (some ⟨w.heap.size, 0, none⟩) ls.length ls.length] 23)).alloc (Obj.cells #[Value.int IntKind.i64 1] 3)).alloc (Obj.cells #[Value.slice o ls.length c] 23)) (w.heap.size + 1) 23 (.slice (some ⟨w.heap.size, 0, none⟩) ls.length ls.length) := by
    have := ((Boxed.new (w.alloc (Obj.cells (ints (List.replicate ls.length 0)).toArray 3)) 23 (Value.slice (some ⟨w.heap.size, 0, none⟩) ls.length ls.length)).alloc (Obj.cells #[Value.int IntKind.i64 1] 3)).alloc (Obj.cells #[Value.slice o ls.length c] 23)
    rwa [World.size_alloc] at this
  have b2 : Boxed ((((w.alloc (Obj.cells (ints (List.replicate ls.length 0)).toArray 3)).alloc (Obj.cells #[Value.slice (some ⟨w.heap.size, 0, none⟩) ls.length ls.length] 23)).alloc (Obj.cells #[Value.int IntKind.i64 1] 3)).alloc (Obj.cells #[Value.slice o ls.length c] 23)) (w.heap.size + 2) 3 (.int .i64 1) := by
    have := (Boxed.new ((w.alloc (Obj.cells (ints (List.replicate ls.length 0)).toArray 3)).alloc (Obj.cells #[Value.slice (some ⟨w.heap.size, 0, none⟩) ls.length ls.length] 23)) 3 (Value.int IntKind.i64 1)).alloc (Obj.cells #[Value.slice o ls.length c] 23)
    rwa [World.size_alloc, World.size_alloc] at this
  have b3 : Boxed ((((w.alloc (Obj.cells (ints (List.replicate ls.length 0)).toArray 3)).alloc (Obj.cells #[Value.slice (some ⟨w.heap.size, 0, none⟩) ls.length ls.length] 23)).alloc (Obj.cells #[Value.int IntKind.i64 1] 3)).alloc (Obj.cells #[Value.slice o ls.length c] 23)) (w.heap.size + 3) 23 (.slice o ls.length c) := by
    have := Boxed.new (((w.alloc (Obj.cells (ints (List.replicate ls.length 0)).toArray 3)).alloc (Obj.cells #[Value.slice (some ⟨w.heap.size, 0, none⟩) ls.length ls.length] 23)).alloc (Obj.cells #[Value.int IntKind.i64 1] 3)) 23 (Value.slice o ls.length c)
    rwa [World.size_alloc, World.size_alloc, World.size_alloc] at this
  have b0 := (((Blk.new w 3 (ints (List.replicate ls.length 0)).toArray).alloc (Obj.cells #[Value.slice (some ⟨w.heap.size, 0, none⟩) ls.length ls.length] 23)).alloc (Obj.cells #[Value.int IntKind.i64 1] 3)).alloc (Obj.cells #[Value.slice o ls.length c] 23)
  have bB : Below w.heap.size w ((((w.alloc (Obj.cells (ints (List.replicate ls.length 0)).toArray 3)).alloc (Obj.cells #[Value.slice (some ⟨w.heap.size, 0, none⟩) ls.length ls.length] 23)).alloc (Obj.cells #[Value.int IntKind.i64 1] 3)).alloc (Obj.cells #[Value.slice o ls.length c] 23)) :=
    ((((Below.refl _ _).alloc (Nat.le_refl _) _).alloc (by simp) _).alloc (by simp; omega) _).alloc (by simp; omega) _
  have bS : w.heap.size + 4 = ((((w.alloc (Obj.cells (ints (List.replicate ls.length 0)).toArray 3)).alloc (Obj.cells #[Value.slice (some ⟨w.heap.size, 0, none⟩) ls.length ls.length] 23)).alloc (Obj.cells #[Value.int IntKind.i64 1] 3)).alloc (Obj.cells #[Value.slice o ls.length c] 23)).heap.size := by simp
  generalize (((w.alloc (Obj.cells (ints (List.replicate ls.length 0)).toArray 3)).alloc (Obj.cells #[Value.slice (some ⟨w.heap.size, 0, none⟩) ls.length ls.length] 23)).alloc (Obj.cells #[Value.int IntKind.i64 1] 3)).alloc (Obj.cells #[Value.slice o ls.length c] 23) = w3 at *
  refine (wpIn_wide (n := 9)).1 ?_
  refine wpIn_rangeFunc_ownG (F := Fence.wide) (n := 9) rfl (by decide) (gf := 40) (lb := #[.pointer (some ⟨w.heap.size + 1 + 1 + 1, 0, none⟩)]) rfl trivial (enters_of Try.func40 (by kernel_rfl) rfl)
    (back_stops Fence.wide 8 trivial rfl (by decide) (w.heap.size + 1 + 1 + 1) w.heap.size o c ls (by omega) w3 (by omega) (by omega) b3.cell (fun i hi => by
      obtain ⟨b, f, e, hb, hc⟩ := HX.out i hi
      exact ⟨b, f, e, hb, (bB.cell (p := ⟨b, f + i, none⟩) hb).trans hc⟩)) KeepB.trans (KeepB.put (by omega) (by omega)) (Below.refl _ _) (fun _ => rfl)
    (fun pre W => Boxed W (w.heap.size + 1) 23 (.slice (some ⟨w.heap.size, 0, none⟩) ls.length ls.length) ∧ Boxed W (w.heap.size + 2) 3 (.int .i64 (stf ls pre).2) ∧ Blk W w.heap.size 3 (ints (stf ls pre).1).toArray ∧ Below w.heap.size w W)
    (fun _ _ _ => False)
    (OwnFrom.and (Own.from (boxed_own _ _ (fun _ => _)) _) (OwnFrom.and (Own.from (boxed_own _ _ (fun pre => .int .i64 (stf ls pre).2)) _) (OwnFrom.and (Own.from (blk_own _ _ (fun pre => (ints (stf ls pre).1).toArray)) _) (ownFrom_below (Nat.le_refl _) (by omega)))))
    (fun _ _ _ _ _ hs _ _ => hs)
    ⟨b1, b2, b0, bB⟩ ?a1 ?assign ?body ?done ?stop
  case assign =>
    intro l x W K hK
    unfold pr
    gi_wp2
    exact hK
  case stop =>
    rintro D c pre W _ _ h _
    exact h.elim
  case body =>
    rintro l pre x W ⟨g1, g2, g3, g4⟩ hlt
    have SN0 := stf_snoc ls pre x
    have hL := stf_len ls pre
    obtain ⟨j, hj⟩ := x
    have ed : ls.getD j 0 = ls[j] := by simp [List.getD, List.getElem?_eq_getElem hj]
    simp only [ed] at SN0
    have SN := Lib.hid SN0
    clear SN0 ed
    have c1 := g1.cell
    have c2 := g2.cell
    have f2 := g2.frozen
    have c3 := g3.cell j
    rw [ints_at (by omega)] at c3
    have f3 := g3.frozen j
    have hBs := g4.size
    generalize hP : stf ls pre = P at *
    have HP := Lib.hid (And.intro hP hL)
    clear hP hL
    generalize P.1.getD j 0 = y at *
    gi_wp2
    have e2 : w.heap.size + 1 + 1 = w.heap.size + 2 := by omega
    have s1 := (boxed_at g1 (p := ⟨w.heap.size, j, none⟩) (by show w.heap.size + 1 ≠ w.heap.size; omega) (.int .i64 P.2)).other (B' := w.heap.size + 1 + 1) (by omega) (.int .i64 (wrap64 (P.2 * ls[j])))
    have s2 := (boxed_at g2 (p := ⟨w.heap.size, j, none⟩) (by show w.heap.size + 2 ≠ w.heap.size; omega) (.int .i64 P.2)).set (.int .i64 (wrap64 (P.2 * ls[j])))
    have s3 := (g3.put j P.2).box (B' := w.heap.size + 1 + 1) (by omega) (.int .i64 (wrap64 (P.2 * ls[j])))
    refine ⟨((KeepsOthers.setCell _ _ _).trans (KeepsOthers.setCell _ _ _)).from _, (KeepB.set (by show w.heap.size ≠ _; omega) (Nat.le_refl _) _).trans (KeepB.set (by show w.heap.size + 1 + 1 ≠ _; omega) (by show w.heap.size ≤ w.heap.size + 1 + 1; omega) _), s1, ?_, ?_, (g4.setCell (Nat.le_refl _) _).setCell (by show w.heap.size ≤ w.heap.size + 1 + 1; omega) _⟩
    · rw [SN.out]; exact s2
    · rw [SN.out]; exact s3
  case done =>
    rintro D ys W hD rfl ⟨g1, g2, g3, g4⟩ hK
    have c1 := g1.cell
    have hfin := g4.trans (belowK_b (w := w) (Nat.le_refl _) W D _ (.deferred none) (by omega) hK rfl rfl)
    have g5 : Blk (W.putObj D (.deferred none)) w.heap.size 3 (ints (stl ls)).toArray := by
      rw [← HE.out]
      exact g3.kept (grownBy_putObj' W D _) (by intro e; cases e; have := g3.lt; omega)
    clear g3
    go_wp2
    refine ⟨by simp, .inl ⟨_, _, rfl, run_takeDeferred hK, ?_⟩⟩
    exact ⟨_, results_tmp2 rfl _ _ _, rfl, g5, hfin⟩
end Go.Proofs.Yteplhlmdaabpaaa
