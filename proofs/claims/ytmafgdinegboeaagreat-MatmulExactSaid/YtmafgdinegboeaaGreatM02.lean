/-
  
  
  
  
  
  
  
  
-/
import Derived.Laws.MakeOwn
import Derived.OwnWalk
import Derived.Outline
import Derived.WalkMore
import Derived.Deep.QuietTactic
import Derived.BigQuiet
import Derived.Laws.AppendOwn
import Derived.Test.YtmafgdinegboeaaGreatM01
namespace Go.Proofs.YtmafgdinegboeaaGreat
open Go.RowKit Go.Shelf
attribute [local go_sem] Oper.semAt_some

theorem infoI : (Tryz.prog.info? 3).map (fun i => (i.zero, i.size, i.bytes)) = some (some (.int .i64 0), 1, 8) := by kernel_rfl
theorem Blk.kept {W W' : World} {row : Option Nat} {B : Nat} {t : TypeId} {cs : Array Value} (h : Blk W B t cs) (hg : W.grownBy W' row) (hne : some B ≠ row) : Blk W' B t cs := (hg.block B h.lt hne).trans h
theorem blk_own {β : Type} (B : Nat) (t : TypeId) (f : β → Array Value) : Own (fun s W => Blk W B t (f s)) := fun s X Y row hs hg hrow =>
  hs.kept hg fun e => by
    obtain ⟨o, ho, hc⟩ := hrow B e.symm
    rw [show X.heap[B]? = _ from hs] at ho
    cases ho
    cases hc
theorem boxed_at {W : World} {B : Nat} {t : TypeId} {v : Value} (h : Boxed W B t v) {p : Addr} (hp : B ≠ p.block) (u : Value) : Boxed (W.setCell p u) B t v := (Below.heap_setCell W p u B hp).trans h

theorem Blk.box {W : World} {B B' : Nat} {t : TypeId} {cs : Array Value} (h : Blk W B t cs) (hne : B ≠ B') (u : Value) : Blk (W.setCell ⟨B', 0, none⟩ u) B t cs := h.far (p := ⟨B', 0, none⟩) hne u
theorem KeepB.set {n0 B : Nat} {W : World} {p : Addr} (hp : p.block ≠ B) (hn : n0 ≤ p.block) (u : Value) : KeepB n0 B W (W.setCell p u) :=
  ⟨Below.heap_setCell W p u B (fun e => hp e.symm), fun k hk => Below.heap_setCell W p u k (by omega)⟩

def stf (ls : List Int) (pre : List (Fin ls.length)) : List Int × Int := pre.foldl (fun p x => (p.1.set x.1 p.2, wrap64 (p.2 * ls.getD x.1 0))) (List.replicate ls.length 0, 1)
theorem stf_snoc (ls : List Int) (pre : List (Fin ls.length)) (x : Fin ls.length) : stf ls (pre ++ [x]) = ((stf ls pre).1.set x.1 (stf ls pre).2, wrap64 ((stf ls pre).2 * ls.getD x.1 0)) := by simp [stf]
theorem stf_len (ls : List Int) (pre : List (Fin ls.length)) : (stf ls pre).1.length = ls.length := by
  have : ∀ (pre : List (Fin ls.length)) (p : List Int × Int), p.1.length = ls.length → (pre.foldl (fun p x => (p.1.set x.1 p.2, wrap64 (p.2 * ls.getD x.1 0))) p).1.length = ls.length := by
    intro pre
    induction pre with
    | nil => intro p h; exact h
    | cons x pre ih => intro p h; exact ih _ (by simpa using h)
  exact this pre _ (by simp)
theorem stf_end {ls : List Int} (hm : may ls = true) : (stf ls (bk ls.length)).1 = stl ls := by
  have : ∀ (j : Nat) (hj : j ≤ ls.length) (p : List Int × Int), p.1.length = ls.length → p.2 = prod (ls.drop j) → (∀ i, j ≤ i → i < ls.length → p.1.getD i 0 = prod (ls.drop (i + 1))) →
      ∀ i, i < ls.length → ((rs j hj).foldl (fun p x => (p.1.set x.1 p.2, wrap64 (p.2 * ls.getD x.1 0))) p).1.getD i 0 = prod (ls.drop (i + 1)) := by
    intro j
    induction j with
    | zero => intro hj p h1 h2 h3 i hi; exact h3 i (Nat.zero_le _) hi
    | succ j ih =>
      intro hj p h1 h2 h3 i hi
      simp only [rs, List.foldl_cons]
      refine ih (by omega) _ (by simpa using h1) ?_ ?_ i hi
      · simp only [h2]
        rw [prod_drop (show j < ls.length by omega), Int.mul_comm]
        have := may_drop hm j
        rw [prod_drop (show j < ls.length by omega)] at this
        exact IntWalk.wrap64_in _ ⟨by omega, by omega⟩
      · intro k k1 k2
        simp only
        by_cases e : j = k
        · subst e; rw [set_getD_self (by omega), h2]
        · rw [set_getD_ne e]; exact h3 k (by omega) k2
  refine ext_getD (by rw [stf_len, stl_len]) fun k hk => ?_
  rw [stf_len] at hk
  rw [stl_getD ls k hk]
  exact this ls.length (Nat.le_refl _) (List.replicate ls.length 0, 1) (by simp) (by simp [prod]) (fun i h1 h2 => by omega) k hk

set_option maxRecDepth 100000 in
set_option maxHeartbeats 4000000 in
theorem strides_ok (v : Value) (ls : List Int) (w : World) (h : Ld w v ls) (hm : may ls = true) :
    Calls Tryz.prog 164 #[v] w fun e w' => e = .returned (.tuple #[.slice (some ⟨w.heap.size, 0, none⟩) ls.length ls.length, .int .i64 0]) ∧ Blk w' w.heap.size 3 (ints (stl ls)).toArray ∧ Below w.heap.size w w' := by
  obtain ⟨i0, hi0, hz0, hz1, hz2⟩ := info_parts infoI
  have CK := Lib.hid (check_ok v ls w h hm)
  obtain ⟨o, c, rfl, _, hx⟩ := h
  have HX := Lib.hid hx
  have hl := may_len hm
  have HE := Lib.hid (stf_end hm)
  clear hx hm
  have mk : (Instr.makeSlice 23 (.int .i64 (ls.length : Int)) (.int .i64 (ls.length : Int))).run Tryz.prog w = .ok (.slice (some ⟨w.heap.size, 0, none⟩) ls.length ls.length) (w.alloc (.cells (madeCells #[.int .i64 0] ls.length) 3)) := by
    have := run_make (w := w) 23 3 i0 (.int .i64 0) Tryz.underlying23 hi0 hz0 .i64 .i64 ls.length ls.length (by omega) (by omega) (by rw [hz2]; omega) (by omega)
    rw [this, hz1]; simp [Value.cells]
  rw [made_ints] at mk
  refine (callsIn_wide (n := 9)).1 ?_
  refine callsIn_of_wp_marks Tryz.func164 rfl trivial ?_
  simp only [Tryz.ntmps164, List.size_toArray, List.length_cons, List.length_nil, Nat.reduceAdd, Nat.reduceSub, Array.replicate_succ, Array.replicate_zero, List.push_toArray, List.append_toArray, List.nil_append, List.cons_append]
  refine wpIn_wide.2 ?_
  go_wp2_with (first | (go_at_call 124; (with_reducible refine CK.out.mono ?_); rintro e w' ⟨rfl, rfl⟩) | (go_at_call 196; (with_reducible refine (backs_any _ _ _ _).mono ?_); rintro e w3 ⟨rfl, rfl⟩))
  have b1 : Boxed ((((w.alloc (Obj.cells (ints (List.replicate ls.length 0)).toArray 3)).alloc (Obj.cells #[Value.slice (some ⟨w.heap.size, 0, none⟩) ls.length ls.length] 23)).alloc (Obj.cells #[Value.int IntKind.i64 1] 3)).alloc (Obj.cells #[Value.slice o ls.length c] 23)) (w.heap.size + 1) 23 (.slice (some ⟨w.heap.size, 0, none⟩) ls.length ls.length) := by
    have := ((Boxed.new (w.alloc (Obj.cells (ints (List.replicate ls.length 0)).toArray 3)) 23 (Value.slice (some ⟨w.heap.size, 0, none⟩) ls.length ls.length)).alloc (Obj.cells #[Value.int IntKind.i64 1] 3)).alloc (Obj.cells #[Value.slice o ls.length c] 23)
    rwa [World.size_alloc] at this
  have b2 : Boxed ((((w.alloc (Obj.cells (ints (List.replicate ls.length 0)).toArray 3)).alloc (Obj.cells #[Value.slice (some ⟨w.heap.size, 0, none⟩) ls.length ls.length] 23)).alloc (Obj.cells #[Value.int IntKind.i64 1] 3)).alloc (Obj.cells #[Value.slice o ls.length c] 23)) (w.heap.size + 2) 3 (.int .i64 1) := by
    have := (Boxed.new ((w.alloc (Obj.cells (ints (List.replicate ls.length 0)).toArray 3)).alloc (Obj.cells #[Value.slice (some ⟨w.heap.size, 0, none⟩) ls.length ls.length] 23)) 3 (Value.int IntKind.i64 1)).alloc (Obj.cells #[Value.slice o ls.length c] 23)
    rwa [World.size_alloc, World.size_alloc] at this
  have b3 : Boxed ((((w.alloc (Obj.cells (ints (List.replicate ls.length 0)).toArray 3)).alloc (Obj.cells #[Value.slice (some ⟨w.heap.size, 0, none⟩) ls.length ls.length] 23)).alloc (Obj.cells #[Value.int IntKind.i64 1] 3)).alloc (Obj.cells #[Value.slice o ls.length c] 23)) (w.heap.size + 3) 23 (.slice o ls.length c) := by
    have := Boxed.new (((w.alloc (Obj.cells (ints (List.replicate ls.length 0)).toArray 3)).alloc (Obj.cells #[Value.slice (some ⟨w.heap.size, 0, none⟩) ls.length ls.length] 23)).alloc (Obj.cells #[Value.int IntKind.i64 1] 3)) 23 (Value.slice o ls.length c)
    rwa [World.size_alloc, World.size_alloc, World.size_alloc] at this
  have b0 := (((Blk.new w 3 (ints (List.replicate ls.length 0)).toArray).alloc (Obj.cells #[Value.slice (some ⟨w.heap.size, 0, none⟩) ls.length ls.length] 23)).alloc (Obj.cells #[Value.int IntKind.i64 1] 3)).alloc (Obj.cells #[Value.slice o ls.length c] 23)
  have bB : Below w.heap.size w ((((w.alloc (Obj.cells (ints (List.replicate ls.length 0)).toArray 3)).alloc (Obj.cells #[Value.slice (some ⟨w.heap.size, 0, none⟩) ls.length ls.length] 23)).alloc (Obj.cells #[Value.int IntKind.i64 1] 3)).alloc (Obj.cells #[Value.slice o ls.length c] 23)) :=
    ((((Below.refl _ _).alloc (Nat.le_refl _) _).alloc (by simp) _).alloc (by simp; omega) _).alloc (by simp; omega) _
  have bS : w.heap.size + 4 = ((((w.alloc (Obj.cells (ints (List.replicate ls.length 0)).toArray 3)).alloc (Obj.cells #[Value.slice (some ⟨w.heap.size, 0, none⟩) ls.length ls.length] 23)).alloc (Obj.cells #[Value.int IntKind.i64 1] 3)).alloc (Obj.cells #[Value.slice o ls.length c] 23)).heap.size := by simp
  generalize (((w.alloc (Obj.cells (ints (List.replicate ls.length 0)).toArray 3)).alloc (Obj.cells #[Value.slice (some ⟨w.heap.size, 0, none⟩) ls.length ls.length] 23)).alloc (Obj.cells #[Value.int IntKind.i64 1] 3)).alloc (Obj.cells #[Value.slice o ls.length c] 23) = w3 at *
  refine (wpIn_wide (n := 9)).1 ?_
  refine wpIn_rangeFunc_ownG (F := Fence.wide) (n := 9) rfl (by decide) (gf := 215) (lb := #[.pointer (some ⟨w.heap.size + 1 + 1 + 1, 0, none⟩)]) rfl trivial (enters_of Tryz.func215 (by kernel_rfl) rfl)
    (back_stops Fence.wide 8 trivial rfl (by decide) (w.heap.size + 1 + 1 + 1) w.heap.size o c ls (by omega) w3 (by omega) (by omega) b3.cell (fun i hi => by
      obtain ⟨b, f, e, hb, hc⟩ := HX.out i hi
      exact ⟨b, f, e, hb, (bB.cell (p := ⟨b, f + i, none⟩) hb).trans hc⟩)) KeepB.trans (KeepB.put (by omega) (by omega)) (Below.refl _ _) (fun _ => rfl)
    (fun pre W => Boxed W (w.heap.size + 1) 23 (.slice (some ⟨w.heap.size, 0, none⟩) ls.length ls.length) ∧ Boxed W (w.heap.size + 2) 3 (.int .i64 (stf ls pre).2) ∧ Blk W w.heap.size 3 (ints (stf ls pre).1).toArray ∧ Below w.heap.size w W)
    (fun _ _ _ => False)
    (OwnFrom.and (Own.from (boxed_own _ _ (fun _ => _)) _) (OwnFrom.and (Own.from (boxed_own _ _ (fun pre => .int .i64 (stf ls pre).2)) _) (OwnFrom.and (Own.from (blk_own _ _ (fun pre => (ints (stf ls pre).1).toArray)) _) (ownFrom_below (Nat.le_refl _) (by omega)))))
    (fun _ _ _ _ _ hs _ _ => hs)
    ⟨b1, b2, b0, bB⟩ ?a1 ?assign ?body ?done ?stop
  case assign =>
    intro l x W K hK
    unfold pr
    gi_wp2
    exact hK
  case stop =>
    rintro D c pre W _ _ h _
    exact h.elim
  case body =>
    rintro l pre x W ⟨g1, g2, g3, g4⟩ hlt
    have SN0 := stf_snoc ls pre x
    have hL := stf_len ls pre
    obtain ⟨j, hj⟩ := x
    have ed : ls.getD j 0 = ls[j] := by simp [List.getD, List.getElem?_eq_getElem hj]
    simp only [ed] at SN0
    have SN := Lib.hid SN0
    clear SN0 ed
    have c1 := g1.cell
    have c2 := g2.cell
    have f2 := g2.frozen
    have c3 := g3.cell j
    rw [ints_at (by omega)] at c3
    have f3 := g3.frozen j
    have hBs := g4.size
    generalize hP : stf ls pre = P at *
    have HP := Lib.hid (And.intro hP hL)
    clear hP hL
    generalize P.1.getD j 0 = y at *
    gi_wp2
    have e2 : w.heap.size + 1 + 1 = w.heap.size + 2 := by omega
    have s1 := (boxed_at g1 (p := ⟨w.heap.size, j, none⟩) (by show w.heap.size + 1 ≠ w.heap.size; omega) (.int .i64 P.2)).other (B' := w.heap.size + 1 + 1) (by omega) (.int .i64 (wrap64 (P.2 * ls[j])))
    have s2 := (boxed_at g2 (p := ⟨w.heap.size, j, none⟩) (by show w.heap.size + 2 ≠ w.heap.size; omega) (.int .i64 P.2)).set (.int .i64 (wrap64 (P.2 * ls[j])))
    have s3 := (g3.put j P.2).box (B' := w.heap.size + 1 + 1) (by omega) (.int .i64 (wrap64 (P.2 * ls[j])))
    refine ⟨((KeepsOthers.setCell _ _ _).trans (KeepsOthers.setCell _ _ _)).from _, (KeepB.set (by show w.heap.size ≠ _; omega) (Nat.le_refl _) _).trans (KeepB.set (by show w.heap.size + 1 + 1 ≠ _; omega) (by show w.heap.size ≤ w.heap.size + 1 + 1; omega) _), s1, ?_, ?_, (g4.setCell (Nat.le_refl _) _).setCell (by show w.heap.size ≤ w.heap.size + 1 + 1; omega) _⟩
    · rw [SN.out]; exact s2
    · rw [SN.out]; exact s3
  case done =>
    rintro D ys W hD rfl ⟨g1, g2, g3, g4⟩ hK
    have c1 := g1.cell
    have hfin := g4.trans (belowK_b (w := w) (Nat.le_refl _) W D _ (.deferred none) (by omega) hK rfl rfl)
    have g5 : Blk (W.putObj D (.deferred none)) w.heap.size 3 (ints (stl ls)).toArray := by
      rw [← HE.out]
      exact g3.kept (grownBy_putObj' W D _) (by intro e; cases e; have := g3.lt; omega)
    clear g3
    go_wp2
    refine ⟨by simp, .inl ⟨_, _, rfl, run_takeDeferred hK, ?_⟩⟩
    exact ⟨_, results_tmp2 rfl _ _ _, rfl, g5, hfin⟩
end Go.Proofs.YtmafgdinegboeaaGreat
namespace Go.Proofs.YtmafgdinegboeaaGreat
open Go.RowKit

end Go.Proofs.YtmafgdinegboeaaGreat
namespace Go.Proofs.YtmafgdinegboeaaGreat
open Go.RowKit

end Go.Proofs.YtmafgdinegboeaaGreat
namespace Go.Proofs.YtmafgdinegboeaaGreat
open Go.RowKit
theorem below_drw {B : Nat} {w W : World} (h : Below B w W) (n : Nat) : Below B w (W.drewN n) := ⟨h.os, h.tape, h.output, h.size, h.block⟩

set_option maxRecDepth 100000 in
set_option maxHeartbeats 4000000 in
theorem eqn_any (va vb : Value) (a b : List Int) (w : World) (ha : Ld w va a) (hb : Ld w vb b) (la : a.length ≤ 17592186044416) (_lb : b.length ≤ 17592186044416) :
    Calls Tryz.prog 16 #[va, vb] w fun e w' => e = .returned (.bool (decide (a = b))) ∧ Below w.heap.size w w' := by
  obtain ⟨oa, ca, rfl, _, hxa⟩ := ha
  obtain ⟨ob, cb, rfl, _, hxb⟩ := hb
  have HA := Lib.hid hxa
  have HB := Lib.hid hxb
  clear hxa hxb
  by_cases hl : a.length = b.length
  · have HL := Lib.hid hl
    have HX : Hid ((∀ k, k < a.length → a.getD k 0 = b.getD k 0) → a = b) := ext_getD hl
    rw [← hl]
    clear hl _lb
    go_enter Tryz.func16, Tryz.ntmps16
    go_wp2
    go_loopw [5] (fun s5 wr => ∃ k : Nat, k ≤ a.length ∧ s5 = .int .i64 k ∧ Hid (∀ j, j < k → a.getD j 0 = b.getD j 0) ∧ Below w.heap.size w wr) (fun s5 _ => a.length - (intOf s5).toNat)
    case atStart => exact ⟨0, Nat.zero_le _, rfl, fun j hj => absurd hj (Nat.not_lt_zero _), Below.refl _ _⟩
    case round =>
      obtain ⟨k, hk, rfl, HK, hW⟩ := hrel
      by_cases hlt : k < a.length
      · obtain ⟨b1, f1, rfl, h1, c1⟩ := HA.out k hlt
        obtain ⟨b2, f2, rfl, h2, c2⟩ := HB.out k (by have := HL.out; omega)
        have c1' : wr.cell? ⟨b1, f1 + k, none⟩ = some (.int .i64 (a.getD k 0)) := (hW.cell (p := ⟨b1, f1 + k, none⟩) h1).trans c1
        have c2' : wr.cell? ⟨b2, f2 + k, none⟩ = some (.int .i64 (b.getD k 0)) := (hW.cell (p := ⟨b2, f2 + k, none⟩) h2).trans c2
        have HG : Hid (a.getD k 0 = b.getD k 0 → ∀ j, j < k + 1 → a.getD j 0 = b.getD j 0) := fun g j hj => by
          by_cases e : j = k
          · subst e; exact g
          · exact HK.out j (by omega)
        have HN : Hid (¬ a.getD k 0 = b.getD k 0 → decide (a = b) = false) := fun g => decide_eq_false (fun e => g (by rw [e]))
        clear c1 c2
        generalize a.getD k 0 = x at *
        generalize b.getD k 0 = y at *
        by_cases g : x = y
        · subst g
          have R := Lib.hid (HG.out rfl)
          go_wp2
          go_quiet (fail)
          go_wp2
          exact ⟨⟨k + 1, by omega, by go_num, R, by first | exact below_drw hW _ | exact hW⟩, by simp [intOf]; omega⟩
        · have R := Lib.hid (HN.out g)
          have g' : (x != y) = true := by rw [bne_iff_ne]; exact g
          clear g
          go_wp2
          go_quiet (fail)
          go_wp2
          go_ret
          exact ⟨by rw [R.out]; rfl, by first | exact below_drw hW _ | exact hW⟩
      · have e : Hid (decide (a = b) = true) := decide_eq_true (HX.out fun j hj => HK.out j (by omega))
        go_wp2
        go_ret
        exact ⟨by rw [e.out]; rfl, hW⟩
  · have e : Hid (decide (a = b) = false) := decide_eq_false (fun e => hl (by rw [e]))
    have hl2 : ((a.length : Int) != (b.length : Int)) = true := by rw [bne_iff_ne]; omega
    clear hl
    go_enter Tryz.func16, Tryz.ntmps16
    go_wp2
    go_ret
    exact ⟨by rw [e.out]; rfl, Below.refl _ _⟩

def SomeC (w : World) (ls : List Int) (e : Ending) (w' : World) : Prop := ∃ o c, e = .returned (.slice o ls.length c) ∧ w'.ownsRow w.heap.size 3 1 (.slice o ls.length c) ls.length (ints ls) ∧ Ld w' (.slice o ls.length c) ls ∧ Below w.heap.size w w'
theorem Ld.of_owns {w : World} {base : Nat} {e : TypeId} {v : Value} {ls : List Int} (h : w.ownsRow base e 1 v ls.length (ints ls)) : ∃ o c, v = .slice o ls.length c ∧ Ld w (.slice o ls.length c) ls := by
  rcases h.2 with ⟨rfl, h0⟩ | ⟨g, cap, cur, rfl, _, hh, hc, _, hsz, ht⟩
  · have : ls = [] := List.eq_nil_of_length_eq_zero (by simpa using h0)
    subst this
    exact ⟨_, _, rfl, Ld.nil w⟩
  · refine ⟨_, _, rfl, _, _, rfl, hc, fun i hi => ⟨g, 0, rfl, (Array.getElem?_eq_some_iff.1 hh).1, ?_⟩⟩
    rw [Nat.zero_add, cell_of_row w g i cur e (0, 0) hh]
    have : (ints ls)[i]? = some (.int .i64 (ls.getD i 0)) := by simpa using ints_at hi
    rw [← ht, List.getElem?_take] at this
    split at this
    · simpa using this
    · cases this

set_option maxRecDepth 100000 in
set_option maxHeartbeats 4000000 in
theorem copy_any (v : Value) (ls : List Int) (w : World) (h : Ld w v ls) (ll : ls.length ≤ 17592186044000) :
    Calls Tryz.prog 58 #[v] w (SomeC w ls) := by
  obtain ⟨i0, hi0, hz0, hz1, hz2⟩ := info_parts infoI
  obtain ⟨o, c, rfl, _, hx⟩ := h
  have HX := Lib.hid hx
  clear hx
  go_enter Tryz.func58, Tryz.ntmps58
  go_wp2
  go_loopw [3, 4] (fun s3 s4 wr => ∃ k : Nat, k ≤ ls.length ∧ s4 = .int .i64 k ∧ Hid (wr.ownsRow w.heap.size 3 1 s3 k (ints (ls.take k))) ∧ Below w.heap.size w wr) (fun _ s4 _ => ls.length - (intOf s4).toNat)
  case atStart => exact ⟨0, Nat.zero_le _, rfl, World.ownsRow_nil _ _ _ _, Below.refl _ _⟩
  case round =>
    obtain ⟨k, hk, rfl, HO, hB⟩ := hrel
    have hBs := hB.size
    by_cases hlt : k < ls.length
    · obtain ⟨b, f, rfl, hb, hc⟩ := HX.out k hlt
      have hc' : wr.cell? ⟨b, f + k, none⟩ = some (.int .i64 (ls.getD k 0)) := (hB.cell (p := ⟨b, f + k, none⟩) hb).trans hc
      have E : Hid (ints (ls.take (k + 1)) = ints (ls.take k) ++ [.int .i64 (ls.getD k 0)]) := by
        unfold Hid ints
        rw [List.take_succ_eq_append_getElem hlt, List.map_append]
        simp [List.getD, List.getElem?_eq_getElem hlt]
      clear hc
      generalize ls.getD k 0 = x at *
      go_wp2_with (at_builtin; refine wpList_append_own _ rfl _ _ 23 rfl w.heap.size 3 i0 (.int .i64 0) 1 8 Tryz.underlying23 hi0 hz0 hz1 hz2 rfl (by decide) _ k (ints (ls.take k)) rfl (HO.out.alloc _) ⟨wr.heap.size, 0, none⟩ 1 1 [.int .i64 x] rfl rfl ?c1 ?c2 ?c3 ?c4 ?c5 ?_)
      case c1 => exact (cell_one_new _ _ _)
      case c2 => simp [Value.oneCell']
      case c3 => unfold maxLen; omega
      case c4 => omega
      case c5 => simp; omega
      intro v' w9 hown1 hgrow _
      have hB9 : Below w.heap.size w w9 := (hB.alloc hBs _).grown hgrow (by simp; omega) (fun j hj => (HO.out.lt j hj).1)
      have h1 : Hid (w9.ownsRow w.heap.size 3 1 v' (k + 1) (ints (ls.take (k + 1)))) := by
        rw [Hid, E.out]; exact hown1
      clear hown1 hgrow
      go_wp2
      exact ⟨⟨k + 1, by omega, by go_num, h1, hB9⟩, by simp [intOf]; omega⟩
    · obtain rfl : k = ls.length := by omega
      have h1 := HO.out
      rw [List.take_length] at h1
      obtain ⟨o2, c2, rfl, hld⟩ := Ld.of_owns h1
      have H1 := Lib.hid (And.intro h1 hld)
      clear h1 hld HO
      go_wp2
      go_ret
      exact ⟨o2, c2, rfl, H1.out.1, H1.out.2, hB⟩

theorem Blk.owns {w : World} {g base : Nat} {t : TypeId} {ls : List Int} (h : Blk w g t (ints ls).toArray) (hb : base ≤ g) (hl : ls.length ≤ 65536) : w.ownsRow base t 1 (.slice (some ⟨g, 0, none⟩) ls.length ls.length) ls.length (ints ls) := by
  refine ⟨by simp [ints], .inr ⟨g, ls.length, (ints ls).toArray, rfl, hb, h, Nat.le_refl _, by unfold maxLen; omega, by simp [ints], ?_⟩⟩
  exact List.take_of_length_le (by simp [ints])
end Go.Proofs.YtmafgdinegboeaaGreat
namespace Go.Proofs.YtmafgdinegboeaaGreat
open Go.RowKit

set_option maxRecDepth 100000 in
set_option maxHeartbeats 4000000 in
theorem eqw_any (va vb : Value) (a b : List Int) (w : World) (ha : Ld w va a) (hb : Ld w vb b) (la : a.length ≤ 17592186044416) (_lb : b.length ≤ 17592186044416) :
    Calls Tryz.prog 25 #[va, vb] w fun e w' => e = .returned (.bool (decide (a = b))) ∧ Below w.heap.size w w' := by
  obtain ⟨oa, ca, rfl, _, hxa⟩ := ha
  obtain ⟨ob, cb, rfl, _, hxb⟩ := hb
  have HA := Lib.hid hxa
  have HB := Lib.hid hxb
  clear hxa hxb
  by_cases hl : a.length = b.length
  · have HL := Lib.hid hl
    have HX : Hid ((∀ k, k < a.length → a.getD k 0 = b.getD k 0) → a = b) := ext_getD hl
    rw [← hl]
    clear hl _lb
    go_enter Tryz.func25, Tryz.ntmps25
    go_wp2
    go_loopw [5] (fun s5 wr => ∃ k : Nat, k ≤ a.length ∧ s5 = .int .i64 k ∧ Hid (∀ j, j < k → a.getD j 0 = b.getD j 0) ∧ Below w.heap.size w wr) (fun s5 _ => a.length - (intOf s5).toNat)
    case atStart => exact ⟨0, Nat.zero_le _, rfl, fun j hj => absurd hj (Nat.not_lt_zero _), Below.refl _ _⟩
    case round =>
      obtain ⟨k, hk, rfl, HK, hW⟩ := hrel
      by_cases hlt : k < a.length
      · obtain ⟨b1, f1, rfl, h1, c1⟩ := HA.out k hlt
        obtain ⟨b2, f2, rfl, h2, c2⟩ := HB.out k (by have := HL.out; omega)
        have c1' : wr.cell? ⟨b1, f1 + k, none⟩ = some (.int .i64 (a.getD k 0)) := (hW.cell (p := ⟨b1, f1 + k, none⟩) h1).trans c1
        have c2' : wr.cell? ⟨b2, f2 + k, none⟩ = some (.int .i64 (b.getD k 0)) := (hW.cell (p := ⟨b2, f2 + k, none⟩) h2).trans c2
        have HG : Hid (a.getD k 0 = b.getD k 0 → ∀ j, j < k + 1 → a.getD j 0 = b.getD j 0) := fun g j hj => by
          by_cases e : j = k
          · subst e; exact g
          · exact HK.out j (by omega)
        have HN : Hid (¬ a.getD k 0 = b.getD k 0 → decide (a = b) = false) := fun g => decide_eq_false (fun e => g (by rw [e]))
        clear c1 c2
        generalize a.getD k 0 = x at *
        generalize b.getD k 0 = y at *
        by_cases g : x = y
        · subst g
          have R := Lib.hid (HG.out rfl)
          go_wp2
          go_quiet (fail)
          go_wp2
          exact ⟨⟨k + 1, by omega, by go_num, R, by first | exact below_drw hW _ | exact hW⟩, by simp [intOf]; omega⟩
        · have R := Lib.hid (HN.out g)
          have g' : (x != y) = true := by rw [bne_iff_ne]; exact g
          clear g
          go_wp2
          go_quiet (fail)
          go_wp2
          go_ret
          exact ⟨by rw [R.out]; rfl, by first | exact below_drw hW _ | exact hW⟩
      · have e : Hid (decide (a = b) = true) := decide_eq_true (HX.out fun j hj => HK.out j (by omega))
        go_wp2
        go_ret
        exact ⟨by rw [e.out]; rfl, hW⟩
  · have e : Hid (decide (a = b) = false) := decide_eq_false (fun e => hl (by rw [e]))
    have hl2 : ((a.length : Int) != (b.length : Int)) = true := by rw [bne_iff_ne]; omega
    clear hl
    go_enter Tryz.func25, Tryz.ntmps25
    go_wp2
    go_ret
    exact ⟨by rw [e.out]; rfl, Below.refl _ _⟩

def wds (l : List Int) : Bool := l.all fun x => decide (-140737488355328 < x) && decide (x < 140737488355328)
theorem wds_at {l : List Int} (h : wds l = true) {k : Nat} (hk : k < l.length) : -140737488355328 < l.getD k 0 ∧ l.getD k 0 < 140737488355328 := by
  unfold wds at h
  rw [List.all_eq_true] at h
  have := h (l.getD k 0) (getD_mem hk)
  simpa using this
theorem wds_no {l : List Int} {k : Nat} (hk : k < l.length) (h : ¬ (-140737488355328 < l.getD k 0 ∧ l.getD k 0 < 140737488355328)) : wds l = false := by
  cases e : wds l with
  | false => rfl
  | true => exact absurd (wds_at e hk) h
theorem wds_yes {l : List Int} (h : ∀ k, k < l.length → -140737488355328 < l.getD k 0 ∧ l.getD k 0 < 140737488355328) : wds l = true := by
  unfold wds
  rw [List.all_eq_true]
  intro x hx
  obtain ⟨i, hi, rfl⟩ := List.mem_iff_getElem.1 hx
  have := h i hi
  simp only [List.getD, List.getElem?_eq_getElem hi, Option.getD_some] at this
  simpa using this
set_option maxRecDepth 100000 in
set_option maxHeartbeats 4000000 in
theorem may2_any (x : Int) (w : World) : Calls Tryz.prog 110 #[.int .i64 x] w fun e w' => e = .returned (.bool (decide (-140737488355328 < x) && decide (x < 140737488355328))) ∧ w = w' := by
  by_cases g1 : -140737488355328 < x
  · by_cases g2 : x < 140737488355328
    · have b1 := decide_eq_true g1
      have b2 := decide_eq_true g2
      rw [b1, b2]
      go_enter Tryz.func110, Tryz.ntmps110
      go_wp2
      go_ret
      exact ⟨rfl, rfl⟩
    · have b1 := decide_eq_true g1
      have b2 := decide_eq_false g2
      rw [b1, b2]
      go_enter Tryz.func110, Tryz.ntmps110
      go_wp2
      go_ret
      exact ⟨rfl, rfl⟩
  · have b1 := decide_eq_false g1
    rw [b1]
    go_enter Tryz.func110, Tryz.ntmps110
    go_wp2
    go_ret
    exact ⟨rfl, rfl⟩

set_option maxRecDepth 100000 in
set_option maxHeartbeats 4000000 in
theorem words_any (v : Value) (l : List Int) (w : World) (h : Ld w v l) (hl : l.length ≤ 9223372036854775807) : Calls Tryz.prog 47 #[v] w fun e w' => e = .returned (.bool (wds l)) ∧ w = w' := by
  obtain ⟨o, c, rfl, _, hx⟩ := h
  have HX := Lib.hid hx
  clear hx
  go_enter Tryz.func47, Tryz.ntmps47
  go_wp2
  go_loop [3] (fun s3 => ∃ k : Nat, k ≤ l.length ∧ s3 = .int .i64 k ∧ Hid (∀ j, j < k → -140737488355328 < l.getD j 0 ∧ l.getD j 0 < 140737488355328)) (fun s3 => l.length - (intOf s3).toNat)
  case atStart => exact ⟨0, Nat.zero_le _, rfl, fun j hj => absurd hj (Nat.not_lt_zero _)⟩
  case round =>
    obtain ⟨k, hk, rfl, HK⟩ := hrel
    by_cases hlt : k < l.length
    · obtain ⟨b, f, rfl, _, hc⟩ := HX.out k hlt
      have HY : Hid ((decide (-140737488355328 < l.getD k 0) && decide (l.getD k 0 < 140737488355328)) = true → ∀ j, j < k + 1 → -140737488355328 < l.getD j 0 ∧ l.getD j 0 < 140737488355328) := fun g j hj => by
        by_cases e : j = k
        · subst e; simpa using g
        · exact HK.out j (by omega)
      have HN : Hid ((decide (-140737488355328 < l.getD k 0) && decide (l.getD k 0 < 140737488355328)) = false → wds l = false) := fun g => wds_no hlt (fun e => by rw [decide_eq_true e.1, decide_eq_true e.2] at g; cases g)
      generalize l.getD k 0 = x at *
      have KM := Lib.hid (fun (W : World) => may2_any x W)
      cases gg : (decide (-140737488355328 < x) && decide (x < 140737488355328)) with
      | true =>
        rw [gg] at KM
        have R := Lib.hid (HY.out gg)
        clear gg
        go_wp2_with (go_at_call 110; (with_reducible refine (KM.out _).mono ?_); rintro e w' ⟨rfl, rfl⟩)
        exact ⟨⟨k + 1, by omega, by go_num, R⟩, by simp [intOf]; omega⟩
      | false =>
        rw [gg] at KM
        have R := Lib.hid (HN.out gg)
        clear gg
        go_wp2_with (go_at_call 110; (with_reducible refine (KM.out _).mono ?_); rintro e w' ⟨rfl, rfl⟩)
        go_ret
        exact ⟨by rw [R.out]; rfl, rfl⟩
    · obtain rfl : k = l.length := by omega
      have R := Lib.hid (wds_yes HK.out)
      clear hlt
      go_wp2
      go_ret
      exact ⟨by rw [R.out]; rfl, rfl⟩
end Go.Proofs.YtmafgdinegboeaaGreat
namespace Go.Proofs.YtmafgdinegboeaaGreat
open Go.RowKit

def wd1 (x : Int) : Bool := decide (-140737488355328 < x) && decide (x < 140737488355328)
set_option maxRecDepth 100000 in
set_option maxHeartbeats 2000000 in
theorem fxcheck_any (x : Int) (w : World) : Calls Tryz.prog 153 #[.int .i64 x] w fun e w' => e = .returned (.int .i64 (if wd1 x then 0 else 1)) ∧ w = w' := by
  by_cases g1 : x ≤ -140737488355328
  · have b1 : wd1 x = false := by unfold wd1; rw [decide_eq_false (by omega)]; rfl
    rw [b1]
    clear b1
    go_enter Tryz.func153, Tryz.ntmps153
    go_wp2
    go_ret
    exact ⟨rfl, rfl⟩
  · by_cases g2 : 140737488355328 ≤ x
    · have b1 : wd1 x = false := by unfold wd1; rw [decide_eq_false (show ¬ x < 140737488355328 by omega), Bool.and_false]
      rw [b1]
      clear b1
      go_enter Tryz.func153, Tryz.ntmps153
      go_wp2
      go_ret
      exact ⟨rfl, rfl⟩
    · have b1 : wd1 x = true := by unfold wd1; rw [decide_eq_true (by omega), decide_eq_true (by omega)]; rfl
      rw [b1]
      clear b1
      go_enter Tryz.func153, Tryz.ntmps153
      go_wp2
      go_ret
      exact ⟨rfl, rfl⟩

set_option maxRecDepth 100000 in
set_option maxHeartbeats 2000000 in
theorem noword_any (x : Int) (w : World) : Calls Tryz.prog 207 #[.int .i64 x] w fun e w' => e = .returned (.bool (!wd1 x)) ∧ w = w' := by
  have C := Lib.hid (fxcheck_any x)
  cases g : wd1 x with
  | true =>
    rw [g] at C
    go_enter Tryz.func207, Tryz.ntmps207
    go_wp2_with (go_at_call 153; (with_reducible refine (C.out _).mono ?_); rintro e w' ⟨rfl, rfl⟩)
    go_ret
    exact ⟨rfl, rfl⟩
  | false =>
    rw [g] at C
    go_enter Tryz.func207, Tryz.ntmps207
    go_wp2_with (go_at_call 153; (with_reducible refine (C.out _).mono ?_); rintro e w' ⟨rfl, rfl⟩)
    go_ret
    exact ⟨rfl, rfl⟩

set_option maxRecDepth 100000 in
set_option maxHeartbeats 2000000 in
theorem indexf_any (v : Value) (l : List Int) (w : World) (h : Ld w v l) (hl : l.length ≤ 9223372036854775807) :
    Calls Tryz.prog 218 #[v, .func (.func 207) #[] #[]] w fun e w' => ∃ r : Int, e = .returned (.int .i64 r) ∧ Hid (decide (0 ≤ r) = !wds l) ∧ w = w' := by
  obtain ⟨o, c, rfl, _, hx⟩ := h
  have HX := Lib.hid hx
  clear hx
  go_enter Tryz.func218, Tryz.ntmps218
  go_wp2
  go_loop [8] (fun s8 => ∃ k : Nat, k ≤ l.length ∧ s8 = .int .i64 k ∧ Hid (∀ j, j < k → -140737488355328 < l.getD j 0 ∧ l.getD j 0 < 140737488355328)) (fun s8 => l.length - (intOf s8).toNat)
  case atStart => exact ⟨0, Nat.zero_le _, rfl, fun j hj => absurd hj (Nat.not_lt_zero _)⟩
  case round =>
    obtain ⟨k, hk, rfl, HK⟩ := hrel
    by_cases hlt : k < l.length
    · obtain ⟨b, f, rfl, _, hc⟩ := HX.out k hlt
      have HY : Hid (wd1 (l.getD k 0) = true → ∀ j, j < k + 1 → -140737488355328 < l.getD j 0 ∧ l.getD j 0 < 140737488355328) := fun g j hj => by
        by_cases e : j = k
        · subst e; simpa [wd1] using g
        · exact HK.out j (by omega)
      have HN : Hid (wd1 (l.getD k 0) = false → wds l = false) := fun g => wds_no hlt (fun e => by unfold wd1 at g; rw [decide_eq_true e.1, decide_eq_true e.2] at g; cases g)
      generalize l.getD k 0 = x at *
      have KM := Lib.hid (fun (W : World) => noword_any x W)
      cases gg : wd1 x with
      | true =>
        rw [gg] at KM
        have R := Lib.hid (HY.out gg)
        clear gg
        go_wp2_with (go_at_call 207; (with_reducible refine (KM.out _).mono ?_); rintro e w' ⟨rfl, rfl⟩)
        exact ⟨⟨k + 1, by omega, by go_num, R⟩, by simp [intOf]; omega⟩
      | false =>
        rw [gg] at KM
        have R := Lib.hid (HN.out gg)
        clear gg
        go_wp2_with (go_at_call 207; (with_reducible refine (KM.out _).mono ?_); rintro e w' ⟨rfl, rfl⟩)
        go_ret
        exact ⟨k, rfl, by rw [Hid, R.out, decide_eq_true (by omega)]; rfl, rfl⟩
    · obtain rfl : k = l.length := by omega
      have R := Lib.hid (wds_yes HK.out)
      clear hlt
      go_wp2
      go_ret
      exact ⟨-1, rfl, by rw [Hid, R.out]; rfl, rfl⟩
set_option maxRecDepth 100000 in
set_option maxHeartbeats 2000000 in
theorem containsf_any (v : Value) (l : List Int) (w : World) (h : Ld w v l) (hl : l.length ≤ 9223372036854775807) :
    Calls Tryz.prog 206 #[v, .func (.func 207) #[] #[]] w fun e w' => e = .returned (.bool (!wds l)) ∧ w = w' := by
  have C := Lib.hid (indexf_any v l w h hl)
  clear h hl
  go_enter Tryz.func206, Tryz.ntmps206
  go_wp2_with (go_at_call 218; (with_reducible refine C.out.mono ?_); rintro e w' ⟨r, rfl, hr, rfl⟩)
  go_ret
  exact ⟨by rw [hr.out]; rfl, rfl⟩
set_option maxRecDepth 100000 in
set_option maxHeartbeats 2000000 in
theorem arewords_any (v : Value) (l : List Int) (w : World) (h : Ld w v l) (hl : l.length ≤ 9223372036854775807) :
    Calls Tryz.prog 167 #[v] w fun e w' => e = .returned (.bool (wds l)) ∧ w = w' := by
  have C := Lib.hid (containsf_any v l w h hl)
  clear h hl
  go_enter Tryz.func167, Tryz.ntmps167
  go_wp2_with (go_at_call 206; (with_reducible refine C.out.mono ?_); rintro e w' ⟨rfl, rfl⟩)
  go_ret
  exact ⟨by simp, rfl⟩

def tnb (ts tds : List Int) : Bool := may ts && decide ((tds.length : Int) = prod ts) && wds tds
end Go.Proofs.YtmafgdinegboeaaGreat
namespace Go.Proofs.YtmafgdinegboeaaGreat

def dot : List Int → List Int → Int
  | s :: r, i :: t => i * s + dot r t
  | _, _ => 0
def far : List Int → List Int → Int
  | s :: r, d :: t => (d - 1) * s + far r t
  | _, _ => 0
def sts (st : List Int) : Prop := ∀ s ∈ st, 0 ≤ s ∧ s ≤ 65536
def Vw (sh st : List Int) (off n : Int) : Prop := may sh = true ∧ st.length = sh.length ∧ sts st ∧ 0 ≤ off ∧ n ≤ 65536 ∧ off < n ∧ off + far st sh < n
theorem dot_bd : ∀ {st sh i : List Int}, st.length = sh.length → sts st → inx sh i = true → 0 ≤ dot st i ∧ dot st i ≤ far st sh
  | [], [], [], _, _, _ => by simp [dot, far]
  | s :: r, d :: t, x :: u, hl, hs, hi => by
    simp only [inx, Bool.and_eq_true, decide_eq_true_eq] at hi
    obtain ⟨⟨a, b⟩, c⟩ := hi
    have h1 := (hs s (List.mem_cons_self ..)).1
    have ih := dot_bd (st := r) (sh := t) (i := u) (by simpa using hl) (fun y hy => hs y (List.mem_cons_of_mem _ hy)) c
    have h2 := Int.mul_nonneg a h1
    have h3 := Int.mul_le_mul_of_nonneg_right (show x ≤ d - 1 by omega) h1
    simp only [dot, far]
    omega
  | [], _ :: _, _, h, _, _ => by simp at h
  | _ :: _, [], _, h, _, _ => by simp at h
  | [], [], _ :: _, _, _, h => by simp [inx] at h
  | _ :: _, _ :: _, [], _, _, h => by simp [inx] at h
theorem far_nn : ∀ {st sh : List Int}, sts st → pos sh → 0 ≤ far st sh
  | [], _, _, _ => by simp [far]
  | _ :: _, [], _, _ => by simp [far]
  | s :: r, d :: t, hs, hp => by
    have h1 := (hs s (List.mem_cons_self ..)).1
    have h2 := hp d (List.mem_cons_self ..)
    have ih := far_nn (st := r) (sh := t) (fun y hy => hs y (List.mem_cons_of_mem _ hy)) (fun y hy => hp y (List.mem_cons_of_mem _ hy))
    have := Int.mul_nonneg (show 0 ≤ d - 1 by omega) h1
    simp only [far]
    omega
theorem vw_at {sh st i : List Int} {off n : Int} (h : Vw sh st off n) (hi : inx sh i = true) : 0 ≤ off + dot st i ∧ off + dot st i < n := by
  obtain ⟨_, hl, hs, h0, _, _, h2⟩ := h
  have := dot_bd hl hs hi
  omega
theorem far_stl : ∀ (sh : List Int), far (stl sh) sh = prod sh - 1
  | [] => rfl
  | d :: r => by
    simp only [stl, far, prod, far_stl r, Int.sub_mul]
    omega
theorem dot_step {st i : List Int} {k : Nat} (h : st.length = i.length) (hk : k < st.length) : dot (st.drop k) (i.drop k) = i.getD k 0 * st.getD k 0 + dot (st.drop (k + 1)) (i.drop (k + 1)) := by
  rw [drop_getD hk, drop_getD (show k < i.length by omega)]; rfl
theorem far_step {st sh : List Int} {k : Nat} (h : st.length = sh.length) (hk : k < st.length) : far (st.drop k) (sh.drop k) = (sh.getD k 0 - 1) * st.getD k 0 + far (st.drop (k + 1)) (sh.drop (k + 1)) := by
  rw [drop_getD hk, drop_getD (show k < sh.length by omega)]; rfl
end Go.Proofs.YtmafgdinegboeaaGreat
namespace Go.Proofs.YtmafgdinegboeaaGreat

def stb : List Int → Bool
  | [] => true
  | s :: r => decide (0 ≤ s) && decide (s ≤ 65536) && stb r
theorem stb_iff : ∀ {st : List Int}, stb st = true ↔ sts st
  | [] => by simp [stb, sts]
  | s :: r => by
    simp only [stb, Bool.and_eq_true, decide_eq_true_eq, stb_iff (st := r), sts, List.mem_cons, forall_eq_or_imp, and_assoc]
def sty (sh st : List Int) (off n : Int) : Bool := decide (0 ≤ off) && decide (off < n) && stb st && decide (off + far st sh < n)
def vwb (sh st : List Int) (off n : Int) : Bool := may sh && decide (st.length = sh.length) && decide (n ≤ 65536) && sty sh st off n
theorem vwb_iff {sh st : List Int} {off n : Int} : vwb sh st off n = true ↔ Vw sh st off n := by
  unfold vwb sty Vw
  simp only [Bool.and_eq_true, decide_eq_true_eq, stb_iff]
  constructor
  · rintro ⟨⟨⟨a, b⟩, c⟩, ⟨⟨d, e⟩, f⟩, g⟩; exact ⟨a, b, f, d, c, e, g⟩
  · rintro ⟨a, b, f, d, c, e, g⟩; exact ⟨⟨⟨a, b⟩, c⟩, ⟨⟨d, e⟩, f⟩, g⟩
theorem vwb_sty {sh st : List Int} {off n : Int} (a : may sh = true) (b : st.length = sh.length) (c : n ≤ 65536) : vwb sh st off n = sty sh st off n := by
  unfold vwb; rw [a, decide_eq_true b, decide_eq_true c]; simp
theorem vwb_no1 {sh st : List Int} {off n : Int} (a : may sh = false) : vwb sh st off n = false := by unfold vwb; rw [a]; simp
theorem vwb_no2 {sh st : List Int} {off n : Int} (a : ¬ st.length = sh.length) : vwb sh st off n = false := by unfold vwb; rw [decide_eq_false a]; simp
theorem vwb_no3 {sh st : List Int} {off n : Int} (a : ¬ n ≤ 65536) : vwb sh st off n = false := by unfold vwb; rw [decide_eq_false a]; simp
theorem sty_no1 {sh st : List Int} {off n : Int} (a : ¬ 0 ≤ off) : sty sh st off n = false := by unfold sty; rw [decide_eq_false a]; simp
theorem sty_no2 {sh st : List Int} {off n : Int} (a : ¬ off < n) : sty sh st off n = false := by unfold sty; rw [decide_eq_false a]; simp
theorem sty_no3 {sh st : List Int} {off n : Int} {k : Nat} (hk : k < st.length) (a : ¬ (0 ≤ st.getD k 0 ∧ st.getD k 0 ≤ 65536)) : sty sh st off n = false := by
  cases h : sty sh st off n with
  | false => rfl
  | true =>
    unfold sty at h
    simp only [Bool.and_eq_true, decide_eq_true_eq, stb_iff] at h
    exact absurd (h.1.2 _ (getD_mem hk)) a
def Sty (sh st : List Int) (off _n L : Int) (k : Nat) : Prop := k ≤ st.length ∧ 0 ≤ L ∧ L + far (st.drop k) (sh.drop k) = off + far st sh ∧ ∀ j, j < k → 0 ≤ st.getD j 0 ∧ st.getD j 0 ≤ 65536
theorem sty_start {sh st : List Int} {off n : Int} (a : 0 ≤ off) : Sty sh st off n off 0 := ⟨Nat.zero_le _, a, by simp, fun j hj => absurd hj (Nat.not_lt_zero _)⟩
theorem sty_step {sh st : List Int} {off n L : Int} {k : Nat} (h : Sty sh st off n L k) (hl : st.length = sh.length) (hd : pos sh) (hk : k < st.length) (h0 : 0 ≤ st.getD k 0) (h1 : st.getD k 0 ≤ 65536) : Sty sh st off n (L + (sh.getD k 0 - 1) * st.getD k 0) (k + 1) := by
  obtain ⟨a, b, c, d⟩ := h
  have hp := hd _ (getD_mem (show k < sh.length by omega))
  have := Int.mul_nonneg (show 0 ≤ sh.getD k 0 - 1 by omega) h0
  rw [far_step hl hk] at c
  refine ⟨by omega, by omega, by omega, fun j hj => ?_⟩
  by_cases e : j = k
  · subst e; exact ⟨h0, h1⟩
  · exact d j (by omega)
theorem sty_bad {sh st : List Int} {off n L : Int} {k : Nat} (h : Sty sh st off n L k) (hl : st.length = sh.length) (hd : pos sh) (hk : k < st.length) (g : n - L ≤ (sh.getD k 0 - 1) * st.getD k 0) : sty sh st off n = false := by
  cases e : sty sh st off n with
  | false => rfl
  | true =>
    unfold sty at e
    simp only [Bool.and_eq_true, decide_eq_true_eq, stb_iff] at e
    obtain ⟨a, b, c, d⟩ := h
    rw [far_step hl hk] at c
    have := far_nn (st := st.drop (k + 1)) (sh := sh.drop (k + 1)) (fun s hs => e.1.2 s (List.mem_of_mem_drop hs)) (pos_drop hd _)
    omega
theorem sty_end {sh st : List Int} {off n L : Int} {k : Nat} (h : Sty sh st off n L k) (hl : st.length = sh.length) (hk : ¬ k < st.length) (h0 : 0 ≤ off) (h1 : off < n) : sty sh st off n = decide (L < n) := by
  obtain ⟨a, b, c, d⟩ := h
  have hk : k = st.length := by omega
  subst hk
  rw [List.drop_length, hl, List.drop_length] at c
  simp only [far, Int.add_zero] at c
  unfold sty
  rw [← c, decide_eq_true h0, decide_eq_true h1, stb_iff.2 (fun s hs => by
    obtain ⟨i, hi, rfl⟩ := List.mem_iff_getElem.1 hs
    have := d i hi
    simpa [List.getD, List.getElem?_eq_getElem hi] using this)]
  simp
def axN (l : List Int) : Nat → Bool
  | 0 => true
  | n + 1 => axN l n && decide ((n : Int) ∈ l)
theorem axN_iff {l : List Int} : ∀ {n : Nat}, axN l n = true ↔ ∀ i, i < n → (i : Int) ∈ l
  | 0 => by simp [axN]
  | n + 1 => by
    simp only [axN, Bool.and_eq_true, decide_eq_true_eq, axN_iff (n := n)]
    constructor
    · rintro ⟨a, b⟩ i hi
      by_cases e : i = n
      · subst e; exact b
      · exact a i (by omega)
    · intro h; exact ⟨fun i hi => h i (by omega), h n (by omega)⟩
def axs (l : List Int) (n : Nat) : Bool := decide (l.length = n) && axN l n
theorem axs_len {l : List Int} {n : Nat} (h : axs l n = true) : l.length = n := by
  unfold axs at h
  simp only [Bool.and_eq_true, decide_eq_true_eq] at h
  exact h.1
theorem axs_perm : ∀ (n : Nat) (l : List Int), l.length = n → (∀ i, i < n → (i : Int) ∈ l) → (∀ x ∈ l, 0 ≤ x ∧ x < n) ∧ l.Nodup
  | 0, l, h, _ => by
    have : l = [] := List.eq_nil_of_length_eq_zero h
    subst this; simp
  | n + 1, l, h, hm => by
    have hn := hm n (by omega)
    have ih := axs_perm n (l.erase n) (by rw [List.length_erase_of_mem hn, h]; rfl) (fun i hi => (List.mem_erase_of_ne (by omega)).2 (hm i (by omega)))
    have hp := List.perm_cons_erase hn
    refine ⟨fun x hx => ?_, hp.nodup_iff.2 (List.nodup_cons.2 ⟨fun hx => ?_, ih.2⟩)⟩
    · rcases List.mem_cons.1 (hp.mem_iff.1 hx) with rfl | hx
      · omega
      · have := ih.1 x hx; omega
    · have := ih.1 _ hx; omega
theorem axs_all {l : List Int} {n : Nat} (h : axs l n = true) : (∀ x ∈ l, 0 ≤ x ∧ x < n) ∧ l.Nodup := by
  have hl := axs_len h
  unfold axs at h
  simp only [Bool.and_eq_true, axN_iff] at h
  exact axs_perm n l hl h.2
theorem axs_at {l : List Int} {n k : Nat} (h : axs l n = true) (hk : k < l.length) : ∃ a : Nat, l.getD k 0 = (a : Int) ∧ a < n := by
  have := (axs_all h).1 _ (getD_mem hk)
  exact ⟨(l.getD k 0).toNat, by omega, by omega⟩
def trl (l ax : List Int) : List Int := ax.map fun a => l.getD a.toNat 0
theorem trl_len (l ax : List Int) : (trl l ax).length = ax.length := by simp [trl]
theorem trl_getD {l ax : List Int} {k : Nat} (h : k < ax.length) : (trl l ax).getD k 0 = l.getD (ax.getD k 0).toNat 0 := by simp [trl, List.getD, List.getElem?_eq_getElem h]
theorem trl_snoc {l ax : List Int} {k a : Nat} (h : k < ax.length) (e : ax.getD k 0 = (a : Int)) : (trl l ax).take (k + 1) = (trl l ax).take k ++ [l.getD a 0] := by
  have hk : k < (trl l ax).length := by rw [trl_len]; exact h
  rw [List.take_succ_eq_append_getElem hk]
  have := trl_getD (l := l) h
  rw [e, Int.toNat_natCast] at this
  rw [List.getD_eq_getElem?_getD, List.getElem?_eq_getElem hk] at this
  rw [← this]; rfl

def tre (sh st : List Int) (off : Int) (ax : List Int) : Int := if vwb sh st off 65536 then (if axs ax sh.length then 0 else 2) else 1
def ofe (s : List Int) : Int := if may s then 0 else 1
def unl (e : Int) (l : List Int) : List Int := if e = 0 then l else []
def unn (e n : Int) : Int := if e = 0 then n else 0
end Go.Proofs.YtmafgdinegboeaaGreat
