/-
  The reference's Left and Into: what is left of a shape, and where a place goes.
  What each law of package reduce ends with: a sum.
  The reference's sums and means.
  The reference's sums and means, whole.
-/
import Derived.Deep.AppendLies
import Derived.Test.YtmafgdinegboeaaGreatM13
import Derived.Test.YtmafgdinegboeaaGreatM15
import Derived.Test.YtmafgdinegboeaaGreatM16
import Derived.Test.YtmafgdinegboeaaGreatM19
import Derived.Test.YtmafgdinegboeaaGreatM21
import Derived.Test.YtmafgdinegboeaaGreatM22
namespace Go.Proofs.YtmafgdinegboeaaGreat
open Go.RowKit Go.Shelf

set_option maxRecDepth 100000 in
set_option maxHeartbeats 4000000 in
theorem rleft_any (vs va : Value) (s ax : List Int) (w : World) (hs : Ld w vs s) (ha : Ld w va ax) (ls : s.length ≤ 4) (la : ax.length ≤ 17592186044416) :
    Calls Tryz.prog 93 #[vs, va] w fun e w' => ∃ v, e = .returned v ∧ Ld w' v (lf s ax 0) ∧ Below w.heap.size w w' := by
  obtain ⟨i0, hi0, hz0, hz1, hz2⟩ := info_parts infoI
  have CI := Lib.hid (fun (W : World) (hW : Below w.heap.size w W) (x : Int) => rin_any va ax x W (ha.below hW) la)
  obtain ⟨os, cs, rfl, _, hxs⟩ := hs
  obtain ⟨oa, ca, rfl, _, _⟩ := ha
  have HS := Lib.hid hxs
  clear hxs
  go_enter Tryz.func93, Tryz.ntmps93
  go_wp2
  go_loopw [5, 6] (fun s5 s6 wQ => ∃ k : Nat, k ≤ s.length ∧ s6 = .int .i64 k ∧ Hid (wQ.ownsRow w.heap.size 3 1 s5 (lf (s.take k) ax 0).length (ints (lf (s.take k) ax 0))) ∧ Hid (Below w.heap.size w wQ)) (fun _ s6 _ => s.length - (intOf s6).toNat)
  case atStart => exact ⟨0, Nat.zero_le _, rfl, Lib.hid (World.ownsRow_nil _ _ _ _), Lib.hid (Below.refl _ _)⟩
  case round =>
    obtain ⟨k, hk, rfl, HO, HB⟩ := hrel
    have hbs := HB.out.size
    by_cases hlt : k < s.length
    · obtain ⟨b, f, rfl, h1, h2⟩ := HS.out k hlt
      have c1 : wr.cell? ⟨b, f + k, none⟩ = some (.int .i64 (s.getD k 0)) := (HB.out.cell (p := ⟨b, f + k, none⟩) h1).trans h2
      have ST := Lib.hid (lf_step (ax := ax) hlt)
      have C := Lib.hid (CI.out wr HB.out k)
      have hL : (lf (s.take k) ax 0).length ≤ 4 := by have := lf_len_le ax (s.take k) 0; have := List.length_take_le k s; omega
      clear h1 h2
      generalize s.getD k 0 = d at *
      by_cases g : (k : Int) ∈ ax
      · as_aux_lemma =>
        have R : Hid (lf (s.take (k + 1)) ax 0 = lf (s.take k) ax 0) := by rw [Hid, ST.out, if_pos g, List.append_nil]
        rw [decide_eq_true g] at C
        clear g ST
        go_wp2_with (go_at_call 161; (with_reducible refine C.out.mono ?_); rintro e w' ⟨rfl, rfl⟩)
        exact ⟨⟨k + 1, by omega, by go_num, by rw [R.out]; exact HO, HB⟩, by simp [intOf]; omega⟩
      · as_aux_lemma =>
        have R : Hid (lf (s.take (k + 1)) ax 0 = lf (s.take k) ax 0 ++ [d]) := by rw [Hid, ST.out, if_neg g]
        rw [decide_eq_false g] at C
        clear g ST
        have EA : Hid (ints (lf (s.take (k + 1)) ax 0) = ints (lf (s.take k) ax 0) ++ [.int .i64 d] ∧ (lf (s.take (k + 1)) ax 0).length = (lf (s.take k) ax 0).length + 1) := Lib.hid (by rw [R.out, ints_snoc]; exact ⟨rfl, by simp⟩)
        obtain ⟨L2, hL2⟩ : ∃ L2, lf (s.take (k + 1)) ax 0 = L2 := ⟨_, rfl⟩
        rw [hL2] at EA R
        have HG := Lib.hid hL2
        clear hL2
        generalize lf (s.take k) ax 0 = L at *
        have hl0 : (0 : Int) ≤ (L.length : Int) := by omega
        go_wp2_with (first
          | (go_at_call 161; (with_reducible refine C.out.mono ?_); rintro e w' ⟨rfl, rfl⟩)
          | (at_builtin; refine wpList_append_own _ rfl _ _ 23 rfl w.heap.size 3 i0 (.int .i64 0) 1 8 Tryz.underlying23 hi0 hz0 hz1 hz2 rfl (by decide) _ L.length (ints L) rfl (HO.out.alloc _) ⟨wr.heap.size, 0, none⟩ 1 1 [.int .i64 d] rfl rfl ?c1 ?c2 ?c3 ?c4 ?c5 ?_))
        case c1 => exact (cell_one_new _ _ _)
        case c2 => simp [Value.oneCell']
        case c3 => unfold maxLen; omega
        case c4 => omega
        case c5 => simp; omega
        intro u9 w9 hown1 hgrow _
        have HB9 := Lib.hid ((HB.out.alloc hbs (.cells #[.int .i64 d] 3)).grown hgrow (by simp; omega) (fun q e => (HO.out.lt q e).1))
        have HO9 : Hid (w9.ownsRow w.heap.size 3 1 u9 L2.length (ints L2)) := Lib.hid (by rw [EA.out.1, EA.out.2]; exact hown1)
        clear hown1 hgrow
        go_wp2
        exact ⟨⟨k + 1, by omega, by go_num, by rw [HG.out]; exact HO9, HB9⟩, by simp [intOf]; omega⟩
    · as_aux_lemma =>
      obtain rfl : k = s.length := by omega
      rw [List.take_length] at HO
      obtain ⟨o5, c5, rfl⟩ := own_form1 HO.out
      have LM := Lib.hid (own_ld HO.out rfl)
      go_wp2
      go_ret
      exact ⟨_, rfl, LM.out, HB.out⟩
set_option maxRecDepth 100000 in
set_option maxHeartbeats 4000000 in
theorem rinto_any (vs va : Value) (s ax : List Int) (n : Nat) (w : World) (hs : Ld w vs s) (ha : Ld w va ax) (hm : may s = true) (hn : (n : Int) < prod s) (la : ax.length ≤ 17592186044416) :
    Calls Tryz.prog 94 #[vs, va, .int .i64 n] w fun e w' => e = .returned (.int .i64 (into s ax n)) ∧ Below w.heap.size w w' := by
  have hp := may_pos hm
  have C1 := Lib.hid (fun (W : World) (hW : Below w.heap.size w W) => rleft_any vs va s ax W (hs.below hW) (ha.below hW) (may_len hm) la)
  have C2 := Lib.hid (fun (W : World) (hW : Below w.heap.size w W) => rat_any vs s n W (hs.below hW) hm (by omega) hn)
  have C3 := Lib.hid (fun (W : World) (v : Value) (hW : Below w.heap.size w W) (hv : Ld W v (atl s n)) => rleft_any v va (atl s n) ax W hv (ha.below hW) (by rw [atl_len]; exact may_len hm) la)
  have C4 := Lib.hid (fun (W : World) (v u : Value) (hv : Ld W v (lf s ax 0)) (hu : Ld W u (lf (atl s n) ax 0)) => rindex_any v u (lf s ax 0) (lf (atl s n) ax 0) W hv hu (lf_may ax hm) (into_bd ax hp hn).1)
  obtain ⟨os, cs, rfl, _, _⟩ := hs
  obtain ⟨oa, ca, rfl, _, _⟩ := ha
  clear hm hn hp
  go_enter Tryz.func94, Tryz.ntmps94
  go_wp2_with (first
    | (go_at_call 93; (with_reducible refine (C1.out _ (Below.refl _ _)).mono ?_); clear C1; rintro e w1 ⟨v1, rfl, h1, hb1⟩; obtain ⟨o1, c1, rfl, _, _⟩ := id h1; have H1 := Lib.hid h1; have B1 := Lib.hid hb1; clear h1 hb1)
    | (go_at_call 50; (with_reducible refine (C2.out _ B1.out).mono ?_); rintro e w2 ⟨v2, rfl, h2, hb2⟩; obtain ⟨o2, c2, rfl, _, _⟩ := id h2; have H2 := Lib.hid h2; replace H1 := Lib.hid (H1.out.below hb2); replace B1 := Lib.hid (B1.out.trans (hb2.mono B1.out.size)); clear h2 hb2)
    | (go_at_call 93; (with_reducible refine (C3.out _ _ B1.out H2.out).mono ?_); clear C3; rintro e w3 ⟨v3, rfl, h3, hb3⟩; obtain ⟨o3, c3, rfl, _, _⟩ := id h3; have H3 := Lib.hid h3; replace H1 := Lib.hid (H1.out.below hb3); replace B1 := Lib.hid (B1.out.trans (hb3.mono B1.out.size)); clear h3 hb3)
    | (go_at_call 52; (with_reducible refine (C4.out _ _ _ H1.out H3.out).mono ?_); rintro e w4 ⟨rfl, hb4⟩; replace B1 := Lib.hid (B1.out.trans (hb4.mono B1.out.size)); clear hb4))
  go_ret
  exact ⟨rfl, B1.out⟩
end Go.Proofs.YtmafgdinegboeaaGreat
namespace Go.Proofs.YtmafgdinegboeaaGreat
open Go.RowKit Go.Shelf

/-- A told tensor, opened. -/
def Ty (W : World) (E : Int) (S D : List Int) (e : Ending) (w' : World) : Prop := ∃ os cs od cd, e = .returned (.tuple #[.agg #[.slice os S.length cs, .slice od D.length cd], .int .i64 E]) ∧ Ld w' (.slice os S.length cs) S ∧ Ld w' (.slice od D.length cd) D ∧ Below W.heap.size W w'
theorem num9_any (x : Int) (w : World) : Calls Tryz.prog 96 #[.int .i64 x] w fun e w' => e = .returned (.int .i64 x) ∧ w = w' := by
  go_enter Tryz.func96, Tryz.ntmps96
  go_wp2
  go_ret
  exact ⟨rfl, rfl⟩
theorem ldn {W : World} {n m : Nat} {t : TypeId} {ls : List Int} (h : W.heap.size = n) (hl : ls.length = m) : Ld (W.alloc (.cells (ints ls).toArray t)) (.slice (some ⟨n, 0, none⟩) m m) ls := by
  subst h; subst hl; exact Ld.of_blk (Blk.new W t _) (Nat.le_refl _)
theorem sum9 (W : World) (va vda vx : Value) (ha : Ld W va [2, 2]) (hda : Ld W vda [1, 2, 3, 4]) (hx : Ld W vx [0]) : Calls Tryz.prog 35 #[.agg #[va, vda], vx] W fun e w' => ∃ o c o2 c2, e = .returned (.tuple #[.agg #[.slice o 1 c, .slice o2 2 c2], .int .i64 0]) ∧ Ld w' (.slice o2 2 c2) [4, 6] ∧ Below W.heap.size W w' := by
  have h := sum_ok va vda vx [2, 2] [1, 2, 3, 4] [0] 2 W ha hda hx (by decide) (by decide) (by decide) (by decide)
  rw [show rde [2, 2] [1, 2, 3, 4] [0] 1 2 = 0 by decide, show unl 0 (lf [2, 2] [0] 0) = [2] by decide, show unl 0 (rdv [2, 2] [1, 2, 3, 4] [0] 1 2) = [4, 6] by decide] at h
  refine h.mono fun e w' hh => ?_
  obtain ⟨vs, vd, rfl, h1, h2, hb⟩ := someT_ld hh
  obtain ⟨o, c, rfl, _, _⟩ := h1
  obtain ⟨o2, c2, rfl, _, _⟩ := id h2
  exact ⟨o, c, o2, c2, rfl, h2, hb⟩
theorem eq9 (W : World) (va vb : Value) (ha : Ld W va [4, 6]) (hb : Ld W vb [4, 6]) : Calls Tryz.prog 25 #[va, vb] W fun e w' => e = .returned (.bool true) ∧ Below W.heap.size W w' := by
  have C4 := eqw_any va vb [4, 6] [4, 6] W ha hb (by decide) (by decide)
  rwa [show decide ([(4 : Int), 6] = [4, 6]) = true by decide] at C4
set_option maxRecDepth 100000 in
set_option maxHeartbeats 8000000 in
theorem wakes9_any (w : World) : Calls Tryz.prog 36 #[] w fun e w' => e = .returned (.bool true) ∧ Below w.heap.size w w' := by
  obtain ⟨w3, hw3⟩ : ∃ w3, w3 = ((w.alloc (.cells #[.int .i64 2, .int .i64 2] 3)).alloc (.cells #[.int .i64 1, .int .i64 2, .int .i64 3, .int .i64 4] 2)).alloc (.cells #[.int .i64 0] 3) := ⟨_, rfl⟩
  have hsz : w3.heap.size = w.heap.size + 3 := by rw [hw3]; simp
  have L1 : Hid (Ld w3 (.slice (some ⟨w.heap.size, 0, none⟩) 2 2) [2, 2]) := Lib.hid (by rw [hw3]; exact ((ldn (ls := [2, 2]) rfl rfl).below (al_below _)).below (al_below _))
  have L2 : Hid (Ld w3 (.slice (some ⟨w.heap.size + 1, 0, none⟩) 4 4) [1, 2, 3, 4]) := Lib.hid (by rw [hw3]; exact (ldn (ls := [1, 2, 3, 4]) (World.size_alloc _ _) rfl).below (al_below _))
  have L3 : Hid (Ld w3 (.slice (some ⟨w.heap.size + 2, 0, none⟩) 1 1) [0]) := Lib.hid (by rw [hw3]; exact ldn (ls := [0]) (by simp) rfl)
  have B3 : Hid (Below w.heap.size w w3) := Lib.hid (by rw [hw3]; exact (((Below.refl _ _).alloc (Nat.le_refl _) _).alloc (by simp) _).alloc (by simp; omega) _)
  have CS : Hid (∀ n, w3.heap.size = n → Calls Tryz.prog 35 #[.agg #[.slice (some ⟨w.heap.size, 0, none⟩) 2 2, .slice (some ⟨w.heap.size + 1, 0, none⟩) 4 4], .slice (some ⟨w.heap.size + 2, 0, none⟩) 1 1] w3 fun e w' => ∃ o c o2 c2, e = .returned (.tuple #[.agg #[.slice o 1 c, .slice o2 2 c2], .int .i64 0]) ∧ Ld w' (.slice o2 2 c2) [4, 6] ∧ Below n w3 w') := fun n hn => by
    subst hn
    exact sum9 w3 _ _ _ L1.out L2.out L3.out
  replace CS := Lib.hid (CS.out (w.heap.size + 3) hsz)
  have HW := Lib.hid hw3
  rw [hw3] at CS
  clear hw3
  go_enter Tryz.func36, Tryz.ntmps36
  go_wp2_with (first
    | (go_at_call 35; (with_reducible refine CS.out.mono ?_); rintro e w4 ⟨o4, c4, o5, c5, rfl, h4, hb4⟩; rw [← HW.out] at hb4; have B4 := Lib.hid (B3.out.trans (hb4.mono (by omega))); have H4 := Lib.hid h4; clear h4 hb4)
    | (go_at_call 25; (with_reducible refine (eq9 _ _ _ ((H4.out.below (al_below _)).below (al_below _)) (ld2 (World.size_alloc _ _))).mono ?_); rintro e w6 ⟨rfl, hb6⟩; have B6 := Lib.hid (((B4.out.alloc B4.out.size _).alloc (by have := B4.out.size; simp; omega) _).trans (hb6.mono (by have := B4.out.size; simp; omega))); clear hb6)
    | (go_at_call 96; (with_reducible refine (num9_any _ _).mono ?_); rintro e w' ⟨rfl, rfl⟩))
  go_ret
  exact ⟨rfl, B6.out⟩
end Go.Proofs.YtmafgdinegboeaaGreat
namespace Go.Proofs.YtmafgdinegboeaaGreat
open Go Go.RowKit Go.Shelf
attribute [local go_sem] Oper.semAt_some

/-- A quotient by a number, in lowest terms. -/
theorem by_quo (m : Int) (d : Nat) (gm : m.natAbs < LOW) (h1 : 1 ≤ d) (h2 : d ≤ 65536) : ∃ (p : Int) (q : Nat), p = m.tdiv (Nat.gcd m.natAbs d : Nat) ∧ q = d / Nat.gcd m.natAbs d ∧ nr p q = rd m (d : Int) ∧ q ≠ 0 ∧ p.natAbs < LOW ∧ q < LOW := by
  obtain ⟨h3, h4⟩ := lowest m (show d ≠ 0 by omega)
  have gD : d < LOW := low_of (k := 17) (show d < 2 ^ 17 by omega) (by decide)
  exact ⟨_, _, rfl, rfl, h3, h4, (low_tdiv gm gD).1, (low_tdiv gm gD).2⟩
theorem sms_low {x : Int} (h : -9223372036854775808 ≤ x ∧ x ≤ 9223372036854775807) : x.natAbs < LOW ∧ x.natAbs < MID ∧ x.natAbs < BIG := by
  have := low_of (n := x.natAbs) (k := 64) (by omega) (by decide)
  exact ⟨this, (low_big this).2.2.2.1, (low_big this).1⟩
theorem isn_two {W : World} {v : Value} {n g i j : Nat} {u0 u1 x0 x1 : Value} (h : IsN W v n) (e0 : W.cell? ⟨g, i, none⟩ = some x0) (n0 : ∀ x, x0 ≠ .int .u64 x) (e1 : W.cell? ⟨g, j, none⟩ = some x1) (n1 : ∀ x, x1 ≠ .int .u64 x) (hij : i ≠ j) : IsN ((W.setCell ⟨g, i, none⟩ u0).setCell ⟨g, j, none⟩ u1) v n :=
  (h.store e0 n0).store ((World.cell?_setCell_other _ _ _ _ (by intro h; injection h with _ h2; first | exact hij h2 | exact hij h2.symm)).trans e1) n1
theorem ldg1 {W : World} {T i : Nat} {v u : Value} {ls : List Int} (h : Ld W v ls) (hn : ∀ x : Int, W.cell? ⟨T, i, none⟩ ≠ some (.int .i64 x)) : Ld (W.setCell ⟨T, i, none⟩ u) v ls := by
  obtain ⟨o, c, rfl, hc, hx⟩ := h
  refine ⟨o, c, rfl, hc, fun j hj => ?_⟩
  obtain ⟨b, f, e, hb, hcell⟩ := hx j hj
  refine ⟨b, f, e, by simpa using hb, ?_⟩
  by_cases q : b = T ∧ f + j = i
  · obtain ⟨rfl, rfl⟩ := q
    exact absurd hcell (hn _)
  · rw [← hcell]
    exact World.cell?_setCell_other _ _ _ _ (fun e => q (by simp only [Addr.mk.injEq, and_true] at e; exact ⟨e.1.symm, e.2.symm⟩))
theorem ldg2 {W : World} {T : Nat} {x v z : Value} {ls : List Int} {o1 o2 : Option Addr} {n1 n2 c1 c2 : Nat} (hb : Blk W T 26 #[.slice o1 n1 c1, .slice o2 n2 c2]) (h : Ld W v ls) : Ld ((W.setCell ⟨T, 0, none⟩ x).setCell ⟨T, 1, none⟩ z) v ls :=
  ldg1 (ldg1 h (fun y => by rw [hb.cell 0]; simp)) (fun y => by rw [(hb.set_ 0 x).cell 1]; simp)
/-- A number of the row is written over. -/
theorem irow_put {W : World} {g M a : Nat} {F : Nat → Bool × Option Addr × Nat × Nat} {S : Nat → Int} {z : Int} {b : Bool} {o : Option Addr} {l c : Nat} (h : Irow W g M F S) (ha : a < M) (hz : IsI W (Iv b (.slice o l c)) z) :
    Irow ((W.setCell ⟨g, a * 2, none⟩ (.bool b)).setCell ⟨g, a * 2 + 1, none⟩ (.slice o l c)) g M (fun j => if j = a then (b, o, l, c) else F j) (fun j => if j = a then z else S j) := by
  have e0 : W.cell? ⟨g, a * 2, none⟩ = some (.bool (F a).1) := (h.1.cell (a * 2)).trans (ics_at ha).1
  have e1 : W.cell? ⟨g, a * 2 + 1, none⟩ = some (ssl (F a)) := (h.1.cell (a * 2 + 1)).trans (ics_at ha).2
  have hI : ∀ v n, IsN W v n → IsN ((W.setCell ⟨g, a * 2, none⟩ (.bool b)).setCell ⟨g, a * 2 + 1, none⟩ (.slice o l c)) v n := fun v n hv => isn_two hv e0 (by simp) e1 (by simp [ssl]) (by omega)
  constructor
  · have q := (h.1.set_ (a * 2) (.bool b)).set_ (a * 2 + 1) (.slice o l c)
    have e := ics_set (f := F) ha (b, o, l, c)
    rw [← e]; exact q
  · intro k hk
    by_cases e : k = a
    · subst e
      simp only [eq_self, if_true]
      obtain ⟨m, hm, hn⟩ := hz
      exact ⟨m, hm, hI _ _ hn⟩
    · simp only [if_neg e]
      obtain ⟨m, hm, hn⟩ := h.2 k hk
      exact ⟨m, hm, hI _ _ hn⟩
theorem irow_same {W : World} {g M : Nat} {F : Nat → Bool × Option Addr × Nat × Nat} {S S' : Nat → Int} (h : Irow W g M F S) (e : ∀ k, k < M → S k = S' k) : Irow W g M F S' := ⟨h.1, fun k hk => by rw [← e k hk]; exact h.2 k hk⟩
end Go.Proofs.YtmafgdinegboeaaGreat
namespace Go.Proofs.YtmafgdinegboeaaGreat
open Go Go.RowKit Go.Shelf
attribute [local go_sem] Oper.semAt_some
set_option maxRecDepth 100000 in
set_option maxHeartbeats 6000000 in
theorem rreduce_any (vs vd va : Value) (sh ds ax : List Int) (M D : Nat) (b : Bool) (w : World) (hs : Ld w vs sh) (hd : Ld w vd ds) (ha : Ld w va ax) (l3 : ax.length ≤ 17592186044416) (ht : tnb sh ds = true) (hM : (M : Int) = prod (lf sh ax 0)) (hD : D = if b = true then ds.length / M else 1) :
    Calls Tryz.prog 33 #[.agg #[vs, vd], va, .bool b] w (Ty w (rde sh ds ax (D : Nat) M) (unl (rde sh ds ax (D : Nat) M) (lf sh ax 0)) (unl (rde sh ds ax (D : Nat) M) (rdv sh ds ax (D : Nat) M))) := by
  obtain ⟨i0, hi0, hz0, hz1, hz2⟩ := info_parts infoW
  obtain ⟨iJ, hiJ, hj0, hj1, hj2⟩ := info_parts infoJ
  obtain ⟨hm, hdl, hw⟩ := tnb_parts ht
  have l4 := may_len hm
  have hp := may_prod hm
  have hM6 : 1 ≤ M ∧ M ≤ ds.length ∧ ds.length ≤ 65536 := by
    have := lf_prod ax sh 0 (may_pos hm)
    omega
  have hD6 : 1 ≤ D ∧ D ≤ 65536 := by
    rw [hD]; split
    · have h1 := Nat.div_pos hM6.2.1 hM6.1
      have h2 := Nat.div_le_self ds.length M
      omega
    · omega
  have mk : ∀ W : World, (Instr.makeSlice 141 (.int .i64 (M : Int)) (.int .i64 (M : Int))).run Tryz.prog W = .ok (.slice (some ⟨W.heap.size, 0, none⟩) M M) (W.alloc (.cells (ics (fun _ => zin) M) 95)) := fun W => by
    have := run_make (w := W) 141 95 iJ (.agg #[.bool false, .slice none 0 0]) Tryz.underlying141 hiJ hj0 .i64 .i64 M M (by omega) (by omega) (by rw [hj2]; omega) (by omega)
    rw [this, hj1]
    show _ = _
    rw [← made_zin]; simp [Value.cells]
  obtain ⟨w2, hw2⟩ : ∃ w2, w2 = (w.alloc (.cells #[vs, vd] 26)).alloc (.cells #[.slice none 0 0, .slice none 0 0] 26) := ⟨_, rfl⟩
  have hsz : w2.heap.size = w.heap.size + 2 := by rw [hw2]; simp
  have B2 : Hid (Below w.heap.size w w2) := Lib.hid (by rw [hw2]; exact ((Below.refl _ _).alloc (Nat.le_refl _) _).alloc (by simp) _)
  have K0 : Hid (Blk w2 w.heap.size 26 #[vs, vd]) := Lib.hid (by rw [hw2]; exact (Blk.new w _ _).alloc _)
  have K1 : Hid (Blk w2 (w.heap.size + 1) 26 #[.slice none 0 0, .slice none 0 0]) := Lib.hid (by rw [hw2]; exact blk_new1 w _ _ _)
  have CL := Lib.hid (rleft_any vs va sh ax w2 (hs.below B2.out) (ha.below B2.out) l4 l3)
  have CI := Lib.hid (fun (W : World) (n : Nat) (hW : Below w.heap.size w W) (hn : n < ds.length) => rinto_any vs va sh ax n W (hs.below hW) (ha.below hW) hm (by omega) l3)
  have CC : Hid (∀ (W : World) (v : Value), Ld W v (lf sh ax 0) → Calls Tryz.prog 46 #[v] W fun e w' => e = .returned (.int .i64 (M : Int)) ∧ W = w') := Lib.hid (fun W v h => by
    have := rcount_any v (lf sh ax 0) W h (may_dms (lf_may ax hm)) (by have := lf_len_le ax sh 0; omega)
    rwa [rct_may (lf_may ax hm), ← hM] at this)
  have HIB := Lib.hid (fun (n : Nat) (hn : n < ds.length) => (into_bd ax (may_pos hm) (n := n) (by omega)).2)
  have HSR := Lib.hid (fun (n m : Nat) (hn : n ≤ ds.length) => (sms_R (sh := sh) (ax := ax) (ds := ds) (n := n) (m := m) (by omega) (fun k hk => wd_mk (wds_at hw (k := k) (by omega)))).2)
  have HWD := Lib.hid (fun k (hk : k < ds.length) => wds_at hw (k := k) hk)
  have HNM := Lib.hid hM
  have HND := Lib.hid hD
  have HM6 := Lib.hid hM6
  have HD6 := Lib.hid hD6
  obtain ⟨E, hE⟩ : ∃ E, E = rde sh ds ax (D : Nat) M := ⟨_, rfl⟩
  obtain ⟨VL, hVL⟩ : ∃ VL, VL = rdv sh ds ax (D : Nat) M := ⟨_, rfl⟩
  rw [← hE, ← hVL]
  have HE := Lib.hid hE
  have HVL := Lib.hid (And.intro (show VL.length = M by rw [hVL, rdv, vls_len]) (show ∀ k, k < M → VL.take (k + 1) = VL.take k ++ [cva (sms sh ax ds ds.length) (D : Nat) k] from fun k hk => by rw [hVL]; exact vls_snoc _ hk))
  obtain ⟨o1, n1, rfl, _, _⟩ := hs
  obtain ⟨o2, n2, rfl, _, hdx⟩ := hd
  obtain ⟨o3, n3, rfl, _, _⟩ := ha
  have HDX := Lib.hid (fun k (hk : k < ds.length) => hdx k hk)
  have HW := Lib.hid hw2
  have HSZ := Lib.hid hsz
  rw [hw2] at CL
  obtain ⟨L6, hL6⟩ : ∃ L6, L6 = lf sh ax 0 := ⟨_, rfl⟩
  rw [← hL6] at CL CC ⊢
  clear hw2 hsz ht hm hdl hw hM hD hM6 hD6 hE hVL hp l4 l3 hdx hL6
  go_enter Tryz.func33, Tryz.ntmps33
  go_upto_region 2 with (go_at_call 93; (with_reducible refine CL.out.mono ?_); rintro e w3 ⟨v1, rfl, h1, hb1⟩; obtain ⟨oS, cS, rfl, _, _⟩ := id h1; rw [← HW.out] at hb1; have B3 := Lib.hid hb1; have H1 := Lib.hid h1; clear hb1 h1)
  go_upto_region 3 with (go_at_call 46; (with_reducible refine (CC.out _ _ H1.out).mono ?_); rintro e w' ⟨rfl, rfl⟩)
  obtain ⟨w4, hw4⟩ : ∃ w4, w4 = w3.alloc (.cells (ics (fun _ => zin) M) 95) := ⟨_, rfl⟩
  obtain ⟨g, hg⟩ : ∃ g, g = w3.heap.size := ⟨_, rfl⟩
  rw [← hw4, ← hg]
  have HI0 : Hid (Irow w4 g M (fun _ => zin) (sms sh ax ds 0)) := Lib.hid ⟨by rw [hw4, hg]; exact Blk.new _ _ _, fun k _ => isi_zero w4⟩
  have BG0 : Hid (Below g w3 w4) := Lib.hid (by rw [hw4, hg]; exact (Below.refl _ _).alloc (Nat.le_refl _) _)
  have KF : Hid (∀ W, Below g w3 W → Below w.heap.size w W ∧ Blk W w.heap.size 26 #[.slice o1 sh.length n1, .slice o2 ds.length n2] ∧ Blk W (w.heap.size + 1) 26 #[.slice none 0 0, .slice none 0 0] ∧ Ld W (.slice oS L6.length cS) L6) := Lib.hid (fun W hW => by
    rw [hg] at hW
    have b := B3.out
    have hs := b.size
    have e2 := HSZ.out
    exact ⟨(B2.out.trans (b.mono (by omega))).trans (hW.mono (by omega)), (K0.out.below b (by omega)).below hW (by omega), (K1.out.below b (by omega)).below hW (by omega), H1.out.below hW⟩)
  have HG : Hid (w.heap.size + 2 ≤ g) := Lib.hid (by have := B3.out.size; have := HSZ.out; omega)
  clear hw4 hg H1 B3 K0 K1 B2 HW HSZ CL CC mk
  go_wp2
  go_loopw [10] (fun s10 wr => ∃ (k : Nat) (F : Nat → Bool × Option Addr × Nat × Nat), k ≤ ds.length ∧ s10 = .int .i64 k ∧ Hid (Irow wr g M F (sms sh ax ds k)) ∧ Hid (Below g w3 wr)) (fun s10 _ => ds.length - (intOf s10).toNat)
  case atStart => exact ⟨0, fun _ => zin, Nat.zero_le _, rfl, HI0, BG0⟩
  case round =>
    clear HI0 BG0
    obtain ⟨k, F, hk, rfl, HI, HB⟩ := hrel
    have q0 := KF.out wr HB.out
    have t0 : wr.cell? ⟨w.heap.size, 0, none⟩ = some (.slice o1 sh.length n1) := q0.2.1.cell 0
    have t1 : wr.cell? ⟨w.heap.size, 1, none⟩ = some (.slice o2 ds.length n2) := q0.2.1.cell 1
    clear q0
    by_cases hlt : k < ds.length
    · as_aux_lemma =>
      obtain ⟨bD, fD, rfl, hbD, hcD⟩ := HDX.out k hlt
      obtain ⟨a, hka⟩ := Int.eq_ofNat_of_zero_le (HIB.out k hlt).1
      have HAM : Hid (a < M) := Lib.hid (by have h1 := (HIB.out k hlt).2; rw [← HNM.out] at h1; omega)
      have CIk := Lib.hid (fun (W : World) (hW : Below w.heap.size w W) => CI.out W k hW hlt)
      rw [hka] at CIk
      have HNX := Lib.hid (fun m => sms_next sh ax ds k a hka m)
      have xw := HWD.out k hlt
      have sb := HSR.out k a (by omega)
      have sl := sms_low sb
      obtain ⟨x, hx⟩ : ∃ x, x = ds.getD k 0 := ⟨_, rfl⟩
      rw [← hx] at hcD xw HNX
      have KFr := Lib.hid (fun (W : World) => ifrom_any x W (by omega) (by omega))
      have KPl := Lib.hid (fun (W : World) (u v : Value) (hu : IsI W u (sms sh ax ds k a)) (hv : IsI W v x) => iplus_any u v _ _ W hu hv sl.2.2 (sms_low (x := x) (by omega)).2.2)
      obtain ⟨ba, oa, la, ca, hFa⟩ : ∃ ba oa la ca, F a = (ba, oa, la, ca) := ⟨_, _, _, _, rfl⟩
      have HFa : Hid (∀ W, Irow W g M F (sms sh ax ds k) → IsI W (Iv ba (.slice oa la ca)) (sms sh ax ds k a) ∧ W.cell? ⟨g, a * 2, none⟩ = some (.bool ba) ∧ W.cell? ⟨g, a * 2 + 1, none⟩ = some (.slice oa la ca)) := Lib.hid (fun W h => by
        have e0 := (h.1.cell (a * 2)).trans (ics_at HAM.out).1
        have e1 := (h.1.cell (a * 2 + 1)).trans (ics_at HAM.out).2
        have e2 := h.2 a HAM.out
        rw [hFa] at e0 e1 e2
        exact ⟨e2, e0, e1⟩)
      have HXD : Hid (∀ W, Below w.heap.size w W → W.cell? ⟨bD, fD + k, none⟩ = some (.int .i64 x)) := Lib.hid (fun W hW => (hW.cell (p := ⟨bD, fD + k, none⟩) hbD).trans hcD)
      clear hx sb sl hka hcD hbD xw hFa
      go_upto_region 7 with (go_at_call 94; (with_reducible refine (CIk.out _ (KF.out _ HB.out).1).mono ?_); rintro e w5 ⟨rfl, hb5⟩; have B5 := Lib.hid hb5; clear hb5)
      have HG5 : Hid (g ≤ w5.heap.size) := Lib.hid (by have h1 := B5.out.size; have h2 := HI.out.1.lt; omega)
      have BG5 : Hid (Below g w3 w5) := Lib.hid (HB.out.trans (B5.out.mono (by have h2 := HI.out.1.lt; omega)))
      have HI5 := Lib.hid (irow_below HI.out B5.out)
      have KS : Hid (∀ W, Below w5.heap.size w5 W → W.cell? ⟨w.heap.size, 1, none⟩ = some (.slice (some ⟨bD, fD, none⟩) ds.length n2) ∧ W.cell? ⟨bD, fD + k, none⟩ = some (.int .i64 x)) := Lib.hid (fun W hW => by
        have hg := BG5.out.trans (hW.mono HG5.out)
        have q := KF.out W hg
        exact ⟨q.2.1.cell 1, HXD.out W q.1⟩)
      have KS2 : Hid (∀ (W : World) (u v : Value), Below w5.heap.size w5 W → ((W.setCell ⟨g, a * 2, none⟩ u).setCell ⟨g, a * 2 + 1, none⟩ v).cell? ⟨w.heap.size, 1, none⟩ = some (.slice (some ⟨bD, fD, none⟩) ds.length n2) ∧ ((W.setCell ⟨g, a * 2, none⟩ u).setCell ⟨g, a * 2 + 1, none⟩ v).cell? ⟨bD, fD + k, none⟩ = some (.int .i64 x)) := Lib.hid (fun W u v hW => by
        have q := KF.out _ (((BG5.out.trans (hW.mono HG5.out)).setCell (p := ⟨g, a * 2, none⟩) (Nat.le_refl _) u).setCell (p := ⟨g, a * 2 + 1, none⟩) (Nat.le_refl _) v)
        exact ⟨q.2.1.cell 1, HXD.out _ q.1⟩)
      have hkb : k ≤ 65536 := by have := HM6.out; omega
      have i1 : (k : Int) < (ds.length : Int) := by omega
      have i2 : (a : Int) < (M : Int) := by have := HAM.out; omega
      have i3 : a < M := HAM.out
      clear t0 t1 B5 HI HB
      have B_0 : Hid (Below w5.heap.size w5 w5.drew) := Lib.hid (below_drw (Below.refl _ _) 1)
      have HI6 : Hid (Irow w5.drew g M F (sms sh ax ds k)) := Lib.hid (irow_below HI5.out B_0.out)
      refine wp_region_held_drew (S := fun W => W.cell? ⟨w.heap.size, 1, none⟩ = some (.slice (some ⟨bD, fD, none⟩) ds.length n2) ∧ W.cell? ⟨bD, fD + k, none⟩ = some (.int .i64 x)) (by kernel_rfl) ?_ (fun hHeld => ?_)
      · exact KS.out _ B_0.out
      have hHd := hHeld
      generalize w5.drew = w_0 at *
      (refine wpAnyH_take (i := 0) (oi := ⟨some 36, _, _, _, _, _⟩) (v := ?v0_q1) rfl (by kernel_rfl) (by kernel_rfl) (by kernel_rfl) (fun _ _ _ h => h) (Or.inl ⟨by rfl, ?hy0_q1⟩) (by assumption) ?rest0_q1; (case hy0_q1 => ((intro w hSw); (try dsimp only at hSw); go_simp; first | done | (with_reducible rfl))))
      (try simp only [Act.put, List.setIfInBounds_toArray, List.set_cons_zero, List.set_cons_succ])
      (refine wpAnyH_take (i := 1) (oi := ⟨some 37, _, _, _, _, _⟩) (v := ?v1_q2) rfl (by kernel_rfl) (by kernel_rfl) (by kernel_rfl) (fun _ _ _ h => h) (Or.inl ⟨by rfl, ?hy1_q2⟩) (by assumption) ?rest1_q2; (case hy1_q2 => ((intro w hSw); (try dsimp only at hSw); go_simp; first | done | (with_reducible rfl))))
      (try simp only [Act.put, List.setIfInBounds_toArray, List.set_cons_zero, List.set_cons_succ])
      (refine wpAnyH_take (i := 2) (oi := ⟨some 38, _, _, _, _, _⟩) (v := ?v2_q3) rfl (by kernel_rfl) (by kernel_rfl) (by kernel_rfl) (fun _ _ _ h => h) (Or.inl ⟨by rfl, ?hy2_q3⟩) (by assumption) ?rest2_q3; (case hy2_q3 => ((intro w hSw); (try dsimp only at hSw); go_simp; first | done | (with_reducible rfl))))
      (try simp only [Act.put, List.setIfInBounds_toArray, List.set_cons_zero, List.set_cons_succ])
      (refine wpAnyH_take (i := 3) (oi := ⟨some 39, _, _, _, _, _⟩) (v := ?v3_q4) rfl (by kernel_rfl) (by kernel_rfl) (by kernel_rfl) (fun _ _ _ h => h) (Or.inl ⟨by rfl, ?hy3_q4⟩) (by assumption) ?rest3_q4; (case hy3_q4 => ((intro w hSw); (try dsimp only at hSw); go_simp; first | done | (with_reducible rfl))))
      (try simp only [Act.put, List.setIfInBounds_toArray, List.set_cons_zero, List.set_cons_succ])
      (refine wpAnyH_take (i := 4) (oi := ⟨some 40, _, _, _, _, _⟩) (v := ?v4_q5) rfl (by kernel_rfl) (by kernel_rfl) (by kernel_rfl) (fun _ _ _ h => h) (Or.inl ⟨by rfl, ?hy4_q5⟩) (by assumption) ?rest4_q5; (case hy4_q5 => ((intro w hSw); (try dsimp only at hSw); go_simp; first | done | (with_reducible rfl))))
      (try simp only [Act.put, List.setIfInBounds_toArray, List.set_cons_zero, List.set_cons_succ])
      (refine wpAnyH_take (i := 6) (oi := ⟨some 42, _, _, _, _, _⟩) (v := ?v6_q6) rfl (by kernel_rfl) (by kernel_rfl) (by kernel_rfl) (fun _ _ _ h => h) (Or.inl ⟨by rfl, ?hy6_q6⟩) (by assumption) ?rest6_q6; (case hy6_q6 => ((intro w hSw); (try dsimp only at hSw); go_simp; first | done | (with_reducible rfl))))
      (try simp only [Act.put, List.setIfInBounds_toArray, List.set_cons_zero, List.set_cons_succ])
      (refine wpAnyH_take (i := 7) (oi := ⟨some 43, _, _, _, _, _⟩) (v := ?v7_q7) rfl (by kernel_rfl) (by kernel_rfl) (by kernel_rfl) (fun _ _ _ h => h) (Or.inl ⟨by rfl, ?hy7_q7⟩) (by assumption) ?rest7_q7; (case hy7_q7 => ((intro w hSw); (try dsimp only at hSw); go_simp; first | done | (with_reducible rfl))))
      (try simp only [Act.put, List.setIfInBounds_toArray, List.set_cons_zero, List.set_cons_succ])
      (refine wpAnyH_take (i := 8) (oi := ⟨some 44, _, _, _, _, _⟩) (v := ?v8_q8) rfl (by kernel_rfl) (by kernel_rfl) (by kernel_rfl) (fun _ _ _ h => h) (Or.inl ⟨by rfl, ?hy8_q8⟩) (by assumption) ?rest8_q8; (case hy8_q8 => ((intro w hSw); (try dsimp only at hSw); go_simp; first | done | (with_reducible rfl))))
      (try simp only [Act.put, List.setIfInBounds_toArray, List.set_cons_zero, List.set_cons_succ])
      (refine wpAnyH_take (i := 9) (oi := ⟨some 45, _, _, _, _, _⟩) (v := ?v9_q9) rfl (by kernel_rfl) (by kernel_rfl) (by kernel_rfl) (fun _ _ _ h => h) (Or.inl ⟨by rfl, ?hy9_q9⟩) (by assumption) ?rest9_q9; (case hy9_q9 => ((intro w hSw); (try dsimp only at hSw); go_simp; first | done | (with_reducible rfl))))
      (try simp only [Act.put, List.setIfInBounds_toArray, List.set_cons_zero, List.set_cons_succ])
      (refine wpAnyH_take (i := 10) (oi := ⟨some 46, _, _, _, _, _⟩) (v := ?v10_q10) rfl (by kernel_rfl) (by kernel_rfl) (by kernel_rfl) (fun _ _ _ h => h) (Or.inl ⟨by rfl, ?hy10_q10⟩) (by assumption) ?rest10_q10; (case hy10_q10 => ((intro w hSw); (try dsimp only at hSw); go_simp; first | done | (with_reducible rfl))))
      (try simp only [Act.put, List.setIfInBounds_toArray, List.set_cons_zero, List.set_cons_succ])
      refine wpAnyH_ready (rs := [5, 11]) (by kernel_rfl) (by simp) ?_
      refine AllReadyH.cons (o := ⟨some 41, _, _, _, _, _⟩) rfl (fun K hK => ?_) (AllReadyH.cons (o := ⟨some 47, _, _, _, _, _⟩) rfl (fun K hK => ?_) (AllReadyH.nil))
      · have l0 := (HFa.out _ HI6.out).2.1
        have l1 := (HFa.out _ HI6.out).2.2
        go_simp
        refine hK.out _ _ ?_ (fun hHeld => ?_)
        · (try dsimp only)
          exact KS.out _ B_0.out
        clear hK K
        (try simp only [Act.put, List.setIfInBounds_toArray, List.set_cons_zero, List.set_cons_succ])
        refine wpAnyH_ready (rs := [11]) (by kernel_rfl) (by simp) ?_
        refine AllReadyH.cons (o := ⟨some 47, _, _, _, _, _⟩) rfl (fun K hK => ?_) (AllReadyH.nil)
        go_simp
        (go_at_call 53; (with_reducible refine (KFr.out _).mono ?_); rintro e w_11 ⟨vf, rfl, hf, hb⟩; obtain ⟨bf, ofr, lf_, cf, rfl, Hf⟩ := hf.open; have B_11 := Lib.hid (B_0.out.trans (hb.mono B_0.out.size)); have HI1 := Lib.hid (irow_below HI6.out hb); have HF := Lib.hid (IsI.mk Hf.out.1 Hf.out.2.1); clear hb hf Hf)
        refine hK.out _ _ ?_ (fun hHeld => ?_)
        · (try dsimp only)
          exact KS.out _ B_11.out
        clear hK K
        (try simp only [Act.put, List.setIfInBounds_toArray, List.set_cons_zero, List.set_cons_succ])
        refine wpAnyH_ready (rs := [12]) (by kernel_rfl) (by simp) ?_
        refine AllReadyH.cons (o := ⟨some 48, _, _, _, _, _⟩) rfl (fun K hK => ?_) (AllReadyH.nil)
        go_simp
        (go_at_call 54; (with_reducible refine (KPl.out _ _ _ (HFa.out _ HI1.out).1 HF.out).mono ?_); rintro e w_12 ⟨vp, rfl, hp, hb⟩; obtain ⟨bp, op, lp, cp, rfl, Hp⟩ := hp.open; have B_12 := Lib.hid (B_11.out.trans (hb.mono B_11.out.size)); have HI2 := Lib.hid (irow_below HI1.out hb); have HP := Lib.hid (IsI.mk Hp.out.1 Hp.out.2.1); clear hb hp Hp)
        refine hK.out _ _ ?_ (fun hHeld => ?_)
        · (try dsimp only)
          exact KS.out _ B_12.out
        clear hK K
        (try simp only [Act.put, List.setIfInBounds_toArray, List.set_cons_zero, List.set_cons_succ])
        (refine wpAnyH_take (i := 13) (oi := ⟨some 49, _, _, _, _, _⟩) (v := ?v13_q11) rfl (by kernel_rfl) (by kernel_rfl) (by kernel_rfl) (fun _ _ _ h => h) (Or.inl ⟨by rfl, ?hy13_q11⟩) (by assumption) ?rest13_q11; (case hy13_q11 => ((intro w hSw); (try dsimp only at hSw); go_simp; first | done | (with_reducible rfl))))
        (try simp only [Act.put, List.setIfInBounds_toArray, List.set_cons_zero, List.set_cons_succ])
        refine wpAnyH_ready (rs := [14]) (by kernel_rfl) (by simp) ?_
        refine AllReadyH.cons (o := ⟨none, _, _, _, _, _⟩) rfl (fun K hK => ?_) (AllReadyH.nil)
        have c0 := (HFa.out _ HI2.out).2.1
        have c1 := (HFa.out _ HI2.out).2.2
        have f0 := HI2.out.1.frozen (a * 2)
        have f1 := HI2.out.1.frozen (a * 2 + 1)
        unfold Iv
        go_simp
        refine hK.out _ _ ?_ (fun hHeld => ?_)
        · (try dsimp only)
          exact KS2.out _ _ _ B_12.out
        clear hK K
        (try simp only [Act.put, List.setIfInBounds_toArray, List.set_cons_zero, List.set_cons_succ])
        refine wpAnyH_done (by kernel_rfl) ?_ _
        have HI9 := Lib.hid (irow_put HI2.out HAM.out HP.out)
        have BG9 : Hid (Below g w3 ((w_12.setCell ⟨g, a * 2, none⟩ (.bool bp)).setCell ⟨g, a * 2 + 1, none⟩ (.slice op lp cp))) := Lib.hid (((BG5.out.trans (B_12.out.mono HG5.out)).setCell (p := ⟨g, a * 2, none⟩) (Nat.le_refl _) _).setCell (p := ⟨g, a * 2 + 1, none⟩) (Nat.le_refl _) _)
        clear c0 c1 f0 f1
        go_wp2
        exact ⟨⟨k + 1, _, by omega, by go_num, Lib.hid (irow_same HI9.out (fun m _ => (HNX.out m).symm)), BG9⟩, by simp [intOf]; omega⟩
      · go_simp
        (go_at_call 53; (with_reducible refine (KFr.out _).mono ?_); rintro e w_11 ⟨vf, rfl, hf, hb⟩; obtain ⟨bf, ofr, lf_, cf, rfl, Hf⟩ := hf.open; have B_11 := Lib.hid (B_0.out.trans (hb.mono B_0.out.size)); have HI1 := Lib.hid (irow_below HI6.out hb); have HF := Lib.hid (IsI.mk Hf.out.1 Hf.out.2.1); clear hb hf Hf)
        refine hK.out _ _ ?_ (fun hHeld => ?_)
        · (try dsimp only)
          exact KS.out _ B_11.out
        clear hK K
        (try simp only [Act.put, List.setIfInBounds_toArray, List.set_cons_zero, List.set_cons_succ])
        refine wpAnyH_ready (rs := [5]) (by kernel_rfl) (by simp) ?_
        refine AllReadyH.cons (o := ⟨some 41, _, _, _, _, _⟩) rfl (fun K hK => ?_) (AllReadyH.nil)
        have l0 := (HFa.out _ HI1.out).2.1
        have l1 := (HFa.out _ HI1.out).2.2
        go_simp
        refine hK.out _ _ ?_ (fun hHeld => ?_)
        · (try dsimp only)
          exact KS.out _ B_11.out
        clear hK K
        (try simp only [Act.put, List.setIfInBounds_toArray, List.set_cons_zero, List.set_cons_succ])
        refine wpAnyH_ready (rs := [12]) (by kernel_rfl) (by simp) ?_
        refine AllReadyH.cons (o := ⟨some 48, _, _, _, _, _⟩) rfl (fun K hK => ?_) (AllReadyH.nil)
        go_simp
        (go_at_call 54; (with_reducible refine (KPl.out _ _ _ (HFa.out _ HI1.out).1 HF.out).mono ?_); rintro e w_12 ⟨vp, rfl, hp, hb⟩; obtain ⟨bp, op, lp, cp, rfl, Hp⟩ := hp.open; have B_12 := Lib.hid (B_11.out.trans (hb.mono B_11.out.size)); have HI2 := Lib.hid (irow_below HI1.out hb); have HP := Lib.hid (IsI.mk Hp.out.1 Hp.out.2.1); clear hb hp Hp)
        refine hK.out _ _ ?_ (fun hHeld => ?_)
        · (try dsimp only)
          exact KS.out _ B_12.out
        clear hK K
        (try simp only [Act.put, List.setIfInBounds_toArray, List.set_cons_zero, List.set_cons_succ])
        (refine wpAnyH_take (i := 13) (oi := ⟨some 49, _, _, _, _, _⟩) (v := ?v13_q12) rfl (by kernel_rfl) (by kernel_rfl) (by kernel_rfl) (fun _ _ _ h => h) (Or.inl ⟨by rfl, ?hy13_q12⟩) (by assumption) ?rest13_q12; (case hy13_q12 => ((intro w hSw); (try dsimp only at hSw); go_simp; first | done | (with_reducible rfl))))
        (try simp only [Act.put, List.setIfInBounds_toArray, List.set_cons_zero, List.set_cons_succ])
        refine wpAnyH_ready (rs := [14]) (by kernel_rfl) (by simp) ?_
        refine AllReadyH.cons (o := ⟨none, _, _, _, _, _⟩) rfl (fun K hK => ?_) (AllReadyH.nil)
        have c0 := (HFa.out _ HI2.out).2.1
        have c1 := (HFa.out _ HI2.out).2.2
        have f0 := HI2.out.1.frozen (a * 2)
        have f1 := HI2.out.1.frozen (a * 2 + 1)
        unfold Iv
        go_simp
        refine hK.out _ _ ?_ (fun hHeld => ?_)
        · (try dsimp only)
          exact KS2.out _ _ _ B_12.out
        clear hK K
        (try simp only [Act.put, List.setIfInBounds_toArray, List.set_cons_zero, List.set_cons_succ])
        refine wpAnyH_done (by kernel_rfl) ?_ _
        have HI9 := Lib.hid (irow_put HI2.out HAM.out HP.out)
        have BG9 : Hid (Below g w3 ((w_12.setCell ⟨g, a * 2, none⟩ (.bool bp)).setCell ⟨g, a * 2 + 1, none⟩ (.slice op lp cp))) := Lib.hid (((BG5.out.trans (B_12.out.mono HG5.out)).setCell (p := ⟨g, a * 2, none⟩) (Nat.le_refl _) _).setCell (p := ⟨g, a * 2 + 1, none⟩) (Nat.le_refl _) _)
        clear c0 c1 f0 f1
        go_wp2
        exact ⟨⟨k + 1, _, by omega, by go_num, Lib.hid (irow_same HI9.out (fun m _ => (HNX.out m).symm)), BG9⟩, by simp [intOf]; omega⟩
    · as_aux_lemma =>
      obtain rfl : k = ds.length := by omega
      clear hlt hk
      obtain ⟨w9, hw9⟩ : ∃ w9, w9 = wr := ⟨_, rfl⟩
      subst hw9
      have hg0 := HI.out.1.lt
      go_upto_region 9 with fail
      obtain ⟨w6, hw6⟩ : ∃ w6, w6 = w9.alloc (.cells #[.slice oS L6.length cS, .slice none 0 0] 26) := ⟨_, rfl⟩
      obtain ⟨T8, hT8⟩ : ∃ T, T = w9.heap.size := ⟨_, rfl⟩
      rw [← hw6, ← hT8]
      have BT : Hid (Below T8 w9 w6) := Lib.hid (by rw [hw6, hT8]; exact (Below.refl _ _).alloc (Nat.le_refl _) _)
      have KT0 : Hid (Blk w6 T8 26 #[.slice oS L6.length cS, .slice none 0 0]) := Lib.hid (by rw [hw6, hT8]; exact Blk.new _ _ _)
      have HS6 : Hid (w6.heap.size = T8 + 1) := Lib.hid (by rw [hw6, hT8]; simp)
      have KG : Hid (∀ W, Below T8 w9 W → Below w.heap.size w W ∧ Blk W w.heap.size 26 #[.slice o1 sh.length n1, .slice o2 ds.length n2] ∧ Blk W (w.heap.size + 1) 26 #[.slice none 0 0, .slice none 0 0] ∧ Ld W (.slice oS L6.length cS) L6 ∧ Irow W g M F (sms sh ax ds ds.length)) := Lib.hid (fun W hW => by
        rw [hT8] at hW
        have q := KF.out W (HB.out.trans (hW.mono (Nat.le_of_lt hg0)))
        exact ⟨q.1, q.2.1, q.2.2.1, q.2.2.2, irow_below HI.out hW⟩)
      have HGT : Hid (g < T8 ∧ w.heap.size + 2 ≤ g) := Lib.hid ⟨by rw [hT8]; exact hg0, HG.out⟩
      have KNr : Hid (∀ (W : World) (j : Nat) (o1 o2 : Option Addr) (bv : Bool) (l1 c1 l2 c2 : Nat) (p : Int) (q : Nat), j < M → p = (sms sh ax ds ds.length j).tdiv (Nat.gcd (sms sh ax ds ds.length j).natAbs D : Nat) → q = D / Nat.gcd (sms sh ax ds ds.length j).natAbs D → (bv = decide (p < 0) ∧ IsN W (.slice o1 l1 c1) p.natAbs ∧ IsN W (.slice o2 l2 c2) q) → Calls Tryz.prog 55 #[Rv bv (.slice o1 l1 c1) (.slice o2 l2 c2)] W fun e w' => e = .returned (.tuple #[.int .i64 (cva (sms sh ax ds ds.length) (D : Nat) j), .int .i64 (cer (sms sh ax ds ds.length) (D : Nat) j)]) ∧ Below W.heap.size W w') := Lib.hid (fun W j o1 o2 bv l1 c1 l2 c2 p q hj hp hq hv => by
        have sl := sms_low (HSR.out ds.length j (Nat.le_refl _))
        obtain ⟨p', q', hp', hq', h1, h2, h3, h4⟩ := by_quo _ D sl.1 HD6.out.1 HD6.out.2
        rw [← hp'] at hp
        rw [← hq'] at hq
        subst hp; subst hq
        exact r2near_any bv o1 o2 l1 c1 l2 c2 _ _ _ W hv h3 h4 h2 h1)
      have KOv : Hid (∀ (W : World) (j : Nat) (u : Value), j < M → IsI W u (sms sh ax ds ds.length j) → Calls Tryz.prog 95 #[u, .int .i64 (D : Nat)] W (SomeR W ((sms sh ax ds ds.length j).tdiv (Nat.gcd (sms sh ax ds ds.length j).natAbs D : Nat)) (D / Nat.gcd (sms sh ax ds ds.length j).natAbs D))) := Lib.hid (fun W j u hj hu => over8_any u _ _ D _ W hu (sms_low (HSR.out ds.length j (Nat.le_refl _))).2.1 HD6.out.1 HD6.out.2 rfl rfl)
      clear hw6 hT8 hg0 HI HB t0 t1 KF HG CI HIB HDX HWD
      have q6 := KG.out w6 BT.out
      have t1 : w6.cell? ⟨w.heap.size, 1, none⟩ = some (.slice o2 ds.length n2) := q6.2.1.cell 1
      clear q6
      go_upto_if 52 with fail
      go_cut [13] (fun s13 wx => s13 = .int .i64 (D : Nat) ∧ Hid (wx = w6))
      case first =>
        as_aux_lemma =>
        cases b with
        | false =>
          have hD1 : D = 1 := by rw [HND.out]; rfl
          subst hD1
          go_wp2
          go_meet
          exact ⟨rfl, Lib.hid rfl⟩
        | true =>
          obtain ⟨Q, hQ⟩ : ∃ Q : Int, Q = (D : Nat) := ⟨_, rfl⟩
          have hD2 : (ds.length : Int).tdiv (M : Int) = Q := by
            rw [hQ, HND.out, if_pos rfl, Int.tdiv_eq_ediv_of_nonneg (by omega), Int.natCast_ediv]
          have hQb : Q ≤ 65536 ∧ 0 ≤ Q := by have := HD6.out; omega
          have hq2 : IntKind.i64.wrap Q = Q := IntWalk.i64_in _ (by omega)
          have hq3 : wrap64 Q = Q := IntWalk.wrap64_in _ (by omega)
          have hM0 : ¬ (M : Int) = 0 := by have := HM6.out; omega
          have hM1 : ¬ M = 0 := by omega
          have hM2 : ((M : Int) == 0) = false := by rw [beq_eq_false_iff_ne]; exact hM0
          have HQ := Lib.hid hQ
          clear hQb hQ
          go_wp2
          go_meet
          exact ⟨by rw [HQ.out], Lib.hid rfl⟩
      case rest =>
        obtain ⟨rfl, hwc⟩ := hcut
        have hwc := hwc.out
        subst hwc
        go_wp2
        go_loopw [14] (fun s14 wr => ∃ (k : Nat) (us : Value), k ≤ M ∧ s14 = .int .i64 k ∧ Hid (∀ j, j < k → cer (sms sh ax ds ds.length) (D : Nat) j = 0) ∧ Hid (Blk wr T8 26 #[.slice oS L6.length cS, us]) ∧ Hid (wr.ownsRow (T8 + 1) 2 1 us k (ints (VL.take k))) ∧ Hid (Below T8 w9 wr) ∧ Hid (T8 + 1 ≤ wr.heap.size)) (fun s14 _ => M - (intOf s14).toNat)
        case atStart => exact ⟨0, .slice none 0 0, Nat.zero_le _, rfl, Lib.hid (fun j hj => absurd hj (Nat.not_lt_zero _)), KT0, Lib.hid (World.ownsRow_nil _ _ _ _), BT, Lib.hid (Nat.le_of_eq HS6.out.symm)⟩
        case round =>
          clear KT0 BT HS6 t1
          obtain ⟨k, us, hk, rfl, HR, KT, KU, KB, KZ⟩ := hrel
          have hz := KZ.out
          have qk := KG.out wr KB.out
          have HIk := Lib.hid qk.2.2.2.2
          have t1 : wr.cell? ⟨w.heap.size, 1, none⟩ = some (.slice o2 ds.length n2) := qk.2.1.cell 1
          clear qk
          have hkb : k ≤ 65536 := by have := HM6.out; omega
          by_cases hlt : k < M
          · as_aux_lemma =>
            obtain ⟨ba, oa, la, ca, hFk⟩ : ∃ ba oa la ca, F k = (ba, oa, la, ca) := ⟨_, _, _, _, rfl⟩
            have HFk : Hid (∀ W, Irow W g M F (sms sh ax ds ds.length) → IsI W (Iv ba (.slice oa la ca)) (sms sh ax ds ds.length k) ∧ W.cell? ⟨g, k * 2, none⟩ = some (.bool ba) ∧ W.cell? ⟨g, k * 2 + 1, none⟩ = some (.slice oa la ca)) := Lib.hid (fun W h => by
              have e0 := (h.1.cell (k * 2)).trans (ics_at hlt).1
              have e1 := (h.1.cell (k * 2 + 1)).trans (ics_at hlt).2
              have e2 := h.2 k hlt
              rw [hFk] at e0 e1 e2
              exact ⟨e2, e0, e1⟩)
            have x0 := (HFk.out wr HIk.out).2.1
            have x1 := (HFk.out wr HIk.out).2.2
            have KOk := Lib.hid (fun (W : World) (u : Value) (hu : IsI W u (sms sh ax ds ds.length k)) => KOv.out W k u hlt hu)
            obtain ⟨p, hp⟩ : ∃ p, p = (sms sh ax ds ds.length k).tdiv (Nat.gcd (sms sh ax ds ds.length k).natAbs D : Nat) := ⟨_, rfl⟩
            obtain ⟨q, hq⟩ : ∃ q, q = D / Nat.gcd (sms sh ax ds ds.length k).natAbs D := ⟨_, rfl⟩
            have KNk := Lib.hid (fun (W : World) (o1 o2 : Option Addr) (bv : Bool) (l1 c1 l2 c2 : Nat) (hv : bv = decide (p < 0) ∧ IsN W (.slice o1 l1 c1) p.natAbs ∧ IsN W (.slice o2 l2 c2) q) => KNr.out W k o1 o2 bv l1 c1 l2 c2 p q hlt hp hq hv)
            rw [← hp, ← hq] at KOk
            have i1 : (k : Int) < (M : Int) := by omega
            have HLT := Lib.hid hlt
            clear hp hq hFk KNr KOv
            have EA := Lib.hid (HVL.out.2 k hlt)
            have HEF := Lib.hid (fun he => HE.out.trans (fer_first (er := cer (sms sh ax ds ds.length) (D : Nat)) HR.out (k := k) he M hlt))
            have HR2 : Hid (cer (sms sh ax ds ds.length) (D : Nat) k = 0 → ∀ j, j < k + 1 → cer (sms sh ax ds ds.length) (D : Nat) j = 0) := Lib.hid (fun he j hj => by
              by_cases e : j = k
              · rw [e]; exact he
              · exact HR.out j (by omega))
            obtain ⟨y, hy⟩ : ∃ y, y = cva (sms sh ax ds ds.length) (D : Nat) k := ⟨_, rfl⟩
            obtain ⟨er, her⟩ : ∃ er, er = cer (sms sh ax ds ds.length) (D : Nat) k := ⟨_, rfl⟩
            rw [← hy] at EA
            rw [← her] at HEF HR2
            rw [← hy, ← her] at KNk
            have BW := Lib.hid (KG.out wr KB.out).1
            clear hy her
            by_cases he : er = 0
            · as_aux_lemma =>
              have HR3 := Lib.hid (HR2.out he)
              have he2 : (er != 0) = false := by rw [he]; rfl
              clear HR2 HEF he
              go_wp2_with (first | (go_at_call 95; (with_reducible refine (KOk.out _ _ (HFk.out _ HIk.out).1).mono ?_); rintro e w11 ⟨bv, a1, l1, c1, a2, l2, c2, rfl, hv, hb⟩; have b11 := Lib.hid hb; have HV := Lib.hid hv.out; clear hb hv) | (go_at_call 55; (with_reducible refine (KNk.out _ _ _ _ _ _ _ _ HV.out).mono ?_); rintro e w13 ⟨rfl, hb⟩; have b13 := Lib.hid (b11.out.trans (hb.mono b11.out.size)); have T13 := Lib.hid (KT.out.below b13.out KT.out.lt); have U13 := Lib.hid (Below.keepOwn KU.out b13.out (Nat.le_refl _)); have s13 := Nat.le_trans hz b13.out.size; obtain ⟨t0, t2, tf0, tf1⟩ := blk2 T13.out; clear hb) | (at_builtin; refine wpList_append_own _ rfl _ _ 24 rfl (T8 + 1) 2 i0 (.int .i64 0) 1 8 Tryz.underlying24 hi0 hz0 hz1 hz2 rfl (by decide) us k (ints (VL.take k)) rfl (U13.out.alloc _) ⟨w13.heap.size, 0, none⟩ 1 1 [.int .i64 y] rfl rfl ?c1 ?c2 ?c3 ?c4 ?c5 ?_))
              case c1 => exact (cell_one_new _ _ _)
              case c2 => simp [Value.oneCell']
              case c3 => unfold maxLen; omega
              case c4 => omega
              case c5 => simp; omega
              intro u9 w8 hown1 hgrow _
              obtain ⟨o9, c9, rfl⟩ := own_form1 hown1
              have KT9 := Lib.hid ((T13.out.alloc (.cells #[.int .i64 y] 2)).kept hgrow (fun e => by have := (U13.out.lt _ e.symm).1; omega))
              have B13 := KB.out.trans (b13.out.mono (by omega))
              have KB9 := Lib.hid ((B13.alloc (by omega) (.cells #[.int .i64 y] 2)).grown hgrow (by simp; omega) (fun j e => by have := (U13.out.lt j e).1; omega))
              have KU9 : Hid (w8.ownsRow (T8 + 1) 2 1 (.slice o9 (k + 1) c9) (k + 1) (ints (VL.take k) ++ [.int .i64 y])) := Lib.hid hown1
              have KZ9 := Lib.hid (Nat.le_trans s13 (Nat.le_trans (Nat.le_succ _) (Nat.le_trans (Nat.le_of_eq (World.size_alloc _ _).symm) hgrow.size)))
              obtain ⟨q0, q1, qf0, qf1⟩ := blk2 KT9.out
              clear hown1 hgrow B13
              go_wp2
              refine ⟨⟨k + 1, .slice o9 (k + 1) c9, by have := HLT.out; omega, by go_num, HR3, Lib.hid (KT9.out.set_ 1 _), Lib.hid ?_, Lib.hid (KB9.out.setCell (p := ⟨T8, 1, none⟩) (Nat.le_refl _) _), Lib.hid (by simpa using KZ9.out)⟩, by have := HLT.out; simp [intOf]; omega⟩
              rw [EA.out, ints_snoc]
              exact own_setx KU9.out KT9.out (by decide)
            · as_aux_lemma =>
              have HX := Lib.hid (HEF.out he)
              have he2 : (er != 0) = true := bne_iff_ne.2 he
              have HNE := Lib.hid he
              have K00 := Lib.hid (KG.out wr KB.out).2.2.1
              clear he HR2 HEF
              go_wp2_with (first | (go_at_call 95; (with_reducible refine (KOk.out _ _ (HFk.out _ HIk.out).1).mono ?_); rintro e w11 ⟨bv, a1, l1, c1, a2, l2, c2, rfl, hv, hb⟩; have b11 := Lib.hid hb; have HV := Lib.hid hv.out; clear hb hv) | (go_at_call 55; (with_reducible refine (KNk.out _ _ _ _ _ _ _ _ HV.out).mono ?_); rintro e w13 ⟨rfl, hb⟩; have b13 := Lib.hid (b11.out.trans (hb.mono b11.out.size)); have T13 := Lib.hid (K00.out.below b13.out K00.out.lt); obtain ⟨t0, t2, tf0, tf1⟩ := blk2 T13.out; clear hb))
              refine bodyPost_ret (v := .tuple #[.agg #[.slice none 0 0, .slice none 0 0], .int .i64 er]) (by simp [results, Tryz.results33, go_sem, t0, t2]) rfl ?_
              rw [HX.out]
              refine ⟨none, 0, none, 0, ?_, ?_, ?_, ((BW.out.trans (b13.out.mono BW.out.size)).setCell (p := ⟨w.heap.size + 1, 0, none⟩) (Nat.le_succ _) _).setCell (p := ⟨w.heap.size + 1, 1, none⟩) (Nat.le_succ _) _⟩
              · unfold unl; rw [if_neg HNE.out, if_neg HNE.out]; rfl
              · unfold unl; rw [if_neg HNE.out]; exact Ld.nil _
              · unfold unl; rw [if_neg HNE.out]; exact Ld.nil _
          · as_aux_lemma =>
            obtain rfl : k = M := by omega
            have HX : Hid (E = 0) := Lib.hid (HE.out.trans (fer_no HR.out))
            have q9 := KG.out wr KB.out
            have K00 := Lib.hid q9.2.2.1
            have HLS := Lib.hid q9.2.2.2.1
            have BW := Lib.hid q9.1
            obtain ⟨t0, t2, _⟩ := blk2 KT.out
            obtain ⟨r0, r1, rf0, rf1⟩ := blk2 K00.out
            have hu := KU.out
            rw [List.take_of_length_le (Nat.le_of_eq HVL.out.1)] at hu
            obtain ⟨o5, c5, rfl⟩ := own_form1 hu
            have HU := Lib.hid hu
            have HLn := Lib.hid HVL.out.1
            clear hu hlt q9
            go_wp2
            refine bodyPost_ret (v := .tuple #[.agg #[.slice oS L6.length cS, .slice o5 k c5], .int .i64 0]) (by simp [results, Tryz.results33, go_sem, r0, r1]) rfl ?_
            rw [HX.out, show unl 0 VL = VL from if_pos rfl, show unl 0 L6 = L6 from if_pos rfl]
            have hd1 := own_ld HU.out HLn.out
            refine ⟨oS, cS, o5, c5, by rw [HLn.out], ?_, ?_, (BW.out.setCell (p := ⟨w.heap.size + 1, 0, none⟩) (Nat.le_succ _) _).setCell (p := ⟨w.heap.size + 1, 1, none⟩) (Nat.le_succ _) _⟩
            · exact ldg2 K00.out HLS.out
            · rw [HLn.out]; exact ldg2 K00.out hd1
end Go.Proofs.YtmafgdinegboeaaGreat
