/-
  The view laws' own helpers: views held against one another, copied, written over, asked.
  ratchetlaw7.heavy: what is played.
  The reference's Widen.
-/
import Derived.Test.YtdefgmkkkeemoaaM04
import Derived.Test.YtdefgmkkkeemoaaM06
namespace Go.Proofs.Ytdefgmkkkeemoaa
open Go.RowKit

set_option maxRecDepth 100000 in
set_option maxHeartbeats 2000000 in
theorem num7_any (x : Int) (w : World) : Calls Try.prog 27 #[.int .i64 x] w fun e w' => e = .returned (.int .i64 x) ∧ w = w' := by
  go_enter Try.func27, Try.ntmps27
  go_wp2
  go_ret
  exact ⟨rfl, rfl⟩

theorem Ov.kept2 {w w' : World} {base : Nat} {vs vt : Value} {sh st : List Int} (h : Ov w base vs vt sh st) (hg : w.grownBy w' vs.ownBlock) : w'.ownsRow base 3 1 vt st.length (ints st) := h.2.1.kept hg (by
  cases e : vt.ownBlock with
  | none => exact .inl rfl
  | some g => exact .inr (fun e2 => h.2.2 g e2.symm e))
theorem own_len {w : World} {base n : Nat} {e : TypeId} {v : Value} {xs : List Value} (h : w.ownsRow base e 1 v n xs) : ∃ o c, v = .slice o n c := by
  rcases h.2 with ⟨rfl, rfl⟩ | ⟨g, cap, cur, rfl, _⟩
  · exact ⟨_, _, rfl⟩
  · exact ⟨_, _, rfl⟩
theorem own_put2 {w : World} {base g c i n : Nat} {ls : List Int} {e : TypeId} (h : w.ownsRow base e 1 (.slice (some ⟨g, 0, none⟩) n c) n (ints ls)) (hl : ls.length = n) (hi : i < n) (v : Int) : (w.setCell ⟨g, i, none⟩ (.int .i64 v)).ownsRow base e 1 (.slice (some ⟨g, 0, none⟩) n c) n (ints (ls.set i v)) := by
  subst hl
  have := own_put h hi v
  rwa [List.length_set] at this

set_option maxRecDepth 100000 in
set_option maxHeartbeats 4000000 in
theorem numberso_any (base : Nat) (v : Value) (ls : List Int) (w : World) (h : w.ownsRow base 3 1 v ls.length (ints ls)) (hb : base ≤ w.heap.size) (hl : ls.length ≤ 65536) :
    Calls Try.prog 65 #[v] w fun e w' => e = .returned (.tuple #[]) ∧ w.grownBy w' v.ownBlock := by
  obtain ⟨i0, hi0, hz0, hz1, hz2⟩ := info_parts infoI
  obtain ⟨n, hn⟩ : ∃ n, n = ls.length := ⟨_, rfl⟩
  have HLN := Lib.hid hn
  rw [← hn] at h hl
  clear hn
  obtain ⟨o, c, rfl⟩ := own_len h
  have H0 : Hid (w.ownsRow base 3 1 (.slice o n c) n (ints ls)) := h
  have HF := Lib.hid (fun (h0 : 0 < n) => own_some h h0)
  clear h
  go_enter Try.func65, Try.ntmps65
  go_wp2
  go_loopw [2] (fun s2 wr => ∃ (k : Nat) (L : List Int), k ≤ n ∧ s2 = .int .i64 k ∧ Hid (L.length = n) ∧ Hid (wr.ownsRow base 3 1 (.slice o n c) n (ints L)) ∧ Hid (w.grownBy wr (Value.slice o n c).ownBlock)) (fun s2 _ => n - (intOf s2).toNat)
  case atStart => exact ⟨0, ls, Nat.zero_le _, rfl, HLN.out.symm, H0.out, World.grownBy.refl _ _⟩
  case round =>
    obtain ⟨k, L, hk, rfl, HL, HO, HG⟩ := hrel
    by_cases hlt : k < n
    · obtain ⟨g, rfl⟩ := HF.out (by omega)
      have kc : wr.cell? ⟨g, k, none⟩ = some (.int .i64 (L.getD k 0)) := by
        have h1 := HO.out
        rw [← HL.out] at h1
        exact own_cell h1 (by have := HL.out; omega)
      have kf := own_frozen HO.out k
      generalize L.getD k 0 = x at kc
      go_wp2
      refine ⟨⟨k + 1, L.set k (-99), by omega, by go_num, by have := HL.out; simpa [Hid] using this, own_put2 HO.out HL.out hlt _, grown_put HG.out _⟩, by simp [intOf]; omega⟩
    · go_wp2_with (at_builtin; refine wpList_append_own _ rfl _ _ 23 rfl base 3 i0 (.int .i64 0) 1 8 Try.underlying23 hi0 hz0 hz1 hz2 rfl (by decide) _ n (ints L) rfl (HO.out.alloc _) ⟨wr.heap.size, 0, none⟩ 1 1 [.int .i64 5] rfl rfl ?c1 ?c2 ?c3 ?c4 ?c5 ?_)
      case c1 => exact (cell_one_new _ _ _)
      case c2 => simp [Value.oneCell']
      case c3 => unfold maxLen; omega
      case c4 => omega
      case c5 => have := HG.out.size; simp; omega
      intro v' w9 _ hgrow _
      have h1 := HG.out
      have h2 : w.grownBy w9 (Value.slice o n c).ownBlock := ⟨hgrow.os.trans h1.os, hgrow.tape.trans h1.tape, hgrow.output.trans h1.output, Nat.le_trans h1.size (Nat.le_trans (by simp) hgrow.size), fun j hj hne => (hgrow.block j (by have := h1.size; simp; omega) hne).trans ((Below.heap_alloc _ _ _ (by have := h1.size; omega)).trans (h1.block j hj hne))⟩
      have H2 := Lib.hid h2
      clear h1 h2 hgrow
      go_wp2
      refine bodyPost_end (results_none rfl _ _ _) rfl ?_
      exact ⟨rfl, H2.out⟩

/-- Views' boxes are kept. -/
def KB (w w' : World) : Prop := ∀ (B : Nat) (cs : Array Value), Blk w B 25 cs → Blk w' B 25 cs
theorem KB.trans {a b c : World} (h : KB a b) (k : KB b c) : KB a c := fun B cs hB => k B cs (h B cs hB)
theorem kb_below {w w' : World} (h : Below w.heap.size w w') : KB w w' := fun _ _ hB => hB.below h hB.lt
theorem kb_row {w w' : World} {base n : Nat} {v : Value} {xs : List Value} (h : w.ownsRow base 3 1 v n xs) (hg : w.grownBy w' v.ownBlock) : KB w w' := fun _ _ hB => hB.kept hg (fun e => own_not_box h hB e.symm)

set_option maxRecDepth 100000 in
set_option maxHeartbeats 4000000 in
theorem spoil_any (base : Nat) (vs vt : Value) (sh st : List Int) (off : Int) (w : World) (h : Ov w base vs vt sh st) (hb : base ≤ w.heap.size) (l1 : sh.length ≤ 65536) (l2 : st.length ≤ 65536) :
    Calls Try.prog 50 #[.agg #[vs, vt, .int .i64 off]] w fun e w' => e = .returned (.tuple #[]) ∧ Below base w w' ∧ KB w w' := by
  have C1 := Lib.hid (numberso_any base vs sh (w.alloc (.cells #[vs, vt, .int .i64 off] 25)) (h.1.alloc _) (by simp; omega) l1)
  have C2 := Lib.hid (fun (W : World) (hg : (w.alloc (.cells #[vs, vt, .int .i64 off] 25)).grownBy W vs.ownBlock) => numberso_any base vt st W (Ov.kept2 (h.alloc _) hg) (Nat.le_trans (by simp; omega) hg.size) l2)
  have HX := Lib.hid (Blk.new w 25 #[vs, vt, .int .i64 off])
  have H := Lib.hid h
  clear h
  go_enter Try.func50, Try.ntmps50
  go_wp2_with (first | (go_at_call 65; (with_reducible refine C1.out.mono ?_); rintro e w2 ⟨rfl, hg2⟩; obtain ⟨c0, c1, c2, _⟩ := blk3 (HX.out.kept hg2 (fun e => own_not_box (H.out.1.alloc _) HX.out e.symm)); replace hg2 := Lib.hid hg2) | (go_at_call 65; (with_reducible refine (C2.out _ hg2.out).mono ?_); rintro e w3 ⟨rfl, hg3⟩; replace hg3 := Lib.hid hg3))
  refine bodyPost_end (results_none rfl _ _ _) rfl ?_
  refine ⟨rfl, ?_, ((kb_below ((Below.refl _ _).alloc (Nat.le_refl _) _)).trans (kb_row (H.out.1.alloc _) hg2.out)).trans (kb_row (Ov.kept2 (H.out.alloc _) hg2.out) hg3.out)⟩
  have b1 : Below base w (w.alloc (.cells #[vs, vt, .int .i64 off] 25)) := (Below.refl _ _).alloc hb _
  have b2 := b1.grown hg2.out (by simp; omega) (fun k e => (H.out.1.lt k e).1)
  exact b2.grown hg3.out (by have := b2.size; omega) (fun k e => (H.out.2.1.lt k e).1)

set_option maxRecDepth 100000 in
set_option maxHeartbeats 4000000 in
theorem eqview_same (va vb ua ub : Value) (sh st : List Int) (off : Int) (w : World) (ha : Ld w va sh) (hb : Ld w vb st) (hc : Ld w ua sh) (hd : Ld w ub st) (l1 : sh.length ≤ 17592186044416) (l2 : st.length ≤ 17592186044416) :
    Calls Try.prog 25 #[.agg #[va, vb, .int .i64 off], .agg #[ua, ub, .int .i64 off]] w fun e w' => e = .returned (.bool true) ∧ Below w.heap.size w w' := by
  have hB0 : Below w.heap.size w ((w.alloc (.cells #[va, vb, .int .i64 off] 25)).alloc (.cells #[ua, ub, .int .i64 off] 25)) := ((Below.refl _ _).alloc (Nat.le_refl _) _).alloc (by simp) _
  have X0 := Lib.hid ((Blk.new w 25 #[va, vb, .int .i64 off]).alloc (.cells #[ua, ub, .int .i64 off] 25))
  have X1 := Lib.hid (blk_new1 w (.cells #[va, vb, .int .i64 off] 25) 25 #[ua, ub, .int .i64 off])
  have C1 : Hid (∀ n, ((w.alloc (.cells #[va, vb, .int .i64 off] 25)).alloc (.cells #[ua, ub, .int .i64 off] 25)).heap.size = n → Calls Try.prog 33 #[va, ua] ((w.alloc (.cells #[va, vb, .int .i64 off] 25)).alloc (.cells #[ua, ub, .int .i64 off] 25)) fun e w' => e = .returned (.bool true) ∧ Below n ((w.alloc (.cells #[va, vb, .int .i64 off] 25)).alloc (.cells #[ua, ub, .int .i64 off] 25)) w') := fun n hn => by
    subst hn
    have := eqn_any va ua sh sh _ (ha.below hB0) (hc.below hB0) l1 l1
    rwa [show decide (sh = sh) = true by simp] at this
  have C2 : Hid (∀ W, Below w.heap.size w W → Calls Try.prog 33 #[vb, ub] W fun e w' => e = .returned (.bool true) ∧ Below W.heap.size W w') := fun W hW => by
    have := eqn_any vb ub st st _ (hb.below hW) (hd.below hW) l2 l2
    rwa [show decide (st = st) = true by simp] at this
  replace C1 := Lib.hid (C1.out (w.heap.size + 2) (by simp))
  obtain ⟨o1, n1, rfl, _, _⟩ := ha
  obtain ⟨o2, n2, rfl, _, _⟩ := hb
  obtain ⟨o3, n3, rfl, _, _⟩ := hc
  obtain ⟨o4, n4, rfl, _, _⟩ := hd
  have HB0 := Lib.hid hB0
  clear hB0
  go_enter Try.func25, Try.ntmps25
  go_wp2_with (first | (go_at_call 33; (with_reducible refine C1.out.mono ?_); rintro e w2 ⟨rfl, hb2⟩; have b2 := HB0.out.trans (hb2.mono (by omega)); have Z0 := Lib.hid (X0.out.below hb2 (by omega)); have Z1 := Lib.hid (X1.out.below hb2 (by omega)); obtain ⟨c0, c1, c2, _⟩ := blk3 Z0.out; obtain ⟨d0, d1, d2, _⟩ := blk3 Z1.out; clear hb2) | (go_at_call 33; (with_reducible refine (C2.out _ b2).mono ?_); rintro e w3 ⟨rfl, hb3⟩; obtain ⟨c0, c1, c2, _⟩ := blk3 (Z0.out.below hb3 Z0.out.lt); obtain ⟨d0, d1, d2, _⟩ := blk3 (Z1.out.below hb3 Z1.out.lt); have b3 := b2.trans (hb3.mono b2.size); clear hb3))
  go_ret
  exact ⟨rfl, b3⟩

/-- A list, where there is no error, in memory. -/
theorem ov_ld {w : World} {base : Nat} {vs vt : Value} {sh st : List Int} (h : Ov w base vs vt sh st) : Ld w vs sh ∧ Ld w vt st := by
  obtain ⟨_, _, rfl, h1⟩ := Ld.of_owns h.1
  obtain ⟨_, _, rfl, h2⟩ := Ld.of_owns h.2.1
  exact ⟨h1, h2⟩

set_option maxRecDepth 100000 in
set_option maxHeartbeats 4000000 in
theorem is_ok (base : Nat) (va vb ua ub : Value) (sh st : List Int) (off : Int) (w : World) (h : Ov w base va vb sh st) (hc : Ld w ua sh) (hd : Ld w ub st) (hb : base ≤ w.heap.size) (l1 : sh.length ≤ 65536) (l2 : st.length ≤ 65536) :
    Calls Try.prog 20 #[.agg #[va, vb, .int .i64 off], .int .i64 0, .int .i64 0, .agg #[ua, ub, .int .i64 off]] w fun e w' => e = .returned (.bool true) ∧ Below base w w' ∧ KB w w' := by
  have hB0 : Below w.heap.size w ((w.alloc (.cells #[va, vb, .int .i64 off] 25)).alloc (.cells #[ua, ub, .int .i64 off] 25)) := ((Below.refl _ _).alloc (Nat.le_refl _) _).alloc (by simp) _
  have X0 := Lib.hid ((Blk.new w 25 #[va, vb, .int .i64 off]).alloc (.cells #[ua, ub, .int .i64 off] 25))
  have X1 := Lib.hid (blk_new1 w (.cells #[va, vb, .int .i64 off] 25) 25 #[ua, ub, .int .i64 off])
  obtain ⟨ha1, ha2⟩ := ov_ld h
  have C1 : Hid (∀ n, ((w.alloc (.cells #[va, vb, .int .i64 off] 25)).alloc (.cells #[ua, ub, .int .i64 off] 25)).heap.size = n → Calls Try.prog 25 #[.agg #[va, vb, .int .i64 off], .agg #[ua, ub, .int .i64 off]] ((w.alloc (.cells #[va, vb, .int .i64 off] 25)).alloc (.cells #[ua, ub, .int .i64 off] 25)) fun e w' => e = .returned (.bool true) ∧ Below n ((w.alloc (.cells #[va, vb, .int .i64 off] 25)).alloc (.cells #[ua, ub, .int .i64 off] 25)) w') := fun n hn => by
    subst hn
    exact eqview_same va vb ua ub sh st off _ (ha1.below hB0) (ha2.below hB0) (hc.below hB0) (hd.below hB0) (by omega) (by omega)
  replace C1 := Lib.hid (C1.out (w.heap.size + 2) (by simp))
  have C2 := Lib.hid (fun (W : World) (hW : Below w.heap.size w W) => spoil_any base va vb sh st off W (h.below hW) (Nat.le_trans hb hW.size) l1 l2)
  obtain ⟨o1, n1, rfl, _, _⟩ := ha1
  obtain ⟨o2, n2, rfl, _, _⟩ := ha2
  obtain ⟨o3, n3, rfl, _, _⟩ := hc
  obtain ⟨o4, n4, rfl, _, _⟩ := hd
  have HB0 := Lib.hid hB0
  clear hB0 h
  go_enter Try.func20, Try.ntmps20
  go_wp2_with (first | (go_at_call 27; (with_reducible refine (num7_any _ _).mono ?_); rintro e w' ⟨rfl, rfl⟩) | (go_at_call 25; (with_reducible refine C1.out.mono ?_); rintro e w2 ⟨rfl, hb2⟩; have b2 := HB0.out.trans (hb2.mono (by omega)); have Z0 := Lib.hid (X0.out.below hb2 (by omega)); obtain ⟨c0, c1, c2, _⟩ := blk3 Z0.out; clear hb2) | (go_at_call 50; (with_reducible refine (C2.out _ b2).mono ?_); rintro e w3 ⟨rfl, hb3, kb3⟩; have b3 := (b2.mono hb).trans hb3; have KB3 := Lib.hid ((kb_below b2).trans kb3); clear hb3 kb3))
  go_ret
  exact ⟨rfl, b3, KB3.out⟩

set_option maxRecDepth 100000 in
set_option maxHeartbeats 4000000 in
theorem is_no (va vb u : Value) (er : Int) (w : World) (hc : Ld w va []) (hd : Ld w vb []) (h0 : ¬ er = 0) (ha : ∃ x y z, u = .agg #[x, y, z]) :
    Calls Try.prog 20 #[.agg #[va, vb, .int .i64 0], .int .i64 er, .int .i64 er, u] w fun e w' => e = .returned (.bool true) ∧ Below w.heap.size w w' := by
  obtain ⟨ua, ub, uc, rfl⟩ := ha
  have hB0 : Below w.heap.size w ((w.alloc (.cells #[va, vb, .int .i64 0] 25)).alloc (.cells #[ua, ub, uc] 25)) := ((Below.refl _ _).alloc (Nat.le_refl _) _).alloc (by simp) _
  have C1 : Hid (∀ n, ((w.alloc (.cells #[va, vb, .int .i64 0] 25)).alloc (.cells #[ua, ub, uc] 25)).heap.size = n → Calls Try.prog 25 #[.agg #[va, vb, .int .i64 0], .agg #[.slice none 0 0, .slice none 0 0, .int .i64 0]] ((w.alloc (.cells #[va, vb, .int .i64 0] 25)).alloc (.cells #[ua, ub, uc] 25)) fun e w' => e = .returned (.bool true) ∧ Below n ((w.alloc (.cells #[va, vb, .int .i64 0] 25)).alloc (.cells #[ua, ub, uc] 25)) w') := fun n hn => by
    subst hn
    exact eqview_same va vb _ _ [] [] 0 _ (hc.below hB0) (hd.below hB0) (Ld.nil _) (Ld.nil _) (by simp) (by simp)
  replace C1 := Lib.hid (C1.out (w.heap.size + 2) (by simp))
  obtain ⟨o1, n1, rfl, _, _⟩ := hc
  obtain ⟨o2, n2, rfl, _, _⟩ := hd
  have h1 : (er != 0) = true := by rw [bne_iff_ne]; exact h0
  have HB0 := Lib.hid hB0
  simp only [List.length_nil] at *
  clear hB0 h0
  go_enter Try.func20, Try.ntmps20
  go_wp2_with (first | (go_at_call 27; (with_reducible refine (num7_any _ _).mono ?_); rintro e w' ⟨rfl, rfl⟩) | (go_at_call 25; (with_reducible refine C1.out.mono ?_); rintro e w2 ⟨rfl, hb2⟩; have b2 := HB0.out.trans (hb2.mono (by omega)); clear hb2))
  go_ret
  exact ⟨rfl, b2⟩

/-- What a call told is what is asked for: the error; the view, where there is none. -/
theorem is_any (base : Nat) (er fo z : Int) (S T : List Int) (os ot : Option Addr) (cs ct : Nat) (ua ub : Value) (fu : Int) (w : World) (h : Ov w base (.slice os (unl er S).length cs) (.slice ot (unl er T).length ct) (unl er S) (unl er T)) (hz : z = unn er fo)
    (hu : er = 0 → Ld w ua S ∧ Ld w ub T ∧ fu = fo) (hb : base ≤ w.heap.size) (l1 : (unl er S).length ≤ 65536) (l2 : (unl er T).length ≤ 65536) :
    Calls Try.prog 20 #[.agg #[.slice os (unl er S).length cs, .slice ot (unl er T).length ct, .int .i64 z], .int .i64 er, .int .i64 er, .agg #[ua, ub, .int .i64 fu]] w fun e w' => e = .returned (.bool true) ∧ Below base w w' ∧ KB w w' := by
  subst hz
  by_cases e : er = 0
  · subst e
    obtain ⟨h1, h2, rfl⟩ := hu rfl
    exact is_ok base _ _ ua ub S T fu w h h1 h2 hb l1 l2
  · have e1 : ∀ l, unl er l = [] := fun l => if_neg e
    have e2 : unn er fo = 0 := if_neg e
    obtain ⟨h1, h2⟩ := ov_ld h
    rw [e1] at h1
    rw [e1] at h2
    rw [e2]
    simp only [e1] at h ⊢
    exact (is_no _ _ _ er w h1 h2 e ⟨_, _, _, rfl⟩).mono fun e' w' hh => ⟨hh.1, hh.2.mono hb, kb_below hh.2⟩

set_option maxRecDepth 100000 in
set_option maxHeartbeats 4000000 in
theorem copyview_any (vs vt : Value) (sh st : List Int) (off : Int) (w : World) (hs : Ld w vs sh) (ht : Ld w vt st) (l1 : sh.length ≤ 17592186044000) (l2 : st.length ≤ 17592186044000) :
    Calls Try.prog 8 #[.agg #[vs, vt, .int .i64 off]] w fun e w' => ∃ v1 v2, e = .returned (.agg #[v1, v2, .int .i64 off]) ∧ Ld w' v1 sh ∧ Ld w' v2 st ∧ Below w.heap.size w w' := by
  obtain ⟨w3, hw3⟩ : ∃ w3, w3 = ((w.alloc (.cells #[vs, vt, .int .i64 off] 25)).alloc (.cells #[.slice none 0 0, .slice none 0 0, .int .i64 0] 25)).alloc (.cells #[vs, vt, .int .i64 off] 25) := ⟨_, rfl⟩
  have hsz : w3.heap.size = w.heap.size + 3 := by rw [hw3]; simp
  have B3 : Below w.heap.size w w3 := by rw [hw3]; exact (((Below.refl _ _).alloc (Nat.le_refl _) _).alloc (by simp) _).alloc (by simp; omega) _
  have K0 : Hid (Blk w3 w.heap.size 25 #[vs, vt, .int .i64 off]) := by rw [hw3]; exact ((Blk.new w _ _).alloc _).alloc _
  have K1 : Hid (Blk w3 (w.heap.size + 1) 25 #[.slice none 0 0, .slice none 0 0, .int .i64 0]) := by rw [hw3]; exact (blk_new1 w _ _ _).alloc _
  have K2 : Hid (Blk w3 (w.heap.size + 2) 25 #[vs, vt, .int .i64 off]) := by
    rw [hw3]
    have q := Blk.new ((w.alloc (.cells #[vs, vt, .int .i64 off] 25)).alloc (.cells #[.slice none 0 0, .slice none 0 0, .int .i64 0] 25)) 25 #[vs, vt, .int .i64 off]
    rwa [World.size_alloc, World.size_alloc] at q
  have C1 : Hid (∀ n, w3.heap.size = n → Calls Try.prog 45 #[vs] w3 fun e w' => ∃ o c, e = .returned (.slice o sh.length c) ∧ w'.ownsRow n 3 1 (.slice o sh.length c) sh.length (ints sh) ∧ Ld w' (.slice o sh.length c) sh ∧ Below n w3 w') := fun n hn => by
    subst hn
    exact copy_any vs sh w3 (hs.below B3) l1
  replace C1 := Lib.hid (C1.out (w.heap.size + 3) hsz)
  have C2 := Lib.hid (fun (W : World) (hW : Below w.heap.size w W) => copy_any vt st W (ht.below hW) l2)
  obtain ⟨o1, n1, rfl, _, _⟩ := hs
  obtain ⟨o2, n2, rfl, _, _⟩ := ht
  have HW := Lib.hid hw3
  rw [hw3] at C1
  clear hw3
  go_enter Try.func8, Try.ntmps8
  go_wp2_with (first | (go_at_call 45; (with_reducible refine C1.out.mono ?_); rintro e w2 ⟨o5, c5, rfl, ho5, _, hb2⟩; rw [← HW.out] at hb2; have b2 := B3.trans (hb2.mono (by omega)); replace K0 := Lib.hid (K0.out.below hb2 (by omega)); replace K1 := Lib.hid (K1.out.below hb2 (by omega)); replace K2 := Lib.hid (K2.out.below hb2 (by omega)); obtain ⟨c0, c1, c2, _⟩ := blk3 K0.out; obtain ⟨x0, x1, x2, g0, g1, g2⟩ := blk3 K2.out; have s2 := Nat.le_trans (Nat.le_of_eq hsz.symm) hb2.size; have O2 := Lib.hid (own_set (i := 0) (z := .slice o5 sh.length c5) ho5 K2.out); clear ho5 hb2) | (go_at_call 45; (with_reducible refine Go.Calls.mono (C2.out _ ?_) ?_); (· exact b2.setCell (by show w.heap.size ≤ w.heap.size + 2; omega) _); rintro e w4 ⟨o6, c6, rfl, ho6, hl6, hb4⟩; have b4 := (b2.setCell (p := ⟨w.heap.size + 2, 0, none⟩) (by show w.heap.size ≤ w.heap.size + 2; omega) (.slice o5 sh.length c5)).trans (hb4.mono (by simp; omega)); have s4 := hb4.size; have Q2 := Lib.hid ((K2.out.set_ 0 (.slice o5 sh.length c5)).below hb4 (by simp; omega)); have Q1 := Lib.hid ((K1.out.far (p := ⟨w.heap.size + 2, 0, none⟩) (by show w.heap.size + 1 ≠ w.heap.size + 2; omega) (.slice o5 sh.length c5)).below hb4 (by simp; omega)); obtain ⟨x0, x1, x2, g0, g1, g2⟩ := blk3 Q2.out; obtain ⟨d0, d1, d2, f0, f1, f2⟩ := blk3 Q1.out; have O4 := Lib.hid (Below.keepOwn O2.out hb4 (Nat.le_refl _)); have O6 := Lib.hid ho6; clear ho6 hl6 hb4))
  have e2 : w.heap.size + 1 + 1 = w.heap.size + 2 := rfl
  have R1 := Lib.hid (Q1.out.far (p := ⟨w.heap.size + 2, 1, none⟩) (by show w.heap.size + 1 ≠ w.heap.size + 2; omega) (.slice o6 st.length c6))
  obtain ⟨r0, r1, r2, _⟩ := blk3 R1.out
  refine bodyPost_ret (v := .agg #[.slice o5 sh.length c5, .slice o6 st.length c6, .int .i64 off]) (by simp [results, Try.results8, go_sem, r0, r1, r2]) rfl ?_
  have p5 := own_box (own_set (i := 1) (z := .slice o6 st.length c6) O4.out Q2.out) R1.out (.slice o5 sh.length c5) (.slice o6 st.length c6) (.int .i64 off)
  have p6 := own_box (own_set (i := 1) (z := .slice o6 st.length c6) O6.out Q2.out) R1.out (.slice o5 sh.length c5) (.slice o6 st.length c6) (.int .i64 off)
  obtain ⟨_, _, q5, h5⟩ := Ld.of_owns p5
  obtain ⟨_, _, q6, h6⟩ := Ld.of_owns p6
  rw [← q5] at h5
  rw [← q6] at h6
  exact ⟨_, _, rfl, h5, h6, Below.box (b4.setCell (by show w.heap.size ≤ w.heap.size + 2; omega) _) (Nat.le_succ _) _ _ _⟩
end Go.Proofs.Ytdefgmkkkeemoaa
namespace Go.Proofs.Ytdefgmkkkeemoaa
open Go.RowKit

set_option maxRecDepth 100000 in
set_option maxHeartbeats 2000000 in
theorem heavy0_any (os od : Option Addr) (ns cs nd cd : Nat) (m : Int) (w : World) (l1 : ns ≤ 9223372036854775807) (_l2 : nd ≤ 9223372036854775807) (Q : Bool) (hQ : Q = (decide (m < nd) || decide (8 < ns))) :
    Calls Try.prog 44 #[.agg #[.slice os ns cs, .slice od nd cd], .int .i64 m] w fun e w' => e = .returned (.bool Q) ∧ Below w.heap.size w w' := by
  have hB0 : Below w.heap.size w (w.alloc (.cells #[.slice os ns cs, .slice od nd cd] 28)) := (Below.refl _ _).alloc (Nat.le_refl _) _
  by_cases g1 : m < nd
  · have E : Hid (Q = true) := by rw [hQ, decide_eq_true g1]; exact Lib.hid rfl
    clear hQ
    go_enter Try.func44, Try.ntmps44
    go_wp2
    go_ret
    exact ⟨by rw [E.out]; first | rfl | (show Ending.returned (.bool _) = _; congr 2; simp; omega), hB0⟩
  · by_cases g2 : 8 < ns
    · have E : Hid (Q = true) := by rw [hQ, decide_eq_true g2]; exact Lib.hid (by simp)
      clear hQ
      go_enter Try.func44, Try.ntmps44
      go_wp2
      go_ret
      exact ⟨by rw [E.out]; first | rfl | (show Ending.returned (.bool _) = _; congr 2; simp; omega), hB0⟩
    · have E : Hid (Q = false) := by rw [hQ, decide_eq_false g1, decide_eq_false g2]; exact Lib.hid rfl
      clear hQ
      go_enter Try.func44, Try.ntmps44
      go_wp2
      go_ret
      exact ⟨by rw [E.out]; first | rfl | (show Ending.returned (.bool _) = _; congr 2; simp; omega), hB0⟩

/-- More than is played? -/
def hvy (sh : List Int) (nd nax ns nts ntd : Nat) : Bool := decide (80 < nd) || (decide ((80 : Int) < ntd) || decide (8 < nts)) || decide (10 < sh.length) || decide (10 < ns) || decide (10 < nax) || (may sh && decide (200 < prod sh))
theorem hvy_no {sh : List Int} {nd nax ns nts ntd : Nat} (h : hvy sh nd nax ns nts ntd = false) : nd ≤ 80 ∧ nax ≤ 10 ∧ ns ≤ 10 ∧ nts ≤ 8 ∧ ntd ≤ 80 ∧ sh.length ≤ 10 ∧ (may sh = true → prod sh ≤ 200) := by
  unfold hvy at h
  simp only [Bool.or_eq_false_iff, decide_eq_false_iff_not, Bool.and_eq_false_iff, Nat.not_lt] at h
  obtain ⟨⟨⟨⟨⟨a, b, c⟩, d⟩, e⟩, f⟩, g⟩ := h
  refine ⟨a, f, e, c, by omega, d, fun hm => ?_⟩
  rcases g with g | g
  · rw [hm] at g; cases g
  · omega
/-- A box of eleven. -/
def Bx11 (W : World) (b : Nat) (x : Array Value) : Prop := Blk W b 30 x
theorem blk11 {W : World} {b : Nat} {v0 v1 v2 v3 v4 v5 v6 v7 v8 v9 v10 : Value} (h : Blk W b 30 #[v0, v1, v2, v3, v4, v5, v6, v7, v8, v9, v10]) : W.cell? ⟨b, 0, none⟩ = some v0 ∧ W.cell? ⟨b, 1, none⟩ = some v1 ∧ W.cell? ⟨b, 2, none⟩ = some v2 ∧ W.cell? ⟨b, 3, none⟩ = some v3 ∧ W.cell? ⟨b, 4, none⟩ = some v4 ∧ W.cell? ⟨b, 5, none⟩ = some v5 ∧ W.cell? ⟨b, 6, none⟩ = some v6 ∧ W.cell? ⟨b, 7, none⟩ = some v7 ∧ W.cell? ⟨b, 8, none⟩ = some v8 ∧ W.cell? ⟨b, 9, none⟩ = some v9 ∧ W.cell? ⟨b, 10, none⟩ = some v10 :=
  ⟨h.cell 0, h.cell 1, h.cell 2, h.cell 3, h.cell 4, h.cell 5, h.cell 6, h.cell 7, h.cell 8, h.cell 9, h.cell 10⟩

set_option maxRecDepth 100000 in
set_option maxHeartbeats 4000000 in
theorem heavy_any (osh : Option Addr) (csh : Nat) (sh : List Int) (vt : Value) (off : Int) (od oax os ots otd : Option Addr) (nd cd nax cax ns cs nts cts ntd ctd : Nat) (A B C : Int) (w : World) (hs : Ld w (.slice osh sh.length csh) sh)
    (l0 : sh.length ≤ 9223372036854775807) (l1 : nd ≤ 9223372036854775807) (l2 : nax ≤ 9223372036854775807) (l3 : ns ≤ 9223372036854775807) (l4 : nts ≤ 9223372036854775807) (l5 : ntd ≤ 9223372036854775807) :
    Calls Try.prog 7 #[.agg #[.slice osh sh.length csh, vt, .int .i64 off, .slice od nd cd, .slice oax nax cax, .slice os ns cs, .int .i64 A, .int .i64 B, .int .i64 C, .slice ots nts cts, .slice otd ntd ctd]] w fun e w' => e = .returned (.bool (hvy sh nd nax ns nts ntd)) ∧ Below w.heap.size w w' := by
  obtain ⟨w1, hw1⟩ : ∃ w1, w1 = w.alloc (.cells #[.slice osh sh.length csh, vt, .int .i64 off, .slice od nd cd, .slice oax nax cax, .slice os ns cs, .int .i64 A, .int .i64 B, .int .i64 C, .slice ots nts cts, .slice otd ntd ctd] 30) := ⟨_, rfl⟩
  have hB0 : Below w.heap.size w w1 := by rw [hw1]; exact (Below.refl _ _).alloc (Nat.le_refl _) _
  have K0 : Hid (Blk w1 w.heap.size 30 #[.slice osh sh.length csh, vt, .int .i64 off, .slice od nd cd, .slice oax nax cax, .slice os ns cs, .int .i64 A, .int .i64 B, .int .i64 C, .slice ots nts cts, .slice otd ntd ctd]) := by rw [hw1]; exact Blk.new w _ _
  have CH := Lib.hid (heavy0_any ots otd nts cts ntd ctd 80 w1 l4 l5 _ rfl)
  have CM := Lib.hid (fun (h : sh.length ≤ 10) (W : World) (hW : Below w.heap.size w W) => rmay_any _ sh W (hs.below hW) (by omega))
  have CN := Lib.hid (fun (h : may sh = true) (W : World) (hW : Below w.heap.size w W) => rcount_any _ sh W (hs.below hW) (may_dms h) (by have := may_len h; omega))
  have HW := Lib.hid hw1
  rw [hw1] at CH
  have hsz : Hid (w1.heap.size = w.heap.size + 1) := by rw [hw1]; exact Lib.hid (by simp)
  clear hw1 hs
  have ARM : Hid (∀ W, Below w1.heap.size w1 W → Below w.heap.size w W ∧ Blk W w.heap.size 30 #[.slice osh sh.length csh, vt, .int .i64 off, .slice od nd cd, .slice oax nax cax, .slice os ns cs, .int .i64 A, .int .i64 B, .int .i64 C, .slice ots nts cts, .slice otd ntd ctd]) := fun W hW => ⟨hB0.trans (hW.mono (by have := hsz.out; omega)), K0.out.below hW (by have := hsz.out; omega)⟩
  have FIN : Hid (∀ (b : Bool) (W : World) (e : Ending), hvy sh nd nax ns nts ntd = b → e = .returned (.bool b) → Below w.heap.size w W → e = .returned (.bool (hvy sh nd nax ns nts ntd)) ∧ Below w.heap.size w W) := fun b W e h1 h2 h3 => ⟨by rw [h1]; exact h2, h3⟩
  by_cases g1 : 80 < nd
  · have E : Hid (hvy sh nd nax ns nts ntd = true) := by unfold hvy; rw [decide_eq_true g1]; exact Lib.hid (by simp)
    go_enter Try.func7, Try.ntmps7
    go_wp2
    go_ret
    exact ⟨by rw [E.out]; rfl, by have := hB0; rw [HW.out] at this; exact this⟩
  cases hh : (decide ((80 : Int) < ntd) || decide (8 < nts)) with
  | true =>
    have E : Hid (hvy sh nd nax ns nts ntd = true) := by unfold hvy; rw [hh]; exact Lib.hid (by simp)
    rw [hh] at CH
    clear hh
    go_enter Try.func7, Try.ntmps7
    go_wp2_with (go_at_call 44; (with_reducible refine CH.out.mono ?_); rintro e w2 ⟨rfl, hb2⟩; rw [← HW.out] at hb2; obtain ⟨b2, k2⟩ := ARM.out _ hb2; obtain ⟨c0, c1, c2, c3, c4, c5, _⟩ := blk11 k2; replace k2 := Lib.hid k2; clear hb2)
    go_ret
    exact ⟨by rw [E.out]; first | rfl | (show Ending.returned (.bool _) = _; congr 2; simp; omega), b2⟩
  | false =>
    rw [hh] at CH
    by_cases g2 : 10 < sh.length
    · have E : Hid (hvy sh nd nax ns nts ntd = true) := by unfold hvy; rw [decide_eq_true g2]; exact Lib.hid (by simp)
      clear hh
      go_enter Try.func7, Try.ntmps7
      go_wp2_with (go_at_call 44; (with_reducible refine CH.out.mono ?_); rintro e w2 ⟨rfl, hb2⟩; rw [← HW.out] at hb2; obtain ⟨b2, k2⟩ := ARM.out _ hb2; obtain ⟨c0, c1, c2, c3, c4, c5, _⟩ := blk11 k2; replace k2 := Lib.hid k2; clear hb2)
      go_ret
      exact ⟨by rw [E.out]; first | rfl | (show Ending.returned (.bool _) = _; congr 2; simp; omega), b2⟩
    by_cases g3 : 10 < ns
    · have E : Hid (hvy sh nd nax ns nts ntd = true) := by unfold hvy; rw [decide_eq_true g3]; exact Lib.hid (by simp)
      clear hh
      go_enter Try.func7, Try.ntmps7
      go_wp2_with (go_at_call 44; (with_reducible refine CH.out.mono ?_); rintro e w2 ⟨rfl, hb2⟩; rw [← HW.out] at hb2; obtain ⟨b2, k2⟩ := ARM.out _ hb2; obtain ⟨c0, c1, c2, c3, c4, c5, _⟩ := blk11 k2; replace k2 := Lib.hid k2; clear hb2)
      go_ret
      exact ⟨by rw [E.out]; first | rfl | (show Ending.returned (.bool _) = _; congr 2; simp; omega), b2⟩
    by_cases g4 : 10 < nax
    · have E : Hid (hvy sh nd nax ns nts ntd = true) := by unfold hvy; rw [decide_eq_true g4]; exact Lib.hid (by simp)
      clear hh
      go_enter Try.func7, Try.ntmps7
      go_wp2_with (go_at_call 44; (with_reducible refine CH.out.mono ?_); rintro e w2 ⟨rfl, hb2⟩; rw [← HW.out] at hb2; obtain ⟨b2, k2⟩ := ARM.out _ hb2; obtain ⟨c0, c1, c2, c3, c4, c5, _⟩ := blk11 k2; replace k2 := Lib.hid k2; clear hb2)
      go_ret
      exact ⟨by rw [E.out]; first | rfl | (show Ending.returned (.bool _) = _; congr 2; simp; omega), b2⟩
    have EH : Hid (hvy sh nd nax ns nts ntd = (may sh && decide (200 < prod sh))) := by
      unfold hvy; rw [decide_eq_false g1, hh, decide_eq_false g2, decide_eq_false g3, decide_eq_false g4]; exact Lib.hid (by simp)
    replace CM := Lib.hid (CM.out (by omega))
    cases hm : may sh with
    | false =>
      rw [hm] at CM
      have E : Hid (hvy sh nd nax ns nts ntd = false) := by rw [EH.out, hm]; exact Lib.hid rfl
      clear hh hm
      go_enter Try.func7, Try.ntmps7
      go_wp2_with (first | (go_at_call 44; (with_reducible refine CH.out.mono ?_); rintro e w2 ⟨rfl, hb2⟩; rw [← HW.out] at hb2; obtain ⟨b2, k2⟩ := ARM.out _ hb2; obtain ⟨c0, c1, c2, c3, c4, c5, _⟩ := blk11 k2; replace k2 := Lib.hid k2; clear hb2) | (go_at_call 13; (with_reducible refine (CM.out _ b2).mono ?_); rintro e w' ⟨rfl, rfl⟩))
      go_ret
      exact ⟨by rw [E.out]; first | rfl | (show Ending.returned (.bool _) = _; congr 2; simp; omega), b2⟩
    | true =>
      rw [hm] at CM
      replace CN := Lib.hid (CN.out hm)
      rw [rct_may hm] at CN
      by_cases g5 : 200 < prod sh
      · have E : Hid (hvy sh nd nax ns nts ntd = true) := by rw [EH.out, hm, decide_eq_true g5]; exact Lib.hid rfl
        clear hh hm EH
        generalize prod sh = P at *
        go_enter Try.func7, Try.ntmps7
        go_wp2_with (first | (go_at_call 44; (with_reducible refine CH.out.mono ?_); rintro e w2 ⟨rfl, hb2⟩; rw [← HW.out] at hb2; obtain ⟨b2, k2⟩ := ARM.out _ hb2; obtain ⟨c0, c1, c2, c3, c4, c5, _⟩ := blk11 k2; replace k2 := Lib.hid k2; clear hb2) | (go_at_call 13; (with_reducible refine (CM.out _ b2).mono ?_); rintro e w' ⟨rfl, rfl⟩) | (go_at_call 17; (with_reducible refine (CN.out _ b2).mono ?_); rintro e w' ⟨rfl, rfl⟩))
        go_ret
        exact ⟨by rw [E.out]; first | rfl | (show Ending.returned (.bool _) = _; congr 2; simp; omega), b2⟩
      · have E : Hid (hvy sh nd nax ns nts ntd = false) := by rw [EH.out, hm, decide_eq_false g5]; exact Lib.hid rfl
        clear hh hm EH
        generalize prod sh = P at *
        go_enter Try.func7, Try.ntmps7
        go_wp2_with (first | (go_at_call 44; (with_reducible refine CH.out.mono ?_); rintro e w2 ⟨rfl, hb2⟩; rw [← HW.out] at hb2; obtain ⟨b2, k2⟩ := ARM.out _ hb2; obtain ⟨c0, c1, c2, c3, c4, c5, _⟩ := blk11 k2; replace k2 := Lib.hid k2; clear hb2) | (go_at_call 13; (with_reducible refine (CM.out _ b2).mono ?_); rintro e w' ⟨rfl, rfl⟩) | (go_at_call 17; (with_reducible refine (CN.out _ b2).mono ?_); rintro e w' ⟨rfl, rfl⟩))
        go_ret
        exact ⟨by rw [E.out]; first | rfl | (show Ending.returned (.bool _) = _; congr 2; simp; omega), b2⟩
end Go.Proofs.Ytdefgmkkkeemoaa
namespace Go.Proofs.Ytdefgmkkkeemoaa
open Go.RowKit
attribute [local go_sem ↓] Go.wp_at_zero Go.wp_at_succ

set_option maxRecDepth 100000 in
set_option maxHeartbeats 4000000 in
theorem rwiden_any (vs vt va : Value) (sh st s : List Int) (off : Int) (w : World) (hs : Ld w vs sh) (ht : Ld w vt st) (ha : Ld w va s) (hlt0 : st.length = sh.length) (l4 : sh.length ≤ 4) (l5 : s.length ≤ 4) (hle : sh.length ≤ s.length) :
    Calls Try.prog 16 #[.agg #[vs, vt, .int .i64 off], va] w (SomeW w s (wst sh st s) off) := by
  obtain ⟨i0, hi0, hz0, hz1, hz2⟩ := info_parts infoI
  obtain ⟨w4, hw2⟩ : ∃ w4, w4 = (w.alloc (.cells #[vs, vt, .int .i64 off] 25)).alloc (.cells #[.slice none 0 0, .slice none 0 0, .int .i64 0] 25) := ⟨_, rfl⟩
  have hsz : w4.heap.size = w.heap.size + 2 := by rw [hw2]; simp
  have bb4 : Below w.heap.size w w4 := by rw [hw2]; exact ((Below.refl _ _).alloc (Nat.le_refl _) _).alloc (by simp) _
  have Y0 : Hid (Blk w4 w.heap.size 25 #[vs, vt, .int .i64 off]) := by rw [hw2]; exact (Blk.new w _ _).alloc _
  have Y1 : Hid (Blk w4 (w.heap.size + 1) 25 #[.slice none 0 0, .slice none 0 0, .int .i64 0]) := by
    rw [hw2]
    have := Blk.new (w.alloc (.cells #[vs, vt, .int .i64 off] 25)) 25 #[.slice none 0 0, .slice none 0 0, .int .i64 0]
    rwa [World.size_alloc] at this
  have CL := Lib.hid (fun (W : World) (hb : Below w.heap.size w W) => copy_any va s W (ha.below hb) (by omega))
  obtain ⟨os, cs, rfl, _, hxs⟩ := hs
  obtain ⟨ot, ct, rfl, _, hxt⟩ := ht
  obtain ⟨oa, ca, rfl, _, hxa⟩ := ha
  have HS := Lib.hid hxs
  have HT := Lib.hid hxt
  have HA := Lib.hid hxa
  clear hxs hxt hxa
  have HLS := Lib.hid hlt0
  obtain ⟨a, ha⟩ : ∃ a, s.length = sh.length + a := ⟨s.length - sh.length, by omega⟩
  have HAA := Lib.hid ha
  have ea : (s.length : Int) - (sh.length : Int) = (a : Int) := by omega
  clear ha hlt0
  have mk : ∀ W : World, (Instr.makeSlice 23 (.int .i64 (s.length : Int)) (.int .i64 (s.length : Int))).run Try.prog W = .ok (.slice (some ⟨W.heap.size, 0, none⟩) s.length s.length) (W.alloc (.cells (ints (List.replicate s.length 0)).toArray 3)) := by
    intro W
    have := run_make (w := W) 23 3 i0 (.int .i64 0) Try.underlying23 hi0 hz0 .i64 .i64 s.length s.length (by omega) (by omega) (by rw [hz2]; omega) (by omega)
    rw [this, hz1, ← made_ints]; simp [Value.cells]
  have HW := Lib.hid (And.intro hw2 hsz)
  obtain ⟨c0, c1, c2, _⟩ := blk3 Y0.out
  clear hw2 hsz
  go_enter Try.func16, Try.ntmps16
  go_wp2
  have hgo := HW.out
  rw [← hgo.1]
  clear hgo
  have bz4 : Below w4.heap.size w4 w4 := Below.refl _ _
  have KS := Lib.hid (fun (W : World) (hW : Below w4.heap.size w4 W) => (blk3 (Y0.out.below hW Y0.out.lt)).2.2.1)
  have y0l := Y0.out.lt
  have s4 := bb4.size
  go_cut [5] (fun s5 wx => ∃ (P gm c5 : Nat) (o5 : Option Addr), s5 = .pointer (some ⟨P, 0, none⟩) ∧ Blk wx P 25 #[.slice o5 s.length c5, .slice (some ⟨gm, 0, none⟩) s.length s.length, .int .i64 off] ∧ Blk wx gm 3 (ints (List.replicate s.length 0)).toArray ∧ Hid (wx.ownsRow w4.heap.size 3 1 (.slice o5 s.length c5) s.length (ints s) ∧ ∀ g, o5 = some ⟨g, 0, none⟩ → ¬ g = gm) ∧ Hid (w4.heap.size ≤ gm ∧ w4.heap.size ≤ P) ∧ Hid (Below w4.heap.size w4 wx))
  case first =>
    go_region_held3 (fun W => W.cell? ⟨w.heap.size, 2, none⟩ = some (.int .i64 off)) (first | go_keep | (refine KS.out _ ?_; repeat (first | assumption | exact Nat.le_refl _ | exact Nat.le_succ _ | exact Below.refl _ _ | apply below_drew1 | (refine Below.setCell ?_ ?_ _) | (refine Below.alloc ?_ ?_ _) | omega | (simp; done) | (simp; omega))))
      (first | (go_at_call 45; (with_reducible refine Go.Calls.mono (CL.out _ ?_) ?_); (· repeat (first | assumption | exact Nat.le_refl _ | exact Nat.le_succ _ | exact Below.refl _ _ | apply below_drew1 | (refine Below.alloc ?_ ?_ _) | omega | (simp; done) | (simp; omega))); rintro e w5 ⟨o5, c5, rfl, ho5, _, hb5⟩; have bz5 : Below w4.heap.size w4 w5 := (by refine Below.trans ?_ (hb5.mono ?_); (· repeat (first | assumption | exact Nat.le_refl _ | exact Nat.le_succ _ | exact Below.refl _ _ | apply below_drew1 | (refine Below.alloc ?_ ?_ _) | omega | (simp; done) | (simp; omega))); (· first | exact Nat.le_refl _ | omega | (simp; done) | (simp; omega))); have s5 := bz5.size; have O5 : Hid (w5.ownsRow w4.heap.size 3 1 (.slice o5 s.length c5) s.length (ints s)) := own_base ho5 (by first | exact Nat.le_refl _ | omega | (simp; done) | (simp; omega)); have O5B := Lib.hid ho5; (first | (have zg : Blk w5 w4.heap.size 3 (ints (List.replicate s.length 0)).toArray := Blk.below (by first | exact Blk.new w4 _ _ | exact (Blk.new w4 _ _).alloc _) hb5 (by first | exact Nat.le_refl _ | omega | (simp; done) | (simp; omega))) | (have zg : Blk w5 (w4.heap.size + 1) 3 (ints (List.replicate s.length 0)).toArray := Blk.below (by have q := Blk.new (w4.alloc (.cells #[.slice none 0 0, .slice none 0 0, .int .i64 0] 25)) 3 (ints (List.replicate s.length 0)).toArray; rw [World.size_alloc] at q; exact q) hb5 (by first | exact Nat.le_refl _ | omega | (simp; done) | (simp; omega))) | skip); (first | (have zP : Blk w5 w4.heap.size 25 #[.slice none 0 0, .slice none 0 0, .int .i64 0] := Blk.below (by first | exact Blk.new w4 _ _ | exact (Blk.new w4 _ _).alloc _) hb5 (by first | exact Nat.le_refl _ | omega | (simp; done) | (simp; omega)); have zPl := zP.lt; obtain ⟨p0, p1, p2, pf0, pf1, pf2⟩ := blk3 zP) | (have zP : Blk w5 (w4.heap.size + 1) 25 #[.slice none 0 0, .slice none 0 0, .int .i64 0] := Blk.below (by have q := Blk.new (w4.alloc (.cells (ints (List.replicate s.length 0)).toArray 3)) 25 #[.slice none 0 0, .slice none 0 0, .int .i64 0]; rw [World.size_alloc] at q; exact q) hb5 (by first | exact Nat.le_refl _ | omega | (simp; done) | (simp; omega)); have zPl := zP.lt; obtain ⟨p0, p1, p2, pf0, pf1, pf2⟩ := blk3 zP) | skip); have k0 := KS.out _ bz5; replace ho5 := Lib.hid ho5))
    · go_wp2
      go_meet
      refine ⟨_, w5.heap.size, c5, o5, rfl, ?_, ?_, ⟨?_, ?_⟩, ⟨?_, ?_⟩, ?_⟩
      · exact blk_new1 w5 _ _ _
      · exact (Blk.new w5 _ _).alloc _
      · exact (O5.out.alloc _).alloc _
      · intro g e; subst e; have q1 := (O5B.out.lt g rfl).1; have q2 := (O5B.out.lt g rfl).2; (try simp at q1); omega
      · first | exact Nat.le_refl _ | exact Nat.le_succ _ | omega | (simp; done) | (simp; omega)
      · first | exact Nat.le_refl _ | exact Nat.le_succ _ | omega | (simp; done) | (simp; omega)
      · exact (bz5.alloc s5 _).alloc (by simp; omega) _
    · go_wp2
      go_meet
      refine ⟨_, w5.heap.size + 1, c5, o5, rfl, ?_, ?_, ⟨?_, ?_⟩, ⟨?_, ?_⟩, ?_⟩
      · exact (Blk.new w5 _ _).alloc _
      · exact blk_new1 w5 _ _ _
      · exact (O5.out.alloc _).alloc _
      · intro g e; subst e; have q1 := (O5B.out.lt g rfl).1; have q2 := (O5B.out.lt g rfl).2; (try simp at q1); omega
      · first | exact Nat.le_refl _ | exact Nat.le_succ _ | omega | (simp; done) | (simp; omega)
      · first | exact Nat.le_refl _ | exact Nat.le_succ _ | omega | (simp; done) | (simp; omega)
      · exact (bz5.alloc s5 _).alloc (by simp; omega) _
    · go_wp2
      go_meet
      refine ⟨_, w4.heap.size, c5, o5, rfl, ?_, ?_, ⟨?_, ?_⟩, ⟨?_, ?_⟩, ?_⟩
      · exact Blk.new w5 _ _
      · exact zg.alloc _
      · exact O5.out.alloc _
      · intro g e; subst e; have q1 := (O5B.out.lt g rfl).1; have q2 := (O5B.out.lt g rfl).2; (try simp at q1); omega
      · first | exact Nat.le_refl _ | exact Nat.le_succ _ | omega | (simp; done) | (simp; omega)
      · first | exact Nat.le_refl _ | exact Nat.le_succ _ | omega | (simp; done) | (simp; omega)
      · exact bz5.alloc s5 _
    · go_wp2
      go_meet
      refine ⟨_, w4.heap.size, c5, o5, rfl, ?_, ?_, ⟨?_, ?_⟩, ⟨?_, ?_⟩, ?_⟩
      · exact ((zP.set_ 0 _).set_ 1 _).set_ 2 _
      · exact blk_box3 zg zP _ _ _
      · exact own_box O5.out zP _ _ _
      · intro g e; subst e; have q1 := (O5B.out.lt g rfl).1; have q2 := (O5B.out.lt g rfl).2; (try simp at q1); omega
      · first | exact Nat.le_refl _ | exact Nat.le_succ _ | omega | (simp; done) | (simp; omega)
      · first | exact Nat.le_refl _ | exact Nat.le_succ _ | omega | (simp; done) | (simp; omega)
      · exact Below.box bz5 (Nat.le_succ _) _ _ _
    · go_wp2
      go_meet
      refine ⟨_, w5.heap.size, c5, o5, rfl, ?_, ?_, ⟨?_, ?_⟩, ⟨?_, ?_⟩, ?_⟩
      · exact (((zP.set_ 0 _).set_ 1 _).set_ 2 _).alloc _
      · have q := Blk.new (((w5.setCell ⟨w4.heap.size, 0, none⟩ (.slice o5 s.length c5)).setCell ⟨w4.heap.size, 1, none⟩ (.slice (some ⟨w5.heap.size, 0, none⟩) s.length s.length)).setCell ⟨w4.heap.size, 2, none⟩ (.int .i64 off)) 3 (ints (List.replicate s.length 0)).toArray
        rw [show (((w5.setCell ⟨w4.heap.size, 0, none⟩ (.slice o5 s.length c5)).setCell ⟨w4.heap.size, 1, none⟩ (.slice (some ⟨w5.heap.size, 0, none⟩) s.length s.length)).setCell ⟨w4.heap.size, 2, none⟩ (.int .i64 off)).heap.size = w5.heap.size by simp] at q
        exact q
      · exact (own_box O5.out zP _ _ _).alloc _
      · intro g e; subst e; have q1 := (O5B.out.lt g rfl).1; have q2 := (O5B.out.lt g rfl).2; (try simp at q1); omega
      · first | exact Nat.le_refl _ | exact Nat.le_succ _ | omega | (simp; done) | (simp; omega)
      · first | exact Nat.le_refl _ | exact Nat.le_succ _ | omega | (simp; done) | (simp; omega)
      · exact (Below.box bz5 (Nat.le_refl _) _ _ _).alloc (by simpa using s5) _
    · go_wp2
      go_meet
      refine ⟨_, w4.heap.size + 1, c5, o5, rfl, ?_, ?_, ⟨?_, ?_⟩, ⟨?_, ?_⟩, ?_⟩
      · exact ((zP.set_ 0 _).set_ 1 _).set_ 2 _
      · exact blk_box3 zg zP _ _ _
      · exact own_box O5.out zP _ _ _
      · intro g e; subst e; have q1 := (O5B.out.lt g rfl).1; have q2 := (O5B.out.lt g rfl).2; (try simp at q1); omega
      · first | exact Nat.le_refl _ | exact Nat.le_succ _ | omega | (simp; done) | (simp; omega)
      · first | exact Nat.le_refl _ | exact Nat.le_succ _ | omega | (simp; done) | (simp; omega)
      · exact Below.box bz5 (Nat.le_refl _) _ _ _
  case rest =>
    obtain ⟨P, gm, c5, o5, rfl, hP, hgm, HO, HL, HB⟩ := hcut
    obtain ⟨t0, t1, t2, _⟩ := blk3 hP
    have HP := Lib.hid hP
    have YF := Lib.hid (Y1.out.below HB.out (by have := Y1.out.lt; omega))
    have Y0F := Lib.hid (Y0.out.below HB.out (by omega))
    obtain ⟨c0, c1, c2, _⟩ := blk3 Y0F.out
    clear hP
    go_wp2
    have g5 := hgm.lt
    have pl := HP.out.lt
    have nPg := blk_apart hgm HP.out
    go_loopw [6] (fun s6 wr => ∃ k : Nat, k ≤ sh.length ∧ s6 = .int .i64 k ∧ Hid (Blk wr gm 3 (ints (wsn sh st s k)).toArray) ∧ Hid (wc.grownBy wr (some gm))) (fun s6 _ => sh.length - (intOf s6).toNat)
    case atStart => exact ⟨0, Nat.zero_le _, rfl, hgm, World.grownBy.refl _ _⟩
    case round =>
      obtain ⟨k, hk, rfl, hw, hG⟩ := hrel
      have wl := HL.out
      have bl := HB.out.size
      have gold : ∀ (b i : Nat) (v : Value), b < w.heap.size → w.cell? ⟨b, i, none⟩ = some v → wr.cell? ⟨b, i, none⟩ = some v := fun b i v h1 h2 =>
        grown_cell hG.out (by omega) (by omega) ((HB.out.cell (p := ⟨b, i, none⟩) (by show b < _; omega)).trans ((bb4.cell (p := ⟨b, i, none⟩) h1).trans h2))
      have gbox := fun (b i : Nat) (v : Value) (h1 : b < wc.heap.size) (h2 : b ≠ gm) (h3 : wc.cell? ⟨b, i, none⟩ = some v) => grown_cell (i := i) hG.out h1 h2 h3
      have yp := blk3 HP.out
      have yb := blk3 Y0F.out
      have e0 := gbox w.heap.size 0 _ (by omega) (by omega) yb.1
      have e1 := gbox w.heap.size 1 _ (by omega) (by omega) yb.2.1
      have e2 := gbox P 1 _ pl (fun e => nPg e.symm) yp.2.1
      have GOLD := Lib.hid gold
      have KSB := Lib.hid (fun (W : World) (hW : wc.grownBy W (some gm)) => And.intro (grown_cell (i := 1) hW (by omega) (by omega) yb.2.1) (And.intro (grown_cell (i := 1) hW pl (fun e => nPg e.symm) yp.2.1) (fun (b i : Nat) (v : Value) (h1 : b < w.heap.size) (h2 : w.cell? ⟨b, i, none⟩ = some v) => grown_cell hW (by omega) (by omega) ((HB.out.cell (p := ⟨b, i, none⟩) (by show b < _; omega)).trans ((bb4.cell (p := ⟨b, i, none⟩) h1).trans h2)))))
      clear gold gbox yp yb
      by_cases hlt : k < sh.length
      · have ha := HAA.out
        have hls := HLS.out
        obtain ⟨bs, fs, rfl, ns, xs⟩ := HS.out k hlt
        obtain ⟨bt, ft, rfl, nt, xt⟩ := HT.out k (by omega)
        obtain ⟨ba, fa, rfl, na, xa⟩ := HA.out (a + k) (by omega)
        have xs' := GOLD.out _ _ _ ns xs
        have xt' := GOLD.out _ _ _ nt xt
        have xa' := GOLD.out _ _ _ na xa
        have xa2 : wr.cell? ⟨ba, fa + ((a : Int) + (k : Int)).toNat, none⟩ = some (.int .i64 (s.getD (a + k) 0)) := by rw [show ((a : Int) + (k : Int)).toNat = a + k by omega]; exact xa'
        have kc := hw.out.cell (a + k)
        rw [ints_at (by rw [wsn_len]; omega)] at kc
        have kf := hw.out.frozen (a + k)
        have akl : a + k < s.length := by omega
        have klt : k < st.length := by omega
        have HPUT : Hid (sh.getD k 0 = s.getD (a + k) 0 → wsn sh st s (k + 1) = (wsn sh st s k).set (a + k) (st.getD k 0)) := fun e => by rw [Nat.add_comm a k] at e ⊢; exact wsn_put (by omega) e
        have HSKIP : Hid (¬ sh.getD k 0 = s.getD (a + k) 0 → wsn sh st s (k + 1) = wsn sh st s k) := fun e => by rw [Nat.add_comm a k] at e; exact wsn_skip (by omega) e
        have KSW := Lib.hid (fun (W : World) (hW : wc.grownBy W (some gm)) => And.intro (KSB.out W hW).1 (And.intro (KSB.out W hW).2.1 ((KSB.out W hW).2.2 _ _ _ nt xt)))
        clear xs xt xa ha hls
        generalize (wsn sh st s k).getD (a + k) 0 = q0 at kc
        generalize sh.getD k 0 = d at *
        generalize s.getD (a + k) 0 = d2 at *
        generalize st.getD k 0 = q at *
        by_cases g : d = d2
        · subst g
          have R1 := Lib.hid (HPUT.out rfl)
          have e7 : (k : Int) + (s.length : Int) - (sh.length : Int) = ((a + k : Nat) : Int) := by have := HAA.out; omega
          go_wp2
          go_quiet (fail)
          go_wp2
          have n1 : ¬ gm = w.heap.size := by omega
          have n2 : ¬ gm = bt := by omega
          go_region_held3 (fun W => W.cell? ⟨w.heap.size, 1, none⟩ = some (.slice (some ⟨bt, ft, none⟩) st.length ct) ∧ W.cell? ⟨P, 1, none⟩ = some (.slice (some ⟨gm, 0, none⟩) s.length s.length) ∧ W.cell? ⟨bt, ft + k, none⟩ = some (.int .i64 q)) (go_keep) (fail)
          go_wp2
          refine ⟨⟨k + 1, by omega, by go_num, ?_, ?_⟩, by simp [intOf]; omega⟩
          · rw [R1.out]
            exact Blk.put hw.out (a + k) q
          · exact grown_put (by first | exact hG.out | exact grown_drw hG.out _ | exact grown_drw (grown_drw hG.out _) _) _
        · have R1 := Lib.hid (HSKIP.out g)
          have g' : (d == d2) = false := by rw [beq_eq_false_iff_ne]; exact g
          have e7 : (k : Int) + (s.length : Int) - (sh.length : Int) = ((a + k : Nat) : Int) := by have := HAA.out; omega
          clear g
          go_wp2
          go_quiet (fail)
          go_wp2
          refine ⟨⟨k + 1, by omega, by go_num, ?_, ?_⟩, by simp [intOf]; omega⟩
          · rw [R1.out]
            exact hw.out
          · first | exact grown_drw hG.out _ | exact hG.out
      · obtain rfl : k = sh.length := by omega
        have hls : (st.length : Int) = (sh.length : Int) := by have := HLS.out; omega
        have dF := Lib.hid ((YF.out.kept hG.out (fun e => blk_apart hgm YF.out (Option.some.inj e).symm)))
        have pF := Lib.hid ((HP.out.kept hG.out (fun e => nPg (Option.some.inj e).symm)))
        obtain ⟨d0, d1, d2, f0, f1, f2⟩ := blk3 dF.out
        obtain ⟨t0, t1, t2, _⟩ := blk3 pF.out
        go_wp2
        refine bodyPost_ret (v := .agg #[.slice o5 s.length c5, .slice (some ⟨gm, 0, none⟩) s.length s.length, .int .i64 off]) (by simp [results, Try.results16, go_sem, d0, d1, d2]) rfl ?_
        have hbel : Below w4.heap.size w4 wr := HB.out.grown hG.out bl (fun k e => by cases e; exact wl.1)
        have hw2 : wr.ownsRow w4.heap.size 3 1 (.slice (some ⟨gm, 0, none⟩) s.length s.length) (wst sh st s).length (ints (wst sh st s)) := by
          have q := hw.out.owns (base := w4.heap.size) wl.1 (by rw [wsn_len]; omega)
          rw [wsn_len] at q
          unfold wst
          rw [wsn_len]
          exact q
        have ho : wr.ownsRow w4.heap.size 3 1 (.slice o5 s.length c5) s.length (ints s) := HO.out.1.kept hG.out (by
          cases o5 with
          | none => exact .inl rfl
          | some ad =>
            right
            intro e
            simp only [Value.ownBlock, Option.some.injEq] at e
            rcases HO.out.1.2 with ⟨e2, _⟩ | ⟨g, _, _, e2, _⟩
            · cases e2
            · simp only [Value.slice.injEq, Option.some.injEq] at e2
              rw [e2.1] at e
              exact HO.out.2 g (by rw [e2.1]) e)
        refine someW_end (sh := s) (st := wst sh st s) (Nat.le_succ _) (bb4.trans (hbel.mono s4)) dF.out rfl (by unfold wst; rw [wsn_len]) (Ov.base (base := w4.heap.size) ⟨ho, hw2, ?_⟩ s4)
        intro g e e2
        simp only [Value.ownBlock, Option.some.injEq] at e2
        rcases HO.out.1.2 with ⟨e3, _⟩ | ⟨g', _, _, e3, _⟩
        · simp only [Value.slice.injEq] at e3
          rw [e3.1] at e; simp [Value.ownBlock] at e
        · simp only [Value.slice.injEq] at e3
          rw [e3.1] at e
          simp only [Value.ownBlock, Option.some.injEq] at e
          exact HO.out.2 g' e3.1 (by omega)
end Go.Proofs.Ytdefgmkkkeemoaa
