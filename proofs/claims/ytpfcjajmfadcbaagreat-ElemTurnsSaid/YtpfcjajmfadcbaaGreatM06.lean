/-
  elem.each: the words of a shape's places in order, whatever is asked of each; the first one's error.
  package elem: the table of operations of two.
  Whole numbers of 128 bits, as a wide number's two halves: hi a and lo a of a whole number a.
  What the calls of package wide do, said of whole numbers: the small ones.
  Words: what the calls of package fx do, said of whole numbers.
  shape.Under.
-/
import Derived.Deep.AppendLies
import Derived.OwnWalkIn
import Derived.MapKept
import Derived.Test.YtpfcjajmfadcbaaGreatRows
import Derived.WalkKit
import Derived.WalkSpells
import Derived.StillTactics
import Derived.Laws.Pointers
import Derived.Laws.Externs
import Derived.Deep.RegionHeld3
import Derived.Shelf.Spec.BitsCarry
import Derived.RowKit3
import Derived.Lib.Hide
import Derived.Test.YtpfcjajmfadcbaaGreatM02
import Derived.Test.YtpfcjajmfadcbaaGreatM03
import Derived.Test.YtpfcjajmfadcbaaGreatM04
import Derived.Test.YtpfcjajmfadcbaaGreatM05
namespace Go.Proofs.YtpfcjajmfadcbaaGreat
open Go Go.RowKit Go.Shelf
attribute [local go_sem] Oper.semAt_some

/-- A region that draws its order, within a round: what it leaves of the frame, too. -/
theorem region_inA {P : Program} {n l id : Nat} {ops : Array Oper} {R : Act → World → Prop} {S : World → Prop} {a : Act} {W : World} (hd : (ops.toList.all fun o => nodf o.op) = true) (hm : P.follows .mixedOrders = true) (hS : S W.drew)
    (h : S W.drew → wpAnyH P .any ops (fun e a2 W2 => e = .normal ∧ R a2 W2) S ops.size (Array.replicate ops.size false) a W.drew) : (Code.region id ops true).wpIn (Fence.wide.inRound l) n P (fun e a2 W2 => e = .normal ∧ R a2 W2) a W :=
  wpIn_region_any hm (any_in hd (fun ⟨_, _, h⟩ => by cases h.1) _ _ _ _ (wpAny_of_held _ _ _ _ (h hS)))

/-- The first error of n. -/
def fer (er : Nat → Int) : Nat → Int
  | 0 => 0
  | n + 1 => if fer er n = 0 then er n else fer er n
theorem fer_no {er : Nat → Int} : ∀ {n : Nat}, (∀ k, k < n → er k = 0) → fer er n = 0
  | 0, _ => rfl
  | n + 1, h => by
    unfold fer
    rw [if_pos (fer_no fun k hk => h k (by omega)), h n (by omega)]
theorem fer_first {er : Nat → Int} {k : Nat} (h : ∀ j, j < k → er j = 0) (hk : er k ≠ 0) : ∀ n, k < n → fer er n = er k
  | 0, hn => absurd hn (Nat.not_lt_zero _)
  | n + 1, hn => by
    unfold fer
    by_cases e : k = n
    · subst e
      rw [if_pos (fer_no h)]
    · have := fer_first h hk n (by omega)
      rw [if_neg (by rw [this]; exact hk), this]
/-- What n elements tell. -/
def vls (va : Nat → Int) (n : Nat) : List Int := (List.range n).map va
theorem vls_len (va : Nat → Int) (n : Nat) : (vls va n).length = n := by simp [vls]
theorem vls_snoc (va : Nat → Int) {k n : Nat} (h : k < n) : (vls va n).take (k + 1) = (vls va n).take k ++ [va k] := by
  have hk : k < (vls va n).length := by rw [vls_len]; exact h
  rw [List.take_succ_eq_append_getElem hk]
  simp [vls]

theorem grown_predrew {A W : World} {r : Option Nat} (h : A.grownBy W r) : A.drew.grownBy W r := ⟨h.os, h.tape, h.output, h.size, h.block⟩
/-- A row that holds something has a block. -/
theorem own_slice1 {W : World} {base n : Nat} {e : TypeId} {v : Value} {xs : List Value} (h : W.ownsRow base e 1 v n xs) (hn : 0 < n) : ∃ g cp, v = .slice (some ⟨g, 0, none⟩) n cp := by
  rcases h.2 with ⟨_, h0⟩ | ⟨g, cap, cur, e1, _⟩
  · omega
  · exact ⟨g, cap, e1⟩

theorem each_end {X : World} {b c D base n : Nat} {e : TypeId} {v : Value} {xs : List Value} {cs ds : Array Value} {o : Obj} (hO : X.ownsRow base e 1 v n xs) (hb : Blk X b 26 cs) (hc : Blk X c 32 ds) (hbc : c ≠ b) (hD : X.heap[D]? = some o) (ho : o.isCells = false) (hne : e ≠ 26) (hne2 : e ≠ 32) (u1 u2 u3 : Value) (o' : Obj) :
    ((((X.setCell ⟨b, 0, none⟩ u1).setCell ⟨b, 1, none⟩ u2).setCell ⟨c, 0, none⟩ u3).putObj D o').ownsRow base e 1 v n xs := by
  have h1 := hO.kept (grown_set X ⟨b, 0, none⟩ u1) (.inr (tens_not_row hO hb hne))
  have hb1 := hb.set_ 0 u1
  have h2 := h1.kept (grown_set _ ⟨b, 1, none⟩ u2) (.inr (tens_not_row h1 hb1 hne))
  have hc2 : Blk ((X.setCell ⟨b, 0, none⟩ u1).setCell ⟨b, 1, none⟩ u2) c 32 ds := (hc.far (p := ⟨b, 0, none⟩) hbc u1).far (p := ⟨b, 1, none⟩) hbc u2
  have h3 := h2.kept (grown_set _ ⟨c, 0, none⟩ u3) (.inr (tens_not_row h2 hc2 hne2))
  have hDb : D ≠ b := by rintro rfl; rw [show X.heap[D]? = _ from hb] at hD; cases hD; cases ho
  have hDc : D ≠ c := by rintro rfl; rw [show X.heap[D]? = _ from hc] at hD; cases hD; cases ho
  exact own_kept h3 (grownBy_putObj' _ D o') (fun r er => by cases er; exact ⟨o, ((Below.heap_setCell _ _ _ _ hDc).trans ((Below.heap_setCell _ _ _ _ hDb).trans (Below.heap_setCell _ _ _ _ hDb))).trans hD, ho⟩)

set_option maxRecDepth 100000 in
set_option maxHeartbeats 8000000 in
theorem each_any (AF WF : FuncId) (caps : Array Value) (pv : Nat → Value) (va er : Nat → Int) (vs : Value) (sh : List Int) (N : Nat) (w : World) (hs : Ld w vs sh) (hm : may sh = true) (hN : (N : Int) = prod sh)
    (eA : ∀ args (W : World), (callFunc AF args).run Tryz.prog W = .ok (.enter AF args) W) (eW : ∀ args (W : World), (callFunc WF args).run Tryz.prog W = .ok (.enter WF args) W)
    (HA : ∀ (n : Nat) (W : World) (vi : Value), n < N → Below w.heap.size w W → Ld W vi (atl sh n) → Calls Tryz.prog AF (#[.int .i64 (n : Nat), vi] ++ caps) W fun e w' => e = .returned (pv n) ∧ Below W.heap.size W w')
    (HF : ∀ (n : Nat) (W : World), n < N → Calls Tryz.prog WF #[pv n] W fun e w' => e = .returned (.tuple #[.int .i64 (va n), .int .i64 (er n)]) ∧ Below W.heap.size W w') :
    Calls Tryz.prog 33 #[vs, .func (.func WF) #[] #[], .func (.func AF) #[] caps] w (SomeT w (fer er N) (unl (fer er N) sh) (unl (fer er N) (vls va N))) := by
  obtain ⟨i0, hi0, hz0, hz1, hz2⟩ := info_parts infoW
  have l4 := may_len hm
  have hN6 : N ≤ 65536 := by have := may_prod hm; omega
  obtain ⟨w3, hw3⟩ : ∃ w3, w3 = (((w.alloc (.cells #[.func (.func WF) #[] #[]] 55)).alloc (.cells #[.func (.func AF) #[] caps] 67)).alloc (.cells #[.slice none 0 0, .slice none 0 0] 26)).alloc (.cells #[.int .i64 0] 32) := ⟨_, rfl⟩
  have hsz : w3.heap.size = w.heap.size + 4 := by rw [hw3]; simp
  have B3 : Below w.heap.size w w3 := by rw [hw3]; exact ((((Below.refl _ _).alloc (Nat.le_refl _) _).alloc (by simp) _).alloc (by simp; omega) _).alloc (by simp; omega) _
  have K0 : Hid (Blk w3 w.heap.size 55 #[.func (.func WF) #[] #[]]) := by rw [hw3]; exact (((Blk.new w _ _).alloc _).alloc _).alloc _
  have K1 : Hid (Blk w3 (w.heap.size + 1) 67 #[.func (.func AF) #[] caps]) := by rw [hw3]; exact ((blk_new1 w _ _ _).alloc _).alloc _
  have K2 : Hid (Blk w3 (w.heap.size + 2) 26 #[.slice none 0 0, .slice none 0 0]) := by
    rw [hw3]
    have q := Blk.new ((w.alloc (.cells #[.func (.func WF) #[] #[]] 55)).alloc (.cells #[.func (.func AF) #[] caps] 67)) 26 #[.slice none 0 0, .slice none 0 0]
    rw [World.size_alloc, World.size_alloc] at q
    exact q.alloc _
  have K3 : Hid (Blk w3 (w.heap.size + 3) 32 #[.int .i64 0]) := by
    rw [hw3]
    have q := Blk.new (((w.alloc (.cells #[.func (.func WF) #[] #[]] 55)).alloc (.cells #[.func (.func AF) #[] caps] 67)).alloc (.cells #[.slice none 0 0, .slice none 0 0] 26)) 32 #[.int .i64 0]
    rwa [World.size_alloc, World.size_alloc, World.size_alloc] at q
  have C2 := Lib.hid (cloned_any vs sh w3 (hs.below B3) (by omega))
  have C3 := Lib.hid (fun (W : World) (hW : Below w.heap.size w W) => all2_any vs sh W (hs.below hW) (by omega))
  rw [hm, if_pos rfl, ← hN] at C3
  have HV := Lib.hid (And.intro hm hN)
  have HAF := Lib.hid (And.intro HA HF)
  have EAW := Lib.hid (And.intro eA eW)
  obtain ⟨o1, n1, rfl, _, _⟩ := id hs
  have HW := Lib.hid hw3
  rw [hw3] at C2
  clear hw3 hs hm hN HA HF eA eW
  refine (callsIn_wide (n := 9)).1 ?_
  refine callsIn_of_wp_marks Tryz.func33 rfl trivial ?_
  simp only [Tryz.ntmps33, List.size_toArray, List.length_cons, List.length_nil, Nat.reduceAdd, Nat.reduceSub, Array.replicate_succ, Array.replicate_zero, List.push_toArray, List.append_toArray, List.nil_append, List.cons_append]
  refine wpIn_wide.2 ?_
  go_wp2_with (first
    | (go_at_call 57; (with_reducible refine C2.out.mono ?_); rintro e w5 ⟨o5, c5, rfl, ho5, _, hb5⟩; rw [← HW.out] at hb5; rw [hsz] at hb5; have b5 := B3.trans (hb5.mono (by omega)); replace K0 := Lib.hid (K0.out.below hb5 (by omega)); replace K1 := Lib.hid (K1.out.below hb5 (by omega)); replace K2 := Lib.hid (K2.out.below hb5 (by omega)); replace K3 := Lib.hid (K3.out.below hb5 (by omega)); have s5 : w.heap.size + 4 ≤ w5.heap.size := Nat.le_trans (Nat.le_of_eq hsz.symm) (by have := hb5.size; omega); have O5 := Lib.hid (own_base (base' := w.heap.size) ho5 (by rw [← HW.out]; omega)); clear ho5 hb5)
    | (go_at_call 58; (with_reducible refine (C3.out _ (b5.alloc (by omega) _)).mono ?_); rintro e w7 ⟨B1, B2, oA, cA, rfl, hbx, q1, q2, hb7⟩))
  have s7 : w5.heap.size + 1 ≤ w7.heap.size := by have := hb7.size; simp at this; omega
  have HT7 : Hid (Blk w7 w5.heap.size 26 #[.slice o5 sh.length c5, .slice none 0 0]) := (Blk.new w5 _ _).below hb7 (by simp)
  have HB7 : Hid (Below w5.heap.size w5 w7) := ((Below.refl _ _).alloc (Nat.le_refl _) _).trans (hb7.mono (by simp))
  have hq1 : w5.heap.size < B1 := by simp at q1; omega
  have hq2 : w5.heap.size < B2 := by simp at q2; omega
  have hbl : B1 < w7.heap.size := hbx.1.lt
  have hbl2 : B2 < w7.heap.size := hbx.2.1.lt
  have HBX := Lib.hid hbx
  have OWN : Hid (∀ g, oA = some ⟨g, 0, none⟩ → w5.heap.size < g ∧ g < w7.heap.size) := Lib.hid (fun g e => by
    have h := hbx.2.2.lt g (by rw [e]; rfl)
    have h2 := h.1
    simp at h2
    exact ⟨by omega, h.2⟩)
  clear hb7 hbx q1 q2
  refine (wpIn_wide (n := 9)).1 ?_
  refine wpIn_rangeFunc_told (F := Fence.wide) (n := 9) rfl (by decide) (gf := 90) (lb := #[.pointer (some ⟨B1, 0, none⟩), .pointer (some ⟨B2, 0, none⟩)]) rfl trivial (enters_of Tryz.func90 (by kernel_rfl) rfl)
    (all3_told 8 _ B1 B2 N (by decide) oA cA sh hN6 (fun _ => ⟨HV.out.1, HV.out.2.symm⟩) w7 HBX.out)
    Kp3.trans ?keepb (fun _ => rfl)
    (fun pre W => CpI w5.heap.size w7.heap.size w5 (.slice o5 sh.length c5) (vls va N) pre.length W ∧ ∀ j, j < pre.length → er j = 0)
    (fun cd pre W => cd = .ret ∧ (∃ k, k < N ∧ (∀ j, j < k → er j = 0) ∧ er k ≠ 0 ∧ Blk W (w.heap.size + 3) 32 #[.int .i64 (er k)]) ∧ Blk W (w.heap.size + 2) 26 #[.slice none 0 0, .slice none 0 0] ∧ Below w.heap.size w W)
    ?ownI ?ownX ?ownT ⟨⟨.slice none 0 0, HT7.out, ⟨rfl, .inl ⟨rfl, rfl⟩⟩, HB7.out, Nat.le_refl _⟩, fun j hj => absurd hj (Nat.not_lt_zero _)⟩ ?a1 ?assign ?body ?done ?stop
  case keepb =>
    intro X k o o' hk ho hc _
    exact ⟨World.putObj_heap_other (by omega), World.putObj_heap_other (by omega), fun g e => World.putObj_heap_other (by have := (OWN.out g e).2; omega)⟩
  case ownI =>
    rintro pre X Y row ⟨h1, h2⟩ hg hr
    have h := cpi_own w5.heap.size w7.heap.size w5 (.slice o5 sh.length c5) (vls va N) (by omega) (by omega) (List.replicate pre.length 0) X Y row (by simpa using h1) hg hr
    exact ⟨by simpa using h, h2⟩
  case ownX =>
    rintro cd pre X Y row ⟨e, ⟨k, k1, k2, k3, h1⟩, h2, h3⟩ hg hr
    have hc : ∀ r, row = some r → ∃ o : Obj, X.heap[r]? = some o ∧ o.isCells = false := fun r e => (hr r e).2
    exact ⟨e, ⟨k, k1, k2, k3, blk_own (β := Unit) _ _ (fun _ => _) () X Y row h1 hg hc⟩, blk_own (β := Unit) _ _ (fun _ => _) () X Y row h2 hg hc, h3.grown hg h3.size (fun k e => by have := (hr k e).1; omega)⟩
  case ownT => exact fun pre x _ X Y row h hg hr => ⟨h.1, blk_own (β := Unit) _ _ (fun _ => _) () X Y row h.2 hg (fun r e => (hr r e).2)⟩
  case assign =>
    intro l2 x X K hK
    unfold apr
    gi_wp2
    exact hK
  case body =>
    rintro l2 pre ⟨x1, x2⟩ X ⟨⟨dv, hTb, hDv, hBX, hXs⟩, hE⟩ hlt ⟨hx, hBI⟩
    obtain rfl : x1 = pre.length := hx
    gi_wp2
    have e4 : X.cell? ⟨w.heap.size, 0, none⟩ = some (.func (.func WF) #[] #[]) := (K0.out.below hBX (by omega)).cell 0
    have e5 : X.cell? ⟨w.heap.size + 1, 0, none⟩ = some (.func (.func AF) #[] caps) := (K1.out.below hBX (by omega)).cell 0
    have BX : Hid (∀ W, Below X.heap.size X W → Below w.heap.size w W) := Lib.hid (fun W hW => b5.trans ((hBX.trans (hW.mono hBX.size)).mono (by omega)))
    have KX : Hid (∀ W, Below X.heap.size X W → W.cell? ⟨w.heap.size, 0, none⟩ = some (.func (.func WF) #[] #[]) ∧ W.cell? ⟨w.heap.size + 1, 0, none⟩ = some (.func (.func AF) #[] caps)) := Lib.hid (fun W hW => ⟨(K0.out.below (hBX.trans (hW.mono hBX.size)) (by omega)).cell 0, (K1.out.below (hBX.trans (hW.mono hBX.size)) (by omega)).cell 0⟩)
    have HLd : Hid (Ld X (.slice (some ⟨x2, 0, none⟩) sh.length sh.length) (atl sh (pre.length : Nat))) := by
      have h := Ld.of_blk hBI (c := sh.length) (by rw [atl_len]; exact Nat.le_refl _)
      rw [atl_len] at h
      exact h
    refine wpIn_mono (region_inA (S := fun W => W.cell? ⟨w.heap.size, 0, none⟩ = some (.func (.func WF) #[] #[]) ∧ W.cell? ⟨w.heap.size + 1, 0, none⟩ = some (.func (.func AF) #[] caps)) (R := fun a2 W2 => a2 = { tmps := #[.slice o1 sh.length n1, .func (.func WF) #[] #[], .func (.func AF) #[] caps, undef, .pointer (some ⟨w.heap.size, 0, none⟩), .pointer (some ⟨w.heap.size + 1, 0, none⟩), .pointer (some ⟨w.heap.size + 1 + 1, 0, none⟩), .pointer (some ⟨w.heap.size + 1 + 1 + 1, 0, none⟩), .pointer (some ⟨w5.heap.size, 0, none⟩), .int .i64 (pre.length : Nat), .slice (some ⟨x2, 0, none⟩) sh.length sh.length, .int .i64 (va pre.length), .int .i64 (er pre.length), .slice o1 sh.length n1, .slice o5 sh.length c5, .agg #[.slice o5 sh.length c5, .slice none 0 0], .slice o1 sh.length n1, .func (.func 90) #[] #[.pointer (some ⟨B1, 0, none⟩), .pointer (some ⟨B2, 0, none⟩)], .int .i64 (pre.length : Nat), .slice (some ⟨x2, 0, none⟩) sh.length sh.length, .tuple #[.int .i64 (va pre.length), .int .i64 (er pre.length)], .func (.func WF) #[] #[], .func (.func AF) #[] caps, .int .i64 (pre.length : Nat), .slice (some ⟨x2, 0, none⟩) sh.length sh.length, pv pre.length, .tuple #[.int .i64 (va pre.length), .int .i64 (er pre.length)], .int .i64 (va pre.length), .int .i64 (er pre.length), undef, undef, undef, undef, undef, undef, undef, undef, undef, undef, undef], defers := [] } ∧ Below X.heap.size X W2) (by kernel_rfl) (by kernel_rfl) ?_ (fun hHeld => ?_)) ?_
    · exact ⟨e4, e5⟩
    · have HAn := Lib.hid (fun (W : World) (vi : Value) (hW : Below X.heap.size X W) => HAF.out.1 pre.length W vi hlt (BX.out W hW))
      have HFn := Lib.hid (fun (W : World) => HAF.out.2 pre.length W hlt)
      simp only [List.size_toArray, List.length_cons, List.length_nil, Nat.reduceAdd, Array.replicate_succ, Array.replicate_zero, List.push_toArray, List.nil_append, List.cons_append]
      (refine wpAnyH_take (i := 0) (oi := ⟨some 21, _, _, _, _, _⟩) (v := ?v0) rfl (by kernel_rfl) (by kernel_rfl) (by kernel_rfl) (fun _ _ _ h => by cases h.1) (Or.inl ⟨by rfl, ?hy0⟩) (by assumption) ?rest0; (case hy0 => ((intro w hSw); (try dsimp only at hSw); go_simp; first | done | (with_reducible rfl))))
      (try simp only [Act.put, List.setIfInBounds_toArray, List.set_cons_zero, List.set_cons_succ])
      (refine wpAnyH_take (i := 1) (oi := ⟨some 22, _, _, _, _, _⟩) (v := ?v1) rfl (by kernel_rfl) (by kernel_rfl) (by kernel_rfl) (fun _ _ _ h => by cases h.1) (Or.inl ⟨by rfl, ?hy1⟩) (by assumption) ?rest1; (case hy1 => ((intro w hSw); (try dsimp only at hSw); go_simp; first | done | (with_reducible rfl))))
      (try simp only [Act.put, List.setIfInBounds_toArray, List.set_cons_zero, List.set_cons_succ])
      (refine wpAnyH_take (i := 2) (oi := ⟨some 23, _, _, _, _, _⟩) (v := ?v2) rfl (by kernel_rfl) (by kernel_rfl) (by kernel_rfl) (fun _ _ _ h => by cases h.1) (Or.inl ⟨by rfl, ?hy2⟩) (by assumption) ?rest2; (case hy2 => ((intro w hSw); (try dsimp only at hSw); go_simp; first | done | (with_reducible rfl))))
      (try simp only [Act.put, List.setIfInBounds_toArray, List.set_cons_zero, List.set_cons_succ])
      (refine wpAnyH_take (i := 3) (oi := ⟨some 24, _, _, _, _, _⟩) (v := ?v3) rfl (by kernel_rfl) (by kernel_rfl) (by kernel_rfl) (fun _ _ _ h => by cases h.1) (Or.inl ⟨by rfl, ?hy3⟩) (by assumption) ?rest3; (case hy3 => ((intro w hSw); (try dsimp only at hSw); go_simp; first | done | (with_reducible rfl))))
      (try simp only [Act.put, List.setIfInBounds_toArray, List.set_cons_zero, List.set_cons_succ])
      refine wpAnyH_ready (rs := [4]) (by kernel_rfl) (by simp) ?_
      refine AllReadyH.cons (o := ⟨some 25, _, _, _, _, _⟩) rfl (fun K hK => ?_) AllReadyH.nil
      go_simp
      rw [EAW.out.1, Oper.upon_enter]
      refine (HAn.out _ _ (below_drw (Below.refl _ _) 1) (HLd.out.below (below_drw (Below.refl _ _) 1))).mono ?_
      rintro e w8 ⟨rfl, hb8⟩
      have B8 := Lib.hid ((below_drw (Below.refl X.heap.size X) 1).trans hb8)
      clear hb8
      refine hK.out _ _ (KX.out _ B8.out) (fun hHeld => ?_)
      clear hK K
      (try simp only [Act.put, List.setIfInBounds_toArray, List.set_cons_zero, List.set_cons_succ])
      refine wpAnyH_ready (rs := [5]) (by kernel_rfl) (by simp) ?_
      refine AllReadyH.cons (o := ⟨some 26, _, _, _, _, _⟩) rfl (fun K hK => ?_) AllReadyH.nil
      go_simp
      rw [EAW.out.2, Oper.upon_enter]
      refine (HFn.out _).mono ?_
      rintro e w9 ⟨rfl, hb9⟩
      have B9 := Lib.hid (B8.out.trans (hb9.mono B8.out.size))
      clear hb9
      refine hK.out _ _ (KX.out _ B9.out) (fun hHeld => ?_)
      clear hK K
      (try simp only [Act.put, List.setIfInBounds_toArray, List.set_cons_zero, List.set_cons_succ])
      (refine wpAnyH_take (i := 6) (oi := ⟨some 20, _, _, _, _, _⟩) (v := ?v6) rfl (by kernel_rfl) (by kernel_rfl) (by kernel_rfl) (fun _ _ _ h => by cases h.1) (Or.inl ⟨by rfl, ?hy6⟩) (by assumption) ?rest6; (case hy6 => ((intro w hSw); (try dsimp only at hSw); go_simp; first | done | (with_reducible rfl))))
      (try simp only [Act.put, List.setIfInBounds_toArray, List.set_cons_zero, List.set_cons_succ])
      (refine wpAnyH_take (i := 7) (oi := ⟨some 27, _, _, _, _, _⟩) (v := ?v7) rfl (by kernel_rfl) (by kernel_rfl) (by kernel_rfl) (fun _ _ _ h => by cases h.1) (Or.inl ⟨by rfl, ?hy7⟩) (by assumption) ?rest7; (case hy7 => ((intro w hSw); (try dsimp only at hSw); go_simp; first | done | (with_reducible rfl))))
      (try simp only [Act.put, List.setIfInBounds_toArray, List.set_cons_zero, List.set_cons_succ])
      (refine wpAnyH_take (i := 8) (oi := ⟨some 28, _, _, _, _, _⟩) (v := ?v8) rfl (by kernel_rfl) (by kernel_rfl) (by kernel_rfl) (fun _ _ _ h => by cases h.1) (Or.inl ⟨by rfl, ?hy8⟩) (by assumption) ?rest8; (case hy8 => ((intro w hSw); (try dsimp only at hSw); go_simp; first | done | (with_reducible rfl))))
      (try simp only [Act.put, List.setIfInBounds_toArray, List.set_cons_zero, List.set_cons_succ])
      (refine wpAnyH_take (i := 9) (oi := ⟨some 11, _, _, _, _, _⟩) (v := ?v9) rfl (by kernel_rfl) (by kernel_rfl) (by kernel_rfl) (fun _ _ _ h => by cases h.1) (Or.inl ⟨by rfl, ?hy9⟩) (by assumption) ?rest9; (case hy9 => ((intro w hSw); (try dsimp only at hSw); go_simp; first | done | (with_reducible rfl))))
      (try simp only [Act.put, List.setIfInBounds_toArray, List.set_cons_zero, List.set_cons_succ])
      (refine wpAnyH_take (i := 10) (oi := ⟨some 12, _, _, _, _, _⟩) (v := ?v10) rfl (by kernel_rfl) (by kernel_rfl) (by kernel_rfl) (fun _ _ _ h => by cases h.1) (Or.inl ⟨by rfl, ?hy10⟩) (by assumption) ?rest10; (case hy10 => ((intro w hSw); (try dsimp only at hSw); go_simp; first | done | (with_reducible rfl))))
      (try simp only [Act.put, List.setIfInBounds_toArray, List.set_cons_zero, List.set_cons_succ])
      refine wpAnyH_done (by kernel_rfl) ?_ _
      exact ⟨rfl, rfl, B9.out⟩
    · rintro e a3 W3 ⟨rfl, rfl, hB3⟩
      have s3 : w7.heap.size ≤ W3.heap.size := Nat.le_trans hXs hB3.size
      by_cases he : er pre.length = 0
      · as_aux_lemma =>
        have hev : (er pre.length != 0) = false := by rw [bne_eq_false_iff_eq]; exact he
        have HEr := Lib.hid (show ∀ j, j < pre.length + 1 → er j = 0 from fun j hj => by
          by_cases e : j = pre.length
          · rw [e]; exact he
          · exact hE j (by omega))
        have HT := Lib.hid (hTb.below hB3 hTb.lt)
        have HO := Lib.hid (Below.keepOwn hDv hB3 (Nat.le_refl _))
        have HB := Lib.hid (hBX.trans (hB3.mono hBX.size))
        have B3h := Lib.hid hB3
        have EA := Lib.hid (vls_snoc va (n := N) hlt)
        obtain ⟨t0, t1, tf0, tf1⟩ := blk2 HT.out
        have hk6 : pre.length < 65536 := by omega
        generalize hy : va pre.length = y at *
        clear he hTb hDv hBX hB3 hE HLd BX KX e4 e5 hBI
        gi_wp2_with (gi_at_builtin; refine wpListIn_append_own _ rfl _ _ 24 rfl w7.heap.size 2 i0 (.int .i64 0) 1 8 Tryz.underlying24 hi0 hz0 hz1 hz2 rfl (by decide) dv pre.length (ints ((vls va N).take pre.length)) rfl (HO.out.alloc _) ⟨W3.heap.size, 0, none⟩ 1 1 [.int .i64 y] rfl rfl (cell_one_new _ _ _) (by simp [Value.oneCell']) (by unfold maxLen; omega) (by omega) (by simp; omega) ?_; intro v9 w9 hown hgrow _; obtain ⟨g9, cp9, rfl⟩ := own_slice1 hown (by omega); replace hgrow := grown_predrew hgrow; have Q9 := Lib.hid (cp_step (g := W3.heap.size + 1) HT.out HO.out HB.out hgrow (.inr rfl) (by omega) s3); have R9 := Lib.hid (cp_done hown Q9.out.1 Q9.out.2 HT.out HO.out hgrow EA.out (by omega) s3); obtain ⟨p0, p1, h0, h1⟩ := blk2 Q9.out.1; clear hown hgrow)
        refine ⟨⟨Nat.le_trans B3h.out.size R9.out.1.size, fun j o hj ho hc => R9.out.1.same j o hj ((B3h.out.block j (Array.getElem?_eq_some_iff.1 ho).1).trans ho) hc⟩, ⟨?_, ?_, fun g e => ?_⟩, ?_⟩
        · exact (R9.out.2.1.1 B1 ⟨by omega, by omega⟩).trans (B3h.out.block B1 (by omega))
        · exact (R9.out.2.1.1 B2 ⟨by omega, by omega⟩).trans (B3h.out.block B2 (by omega))
        · have q := OWN.out g e
          exact (R9.out.2.1.1 g ⟨by omega, by omega⟩).trans (B3h.out.block g (by omega))
        · have e1 : (pre ++ [(pre.length, x2)]).length = pre.length + 1 := by simp
          show CpI _ _ _ _ _ (pre ++ [(pre.length, x2)]).length _ ∧ ∀ j, j < (pre ++ [(pre.length, x2)]).length → er j = 0
          rw [e1]
          exact ⟨R9.out.2.2, HEr.out⟩
      · as_aux_lemma =>
        have hev : (er pre.length != 0) = true := bne_iff_ne.2 he
        have HEr := Lib.hid (And.intro hE he)
        have XB := Lib.hid (hBX.trans (hB3.mono hBX.size))
        have k62 := K2.out.below XB.out (by omega)
        have k63 := K3.out.below XB.out (by omega)
        have BW := Lib.hid (BX.out _ hB3)
        have B3h := Lib.hid hB3
        have XE := Lib.hid (And.intro k62 k63)
        obtain ⟨r0, r1, rf0, rf1⟩ := blk2 k62
        obtain ⟨u0, uf0⟩ := And.intro (k63.cell 0) (k63.frozen 0)
        clear he hTb hDv hBX hB3 hE HLd BX KX e4 e5 hBI k62 k63
        gi_wp2
        refine ⟨⟨by simpa using B3h.out.size, fun j o hj ho _ => ?_⟩, rfl, ⟨pre.length, hlt, HEr.out.1, HEr.out.2, ?_⟩, ?_, ?_⟩
        · exact ((Below.heap_setCell _ _ _ j (show ¬ j = w.heap.size + 3 by omega)).trans ((Below.heap_setCell _ _ _ j (show ¬ j = w.heap.size + 2 by omega)).trans (Below.heap_setCell _ _ _ j (show ¬ j = w.heap.size + 2 by omega)))).trans ((B3h.out.block j (Array.getElem?_eq_some_iff.1 ho).1).trans ho)
        · exact ((XE.out.2.far (p := ⟨w.heap.size + 2, 0, none⟩) (by show ¬ w.heap.size + 3 = w.heap.size + 2; omega) _).far (p := ⟨w.heap.size + 2, 1, none⟩) (by show ¬ w.heap.size + 3 = w.heap.size + 2; omega) _).set_ 0 _
        · exact ((XE.out.1.set_ 0 _).set_ 1 _).far (p := ⟨w.heap.size + 3, 0, none⟩) (by show ¬ w.heap.size + 2 = w.heap.size + 3; omega) _
        · exact ((BW.out.setCell (p := ⟨w.heap.size + 2, 0, none⟩) (by show w.heap.size ≤ w.heap.size + 2; omega) _).setCell (p := ⟨w.heap.size + 2, 1, none⟩) (by show w.heap.size ≤ w.heap.size + 2; omega) _).setCell (p := ⟨w.heap.size + 3, 0, none⟩) (by show w.heap.size ≤ w.heap.size + 3; omega) _
  case done =>
    rintro D ys X hD hys ⟨⟨dv, hTb, hDv, hBX, hXs⟩, hE⟩ hK
    have hys' : ys.length = N := hys
    rw [hys'] at hDv hE
    have hf : fer er N = 0 := fer_no hE
    obtain ⟨c0, c1, f0, f1⟩ := blk2 hTb
    have R2 := K2.out.below hBX (by omega)
    have R3 := K3.out.below hBX (by omega)
    obtain ⟨d0, d1, g0, g1⟩ := blk2 R2
    obtain ⟨u0, uf0⟩ := And.intro (R3.cell 0) (R3.frozen 0)
    have hDv2 : X.ownsRow w7.heap.size 2 1 dv (vls va N).length (ints (vls va N)) := by
      rw [vls_len]
      rwa [List.take_of_length_le (by rw [vls_len]; exact Nat.le_refl _)] at hDv
    have HDv := Lib.hid hDv2
    have HF := Lib.hid hf
    have HX := Lib.hid (And.intro R2 (And.intro R3 (And.intro hBX hK)))
    clear hTb hDv hDv2 hBX hE hf R2 R3 hK hys hys'
    obtain ⟨od, cd, rfl, _⟩ := Ld.of_owns HDv.out
    have hDa : ¬ D = w.heap.size + 2 := by omega
    have hDb : ¬ D = w.heap.size + 3 := by omega
    have HK2 := Lib.hid (show (((X.setCell ⟨w.heap.size + 2, 0, none⟩ (.slice o5 sh.length c5)).setCell ⟨w.heap.size + 2, 1, none⟩ (.slice od (vls va N).length cd)).setCell ⟨w.heap.size + 3, 0, none⟩ (.int .i64 0)).heap[D]? = some (.deferred (some [])) from ((Below.heap_setCell _ _ _ _ hDb).trans ((Below.heap_setCell _ _ _ _ hDa).trans (Below.heap_setCell _ _ _ _ hDa))).trans HX.out.2.2.2)
    have E1 := Lib.hid (each_end (Below.keepOwn O5.out HX.out.2.2.1 (Nat.le_refl _)) HX.out.1 HX.out.2.1 (by omega) HX.out.2.2.2 rfl (by decide) (by decide) (.slice o5 sh.length c5) (.slice od (vls va N).length cd) (.int .i64 0) (.deferred none))
    have E2 := Lib.hid (each_end HDv.out HX.out.1 HX.out.2.1 (by omega) HX.out.2.2.2 rfl (by decide) (by decide) (.slice o5 sh.length c5) (.slice od (vls va N).length cd) (.int .i64 0) (.deferred none))
    have E3 := Lib.hid (((((b5.trans (HX.out.2.2.1.mono (by omega))).setCell (p := ⟨w.heap.size + 2, 0, none⟩) (by show w.heap.size ≤ w.heap.size + 2; omega) (.slice o5 sh.length c5)).setCell (p := ⟨w.heap.size + 2, 1, none⟩) (by show w.heap.size ≤ w.heap.size + 2; omega) (.slice od (vls va N).length cd)).setCell (p := ⟨w.heap.size + 3, 0, none⟩) (by show w.heap.size ≤ w.heap.size + 3; omega) (.int .i64 0)).trans (belowK_b (w := w) (Nat.le_refl _) _ D _ (.deferred none) (by omega) HK2.out rfl rfl))
    have q1 : Blk ((((X.setCell ⟨w.heap.size + 2, 0, none⟩ (.slice o5 sh.length c5)).setCell ⟨w.heap.size + 2, 1, none⟩ (.slice od (vls va N).length cd)).setCell ⟨w.heap.size + 3, 0, none⟩ (.int .i64 0)).putObj D (.deferred none)) (w.heap.size + 2) 26 #[.slice o5 sh.length c5, .slice od (vls va N).length cd] := (((HX.out.1.set_ 0 _).set_ 1 _).far (p := ⟨w.heap.size + 3, 0, none⟩) (by show ¬ w.heap.size + 2 = w.heap.size + 3; omega) _).kept (grownBy_putObj' _ D _) (by intro e; cases e; omega)
    have q2 : Blk ((((X.setCell ⟨w.heap.size + 2, 0, none⟩ (.slice o5 sh.length c5)).setCell ⟨w.heap.size + 2, 1, none⟩ (.slice od (vls va N).length cd)).setCell ⟨w.heap.size + 3, 0, none⟩ (.int .i64 0)).putObj D (.deferred none)) (w.heap.size + 3) 32 #[.int .i64 0] := (((HX.out.2.1.far (p := ⟨w.heap.size + 2, 0, none⟩) (by show ¬ w.heap.size + 3 = w.heap.size + 2; omega) _).far (p := ⟨w.heap.size + 2, 1, none⟩) (by show ¬ w.heap.size + 3 = w.heap.size + 2; omega) _).set_ 0 _).kept (grownBy_putObj' _ D _) (by intro e; cases e; omega)
    have Q := Lib.hid (And.intro (q1.cell 0) (And.intro (q1.cell 1) (q2.cell 0)))
    clear q1 q2 HX
    go_wp2
    refine ⟨by simp, .inl ⟨_, _, rfl, run_takeDeferred HK2.out, ?_⟩⟩
    obtain ⟨p0, p1, p2⟩ := Q.out
    refine ⟨.tuple #[.agg #[.slice o5 sh.length c5, .slice od (vls va N).length cd], .int .i64 0], by simp [results, Tryz.results33, go_sem, p0, p1, p2], ?_⟩
    rw [HF.out]
    exact ⟨o5, c5, od, cd, rfl, E1.out, own_base E2.out (by omega), E3.out⟩
  case stop =>
    rintro D cd pre X hD hpre ⟨rfl, ⟨k, k1, k2, k3, h1⟩, h2, h3⟩ hK
    have HF := Lib.hid (fer_first k2 k3 N k1)
    have HZ := Lib.hid k3
    have e1 := h1.kept (grownBy_putObj' X D (.deferred none)) (by intro e; cases e; rw [show X.heap[_]? = _ from h1] at hK; cases hK)
    have e2 := h2.kept (grownBy_putObj' X D (.deferred none)) (by intro e; cases e; rw [show X.heap[_]? = _ from h2] at hK; cases hK)
    have e3 : Below w.heap.size w (X.putObj D (.deferred none)) := h3.trans (belowK_b (w := w) (Nat.le_refl _) _ D _ (.deferred none) (by omega) hK rfl rfl)
    obtain ⟨p0, p1, _⟩ := blk2 e2
    have p2 := e1.cell 0
    have HE := Lib.hid e3
    have HK := Lib.hid hK
    clear e1 e2 e3 hK h1 h2 h3 k2 k3
    gi_wp2
    go_wp2
    refine ⟨by simp, .inl ⟨_, _, rfl, run_takeDeferred HK.out, ?_⟩⟩
    refine ⟨.tuple #[.agg #[.slice none 0 0, .slice none 0 0], .int .i64 (er k)], by simp [results, Tryz.results33, go_sem, p0, p1, p2], ?_⟩
    rw [HF.out]
    have u0 : ∀ l : List Int, unl (er k) l = [] := fun l => by unfold unl; rw [if_neg HZ.out]
    rw [u0, u0]
    exact ⟨none, 0, none, 0, rfl, World.ownsRow_nil _ _ _ _, World.ownsRow_nil _ _ _ _, HE.out⟩
end Go.Proofs.YtpfcjajmfadcbaaGreat
namespace Go.Proofs.YtpfcjajmfadcbaaGreat
open Go Go.RowKit Go.Shelf

theorem run_put {P : Program} {w : World} {t kt e : TypeId} {r clock : Nat} {es : Array MapEntry} (x : Int) (v : Value) (hu : P.underlying t = some (.map kt e)) (hk : P.underlying kt = some (.int .i64)) (hb : w.heap[r]? = some (.map es clock)) (hf : Instr.findNow (.int .i64) (.int .i64 x) es.toList 0 = some none) :
    (Instr.mapUpdate t (.map (some r)) (.int .i64 x) v).run P w = .ok () (w.putObj r (.map (es.push ⟨.int .i64 x, v, clock⟩) (clock + 1))) := by
  have hc : (Instr.checkKey false 10000 kt (.int .i64 x)).run P w = .ok () w := MapKept.run_checkKey (k := .int .i64 x) hk (by simp [MapKept.IsKey]) false 9999
  simp [Instr.mapUpdate, run_underlying hu, MapKept.run_getObj_map hb, hc, MapKept.run_findKey hk hf, MapKept.run_setObj_map _ hb, Result.andThen, World.putObj]
theorem run_look {P : Program} {w : World} {t kt e : TypeId} {r clock i : Nat} {es : Array MapEntry} (x : Int) (v : Value) (hu : P.underlying t = some (.map kt e)) (hk : P.underlying kt = some (.int .i64)) (hb : w.heap[r]? = some (.map es clock)) (hf : Instr.findNow (.int .i64) (.int .i64 x) es.toList 0 = some (some (i, v))) :
    (Instr.lookup t (.map (some r)) (.int .i64 x) true).run P w = .ok (.tuple #[v, .bool true]) w := by
  have hc : (Instr.checkKey es.isEmpty 10000 kt (.int .i64 x)).run P w = .ok () w := MapKept.run_checkKey (k := .int .i64 x) hk (by simp [MapKept.IsKey]) es.isEmpty 9999
  simp [Instr.lookup, run_underlying hu, MapKept.run_getObj_map hb, hc, MapKept.run_findKey hk hf, Result.andThen]
theorem below_put {B r : Nat} {w W : World} (h : Below B w W) (hr : B ≤ r) (o : Obj) : Below B w (W.putObj r o) := ⟨h.os, h.tape, h.output, by simpa [World.putObj] using h.size, fun k hk => (World.putObj_heap_other (by omega)).trans (h.block k hk)⟩
theorem put_at {W : World} {r : Nat} (o : Obj) (h : r < W.heap.size) : (W.putObj r o).heap[r]? = some o ∧ r < (W.putObj r o).heap.size := ⟨World.putObj_heap_same h, by simpa [World.putObj] using h⟩

/-- The table of operations of two. -/
def tbl2 : Array MapEntry := #[⟨.int .i64 3, .func (.func 51) #[] #[], 0⟩, ⟨.int .i64 4, .func (.func 52) #[] #[], 1⟩, ⟨.int .i64 5, .func (.func 53) #[] #[], 2⟩, ⟨.int .i64 6, .func (.func 54) #[] #[], 3⟩]

set_option maxRecDepth 100000 in
set_option maxHeartbeats 2000000 in
theorem oftwo_any (w : World) : Calls Tryz.prog 30 #[] w fun e w' => e = .returned (.map (some w.heap.size)) ∧ w'.heap[w.heap.size]? = some (.map tbl2 4) ∧ Below w.heap.size w w' := by
  have hmm := @run_makeMap Tryz.prog
  have h0 : (w.alloc (.map #[] 0)).heap[w.heap.size]? = some (.map #[] 0) ∧ w.heap.size < (w.alloc (.map #[] 0)).heap.size := ⟨World.alloc_heap_new w _, by simp⟩
  have b0 : Below w.heap.size w (w.alloc (.map #[] 0)) := (Below.refl _ _).alloc (Nat.le_refl _) _
  have q1 := put_at (.map #[⟨.int .i64 3, .func (.func 51) #[] #[], 0⟩] 1) h0.2
  have p1 := run_put (P := Tryz.prog) (t := 57) (kt := 3) (e := 55) 3 (.func (.func 51) #[] #[]) (by kernel_rfl) (by kernel_rfl) h0.1 rfl
  have b1 := below_put b0 (Nat.le_refl _) (.map #[⟨.int .i64 3, .func (.func 51) #[] #[], 0⟩] 1)
  obtain ⟨W1, hW1⟩ : ∃ W1, W1 = (w.alloc (.map #[] 0)).putObj w.heap.size (.map #[⟨.int .i64 3, .func (.func 51) #[] #[], 0⟩] 1) := ⟨_, rfl⟩
  rw [← hW1] at q1 b1
  replace p1 : (Instr.mapUpdate 57 (.map (some w.heap.size)) (.int .i64 3) (.func (.func 51) #[] #[])).run Tryz.prog (w.alloc (.map #[] 0)) = .ok () W1 := by rw [hW1]; exact p1
  have q2 := put_at (.map #[⟨.int .i64 3, .func (.func 51) #[] #[], 0⟩, ⟨.int .i64 4, .func (.func 52) #[] #[], 1⟩] 2) q1.2
  have p2 := run_put (P := Tryz.prog) (t := 57) (kt := 3) (e := 55) 4 (.func (.func 52) #[] #[]) (by kernel_rfl) (by kernel_rfl) q1.1 rfl
  have b2 := below_put b1 (Nat.le_refl _) (.map #[⟨.int .i64 3, .func (.func 51) #[] #[], 0⟩, ⟨.int .i64 4, .func (.func 52) #[] #[], 1⟩] 2)
  obtain ⟨W2, hW2⟩ : ∃ W2, W2 = W1.putObj w.heap.size (.map #[⟨.int .i64 3, .func (.func 51) #[] #[], 0⟩, ⟨.int .i64 4, .func (.func 52) #[] #[], 1⟩] 2) := ⟨_, rfl⟩
  rw [← hW2] at q2 b2
  replace p2 : (Instr.mapUpdate 57 (.map (some w.heap.size)) (.int .i64 4) (.func (.func 52) #[] #[])).run Tryz.prog W1 = .ok () W2 := by rw [hW2]; exact p2
  have q3 := put_at (.map #[⟨.int .i64 3, .func (.func 51) #[] #[], 0⟩, ⟨.int .i64 4, .func (.func 52) #[] #[], 1⟩, ⟨.int .i64 5, .func (.func 53) #[] #[], 2⟩] 3) q2.2
  have p3 := run_put (P := Tryz.prog) (t := 57) (kt := 3) (e := 55) 5 (.func (.func 53) #[] #[]) (by kernel_rfl) (by kernel_rfl) q2.1 rfl
  have b3 := below_put b2 (Nat.le_refl _) (.map #[⟨.int .i64 3, .func (.func 51) #[] #[], 0⟩, ⟨.int .i64 4, .func (.func 52) #[] #[], 1⟩, ⟨.int .i64 5, .func (.func 53) #[] #[], 2⟩] 3)
  obtain ⟨W3, hW3⟩ : ∃ W3, W3 = W2.putObj w.heap.size (.map #[⟨.int .i64 3, .func (.func 51) #[] #[], 0⟩, ⟨.int .i64 4, .func (.func 52) #[] #[], 1⟩, ⟨.int .i64 5, .func (.func 53) #[] #[], 2⟩] 3) := ⟨_, rfl⟩
  rw [← hW3] at q3 b3
  replace p3 : (Instr.mapUpdate 57 (.map (some w.heap.size)) (.int .i64 5) (.func (.func 53) #[] #[])).run Tryz.prog W2 = .ok () W3 := by rw [hW3]; exact p3
  have q4 := put_at (.map tbl2 4) q3.2
  have p4 := run_put (P := Tryz.prog) (t := 57) (kt := 3) (e := 55) 6 (.func (.func 54) #[] #[]) (by kernel_rfl) (by kernel_rfl) q3.1 rfl
  have b4 := below_put b3 (Nat.le_refl _) (.map tbl2 4)
  obtain ⟨W4, hW4⟩ : ∃ W4, W4 = W3.putObj w.heap.size (.map tbl2 4) := ⟨_, rfl⟩
  rw [← hW4] at q4 b4
  replace p4 : (Instr.mapUpdate 57 (.map (some w.heap.size)) (.int .i64 6) (.func (.func 54) #[] #[])).run Tryz.prog W3 = .ok () W4 := by rw [hW4]; exact p4
  have Q := Lib.hid (And.intro q4.1 b4)
  clear hW1 hW2 hW3 hW4 q1 q2 q3 q4 b0 b1 b2 b3 b4 h0
  go_enter Tryz.func30, Tryz.ntmps30
  go_wp2
  go_ret
  exact ⟨rfl, Q.out.1, Q.out.2⟩
end Go.Proofs.YtpfcjajmfadcbaaGreat
namespace Go.Proofs.YtpfcjajmfadcbaaGreat

def hi (a : Int) : Int := a / 18446744073709551616
def lo (a : Int) : Int := a % 18446744073709551616
/-- a is a wide number. -/
def R (a : Int) : Prop := -9223372036854775808 ≤ hi a ∧ hi a ≤ 9223372036854775807
instance (a : Int) : Decidable (R a) := inferInstanceAs (Decidable (_ ∧ _))
/-- a is below 0. -/
def ng (a : Int) : Bool := decide (a < 0)

theorem lo_bd (a : Int) : 0 ≤ lo a ∧ lo a ≤ 18446744073709551615 := by unfold lo; omega
theorem hi_lo (a : Int) : a = hi a * 18446744073709551616 + lo a := by unfold hi lo; omega
theorem hi_mk (h l : Int) (l0 : 0 ≤ l) (l1 : l ≤ 18446744073709551615) : hi (h * 18446744073709551616 + l) = h := by unfold hi; omega
theorem lo_mk (h l : Int) (l0 : 0 ≤ l) (l1 : l ≤ 18446744073709551615) : lo (h * 18446744073709551616 + l) = l := by unfold lo; omega
theorem hi_neg (a : Int) : decide (hi a < 0) = ng a := by unfold hi ng; rw [Bool.eq_iff_iff]; simp only [decide_eq_true_eq]; omega
theorem hl_inj {a b : Int} (h : hi a = hi b) (l : lo a = lo b) : a = b := by rw [hi_lo a, hi_lo b, h, l]

end Go.Proofs.YtpfcjajmfadcbaaGreat
namespace Go.Proofs.YtpfcjajmfadcbaaGreat
open Go.RowKit

abbrev Wv (a : Int) : Value := .agg #[.int .i64 (hi a), .int .u64 (lo a)]

theorem below_any (a : Int) (w : World) :
    Calls Tryz.prog 221 #[Wv a] w fun e w' => e = .returned (.bool (ng a)) ∧ w.alloc (.cells #[.int .i64 (hi a), .int .u64 (lo a)] 175) = w' := by
  have H := Lib.hid (hi_neg a)
  go_enter Tryz.func221, Tryz.ntmps221
  go_wp2
  go_ret
  exact ⟨by rw [H.out]; rfl, rfl⟩

theorem isNaN_i64 (a : Int) (w : World) : Calls Tryz.prog 247 #[.int .i64 a] w fun e w' => e = .returned (.bool false) ∧ w = w' := by
  go_enter Tryz.func247, Tryz.ntmps247
  go_wp2
  go_ret
  exact ⟨by simp, rfl⟩
theorem isNaN_u64 (a : Int) (w : World) : Calls Tryz.prog 246 #[.int .u64 a] w fun e w' => e = .returned (.bool false) ∧ w = w' := by
  go_enter Tryz.func246, Tryz.ntmps246
  go_wp2
  go_ret
  exact ⟨by simp, rfl⟩

/-- -1, 0, 1: as cmp.Compare tells it. -/
def sg (a b : Int) : Int := if a < b then -1 else if a > b then 1 else 0
theorem sg_lt {a b : Int} (h : a < b) : sg a b = -1 := by unfold sg; rw [if_pos h]
theorem sg_gt {a b : Int} (h : b < a) : sg a b = 1 := by unfold sg; rw [if_neg (by omega), if_pos h]
theorem sg_eq (a : Int) : sg a a = 0 := by unfold sg; rw [if_neg (by omega), if_neg (by omega)]

theorem compare_i64 (a b : Int) (w : World) : Calls Tryz.prog 245 #[.int .i64 a, .int .i64 b] w fun e w' => e = .returned (.int .i64 (sg a b)) ∧ w = w' := by
  rcases Int.lt_trichotomy a b with h | rfl | h
  · have H := Lib.hid (sg_lt h)
    go_enter Tryz.func245, Tryz.ntmps245
    go_wp2_with (go_at_call 247; refine (isNaN_i64 _ _).mono ?_; rintro e w' ⟨rfl, rfl⟩)
    go_ret
    exact ⟨by rw [H.out]; rfl, rfl⟩
  · have H := Lib.hid (sg_eq a)
    go_enter Tryz.func245, Tryz.ntmps245
    go_wp2_with (go_at_call 247; refine (isNaN_i64 _ _).mono ?_; rintro e w' ⟨rfl, rfl⟩)
    go_ret
    exact ⟨by rw [H.out]; rfl, rfl⟩
  · have H := Lib.hid (sg_gt h)
    go_enter Tryz.func245, Tryz.ntmps245
    go_wp2_with (go_at_call 247; refine (isNaN_i64 _ _).mono ?_; rintro e w' ⟨rfl, rfl⟩)
    go_ret
    exact ⟨by rw [H.out]; rfl, rfl⟩

theorem compare_u64 (a b : Int) (w : World) : Calls Tryz.prog 243 #[.int .u64 a, .int .u64 b] w fun e w' => e = .returned (.int .i64 (sg a b)) ∧ w = w' := by
  rcases Int.lt_trichotomy a b with h | rfl | h
  · have H := Lib.hid (sg_lt h)
    go_enter Tryz.func243, Tryz.ntmps243
    go_wp2_with (go_at_call 246; refine (isNaN_u64 _ _).mono ?_; rintro e w' ⟨rfl, rfl⟩)
    go_ret
    exact ⟨by rw [H.out]; rfl, rfl⟩
  · have H := Lib.hid (sg_eq a)
    go_enter Tryz.func243, Tryz.ntmps243
    go_wp2_with (go_at_call 246; refine (isNaN_u64 _ _).mono ?_; rintro e w' ⟨rfl, rfl⟩)
    go_ret
    exact ⟨by rw [H.out]; rfl, rfl⟩
  · have H := Lib.hid (sg_gt h)
    go_enter Tryz.func243, Tryz.ntmps243
    go_wp2_with (go_at_call 246; refine (isNaN_u64 _ _).mono ?_; rintro e w' ⟨rfl, rfl⟩)
    go_ret
    exact ⟨by rw [H.out]; rfl, rfl⟩

theorem sg_hi {a b : Int} (h : hi a ≠ hi b) : sg (hi a) (hi b) = sg a b := by
  unfold sg hi at *
  repeat' split <;> try omega
theorem sg_lo {a b : Int} (h : hi a = hi b) : sg (lo a) (lo b) = sg a b := by
  unfold sg lo hi at *
  repeat' split <;> try omega

/-- wide.Cmp -/
theorem cmp_any (a b : Int) (w : World) : Calls Tryz.prog 241 #[Wv a, Wv b] w fun e w' => e = .returned (.int .i64 (sg a b)) ∧ Below w.heap.size w w' := by
  by_cases h : hi a = hi b
  · have H := Lib.hid (sg_lo h)
    have g : (hi a != hi b) = false := by simp [h]
    have K := Lib.hid h
    clear h
    go_enter Tryz.func241, Tryz.ntmps241
    go_wp2_with (go_at_call 243; refine (compare_u64 _ _ _).mono ?_; rintro e w' ⟨rfl, rfl⟩)
    go_ret
    exact ⟨by rw [H.out]; rfl, ((Below.refl _ _).alloc (Nat.le_refl _) _).alloc (by simp) _⟩
  · have H := Lib.hid (sg_hi h)
    have g : (hi a != hi b) = true := by simp [h]
    clear h
    go_enter Tryz.func241, Tryz.ntmps241
    go_wp2_with (go_at_call 245; refine (compare_i64 _ _ _).mono ?_; rintro e w' ⟨rfl, rfl⟩)
    go_ret
    exact ⟨by rw [H.out]; rfl, ((Below.refl _ _).alloc (Nat.le_refl _) _).alloc (by simp) _⟩

theorem wv0 : Wv 0 = .agg #[.int .i64 0, .int .u64 0] := rfl
/-- wide.Sign -/
theorem sign_any (a : Int) (w : World) : Calls Tryz.prog 234 #[Wv a] w fun e w' => e = .returned (.int .i64 (sg a 0)) ∧ Below w.heap.size w w' := by
  have C := Lib.hid (fun W => cmp_any a 0 W)
  rw [wv0] at C
  go_enter Tryz.func234, Tryz.ntmps234
  go_wp2_with (go_at_call 241; refine (C.out _).mono ?_; rintro e w' ⟨rfl, hb⟩)
  go_ret
  exact ⟨rfl, ((Below.refl _ _).alloc (Nat.le_refl _) _).trans (hb.mono (by simp))⟩
end Go.Proofs.YtpfcjajmfadcbaaGreat
namespace Go.Proofs.YtpfcjajmfadcbaaGreat
open Go.RowKit

/-- Is v a word? -/
def wd (v : Int) : Bool := decide (-140737488355328 < v ∧ v < 140737488355328)
/-- Are these counts of fraction bits? -/
def fb (f : Int) : Bool := decide (8 ≤ f ∧ f ≤ 32)
/-- A number told as a word; and the error beside it. -/
def tw (v : Int) : Int := if wd v = true then v else 0
def te (v : Int) : Int := if wd v = true then 0 else 3
theorem wd_bd {v : Int} (h : wd v = true) : -140737488355328 < v ∧ v < 140737488355328 := of_decide_eq_true h
theorem wd_mk {v : Int} (h : -140737488355328 < v ∧ v < 140737488355328) : wd v = true := decide_eq_true h
theorem wd_no {v : Int} (h : wd v = false) : v ≤ -140737488355328 ∨ 140737488355328 ≤ v := by have := of_decide_eq_false h; omega
theorem fb_bd {f : Int} (h : fb f = true) : 8 ≤ f ∧ f ≤ 32 := of_decide_eq_true h
theorem fb_mk {f : Int} (h : 8 ≤ f ∧ f ≤ 32) : fb f = true := decide_eq_true h
theorem fb_no {f : Int} (h : fb f = false) : f < 8 ∨ 32 < f := by have := of_decide_eq_false h; omega
theorem tw_in {v : Int} (h : wd v = true) : tw v = v := if_pos h
theorem te_in {v : Int} (h : wd v = true) : te v = 0 := if_pos h
theorem tw_out {v : Int} (h : wd v = false) : tw v = 0 := if_neg (by simp [h])
theorem te_out {v : Int} (h : wd v = false) : te v = 3 := if_neg (by simp [h])
theorem wd_tw (v : Int) : wd (tw v) = true := by unfold tw; split; assumption; rfl

/-- fx.Check -/
theorem check_any (v : Int) (w : World) : Calls Tryz.prog 44 #[.int .i64 v] w fun e w' => e = .returned (.int .i64 (if wd v = true then 0 else 1)) ∧ w = w' := by
  cases g : wd v with
  | true =>
    obtain ⟨g1, g2⟩ := wd_bd g
    clear g
    go_enter Tryz.func44, Tryz.ntmps44
    go_wp2
    go_ret
    exact ⟨rfl, rfl⟩
  | false =>
    have h := wd_no g
    clear g
    by_cases g1 : v ≤ -140737488355328
    · clear h
      go_enter Tryz.func44, Tryz.ntmps44
      go_wp2
      go_ret
      exact ⟨rfl, rfl⟩
    · have g2 : 140737488355328 ≤ v := by omega
      clear h
      go_enter Tryz.func44, Tryz.ntmps44
      go_wp2
      go_ret
      exact ⟨rfl, rfl⟩
/-- fx.CheckF -/
theorem checkf_any (v : Int) (w : World) : Calls Tryz.prog 31 #[.int .i64 v] w fun e w' => e = .returned (.int .i64 (if fb v = true then 0 else 1)) ∧ w = w' := by
  cases g : fb v with
  | true =>
    obtain ⟨g1, g2⟩ := fb_bd g
    clear g
    go_enter Tryz.func31, Tryz.ntmps31
    go_wp2
    go_ret
    exact ⟨rfl, rfl⟩
  | false =>
    have h := fb_no g
    clear g
    by_cases g1 : v < 8
    · clear h
      go_enter Tryz.func31, Tryz.ntmps31
      go_wp2
      go_ret
      exact ⟨rfl, rfl⟩
    · have g2 : 32 < v := by omega
      clear h
      go_enter Tryz.func31, Tryz.ntmps31
      go_wp2
      go_ret
      exact ⟨rfl, rfl⟩
/-- fx.told -/
theorem told_any (v : Int) (w : World) : Calls Tryz.prog 210 #[.int .i64 v] w fun e w' => e = .returned (.tuple #[.int .i64 (tw v), .int .i64 (te v)]) ∧ w = w' := by
  have C := Lib.hid (fun W : World => check_any v W)
  cases g : wd v with
  | true =>
    rw [g] at C
    have H := Lib.hid (And.intro (tw_in g) (te_in g))
    clear g
    go_enter Tryz.func210, Tryz.ntmps210
    go_wp2_with (go_at_call 44; (with_reducible refine (C.out _).mono ?_); rintro e w' ⟨rfl, rfl⟩)
    go_ret2
    exact ⟨by rw [H.out.1, H.out.2] <;> rfl, rfl⟩
  | false =>
    rw [g] at C
    have H := Lib.hid (And.intro (tw_out g) (te_out g))
    clear g
    go_enter Tryz.func210, Tryz.ntmps210
    go_wp2_with (go_at_call 44; (with_reducible refine (C.out _).mono ?_); rintro e w' ⟨rfl, rfl⟩)
    go_ret2
    exact ⟨by rw [H.out.1, H.out.2] <;> rfl, rfl⟩
/-- a word plus a word -/
theorem wordplus_any (a b f : Int) (w : World) (ha : wd a = true) (hb : wd b = true) : Calls Tryz.prog 189 #[.int .i64 a, .int .i64 b, .int .i64 f] w fun e w' => e = .returned (.tuple #[.int .i64 (tw (a + b)), .int .i64 (te (a + b))]) ∧ w = w' := by
  have A := wd_bd ha
  have B := wd_bd hb
  have e0 : wrap64 (a + b) = a + b := IntWalk.wrap64_in _ ⟨by omega, by omega⟩
  have C := Lib.hid (fun W : World => told_any (a + b) W)
  clear A B ha hb
  go_enter Tryz.func189, Tryz.ntmps189
  go_wp2_with (go_at_call 210; (with_reducible refine (C.out _).mono ?_); rintro e w' ⟨rfl, rfl⟩)
  go_ret2
  exact ⟨rfl, rfl⟩
/-- a word less a word -/
theorem wordless_any (a b f : Int) (w : World) (ha : wd a = true) (hb : wd b = true) : Calls Tryz.prog 190 #[.int .i64 a, .int .i64 b, .int .i64 f] w fun e w' => e = .returned (.tuple #[.int .i64 (tw (a - b)), .int .i64 (te (a - b))]) ∧ w = w' := by
  have A := wd_bd ha
  have B := wd_bd hb
  have e0 : wrap64 (a - b) = a - b := IntWalk.wrap64_in _ ⟨by omega, by omega⟩
  have C := Lib.hid (fun W : World => told_any (a - b) W)
  clear A B ha hb
  go_enter Tryz.func190, Tryz.ntmps190
  go_wp2_with (go_at_call 210; (with_reducible refine (C.out _).mono ?_); rintro e w' ⟨rfl, rfl⟩)
  go_ret2
  exact ⟨rfl, rfl⟩
end Go.Proofs.YtpfcjajmfadcbaaGreat
namespace Go.Proofs.YtpfcjajmfadcbaaGreat
open Go.RowKit

set_option maxRecDepth 100000 in
set_option maxHeartbeats 4000000 in
theorem spreads_any (vs vt : Value) (s t : List Int) (w : World) (hs : Ld w vs s) (ht : Ld w vt t) (ms : may s = true) (mt : may t = true) :
    Calls Tryz.prog 59 #[vs, vt] w fun e w' => e = .returned (.bool (goes s t)) ∧ w = w' := by
  have ls := may_len ms
  have lt := may_len mt
  have OA := Lib.hid (fun (j : Nat) (j1 : 1 ≤ j) (j2 : j ≤ 1073741824) => over_any vs s w hs (by omega) j j1 j2)
  obtain ⟨os, cs, rfl, _, _⟩ := hs
  obtain ⟨ot, ct, rfl, _, hxt⟩ := ht
  have HT := Lib.hid hxt
  have E : Hid (goes s t = (decide (s.length ≤ t.length) && gN s t t.length)) := goes_is ms mt
  clear hxt ms mt
  by_cases h0 : t.length < s.length
  · have E0 : Hid (goes s t = false) := by
      rw [Hid, E.out]
      have : ¬ s.length ≤ t.length := by omega
      simp [this]
    go_enter Tryz.func59, Tryz.ntmps59
    go_wp2
    go_ret
    exact ⟨by rw [E0.out]; rfl, rfl⟩
  · have E1 : Hid (goes s t = gN s t t.length) := by
      rw [Hid, E.out]
      have : s.length ≤ t.length := by omega
      simp [this]
    clear E
    have HO : Hid (∀ k, k < t.length → ov t (t.length - k) = t.getD k 0) := fun k hk => ov_at hk
    have HG : Hid (gN s t t.length = true ↔ ∀ j, 1 ≤ j → j ≤ t.length → ov s j = 1 ∨ ov s j = ov t j) := gN_iff s t t.length
    generalize hn : t.length = n at *
    clear hn
    go_enter Tryz.func59, Tryz.ntmps59
    go_wp2
    go_loop [15] (fun s15 => ∃ k : Nat, k ≤ n ∧ s15 = .int .i64 k ∧ Hid (∀ j, n - k < j → j ≤ n → ov s j = 1 ∨ ov s j = ov t j)) (fun s15 => n - (intOf s15).toNat)
    case atStart => exact ⟨0, Nat.zero_le _, rfl, fun j h1 h2 => by omega⟩
    case round =>
      obtain ⟨k, hk, rfl, HK⟩ := hrel
      by_cases hlt : k < n
      · obtain ⟨b, f, rfl, hb, hc⟩ := HT.out k hlt
        obtain ⟨j, hj⟩ : ∃ j, j = n - k := ⟨_, rfl⟩
        have ej : (n : Int) - (k : Int) = (j : Int) := by omega
        have O1 := Lib.hid (OA.out j (by omega) (by omega))
        have ho := HO.out k hlt
        rw [← hj] at ho
        rw [← ho] at hc
        have HY : Hid (ov s j = 1 ∨ ov s j = ov t j → ∀ i, n - (k + 1) < i → i ≤ n → ov s i = 1 ∨ ov s i = ov t i) := fun g i h1 h2 => by
          by_cases e : i = j
          · subst e; exact g
          · exact HK.out i (by omega) h2
        have HN : Hid (¬ (ov s j = 1 ∨ ov s j = ov t j) → gN s t n = false) := fun g => by
          cases h : gN s t n with
          | false => rfl
          | true => exact absurd (HG.out.1 h j (by omega) (by omega)) g
        clear ho
        generalize ov s j = x at *
        generalize ov t j = d at *
        have HJ := Lib.hid hj
        clear hj
        by_cases g1 : x = 1
        · subst g1
          have R := Lib.hid (HY.out (.inl rfl))
          go_wp2_with (go_at_call 56; (with_reducible refine O1.out.mono ?_); rintro e w' ⟨rfl, rfl⟩)
          refine ⟨⟨k + 1, by omega, by go_num, R⟩, by simp [intOf]; omega⟩
        have b1 : (x != 1) = true := by rw [bne_iff_ne]; exact g1
        by_cases g2 : x = d
        · subst g2
          have R := Lib.hid (HY.out (.inr rfl))
          clear g1
          go_wp2_with (go_at_call 56; (with_reducible refine O1.out.mono ?_); rintro e w' ⟨rfl, rfl⟩)
          refine ⟨⟨k + 1, by omega, by go_num, R⟩, by simp [intOf]; omega⟩
        have b2 : (x != d) = true := by rw [bne_iff_ne]; exact g2
        have R := Lib.hid (HN.out (fun h => h.elim g1 g2))
        clear g1 g2
        go_wp2_with (go_at_call 56; (with_reducible refine O1.out.mono ?_); rintro e w' ⟨rfl, rfl⟩)
        go_ret
        exact ⟨by rw [E1.out, R.out]; rfl, rfl⟩
      · have R : Hid (gN s t n = true) := HG.out.2 fun j h1 h2 => HK.out j (by omega) h2
        go_wp2
        go_ret
        exact ⟨by rw [E1.out, R.out]; rfl, rfl⟩

set_option maxRecDepth 100000 in
set_option maxHeartbeats 2000000 in
theorem under_ok (vs vt vi : Value) (s t i : List Int) (w : World) (hs : Ld w vs s) (ht : Ld w vt t) (hi : Ld w vi i) (ms : may s = true) (mt : may t = true) (hg : goes s t = true) (hx : inx t i = true) :
    Calls Tryz.prog 35 #[vs, vt, vi] w fun e w' => e = .returned (.tuple #[.int .i64 (und s i), .int .i64 0]) ∧ w = w' := by
  have hl := inx_len hx
  have l4 := may_len mt
  have hst : s.length ≤ t.length := by
    have := hg
    rw [goes_is ms mt] at this
    simp only [Bool.and_eq_true, decide_eq_true_eq] at this
    exact this.1
  have CS := Lib.hid (check_ok vs s w hs ms)
  have CT := Lib.hid (check_ok vt t w ht mt)
  have G := Lib.hid (spreads_any vs vt s t w hs ht ms mt)
  have W := Lib.hid (inside_any vi vt i t w hi ht (by omega))
  have U := Lib.hid (under_any vs vi s i w hs hi ms (by omega) (by omega) (under_inx ms mt hg hx))
  rw [hx] at W
  rw [hg] at G
  clear hs ht hi ms mt hg hx hl l4 hst
  go_enter Tryz.func35, Tryz.ntmps35
  go_wp2_with (first | (go_at_call 55; (with_reducible refine CS.out.mono ?_); rintro e w' ⟨rfl, rfl⟩) | (go_at_call 55; (with_reducible refine CT.out.mono ?_); rintro e w' ⟨rfl, rfl⟩) | (go_at_call 59; (with_reducible refine G.out.mono ?_); rintro e w' ⟨rfl, rfl⟩) | (go_at_call 60; (with_reducible refine W.out.mono ?_); rintro e w' ⟨rfl, rfl⟩) | (go_at_call 61; (with_reducible refine U.out.mono ?_); rintro e w' ⟨rfl, rfl⟩))
  go_ret2
  exact ⟨rfl, rfl⟩
set_option maxRecDepth 100000 in
set_option maxHeartbeats 2000000 in
theorem under_far (vs vt vi : Value) (s t i : List Int) (w : World) (hs : Ld w vs s) (ht : Ld w vt t) (hi : Ld w vi i) (ms : may s = true) (mt : may t = true) (hg : (goes s t && inx t i) = false) :
    Calls Tryz.prog 35 #[vs, vt, vi] w fun e w' => e = .returned (.tuple #[.int .i64 0, .int .i64 2]) ∧ w = w' := by
  have l4 := may_len mt
  have CS := Lib.hid (check_ok vs s w hs ms)
  have CT := Lib.hid (check_ok vt t w ht mt)
  have G := Lib.hid (spreads_any vs vt s t w hs ht ms mt)
  have W := Lib.hid (inside_any vi vt i t w hi ht (by omega))
  cases g : goes s t with
  | false =>
    rw [g] at G
    clear hs ht hi ms mt hg l4 g
    go_enter Tryz.func35, Tryz.ntmps35
    go_wp2_with (first | (go_at_call 55; (with_reducible refine CS.out.mono ?_); rintro e w' ⟨rfl, rfl⟩) | (go_at_call 55; (with_reducible refine CT.out.mono ?_); rintro e w' ⟨rfl, rfl⟩) | (go_at_call 59; (with_reducible refine G.out.mono ?_); rintro e w' ⟨rfl, rfl⟩))
    go_ret2
    exact ⟨rfl, rfl⟩
  | true =>
    have hx : inx t i = false := by rw [g, Bool.true_and] at hg; exact hg
    rw [g] at G
    rw [hx] at W
    clear hs ht hi ms mt hg l4 g hx
    go_enter Tryz.func35, Tryz.ntmps35
    go_wp2_with (first | (go_at_call 55; (with_reducible refine CS.out.mono ?_); rintro e w' ⟨rfl, rfl⟩) | (go_at_call 55; (with_reducible refine CT.out.mono ?_); rintro e w' ⟨rfl, rfl⟩) | (go_at_call 59; (with_reducible refine G.out.mono ?_); rintro e w' ⟨rfl, rfl⟩) | (go_at_call 60; (with_reducible refine W.out.mono ?_); rintro e w' ⟨rfl, rfl⟩))
    go_ret2
    exact ⟨rfl, rfl⟩
set_option maxRecDepth 100000 in
set_option maxHeartbeats 2000000 in
theorem under_no (vs vt vi : Value) (s t : List Int) (w : World) (hs : Ld w vs s) (ht : Ld w vt t) (hm : (may s && may t) = false) :
    Calls Tryz.prog 35 #[vs, vt, vi] w fun e w' => e = .returned (.tuple #[.int .i64 0, .int .i64 1]) ∧ w = w' := by
  cases ms : may s with
  | false =>
    have C := Lib.hid (check_no vs s w hs ms)
    clear hs ht hm ms
    go_enter Tryz.func35, Tryz.ntmps35
    go_wp2_with (go_at_call 55; (with_reducible refine C.out.mono ?_); rintro e w' ⟨rfl, rfl⟩)
    go_ret2
    exact ⟨rfl, rfl⟩
  | true =>
    have mt : may t = false := by rw [ms, Bool.true_and] at hm; exact hm
    have C := Lib.hid (check_ok vs s w hs ms)
    have D := Lib.hid (check_no vt t w ht mt)
    clear hs ht hm ms mt
    go_enter Tryz.func35, Tryz.ntmps35
    go_wp2_with (first | (go_at_call 55; (with_reducible refine C.out.mono ?_); rintro e w' ⟨rfl, rfl⟩) | (go_at_call 55; (with_reducible refine D.out.mono ?_); rintro e w' ⟨rfl, rfl⟩))
    go_ret2
    exact ⟨rfl, rfl⟩
end Go.Proofs.YtpfcjajmfadcbaaGreat
