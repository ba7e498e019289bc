/-
  A range over a function whose iterator ranges over a function itself: it is told what a round leaves as it lay.
  shape.All over any list; its iterator, whose round may write whatever but the boxes and the copy.
  view.Transpose.
-/
import Derived.RangeFuncNested
import Derived.Deep.RegionHeld3
import Derived.Deep.AppendLies
import Derived.Deep.DrawnRows
import Derived.Deep.DeepCutAuto
import Derived.Test.YtlidkeabadioeaaM04
namespace Go.Proofs.Ytlidkeabadioeaa
open Go Go.RowKit

/-- The iterator's contract; Tx: what is known of an element, in the world in which it is handed over. -/
def SeqTold2 {α : Type} (F : Fence) (n : Nat) (P : Program) (g : Nat) (lb : Array Value) (encs : α → Array Value) (Kp : World → World → Prop) (Tx : List α → α → World → Prop) (S Sp : List α → Prop) (N : Nat) (w : World) : Prop :=
  ∀ (l : Nat) (J Jx : List α → World → Prop) (W : World), Below w.heap.size w W → l < W.heap.size → OwnFrom W.heap.size J → OwnFrom W.heap.size Jx →
    (∀ pre x W1, J pre W1 → pre.length < N → Tx pre x W1 → YieldAt F (n - 1) P l (encs x) W1 fun e W' => KeepsFrom W.heap.size W1 W' ∧ ((e = .returned (.bool true) ∧ J (pre ++ [x]) W' ∧ Kp W1 W') ∨ (e = .returned (.bool false) ∧ Jx (pre ++ [x]) W'))) →
    J [] W → CallsIn F n P g (#[.func (.yield l) #[] #[]] ++ lb) W fun e W' => (∃ v, e = .returned v) ∧ ((∃ xs, S xs ∧ J xs W') ∨ (∃ pre, Sp pre ∧ Jx pre W'))

/-- At a fence without a depth a round's contract is one at any. -/
theorem oround_any {m m' : Nat} {P : Program} {l l2 : Nat} {f : FuncId} {tmps : Array Value} {assign body : Code} {w : World} {R : Ending → World → Prop}
    (h : RoundIn Fence.wide m P l f tmps assign body w R) : RoundIn (Fence.wide.inRound l2) m' P l f tmps assign body w R := ⟨h.1, fun c cs _ => h.2 c cs (room_wide _)⟩
variable {F : Fence} {n : Nat} {P : Program}
/-- The loop's record. -/
def recOf2 (fn : FuncId) (tmps : Array Value) (ps : Array Tmp) (assign body : Code) (D : Nat) (st : LoopState) (pe : Option Code) : Loop := { state := st, pending := pe, fn, tmps, params := ps, assign, body, defers := D }

theorem wpIn_rangeFunc_told2 {α : Type} {g : Operand} {ps : Array Tmp} {assign body : Code} {Q : Exit → Act → World → Prop} {a : Act} {w : World}
    (hro : F.round = none) (h1 : 1 ≤ n) {gf : Nat} {lb : Array Value} (hg : a.eval g = .func (.func gf) #[] lb) (hFg : F.fn gf) (eg : ∀ args w, (callFunc gf args).run P w = .ok (.enter gf args) w)
    {encs : α → Array Value} {Kp : World → World → Prop} {Tx : List α → α → World → Prop} {S Sp : List α → Prop} {N : Nat} (hseq : SeqTold2 F (n - 1) P gf lb encs Kp Tx S Sp N w)
    (hKt : ∀ {A B C : World}, Kp A B → Kp B C → Kp A C) (hKb : ∀ (W : World) (l : Nat) (o o' : Obj), w.heap.size ≤ l → W.heap[l]? = some o → o.isCells = false → o.isWalk = false → Kp W (W.putObj l o')) (hps : ∀ x, (encs x).size = ps.size)
    (I : List α → World → Prop) (Ix : Code → List α → World → Prop) (hI : OwnFrom w.heap.size I) (hIx : ∀ c, OwnFrom w.heap.size (Ix c)) (hT : ∀ pre x, OwnFrom w.heap.size (fun (_ : Unit) W => Tx pre x W)) (h0 : I [] w) (a₁ : α → Act)
    (hassign : ∀ (l : Nat) (x : α) (W : World) (K : Act → World → Prop), K (a₁ x) W → assign.wpIn (F.inRound l) (n - 1 - 1) P (Exit.then K (fun _ _ _ => False)) { tmps := (ps.zip (encs x)).foldl (fun t (p, v) => t.setIfInBounds p v) a.tmps, defers := [] } W)
    (hbody : ∀ (l : Nat) (pre : List α) (x : α) (W : World), I pre W → pre.length < N → Tx pre x W → body.wpIn (F.inRound l) (n - 1 - 1) P (ownPostG w.heap.size Kp I Ix (pre ++ [x]) W) (a₁ x) W)
    (hdone : ∀ (D : Nat) (xs : List α) (W : World), w.heap.size ≤ D → S xs → I xs W → W.heap[D]? = some (.deferred (some [])) → Q .normal { a with defers := { target := .collected D, args := #[] } :: a.defers } W)
    (hstop : ∀ (D : Nat) (c : Code) (pre : List α) (W : World), w.heap.size ≤ D → Sp pre → Ix c pre W → W.heap[D]? = some (.deferred (some [])) → c.wpIn F n P Q { a with defers := { target := .collected D, args := #[] } :: a.defers } W) :
    (Code.rangeFunc g ps assign body).wpIn F n P Q a w := by
  refine wpIn_rangeFunc fun fn hfn => ?_
  rw [hro]
  -- the two blocks that the statement lays: the deferred calls' (D) and the record (D + 1)
  let D := w.heap.size
  let R := recOf2 fn a.tmps ps assign body D
  let V := (w.alloc (.deferred (some []))).alloc (.loop (R .ready none))
  have rec0 : V.heap[D + 1]? = some (.loop (R .ready none)) := by
    have e := World.alloc_heap_new (w.alloc (.deferred (some []))) (.loop (R .ready none))
    rw [World.size_alloc] at e; exact e
  have def0 : V.heap[D]? = some (.deferred (some [])) := (Below.heap_alloc _ _ _ (by simp [D])).trans (World.alloc_heap_new w _)
  have size0 : V.heap.size = D + 2 := by simp [V, D]
  -- what the record's turns keep
  have put : ∀ {β : Type} {J : β → World → Prop} {s : β} {W : World} {o : Obj} (o' : Obj), OwnFrom D J → J s W → W.heap[D + 1]? = some o → o.isCells = false → J s (W.putObj (D + 1) o') := fun o' hJ hs hl ho => hJ.putObj o' hs (Nat.le_succ _) hl ho
  have away : ∀ (W : World) (o : Obj), W.heap[D]? = some (.deferred (some [])) → (W.putObj (D + 1) o).heap[D]? = some (.deferred (some [])) := fun W o h => (World.putObj_heap_other (by omega)).trans h
  have there : ∀ (W : World) (o o' : Obj), W.heap[D + 1]? = some o → (W.putObj (D + 1) o').heap[D + 1]? = some o' := fun W o o' h => World.putObj_heap_same (Array.getElem?_eq_some_iff.1 h).1
  have grow : ∀ {β : Type} {J : β → World → Prop}, OwnFrom D J → ∀ (st : Option Code → LoopState) (pe : β → Option Code), OwnFrom V.heap.size (fun s W => J s W ∧ W.heap[D + 1]? = some (.loop (R (st (pe s)) (pe s))) ∧ W.heap[D]? = some (.deferred (some []))) := by
    intro β J hJ st pe s X Y row hs hgr hr
    have hn : ∀ r, row = some r → ∃ o : Obj, X.heap[r]? = some o ∧ o.isCells = false ∧ D ≤ r ∧ r ≠ D ∧ r ≠ D + 1 := by
      intro r e
      obtain ⟨hB, o, ho, hw⟩ := hr r e
      rw [size0] at hB
      exact ⟨o, ho, hw, by omega, by omega, by omega⟩
    refine ⟨hJ s X Y row hs.1 hgr (fun r e => let ⟨o, ho, hc, hd, _⟩ := hn r e; ⟨hd, o, ho, hc⟩), ?_, ?_⟩
    · exact (hgr.block _ (Array.getElem?_eq_some_iff.1 hs.2.1).1 (fun e => (hn _ e.symm).elim fun _ h => h.2.2.2.2 rfl)).trans hs.2.1
    · exact (hgr.block _ (Array.getElem?_eq_some_iff.1 hs.2.2).1 (fun e => (hn _ e.symm).elim fun _ h => h.2.2.2.1 rfl)).trans hs.2.2
  have begun : Below w.heap.size w V := ((Below.refl _ w).alloc (Nat.le_refl _) _).alloc (by simp) _
  refine ⟨D + 1, [{ target := .collected D, args := #[] }], V, { target := .fn (.func gf) lb, args := #[.func (.yield (D + 1)) #[] #[]] }, V, gf, #[.func (.yield (D + 1)) #[] #[]] ++ lb, V, run_enterLoop_outer _ _ _ _ _, ?_, ?_, ?_, fun _ => h1, ?_⟩
  · simp only [resolve, hg]; simp [go_sem]
  · intro f' hf'
    simp [Target.leads] at hf'
    subst hf'
    exact hFg
  · simp [invoke, go_sem, eg]
  · have keepF : ∀ (W W3 : World) (o o' : Obj), KeepsFrom w.heap.size (W.putObj (D + 1) o) W3 → KeepsFrom V.heap.size W (W3.putObj (D + 1) o') := fun W W3 o o' h => by
      rw [size0]
      refine ⟨by have := h.size; simpa using this, fun k x hk h0 hx => ?_⟩
      have h1 := h.same k x (show D ≤ k by omega) ((World.putObj_heap_other (by omega)).trans h0) hx
      exact (World.putObj_heap_other (by omega)).trans h1
    refine (hseq (D + 1) (fun pre W => I pre W ∧ W.heap[D + 1]? = some (.loop (R .ready none)) ∧ W.heap[D]? = some (.deferred (some [])))
      (fun pre W => ∃ c, Ix c pre W ∧ W.heap[D + 1]? = some (.loop (R .done (some c))) ∧ W.heap[D]? = some (.deferred (some []))) V begun (by rw [size0]; omega)
      (grow (β := List α) hI (fun _ => .ready) (fun _ => none)) ?_ ?_ ⟨hI.alloc _ (hI.alloc _ h0), rec0, def0⟩).mono ?_
    · rintro s X Y row ⟨c, hs⟩ hgr hr
      exact ⟨c, grow (β := List α) (J := Ix c) (hIx c) (fun _ => .done) (fun _ => some c) s X Y row hs hgr hr⟩
    · rintro pre x W ⟨hi, hl, hk⟩ hlen htx
      refine ⟨fn, _, assign, body, run_yield hl (hps x), roundIn_of_wpIn hfn (hassign _ x W _ ⟨_, run_beginRound hl rfl, ?_⟩)⟩
      have hb := hbody (D + 1) pre x (W.putObj (D + 1) (.loop { R .ready none with state := .busy })) (put _ hI hi hl rfl) hlen (put (β := Unit) (s := ()) _ (hT pre x) htx hl rfl)
      have hl2 := there W _ (.loop { R .ready none with state := .busy }) hl
      have hk2 := away W (.loop { R .ready none with state := .busy }) hk
      have hkp := hKb W (D + 1) _ (.loop { R .ready none with state := .busy }) (Nat.le_succ _) hl rfl rfl
      -- a round's end: the record is turned, its neighbour is not
      have ends : ∀ (jump : Option Code) (W3 : World), KeepsFrom w.heap.size (W.putObj (D + 1) (.loop { R .ready none with state := .busy })) W3 →
          W3.heap[D + 1]? = some (.loop { R .ready none with state := .busy }) ∧ W3.heap[D]? = some (.deferred (some [])) ∧
          (Instr.endRound (D + 1) jump).run P W3 = .ok (.bool jump.isNone) (W3.putObj (D + 1) (.loop (R (if jump.isNone then .ready else .done) jump))) := fun jump W3 h =>
        have hl3 := h.same _ _ (Nat.le_succ _) hl2 rfl
        ⟨hl3, h.same _ _ (Nat.le_refl _) hk2 rfl, run_endRound jump hl3⟩
      have leave : ∀ (c : Code) (W3 : World), KeepsFrom w.heap.size (W.putObj (D + 1) (.loop { R .ready none with state := .busy })) W3 → Ix c (pre ++ [x]) W3 →
          ∃ c', Ix c' (pre ++ [x]) (W3.putObj (D + 1) (.loop (R .done (some c)))) ∧ (W3.putObj (D + 1) (.loop (R .done (some c)))).heap[D + 1]? = some (.loop (R .done (some c'))) ∧ (W3.putObj (D + 1) (.loop (R .done (some c)))).heap[D]? = some (.deferred (some [])) := fun c W3 hk3 hi3 =>
        have ⟨hl3, hd3, _⟩ := ends (some c) W3 hk3
        ⟨c, put _ (hIx c) hi3 hl3 rfl, there _ _ _ hl3, away _ _ hd3⟩
      refine wpIn_mono hb fun e a3 W3 hp => ?_
      cases e with
      | normal =>
        obtain ⟨hk3, hkp3, hi3⟩ := hp
        obtain ⟨hl3, hd3, hr⟩ := ends none W3 hk3
        exact ⟨_, _, hr, keepF _ _ _ _ hk3, .inl ⟨rfl, ⟨put _ hI hi3 hl3 rfl, there _ _ _ hl3, away _ _ hd3⟩, hKt (hKt hkp hkp3) (hKb _ _ _ _ (Nat.le_succ _) hl3 rfl rfl)⟩⟩
      | ret => exact ⟨_, _, (ends (some .ret) W3 hp.1).2.2, keepF _ _ _ _ hp.1, .inr ⟨rfl, leave .ret W3 hp.1 hp.2⟩⟩
      | exit id => exact ⟨_, _, (ends (some (.exit id)) W3 hp.1).2.2, keepF _ _ _ _ hp.1, .inr ⟨rfl, leave (.exit id) W3 hp.1 hp.2⟩⟩
      | goto t => exact ⟨_, _, (ends (some (.goto t)) W3 hp.1).2.2, keepF _ _ _ _ hp.1, .inr ⟨rfl, leave (.goto t) W3 hp.1 hp.2⟩⟩
      | panic ch => exact hp.elim
      | outgrown => exact hp.elim
    · rintro e W2 ⟨⟨v, rfl⟩, (⟨xs, hS, hi, hl, hk⟩ | ⟨pre, hSp, c, hi, hl, hk⟩)⟩
      · exact ⟨none, _, run_endLoop hl (by simp [R, recOf2]), hdone D xs _ (Nat.le_refl _) hS (put _ hI hi hl rfl) (away _ _ hk)⟩
      · exact ⟨some c, _, run_endLoop hl (by simp [R, recOf2]), hstop D c pre _ (Nat.le_refl _) hSp (put _ (hIx c) hi hl rfl) (away _ _ hk)⟩
end Go.Proofs.Ytlidkeabadioeaa
namespace Go.Proofs.Ytlidkeabadioeaa
open Go.RowKit Go.Shelf
attribute [local go_sem] Oper.semAt_some

/-- All's function value: two boxes, the copy. -/
def AllBox2 (w : World) (base B1 B2 : Nat) (N : Int) (o : Option Addr) (c : Nat) (ls : List Int) : Prop := Boxed w B1 3 (.int .i64 N) ∧ Boxed w B2 23 (.slice o ls.length c) ∧ w.ownsRow base 3 1 (.slice o ls.length c) ls.length (ints ls)
def SomeAll2 (w : World) (N : Int) (ls : List Int) (e : Ending) (w' : World) : Prop := ∃ B1 B2 o c, e = .returned (.func (.func 125) #[] #[.pointer (some ⟨B1, 0, none⟩), .pointer (some ⟨B2, 0, none⟩)]) ∧ AllBox2 w' w.heap.size B1 B2 N o c ls ∧ w.heap.size ≤ B1 ∧ w.heap.size ≤ B2 ∧ Below w.heap.size w w'

set_option maxRecDepth 100000 in
set_option maxHeartbeats 4000000 in
theorem all2_any (v : Value) (ls : List Int) (w : World) (h : Ld w v ls) (ll : ls.length ≤ 65536) :
    Calls Try.prog 107 #[v] w (SomeAll2 w (if may ls then prod ls else 0) ls) := by
  have CL := Lib.hid (fun (W : World) (hb : Below w.heap.size w W) => cloned_any v ls W (h.below hb) (by omega))
  have CN : Hid (∃ y : Int, Calls Try.prog 75 #[v] w fun e w' => e = .returned (.tuple #[.int .i64 (if may ls then prod ls else 0), .int .i64 y]) ∧ w = w') := by
    cases hm : may ls with
    | true => exact ⟨0, count_ok _ ls w h hm⟩
    | false => exact ⟨1, count_no _ ls w h hm⟩
  obtain ⟨y, CN⟩ := CN.out
  have CN := Lib.hid CN
  generalize (if may ls then prod ls else 0) = N at *
  obtain ⟨o, c, rfl, _, _⟩ := h
  go_enter Try.func107, Try.ntmps107
  go_wp2_with (first | (go_at_call 75; (with_reducible refine CN.out.mono ?_); rintro e w' ⟨rfl, rfl⟩) | (go_at_call 78; (with_reducible refine Go.Calls.mono (CL.out _ ?_) ?_); (· exact (Below.refl _ _).alloc (Nat.le_refl _) _); rintro e w2 ⟨o2, c2, rfl, ho2, hl2, hb2⟩; replace ho2 := Lib.hid ho2; clear hl2))
  refine bodyPost_ret (results_tmp rfl _ _ _) rfl ?_
  have b1 := (box_on (Boxed.new w 3 (.int .i64 N)) hb2).alloc (.cells #[.slice o2 ls.length c2] 23)
  have hs := hb2.size
  rw [World.size_alloc] at hs
  exact ⟨w.heap.size, w2.heap.size, o2, c2, rfl, ⟨b1, Boxed.new _ _ _, (own_base ho2.out (by simp)).alloc _⟩, Nat.le_refl _, by omega, (((Below.refl _ _).alloc (Nat.le_refl _) _).trans (hb2.mono (by simp))).alloc (by omega) _⟩

/-- What is known of an element that All's iterator tells. -/
def Tol3 (ls : List Int) (pre : List (Nat × Nat)) (x : Nat × Nat) (W : World) : Prop := x.1 = pre.length ∧ Blk W x.2 3 (ints (atl ls (x.1 : Nat))).toArray
/-- What a round must keep: All's boxes, the copy. -/
def Kp3 (B1 B2 : Nat) (o : Option Addr) (W W' : World) : Prop := W'.heap[B1]? = W.heap[B1]? ∧ W'.heap[B2]? = W.heap[B2]? ∧ ∀ g, o = some ⟨g, 0, none⟩ → W'.heap[g]? = W.heap[g]?
theorem Kp3.refl (B1 B2 : Nat) (o : Option Addr) (W : World) : Kp3 B1 B2 o W W := ⟨rfl, rfl, fun _ _ => rfl⟩
theorem Kp3.trans {B1 B2 : Nat} {o : Option Addr} {a b c : World} (h : Kp3 B1 B2 o a b) (k : Kp3 B1 B2 o b c) : Kp3 B1 B2 o a c := ⟨k.1.trans h.1, k.2.1.trans h.2.1, fun g e => (k.2.2 g e).trans (h.2.2 g e)⟩
theorem Kp3.own {B1 B2 : Nat} {o : Option Addr} {c base : Nat} {ls : List Int} {W W' : World} (h : Kp3 B1 B2 o W W') (ho : W.ownsRow base 3 1 (.slice o ls.length c) ls.length (ints ls)) : W'.ownsRow base 3 1 (.slice o ls.length c) ls.length (ints ls) := by
  refine ⟨ho.1, ?_⟩
  rcases ho.2 with a | ⟨g, cap, cur, e1, e2, e3, rest⟩
  · exact .inl a
  · have e4 := e1
    simp only [Value.slice.injEq] at e4
    exact .inr ⟨g, cap, cur, e1, e2, (h.2.2 g e4.1).trans e3, rest⟩
theorem Kp3.below {B1 B2 : Nat} {o : Option Addr} {c base : Nat} {ls : List Int} {W W' : World} (hb : Below W.heap.size W W') (h1 : B1 < W.heap.size) (h2 : B2 < W.heap.size) (ho : W.ownsRow base 3 1 (.slice o ls.length c) ls.length (ints ls)) : Kp3 B1 B2 o W W' := by
  refine ⟨hb.block _ h1, hb.block _ h2, fun g e => hb.block g ?_⟩
  subst e
  exact (ho.lt g rfl).2
theorem Boxed.kp {B : Nat} {t : TypeId} {v : Value} {W W' : World} (h : Boxed W B t v) (hk : W'.heap[B]? = W.heap[B]?) : Boxed W' B t v := hk.trans h

set_option maxRecDepth 100000 in
set_option maxHeartbeats 4000000 in
theorem all3_in (F : Fence) (n : Nat) (hfn : F.fn 125) (_hfi : F.fn 126) (hro : F.round = none) (hn : 2 ≤ n) (hix : ∀ v ls m w, Ld w v ls → may ls = true → 0 ≤ m → m < prod ls → CallsIn F (n - 1) Try.prog 126 #[v, .int .i64 m] w fun e w' => e = .returned (.slice (some ⟨w.heap.size + 1, 0, none⟩) ls.length ls.length) ∧ Blk w' (w.heap.size + 1) 3 (ints (atl ls m)).toArray ∧ Below w.heap.size w w')
    (l base B1 B2 N : Nat) (o : Option Addr) (c : Nat) (ls : List Int) (hN : N ≤ 65536) (hm : 0 < N → may ls = true ∧ prod ls = N) (J Jx : List (Nat × Nat) → World → Prop) (W : World) (hJ : AbidesFrom W.heap.size J)
    (hY : ∀ pre x W, J pre W → pre.length < N → Tol3 ls pre x W → YieldAt F (n - 1) Try.prog l (apr ls x) W fun e W' =>
      (e = .returned (.bool true) ∧ J (pre ++ [x]) W' ∧ Kp3 B1 B2 o W W') ∨ (e = .returned (.bool false) ∧ Jx (pre ++ [x]) W'))
    (hbox : AllBox2 W base B1 B2 N o c ls) (hj : J [] W) :
    CallsIn F n Try.prog 125 #[.func (.yield l) #[] #[], .pointer (some ⟨B1, 0, none⟩), .pointer (some ⟨B2, 0, none⟩)] W fun e W' => (∃ v, e = .returned v) ∧
      ((∃ ys : List (Nat × Nat), ys.length = N ∧ J ys W') ∨ (∃ pre : List (Nat × Nat), pre.length ≤ N ∧ Jx pre W')) := by
  have hn1 : 1 ≤ n := by omega
  have HB := Lib.hid hbox
  have h0 := hbox.1.cell
  clear hbox
  refine callsIn_of_wp Try.func125 rfl hfn ?_ hro
  simp only [Try.ntmps125, List.size_toArray, List.length_cons, List.length_nil, Nat.reduceAdd, Nat.reduceSub, Array.replicate_succ, Array.replicate_zero, List.push_toArray, List.append_toArray, List.nil_append, List.cons_append]
  gi_wp2
  gi_loopw [6] (fun s6 wr => ∃ pre : List (Nat × Nat), pre.length ≤ N ∧ s6 = .int .i64 (pre.length : Nat) ∧ J pre wr ∧ Hid (AllBox2 wr base B1 B2 N o c ls)) (fun s6 _ => N - (intOf s6).toNat)
  case atStart => exact ⟨[], Nat.zero_le _, rfl, hj, HB⟩
  case round =>
    obtain ⟨pre, hpl, rfl, hJs, hK⟩ := hrel
    have c1 : wr.cell? ⟨B2, 0, none⟩ = some (.slice o ls.length c) := hK.out.2.1.cell
    by_cases hlt : pre.length < N
    · obtain ⟨hm1, hm2⟩ := hm (by omega)
      have hld : Ld wr (.slice o ls.length c) ls := by
        obtain ⟨_, _, e, h1⟩ := Ld.of_owns hK.out.2.2
        rw [e]; exact h1
      have HI := Lib.hid (hix (.slice o ls.length c) ls (pre.length : Nat) wr hld hm1 (by omega) (by omega))
      have HY : Hid (∀ w2, Blk w2 (wr.heap.size + 1) 3 (ints (atl ls (pre.length : Nat))).toArray → Below wr.heap.size wr w2 → YieldAt F (n - 1) Try.prog l #[.int .i64 (pre.length : Nat), .slice (some ⟨wr.heap.size + 1, 0, none⟩) ls.length ls.length] w2 fun e W' =>
          (e = .returned (.bool true) ∧ J (pre ++ [(pre.length, wr.heap.size + 1)]) W' ∧ AllBox2 W' base B1 B2 N o c ls) ∨ (e = .returned (.bool false) ∧ Jx (pre ++ [(pre.length, wr.heap.size + 1)]) W')) := by
        intro w2 hb hB
        have hJ2 := hJ pre wr w2 none hJs ⟨hB.os, hB.tape, hB.output, hB.size, fun k hk _ => hB.block k hk⟩ (fun r e => by cases e)
        obtain ⟨fn, tmps, assign, body, hy, hR⟩ := hY pre (pre.length, wr.heap.size + 1) w2 hJ2 hlt ⟨rfl, hb⟩
        refine ⟨fn, tmps, assign, body, hy, hR.mono ?_⟩
        rintro e W' (⟨rfl, h2, h3⟩ | h2)
        · have k1 := (Kp3.below hB hK.out.1.lt hK.out.2.1.lt hK.out.2.2).trans h3
          exact .inl ⟨rfl, h2, k1.1.trans hK.out.1, k1.2.1.trans hK.out.2.1, k1.own hK.out.2.2⟩
        · exact .inr h2
      generalize hq : pre.length = q at *
      have HQ := Lib.hid hq
      clear hq hm hm1 hm2 hld
      gi_wp2
      refine HI.out.mono ?_
      rintro e w2 ⟨rfl, hb2, hB2⟩
      obtain ⟨fn, tmps, assign, body, hy, hR⟩ := HY.out w2 hb2 hB2
      gi_wp2
      refine hR.mono ?_
      rintro e W3 (⟨rfl, hJ3, hk3⟩ | ⟨rfl, hJx3⟩)
      · gi_wp2
        go_roundw
        case rel => exact ⟨pre ++ [(q, wr.heap.size + 1)], by simp [HQ.out]; omega, by simp [HQ.out], hJ3, hk3⟩
        case measure => simp [intOf]; omega
      · gi_wp2
        refine bodyPost_ret (results_none rfl _ _ _) rfl ?_
        exact ⟨⟨_, rfl⟩, .inr ⟨pre ++ [(q, wr.heap.size + 1)], by simp [HQ.out]; omega, hJx3⟩⟩
    · gi_wp2
      go_end0
      exact ⟨⟨_, rfl⟩, .inl ⟨pre, by omega, hJs⟩⟩
/-- The iterator's contract. -/
theorem all3_told (n base B1 B2 N : Nat) (hn : 2 ≤ n) (o : Option Addr) (c : Nat) (ls : List Int) (hN : N ≤ 65536) (hm : 0 < N → may ls = true ∧ prod ls = N) (w : World) (hbox : AllBox2 w base B1 B2 N o c ls) :
    SeqTold Fence.wide n Try.prog 125 #[.pointer (some ⟨B1, 0, none⟩), .pointer (some ⟨B2, 0, none⟩)] (apr ls) (Kp3 B1 B2 o) (Tol3 ls) (fun ys => ys.length = N) (fun pre => pre.length ≤ N) N w := fun l J Jx W hW hJ _ hY h0 =>
  all3_in Fence.wide n trivial trivial rfl hn (fun v ls m w h1 h2 h3 h4 => callsIn_wide.2 (index_any v ls m w h1 h2 h3 h4)) l base B1 B2 N o c ls hN hm J Jx W hJ hY
    ⟨box_on hbox.1 hW, box_on hbox.2.1 hW, Below.keepOwn hbox.2.2 hW (Nat.le_refl _)⟩ h0
end Go.Proofs.Ytlidkeabadioeaa
namespace Go.Proofs.Ytlidkeabadioeaa
open Go.RowKit
attribute [local go_sem ↓] Go.wp_at_zero Go.wp_at_succ

theorem ints_take_len {l : List Int} {k : Nat} (h : k ≤ l.length) : (ints (l.take k)).length = k := by simp [ints]; omega
theorem ints_snoc (l : List Int) (x : Int) : ints (l ++ [x]) = ints l ++ [.int .i64 x] := by simp [ints]

theorem grown_set (W : World) (p : Addr) (z : Value) : W.grownBy (W.setCell p z) (some p.block) := ⟨rfl, rfl, rfl, by simp, fun j _ hne => Below.heap_setCell _ _ _ j (fun e => hne (by rw [e]))⟩
theorem own_set {W : World} {T base n i : Nat} {v z : Value} {xs : List Value} {cs : Array Value} (h : W.ownsRow base 3 1 v n xs) (hb : Blk W T 69 cs) : (W.setCell ⟨T, i, none⟩ z).ownsRow base 3 1 v n xs :=
  h.kept (grown_set W ⟨T, i, none⟩ z) (.inr (own_not_box h hb))
theorem not_row_of {W : World} {B k n : Nat} {e : TypeId} {v : Value} {xs : List Value} (h : W.ownsRow B e 1 v n xs) (hk : k < B) : some k ≠ v.ownBlock := fun e => by
  have := (h.lt k e.symm).1; omega
/-- One list of a view's two grows by a word. -/
theorem tr_step {W w9 w2 : World} {T k m g : Nat} {x : Int} {u v : Value} {xs ys : List Value} {cs : Array Value} (hb : Blk W T 69 cs) (hu : W.ownsRow T 3 1 u k xs) (hv : W.ownsRow T 3 1 v m ys) (hap : ∀ g, u.ownBlock = some g → ¬ v.ownBlock = some g)
    (hB : Below T w2 W) (hgrow : (W.alloc (.cells #[.int .i64 x] 3)).drew.grownBy w9 u.ownBlock) (hat : u.ownBlock = some g ∨ g = W.heap.size + 1) :
    Blk w9 T 69 cs ∧ Below T w2 w9 ∧ w9.ownsRow T 3 1 v m ys ∧ ¬ v.ownBlock = some g := by
  have hT := hb.lt
  refine ⟨((hb.alloc _).drew).kept hgrow (fun e => own_not_box hu hb e.symm), ?_, ?_, ?_⟩
  · have h1 := below_drw (hB.alloc (Nat.le_of_lt hT) (.cells #[.int .i64 x] 3)) 1
    exact h1.grown hgrow (by simp; omega) (fun j e => (hu.lt j e).1)
  · refine ((hv.alloc (.cells #[.int .i64 x] 3)).drew).kept hgrow ?_
    cases e : v.ownBlock with
    | none => exact .inl rfl
    | some j => exact .inr (fun e2 => hap j e2.symm e)
  · intro e
    rcases hat with h | h
    · exact hap g h e
    · have := (hv.lt g e).2; omega

set_option maxRecDepth 100000 in
set_option maxHeartbeats 4000000 in
theorem transpose_any (vs vt va : Value) (sh st ax : List Int) (off : Int) (w : World) (hs : Ld w vs sh) (ht : Ld w vt st) (ha : Ld w va ax) (l1 : sh.length ≤ 1073741824) (l2 : st.length ≤ 17592186044416) (l3 : ax.length ≤ 17592186044416) :
    Calls Try.prog 42 #[.agg #[vs, vt, .int .i64 off], va] w (SomeV w (tre sh st off ax) (unl (tre sh st off ax) (trl sh ax)) (unl (tre sh st off ax) (trl st ax)) (unn (tre sh st off ax) off)) := by
  obtain ⟨i0, hi0, hz0, hz1, hz2⟩ := info_parts infoI
  have hB0 : Below w.heap.size w ((w.alloc (.cells #[vs, vt, .int .i64 off] 69)).alloc (.cells #[.slice none 0 0, .slice none 0 0, .int .i64 0] 69)) := ((Below.refl _ _).alloc (Nat.le_refl _) _).alloc (by simp) _
  have hX0 : Blk ((w.alloc (.cells #[vs, vt, .int .i64 off] 69)).alloc (.cells #[.slice none 0 0, .slice none 0 0, .int .i64 0] 69)) w.heap.size 69 #[vs, vt, .int .i64 off] := (Blk.new w _ _).alloc _
  have hX1 : Blk ((w.alloc (.cells #[vs, vt, .int .i64 off] 69)).alloc (.cells #[.slice none 0 0, .slice none 0 0, .int .i64 0] 69)) (w.heap.size + 1) 69 #[.slice none 0 0, .slice none 0 0, .int .i64 0] := by
    have := Blk.new (w.alloc (.cells #[vs, vt, .int .i64 off] 69)) 69 #[.slice none 0 0, .slice none 0 0, .int .i64 0]
    rwa [World.size_alloc] at this
  have CK := vcheck_any vs vt sh st off 65536 _ (hs.below hB0) (ht.below hB0) (by omega) l2
  simp only [World.size_alloc] at CK
  replace CK := Lib.hid CK
  have CA := Lib.hid (fun (W : World) (hb : Below w.heap.size w W) => areall_any va ax sh.length W (ha.below hb) l3 l1)
  obtain ⟨os, cs, rfl, _, hxs⟩ := hs
  obtain ⟨ot, ct, rfl, _, hxt⟩ := ht
  obtain ⟨oa, ca, rfl, _, hxa⟩ := ha
  have HS := Lib.hid hxs
  have HT := Lib.hid hxt
  have HA := Lib.hid hxa
  clear hxs hxt hxa
  have HX0 := Lib.hid hX0
  have HX1 := Lib.hid hX1
  have HB0 := Lib.hid hB0
  clear hX0 hX1 hB0
  cases hv : vwb sh st off 65536 with
  | false =>
    have R : Hid (tre sh st off ax = 1) := by unfold tre; rw [hv]; exact Lib.hid rfl
    rw [hv, frm_f] at CK
    clear hv
    go_enter Try.func42, Try.ntmps42
    go_wp2_with (go_at_call 79; (with_reducible refine CK.out.mono ?_); rintro e w2 ⟨rfl, hb2⟩; have Y1 := Lib.hid (HX1.out.below hb2 (by omega)); obtain ⟨d0, d1, d2, f0, f1, f2⟩ := blk3 Y1.out; have B2 := Lib.hid (HB0.out.trans (hb2.mono (by omega))); clear hb2)
    refine bodyPost_ret (v := .tuple #[.agg #[.slice none 0 0, .slice none 0 0, .int .i64 0], .int .i64 1]) (by simp [results, Try.results42, go_sem, d0, d1, d2]) rfl ?_
    rw [R.out]
    exact someV_end (sh := []) (st := []) (Nat.le_succ _) B2.out Y1.out rfl rfl (ov_nil _ _)
  | true =>
    rw [hv, frm_t] at CK
    cases hax : axs ax sh.length with
    | false =>
      have R : Hid (tre sh st off ax = 2) := by unfold tre; rw [hv, hax]; exact Lib.hid rfl
      rw [hax] at CA
      clear hv hax
      go_enter Try.func42, Try.ntmps42
      go_wp2_with (first | (go_at_call 79; (with_reducible refine CK.out.mono ?_); rintro e w2 ⟨rfl, hb2⟩; have Y1 := Lib.hid (HX1.out.below hb2 (by omega)); obtain ⟨d0, d1, d2, f0, f1, f2⟩ := blk3 Y1.out; obtain ⟨c0, c1, c2⟩ := (blk3 (HX0.out.below hb2 (by omega))); have B2 := Lib.hid (HB0.out.trans (hb2.mono (by omega))); clear hb2) | (go_at_call 80; (with_reducible refine (CA.out _ B2.out).mono ?_); rintro e w' ⟨rfl, rfl⟩))
      refine bodyPost_ret (v := .tuple #[.agg #[.slice none 0 0, .slice none 0 0, .int .i64 0], .int .i64 2]) (by simp [results, Try.results42, go_sem, d0, d1, d2]) rfl ?_
      rw [R.out]
      exact someV_end (sh := []) (st := []) (Nat.le_succ _) B2.out Y1.out rfl rfl (ov_nil _ _)
    | true =>
      have R : Hid (tre sh st off ax = 0) := by unfold tre; rw [hv, hax]; exact Lib.hid rfl
      have hVw := vwb_iff.1 hv
      have lsx := Lib.hid (axs_len hax)
      have HV := Lib.hid (And.intro hVw hax)
      have l4 := may_len hVw.1
      rw [hax] at CA
      clear hv hax hVw
      go_enter Try.func42, Try.ntmps42
      go_wp2_with (first | (go_at_call 79; (with_reducible refine CK.out.mono ?_); rintro e w2 ⟨rfl, hb2⟩; have Y1 := Lib.hid (HX1.out.below hb2 (by omega)); have Y0 := Lib.hid (HX0.out.below hb2 (by omega)); obtain ⟨c0, c1, c2, _⟩ := (blk3 Y0.out); have B2 := Lib.hid (HB0.out.trans (hb2.mono (by omega))); clear hb2) | (go_at_call 80; (with_reducible refine (CA.out _ B2.out).mono ?_); rintro e w' ⟨rfl, rfl⟩))
      have y0 := Y0.out.lt
      have y1 := Y1.out.lt
      have l5 : ax.length ≤ 4 := by have := lsx.out; omega
      have b2s := B2.out.size
      go_loopw [28] (fun s28 wr => ∃ (k : Nat) (us ut : Value), k ≤ ax.length ∧ s28 = .int .i64 k ∧ Blk wr w2.heap.size 69 #[us, ut, .int .i64 off] ∧ Hid (wr.ownsRow w2.heap.size 3 1 us k (ints ((trl sh ax).take k)) ∧ wr.ownsRow w2.heap.size 3 1 ut k (ints ((trl st ax).take k)) ∧ (∀ g, us.ownBlock = some g → ¬ ut.ownBlock = some g)) ∧ Hid (Below w2.heap.size w2 wr)) (fun s28 _ => ax.length - (intOf s28).toNat)
      case atStart =>
        exact ⟨0, .slice none 0 0, .slice none 0 0, Nat.zero_le _, rfl, Blk.new _ _ _, ⟨World.ownsRow_nil _ _ _ _, World.ownsRow_nil _ _ _ _, fun g h => by simp [Value.ownBlock] at h⟩, (Below.refl _ _).alloc (Nat.le_refl _) _⟩
      case round =>
        obtain ⟨k, us, ut, hk, rfl, hb, HO, HB⟩ := hrel
        by_cases hlt : k < ax.length
        · obtain ⟨a, ea, alt⟩ := axs_at HV.out.2 hlt
          obtain ⟨ba, fa, rfl, na, xa⟩ := HA.out k hlt
          obtain ⟨bs, fs, rfl, ns, xs⟩ := HS.out a alt
          obtain ⟨bt, ft, rfl, nt, xt⟩ := HT.out a (by have := HV.out.1.2.1; omega)
          have old2 : ∀ (p : Addr) (v : Value), p.block < w.heap.size → w.cell? p = some v → ∀ W, Below w2.heap.size w2 W → W.cell? p = some v := fun p v h1 h2 W hW => ((hW.cell (p := p) (by omega)).trans (B2.out.cell (p := p) h1)).trans h2
          have xa' := old2 _ _ na xa wr HB.out
          rw [ea] at xa'
          have OLD := Lib.hid (fun (W : World) (hW : Below w2.heap.size w2 W) => And.intro (old2 _ _ ns xs W hW) (And.intro (old2 _ _ nt xt W hW) (blk3 (Y0.out.below hW (by omega)))))
          have EA : Hid ((trl sh ax).take (k + 1) = (trl sh ax).take k ++ [sh.getD a 0] ∧ (trl st ax).take (k + 1) = (trl st ax).take k ++ [st.getD a 0]) := ⟨trl_snoc hlt ea, trl_snoc hlt ea⟩
          have ZB := Lib.hid hb
          obtain ⟨xs', xt', c0, c1, c2, _⟩ := OLD.out wr HB.out
          obtain ⟨t0, t1, t2, g0, g1, g2⟩ := blk3 hb
          have yw := hb.lt
          have AL : Hid (a < sh.length ∧ a < st.length) := ⟨alt, by have := HV.out.1.2.1; omega⟩
          have al1 := AL.out.1
          have al2 := AL.out.2
          clear xa xs xt hb ea old2
          generalize sh.getD a 0 = d at *
          generalize st.getD a 0 = s at *
          go_wp2
          go_cut [9] (fun s9 wx => s9 = .int .i64 a ∧ ∃ u1, Blk wx w2.heap.size 69 #[u1, ut, .int .i64 off] ∧ Hid (wx.ownsRow w2.heap.size 3 1 u1 (k + 1) (ints ((trl sh ax).take (k + 1))) ∧ wx.ownsRow w2.heap.size 3 1 ut k (ints ((trl st ax).take k)) ∧ (∀ g, u1.ownBlock = some g → ¬ ut.ownBlock = some g)) ∧ Hid (Below w2.heap.size w2 wx))
          case first =>
            refine wp_region_held_drew (S := (fun W => W.cell? ⟨w.heap.size, 0, none⟩ = some (.slice (some ⟨bs, fs, none⟩) sh.length cs) ∧ W.cell? ⟨bs, fs + a, none⟩ = some (.int .i64 d))) (by kernel_rfl) ?_ (fun hHeld => ?_)
            · (try dsimp only)
              first | assumption | go_keep | exact ⟨(e9.out _).2.2.1, (e9.out _).1⟩
            have hHd := hHeld
            (refine wpAnyH_take (i := 0) (oi := ⟨some 32, _, _, _, _, _⟩) (v := ?v0_32) rfl (by kernel_rfl) (by kernel_rfl) (by kernel_rfl) (fun _ _ _ h => h) (Or.inl ⟨by rfl, ?hy0_32⟩) (by assumption) ?rest0_32; (case hy0_32 => ((intro w hSw); (try dsimp only at hSw); go_simp; first | done | (with_reducible rfl))))
            (try simp only [Act.put, List.setIfInBounds_toArray, List.set_cons_zero, List.set_cons_succ])
            (refine wpAnyH_take (i := 2) (oi := ⟨some 34, _, _, _, _, _⟩) (v := ?v2_32) rfl (by kernel_rfl) (by kernel_rfl) (by kernel_rfl) (fun _ _ _ h => h) (Or.inl ⟨by rfl, ?hy2_32⟩) (by assumption) ?rest2_32; (case hy2_32 => ((intro w hSw); (try dsimp only at hSw); go_simp; first | done | (with_reducible rfl))))
            (try simp only [Act.put, List.setIfInBounds_toArray, List.set_cons_zero, List.set_cons_succ])
            (refine wpAnyH_take (i := 3) (oi := ⟨some 35, _, _, _, _, _⟩) (v := ?v3_32) rfl (by kernel_rfl) (by kernel_rfl) (by kernel_rfl) (fun _ _ _ h => h) (Or.inl ⟨by rfl, ?hy3_32⟩) (by assumption) ?rest3_32; (case hy3_32 => ((intro w hSw); (try dsimp only at hSw); go_simp; first | done | (with_reducible rfl))))
            (try simp only [Act.put, List.setIfInBounds_toArray, List.set_cons_zero, List.set_cons_succ])
            (refine wpAnyH_take (i := 4) (oi := ⟨some 36, _, _, _, _, _⟩) (v := ?v4_32) rfl (by kernel_rfl) (by kernel_rfl) (by kernel_rfl) (fun _ _ _ h => h) (Or.inl ⟨by rfl, ?hy4_32⟩) (by assumption) ?rest4_32; (case hy4_32 => ((intro w hSw); (try dsimp only at hSw); go_simp; first | done | (with_reducible rfl))))
            (try simp only [Act.put, List.setIfInBounds_toArray, List.set_cons_zero, List.set_cons_succ])
            (refine wpAnyH_take (i := 5) (oi := ⟨some 37, _, _, _, _, _⟩) (v := ?v5_32) rfl (by kernel_rfl) (by kernel_rfl) (by kernel_rfl) (fun _ _ _ h => h) (Or.inl ⟨by rfl, ?hy5_32⟩) (by assumption) ?rest5_32; (case hy5_32 => ((intro w hSw); (try dsimp only at hSw); go_simp; first | done | (with_reducible rfl))))
            (try simp only [Act.put, List.setIfInBounds_toArray, List.set_cons_zero, List.set_cons_succ])
            (refine wpAnyH_take (i := 6) (oi := ⟨some 38, _, _, _, _, _⟩) (v := ?v6_32) rfl (by kernel_rfl) (by kernel_rfl) (by kernel_rfl) (fun _ _ _ h => h) (Or.inl ⟨by rfl, ?hy6_32⟩) (by assumption) ?rest6_32; (case hy6_32 => ((intro w hSw); (try dsimp only at hSw); go_simp; first | done | (with_reducible rfl))))
            (try simp only [Act.put, List.setIfInBounds_toArray, List.set_cons_zero, List.set_cons_succ])
            refine wpAnyH_ready (rs := [1, 7]) (by kernel_rfl) (by simp) ?_
            refine AllReadyH.cons (o := ⟨some 33, _, _, _, _, _⟩) rfl (fun K hK => ?_) (AllReadyH.cons (o := ⟨some 39, _, _, _, _, _⟩) rfl (fun K hK => ?_) AllReadyH.nil)
            · go_simp
              refine hK.out _ _ ?_ (fun hHeld => ?_)
              · (try dsimp only)
                first | assumption | go_keep | exact ⟨(e9.out _).2.2.1, (e9.out _).1⟩
              clear hK K
              (try simp only [Act.put, List.setIfInBounds_toArray, List.set_cons_zero, List.set_cons_succ])
              refine wpAnyH_ready (rs := [7]) (by kernel_rfl) (by simp) ?_
              refine AllReadyH.cons (o := ⟨some 39, _, _, _, _, _⟩) rfl (fun K hK => ?_) AllReadyH.nil
              go_simp
              refine hK.out _ _ ?_ (fun hHeld => ?_)
              · (try dsimp only)
                first | assumption | go_keep | exact ⟨(e9.out _).2.2.1, (e9.out _).1⟩
              clear hK K
              (try simp only [Act.put, List.setIfInBounds_toArray, List.set_cons_zero, List.set_cons_succ])
              refine wpAnyH_ready (rs := [8]) (by kernel_rfl) (by simp) ?_
              refine AllReadyH.cons (o := ⟨some 40, _, _, _, _, _⟩) rfl (fun K hK => ?_) AllReadyH.nil
              refine step_append_lies _ (by rfl) (.tmp 33) (.tmp 39) 23 (by rfl) w2.heap.size 3 i0 (.int .i64 0) 1 8 Try.underlying23 hi0 hz0 hz1 hz2 rfl (by decide) us k (ints ((trl sh ax).take k)) (by rfl) (HO.out.1.alloc _) ⟨wr.heap.size, 0, none⟩ 1 1 [.int .i64 d] (by rfl) rfl (cell_one_new _ _ _) (by simp [Value.oneCell']) (by decide) (by unfold maxLen; omega) (by omega) (by simp; omega) (wr.heap.size + 1) (by simp) ?_
              intro g9 cp9 w9 hown hgrow hat _
              have Q9 := Lib.hid (And.intro hown (tr_step ZB.out HO.out.1 HO.out.2.1 HO.out.2.2 HB.out hgrow hat))
              obtain ⟨p0, _, _, h0, _⟩ := blk3 Q9.out.2.1
              obtain ⟨q1, _, q0, _⟩ := OLD.out w9 Q9.out.2.2.1
              have e9 := Lib.hid (fun (z : Value) => OLD.out _ (Q9.out.2.2.1.setCell (p := ⟨w2.heap.size, 0, none⟩) (Nat.le_refl _) z))
              clear hown hgrow hat
              refine hK.out _ _ ?_ (fun hHeld => ?_)
              · (try dsimp only)
                first | assumption | go_keep | exact ⟨(e9.out _).2.2.1, (e9.out _).1⟩
              clear hK K
              (try simp only [Act.put, List.setIfInBounds_toArray, List.set_cons_zero, List.set_cons_succ])
              refine wpAnyH_ready (rs := [9]) (by kernel_rfl) (by simp) ?_
              refine AllReadyH.cons (o := ⟨some 41, _, _, _, _, _⟩) rfl (fun K hK => ?_) AllReadyH.nil
              go_simp
              refine hK.out _ _ ?_ (fun hHeld => ?_)
              · (try dsimp only)
                first | assumption | go_keep | exact ⟨(e9.out _).2.2.1, (e9.out _).1⟩
              clear hK K
              (try simp only [Act.put, List.setIfInBounds_toArray, List.set_cons_zero, List.set_cons_succ])
              refine wpAnyH_ready (rs := [10]) (by kernel_rfl) (by simp) ?_
              refine AllReadyH.cons (o := ⟨none, _, _, _, _, _⟩) rfl (fun K hK => ?_) AllReadyH.nil
              go_simp
              refine hK.out _ _ ?_ (fun hHeld => ?_)
              · (try dsimp only)
                first | assumption | go_keep | exact ⟨(e9.out _).2.2.1, (e9.out _).1⟩
              clear hK K
              (try simp only [Act.put, List.setIfInBounds_toArray, List.set_cons_zero, List.set_cons_succ])
              refine wpAnyH_done (by kernel_rfl) ?_ _
              go_wp2
              go_meet
              refine ⟨rfl, .slice (some ⟨g9, 0, none⟩) (k + 1) cp9, Q9.out.2.1.set_ 0 _, ⟨?_, own_set Q9.out.2.2.2.1 Q9.out.2.1, ?_⟩, Q9.out.2.2.1.setCell (Nat.le_refl _) _⟩
              · rw [EA.out.1, ints_snoc]; exact own_set Q9.out.1 Q9.out.2.1
              · intro g e; cases e; exact Q9.out.2.2.2.2
            · go_simp
              refine hK.out _ _ ?_ (fun hHeld => ?_)
              · (try dsimp only)
                first | assumption | go_keep | exact ⟨(e9.out _).2.2.1, (e9.out _).1⟩
              clear hK K
              (try simp only [Act.put, List.setIfInBounds_toArray, List.set_cons_zero, List.set_cons_succ])
              refine wpAnyH_ready (rs := [1]) (by kernel_rfl) (by simp) ?_
              refine AllReadyH.cons (o := ⟨some 33, _, _, _, _, _⟩) rfl (fun K hK => ?_) AllReadyH.nil
              go_simp
              refine hK.out _ _ ?_ (fun hHeld => ?_)
              · (try dsimp only)
                first | assumption | go_keep | exact ⟨(e9.out _).2.2.1, (e9.out _).1⟩
              clear hK K
              (try simp only [Act.put, List.setIfInBounds_toArray, List.set_cons_zero, List.set_cons_succ])
              refine wpAnyH_ready (rs := [8]) (by kernel_rfl) (by simp) ?_
              refine AllReadyH.cons (o := ⟨some 40, _, _, _, _, _⟩) rfl (fun K hK => ?_) AllReadyH.nil
              refine step_append_lies _ (by rfl) (.tmp 33) (.tmp 39) 23 (by rfl) w2.heap.size 3 i0 (.int .i64 0) 1 8 Try.underlying23 hi0 hz0 hz1 hz2 rfl (by decide) us k (ints ((trl sh ax).take k)) (by rfl) (HO.out.1.alloc _) ⟨wr.heap.size, 0, none⟩ 1 1 [.int .i64 d] (by rfl) rfl (cell_one_new _ _ _) (by simp [Value.oneCell']) (by decide) (by unfold maxLen; omega) (by omega) (by simp; omega) (wr.heap.size + 1) (by simp) ?_
              intro g9 cp9 w9 hown hgrow hat _
              have Q9 := Lib.hid (And.intro hown (tr_step ZB.out HO.out.1 HO.out.2.1 HO.out.2.2 HB.out hgrow hat))
              obtain ⟨p0, _, _, h0, _⟩ := blk3 Q9.out.2.1
              obtain ⟨q1, _, q0, _⟩ := OLD.out w9 Q9.out.2.2.1
              have e9 := Lib.hid (fun (z : Value) => OLD.out _ (Q9.out.2.2.1.setCell (p := ⟨w2.heap.size, 0, none⟩) (Nat.le_refl _) z))
              clear hown hgrow hat
              refine hK.out _ _ ?_ (fun hHeld => ?_)
              · (try dsimp only)
                first | assumption | go_keep | exact ⟨(e9.out _).2.2.1, (e9.out _).1⟩
              clear hK K
              (try simp only [Act.put, List.setIfInBounds_toArray, List.set_cons_zero, List.set_cons_succ])
              refine wpAnyH_ready (rs := [9]) (by kernel_rfl) (by simp) ?_
              refine AllReadyH.cons (o := ⟨some 41, _, _, _, _, _⟩) rfl (fun K hK => ?_) AllReadyH.nil
              go_simp
              refine hK.out _ _ ?_ (fun hHeld => ?_)
              · (try dsimp only)
                first | assumption | go_keep | exact ⟨(e9.out _).2.2.1, (e9.out _).1⟩
              clear hK K
              (try simp only [Act.put, List.setIfInBounds_toArray, List.set_cons_zero, List.set_cons_succ])
              refine wpAnyH_ready (rs := [10]) (by kernel_rfl) (by simp) ?_
              refine AllReadyH.cons (o := ⟨none, _, _, _, _, _⟩) rfl (fun K hK => ?_) AllReadyH.nil
              go_simp
              refine hK.out _ _ ?_ (fun hHeld => ?_)
              · (try dsimp only)
                first | assumption | go_keep | exact ⟨(e9.out _).2.2.1, (e9.out _).1⟩
              clear hK K
              (try simp only [Act.put, List.setIfInBounds_toArray, List.set_cons_zero, List.set_cons_succ])
              refine wpAnyH_done (by kernel_rfl) ?_ _
              go_wp2
              go_meet
              refine ⟨rfl, .slice (some ⟨g9, 0, none⟩) (k + 1) cp9, Q9.out.2.1.set_ 0 _, ⟨?_, own_set Q9.out.2.2.2.1 Q9.out.2.1, ?_⟩, Q9.out.2.2.1.setCell (Nat.le_refl _) _⟩
              · rw [EA.out.1, ints_snoc]; exact own_set Q9.out.1 Q9.out.2.1
              · intro g e; cases e; exact Q9.out.2.2.2.2
          case rest =>
            obtain ⟨rfl, u1, hb, HO1, HB1⟩ := hcut
            have ZB1 := Lib.hid hb
            obtain ⟨t0, t1, t2, g0, g1, g2⟩ := blk3 hb
            have yw1 := hb.lt
            obtain ⟨xs', xt', c0, c1, c2, _⟩ := OLD.out wc HB1.out
            clear hb
            go_wp2
            refine wp_region_held_drew (S := (fun W => W.cell? ⟨w.heap.size, 1, none⟩ = some (.slice (some ⟨bt, ft, none⟩) st.length ct) ∧ W.cell? ⟨bt, ft + a, none⟩ = some (.int .i64 s))) (by kernel_rfl) ?_ (fun hHeld => ?_)
            · (try dsimp only)
              first | assumption | go_keep | exact ⟨(e9.out _).2.2.2.1, (e9.out _).2.1⟩
            have hHd := hHeld
            (refine wpAnyH_take (i := 0) (oi := ⟨some 42, _, _, _, _, _⟩) (v := ?v0_42) rfl (by kernel_rfl) (by kernel_rfl) (by kernel_rfl) (fun _ _ _ h => h) (Or.inl ⟨by rfl, ?hy0_42⟩) (by assumption) ?rest0_42; (case hy0_42 => ((intro w hSw); (try dsimp only at hSw); go_simp; first | done | (with_reducible rfl))))
            (try simp only [Act.put, List.setIfInBounds_toArray, List.set_cons_zero, List.set_cons_succ])
            (refine wpAnyH_take (i := 2) (oi := ⟨some 44, _, _, _, _, _⟩) (v := ?v2_42) rfl (by kernel_rfl) (by kernel_rfl) (by kernel_rfl) (fun _ _ _ h => h) (Or.inl ⟨by rfl, ?hy2_42⟩) (by assumption) ?rest2_42; (case hy2_42 => ((intro w hSw); (try dsimp only at hSw); go_simp; first | done | (with_reducible rfl))))
            (try simp only [Act.put, List.setIfInBounds_toArray, List.set_cons_zero, List.set_cons_succ])
            (refine wpAnyH_take (i := 3) (oi := ⟨some 45, _, _, _, _, _⟩) (v := ?v3_42) rfl (by kernel_rfl) (by kernel_rfl) (by kernel_rfl) (fun _ _ _ h => h) (Or.inl ⟨by rfl, ?hy3_42⟩) (by assumption) ?rest3_42; (case hy3_42 => ((intro w hSw); (try dsimp only at hSw); go_simp; first | done | (with_reducible rfl))))
            (try simp only [Act.put, List.setIfInBounds_toArray, List.set_cons_zero, List.set_cons_succ])
            (refine wpAnyH_take (i := 4) (oi := ⟨some 46, _, _, _, _, _⟩) (v := ?v4_42) rfl (by kernel_rfl) (by kernel_rfl) (by kernel_rfl) (fun _ _ _ h => h) (Or.inl ⟨by rfl, ?hy4_42⟩) (by assumption) ?rest4_42; (case hy4_42 => ((intro w hSw); (try dsimp only at hSw); go_simp; first | done | (with_reducible rfl))))
            (try simp only [Act.put, List.setIfInBounds_toArray, List.set_cons_zero, List.set_cons_succ])
            (refine wpAnyH_take (i := 5) (oi := ⟨some 47, _, _, _, _, _⟩) (v := ?v5_42) rfl (by kernel_rfl) (by kernel_rfl) (by kernel_rfl) (fun _ _ _ h => h) (Or.inl ⟨by rfl, ?hy5_42⟩) (by assumption) ?rest5_42; (case hy5_42 => ((intro w hSw); (try dsimp only at hSw); go_simp; first | done | (with_reducible rfl))))
            (try simp only [Act.put, List.setIfInBounds_toArray, List.set_cons_zero, List.set_cons_succ])
            (refine wpAnyH_take (i := 6) (oi := ⟨some 48, _, _, _, _, _⟩) (v := ?v6_42) rfl (by kernel_rfl) (by kernel_rfl) (by kernel_rfl) (fun _ _ _ h => h) (Or.inl ⟨by rfl, ?hy6_42⟩) (by assumption) ?rest6_42; (case hy6_42 => ((intro w hSw); (try dsimp only at hSw); go_simp; first | done | (with_reducible rfl))))
            (try simp only [Act.put, List.setIfInBounds_toArray, List.set_cons_zero, List.set_cons_succ])
            refine wpAnyH_ready (rs := [1, 7]) (by kernel_rfl) (by simp) ?_
            refine AllReadyH.cons (o := ⟨some 43, _, _, _, _, _⟩) rfl (fun K hK => ?_) (AllReadyH.cons (o := ⟨some 49, _, _, _, _, _⟩) rfl (fun K hK => ?_) AllReadyH.nil)
            · go_simp
              refine hK.out _ _ ?_ (fun hHeld => ?_)
              · (try dsimp only)
                first | assumption | go_keep | exact ⟨(e9.out _).2.2.2.1, (e9.out _).2.1⟩
              clear hK K
              (try simp only [Act.put, List.setIfInBounds_toArray, List.set_cons_zero, List.set_cons_succ])
              refine wpAnyH_ready (rs := [7]) (by kernel_rfl) (by simp) ?_
              refine AllReadyH.cons (o := ⟨some 49, _, _, _, _, _⟩) rfl (fun K hK => ?_) AllReadyH.nil
              go_simp
              refine hK.out _ _ ?_ (fun hHeld => ?_)
              · (try dsimp only)
                first | assumption | go_keep | exact ⟨(e9.out _).2.2.2.1, (e9.out _).2.1⟩
              clear hK K
              (try simp only [Act.put, List.setIfInBounds_toArray, List.set_cons_zero, List.set_cons_succ])
              refine wpAnyH_ready (rs := [8]) (by kernel_rfl) (by simp) ?_
              refine AllReadyH.cons (o := ⟨some 50, _, _, _, _, _⟩) rfl (fun K hK => ?_) AllReadyH.nil
              refine step_append_lies _ (by rfl) (.tmp 43) (.tmp 49) 23 (by rfl) w2.heap.size 3 i0 (.int .i64 0) 1 8 Try.underlying23 hi0 hz0 hz1 hz2 rfl (by decide) ut k (ints ((trl st ax).take k)) (by rfl) (HO1.out.2.1.alloc _) ⟨wc.heap.size, 0, none⟩ 1 1 [.int .i64 s] (by rfl) rfl (cell_one_new _ _ _) (by simp [Value.oneCell']) (by decide) (by unfold maxLen; omega) (by omega) (by simp; omega) (wc.heap.size + 1) (by simp) ?_
              intro g9 cp9 w9 hown hgrow hat _
              have Q9 := Lib.hid (And.intro hown (tr_step ZB1.out HO1.out.2.1 HO1.out.1 (fun g a b => HO1.out.2.2 g b a) HB1.out hgrow hat))
              obtain ⟨_, p0, _, _, h0, _⟩ := blk3 Q9.out.2.1
              obtain ⟨_, q1, _, q0, _⟩ := OLD.out w9 Q9.out.2.2.1
              have e9 := Lib.hid (fun (z : Value) => OLD.out _ (Q9.out.2.2.1.setCell (p := ⟨w2.heap.size, 1, none⟩) (Nat.le_refl _) z))
              clear hown hgrow hat
              refine hK.out _ _ ?_ (fun hHeld => ?_)
              · (try dsimp only)
                first | assumption | go_keep | exact ⟨(e9.out _).2.2.2.1, (e9.out _).2.1⟩
              clear hK K
              (try simp only [Act.put, List.setIfInBounds_toArray, List.set_cons_zero, List.set_cons_succ])
              refine wpAnyH_ready (rs := [9]) (by kernel_rfl) (by simp) ?_
              refine AllReadyH.cons (o := ⟨some 51, _, _, _, _, _⟩) rfl (fun K hK => ?_) AllReadyH.nil
              go_simp
              refine hK.out _ _ ?_ (fun hHeld => ?_)
              · (try dsimp only)
                first | assumption | go_keep | exact ⟨(e9.out _).2.2.2.1, (e9.out _).2.1⟩
              clear hK K
              (try simp only [Act.put, List.setIfInBounds_toArray, List.set_cons_zero, List.set_cons_succ])
              refine wpAnyH_ready (rs := [10]) (by kernel_rfl) (by simp) ?_
              refine AllReadyH.cons (o := ⟨none, _, _, _, _, _⟩) rfl (fun K hK => ?_) AllReadyH.nil
              go_simp
              refine hK.out _ _ ?_ (fun hHeld => ?_)
              · (try dsimp only)
                first | assumption | go_keep | exact ⟨(e9.out _).2.2.2.1, (e9.out _).2.1⟩
              clear hK K
              (try simp only [Act.put, List.setIfInBounds_toArray, List.set_cons_zero, List.set_cons_succ])
              refine wpAnyH_done (by kernel_rfl) ?_ _
              go_wp2
              refine ⟨⟨k + 1, u1, .slice (some ⟨g9, 0, none⟩) (k + 1) cp9, by omega, by go_num, Q9.out.2.1.set_ 1 _, ⟨own_set Q9.out.2.2.2.1 Q9.out.2.1, ?_, ?_⟩, Q9.out.2.2.1.setCell (Nat.le_refl _) _⟩, by simp [intOf]; omega⟩
              · rw [EA.out.2, ints_snoc]; exact own_set Q9.out.1 Q9.out.2.1
              · intro g e e2; cases e2; exact Q9.out.2.2.2.2 e
            · go_simp
              refine hK.out _ _ ?_ (fun hHeld => ?_)
              · (try dsimp only)
                first | assumption | go_keep | exact ⟨(e9.out _).2.2.2.1, (e9.out _).2.1⟩
              clear hK K
              (try simp only [Act.put, List.setIfInBounds_toArray, List.set_cons_zero, List.set_cons_succ])
              refine wpAnyH_ready (rs := [1]) (by kernel_rfl) (by simp) ?_
              refine AllReadyH.cons (o := ⟨some 43, _, _, _, _, _⟩) rfl (fun K hK => ?_) AllReadyH.nil
              go_simp
              refine hK.out _ _ ?_ (fun hHeld => ?_)
              · (try dsimp only)
                first | assumption | go_keep | exact ⟨(e9.out _).2.2.2.1, (e9.out _).2.1⟩
              clear hK K
              (try simp only [Act.put, List.setIfInBounds_toArray, List.set_cons_zero, List.set_cons_succ])
              refine wpAnyH_ready (rs := [8]) (by kernel_rfl) (by simp) ?_
              refine AllReadyH.cons (o := ⟨some 50, _, _, _, _, _⟩) rfl (fun K hK => ?_) AllReadyH.nil
              refine step_append_lies _ (by rfl) (.tmp 43) (.tmp 49) 23 (by rfl) w2.heap.size 3 i0 (.int .i64 0) 1 8 Try.underlying23 hi0 hz0 hz1 hz2 rfl (by decide) ut k (ints ((trl st ax).take k)) (by rfl) (HO1.out.2.1.alloc _) ⟨wc.heap.size, 0, none⟩ 1 1 [.int .i64 s] (by rfl) rfl (cell_one_new _ _ _) (by simp [Value.oneCell']) (by decide) (by unfold maxLen; omega) (by omega) (by simp; omega) (wc.heap.size + 1) (by simp) ?_
              intro g9 cp9 w9 hown hgrow hat _
              have Q9 := Lib.hid (And.intro hown (tr_step ZB1.out HO1.out.2.1 HO1.out.1 (fun g a b => HO1.out.2.2 g b a) HB1.out hgrow hat))
              obtain ⟨_, p0, _, _, h0, _⟩ := blk3 Q9.out.2.1
              obtain ⟨_, q1, _, q0, _⟩ := OLD.out w9 Q9.out.2.2.1
              have e9 := Lib.hid (fun (z : Value) => OLD.out _ (Q9.out.2.2.1.setCell (p := ⟨w2.heap.size, 1, none⟩) (Nat.le_refl _) z))
              clear hown hgrow hat
              refine hK.out _ _ ?_ (fun hHeld => ?_)
              · (try dsimp only)
                first | assumption | go_keep | exact ⟨(e9.out _).2.2.2.1, (e9.out _).2.1⟩
              clear hK K
              (try simp only [Act.put, List.setIfInBounds_toArray, List.set_cons_zero, List.set_cons_succ])
              refine wpAnyH_ready (rs := [9]) (by kernel_rfl) (by simp) ?_
              refine AllReadyH.cons (o := ⟨some 51, _, _, _, _, _⟩) rfl (fun K hK => ?_) AllReadyH.nil
              go_simp
              refine hK.out _ _ ?_ (fun hHeld => ?_)
              · (try dsimp only)
                first | assumption | go_keep | exact ⟨(e9.out _).2.2.2.1, (e9.out _).2.1⟩
              clear hK K
              (try simp only [Act.put, List.setIfInBounds_toArray, List.set_cons_zero, List.set_cons_succ])
              refine wpAnyH_ready (rs := [10]) (by kernel_rfl) (by simp) ?_
              refine AllReadyH.cons (o := ⟨none, _, _, _, _, _⟩) rfl (fun K hK => ?_) AllReadyH.nil
              go_simp
              refine hK.out _ _ ?_ (fun hHeld => ?_)
              · (try dsimp only)
                first | assumption | go_keep | exact ⟨(e9.out _).2.2.2.1, (e9.out _).2.1⟩
              clear hK K
              (try simp only [Act.put, List.setIfInBounds_toArray, List.set_cons_zero, List.set_cons_succ])
              refine wpAnyH_done (by kernel_rfl) ?_ _
              go_wp2
              refine ⟨⟨k + 1, u1, .slice (some ⟨g9, 0, none⟩) (k + 1) cp9, by omega, by go_num, Q9.out.2.1.set_ 1 _, ⟨own_set Q9.out.2.2.2.1 Q9.out.2.1, ?_, ?_⟩, Q9.out.2.2.1.setCell (Nat.le_refl _) _⟩, by simp [intOf]; omega⟩
              · rw [EA.out.2, ints_snoc]; exact own_set Q9.out.1 Q9.out.2.1
              · intro g e e2; cases e2; exact Q9.out.2.2.2.2 e
        · obtain rfl : k = ax.length := by omega
          have h1 := HO.out.1
          have h2 := HO.out.2.1
          rw [List.take_of_length_le (by rw [trl_len]; exact Nat.le_refl _)] at h1 h2
          have hn1 := trl_len sh ax
          have hn2 := trl_len st ax
          rw [← hn1] at h1
          obtain ⟨o1, c1', e1, _⟩ := Ld.of_owns h1
          rw [← hn2] at h2
          obtain ⟨o2, c2', e2, _⟩ := Ld.of_owns h2
          subst e1 e2
          have HN := Lib.hid (And.intro hn1 hn2)
          have HF := Lib.hid (And.intro h1 h2)
          have ap := Lib.hid HO.out.2.2
          have ZF := Lib.hid (Y1.out.below HB.out (by omega))
          obtain ⟨d0, d1, d2, f0, f1, f2⟩ := blk3 ZF.out
          obtain ⟨t0, t1, t2, _⟩ := blk3 hb
          clear hn1 hn2 h1 h2 HO
          go_wp2
          refine bodyPost_ret (v := .tuple #[.agg #[.slice o1 (trl sh ax).length c1', .slice o2 (trl st ax).length c2', .int .i64 off], .int .i64 0]) (by simp [results, Try.results42, go_sem, d0, d1, d2]) rfl ?_
          rw [R.out]
          exact someV_end (Nat.le_succ _) (B2.out.trans (HB.out.mono b2s)) ZF.out rfl rfl (Ov.base ⟨HF.out.1, HF.out.2, ap.out⟩ b2s)
end Go.Proofs.Ytlidkeabadioeaa
