/-
  A range over a function whose iterator tells something of each element besides: what the element's memory holds when it is handed over.
-/
import Derived.RangeFuncNested
namespace Go.Proofs.Yteplhlmdaabpaaa
open Go Go.RowKit

/-- The iterator's contract; Tx: what is known of an element, in the world in which it is handed over. -/
def SeqTold {α : Type} (F : Fence) (n : Nat) (P : Program) (g : Nat) (lb : Array Value) (encs : α → Array Value) (Kp : World → World → Prop) (Tx : List α → α → World → Prop) (S Sp : List α → Prop) (N : Nat) (w : World) : Prop :=
  ∀ (l : Nat) (J Jx : List α → World → Prop) (W : World), Below w.heap.size w W → AbidesFrom W.heap.size J → AbidesFrom W.heap.size Jx →
    (∀ pre x W1, J pre W1 → pre.length < N → Tx pre x W1 → YieldAt F (n - 1) P l (encs x) W1 fun e W' => (e = .returned (.bool true) ∧ J (pre ++ [x]) W' ∧ Kp W1 W') ∨ (e = .returned (.bool false) ∧ Jx (pre ++ [x]) W')) →
    J [] W → CallsIn F n P g (#[.func (.yield l) #[] #[]] ++ lb) W fun e W' => (∃ v, e = .returned v) ∧ ((∃ xs, S xs ∧ J xs W') ∨ (∃ pre, Sp pre ∧ Jx pre W'))

variable {F : Fence} {n : Nat} {P : Program}
/-- The loop's record. -/
def recOf (fn : FuncId) (tmps : Array Value) (ps : Array Tmp) (assign body : Code) (D : Nat) (st : LoopState) (pe : Option Code) : Loop := { state := st, pending := pe, fn, tmps, params := ps, assign, body, defers := D }

theorem wpIn_rangeFunc_told {α : Type} {g : Operand} {ps : Array Tmp} {assign body : Code} {Q : Exit → Act → World → Prop} {a : Act} {w : World}
    (hro : F.round = none) (h1 : 1 ≤ n) {gf : Nat} {lb : Array Value} (hg : a.eval g = .func (.func gf) #[] lb) (hFg : F.fn gf) (eg : ∀ args w, (callFunc gf args).run P w = .ok (.enter gf args) w)
    {encs : α → Array Value} {Kp : World → World → Prop} {Tx : List α → α → World → Prop} {S Sp : List α → Prop} {N : Nat} (hseq : SeqTold F (n - 1) P gf lb encs Kp Tx S Sp N w)
    (hKt : ∀ {A B C : World}, Kp A B → Kp B C → Kp A C) (hKb : ∀ (W : World) (l : Nat) (o o' : Obj), w.heap.size ≤ l → W.heap[l]? = some o → o.isCells = false → o.isWalk = false → Kp W (W.putObj l o')) (hps : ∀ x, (encs x).size = ps.size)
    (I : List α → World → Prop) (Ix : Code → List α → World → Prop) (hI : OwnFrom w.heap.size I) (hIx : ∀ c, OwnFrom w.heap.size (Ix c)) (hT : ∀ pre x, OwnFrom w.heap.size (fun (_ : Unit) W => Tx pre x W)) (h0 : I [] w) (a₁ : α → Act)
    (hassign : ∀ (l : Nat) (x : α) (W : World) (K : Act → World → Prop), K (a₁ x) W → assign.wpIn (F.inRound l) (n - 1 - 1) P (Exit.then K (fun _ _ _ => False)) { tmps := (ps.zip (encs x)).foldl (fun t (p, v) => t.setIfInBounds p v) a.tmps, defers := [] } W)
    (hbody : ∀ (l : Nat) (pre : List α) (x : α) (W : World), I pre W → pre.length < N → Tx pre x W → body.wpIn (F.inRound l) (n - 1 - 1) P (ownPostG w.heap.size Kp I Ix (pre ++ [x]) W) (a₁ x) W)
    (hdone : ∀ (D : Nat) (xs : List α) (W : World), w.heap.size ≤ D → S xs → I xs W → W.heap[D]? = some (.deferred (some [])) → Q .normal { a with defers := { target := .collected D, args := #[] } :: a.defers } W)
    (hstop : ∀ (D : Nat) (c : Code) (pre : List α) (W : World), w.heap.size ≤ D → Sp pre → Ix c pre W → W.heap[D]? = some (.deferred (some [])) → c.wpIn F n P Q { a with defers := { target := .collected D, args := #[] } :: a.defers } W) :
    (Code.rangeFunc g ps assign body).wpIn F n P Q a w := by
  refine wpIn_rangeFunc fun fn hfn => ?_
  rw [hro]
  -- the two blocks that the statement lays: the deferred calls' (D) and the record (D + 1)
  let D := w.heap.size
  let R := recOf fn a.tmps ps assign body D
  let V := (w.alloc (.deferred (some []))).alloc (.loop (R .ready none))
  have rec0 : V.heap[D + 1]? = some (.loop (R .ready none)) := by
    have e := World.alloc_heap_new (w.alloc (.deferred (some []))) (.loop (R .ready none))
    rw [World.size_alloc] at e; exact e
  have def0 : V.heap[D]? = some (.deferred (some [])) := (Below.heap_alloc _ _ _ (by simp [D])).trans (World.alloc_heap_new w _)
  have size0 : V.heap.size = D + 2 := by simp [V, D]
  -- what the record's turns keep
  have put : ∀ {β : Type} {J : β → World → Prop} {s : β} {W : World} {o : Obj} (o' : Obj), OwnFrom D J → J s W → W.heap[D + 1]? = some o → o.isCells = false → J s (W.putObj (D + 1) o') := fun o' hJ hs hl ho => hJ.putObj o' hs (Nat.le_succ _) hl ho
  have away : ∀ (W : World) (o : Obj), W.heap[D]? = some (.deferred (some [])) → (W.putObj (D + 1) o).heap[D]? = some (.deferred (some [])) := fun W o h => (World.putObj_heap_other (by omega)).trans h
  have there : ∀ (W : World) (o o' : Obj), W.heap[D + 1]? = some o → (W.putObj (D + 1) o').heap[D + 1]? = some o' := fun W o o' h => World.putObj_heap_same (Array.getElem?_eq_some_iff.1 h).1
  have grow : ∀ {β : Type} {J : β → World → Prop}, OwnFrom D J → ∀ (st : Option Code → LoopState) (pe : β → Option Code), AbidesFrom V.heap.size (fun s W => J s W ∧ W.heap[D + 1]? = some (.loop (R (st (pe s)) (pe s))) ∧ W.heap[D]? = some (.deferred (some []))) := by
    intro β J hJ st pe s X Y row hs hgr hr
    have hn : ∀ r, row = some r → ∃ o : Obj, X.heap[r]? = some o ∧ o.isCells = false ∧ D ≤ r ∧ r ≠ D ∧ r ≠ D + 1 := by
      intro r e
      obtain ⟨hB, o, ho, hw⟩ := hr r e
      rw [size0] at hB
      exact ⟨o, ho, Obj.not_cells_of_walk hw, by omega, by omega, by omega⟩
    refine ⟨hJ s X Y row hs.1 hgr (fun r e => let ⟨o, ho, hc, hd, _⟩ := hn r e; ⟨hd, o, ho, hc⟩), ?_, ?_⟩
    · exact (hgr.block _ (Array.getElem?_eq_some_iff.1 hs.2.1).1 (fun e => (hn _ e.symm).elim fun _ h => h.2.2.2.2 rfl)).trans hs.2.1
    · exact (hgr.block _ (Array.getElem?_eq_some_iff.1 hs.2.2).1 (fun e => (hn _ e.symm).elim fun _ h => h.2.2.2.1 rfl)).trans hs.2.2
  have begun : Below w.heap.size w V := ((Below.refl _ w).alloc (Nat.le_refl _) _).alloc (by simp) _
  refine ⟨D + 1, [{ target := .collected D, args := #[] }], V, { target := .fn (.func gf) lb, args := #[.func (.yield (D + 1)) #[] #[]] }, V, gf, #[.func (.yield (D + 1)) #[] #[]] ++ lb, V, run_enterLoop_outer _ _ _ _ _, ?_, ?_, ?_, fun _ => h1, ?_⟩
  · simp only [resolve, hg]; simp [go_sem]
  · intro f' hf'
    simp [Target.leads] at hf'
    subst hf'
    exact hFg
  · simp [invoke, go_sem, eg]
  · refine (hseq (D + 1) (fun pre W => I pre W ∧ W.heap[D + 1]? = some (.loop (R .ready none)) ∧ W.heap[D]? = some (.deferred (some [])))
      (fun pre W => ∃ c, Ix c pre W ∧ W.heap[D + 1]? = some (.loop (R .done (some c))) ∧ W.heap[D]? = some (.deferred (some []))) V begun
      (grow (β := List α) hI (fun _ => .ready) (fun _ => none)) ?_ ?_ ⟨hI.alloc _ (hI.alloc _ h0), rec0, def0⟩).mono ?_
    · rintro s X Y row ⟨c, hs⟩ hgr hr
      exact ⟨c, grow (β := List α) (J := Ix c) (hIx c) (fun _ => .done) (fun _ => some c) s X Y row hs hgr hr⟩
    · rintro pre x W ⟨hi, hl, hk⟩ hlen htx
      refine ⟨fn, _, assign, body, run_yield hl (hps x), roundIn_of_wpIn hfn (hassign _ x W _ ⟨_, run_beginRound hl rfl, ?_⟩)⟩
      have hb := hbody (D + 1) pre x (W.putObj (D + 1) (.loop { R .ready none with state := .busy })) (put _ hI hi hl rfl) hlen (put (β := Unit) (s := ()) _ (hT pre x) htx hl rfl)
      have hl2 := there W _ (.loop { R .ready none with state := .busy }) hl
      have hk2 := away W (.loop { R .ready none with state := .busy }) hk
      have hkp := hKb W (D + 1) _ (.loop { R .ready none with state := .busy }) (Nat.le_succ _) hl rfl rfl
      -- a round's end: the record is turned, its neighbour is not
      have ends : ∀ (jump : Option Code) (W3 : World), KeepsFrom w.heap.size (W.putObj (D + 1) (.loop { R .ready none with state := .busy })) W3 →
          W3.heap[D + 1]? = some (.loop { R .ready none with state := .busy }) ∧ W3.heap[D]? = some (.deferred (some [])) ∧
          (Instr.endRound (D + 1) jump).run P W3 = .ok (.bool jump.isNone) (W3.putObj (D + 1) (.loop (R (if jump.isNone then .ready else .done) jump))) := fun jump W3 h =>
        have hl3 := h.same _ _ (Nat.le_succ _) hl2 rfl
        ⟨hl3, h.same _ _ (Nat.le_refl _) hk2 rfl, run_endRound jump hl3⟩
      have leave : ∀ (c : Code) (W3 : World), KeepsFrom w.heap.size (W.putObj (D + 1) (.loop { R .ready none with state := .busy })) W3 → Ix c (pre ++ [x]) W3 →
          ∃ c', Ix c' (pre ++ [x]) (W3.putObj (D + 1) (.loop (R .done (some c)))) ∧ (W3.putObj (D + 1) (.loop (R .done (some c)))).heap[D + 1]? = some (.loop (R .done (some c'))) ∧ (W3.putObj (D + 1) (.loop (R .done (some c)))).heap[D]? = some (.deferred (some [])) := fun c W3 hk3 hi3 =>
        have ⟨hl3, hd3, _⟩ := ends (some c) W3 hk3
        ⟨c, put _ (hIx c) hi3 hl3 rfl, there _ _ _ hl3, away _ _ hd3⟩
      refine wpIn_mono hb fun e a3 W3 hp => ?_
      cases e with
      | normal =>
        obtain ⟨hk3, hkp3, hi3⟩ := hp
        obtain ⟨hl3, hd3, hr⟩ := ends none W3 hk3
        exact ⟨_, _, hr, .inl ⟨rfl, ⟨put _ hI hi3 hl3 rfl, there _ _ _ hl3, away _ _ hd3⟩, hKt (hKt hkp hkp3) (hKb _ _ _ _ (Nat.le_succ _) hl3 rfl rfl)⟩⟩
      | ret => exact ⟨_, _, (ends (some .ret) W3 hp.1).2.2, .inr ⟨rfl, leave .ret W3 hp.1 hp.2⟩⟩
      | exit id => exact ⟨_, _, (ends (some (.exit id)) W3 hp.1).2.2, .inr ⟨rfl, leave (.exit id) W3 hp.1 hp.2⟩⟩
      | goto t => exact ⟨_, _, (ends (some (.goto t)) W3 hp.1).2.2, .inr ⟨rfl, leave (.goto t) W3 hp.1 hp.2⟩⟩
      | panic ch => exact hp.elim
      | outgrown => exact hp.elim
    · rintro e W2 ⟨⟨v, rfl⟩, (⟨xs, hS, hi, hl, hk⟩ | ⟨pre, hSp, c, hi, hl, hk⟩)⟩
      · exact ⟨none, _, run_endLoop hl (by simp [R, recOf]), hdone D xs _ (Nat.le_refl _) hS (put _ hI hi hl rfl) (away _ _ hk)⟩
      · exact ⟨some c, _, run_endLoop hl (by simp [R, recOf]), hstop D c pre _ (Nat.le_refl _) hSp (put _ (hIx c) hi hl rfl) (away _ _ hk)⟩
end Go.Proofs.Yteplhlmdaabpaaa
