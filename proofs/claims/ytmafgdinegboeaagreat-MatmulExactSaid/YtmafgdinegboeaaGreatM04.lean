/-
  
  
  
  
-/
import Derived.RangeFuncNested
import Derived.WalkSpells
import Derived.Lib.SliceRun
import Derived.Test.YtmafgdinegboeaaGreatM02
import Derived.Test.YtmafgdinegboeaaGreatM03
namespace Go.Proofs.YtmafgdinegboeaaGreat
open Go Go.RowKit

def SeqTold {α : Type} (F : Fence) (n : Nat) (P : Program) (g : Nat) (lb : Array Value) (encs : α → Array Value) (Kp : World → World → Prop) (Tx : List α → α → World → Prop) (S Sp : List α → Prop) (N : Nat) (w : World) : Prop :=
  ∀ (l : Nat) (J Jx : List α → World → Prop) (W : World), Below w.heap.size w W → AbidesFrom W.heap.size J → AbidesFrom W.heap.size Jx →
    (∀ pre x W1, J pre W1 → pre.length < N → Tx pre x W1 → YieldAt F (n - 1) P l (encs x) W1 fun e W' => (e = .returned (.bool true) ∧ J (pre ++ [x]) W' ∧ Kp W1 W') ∨ (e = .returned (.bool false) ∧ Jx (pre ++ [x]) W')) →
    J [] W → CallsIn F n P g (#[.func (.yield l) #[] #[]] ++ lb) W fun e W' => (∃ v, e = .returned v) ∧ ((∃ xs, S xs ∧ J xs W') ∨ (∃ pre, Sp pre ∧ Jx pre W'))

variable {F : Fence} {n : Nat} {P : Program}
def recOf (fn : FuncId) (tmps : Array Value) (ps : Array Tmp) (assign body : Code) (D : Nat) (st : LoopState) (pe : Option Code) : Loop := { state := st, pending := pe, fn, tmps, params := ps, assign, body, defers := D }

theorem wpIn_rangeFunc_told {α : Type} {g : Operand} {ps : Array Tmp} {assign body : Code} {Q : Exit → Act → World → Prop} {a : Act} {w : World}
    (hro : F.round = none) (h1 : 1 ≤ n) {gf : Nat} {lb : Array Value} (hg : a.eval g = .func (.func gf) #[] lb) (hFg : F.fn gf) (eg : ∀ args w, (callFunc gf args).run P w = .ok (.enter gf args) w)
    {encs : α → Array Value} {Kp : World → World → Prop} {Tx : List α → α → World → Prop} {S Sp : List α → Prop} {N : Nat} (hseq : SeqTold F (n - 1) P gf lb encs Kp Tx S Sp N w)
    (hKt : ∀ {A B C : World}, Kp A B → Kp B C → Kp A C) (hKb : ∀ (W : World) (l : Nat) (o o' : Obj), w.heap.size ≤ l → W.heap[l]? = some o → o.isCells = false → o.isWalk = false → Kp W (W.putObj l o')) (hps : ∀ x, (encs x).size = ps.size)
    (I : List α → World → Prop) (Ix : Code → List α → World → Prop) (hI : OwnFrom w.heap.size I) (hIx : ∀ c, OwnFrom w.heap.size (Ix c)) (hT : ∀ pre x, OwnFrom w.heap.size (fun (_ : Unit) W => Tx pre x W)) (h0 : I [] w) (a₁ : α → Act)
    (hassign : ∀ (l : Nat) (x : α) (W : World) (K : Act → World → Prop), K (a₁ x) W → assign.wpIn (F.inRound l) (n - 1 - 1) P (Exit.then K (fun _ _ _ => False)) { tmps := (ps.zip (encs x)).foldl (fun t (p, v) => t.setIfInBounds p v) a.tmps, defers := [] } W)
    (hbody : ∀ (l : Nat) (pre : List α) (x : α) (W : World), I pre W → pre.length < N → Tx pre x W → body.wpIn (F.inRound l) (n - 1 - 1) P (ownPostG w.heap.size Kp I Ix (pre ++ [x]) W) (a₁ x) W)
    (hdone : ∀ (D : Nat) (xs : List α) (W : World), w.heap.size ≤ D → S xs → I xs W → W.heap[D]? = some (.deferred (some [])) → Q .normal { a with defers := { target := .collected D, args := #[] } :: a.defers } W)
    (hstop : ∀ (D : Nat) (c : Code) (pre : List α) (W : World), w.heap.size ≤ D → Sp pre → Ix c pre W → W.heap[D]? = some (.deferred (some [])) → c.wpIn F n P Q { a with defers := { target := .collected D, args := #[] } :: a.defers } W) :
    (Code.rangeFunc g ps assign body).wpIn F n P Q a w := by
  refine wpIn_rangeFunc fun fn hfn => ?_
  rw [hro]
  -- the two blocks that the statement lays: the deferred calls' (D) and the record (D + 1)
  let D := w.heap.size
  let R := recOf fn a.tmps ps assign body D
  let V := (w.alloc (.deferred (some []))).alloc (.loop (R .ready none))
  have rec0 : V.heap[D + 1]? = some (.loop (R .ready none)) := by
    have e := World.alloc_heap_new (w.alloc (.deferred (some []))) (.loop (R .ready none))
    rw [World.size_alloc] at e; exact e
  have def0 : V.heap[D]? = some (.deferred (some [])) := (Below.heap_alloc _ _ _ (by simp [D])).trans (World.alloc_heap_new w _)
  have size0 : V.heap.size = D + 2 := by simp [V, D]
  -- what the record's turns keep
  have put : ∀ {β : Type} {J : β → World → Prop} {s : β} {W : World} {o : Obj} (o' : Obj), OwnFrom D J → J s W → W.heap[D + 1]? = some o → o.isCells = false → J s (W.putObj (D + 1) o') := fun o' hJ hs hl ho => hJ.putObj o' hs (Nat.le_succ _) hl ho
  have away : ∀ (W : World) (o : Obj), W.heap[D]? = some (.deferred (some [])) → (W.putObj (D + 1) o).heap[D]? = some (.deferred (some [])) := fun W o h => (World.putObj_heap_other (by omega)).trans h
  have there : ∀ (W : World) (o o' : Obj), W.heap[D + 1]? = some o → (W.putObj (D + 1) o').heap[D + 1]? = some o' := fun W o o' h => World.putObj_heap_same (Array.getElem?_eq_some_iff.1 h).1
  have grow : ∀ {β : Type} {J : β → World → Prop}, OwnFrom D J → ∀ (st : Option Code → LoopState) (pe : β → Option Code), AbidesFrom V.heap.size (fun s W => J s W ∧ W.heap[D + 1]? = some (.loop (R (st (pe s)) (pe s))) ∧ W.heap[D]? = some (.deferred (some []))) := by
    intro β J hJ st pe s X Y row hs hgr hr
    have hn : ∀ r, row = some r → ∃ o : Obj, X.heap[r]? = some o ∧ o.isCells = false ∧ D ≤ r ∧ r ≠ D ∧ r ≠ D + 1 := by
      intro r e
      obtain ⟨hB, o, ho, hw⟩ := hr r e
      rw [size0] at hB
      exact ⟨o, ho, Obj.not_cells_of_walk hw, by omega, by omega, by omega⟩
    refine ⟨hJ s X Y row hs.1 hgr (fun r e => let ⟨o, ho, hc, hd, _⟩ := hn r e; ⟨hd, o, ho, hc⟩), ?_, ?_⟩
    · exact (hgr.block _ (Array.getElem?_eq_some_iff.1 hs.2.1).1 (fun e => (hn _ e.symm).elim fun _ h => h.2.2.2.2 rfl)).trans hs.2.1
    · exact (hgr.block _ (Array.getElem?_eq_some_iff.1 hs.2.2).1 (fun e => (hn _ e.symm).elim fun _ h => h.2.2.2.1 rfl)).trans hs.2.2
  have begun : Below w.heap.size w V := ((Below.refl _ w).alloc (Nat.le_refl _) _).alloc (by simp) _
  refine ⟨D + 1, [{ target := .collected D, args := #[] }], V, { target := .fn (.func gf) lb, args := #[.func (.yield (D + 1)) #[] #[]] }, V, gf, #[.func (.yield (D + 1)) #[] #[]] ++ lb, V, run_enterLoop_outer _ _ _ _ _, ?_, ?_, ?_, fun _ => h1, ?_⟩
  · simp only [resolve, hg]; simp [go_sem]
  · intro f' hf'
    simp [Target.leads] at hf'
    subst hf'
    exact hFg
  · simp [invoke, go_sem, eg]
  · refine (hseq (D + 1) (fun pre W => I pre W ∧ W.heap[D + 1]? = some (.loop (R .ready none)) ∧ W.heap[D]? = some (.deferred (some [])))
      (fun pre W => ∃ c, Ix c pre W ∧ W.heap[D + 1]? = some (.loop (R .done (some c))) ∧ W.heap[D]? = some (.deferred (some []))) V begun
      (grow (β := List α) hI (fun _ => .ready) (fun _ => none)) ?_ ?_ ⟨hI.alloc _ (hI.alloc _ h0), rec0, def0⟩).mono ?_
    · rintro s X Y row ⟨c, hs⟩ hgr hr
      exact ⟨c, grow (β := List α) (J := Ix c) (hIx c) (fun _ => .done) (fun _ => some c) s X Y row hs hgr hr⟩
    · rintro pre x W ⟨hi, hl, hk⟩ hlen htx
      refine ⟨fn, _, assign, body, run_yield hl (hps x), roundIn_of_wpIn hfn (hassign _ x W _ ⟨_, run_beginRound hl rfl, ?_⟩)⟩
      have hb := hbody (D + 1) pre x (W.putObj (D + 1) (.loop { R .ready none with state := .busy })) (put _ hI hi hl rfl) hlen (put (β := Unit) (s := ()) _ (hT pre x) htx hl rfl)
      have hl2 := there W _ (.loop { R .ready none with state := .busy }) hl
      have hk2 := away W (.loop { R .ready none with state := .busy }) hk
      have hkp := hKb W (D + 1) _ (.loop { R .ready none with state := .busy }) (Nat.le_succ _) hl rfl rfl
      -- a round's end: the record is turned, its neighbour is not
      have ends : ∀ (jump : Option Code) (W3 : World), KeepsFrom w.heap.size (W.putObj (D + 1) (.loop { R .ready none with state := .busy })) W3 →
          W3.heap[D + 1]? = some (.loop { R .ready none with state := .busy }) ∧ W3.heap[D]? = some (.deferred (some [])) ∧
          (Instr.endRound (D + 1) jump).run P W3 = .ok (.bool jump.isNone) (W3.putObj (D + 1) (.loop (R (if jump.isNone then .ready else .done) jump))) := fun jump W3 h =>
        have hl3 := h.same _ _ (Nat.le_succ _) hl2 rfl
        ⟨hl3, h.same _ _ (Nat.le_refl _) hk2 rfl, run_endRound jump hl3⟩
      have leave : ∀ (c : Code) (W3 : World), KeepsFrom w.heap.size (W.putObj (D + 1) (.loop { R .ready none with state := .busy })) W3 → Ix c (pre ++ [x]) W3 →
          ∃ c', Ix c' (pre ++ [x]) (W3.putObj (D + 1) (.loop (R .done (some c)))) ∧ (W3.putObj (D + 1) (.loop (R .done (some c)))).heap[D + 1]? = some (.loop (R .done (some c'))) ∧ (W3.putObj (D + 1) (.loop (R .done (some c)))).heap[D]? = some (.deferred (some [])) := fun c W3 hk3 hi3 =>
        have ⟨hl3, hd3, _⟩ := ends (some c) W3 hk3
        ⟨c, put _ (hIx c) hi3 hl3 rfl, there _ _ _ hl3, away _ _ hd3⟩
      refine wpIn_mono hb fun e a3 W3 hp => ?_
      cases e with
      | normal =>
        obtain ⟨hk3, hkp3, hi3⟩ := hp
        obtain ⟨hl3, hd3, hr⟩ := ends none W3 hk3
        exact ⟨_, _, hr, .inl ⟨rfl, ⟨put _ hI hi3 hl3 rfl, there _ _ _ hl3, away _ _ hd3⟩, hKt (hKt hkp hkp3) (hKb _ _ _ _ (Nat.le_succ _) hl3 rfl rfl)⟩⟩
      | ret => exact ⟨_, _, (ends (some .ret) W3 hp.1).2.2, .inr ⟨rfl, leave .ret W3 hp.1 hp.2⟩⟩
      | exit id => exact ⟨_, _, (ends (some (.exit id)) W3 hp.1).2.2, .inr ⟨rfl, leave (.exit id) W3 hp.1 hp.2⟩⟩
      | goto t => exact ⟨_, _, (ends (some (.goto t)) W3 hp.1).2.2, .inr ⟨rfl, leave (.goto t) W3 hp.1 hp.2⟩⟩
      | panic ch => exact hp.elim
      | outgrown => exact hp.elim
    · rintro e W2 ⟨⟨v, rfl⟩, (⟨xs, hS, hi, hl, hk⟩ | ⟨pre, hSp, c, hi, hl, hk⟩)⟩
      · exact ⟨none, _, run_endLoop hl (by simp [R, recOf]), hdone D xs _ (Nat.le_refl _) hS (put _ hI hi hl rfl) (away _ _ hk)⟩
      · exact ⟨some c, _, run_endLoop hl (by simp [R, recOf]), hstop D c pre _ (Nat.le_refl _) hSp (put _ (hIx c) hi hl rfl) (away _ _ hk)⟩
end Go.Proofs.YtmafgdinegboeaaGreat
namespace Go.Proofs.YtmafgdinegboeaaGreat
open Go.RowKit Go.Shelf
attribute [local go_sem] Oper.semAt_some

theorem box_on {w w' : World} {B : Nat} {t : TypeId} {v : Value} (h : Boxed w B t v) (hb : Below w.heap.size w w') : Boxed w' B t v := (hb.block B h.lt).trans h
def apr (ls : List Int) (x : Nat × Nat) : Array Value := #[.int .i64 (x.1 : Nat), .slice (some ⟨x.2, 0, none⟩) ls.length ls.length]
end Go.Proofs.YtmafgdinegboeaaGreat
namespace Go.Proofs.YtmafgdinegboeaaGreat
open Go Go.RowKit

def SeqTold2 {α : Type} (F : Fence) (n : Nat) (P : Program) (g : Nat) (lb : Array Value) (encs : α → Array Value) (Kp : World → World → Prop) (Tx : List α → α → World → Prop) (S Sp : List α → Prop) (N : Nat) (w : World) : Prop :=
  ∀ (l : Nat) (J Jx : List α → World → Prop) (W : World), Below w.heap.size w W → l < W.heap.size → OwnFrom W.heap.size J → OwnFrom W.heap.size Jx →
    (∀ pre x W1, J pre W1 → pre.length < N → Tx pre x W1 → YieldAt F (n - 1) P l (encs x) W1 fun e W' => KeepsFrom W.heap.size W1 W' ∧ ((e = .returned (.bool true) ∧ J (pre ++ [x]) W' ∧ Kp W1 W') ∨ (e = .returned (.bool false) ∧ Jx (pre ++ [x]) W'))) →
    J [] W → CallsIn F n P g (#[.func (.yield l) #[] #[]] ++ lb) W fun e W' => (∃ v, e = .returned v) ∧ ((∃ xs, S xs ∧ J xs W') ∨ (∃ pre, Sp pre ∧ Jx pre W'))

theorem oround_any {m m' : Nat} {P : Program} {l l2 : Nat} {f : FuncId} {tmps : Array Value} {assign body : Code} {w : World} {R : Ending → World → Prop}
    (h : RoundIn Fence.wide m P l f tmps assign body w R) : RoundIn (Fence.wide.inRound l2) m' P l f tmps assign body w R := ⟨h.1, fun c cs _ => h.2 c cs (room_wide _)⟩
variable {F : Fence} {n : Nat} {P : Program}
def recOf2 (fn : FuncId) (tmps : Array Value) (ps : Array Tmp) (assign body : Code) (D : Nat) (st : LoopState) (pe : Option Code) : Loop := { state := st, pending := pe, fn, tmps, params := ps, assign, body, defers := D }

theorem wpIn_rangeFunc_told2 {α : Type} {g : Operand} {ps : Array Tmp} {assign body : Code} {Q : Exit → Act → World → Prop} {a : Act} {w : World}
    (hro : F.round = none) (h1 : 1 ≤ n) {gf : Nat} {lb : Array Value} (hg : a.eval g = .func (.func gf) #[] lb) (hFg : F.fn gf) (eg : ∀ args w, (callFunc gf args).run P w = .ok (.enter gf args) w)
    {encs : α → Array Value} {Kp : World → World → Prop} {Tx : List α → α → World → Prop} {S Sp : List α → Prop} {N : Nat} (hseq : SeqTold2 F (n - 1) P gf lb encs Kp Tx S Sp N w)
    (hKt : ∀ {A B C : World}, Kp A B → Kp B C → Kp A C) (hKb : ∀ (W : World) (l : Nat) (o o' : Obj), w.heap.size ≤ l → W.heap[l]? = some o → o.isCells = false → o.isWalk = false → Kp W (W.putObj l o')) (hps : ∀ x, (encs x).size = ps.size)
    (I : List α → World → Prop) (Ix : Code → List α → World → Prop) (hI : OwnFrom w.heap.size I) (hIx : ∀ c, OwnFrom w.heap.size (Ix c)) (hT : ∀ pre x, OwnFrom w.heap.size (fun (_ : Unit) W => Tx pre x W)) (h0 : I [] w) (a₁ : α → Act)
    (hassign : ∀ (l : Nat) (x : α) (W : World) (K : Act → World → Prop), K (a₁ x) W → assign.wpIn (F.inRound l) (n - 1 - 1) P (Exit.then K (fun _ _ _ => False)) { tmps := (ps.zip (encs x)).foldl (fun t (p, v) => t.setIfInBounds p v) a.tmps, defers := [] } W)
    (hbody : ∀ (l : Nat) (pre : List α) (x : α) (W : World), I pre W → pre.length < N → Tx pre x W → body.wpIn (F.inRound l) (n - 1 - 1) P (ownPostG w.heap.size Kp I Ix (pre ++ [x]) W) (a₁ x) W)
    (hdone : ∀ (D : Nat) (xs : List α) (W : World), w.heap.size ≤ D → S xs → I xs W → W.heap[D]? = some (.deferred (some [])) → Q .normal { a with defers := { target := .collected D, args := #[] } :: a.defers } W)
    (hstop : ∀ (D : Nat) (c : Code) (pre : List α) (W : World), w.heap.size ≤ D → Sp pre → Ix c pre W → W.heap[D]? = some (.deferred (some [])) → c.wpIn F n P Q { a with defers := { target := .collected D, args := #[] } :: a.defers } W) :
    (Code.rangeFunc g ps assign body).wpIn F n P Q a w := by
  refine wpIn_rangeFunc fun fn hfn => ?_
  rw [hro]
  -- the two blocks that the statement lays: the deferred calls' (D) and the record (D + 1)
  let D := w.heap.size
  let R := recOf2 fn a.tmps ps assign body D
  let V := (w.alloc (.deferred (some []))).alloc (.loop (R .ready none))
  have rec0 : V.heap[D + 1]? = some (.loop (R .ready none)) := by
    have e := World.alloc_heap_new (w.alloc (.deferred (some []))) (.loop (R .ready none))
    rw [World.size_alloc] at e; exact e
  have def0 : V.heap[D]? = some (.deferred (some [])) := (Below.heap_alloc _ _ _ (by simp [D])).trans (World.alloc_heap_new w _)
  have size0 : V.heap.size = D + 2 := by simp [V, D]
  -- what the record's turns keep
  have put : ∀ {β : Type} {J : β → World → Prop} {s : β} {W : World} {o : Obj} (o' : Obj), OwnFrom D J → J s W → W.heap[D + 1]? = some o → o.isCells = false → J s (W.putObj (D + 1) o') := fun o' hJ hs hl ho => hJ.putObj o' hs (Nat.le_succ _) hl ho
  have away : ∀ (W : World) (o : Obj), W.heap[D]? = some (.deferred (some [])) → (W.putObj (D + 1) o).heap[D]? = some (.deferred (some [])) := fun W o h => (World.putObj_heap_other (by omega)).trans h
  have there : ∀ (W : World) (o o' : Obj), W.heap[D + 1]? = some o → (W.putObj (D + 1) o').heap[D + 1]? = some o' := fun W o o' h => World.putObj_heap_same (Array.getElem?_eq_some_iff.1 h).1
  have grow : ∀ {β : Type} {J : β → World → Prop}, OwnFrom D J → ∀ (st : Option Code → LoopState) (pe : β → Option Code), OwnFrom V.heap.size (fun s W => J s W ∧ W.heap[D + 1]? = some (.loop (R (st (pe s)) (pe s))) ∧ W.heap[D]? = some (.deferred (some []))) := by
    intro β J hJ st pe s X Y row hs hgr hr
    have hn : ∀ r, row = some r → ∃ o : Obj, X.heap[r]? = some o ∧ o.isCells = false ∧ D ≤ r ∧ r ≠ D ∧ r ≠ D + 1 := by
      intro r e
      obtain ⟨hB, o, ho, hw⟩ := hr r e
      rw [size0] at hB
      exact ⟨o, ho, hw, by omega, by omega, by omega⟩
    refine ⟨hJ s X Y row hs.1 hgr (fun r e => let ⟨o, ho, hc, hd, _⟩ := hn r e; ⟨hd, o, ho, hc⟩), ?_, ?_⟩
    · exact (hgr.block _ (Array.getElem?_eq_some_iff.1 hs.2.1).1 (fun e => (hn _ e.symm).elim fun _ h => h.2.2.2.2 rfl)).trans hs.2.1
    · exact (hgr.block _ (Array.getElem?_eq_some_iff.1 hs.2.2).1 (fun e => (hn _ e.symm).elim fun _ h => h.2.2.2.1 rfl)).trans hs.2.2
  have begun : Below w.heap.size w V := ((Below.refl _ w).alloc (Nat.le_refl _) _).alloc (by simp) _
  refine ⟨D + 1, [{ target := .collected D, args := #[] }], V, { target := .fn (.func gf) lb, args := #[.func (.yield (D + 1)) #[] #[]] }, V, gf, #[.func (.yield (D + 1)) #[] #[]] ++ lb, V, run_enterLoop_outer _ _ _ _ _, ?_, ?_, ?_, fun _ => h1, ?_⟩
  · simp only [resolve, hg]; simp [go_sem]
  · intro f' hf'
    simp [Target.leads] at hf'
    subst hf'
    exact hFg
  · simp [invoke, go_sem, eg]
  · have keepF : ∀ (W W3 : World) (o o' : Obj), KeepsFrom w.heap.size (W.putObj (D + 1) o) W3 → KeepsFrom V.heap.size W (W3.putObj (D + 1) o') := fun W W3 o o' h => by
      rw [size0]
      refine ⟨by have := h.size; simpa using this, fun k x hk h0 hx => ?_⟩
      have h1 := h.same k x (show D ≤ k by omega) ((World.putObj_heap_other (by omega)).trans h0) hx
      exact (World.putObj_heap_other (by omega)).trans h1
    refine (hseq (D + 1) (fun pre W => I pre W ∧ W.heap[D + 1]? = some (.loop (R .ready none)) ∧ W.heap[D]? = some (.deferred (some [])))
      (fun pre W => ∃ c, Ix c pre W ∧ W.heap[D + 1]? = some (.loop (R .done (some c))) ∧ W.heap[D]? = some (.deferred (some []))) V begun (by rw [size0]; omega)
      (grow (β := List α) hI (fun _ => .ready) (fun _ => none)) ?_ ?_ ⟨hI.alloc _ (hI.alloc _ h0), rec0, def0⟩).mono ?_
    · rintro s X Y row ⟨c, hs⟩ hgr hr
      exact ⟨c, grow (β := List α) (J := Ix c) (hIx c) (fun _ => .done) (fun _ => some c) s X Y row hs hgr hr⟩
    · rintro pre x W ⟨hi, hl, hk⟩ hlen htx
      refine ⟨fn, _, assign, body, run_yield hl (hps x), roundIn_of_wpIn hfn (hassign _ x W _ ⟨_, run_beginRound hl rfl, ?_⟩)⟩
      have hb := hbody (D + 1) pre x (W.putObj (D + 1) (.loop { R .ready none with state := .busy })) (put _ hI hi hl rfl) hlen (put (β := Unit) (s := ()) _ (hT pre x) htx hl rfl)
      have hl2 := there W _ (.loop { R .ready none with state := .busy }) hl
      have hk2 := away W (.loop { R .ready none with state := .busy }) hk
      have hkp := hKb W (D + 1) _ (.loop { R .ready none with state := .busy }) (Nat.le_succ _) hl rfl rfl
      -- a round's end: the record is turned, its neighbour is not
      have ends : ∀ (jump : Option Code) (W3 : World), KeepsFrom w.heap.size (W.putObj (D + 1) (.loop { R .ready none with state := .busy })) W3 →
          W3.heap[D + 1]? = some (.loop { R .ready none with state := .busy }) ∧ W3.heap[D]? = some (.deferred (some [])) ∧
          (Instr.endRound (D + 1) jump).run P W3 = .ok (.bool jump.isNone) (W3.putObj (D + 1) (.loop (R (if jump.isNone then .ready else .done) jump))) := fun jump W3 h =>
        have hl3 := h.same _ _ (Nat.le_succ _) hl2 rfl
        ⟨hl3, h.same _ _ (Nat.le_refl _) hk2 rfl, run_endRound jump hl3⟩
      have leave : ∀ (c : Code) (W3 : World), KeepsFrom w.heap.size (W.putObj (D + 1) (.loop { R .ready none with state := .busy })) W3 → Ix c (pre ++ [x]) W3 →
          ∃ c', Ix c' (pre ++ [x]) (W3.putObj (D + 1) (.loop (R .done (some c)))) ∧ (W3.putObj (D + 1) (.loop (R .done (some c)))).heap[D + 1]? = some (.loop (R .done (some c'))) ∧ (W3.putObj (D + 1) (.loop (R .done (some c)))).heap[D]? = some (.deferred (some [])) := fun c W3 hk3 hi3 =>
        have ⟨hl3, hd3, _⟩ := ends (some c) W3 hk3
        ⟨c, put _ (hIx c) hi3 hl3 rfl, there _ _ _ hl3, away _ _ hd3⟩
      refine wpIn_mono hb fun e a3 W3 hp => ?_
      cases e with
      | normal =>
        obtain ⟨hk3, hkp3, hi3⟩ := hp
        obtain ⟨hl3, hd3, hr⟩ := ends none W3 hk3
        exact ⟨_, _, hr, keepF _ _ _ _ hk3, .inl ⟨rfl, ⟨put _ hI hi3 hl3 rfl, there _ _ _ hl3, away _ _ hd3⟩, hKt (hKt hkp hkp3) (hKb _ _ _ _ (Nat.le_succ _) hl3 rfl rfl)⟩⟩
      | ret => exact ⟨_, _, (ends (some .ret) W3 hp.1).2.2, keepF _ _ _ _ hp.1, .inr ⟨rfl, leave .ret W3 hp.1 hp.2⟩⟩
      | exit id => exact ⟨_, _, (ends (some (.exit id)) W3 hp.1).2.2, keepF _ _ _ _ hp.1, .inr ⟨rfl, leave (.exit id) W3 hp.1 hp.2⟩⟩
      | goto t => exact ⟨_, _, (ends (some (.goto t)) W3 hp.1).2.2, keepF _ _ _ _ hp.1, .inr ⟨rfl, leave (.goto t) W3 hp.1 hp.2⟩⟩
      | panic ch => exact hp.elim
      | outgrown => exact hp.elim
    · rintro e W2 ⟨⟨v, rfl⟩, (⟨xs, hS, hi, hl, hk⟩ | ⟨pre, hSp, c, hi, hl, hk⟩)⟩
      · exact ⟨none, _, run_endLoop hl (by simp [R, recOf2]), hdone D xs _ (Nat.le_refl _) hS (put _ hI hi hl rfl) (away _ _ hk)⟩
      · exact ⟨some c, _, run_endLoop hl (by simp [R, recOf2]), hstop D c pre _ (Nat.le_refl _) hSp (put _ (hIx c) hi hl rfl) (away _ _ hk)⟩
end Go.Proofs.YtmafgdinegboeaaGreat
namespace Go.Proofs.YtmafgdinegboeaaGreat
open Go.RowKit Go.Shelf
attribute [local go_sem] Oper.semAt_some

def AllBox2 (w : World) (base B1 B2 : Nat) (N : Int) (o : Option Addr) (c : Nat) (ls : List Int) : Prop := Boxed w B1 3 (.int .i64 N) ∧ Boxed w B2 23 (.slice o ls.length c) ∧ w.ownsRow base 3 1 (.slice o ls.length c) ls.length (ints ls)
def SomeAll2 (w : World) (N : Int) (ls : List Int) (e : Ending) (w' : World) : Prop := ∃ B1 B2 o c, e = .returned (.func (.func 148) #[] #[.pointer (some ⟨B1, 0, none⟩), .pointer (some ⟨B2, 0, none⟩)]) ∧ AllBox2 w' w.heap.size B1 B2 N o c ls ∧ w.heap.size ≤ B1 ∧ w.heap.size ≤ B2 ∧ Below w.heap.size w w'

set_option maxRecDepth 100000 in
set_option maxHeartbeats 4000000 in
theorem all2_any (v : Value) (ls : List Int) (w : World) (h : Ld w v ls) (ll : ls.length ≤ 65536) :
    Calls Tryz.prog 73 #[v] w (SomeAll2 w (if may ls then prod ls else 0) ls) := by
  have CL := Lib.hid (fun (W : World) (hb : Below w.heap.size w W) => cloned_any v ls W (h.below hb) (by omega))
  have CN : Hid (∃ y : Int, Calls Tryz.prog 147 #[v] w fun e w' => e = .returned (.tuple #[.int .i64 (if may ls then prod ls else 0), .int .i64 y]) ∧ w = w') := by
    cases hm : may ls with
    | true => exact ⟨0, count_ok _ ls w h hm⟩
    | false => exact ⟨1, count_no _ ls w h hm⟩
  obtain ⟨y, CN⟩ := CN.out
  have CN := Lib.hid CN
  generalize (if may ls then prod ls else 0) = N at *
  obtain ⟨o, c, rfl, _, _⟩ := h
  go_enter Tryz.func73, Tryz.ntmps73
  go_wp2_with (first | (go_at_call 147; (with_reducible refine CN.out.mono ?_); rintro e w' ⟨rfl, rfl⟩) | (go_at_call 145; (with_reducible refine Go.Calls.mono (CL.out _ ?_) ?_); (· exact (Below.refl _ _).alloc (Nat.le_refl _) _); rintro e w2 ⟨o2, c2, rfl, ho2, hl2, hb2⟩; replace ho2 := Lib.hid ho2; clear hl2))
  refine bodyPost_ret (results_tmp rfl _ _ _) rfl ?_
  have b1 := (box_on (Boxed.new w 3 (.int .i64 N)) hb2).alloc (.cells #[.slice o2 ls.length c2] 23)
  have hs := hb2.size
  rw [World.size_alloc] at hs
  exact ⟨w.heap.size, w2.heap.size, o2, c2, rfl, ⟨b1, Boxed.new _ _ _, (own_base ho2.out (by simp)).alloc _⟩, Nat.le_refl _, by omega, (((Below.refl _ _).alloc (Nat.le_refl _) _).trans (hb2.mono (by simp))).alloc (by omega) _⟩

def Tol3 (ls : List Int) (pre : List (Nat × Nat)) (x : Nat × Nat) (W : World) : Prop := x.1 = pre.length ∧ Blk W x.2 3 (ints (atl ls (x.1 : Nat))).toArray
def Kp3 (B1 B2 : Nat) (o : Option Addr) (W W' : World) : Prop := W'.heap[B1]? = W.heap[B1]? ∧ W'.heap[B2]? = W.heap[B2]? ∧ ∀ g, o = some ⟨g, 0, none⟩ → W'.heap[g]? = W.heap[g]?
theorem Kp3.trans {B1 B2 : Nat} {o : Option Addr} {a b c : World} (h : Kp3 B1 B2 o a b) (k : Kp3 B1 B2 o b c) : Kp3 B1 B2 o a c := ⟨k.1.trans h.1, k.2.1.trans h.2.1, fun g e => (k.2.2 g e).trans (h.2.2 g e)⟩
theorem Kp3.own {B1 B2 : Nat} {o : Option Addr} {c base : Nat} {ls : List Int} {W W' : World} (h : Kp3 B1 B2 o W W') (ho : W.ownsRow base 3 1 (.slice o ls.length c) ls.length (ints ls)) : W'.ownsRow base 3 1 (.slice o ls.length c) ls.length (ints ls) := by
  refine ⟨ho.1, ?_⟩
  rcases ho.2 with a | ⟨g, cap, cur, e1, e2, e3, rest⟩
  · exact .inl a
  · have e4 := e1
    simp only [Value.slice.injEq] at e4
    exact .inr ⟨g, cap, cur, e1, e2, (h.2.2 g e4.1).trans e3, rest⟩
theorem Kp3.below {B1 B2 : Nat} {o : Option Addr} {c base : Nat} {ls : List Int} {W W' : World} (hb : Below W.heap.size W W') (h1 : B1 < W.heap.size) (h2 : B2 < W.heap.size) (ho : W.ownsRow base 3 1 (.slice o ls.length c) ls.length (ints ls)) : Kp3 B1 B2 o W W' := by
  refine ⟨hb.block _ h1, hb.block _ h2, fun g e => hb.block g ?_⟩
  subst e
  exact (ho.lt g rfl).2
set_option maxRecDepth 100000 in
set_option maxHeartbeats 4000000 in
theorem all3_in (F : Fence) (n : Nat) (hfn : F.fn 148) (_hfi : F.fn 149) (hro : F.round = none) (hn : 2 ≤ n) (hix : ∀ v ls m w, Ld w v ls → may ls = true → 0 ≤ m → m < prod ls → CallsIn F (n - 1) Tryz.prog 149 #[v, .int .i64 m] w fun e w' => e = .returned (.slice (some ⟨w.heap.size + 1, 0, none⟩) ls.length ls.length) ∧ Blk w' (w.heap.size + 1) 3 (ints (atl ls m)).toArray ∧ Below w.heap.size w w')
    (l base B1 B2 N : Nat) (o : Option Addr) (c : Nat) (ls : List Int) (hN : N ≤ 65536) (hm : 0 < N → may ls = true ∧ prod ls = N) (J Jx : List (Nat × Nat) → World → Prop) (W : World) (hJ : AbidesFrom W.heap.size J)
    (hY : ∀ pre x W, J pre W → pre.length < N → Tol3 ls pre x W → YieldAt F (n - 1) Tryz.prog l (apr ls x) W fun e W' =>
      (e = .returned (.bool true) ∧ J (pre ++ [x]) W' ∧ Kp3 B1 B2 o W W') ∨ (e = .returned (.bool false) ∧ Jx (pre ++ [x]) W'))
    (hbox : AllBox2 W base B1 B2 N o c ls) (hj : J [] W) :
    CallsIn F n Tryz.prog 148 #[.func (.yield l) #[] #[], .pointer (some ⟨B1, 0, none⟩), .pointer (some ⟨B2, 0, none⟩)] W fun e W' => (∃ v, e = .returned v) ∧
      ((∃ ys : List (Nat × Nat), ys.length = N ∧ J ys W') ∨ (∃ pre : List (Nat × Nat), pre.length ≤ N ∧ Jx pre W')) := by
  have hn1 : 1 ≤ n := by omega
  have HB := Lib.hid hbox
  have h0 := hbox.1.cell
  clear hbox
  refine callsIn_of_wp Tryz.func148 rfl hfn ?_ hro
  simp only [Tryz.ntmps148, List.size_toArray, List.length_cons, List.length_nil, Nat.reduceAdd, Nat.reduceSub, Array.replicate_succ, Array.replicate_zero, List.push_toArray, List.append_toArray, List.nil_append, List.cons_append]
  gi_wp2
  gi_loopw [6] (fun s6 wr => ∃ pre : List (Nat × Nat), pre.length ≤ N ∧ s6 = .int .i64 (pre.length : Nat) ∧ J pre wr ∧ Hid (AllBox2 wr base B1 B2 N o c ls)) (fun s6 _ => N - (intOf s6).toNat)
  case atStart => exact ⟨[], Nat.zero_le _, rfl, hj, HB⟩
  case round =>
    obtain ⟨pre, hpl, rfl, hJs, hK⟩ := hrel
    have c1 : wr.cell? ⟨B2, 0, none⟩ = some (.slice o ls.length c) := hK.out.2.1.cell
    by_cases hlt : pre.length < N
    · obtain ⟨hm1, hm2⟩ := hm (by omega)
      have hld : Ld wr (.slice o ls.length c) ls := by
        obtain ⟨_, _, e, h1⟩ := Ld.of_owns hK.out.2.2
        rw [e]; exact h1
      have HI := Lib.hid (hix (.slice o ls.length c) ls (pre.length : Nat) wr hld hm1 (by omega) (by omega))
      have HY : Hid (∀ w2, Blk w2 (wr.heap.size + 1) 3 (ints (atl ls (pre.length : Nat))).toArray → Below wr.heap.size wr w2 → YieldAt F (n - 1) Tryz.prog l #[.int .i64 (pre.length : Nat), .slice (some ⟨wr.heap.size + 1, 0, none⟩) ls.length ls.length] w2 fun e W' =>
          (e = .returned (.bool true) ∧ J (pre ++ [(pre.length, wr.heap.size + 1)]) W' ∧ AllBox2 W' base B1 B2 N o c ls) ∨ (e = .returned (.bool false) ∧ Jx (pre ++ [(pre.length, wr.heap.size + 1)]) W')) := by
        intro w2 hb hB
        have hJ2 := hJ pre wr w2 none hJs ⟨hB.os, hB.tape, hB.output, hB.size, fun k hk _ => hB.block k hk⟩ (fun r e => by cases e)
        obtain ⟨fn, tmps, assign, body, hy, hR⟩ := hY pre (pre.length, wr.heap.size + 1) w2 hJ2 hlt ⟨rfl, hb⟩
        refine ⟨fn, tmps, assign, body, hy, hR.mono ?_⟩
        rintro e W' (⟨rfl, h2, h3⟩ | h2)
        · have k1 := (Kp3.below hB hK.out.1.lt hK.out.2.1.lt hK.out.2.2).trans h3
          exact .inl ⟨rfl, h2, k1.1.trans hK.out.1, k1.2.1.trans hK.out.2.1, k1.own hK.out.2.2⟩
        · exact .inr h2
      generalize hq : pre.length = q at *
      have HQ := Lib.hid hq
      clear hq hm hm1 hm2 hld
      gi_wp2
      refine HI.out.mono ?_
      rintro e w2 ⟨rfl, hb2, hB2⟩
      obtain ⟨fn, tmps, assign, body, hy, hR⟩ := HY.out w2 hb2 hB2
      gi_wp2
      refine hR.mono ?_
      rintro e W3 (⟨rfl, hJ3, hk3⟩ | ⟨rfl, hJx3⟩)
      · gi_wp2
        go_roundw
        case rel => exact ⟨pre ++ [(q, wr.heap.size + 1)], by simp [HQ.out]; omega, by simp [HQ.out], hJ3, hk3⟩
        case measure => simp [intOf]; omega
      · gi_wp2
        refine bodyPost_ret (results_none rfl _ _ _) rfl ?_
        exact ⟨⟨_, rfl⟩, .inr ⟨pre ++ [(q, wr.heap.size + 1)], by simp [HQ.out]; omega, hJx3⟩⟩
    · gi_wp2
      go_end0
      exact ⟨⟨_, rfl⟩, .inl ⟨pre, by omega, hJs⟩⟩
theorem all3_told (n base B1 B2 N : Nat) (hn : 2 ≤ n) (o : Option Addr) (c : Nat) (ls : List Int) (hN : N ≤ 65536) (hm : 0 < N → may ls = true ∧ prod ls = N) (w : World) (hbox : AllBox2 w base B1 B2 N o c ls) :
    SeqTold Fence.wide n Tryz.prog 148 #[.pointer (some ⟨B1, 0, none⟩), .pointer (some ⟨B2, 0, none⟩)] (apr ls) (Kp3 B1 B2 o) (Tol3 ls) (fun ys => ys.length = N) (fun pre => pre.length ≤ N) N w := fun l J Jx W hW hJ _ hY h0 =>
  all3_in Fence.wide n trivial trivial rfl hn (fun v ls m w h1 h2 h3 h4 => callsIn_wide.2 (index_any v ls m w h1 h2 h3 h4)) l base B1 B2 N o c ls hN hm J Jx W hJ hY
    ⟨box_on hbox.1 hW, box_on hbox.2.1 hW, Below.keepOwn hbox.2.2 hW (Nat.le_refl _)⟩ h0
end Go.Proofs.YtmafgdinegboeaaGreat
