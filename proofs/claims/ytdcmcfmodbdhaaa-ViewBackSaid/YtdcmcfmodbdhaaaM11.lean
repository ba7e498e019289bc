/-
  Words laid where indexes stand; which places are taken; plain mathematics.
  slices.Clone of words.
  view.Lay's helpers.
-/
import Derived.Test.YtdcmcfmodbdhaaaM01
import Derived.Test.YtdcmcfmodbdhaaaM08
import Derived.Test.YtdcmcfmodbdhaaaM09
namespace Go.Proofs.Ytdcmcfmodbdhaaa

/-- Where the n-th index stands. -/
def plat (sh st : List Int) (off : Int) (n : Nat) : Int := off + dot st (atl sh (n : Int))
/-- Does an index before stand there, too? -/
def hit (sh st : List Int) (off : Int) (k : Nat) : Bool := (List.range k).any fun i => decide (plat sh st off i = plat sh st off k)
/-- Do two indexes stand at one place? -/
def dup (sh st : List Int) (off : Int) (N : Nat) : Bool := (List.range N).any fun k => hit sh st off k
theorem dup_yes {sh st : List Int} {off : Int} {N k : Nat} (hk : k < N) (h : hit sh st off k = true) : dup sh st off N = true := List.any_eq_true.2 ⟨k, List.mem_range.2 hk, h⟩
theorem dup_no {sh st : List Int} {off : Int} {N : Nat} (h : ∀ k, k < N → hit sh st off k = false) : dup sh st off N = false := by
  cases e : dup sh st off N with
  | false => rfl
  | true =>
    obtain ⟨k, hk, h2⟩ := List.any_eq_true.1 e
    rw [h k (List.mem_range.1 hk)] at h2
    cases h2
/-- The words, k of them laid. -/
def lys (sh st : List Int) (off : Int) (ls tds : List Int) : Nat → List Int
  | 0 => ls
  | k + 1 => (lys sh st off ls tds k).set (plat sh st off k).toNat (tds.getD k 0)
theorem lys_len (sh st : List Int) (off : Int) (ls tds : List Int) : ∀ k, (lys sh st off ls tds k).length = ls.length
  | 0 => rfl
  | k + 1 => by unfold lys; rw [List.length_set, lys_len sh st off ls tds k]
theorem lys_step {sh st : List Int} {off : Int} {ls tds : List Int} {k P : Nat} (h : plat sh st off k = (P : Int)) : lys sh st off ls tds (k + 1) = (lys sh st off ls tds k).set P (tds.getD k 0) := by
  show List.set _ _ _ = _
  rw [h, Int.toNat_natCast]
/-- Which places are taken, by k indexes. -/
def tks (sh st : List Int) (off : Int) (m : Nat) : Nat → List Bool
  | 0 => List.replicate m false
  | k + 1 => (tks sh st off m k).set (plat sh st off k).toNat true
theorem tks_len (sh st : List Int) (off : Int) (m : Nat) : ∀ k, (tks sh st off m k).length = m
  | 0 => by simp [tks]
  | k + 1 => by unfold tks; rw [List.length_set, tks_len sh st off m k]
theorem tks_step {sh st : List Int} {off : Int} {m k P : Nat} (h : plat sh st off k = (P : Int)) : tks sh st off m (k + 1) = (tks sh st off m k).set P true := by
  show List.set _ _ _ = _
  rw [h, Int.toNat_natCast]
theorem tks_at {sh st : List Int} {off : Int} {m Q : Nat} (hQ : Q < m) : ∀ k, (∀ i, i < k → 0 ≤ plat sh st off i) → (tks sh st off m k).getD Q false = (List.range k).any fun i => decide (plat sh st off i = (Q : Int))
  | 0, _ => by simp [tks, List.getD, hQ]
  | k + 1, h => by
    have ih := tks_at (sh := sh) (st := st) (off := off) hQ k (fun i hi => h i (by omega))
    have h0 := h k (by omega)
    obtain ⟨P, hP⟩ := Int.eq_ofNat_of_zero_le h0
    rw [tks_step hP, List.range_succ, List.any_append, ← ih]
    simp only [List.any_cons, List.any_nil, Bool.or_false, hP]
    rw [List.getD_eq_getElem?_getD, List.getD_eq_getElem?_getD, List.getElem?_set]
    by_cases e : P = Q
    · subst e
      rw [if_pos rfl, if_pos (by rw [tks_len]; exact hQ)]
      simp
    · rw [if_neg e]
      have : ¬ (P : Int) = (Q : Int) := by omega
      simp [this]
theorem tks_hit {sh st : List Int} {off : Int} {m k P : Nat} (hk : ∀ i, i < k → 0 ≤ plat sh st off i) (h : plat sh st off k = (P : Int)) (hP : P < m) : (tks sh st off m k).getD P false = hit sh st off k := by
  rw [tks_at hP k hk]
  unfold hit
  rw [h]
/-- What is laid where it lay changes nothing. -/
theorem lys_same {sh st : List Int} {off : Int} {ls tds : List Int} {N : Nat} (h : ∀ k, k < N → ∃ P : Nat, plat sh st off k = (P : Int) ∧ tds.getD k 0 = ls.getD P 0) : ∀ k, k ≤ N → lys sh st off ls tds k = ls
  | 0, _ => rfl
  | k + 1, hk => by
    obtain ⟨P, hP, hv⟩ := h k (by omega)
    rw [lys_step hP, lys_same h k (by omega), hv]
    apply List.ext_getElem
    · simp
    · intro j h1 h2
      rw [List.getElem_set]
      split
      · rename_i e
        subst e
        simp [List.getD, List.getElem?_eq_getElem h2]
      · rfl
end Go.Proofs.Ytdcmcfmodbdhaaa
namespace Go.Proofs.Ytdcmcfmodbdhaaa
open Go.RowKit

/-- Words in new memory. -/
def SomeWd (w : World) (ls : List Int) (e : Ending) (w' : World) : Prop := ∃ o c, e = .returned (.slice o ls.length c) ∧ w'.ownsRow w.heap.size 2 1 (.slice o ls.length c) ls.length (ints ls) ∧ Ld w' (.slice o ls.length c) ls ∧ Below w.heap.size w w'
set_option maxRecDepth 100000 in
set_option maxHeartbeats 4000000 in
theorem clonew_any (v : Value) (ls : List Int) (w : World) (h : Ld w v ls) (ll : ls.length ≤ 17592186044000) :
    Calls Try.prog 64 #[v] w (SomeWd w ls) := by
  obtain ⟨i0, hi0, hz0, hz1, hz2⟩ := info_parts infoW
  obtain ⟨o, c, rfl, hc, hx⟩ := h
  cases o with
  | none =>
    have h1 : ls = [] := by
      cases ls with
      | nil => rfl
      | cons a r => obtain ⟨b, f, e, _⟩ := hx 0 (by simp); cases e
    subst h1
    simp only [List.length_nil] at *
    clear hx
    have en : (binOp .eql 26 (.slice none 0 c) (.slice none 0 0)).run Try.prog w = .ok (.bool true) w := Lib.run_eql_slice_nil w 26 2 none 0 c 0 0 Try.underlying26
    go_enter Try.func64, Try.ntmps64
    go_wp2
    go_ret
    exact ⟨none, 0, rfl, World.ownsRow_nil _ _ _ _, Ld.nil _, Below.refl _ _⟩
  | some ad =>
    have en : (binOp .eql 26 (.slice (some ad) ls.length c) (.slice none 0 0)).run Try.prog w = .ok (.bool false) w := Lib.run_eql_slice_nil w 26 2 (some ad) ls.length c 0 0 Try.underlying26
    go_enter Try.func64, Try.ntmps64
    have H := Lib.hid hx
    have HB := Lib.hid (blk_nil (base := w.heap.size) (Blk.new w 2 #[]) (Nat.le_refl _))
    clear hx
    go_wp2_with (at_builtin; refine wpList_append_own _ rfl _ _ 26 rfl w.heap.size 2 i0 (.int .i64 0) 1 8 Try.underlying26 hi0 hz0 hz1 hz2 rfl (by decide) _ 0 [] rfl HB.out ad ls.length c (ints ls) rfl ?c0 ?c1 ?c2 ?c3 ?c4 ?c5 ?_)
    case c0 => simp [ints]
    case c1 =>
      intro j u hu
      have hj : j < ls.length := by
        have := (List.getElem?_eq_some_iff.1 hu).1
        simpa [ints] using this
      obtain ⟨b, f, e, hb, hcell⟩ := H.out j hj
      cases e
      have : u = .int .i64 (ls.getD j 0) := by
        have h2 := ints_at hj
        rw [List.getElem?_toArray] at h2
        rw [h2] at hu; exact (Option.some.inj hu).symm
      rw [this, Go.WideShapes.add_plain, World.cell?_alloc_lt w _ _ hb]
      exact hcell
    case c2 => simp [ints, Value.oneCell']
    case c3 => unfold maxLen; omega
    case c4 => omega
    case c5 => simp
    intro v' w9 hown1 hgrow _
    have hown1 : w9.ownsRow w.heap.size 2 1 v' ls.length (ints ls) := by simpa using hown1
    have hB9 : Below w.heap.size w w9 := ((Below.refl _ _).alloc (Nat.le_refl _) _).grown hgrow (by simp) (fun k e => by simp [Value.ownBlock] at e; omega)
    obtain ⟨o2, c2, rfl, hld⟩ := Ld.of_owns hown1
    have H1 := Lib.hid (And.intro hown1 (And.intro hld hB9))
    clear hown1 hld hgrow hB9 H HB
    go_wp2
    go_ret
    exact ⟨o2, c2, rfl, H1.out.1, H1.out.2.1, H1.out.2.2⟩
end Go.Proofs.Ytdcmcfmodbdhaaa
namespace Go.Proofs.Ytdcmcfmodbdhaaa
open Go.RowKit Go.Shelf
attribute [local go_sem] Oper.semAt_some

/-- Words in new memory (or none), and an error. -/
def SomeLd (w : World) (er : Int) (l : List Int) (e : Ending) (w' : World) : Prop := ∃ o c, e = .returned (.tuple #[.slice o l.length c, .int .i64 er]) ∧ w'.ownsRow w.heap.size 2 1 (.slice o l.length c) l.length (ints l) ∧ Below w.heap.size w w'
theorem infoB : (Try.prog.info? 4).map (fun i => (i.zero, i.size, i.bytes)) = some (some (.bool false), 1, 1) := by kernel_rfl
/-- The cells of a list of Bools. -/
def bools (l : List Bool) : List Value := l.map (Value.bool ·)

theorem cutP {p q : Prop} (h : p) (k : p → q) : q := k h
theorem blk_at {W : World} {n : Nat} {t : TypeId} {cs : Array Value} (h : W.heap.size = n) : Blk (W.alloc (.cells cs t)) n t cs := by subst h; exact Blk.new W t cs
theorem blk_set1 {W : World} {b : Nat} {t : TypeId} {v : Value} (h : Blk W b t #[.slice none 0 0]) : Blk (W.setCell ⟨b, 0, none⟩ v) b t #[v] := h.set_ 0 v
theorem blk_far {W : World} {g b i : Nat} {t : TypeId} {cs : Array Value} {u : Value} (hp : ¬ g = b) (h : Blk W g t cs) : Blk (W.setCell ⟨b, i, none⟩ u) g t cs := h.far hp u
theorem own_setL {W : World} {base b n : Nat} {v z : Value} {xs : List Value} (hb : Blk W b 26 #[.slice none 0 0]) (h : W.ownsRow base 2 1 v n xs) : (W.setCell ⟨b, 0, none⟩ z).ownsRow base 2 1 v n xs :=
  h.kept (grown_set W ⟨b, 0, none⟩ z) (.inr (tens_not_row h hb (by decide)))
theorem own_setB {W : World} {base b n : Nat} {v z : Value} {xs : List Value} (hb : Blk W b 83 #[.slice none 0 0]) (h : W.ownsRow base 2 1 v n xs) : (W.setCell ⟨b, 0, none⟩ z).ownsRow base 2 1 v n xs :=
  h.kept (grown_set W ⟨b, 0, none⟩ z) (.inr (tens_not_row h hb (by decide)))
theorem made_bools (n : Nat) : madeCells #[.bool false] n = (bools (List.replicate n false)).toArray := by
  apply Array.ext
  · simp [madeCells, bools]
  · intro i h1 h2
    simp [madeCells, bools, Nat.mod_one]
/-- What k rounds of Lay's loop leave. -/
def LyI (b8 b9 gL gT L cL : Nat) (w6 : World) (sh st : List Int) (off : Int) (ls tds : List Int) (k : Nat) (W : World) : Prop :=
  Blk W b8 26 #[.slice (some ⟨gL, 0, none⟩) L cL] ∧ Blk W b9 83 #[.slice (some ⟨gT, 0, none⟩) L L] ∧ W.ownsRow w6.heap.size 2 1 (.slice (some ⟨gL, 0, none⟩) L cL) L (ints (lys sh st off ls tds k)) ∧ Blk W gT 4 (bools (tks sh st off L k)).toArray ∧ Below w6.heap.size w6 W ∧ ∀ i, i < k → hit sh st off i = false
theorem lyi_own (b8 b9 gL gT L cL : Nat) (w6 : World) (sh st : List Int) (off : Int) (ls tds : List Int) (B : Nat) (hB : w6.heap.size ≤ B) : OwnFrom B (fun (pre : List Nat) W => LyI b8 b9 gL gT L cL w6 sh st off ls tds pre.length W) := by
  rintro s X Y row ⟨h1, h2, h3, h4, h5, h6⟩ hg hr
  have hc : ∀ r, row = some r → ∃ o : Obj, X.heap[r]? = some o ∧ o.isCells = false := fun r e => (hr r e).2
  exact ⟨blk_own (β := Unit) b8 _ (fun _ => _) () X Y row h1 hg hc, blk_own (β := Unit) b9 _ (fun _ => _) () X Y row h2 hg hc, own_kept h3 hg hc, blk_own (β := Unit) gT _ (fun _ => _) () X Y row h4 hg hc, h5.grown hg h5.size (fun k e => by have := (hr k e).1; omega), h6⟩
theorem bools_at {l : List Bool} {i : Nat} (h : i < l.length) : (bools l).toArray[i]? = some (.bool (l.getD i false)) := by
  simp [bools, List.getD, List.getElem?_eq_getElem h]
theorem bools_set (l : List Bool) (k : Nat) (v : Bool) : (bools l).toArray.setIfInBounds k (.bool v) = (bools (l.set k v)).toArray := by
  apply Array.ext
  · simp [bools]
  · intro i h1 h2
    by_cases e : k = i
    · subst e; simp [bools]
    · simp only [List.setIfInBounds_toArray, List.getElem_toArray, List.getElem_set, bools, List.getElem_map]
      simp [e]
theorem own_blk_ne {W : World} {base g c n b : Nat} {xs : List Value} {t u : TypeId} {cs : Array Value} (h : W.ownsRow base t 1 (.slice (some ⟨g, 0, none⟩) n c) n xs) (hb : Blk W b u cs) (hne : t ≠ u) : ¬ g = b := fun e => by
  subst e
  exact tens_not_row h hb hne rfl
theorem own_type {W : World} {base g c n : Nat} {xs : List Value} {t : TypeId} (h : W.ownsRow base t 1 (.slice (some ⟨g, 0, none⟩) n c) n xs) : ∃ cur, W.heap[g]? = some (.cells cur t (0, 0)) := by
  rcases h.2 with ⟨h', _⟩ | ⟨g', cap, cur, e, _, hh, _⟩
  · simp at h'
  · simp only [Value.slice.injEq, Option.some.injEq, Addr.mk.injEq, and_true, true_and] at e
    obtain ⟨rfl, rfl⟩ := e
    exact ⟨cur, hh⟩
/-- A word is laid, and its place taken. -/
theorem ly_step {b8 b9 gL gT L cL : Nat} {w6 : World} {sh st : List Int} {off : Int} {ls tds : List Int} {k P B : Nat} {X : World} {y : Int} (h : LyI b8 b9 gL gT L cL w6 sh st off ls tds k X) (hP : plat sh st off k = (P : Int)) (hPl : P < L) (hL : ls.length = L) (hy : tds.getD k 0 = y) (hno : hit sh st off k = false) (hg : w6.heap.size ≤ gT) :
    KeepsFrom B X ((X.setCell ⟨gL, P, none⟩ (.int .i64 y)).setCell ⟨gT, P, none⟩ (.bool true)) ∧ KV (fun j => j < B ∧ j ≠ gL ∧ j ≠ gT) X ((X.setCell ⟨gL, P, none⟩ (.int .i64 y)).setCell ⟨gT, P, none⟩ (.bool true)) ∧ LyI b8 b9 gL gT L cL w6 sh st off ls tds (k + 1) ((X.setCell ⟨gL, P, none⟩ (.int .i64 y)).setCell ⟨gT, P, none⟩ (.bool true)) := by
  obtain ⟨h1, h2, h3, h4, h5, h6⟩ := h
  have n8 := own_blk_ne h3 h1 (by decide)
  have n9 := own_blk_ne h3 h2 (by decide)
  have nT := own_blk_ne h3 h4 (by decide)
  obtain ⟨cur, hcur⟩ := own_type h3
  have tb : ∀ {b : Nat} {u : TypeId} {cs : Array Value}, Blk X b u cs → 4 ≠ u → ¬ gT = b := fun {b u cs} hb hne e => by
    subst e
    have := h4.symm.trans hb
    simp only [Option.some.injEq, Obj.cells.injEq] at this
    exact hne this.2.1
  have m8 := tb h1 (by decide)
  have m9 := tb h2 (by decide)
  have same : ∀ j, ¬ j = gL → ¬ j = gT → ((X.setCell ⟨gL, P, none⟩ (.int .i64 y)).setCell ⟨gT, P, none⟩ (.bool true)).heap[j]? = X.heap[j]? := fun j a b => (Below.heap_setCell _ _ _ j b).trans (Below.heap_setCell _ _ _ j a)
  refine ⟨⟨by simp, fun j o _ ho hc => same j (fun e => ?_) (fun e => ?_) |>.trans ho⟩, ⟨fun j hj => same j hj.2.1 hj.2.2, fun j cs t fz ho ht => same j (fun e => ?_) (fun e => ?_)⟩, ?_, ?_, ?_, ?_, ?_, ?_⟩
  · subst e; rw [hcur] at ho; cases ho; cases hc
  · subst e; rw [show X.heap[j]? = _ from h4] at ho; cases ho; cases hc
  · subst e
    have h' := hcur.symm.trans ho
    simp only [Option.some.injEq, Obj.cells.injEq] at h'
    rcases ht with rfl | rfl | rfl <;> simp at h'
  · subst e
    have h' := (show X.heap[j]? = _ from h4).symm.trans ho
    simp only [Option.some.injEq, Obj.cells.injEq] at h'
    rcases ht with rfl | rfl | rfl <;> simp at h'
  · exact (same b8 (Ne.symm n8) (Ne.symm m8)).trans h1
  · exact (same b9 (Ne.symm n9) (Ne.symm m9)).trans h2
  · rw [lys_step hP, hy]
    have hl := lys_len sh st off ls tds k
    have e1 : ((X.setCell ⟨gL, P, none⟩ (.int .i64 y)).ownsRow w6.heap.size 2 1 (.slice (some ⟨gL, 0, none⟩) L cL) L (ints ((lys sh st off ls tds k).set P y))) := by
      have hq : X.ownsRow w6.heap.size 2 1 (.slice (some ⟨gL, 0, none⟩) (lys sh st off ls tds k).length cL) (lys sh st off ls tds k).length (ints (lys sh st off ls tds k)) := by rw [hl, hL]; exact h3
      have := own_put hq (i := P) (by rw [hl, hL]; exact hPl) y
      rw [List.length_set, hl, hL] at this
      exact this
    exact e1.kept (grown_set _ ⟨gT, P, none⟩ _) (.inr (tens_not_row e1 (h4.far (p := ⟨gL, P, none⟩) (Ne.symm nT) _) (by decide)))
  · rw [tks_step hP, ← bools_set]
    exact (h4.far (p := ⟨gL, P, none⟩) (Ne.symm nT) _).set_ P _
  · exact (h5.setCell (p := ⟨gL, P, none⟩) ((h3.lt gL rfl).1) _).setCell (p := ⟨gT, P, none⟩) hg _
  · intro i hi
    by_cases e : i = k
    · subst e; exact hno
    · exact h6 i (by omega)

theorem ly_drew {b8 b9 gL gT L cL : Nat} {w6 : World} {sh st : List Int} {off : Int} {ls tds : List Int} {k : Nat} {W : World} (h : LyI b8 b9 gL gT L cL w6 sh st off ls tds k W) : LyI b8 b9 gL gT L cL w6 sh st off ls tds k W.drew :=
  ⟨h.1, h.2.1, h.2.2.1, h.2.2.2.1, below_drew1 h.2.2.2.2.1, h.2.2.2.2.2⟩
theorem lay_end {X : World} {a b D base n : Nat} {v : Value} {xs : List Value} {ca cb : Array Value} {o : Obj} (hO : X.ownsRow base 2 1 v n xs) (ha : Blk X a 26 ca) (hb : Blk X b 42 cb) (hD : X.heap[D]? = some o) (hc : o.isCells = false) (x y : Value) (o' : Obj) :
    (((X.setCell ⟨a, 0, none⟩ x).setCell ⟨b, 0, none⟩ y).putObj D o').ownsRow base 2 1 v n xs := by
  have hab : ¬ b = a := fun e => by
    subst e
    have := ha.symm.trans hb
    simp at this
  have h1 := hO.kept (grown_set X ⟨a, 0, none⟩ x) (.inr (tens_not_row hO ha (by decide)))
  have hb1 := hb.far (p := ⟨a, 0, none⟩) hab x
  have h2 := h1.kept (grown_set _ ⟨b, 0, none⟩ y) (.inr (tens_not_row h1 hb1 (by decide)))
  have d1 : ¬ D = a := by rintro rfl; rw [show X.heap[D]? = _ from ha] at hD; cases hD; cases hc
  have d2 : ¬ D = b := by rintro rfl; rw [show X.heap[D]? = _ from hb] at hD; cases hD; cases hc
  exact own_kept h2 (grownBy_putObj' _ D o') (fun r er => by cases er; exact ⟨o, ((Below.heap_setCell _ _ _ _ d2).trans (Below.heap_setCell _ _ _ _ d1)).trans hD, hc⟩)
end Go.Proofs.Ytdcmcfmodbdhaaa
