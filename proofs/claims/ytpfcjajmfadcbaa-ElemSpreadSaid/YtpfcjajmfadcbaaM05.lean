/-
  Lists of words: alike? all words?
  The program's look for numbers that are no words.
  view.Copy.
  elem.each: the words of a shape's places in order, whatever is asked of each; the first one's error.
  package elem: the table of operations of two.
  Whole numbers of 128 bits, as a wide number's two halves: hi a and lo a of a whole number a.
  What the calls of package wide do, said of whole numbers: the small ones.
-/
import Derived.Deep.AppendLies
import Derived.OwnWalkIn
import Derived.MapKept
import Derived.Test.YtpfcjajmfadcbaaRows
import Derived.WalkKit
import Derived.WalkSpells
import Derived.StillTactics
import Derived.Laws.Pointers
import Derived.Laws.Externs
import Derived.Deep.RegionHeld3
import Derived.Shelf.Spec.BitsCarry
import Derived.RowKit3
import Derived.Lib.Hide
import Derived.Test.YtpfcjajmfadcbaaM01
import Derived.Test.YtpfcjajmfadcbaaM02
import Derived.Test.YtpfcjajmfadcbaaM03
import Derived.Test.YtpfcjajmfadcbaaM04
namespace Go.Proofs.Ytpfcjajmfadcbaa
open Go.RowKit

set_option maxRecDepth 100000 in
set_option maxHeartbeats 4000000 in
theorem eqw_any (va vb : Value) (a b : List Int) (w : World) (ha : Ld w va a) (hb : Ld w vb b) (la : a.length ≤ 17592186044416) (_lb : b.length ≤ 17592186044416) :
    Calls Try.prog 32 #[va, vb] w fun e w' => e = .returned (.bool (decide (a = b))) ∧ Below w.heap.size w w' := by
  obtain ⟨oa, ca, rfl, _, hxa⟩ := ha
  obtain ⟨ob, cb, rfl, _, hxb⟩ := hb
  have HA := Lib.hid hxa
  have HB := Lib.hid hxb
  clear hxa hxb
  by_cases hl : a.length = b.length
  · have HL := Lib.hid hl
    have HX : Hid ((∀ k, k < a.length → a.getD k 0 = b.getD k 0) → a = b) := ext_getD hl
    rw [← hl]
    clear hl _lb
    go_enter Try.func32, Try.ntmps32
    go_wp2
    go_loopw [5] (fun s5 wr => ∃ k : Nat, k ≤ a.length ∧ s5 = .int .i64 k ∧ Hid (∀ j, j < k → a.getD j 0 = b.getD j 0) ∧ Below w.heap.size w wr) (fun s5 _ => a.length - (intOf s5).toNat)
    case atStart => exact ⟨0, Nat.zero_le _, rfl, fun j hj => absurd hj (Nat.not_lt_zero _), Below.refl _ _⟩
    case round =>
      obtain ⟨k, hk, rfl, HK, hW⟩ := hrel
      by_cases hlt : k < a.length
      · obtain ⟨b1, f1, rfl, h1, c1⟩ := HA.out k hlt
        obtain ⟨b2, f2, rfl, h2, c2⟩ := HB.out k (by have := HL.out; omega)
        have c1' : wr.cell? ⟨b1, f1 + k, none⟩ = some (.int .i64 (a.getD k 0)) := (hW.cell (p := ⟨b1, f1 + k, none⟩) h1).trans c1
        have c2' : wr.cell? ⟨b2, f2 + k, none⟩ = some (.int .i64 (b.getD k 0)) := (hW.cell (p := ⟨b2, f2 + k, none⟩) h2).trans c2
        have HG : Hid (a.getD k 0 = b.getD k 0 → ∀ j, j < k + 1 → a.getD j 0 = b.getD j 0) := fun g j hj => by
          by_cases e : j = k
          · subst e; exact g
          · exact HK.out j (by omega)
        have HN : Hid (¬ a.getD k 0 = b.getD k 0 → decide (a = b) = false) := fun g => decide_eq_false (fun e => g (by rw [e]))
        clear c1 c2
        generalize a.getD k 0 = x at *
        generalize b.getD k 0 = y at *
        by_cases g : x = y
        · subst g
          have R := Lib.hid (HG.out rfl)
          go_wp2
          go_quiet (fail)
          go_wp2
          exact ⟨⟨k + 1, by omega, by go_num, R, by first | exact below_drw hW _ | exact hW⟩, by simp [intOf]; omega⟩
        · have R := Lib.hid (HN.out g)
          have g' : (x != y) = true := by rw [bne_iff_ne]; exact g
          clear g
          go_wp2
          go_quiet (fail)
          go_wp2
          go_ret
          exact ⟨by rw [R.out]; rfl, by first | exact below_drw hW _ | exact hW⟩
      · have e : Hid (decide (a = b) = true) := decide_eq_true (HX.out fun j hj => HK.out j (by omega))
        go_wp2
        go_ret
        exact ⟨by rw [e.out]; rfl, hW⟩
  · have e : Hid (decide (a = b) = false) := decide_eq_false (fun e => hl (by rw [e]))
    have hl2 : ((a.length : Int) != (b.length : Int)) = true := by rw [bne_iff_ne]; omega
    clear hl
    go_enter Try.func32, Try.ntmps32
    go_wp2
    go_ret
    exact ⟨by rw [e.out]; rfl, Below.refl _ _⟩

/-- Words alone? -/
def wds (l : List Int) : Bool := l.all fun x => decide (-140737488355328 < x) && decide (x < 140737488355328)
theorem wds_at {l : List Int} (h : wds l = true) {k : Nat} (hk : k < l.length) : -140737488355328 < l.getD k 0 ∧ l.getD k 0 < 140737488355328 := by
  unfold wds at h
  rw [List.all_eq_true] at h
  have := h (l.getD k 0) (getD_mem hk)
  simpa using this
theorem wds_no {l : List Int} {k : Nat} (hk : k < l.length) (h : ¬ (-140737488355328 < l.getD k 0 ∧ l.getD k 0 < 140737488355328)) : wds l = false := by
  cases e : wds l with
  | false => rfl
  | true => exact absurd (wds_at e hk) h
theorem wds_yes {l : List Int} (h : ∀ k, k < l.length → -140737488355328 < l.getD k 0 ∧ l.getD k 0 < 140737488355328) : wds l = true := by
  unfold wds
  rw [List.all_eq_true]
  intro x hx
  obtain ⟨i, hi, rfl⟩ := List.mem_iff_getElem.1 hx
  have := h i hi
  simp only [List.getD, List.getElem?_eq_getElem hi, Option.getD_some] at this
  simpa using this
set_option maxRecDepth 100000 in
set_option maxHeartbeats 4000000 in
theorem may2_any (x : Int) (w : World) : Calls Try.prog 33 #[.int .i64 x] w fun e w' => e = .returned (.bool (decide (-140737488355328 < x) && decide (x < 140737488355328))) ∧ w = w' := by
  by_cases g1 : -140737488355328 < x
  · by_cases g2 : x < 140737488355328
    · have b1 := decide_eq_true g1
      have b2 := decide_eq_true g2
      rw [b1, b2]
      go_enter Try.func33, Try.ntmps33
      go_wp2
      go_ret
      exact ⟨rfl, rfl⟩
    · have b1 := decide_eq_true g1
      have b2 := decide_eq_false g2
      rw [b1, b2]
      go_enter Try.func33, Try.ntmps33
      go_wp2
      go_ret
      exact ⟨rfl, rfl⟩
  · have b1 := decide_eq_false g1
    rw [b1]
    go_enter Try.func33, Try.ntmps33
    go_wp2
    go_ret
    exact ⟨rfl, rfl⟩

set_option maxRecDepth 100000 in
set_option maxHeartbeats 4000000 in
theorem words_any (v : Value) (l : List Int) (w : World) (h : Ld w v l) (hl : l.length ≤ 9223372036854775807) : Calls Try.prog 17 #[v] w fun e w' => e = .returned (.bool (wds l)) ∧ w = w' := by
  obtain ⟨o, c, rfl, _, hx⟩ := h
  have HX := Lib.hid hx
  clear hx
  go_enter Try.func17, Try.ntmps17
  go_wp2
  go_loop [3] (fun s3 => ∃ k : Nat, k ≤ l.length ∧ s3 = .int .i64 k ∧ Hid (∀ j, j < k → -140737488355328 < l.getD j 0 ∧ l.getD j 0 < 140737488355328)) (fun s3 => l.length - (intOf s3).toNat)
  case atStart => exact ⟨0, Nat.zero_le _, rfl, fun j hj => absurd hj (Nat.not_lt_zero _)⟩
  case round =>
    obtain ⟨k, hk, rfl, HK⟩ := hrel
    by_cases hlt : k < l.length
    · obtain ⟨b, f, rfl, _, hc⟩ := HX.out k hlt
      have HY : Hid ((decide (-140737488355328 < l.getD k 0) && decide (l.getD k 0 < 140737488355328)) = true → ∀ j, j < k + 1 → -140737488355328 < l.getD j 0 ∧ l.getD j 0 < 140737488355328) := fun g j hj => by
        by_cases e : j = k
        · subst e; simpa using g
        · exact HK.out j (by omega)
      have HN : Hid ((decide (-140737488355328 < l.getD k 0) && decide (l.getD k 0 < 140737488355328)) = false → wds l = false) := fun g => wds_no hlt (fun e => by rw [decide_eq_true e.1, decide_eq_true e.2] at g; cases g)
      generalize l.getD k 0 = x at *
      have KM := Lib.hid (fun (W : World) => may2_any x W)
      cases gg : (decide (-140737488355328 < x) && decide (x < 140737488355328)) with
      | true =>
        rw [gg] at KM
        have R := Lib.hid (HY.out gg)
        clear gg
        go_wp2_with (go_at_call 33; (with_reducible refine (KM.out _).mono ?_); rintro e w' ⟨rfl, rfl⟩)
        exact ⟨⟨k + 1, by omega, by go_num, R⟩, by simp [intOf]; omega⟩
      | false =>
        rw [gg] at KM
        have R := Lib.hid (HN.out gg)
        clear gg
        go_wp2_with (go_at_call 33; (with_reducible refine (KM.out _).mono ?_); rintro e w' ⟨rfl, rfl⟩)
        go_ret
        exact ⟨by rw [R.out]; rfl, rfl⟩
    · obtain rfl : k = l.length := by omega
      have R := Lib.hid (wds_yes HK.out)
      clear hlt
      go_wp2
      go_ret
      exact ⟨by rw [R.out]; rfl, rfl⟩
end Go.Proofs.Ytpfcjajmfadcbaa
namespace Go.Proofs.Ytpfcjajmfadcbaa
open Go.RowKit

/-- A word? -/
def wd1 (x : Int) : Bool := decide (-140737488355328 < x) && decide (x < 140737488355328)
set_option maxRecDepth 100000 in
set_option maxHeartbeats 2000000 in
theorem fxcheck_any (x : Int) (w : World) : Calls Try.prog 39 #[.int .i64 x] w fun e w' => e = .returned (.int .i64 (if wd1 x then 0 else 1)) ∧ w = w' := by
  by_cases g1 : x ≤ -140737488355328
  · have b1 : wd1 x = false := by unfold wd1; rw [decide_eq_false (by omega)]; rfl
    rw [b1]
    clear b1
    go_enter Try.func39, Try.ntmps39
    go_wp2
    go_ret
    exact ⟨rfl, rfl⟩
  · by_cases g2 : 140737488355328 ≤ x
    · have b1 : wd1 x = false := by unfold wd1; rw [decide_eq_false (show ¬ x < 140737488355328 by omega), Bool.and_false]
      rw [b1]
      clear b1
      go_enter Try.func39, Try.ntmps39
      go_wp2
      go_ret
      exact ⟨rfl, rfl⟩
    · have b1 : wd1 x = true := by unfold wd1; rw [decide_eq_true (by omega), decide_eq_true (by omega)]; rfl
      rw [b1]
      clear b1
      go_enter Try.func39, Try.ntmps39
      go_wp2
      go_ret
      exact ⟨rfl, rfl⟩



/-- A tensor? -/
def tnb (ts tds : List Int) : Bool := may ts && decide ((tds.length : Int) = prod ts) && wds tds
end Go.Proofs.Ytpfcjajmfadcbaa
namespace Go.Proofs.Ytpfcjajmfadcbaa
open Go.RowKit Go.Shelf
attribute [local go_sem] Oper.semAt_some

/-- The words where the indexes stand. -/
def cps (sh st : List Int) (off : Int) (ls : List Int) (N : Nat) : List Int := (List.range N).map fun k => ls.getD (off + dot st (atl sh (k : Nat))).toNat 0
theorem cps_len (sh st : List Int) (off : Int) (ls : List Int) (N : Nat) : (cps sh st off ls N).length = N := by simp [cps]
theorem cps_getD {sh st : List Int} {off : Int} {ls : List Int} {N k : Nat} (h : k < N) : (cps sh st off ls N).getD k 0 = ls.getD (off + dot st (atl sh (k : Nat))).toNat 0 := by simp [cps, List.getD, h]
theorem cps_snoc {sh st : List Int} {off : Int} {ls : List Int} {N k P : Nat} (h : k < N) (e : off + dot st (atl sh (k : Nat)) = (P : Int)) : (cps sh st off ls N).take (k + 1) = (cps sh st off ls N).take k ++ [ls.getD P 0] := by
  have hk : k < (cps sh st off ls N).length := by rw [cps_len]; exact h
  have h1 := cps_getD (sh := sh) (st := st) (off := off) (ls := ls) h
  rw [e, Int.toNat_natCast] at h1
  rw [List.take_succ_eq_append_getElem hk]
  rw [List.getD_eq_getElem?_getD, List.getElem?_eq_getElem hk] at h1
  rw [← h1]; rfl
theorem blk2 {W : World} {b : Nat} {t : TypeId} {x y : Value} (h : Blk W b t #[x, y]) : W.cell? ⟨b, 0, none⟩ = some x ∧ W.cell? ⟨b, 1, none⟩ = some y ∧ W.frozen? ⟨b, 0, none⟩ = false ∧ W.frozen? ⟨b, 1, none⟩ = false :=
  ⟨h.cell 0, h.cell 1, h.frozen 0, h.frozen 1⟩
/-- A tensor in new memory, and an error. -/
def SomeT (w : World) (er : Int) (sh ds : List Int) (e : Ending) (w' : World) : Prop := ∃ os cs od cd, e = .returned (.tuple #[.agg #[.slice os sh.length cs, .slice od ds.length cd], .int .i64 er]) ∧ w'.ownsRow w.heap.size 3 1 (.slice os sh.length cs) sh.length (ints sh) ∧ w'.ownsRow w.heap.size 2 1 (.slice od ds.length cd) ds.length (ints ds) ∧ Below w.heap.size w w'
theorem infoW : (Try.prog.info? 2).map (fun i => (i.zero, i.size, i.bytes)) = some (some (.int .i64 0), 1, 8) := by kernel_rfl


theorem tens_not_row {w : World} {base n b : Nat} {v : Value} {xs : List Value} {cs : Array Value} {t u : TypeId} (h : w.ownsRow base t 1 v n xs) (hb : Blk w b u cs) (hne : t ≠ u) : ¬ v.ownBlock = some b := by
  intro e
  rcases h.2 with ⟨rfl, _⟩ | ⟨g, cap, cur, rfl, _, hh, _⟩
  · simp [Value.ownBlock] at e
  · simp only [Value.ownBlock, Option.some.injEq] at e
    subst e
    have := hh.symm.trans hb
    simp only [Option.some.injEq, Obj.cells.injEq] at this
    exact hne this.2.1
/-- A word is appended. -/
theorem cp_step {X w9 w5 : World} {T B g k : Nat} {y : Int} {dv : Value} {xs : List Value} {cs : Array Value} (hb : Blk X T 26 cs) (hu : X.ownsRow B 2 1 dv k xs) (hB : Below T w5 X)
    (hgrow : (X.alloc (.cells #[.int .i64 y] 2)).drew.grownBy w9 dv.ownBlock) (_hat : dv.ownBlock = some g ∨ g = X.heap.size + 1) (hTl : T < B) (hXs : B ≤ X.heap.size) :
    Blk w9 T 26 cs ∧ Below T w5 w9 := by
  refine ⟨((hb.alloc _).drew).kept hgrow (fun e => by have := (hu.lt T e.symm).1; omega), ?_⟩
  have h1 := below_drw (hB.alloc (by omega) (.cells #[.int .i64 y] 2)) 1
  exact h1.grown hgrow (by simp; omega) (fun j e => by have := (hu.lt j e).1; omega)
/-- What a round of Copy's loop leaves. -/
def CpI (T B : Nat) (w5 : World) (sv : Value) (ds : List Int) (k : Nat) (W : World) : Prop := ∃ dv, Blk W T 26 #[sv, dv] ∧ W.ownsRow B 2 1 dv k (ints (ds.take k)) ∧ Below T w5 W ∧ B ≤ W.heap.size
theorem cpi_own (T B : Nat) (w5 : World) (sv : Value) (ds : List Int) (hT : T < B) (_hs : w5.heap.size ≤ B) : OwnFrom B (fun (pre : List Nat) W => CpI T B w5 sv ds pre.length W) := by
  rintro s X Y row ⟨dv, h1, h2, h3, h4⟩ hg hr
  have hc : ∀ r, row = some r → ∃ o : Obj, X.heap[r]? = some o ∧ o.isCells = false := fun r e => (hr r e).2
  exact ⟨dv, blk_own (β := Unit) T _ (fun _ => _) () X Y row h1 hg hc, own_kept h2 hg hc, h3.grown hg (by omega) (fun k e => by have := (hr k e).1; omega), Nat.le_trans h4 hg.size⟩
theorem kv_alloc {S : Nat → Prop} {X : World} (o : Obj) (hS : ∀ k, S k → k < X.heap.size) : KV S X (X.alloc o) :=
  ⟨fun k hk => Below.heap_alloc _ _ _ (hS k hk), fun _k _ _ _ e _ => Below.heap_alloc _ _ _ (Array.getElem?_eq_some_iff.1 e).1⟩
theorem cp_done {X w9 w5 : World} {T B g k c : Nat} {y : Int} {dv sv : Value} {ds : List Int} (hown : w9.ownsRow B 2 1 (.slice (some ⟨g, 0, none⟩) (k + 1) c) (k + 1) (ints (ds.take k) ++ [.int .i64 y])) (hb9 : Blk w9 T 26 #[sv, dv]) (hB9 : Below T w5 w9) (hb : Blk X T 26 #[sv, dv]) (hu : X.ownsRow B 2 1 dv k (ints (ds.take k)))
    (hgrow : (X.alloc (.cells #[.int .i64 y] 2)).drew.grownBy w9 dv.ownBlock) (hE : ds.take (k + 1) = ds.take k ++ [y]) (hTl : T < B) (hXs : B ≤ X.heap.size) :
    KeepsFrom B X (w9.setCell ⟨T, 1, none⟩ (.slice (some ⟨g, 0, none⟩) (k + 1) c)) ∧ KV (fun j => j < B ∧ j ≠ T) X (w9.setCell ⟨T, 1, none⟩ (.slice (some ⟨g, 0, none⟩) (k + 1) c)) ∧ CpI T B w5 sv ds (k + 1) (w9.setCell ⟨T, 1, none⟩ (.slice (some ⟨g, 0, none⟩) (k + 1) c)) := by
  have hsz : X.heap.size ≤ w9.heap.size := Nat.le_trans (by simp) hgrow.size
  have same : ∀ j, j < X.heap.size → some j ≠ dv.ownBlock → j ≠ T → (w9.setCell ⟨T, 1, none⟩ (.slice (some ⟨g, 0, none⟩) (k + 1) c)).heap[j]? = X.heap[j]? := fun j h1 h2 h3 =>
    (Below.heap_setCell _ _ _ j h3).trans ((hgrow.block j (by simp; omega) h2).trans (Below.heap_alloc _ _ _ h1))
  have isrow : ∀ (j : Nat) (o : Obj), X.heap[j]? = some o → some j = dv.ownBlock → ∃ cur, o = .cells cur 2 (0, 0) := by
    intro j o ho e
    rcases hu.2 with ⟨rfl, _⟩ | ⟨g', cap, cur, rfl, _, hh, _⟩
    · simp [Value.ownBlock] at e
    · simp only [Value.ownBlock, Option.some.injEq] at e
      subst e
      exact ⟨cur, Option.some.inj (ho.symm.trans hh)⟩
  refine ⟨⟨by simpa using hsz, fun j o hj ho hc => ?_⟩, ⟨fun j hj => ?_, fun j cs t fz ho ht => ?_⟩, .slice (some ⟨g, 0, none⟩) (k + 1) c, hb9.set_ 1 _, ?_, hB9.setCell (Nat.le_refl _) _, by simp; omega⟩
  · refine (same j (Array.getElem?_eq_some_iff.1 ho).1 (fun e => ?_) (by omega)).trans ho
    obtain ⟨cur, rfl⟩ := isrow j o ho e
    cases hc
  · refine same j (by omega) (fun e => ?_) hj.2
    have := (hu.lt j e.symm).1
    omega
  · refine same j (Array.getElem?_eq_some_iff.1 ho).1 (fun e => ?_) (fun e => ?_)
    · obtain ⟨cur, h2⟩ := isrow j _ ho e
      simp only [Obj.cells.injEq] at h2
      rcases ht with rfl | rfl | rfl <;> simp at h2
    · subst e
      have h2 := ho.symm.trans hb
      simp only [Option.some.injEq, Obj.cells.injEq] at h2
      rcases ht with rfl | rfl | rfl <;> simp at h2
  · rw [hE, ints_snoc]
    exact hown.kept (grown_set w9 ⟨T, 1, none⟩ _) (.inr (tens_not_row hown hb9 (by decide)))

theorem cp_end {X : World} {b D base n : Nat} {e : TypeId} {v : Value} {xs : List Value} {cs : Array Value} {o : Obj} (hO : X.ownsRow base e 1 v n xs) (hb : Blk X b 26 cs) (hD : X.heap[D]? = some o) (hc : o.isCells = false) (hne : e ≠ 26) (u1 u2 : Value) (o' : Obj) :
    (((X.setCell ⟨b, 0, none⟩ u1).setCell ⟨b, 1, none⟩ u2).putObj D o').ownsRow base e 1 v n xs := by
  have h1 := hO.kept (grown_set X ⟨b, 0, none⟩ u1) (.inr (tens_not_row hO hb hne))
  have hb1 := hb.set_ 0 u1
  have h2 := h1.kept (grown_set _ ⟨b, 1, none⟩ u2) (.inr (tens_not_row h1 hb1 hne))
  have hne : D ≠ b := by rintro rfl; rw [show X.heap[D]? = _ from hb] at hD; cases hD; cases hc
  exact own_kept h2 (grownBy_putObj' _ D o') (fun r er => by cases er; exact ⟨o, ((Below.heap_setCell _ _ _ _ hne).trans (Below.heap_setCell _ _ _ _ hne)).trans hD, hc⟩)


/-- Copy's error. -/
def cpe (sh st ls : List Int) (off : Int) : Int := if vwb sh st off ls.length && wds ls then 0 else 1
end Go.Proofs.Ytpfcjajmfadcbaa
namespace Go.Proofs.Ytpfcjajmfadcbaa
open Go Go.RowKit Go.Shelf
attribute [local go_sem] Oper.semAt_some

/-- A region that draws its order, within a round: what it leaves of the frame, too. -/
theorem region_inA {P : Program} {n l id : Nat} {ops : Array Oper} {R : Act → World → Prop} {S : World → Prop} {a : Act} {W : World} (hd : (ops.toList.all fun o => nodf o.op) = true) (hm : P.follows .mixedOrders = true) (hS : S W.drew)
    (h : S W.drew → wpAnyH P .any ops (fun e a2 W2 => e = .normal ∧ R a2 W2) S ops.size (Array.replicate ops.size false) a W.drew) : (Code.region id ops true).wpIn (Fence.wide.inRound l) n P (fun e a2 W2 => e = .normal ∧ R a2 W2) a W :=
  wpIn_region_any hm (any_in hd (fun ⟨_, _, h⟩ => by cases h.1) _ _ _ _ (wpAny_of_held _ _ _ _ (h hS)))

/-- The first error of n. -/
def fer (er : Nat → Int) : Nat → Int
  | 0 => 0
  | n + 1 => if fer er n = 0 then er n else fer er n
theorem fer_no {er : Nat → Int} : ∀ {n : Nat}, (∀ k, k < n → er k = 0) → fer er n = 0
  | 0, _ => rfl
  | n + 1, h => by
    unfold fer
    rw [if_pos (fer_no fun k hk => h k (by omega)), h n (by omega)]
theorem fer_first {er : Nat → Int} {k : Nat} (h : ∀ j, j < k → er j = 0) (hk : er k ≠ 0) : ∀ n, k < n → fer er n = er k
  | 0, hn => absurd hn (Nat.not_lt_zero _)
  | n + 1, hn => by
    unfold fer
    by_cases e : k = n
    · subst e
      rw [if_pos (fer_no h)]
    · have := fer_first h hk n (by omega)
      rw [if_neg (by rw [this]; exact hk), this]
/-- What n elements tell. -/
def vls (va : Nat → Int) (n : Nat) : List Int := (List.range n).map va
theorem vls_len (va : Nat → Int) (n : Nat) : (vls va n).length = n := by simp [vls]
theorem vls_snoc (va : Nat → Int) {k n : Nat} (h : k < n) : (vls va n).take (k + 1) = (vls va n).take k ++ [va k] := by
  have hk : k < (vls va n).length := by rw [vls_len]; exact h
  rw [List.take_succ_eq_append_getElem hk]
  simp [vls]

theorem grown_predrew {A W : World} {r : Option Nat} (h : A.grownBy W r) : A.drew.grownBy W r := ⟨h.os, h.tape, h.output, h.size, h.block⟩
/-- A row that holds something has a block. -/
theorem own_slice1 {W : World} {base n : Nat} {e : TypeId} {v : Value} {xs : List Value} (h : W.ownsRow base e 1 v n xs) (hn : 0 < n) : ∃ g cp, v = .slice (some ⟨g, 0, none⟩) n cp := by
  rcases h.2 with ⟨_, h0⟩ | ⟨g, cap, cur, e1, _⟩
  · omega
  · exact ⟨g, cap, e1⟩

theorem each_end {X : World} {b c D base n : Nat} {e : TypeId} {v : Value} {xs : List Value} {cs ds : Array Value} {o : Obj} (hO : X.ownsRow base e 1 v n xs) (hb : Blk X b 26 cs) (hc : Blk X c 40 ds) (hbc : c ≠ b) (hD : X.heap[D]? = some o) (ho : o.isCells = false) (hne : e ≠ 26) (hne2 : e ≠ 40) (u1 u2 u3 : Value) (o' : Obj) :
    ((((X.setCell ⟨b, 0, none⟩ u1).setCell ⟨b, 1, none⟩ u2).setCell ⟨c, 0, none⟩ u3).putObj D o').ownsRow base e 1 v n xs := by
  have h1 := hO.kept (grown_set X ⟨b, 0, none⟩ u1) (.inr (tens_not_row hO hb hne))
  have hb1 := hb.set_ 0 u1
  have h2 := h1.kept (grown_set _ ⟨b, 1, none⟩ u2) (.inr (tens_not_row h1 hb1 hne))
  have hc2 : Blk ((X.setCell ⟨b, 0, none⟩ u1).setCell ⟨b, 1, none⟩ u2) c 40 ds := (hc.far (p := ⟨b, 0, none⟩) hbc u1).far (p := ⟨b, 1, none⟩) hbc u2
  have h3 := h2.kept (grown_set _ ⟨c, 0, none⟩ u3) (.inr (tens_not_row h2 hc2 hne2))
  have hDb : D ≠ b := by rintro rfl; rw [show X.heap[D]? = _ from hb] at hD; cases hD; cases ho
  have hDc : D ≠ c := by rintro rfl; rw [show X.heap[D]? = _ from hc] at hD; cases hD; cases ho
  exact own_kept h3 (grownBy_putObj' _ D o') (fun r er => by cases er; exact ⟨o, ((Below.heap_setCell _ _ _ _ hDc).trans ((Below.heap_setCell _ _ _ _ hDb).trans (Below.heap_setCell _ _ _ _ hDb))).trans hD, ho⟩)

set_option maxRecDepth 100000 in
set_option maxHeartbeats 8000000 in
theorem each_any (AF WF : FuncId) (caps : Array Value) (pv : Nat → Value) (va er : Nat → Int) (vs : Value) (sh : List Int) (N : Nat) (w : World) (hs : Ld w vs sh) (hm : may sh = true) (hN : (N : Int) = prod sh)
    (eA : ∀ args (W : World), (callFunc AF args).run Try.prog W = .ok (.enter AF args) W) (eW : ∀ args (W : World), (callFunc WF args).run Try.prog W = .ok (.enter WF args) W)
    (HA : ∀ (n : Nat) (W : World) (vi : Value), n < N → Below w.heap.size w W → Ld W vi (atl sh n) → Calls Try.prog AF (#[.int .i64 (n : Nat), vi] ++ caps) W fun e w' => e = .returned (pv n) ∧ Below W.heap.size W w')
    (HF : ∀ (n : Nat) (W : World), n < N → Calls Try.prog WF #[pv n] W fun e w' => e = .returned (.tuple #[.int .i64 (va n), .int .i64 (er n)]) ∧ Below W.heap.size W w') :
    Calls Try.prog 28 #[vs, .func (.func WF) #[] #[], .func (.func AF) #[] caps] w (SomeT w (fer er N) (unl (fer er N) sh) (unl (fer er N) (vls va N))) := by
  obtain ⟨i0, hi0, hz0, hz1, hz2⟩ := info_parts infoW
  have l4 := may_len hm
  have hN6 : N ≤ 65536 := by have := may_prod hm; omega
  obtain ⟨w3, hw3⟩ : ∃ w3, w3 = (((w.alloc (.cells #[.func (.func WF) #[] #[]] 55)).alloc (.cells #[.func (.func AF) #[] caps] 68)).alloc (.cells #[.slice none 0 0, .slice none 0 0] 26)).alloc (.cells #[.int .i64 0] 40) := ⟨_, rfl⟩
  have hsz : w3.heap.size = w.heap.size + 4 := by rw [hw3]; simp
  have B3 : Below w.heap.size w w3 := by rw [hw3]; exact ((((Below.refl _ _).alloc (Nat.le_refl _) _).alloc (by simp) _).alloc (by simp; omega) _).alloc (by simp; omega) _
  have K0 : Hid (Blk w3 w.heap.size 55 #[.func (.func WF) #[] #[]]) := by rw [hw3]; exact (((Blk.new w _ _).alloc _).alloc _).alloc _
  have K1 : Hid (Blk w3 (w.heap.size + 1) 68 #[.func (.func AF) #[] caps]) := by rw [hw3]; exact ((blk_new1 w _ _ _).alloc _).alloc _
  have K2 : Hid (Blk w3 (w.heap.size + 2) 26 #[.slice none 0 0, .slice none 0 0]) := by
    rw [hw3]
    have q := Blk.new ((w.alloc (.cells #[.func (.func WF) #[] #[]] 55)).alloc (.cells #[.func (.func AF) #[] caps] 68)) 26 #[.slice none 0 0, .slice none 0 0]
    rw [World.size_alloc, World.size_alloc] at q
    exact q.alloc _
  have K3 : Hid (Blk w3 (w.heap.size + 3) 40 #[.int .i64 0]) := by
    rw [hw3]
    have q := Blk.new (((w.alloc (.cells #[.func (.func WF) #[] #[]] 55)).alloc (.cells #[.func (.func AF) #[] caps] 68)).alloc (.cells #[.slice none 0 0, .slice none 0 0] 26)) 40 #[.int .i64 0]
    rwa [World.size_alloc, World.size_alloc, World.size_alloc] at q
  have C2 := Lib.hid (cloned_any vs sh w3 (hs.below B3) (by omega))
  have C3 := Lib.hid (fun (W : World) (hW : Below w.heap.size w W) => all2_any vs sh W (hs.below hW) (by omega))
  rw [hm, if_pos rfl, ← hN] at C3
  have HV := Lib.hid (And.intro hm hN)
  have HAF := Lib.hid (And.intro HA HF)
  have EAW := Lib.hid (And.intro eA eW)
  obtain ⟨o1, n1, rfl, _, _⟩ := id hs
  have HW := Lib.hid hw3
  rw [hw3] at C2
  clear hw3 hs hm hN HA HF eA eW
  refine (callsIn_wide (n := 9)).1 ?_
  refine callsIn_of_wp_marks Try.func28 rfl trivial ?_
  simp only [Try.ntmps28, List.size_toArray, List.length_cons, List.length_nil, Nat.reduceAdd, Nat.reduceSub, Array.replicate_succ, Array.replicate_zero, List.push_toArray, List.append_toArray, List.nil_append, List.cons_append]
  refine wpIn_wide.2 ?_
  go_wp2_with (first
    | (go_at_call 42; (with_reducible refine C2.out.mono ?_); rintro e w5 ⟨o5, c5, rfl, ho5, _, hb5⟩; rw [← HW.out] at hb5; rw [hsz] at hb5; have b5 := B3.trans (hb5.mono (by omega)); replace K0 := Lib.hid (K0.out.below hb5 (by omega)); replace K1 := Lib.hid (K1.out.below hb5 (by omega)); replace K2 := Lib.hid (K2.out.below hb5 (by omega)); replace K3 := Lib.hid (K3.out.below hb5 (by omega)); have s5 : w.heap.size + 4 ≤ w5.heap.size := Nat.le_trans (Nat.le_of_eq hsz.symm) (by have := hb5.size; omega); have O5 := Lib.hid (own_base (base' := w.heap.size) ho5 (by rw [← HW.out]; omega)); clear ho5 hb5)
    | (go_at_call 43; (with_reducible refine (C3.out _ (b5.alloc (by omega) _)).mono ?_); rintro e w7 ⟨B1, B2, oA, cA, rfl, hbx, q1, q2, hb7⟩))
  have s7 : w5.heap.size + 1 ≤ w7.heap.size := by have := hb7.size; simp at this; omega
  have HT7 : Hid (Blk w7 w5.heap.size 26 #[.slice o5 sh.length c5, .slice none 0 0]) := (Blk.new w5 _ _).below hb7 (by simp)
  have HB7 : Hid (Below w5.heap.size w5 w7) := ((Below.refl _ _).alloc (Nat.le_refl _) _).trans (hb7.mono (by simp))
  have hq1 : w5.heap.size < B1 := by simp at q1; omega
  have hq2 : w5.heap.size < B2 := by simp at q2; omega
  have hbl : B1 < w7.heap.size := hbx.1.lt
  have hbl2 : B2 < w7.heap.size := hbx.2.1.lt
  have HBX := Lib.hid hbx
  have OWN : Hid (∀ g, oA = some ⟨g, 0, none⟩ → w5.heap.size < g ∧ g < w7.heap.size) := Lib.hid (fun g e => by
    have h := hbx.2.2.lt g (by rw [e]; rfl)
    have h2 := h.1
    simp at h2
    exact ⟨by omega, h.2⟩)
  clear hb7 hbx q1 q2
  refine (wpIn_wide (n := 9)).1 ?_
  refine wpIn_rangeFunc_told (F := Fence.wide) (n := 9) rfl (by decide) (gf := 51) (lb := #[.pointer (some ⟨B1, 0, none⟩), .pointer (some ⟨B2, 0, none⟩)]) rfl trivial (enters_of Try.func51 (by kernel_rfl) rfl)
    (all3_told 8 _ B1 B2 N (by decide) oA cA sh hN6 (fun _ => ⟨HV.out.1, HV.out.2.symm⟩) w7 HBX.out)
    Kp3.trans ?keepb (fun _ => rfl)
    (fun pre W => CpI w5.heap.size w7.heap.size w5 (.slice o5 sh.length c5) (vls va N) pre.length W ∧ ∀ j, j < pre.length → er j = 0)
    (fun cd pre W => cd = .ret ∧ (∃ k, k < N ∧ (∀ j, j < k → er j = 0) ∧ er k ≠ 0 ∧ Blk W (w.heap.size + 3) 40 #[.int .i64 (er k)]) ∧ Blk W (w.heap.size + 2) 26 #[.slice none 0 0, .slice none 0 0] ∧ Below w.heap.size w W)
    ?ownI ?ownX ?ownT ⟨⟨.slice none 0 0, HT7.out, ⟨rfl, .inl ⟨rfl, rfl⟩⟩, HB7.out, Nat.le_refl _⟩, fun j hj => absurd hj (Nat.not_lt_zero _)⟩ ?a1 ?assign ?body ?done ?stop
  case keepb =>
    intro X k o o' hk ho hc _
    exact ⟨World.putObj_heap_other (by omega), World.putObj_heap_other (by omega), fun g e => World.putObj_heap_other (by have := (OWN.out g e).2; omega)⟩
  case ownI =>
    rintro pre X Y row ⟨h1, h2⟩ hg hr
    have h := cpi_own w5.heap.size w7.heap.size w5 (.slice o5 sh.length c5) (vls va N) (by omega) (by omega) (List.replicate pre.length 0) X Y row (by simpa using h1) hg hr
    exact ⟨by simpa using h, h2⟩
  case ownX =>
    rintro cd pre X Y row ⟨e, ⟨k, k1, k2, k3, h1⟩, h2, h3⟩ hg hr
    have hc : ∀ r, row = some r → ∃ o : Obj, X.heap[r]? = some o ∧ o.isCells = false := fun r e => (hr r e).2
    exact ⟨e, ⟨k, k1, k2, k3, blk_own (β := Unit) _ _ (fun _ => _) () X Y row h1 hg hc⟩, blk_own (β := Unit) _ _ (fun _ => _) () X Y row h2 hg hc, h3.grown hg h3.size (fun k e => by have := (hr k e).1; omega)⟩
  case ownT => exact fun pre x _ X Y row h hg hr => ⟨h.1, blk_own (β := Unit) _ _ (fun _ => _) () X Y row h.2 hg (fun r e => (hr r e).2)⟩
  case assign =>
    intro l2 x X K hK
    unfold apr
    gi_wp2
    exact hK
  case body =>
    rintro l2 pre ⟨x1, x2⟩ X ⟨⟨dv, hTb, hDv, hBX, hXs⟩, hE⟩ hlt ⟨hx, hBI⟩
    obtain rfl : x1 = pre.length := hx
    gi_wp2
    have e4 : X.cell? ⟨w.heap.size, 0, none⟩ = some (.func (.func WF) #[] #[]) := (K0.out.below hBX (by omega)).cell 0
    have e5 : X.cell? ⟨w.heap.size + 1, 0, none⟩ = some (.func (.func AF) #[] caps) := (K1.out.below hBX (by omega)).cell 0
    have BX : Hid (∀ W, Below X.heap.size X W → Below w.heap.size w W) := Lib.hid (fun W hW => b5.trans ((hBX.trans (hW.mono hBX.size)).mono (by omega)))
    have KX : Hid (∀ W, Below X.heap.size X W → W.cell? ⟨w.heap.size, 0, none⟩ = some (.func (.func WF) #[] #[]) ∧ W.cell? ⟨w.heap.size + 1, 0, none⟩ = some (.func (.func AF) #[] caps)) := Lib.hid (fun W hW => ⟨(K0.out.below (hBX.trans (hW.mono hBX.size)) (by omega)).cell 0, (K1.out.below (hBX.trans (hW.mono hBX.size)) (by omega)).cell 0⟩)
    have HLd : Hid (Ld X (.slice (some ⟨x2, 0, none⟩) sh.length sh.length) (atl sh (pre.length : Nat))) := by
      have h := Ld.of_blk hBI (c := sh.length) (by rw [atl_len]; exact Nat.le_refl _)
      rw [atl_len] at h
      exact h
    refine wpIn_mono (region_inA (S := fun W => W.cell? ⟨w.heap.size, 0, none⟩ = some (.func (.func WF) #[] #[]) ∧ W.cell? ⟨w.heap.size + 1, 0, none⟩ = some (.func (.func AF) #[] caps)) (R := fun a2 W2 => a2 = { tmps := #[.slice o1 sh.length n1, .func (.func WF) #[] #[], .func (.func AF) #[] caps, undef, .pointer (some ⟨w.heap.size, 0, none⟩), .pointer (some ⟨w.heap.size + 1, 0, none⟩), .pointer (some ⟨w.heap.size + 1 + 1, 0, none⟩), .pointer (some ⟨w.heap.size + 1 + 1 + 1, 0, none⟩), .pointer (some ⟨w5.heap.size, 0, none⟩), .int .i64 (pre.length : Nat), .slice (some ⟨x2, 0, none⟩) sh.length sh.length, .int .i64 (va pre.length), .int .i64 (er pre.length), .slice o1 sh.length n1, .slice o5 sh.length c5, .agg #[.slice o5 sh.length c5, .slice none 0 0], .slice o1 sh.length n1, .func (.func 51) #[] #[.pointer (some ⟨B1, 0, none⟩), .pointer (some ⟨B2, 0, none⟩)], .int .i64 (pre.length : Nat), .slice (some ⟨x2, 0, none⟩) sh.length sh.length, .tuple #[.int .i64 (va pre.length), .int .i64 (er pre.length)], .func (.func WF) #[] #[], .func (.func AF) #[] caps, .int .i64 (pre.length : Nat), .slice (some ⟨x2, 0, none⟩) sh.length sh.length, pv pre.length, .tuple #[.int .i64 (va pre.length), .int .i64 (er pre.length)], .int .i64 (va pre.length), .int .i64 (er pre.length), undef, undef, undef, undef, undef, undef, undef, undef, undef, undef, undef], defers := [] } ∧ Below X.heap.size X W2) (by kernel_rfl) (by kernel_rfl) ?_ (fun hHeld => ?_)) ?_
    · exact ⟨e4, e5⟩
    · have HAn := Lib.hid (fun (W : World) (vi : Value) (hW : Below X.heap.size X W) => HAF.out.1 pre.length W vi hlt (BX.out W hW))
      have HFn := Lib.hid (fun (W : World) => HAF.out.2 pre.length W hlt)
      simp only [List.size_toArray, List.length_cons, List.length_nil, Nat.reduceAdd, Array.replicate_succ, Array.replicate_zero, List.push_toArray, List.nil_append, List.cons_append]
      (refine wpAnyH_take (i := 0) (oi := ⟨some 21, _, _, _, _, _⟩) (v := ?v0) rfl (by kernel_rfl) (by kernel_rfl) (by kernel_rfl) (fun _ _ _ h => by cases h.1) (Or.inl ⟨by rfl, ?hy0⟩) (by assumption) ?rest0; (case hy0 => ((intro w hSw); (try dsimp only at hSw); go_simp; first | done | (with_reducible rfl))))
      (try simp only [Act.put, List.setIfInBounds_toArray, List.set_cons_zero, List.set_cons_succ])
      (refine wpAnyH_take (i := 1) (oi := ⟨some 22, _, _, _, _, _⟩) (v := ?v1) rfl (by kernel_rfl) (by kernel_rfl) (by kernel_rfl) (fun _ _ _ h => by cases h.1) (Or.inl ⟨by rfl, ?hy1⟩) (by assumption) ?rest1; (case hy1 => ((intro w hSw); (try dsimp only at hSw); go_simp; first | done | (with_reducible rfl))))
      (try simp only [Act.put, List.setIfInBounds_toArray, List.set_cons_zero, List.set_cons_succ])
      (refine wpAnyH_take (i := 2) (oi := ⟨some 23, _, _, _, _, _⟩) (v := ?v2) rfl (by kernel_rfl) (by kernel_rfl) (by kernel_rfl) (fun _ _ _ h => by cases h.1) (Or.inl ⟨by rfl, ?hy2⟩) (by assumption) ?rest2; (case hy2 => ((intro w hSw); (try dsimp only at hSw); go_simp; first | done | (with_reducible rfl))))
      (try simp only [Act.put, List.setIfInBounds_toArray, List.set_cons_zero, List.set_cons_succ])
      (refine wpAnyH_take (i := 3) (oi := ⟨some 24, _, _, _, _, _⟩) (v := ?v3) rfl (by kernel_rfl) (by kernel_rfl) (by kernel_rfl) (fun _ _ _ h => by cases h.1) (Or.inl ⟨by rfl, ?hy3⟩) (by assumption) ?rest3; (case hy3 => ((intro w hSw); (try dsimp only at hSw); go_simp; first | done | (with_reducible rfl))))
      (try simp only [Act.put, List.setIfInBounds_toArray, List.set_cons_zero, List.set_cons_succ])
      refine wpAnyH_ready (rs := [4]) (by kernel_rfl) (by simp) ?_
      refine AllReadyH.cons (o := ⟨some 25, _, _, _, _, _⟩) rfl (fun K hK => ?_) AllReadyH.nil
      go_simp
      rw [EAW.out.1, Oper.upon_enter]
      refine (HAn.out _ _ (below_drw (Below.refl _ _) 1) (HLd.out.below (below_drw (Below.refl _ _) 1))).mono ?_
      rintro e w8 ⟨rfl, hb8⟩
      have B8 := Lib.hid ((below_drw (Below.refl X.heap.size X) 1).trans hb8)
      clear hb8
      refine hK.out _ _ (KX.out _ B8.out) (fun hHeld => ?_)
      clear hK K
      (try simp only [Act.put, List.setIfInBounds_toArray, List.set_cons_zero, List.set_cons_succ])
      refine wpAnyH_ready (rs := [5]) (by kernel_rfl) (by simp) ?_
      refine AllReadyH.cons (o := ⟨some 26, _, _, _, _, _⟩) rfl (fun K hK => ?_) AllReadyH.nil
      go_simp
      rw [EAW.out.2, Oper.upon_enter]
      refine (HFn.out _).mono ?_
      rintro e w9 ⟨rfl, hb9⟩
      have B9 := Lib.hid (B8.out.trans (hb9.mono B8.out.size))
      clear hb9
      refine hK.out _ _ (KX.out _ B9.out) (fun hHeld => ?_)
      clear hK K
      (try simp only [Act.put, List.setIfInBounds_toArray, List.set_cons_zero, List.set_cons_succ])
      (refine wpAnyH_take (i := 6) (oi := ⟨some 20, _, _, _, _, _⟩) (v := ?v6) rfl (by kernel_rfl) (by kernel_rfl) (by kernel_rfl) (fun _ _ _ h => by cases h.1) (Or.inl ⟨by rfl, ?hy6⟩) (by assumption) ?rest6; (case hy6 => ((intro w hSw); (try dsimp only at hSw); go_simp; first | done | (with_reducible rfl))))
      (try simp only [Act.put, List.setIfInBounds_toArray, List.set_cons_zero, List.set_cons_succ])
      (refine wpAnyH_take (i := 7) (oi := ⟨some 27, _, _, _, _, _⟩) (v := ?v7) rfl (by kernel_rfl) (by kernel_rfl) (by kernel_rfl) (fun _ _ _ h => by cases h.1) (Or.inl ⟨by rfl, ?hy7⟩) (by assumption) ?rest7; (case hy7 => ((intro w hSw); (try dsimp only at hSw); go_simp; first | done | (with_reducible rfl))))
      (try simp only [Act.put, List.setIfInBounds_toArray, List.set_cons_zero, List.set_cons_succ])
      (refine wpAnyH_take (i := 8) (oi := ⟨some 28, _, _, _, _, _⟩) (v := ?v8) rfl (by kernel_rfl) (by kernel_rfl) (by kernel_rfl) (fun _ _ _ h => by cases h.1) (Or.inl ⟨by rfl, ?hy8⟩) (by assumption) ?rest8; (case hy8 => ((intro w hSw); (try dsimp only at hSw); go_simp; first | done | (with_reducible rfl))))
      (try simp only [Act.put, List.setIfInBounds_toArray, List.set_cons_zero, List.set_cons_succ])
      (refine wpAnyH_take (i := 9) (oi := ⟨some 11, _, _, _, _, _⟩) (v := ?v9) rfl (by kernel_rfl) (by kernel_rfl) (by kernel_rfl) (fun _ _ _ h => by cases h.1) (Or.inl ⟨by rfl, ?hy9⟩) (by assumption) ?rest9; (case hy9 => ((intro w hSw); (try dsimp only at hSw); go_simp; first | done | (with_reducible rfl))))
      (try simp only [Act.put, List.setIfInBounds_toArray, List.set_cons_zero, List.set_cons_succ])
      (refine wpAnyH_take (i := 10) (oi := ⟨some 12, _, _, _, _, _⟩) (v := ?v10) rfl (by kernel_rfl) (by kernel_rfl) (by kernel_rfl) (fun _ _ _ h => by cases h.1) (Or.inl ⟨by rfl, ?hy10⟩) (by assumption) ?rest10; (case hy10 => ((intro w hSw); (try dsimp only at hSw); go_simp; first | done | (with_reducible rfl))))
      (try simp only [Act.put, List.setIfInBounds_toArray, List.set_cons_zero, List.set_cons_succ])
      refine wpAnyH_done (by kernel_rfl) ?_ _
      exact ⟨rfl, rfl, B9.out⟩
    · rintro e a3 W3 ⟨rfl, rfl, hB3⟩
      have s3 : w7.heap.size ≤ W3.heap.size := Nat.le_trans hXs hB3.size
      by_cases he : er pre.length = 0
      · as_aux_lemma =>
        have hev : (er pre.length != 0) = false := by rw [bne_eq_false_iff_eq]; exact he
        have HEr := Lib.hid (show ∀ j, j < pre.length + 1 → er j = 0 from fun j hj => by
          by_cases e : j = pre.length
          · rw [e]; exact he
          · exact hE j (by omega))
        have HT := Lib.hid (hTb.below hB3 hTb.lt)
        have HO := Lib.hid (Below.keepOwn hDv hB3 (Nat.le_refl _))
        have HB := Lib.hid (hBX.trans (hB3.mono hBX.size))
        have B3h := Lib.hid hB3
        have EA := Lib.hid (vls_snoc va (n := N) hlt)
        obtain ⟨t0, t1, tf0, tf1⟩ := blk2 HT.out
        have hk6 : pre.length < 65536 := by omega
        generalize hy : va pre.length = y at *
        clear he hTb hDv hBX hB3 hE HLd BX KX e4 e5 hBI
        gi_wp2_with (gi_at_builtin; refine wpListIn_append_own _ rfl _ _ 24 rfl w7.heap.size 2 i0 (.int .i64 0) 1 8 Try.underlying24 hi0 hz0 hz1 hz2 rfl (by decide) dv pre.length (ints ((vls va N).take pre.length)) rfl (HO.out.alloc _) ⟨W3.heap.size, 0, none⟩ 1 1 [.int .i64 y] rfl rfl (cell_one_new _ _ _) (by simp [Value.oneCell']) (by unfold maxLen; omega) (by omega) (by simp; omega) ?_; intro v9 w9 hown hgrow _; obtain ⟨g9, cp9, rfl⟩ := own_slice1 hown (by omega); replace hgrow := grown_predrew hgrow; have Q9 := Lib.hid (cp_step (g := W3.heap.size + 1) HT.out HO.out HB.out hgrow (.inr rfl) (by omega) s3); have R9 := Lib.hid (cp_done hown Q9.out.1 Q9.out.2 HT.out HO.out hgrow EA.out (by omega) s3); obtain ⟨p0, p1, h0, h1⟩ := blk2 Q9.out.1; clear hown hgrow)
        refine ⟨⟨Nat.le_trans B3h.out.size R9.out.1.size, fun j o hj ho hc => R9.out.1.same j o hj ((B3h.out.block j (Array.getElem?_eq_some_iff.1 ho).1).trans ho) hc⟩, ⟨?_, ?_, fun g e => ?_⟩, ?_⟩
        · exact (R9.out.2.1.1 B1 ⟨by omega, by omega⟩).trans (B3h.out.block B1 (by omega))
        · exact (R9.out.2.1.1 B2 ⟨by omega, by omega⟩).trans (B3h.out.block B2 (by omega))
        · have q := OWN.out g e
          exact (R9.out.2.1.1 g ⟨by omega, by omega⟩).trans (B3h.out.block g (by omega))
        · have e1 : (pre ++ [(pre.length, x2)]).length = pre.length + 1 := by simp
          show CpI _ _ _ _ _ (pre ++ [(pre.length, x2)]).length _ ∧ ∀ j, j < (pre ++ [(pre.length, x2)]).length → er j = 0
          rw [e1]
          exact ⟨R9.out.2.2, HEr.out⟩
      · as_aux_lemma =>
        have hev : (er pre.length != 0) = true := bne_iff_ne.2 he
        have HEr := Lib.hid (And.intro hE he)
        have XB := Lib.hid (hBX.trans (hB3.mono hBX.size))
        have k62 := K2.out.below XB.out (by omega)
        have k63 := K3.out.below XB.out (by omega)
        have BW := Lib.hid (BX.out _ hB3)
        have B3h := Lib.hid hB3
        have XE := Lib.hid (And.intro k62 k63)
        obtain ⟨r0, r1, rf0, rf1⟩ := blk2 k62
        obtain ⟨u0, uf0⟩ := And.intro (k63.cell 0) (k63.frozen 0)
        clear he hTb hDv hBX hB3 hE HLd BX KX e4 e5 hBI k62 k63
        gi_wp2
        refine ⟨⟨by simpa using B3h.out.size, fun j o hj ho _ => ?_⟩, rfl, ⟨pre.length, hlt, HEr.out.1, HEr.out.2, ?_⟩, ?_, ?_⟩
        · exact ((Below.heap_setCell _ _ _ j (show ¬ j = w.heap.size + 3 by omega)).trans ((Below.heap_setCell _ _ _ j (show ¬ j = w.heap.size + 2 by omega)).trans (Below.heap_setCell _ _ _ j (show ¬ j = w.heap.size + 2 by omega)))).trans ((B3h.out.block j (Array.getElem?_eq_some_iff.1 ho).1).trans ho)
        · exact ((XE.out.2.far (p := ⟨w.heap.size + 2, 0, none⟩) (by show ¬ w.heap.size + 3 = w.heap.size + 2; omega) _).far (p := ⟨w.heap.size + 2, 1, none⟩) (by show ¬ w.heap.size + 3 = w.heap.size + 2; omega) _).set_ 0 _
        · exact ((XE.out.1.set_ 0 _).set_ 1 _).far (p := ⟨w.heap.size + 3, 0, none⟩) (by show ¬ w.heap.size + 2 = w.heap.size + 3; omega) _
        · exact ((BW.out.setCell (p := ⟨w.heap.size + 2, 0, none⟩) (by show w.heap.size ≤ w.heap.size + 2; omega) _).setCell (p := ⟨w.heap.size + 2, 1, none⟩) (by show w.heap.size ≤ w.heap.size + 2; omega) _).setCell (p := ⟨w.heap.size + 3, 0, none⟩) (by show w.heap.size ≤ w.heap.size + 3; omega) _
  case done =>
    rintro D ys X hD hys ⟨⟨dv, hTb, hDv, hBX, hXs⟩, hE⟩ hK
    have hys' : ys.length = N := hys
    rw [hys'] at hDv hE
    have hf : fer er N = 0 := fer_no hE
    obtain ⟨c0, c1, f0, f1⟩ := blk2 hTb
    have R2 := K2.out.below hBX (by omega)
    have R3 := K3.out.below hBX (by omega)
    obtain ⟨d0, d1, g0, g1⟩ := blk2 R2
    obtain ⟨u0, uf0⟩ := And.intro (R3.cell 0) (R3.frozen 0)
    have hDv2 : X.ownsRow w7.heap.size 2 1 dv (vls va N).length (ints (vls va N)) := by
      rw [vls_len]
      rwa [List.take_of_length_le (by rw [vls_len]; exact Nat.le_refl _)] at hDv
    have HDv := Lib.hid hDv2
    have HF := Lib.hid hf
    have HX := Lib.hid (And.intro R2 (And.intro R3 (And.intro hBX hK)))
    clear hTb hDv hDv2 hBX hE hf R2 R3 hK hys hys'
    obtain ⟨od, cd, rfl, _⟩ := Ld.of_owns HDv.out
    have hDa : ¬ D = w.heap.size + 2 := by omega
    have hDb : ¬ D = w.heap.size + 3 := by omega
    have HK2 := Lib.hid (show (((X.setCell ⟨w.heap.size + 2, 0, none⟩ (.slice o5 sh.length c5)).setCell ⟨w.heap.size + 2, 1, none⟩ (.slice od (vls va N).length cd)).setCell ⟨w.heap.size + 3, 0, none⟩ (.int .i64 0)).heap[D]? = some (.deferred (some [])) from ((Below.heap_setCell _ _ _ _ hDb).trans ((Below.heap_setCell _ _ _ _ hDa).trans (Below.heap_setCell _ _ _ _ hDa))).trans HX.out.2.2.2)
    have E1 := Lib.hid (each_end (Below.keepOwn O5.out HX.out.2.2.1 (Nat.le_refl _)) HX.out.1 HX.out.2.1 (by omega) HX.out.2.2.2 rfl (by decide) (by decide) (.slice o5 sh.length c5) (.slice od (vls va N).length cd) (.int .i64 0) (.deferred none))
    have E2 := Lib.hid (each_end HDv.out HX.out.1 HX.out.2.1 (by omega) HX.out.2.2.2 rfl (by decide) (by decide) (.slice o5 sh.length c5) (.slice od (vls va N).length cd) (.int .i64 0) (.deferred none))
    have E3 := Lib.hid (((((b5.trans (HX.out.2.2.1.mono (by omega))).setCell (p := ⟨w.heap.size + 2, 0, none⟩) (by show w.heap.size ≤ w.heap.size + 2; omega) (.slice o5 sh.length c5)).setCell (p := ⟨w.heap.size + 2, 1, none⟩) (by show w.heap.size ≤ w.heap.size + 2; omega) (.slice od (vls va N).length cd)).setCell (p := ⟨w.heap.size + 3, 0, none⟩) (by show w.heap.size ≤ w.heap.size + 3; omega) (.int .i64 0)).trans (belowK_b (w := w) (Nat.le_refl _) _ D _ (.deferred none) (by omega) HK2.out rfl rfl))
    have q1 : Blk ((((X.setCell ⟨w.heap.size + 2, 0, none⟩ (.slice o5 sh.length c5)).setCell ⟨w.heap.size + 2, 1, none⟩ (.slice od (vls va N).length cd)).setCell ⟨w.heap.size + 3, 0, none⟩ (.int .i64 0)).putObj D (.deferred none)) (w.heap.size + 2) 26 #[.slice o5 sh.length c5, .slice od (vls va N).length cd] := (((HX.out.1.set_ 0 _).set_ 1 _).far (p := ⟨w.heap.size + 3, 0, none⟩) (by show ¬ w.heap.size + 2 = w.heap.size + 3; omega) _).kept (grownBy_putObj' _ D _) (by intro e; cases e; omega)
    have q2 : Blk ((((X.setCell ⟨w.heap.size + 2, 0, none⟩ (.slice o5 sh.length c5)).setCell ⟨w.heap.size + 2, 1, none⟩ (.slice od (vls va N).length cd)).setCell ⟨w.heap.size + 3, 0, none⟩ (.int .i64 0)).putObj D (.deferred none)) (w.heap.size + 3) 40 #[.int .i64 0] := (((HX.out.2.1.far (p := ⟨w.heap.size + 2, 0, none⟩) (by show ¬ w.heap.size + 3 = w.heap.size + 2; omega) _).far (p := ⟨w.heap.size + 2, 1, none⟩) (by show ¬ w.heap.size + 3 = w.heap.size + 2; omega) _).set_ 0 _).kept (grownBy_putObj' _ D _) (by intro e; cases e; omega)
    have Q := Lib.hid (And.intro (q1.cell 0) (And.intro (q1.cell 1) (q2.cell 0)))
    clear q1 q2 HX
    go_wp2
    refine ⟨by simp, .inl ⟨_, _, rfl, run_takeDeferred HK2.out, ?_⟩⟩
    obtain ⟨p0, p1, p2⟩ := Q.out
    refine ⟨.tuple #[.agg #[.slice o5 sh.length c5, .slice od (vls va N).length cd], .int .i64 0], by simp [results, Try.results28, go_sem, p0, p1, p2], ?_⟩
    rw [HF.out]
    exact ⟨o5, c5, od, cd, rfl, E1.out, own_base E2.out (by omega), E3.out⟩
  case stop =>
    rintro D cd pre X hD hpre ⟨rfl, ⟨k, k1, k2, k3, h1⟩, h2, h3⟩ hK
    have HF := Lib.hid (fer_first k2 k3 N k1)
    have HZ := Lib.hid k3
    have e1 := h1.kept (grownBy_putObj' X D (.deferred none)) (by intro e; cases e; rw [show X.heap[_]? = _ from h1] at hK; cases hK)
    have e2 := h2.kept (grownBy_putObj' X D (.deferred none)) (by intro e; cases e; rw [show X.heap[_]? = _ from h2] at hK; cases hK)
    have e3 : Below w.heap.size w (X.putObj D (.deferred none)) := h3.trans (belowK_b (w := w) (Nat.le_refl _) _ D _ (.deferred none) (by omega) hK rfl rfl)
    obtain ⟨p0, p1, _⟩ := blk2 e2
    have p2 := e1.cell 0
    have HE := Lib.hid e3
    have HK := Lib.hid hK
    clear e1 e2 e3 hK h1 h2 h3 k2 k3
    gi_wp2
    go_wp2
    refine ⟨by simp, .inl ⟨_, _, rfl, run_takeDeferred HK.out, ?_⟩⟩
    refine ⟨.tuple #[.agg #[.slice none 0 0, .slice none 0 0], .int .i64 (er k)], by simp [results, Try.results28, go_sem, p0, p1, p2], ?_⟩
    rw [HF.out]
    have u0 : ∀ l : List Int, unl (er k) l = [] := fun l => by unfold unl; rw [if_neg HZ.out]
    rw [u0, u0]
    exact ⟨none, 0, none, 0, rfl, World.ownsRow_nil _ _ _ _, World.ownsRow_nil _ _ _ _, HE.out⟩
end Go.Proofs.Ytpfcjajmfadcbaa
namespace Go.Proofs.Ytpfcjajmfadcbaa
open Go Go.RowKit Go.Shelf

theorem run_put {P : Program} {w : World} {t kt e : TypeId} {r clock : Nat} {es : Array MapEntry} (x : Int) (v : Value) (hu : P.underlying t = some (.map kt e)) (hk : P.underlying kt = some (.int .i64)) (hb : w.heap[r]? = some (.map es clock)) (hf : Instr.findNow (.int .i64) (.int .i64 x) es.toList 0 = some none) :
    (Instr.mapUpdate t (.map (some r)) (.int .i64 x) v).run P w = .ok () (w.putObj r (.map (es.push ⟨.int .i64 x, v, clock⟩) (clock + 1))) := by
  have hc : (Instr.checkKey false 10000 kt (.int .i64 x)).run P w = .ok () w := MapKept.run_checkKey (k := .int .i64 x) hk (by simp [MapKept.IsKey]) false 9999
  simp [Instr.mapUpdate, run_underlying hu, MapKept.run_getObj_map hb, hc, MapKept.run_findKey hk hf, MapKept.run_setObj_map _ hb, Result.andThen, World.putObj]
theorem run_look {P : Program} {w : World} {t kt e : TypeId} {r clock i : Nat} {es : Array MapEntry} (x : Int) (v : Value) (hu : P.underlying t = some (.map kt e)) (hk : P.underlying kt = some (.int .i64)) (hb : w.heap[r]? = some (.map es clock)) (hf : Instr.findNow (.int .i64) (.int .i64 x) es.toList 0 = some (some (i, v))) :
    (Instr.lookup t (.map (some r)) (.int .i64 x) true).run P w = .ok (.tuple #[v, .bool true]) w := by
  have hc : (Instr.checkKey es.isEmpty 10000 kt (.int .i64 x)).run P w = .ok () w := MapKept.run_checkKey (k := .int .i64 x) hk (by simp [MapKept.IsKey]) es.isEmpty 9999
  simp [Instr.lookup, run_underlying hu, MapKept.run_getObj_map hb, hc, MapKept.run_findKey hk hf, Result.andThen]
theorem below_put {B r : Nat} {w W : World} (h : Below B w W) (hr : B ≤ r) (o : Obj) : Below B w (W.putObj r o) := ⟨h.os, h.tape, h.output, by simpa [World.putObj] using h.size, fun k hk => (World.putObj_heap_other (by omega)).trans (h.block k hk)⟩
theorem put_at {W : World} {r : Nat} (o : Obj) (h : r < W.heap.size) : (W.putObj r o).heap[r]? = some o ∧ r < (W.putObj r o).heap.size := ⟨World.putObj_heap_same h, by simpa [World.putObj] using h⟩

/-- The table of operations of two. -/
def tbl2 : Array MapEntry := #[⟨.int .i64 3, .func (.func 34) #[] #[], 0⟩, ⟨.int .i64 4, .func (.func 35) #[] #[], 1⟩, ⟨.int .i64 5, .func (.func 36) #[] #[], 2⟩, ⟨.int .i64 6, .func (.func 37) #[] #[], 3⟩]

set_option maxRecDepth 100000 in
set_option maxHeartbeats 2000000 in
theorem oftwo_any (w : World) : Calls Try.prog 24 #[] w fun e w' => e = .returned (.map (some w.heap.size)) ∧ w'.heap[w.heap.size]? = some (.map tbl2 4) ∧ Below w.heap.size w w' := by
  have hmm := @run_makeMap Try.prog
  have h0 : (w.alloc (.map #[] 0)).heap[w.heap.size]? = some (.map #[] 0) ∧ w.heap.size < (w.alloc (.map #[] 0)).heap.size := ⟨World.alloc_heap_new w _, by simp⟩
  have b0 : Below w.heap.size w (w.alloc (.map #[] 0)) := (Below.refl _ _).alloc (Nat.le_refl _) _
  have q1 := put_at (.map #[⟨.int .i64 3, .func (.func 34) #[] #[], 0⟩] 1) h0.2
  have p1 := run_put (P := Try.prog) (t := 57) (kt := 3) (e := 55) 3 (.func (.func 34) #[] #[]) (by kernel_rfl) (by kernel_rfl) h0.1 rfl
  have b1 := below_put b0 (Nat.le_refl _) (.map #[⟨.int .i64 3, .func (.func 34) #[] #[], 0⟩] 1)
  obtain ⟨W1, hW1⟩ : ∃ W1, W1 = (w.alloc (.map #[] 0)).putObj w.heap.size (.map #[⟨.int .i64 3, .func (.func 34) #[] #[], 0⟩] 1) := ⟨_, rfl⟩
  rw [← hW1] at q1 b1
  replace p1 : (Instr.mapUpdate 57 (.map (some w.heap.size)) (.int .i64 3) (.func (.func 34) #[] #[])).run Try.prog (w.alloc (.map #[] 0)) = .ok () W1 := by rw [hW1]; exact p1
  have q2 := put_at (.map #[⟨.int .i64 3, .func (.func 34) #[] #[], 0⟩, ⟨.int .i64 4, .func (.func 35) #[] #[], 1⟩] 2) q1.2
  have p2 := run_put (P := Try.prog) (t := 57) (kt := 3) (e := 55) 4 (.func (.func 35) #[] #[]) (by kernel_rfl) (by kernel_rfl) q1.1 rfl
  have b2 := below_put b1 (Nat.le_refl _) (.map #[⟨.int .i64 3, .func (.func 34) #[] #[], 0⟩, ⟨.int .i64 4, .func (.func 35) #[] #[], 1⟩] 2)
  obtain ⟨W2, hW2⟩ : ∃ W2, W2 = W1.putObj w.heap.size (.map #[⟨.int .i64 3, .func (.func 34) #[] #[], 0⟩, ⟨.int .i64 4, .func (.func 35) #[] #[], 1⟩] 2) := ⟨_, rfl⟩
  rw [← hW2] at q2 b2
  replace p2 : (Instr.mapUpdate 57 (.map (some w.heap.size)) (.int .i64 4) (.func (.func 35) #[] #[])).run Try.prog W1 = .ok () W2 := by rw [hW2]; exact p2
  have q3 := put_at (.map #[⟨.int .i64 3, .func (.func 34) #[] #[], 0⟩, ⟨.int .i64 4, .func (.func 35) #[] #[], 1⟩, ⟨.int .i64 5, .func (.func 36) #[] #[], 2⟩] 3) q2.2
  have p3 := run_put (P := Try.prog) (t := 57) (kt := 3) (e := 55) 5 (.func (.func 36) #[] #[]) (by kernel_rfl) (by kernel_rfl) q2.1 rfl
  have b3 := below_put b2 (Nat.le_refl _) (.map #[⟨.int .i64 3, .func (.func 34) #[] #[], 0⟩, ⟨.int .i64 4, .func (.func 35) #[] #[], 1⟩, ⟨.int .i64 5, .func (.func 36) #[] #[], 2⟩] 3)
  obtain ⟨W3, hW3⟩ : ∃ W3, W3 = W2.putObj w.heap.size (.map #[⟨.int .i64 3, .func (.func 34) #[] #[], 0⟩, ⟨.int .i64 4, .func (.func 35) #[] #[], 1⟩, ⟨.int .i64 5, .func (.func 36) #[] #[], 2⟩] 3) := ⟨_, rfl⟩
  rw [← hW3] at q3 b3
  replace p3 : (Instr.mapUpdate 57 (.map (some w.heap.size)) (.int .i64 5) (.func (.func 36) #[] #[])).run Try.prog W2 = .ok () W3 := by rw [hW3]; exact p3
  have q4 := put_at (.map tbl2 4) q3.2
  have p4 := run_put (P := Try.prog) (t := 57) (kt := 3) (e := 55) 6 (.func (.func 37) #[] #[]) (by kernel_rfl) (by kernel_rfl) q3.1 rfl
  have b4 := below_put b3 (Nat.le_refl _) (.map tbl2 4)
  obtain ⟨W4, hW4⟩ : ∃ W4, W4 = W3.putObj w.heap.size (.map tbl2 4) := ⟨_, rfl⟩
  rw [← hW4] at q4 b4
  replace p4 : (Instr.mapUpdate 57 (.map (some w.heap.size)) (.int .i64 6) (.func (.func 37) #[] #[])).run Try.prog W3 = .ok () W4 := by rw [hW4]; exact p4
  have Q := Lib.hid (And.intro q4.1 b4)
  clear hW1 hW2 hW3 hW4 q1 q2 q3 q4 b0 b1 b2 b3 b4 h0
  go_enter Try.func24, Try.ntmps24
  go_wp2
  go_ret
  exact ⟨rfl, Q.out.1, Q.out.2⟩
end Go.Proofs.Ytpfcjajmfadcbaa
namespace Go.Proofs.Ytpfcjajmfadcbaa

def hi (a : Int) : Int := a / 18446744073709551616
def lo (a : Int) : Int := a % 18446744073709551616
/-- a is a wide number. -/
def R (a : Int) : Prop := -9223372036854775808 ≤ hi a ∧ hi a ≤ 9223372036854775807
instance (a : Int) : Decidable (R a) := inferInstanceAs (Decidable (_ ∧ _))
/-- a is below 0. -/
def ng (a : Int) : Bool := decide (a < 0)

theorem lo_bd (a : Int) : 0 ≤ lo a ∧ lo a ≤ 18446744073709551615 := by unfold lo; omega
theorem hi_lo (a : Int) : a = hi a * 18446744073709551616 + lo a := by unfold hi lo; omega
theorem hi_mk (h l : Int) (l0 : 0 ≤ l) (l1 : l ≤ 18446744073709551615) : hi (h * 18446744073709551616 + l) = h := by unfold hi; omega
theorem lo_mk (h l : Int) (l0 : 0 ≤ l) (l1 : l ≤ 18446744073709551615) : lo (h * 18446744073709551616 + l) = l := by unfold lo; omega
theorem hi_neg (a : Int) : decide (hi a < 0) = ng a := by unfold hi ng; rw [Bool.eq_iff_iff]; simp only [decide_eq_true_eq]; omega
theorem hl_inj {a b : Int} (h : hi a = hi b) (l : lo a = lo b) : a = b := by rw [hi_lo a, hi_lo b, h, l]

end Go.Proofs.Ytpfcjajmfadcbaa
namespace Go.Proofs.Ytpfcjajmfadcbaa
open Go.RowKit

abbrev Wv (a : Int) : Value := .agg #[.int .i64 (hi a), .int .u64 (lo a)]

theorem below_any (a : Int) (w : World) :
    Calls Try.prog 73 #[Wv a] w fun e w' => e = .returned (.bool (ng a)) ∧ w.alloc (.cells #[.int .i64 (hi a), .int .u64 (lo a)] 99) = w' := by
  have H := Lib.hid (hi_neg a)
  go_enter Try.func73, Try.ntmps73
  go_wp2
  go_ret
  exact ⟨by rw [H.out]; rfl, rfl⟩

theorem isNaN_i64 (a : Int) (w : World) : Calls Try.prog 91 #[.int .i64 a] w fun e w' => e = .returned (.bool false) ∧ w = w' := by
  go_enter Try.func91, Try.ntmps91
  go_wp2
  go_ret
  exact ⟨by simp, rfl⟩
theorem isNaN_u64 (a : Int) (w : World) : Calls Try.prog 90 #[.int .u64 a] w fun e w' => e = .returned (.bool false) ∧ w = w' := by
  go_enter Try.func90, Try.ntmps90
  go_wp2
  go_ret
  exact ⟨by simp, rfl⟩

/-- -1, 0, 1: as cmp.Compare tells it. -/
def sg (a b : Int) : Int := if a < b then -1 else if a > b then 1 else 0
theorem sg_lt {a b : Int} (h : a < b) : sg a b = -1 := by unfold sg; rw [if_pos h]
theorem sg_gt {a b : Int} (h : b < a) : sg a b = 1 := by unfold sg; rw [if_neg (by omega), if_pos h]
theorem sg_eq (a : Int) : sg a a = 0 := by unfold sg; rw [if_neg (by omega), if_neg (by omega)]

theorem compare_i64 (a b : Int) (w : World) : Calls Try.prog 89 #[.int .i64 a, .int .i64 b] w fun e w' => e = .returned (.int .i64 (sg a b)) ∧ w = w' := by
  rcases Int.lt_trichotomy a b with h | rfl | h
  · have H := Lib.hid (sg_lt h)
    go_enter Try.func89, Try.ntmps89
    go_wp2_with (go_at_call 91; refine (isNaN_i64 _ _).mono ?_; rintro e w' ⟨rfl, rfl⟩)
    go_ret
    exact ⟨by rw [H.out]; rfl, rfl⟩
  · have H := Lib.hid (sg_eq a)
    go_enter Try.func89, Try.ntmps89
    go_wp2_with (go_at_call 91; refine (isNaN_i64 _ _).mono ?_; rintro e w' ⟨rfl, rfl⟩)
    go_ret
    exact ⟨by rw [H.out]; rfl, rfl⟩
  · have H := Lib.hid (sg_gt h)
    go_enter Try.func89, Try.ntmps89
    go_wp2_with (go_at_call 91; refine (isNaN_i64 _ _).mono ?_; rintro e w' ⟨rfl, rfl⟩)
    go_ret
    exact ⟨by rw [H.out]; rfl, rfl⟩

theorem compare_u64 (a b : Int) (w : World) : Calls Try.prog 87 #[.int .u64 a, .int .u64 b] w fun e w' => e = .returned (.int .i64 (sg a b)) ∧ w = w' := by
  rcases Int.lt_trichotomy a b with h | rfl | h
  · have H := Lib.hid (sg_lt h)
    go_enter Try.func87, Try.ntmps87
    go_wp2_with (go_at_call 90; refine (isNaN_u64 _ _).mono ?_; rintro e w' ⟨rfl, rfl⟩)
    go_ret
    exact ⟨by rw [H.out]; rfl, rfl⟩
  · have H := Lib.hid (sg_eq a)
    go_enter Try.func87, Try.ntmps87
    go_wp2_with (go_at_call 90; refine (isNaN_u64 _ _).mono ?_; rintro e w' ⟨rfl, rfl⟩)
    go_ret
    exact ⟨by rw [H.out]; rfl, rfl⟩
  · have H := Lib.hid (sg_gt h)
    go_enter Try.func87, Try.ntmps87
    go_wp2_with (go_at_call 90; refine (isNaN_u64 _ _).mono ?_; rintro e w' ⟨rfl, rfl⟩)
    go_ret
    exact ⟨by rw [H.out]; rfl, rfl⟩

theorem sg_hi {a b : Int} (h : hi a ≠ hi b) : sg (hi a) (hi b) = sg a b := by
  unfold sg hi at *
  repeat' split <;> try omega
theorem sg_lo {a b : Int} (h : hi a = hi b) : sg (lo a) (lo b) = sg a b := by
  unfold sg lo hi at *
  repeat' split <;> try omega

/-- wide.Cmp -/
theorem cmp_any (a b : Int) (w : World) : Calls Try.prog 85 #[Wv a, Wv b] w fun e w' => e = .returned (.int .i64 (sg a b)) ∧ Below w.heap.size w w' := by
  by_cases h : hi a = hi b
  · have H := Lib.hid (sg_lo h)
    have g : (hi a != hi b) = false := by simp [h]
    have K := Lib.hid h
    clear h
    go_enter Try.func85, Try.ntmps85
    go_wp2_with (go_at_call 87; refine (compare_u64 _ _ _).mono ?_; rintro e w' ⟨rfl, rfl⟩)
    go_ret
    exact ⟨by rw [H.out]; rfl, ((Below.refl _ _).alloc (Nat.le_refl _) _).alloc (by simp) _⟩
  · have H := Lib.hid (sg_hi h)
    have g : (hi a != hi b) = true := by simp [h]
    clear h
    go_enter Try.func85, Try.ntmps85
    go_wp2_with (go_at_call 89; refine (compare_i64 _ _ _).mono ?_; rintro e w' ⟨rfl, rfl⟩)
    go_ret
    exact ⟨by rw [H.out]; rfl, ((Below.refl _ _).alloc (Nat.le_refl _) _).alloc (by simp) _⟩

theorem wv0 : Wv 0 = .agg #[.int .i64 0, .int .u64 0] := rfl
/-- wide.Sign -/
theorem sign_any (a : Int) (w : World) : Calls Try.prog 79 #[Wv a] w fun e w' => e = .returned (.int .i64 (sg a 0)) ∧ Below w.heap.size w w' := by
  have C := Lib.hid (fun W => cmp_any a 0 W)
  rw [wv0] at C
  go_enter Try.func79, Try.ntmps79
  go_wp2_with (go_at_call 85; refine (C.out _).mono ?_; rintro e w' ⟨rfl, hb⟩)
  go_ret
  exact ⟨rfl, ((Below.refl _ _).alloc (Nat.le_refl _) _).trans (hb.mono (by simp))⟩
end Go.Proofs.Ytpfcjajmfadcbaa
