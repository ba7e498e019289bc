/-
  Lists of words: alike? all words?
  The program's look for numbers that are no words.
  view.Copy.
  The words of a view under one axis more.
  Appending an empty list without an address; a part of a list in memory.
-/
import Derived.Deep.AppendLies
import Derived.Laws.OwnMore
import Derived.Tactics
import Derived.Test.YtdcmcfmodbdhaaaM01
import Derived.Test.YtdcmcfmodbdhaaaM02
import Derived.Test.YtdcmcfmodbdhaaaM05
import Derived.Test.YtdcmcfmodbdhaaaM07
namespace Go.Proofs.Ytdcmcfmodbdhaaa
open Go.RowKit

set_option maxRecDepth 100000 in
set_option maxHeartbeats 4000000 in
theorem eqw_any (va vb : Value) (a b : List Int) (w : World) (ha : Ld w va a) (hb : Ld w vb b) (la : a.length ≤ 17592186044416) (_lb : b.length ≤ 17592186044416) :
    Calls Try.prog 40 #[va, vb] w fun e w' => e = .returned (.bool (decide (a = b))) ∧ Below w.heap.size w w' := by
  obtain ⟨oa, ca, rfl, _, hxa⟩ := ha
  obtain ⟨ob, cb, rfl, _, hxb⟩ := hb
  have HA := Lib.hid hxa
  have HB := Lib.hid hxb
  clear hxa hxb
  by_cases hl : a.length = b.length
  · have HL := Lib.hid hl
    have HX : Hid ((∀ k, k < a.length → a.getD k 0 = b.getD k 0) → a = b) := ext_getD hl
    rw [← hl]
    clear hl _lb
    go_enter Try.func40, Try.ntmps40
    go_wp2
    go_loopw [5] (fun s5 wr => ∃ k : Nat, k ≤ a.length ∧ s5 = .int .i64 k ∧ Hid (∀ j, j < k → a.getD j 0 = b.getD j 0) ∧ Below w.heap.size w wr) (fun s5 _ => a.length - (intOf s5).toNat)
    case atStart => exact ⟨0, Nat.zero_le _, rfl, fun j hj => absurd hj (Nat.not_lt_zero _), Below.refl _ _⟩
    case round =>
      obtain ⟨k, hk, rfl, HK, hW⟩ := hrel
      by_cases hlt : k < a.length
      · obtain ⟨b1, f1, rfl, h1, c1⟩ := HA.out k hlt
        obtain ⟨b2, f2, rfl, h2, c2⟩ := HB.out k (by have := HL.out; omega)
        have c1' : wr.cell? ⟨b1, f1 + k, none⟩ = some (.int .i64 (a.getD k 0)) := (hW.cell (p := ⟨b1, f1 + k, none⟩) h1).trans c1
        have c2' : wr.cell? ⟨b2, f2 + k, none⟩ = some (.int .i64 (b.getD k 0)) := (hW.cell (p := ⟨b2, f2 + k, none⟩) h2).trans c2
        have HG : Hid (a.getD k 0 = b.getD k 0 → ∀ j, j < k + 1 → a.getD j 0 = b.getD j 0) := fun g j hj => by
          by_cases e : j = k
          · subst e; exact g
          · exact HK.out j (by omega)
        have HN : Hid (¬ a.getD k 0 = b.getD k 0 → decide (a = b) = false) := fun g => decide_eq_false (fun e => g (by rw [e]))
        clear c1 c2
        generalize a.getD k 0 = x at *
        generalize b.getD k 0 = y at *
        by_cases g : x = y
        · subst g
          have R := Lib.hid (HG.out rfl)
          go_wp2
          go_quiet (fail)
          go_wp2
          exact ⟨⟨k + 1, by omega, by go_num, R, by first | exact below_drw hW _ | exact hW⟩, by simp [intOf]; omega⟩
        · have R := Lib.hid (HN.out g)
          have g' : (x != y) = true := by rw [bne_iff_ne]; exact g
          clear g
          go_wp2
          go_quiet (fail)
          go_wp2
          go_ret
          exact ⟨by rw [R.out]; rfl, by first | exact below_drw hW _ | exact hW⟩
      · have e : Hid (decide (a = b) = true) := decide_eq_true (HX.out fun j hj => HK.out j (by omega))
        go_wp2
        go_ret
        exact ⟨by rw [e.out]; rfl, hW⟩
  · have e : Hid (decide (a = b) = false) := decide_eq_false (fun e => hl (by rw [e]))
    have hl2 : ((a.length : Int) != (b.length : Int)) = true := by rw [bne_iff_ne]; omega
    clear hl
    go_enter Try.func40, Try.ntmps40
    go_wp2
    go_ret
    exact ⟨by rw [e.out]; rfl, Below.refl _ _⟩

/-- Words alone? -/
def wds (l : List Int) : Bool := l.all fun x => decide (-140737488355328 < x) && decide (x < 140737488355328)
theorem wds_at {l : List Int} (h : wds l = true) {k : Nat} (hk : k < l.length) : -140737488355328 < l.getD k 0 ∧ l.getD k 0 < 140737488355328 := by
  unfold wds at h
  rw [List.all_eq_true] at h
  have := h (l.getD k 0) (getD_mem hk)
  simpa using this
theorem wds_no {l : List Int} {k : Nat} (hk : k < l.length) (h : ¬ (-140737488355328 < l.getD k 0 ∧ l.getD k 0 < 140737488355328)) : wds l = false := by
  cases e : wds l with
  | false => rfl
  | true => exact absurd (wds_at e hk) h
theorem wds_yes {l : List Int} (h : ∀ k, k < l.length → -140737488355328 < l.getD k 0 ∧ l.getD k 0 < 140737488355328) : wds l = true := by
  unfold wds
  rw [List.all_eq_true]
  intro x hx
  obtain ⟨i, hi, rfl⟩ := List.mem_iff_getElem.1 hx
  have := h i hi
  simp only [List.getD, List.getElem?_eq_getElem hi, Option.getD_some] at this
  simpa using this
set_option maxRecDepth 100000 in
set_option maxHeartbeats 4000000 in
theorem may2_any (x : Int) (w : World) : Calls Try.prog 59 #[.int .i64 x] w fun e w' => e = .returned (.bool (decide (-140737488355328 < x) && decide (x < 140737488355328))) ∧ w = w' := by
  by_cases g1 : -140737488355328 < x
  · by_cases g2 : x < 140737488355328
    · have b1 := decide_eq_true g1
      have b2 := decide_eq_true g2
      rw [b1, b2]
      go_enter Try.func59, Try.ntmps59
      go_wp2
      go_ret
      exact ⟨rfl, rfl⟩
    · have b1 := decide_eq_true g1
      have b2 := decide_eq_false g2
      rw [b1, b2]
      go_enter Try.func59, Try.ntmps59
      go_wp2
      go_ret
      exact ⟨rfl, rfl⟩
  · have b1 := decide_eq_false g1
    rw [b1]
    go_enter Try.func59, Try.ntmps59
    go_wp2
    go_ret
    exact ⟨rfl, rfl⟩

set_option maxRecDepth 100000 in
set_option maxHeartbeats 4000000 in
theorem words_any (v : Value) (l : List Int) (w : World) (h : Ld w v l) (hl : l.length ≤ 9223372036854775807) : Calls Try.prog 30 #[v] w fun e w' => e = .returned (.bool (wds l)) ∧ w = w' := by
  obtain ⟨o, c, rfl, _, hx⟩ := h
  have HX := Lib.hid hx
  clear hx
  go_enter Try.func30, Try.ntmps30
  go_wp2
  go_loop [3] (fun s3 => ∃ k : Nat, k ≤ l.length ∧ s3 = .int .i64 k ∧ Hid (∀ j, j < k → -140737488355328 < l.getD j 0 ∧ l.getD j 0 < 140737488355328)) (fun s3 => l.length - (intOf s3).toNat)
  case atStart => exact ⟨0, Nat.zero_le _, rfl, fun j hj => absurd hj (Nat.not_lt_zero _)⟩
  case round =>
    obtain ⟨k, hk, rfl, HK⟩ := hrel
    by_cases hlt : k < l.length
    · obtain ⟨b, f, rfl, _, hc⟩ := HX.out k hlt
      have HY : Hid ((decide (-140737488355328 < l.getD k 0) && decide (l.getD k 0 < 140737488355328)) = true → ∀ j, j < k + 1 → -140737488355328 < l.getD j 0 ∧ l.getD j 0 < 140737488355328) := fun g j hj => by
        by_cases e : j = k
        · subst e; simpa using g
        · exact HK.out j (by omega)
      have HN : Hid ((decide (-140737488355328 < l.getD k 0) && decide (l.getD k 0 < 140737488355328)) = false → wds l = false) := fun g => wds_no hlt (fun e => by rw [decide_eq_true e.1, decide_eq_true e.2] at g; cases g)
      generalize l.getD k 0 = x at *
      have KM := Lib.hid (fun (W : World) => may2_any x W)
      cases gg : (decide (-140737488355328 < x) && decide (x < 140737488355328)) with
      | true =>
        rw [gg] at KM
        have R := Lib.hid (HY.out gg)
        clear gg
        go_wp2_with (go_at_call 59; (with_reducible refine (KM.out _).mono ?_); rintro e w' ⟨rfl, rfl⟩)
        exact ⟨⟨k + 1, by omega, by go_num, R⟩, by simp [intOf]; omega⟩
      | false =>
        rw [gg] at KM
        have R := Lib.hid (HN.out gg)
        clear gg
        go_wp2_with (go_at_call 59; (with_reducible refine (KM.out _).mono ?_); rintro e w' ⟨rfl, rfl⟩)
        go_ret
        exact ⟨by rw [R.out]; rfl, rfl⟩
    · obtain rfl : k = l.length := by omega
      have R := Lib.hid (wds_yes HK.out)
      clear hlt
      go_wp2
      go_ret
      exact ⟨by rw [R.out]; rfl, rfl⟩
end Go.Proofs.Ytdcmcfmodbdhaaa
namespace Go.Proofs.Ytdcmcfmodbdhaaa
open Go.RowKit

/-- A word? -/
def wd1 (x : Int) : Bool := decide (-140737488355328 < x) && decide (x < 140737488355328)
set_option maxRecDepth 100000 in
set_option maxHeartbeats 2000000 in
theorem fxcheck_any (x : Int) (w : World) : Calls Try.prog 73 #[.int .i64 x] w fun e w' => e = .returned (.int .i64 (if wd1 x then 0 else 1)) ∧ w = w' := by
  by_cases g1 : x ≤ -140737488355328
  · have b1 : wd1 x = false := by unfold wd1; rw [decide_eq_false (by omega)]; rfl
    rw [b1]
    clear b1
    go_enter Try.func73, Try.ntmps73
    go_wp2
    go_ret
    exact ⟨rfl, rfl⟩
  · by_cases g2 : 140737488355328 ≤ x
    · have b1 : wd1 x = false := by unfold wd1; rw [decide_eq_false (show ¬ x < 140737488355328 by omega), Bool.and_false]
      rw [b1]
      clear b1
      go_enter Try.func73, Try.ntmps73
      go_wp2
      go_ret
      exact ⟨rfl, rfl⟩
    · have b1 : wd1 x = true := by unfold wd1; rw [decide_eq_true (by omega), decide_eq_true (by omega)]; rfl
      rw [b1]
      clear b1
      go_enter Try.func73, Try.ntmps73
      go_wp2
      go_ret
      exact ⟨rfl, rfl⟩

set_option maxRecDepth 100000 in
set_option maxHeartbeats 2000000 in
theorem noword_any (x : Int) (w : World) : Calls Try.prog 72 #[.int .i64 x] w fun e w' => e = .returned (.bool (!wd1 x)) ∧ w = w' := by
  have C := Lib.hid (fxcheck_any x)
  cases g : wd1 x with
  | true =>
    rw [g] at C
    go_enter Try.func72, Try.ntmps72
    go_wp2_with (go_at_call 73; (with_reducible refine (C.out _).mono ?_); rintro e w' ⟨rfl, rfl⟩)
    go_ret
    exact ⟨rfl, rfl⟩
  | false =>
    rw [g] at C
    go_enter Try.func72, Try.ntmps72
    go_wp2_with (go_at_call 73; (with_reducible refine (C.out _).mono ?_); rintro e w' ⟨rfl, rfl⟩)
    go_ret
    exact ⟨rfl, rfl⟩

set_option maxRecDepth 100000 in
set_option maxHeartbeats 2000000 in
theorem indexf_any (v : Value) (l : List Int) (w : World) (h : Ld w v l) (hl : l.length ≤ 9223372036854775807) :
    Calls Try.prog 78 #[v, .func (.func 72) #[] #[]] w fun e w' => ∃ r : Int, e = .returned (.int .i64 r) ∧ Hid (decide (0 ≤ r) = !wds l) ∧ w = w' := by
  obtain ⟨o, c, rfl, _, hx⟩ := h
  have HX := Lib.hid hx
  clear hx
  go_enter Try.func78, Try.ntmps78
  go_wp2
  go_loop [8] (fun s8 => ∃ k : Nat, k ≤ l.length ∧ s8 = .int .i64 k ∧ Hid (∀ j, j < k → -140737488355328 < l.getD j 0 ∧ l.getD j 0 < 140737488355328)) (fun s8 => l.length - (intOf s8).toNat)
  case atStart => exact ⟨0, Nat.zero_le _, rfl, fun j hj => absurd hj (Nat.not_lt_zero _)⟩
  case round =>
    obtain ⟨k, hk, rfl, HK⟩ := hrel
    by_cases hlt : k < l.length
    · obtain ⟨b, f, rfl, _, hc⟩ := HX.out k hlt
      have HY : Hid (wd1 (l.getD k 0) = true → ∀ j, j < k + 1 → -140737488355328 < l.getD j 0 ∧ l.getD j 0 < 140737488355328) := fun g j hj => by
        by_cases e : j = k
        · subst e; simpa [wd1] using g
        · exact HK.out j (by omega)
      have HN : Hid (wd1 (l.getD k 0) = false → wds l = false) := fun g => wds_no hlt (fun e => by unfold wd1 at g; rw [decide_eq_true e.1, decide_eq_true e.2] at g; cases g)
      generalize l.getD k 0 = x at *
      have KM := Lib.hid (fun (W : World) => noword_any x W)
      cases gg : wd1 x with
      | true =>
        rw [gg] at KM
        have R := Lib.hid (HY.out gg)
        clear gg
        go_wp2_with (go_at_call 72; (with_reducible refine (KM.out _).mono ?_); rintro e w' ⟨rfl, rfl⟩)
        exact ⟨⟨k + 1, by omega, by go_num, R⟩, by simp [intOf]; omega⟩
      | false =>
        rw [gg] at KM
        have R := Lib.hid (HN.out gg)
        clear gg
        go_wp2_with (go_at_call 72; (with_reducible refine (KM.out _).mono ?_); rintro e w' ⟨rfl, rfl⟩)
        go_ret
        exact ⟨k, rfl, by rw [Hid, R.out, decide_eq_true (by omega)]; rfl, rfl⟩
    · obtain rfl : k = l.length := by omega
      have R := Lib.hid (wds_yes HK.out)
      clear hlt
      go_wp2
      go_ret
      exact ⟨-1, rfl, by rw [Hid, R.out]; rfl, rfl⟩
set_option maxRecDepth 100000 in
set_option maxHeartbeats 2000000 in
theorem containsf_any (v : Value) (l : List Int) (w : World) (h : Ld w v l) (hl : l.length ≤ 9223372036854775807) :
    Calls Try.prog 71 #[v, .func (.func 72) #[] #[]] w fun e w' => e = .returned (.bool (!wds l)) ∧ w = w' := by
  have C := Lib.hid (indexf_any v l w h hl)
  clear h hl
  go_enter Try.func71, Try.ntmps71
  go_wp2_with (go_at_call 78; (with_reducible refine C.out.mono ?_); rintro e w' ⟨r, rfl, hr, rfl⟩)
  go_ret
  exact ⟨by rw [hr.out]; rfl, rfl⟩
set_option maxRecDepth 100000 in
set_option maxHeartbeats 2000000 in
theorem arewords_any (v : Value) (l : List Int) (w : World) (h : Ld w v l) (hl : l.length ≤ 9223372036854775807) :
    Calls Try.prog 61 #[v] w fun e w' => e = .returned (.bool (wds l)) ∧ w = w' := by
  have C := Lib.hid (containsf_any v l w h hl)
  clear h hl
  go_enter Try.func61, Try.ntmps61
  go_wp2_with (go_at_call 71; (with_reducible refine C.out.mono ?_); rintro e w' ⟨rfl, rfl⟩)
  go_ret
  exact ⟨by simp, rfl⟩

/-- A tensor? -/
def tnb (ts tds : List Int) : Bool := may ts && decide ((tds.length : Int) = prod ts) && wds tds
set_option maxRecDepth 100000 in
set_option maxHeartbeats 2000000 in
theorem istensor_any (vp vr : Value) (ts tds : List Int) (w : World) (hp : Ld w vp ts) (hr : Ld w vr tds) (_lp : ts.length ≤ 17592186044416) (lr : tds.length ≤ 17592186044416) :
    Calls Try.prog 63 #[.agg #[vp, vr]] w fun e w' => e = .returned (.bool (tnb ts tds)) ∧ Below w.heap.size w w' := by
  have B0 := Lib.hid ((Below.refl w.heap.size w).alloc (Nat.le_refl _) (.cells #[vp, vr] 28))
  obtain ⟨op, cp, rfl, _, _⟩ := id hp
  obtain ⟨od, cd, rfl, _, _⟩ := id hr
  have KW := Lib.hid (arewords_any _ tds _ (hr.below B0.out) (by omega))
  cases hm : may ts with
  | false =>
    have C := Lib.hid (count_no _ ts _ (hp.below B0.out) hm)
    have E : Hid (tnb ts tds = false) := by unfold tnb; rw [hm]; exact Lib.hid (by simp)
    clear hp hr hm
    go_enter Try.func63, Try.ntmps63
    go_wp2_with (go_at_call 68; (with_reducible refine C.out.mono ?_); rintro e w' ⟨rfl, rfl⟩)
    go_ret
    exact ⟨by rw [E.out]; rfl, B0.out⟩
  | true =>
    have C := Lib.hid (count_ok _ ts _ (hp.below B0.out) hm)
    have E : Hid (tnb ts tds = (decide ((tds.length : Int) = prod ts) && wds tds)) := by unfold tnb; rw [hm]; exact Lib.hid (by simp)
    clear hp hr hm
    generalize prod ts = n at *
    by_cases q : (tds.length : Int) = n
    · have b1 : ((tds.length : Int) == n) = true := by simpa using q
      have E2 : Hid (tnb ts tds = wds tds) := by rw [Hid, E.out, decide_eq_true q, Bool.true_and]
      clear q E
      go_enter Try.func63, Try.ntmps63
      go_wp2_with (first | (go_at_call 68; (with_reducible refine C.out.mono ?_); rintro e w' ⟨rfl, rfl⟩) | (go_at_call 61; (with_reducible refine KW.out.mono ?_); rintro e w' ⟨rfl, rfl⟩))
      go_ret
      exact ⟨by rw [E2.out]; rfl, B0.out⟩
    · have b1 : ((tds.length : Int) == n) = false := by simpa using q
      have E2 : Hid (tnb ts tds = false) := by rw [Hid, E.out, decide_eq_false q, Bool.false_and]
      clear q E
      go_enter Try.func63, Try.ntmps63
      go_wp2_with (go_at_call 68; (with_reducible refine C.out.mono ?_); rintro e w' ⟨rfl, rfl⟩)
      go_ret
      exact ⟨by rw [E2.out]; rfl, B0.out⟩
end Go.Proofs.Ytdcmcfmodbdhaaa
namespace Go.Proofs.Ytdcmcfmodbdhaaa
open Go.RowKit Go.Shelf
attribute [local go_sem] Oper.semAt_some

/-- The words where the indexes stand. -/
def cps (sh st : List Int) (off : Int) (ls : List Int) (N : Nat) : List Int := (List.range N).map fun k => ls.getD (off + dot st (atl sh (k : Nat))).toNat 0
theorem cps_len (sh st : List Int) (off : Int) (ls : List Int) (N : Nat) : (cps sh st off ls N).length = N := by simp [cps]
theorem cps_getD {sh st : List Int} {off : Int} {ls : List Int} {N k : Nat} (h : k < N) : (cps sh st off ls N).getD k 0 = ls.getD (off + dot st (atl sh (k : Nat))).toNat 0 := by simp [cps, List.getD, h]
theorem cps_snoc {sh st : List Int} {off : Int} {ls : List Int} {N k P : Nat} (h : k < N) (e : off + dot st (atl sh (k : Nat)) = (P : Int)) : (cps sh st off ls N).take (k + 1) = (cps sh st off ls N).take k ++ [ls.getD P 0] := by
  have hk : k < (cps sh st off ls N).length := by rw [cps_len]; exact h
  have h1 := cps_getD (sh := sh) (st := st) (off := off) (ls := ls) h
  rw [e, Int.toNat_natCast] at h1
  rw [List.take_succ_eq_append_getElem hk]
  rw [List.getD_eq_getElem?_getD, List.getElem?_eq_getElem hk] at h1
  rw [← h1]; rfl
theorem blk2 {W : World} {b : Nat} {t : TypeId} {x y : Value} (h : Blk W b t #[x, y]) : W.cell? ⟨b, 0, none⟩ = some x ∧ W.cell? ⟨b, 1, none⟩ = some y ∧ W.frozen? ⟨b, 0, none⟩ = false ∧ W.frozen? ⟨b, 1, none⟩ = false :=
  ⟨h.cell 0, h.cell 1, h.frozen 0, h.frozen 1⟩
/-- A tensor in new memory, and an error. -/
def SomeT (w : World) (er : Int) (sh ds : List Int) (e : Ending) (w' : World) : Prop := ∃ os cs od cd, e = .returned (.tuple #[.agg #[.slice os sh.length cs, .slice od ds.length cd], .int .i64 er]) ∧ w'.ownsRow w.heap.size 3 1 (.slice os sh.length cs) sh.length (ints sh) ∧ w'.ownsRow w.heap.size 2 1 (.slice od ds.length cd) ds.length (ints ds) ∧ Below w.heap.size w w'
theorem infoW : (Try.prog.info? 2).map (fun i => (i.zero, i.size, i.bytes)) = some (some (.int .i64 0), 1, 8) := by kernel_rfl

set_option maxRecDepth 100000 in
theorem placesf_any (vs vt : Value) (off : Int) (w : World) : Calls Try.prog 62 #[.agg #[vs, vt, .int .i64 off]] w fun e w' => e = .returned (.func (.func 74) #[] #[.pointer (some ⟨w.heap.size, 0, none⟩)]) ∧
    w.alloc (.cells #[vs, vt, .int .i64 off] 25) = w' := by
  go_enter Try.func62, Try.ntmps62
  go_wp2
  refine bodyPost_ret (results_tmp rfl _ _ _) rfl ?_
  exact ⟨rfl, rfl⟩

theorem tens_not_row {w : World} {base n b : Nat} {v : Value} {xs : List Value} {cs : Array Value} {t u : TypeId} (h : w.ownsRow base t 1 v n xs) (hb : Blk w b u cs) (hne : t ≠ u) : ¬ v.ownBlock = some b := by
  intro e
  rcases h.2 with ⟨rfl, _⟩ | ⟨g, cap, cur, rfl, _, hh, _⟩
  · simp [Value.ownBlock] at e
  · simp only [Value.ownBlock, Option.some.injEq] at e
    subst e
    have := hh.symm.trans hb
    simp only [Option.some.injEq, Obj.cells.injEq] at this
    exact hne this.2.1
/-- A word is appended. -/
theorem cp_step {X w9 w5 : World} {T B g k : Nat} {y : Int} {dv : Value} {xs : List Value} {cs : Array Value} (hb : Blk X T 28 cs) (hu : X.ownsRow B 2 1 dv k xs) (hB : Below T w5 X)
    (hgrow : (X.alloc (.cells #[.int .i64 y] 2)).drew.grownBy w9 dv.ownBlock) (_hat : dv.ownBlock = some g ∨ g = X.heap.size + 1) (hTl : T < B) (hXs : B ≤ X.heap.size) :
    Blk w9 T 28 cs ∧ Below T w5 w9 := by
  refine ⟨((hb.alloc _).drew).kept hgrow (fun e => by have := (hu.lt T e.symm).1; omega), ?_⟩
  have h1 := below_drw (hB.alloc (by omega) (.cells #[.int .i64 y] 2)) 1
  exact h1.grown hgrow (by simp; omega) (fun j e => by have := (hu.lt j e).1; omega)
/-- What a round of Copy's loop leaves. -/
def CpI (T B : Nat) (w5 : World) (sv : Value) (ds : List Int) (k : Nat) (W : World) : Prop := ∃ dv, Blk W T 28 #[sv, dv] ∧ W.ownsRow B 2 1 dv k (ints (ds.take k)) ∧ Below T w5 W ∧ B ≤ W.heap.size
theorem cpi_own (T B : Nat) (w5 : World) (sv : Value) (ds : List Int) (hT : T < B) (_hs : w5.heap.size ≤ B) : OwnFrom B (fun (pre : List Nat) W => CpI T B w5 sv ds pre.length W) := by
  rintro s X Y row ⟨dv, h1, h2, h3, h4⟩ hg hr
  have hc : ∀ r, row = some r → ∃ o : Obj, X.heap[r]? = some o ∧ o.isCells = false := fun r e => (hr r e).2
  exact ⟨dv, blk_own (β := Unit) T _ (fun _ => _) () X Y row h1 hg hc, own_kept h2 hg hc, h3.grown hg (by omega) (fun k e => by have := (hr k e).1; omega), Nat.le_trans h4 hg.size⟩
theorem kv_alloc {S : Nat → Prop} {X : World} (o : Obj) (hS : ∀ k, S k → k < X.heap.size) : KV S X (X.alloc o) :=
  ⟨fun k hk => Below.heap_alloc _ _ _ (hS k hk), fun _k _ _ _ e _ => Below.heap_alloc _ _ _ (Array.getElem?_eq_some_iff.1 e).1⟩
theorem cp_done {X w9 w5 : World} {T B g k c : Nat} {y : Int} {dv sv : Value} {ds : List Int} (hown : w9.ownsRow B 2 1 (.slice (some ⟨g, 0, none⟩) (k + 1) c) (k + 1) (ints (ds.take k) ++ [.int .i64 y])) (hb9 : Blk w9 T 28 #[sv, dv]) (hB9 : Below T w5 w9) (hb : Blk X T 28 #[sv, dv]) (hu : X.ownsRow B 2 1 dv k (ints (ds.take k)))
    (hgrow : (X.alloc (.cells #[.int .i64 y] 2)).drew.grownBy w9 dv.ownBlock) (hE : ds.take (k + 1) = ds.take k ++ [y]) (hTl : T < B) (hXs : B ≤ X.heap.size) :
    KeepsFrom B X (w9.setCell ⟨T, 1, none⟩ (.slice (some ⟨g, 0, none⟩) (k + 1) c)) ∧ KV (fun j => j < B ∧ j ≠ T) X (w9.setCell ⟨T, 1, none⟩ (.slice (some ⟨g, 0, none⟩) (k + 1) c)) ∧ CpI T B w5 sv ds (k + 1) (w9.setCell ⟨T, 1, none⟩ (.slice (some ⟨g, 0, none⟩) (k + 1) c)) := by
  have hsz : X.heap.size ≤ w9.heap.size := Nat.le_trans (by simp) hgrow.size
  have same : ∀ j, j < X.heap.size → some j ≠ dv.ownBlock → j ≠ T → (w9.setCell ⟨T, 1, none⟩ (.slice (some ⟨g, 0, none⟩) (k + 1) c)).heap[j]? = X.heap[j]? := fun j h1 h2 h3 =>
    (Below.heap_setCell _ _ _ j h3).trans ((hgrow.block j (by simp; omega) h2).trans (Below.heap_alloc _ _ _ h1))
  have isrow : ∀ (j : Nat) (o : Obj), X.heap[j]? = some o → some j = dv.ownBlock → ∃ cur, o = .cells cur 2 (0, 0) := by
    intro j o ho e
    rcases hu.2 with ⟨rfl, _⟩ | ⟨g', cap, cur, rfl, _, hh, _⟩
    · simp [Value.ownBlock] at e
    · simp only [Value.ownBlock, Option.some.injEq] at e
      subst e
      exact ⟨cur, Option.some.inj (ho.symm.trans hh)⟩
  refine ⟨⟨by simpa using hsz, fun j o hj ho hc => ?_⟩, ⟨fun j hj => ?_, fun j cs t fz ho ht => ?_⟩, .slice (some ⟨g, 0, none⟩) (k + 1) c, hb9.set_ 1 _, ?_, hB9.setCell (Nat.le_refl _) _, by simp; omega⟩
  · refine (same j (Array.getElem?_eq_some_iff.1 ho).1 (fun e => ?_) (by omega)).trans ho
    obtain ⟨cur, rfl⟩ := isrow j o ho e
    cases hc
  · refine same j (by omega) (fun e => ?_) hj.2
    have := (hu.lt j e.symm).1
    omega
  · refine same j (Array.getElem?_eq_some_iff.1 ho).1 (fun e => ?_) (fun e => ?_)
    · obtain ⟨cur, h2⟩ := isrow j _ ho e
      simp only [Obj.cells.injEq] at h2
      rcases ht with rfl | rfl | rfl <;> simp at h2
    · subst e
      have h2 := ho.symm.trans hb
      simp only [Option.some.injEq, Obj.cells.injEq] at h2
      rcases ht with rfl | rfl | rfl <;> simp at h2
  · rw [hE, ints_snoc]
    exact hown.kept (grown_set w9 ⟨T, 1, none⟩ _) (.inr (tens_not_row hown hb9 (by decide)))

theorem cp_end {X : World} {b D base n : Nat} {e : TypeId} {v : Value} {xs : List Value} {cs : Array Value} {o : Obj} (hO : X.ownsRow base e 1 v n xs) (hb : Blk X b 28 cs) (hD : X.heap[D]? = some o) (hc : o.isCells = false) (hne : e ≠ 28) (u1 u2 : Value) (o' : Obj) :
    (((X.setCell ⟨b, 0, none⟩ u1).setCell ⟨b, 1, none⟩ u2).putObj D o').ownsRow base e 1 v n xs := by
  have h1 := hO.kept (grown_set X ⟨b, 0, none⟩ u1) (.inr (tens_not_row hO hb hne))
  have hb1 := hb.set_ 0 u1
  have h2 := h1.kept (grown_set _ ⟨b, 1, none⟩ u2) (.inr (tens_not_row h1 hb1 hne))
  have hne : D ≠ b := by rintro rfl; rw [show X.heap[D]? = _ from hb] at hD; cases hD; cases hc
  exact own_kept h2 (grownBy_putObj' _ D o') (fun r er => by cases er; exact ⟨o, ((Below.heap_setCell _ _ _ _ hne).trans (Below.heap_setCell _ _ _ _ hne)).trans hD, hc⟩)

set_option maxRecDepth 100000 in
set_option maxHeartbeats 8000000 in
theorem copy_ok (vs vt vd : Value) (sh st ls : List Int) (off : Int) (N : Nat) (w : World) (hs : Ld w vs sh) (ht : Ld w vt st) (hd : Ld w vd ls) (hv : vwb sh st off ls.length = true) (hwd : wds ls = true) (hN : (N : Int) = prod sh) :
    Calls Try.prog 37 #[.agg #[vs, vt, .int .i64 off], vd] w (SomeT w 0 sh (cps sh st off ls N)) := by
  obtain ⟨i0, hi0, hz0, hz1, hz2⟩ := info_parts infoW
  have hVw := vwb_iff.1 hv
  have l4 := may_len hVw.1
  have hls : ls.length ≤ 65536 := by have := hVw.2.2.2.2.1; omega
  have hN6 : N ≤ 65536 := by have := may_prod hVw.1; omega
  obtain ⟨w3, hw3⟩ : ∃ w3, w3 = ((w.alloc (.cells #[vs, vt, .int .i64 off] 25)).alloc (.cells #[vd] 26)).alloc (.cells #[.slice none 0 0, .slice none 0 0] 28) := ⟨_, rfl⟩
  have hsz : w3.heap.size = w.heap.size + 3 := by rw [hw3]; simp
  have B3 : Below w.heap.size w w3 := by rw [hw3]; exact (((Below.refl _ _).alloc (Nat.le_refl _) _).alloc (by simp) _).alloc (by simp; omega) _
  have K0 : Hid (Blk w3 w.heap.size 25 #[vs, vt, .int .i64 off]) := by rw [hw3]; exact ((Blk.new w _ _).alloc _).alloc _
  have K1 : Hid (Blk w3 (w.heap.size + 1) 26 #[vd]) := by rw [hw3]; exact (blk_new1 w _ _ _).alloc _
  have K2 : Hid (Blk w3 (w.heap.size + 2) 28 #[.slice none 0 0, .slice none 0 0]) := by
    rw [hw3]
    have q := Blk.new ((w.alloc (.cells #[vs, vt, .int .i64 off] 25)).alloc (.cells #[vd] 26)) 28 #[.slice none 0 0, .slice none 0 0]
    rwa [World.size_alloc, World.size_alloc] at q
  have C1 : Hid (∀ n, w3.heap.size = n → Calls Try.prog 28 #[.agg #[vs, vt, .int .i64 off], .int .i64 (ls.length : Int)] w3 fun e w' => e = .returned (.int .i64 0) ∧ Below n w3 w') := fun n hn => by
    subst hn
    have := vcheck_any vs vt sh st off ls.length w3 (hs.below B3) (ht.below B3) (by omega) (by have := hVw.2.1; omega)
    rwa [hv, frm_t] at this
  replace C1 := Lib.hid (C1.out (w.heap.size + 3) hsz)
  have C2 := Lib.hid (fun (W : World) (hW : Below w.heap.size w W) => cloned_any vs sh W (hs.below hW) (by omega))
  have C3 : Hid (∀ W, Below w.heap.size w W → Calls Try.prog 61 #[vd] W fun e w' => e = .returned (.bool true) ∧ W = w') := Lib.hid (fun W hW => by have := arewords_any vd ls W (hd.below hW) (by omega); rwa [hwd] at this)
  clear hwd
  have HSV := Lib.hid (And.intro hs (And.intro ht hd))
  obtain ⟨o1, n1, rfl, _, _⟩ := id hs
  obtain ⟨o2, n2, rfl, _, _⟩ := id ht
  obtain ⟨o3, n3, rfl, _, hxd⟩ := id hd
  have HXD := Lib.hid hxd
  have HW := Lib.hid hw3
  have HV := Lib.hid (And.intro hVw hN)
  rw [hw3] at C1
  have k0 := blk3 (show Blk w3 w.heap.size 25 _ from K0.out)
  clear hw3 hs ht hd hxd hv hVw hN k0
  refine (callsIn_wide (n := 9)).1 ?_
  refine callsIn_of_wp_marks Try.func37 rfl trivial ?_
  simp only [Try.ntmps37, List.size_toArray, List.length_cons, List.length_nil, Nat.reduceAdd, Nat.reduceSub, Array.replicate_succ, Array.replicate_zero, List.push_toArray, List.append_toArray, List.nil_append, List.cons_append]
  refine wpIn_wide.2 ?_
  go_wp2_with (first
    | (go_at_call 28; (with_reducible refine C1.out.mono ?_); rintro e w4 ⟨rfl, hb4⟩; rw [← HW.out] at hb4; have b4 := B3.trans (hb4.mono (by omega)); replace K0 := Lib.hid (K0.out.below hb4 (by omega)); replace K1 := Lib.hid (K1.out.below hb4 (by omega)); replace K2 := Lib.hid (K2.out.below hb4 (by omega)); obtain ⟨c0, c1, c2, _⟩ := blk3 K0.out; have c3 := K1.out.cell 0; have s4 := Nat.le_trans (Nat.le_of_eq hsz.symm) hb4.size; clear hb4)
    | (go_at_call 61; (with_reducible refine (C3.out _ b4).mono ?_); rintro e w' ⟨rfl, rfl⟩)
    | (go_at_call 51; (with_reducible refine (C2.out _ b4).mono ?_); rintro e w5 ⟨o5, c5, rfl, ho5, _, hb5⟩; have b5 := b4.trans (hb5.mono (by omega)); replace K0 := Lib.hid (K0.out.below hb5 (by omega)); replace K1 := Lib.hid (K1.out.below hb5 (by omega)); replace K2 := Lib.hid (K2.out.below hb5 (by omega)); obtain ⟨c0, c1, c2, _⟩ := blk3 K0.out; have c3 := K1.out.cell 0; have s5 := hb5.size; have O5 := Lib.hid (own_base (base' := w.heap.size) ho5 (by omega)); have k0l := K0.out.lt; clear ho5 hb5)
    | (go_at_call 62; (with_reducible refine (placesf_any _ _ _ _).mono ?_); rintro e w7 ⟨rfl, hw7⟩))
  have s7 : w7.heap.size = w5.heap.size + 2 := by rw [← hw7]; simp
  have HT7 : Hid (Blk w7 w5.heap.size 28 #[.slice o5 sh.length c5, .slice none 0 0]) := by rw [← hw7]; exact (Blk.new w5 _ _).alloc _
  have HV7 : Hid (Blk w7 (w5.heap.size + 1) 25 #[.slice o1 sh.length n1, .slice o2 st.length n2, .int .i64 off]) := by rw [← hw7]; exact blk_new1 w5 _ _ _
  have HB7 : Hid (Below w5.heap.size w5 w7) := by rw [← hw7]; exact ((Below.refl _ _).alloc (Nat.le_refl _) _).alloc (by simp) _
  have B7 := b5.trans (HB7.out.mono (by omega))
  have hsz5 : w.heap.size + 3 ≤ w5.heap.size := Nat.le_trans s4 s5
  have OLD : Hid (∀ W, Below w5.heap.size w5 W → W.cell? ⟨w.heap.size + 1, 0, none⟩ = some (.slice o3 ls.length n3) ∧ Below w.heap.size w W) := Lib.hid (fun W hW => ⟨(K1.out.below hW (by omega)).cell 0, b5.trans (hW.mono (by omega))⟩)
  refine (wpIn_wide (n := 9)).1 ?_
  refine wpIn_rangeFunc_told2 (F := Fence.wide) (n := 9) rfl (by decide) (gf := 74) (lb := #[.pointer (some ⟨w5.heap.size + 1, 0, none⟩)]) rfl trivial (enters_of Try.func74 (by kernel_rfl) rfl)
    (places1_told 8 (by decide) (fun j => j < w7.heap.size ∧ j ≠ w5.heap.size) (w5.heap.size + 1) (.slice o1 sh.length n1) (.slice o2 st.length n2) sh st off N w7 HV7.out (HSV.out.1.below B7) (HSV.out.2.1.below B7) HV.out.1.1 HV.out.1.2.1 HV.out.1.2.2.1 HV.out.1.2.2.2.1 (by have h1 := HV.out.1.2.2.2.2.1; have h2 := HV.out.1.2.2.2.2.2.2; omega) HV.out.2 ⟨by omega, by omega⟩ ?hTS)
    KV.trans ?keepb (fun _ => rfl)
    (fun pre W => CpI w5.heap.size w7.heap.size w5 (.slice o5 sh.length c5) (cps sh st off ls N) pre.length W) (fun _ _ _ => False)
    ?ownI (fun _ _ _ _ _ h _ _ => h) ?ownT ⟨.slice none 0 0, HT7.out, ⟨rfl, .inl ⟨rfl, rfl⟩⟩, HB7.out, Nat.le_refl _⟩ ?a1 ?assign ?body ?done ?stop
  case hTS =>
    intro i hi
    obtain ⟨o, c, e, _, hx⟩ := HSV.out.2.1
    obtain ⟨b, f, rfl, hb, _⟩ := hx i hi
    exact ⟨b, f, c, e, by omega, by omega⟩
  case keepb =>
    intro X k o o' hk ho hc _
    refine ⟨fun j hj => World.putObj_heap_other (by omega), fun j cs t fz e ht => World.putObj_heap_other (fun e2 => ?_)⟩
    subst e2
    rw [ho] at e
    cases e
    cases hc
  case ownI => exact cpi_own w5.heap.size w7.heap.size w5 _ _ (by omega) (by omega)
  case ownT => exact fun pre x _ _ _ _ h _ _ => h
  case assign =>
    intro l2 x X K hK
    unfold plc
    gi_wp2
    exact hK
  case body =>
    rintro l2 pre x X ⟨dv, hTb, hDv, hBX, hXs⟩ hlt hx
    obtain rfl : x = pre.length := hx
    have hp := may_pos HV.out.1.1
    have hN := HV.out.2
    have hat := vw_at HV.out.1 (atl_inx sh (pre.length : Nat) hp (by omega) (by omega))
    obtain ⟨P, hP⟩ := Int.eq_ofNat_of_zero_le hat.1
    rw [hP] at hat
    have hPl : P < ls.length := by omega
    have EA := Lib.hid (cps_snoc (ls := ls) (k := pre.length) (N := N) hlt hP)
    obtain ⟨o3', n3', e3, _, hx3⟩ := HSV.out.2.2
    simp only [Value.slice.injEq] at e3
    obtain ⟨rfl, _, rfl⟩ := e3
    obtain ⟨b3, f3, rfl, hb3, hc3⟩ := hx3 P hPl
    have OLD2 : Hid (∀ W, Below w5.heap.size w5 W → W.cell? ⟨w.heap.size + 1, 0, none⟩ = some (.slice (some ⟨b3, f3, none⟩) ls.length n3) ∧ W.cell? ⟨b3, f3 + P, none⟩ = some (.int .i64 (ls.getD P 0)) ∧ True) := Lib.hid (fun W hW => ⟨(OLD.out W hW).1, ((OLD.out W hW).2.cell hb3).trans hc3, trivial⟩)
    have hk6 : pre.length < 65536 := by omega
    obtain ⟨c0, c1, f0, f1⟩ := blk2 hTb
    obtain ⟨c2, c3, _⟩ := OLD2.out X hBX
    have ca := fun (o : Obj) => Lib.cell?_alloc_some o c1
    have HT := Lib.hid hTb
    have HO := Lib.hid hDv
    have HB := Lib.hid hBX
    have hTl : w5.heap.size < w7.heap.size := by omega
    rw [hP]
    generalize hy : ls.getD P 0 = y at *
    clear hTb hDv hBX hat hp hN hc3 hx3 s7
    replace OLD := OLD2
    gi_wp2
    refine wpIn_mono (region_in (S := fun W => W.cell? ⟨w.heap.size + 1, 0, none⟩ = some (.slice (some ⟨b3, f3, none⟩) ls.length n3) ∧ W.cell? ⟨b3, f3 + P, none⟩ = some (.int .i64 y)) (R := fun W => KeepsFrom w7.heap.size X W ∧ KV (fun j => j < w7.heap.size ∧ j ≠ w5.heap.size) X W ∧ CpI w5.heap.size w7.heap.size w5 (.slice o5 sh.length c5) (cps sh st off ls N) (pre.length + 1) W) (by kernel_rfl) (by kernel_rfl) ?_ (fun hHeld => ?_)) ?_
    · exact ⟨by simpa using c2, by simpa using c3⟩
    · have hHd := hHeld
      simp only [List.size_toArray, List.length_cons, List.length_nil, Nat.reduceAdd, Array.replicate_succ, Array.replicate_zero, List.push_toArray, List.nil_append, List.cons_append]
      (refine wpAnyH_take (i := 0) (oi := ⟨some 28, _, _, _, _, _⟩) (v := ?v0) rfl (by kernel_rfl) (by kernel_rfl) (by kernel_rfl) (fun _ _ _ h => h) (Or.inl ⟨by rfl, ?hy0⟩) (by assumption) ?rest0; (case hy0 => ((intro w hSw); (try dsimp only at hSw); go_simp; first | done | (with_reducible rfl))))
      (try simp only [Act.put, List.setIfInBounds_toArray, List.set_cons_zero, List.set_cons_succ])
      (refine wpAnyH_take (i := 3) (oi := ⟨some 31, _, _, _, _, _⟩) (v := ?v3) rfl (by kernel_rfl) (by kernel_rfl) (by kernel_rfl) (fun _ _ _ h => h) (Or.inl ⟨by rfl, ?hy3⟩) (by assumption) ?rest3; (case hy3 => ((intro w hSw); (try dsimp only at hSw); go_simp; first | done | (with_reducible rfl))))
      (try simp only [Act.put, List.setIfInBounds_toArray, List.set_cons_zero, List.set_cons_succ])
      (refine wpAnyH_take (i := 2) (oi := ⟨some 30, _, _, _, _, _⟩) (v := ?v2) rfl (by kernel_rfl) (by kernel_rfl) (by kernel_rfl) (fun _ _ _ h => h) (Or.inl ⟨by rfl, ?hy2⟩) (by assumption) ?rest2; (case hy2 => ((intro w hSw); (try dsimp only at hSw); go_simp; first | done | (with_reducible rfl))))
      (try simp only [Act.put, List.setIfInBounds_toArray, List.set_cons_zero, List.set_cons_succ])
      (refine wpAnyH_take (i := 4) (oi := ⟨some 32, _, _, _, _, _⟩) (v := ?v4) rfl (by kernel_rfl) (by kernel_rfl) (by kernel_rfl) (fun _ _ _ h => h) (Or.inl ⟨by rfl, ?hy4⟩) (by assumption) ?rest4; (case hy4 => ((intro w hSw); (try dsimp only at hSw); go_simp; first | done | (with_reducible rfl))))
      (try simp only [Act.put, List.setIfInBounds_toArray, List.set_cons_zero, List.set_cons_succ])
      (refine wpAnyH_take (i := 5) (oi := ⟨some 33, _, _, _, _, _⟩) (v := ?v5) rfl (by kernel_rfl) (by kernel_rfl) (by kernel_rfl) (fun _ _ _ h => h) (Or.inl ⟨by rfl, ?hy5⟩) (by assumption) ?rest5; (case hy5 => ((intro w hSw); (try dsimp only at hSw); go_simp; first | done | (with_reducible rfl))))
      (try simp only [Act.put, List.setIfInBounds_toArray, List.set_cons_zero, List.set_cons_succ])
      refine wpAnyH_ready (rs := [1, 6]) (by kernel_rfl) (by simp) ?_
      refine AllReadyH.cons (o := ⟨some 29, _, _, _, _, _⟩) rfl (fun K hK => ?_) (AllReadyH.cons (o := ⟨some 34, _, _, _, _, _⟩) rfl (fun K hK => ?_) AllReadyH.nil)
      · go_simp
        refine hK.out _ _ ?_ (fun hHeld => ?_)
        · (try dsimp only)
          first | assumption | (simp [go_sem, *]; done) | (simp [go_sem, World.cell?_alloc_some, *]; done) | exact ⟨(e9.out _).1, (e9.out _).2.1⟩
        clear hK K
        (try simp only [List.setIfInBounds_toArray, List.set_cons_zero, List.set_cons_succ])
        refine wpAnyH_ready (rs := [6]) (by kernel_rfl) (by simp) ?_
        refine AllReadyH.cons (o := ⟨some 34, _, _, _, _, _⟩) rfl (fun K hK => ?_) AllReadyH.nil
        go_simp
        refine hK.out _ _ ?_ (fun hHeld => ?_)
        · (try dsimp only)
          first | assumption | (simp [go_sem, *]; done) | (simp [go_sem, World.cell?_alloc_some, *]; done) | exact ⟨(e9.out _).1, (e9.out _).2.1⟩
        clear hK K
        (try simp only [List.setIfInBounds_toArray, List.set_cons_zero, List.set_cons_succ])
        refine wpAnyH_ready (rs := [7]) (by kernel_rfl) (by simp) ?_
        refine AllReadyH.cons (o := ⟨some 35, _, _, _, _, _⟩) rfl (fun K hK => ?_) AllReadyH.nil
        refine step_append_lies _ (by rfl) (.tmp 29) (.tmp 34) 26 (by rfl) w7.heap.size 2 i0 (.int .i64 0) 1 8 Try.underlying26 hi0 hz0 hz1 hz2 rfl (by decide) dv pre.length (ints ((cps sh st off ls N).take pre.length)) (by rfl) (HO.out.alloc _) ⟨X.heap.size, 0, none⟩ 1 1 [.int .i64 y] (by rfl) rfl (cell_one_new _ _ _) (by simp [Value.oneCell']) (by decide) (by unfold maxLen; omega) (by omega) (by simp; omega) (X.heap.size + 1) (by simp) ?_
        intro g9 cp9 w9 hown hgrow hat _
        have Q9 := Lib.hid (And.intro hown (cp_step HT.out HO.out HB.out hgrow hat hTl hXs))
        obtain ⟨_, p0, h0, h1⟩ := blk2 Q9.out.2.1
        have e9 := Lib.hid (fun (z : Value) => OLD.out _ (Q9.out.2.2.setCell (p := ⟨w5.heap.size, 1, none⟩) (Nat.le_refl _) z))
        obtain ⟨q0, q1, _⟩ := OLD.out w9 Q9.out.2.2
        have R9 := Lib.hid (cp_done Q9.out.1 Q9.out.2.1 Q9.out.2.2 HT.out HO.out hgrow EA.out hTl hXs)
        clear hown hgrow hat
        refine hK.out _ _ ?_ (fun hHeld => ?_)
        · (try dsimp only)
          first | assumption | (simp [go_sem, *]; done) | (simp [go_sem, World.cell?_alloc_some, *]; done) | exact ⟨(e9.out _).1, (e9.out _).2.1⟩
        clear hK K
        (try simp only [Act.put, List.setIfInBounds_toArray, List.set_cons_zero, List.set_cons_succ])
        refine wpAnyH_ready (rs := [8]) (by kernel_rfl) (by simp) ?_
        refine AllReadyH.cons (o := ⟨some 36, _, _, _, _, _⟩) rfl (fun K hK => ?_) AllReadyH.nil
        go_simp
        refine hK.out _ _ ?_ (fun hHeld => ?_)
        · (try dsimp only)
          first | assumption | (simp [go_sem, *]; done) | (simp [go_sem, World.cell?_alloc_some, *]; done) | exact ⟨(e9.out _).1, (e9.out _).2.1⟩
        clear hK K
        (try simp only [List.setIfInBounds_toArray, List.set_cons_zero, List.set_cons_succ])
        refine wpAnyH_ready (rs := [9]) (by kernel_rfl) (by simp) ?_
        refine AllReadyH.cons (o := ⟨none, _, _, _, _, _⟩) rfl (fun K hK => ?_) AllReadyH.nil
        go_simp
        refine hK.out _ _ ?_ (fun hHeld => ?_)
        · (try dsimp only)
          first | assumption | (simp [go_sem, *]; done) | (simp [go_sem, World.cell?_alloc_some, *]; done) | exact ⟨(e9.out _).1, (e9.out _).2.1⟩
        clear hK K
        (try simp only [List.setIfInBounds_toArray, List.set_cons_zero, List.set_cons_succ])
        refine wpAnyH_done (by kernel_rfl) ?_ _
        exact ⟨rfl, R9.out⟩
      · go_simp
        refine hK.out _ _ ?_ (fun hHeld => ?_)
        · (try dsimp only)
          first | assumption | (simp [go_sem, *]; done) | (simp [go_sem, World.cell?_alloc_some, *]; done) | exact ⟨(e9.out _).1, (e9.out _).2.1⟩
        clear hK K
        (try simp only [List.setIfInBounds_toArray, List.set_cons_zero, List.set_cons_succ])
        refine wpAnyH_ready (rs := [1]) (by kernel_rfl) (by simp) ?_
        refine AllReadyH.cons (o := ⟨some 29, _, _, _, _, _⟩) rfl (fun K hK => ?_) AllReadyH.nil
        go_simp
        refine hK.out _ _ ?_ (fun hHeld => ?_)
        · (try dsimp only)
          first | assumption | (simp [go_sem, *]; done) | (simp [go_sem, World.cell?_alloc_some, *]; done) | exact ⟨(e9.out _).1, (e9.out _).2.1⟩
        clear hK K
        (try simp only [List.setIfInBounds_toArray, List.set_cons_zero, List.set_cons_succ])
        refine wpAnyH_ready (rs := [7]) (by kernel_rfl) (by simp) ?_
        refine AllReadyH.cons (o := ⟨some 35, _, _, _, _, _⟩) rfl (fun K hK => ?_) AllReadyH.nil
        refine step_append_lies _ (by rfl) (.tmp 29) (.tmp 34) 26 (by rfl) w7.heap.size 2 i0 (.int .i64 0) 1 8 Try.underlying26 hi0 hz0 hz1 hz2 rfl (by decide) dv pre.length (ints ((cps sh st off ls N).take pre.length)) (by rfl) (HO.out.alloc _) ⟨X.heap.size, 0, none⟩ 1 1 [.int .i64 y] (by rfl) rfl (cell_one_new _ _ _) (by simp [Value.oneCell']) (by decide) (by unfold maxLen; omega) (by omega) (by simp; omega) (X.heap.size + 1) (by simp) ?_
        intro g9 cp9 w9 hown hgrow hat _
        have Q9 := Lib.hid (And.intro hown (cp_step HT.out HO.out HB.out hgrow hat hTl hXs))
        obtain ⟨_, p0, h0, h1⟩ := blk2 Q9.out.2.1
        have e9 := Lib.hid (fun (z : Value) => OLD.out _ (Q9.out.2.2.setCell (p := ⟨w5.heap.size, 1, none⟩) (Nat.le_refl _) z))
        obtain ⟨q0, q1, _⟩ := OLD.out w9 Q9.out.2.2
        have R9 := Lib.hid (cp_done Q9.out.1 Q9.out.2.1 Q9.out.2.2 HT.out HO.out hgrow EA.out hTl hXs)
        clear hown hgrow hat
        refine hK.out _ _ ?_ (fun hHeld => ?_)
        · (try dsimp only)
          first | assumption | (simp [go_sem, *]; done) | (simp [go_sem, World.cell?_alloc_some, *]; done) | exact ⟨(e9.out _).1, (e9.out _).2.1⟩
        clear hK K
        (try simp only [Act.put, List.setIfInBounds_toArray, List.set_cons_zero, List.set_cons_succ])
        refine wpAnyH_ready (rs := [8]) (by kernel_rfl) (by simp) ?_
        refine AllReadyH.cons (o := ⟨some 36, _, _, _, _, _⟩) rfl (fun K hK => ?_) AllReadyH.nil
        go_simp
        refine hK.out _ _ ?_ (fun hHeld => ?_)
        · (try dsimp only)
          first | assumption | (simp [go_sem, *]; done) | (simp [go_sem, World.cell?_alloc_some, *]; done) | exact ⟨(e9.out _).1, (e9.out _).2.1⟩
        clear hK K
        (try simp only [List.setIfInBounds_toArray, List.set_cons_zero, List.set_cons_succ])
        refine wpAnyH_ready (rs := [9]) (by kernel_rfl) (by simp) ?_
        refine AllReadyH.cons (o := ⟨none, _, _, _, _, _⟩) rfl (fun K hK => ?_) AllReadyH.nil
        go_simp
        refine hK.out _ _ ?_ (fun hHeld => ?_)
        · (try dsimp only)
          first | assumption | (simp [go_sem, *]; done) | (simp [go_sem, World.cell?_alloc_some, *]; done) | exact ⟨(e9.out _).1, (e9.out _).2.1⟩
        clear hK K
        (try simp only [List.setIfInBounds_toArray, List.set_cons_zero, List.set_cons_succ])
        refine wpAnyH_done (by kernel_rfl) ?_ _
        exact ⟨rfl, R9.out⟩
    · rintro e a3 W3 ⟨rfl, hR⟩
      have e1 : (pre ++ [pre.length]).length = pre.length + 1 := by simp
      exact ⟨hR.1, hR.2.1, by show CpI _ _ _ _ _ (pre ++ [pre.length]).length _; rw [e1]; exact hR.2.2⟩
  case done =>
    rintro D ys X hD hys ⟨dv, hTb, hDv, hBX, hXs⟩ hK
    obtain ⟨c0, c1, f0, f1⟩ := blk2 hTb
    have R2 := K2.out.below hBX (by omega)
    obtain ⟨d0, d1, g0, g1⟩ := blk2 R2
    have hDv2 : X.ownsRow w7.heap.size 2 1 dv (cps sh st off ls N).length (ints (cps sh st off ls N)) := by
      have h := hDv
      rw [show ys.length = N from hys, List.take_of_length_le (by rw [cps_len]; exact Nat.le_refl _)] at h
      rw [cps_len]
      exact h
    clear hDv hys
    generalize cps sh st off ls N = ds at *
    obtain ⟨od, cd, rfl, _⟩ := Ld.of_owns hDv2
    have hDb : w.heap.size ≤ D := by omega
    have hb2 : w.heap.size + 2 < w5.heap.size := by omega
    have e1 := cp_end (Below.keepOwn O5.out hBX (Nat.le_refl _)) R2 hK rfl (by decide) (.slice o5 sh.length c5) (.slice od ds.length cd) (.deferred none)
    have e2 := cp_end (own_base hDv2 (show w.heap.size ≤ w7.heap.size by omega)) R2 hK rfl (by decide) (.slice o5 sh.length c5) (.slice od ds.length cd) (.deferred none)
    have hK2 : ((X.setCell ⟨w.heap.size + 2, 0, none⟩ (.slice o5 sh.length c5)).setCell ⟨w.heap.size + 2, 1, none⟩ (.slice od ds.length cd)).heap[D]? = some (.deferred (some [])) := ((Below.heap_setCell _ _ _ _ (by show D ≠ w.heap.size + 2; omega)).trans (Below.heap_setCell _ _ _ _ (by show D ≠ w.heap.size + 2; omega))).trans hK
    have e3 : Below w.heap.size w ((((X.setCell ⟨w.heap.size + 2, 0, none⟩ (.slice o5 sh.length c5)).setCell ⟨w.heap.size + 2, 1, none⟩ (.slice od ds.length cd))).putObj D (.deferred none)) := (((b5.trans (hBX.mono (by omega))).setCell (p := ⟨w.heap.size + 2, 0, none⟩) (by show w.heap.size ≤ w.heap.size + 2; omega) _).setCell (p := ⟨w.heap.size + 2, 1, none⟩) (by show w.heap.size ≤ w.heap.size + 2; omega) _).trans (belowK_b (w := w) (Nat.le_refl _) _ D _ (.deferred none) hDb hK2 rfl rfl)
    have R3 : Blk ((((X.setCell ⟨w.heap.size + 2, 0, none⟩ (.slice o5 sh.length c5)).setCell ⟨w.heap.size + 2, 1, none⟩ (.slice od ds.length cd))).putObj D (.deferred none)) (w.heap.size + 2) 28 #[.slice o5 sh.length c5, .slice od ds.length cd] := ((R2.set_ 0 _).set_ 1 _).kept (grownBy_putObj' _ D _) (by intro e; cases e; omega)
    obtain ⟨p0, p1, _⟩ := blk2 R3
    have EN := Lib.hid (And.intro e1 (And.intro e2 e3))
    have HK2 := Lib.hid hK2
    have P0 := Lib.hid (And.intro p0 p1)
    clear e1 e2 e3 hK2 R3 p0 p1 hDv2
    go_wp2
    refine ⟨by simp, .inl ⟨_, _, rfl, run_takeDeferred HK2.out, ?_⟩⟩
    have p0 := P0.out.1
    have p1 := P0.out.2
    refine ⟨.tuple #[.agg #[.slice o5 sh.length c5, .slice od ds.length cd], .int .i64 0], by simp [results, Try.results37, go_sem, p0, p1], ?_⟩
    exact ⟨o5, c5, od, cd, rfl, EN.out⟩
  case stop =>
    rintro D cd pre X hD hpre hf hK
    exact hf.elim

/-- Copy's error. -/
def cpe (sh st ls : List Int) (off : Int) : Int := if vwb sh st off ls.length && wds ls then 0 else 1
set_option maxRecDepth 100000 in
set_option maxHeartbeats 8000000 in
theorem copy_no (vs vt vd : Value) (sh st ls : List Int) (off : Int) (w : World) (hs : Ld w vs sh) (ht : Ld w vt st) (hd : Ld w vd ls) (l1 : sh.length ≤ 17592186044416) (l2 : st.length ≤ 17592186044416) (l3 : ls.length ≤ 17592186044416) (hv : (vwb sh st off ls.length && wds ls) = false) :
    Calls Try.prog 37 #[.agg #[vs, vt, .int .i64 off], vd] w (SomeT w 1 [] []) := by
  obtain ⟨w3, hw3⟩ : ∃ w3, w3 = ((w.alloc (.cells #[vs, vt, .int .i64 off] 25)).alloc (.cells #[vd] 26)).alloc (.cells #[.slice none 0 0, .slice none 0 0] 28) := ⟨_, rfl⟩
  have hsz : w3.heap.size = w.heap.size + 3 := by rw [hw3]; simp
  have B3 : Below w.heap.size w w3 := by rw [hw3]; exact (((Below.refl _ _).alloc (Nat.le_refl _) _).alloc (by simp) _).alloc (by simp; omega) _
  have K1 : Hid (Blk w3 (w.heap.size + 1) 26 #[vd]) := by rw [hw3]; exact (blk_new1 w _ _ _).alloc _
  have K2 : Hid (Blk w3 (w.heap.size + 2) 28 #[.slice none 0 0, .slice none 0 0]) := by
    rw [hw3]
    have q := Blk.new ((w.alloc (.cells #[vs, vt, .int .i64 off] 25)).alloc (.cells #[vd] 26)) 28 #[.slice none 0 0, .slice none 0 0]
    rwa [World.size_alloc, World.size_alloc] at q
  have C1 : Hid (∀ n, w3.heap.size = n → Calls Try.prog 28 #[.agg #[vs, vt, .int .i64 off], .int .i64 (ls.length : Int)] w3 fun e w' => e = .returned (.int .i64 (frm (vwb sh st off ls.length))) ∧ Below n w3 w') := fun n hn => by
    subst hn
    exact vcheck_any vs vt sh st off ls.length w3 (hs.below B3) (ht.below B3) l1 l2
  replace C1 := Lib.hid (C1.out (w.heap.size + 3) hsz)
  have C3 := Lib.hid (fun (W : World) (hW : Below w.heap.size w W) => arewords_any vd ls W (hd.below hW) (by omega))
  obtain ⟨o1, n1, rfl, _, _⟩ := id hs
  obtain ⟨o2, n2, rfl, _, _⟩ := id ht
  obtain ⟨o3, n3, rfl, _, _⟩ := id hd
  have HW := Lib.hid hw3
  rw [hw3] at C1
  clear hw3 hs ht hd
  have END : ∀ W, Below w.heap.size w W → ∀ T, Blk W T 28 #[.slice none 0 0, .slice none 0 0] → w.heap.size ≤ T → SomeT w 1 [] [] (.returned (.tuple #[.agg #[.slice none 0 0, .slice none 0 0], .int .i64 1])) W := fun W hW T _ _ => ⟨none, 0, none, 0, rfl, World.ownsRow_nil _ _ _ _, World.ownsRow_nil _ _ _ _, hW⟩
  have HE := Lib.hid END
  clear END
  cases hvw : vwb sh st off ls.length with
  | false =>
    rw [hvw, frm_f] at C1
    clear hv hvw
    go_enter Try.func37, Try.ntmps37
    go_wp2_with (go_at_call 28; (with_reducible refine C1.out.mono ?_); rintro e w4 ⟨rfl, hb4⟩; rw [← HW.out] at hb4; have b4 := B3.trans (hb4.mono (by omega)); replace K2 := Lib.hid (K2.out.below hb4 (by omega)); obtain ⟨d0, d1, f0, f1⟩ := blk2 K2.out; clear hb4)
    have K3 := (K2.out.set_ 0 (.slice none 0 0)).set_ 1 (.slice none 0 0)
    obtain ⟨p0, p1, _, _⟩ := blk2 K3
    refine bodyPost_ret (v := .tuple #[.agg #[.slice none 0 0, .slice none 0 0], .int .i64 1]) (by simp [results, Try.results37, go_sem, p0, p1]) rfl ?_
    exact HE.out _ ((b4.setCell (by show w.heap.size ≤ w.heap.size + 1 + 1; omega) _).setCell (by show w.heap.size ≤ w.heap.size + 1 + 1; omega) _) _ K3 (by omega)
  | true =>
    have hw0 : wds ls = false := by rw [hvw, Bool.true_and] at hv; exact hv
    rw [hvw, frm_t] at C1
    rw [hw0] at C3
    clear hv hvw hw0
    go_enter Try.func37, Try.ntmps37
    go_wp2_with (first
      | (go_at_call 28; (with_reducible refine C1.out.mono ?_); rintro e w4 ⟨rfl, hb4⟩; rw [← HW.out] at hb4; have b4 := B3.trans (hb4.mono (by omega)); replace K2 := Lib.hid (K2.out.below hb4 (by omega)); obtain ⟨d0, d1, f0, f1⟩ := blk2 K2.out; have c3 := (K1.out.below hb4 (by omega)).cell 0; clear hb4)
      | (go_at_call 61; (with_reducible refine (C3.out _ b4).mono ?_); rintro e w' ⟨rfl, rfl⟩))
    have K3 := (K2.out.set_ 0 (.slice none 0 0)).set_ 1 (.slice none 0 0)
    obtain ⟨p0, p1, _, _⟩ := blk2 K3
    refine bodyPost_ret (v := .tuple #[.agg #[.slice none 0 0, .slice none 0 0], .int .i64 1]) (by simp [results, Try.results37, go_sem, p0, p1]) rfl ?_
    exact HE.out _ ((b4.setCell (by show w.heap.size ≤ w.heap.size + 1 + 1; omega) _).setCell (by show w.heap.size ≤ w.heap.size + 1 + 1; omega) _) _ K3 (by omega)
end Go.Proofs.Ytdcmcfmodbdhaaa
namespace Go.Proofs.Ytdcmcfmodbdhaaa

theorem cps_cons {n : Nat} {sh st ls : List Int} {off : Int} {N k : Nat} (hN : (N : Int) = prod sh) (hk : k < n) : ((cps ((n : Int) :: sh) (0 :: st) off ls (n * N)).drop (k * N)).take N = cps sh st off ls N := by
  have hm : (k + 1) * N ≤ n * N := Nat.mul_le_mul_right N hk
  rw [Nat.add_mul, Nat.one_mul] at hm
  apply List.ext_getElem
  · simp [cps]; omega
  · intro j h1 h2
    have hj : j < N := by simpa [cps] using h2
    simp only [cps, List.getElem_take, List.getElem_drop, List.getElem_map, List.getElem_range]
    obtain ⟨x, e⟩ := atl_cons (n : Int) sh (k := k) hN hj
    rw [e, dot_cons]
end Go.Proofs.Ytdcmcfmodbdhaaa
namespace Go.Proofs.Ytdcmcfmodbdhaaa
open Go.RowKit Go.Shelf

theorem run_append_noneC {P : Program} {w : World} (base : Nat) (t ty e : TypeId) (i : TypeInfo) (size : Nat) (ht : P.underlying t = some (.slice e)) (hi : P.info? e = some i)
    (v : Value) (n c : Nat) (xs : List Value) (hown : w.ownsRow base e size v n xs) :
    (Builtin.append_ #[t, t] ty #[v, .slice none 0 c]).run P w = .ok v w := by
  rcases hown.2 with ⟨rfl, rfl⟩ | ⟨g, cap, cur, rfl, _, _, hnc, _⟩
  · simp [Builtin.append_, run_underlying ht, sizeOf, typeInfo, hi, Builtin.lenOf, Builtin.firstCells]
  · simp [Builtin.append_, run_underlying ht, sizeOf, typeInfo, hi, Builtin.lenOf, Builtin.firstCells, hnc, storeCells]
theorem wpList_append_noneC {P : Program} {w : World} {ops : Array Oper} {rest : List Oper} {o : Oper} {a : Act} {Q : Exit → Act → World → Prop} (hgd : o.guard = none) (s x : Operand) (t : TypeId)
    (ho : o.op = .call { callee := .builtin .append, args := #[s, x], argTypes := #[t, t] })
    (base : Nat) (e : TypeId) (i : TypeInfo) (size : Nat) (ht : P.underlying t = some (.slice e)) (hi : P.info? e = some i)
    (v : Value) (n c : Nat) (xs : List Value) (hs : a.eval s = v) (hown : w.ownsRow base e size v n xs) (hx : a.eval x = .slice none 0 c)
    (h : wpList P ops Q rest (a.put o.dst v) w) : wpList P ops Q (o :: rest) a w := by
  refine wpList_plain hgd fun K hK => ?_
  have hrun := run_append_noneC (P := P) (w := w) base t o.type e i size ht hi v n c xs hown
  unfold Oper.wp
  simp [execOp, ho, resolve, invoke, builtin, hs, hx, hrun, Result.andThen]
  exact hK _ _ h
/-- A part of a list. -/
theorem ld_sub {W : World} {g L c lo N : Nat} {ls : List Int} (h : Ld W (.slice (some ⟨g, 0, none⟩) L c) ls) (hl : lo + N ≤ ls.length) : Ld W (.slice (some ⟨g, lo, none⟩) N (c - lo)) ((ls.drop lo).take N) := by
  obtain ⟨o, c', e, hc, hx⟩ := h
  simp only [Value.slice.injEq] at e
  obtain ⟨rfl, rfl, rfl⟩ := e
  have hlen : ((ls.drop lo).take N).length = N := by simp; omega
  refine ⟨_, _, by rw [hlen], by rw [hlen]; omega, fun i hi => ?_⟩
  rw [hlen] at hi
  obtain ⟨b, f, e, hb, hcell⟩ := hx (lo + i) (by omega)
  simp only [Option.some.injEq, Addr.mk.injEq, and_true] at e
  obtain ⟨rfl, rfl⟩ := e
  refine ⟨g, lo, rfl, hb, ?_⟩
  rw [Nat.zero_add] at hcell
  rw [hcell]
  simp [List.getD, List.getElem?_take_of_lt hi, List.getElem?_drop]
theorem run_sub {P : Program} {t e : TypeId} {i : TypeInfo} (hu : P.underlying t = some (.slice e)) (hi : P.info? e = some i) (hs : i.size = 1) (g L c lo N : Nat) (h : lo + N ≤ c) (h0 : 0 < N) (wx : World) :
    (Instr.slice t (.slice (some ⟨g, 0, none⟩) L c) (some (.int .i64 (lo : Int))) (some (.int .i64 ((lo : Int) + (N : Int)))) none).run P wx = .ok (.slice (some ⟨g, lo, none⟩) N (c - lo)) wx := by
  have a1 : (0 : Int) ≤ (lo : Int) + (N : Int) ∧ (lo : Int) + (N : Int) ≤ (c : Int) := by omega
  have a4 : ¬ c = lo := by omega
  simp [Instr.slice, run_underlying hu, Instr.sliceBounds, Instr.sliceBound, asIntOf, sizeOf, typeInfo, hi, hs, Addr.add, a1.1, a1.2, a4]
  have a5 : ((lo : Int) + (N : Int)).toNat - lo = N := by omega
  have a6 : (lo : Int) ≤ (lo : Int) + (N : Int) := by omega
  rw [if_pos a6, a5]
  by_cases q : lo = 0
  · subst q; simp
  · rw [if_neg q]
end Go.Proofs.Ytdcmcfmodbdhaaa
