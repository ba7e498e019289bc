/-
  view.Slice.
  The reference's Slice.
  shape.Spread.
  The reference's shapes: counts, what may be, strides, places, indexes.
  The reference's shapes: places and indexes, spread shapes.
  The reference's shapes: spread shapes, what stands under an index.
  view.Widen.
  Lists of words: alike? all words?
  The program's look for numbers that are no words.
  view.Copy.
  package norm: products of four limbs.
  package norm: products held against each other.
-/
import Derived.WalkMore
import Derived.Deep.QuietTactic
import Derived.BigQuiet
import Derived.IntWalk
import Derived.Deep.AppendLies
import Derived.LoopN
import Derived.Test.YtimmgmhgahbcbaaM02
namespace Go.Proofs.Ytimmgmhgahbcbaa
open Go.RowKit
attribute [local go_sem ↓] Go.wp_at_zero Go.wp_at_succ

theorem own_cell {w : World} {base g c i : Nat} {ls : List Int} {e : TypeId} (h : w.ownsRow base e 1 (.slice (some ⟨g, 0, none⟩) ls.length c) ls.length (ints ls)) (hi : i < ls.length) : w.cell? ⟨g, i, none⟩ = some (.int .i64 (ls.getD i 0)) := by
  rw [h.cellAt i (by omega)]; simpa using ints_at hi
theorem own_put {w : World} {base g c i : Nat} {ls : List Int} {e : TypeId} (h : w.ownsRow base e 1 (.slice (some ⟨g, 0, none⟩) ls.length c) ls.length (ints ls)) (_hi : i < ls.length) (v : Int) : (w.setCell ⟨g, i, none⟩ (.int .i64 v)).ownsRow base e 1 (.slice (some ⟨g, 0, none⟩) ls.length c) (ls.set i v).length (ints (ls.set i v)) := by
  rcases h.2 with ⟨hv, _⟩ | ⟨g', cap, cur, hv, hb, hh, hc, hm, hsz, ht⟩
  · cases hv
  · simp only [Value.slice.injEq, true_and, Option.some.injEq, Addr.mk.injEq, and_true] at hv
    obtain ⟨rfl, rfl⟩ := hv
    have hp : Blk (w.setCell ⟨g, i, none⟩ (.int .i64 v)) g e (cur.setIfInBounds i (.int .i64 v)) := Blk.set_ (show Blk w g e cur from hh) i _
    refine ⟨by simp [ints], .inr ⟨g, c, cur.setIfInBounds i (.int .i64 v), by rw [List.length_set], hb, hp, by rw [List.length_set]; exact hc, hm, by simpa using hsz, ?_⟩⟩
    rw [List.length_set, Nat.mul_one]
    rw [Nat.mul_one] at ht
    have : (cur.setIfInBounds i (.int .i64 v)).toList = cur.toList.set i (.int .i64 v) := by simp
    rw [this, List.take_set, ht]
    simp [ints, List.map_set]
theorem Ov.put {w : World} {base g c i : Nat} {vt : Value} {sh st : List Int} (h : Ov w base (.slice (some ⟨g, 0, none⟩) sh.length c) vt sh st) (hi : i < sh.length) (v : Int) : Ov (w.setCell ⟨g, i, none⟩ (.int .i64 v)) base (.slice (some ⟨g, 0, none⟩) sh.length c) vt (sh.set i v) st :=
  ⟨own_put h.1 hi v, h.2.1.kept (grown_set w ⟨g, i, none⟩ _) (.inr (h.2.2 g rfl)), h.2.2⟩
theorem Ov.alloc {w : World} {base : Nat} {vs vt : Value} {sh st : List Int} (h : Ov w base vs vt sh st) (o : Obj) : Ov (w.alloc o) base vs vt sh st := h.below ((Below.refl _ _).alloc (Nat.le_refl _) _)
theorem Ov.drew {w : World} {base : Nat} {vs vt : Value} {sh st : List Int} (h : Ov w base vs vt sh st) : Ov w.drew base vs vt sh st := h
theorem Below.box {w W : World} {B b : Nat} (h : Below B w W) (hb : B ≤ b) (x y z : Value) : Below B w (((W.setCell ⟨b, 0, none⟩ x).setCell ⟨b, 1, none⟩ y).setCell ⟨b, 2, none⟩ z) := ((h.setCell hb _).setCell hb _).setCell hb _
end Go.Proofs.Ytimmgmhgahbcbaa
namespace Go.Proofs.Ytimmgmhgahbcbaa
open Go.RowKit
attribute [local go_sem ↓] Go.wp_at_zero Go.wp_at_succ

end Go.Proofs.Ytimmgmhgahbcbaa
namespace Go.Proofs.Ytimmgmhgahbcbaa
open Go.RowKit

end Go.Proofs.Ytimmgmhgahbcbaa
namespace Go.Proofs.Ytimmgmhgahbcbaa
open Go.RowKit

/-- The reference's count. -/
def rct (ls : List Int) : Int := if cnt 1 ls = 0 then 65537 else cnt 1 ls
theorem may_rct {ls : List Int} (h4 : ls.length ≤ 4) : decide (rct ls ≤ 65536) = may ls := by
  unfold rct
  rcases cnt_cases ls 1 (by decide) (by decide) with h | ⟨h1, h2, _, _⟩
  · rw [if_pos h, may_not h]; rfl
  · rw [if_neg (by omega), may_yes h4 (by omega)]; simpa using h2
theorem rct_may {ls : List Int} (h : may ls = true) : rct ls = prod ls := by
  unfold rct
  rw [may_cnt h, if_neg (by have := may_prod h; omega)]

set_option maxRecDepth 100000 in
set_option maxHeartbeats 4000000 in
theorem rcount_any (v : Value) (ls : List Int) (w : World) (h : Ld w v ls) (hd : dms ls) (l4 : ls.length ≤ 1073741824) :
    Calls Try.prog 25 #[v] w fun e w' => e = .returned (.int .i64 (rct ls)) ∧ w = w' := by
  obtain ⟨o, c, rfl, _, hx⟩ := h
  have HX := Lib.hid hx
  have HD := Lib.hid hd
  clear hx hd
  go_enter Try.func25, Try.ntmps25
  go_wp2
  go_loop [3, 4] (fun s3 s4 => ∃ (k : Nat) (m : Int), k ≤ ls.length ∧ 1 ≤ m ∧ m ≤ 65536 ∧ s4 = .int .i64 k ∧ s3 = .int .i64 m ∧ Hid (cnt m (ls.drop k) = cnt 1 ls)) (fun _ s4 => ls.length - (intOf s4).toNat)
  case atStart => exact ⟨0, 1, Nat.zero_le _, by decide, by decide, rfl, rfl, rfl⟩
  case round =>
    obtain ⟨k, m, hk, m0, m1, rfl, rfl, HM⟩ := hrel
    by_cases hlt : k < ls.length
    · obtain ⟨b, f, rfl, hb, hc⟩ := HX.out k hlt
      have st := cnt_step hlt m
      rw [HM.out] at st
      have dd := HD.out _ (getD_mem hlt)
      obtain ⟨d, hd⟩ : ∃ d, d = ls.getD k 0 := ⟨_, rfl⟩
      rw [← hd] at st hc dd
      obtain ⟨d1, d2⟩ := dd
      have dn : ¬ 65536 < d := by omega
      have md : m * d ≤ 65536 * 4096 := Int.mul_le_mul m1 d2 (by omega) (by decide)
      have m2 : 1 ≤ m * d := by have := Int.mul_le_mul m0 d1 (by decide) (by omega); omega
      by_cases g : m * d ≤ 65536
      · rw [if_pos ⟨d1, d2, by rw [Int.mul_comm]; exact g⟩] at st
        have ST := Lib.hid st
        have g' : ¬ 65536 < m * d := by omega
        clear st hd md
        go_wp2
        refine ⟨⟨k + 1, m * d, by omega, m2, g, by go_num, rfl, by unfold Hid; rw [← ST.out]⟩, by simp [intOf]; omega⟩
      · rw [if_neg (by rw [Int.mul_comm]; omega)] at st
        have E : Hid (rct ls = 65537) := by unfold rct; rw [if_pos st]; exact Lib.hid rfl
        have g' : 65536 < m * d := by omega
        clear st hd
        go_wp2
        go_ret
        exact ⟨by rw [E.out]; rfl, rfl⟩
    · have E : Hid (m = rct ls) := by
        have := HM.out
        rw [List.drop_eq_nil_of_le (by omega)] at this
        unfold rct
        rw [← this, if_neg (by show cnt m [] ≠ 0; simp [cnt]; omega)]
        exact Lib.hid rfl
      go_wp2
      go_ret
      exact ⟨by rw [← E.out]; rfl, rfl⟩

set_option maxRecDepth 100000 in
set_option maxHeartbeats 4000000 in
theorem rmay_any (v : Value) (ls : List Int) (w : World) (h : Ld w v ls) (l4 : ls.length ≤ 1073741824) :
    Calls Try.prog 24 #[v] w fun e w' => e = .returned (.bool (may ls)) ∧ w = w' := by
  by_cases h4 : 4 < ls.length
  · have E : Hid (may ls = false) := may_long h4
    obtain ⟨o, c, rfl, _, _⟩ := h
    go_enter Try.func24, Try.ntmps24
    go_wp2
    go_ret
    exact ⟨by rw [E.out]; rfl, rfl⟩
  have C := Lib.hid (fun hd => rcount_any v ls w h hd (by omega))
  obtain ⟨o, c, rfl, _, hx⟩ := h
  have HX := Lib.hid hx
  have HR : Hid (decide (rct ls ≤ 65536) = may ls) := may_rct (by omega)
  clear hx
  go_enter Try.func24, Try.ntmps24
  go_wp2
  go_loop [3] (fun s3 => ∃ k : Nat, k ≤ ls.length ∧ s3 = .int .i64 k ∧ Hid (∀ j, j < k → 1 ≤ ls.getD j 0 ∧ ls.getD j 0 ≤ 4096)) (fun s3 => ls.length - (intOf s3).toNat)
  case atStart => exact ⟨0, Nat.zero_le _, rfl, fun j hj => absurd hj (Nat.not_lt_zero _)⟩
  case round =>
    obtain ⟨k, hk, rfl, HK⟩ := hrel
    by_cases hlt : k < ls.length
    · obtain ⟨b, f, rfl, hb, hc⟩ := HX.out k hlt
      have HN : Hid (¬ (1 ≤ ls.getD k 0 ∧ ls.getD k 0 ≤ 4096) → may ls = false) := fun g => by
        cases h : may ls with
        | false => rfl
        | true => exact absurd (may_dim h hlt) g
      have HG : Hid (1 ≤ ls.getD k 0 ∧ ls.getD k 0 ≤ 4096 → ∀ j, j < k + 1 → 1 ≤ ls.getD j 0 ∧ ls.getD j 0 ≤ 4096) := fun g j hj => by
        by_cases e : j = k
        · subst e; exact g
        · exact HK.out j (by omega)
      generalize ls.getD k 0 = d at *
      by_cases g1 : d < 1
      · have R := Lib.hid (HN.out (by omega))
        go_wp2
        go_ret
        exact ⟨by rw [R.out]; rfl, rfl⟩
      by_cases g2 : 4096 < d
      · have R := Lib.hid (HN.out (by omega))
        go_wp2
        go_ret
        exact ⟨by rw [R.out]; rfl, rfl⟩
      have R := Lib.hid (HG.out (by omega))
      go_wp2
      refine ⟨⟨k + 1, by omega, by go_num, R⟩, by simp [intOf]; omega⟩
    · have hd : dms ls := by
        intro d hm
        obtain ⟨i, hi, rfl⟩ := List.mem_iff_getElem.1 hm
        have := HK.out i (by omega)
        simpa [List.getD, List.getElem?_eq_getElem hi] using this
      have C1 := Lib.hid (C.out hd)
      clear hd
      generalize rct ls = r at *
      go_wp2_with (go_at_call 25; (with_reducible refine C1.out.mono ?_); rintro e w' ⟨rfl, rfl⟩)
      go_ret
      exact ⟨by rw [← HR.out]; rfl, rfl⟩

end Go.Proofs.Ytimmgmhgahbcbaa
namespace Go.Proofs.Ytimmgmhgahbcbaa
open Go.RowKit



end Go.Proofs.Ytimmgmhgahbcbaa
namespace Go.Proofs.Ytimmgmhgahbcbaa
open Go.RowKit

end Go.Proofs.Ytimmgmhgahbcbaa
namespace Go.Proofs.Ytimmgmhgahbcbaa
open Go.RowKit
attribute [local go_sem ↓] Go.wp_at_zero Go.wp_at_succ

theorem blk_new1 (w : World) (o : Obj) (t : TypeId) (cs : Array Value) : Blk ((w.alloc o).alloc (.cells cs t)) (w.heap.size + 1) t cs := by
  have := Blk.new (w.alloc o) t cs
  rwa [World.size_alloc] at this
end Go.Proofs.Ytimmgmhgahbcbaa
namespace Go.Proofs.Ytimmgmhgahbcbaa
open Go.RowKit

set_option maxRecDepth 100000 in
set_option maxHeartbeats 4000000 in
theorem eqw_any (va vb : Value) (a b : List Int) (w : World) (ha : Ld w va a) (hb : Ld w vb b) (la : a.length ≤ 17592186044416) (_lb : b.length ≤ 17592186044416) :
    Calls Try.prog 35 #[va, vb] w fun e w' => e = .returned (.bool (decide (a = b))) ∧ Below w.heap.size w w' := by
  obtain ⟨oa, ca, rfl, _, hxa⟩ := ha
  obtain ⟨ob, cb, rfl, _, hxb⟩ := hb
  have HA := Lib.hid hxa
  have HB := Lib.hid hxb
  clear hxa hxb
  by_cases hl : a.length = b.length
  · have HL := Lib.hid hl
    have HX : Hid ((∀ k, k < a.length → a.getD k 0 = b.getD k 0) → a = b) := ext_getD hl
    rw [← hl]
    clear hl _lb
    go_enter Try.func35, Try.ntmps35
    go_wp2
    go_loopw [5] (fun s5 wr => ∃ k : Nat, k ≤ a.length ∧ s5 = .int .i64 k ∧ Hid (∀ j, j < k → a.getD j 0 = b.getD j 0) ∧ Below w.heap.size w wr) (fun s5 _ => a.length - (intOf s5).toNat)
    case atStart => exact ⟨0, Nat.zero_le _, rfl, fun j hj => absurd hj (Nat.not_lt_zero _), Below.refl _ _⟩
    case round =>
      obtain ⟨k, hk, rfl, HK, hW⟩ := hrel
      by_cases hlt : k < a.length
      · obtain ⟨b1, f1, rfl, h1, c1⟩ := HA.out k hlt
        obtain ⟨b2, f2, rfl, h2, c2⟩ := HB.out k (by have := HL.out; omega)
        have c1' : wr.cell? ⟨b1, f1 + k, none⟩ = some (.int .i64 (a.getD k 0)) := (hW.cell (p := ⟨b1, f1 + k, none⟩) h1).trans c1
        have c2' : wr.cell? ⟨b2, f2 + k, none⟩ = some (.int .i64 (b.getD k 0)) := (hW.cell (p := ⟨b2, f2 + k, none⟩) h2).trans c2
        have HG : Hid (a.getD k 0 = b.getD k 0 → ∀ j, j < k + 1 → a.getD j 0 = b.getD j 0) := fun g j hj => by
          by_cases e : j = k
          · subst e; exact g
          · exact HK.out j (by omega)
        have HN : Hid (¬ a.getD k 0 = b.getD k 0 → decide (a = b) = false) := fun g => decide_eq_false (fun e => g (by rw [e]))
        clear c1 c2
        generalize a.getD k 0 = x at *
        generalize b.getD k 0 = y at *
        by_cases g : x = y
        · subst g
          have R := Lib.hid (HG.out rfl)
          go_wp2
          go_quiet (fail)
          go_wp2
          exact ⟨⟨k + 1, by omega, by go_num, R, by first | exact below_drw hW _ | exact hW⟩, by simp [intOf]; omega⟩
        · have R := Lib.hid (HN.out g)
          have g' : (x != y) = true := by rw [bne_iff_ne]; exact g
          clear g
          go_wp2
          go_quiet (fail)
          go_wp2
          go_ret
          exact ⟨by rw [R.out]; rfl, by first | exact below_drw hW _ | exact hW⟩
      · have e : Hid (decide (a = b) = true) := decide_eq_true (HX.out fun j hj => HK.out j (by omega))
        go_wp2
        go_ret
        exact ⟨by rw [e.out]; rfl, hW⟩
  · have e : Hid (decide (a = b) = false) := decide_eq_false (fun e => hl (by rw [e]))
    have hl2 : ((a.length : Int) != (b.length : Int)) = true := by rw [bne_iff_ne]; omega
    clear hl
    go_enter Try.func35, Try.ntmps35
    go_wp2
    go_ret
    exact ⟨by rw [e.out]; rfl, Below.refl _ _⟩

/-- Words alone? -/
def wds (l : List Int) : Bool := l.all fun x => decide (-140737488355328 < x) && decide (x < 140737488355328)
theorem wds_at {l : List Int} (h : wds l = true) {k : Nat} (hk : k < l.length) : -140737488355328 < l.getD k 0 ∧ l.getD k 0 < 140737488355328 := by
  unfold wds at h
  rw [List.all_eq_true] at h
  have := h (l.getD k 0) (getD_mem hk)
  simpa using this
theorem wds_no {l : List Int} {k : Nat} (hk : k < l.length) (h : ¬ (-140737488355328 < l.getD k 0 ∧ l.getD k 0 < 140737488355328)) : wds l = false := by
  cases e : wds l with
  | false => rfl
  | true => exact absurd (wds_at e hk) h
theorem wds_yes {l : List Int} (h : ∀ k, k < l.length → -140737488355328 < l.getD k 0 ∧ l.getD k 0 < 140737488355328) : wds l = true := by
  unfold wds
  rw [List.all_eq_true]
  intro x hx
  obtain ⟨i, hi, rfl⟩ := List.mem_iff_getElem.1 hx
  have := h i hi
  simp only [List.getD, List.getElem?_eq_getElem hi, Option.getD_some] at this
  simpa using this
set_option maxRecDepth 100000 in
set_option maxHeartbeats 4000000 in
theorem may2_any (x : Int) (w : World) : Calls Try.prog 7 #[.int .i64 x] w fun e w' => e = .returned (.bool (decide (-140737488355328 < x) && decide (x < 140737488355328))) ∧ w = w' := by
  by_cases g1 : -140737488355328 < x
  · by_cases g2 : x < 140737488355328
    · have b1 := decide_eq_true g1
      have b2 := decide_eq_true g2
      rw [b1, b2]
      go_enter Try.func7, Try.ntmps7
      go_wp2
      go_ret
      exact ⟨rfl, rfl⟩
    · have b1 := decide_eq_true g1
      have b2 := decide_eq_false g2
      rw [b1, b2]
      go_enter Try.func7, Try.ntmps7
      go_wp2
      go_ret
      exact ⟨rfl, rfl⟩
  · have b1 := decide_eq_false g1
    rw [b1]
    go_enter Try.func7, Try.ntmps7
    go_wp2
    go_ret
    exact ⟨rfl, rfl⟩

set_option maxRecDepth 100000 in
set_option maxHeartbeats 4000000 in
theorem words_any (v : Value) (l : List Int) (w : World) (h : Ld w v l) (hl : l.length ≤ 9223372036854775807) : Calls Try.prog 26 #[v] w fun e w' => e = .returned (.bool (wds l)) ∧ w = w' := by
  obtain ⟨o, c, rfl, _, hx⟩ := h
  have HX := Lib.hid hx
  clear hx
  go_enter Try.func26, Try.ntmps26
  go_wp2
  go_loop [3] (fun s3 => ∃ k : Nat, k ≤ l.length ∧ s3 = .int .i64 k ∧ Hid (∀ j, j < k → -140737488355328 < l.getD j 0 ∧ l.getD j 0 < 140737488355328)) (fun s3 => l.length - (intOf s3).toNat)
  case atStart => exact ⟨0, Nat.zero_le _, rfl, fun j hj => absurd hj (Nat.not_lt_zero _)⟩
  case round =>
    obtain ⟨k, hk, rfl, HK⟩ := hrel
    by_cases hlt : k < l.length
    · obtain ⟨b, f, rfl, _, hc⟩ := HX.out k hlt
      have HY : Hid ((decide (-140737488355328 < l.getD k 0) && decide (l.getD k 0 < 140737488355328)) = true → ∀ j, j < k + 1 → -140737488355328 < l.getD j 0 ∧ l.getD j 0 < 140737488355328) := fun g j hj => by
        by_cases e : j = k
        · subst e; simpa using g
        · exact HK.out j (by omega)
      have HN : Hid ((decide (-140737488355328 < l.getD k 0) && decide (l.getD k 0 < 140737488355328)) = false → wds l = false) := fun g => wds_no hlt (fun e => by rw [decide_eq_true e.1, decide_eq_true e.2] at g; cases g)
      generalize l.getD k 0 = x at *
      have KM := Lib.hid (fun (W : World) => may2_any x W)
      cases gg : (decide (-140737488355328 < x) && decide (x < 140737488355328)) with
      | true =>
        rw [gg] at KM
        have R := Lib.hid (HY.out gg)
        clear gg
        go_wp2_with (go_at_call 7; (with_reducible refine (KM.out _).mono ?_); rintro e w' ⟨rfl, rfl⟩)
        exact ⟨⟨k + 1, by omega, by go_num, R⟩, by simp [intOf]; omega⟩
      | false =>
        rw [gg] at KM
        have R := Lib.hid (HN.out gg)
        clear gg
        go_wp2_with (go_at_call 7; (with_reducible refine (KM.out _).mono ?_); rintro e w' ⟨rfl, rfl⟩)
        go_ret
        exact ⟨by rw [R.out]; rfl, rfl⟩
    · obtain rfl : k = l.length := by omega
      have R := Lib.hid (wds_yes HK.out)
      clear hlt
      go_wp2
      go_ret
      exact ⟨by rw [R.out]; rfl, rfl⟩
end Go.Proofs.Ytimmgmhgahbcbaa
namespace Go.Proofs.Ytimmgmhgahbcbaa
open Go.RowKit

/-- A word? -/
def wd1 (x : Int) : Bool := decide (-140737488355328 < x) && decide (x < 140737488355328)
/-- A tensor? -/
def tnb (ts tds : List Int) : Bool := may ts && decide ((tds.length : Int) = prod ts) && wds tds
end Go.Proofs.Ytimmgmhgahbcbaa
namespace Go.Proofs.Ytimmgmhgahbcbaa
open Go.RowKit Go.Shelf
attribute [local go_sem] Oper.semAt_some

theorem blk2 {W : World} {b : Nat} {t : TypeId} {x y : Value} (h : Blk W b t #[x, y]) : W.cell? ⟨b, 0, none⟩ = some x ∧ W.cell? ⟨b, 1, none⟩ = some y ∧ W.frozen? ⟨b, 0, none⟩ = false ∧ W.frozen? ⟨b, 1, none⟩ = false :=
  ⟨h.cell 0, h.cell 1, h.frozen 0, h.frozen 1⟩
/-- A tensor in new memory, and an error. -/
def SomeT (w : World) (er : Int) (sh ds : List Int) (e : Ending) (w' : World) : Prop := ∃ os cs od cd, e = .returned (.tuple #[.agg #[.slice os sh.length cs, .slice od ds.length cd], .int .i64 er]) ∧ w'.ownsRow w.heap.size 3 1 (.slice os sh.length cs) sh.length (ints sh) ∧ w'.ownsRow w.heap.size 2 1 (.slice od ds.length cd) ds.length (ints ds) ∧ Below w.heap.size w w'
theorem infoW : (Try.prog.info? 2).map (fun i => (i.zero, i.size, i.bytes)) = some (some (.int .i64 0), 1, 8) := by kernel_rfl


theorem tens_not_row {w : World} {base n b : Nat} {v : Value} {xs : List Value} {cs : Array Value} {t u : TypeId} (h : w.ownsRow base t 1 v n xs) (hb : Blk w b u cs) (hne : t ≠ u) : ¬ v.ownBlock = some b := by
  intro e
  rcases h.2 with ⟨rfl, _⟩ | ⟨g, cap, cur, rfl, _, hh, _⟩
  · simp [Value.ownBlock] at e
  · simp only [Value.ownBlock, Option.some.injEq] at e
    subst e
    have := hh.symm.trans hb
    simp only [Option.some.injEq, Obj.cells.injEq] at this
    exact hne this.2.1
end Go.Proofs.Ytimmgmhgahbcbaa
namespace Go.Proofs.Ytimmgmhgahbcbaa
open Go.RowKit Go.Shelf

/-- A number's four limbs, the highest first. -/
def Pv (n : Nat) : Value := .agg #[.int .u64 ((n / 6277101735386680763835789423207666416102355444464034512896 : Nat) : Int), .int .u64 ((n / 340282366920938463463374607431768211456 % 18446744073709551616 : Nat) : Int), .int .u64 ((n / 18446744073709551616 % 18446744073709551616 : Nat) : Int), .int .u64 ((n % 18446744073709551616 : Nat) : Int)]
theorem limbs {a0 a1 b0 b1 c1 p1 c2 p2 c3 p3 c4 p4 : Nat} (h1 : c1 = (a0 * b0 + 0 + 0) / 18446744073709551616) (k1 : p1 = (a0 * b0 + 0 + 0) % 18446744073709551616) (h2 : c2 = (a0 * b1 + 0 + c1) / 18446744073709551616) (k2 : p2 = (a0 * b1 + 0 + c1) % 18446744073709551616) (h3 : c3 = (a1 * b0 + p2 + 0) / 18446744073709551616) (k3 : p3 = (a1 * b0 + p2 + 0) % 18446744073709551616) (h4 : c4 = (a1 * b1 + c2 + c3) / 18446744073709551616) (k4 : p4 = (a1 * b1 + c2 + c3) % 18446744073709551616) :
    (a0 + 18446744073709551616 * a1) * (b0 + 18446744073709551616 * b1) / 6277101735386680763835789423207666416102355444464034512896 = c4 ∧ (a0 + 18446744073709551616 * a1) * (b0 + 18446744073709551616 * b1) / 340282366920938463463374607431768211456 % 18446744073709551616 = p4 ∧ (a0 + 18446744073709551616 * a1) * (b0 + 18446744073709551616 * b1) / 18446744073709551616 % 18446744073709551616 = p3 ∧ (a0 + 18446744073709551616 * a1) * (b0 + 18446744073709551616 * b1) % 18446744073709551616 = p1 := by
  have e : (a0 + 18446744073709551616 * a1) * (b0 + 18446744073709551616 * b1) = a0 * b0 + 18446744073709551616 * (a0 * b1) + 18446744073709551616 * (a1 * b0) + 340282366920938463463374607431768211456 * (a1 * b1) := by
    rw [Nat.add_mul, Nat.mul_add, Nat.mul_add, Nat.mul_assoc, Nat.mul_assoc, Nat.mul_left_comm a0 18446744073709551616 b1, Nat.mul_left_comm a1 18446744073709551616 b1, ← Nat.mul_assoc 18446744073709551616 18446744073709551616]
    omega
  rw [e]
  generalize a0 * b0 = s at *
  generalize a0 * b1 = t at *
  generalize a1 * b0 = u at *
  generalize a1 * b1 = v at *
  clear e
  omega
theorem infoU : (Try.prog.info? 65).map (fun i => (i.zero, i.size, i.bytes)) = some (some (.int .u64 0), 1, 8) := by kernel_rfl
theorem run_idx2 (a b : Value) (w : World) : (Instr.index 115 (.agg #[a, b]) (.int .i64 0)).run Try.prog w = .ok a w ∧ (Instr.index 115 (.agg #[a, b]) (.int .i64 1)).run Try.prog w = .ok b w := by
  obtain ⟨i, h1, h2, h3, _⟩ := info_parts infoU
  constructor <;> simp [Instr.index, run_underlying Try.underlying115, asIntOf, part, sizeOf, typeInfo, h1, h3, go_sem]
set_option maxRecDepth 100000 in
set_option maxHeartbeats 4000000 in
theorem times_limbs (a0 a1 b0 b1 : Nat) (ha : a0 < 18446744073709551616) (hb : b0 < 18446744073709551616) (ha1 : a1 < 9223372036854775808) (hb1 : b1 < 9223372036854775808) (w : World) :
    Calls Try.prog 69 #[.agg #[.int .i64 (a1 : Nat), .int .u64 (a0 : Nat)], .agg #[.int .i64 (b1 : Nat), .int .u64 (b0 : Nat)]] w fun e w' => e = .returned (Pv ((a0 + 18446744073709551616 * a1) * (b0 + 18446744073709551616 * b1))) ∧ Below w.heap.size w w' := by
  obtain ⟨c1, h1⟩ : ∃ k, k = (a0 * b0 + 0 + 0) / 18446744073709551616 := ⟨_, rfl⟩
  obtain ⟨p1, k1⟩ : ∃ k, k = (a0 * b0 + 0 + 0) % 18446744073709551616 := ⟨_, rfl⟩
  obtain ⟨c2, h2⟩ : ∃ k, k = (a0 * b1 + 0 + c1) / 18446744073709551616 := ⟨_, rfl⟩
  obtain ⟨p2, k2⟩ : ∃ k, k = (a0 * b1 + 0 + c1) % 18446744073709551616 := ⟨_, rfl⟩
  obtain ⟨c3, h3⟩ : ∃ k, k = (a1 * b0 + p2 + 0) / 18446744073709551616 := ⟨_, rfl⟩
  obtain ⟨p3, k3⟩ : ∃ k, k = (a1 * b0 + p2 + 0) % 18446744073709551616 := ⟨_, rfl⟩
  obtain ⟨c4, h4⟩ : ∃ k, k = (a1 * b1 + c2 + c3) / 18446744073709551616 := ⟨_, rfl⟩
  obtain ⟨p4, k4⟩ : ∃ k, k = (a1 * b1 + c2 + c3) % 18446744073709551616 := ⟨_, rfl⟩
  have R := Lib.hid (limbs h1 k1 h2 k2 h3 k3 h4 k4)
  have bd : ∀ {x y : Nat}, x < 18446744073709551616 → y < 18446744073709551616 → x * y ≤ 18446744073709551615 * 18446744073709551615 := fun hx hy => Nat.mul_le_mul (by omega) (by omega)
  have d1 := bd ha hb
  have d2 := bd ha (show b1 < 18446744073709551616 by omega)
  have d3 := bd (show a1 < 18446744073709551616 by omega) hb
  have T1 : Hid (∀ W : World, Calls Try.prog 74 #[.int .u64 (a0 : Int), .int .u64 (b0 : Int), .int .u64 0, .int .u64 0] W fun e w' => e = .returned (.tuple #[.int .u64 (c1 : Int), .int .u64 (p1 : Int)]) ∧ W = w') := Lib.hid (fun W => by rw [h1, k1]; exact together_any a0 b0 0 0 ha hb (by decide) (by decide) W)
  have T2 : Hid (∀ W : World, Calls Try.prog 74 #[.int .u64 (a0 : Int), .int .u64 (b1 : Int), .int .u64 0, .int .u64 (c1 : Int)] W fun e w' => e = .returned (.tuple #[.int .u64 (c2 : Int), .int .u64 (p2 : Int)]) ∧ W = w') := Lib.hid (fun W => by rw [h2, k2]; exact together_any a0 b1 0 c1 ha (by omega) (by decide) (by omega) W)
  have T3 : Hid (∀ W : World, Calls Try.prog 74 #[.int .u64 (a1 : Int), .int .u64 (b0 : Int), .int .u64 (p2 : Int), .int .u64 0] W fun e w' => e = .returned (.tuple #[.int .u64 (c3 : Int), .int .u64 (p3 : Int)]) ∧ W = w') := Lib.hid (fun W => by rw [h3, k3]; exact together_any a1 b0 p2 0 (by omega) hb (by omega) (by decide) W)
  have T4 : Hid (∀ W : World, Calls Try.prog 74 #[.int .u64 (a1 : Int), .int .u64 (b1 : Int), .int .u64 (c2 : Int), .int .u64 (c3 : Int)] W fun e w' => e = .returned (.tuple #[.int .u64 (c4 : Int), .int .u64 (p4 : Int)]) ∧ W = w') := Lib.hid (fun W => by rw [h4, k4]; exact together_any a1 b1 c2 c3 (by omega) (by omega) (by omega) (by omega) W)
  have W1 : IntKind.u64.wrap (a1 : Int) = (a1 : Int) := by rw [IntKind.wrap_u64]; omega
  have W2 : IntKind.u64.wrap (b1 : Int) = (b1 : Int) := by rw [IntKind.wrap_u64]; omega
  unfold Pv
  rw [R.out.1, R.out.2.1, R.out.2.2.1, R.out.2.2.2]
  have I0 := fun (a b : Value) (w : World) => (run_idx2 a b w).1
  have I1 := fun (a b : Value) (w : World) => (run_idx2 a b w).2
  clear R h1 k1 h2 k2 h3 k3 h4 k4 bd d1 d2 d3 ha hb ha1 hb1
  go_enter Try.func69, Try.ntmps69
  go_wp2
  refine wp_loop_rounds 3 ?_
  rw [rounds_succ]
  go_wp2_with (go_at_call 74; (with_reducible first | refine (T1.out _).mono ?_ | refine (T2.out _).mono ?_ | refine (T3.out _).mono ?_ | refine (T4.out _).mono ?_); rintro e w' ⟨rfl, rfl⟩)
  refine wp_loop_rounds 3 ?_
  rw [rounds_succ]
  go_wp2_with (go_at_call 74; (with_reducible first | refine (T1.out _).mono ?_ | refine (T2.out _).mono ?_ | refine (T3.out _).mono ?_ | refine (T4.out _).mono ?_); rintro e w' ⟨rfl, rfl⟩)
  rw [rounds_succ]
  go_wp2_with (go_at_call 74; (with_reducible first | refine (T1.out _).mono ?_ | refine (T2.out _).mono ?_ | refine (T3.out _).mono ?_ | refine (T4.out _).mono ?_); rintro e w' ⟨rfl, rfl⟩)
  rw [rounds_succ]
  go_wp2_with (go_at_call 74; (with_reducible first | refine (T1.out _).mono ?_ | refine (T2.out _).mono ?_ | refine (T3.out _).mono ?_ | refine (T4.out _).mono ?_); rintro e w' ⟨rfl, rfl⟩)
  rw [rounds_succ]
  go_wp2_with (go_at_call 74; (with_reducible first | refine (T1.out _).mono ?_ | refine (T2.out _).mono ?_ | refine (T3.out _).mono ?_ | refine (T4.out _).mono ?_); rintro e w' ⟨rfl, rfl⟩)
  refine wp_loop_rounds 3 ?_
  rw [rounds_succ]
  go_wp2_with (go_at_call 74; (with_reducible first | refine (T1.out _).mono ?_ | refine (T2.out _).mono ?_ | refine (T3.out _).mono ?_ | refine (T4.out _).mono ?_); rintro e w' ⟨rfl, rfl⟩)
  rw [rounds_succ]
  go_wp2_with (go_at_call 74; (with_reducible first | refine (T1.out _).mono ?_ | refine (T2.out _).mono ?_ | refine (T3.out _).mono ?_ | refine (T4.out _).mono ?_); rintro e w' ⟨rfl, rfl⟩)
  rw [rounds_succ]
  go_wp2_with (go_at_call 74; (with_reducible first | refine (T1.out _).mono ?_ | refine (T2.out _).mono ?_ | refine (T3.out _).mono ?_ | refine (T4.out _).mono ?_); rintro e w' ⟨rfl, rfl⟩)
  rw [rounds_succ]
  go_wp2_with (go_at_call 74; (with_reducible first | refine (T1.out _).mono ?_ | refine (T2.out _).mono ?_ | refine (T3.out _).mono ?_ | refine (T4.out _).mono ?_); rintro e w' ⟨rfl, rfl⟩)
  refine bodyPost_ret (v := .agg #[.int .u64 (c4 : Int), .int .u64 (p4 : Int), .int .u64 (p3 : Int), .int .u64 (p1 : Int)]) (by simp [results, Try.results69, go_sem]) rfl ⟨rfl, ?_⟩
  exact ((((Below.refl _ _).alloc (Nat.le_refl _) _).alloc (by simp) _).alloc (by simp; omega) _).alloc (by simp; omega) _
theorem times_any (m n : Int) (hm : 0 ≤ m) (hn : 0 ≤ n) (rm : R m) (rn : R n) (w : World) :
    Calls Try.prog 69 #[Wv m, Wv n] w fun e w' => e = .returned (Pv (m.toNat * n.toNat)) ∧ Below w.heap.size w w' := by
  rw [R_iff] at rm rn
  obtain ⟨a0, ha0⟩ := Int.eq_ofNat_of_zero_le (show 0 ≤ lo m by unfold lo; omega)
  obtain ⟨a1, ha1⟩ := Int.eq_ofNat_of_zero_le (show 0 ≤ hi m by unfold hi; omega)
  obtain ⟨b0, hb0⟩ := Int.eq_ofNat_of_zero_le (show 0 ≤ lo n by unfold lo; omega)
  obtain ⟨b1, hb1⟩ := Int.eq_ofNat_of_zero_le (show 0 ≤ hi n by unfold hi; omega)
  have e1 : m.toNat = a0 + 18446744073709551616 * a1 := by unfold lo at ha0; unfold hi at ha1; omega
  have e2 : n.toNat = b0 + 18446744073709551616 * b1 := by unfold lo at hb0; unfold hi at hb1; omega
  rw [e1, e2]
  unfold Wv
  rw [ha0, ha1, hb0, hb1]
  exact times_limbs a0 a1 b0 b1 (by unfold lo at ha0; omega) (by unfold lo at hb0; omega) (by unfold hi at ha1; omega) (by unfold hi at hb1; omega) w
end Go.Proofs.Ytimmgmhgahbcbaa
namespace Go.Proofs.Ytimmgmhgahbcbaa
open Go.RowKit Go.Shelf

set_option maxRecDepth 100000 in
set_option maxHeartbeats 4000000 in
theorem cmp4_0 {g h : Nat} {x0 x1 x2 x3 y0 y1 y2 y3 : Int} {W : World} (c0 : W.cell? ⟨g, 0, none⟩ = some (.int .u64 x0)) (d0 : W.cell? ⟨h, 0, none⟩ = some (.int .u64 y0)) (_c1 : W.cell? ⟨g, 1, none⟩ = some (.int .u64 x1)) (_d1 : W.cell? ⟨h, 1, none⟩ = some (.int .u64 y1)) (_c2 : W.cell? ⟨g, 2, none⟩ = some (.int .u64 x2)) (_d2 : W.cell? ⟨h, 2, none⟩ = some (.int .u64 y2)) (_c3 : W.cell? ⟨g, 3, none⟩ = some (.int .u64 x3)) (_d3 : W.cell? ⟨h, 3, none⟩ = some (.int .u64 y3))  (n : sg x0 y0 ≠ 0) :
    Calls Try.prog 75 #[.slice (some ⟨g, 0, none⟩) 4 4, .slice (some ⟨h, 0, none⟩) 4 4] W fun e w' => e = .returned (.int .i64 (sg x0 y0)) ∧ W = w' := by
  have C0 := Lib.hid (fun V : World => compare_u64 x0 y0 V)
  obtain ⟨s, hs⟩ : ∃ s, s = sg x0 y0 := ⟨_, rfl⟩
  rw [← hs] at C0 n ⊢
  have n1 : (s != 0) = true := bne_iff_ne.2 n
  clear hs n
  go_enter Try.func75, Try.ntmps75
  go_wp2
  refine wp_loop_rounds 6 ?_
  rw [rounds_succ]
  go_wp2_with (go_at_call 78; (with_reducible first | refine (C0.out _).mono ?_); rintro e w' ⟨rfl, rfl⟩)
  go_ret
  exact ⟨rfl, rfl⟩
set_option maxRecDepth 100000 in
set_option maxHeartbeats 4000000 in
theorem cmp4_1 {g h : Nat} {x0 x1 x2 x3 y0 y1 y2 y3 : Int} {W : World} (c0 : W.cell? ⟨g, 0, none⟩ = some (.int .u64 x0)) (d0 : W.cell? ⟨h, 0, none⟩ = some (.int .u64 y0)) (c1 : W.cell? ⟨g, 1, none⟩ = some (.int .u64 x1)) (d1 : W.cell? ⟨h, 1, none⟩ = some (.int .u64 y1)) (_c2 : W.cell? ⟨g, 2, none⟩ = some (.int .u64 x2)) (_d2 : W.cell? ⟨h, 2, none⟩ = some (.int .u64 y2)) (_c3 : W.cell? ⟨g, 3, none⟩ = some (.int .u64 x3)) (_d3 : W.cell? ⟨h, 3, none⟩ = some (.int .u64 y3)) (e0 : sg x0 y0 = 0) (n : sg x1 y1 ≠ 0) :
    Calls Try.prog 75 #[.slice (some ⟨g, 0, none⟩) 4 4, .slice (some ⟨h, 0, none⟩) 4 4] W fun e w' => e = .returned (.int .i64 (sg x1 y1)) ∧ W = w' := by
  have C0 : Hid (∀ V : World, Calls Try.prog 78 #[.int .u64 x0, .int .u64 y0] V fun e w' => e = .returned (.int .i64 0) ∧ V = w') := Lib.hid (fun V => by have q := compare_u64 x0 y0 V; rwa [e0] at q)
  have C1 := Lib.hid (fun V : World => compare_u64 x1 y1 V)
  obtain ⟨s, hs⟩ : ∃ s, s = sg x1 y1 := ⟨_, rfl⟩
  rw [← hs] at C1 n ⊢
  have n1 : (s != 0) = true := bne_iff_ne.2 n
  clear hs n
  clear e0
  go_enter Try.func75, Try.ntmps75
  go_wp2
  refine wp_loop_rounds 6 ?_
  rw [rounds_succ]
  go_wp2_with (go_at_call 78; (with_reducible first | refine (C0.out _).mono ?_ | refine (C1.out _).mono ?_); rintro e w' ⟨rfl, rfl⟩)
  rw [rounds_succ]
  go_wp2_with (go_at_call 78; (with_reducible first | refine (C0.out _).mono ?_ | refine (C1.out _).mono ?_); rintro e w' ⟨rfl, rfl⟩)
  go_ret
  exact ⟨rfl, rfl⟩
set_option maxRecDepth 100000 in
set_option maxHeartbeats 4000000 in
theorem cmp4_2 {g h : Nat} {x0 x1 x2 x3 y0 y1 y2 y3 : Int} {W : World} (c0 : W.cell? ⟨g, 0, none⟩ = some (.int .u64 x0)) (d0 : W.cell? ⟨h, 0, none⟩ = some (.int .u64 y0)) (c1 : W.cell? ⟨g, 1, none⟩ = some (.int .u64 x1)) (d1 : W.cell? ⟨h, 1, none⟩ = some (.int .u64 y1)) (c2 : W.cell? ⟨g, 2, none⟩ = some (.int .u64 x2)) (d2 : W.cell? ⟨h, 2, none⟩ = some (.int .u64 y2)) (_c3 : W.cell? ⟨g, 3, none⟩ = some (.int .u64 x3)) (_d3 : W.cell? ⟨h, 3, none⟩ = some (.int .u64 y3)) (e0 : sg x0 y0 = 0) (e1 : sg x1 y1 = 0) (n : sg x2 y2 ≠ 0) :
    Calls Try.prog 75 #[.slice (some ⟨g, 0, none⟩) 4 4, .slice (some ⟨h, 0, none⟩) 4 4] W fun e w' => e = .returned (.int .i64 (sg x2 y2)) ∧ W = w' := by
  have C0 : Hid (∀ V : World, Calls Try.prog 78 #[.int .u64 x0, .int .u64 y0] V fun e w' => e = .returned (.int .i64 0) ∧ V = w') := Lib.hid (fun V => by have q := compare_u64 x0 y0 V; rwa [e0] at q)
  have C1 : Hid (∀ V : World, Calls Try.prog 78 #[.int .u64 x1, .int .u64 y1] V fun e w' => e = .returned (.int .i64 0) ∧ V = w') := Lib.hid (fun V => by have q := compare_u64 x1 y1 V; rwa [e1] at q)
  have C2 := Lib.hid (fun V : World => compare_u64 x2 y2 V)
  obtain ⟨s, hs⟩ : ∃ s, s = sg x2 y2 := ⟨_, rfl⟩
  rw [← hs] at C2 n ⊢
  have n1 : (s != 0) = true := bne_iff_ne.2 n
  clear hs n
  clear e0 e1
  go_enter Try.func75, Try.ntmps75
  go_wp2
  refine wp_loop_rounds 6 ?_
  rw [rounds_succ]
  go_wp2_with (go_at_call 78; (with_reducible first | refine (C0.out _).mono ?_ | refine (C1.out _).mono ?_ | refine (C2.out _).mono ?_); rintro e w' ⟨rfl, rfl⟩)
  rw [rounds_succ]
  go_wp2_with (go_at_call 78; (with_reducible first | refine (C0.out _).mono ?_ | refine (C1.out _).mono ?_ | refine (C2.out _).mono ?_); rintro e w' ⟨rfl, rfl⟩)
  rw [rounds_succ]
  go_wp2_with (go_at_call 78; (with_reducible first | refine (C0.out _).mono ?_ | refine (C1.out _).mono ?_ | refine (C2.out _).mono ?_); rintro e w' ⟨rfl, rfl⟩)
  go_ret
  exact ⟨rfl, rfl⟩
set_option maxRecDepth 100000 in
set_option maxHeartbeats 4000000 in
theorem cmp4_3 {g h : Nat} {x0 x1 x2 x3 y0 y1 y2 y3 : Int} {W : World} (c0 : W.cell? ⟨g, 0, none⟩ = some (.int .u64 x0)) (d0 : W.cell? ⟨h, 0, none⟩ = some (.int .u64 y0)) (c1 : W.cell? ⟨g, 1, none⟩ = some (.int .u64 x1)) (d1 : W.cell? ⟨h, 1, none⟩ = some (.int .u64 y1)) (c2 : W.cell? ⟨g, 2, none⟩ = some (.int .u64 x2)) (d2 : W.cell? ⟨h, 2, none⟩ = some (.int .u64 y2)) (c3 : W.cell? ⟨g, 3, none⟩ = some (.int .u64 x3)) (d3 : W.cell? ⟨h, 3, none⟩ = some (.int .u64 y3)) (e0 : sg x0 y0 = 0) (e1 : sg x1 y1 = 0) (e2 : sg x2 y2 = 0) (n : sg x3 y3 ≠ 0) :
    Calls Try.prog 75 #[.slice (some ⟨g, 0, none⟩) 4 4, .slice (some ⟨h, 0, none⟩) 4 4] W fun e w' => e = .returned (.int .i64 (sg x3 y3)) ∧ W = w' := by
  have C0 : Hid (∀ V : World, Calls Try.prog 78 #[.int .u64 x0, .int .u64 y0] V fun e w' => e = .returned (.int .i64 0) ∧ V = w') := Lib.hid (fun V => by have q := compare_u64 x0 y0 V; rwa [e0] at q)
  have C1 : Hid (∀ V : World, Calls Try.prog 78 #[.int .u64 x1, .int .u64 y1] V fun e w' => e = .returned (.int .i64 0) ∧ V = w') := Lib.hid (fun V => by have q := compare_u64 x1 y1 V; rwa [e1] at q)
  have C2 : Hid (∀ V : World, Calls Try.prog 78 #[.int .u64 x2, .int .u64 y2] V fun e w' => e = .returned (.int .i64 0) ∧ V = w') := Lib.hid (fun V => by have q := compare_u64 x2 y2 V; rwa [e2] at q)
  have C3 := Lib.hid (fun V : World => compare_u64 x3 y3 V)
  obtain ⟨s, hs⟩ : ∃ s, s = sg x3 y3 := ⟨_, rfl⟩
  rw [← hs] at C3 n ⊢
  have n1 : (s != 0) = true := bne_iff_ne.2 n
  clear hs n
  clear e0 e1 e2
  go_enter Try.func75, Try.ntmps75
  go_wp2
  refine wp_loop_rounds 6 ?_
  rw [rounds_succ]
  go_wp2_with (go_at_call 78; (with_reducible first | refine (C0.out _).mono ?_ | refine (C1.out _).mono ?_ | refine (C2.out _).mono ?_ | refine (C3.out _).mono ?_); rintro e w' ⟨rfl, rfl⟩)
  rw [rounds_succ]
  go_wp2_with (go_at_call 78; (with_reducible first | refine (C0.out _).mono ?_ | refine (C1.out _).mono ?_ | refine (C2.out _).mono ?_ | refine (C3.out _).mono ?_); rintro e w' ⟨rfl, rfl⟩)
  rw [rounds_succ]
  go_wp2_with (go_at_call 78; (with_reducible first | refine (C0.out _).mono ?_ | refine (C1.out _).mono ?_ | refine (C2.out _).mono ?_ | refine (C3.out _).mono ?_); rintro e w' ⟨rfl, rfl⟩)
  rw [rounds_succ]
  go_wp2_with (go_at_call 78; (with_reducible first | refine (C0.out _).mono ?_ | refine (C1.out _).mono ?_ | refine (C2.out _).mono ?_ | refine (C3.out _).mono ?_); rintro e w' ⟨rfl, rfl⟩)
  go_ret
  exact ⟨rfl, rfl⟩
set_option maxRecDepth 100000 in
set_option maxHeartbeats 4000000 in
theorem cmp4_4 {g h : Nat} {x0 x1 x2 x3 y0 y1 y2 y3 : Int} {W : World} (c0 : W.cell? ⟨g, 0, none⟩ = some (.int .u64 x0)) (d0 : W.cell? ⟨h, 0, none⟩ = some (.int .u64 y0)) (c1 : W.cell? ⟨g, 1, none⟩ = some (.int .u64 x1)) (d1 : W.cell? ⟨h, 1, none⟩ = some (.int .u64 y1)) (c2 : W.cell? ⟨g, 2, none⟩ = some (.int .u64 x2)) (d2 : W.cell? ⟨h, 2, none⟩ = some (.int .u64 y2)) (c3 : W.cell? ⟨g, 3, none⟩ = some (.int .u64 x3)) (d3 : W.cell? ⟨h, 3, none⟩ = some (.int .u64 y3)) (e0 : sg x0 y0 = 0) (e1 : sg x1 y1 = 0) (e2 : sg x2 y2 = 0) (e3 : sg x3 y3 = 0) :
    Calls Try.prog 75 #[.slice (some ⟨g, 0, none⟩) 4 4, .slice (some ⟨h, 0, none⟩) 4 4] W fun e w' => e = .returned (.int .i64 (0)) ∧ W = w' := by
  have C0 : Hid (∀ V : World, Calls Try.prog 78 #[.int .u64 x0, .int .u64 y0] V fun e w' => e = .returned (.int .i64 0) ∧ V = w') := Lib.hid (fun V => by have q := compare_u64 x0 y0 V; rwa [e0] at q)
  have C1 : Hid (∀ V : World, Calls Try.prog 78 #[.int .u64 x1, .int .u64 y1] V fun e w' => e = .returned (.int .i64 0) ∧ V = w') := Lib.hid (fun V => by have q := compare_u64 x1 y1 V; rwa [e1] at q)
  have C2 : Hid (∀ V : World, Calls Try.prog 78 #[.int .u64 x2, .int .u64 y2] V fun e w' => e = .returned (.int .i64 0) ∧ V = w') := Lib.hid (fun V => by have q := compare_u64 x2 y2 V; rwa [e2] at q)
  have C3 : Hid (∀ V : World, Calls Try.prog 78 #[.int .u64 x3, .int .u64 y3] V fun e w' => e = .returned (.int .i64 0) ∧ V = w') := Lib.hid (fun V => by have q := compare_u64 x3 y3 V; rwa [e3] at q)
  clear e0 e1 e2 e3
  go_enter Try.func75, Try.ntmps75
  go_wp2
  refine wp_loop_rounds 6 ?_
  rw [rounds_succ]
  go_wp2_with (go_at_call 78; (with_reducible first | refine (C0.out _).mono ?_ | refine (C1.out _).mono ?_ | refine (C2.out _).mono ?_ | refine (C3.out _).mono ?_); rintro e w' ⟨rfl, rfl⟩)
  rw [rounds_succ]
  go_wp2_with (go_at_call 78; (with_reducible first | refine (C0.out _).mono ?_ | refine (C1.out _).mono ?_ | refine (C2.out _).mono ?_ | refine (C3.out _).mono ?_); rintro e w' ⟨rfl, rfl⟩)
  rw [rounds_succ]
  go_wp2_with (go_at_call 78; (with_reducible first | refine (C0.out _).mono ?_ | refine (C1.out _).mono ?_ | refine (C2.out _).mono ?_ | refine (C3.out _).mono ?_); rintro e w' ⟨rfl, rfl⟩)
  rw [rounds_succ]
  go_wp2_with (go_at_call 78; (with_reducible first | refine (C0.out _).mono ?_ | refine (C1.out _).mono ?_ | refine (C2.out _).mono ?_ | refine (C3.out _).mono ?_); rintro e w' ⟨rfl, rfl⟩)
  rw [rounds_succ]
  go_wp2_with (go_at_call 78; (with_reducible first | refine (C0.out _).mono ?_ | refine (C1.out _).mono ?_ | refine (C2.out _).mono ?_ | refine (C3.out _).mono ?_); rintro e w' ⟨rfl, rfl⟩)
  go_ret
  exact ⟨rfl, rfl⟩
theorem sg_ne {a b : Int} (h : sg a b ≠ 0) : a ≠ b := fun e => h (by rw [e]; exact sg_eq b)
theorem sg_zero {a b : Int} (h : sg a b = 0) : a = b := by
  unfold sg at h
  split at h
  · simp at h
  · split at h
    · simp at h
    · omega
theorem sg_of {a b c d : Int} (h1 : a < b ↔ c < d) (h2 : b < a ↔ d < c) : sg a b = sg c d := by
  unfold sg
  simp only [h1, gt_iff_lt, h2]
theorem limbs_of (n : Nat) : ∃ n0 n1 n2 n3 : Nat, n % 18446744073709551616 = n0 ∧ n / 18446744073709551616 % 18446744073709551616 = n1 ∧ n / 340282366920938463463374607431768211456 % 18446744073709551616 = n2 ∧ n / 6277101735386680763835789423207666416102355444464034512896 = n3 ∧ n = n0 + 18446744073709551616 * n1 + 340282366920938463463374607431768211456 * n2 + 6277101735386680763835789423207666416102355444464034512896 * n3 ∧ n0 < 18446744073709551616 ∧ n1 < 18446744073709551616 ∧ n2 < 18446744073709551616 := by
  refine ⟨_, _, _, _, rfl, rfl, rfl, rfl, ?_, ?_, ?_, ?_⟩ <;> omega
theorem pcmp_any {g h : Nat} (m n : Nat) {W : World} {cs ds : Array Value} (hc : Blk W g 109 cs) (hd : Blk W h 109 ds) (ec : Pv m = .agg cs) (ed : Pv n = .agg ds) :
    Calls Try.prog 75 #[.slice (some ⟨g, 0, none⟩) 4 4, .slice (some ⟨h, 0, none⟩) 4 4] W fun e w' => e = .returned (.int .i64 (sg (m : Int) (n : Int))) ∧ W = w' := by
  obtain ⟨m0, m1, m2, m3, a0, a1, a2, a3, em, b0, b1, b2⟩ := limbs_of m
  obtain ⟨n0, n1, n2, n3, a4, a5, a6, a7, en, b4, b5, b6⟩ := limbs_of n
  unfold Pv at ec ed
  rw [a0, a1, a2, a3] at ec
  rw [a4, a5, a6, a7] at ed
  clear a0 a1 a2 a3 a4 a5 a6 a7
  simp only [Value.agg.injEq] at ec ed
  subst ec ed
  have c0 := hc.cell 0
  have c1 := hc.cell 1
  have c2 := hc.cell 2
  have c3 := hc.cell 3
  have d0 := hd.cell 0
  have d1 := hd.cell 1
  have d2 := hd.cell 2
  have d3 := hd.cell 3
  by_cases g3 : sg (m3 : Int) (n3 : Int) = 0
  · by_cases g2 : sg (m2 : Int) (n2 : Int) = 0
    · by_cases g1 : sg (m1 : Int) (n1 : Int) = 0
      · by_cases g0 : sg (m0 : Int) (n0 : Int) = 0
        · have q3 := sg_zero g3
          have q2 := sg_zero g2
          have q1 := sg_zero g1
          have q0 := sg_zero g0
          rw [show (m : Int) = (n : Int) by omega, sg_eq]
          exact cmp4_4 c0 d0 c1 d1 c2 d2 c3 d3 g3 g2 g1 g0
        · have q3 := sg_zero g3
          have q2 := sg_zero g2
          have q1 := sg_zero g1
          rw [sg_of (a := (m : Int)) (b := (n : Int)) (c := (m0 : Int)) (d := (n0 : Int)) (by omega) (by omega)]
          exact cmp4_3 c0 d0 c1 d1 c2 d2 c3 d3 g3 g2 g1 g0
      · have q3 := sg_zero g3
        have q2 := sg_zero g2
        have q1 := sg_ne g1
        rw [sg_of (a := (m : Int)) (b := (n : Int)) (c := (m1 : Int)) (d := (n1 : Int)) (by omega) (by omega)]
        exact cmp4_2 c0 d0 c1 d1 c2 d2 c3 d3 g3 g2 g1
    · have q3 := sg_zero g3
      have q2 := sg_ne g2
      rw [sg_of (a := (m : Int)) (b := (n : Int)) (c := (m2 : Int)) (d := (n2 : Int)) (by omega) (by omega)]
      exact cmp4_1 c0 d0 c1 d1 c2 d2 c3 d3 g3 g2
  · have q3 := sg_ne g3
    rw [sg_of (a := (m : Int)) (b := (n : Int)) (c := (m3 : Int)) (d := (n3 : Int)) (by omega) (by omega)]
    exact cmp4_0 c0 d0 c1 d1 c2 d2 c3 d3 g3
set_option maxRecDepth 100000 in
set_option maxHeartbeats 4000000 in
theorem compare_pv (m n : Nat) (w : World) : Calls Try.prog 70 #[Pv m, Pv n] w fun e w' => e = .returned (.int .i64 (sg (m : Int) (n : Int))) ∧ Below w.heap.size w w' := by
  obtain ⟨cs, hcs⟩ : ∃ cs, Pv m = .agg cs := ⟨_, rfl⟩
  obtain ⟨ds, hds⟩ : ∃ ds, Pv n = .agg ds := ⟨_, rfl⟩
  obtain ⟨m3, m2, m1, m0, e1⟩ : ∃ a b c d, cs = #[.int .u64 a, .int .u64 b, .int .u64 c, .int .u64 d] := by unfold Pv at hcs; simp only [Value.agg.injEq] at hcs; exact ⟨_, _, _, _, hcs.symm⟩
  obtain ⟨n3, n2, n1, n0, e2⟩ : ∃ a b c d, ds = #[.int .u64 a, .int .u64 b, .int .u64 c, .int .u64 d] := by unfold Pv at hds; simp only [Value.agg.injEq] at hds; exact ⟨_, _, _, _, hds.symm⟩
  have KC := Lib.hid (fun (V : World) (hV : Below ((w.alloc (.cells cs 109)).alloc (.cells ds 109)).heap.size ((w.alloc (.cells cs 109)).alloc (.cells ds 109)) V) => pcmp_any (g := w.heap.size) (h := w.heap.size + 1) m n (W := V) (((Blk.new w 109 cs).alloc _).below hV (by simp; omega)) ((by have q := Blk.new (w.alloc (.cells cs 109)) 109 ds; rwa [World.size_alloc] at q : Blk _ (w.heap.size + 1) 109 ds).below hV (by simp)) hcs hds)
  obtain ⟨w2, hw2⟩ : ∃ w2, w2 = (w.alloc (.cells cs 109)).alloc (.cells ds 109) := ⟨_, rfl⟩
  have B2 : Hid (Below w.heap.size w w2) := Lib.hid (by rw [hw2]; exact ((Below.refl _ _).alloc (Nat.le_refl _) _).alloc (by simp) _)
  rw [← hw2] at KC
  have HW := Lib.hid hw2
  clear hw2
  rw [hcs, hds]
  have HE := Lib.hid (And.intro hcs hds)
  clear hcs hds
  subst e1 e2
  go_enter Try.func70, Try.ntmps70
  go_upto_region 1 with fail
  rw [← HW.out]
  clear HW
  go_quiet ((go_at_call 75; exact Calls.quiet_of_same ((KC.out _ (below_drw (Below.refl _ _) _)).mono fun _ _ h => ⟨h.1, h.2.symm⟩)))
  go_wp2
  go_ret
  exact ⟨rfl, below_drw B2.out _⟩
end Go.Proofs.Ytimmgmhgahbcbaa
