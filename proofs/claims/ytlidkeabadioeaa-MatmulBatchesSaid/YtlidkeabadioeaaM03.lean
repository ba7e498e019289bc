/-
  The laws' own helpers: lists held against one another, copied, written over; numbers brought within bounds.
  Lists of words: alike? all words?
  The program's look for numbers that are no words.
  Views as lists of whole numbers: where an index stands; plain mathematics.
  Views as lists of whole numbers: which may be; axes; what transposed, sliced, widened, reshaped views are; plain mathematics.
  Lists held against one another, looked through, cloned: slices.Index, Contains, Equal, Clone; the reference's In.
  view.stays, Check.
-/
import Derived.Deep.QuietTactic
import Derived.BigQuiet
import Derived.Laws.AppendOwn
import Derived.Lib.SliceRun
import Derived.WalkMore
import Derived.Test.YtlidkeabadioeaaM01
import Derived.Test.YtlidkeabadioeaaM02
namespace Go.Proofs.Ytlidkeabadioeaa
open Go.RowKit
theorem below_drw {B : Nat} {w W : World} (h : Below B w W) (n : Nat) : Below B w (W.drewN n) := ⟨h.os, h.tape, h.output, h.size, h.block⟩

theorem tm_64 (i n : Int) (h0 : 1 ≤ n) (h1 : n ≤ 9223372036854775807) : wrap64 ((IntKind.u64.wrap i).tmod n) = (i % 18446744073709551616) % n := by
  rw [IntKind.wrap_u64, Int.tmod_eq_emod_of_nonneg (by omega)]
  have := Int.emod_nonneg (i % 18446744073709551616) (show n ≠ 0 by omega)
  have := Int.emod_lt_of_pos (i % 18446744073709551616) (show 0 < n by omega)
  exact IntWalk.wrap64_in _ ⟨by omega, by omega⟩
theorem win_any (i n : Int) (w : World) (h0 : 1 ≤ n) (h1 : n ≤ 9223372036854775807) : Calls Try.prog 20 #[.int .i64 i, .int .i64 n] w fun e w' => e = .returned (.int .i64 ((i % 18446744073709551616) % n)) ∧ w = w' := by
  have E := Lib.hid (tm_64 i n h0 h1)
  go_enter Try.func20, Try.ntmps20
  go_wp2
  go_ret
  exact ⟨by rw [← E.out]; rfl, rfl⟩

set_option maxRecDepth 100000 in
set_option maxHeartbeats 4000000 in
theorem eqn_any (va vb : Value) (a b : List Int) (w : World) (ha : Ld w va a) (hb : Ld w vb b) (la : a.length ≤ 17592186044416) (_lb : b.length ≤ 17592186044416) :
    Calls Try.prog 32 #[va, vb] w fun e w' => e = .returned (.bool (decide (a = b))) ∧ Below w.heap.size w w' := by
  obtain ⟨oa, ca, rfl, _, hxa⟩ := ha
  obtain ⟨ob, cb, rfl, _, hxb⟩ := hb
  have HA := Lib.hid hxa
  have HB := Lib.hid hxb
  clear hxa hxb
  by_cases hl : a.length = b.length
  · have HL := Lib.hid hl
    have HX : Hid ((∀ k, k < a.length → a.getD k 0 = b.getD k 0) → a = b) := ext_getD hl
    rw [← hl]
    clear hl _lb
    go_enter Try.func32, Try.ntmps32
    go_wp2
    go_loopw [5] (fun s5 wr => ∃ k : Nat, k ≤ a.length ∧ s5 = .int .i64 k ∧ Hid (∀ j, j < k → a.getD j 0 = b.getD j 0) ∧ Below w.heap.size w wr) (fun s5 _ => a.length - (intOf s5).toNat)
    case atStart => exact ⟨0, Nat.zero_le _, rfl, fun j hj => absurd hj (Nat.not_lt_zero _), Below.refl _ _⟩
    case round =>
      obtain ⟨k, hk, rfl, HK, hW⟩ := hrel
      by_cases hlt : k < a.length
      · obtain ⟨b1, f1, rfl, h1, c1⟩ := HA.out k hlt
        obtain ⟨b2, f2, rfl, h2, c2⟩ := HB.out k (by have := HL.out; omega)
        have c1' : wr.cell? ⟨b1, f1 + k, none⟩ = some (.int .i64 (a.getD k 0)) := (hW.cell (p := ⟨b1, f1 + k, none⟩) h1).trans c1
        have c2' : wr.cell? ⟨b2, f2 + k, none⟩ = some (.int .i64 (b.getD k 0)) := (hW.cell (p := ⟨b2, f2 + k, none⟩) h2).trans c2
        have HG : Hid (a.getD k 0 = b.getD k 0 → ∀ j, j < k + 1 → a.getD j 0 = b.getD j 0) := fun g j hj => by
          by_cases e : j = k
          · subst e; exact g
          · exact HK.out j (by omega)
        have HN : Hid (¬ a.getD k 0 = b.getD k 0 → decide (a = b) = false) := fun g => decide_eq_false (fun e => g (by rw [e]))
        clear c1 c2
        generalize a.getD k 0 = x at *
        generalize b.getD k 0 = y at *
        by_cases g : x = y
        · subst g
          have R := Lib.hid (HG.out rfl)
          go_wp2
          go_quiet (fail)
          go_wp2
          exact ⟨⟨k + 1, by omega, by go_num, R, by first | exact below_drw hW _ | exact hW⟩, by simp [intOf]; omega⟩
        · have R := Lib.hid (HN.out g)
          have g' : (x != y) = true := by rw [bne_iff_ne]; exact g
          clear g
          go_wp2
          go_quiet (fail)
          go_wp2
          go_ret
          exact ⟨by rw [R.out]; rfl, by first | exact below_drw hW _ | exact hW⟩
      · have e : Hid (decide (a = b) = true) := decide_eq_true (HX.out fun j hj => HK.out j (by omega))
        go_wp2
        go_ret
        exact ⟨by rw [e.out]; rfl, hW⟩
  · have e : Hid (decide (a = b) = false) := decide_eq_false (fun e => hl (by rw [e]))
    have hl2 : ((a.length : Int) != (b.length : Int)) = true := by rw [bne_iff_ne]; omega
    clear hl
    go_enter Try.func32, Try.ntmps32
    go_wp2
    go_ret
    exact ⟨by rw [e.out]; rfl, Below.refl _ _⟩

/-- A list in a slice of the call's own. -/
def SomeC (w : World) (ls : List Int) (e : Ending) (w' : World) : Prop := ∃ o c, e = .returned (.slice o ls.length c) ∧ w'.ownsRow w.heap.size 3 1 (.slice o ls.length c) ls.length (ints ls) ∧ Ld w' (.slice o ls.length c) ls ∧ Below w.heap.size w w'
theorem Ld.of_owns {w : World} {base : Nat} {e : TypeId} {v : Value} {ls : List Int} (h : w.ownsRow base e 1 v ls.length (ints ls)) : ∃ o c, v = .slice o ls.length c ∧ Ld w (.slice o ls.length c) ls := by
  rcases h.2 with ⟨rfl, h0⟩ | ⟨g, cap, cur, rfl, _, hh, hc, _, hsz, ht⟩
  · have : ls = [] := List.eq_nil_of_length_eq_zero (by simpa using h0)
    subst this
    exact ⟨_, _, rfl, Ld.nil w⟩
  · refine ⟨_, _, rfl, _, _, rfl, hc, fun i hi => ⟨g, 0, rfl, (Array.getElem?_eq_some_iff.1 hh).1, ?_⟩⟩
    rw [Nat.zero_add, cell_of_row w g i cur e (0, 0) hh]
    have : (ints ls)[i]? = some (.int .i64 (ls.getD i 0)) := by simpa using ints_at hi
    rw [← ht, List.getElem?_take] at this
    split at this
    · simpa using this
    · cases this

set_option maxRecDepth 100000 in
set_option maxHeartbeats 4000000 in
theorem copy_any (v : Value) (ls : List Int) (w : World) (h : Ld w v ls) (ll : ls.length ≤ 17592186044000) :
    Calls Try.prog 45 #[v] w (SomeC w ls) := by
  obtain ⟨i0, hi0, hz0, hz1, hz2⟩ := info_parts infoI
  obtain ⟨o, c, rfl, _, hx⟩ := h
  have HX := Lib.hid hx
  clear hx
  go_enter Try.func45, Try.ntmps45
  go_wp2
  go_loopw [3, 4] (fun s3 s4 wr => ∃ k : Nat, k ≤ ls.length ∧ s4 = .int .i64 k ∧ Hid (wr.ownsRow w.heap.size 3 1 s3 k (ints (ls.take k))) ∧ Below w.heap.size w wr) (fun _ s4 _ => ls.length - (intOf s4).toNat)
  case atStart => exact ⟨0, Nat.zero_le _, rfl, World.ownsRow_nil _ _ _ _, Below.refl _ _⟩
  case round =>
    obtain ⟨k, hk, rfl, HO, hB⟩ := hrel
    have hBs := hB.size
    by_cases hlt : k < ls.length
    · obtain ⟨b, f, rfl, hb, hc⟩ := HX.out k hlt
      have hc' : wr.cell? ⟨b, f + k, none⟩ = some (.int .i64 (ls.getD k 0)) := (hB.cell (p := ⟨b, f + k, none⟩) hb).trans hc
      have E : Hid (ints (ls.take (k + 1)) = ints (ls.take k) ++ [.int .i64 (ls.getD k 0)]) := by
        unfold Hid ints
        rw [List.take_succ_eq_append_getElem hlt, List.map_append]
        simp [List.getD, List.getElem?_eq_getElem hlt]
      clear hc
      generalize ls.getD k 0 = x at *
      go_wp2_with (at_builtin; refine wpList_append_own _ rfl _ _ 23 rfl w.heap.size 3 i0 (.int .i64 0) 1 8 Try.underlying23 hi0 hz0 hz1 hz2 rfl (by decide) _ k (ints (ls.take k)) rfl (HO.out.alloc _) ⟨wr.heap.size, 0, none⟩ 1 1 [.int .i64 x] rfl rfl ?c1 ?c2 ?c3 ?c4 ?c5 ?_)
      case c1 => exact (cell_one_new _ _ _)
      case c2 => simp [Value.oneCell']
      case c3 => unfold maxLen; omega
      case c4 => omega
      case c5 => simp; omega
      intro v' w9 hown1 hgrow _
      have hB9 : Below w.heap.size w w9 := (hB.alloc hBs _).grown hgrow (by simp; omega) (fun j hj => (HO.out.lt j hj).1)
      have h1 : Hid (w9.ownsRow w.heap.size 3 1 v' (k + 1) (ints (ls.take (k + 1)))) := by
        rw [Hid, E.out]; exact hown1
      clear hown1 hgrow
      go_wp2
      exact ⟨⟨k + 1, by omega, by go_num, h1, hB9⟩, by simp [intOf]; omega⟩
    · obtain rfl : k = ls.length := by omega
      have h1 := HO.out
      rw [List.take_length] at h1
      obtain ⟨o2, c2, rfl, hld⟩ := Ld.of_owns h1
      have H1 := Lib.hid (And.intro h1 hld)
      clear h1 hld HO
      go_wp2
      go_ret
      exact ⟨o2, c2, rfl, H1.out.1, H1.out.2, hB⟩

/-- A block as a slice of the call's own. -/
theorem Blk.owns {w : World} {g base : Nat} {t : TypeId} {ls : List Int} (h : Blk w g t (ints ls).toArray) (hb : base ≤ g) (hl : ls.length ≤ 65536) : w.ownsRow base t 1 (.slice (some ⟨g, 0, none⟩) ls.length ls.length) ls.length (ints ls) := by
  refine ⟨by simp [ints], .inr ⟨g, ls.length, (ints ls).toArray, rfl, hb, h, Nat.le_refl _, by unfold maxLen; omega, by simp [ints], ?_⟩⟩
  exact List.take_of_length_le (by simp [ints])

end Go.Proofs.Ytlidkeabadioeaa
namespace Go.Proofs.Ytlidkeabadioeaa
open Go.RowKit

set_option maxRecDepth 100000 in
set_option maxHeartbeats 4000000 in
theorem eqw_any (va vb : Value) (a b : List Int) (w : World) (ha : Ld w va a) (hb : Ld w vb b) (la : a.length ≤ 17592186044416) (_lb : b.length ≤ 17592186044416) :
    Calls Try.prog 21 #[va, vb] w fun e w' => e = .returned (.bool (decide (a = b))) ∧ Below w.heap.size w w' := by
  obtain ⟨oa, ca, rfl, _, hxa⟩ := ha
  obtain ⟨ob, cb, rfl, _, hxb⟩ := hb
  have HA := Lib.hid hxa
  have HB := Lib.hid hxb
  clear hxa hxb
  by_cases hl : a.length = b.length
  · have HL := Lib.hid hl
    have HX : Hid ((∀ k, k < a.length → a.getD k 0 = b.getD k 0) → a = b) := ext_getD hl
    rw [← hl]
    clear hl _lb
    go_enter Try.func21, Try.ntmps21
    go_wp2
    go_loopw [5] (fun s5 wr => ∃ k : Nat, k ≤ a.length ∧ s5 = .int .i64 k ∧ Hid (∀ j, j < k → a.getD j 0 = b.getD j 0) ∧ Below w.heap.size w wr) (fun s5 _ => a.length - (intOf s5).toNat)
    case atStart => exact ⟨0, Nat.zero_le _, rfl, fun j hj => absurd hj (Nat.not_lt_zero _), Below.refl _ _⟩
    case round =>
      obtain ⟨k, hk, rfl, HK, hW⟩ := hrel
      by_cases hlt : k < a.length
      · obtain ⟨b1, f1, rfl, h1, c1⟩ := HA.out k hlt
        obtain ⟨b2, f2, rfl, h2, c2⟩ := HB.out k (by have := HL.out; omega)
        have c1' : wr.cell? ⟨b1, f1 + k, none⟩ = some (.int .i64 (a.getD k 0)) := (hW.cell (p := ⟨b1, f1 + k, none⟩) h1).trans c1
        have c2' : wr.cell? ⟨b2, f2 + k, none⟩ = some (.int .i64 (b.getD k 0)) := (hW.cell (p := ⟨b2, f2 + k, none⟩) h2).trans c2
        have HG : Hid (a.getD k 0 = b.getD k 0 → ∀ j, j < k + 1 → a.getD j 0 = b.getD j 0) := fun g j hj => by
          by_cases e : j = k
          · subst e; exact g
          · exact HK.out j (by omega)
        have HN : Hid (¬ a.getD k 0 = b.getD k 0 → decide (a = b) = false) := fun g => decide_eq_false (fun e => g (by rw [e]))
        clear c1 c2
        generalize a.getD k 0 = x at *
        generalize b.getD k 0 = y at *
        by_cases g : x = y
        · subst g
          have R := Lib.hid (HG.out rfl)
          go_wp2
          go_quiet (fail)
          go_wp2
          exact ⟨⟨k + 1, by omega, by go_num, R, by first | exact below_drw hW _ | exact hW⟩, by simp [intOf]; omega⟩
        · have R := Lib.hid (HN.out g)
          have g' : (x != y) = true := by rw [bne_iff_ne]; exact g
          clear g
          go_wp2
          go_quiet (fail)
          go_wp2
          go_ret
          exact ⟨by rw [R.out]; rfl, by first | exact below_drw hW _ | exact hW⟩
      · have e : Hid (decide (a = b) = true) := decide_eq_true (HX.out fun j hj => HK.out j (by omega))
        go_wp2
        go_ret
        exact ⟨by rw [e.out]; rfl, hW⟩
  · have e : Hid (decide (a = b) = false) := decide_eq_false (fun e => hl (by rw [e]))
    have hl2 : ((a.length : Int) != (b.length : Int)) = true := by rw [bne_iff_ne]; omega
    clear hl
    go_enter Try.func21, Try.ntmps21
    go_wp2
    go_ret
    exact ⟨by rw [e.out]; rfl, Below.refl _ _⟩

/-- Words alone? -/
def wds (l : List Int) : Bool := l.all fun x => decide (-140737488355328 < x) && decide (x < 140737488355328)
theorem wds_at {l : List Int} (h : wds l = true) {k : Nat} (hk : k < l.length) : -140737488355328 < l.getD k 0 ∧ l.getD k 0 < 140737488355328 := by
  unfold wds at h
  rw [List.all_eq_true] at h
  have := h (l.getD k 0) (getD_mem hk)
  simpa using this
theorem wds_no {l : List Int} {k : Nat} (hk : k < l.length) (h : ¬ (-140737488355328 < l.getD k 0 ∧ l.getD k 0 < 140737488355328)) : wds l = false := by
  cases e : wds l with
  | false => rfl
  | true => exact absurd (wds_at e hk) h
theorem wds_yes {l : List Int} (h : ∀ k, k < l.length → -140737488355328 < l.getD k 0 ∧ l.getD k 0 < 140737488355328) : wds l = true := by
  unfold wds
  rw [List.all_eq_true]
  intro x hx
  obtain ⟨i, hi, rfl⟩ := List.mem_iff_getElem.1 hx
  have := h i hi
  simp only [List.getD, List.getElem?_eq_getElem hi, Option.getD_some] at this
  simpa using this
set_option maxRecDepth 100000 in
set_option maxHeartbeats 4000000 in
theorem may2_any (x : Int) (w : World) : Calls Try.prog 74 #[.int .i64 x] w fun e w' => e = .returned (.bool (decide (-140737488355328 < x) && decide (x < 140737488355328))) ∧ w = w' := by
  by_cases g1 : -140737488355328 < x
  · by_cases g2 : x < 140737488355328
    · have b1 := decide_eq_true g1
      have b2 := decide_eq_true g2
      rw [b1, b2]
      go_enter Try.func74, Try.ntmps74
      go_wp2
      go_ret
      exact ⟨rfl, rfl⟩
    · have b1 := decide_eq_true g1
      have b2 := decide_eq_false g2
      rw [b1, b2]
      go_enter Try.func74, Try.ntmps74
      go_wp2
      go_ret
      exact ⟨rfl, rfl⟩
  · have b1 := decide_eq_false g1
    rw [b1]
    go_enter Try.func74, Try.ntmps74
    go_wp2
    go_ret
    exact ⟨rfl, rfl⟩

set_option maxRecDepth 100000 in
set_option maxHeartbeats 4000000 in
theorem words_any (v : Value) (l : List Int) (w : World) (h : Ld w v l) (hl : l.length ≤ 9223372036854775807) : Calls Try.prog 39 #[v] w fun e w' => e = .returned (.bool (wds l)) ∧ w = w' := by
  obtain ⟨o, c, rfl, _, hx⟩ := h
  have HX := Lib.hid hx
  clear hx
  go_enter Try.func39, Try.ntmps39
  go_wp2
  go_loop [3] (fun s3 => ∃ k : Nat, k ≤ l.length ∧ s3 = .int .i64 k ∧ Hid (∀ j, j < k → -140737488355328 < l.getD j 0 ∧ l.getD j 0 < 140737488355328)) (fun s3 => l.length - (intOf s3).toNat)
  case atStart => exact ⟨0, Nat.zero_le _, rfl, fun j hj => absurd hj (Nat.not_lt_zero _)⟩
  case round =>
    obtain ⟨k, hk, rfl, HK⟩ := hrel
    by_cases hlt : k < l.length
    · obtain ⟨b, f, rfl, _, hc⟩ := HX.out k hlt
      have HY : Hid ((decide (-140737488355328 < l.getD k 0) && decide (l.getD k 0 < 140737488355328)) = true → ∀ j, j < k + 1 → -140737488355328 < l.getD j 0 ∧ l.getD j 0 < 140737488355328) := fun g j hj => by
        by_cases e : j = k
        · subst e; simpa using g
        · exact HK.out j (by omega)
      have HN : Hid ((decide (-140737488355328 < l.getD k 0) && decide (l.getD k 0 < 140737488355328)) = false → wds l = false) := fun g => wds_no hlt (fun e => by rw [decide_eq_true e.1, decide_eq_true e.2] at g; cases g)
      generalize l.getD k 0 = x at *
      have KM := Lib.hid (fun (W : World) => may2_any x W)
      cases gg : (decide (-140737488355328 < x) && decide (x < 140737488355328)) with
      | true =>
        rw [gg] at KM
        have R := Lib.hid (HY.out gg)
        clear gg
        go_wp2_with (go_at_call 74; (with_reducible refine (KM.out _).mono ?_); rintro e w' ⟨rfl, rfl⟩)
        exact ⟨⟨k + 1, by omega, by go_num, R⟩, by simp [intOf]; omega⟩
      | false =>
        rw [gg] at KM
        have R := Lib.hid (HN.out gg)
        clear gg
        go_wp2_with (go_at_call 74; (with_reducible refine (KM.out _).mono ?_); rintro e w' ⟨rfl, rfl⟩)
        go_ret
        exact ⟨by rw [R.out]; rfl, rfl⟩
    · obtain rfl : k = l.length := by omega
      have R := Lib.hid (wds_yes HK.out)
      clear hlt
      go_wp2
      go_ret
      exact ⟨by rw [R.out]; rfl, rfl⟩
end Go.Proofs.Ytlidkeabadioeaa
namespace Go.Proofs.Ytlidkeabadioeaa
open Go.RowKit

/-- A word? -/
def wd1 (x : Int) : Bool := decide (-140737488355328 < x) && decide (x < 140737488355328)
set_option maxRecDepth 100000 in
set_option maxHeartbeats 2000000 in
theorem fxcheck_any (x : Int) (w : World) : Calls Try.prog 76 #[.int .i64 x] w fun e w' => e = .returned (.int .i64 (if wd1 x then 0 else 1)) ∧ w = w' := by
  by_cases g1 : x ≤ -140737488355328
  · have b1 : wd1 x = false := by unfold wd1; rw [decide_eq_false (by omega)]; rfl
    rw [b1]
    clear b1
    go_enter Try.func76, Try.ntmps76
    go_wp2
    go_ret
    exact ⟨rfl, rfl⟩
  · by_cases g2 : 140737488355328 ≤ x
    · have b1 : wd1 x = false := by unfold wd1; rw [decide_eq_false (show ¬ x < 140737488355328 by omega), Bool.and_false]
      rw [b1]
      clear b1
      go_enter Try.func76, Try.ntmps76
      go_wp2
      go_ret
      exact ⟨rfl, rfl⟩
    · have b1 : wd1 x = true := by unfold wd1; rw [decide_eq_true (by omega), decide_eq_true (by omega)]; rfl
      rw [b1]
      clear b1
      go_enter Try.func76, Try.ntmps76
      go_wp2
      go_ret
      exact ⟨rfl, rfl⟩

set_option maxRecDepth 100000 in
set_option maxHeartbeats 2000000 in
theorem noword_any (x : Int) (w : World) : Calls Try.prog 105 #[.int .i64 x] w fun e w' => e = .returned (.bool (!wd1 x)) ∧ w = w' := by
  have C := Lib.hid (fxcheck_any x)
  cases g : wd1 x with
  | true =>
    rw [g] at C
    go_enter Try.func105, Try.ntmps105
    go_wp2_with (go_at_call 76; (with_reducible refine (C.out _).mono ?_); rintro e w' ⟨rfl, rfl⟩)
    go_ret
    exact ⟨rfl, rfl⟩
  | false =>
    rw [g] at C
    go_enter Try.func105, Try.ntmps105
    go_wp2_with (go_at_call 76; (with_reducible refine (C.out _).mono ?_); rintro e w' ⟨rfl, rfl⟩)
    go_ret
    exact ⟨rfl, rfl⟩

set_option maxRecDepth 100000 in
set_option maxHeartbeats 2000000 in
theorem indexf_any (v : Value) (l : List Int) (w : World) (h : Ld w v l) (hl : l.length ≤ 9223372036854775807) :
    Calls Try.prog 124 #[v, .func (.func 105) #[] #[]] w fun e w' => ∃ r : Int, e = .returned (.int .i64 r) ∧ Hid (decide (0 ≤ r) = !wds l) ∧ w = w' := by
  obtain ⟨o, c, rfl, _, hx⟩ := h
  have HX := Lib.hid hx
  clear hx
  go_enter Try.func124, Try.ntmps124
  go_wp2
  go_loop [8] (fun s8 => ∃ k : Nat, k ≤ l.length ∧ s8 = .int .i64 k ∧ Hid (∀ j, j < k → -140737488355328 < l.getD j 0 ∧ l.getD j 0 < 140737488355328)) (fun s8 => l.length - (intOf s8).toNat)
  case atStart => exact ⟨0, Nat.zero_le _, rfl, fun j hj => absurd hj (Nat.not_lt_zero _)⟩
  case round =>
    obtain ⟨k, hk, rfl, HK⟩ := hrel
    by_cases hlt : k < l.length
    · obtain ⟨b, f, rfl, _, hc⟩ := HX.out k hlt
      have HY : Hid (wd1 (l.getD k 0) = true → ∀ j, j < k + 1 → -140737488355328 < l.getD j 0 ∧ l.getD j 0 < 140737488355328) := fun g j hj => by
        by_cases e : j = k
        · subst e; simpa [wd1] using g
        · exact HK.out j (by omega)
      have HN : Hid (wd1 (l.getD k 0) = false → wds l = false) := fun g => wds_no hlt (fun e => by unfold wd1 at g; rw [decide_eq_true e.1, decide_eq_true e.2] at g; cases g)
      generalize l.getD k 0 = x at *
      have KM := Lib.hid (fun (W : World) => noword_any x W)
      cases gg : wd1 x with
      | true =>
        rw [gg] at KM
        have R := Lib.hid (HY.out gg)
        clear gg
        go_wp2_with (go_at_call 105; (with_reducible refine (KM.out _).mono ?_); rintro e w' ⟨rfl, rfl⟩)
        exact ⟨⟨k + 1, by omega, by go_num, R⟩, by simp [intOf]; omega⟩
      | false =>
        rw [gg] at KM
        have R := Lib.hid (HN.out gg)
        clear gg
        go_wp2_with (go_at_call 105; (with_reducible refine (KM.out _).mono ?_); rintro e w' ⟨rfl, rfl⟩)
        go_ret
        exact ⟨k, rfl, by rw [Hid, R.out, decide_eq_true (by omega)]; rfl, rfl⟩
    · obtain rfl : k = l.length := by omega
      have R := Lib.hid (wds_yes HK.out)
      clear hlt
      go_wp2
      go_ret
      exact ⟨-1, rfl, by rw [Hid, R.out]; rfl, rfl⟩
set_option maxRecDepth 100000 in
set_option maxHeartbeats 2000000 in
theorem containsf_any (v : Value) (l : List Int) (w : World) (h : Ld w v l) (hl : l.length ≤ 9223372036854775807) :
    Calls Try.prog 104 #[v, .func (.func 105) #[] #[]] w fun e w' => e = .returned (.bool (!wds l)) ∧ w = w' := by
  have C := Lib.hid (indexf_any v l w h hl)
  clear h hl
  go_enter Try.func104, Try.ntmps104
  go_wp2_with (go_at_call 124; (with_reducible refine C.out.mono ?_); rintro e w' ⟨r, rfl, hr, rfl⟩)
  go_ret
  exact ⟨by rw [hr.out]; rfl, rfl⟩
set_option maxRecDepth 100000 in
set_option maxHeartbeats 2000000 in
theorem arewords_any (v : Value) (l : List Int) (w : World) (h : Ld w v l) (hl : l.length ≤ 9223372036854775807) :
    Calls Try.prog 81 #[v] w fun e w' => e = .returned (.bool (wds l)) ∧ w = w' := by
  have C := Lib.hid (containsf_any v l w h hl)
  clear h hl
  go_enter Try.func81, Try.ntmps81
  go_wp2_with (go_at_call 104; (with_reducible refine C.out.mono ?_); rintro e w' ⟨rfl, rfl⟩)
  go_ret
  exact ⟨by simp, rfl⟩

/-- A tensor? -/
def tnb (ts tds : List Int) : Bool := may ts && decide ((tds.length : Int) = prod ts) && wds tds
end Go.Proofs.Ytlidkeabadioeaa
namespace Go.Proofs.Ytlidkeabadioeaa

/-- The sum of an index times any strides. -/
def dot : List Int → List Int → Int
  | s :: r, i :: t => i * s + dot r t
  | _, _ => 0
/-- How far the last index stands from the first one. -/
def far : List Int → List Int → Int
  | s :: r, d :: t => (d - 1) * s + far r t
  | _, _ => 0
/-- Strides that may be. -/
def sts (st : List Int) : Prop := ∀ s ∈ st, 0 ≤ s ∧ s ≤ 65536
/-- A view of n words. -/
def Vw (sh st : List Int) (off n : Int) : Prop := may sh = true ∧ st.length = sh.length ∧ sts st ∧ 0 ≤ off ∧ n ≤ 65536 ∧ off < n ∧ off + far st sh < n
theorem dot_bd : ∀ {st sh i : List Int}, st.length = sh.length → sts st → inx sh i = true → 0 ≤ dot st i ∧ dot st i ≤ far st sh
  | [], [], [], _, _, _ => by simp [dot, far]
  | s :: r, d :: t, x :: u, hl, hs, hi => by
    simp only [inx, Bool.and_eq_true, decide_eq_true_eq] at hi
    obtain ⟨⟨a, b⟩, c⟩ := hi
    have h1 := (hs s (List.mem_cons_self ..)).1
    have ih := dot_bd (st := r) (sh := t) (i := u) (by simpa using hl) (fun y hy => hs y (List.mem_cons_of_mem _ hy)) c
    have h2 := Int.mul_nonneg a h1
    have h3 := Int.mul_le_mul_of_nonneg_right (show x ≤ d - 1 by omega) h1
    simp only [dot, far]
    omega
  | [], _ :: _, _, h, _, _ => by simp at h
  | _ :: _, [], _, h, _, _ => by simp at h
  | [], [], _ :: _, _, _, h => by simp [inx] at h
  | _ :: _, _ :: _, [], _, _, h => by simp [inx] at h
theorem far_nn : ∀ {st sh : List Int}, sts st → pos sh → 0 ≤ far st sh
  | [], _, _, _ => by simp [far]
  | _ :: _, [], _, _ => by simp [far]
  | s :: r, d :: t, hs, hp => by
    have h1 := (hs s (List.mem_cons_self ..)).1
    have h2 := hp d (List.mem_cons_self ..)
    have ih := far_nn (st := r) (sh := t) (fun y hy => hs y (List.mem_cons_of_mem _ hy)) (fun y hy => hp y (List.mem_cons_of_mem _ hy))
    have := Int.mul_nonneg (show 0 ≤ d - 1 by omega) h1
    simp only [far]
    omega
/-- Every index stands at a word. -/
theorem vw_at {sh st i : List Int} {off n : Int} (h : Vw sh st off n) (hi : inx sh i = true) : 0 ≤ off + dot st i ∧ off + dot st i < n := by
  obtain ⟨_, hl, hs, h0, _, _, h2⟩ := h
  have := dot_bd hl hs hi
  omega
/-- The plain view's places are the shape's own. -/
theorem dot_stl : ∀ (sh i : List Int), sh.length = i.length → dot (stl sh) i = ix sh i
  | [], [], _ => rfl
  | _ :: r, x :: t, h => by simp only [stl, dot, ix, dot_stl r t (by simpa using h)]
  | [], _ :: _, h => by simp at h
  | _ :: _, [], h => by simp at h
theorem far_stl : ∀ (sh : List Int), far (stl sh) sh = prod sh - 1
  | [] => rfl
  | d :: r => by
    simp only [stl, far, prod, far_stl r, Int.sub_mul]
    omega
theorem dot_step {st i : List Int} {k : Nat} (h : st.length = i.length) (hk : k < st.length) : dot (st.drop k) (i.drop k) = i.getD k 0 * st.getD k 0 + dot (st.drop (k + 1)) (i.drop (k + 1)) := by
  rw [drop_getD hk, drop_getD (show k < i.length by omega)]; rfl
theorem far_step {st sh : List Int} {k : Nat} (h : st.length = sh.length) (hk : k < st.length) : far (st.drop k) (sh.drop k) = (sh.getD k 0 - 1) * st.getD k 0 + far (st.drop (k + 1)) (sh.drop (k + 1)) := by
  rw [drop_getD hk, drop_getD (show k < sh.length by omega)]; rfl
/-- A place, from the first number on: n so far. -/
theorem dot_all {st i : List Int} : dot (st.drop st.length) (i.drop st.length) = 0 := by rw [List.drop_length]; simp [dot]
/-- A list in another order. -/
def prm (l : List Int) (axes : List Nat) : List Int := axes.map fun a => l.getD a 0
theorem prm_len (l : List Int) (axes : List Nat) : (prm l axes).length = axes.length := by simp [prm]
theorem prm_getD {l : List Int} {axes : List Nat} {k : Nat} (h : k < axes.length) : (prm l axes).getD k 0 = l.getD axes[k] 0 := by simp [prm, List.getD, List.getElem?_eq_getElem h]
end Go.Proofs.Ytlidkeabadioeaa
namespace Go.Proofs.Ytlidkeabadioeaa

def stb : List Int → Bool
  | [] => true
  | s :: r => decide (0 ≤ s) && decide (s ≤ 65536) && stb r
theorem stb_iff : ∀ {st : List Int}, stb st = true ↔ sts st
  | [] => by simp [stb, sts]
  | s :: r => by
    simp only [stb, Bool.and_eq_true, decide_eq_true_eq, stb_iff (st := r), sts, List.mem_cons, forall_eq_or_imp, and_assoc]
/-- All indexes stand from 0 to below n. -/
def sty (sh st : List Int) (off n : Int) : Bool := decide (0 ≤ off) && decide (off < n) && stb st && decide (off + far st sh < n)
/-- A view of n words? -/
def vwb (sh st : List Int) (off n : Int) : Bool := may sh && decide (st.length = sh.length) && decide (n ≤ 65536) && sty sh st off n
theorem vwb_iff {sh st : List Int} {off n : Int} : vwb sh st off n = true ↔ Vw sh st off n := by
  unfold vwb sty Vw
  simp only [Bool.and_eq_true, decide_eq_true_eq, stb_iff]
  constructor
  · rintro ⟨⟨⟨a, b⟩, c⟩, ⟨⟨d, e⟩, f⟩, g⟩; exact ⟨a, b, f, d, c, e, g⟩
  · rintro ⟨a, b, f, d, c, e, g⟩; exact ⟨⟨⟨a, b⟩, c⟩, ⟨⟨d, e⟩, f⟩, g⟩
theorem vwb_sty {sh st : List Int} {off n : Int} (a : may sh = true) (b : st.length = sh.length) (c : n ≤ 65536) : vwb sh st off n = sty sh st off n := by
  unfold vwb; rw [a, decide_eq_true b, decide_eq_true c]; simp
theorem vwb_no1 {sh st : List Int} {off n : Int} (a : may sh = false) : vwb sh st off n = false := by unfold vwb; rw [a]; simp
theorem vwb_no2 {sh st : List Int} {off n : Int} (a : ¬ st.length = sh.length) : vwb sh st off n = false := by unfold vwb; rw [decide_eq_false a]; simp
theorem vwb_no3 {sh st : List Int} {off n : Int} (a : ¬ n ≤ 65536) : vwb sh st off n = false := by unfold vwb; rw [decide_eq_false a]; simp
theorem vwb_no4 {sh st : List Int} {off n : Int} (a : sty sh st off n = false) : vwb sh st off n = false := by unfold vwb; rw [a]; simp
theorem sty_no1 {sh st : List Int} {off n : Int} (a : ¬ 0 ≤ off) : sty sh st off n = false := by unfold sty; rw [decide_eq_false a]; simp
theorem sty_no2 {sh st : List Int} {off n : Int} (a : ¬ off < n) : sty sh st off n = false := by unfold sty; rw [decide_eq_false a]; simp
theorem sty_no3 {sh st : List Int} {off n : Int} {k : Nat} (hk : k < st.length) (a : ¬ (0 ≤ st.getD k 0 ∧ st.getD k 0 ≤ 65536)) : sty sh st off n = false := by
  cases h : sty sh st off n with
  | false => rfl
  | true =>
    unfold sty at h
    simp only [Bool.and_eq_true, decide_eq_true_eq, stb_iff] at h
    exact absurd (h.1.2 _ (getD_mem hk)) a
/-- Where the last index stands, so far. -/
def Sty (sh st : List Int) (off _n L : Int) (k : Nat) : Prop := k ≤ st.length ∧ 0 ≤ L ∧ L + far (st.drop k) (sh.drop k) = off + far st sh ∧ ∀ j, j < k → 0 ≤ st.getD j 0 ∧ st.getD j 0 ≤ 65536
theorem sty_start {sh st : List Int} {off n : Int} (a : 0 ≤ off) : Sty sh st off n off 0 := ⟨Nat.zero_le _, a, by simp, fun j hj => absurd hj (Nat.not_lt_zero _)⟩
theorem sty_step {sh st : List Int} {off n L : Int} {k : Nat} (h : Sty sh st off n L k) (hl : st.length = sh.length) (hd : pos sh) (hk : k < st.length) (h0 : 0 ≤ st.getD k 0) (h1 : st.getD k 0 ≤ 65536) : Sty sh st off n (L + (sh.getD k 0 - 1) * st.getD k 0) (k + 1) := by
  obtain ⟨a, b, c, d⟩ := h
  have hp := hd _ (getD_mem (show k < sh.length by omega))
  have := Int.mul_nonneg (show 0 ≤ sh.getD k 0 - 1 by omega) h0
  rw [far_step hl hk] at c
  refine ⟨by omega, by omega, by omega, fun j hj => ?_⟩
  by_cases e : j = k
  · subst e; exact ⟨h0, h1⟩
  · exact d j (by omega)
theorem sty_bad {sh st : List Int} {off n L : Int} {k : Nat} (h : Sty sh st off n L k) (hl : st.length = sh.length) (hd : pos sh) (hk : k < st.length) (g : n - L ≤ (sh.getD k 0 - 1) * st.getD k 0) : sty sh st off n = false := by
  cases e : sty sh st off n with
  | false => rfl
  | true =>
    unfold sty at e
    simp only [Bool.and_eq_true, decide_eq_true_eq, stb_iff] at e
    obtain ⟨a, b, c, d⟩ := h
    rw [far_step hl hk] at c
    have := far_nn (st := st.drop (k + 1)) (sh := sh.drop (k + 1)) (fun s hs => e.1.2 s (List.mem_of_mem_drop hs)) (pos_drop hd _)
    omega
theorem sty_end {sh st : List Int} {off n L : Int} {k : Nat} (h : Sty sh st off n L k) (hl : st.length = sh.length) (hk : ¬ k < st.length) (h0 : 0 ≤ off) (h1 : off < n) : sty sh st off n = decide (L < n) := by
  obtain ⟨a, b, c, d⟩ := h
  have hk : k = st.length := by omega
  subst hk
  rw [List.drop_length, hl, List.drop_length] at c
  simp only [far, Int.add_zero] at c
  unfold sty
  rw [← c, decide_eq_true h0, decide_eq_true h1, stb_iff.2 (fun s hs => by
    obtain ⟨i, hi, rfl⟩ := List.mem_iff_getElem.1 hs
    have := d i hi
    simpa [List.getD, List.getElem?_eq_getElem hi] using this)]
  simp
theorem sty_bd {sh st : List Int} {off n L : Int} {k : Nat} (h : Sty sh st off n L k) : 0 ≤ L := h.2.1

/-- The numbers 0 to below n, each in l? -/
def axN (l : List Int) : Nat → Bool
  | 0 => true
  | n + 1 => axN l n && decide ((n : Int) ∈ l)
theorem axN_iff {l : List Int} : ∀ {n : Nat}, axN l n = true ↔ ∀ i, i < n → (i : Int) ∈ l
  | 0 => by simp [axN]
  | n + 1 => by
    simp only [axN, Bool.and_eq_true, decide_eq_true_eq, axN_iff (n := n)]
    constructor
    · rintro ⟨a, b⟩ i hi
      by_cases e : i = n
      · subst e; exact b
      · exact a i (by omega)
    · intro h; exact ⟨fun i hi => h i (by omega), h n (by omega)⟩
/-- The axes 0 to n - 1, each once? -/
def axs (l : List Int) (n : Nat) : Bool := decide (l.length = n) && axN l n
theorem axs_len {l : List Int} {n : Nat} (h : axs l n = true) : l.length = n := by
  unfold axs at h
  simp only [Bool.and_eq_true, decide_eq_true_eq] at h
  exact h.1
theorem axs_perm : ∀ (n : Nat) (l : List Int), l.length = n → (∀ i, i < n → (i : Int) ∈ l) → (∀ x ∈ l, 0 ≤ x ∧ x < n) ∧ l.Nodup
  | 0, l, h, _ => by
    have : l = [] := List.eq_nil_of_length_eq_zero h
    subst this; simp
  | n + 1, l, h, hm => by
    have hn := hm n (by omega)
    have ih := axs_perm n (l.erase n) (by rw [List.length_erase_of_mem hn, h]; rfl) (fun i hi => (List.mem_erase_of_ne (by omega)).2 (hm i (by omega)))
    have hp := List.perm_cons_erase hn
    refine ⟨fun x hx => ?_, hp.nodup_iff.2 (List.nodup_cons.2 ⟨fun hx => ?_, ih.2⟩)⟩
    · rcases List.mem_cons.1 (hp.mem_iff.1 hx) with rfl | hx
      · omega
      · have := ih.1 x hx; omega
    · have := ih.1 _ hx; omega
theorem axs_all {l : List Int} {n : Nat} (h : axs l n = true) : (∀ x ∈ l, 0 ≤ x ∧ x < n) ∧ l.Nodup := by
  have hl := axs_len h
  unfold axs at h
  simp only [Bool.and_eq_true, axN_iff] at h
  exact axs_perm n l hl h.2
theorem axs_at {l : List Int} {n k : Nat} (h : axs l n = true) (hk : k < l.length) : ∃ a : Nat, l.getD k 0 = (a : Int) ∧ a < n := by
  have := (axs_all h).1 _ (getD_mem hk)
  exact ⟨(l.getD k 0).toNat, by omega, by omega⟩
/-- A list in the order of axes. -/
def trl (l ax : List Int) : List Int := ax.map fun a => l.getD a.toNat 0
theorem trl_len (l ax : List Int) : (trl l ax).length = ax.length := by simp [trl]
theorem trl_getD {l ax : List Int} {k : Nat} (h : k < ax.length) : (trl l ax).getD k 0 = l.getD (ax.getD k 0).toNat 0 := by simp [trl, List.getD, List.getElem?_eq_getElem h]
theorem trl_take (l ax : List Int) (k : Nat) : trl l (ax.take k) = (trl l ax).take k := by simp [trl]
theorem trl_snoc {l ax : List Int} {k a : Nat} (h : k < ax.length) (e : ax.getD k 0 = (a : Int)) : (trl l ax).take (k + 1) = (trl l ax).take k ++ [l.getD a 0] := by
  have hk : k < (trl l ax).length := by rw [trl_len]; exact h
  rw [List.take_succ_eq_append_getElem hk]
  have := trl_getD (l := l) h
  rw [e, Int.toNat_natCast] at this
  rw [List.getD_eq_getElem?_getD, List.getElem?_eq_getElem hk] at this
  rw [← this]; rfl

/-- Transpose's answers: the error; the lists. -/
def tre (sh st : List Int) (off : Int) (ax : List Int) : Int := if vwb sh st off 65536 then (if axs ax sh.length then 0 else 2) else 1
/-- Slice's. -/
def slb (sh : List Int) (x y z : Int) : Bool := decide (0 ≤ x) && decide (x < sh.length) && decide (0 ≤ y) && decide (y < z) && decide (z ≤ sh.getD x.toNat 0)
def sle (sh st : List Int) (off x y z : Int) : Int := if vwb sh st off 65536 then (if slb sh x y z then 0 else 2) else 1
/-- Widened strides. -/
def wsn (sh st s : List Int) : Nat → List Int
  | 0 => List.replicate s.length 0
  | k + 1 => if sh.getD k 0 = s.getD (k + (s.length - sh.length)) 0 then (wsn sh st s k).set (k + (s.length - sh.length)) (st.getD k 0) else wsn sh st s k
theorem wsn_len (sh st s : List Int) : ∀ k, (wsn sh st s k).length = s.length
  | 0 => by simp [wsn]
  | k + 1 => by
    unfold wsn
    split
    · rw [List.length_set, wsn_len sh st s k]
    · exact wsn_len sh st s k
def wst (sh st s : List Int) : List Int := wsn sh st s sh.length
def wie (sh st : List Int) (off : Int) (s : List Int) : Int := if vwb sh st off 65536 && may s then (if goes sh s then 0 else 2) else 1
/-- Reshape's. -/
def pln (sh st : List Int) (off : Int) : Bool := decide (off = 0) && decide (st = stl sh)
def ree (sh st : List Int) (off : Int) (s : List Int) : Int := if vwb sh st off 65536 && may s then (if decide (prod sh = prod s) && pln sh st off then 0 else 2) else 1
def ofe (s : List Int) : Int := if may s then 0 else 1
/-- A list, where there is no error. -/
def unl (e : Int) (l : List Int) : List Int := if e = 0 then l else []
def unn (e n : Int) : Int := if e = 0 then n else 0
theorem goes_len {s t : List Int} (hs : may s = true) (ht : may t = true) (hg : goes s t = true) : s.length ≤ t.length := by
  rw [goes_is hs ht] at hg
  simp only [Bool.and_eq_true, decide_eq_true_eq] at hg
  exact hg.1
end Go.Proofs.Ytlidkeabadioeaa
namespace Go.Proofs.Ytlidkeabadioeaa
open Go.RowKit

/-- r tells whether x is there. -/
def Fnd (ls : List Int) (x r : Int) : Prop := decide (0 ≤ r) = decide (x ∈ ls)
set_option maxRecDepth 100000 in
set_option maxHeartbeats 2000000 in
theorem indexs_any (v : Value) (ls : List Int) (x : Int) (w : World) (h : Ld w v ls) (l4 : ls.length ≤ 17592186044416) :
    Calls Try.prog 123 #[v, .int .i64 x] w fun e w' => ∃ r : Int, e = .returned (.int .i64 r) ∧ Fnd ls x r ∧ w = w' := by
  obtain ⟨o, c, rfl, _, hx⟩ := h
  have HX := Lib.hid hx
  clear hx
  go_enter Try.func123, Try.ntmps123
  go_wp2
  go_loop [8] (fun s8 => ∃ k : Nat, k ≤ ls.length ∧ s8 = .int .i64 k ∧ Hid (∀ j, j < k → ¬ ls.getD j 0 = x)) (fun s8 => ls.length - (intOf s8).toNat)
  case atStart => exact ⟨0, Nat.zero_le _, rfl, fun j hj => absurd hj (Nat.not_lt_zero _)⟩
  case round =>
    obtain ⟨k, hk, rfl, HK⟩ := hrel
    by_cases hlt : k < ls.length
    · obtain ⟨b, f, rfl, hb, hc⟩ := HX.out k hlt
      by_cases g : x = ls.getD k 0
      · have E : Hid (Fnd ls x (k : Int)) := by
          rw [Hid, Fnd, decide_eq_true (by omega), decide_eq_true (by rw [g]; exact getD_mem hlt)]
        rw [← g] at hc
        clear g
        go_wp2
        go_ret
        exact ⟨k, rfl, E.out, rfl⟩
      · have HG : Hid (∀ j, j < k + 1 → ¬ ls.getD j 0 = x) := fun j hj => by
          by_cases e : j = k
          · subst e; exact fun h => g h.symm
          · exact HK.out j (by omega)
        generalize ls.getD k 0 = y at *
        go_wp2
        exact ⟨⟨k + 1, by omega, by go_num, HG⟩, by simp [intOf]; omega⟩
    · have E : Hid (Fnd ls x (-1)) := by
        have : ¬ x ∈ ls := by
          intro hm
          obtain ⟨i, hi, e⟩ := List.mem_iff_getElem.1 hm
          refine HK.out i (by omega) ?_
          simp [List.getD, List.getElem?_eq_getElem hi, e]
        rw [Hid, Fnd, decide_eq_false this]; rfl
      go_wp2
      go_ret
      exact ⟨-1, rfl, E.out, rfl⟩
set_option maxRecDepth 100000 in
set_option maxHeartbeats 2000000 in
theorem contains_any (v : Value) (ls : List Int) (x : Int) (w : World) (h : Ld w v ls) (l4 : ls.length ≤ 17592186044416) :
    Calls Try.prog 103 #[v, .int .i64 x] w fun e w' => e = .returned (.bool (decide (x ∈ ls))) ∧ w = w' := by
  have C := Lib.hid (indexs_any v ls x w h l4)
  clear h l4
  go_enter Try.func103, Try.ntmps103
  go_wp2_with (go_at_call 123; (with_reducible refine C.out.mono ?_); rintro e w' ⟨r, rfl, hr, rfl⟩; replace hr := Lib.hid hr)
  go_ret
  exact ⟨by rw [← (show decide (0 ≤ r) = decide (x ∈ ls) from hr.out)]; rfl, rfl⟩

set_option maxRecDepth 100000 in
set_option maxHeartbeats 4000000 in
theorem equal_any (va vb : Value) (a b : List Int) (w : World) (ha : Ld w va a) (hb : Ld w vb b) (la : a.length ≤ 17592186044416) (_lb : b.length ≤ 17592186044416) :
    Calls Try.prog 63 #[va, vb] w fun e w' => e = .returned (.bool (decide (a = b))) ∧ Below w.heap.size w w' := by
  obtain ⟨oa, ca, rfl, _, hxa⟩ := ha
  obtain ⟨ob, cb, rfl, _, hxb⟩ := hb
  have HA := Lib.hid hxa
  have HB := Lib.hid hxb
  clear hxa hxb
  by_cases hl : a.length = b.length
  · have HL := Lib.hid hl
    have HX : Hid ((∀ k, k < a.length → a.getD k 0 = b.getD k 0) → a = b) := ext_getD hl
    rw [← hl]
    clear hl _lb
    go_enter Try.func63, Try.ntmps63
    go_wp2
    go_loopw [13] (fun s13 wr => ∃ k : Nat, k ≤ a.length ∧ s13 = .int .i64 k ∧ Hid (∀ j, j < k → a.getD j 0 = b.getD j 0) ∧ Below w.heap.size w wr) (fun s13 _ => a.length - (intOf s13).toNat)
    case atStart => exact ⟨0, Nat.zero_le _, rfl, fun j hj => absurd hj (Nat.not_lt_zero _), Below.refl _ _⟩
    case round =>
      obtain ⟨k, hk, rfl, HK, hW⟩ := hrel
      by_cases hlt : k < a.length
      · obtain ⟨b1, f1, rfl, h1, c1⟩ := HA.out k hlt
        obtain ⟨b2, f2, rfl, h2, c2⟩ := HB.out k (by have := HL.out; omega)
        have c1' : wr.cell? ⟨b1, f1 + k, none⟩ = some (.int .i64 (a.getD k 0)) := (hW.cell (p := ⟨b1, f1 + k, none⟩) h1).trans c1
        have c2' : wr.cell? ⟨b2, f2 + k, none⟩ = some (.int .i64 (b.getD k 0)) := (hW.cell (p := ⟨b2, f2 + k, none⟩) h2).trans c2
        have HG : Hid (a.getD k 0 = b.getD k 0 → ∀ j, j < k + 1 → a.getD j 0 = b.getD j 0) := fun g j hj => by
          by_cases e : j = k
          · subst e; exact g
          · exact HK.out j (by omega)
        have HN : Hid (¬ a.getD k 0 = b.getD k 0 → decide (a = b) = false) := fun g => decide_eq_false (fun e => g (by rw [e]))
        clear c1 c2
        generalize a.getD k 0 = x at *
        generalize b.getD k 0 = y at *
        by_cases g : x = y
        · subst g
          have R := Lib.hid (HG.out rfl)
          go_wp2
          go_quiet (fail)
          go_wp2
          exact ⟨⟨k + 1, by omega, by go_num, R, by first | exact below_drw hW _ | exact hW⟩, by simp [intOf]; omega⟩
        · have R := Lib.hid (HN.out g)
          have g' : (x != y) = true := by rw [bne_iff_ne]; exact g
          clear g
          go_wp2
          go_quiet (fail)
          go_wp2
          go_ret
          exact ⟨by rw [R.out]; rfl, by first | exact below_drw hW _ | exact hW⟩
      · have e : Hid (decide (a = b) = true) := decide_eq_true (HX.out fun j hj => HK.out j (by omega))
        go_wp2
        go_ret
        exact ⟨by rw [e.out]; rfl, hW⟩
  · have e : Hid (decide (a = b) = false) := decide_eq_false (fun e => hl (by rw [e]))
    have hl2 : ((a.length : Int) != (b.length : Int)) = true := by rw [bne_iff_ne]; omega
    clear hl
    go_enter Try.func63, Try.ntmps63
    go_wp2
    go_ret
    exact ⟨by rw [e.out]; rfl, Below.refl _ _⟩

theorem blk_nil {w : World} {g : Nat} {t : TypeId} (h : Blk w g t #[]) {base : Nat} (hb : base ≤ g) : w.ownsRow base t 1 (.slice (some ⟨g, 0, none⟩) 0 0) 0 [] :=
  ⟨by simp, .inr ⟨g, 0, #[], rfl, hb, h, Nat.le_refl _, Nat.zero_le _, by simp, by simp⟩⟩
set_option maxRecDepth 100000 in
set_option maxHeartbeats 4000000 in
theorem cloned_any (v : Value) (ls : List Int) (w : World) (h : Ld w v ls) (ll : ls.length ≤ 17592186044000) :
    Calls Try.prog 78 #[v] w (SomeC w ls) := by
  obtain ⟨i0, hi0, hz0, hz1, hz2⟩ := info_parts infoI
  obtain ⟨o, c, rfl, hc, hx⟩ := h
  cases o with
  | none =>
    have h1 : ls = [] := by
      cases ls with
      | nil => rfl
      | cons a r => obtain ⟨b, f, e, _⟩ := hx 0 (by simp); cases e
    subst h1
    simp only [List.length_nil] at *
    clear hx
    have en : (binOp .eql 23 (.slice none 0 c) (.slice none 0 0)).run Try.prog w = .ok (.bool true) w := Lib.run_eql_slice_nil w 23 3 none 0 c 0 0 Try.underlying23
    go_enter Try.func78, Try.ntmps78
    go_wp2
    go_ret
    exact ⟨none, 0, rfl, World.ownsRow_nil _ _ _ _, Ld.nil _, Below.refl _ _⟩
  | some ad =>
    have en : (binOp .eql 23 (.slice (some ad) ls.length c) (.slice none 0 0)).run Try.prog w = .ok (.bool false) w := Lib.run_eql_slice_nil w 23 3 (some ad) ls.length c 0 0 Try.underlying23
    go_enter Try.func78, Try.ntmps78
    have H := Lib.hid hx
    have HB := Lib.hid (blk_nil (base := w.heap.size) (Blk.new w 3 #[]) (Nat.le_refl _))
    clear hx
    go_wp2_with (at_builtin; refine wpList_append_own _ rfl _ _ 23 rfl w.heap.size 3 i0 (.int .i64 0) 1 8 Try.underlying23 hi0 hz0 hz1 hz2 rfl (by decide) _ 0 [] rfl HB.out ad ls.length c (ints ls) rfl ?c0 ?c1 ?c2 ?c3 ?c4 ?c5 ?_)
    case c0 => simp [ints]
    case c1 =>
      intro j u hu
      have hj : j < ls.length := by
        have := (List.getElem?_eq_some_iff.1 hu).1
        simpa [ints] using this
      obtain ⟨b, f, e, hb, hcell⟩ := H.out j hj
      cases e
      have : u = .int .i64 (ls.getD j 0) := by
        have h2 := ints_at hj
        rw [List.getElem?_toArray] at h2
        rw [h2] at hu; exact (Option.some.inj hu).symm
      rw [this, Go.WideShapes.add_plain, World.cell?_alloc_lt w _ _ hb]
      exact hcell
    case c2 => simp [ints, Value.oneCell']
    case c3 => unfold maxLen; omega
    case c4 => omega
    case c5 => simp
    intro v' w9 hown1 hgrow _
    have hown1 : w9.ownsRow w.heap.size 3 1 v' ls.length (ints ls) := by simpa using hown1
    have hB9 : Below w.heap.size w w9 := ((Below.refl _ _).alloc (Nat.le_refl _) _).grown hgrow (by simp) (fun k e => by simp [Value.ownBlock] at e; omega)
    obtain ⟨o2, c2, rfl, hld⟩ := Ld.of_owns hown1
    have H1 := Lib.hid (And.intro hown1 (And.intro hld hB9))
    clear hown1 hld hgrow hB9 H HB
    go_wp2
    go_ret
    exact ⟨o2, c2, rfl, H1.out.1, H1.out.2.1, H1.out.2.2⟩
end Go.Proofs.Ytlidkeabadioeaa
namespace Go.Proofs.Ytlidkeabadioeaa
open Go.RowKit

set_option maxRecDepth 100000 in
set_option maxHeartbeats 4000000 in
theorem stays_any (vs vt : Value) (sh st : List Int) (off n : Int) (w : World) (hs : Ld w vs sh) (ht : Ld w vt st) (hm : may sh = true) (hl : st.length = sh.length) (hn : n ≤ 65536) :
    Calls Try.prog 102 #[.agg #[vs, vt, .int .i64 off], .int .i64 n] w fun e w' => e = .returned (.bool (sty sh st off n)) ∧ Below w.heap.size w w' := by
  have l4 := may_len hm
  obtain ⟨os, cs, rfl, _, hxs⟩ := hs
  obtain ⟨ot, ct, rfl, _, hxt⟩ := ht
  have HS := Lib.hid hxs
  have HT := Lib.hid hxt
  have HD := Lib.hid (fun k hk => may_dim hm (i := k) hk)
  have HP := Lib.hid (And.intro (may_pos hm) hl)
  have hB0 : Below w.heap.size w (w.alloc (.cells #[.slice os sh.length cs, .slice ot st.length ct, .int .i64 off] 69)) := (Below.refl _ _).alloc (Nat.le_refl _) _
  clear hxs hxt hm
  by_cases g0 : off < 0
  · have E : Hid (sty sh st off n = false) := sty_no1 (by omega)
    clear hl
    go_enter Try.func102, Try.ntmps102
    go_wp2
    go_step3
    go_wp2
    rw [Exit.noGoto_ret]
    go_ret
    exact ⟨by rw [E.out]; rfl, hB0⟩
  by_cases g1 : n ≤ off
  · have E : Hid (sty sh st off n = false) := sty_no2 (by omega)
    clear hl
    go_enter Try.func102, Try.ntmps102
    go_wp2
    go_step3
    go_wp2
    rw [Exit.noGoto_ret]
    go_ret
    exact ⟨by rw [E.out]; rfl, hB0⟩
  have HO : Hid (0 ≤ off ∧ off < n) := ⟨by omega, by omega⟩
  clear hl
  go_enter Try.func102, Try.ntmps102
  go_wp2
  go_step3
  go_wp2
  go_step3
  go_wp2
  go_loop [5, 6, 24] (fun s5 s6 s24 => ∃ (k : Nat) (L : Int), k ≤ st.length ∧ 0 ≤ L ∧ L < n ∧ s24 = .int .i64 k ∧ s5 = .int .i64 L ∧ s6 = .bool true ∧ Hid (Sty sh st off n L k)) (fun _ _ s24 => st.length - (intOf s24).toNat)
  case atStart => exact ⟨0, off, Nat.zero_le _, HO.out.1, HO.out.2, rfl, rfl, rfl, sty_start HO.out.1⟩
  case round =>
    obtain ⟨k, L, hk, l0, l1, rfl, rfl, rfl, HL⟩ := hrel
    by_cases hlt : k < st.length
    · obtain ⟨b1, f1, rfl, h1, c1⟩ := HS.out k (by have := HP.out.2; omega)
      obtain ⟨b2, f2, rfl, h2, c2⟩ := HT.out k hlt
      have c1' : (w.alloc (.cells #[.slice (some ⟨b1, f1, none⟩) sh.length cs, .slice (some ⟨b2, f2, none⟩) st.length ct, .int .i64 off] 69)).cell? ⟨b1, f1 + k, none⟩ = some (.int .i64 (sh.getD k 0)) := (hB0.cell (p := ⟨b1, f1 + k, none⟩) h1).trans c1
      have c2' : (w.alloc (.cells #[.slice (some ⟨b1, f1, none⟩) sh.length cs, .slice (some ⟨b2, f2, none⟩) st.length ct, .int .i64 off] 69)).cell? ⟨b2, f2 + k, none⟩ = some (.int .i64 (st.getD k 0)) := (hB0.cell (p := ⟨b2, f2 + k, none⟩) h2).trans c2
      have klt : k < sh.length := by have := HP.out.2; omega
      obtain ⟨d1, d2⟩ := HD.out k klt
      have HN : Hid (¬ (0 ≤ st.getD k 0 ∧ st.getD k 0 ≤ 65536) → sty sh st off n = false) := fun g => sty_no3 hlt g
      have HG : Hid (n - L ≤ (sh.getD k 0 - 1) * st.getD k 0 → sty sh st off n = false) := fun g => sty_bad HL.out HP.out.2 HP.out.1 hlt g
      have HF : Hid (0 ≤ st.getD k 0 → st.getD k 0 ≤ 65536 → Sty sh st off n (L + (sh.getD k 0 - 1) * st.getD k 0) (k + 1)) := fun a b => sty_step HL.out HP.out.2 HP.out.1 hlt a b
      clear c1 c2 h1 h2
      generalize sh.getD k 0 = d at *
      generalize st.getD k 0 = s at *
      by_cases g2 : s < 0
      · have R := Lib.hid (HN.out (by omega))
        go_wp2
        go_ret
        exact ⟨by rw [R.out]; rfl, hB0⟩
      by_cases g3 : 65536 < s
      · have R := Lib.hid (HN.out (by omega))
        go_wp2
        go_ret
        exact ⟨by rw [R.out]; rfl, hB0⟩
      have m0 := Int.mul_nonneg (show 0 ≤ d - 1 by omega) (show 0 ≤ s by omega)
      have m1 := Int.mul_le_mul (show d - 1 ≤ 4095 by omega) (show s ≤ 65536 by omega) (by omega) (by decide)
      have R := Lib.hid (HF.out (by omega) (by omega))
      generalize hm : (d - 1) * s = m at *
      by_cases g4 : n - L ≤ m
      · have R := Lib.hid (HG.out g4)
        go_wp2
        go_ret
        exact ⟨by rw [R.out]; rfl, hB0⟩
      · go_wp2
        exact ⟨⟨k + 1, L + m, by omega, by omega, by omega, by go_num, rfl, rfl, R⟩, by simp [intOf]; omega⟩
    · have E : Hid (sty sh st off n = true) := by
        have := sty_end HL.out HP.out.2 hlt HO.out.1 HO.out.2
        rw [Hid, this, decide_eq_true l1]
      go_wp2
      go_ret
      exact ⟨by rw [E.out]; rfl, hB0⟩

/-- The answer of a question for a form. -/
def frm (b : Bool) : Int := if b then 0 else 1
theorem frm_t : frm true = 0 := rfl
theorem frm_f : frm false = 1 := rfl
set_option maxRecDepth 100000 in
set_option maxHeartbeats 4000000 in
theorem vcheck_any (vs vt : Value) (sh st : List Int) (off n : Int) (w : World) (hs : Ld w vs sh) (ht : Ld w vt st) (_ls : sh.length ≤ 17592186044416) (_lt : st.length ≤ 17592186044416) :
    Calls Try.prog 79 #[.agg #[vs, vt, .int .i64 off], .int .i64 n] w fun e w' => e = .returned (.int .i64 (frm (vwb sh st off n))) ∧ Below w.heap.size w w' := by
  have hB0 : Below w.heap.size w (w.alloc (.cells #[vs, vt, .int .i64 off] 69)) := (Below.refl _ _).alloc (Nat.le_refl _) _
  have hs' := hs.below hB0
  have ht' := ht.below hB0
  have CN := Lib.hid (fun h => check_no vs sh _ hs' h)
  have CK := Lib.hid (fun h => check_ok vs sh _ hs' h)
  have CS := Lib.hid (fun (a : may sh = true) (b : st.length = sh.length) (c : n ≤ 65536) => stays_any vs vt sh st off n _ hs' ht' a b c)
  obtain ⟨os, cs, rfl, _, _⟩ := hs
  obtain ⟨ot, ct, rfl, _, _⟩ := ht
  clear hs' ht'
  cases hm : may sh with
  | false =>
    have E : Hid (vwb sh st off n = false) := vwb_no1 hm
    replace CN := Lib.hid (CN.out hm)
    clear CS CK hm
    go_enter Try.func79, Try.ntmps79
    go_wp2_with (go_at_call 62; (with_reducible refine CN.out.mono ?_); rintro e w' ⟨rfl, rfl⟩)
    go_ret
    exact ⟨by rw [E.out]; rfl, hB0⟩
  | true =>
    replace CK := Lib.hid (CK.out hm)
    by_cases hl : st.length = sh.length
    · by_cases hn : n ≤ 65536
      · have E : Hid (vwb sh st off n = sty sh st off n) := vwb_sty hm hl hn
        replace CS := Lib.hid (CS.out hm hl hn)
        have hl' : ((st.length : Int) != (sh.length : Int)) = false := by simp [hl]
        clear CN hm hl
        go_enter Try.func79, Try.ntmps79
        cases hy : sty sh st off n with
        | false =>
          rw [hy] at E CS
          clear hy
          go_wp2_with (first | (go_at_call 62; (with_reducible refine CK.out.mono ?_); rintro e w' ⟨rfl, rfl⟩) | (go_at_call 102; (with_reducible refine CS.out.mono ?_); rintro e w2 ⟨rfl, hb2⟩; replace hb2 := Lib.hid hb2))
          go_ret
          exact ⟨by rw [E.out]; rfl, hB0.trans (hb2.out.mono (by simp))⟩
        | true =>
          rw [hy] at E CS
          clear hy
          go_wp2_with (first | (go_at_call 62; (with_reducible refine CK.out.mono ?_); rintro e w' ⟨rfl, rfl⟩) | (go_at_call 102; (with_reducible refine CS.out.mono ?_); rintro e w2 ⟨rfl, hb2⟩; replace hb2 := Lib.hid hb2))
          go_ret
          exact ⟨by rw [E.out]; rfl, hB0.trans (hb2.out.mono (by simp))⟩
      · have E : Hid (vwb sh st off n = false) := vwb_no3 hn
        have hl' : ((st.length : Int) != (sh.length : Int)) = false := by simp [hl]
        clear CN CS hm hl
        go_enter Try.func79, Try.ntmps79
        go_wp2_with (go_at_call 62; (with_reducible refine CK.out.mono ?_); rintro e w' ⟨rfl, rfl⟩)
        go_ret
        exact ⟨by rw [E.out]; rfl, hB0⟩
    · have E : Hid (vwb sh st off n = false) := vwb_no2 hl
      have hl' : ((st.length : Int) != (sh.length : Int)) = true := by rw [bne_iff_ne]; omega
      clear CN CS hm hl
      go_enter Try.func79, Try.ntmps79
      go_wp2_with (go_at_call 62; (with_reducible refine CK.out.mono ?_); rintro e w' ⟨rfl, rfl⟩)
      go_ret
      exact ⟨by rw [E.out]; rfl, hB0⟩
end Go.Proofs.Ytlidkeabadioeaa
