/-
  The laws' own helpers: lists held against one another, copied, written over; numbers brought within bounds.
-/
import Derived.Test.YteplhlmdaabpaaaSc
import Derived.Test.YteplhlmdaabpaaaSe
import Derived.Deep.QuietTactic
import Derived.BigQuiet
import Derived.Laws.AppendOwn
namespace Go.Proofs.Yteplhlmdaabpaaa
open Go.RowKit
theorem below_drw {B : Nat} {w W : World} (h : Below B w W) (n : Nat) : Below B w (W.drewN n) := ⟨h.os, h.tape, h.output, h.size, h.block⟩

theorem tm_64 (i n : Int) (h0 : 1 ≤ n) (h1 : n ≤ 9223372036854775807) : wrap64 ((IntKind.u64.wrap i).tmod n) = (i % 18446744073709551616) % n := by
  rw [IntKind.wrap_u64, Int.tmod_eq_emod_of_nonneg (by omega)]
  have := Int.emod_nonneg (i % 18446744073709551616) (show n ≠ 0 by omega)
  have := Int.emod_lt_of_pos (i % 18446744073709551616) (show 0 < n by omega)
  exact IntWalk.wrap64_in _ ⟨by omega, by omega⟩
theorem win_any (i n : Int) (w : World) (h0 : 1 ≤ n) (h1 : n ≤ 9223372036854775807) : Calls Try.prog 13 #[.int .i64 i, .int .i64 n] w fun e w' => e = .returned (.int .i64 ((i % 18446744073709551616) % n)) ∧ w = w' := by
  have E := Lib.hid (tm_64 i n h0 h1)
  go_enter Try.func13, Try.ntmps13
  go_wp2
  go_ret
  exact ⟨by rw [← E.out]; rfl, rfl⟩
theorem num6_any (x : Int) (w : World) : Calls Try.prog 12 #[.int .i64 x] w fun e w' => e = .returned (.int .i64 x) ∧ w = w' := by
  go_enter Try.func12, Try.ntmps12
  go_wp2
  go_ret
  exact ⟨rfl, rfl⟩

set_option maxRecDepth 100000 in
set_option maxHeartbeats 4000000 in
theorem eqn_any (va vb : Value) (a b : List Int) (w : World) (ha : Ld w va a) (hb : Ld w vb b) (la : a.length ≤ 1073741824) (lb : b.length ≤ 1073741824) :
    Calls Try.prog 17 #[va, vb] w fun e w' => e = .returned (.bool (decide (a = b))) ∧ Below w.heap.size w w' := by
  obtain ⟨oa, ca, rfl, _, hxa⟩ := ha
  obtain ⟨ob, cb, rfl, _, hxb⟩ := hb
  have HA := Lib.hid hxa
  have HB := Lib.hid hxb
  clear hxa hxb
  by_cases hl : a.length = b.length
  · have HL := Lib.hid hl
    have HX : Hid ((∀ k, k < a.length → a.getD k 0 = b.getD k 0) → a = b) := ext_getD hl
    rw [← hl]
    clear hl lb
    go_enter Try.func17, Try.ntmps17
    go_wp2
    go_loopw [5] (fun s5 wr => ∃ k : Nat, k ≤ a.length ∧ s5 = .int .i64 k ∧ Hid (∀ j, j < k → a.getD j 0 = b.getD j 0) ∧ Below w.heap.size w wr) (fun s5 _ => a.length - (intOf s5).toNat)
    case atStart => exact ⟨0, Nat.zero_le _, rfl, fun j hj => absurd hj (Nat.not_lt_zero _), Below.refl _ _⟩
    case round =>
      obtain ⟨k, hk, rfl, HK, hW⟩ := hrel
      by_cases hlt : k < a.length
      · obtain ⟨b1, f1, rfl, h1, c1⟩ := HA.out k hlt
        obtain ⟨b2, f2, rfl, h2, c2⟩ := HB.out k (by have := HL.out; omega)
        have c1' : wr.cell? ⟨b1, f1 + k, none⟩ = some (.int .i64 (a.getD k 0)) := (hW.cell (p := ⟨b1, f1 + k, none⟩) h1).trans c1
        have c2' : wr.cell? ⟨b2, f2 + k, none⟩ = some (.int .i64 (b.getD k 0)) := (hW.cell (p := ⟨b2, f2 + k, none⟩) h2).trans c2
        have HG : Hid (a.getD k 0 = b.getD k 0 → ∀ j, j < k + 1 → a.getD j 0 = b.getD j 0) := fun g j hj => by
          by_cases e : j = k
          · subst e; exact g
          · exact HK.out j (by omega)
        have HN : Hid (¬ a.getD k 0 = b.getD k 0 → decide (a = b) = false) := fun g => decide_eq_false (fun e => g (by rw [e]))
        clear c1 c2
        generalize a.getD k 0 = x at *
        generalize b.getD k 0 = y at *
        by_cases g : x = y
        · subst g
          have R := Lib.hid (HG.out rfl)
          go_wp2
          go_quiet (fail)
          go_wp2
          exact ⟨⟨k + 1, by omega, by go_num, R, by first | exact below_drw hW _ | exact hW⟩, by simp [intOf]; omega⟩
        · have R := Lib.hid (HN.out g)
          have g' : (x != y) = true := by rw [bne_iff_ne]; exact g
          clear g
          go_wp2
          go_quiet (fail)
          go_wp2
          go_ret
          exact ⟨by rw [R.out]; rfl, by first | exact below_drw hW _ | exact hW⟩
      · have e : Hid (decide (a = b) = true) := decide_eq_true (HX.out fun j hj => HK.out j (by omega))
        go_wp2
        go_ret
        exact ⟨by rw [e.out]; rfl, hW⟩
  · have e : Hid (decide (a = b) = false) := decide_eq_false (fun e => hl (by rw [e]))
    have hl2 : ((a.length : Int) != (b.length : Int)) = true := by rw [bne_iff_ne]; omega
    clear hl
    go_enter Try.func17, Try.ntmps17
    go_wp2
    go_ret
    exact ⟨by rw [e.out]; rfl, Below.refl _ _⟩

/-- A list in a slice of the call's own. -/
def SomeC (w : World) (ls : List Int) (e : Ending) (w' : World) : Prop := ∃ o c, e = .returned (.slice o ls.length c) ∧ w'.ownsRow w.heap.size 3 1 (.slice o ls.length c) ls.length (ints ls) ∧ Ld w' (.slice o ls.length c) ls ∧ Below w.heap.size w w'
theorem Ld.of_owns {w : World} {base : Nat} {e : TypeId} {v : Value} {ls : List Int} (h : w.ownsRow base e 1 v ls.length (ints ls)) : ∃ o c, v = .slice o ls.length c ∧ Ld w (.slice o ls.length c) ls := by
  rcases h.2 with ⟨rfl, h0⟩ | ⟨g, cap, cur, rfl, _, hh, hc, _, hsz, ht⟩
  · have : ls = [] := List.eq_nil_of_length_eq_zero (by simpa using h0)
    subst this
    exact ⟨_, _, rfl, Ld.nil w⟩
  · refine ⟨_, _, rfl, _, _, rfl, hc, fun i hi => ⟨g, 0, rfl, (Array.getElem?_eq_some_iff.1 hh).1, ?_⟩⟩
    rw [Nat.zero_add, cell_of_row w g i cur e (0, 0) hh]
    have : (ints ls)[i]? = some (.int .i64 (ls.getD i 0)) := by simpa using ints_at hi
    rw [← ht, List.getElem?_take] at this
    split at this
    · simpa using this
    · cases this

set_option maxRecDepth 100000 in
set_option maxHeartbeats 4000000 in
theorem copy_any (v : Value) (ls : List Int) (w : World) (h : Ld w v ls) (ll : ls.length ≤ 65536) :
    Calls Try.prog 15 #[v] w (SomeC w ls) := by
  obtain ⟨i0, hi0, hz0, hz1, hz2⟩ := info_parts infoI
  obtain ⟨o, c, rfl, _, hx⟩ := h
  have HX := Lib.hid hx
  clear hx
  go_enter Try.func15, Try.ntmps15
  go_wp2
  go_loopw [3, 4] (fun s3 s4 wr => ∃ k : Nat, k ≤ ls.length ∧ s4 = .int .i64 k ∧ Hid (wr.ownsRow w.heap.size 3 1 s3 k (ints (ls.take k))) ∧ Below w.heap.size w wr) (fun _ s4 _ => ls.length - (intOf s4).toNat)
  case atStart => exact ⟨0, Nat.zero_le _, rfl, World.ownsRow_nil _ _ _ _, Below.refl _ _⟩
  case round =>
    obtain ⟨k, hk, rfl, HO, hB⟩ := hrel
    have hBs := hB.size
    by_cases hlt : k < ls.length
    · obtain ⟨b, f, rfl, hb, hc⟩ := HX.out k hlt
      have hc' : wr.cell? ⟨b, f + k, none⟩ = some (.int .i64 (ls.getD k 0)) := (hB.cell (p := ⟨b, f + k, none⟩) hb).trans hc
      have E : Hid (ints (ls.take (k + 1)) = ints (ls.take k) ++ [.int .i64 (ls.getD k 0)]) := by
        unfold Hid ints
        rw [List.take_succ_eq_append_getElem hlt, List.map_append]
        simp [List.getD, List.getElem?_eq_getElem hlt]
      clear hc
      generalize ls.getD k 0 = x at *
      go_wp2_with (at_builtin; refine wpList_append_own _ rfl _ _ 23 rfl w.heap.size 3 i0 (.int .i64 0) 1 8 Try.underlying23 hi0 hz0 hz1 hz2 rfl (by decide) _ k (ints (ls.take k)) rfl (HO.out.alloc _) ⟨wr.heap.size, 0, none⟩ 1 1 [.int .i64 x] rfl rfl ?c1 ?c2 ?c3 ?c4 ?c5 ?_)
      case c1 => exact (cell_one_new _ _ _)
      case c2 => simp [Value.oneCell']
      case c3 => unfold maxLen; omega
      case c4 => omega
      case c5 => simp; omega
      intro v' w9 hown1 hgrow _
      have hB9 : Below w.heap.size w w9 := (hB.alloc hBs _).grown hgrow (by simp; omega) (fun j hj => (HO.out.lt j hj).1)
      have h1 : Hid (w9.ownsRow w.heap.size 3 1 v' (k + 1) (ints (ls.take (k + 1)))) := by
        rw [Hid, E.out]; exact hown1
      clear hown1 hgrow
      go_wp2
      exact ⟨⟨k + 1, by omega, by go_num, h1, hB9⟩, by simp [intOf]; omega⟩
    · obtain rfl : k = ls.length := by omega
      have h1 := HO.out
      rw [List.take_length] at h1
      obtain ⟨o2, c2, rfl, hld⟩ := Ld.of_owns h1
      have H1 := Lib.hid (And.intro h1 hld)
      clear h1 hld HO
      go_wp2
      go_ret
      exact ⟨o2, c2, rfl, H1.out.1, H1.out.2, hB⟩

/-- A block as a slice of the call's own. -/
theorem Blk.owns {w : World} {g base : Nat} {t : TypeId} {ls : List Int} (h : Blk w g t (ints ls).toArray) (hb : base ≤ g) (hl : ls.length ≤ 65536) : w.ownsRow base t 1 (.slice (some ⟨g, 0, none⟩) ls.length ls.length) ls.length (ints ls) := by
  refine ⟨by simp [ints], .inr ⟨g, ls.length, (ints ls).toArray, rfl, hb, h, Nat.le_refl _, by unfold maxLen; omega, by simp [ints], ?_⟩⟩
  exact List.take_of_length_le (by simp [ints])
set_option maxRecDepth 100000 in
set_option maxHeartbeats 4000000 in
theorem numbers_any (g : Nat) (ls : List Int) (w : World) (h : Blk w g 3 (ints ls).toArray) (hl : ls.length ≤ 65536) :
    Calls Try.prog 25 #[.slice (some ⟨g, 0, none⟩) ls.length ls.length] w fun e w' => e = .returned (.tuple #[]) ∧ w.grownBy w' (some g) := by
  obtain ⟨i0, hi0, hz0, hz1, hz2⟩ := info_parts infoI
  have hg := h.lt
  go_enter Try.func25, Try.ntmps25
  go_wp2
  go_loopw [2] (fun s2 wr => ∃ (k : Nat) (L : List Int), k ≤ ls.length ∧ s2 = .int .i64 k ∧ Blk wr g 3 (ints L).toArray ∧ Hid (L.length = ls.length) ∧ Hid (w.grownBy wr (some g))) (fun s2 _ => ls.length - (intOf s2).toNat)
  case atStart => exact ⟨0, ls, Nat.zero_le _, rfl, h, rfl, World.grownBy.refl _ _⟩
  case round =>
    obtain ⟨k, L, hk, rfl, hb, HL, HG⟩ := hrel
    have hgl := hb.lt
    by_cases hlt : k < ls.length
    · have kc := hb.cell k
      rw [ints_at (by have := HL.out; omega)] at kc
      have kf := hb.frozen k
      generalize L.getD k 0 = x at kc
      go_wp2
      refine ⟨⟨k + 1, L.set k (-99), by omega, by go_num, hb.put k _, by have := HL.out; simpa [Hid] using this, ?_⟩, by simp [intOf]; omega⟩
      have h1 := HG.out
      exact ⟨h1.os, h1.tape, h1.output, by simpa using h1.size, fun j hj hne => (Below.heap_setCell _ _ _ j (fun e => hne (by rw [e]))).trans (h1.block j hj hne)⟩
    · have hown := hb.owns (base := 0) (Nat.zero_le _) (by have := HL.out; omega)
      rw [HL.out] at hown
      have HO := Lib.hid hown
      clear hown
      go_wp2_with (at_builtin; refine wpList_append_own _ rfl _ _ 23 rfl 0 3 i0 (.int .i64 0) 1 8 Try.underlying23 hi0 hz0 hz1 hz2 rfl (by decide) _ ls.length (ints L) rfl (HO.out.alloc _) ⟨wr.heap.size, 0, none⟩ 1 1 [.int .i64 5] rfl rfl ?c1 ?c2 ?c3 ?c4 ?c5 ?_)
      case c1 => exact (cell_one_new _ _ _)
      case c2 => simp [Value.oneCell']
      case c3 => unfold maxLen; omega
      case c4 => omega
      case c5 => exact Nat.zero_le _
      intro v' w9 _ hgrow _
      have h1 := HG.out
      have h2 : w.grownBy w9 (some g) := ⟨hgrow.os.trans h1.os, hgrow.tape.trans h1.tape, hgrow.output.trans h1.output, Nat.le_trans h1.size (Nat.le_trans (by simp) hgrow.size), fun j hj hne => (hgrow.block j (by have := h1.size; simp; omega) (by simpa [Value.ownBlock] using hne)).trans ((Below.heap_alloc _ _ _ (by have := h1.size; omega)).trans (h1.block j hj hne))⟩
      have H2 := Lib.hid h2
      clear h1 h2 hgrow
      go_wp2
      refine bodyPost_end (results_none rfl _ _ _) rfl ?_
      exact ⟨rfl, H2.out⟩
set_option maxRecDepth 100000 in
set_option maxHeartbeats 4000000 in
theorem numbers_nil (w : World) : Calls Try.prog 25 #[.slice none 0 0] w fun e w' => e = .returned (.tuple #[]) ∧ Below w.heap.size w w' := by
  obtain ⟨i0, hi0, hz0, hz1, hz2⟩ := info_parts infoI
  go_enter Try.func25, Try.ntmps25
  go_wp2
  go_loopw [2] (fun s2 wr => s2 = .int .i64 0 ∧ w = wr) (fun _ _ => 0)
  case atStart => exact ⟨rfl, rfl⟩
  case round =>
    obtain ⟨rfl, rfl⟩ := hrel
    go_wp2_with (at_builtin; refine wpList_append_own _ rfl _ _ 23 rfl w.heap.size 3 i0 (.int .i64 0) 1 8 Try.underlying23 hi0 hz0 hz1 hz2 rfl (by decide) _ 0 [] rfl ((World.ownsRow_nil _ _ _ _).alloc _) ⟨w.heap.size, 0, none⟩ 1 1 [.int .i64 5] rfl rfl ?c1 ?c2 ?c3 ?c4 ?c5 ?_)
    case c1 => exact (cell_one_new _ _ _)
    case c2 => simp [Value.oneCell']
    case c3 => unfold maxLen; omega
    case c4 => omega
    case c5 => simp
    intro v' w9 _ hgrow _
    have h2 : Below w.heap.size w w9 := ((Below.refl _ _).alloc (Nat.le_refl _) _).grown hgrow (by simp) (fun k e => by simp [Value.ownBlock] at e)
    clear hgrow
    go_wp2
    refine bodyPost_end (results_none rfl _ _ _) rfl ?_
    exact ⟨rfl, h2⟩

set_option maxRecDepth 100000 in
set_option maxHeartbeats 4000000 in
/-- wakes -/
theorem wakes6_any (w : World) : Calls Try.prog 18 #[] w fun e w' => e = .returned (.bool true) ∧ Below w.heap.size w w' := by
  have C := Lib.hid (index_ok (.slice (some ⟨w.heap.size, 0, none⟩) 2 2) (.slice (some ⟨w.heap.size + 1, 0, none⟩) 2 2) [2, 3] [1, 2] ((w.alloc (.cells #[.int .i64 2, .int .i64 3] 3)).alloc (.cells #[.int .i64 1, .int .i64 2] 3))
    (Ld.of_blk (ls := [2, 3]) ((Blk.new w 3 _).alloc _) (Nat.le_refl _))
    (Ld.of_blk (ls := [1, 2]) (by have := Blk.new (w.alloc (.cells #[.int .i64 2, .int .i64 3] 3)) 3 #[.int .i64 1, .int .i64 2]; rw [World.size_alloc] at this; exact this) (Nat.le_refl _)) (by decide) (by decide))
  have e5 : ix [2, 3] [1, 2] = 5 := by decide
  rw [e5] at C
  go_enter Try.func18, Try.ntmps18
  go_wp2_with (first | (go_at_call 16; (with_reducible refine C.out.mono ?_); rintro e w' ⟨rfl, rfl⟩) | (go_at_call 12; (with_reducible refine (num6_any _ _).mono ?_); rintro e w' ⟨rfl, rfl⟩))
  go_ret
  exact ⟨rfl, ((Below.refl _ _).alloc (Nat.le_refl _) _).alloc (by simp) _⟩
end Go.Proofs.Yteplhlmdaabpaaa
