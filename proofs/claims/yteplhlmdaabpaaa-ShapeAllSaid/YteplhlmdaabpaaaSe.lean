/-
  shape.Index: an index within a shape, the place under it.
-/
import Derived.Test.YteplhlmdaabpaaaSa
namespace Go.Proofs.Yteplhlmdaabpaaa
open Go.RowKit

set_option maxRecDepth 100000 in
set_option maxHeartbeats 4000000 in
theorem within_any (vi vs : Value) (i s : List Int) (w : World) (hi : Ld w vi i) (hs : Ld w vs s) (l4 : s.length ≤ 1073741824) :
    Calls Try.prog 34 #[vi, vs] w fun e w' => e = .returned (.bool (inx s i)) ∧ w = w' := by
  obtain ⟨oi, ci, rfl, _, hxi⟩ := hi
  obtain ⟨os, cs, rfl, _, hxs⟩ := hs
  have HI := Lib.hid hxi
  have HS := Lib.hid hxs
  clear hxi hxs
  by_cases hl : s.length = i.length
  · have HN : Hid (inx s i = true ↔ s.length = i.length ∧ ∀ k, k < s.length → 0 ≤ i.getD k 0 ∧ i.getD k 0 < s.getD k 0) := inx_iff
    have HL := Lib.hid hl
    rw [← hl]
    clear hl
    go_enter Try.func34, Try.ntmps34
    go_wp2
    go_loop [14] (fun s14 => ∃ k : Nat, k ≤ s.length ∧ s14 = .int .i64 k ∧ Hid (∀ j, j < k → 0 ≤ i.getD j 0 ∧ i.getD j 0 < s.getD j 0)) (fun s14 => s.length - (intOf s14).toNat)
    case atStart => exact ⟨0, Nat.zero_le _, rfl, fun j hj => absurd hj (Nat.not_lt_zero _)⟩
    case round =>
      obtain ⟨k, hk, rfl, HK⟩ := hrel
      by_cases hlt : k < s.length
      · obtain ⟨b1, f1, rfl, _, c1⟩ := HI.out k (by have := HL.out; omega)
        obtain ⟨b2, f2, rfl, _, c2⟩ := HS.out k hlt
        by_cases g : 0 ≤ i.getD k 0 ∧ i.getD k 0 < s.getD k 0
        · have HG : Hid (∀ j, j < k + 1 → 0 ≤ i.getD j 0 ∧ i.getD j 0 < s.getD j 0) := fun j hj => by
            by_cases e : j = k
            · subst e; exact g
            · exact HK.out j (by omega)
          generalize i.getD k 0 = x at *
          generalize s.getD k 0 = d at *
          have g1 : ¬ x < 0 := by omega
          have g2 : ¬ d ≤ x := by omega
          clear g
          go_wp2
          refine ⟨⟨k + 1, by omega, by go_num, HG⟩, by simp [intOf]; omega⟩
        · have e : inx s i = false := by
            cases h : inx s i with
            | false => rfl
            | true => exact absurd ((HN.out.1 h).2 k hlt) g
          have E := Lib.hid e
          clear e
          generalize i.getD k 0 = x at *
          generalize s.getD k 0 = d at *
          by_cases g1 : x < 0
          · clear g
            go_wp2
            go_ret
            exact ⟨by rw [E.out]; rfl, rfl⟩
          · have g2 : d ≤ x := by omega
            clear g
            go_wp2
            go_ret
            exact ⟨by rw [E.out]; rfl, rfl⟩
      · have e : inx s i = true := HN.out.2 ⟨HL.out, fun j hj => HK.out j (by omega)⟩
        have E := Lib.hid e
        clear e
        go_wp2
        go_ret
        exact ⟨by rw [E.out]; rfl, rfl⟩
  · have e : inx s i = false := by
      cases h : inx s i with
      | false => rfl
      | true => exact absurd (inx_len h) hl
    rw [e]
    have hl2 : ((i.length : Int) != (s.length : Int)) = true := by rw [bne_iff_ne]; omega
    clear e hl
    go_enter Try.func34, Try.ntmps34
    go_wp2
    go_ret
    exact ⟨rfl, rfl⟩

set_option maxRecDepth 100000 in
set_option maxHeartbeats 4000000 in
/-- The place under an index: the last numbers of it. -/
theorem under_any (vs vi : Value) (s i : List Int) (w : World) (hs : Ld w vs s) (hi : Ld w vi i) (hm : may s = true) (hl : s.length ≤ i.length) (li : i.length ≤ 1073741824) (hx : inx s (msk s (lst s i)) = true) :
    Calls Try.prog 35 #[vs, vi] w fun e w' => e = .returned (.int .i64 (und s i)) ∧ w = w' := by
  obtain ⟨os, cs, rfl, _, hxs⟩ := hs
  obtain ⟨oi, ci, rfl, hci, hxi⟩ := hi
  have l4 := may_len hm
  obtain ⟨q, hq⟩ : ∃ q, i.length = q + s.length := ⟨i.length - s.length, by omega⟩
  have HI := Lib.hid (And.intro hxi hq)
  have HS := Lib.hid hxs
  have HP := Lib.hid (And.intro (may_pos hm) hx)
  have HV := Lib.hid (And.intro (ix_bd hx) (may_prod hm))
  have HG : Hid (∀ k, k < s.length → (msk s (lst s i)).getD k 0 = if 1 < s.getD k 0 then i.getD (q + k) 0 else 0) := fun k hk => by
    rw [msk_getD s _ k (lst_len hl) hk, lst_getD hl, show k + i.length - s.length = q + k by omega]
  have HD : Hid (∀ k, k < s.length → 1 ≤ s.getD k 0 ∧ s.getD k 0 ≤ 4096) := fun k hk => may_dim hm hk
  rw [hq] at hci li
  rw [hq]
  clear hxi hxs hm hl hx hq
  have e1 : ((q + s.length : Nat) : Int) - (s.length : Int) = (q : Int) := by omega
  have EU : Hid (und s i = ix s (msk s (lst s i))) := rfl
  generalize msk s (lst s i) = m at *
  by_cases h0 : s.length = 0
  · have EZ : Hid (und s i = 0) := by
      have : s = [] := List.eq_nil_of_length_eq_zero h0
      rw [Hid, EU.out, this]; rfl
    rw [EZ.out]
    obtain rfl : s = [] := List.eq_nil_of_length_eq_zero h0
    clear EZ EU HG HP HV HI HS HD h0
    simp only [List.length_nil, Nat.add_zero] at *
    have e2 : ((q : Nat) : Int) - ((0 : Nat) : Int) = (q : Int) := by omega
    clear e1
    by_cases hc : ci = q
    · subst hc
      cases oi with
      | none =>
        go_enter Try.func35, Try.ntmps35
        go_wp2
        go_loop [6, 18] (fun s6 s18 => s6 = .int .i64 0 ∧ s18 = .int .i64 0) (fun _ _ => 0)
        case atStart => exact ⟨rfl, rfl⟩
        case round =>
          obtain ⟨rfl, rfl⟩ := hrel
          go_wp2
          go_ret
          exact ⟨rfl, rfl⟩
      | some ad =>
        go_enter Try.func35, Try.ntmps35
        go_wp2
        go_loop [6, 18] (fun s6 s18 => s6 = .int .i64 0 ∧ s18 = .int .i64 0) (fun _ _ => 0)
        case atStart => exact ⟨rfl, rfl⟩
        case round =>
          obtain ⟨rfl, rfl⟩ := hrel
          go_wp2
          go_ret
          exact ⟨rfl, rfl⟩
    · cases oi with
      | none =>
        go_enter Try.func35, Try.ntmps35
        go_wp2
        go_loop [6, 18] (fun s6 s18 => s6 = .int .i64 0 ∧ s18 = .int .i64 0) (fun _ _ => 0)
        case atStart => exact ⟨rfl, rfl⟩
        case round =>
          obtain ⟨rfl, rfl⟩ := hrel
          go_wp2
          go_ret
          exact ⟨rfl, rfl⟩
      | some ad =>
        go_enter Try.func35, Try.ntmps35
        go_wp2
        go_loop [6, 18] (fun s6 s18 => s6 = .int .i64 0 ∧ s18 = .int .i64 0) (fun _ _ => 0)
        case atStart => exact ⟨rfl, rfl⟩
        case round =>
          obtain ⟨rfl, rfl⟩ := hrel
          go_wp2
          go_ret
          exact ⟨rfl, rfl⟩
  · obtain ⟨b, f, rfl, hb, _⟩ := HI.out.1 0 (by have := HI.out.2; omega)
    have hc : ¬ ci = q := by omega
    have EV := EU.out
    rw [EV]
    clear EV EU
    go_enter Try.func35, Try.ntmps35
    go_wp2
    go_loop [6, 18] (fun s6 s18 => ∃ (k : Nat) (p : Int), k ≤ s.length ∧ 0 ≤ p ∧ p ≤ 65536 ∧ s18 = .int .i64 k ∧ s6 = .int .i64 p ∧ Hid (Hor s m (ix s m) p k)) (fun _ s18 => s.length - (intOf s18).toNat)
    case atStart => exact ⟨0, 0, Nat.zero_le _, by decide, by decide, rfl, rfl, hor_start HP.out.2⟩
    case round =>
      obtain ⟨k, p, hk, p0, p1, rfl, rfl, HK⟩ := hrel
      by_cases hlt : k < s.length
      · obtain ⟨b2, f2, rfl, _, c2⟩ := HS.out k hlt
        obtain ⟨b1, f1, e, _, c1⟩ := HI.out.1 (q + k) (by have := HI.out.2; omega)
        simp only [Option.some.injEq, Addr.mk.injEq, and_true] at e
        obtain ⟨rfl, rfl⟩ := e
        rw [← Nat.add_assoc] at c1
        obtain ⟨st, n0, n1⟩ := hor_step HK.out HP.out.2 HP.out.1 hlt
        have gm := HG.out k hlt
        have dd := HD.out k hlt
        have hv := HV.out
        generalize m.getD k 0 = y at *
        generalize i.getD (q + k) 0 = x at *
        generalize s.getD k 0 = d at *
        by_cases g : 1 < d
        · rw [if_pos g] at gm
          subst gm
          have st1 := st.2.1
          have st2 := st.2.2.1
          have ST := Lib.hid st
          have HV2 := Lib.hid hv
          have n2 : p * d ≤ 65536 := by omega
          have n3 : 0 ≤ p * d + y := st1
          have n4 : p * d + y ≤ 65536 := by omega
          clear st hv n1 st1 st2
          go_wp2
          refine ⟨⟨k + 1, p * d + y, by omega, n3, n4, by go_num, rfl, ST.out⟩, by simp [intOf]; omega⟩
        · rw [if_neg g] at gm
          subst gm
          rw [Int.add_zero] at st
          have ST := Lib.hid st
          have n2 : p * d ≤ 65536 := by omega
          clear st hv n1
          go_wp2
          refine ⟨⟨k + 1, p * d, by omega, n0, n2, by go_num, rfl, ST.out⟩, by simp [intOf]; omega⟩
      · obtain rfl : k = s.length := by omega
        obtain rfl := hor_end HK.out
        go_wp2
        go_ret
        exact ⟨rfl, rfl⟩

set_option maxRecDepth 100000 in
set_option maxHeartbeats 2000000 in
theorem index_ok (vs vi : Value) (s i : List Int) (w : World) (hs : Ld w vs s) (hi : Ld w vi i) (hm : may s = true) (hx : inx s i = true) :
    Calls Try.prog 16 #[vs, vi] w fun e w' => e = .returned (.tuple #[.int .i64 (ix s i), .int .i64 0]) ∧ w = w' := by
  have hl := inx_len hx
  have l4 := may_len hm
  have C := Lib.hid (check_ok vs s w hs hm)
  have W := Lib.hid (within_any vi vs i s w hi hs (by omega))
  have U := under_any vs vi s i w hs hi hm (by omega) (by omega) (by rw [lst_same hl, msk_inx hx]; exact hx)
  rw [und_same hx] at U
  have U := Lib.hid U
  rw [hx] at W
  clear hs hi hm hx hl l4
  go_enter Try.func16, Try.ntmps16
  go_wp2_with (first | (go_at_call 21; (with_reducible refine C.out.mono ?_); rintro e w' ⟨rfl, rfl⟩) | (go_at_call 34; (with_reducible refine W.out.mono ?_); rintro e w' ⟨rfl, rfl⟩) | (go_at_call 35; (with_reducible refine U.out.mono ?_); rintro e w' ⟨rfl, rfl⟩))
  go_ret2
  exact ⟨rfl, rfl⟩
set_option maxRecDepth 100000 in
set_option maxHeartbeats 2000000 in
theorem index_far (vs vi : Value) (s i : List Int) (w : World) (hs : Ld w vs s) (hi : Ld w vi i) (hm : may s = true) (hx : inx s i = false) :
    Calls Try.prog 16 #[vs, vi] w fun e w' => e = .returned (.tuple #[.int .i64 0, .int .i64 2]) ∧ w = w' := by
  have l4 := may_len hm
  have C := Lib.hid (check_ok vs s w hs hm)
  have W := Lib.hid (within_any vi vs i s w hi hs (by omega))
  rw [hx] at W
  clear hs hi hm hx l4
  go_enter Try.func16, Try.ntmps16
  go_wp2_with (first | (go_at_call 21; (with_reducible refine C.out.mono ?_); rintro e w' ⟨rfl, rfl⟩) | (go_at_call 34; (with_reducible refine W.out.mono ?_); rintro e w' ⟨rfl, rfl⟩))
  go_ret2
  exact ⟨rfl, rfl⟩
set_option maxRecDepth 100000 in
set_option maxHeartbeats 2000000 in
theorem index_no (vs vi : Value) (s : List Int) (w : World) (hs : Ld w vs s) (hm : may s = false) :
    Calls Try.prog 16 #[vs, vi] w fun e w' => e = .returned (.tuple #[.int .i64 0, .int .i64 1]) ∧ w = w' := by
  have C := Lib.hid (check_no vs s w hs hm)
  clear hs hm
  go_enter Try.func16, Try.ntmps16
  go_wp2_with (go_at_call 21; (with_reducible refine C.out.mono ?_); rintro e w' ⟨rfl, rfl⟩)
  go_ret2
  exact ⟨rfl, rfl⟩
end Go.Proofs.Yteplhlmdaabpaaa
