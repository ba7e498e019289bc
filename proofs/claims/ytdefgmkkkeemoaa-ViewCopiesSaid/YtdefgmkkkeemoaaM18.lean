/-
  Of the references that the laws of package view call: words copied and spoilt, where an index stands.
  The reference's Once.
  The reference's Lay.
-/
import Derived.BigQuiet
import Derived.Deep.DeepBigQuietO
import Derived.Deep.RegionHeld3
import Derived.Deep.DeepCutAuto
import Derived.Test.YtdefgmkkkeemoaaM06
import Derived.Test.YtdefgmkkkeemoaaM08
import Derived.Test.YtdefgmkkkeemoaaM16
namespace Go.Proofs.Ytdefgmkkkeemoaa
open Go.RowKit

set_option maxRecDepth 100000 in
set_option maxHeartbeats 4000000 in
theorem wordso_any (base : Nat) (v : Value) (ls : List Int) (w : World) (h : w.ownsRow base 2 1 v ls.length (ints ls)) (hb : base ≤ w.heap.size) (hl : ls.length ≤ 65536) :
    Calls Try.prog 42 #[v] w fun e w' => e = .returned (.tuple #[]) ∧ w.grownBy w' v.ownBlock := by
  obtain ⟨i0, hi0, hz0, hz1, hz2⟩ := info_parts infoW
  obtain ⟨n, hn⟩ : ∃ n, n = ls.length := ⟨_, rfl⟩
  have HLN := Lib.hid hn
  rw [← hn] at h hl
  clear hn
  obtain ⟨o, c, rfl⟩ := own_len h
  have H0 : Hid (w.ownsRow base 2 1 (.slice o n c) n (ints ls)) := h
  have HF := Lib.hid (fun (h0 : 0 < n) => own_some h h0)
  clear h
  go_enter Try.func42, Try.ntmps42
  go_wp2
  go_loopw [2] (fun s2 wr => ∃ (k : Nat) (L : List Int), k ≤ n ∧ s2 = .int .i64 k ∧ Hid (L.length = n) ∧ Hid (wr.ownsRow base 2 1 (.slice o n c) n (ints L)) ∧ Hid (w.grownBy wr (Value.slice o n c).ownBlock)) (fun s2 _ => n - (intOf s2).toNat)
  case atStart => exact ⟨0, ls, Nat.zero_le _, rfl, HLN.out.symm, H0.out, World.grownBy.refl _ _⟩
  case round =>
    obtain ⟨k, L, hk, rfl, HL, HO, HG⟩ := hrel
    by_cases hlt : k < n
    · obtain ⟨g, rfl⟩ := HF.out (by omega)
      have kc : wr.cell? ⟨g, k, none⟩ = some (.int .i64 (L.getD k 0)) := by
        have h1 := HO.out
        rw [← HL.out] at h1
        exact own_cell h1 (by have := HL.out; omega)
      have kf := own_frozen HO.out k
      generalize L.getD k 0 = x at kc
      go_wp2
      refine ⟨⟨k + 1, L.set k (-9999), by omega, by go_num, by have := HL.out; simpa [Hid] using this, own_put2 HO.out HL.out hlt _, grown_put HG.out _⟩, by simp [intOf]; omega⟩
    · go_wp2_with (at_builtin; refine wpList_append_own _ rfl _ _ 26 rfl base 2 i0 (.int .i64 0) 1 8 Try.underlying26 hi0 hz0 hz1 hz2 rfl (by decide) _ n (ints L) rfl (HO.out.alloc _) ⟨wr.heap.size, 0, none⟩ 1 1 [.int .i64 5] rfl rfl ?c1 ?c2 ?c3 ?c4 ?c5 ?_)
      case c1 => exact (cell_one_new _ _ _)
      case c2 => simp [Value.oneCell']
      case c3 => unfold maxLen; omega
      case c4 => omega
      case c5 => have := HG.out.size; simp; omega
      intro v' w9 _ hgrow _
      have h1 := HG.out
      have h2 : w.grownBy w9 (Value.slice o n c).ownBlock := ⟨hgrow.os.trans h1.os, hgrow.tape.trans h1.tape, hgrow.output.trans h1.output, Nat.le_trans h1.size (Nat.le_trans (by simp) hgrow.size), fun j hj hne => (hgrow.block j (by have := h1.size; simp; omega) hne).trans ((Below.heap_alloc _ _ _ (by have := h1.size; omega)).trans (h1.block j hj hne))⟩
      have H2 := Lib.hid h2
      clear h1 h2 hgrow
      go_wp2
      refine bodyPost_end (results_none rfl _ _ _) rfl ?_
      exact ⟨rfl, H2.out⟩

set_option maxRecDepth 100000 in
set_option maxHeartbeats 4000000 in
theorem copywords_any (v : Value) (ls : List Int) (w : World) (h : Ld w v ls) (ll : ls.length ≤ 17592186044000) :
    Calls Try.prog 36 #[v] w (SomeWd w ls) := by
  obtain ⟨i0, hi0, hz0, hz1, hz2⟩ := info_parts infoW
  obtain ⟨o, c, rfl, _, hx⟩ := h
  have HX := Lib.hid hx
  clear hx
  go_enter Try.func36, Try.ntmps36
  go_wp2
  go_loopw [3, 4] (fun s3 s4 wr => ∃ k : Nat, k ≤ ls.length ∧ s4 = .int .i64 k ∧ Hid (wr.ownsRow w.heap.size 2 1 s3 k (ints (ls.take k))) ∧ Below w.heap.size w wr) (fun _ s4 _ => ls.length - (intOf s4).toNat)
  case atStart => exact ⟨0, Nat.zero_le _, rfl, World.ownsRow_nil _ _ _ _, Below.refl _ _⟩
  case round =>
    obtain ⟨k, hk, rfl, HO, hB⟩ := hrel
    have hBs := hB.size
    by_cases hlt : k < ls.length
    · obtain ⟨b, f, rfl, hb, hc⟩ := HX.out k hlt
      have hc' : wr.cell? ⟨b, f + k, none⟩ = some (.int .i64 (ls.getD k 0)) := (hB.cell (p := ⟨b, f + k, none⟩) hb).trans hc
      have E : Hid (ints (ls.take (k + 1)) = ints (ls.take k) ++ [.int .i64 (ls.getD k 0)]) := by
        unfold Hid ints
        rw [List.take_succ_eq_append_getElem hlt, List.map_append]
        simp [List.getD, List.getElem?_eq_getElem hlt]
      clear hc
      generalize ls.getD k 0 = x at *
      go_wp2_with (at_builtin; refine wpList_append_own _ rfl _ _ 26 rfl w.heap.size 2 i0 (.int .i64 0) 1 8 Try.underlying26 hi0 hz0 hz1 hz2 rfl (by decide) _ k (ints (ls.take k)) rfl (HO.out.alloc _) ⟨wr.heap.size, 0, none⟩ 1 1 [.int .i64 x] rfl rfl ?c1 ?c2 ?c3 ?c4 ?c5 ?_)
      case c1 => exact (cell_one_new _ _ _)
      case c2 => simp [Value.oneCell']
      case c3 => unfold maxLen; omega
      case c4 => omega
      case c5 => simp; omega
      intro v' w9 hown1 hgrow _
      have hB9 : Below w.heap.size w w9 := (hB.alloc hBs _).grown hgrow (by simp; omega) (fun j hj => (HO.out.lt j hj).1)
      have h1 : Hid (w9.ownsRow w.heap.size 2 1 v' (k + 1) (ints (ls.take (k + 1)))) := by
        rw [Hid, E.out]; exact hown1
      clear hown1 hgrow
      go_wp2
      exact ⟨⟨k + 1, by omega, by go_num, h1, hB9⟩, by simp [intOf]; omega⟩
    · obtain rfl : k = ls.length := by omega
      have h1 := HO.out
      rw [List.take_length] at h1
      obtain ⟨o2, c2, rfl, hld⟩ := Ld.of_owns h1
      have H1 := Lib.hid (And.intro h1 hld)
      clear h1 hld HO
      go_wp2
      go_ret
      exact ⟨o2, c2, rfl, H1.out.1, H1.out.2, hB⟩

set_option maxRecDepth 100000 in
set_option maxHeartbeats 4000000 in
/-- Place. -/
theorem rplace_any (vs vt vi : Value) (st ix : List Int) (off : Int) (w : World) (ht : Ld w vt st) (hi : Ld w vi ix) (hl : st.length = ix.length) (l4 : st.length ≤ 4) (hst : sts st) (hnn : ∀ x ∈ ix, 0 ≤ x) (h0 : 0 ≤ off) (hT : off + dot st ix ≤ 65536) :
    Calls Try.prog 60 #[.agg #[vs, vt, .int .i64 off], vi] w fun e w' => e = .returned (.int .i64 (off + dot st ix)) ∧ Below w.heap.size w w' := by
  have B0 : Below w.heap.size w (w.alloc (.cells #[vs, vt, .int .i64 off] 25)) := (Below.refl _ _).alloc (Nat.le_refl _) _
  have K0 := Lib.hid (Blk.new w 25 #[vs, vt, .int .i64 off])
  obtain ⟨T, hTe⟩ : ∃ T, T = off + dot st ix := ⟨_, rfl⟩
  have hd0 := dot_nn (st := st) (i := ix) (fun s hs => (hst s hs).1) hnn
  have DS : Hid (Dt st ix T off 0) := ⟨Nat.zero_le _, h0, by simpa using hTe.symm⟩
  have hT2 : 0 ≤ T ∧ T ≤ 65536 := by omega
  have hoff : off ≤ 65536 := by omega
  rw [← hTe]
  have HD := Lib.hid (And.intro hst (And.intro hnn hl))
  have HB := Lib.hid B0
  obtain ⟨o1, c1, rfl, _, hx1⟩ := ht
  obtain ⟨o2, c2, rfl, _, hx2⟩ := hi
  have HX := Lib.hid (And.intro hx1 hx2)
  rw [← hl]
  clear hx1 hx2 hst hnn hd0 hTe hT hl B0
  go_enter Try.func60, Try.ntmps60
  go_wp2
  go_loopw [5, 6] (fun s5 s6 wr => ∃ (k : Nat) (p : Int), k ≤ st.length ∧ 0 ≤ p ∧ p ≤ 65536 ∧ s6 = .int .i64 k ∧ s5 = .int .i64 p ∧ Hid (Dt st ix T p k) ∧ Hid (Below w.heap.size w wr ∧ Blk wr w.heap.size 25 #[vs, .slice o1 st.length c1, .int .i64 off])) (fun _ s6 _ => st.length - (intOf s6).toNat)
  case atStart => exact ⟨0, off, Nat.zero_le _, h0, hoff, rfl, rfl, DS, HB.out, K0.out⟩
  case round =>
    obtain ⟨k, p, hk, p0, p1, rfl, rfl, HK, HW⟩ := hrel
    have hBW : Hid (Below w.heap.size w wr) := HW.out.1
    have KW : Hid (Blk wr w.heap.size 25 #[vs, .slice o1 st.length c1, .int .i64 off]) := HW.out.2
    have hmx : Try.prog.follows .mixedOrders = true := by kernel_rfl
    obtain ⟨_, x1, _⟩ := blk3 KW.out
    by_cases hlt : k < st.length
    · obtain ⟨b1, f1, rfl, hb1, hc1⟩ := HX.out.1 k hlt
      obtain ⟨b2, f2, rfl, hb2, hc2⟩ := HX.out.2 k (by have := HD.out.2.2; omega)
      have y1 := (hBW.out.cell (p := ⟨b1, f1 + k, none⟩) hb1).trans hc1
      have y2 := (hBW.out.cell (p := ⟨b2, f2 + k, none⟩) hb2).trans hc2
      obtain ⟨st1, t0, t1, t2, t3⟩ := dt_step HK.out HD.out.2.2 (fun s hs => (HD.out.1 s hs).1) HD.out.2.1 hlt
      have ST := Lib.hid st1
      clear st1 hc1 hc2
      generalize ix.getD k 0 = y at *
      generalize st.getD k 0 = s at *
      have q1 : y * s ≤ 65536 := by omega
      have q2 : p + y * s ≤ 65536 := by omega
      clear HX HD HK hb1 hb2
      go_wp2
      go_big_quiet_o (fail)
      go_wp2
      refine ⟨⟨k + 1, p + y * s, by omega, t3, q2, by go_num, by go_num, ST, below_drw HW.out.1 _, HW.out.2⟩, by simp [intOf]; omega⟩
    · obtain rfl : k = st.length := by omega
      obtain rfl := dt_end HK.out HD.out.2.2
      clear hlt
      go_wp2
      go_ret
      exact ⟨rfl, hBW.out⟩
end Go.Proofs.Ytdefgmkkkeemoaa
namespace Go.Proofs.Ytdefgmkkkeemoaa
open Go.RowKit

/-- The places so far. -/
def sns (sh st : List Int) (off : Int) (k : Nat) : List Int := (List.range k).map (plat sh st off)
theorem sns_len (sh st : List Int) (off : Int) (k : Nat) : (sns sh st off k).length = k := by simp [sns]
theorem sns_snoc (sh st : List Int) (off : Int) (k : Nat) : sns sh st off (k + 1) = sns sh st off k ++ [plat sh st off k] := by simp [sns, List.range_succ]
theorem sns_hit (sh st : List Int) (off : Int) (k : Nat) : decide (plat sh st off k ∈ sns sh st off k) = hit sh st off k := by
  rw [Bool.eq_iff_iff]
  simp [sns, hit]
set_option maxRecDepth 100000 in
set_option maxHeartbeats 8000000 in
theorem ronce_any (vs vt : Value) (sh st : List Int) (off n : Int) (N : Nat) (w : World) (hs : Ld w vs sh) (ht : Ld w vt st) (hv : Vw sh st off n) (hN : (N : Int) = prod sh) :
    Calls Try.prog 34 #[.agg #[vs, vt, .int .i64 off]] w fun e w' => e = .returned (.bool (!dup sh st off N)) ∧ Below w.heap.size w w' := by
  obtain ⟨i0, hi0, hz0, hz1, hz2⟩ := info_parts infoI
  have hN6 : 1 ≤ N ∧ N ≤ 65536 := by have := may_prod hv.1; omega
  have l4 := may_len hv.1
  have HS := Lib.hid (And.intro hs (And.intro ht (And.intro hv hN)))
  have K0 := Lib.hid (Blk.new w 25 #[vs, vt, .int .i64 off])
  have HB := Lib.hid ((Below.refl w.heap.size w).alloc (Nat.le_refl _) (.cells #[vs, vt, .int .i64 off] 25))
  obtain ⟨o1, c1, rfl, _, _⟩ := hs
  obtain ⟨o2, c2, rfl, _, _⟩ := ht
  clear hv hN
  go_enter Try.func34, Try.ntmps34
  go_wp2
  go_loopw [3, 4] (fun s3 s4 wr => ∃ k : Nat, k ≤ N ∧ s4 = .int .i64 k ∧ Hid (wr.ownsRow (w.heap.size + 1) 3 1 s3 k (ints (sns sh st off k))) ∧ Hid (Below w.heap.size w wr ∧ Blk wr w.heap.size 25 #[.slice o1 sh.length c1, .slice o2 st.length c2, .int .i64 off]) ∧ Hid (∀ i, i < k → hit sh st off i = false)) (fun _ s4 _ => N - (intOf s4).toNat)
  case atStart => exact ⟨0, Nat.zero_le _, rfl, World.ownsRow_nil _ _ _ _, ⟨HB.out, K0.out⟩, fun i hi => absurd hi (Nat.not_lt_zero _)⟩
  case round =>
    obtain ⟨k, hk, rfl, HO, HW, HK⟩ := hrel
    obtain ⟨x0, x1, x2, _⟩ := blk3 HW.out.2
    have hBs := HW.out.1.size
    have wl := HW.out.2.lt
    have KC : Hid (Calls Try.prog 17 #[.slice o1 sh.length c1] wr fun e w' => e = .returned (.int .i64 (N : Int)) ∧ wr = w') := Lib.hid (by
      have h := rcount_any _ sh wr (HS.out.1.below HW.out.1) (may_dms HS.out.2.2.1.1) (by omega)
      rwa [rct_may HS.out.2.2.1.1, ← HS.out.2.2.2] at h)
    by_cases hlt : k < N
    · have KA := Lib.hid (fun (W : World) (hW : Below w.heap.size w W) => rat_any _ sh (k : Nat) W (HS.out.1.below hW) HS.out.2.2.1.1 (by omega) (by have := HS.out.2.2.2; omega))
      have KP : Hid (∀ (W : World) (v : Value), Ld W v (atl sh (k : Nat)) → Below w.heap.size w W → Calls Try.prog 60 #[.agg #[.slice o1 sh.length c1, .slice o2 st.length c2, .int .i64 off], v] W fun e w' => e = .returned (.int .i64 (plat sh st off k)) ∧ Below W.heap.size W w') := Lib.hid (fun W v h hW => by
        obtain ⟨hm, hl, hst, h0, h5, h6, h7⟩ := HS.out.2.2.1
        have hp := may_pos hm
        have hNN := HS.out.2.2.2
        have hat := vw_at HS.out.2.2.1 (atl_inx sh (k : Nat) hp (by omega) (by omega))
        exact rplace_any _ _ v st (atl sh (k : Nat)) off W (HS.out.2.1.below hW) h (by rw [atl_len]; exact hl) (by omega) hst (atl_nn hp (by omega) (by omega)) h0 (by omega))
      have BD : Hid (Below w.heap.size w wr.drew) := below_drw HW.out.1 1
      obtain ⟨os, cs, rfl⟩ := own_len HO.out
      have hseen : Ld wr (.slice os k cs) (sns sh st off k) := by
        have hq : wr.ownsRow (w.heap.size + 1) 3 1 (.slice os k cs) (sns sh st off k).length (ints (sns sh st off k)) := by rw [sns_len]; exact HO.out
        obtain ⟨o', c', e, h⟩ := Ld.of_owns hq
        simp only [Value.slice.injEq] at e
        obtain ⟨rfl, _, rfl⟩ := e
        rwa [sns_len] at h
      have HSE := Lib.hid hseen
      clear hseen
      have KI : Hid (∀ W : World, Below wr.heap.size wr W → Calls Try.prog 46 #[.slice os k cs, .int .i64 (plat sh st off k)] W fun e w' => e = .returned (.bool (hit sh st off k)) ∧ W = w') := Lib.hid (fun W hW => by
        have h := rin_any _ (sns sh st off k) (plat sh st off k) W (HSE.out.below hW) (by rw [sns_len]; omega)
        rwa [sns_hit] at h)
      have KQ := Lib.hid (fun (W : World) (hW : Below wr.heap.size wr W) => blk3 (HW.out.2.below hW wl))
      have BR : Hid (Below wr.heap.size wr wr.drew) := below_drw (Below.refl _ _) 1
      generalize hpl : plat sh st off k = pl at *
      go_upto_region 5 with (first | (go_at_call 17; (with_reducible refine KC.out.mono ?_); rintro e w' ⟨rfl, rfl⟩))
      go_region_held3 (fun W => W.cell? ⟨w.heap.size, 0, none⟩ = some (.slice o1 sh.length c1) ∧ W.cell? ⟨w.heap.size, 1, none⟩ = some (.slice o2 st.length c2) ∧ W.cell? ⟨w.heap.size, 2, none⟩ = some (.int .i64 off)) (first | exact ⟨x0, x1, x2⟩ | exact ⟨y0, y1, y2⟩ | exact ⟨v0, v1, v2⟩ | go_keep)
        ((first
          | (go_at_call 43; (with_reducible refine (KA.out _ BD.out).mono ?_); rintro e w3 ⟨vi, rfl, hvi, hb3⟩; have B3 := Lib.hid (BD.out.trans (hb3.mono BD.out.size)); have R3 := Lib.hid (BR.out.trans (hb3.mono BR.out.size)); have V3 := Lib.hid hvi; obtain ⟨y0, y1, y2, _⟩ := KQ.out _ R3.out; clear hb3 hvi)
          | (go_at_call 60; (with_reducible refine (KP.out _ _ V3.out B3.out).mono ?_); rintro e w4 ⟨rfl, hb4⟩; have B4 := Lib.hid (B3.out.trans (hb4.mono B3.out.size)); have R4 := Lib.hid (R3.out.trans (hb4.mono R3.out.size)); obtain ⟨v0, v1, v2, _⟩ := KQ.out _ R4.out; clear hb4)))
      cases hh : hit sh st off k with
      | true =>
        rw [hh] at KI
        have HD := Lib.hid (dup_yes hlt hh)
        clear hh
        go_wp2_with (go_at_call 46; (with_reducible refine (KI.out _ R4.out).mono ?_); rintro e w' ⟨rfl, rfl⟩)
        go_ret
        exact ⟨by rw [HD.out]; rfl, B4.out⟩
      | false =>
        rw [hh] at KI
        have HH : Hid (∀ i, i < k + 1 → hit sh st off i = false) := fun i hi => by
          by_cases e : i = k
          · subst e; exact hh
          · exact HK.out i (by omega)
        have E : Hid (ints (sns sh st off (k + 1)) = ints (sns sh st off k) ++ [.int .i64 pl]) := by rw [Hid, sns_snoc, hpl, ints_snoc]
        have O4 : Hid (w4.ownsRow (w.heap.size + 1) 3 1 (.slice os k cs) k (ints (sns sh st off k))) := Below.keepOwn HO.out R4.out (Nat.le_refl _)
        have s4 := B4.out.size
        have z4 : w.heap.size + 1 ≤ w4.heap.size := by have := R4.out.size; omega
        clear hh
        go_wp2_with (first | (go_at_call 46; (with_reducible refine (KI.out _ R4.out).mono ?_); rintro e w' ⟨rfl, rfl⟩) | (at_builtin; refine wpList_append_own _ rfl _ _ 23 rfl (w.heap.size + 1) 3 i0 (.int .i64 0) 1 8 Try.underlying23 hi0 hz0 hz1 hz2 rfl (by decide) _ k (ints (sns sh st off k)) rfl (O4.out.alloc _) ⟨w4.heap.size, 0, none⟩ 1 1 [.int .i64 pl] rfl rfl ?c1 ?c2 ?c3 ?c4 ?c5 ?_))
        case c1 => exact (cell_one_new _ _ _)
        case c2 => simp [Value.oneCell']
        case c3 => unfold maxLen; omega
        case c4 => omega
        case c5 => simp; omega
        intro v' w9 hown1 hgrow _
        have hB9 : Below w.heap.size w w9 := (B4.out.alloc s4 _).grown hgrow (by simp; omega) (fun j hj => by have := (O4.out.lt j hj).1; omega)
        have hK9 : Blk w9 w.heap.size 25 #[.slice o1 sh.length c1, .slice o2 st.length c2, .int .i64 off] := ((HW.out.2.below R4.out wl).alloc _).kept hgrow (fun e => by have := (O4.out.lt _ e.symm).1; omega)
        have h1 : Hid (w9.ownsRow (w.heap.size + 1) 3 1 v' (k + 1) (ints (sns sh st off (k + 1)))) := by
          rw [Hid, E.out]; exact hown1
        have h2 := Lib.hid (And.intro hB9 hK9)
        clear hown1 hgrow hB9 hK9
        go_wp2
        exact ⟨⟨k + 1, by omega, by go_num, h1, h2.out, HH⟩, by simp [intOf]; omega⟩
    · obtain rfl : k = N := by omega
      have HD := Lib.hid (dup_no HK.out)
      clear hlt
      go_wp2_with (go_at_call 17; (with_reducible refine KC.out.mono ?_); rintro e w' ⟨rfl, rfl⟩)
      go_ret
      exact ⟨by rw [HD.out]; rfl, HW.out.1⟩
end Go.Proofs.Ytdefgmkkkeemoaa
namespace Go.Proofs.Ytdefgmkkkeemoaa
open Go.RowKit

set_option maxRecDepth 100000 in
set_option maxHeartbeats 8000000 in
theorem rlay_any (vs vt vp vr vd : Value) (sh st tds ls : List Int) (off : Int) (N : Nat) (w : World) (hs : Ld w vs sh) (ht : Ld w vt st) (hr : Ld w vr tds) (hd : Ld w vd ls) (hv : Vw sh st off ls.length) (hN : (N : Int) = prod sh) (htl : tds.length = N) :
    Calls Try.prog 35 #[.agg #[vs, vt, .int .i64 off], .agg #[vp, vr], vd] w (SomeWd w (lys sh st off ls tds N)) := by
  have hN6 : 1 ≤ N ∧ N ≤ 65536 := by have := may_prod hv.1; omega
  have l4 := may_len hv.1
  have hls : 1 ≤ ls.length ∧ ls.length ≤ 65536 := by have := hv.2.2.2.1; have := hv.2.2.2.2; omega
  have HS := Lib.hid (And.intro hs (And.intro ht (And.intro hv (And.intro hN (And.intro hr htl)))))
  have KCW := Lib.hid (fun (W : World) (hW : Below w.heap.size w W) => copywords_any vd ls W (hd.below hW) (by omega))
  obtain ⟨w3, hw3⟩ : ∃ w3, w3 = (w.alloc (.cells #[vs, vt, .int .i64 off] 25)).alloc (.cells #[vp, vr] 28) := ⟨_, rfl⟩
  have hsz : w3.heap.size = w.heap.size + 2 := by rw [hw3]; simp
  have B3 : Below w.heap.size w w3 := by rw [hw3]; exact ((Below.refl _ _).alloc (Nat.le_refl _) _).alloc (by simp) _
  have K0 : Hid (Blk w3 w.heap.size 25 #[vs, vt, .int .i64 off]) := by rw [hw3]; exact (Blk.new w _ _).alloc _
  have K1 : Hid (Blk w3 (w.heap.size + 1) 28 #[vp, vr]) := by rw [hw3]; exact blk_new1 w _ _ _
  have C1 : Hid (∀ n, w3.heap.size = n → Calls Try.prog 36 #[vd] w3 fun e w' => ∃ o c, e = .returned (.slice o ls.length c) ∧ w'.ownsRow n 2 1 (.slice o ls.length c) ls.length (ints ls) ∧ Below n w3 w') := fun n hn => by
    subst hn
    exact (KCW.out w3 B3).mono (by rintro e w' ⟨o, c, rfl, h1, _, h3⟩; exact ⟨o, c, rfl, h1, h3⟩)
  replace C1 := Lib.hid (C1.out (w.heap.size + 2) hsz)
  have HW3 := Lib.hid hw3
  rw [hw3] at C1
  obtain ⟨o1, c1, rfl, _, _⟩ := hs
  obtain ⟨o2, c2, rfl, _, _⟩ := ht
  obtain ⟨o4, c4, rfl, _, _⟩ := id hr
  obtain ⟨o5, c5, rfl, _, _⟩ := id hd
  obtain ⟨L, hL⟩ : ∃ L, L = ls.length := ⟨_, rfl⟩
  have HLL := Lib.hid hL
  rw [← htl] at hN6
  have HB3 := Lib.hid B3
  clear hv hN htl hr hd hw3 B3 KCW
  go_enter Try.func35, Try.ntmps35
  go_wp2_with (go_at_call 36; (with_reducible refine C1.out.mono ?_); rintro e w4 ⟨oL, cL, rfl, h1, h3⟩; rw [← HW3.out] at h3; have O4 := Lib.hid h1; have B34 := Lib.hid (show Below w3.heap.size w3 w4 by rw [hsz]; exact h3); clear h1 h3)
  rw [← hL] at O4
  rw [← hL]
  obtain ⟨gL, rfl⟩ := own_some O4.out (by omega)
  have B4 := Lib.hid (HB3.out.trans (B34.out.mono (by omega)))
  have K04 := Lib.hid (K0.out.below B34.out (by omega))
  have K14 := Lib.hid (K1.out.below B34.out (by omega))
  have gl := (O4.out.lt gL rfl)
  clear hL
  go_loopw [8] (fun s8 wr => ∃ k : Nat, k ≤ tds.length ∧ s8 = .int .i64 k ∧ Hid (wr.ownsRow (w.heap.size + 2) 2 1 (.slice (some ⟨gL, 0, none⟩) L cL) L (ints (lys sh st off ls tds k))) ∧ Hid (Below w.heap.size w wr ∧ Blk wr w.heap.size 25 #[.slice o1 sh.length c1, .slice o2 st.length c2, .int .i64 off] ∧ Blk wr (w.heap.size + 1) 28 #[vp, .slice o4 tds.length c4])) (fun s8 _ => tds.length - (intOf s8).toNat)
  case atStart => exact ⟨0, Nat.zero_le _, rfl, O4.out, B4.out, K04.out, K14.out⟩
  case round =>
    obtain ⟨k, hk, rfl, HO, HW⟩ := hrel
    obtain ⟨x0, x1, x2, _⟩ := blk3 HW.out.2.1
    obtain ⟨_, x3, _⟩ := blk2 HW.out.2.2
    have hBs := HW.out.1.size
    have wl := HW.out.2.1.lt
    have wl1 := HW.out.2.2.lt
    by_cases hlt : k < tds.length
    · have hkN : k < N := by have := HS.out.2.2.2.2.2; omega
      have KA := Lib.hid (fun (W : World) (hW : Below w.heap.size w W) => rat_any _ sh (k : Nat) W (HS.out.1.below hW) HS.out.2.2.1.1 (by omega) (by have := HS.out.2.2.2.1; omega))
      obtain ⟨hm, hl, hst, h0, h5, h6, h7⟩ := HS.out.2.2.1
      have hp := may_pos hm
      have hNN := HS.out.2.2.2.1
      have hat := vw_at HS.out.2.2.1 (atl_inx sh (k : Nat) hp (by omega) (by omega))
      obtain ⟨P, hP⟩ := Int.eq_ofNat_of_zero_le hat.1
      have HP : Hid (plat sh st off k = (P : Int)) := hP
      rw [hP] at hat
      have hPl : P < L := by have := HLL.out; omega
      have KP : Hid (∀ (W : World) (v : Value), Ld W v (atl sh (k : Nat)) → Below w.heap.size w W → Calls Try.prog 60 #[.agg #[.slice o1 sh.length c1, .slice o2 st.length c2, .int .i64 off], v] W fun e w' => e = .returned (.int .i64 (P : Int)) ∧ Below W.heap.size W w') := Lib.hid (fun W v h hW => by
        have := rplace_any (.slice o1 sh.length c1) (.slice o2 st.length c2) v st (atl sh (k : Nat)) off W (HS.out.2.1.below hW) h (by rw [atl_len]; exact hl) (by omega) hst (atl_nn hp (by omega) (by omega)) h0 (by rw [hP]; omega)
        rwa [hP] at this)
      obtain ⟨o4', c4', e4, _, hx4⟩ := HS.out.2.2.2.2.1
      simp only [Value.slice.injEq] at e4
      obtain ⟨rfl, _, rfl⟩ := e4
      obtain ⟨b4, f4, rfl, hb4, hc4⟩ := hx4 k hlt
      have kD := (HW.out.1.cell (p := ⟨b4, f4 + k, none⟩) hb4).trans hc4
      have KY := Lib.hid (fun (W : World) (hW : Below wr.heap.size wr W) => (hW.cell (p := ⟨b4, f4 + k, none⟩) (Nat.lt_of_lt_of_le hb4 hBs)).trans kD)
      have KQ := Lib.hid (fun (W : World) (hW : Below wr.heap.size wr W) => And.intro (blk3 (HW.out.2.1.below hW wl)) (blk2 (HW.out.2.2.below hW wl1)))
      have BD : Hid (Below w.heap.size w wr.drew) := below_drw HW.out.1 1
      have BR : Hid (Below wr.heap.size wr wr.drew) := below_drw (Below.refl _ _) 1
      have n1 : ¬ w.heap.size = gL := by omega
      have n2 : ¬ w.heap.size + 1 = gL := by omega
      have n3 : ¬ b4 = gL := by omega
      have n1' : ¬ gL = w.heap.size := by omega
      have n2' : ¬ gL = w.heap.size + 1 := by omega
      have n3' : ¬ gL = b4 := by omega
      have hPi : (P : Int) < (L : Int) := by omega
      have hP0 : (0 : Int) ≤ (P : Int) := by omega
      have hk0 : (0 : Int) ≤ (k : Int) := by omega
      have hki : (k : Int) < (tds.length : Int) := by omega
      have KL : Hid (∀ W, Below wr.heap.size wr W → (∃ z, W.cell? ⟨gL, P, none⟩ = some (.int .i64 z)) ∧ W.frozen? ⟨gL, P, none⟩ = false) := Lib.hid (fun W hW => by
        have h1 := Below.keepOwn HO.out hW (Nat.le_refl _)
        have hq : W.ownsRow (w.heap.size + 2) 2 1 (.slice (some ⟨gL, 0, none⟩) (lys sh st off ls tds k).length cL) (lys sh st off ls tds k).length (ints (lys sh st off ls tds k)) := by rw [lys_len, ← HLL.out]; exact h1
        exact ⟨⟨_, own_cell hq (by rw [lys_len, ← HLL.out]; exact hPl)⟩, own_frozen h1 P⟩)
      clear hm hl hst h0 h5 h6 h7 hp hNN hat hP hx4 hc4
      generalize hy : tds.getD k 0 = y at *
      have HY := Lib.hid hy
      clear hy
      go_wp2
      go_region_held3 (fun W => W.cell? ⟨w.heap.size, 0, none⟩ = some (.slice o1 sh.length c1) ∧ W.cell? ⟨w.heap.size, 1, none⟩ = some (.slice o2 st.length c2) ∧ W.cell? ⟨w.heap.size, 2, none⟩ = some (.int .i64 off) ∧ W.cell? ⟨w.heap.size + 1, 1, none⟩ = some (.slice (some ⟨b4, f4, none⟩) tds.length c4) ∧ W.cell? ⟨b4, f4 + k, none⟩ = some (.int .i64 y)) (first | exact ⟨x0, x1, x2, x3, kD⟩ | exact ⟨y0, y1, y2, y3, y4⟩ | exact ⟨v0, v1, v2, v3, v4⟩ | go_keep)
        ((first
          | (go_at_call 43; (with_reducible refine (KA.out _ BD.out).mono ?_); rintro e w5 ⟨vi, rfl, hvi, hb5⟩; have B5 := Lib.hid (BD.out.trans (hb5.mono BD.out.size)); have R5 := Lib.hid (BR.out.trans (hb5.mono BR.out.size)); have V5 := Lib.hid hvi; obtain ⟨⟨y0, y1, y2, _⟩, _, y3, _⟩ := KQ.out _ R5.out; have y4 := KY.out _ R5.out; clear hb5 hvi)
          | (go_at_call 60; (with_reducible refine (KP.out _ _ V5.out B5.out).mono ?_); rintro e w6 ⟨rfl, hb6⟩; have B6 := Lib.hid (B5.out.trans (hb6.mono B5.out.size)); have R6 := Lib.hid (R5.out.trans (hb6.mono R5.out.size)); obtain ⟨⟨v0, v1, v2, _⟩, _, v3, _⟩ := KQ.out _ R6.out; have v4 := KY.out _ R6.out; obtain ⟨⟨z, c9⟩, f9⟩ := KL.out _ R6.out; clear hb6)))
      all_goals
        have Q := Lib.hid (own_put2 (Below.keepOwn HO.out R6.out (Nat.le_refl _)) (by rw [lys_len, ← HLL.out]) hPl y)
        have QB := Lib.hid (B6.out.setCell (p := ⟨gL, P, none⟩) (show w.heap.size ≤ gL by omega) (.int .i64 y))
        have Q0 := Lib.hid ((HW.out.2.1.below R6.out wl).far (p := ⟨gL, P, none⟩) n1 (.int .i64 y))
        have Q1 := Lib.hid ((HW.out.2.2.below R6.out wl1).far (p := ⟨gL, P, none⟩) n2 (.int .i64 y))
        go_wp2
        exact ⟨⟨k + 1, by omega, by go_num, by rw [Hid, lys_step HP.out, HY.out]; exact Q.out, QB.out, Q0.out, Q1.out⟩, by simp [intOf]; omega⟩
    · obtain rfl : k = tds.length := by omega
      have h1 : wr.ownsRow (w.heap.size + 2) 2 1 (.slice (some ⟨gL, 0, none⟩) (lys sh st off ls tds N).length cL) (lys sh st off ls tds N).length (ints (lys sh st off ls tds N)) := by
        rw [lys_len, ← HLL.out]
        have h := HO.out
        rw [HS.out.2.2.2.2.2] at h
        exact h
      obtain ⟨o', c', e, h2⟩ := Ld.of_owns h1
      simp only [Value.slice.injEq] at e
      obtain ⟨rfl, _, rfl⟩ := e
      have HE := Lib.hid (And.intro (own_base h1 (show w.heap.size ≤ w.heap.size + 2 by omega)) (And.intro h2 HW.out.1))
      clear h1 h2 hlt
      go_wp2
      go_ret
      exact ⟨some ⟨gL, 0, none⟩, cL, by rw [lys_len, ← HLL.out]; rfl, HE.out.1, HE.out.2.1, HE.out.2.2⟩
end Go.Proofs.Ytdefgmkkkeemoaa
