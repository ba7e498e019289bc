/-
  The reference's views: which may be, axes, the plain one.
  view.Reshape; the reference's plain view.
  The view laws' own helpers: views held against one another, copied, written over, asked.
-/
import Derived.Deep.QuietTactic
import Derived.BigQuiet
import Derived.Test.YtdcmcfmodbdhaaaM05
import Derived.Test.YtdcmcfmodbdhaaaM06
import Derived.Test.YtdcmcfmodbdhaaaM07
namespace Go.Proofs.Ytdcmcfmodbdhaaa
open Go.RowKit

set_option maxRecDepth 100000 in
set_option maxHeartbeats 2000000 in
theorem raxes_any (v : Value) (ax : List Int) (n : Nat) (w : World) (h : Ld w v ax) (la : ax.length ≤ 17592186044416) (ln : n ≤ 1073741824) :
    Calls Try.prog 10 #[v, .int .i64 n] w fun e w' => e = .returned (.bool (axs ax n)) ∧ w = w' := by
  have C := Lib.hid (fun (x : Int) => rin_any v ax x w h la)
  obtain ⟨o, c, rfl, _, _⟩ := h
  by_cases hl : ax.length = n
  · have HN : Hid (axs ax n = axN ax n) := by unfold axs; rw [decide_eq_true hl]; exact Lib.hid (by simp)
    have hl' : ((ax.length : Int) != (n : Int)) = false := by simp [hl]
    clear hl
    go_enter Try.func10, Try.ntmps10
    go_wp2
    go_loop [5] (fun s5 => ∃ k : Nat, k ≤ n ∧ s5 = .int .i64 k ∧ Hid (axN ax k = true)) (fun s5 => n - (intOf s5).toNat)
    case atStart => exact ⟨0, Nat.zero_le _, rfl, rfl⟩
    case round =>
      obtain ⟨k, hk, rfl, HK⟩ := hrel
      by_cases hlt : k < n
      · have C1 := Lib.hid (C.out k)
        by_cases g : (k : Int) ∈ ax
        · have R : Hid (axN ax (k + 1) = true) := by unfold axN; rw [HK.out, decide_eq_true g]; exact Lib.hid rfl
          rw [decide_eq_true g] at C1
          clear g
          go_wp2_with (go_at_call 46; (with_reducible refine C1.out.mono ?_); rintro e w' ⟨rfl, rfl⟩)
          exact ⟨⟨k + 1, by omega, by go_num, R⟩, by simp [intOf]; omega⟩
        · have R : Hid (axs ax n = false) := by
            rw [Hid, HN.out]
            cases h : axN ax n with
            | false => rfl
            | true => exact absurd (axN_iff.1 h k hlt) g
          rw [decide_eq_false g] at C1
          clear g
          go_wp2_with (go_at_call 46; (with_reducible refine C1.out.mono ?_); rintro e w' ⟨rfl, rfl⟩)
          go_ret
          exact ⟨by rw [R.out]; rfl, rfl⟩
      · have R : Hid (axs ax n = true) := by rw [Hid, HN.out, ← show k = n by omega]; exact HK.out
        go_wp2
        go_ret
        exact ⟨by rw [R.out]; rfl, rfl⟩
  · have R : Hid (axs ax n = false) := by unfold axs; rw [decide_eq_false hl]; exact Lib.hid rfl
    have hl' : ((ax.length : Int) != (n : Int)) = true := by rw [bne_iff_ne]; omega
    clear hl
    go_enter Try.func10, Try.ntmps10
    go_wp2
    go_ret
    exact ⟨by rw [R.out]; rfl, rfl⟩

set_option maxRecDepth 100000 in
set_option maxHeartbeats 4000000 in
theorem rmayview_any (vs vt : Value) (sh st : List Int) (off n : Int) (w : World) (hs : Ld w vs sh) (ht : Ld w vt st) (ls : sh.length ≤ 1073741824) (_lt : st.length ≤ 17592186044416) :
    Calls Try.prog 9 #[.agg #[vs, vt, .int .i64 off], .int .i64 n] w fun e w' => e = .returned (.bool (vwb sh st off n)) ∧ Below w.heap.size w w' := by
  have hB0 : Below w.heap.size w (w.alloc (.cells #[vs, vt, .int .i64 off] 25)) := (Below.refl _ _).alloc (Nat.le_refl _) _
  have hX0 := Blk.new w 25 #[vs, vt, .int .i64 off]
  have CM := Lib.hid (rmay_any vs sh _ (hs.below hB0) (by omega))
  obtain ⟨os, cs, rfl, _, hxs⟩ := hs
  obtain ⟨ot, ct, rfl, _, hxt⟩ := ht
  have HS := Lib.hid hxs
  have HT := Lib.hid hxt
  have HX0 := Lib.hid hX0
  clear hxs hxt hX0
  cases hm : may sh with
  | false =>
    have E : Hid (vwb sh st off n = false) := vwb_no1 hm
    rw [hm] at CM
    clear hm
    go_enter Try.func9, Try.ntmps9
    go_wp2_with (go_at_call 13; (with_reducible refine CM.out.mono ?_); rintro e w' ⟨rfl, rfl⟩)
    go_ret
    exact ⟨by rw [E.out]; rfl, hB0⟩
  | true =>
    rw [hm] at CM
    by_cases hl : st.length = sh.length
    · have hl' : ((st.length : Int) != (sh.length : Int)) = false := by simp [hl]
      by_cases h0 : off < 0
      · have E : Hid (vwb sh st off n = false) := vwb_no4 (sty_no1 (by omega))
        clear hm hl
        go_enter Try.func9, Try.ntmps9
        go_wp2_with (go_at_call 13; (with_reducible refine CM.out.mono ?_); rintro e w' ⟨rfl, rfl⟩)
        go_ret
        exact ⟨by rw [E.out]; rfl, hB0⟩
      by_cases hn : 65536 < n
      · have E : Hid (vwb sh st off n = false) := vwb_no3 (by omega)
        clear hm hl
        go_enter Try.func9, Try.ntmps9
        go_wp2_with (go_at_call 13; (with_reducible refine CM.out.mono ?_); rintro e w' ⟨rfl, rfl⟩)
        go_ret
        exact ⟨by rw [E.out]; rfl, hB0⟩
      by_cases h1 : n ≤ off
      · have E : Hid (vwb sh st off n = false) := vwb_no4 (sty_no2 (by omega))
        clear hm hl
        go_enter Try.func9, Try.ntmps9
        go_wp2_with (go_at_call 13; (with_reducible refine CM.out.mono ?_); rintro e w' ⟨rfl, rfl⟩)
        go_ret
        exact ⟨by rw [E.out]; rfl, hB0⟩
      have EV : Hid (vwb sh st off n = sty sh st off n) := vwb_sty hm hl (by omega)
      have HP := Lib.hid (And.intro (may_pos hm) hl)
      have HD := Lib.hid (fun k hk => may_dim hm (i := k) hk)
      have HO : Hid (0 ≤ off ∧ off < n) := ⟨by omega, by omega⟩
      have l4 := may_len hm
      clear hm hl
      go_enter Try.func9, Try.ntmps9
      go_wp2_with (go_at_call 13; (with_reducible refine CM.out.mono ?_); rintro e w' ⟨rfl, rfl⟩)
      go_loopw [5, 6] (fun s5 s6 wr => ∃ (k : Nat) (L : Int), k ≤ sh.length ∧ 0 ≤ L ∧ L ≤ 65536 + 268431360 * k ∧ s6 = .int .i64 k ∧ s5 = .int .i64 L ∧ Hid (Sty sh st off n L k) ∧ Hid (Below (w.heap.size + 1) (w.alloc (.cells #[.slice os sh.length cs, .slice ot st.length ct, .int .i64 off] 25)) wr)) (fun _ s6 _ => sh.length - (intOf s6).toNat)
      case atStart => exact ⟨0, off, Nat.zero_le _, HO.out.1, by omega, rfl, rfl, sty_start HO.out.1, Below.refl _ _⟩
      case round =>
        obtain ⟨k, L, hk, l0, l1, rfl, rfl, HL, HB⟩ := hrel
        obtain ⟨c0, c1, c2, _⟩ := blk3 (HX0.out.below HB.out (by omega))
        by_cases hlt : k < sh.length
        · obtain ⟨b1, f1, rfl, h1, x1⟩ := HS.out k hlt
          obtain ⟨b2, f2, rfl, h2, x2⟩ := HT.out k (by have := HP.out.2; omega)
          have x1' : wr.cell? ⟨b1, f1 + k, none⟩ = some (.int .i64 (sh.getD k 0)) := (HB.out.cell (p := ⟨b1, f1 + k, none⟩) (by show b1 < _; omega)).trans ((hB0.cell (p := ⟨b1, f1 + k, none⟩) h1).trans x1)
          have x2' : wr.cell? ⟨b2, f2 + k, none⟩ = some (.int .i64 (st.getD k 0)) := (HB.out.cell (p := ⟨b2, f2 + k, none⟩) (by show b2 < _; omega)).trans ((hB0.cell (p := ⟨b2, f2 + k, none⟩) h2).trans x2)
          have klt : k < st.length := by have := HP.out.2; omega
          obtain ⟨d1, d2⟩ := HD.out k hlt
          have HN : Hid (¬ (0 ≤ st.getD k 0 ∧ st.getD k 0 ≤ 65536) → sty sh st off n = false) := fun g => sty_no3 klt g
          have HF : Hid (0 ≤ st.getD k 0 → st.getD k 0 ≤ 65536 → Sty sh st off n (L + (sh.getD k 0 - 1) * st.getD k 0) (k + 1)) := fun a b => sty_step HL.out HP.out.2 HP.out.1 klt a b
          clear x1 x2 h1 h2
          generalize sh.getD k 0 = d at *
          generalize st.getD k 0 = s at *
          by_cases g2 : s < 0
          · have R := Lib.hid (HN.out (by omega))
            go_wp2
            go_ret
            exact ⟨by rw [EV.out, R.out]; rfl, hB0.trans (HB.out.mono (by omega))⟩
          by_cases g3 : 65536 < s
          · have R := Lib.hid (HN.out (by omega))
            go_wp2
            go_ret
            exact ⟨by rw [EV.out, R.out]; rfl, hB0.trans (HB.out.mono (by omega))⟩
          have m0 := Int.mul_nonneg (show 0 ≤ d - 1 by omega) (show 0 ≤ s by omega)
          have m1 := Int.mul_le_mul (show d - 1 ≤ 4095 by omega) (show s ≤ 65536 by omega) (by omega) (by decide)
          have R := Lib.hid (HF.out (by omega) (by omega))
          generalize hm : (d - 1) * s = m at *
          have e1 : IntKind.i64.wrap (d - 1) = d - 1 := IntWalk.i64_in _ ⟨by omega, by omega⟩
          have e2 : IntKind.i64.wrap m = m := IntWalk.i64_in _ ⟨by omega, by omega⟩
          have e3 : IntKind.i64.wrap (L + m) = L + m := IntWalk.i64_in _ ⟨by omega, by omega⟩
          go_wp2
          go_quiet (fail)
          clear e1 e2 e3
          go_wp2
          exact ⟨⟨k + 1, L + m, by omega, by omega, by omega, by go_num, rfl, R, by first | exact below_drw HB.out _ | exact HB.out⟩, by simp [intOf]; omega⟩
        · have E : Hid (sty sh st off n = decide (L < n)) := sty_end HL.out HP.out.2 (by have := HP.out.2; omega) HO.out.1 HO.out.2
          go_wp2
          go_ret
          exact ⟨by rw [EV.out, E.out]; rfl, hB0.trans (HB.out.mono (by omega))⟩
    · have E : Hid (vwb sh st off n = false) := vwb_no2 hl
      have hl' : ((st.length : Int) != (sh.length : Int)) = true := by rw [bne_iff_ne]; omega
      clear hm hl
      go_enter Try.func9, Try.ntmps9
      go_wp2_with (go_at_call 13; (with_reducible refine CM.out.mono ?_); rintro e w' ⟨rfl, rfl⟩)
      go_ret
      exact ⟨by rw [E.out]; rfl, hB0⟩
end Go.Proofs.Ytdcmcfmodbdhaaa
namespace Go.Proofs.Ytdcmcfmodbdhaaa
open Go.RowKit

set_option maxRecDepth 100000 in
set_option maxHeartbeats 4000000 in
theorem rof_any (v : Value) (ls : List Int) (w : World) (h : Ld w v ls) (hm : may ls = true) :
    Calls Try.prog 14 #[v] w (SomeW w ls (stl ls) 0) := by
  have hB0 : Below w.heap.size w (w.alloc (.cells #[.slice none 0 0, .slice none 0 0, .int .i64 0] 25)) := (Below.refl _ _).alloc (Nat.le_refl _) _
  have l4 := may_len hm
  have CC := copy_any v ls _ (h.below hB0) (by omega)
  unfold SomeC at CC
  simp only [World.size_alloc] at CC
  replace CC := Lib.hid CC
  have CS := Lib.hid (fun (W : World) (hb : Below w.heap.size w W) => rstrides_any v ls W (h.below hb) hm)
  have HX := Lib.hid (Blk.new w 25 #[.slice none 0 0, .slice none 0 0, .int .i64 0])
  obtain ⟨o, c, rfl, _, _⟩ := h
  clear hm
  go_enter Try.func14, Try.ntmps14
  go_wp2_with (first | (go_at_call 45; (with_reducible refine CC.out.mono ?_); rintro e w2 ⟨o2, c2, rfl, ho2, _, hb2⟩; have X2 := Lib.hid (blk_box hb2 (by omega)); have b2 := hB0.trans (hb2.mono (by omega)); have s2 := hb2.size; simp only [World.size_alloc] at s2; replace ho2 := Lib.hid ho2; clear hb2) | (go_at_call 47; (with_reducible refine (CS.out _ b2).mono ?_); rintro e w3 ⟨rfl, hk3, hb3⟩; obtain ⟨d0, d1, d2, f0, f1, f2⟩ := blk3 (X2.out.below hb3 X2.out.lt); have D3 := Lib.hid (And.intro hk3 hb3); clear hk3 hb3))
  refine bodyPost_ret (v := .agg #[.slice o2 ls.length c2, .slice (some ⟨w2.heap.size, 0, none⟩) ls.length ls.length, .int .i64 0]) (by simp [results, Try.results14, go_sem, d0, d1, d2]) rfl ?_
  refine someW_end (Nat.le_refl _) (b2.trans (D3.out.2.mono (by omega))) (X2.out.below D3.out.2 X2.out.lt) rfl (by rw [stl_len]) ⟨own_base (Below.keepOwn ho2.out D3.out.2 (Nat.le_refl _)) (by omega), stl_own D3.out.1 (by omega) (by omega), ?_⟩
  intro g e e2
  have := (ho2.out.lt g e).2
  simp only [Value.ownBlock, Option.some.injEq] at e2
  omega

set_option maxRecDepth 100000 in
set_option maxHeartbeats 2000000 in
theorem rplain_any (vs vt : Value) (sh st : List Int) (off : Int) (w : World) (hs : Ld w vs sh) (ht : Ld w vt st) (hm : may sh = true) (lt : st.length ≤ 17592186044416) :
    Calls Try.prog 18 #[.agg #[vs, vt, .int .i64 off]] w fun e w' => e = .returned (.bool (pln sh st off)) ∧ Below w.heap.size w w' := by
  have hB0 : Below w.heap.size w (w.alloc (.cells #[vs, vt, .int .i64 off] 25)) := (Below.refl _ _).alloc (Nat.le_refl _) _
  have l4 := may_len hm
  have HX := Lib.hid (Blk.new w 25 #[vs, vt, .int .i64 off])
  have CS : Hid (∀ (W : World) (n : Nat), Below w.heap.size w W → W.heap.size = n → Calls Try.prog 47 #[vs] W fun e w' => e = .returned (.slice (some ⟨n, 0, none⟩) sh.length sh.length) ∧ Blk w' n 3 (ints (stl sh)).toArray ∧ Below n W w') := fun W n hb hn => by subst hn; exact rstrides_any vs sh W (hs.below hb) hm
  have EQ := Lib.hid (fun (W : World) (g : Nat) (hb : Below w.heap.size w W) (hg : Blk W g 3 (ints (stl sh)).toArray) => eqn_any vt (.slice (some ⟨g, 0, none⟩) sh.length sh.length) st (stl sh) W (ht.below hb) (by have := Ld.of_blk hg (c := sh.length) (by rw [stl_len]; exact Nat.le_refl _); rwa [stl_len] at this) lt (by rw [stl_len]; omega))
  obtain ⟨os, cs, rfl, _, _⟩ := id hs
  obtain ⟨ot, ct, rfl, _, _⟩ := id ht
  clear hs ht hm
  by_cases g : off = 0
  · have R : Hid (pln sh st off = decide (st = stl sh)) := by unfold pln; rw [decide_eq_true g]; exact Lib.hid (by simp)
    subst g
    generalize hx : decide (st = stl sh) = x at *
    have HXX := Lib.hid hx
    clear hx
    go_enter Try.func18, Try.ntmps18
    go_wp2
    have hb0 := hB0
    obtain ⟨c0, c1, c2, _⟩ := blk3 HX.out
    go_region_held3 (fun W => W.cell? ⟨w.heap.size, 0, none⟩ = some (.slice os sh.length cs) ∧ W.cell? ⟨w.heap.size, 1, none⟩ = some (.slice ot st.length ct) ∧ W.cell? ⟨w.heap.size, 2, none⟩ = some (.int .i64 0)) (go_keep)
      (first
      | (go_at_call 47; (with_reducible refine Go.Calls.mono (CS.out _ (w.heap.size + 1) ?_ ?_) ?_); (· first | exact hB0 | exact below_drew1 hB0 | exact below_drw hB0 _); (· simp); rintro e w2 ⟨rfl, hk2, hb2⟩; have B2 := Lib.hid (hB0.trans ((Below.trans (by first | exact Below.refl _ _ | exact below_drew1 (Below.refl _ _) | exact below_drw (Below.refl _ _) _) hb2).mono (Nat.le_succ _))); obtain ⟨k0, k1, k2, _⟩ := blk3 (HX.out.below (Below.trans (by first | exact Below.refl _ _ | exact below_drew1 (Below.refl _ _) | exact below_drw (Below.refl _ _) _) hb2) (Nat.lt_succ_self _)); have K2 := Lib.hid hk2; have Bv3 := Lib.hid (HX.out.below (Below.trans (by first | exact Below.refl _ _ | exact below_drew1 (Below.refl _ _) | exact below_drw (Below.refl _ _) _) hb2) (Nat.lt_succ_self _)); clear hb2 hk2)
      | (go_at_call 33; (with_reducible refine Go.Calls.mono (EQ.out _ _ B2.out K2.out) ?_); rintro e w3 ⟨rfl, hb3⟩; have sz2 := B2.out.size; obtain ⟨j0, j1, j2, _⟩ := blk3 (Bv3.out.below hb3 Bv3.out.lt); replace hb3 := Lib.hid (B2.out.trans (hb3.mono sz2))))
    all_goals go_wp2
    all_goals go_ret
    all_goals exact ⟨by rw [R.out]; try rfl, hb3.out⟩
  · have R : Hid (pln sh st off = false) := by unfold pln; rw [decide_eq_false g]; exact Lib.hid (by simp)
    have g' : (off == 0) = false := by rw [beq_eq_false_iff_ne]; exact g
    clear g
    go_enter Try.func18, Try.ntmps18
    go_wp2
    go_quiet (fail)
    go_wp2
    go_ret
    exact ⟨by rw [R.out]; rfl, by first | exact hB0 | exact below_drw hB0 _ | exact below_drew1 hB0⟩

set_option maxRecDepth 100000 in
set_option maxHeartbeats 4000000 in
theorem reshape_any (vs vt va : Value) (sh st s : List Int) (off : Int) (w : World) (hs : Ld w vs sh) (ht : Ld w vt st) (ha : Ld w va s) (l1 : sh.length ≤ 1073741824) (l2 : st.length ≤ 17592186044416) (l3 : s.length ≤ 1073741824) :
    Calls Try.prog 23 #[.agg #[vs, vt, .int .i64 off], va] w (SomeV w (ree sh st off s) (unl (ree sh st off s) s) (unl (ree sh st off s) (stl s)) 0) := by
  have hB0 : Below w.heap.size w ((w.alloc (.cells #[vs, vt, .int .i64 off] 25)).alloc (.cells #[.slice none 0 0, .slice none 0 0, .int .i64 0] 25)) := ((Below.refl _ _).alloc (Nat.le_refl _) _).alloc (by simp) _
  have hX0 : Blk ((w.alloc (.cells #[vs, vt, .int .i64 off] 25)).alloc (.cells #[.slice none 0 0, .slice none 0 0, .int .i64 0] 25)) w.heap.size 25 #[vs, vt, .int .i64 off] := (Blk.new w _ _).alloc _
  have hX1 := blk_new1 w (.cells #[vs, vt, .int .i64 off] 25) 25 #[.slice none 0 0, .slice none 0 0, .int .i64 0]
  have CO : Hid (∀ n, ((w.alloc (.cells #[vs, vt, .int .i64 off] 25)).alloc (.cells #[.slice none 0 0, .slice none 0 0, .int .i64 0] 25)).heap.size = n → Calls Try.prog 24 #[va] ((w.alloc (.cells #[vs, vt, .int .i64 off] 25)).alloc (.cells #[.slice none 0 0, .slice none 0 0, .int .i64 0] 25)) fun e w' => ∃ os cs ot ct, e = .returned (.tuple #[.agg #[.slice os (unl (ofe s) s).length cs, .slice ot (unl (ofe s) (stl s)).length ct, .int .i64 0], .int .i64 (ofe s)]) ∧ Ov w' n (.slice os (unl (ofe s) s).length cs) (.slice ot (unl (ofe s) (stl s)).length ct) (unl (ofe s) s) (unl (ofe s) (stl s)) ∧ Below n ((w.alloc (.cells #[vs, vt, .int .i64 off] 25)).alloc (.cells #[.slice none 0 0, .slice none 0 0, .int .i64 0] 25)) w') := fun n hn => by
    subst hn
    exact of_any va s _ (ha.below hB0) (by omega)
  have CK := Lib.hid (fun (W : World) (hb : Below w.heap.size w W) => vcheck_any vs vt sh st off 65536 W (hs.below hb) (ht.below hb) (by omega) l2)
  have CC := Lib.hid (fun (a : may sh = true) (b : may s = true) (W : World) (hb : Below w.heap.size w W) => samecount_any vs va sh s W (hs.below hb) (ha.below hb) a b)
  have CP := Lib.hid (fun (a : may sh = true) (W : World) (hb : Below w.heap.size w W) => plain_any vs vt sh st off W (hs.below hb) (ht.below hb) a l2)
  replace CO := Lib.hid (CO.out (w.heap.size + 2) (by simp))
  obtain ⟨os, cs, rfl, _, _⟩ := hs
  obtain ⟨ot, ct, rfl, _, _⟩ := ht
  obtain ⟨oa, ca, rfl, _, _⟩ := ha
  have HX0 := Lib.hid hX0
  have HX1 := Lib.hid hX1
  have HB0 := Lib.hid hB0
  clear hX0 hX1 hB0
  cases hv : vwb sh st off 65536 with
  | false =>
    have R : Hid (ree sh st off s = 1) := by unfold ree; rw [hv]; exact Lib.hid rfl
    rw [hv, frm_f] at CK
    clear hv CC CP
    generalize unl (ofe s) s = u1 at *
    generalize unl (ofe s) (stl s) = u2 at *
    generalize ofe s = er at *
    go_enter Try.func23, Try.ntmps23
    go_wp2_with (first | (go_at_call 24; (with_reducible refine CO.out.mono ?_); rintro e w2 ⟨o5, c5, o6, c6, rfl, ho2, hb2⟩; have O2 := Lib.hid ho2; have Y1 := Lib.hid (HX1.out.below hb2 (by omega)); have Y0 := Lib.hid (HX0.out.below hb2 (by omega)); have s2 : w.heap.size + 2 ≤ w2.heap.size := Nat.le_trans (by simp) hb2.size; have bb2 := HB0.out.trans (hb2.mono (by omega)); obtain ⟨c0, c1, c2, _⟩ := blk3 Y0.out; have y0l := Y0.out.lt; clear ho2 hb2) | (go_at_call 28; (with_reducible refine Go.Calls.mono (CK.out _ ?_) ?_); (· exact bb2.alloc (by omega) _); rintro e w3 ⟨rfl, hb3⟩; have T3 := Lib.hid (Blk.below (Blk.new w2 _ _) hb3 (by simp)); have O3 := Lib.hid ((O2.out.alloc _).below hb3); have Z1 := Lib.hid ((Y1.out.alloc _).below hb3 (by simp; omega)); have Z0 := Lib.hid ((Y0.out.alloc _).below hb3 (by simp; omega)); obtain ⟨c0, c1, c2, _⟩ := blk3 Z0.out; obtain ⟨d0, d1, d2, f0, f1, f2⟩ := blk3 Z1.out; obtain ⟨t0, t1, t2, _⟩ := blk3 T3.out; have bb3 := (bb2.alloc (by omega) _).trans (hb3.mono (by simp; omega)); have s3 := hb3.size; simp only [World.size_alloc] at s3; clear hb3))
    refine bodyPost_ret (v := .tuple #[.agg #[.slice none 0 0, .slice none 0 0, .int .i64 0], .int .i64 1]) (by simp [results, Try.results23, go_sem, d0, d1, d2]) rfl ?_
    rw [R.out]
    exact someV_end (sh := []) (st := []) (Nat.le_succ _) bb3 Z1.out rfl rfl (ov_nil _ _)
  | true =>
    rw [hv, frm_t] at CK
    have hVw := vwb_iff.1 hv
    cases hm : may s with
    | false =>
      have R : Hid (ree sh st off s = 1) := by unfold ree; rw [hv, hm]; exact Lib.hid rfl
      have he : ofe s = 1 := by unfold ofe; rw [hm]; rfl
      rw [he] at CO
      clear hv hVw hm he CC CP
      generalize unl 1 s = u1 at *
      generalize unl 1 (stl s) = u2 at *
      go_enter Try.func23, Try.ntmps23
      go_wp2_with (first | (go_at_call 24; (with_reducible refine CO.out.mono ?_); rintro e w2 ⟨o5, c5, o6, c6, rfl, ho2, hb2⟩; have O2 := Lib.hid ho2; have Y1 := Lib.hid (HX1.out.below hb2 (by omega)); have Y0 := Lib.hid (HX0.out.below hb2 (by omega)); have s2 : w.heap.size + 2 ≤ w2.heap.size := Nat.le_trans (by simp) hb2.size; have bb2 := HB0.out.trans (hb2.mono (by omega)); obtain ⟨c0, c1, c2, _⟩ := blk3 Y0.out; have y0l := Y0.out.lt; clear ho2 hb2) | (go_at_call 28; (with_reducible refine Go.Calls.mono (CK.out _ ?_) ?_); (· exact bb2.alloc (by omega) _); rintro e w3 ⟨rfl, hb3⟩; have T3 := Lib.hid (Blk.below (Blk.new w2 _ _) hb3 (by simp)); have O3 := Lib.hid ((O2.out.alloc _).below hb3); have Z1 := Lib.hid ((Y1.out.alloc _).below hb3 (by simp; omega)); have Z0 := Lib.hid ((Y0.out.alloc _).below hb3 (by simp; omega)); obtain ⟨c0, c1, c2, _⟩ := blk3 Z0.out; obtain ⟨d0, d1, d2, f0, f1, f2⟩ := blk3 Z1.out; obtain ⟨t0, t1, t2, _⟩ := blk3 T3.out; have bb3 := (bb2.alloc (by omega) _).trans (hb3.mono (by simp; omega)); have s3 := hb3.size; simp only [World.size_alloc] at s3; clear hb3))
      refine bodyPost_ret (v := .tuple #[.agg #[.slice none 0 0, .slice none 0 0, .int .i64 0], .int .i64 1]) (by simp [results, Try.results23, go_sem, d0, d1, d2]) rfl ?_
      rw [R.out]
      exact someV_end (sh := []) (st := []) (Nat.le_succ _) bb3 Z1.out rfl rfl (ov_nil _ _)
    | true =>
      have he : ofe s = 0 := by unfold ofe; rw [hm]; rfl
      have hu1 : unl 0 s = s := rfl
      have hu2 : unl 0 (stl s) = stl s := rfl
      have lst := stl_len s
      rw [he, hu1, hu2] at CO
      replace CC := Lib.hid (CC.out hVw.1 hm)
      replace CP := Lib.hid (CP.out hVw.1)
      have HLST := Lib.hid lst
      by_cases hc : prod sh = prod s
      · rw [decide_eq_true hc] at CC
        cases hp : pln sh st off with
        | false =>
          have R : Hid (ree sh st off s = 2) := by unfold ree; rw [hv, hm, hp]; simp; exact Lib.hid trivial
          rw [hp] at CP
          clear hv hVw hm he hu1 hu2 lst hc hp
          generalize stl s = ss at *
          go_enter Try.func23, Try.ntmps23
          go_wp2_with (first | (go_at_call 24; (with_reducible refine CO.out.mono ?_); rintro e w2 ⟨o5, c5, o6, c6, rfl, ho2, hb2⟩; have O2 := Lib.hid ho2; have Y1 := Lib.hid (HX1.out.below hb2 (by omega)); have Y0 := Lib.hid (HX0.out.below hb2 (by omega)); have s2 : w.heap.size + 2 ≤ w2.heap.size := Nat.le_trans (by simp) hb2.size; have bb2 := HB0.out.trans (hb2.mono (by omega)); obtain ⟨c0, c1, c2, _⟩ := blk3 Y0.out; have y0l := Y0.out.lt; clear ho2 hb2) | (go_at_call 28; (with_reducible refine Go.Calls.mono (CK.out _ ?_) ?_); (· exact bb2.alloc (by omega) _); rintro e w3 ⟨rfl, hb3⟩; have T3 := Lib.hid (Blk.below (Blk.new w2 _ _) hb3 (by simp)); have O3 := Lib.hid ((O2.out.alloc _).below hb3); have Z1 := Lib.hid ((Y1.out.alloc _).below hb3 (by simp; omega)); have Z0 := Lib.hid ((Y0.out.alloc _).below hb3 (by simp; omega)); obtain ⟨c0, c1, c2, _⟩ := blk3 Z0.out; obtain ⟨d0, d1, d2, f0, f1, f2⟩ := blk3 Z1.out; obtain ⟨t0, t1, t2, _⟩ := blk3 T3.out; have bb3 := (bb2.alloc (by omega) _).trans (hb3.mono (by simp; omega)); have s3 := hb3.size; simp only [World.size_alloc] at s3; clear hb3) | (go_at_call 55; (with_reducible refine (CC.out _ bb3).mono ?_); rintro e w' ⟨rfl, rfl⟩) | (go_at_call 56; (with_reducible refine (CP.out _ bb3).mono ?_); rintro e w4 ⟨rfl, hb4⟩; have T4 := Lib.hid (T3.out.below hb4 (by omega)); have O4 := Lib.hid (O3.out.below hb4); have V1 := Lib.hid (Z1.out.below hb4 (by omega)); obtain ⟨d0, d1, d2, f0, f1, f2⟩ := blk3 V1.out; obtain ⟨t0, t1, t2, _⟩ := blk3 T4.out; have bb4 := bb3.trans (hb4.mono (by omega)); clear hb4))
          refine bodyPost_ret (v := .tuple #[.agg #[.slice none 0 0, .slice none 0 0, .int .i64 0], .int .i64 2]) (by simp [results, Try.results23, go_sem, d0, d1, d2]) rfl ?_
          rw [R.out]
          exact someV_end (sh := []) (st := []) (Nat.le_succ _) bb4 V1.out rfl rfl (ov_nil _ _)
        | true =>
          have R : Hid (ree sh st off s = 0) := by unfold ree; rw [hv, hm, hp, decide_eq_true hc]; exact Lib.hid rfl
          rw [hp] at CP
          clear hv hVw hm he hu1 hu2 lst hc hp
          have ES : Hid (unl 0 s = s ∧ unl 0 (stl s) = stl s) := ⟨rfl, rfl⟩
          generalize stl s = ss at *
          go_enter Try.func23, Try.ntmps23
          go_wp2_with (first | (go_at_call 24; (with_reducible refine CO.out.mono ?_); rintro e w2 ⟨o5, c5, o6, c6, rfl, ho2, hb2⟩; have O2 := Lib.hid ho2; have Y1 := Lib.hid (HX1.out.below hb2 (by omega)); have Y0 := Lib.hid (HX0.out.below hb2 (by omega)); have s2 : w.heap.size + 2 ≤ w2.heap.size := Nat.le_trans (by simp) hb2.size; have bb2 := HB0.out.trans (hb2.mono (by omega)); obtain ⟨c0, c1, c2, _⟩ := blk3 Y0.out; have y0l := Y0.out.lt; clear ho2 hb2) | (go_at_call 28; (with_reducible refine Go.Calls.mono (CK.out _ ?_) ?_); (· exact bb2.alloc (by omega) _); rintro e w3 ⟨rfl, hb3⟩; have T3 := Lib.hid (Blk.below (Blk.new w2 _ _) hb3 (by simp)); have O3 := Lib.hid ((O2.out.alloc _).below hb3); have Z1 := Lib.hid ((Y1.out.alloc _).below hb3 (by simp; omega)); have Z0 := Lib.hid ((Y0.out.alloc _).below hb3 (by simp; omega)); obtain ⟨c0, c1, c2, _⟩ := blk3 Z0.out; obtain ⟨d0, d1, d2, f0, f1, f2⟩ := blk3 Z1.out; obtain ⟨t0, t1, t2, _⟩ := blk3 T3.out; have bb3 := (bb2.alloc (by omega) _).trans (hb3.mono (by simp; omega)); have s3 := hb3.size; simp only [World.size_alloc] at s3; clear hb3) | (go_at_call 55; (with_reducible refine (CC.out _ bb3).mono ?_); rintro e w' ⟨rfl, rfl⟩) | (go_at_call 56; (with_reducible refine (CP.out _ bb3).mono ?_); rintro e w4 ⟨rfl, hb4⟩; have T4 := Lib.hid (T3.out.below hb4 (by omega)); have O4 := Lib.hid (O3.out.below hb4); have V1 := Lib.hid (Z1.out.below hb4 (by omega)); obtain ⟨d0, d1, d2, f0, f1, f2⟩ := blk3 V1.out; obtain ⟨t0, t1, t2, _⟩ := blk3 T4.out; have bb4 := bb3.trans (hb4.mono (by omega)); clear hb4))
          refine bodyPost_ret (v := .tuple #[.agg #[.slice o5 s.length c5, .slice o6 ss.length c6, .int .i64 0], .int .i64 0]) (by simp [results, Try.results23, go_sem, d0, d1, d2]) rfl ?_
          rw [R.out, ES.out.1, ES.out.2]
          exact someV_end (Nat.le_succ _) bb4 V1.out rfl rfl (O4.out.base (by omega))
      · have R : Hid (ree sh st off s = 2) := by unfold ree; rw [hv, hm, decide_eq_false hc]; exact Lib.hid rfl
        rw [decide_eq_false hc] at CC
        clear hv hVw hm he hu1 hu2 lst hc CP
        generalize stl s = ss at *
        go_enter Try.func23, Try.ntmps23
        go_wp2_with (first | (go_at_call 24; (with_reducible refine CO.out.mono ?_); rintro e w2 ⟨o5, c5, o6, c6, rfl, ho2, hb2⟩; have O2 := Lib.hid ho2; have Y1 := Lib.hid (HX1.out.below hb2 (by omega)); have Y0 := Lib.hid (HX0.out.below hb2 (by omega)); have s2 : w.heap.size + 2 ≤ w2.heap.size := Nat.le_trans (by simp) hb2.size; have bb2 := HB0.out.trans (hb2.mono (by omega)); obtain ⟨c0, c1, c2, _⟩ := blk3 Y0.out; have y0l := Y0.out.lt; clear ho2 hb2) | (go_at_call 28; (with_reducible refine Go.Calls.mono (CK.out _ ?_) ?_); (· exact bb2.alloc (by omega) _); rintro e w3 ⟨rfl, hb3⟩; have T3 := Lib.hid (Blk.below (Blk.new w2 _ _) hb3 (by simp)); have O3 := Lib.hid ((O2.out.alloc _).below hb3); have Z1 := Lib.hid ((Y1.out.alloc _).below hb3 (by simp; omega)); have Z0 := Lib.hid ((Y0.out.alloc _).below hb3 (by simp; omega)); obtain ⟨c0, c1, c2, _⟩ := blk3 Z0.out; obtain ⟨d0, d1, d2, f0, f1, f2⟩ := blk3 Z1.out; obtain ⟨t0, t1, t2, _⟩ := blk3 T3.out; have bb3 := (bb2.alloc (by omega) _).trans (hb3.mono (by simp; omega)); have s3 := hb3.size; simp only [World.size_alloc] at s3; clear hb3) | (go_at_call 55; (with_reducible refine (CC.out _ bb3).mono ?_); rintro e w' ⟨rfl, rfl⟩))
        refine bodyPost_ret (v := .tuple #[.agg #[.slice none 0 0, .slice none 0 0, .int .i64 0], .int .i64 2]) (by simp [results, Try.results23, go_sem, d0, d1, d2]) rfl ?_
        rw [R.out]
        exact someV_end (sh := []) (st := []) (Nat.le_succ _) bb3 Z1.out rfl rfl (ov_nil _ _)
end Go.Proofs.Ytdcmcfmodbdhaaa
namespace Go.Proofs.Ytdcmcfmodbdhaaa
open Go.RowKit

set_option maxRecDepth 100000 in
set_option maxHeartbeats 2000000 in
theorem num7_any (x : Int) (w : World) : Calls Try.prog 27 #[.int .i64 x] w fun e w' => e = .returned (.int .i64 x) ∧ w = w' := by
  go_enter Try.func27, Try.ntmps27
  go_wp2
  go_ret
  exact ⟨rfl, rfl⟩

theorem Ov.kept2 {w w' : World} {base : Nat} {vs vt : Value} {sh st : List Int} (h : Ov w base vs vt sh st) (hg : w.grownBy w' vs.ownBlock) : w'.ownsRow base 3 1 vt st.length (ints st) := h.2.1.kept hg (by
  cases e : vt.ownBlock with
  | none => exact .inl rfl
  | some g => exact .inr (fun e2 => h.2.2 g e2.symm e))
theorem own_len {w : World} {base n : Nat} {e : TypeId} {v : Value} {xs : List Value} (h : w.ownsRow base e 1 v n xs) : ∃ o c, v = .slice o n c := by
  rcases h.2 with ⟨rfl, rfl⟩ | ⟨g, cap, cur, rfl, _⟩
  · exact ⟨_, _, rfl⟩
  · exact ⟨_, _, rfl⟩
theorem own_put2 {w : World} {base g c i n : Nat} {ls : List Int} {e : TypeId} (h : w.ownsRow base e 1 (.slice (some ⟨g, 0, none⟩) n c) n (ints ls)) (hl : ls.length = n) (hi : i < n) (v : Int) : (w.setCell ⟨g, i, none⟩ (.int .i64 v)).ownsRow base e 1 (.slice (some ⟨g, 0, none⟩) n c) n (ints (ls.set i v)) := by
  subst hl
  have := own_put h hi v
  rwa [List.length_set] at this

set_option maxRecDepth 100000 in
set_option maxHeartbeats 4000000 in
theorem numberso_any (base : Nat) (v : Value) (ls : List Int) (w : World) (h : w.ownsRow base 3 1 v ls.length (ints ls)) (hb : base ≤ w.heap.size) (hl : ls.length ≤ 65536) :
    Calls Try.prog 65 #[v] w fun e w' => e = .returned (.tuple #[]) ∧ w.grownBy w' v.ownBlock := by
  obtain ⟨i0, hi0, hz0, hz1, hz2⟩ := info_parts infoI
  obtain ⟨n, hn⟩ : ∃ n, n = ls.length := ⟨_, rfl⟩
  have HLN := Lib.hid hn
  rw [← hn] at h hl
  clear hn
  obtain ⟨o, c, rfl⟩ := own_len h
  have H0 : Hid (w.ownsRow base 3 1 (.slice o n c) n (ints ls)) := h
  have HF := Lib.hid (fun (h0 : 0 < n) => own_some h h0)
  clear h
  go_enter Try.func65, Try.ntmps65
  go_wp2
  go_loopw [2] (fun s2 wr => ∃ (k : Nat) (L : List Int), k ≤ n ∧ s2 = .int .i64 k ∧ Hid (L.length = n) ∧ Hid (wr.ownsRow base 3 1 (.slice o n c) n (ints L)) ∧ Hid (w.grownBy wr (Value.slice o n c).ownBlock)) (fun s2 _ => n - (intOf s2).toNat)
  case atStart => exact ⟨0, ls, Nat.zero_le _, rfl, HLN.out.symm, H0.out, World.grownBy.refl _ _⟩
  case round =>
    obtain ⟨k, L, hk, rfl, HL, HO, HG⟩ := hrel
    by_cases hlt : k < n
    · obtain ⟨g, rfl⟩ := HF.out (by omega)
      have kc : wr.cell? ⟨g, k, none⟩ = some (.int .i64 (L.getD k 0)) := by
        have h1 := HO.out
        rw [← HL.out] at h1
        exact own_cell h1 (by have := HL.out; omega)
      have kf := own_frozen HO.out k
      generalize L.getD k 0 = x at kc
      go_wp2
      refine ⟨⟨k + 1, L.set k (-99), by omega, by go_num, by have := HL.out; simpa [Hid] using this, own_put2 HO.out HL.out hlt _, grown_put HG.out _⟩, by simp [intOf]; omega⟩
    · go_wp2_with (at_builtin; refine wpList_append_own _ rfl _ _ 23 rfl base 3 i0 (.int .i64 0) 1 8 Try.underlying23 hi0 hz0 hz1 hz2 rfl (by decide) _ n (ints L) rfl (HO.out.alloc _) ⟨wr.heap.size, 0, none⟩ 1 1 [.int .i64 5] rfl rfl ?c1 ?c2 ?c3 ?c4 ?c5 ?_)
      case c1 => exact (cell_one_new _ _ _)
      case c2 => simp [Value.oneCell']
      case c3 => unfold maxLen; omega
      case c4 => omega
      case c5 => have := HG.out.size; simp; omega
      intro v' w9 _ hgrow _
      have h1 := HG.out
      have h2 : w.grownBy w9 (Value.slice o n c).ownBlock := ⟨hgrow.os.trans h1.os, hgrow.tape.trans h1.tape, hgrow.output.trans h1.output, Nat.le_trans h1.size (Nat.le_trans (by simp) hgrow.size), fun j hj hne => (hgrow.block j (by have := h1.size; simp; omega) hne).trans ((Below.heap_alloc _ _ _ (by have := h1.size; omega)).trans (h1.block j hj hne))⟩
      have H2 := Lib.hid h2
      clear h1 h2 hgrow
      go_wp2
      refine bodyPost_end (results_none rfl _ _ _) rfl ?_
      exact ⟨rfl, H2.out⟩

/-- Views' boxes are kept. -/
def KB (w w' : World) : Prop := ∀ (B : Nat) (cs : Array Value), Blk w B 25 cs → Blk w' B 25 cs
theorem KB.trans {a b c : World} (h : KB a b) (k : KB b c) : KB a c := fun B cs hB => k B cs (h B cs hB)
theorem kb_below {w w' : World} (h : Below w.heap.size w w') : KB w w' := fun _ _ hB => hB.below h hB.lt
theorem kb_row {w w' : World} {base n : Nat} {v : Value} {xs : List Value} (h : w.ownsRow base 3 1 v n xs) (hg : w.grownBy w' v.ownBlock) : KB w w' := fun _ _ hB => hB.kept hg (fun e => own_not_box h hB e.symm)

set_option maxRecDepth 100000 in
set_option maxHeartbeats 4000000 in
theorem spoil_any (base : Nat) (vs vt : Value) (sh st : List Int) (off : Int) (w : World) (h : Ov w base vs vt sh st) (hb : base ≤ w.heap.size) (l1 : sh.length ≤ 65536) (l2 : st.length ≤ 65536) :
    Calls Try.prog 50 #[.agg #[vs, vt, .int .i64 off]] w fun e w' => e = .returned (.tuple #[]) ∧ Below base w w' ∧ KB w w' := by
  have C1 := Lib.hid (numberso_any base vs sh (w.alloc (.cells #[vs, vt, .int .i64 off] 25)) (h.1.alloc _) (by simp; omega) l1)
  have C2 := Lib.hid (fun (W : World) (hg : (w.alloc (.cells #[vs, vt, .int .i64 off] 25)).grownBy W vs.ownBlock) => numberso_any base vt st W (Ov.kept2 (h.alloc _) hg) (Nat.le_trans (by simp; omega) hg.size) l2)
  have HX := Lib.hid (Blk.new w 25 #[vs, vt, .int .i64 off])
  have H := Lib.hid h
  clear h
  go_enter Try.func50, Try.ntmps50
  go_wp2_with (first | (go_at_call 65; (with_reducible refine C1.out.mono ?_); rintro e w2 ⟨rfl, hg2⟩; obtain ⟨c0, c1, c2, _⟩ := blk3 (HX.out.kept hg2 (fun e => own_not_box (H.out.1.alloc _) HX.out e.symm)); replace hg2 := Lib.hid hg2) | (go_at_call 65; (with_reducible refine (C2.out _ hg2.out).mono ?_); rintro e w3 ⟨rfl, hg3⟩; replace hg3 := Lib.hid hg3))
  refine bodyPost_end (results_none rfl _ _ _) rfl ?_
  refine ⟨rfl, ?_, ((kb_below ((Below.refl _ _).alloc (Nat.le_refl _) _)).trans (kb_row (H.out.1.alloc _) hg2.out)).trans (kb_row (Ov.kept2 (H.out.alloc _) hg2.out) hg3.out)⟩
  have b1 : Below base w (w.alloc (.cells #[vs, vt, .int .i64 off] 25)) := (Below.refl _ _).alloc hb _
  have b2 := b1.grown hg2.out (by simp; omega) (fun k e => (H.out.1.lt k e).1)
  exact b2.grown hg3.out (by have := b2.size; omega) (fun k e => (H.out.2.1.lt k e).1)

set_option maxRecDepth 100000 in
set_option maxHeartbeats 4000000 in
theorem eqview_same (va vb ua ub : Value) (sh st : List Int) (off : Int) (w : World) (ha : Ld w va sh) (hb : Ld w vb st) (hc : Ld w ua sh) (hd : Ld w ub st) (l1 : sh.length ≤ 17592186044416) (l2 : st.length ≤ 17592186044416) :
    Calls Try.prog 25 #[.agg #[va, vb, .int .i64 off], .agg #[ua, ub, .int .i64 off]] w fun e w' => e = .returned (.bool true) ∧ Below w.heap.size w w' := by
  have hB0 : Below w.heap.size w ((w.alloc (.cells #[va, vb, .int .i64 off] 25)).alloc (.cells #[ua, ub, .int .i64 off] 25)) := ((Below.refl _ _).alloc (Nat.le_refl _) _).alloc (by simp) _
  have X0 := Lib.hid ((Blk.new w 25 #[va, vb, .int .i64 off]).alloc (.cells #[ua, ub, .int .i64 off] 25))
  have X1 := Lib.hid (blk_new1 w (.cells #[va, vb, .int .i64 off] 25) 25 #[ua, ub, .int .i64 off])
  have C1 : Hid (∀ n, ((w.alloc (.cells #[va, vb, .int .i64 off] 25)).alloc (.cells #[ua, ub, .int .i64 off] 25)).heap.size = n → Calls Try.prog 33 #[va, ua] ((w.alloc (.cells #[va, vb, .int .i64 off] 25)).alloc (.cells #[ua, ub, .int .i64 off] 25)) fun e w' => e = .returned (.bool true) ∧ Below n ((w.alloc (.cells #[va, vb, .int .i64 off] 25)).alloc (.cells #[ua, ub, .int .i64 off] 25)) w') := fun n hn => by
    subst hn
    have := eqn_any va ua sh sh _ (ha.below hB0) (hc.below hB0) l1 l1
    rwa [show decide (sh = sh) = true by simp] at this
  have C2 : Hid (∀ W, Below w.heap.size w W → Calls Try.prog 33 #[vb, ub] W fun e w' => e = .returned (.bool true) ∧ Below W.heap.size W w') := fun W hW => by
    have := eqn_any vb ub st st _ (hb.below hW) (hd.below hW) l2 l2
    rwa [show decide (st = st) = true by simp] at this
  replace C1 := Lib.hid (C1.out (w.heap.size + 2) (by simp))
  obtain ⟨o1, n1, rfl, _, _⟩ := ha
  obtain ⟨o2, n2, rfl, _, _⟩ := hb
  obtain ⟨o3, n3, rfl, _, _⟩ := hc
  obtain ⟨o4, n4, rfl, _, _⟩ := hd
  have HB0 := Lib.hid hB0
  clear hB0
  go_enter Try.func25, Try.ntmps25
  go_wp2_with (first | (go_at_call 33; (with_reducible refine C1.out.mono ?_); rintro e w2 ⟨rfl, hb2⟩; have b2 := HB0.out.trans (hb2.mono (by omega)); have Z0 := Lib.hid (X0.out.below hb2 (by omega)); have Z1 := Lib.hid (X1.out.below hb2 (by omega)); obtain ⟨c0, c1, c2, _⟩ := blk3 Z0.out; obtain ⟨d0, d1, d2, _⟩ := blk3 Z1.out; clear hb2) | (go_at_call 33; (with_reducible refine (C2.out _ b2).mono ?_); rintro e w3 ⟨rfl, hb3⟩; obtain ⟨c0, c1, c2, _⟩ := blk3 (Z0.out.below hb3 Z0.out.lt); obtain ⟨d0, d1, d2, _⟩ := blk3 (Z1.out.below hb3 Z1.out.lt); have b3 := b2.trans (hb3.mono b2.size); clear hb3))
  go_ret
  exact ⟨rfl, b3⟩

/-- A list, where there is no error, in memory. -/
theorem ov_ld {w : World} {base : Nat} {vs vt : Value} {sh st : List Int} (h : Ov w base vs vt sh st) : Ld w vs sh ∧ Ld w vt st := by
  obtain ⟨_, _, rfl, h1⟩ := Ld.of_owns h.1
  obtain ⟨_, _, rfl, h2⟩ := Ld.of_owns h.2.1
  exact ⟨h1, h2⟩

set_option maxRecDepth 100000 in
set_option maxHeartbeats 4000000 in
theorem is_ok (base : Nat) (va vb ua ub : Value) (sh st : List Int) (off : Int) (w : World) (h : Ov w base va vb sh st) (hc : Ld w ua sh) (hd : Ld w ub st) (hb : base ≤ w.heap.size) (l1 : sh.length ≤ 65536) (l2 : st.length ≤ 65536) :
    Calls Try.prog 20 #[.agg #[va, vb, .int .i64 off], .int .i64 0, .int .i64 0, .agg #[ua, ub, .int .i64 off]] w fun e w' => e = .returned (.bool true) ∧ Below base w w' ∧ KB w w' := by
  have hB0 : Below w.heap.size w ((w.alloc (.cells #[va, vb, .int .i64 off] 25)).alloc (.cells #[ua, ub, .int .i64 off] 25)) := ((Below.refl _ _).alloc (Nat.le_refl _) _).alloc (by simp) _
  have X0 := Lib.hid ((Blk.new w 25 #[va, vb, .int .i64 off]).alloc (.cells #[ua, ub, .int .i64 off] 25))
  have X1 := Lib.hid (blk_new1 w (.cells #[va, vb, .int .i64 off] 25) 25 #[ua, ub, .int .i64 off])
  obtain ⟨ha1, ha2⟩ := ov_ld h
  have C1 : Hid (∀ n, ((w.alloc (.cells #[va, vb, .int .i64 off] 25)).alloc (.cells #[ua, ub, .int .i64 off] 25)).heap.size = n → Calls Try.prog 25 #[.agg #[va, vb, .int .i64 off], .agg #[ua, ub, .int .i64 off]] ((w.alloc (.cells #[va, vb, .int .i64 off] 25)).alloc (.cells #[ua, ub, .int .i64 off] 25)) fun e w' => e = .returned (.bool true) ∧ Below n ((w.alloc (.cells #[va, vb, .int .i64 off] 25)).alloc (.cells #[ua, ub, .int .i64 off] 25)) w') := fun n hn => by
    subst hn
    exact eqview_same va vb ua ub sh st off _ (ha1.below hB0) (ha2.below hB0) (hc.below hB0) (hd.below hB0) (by omega) (by omega)
  replace C1 := Lib.hid (C1.out (w.heap.size + 2) (by simp))
  have C2 := Lib.hid (fun (W : World) (hW : Below w.heap.size w W) => spoil_any base va vb sh st off W (h.below hW) (Nat.le_trans hb hW.size) l1 l2)
  obtain ⟨o1, n1, rfl, _, _⟩ := ha1
  obtain ⟨o2, n2, rfl, _, _⟩ := ha2
  obtain ⟨o3, n3, rfl, _, _⟩ := hc
  obtain ⟨o4, n4, rfl, _, _⟩ := hd
  have HB0 := Lib.hid hB0
  clear hB0 h
  go_enter Try.func20, Try.ntmps20
  go_wp2_with (first | (go_at_call 27; (with_reducible refine (num7_any _ _).mono ?_); rintro e w' ⟨rfl, rfl⟩) | (go_at_call 25; (with_reducible refine C1.out.mono ?_); rintro e w2 ⟨rfl, hb2⟩; have b2 := HB0.out.trans (hb2.mono (by omega)); have Z0 := Lib.hid (X0.out.below hb2 (by omega)); obtain ⟨c0, c1, c2, _⟩ := blk3 Z0.out; clear hb2) | (go_at_call 50; (with_reducible refine (C2.out _ b2).mono ?_); rintro e w3 ⟨rfl, hb3, kb3⟩; have b3 := (b2.mono hb).trans hb3; have KB3 := Lib.hid ((kb_below b2).trans kb3); clear hb3 kb3))
  go_ret
  exact ⟨rfl, b3, KB3.out⟩

set_option maxRecDepth 100000 in
set_option maxHeartbeats 4000000 in
theorem is_no (va vb u : Value) (er : Int) (w : World) (hc : Ld w va []) (hd : Ld w vb []) (h0 : ¬ er = 0) (ha : ∃ x y z, u = .agg #[x, y, z]) :
    Calls Try.prog 20 #[.agg #[va, vb, .int .i64 0], .int .i64 er, .int .i64 er, u] w fun e w' => e = .returned (.bool true) ∧ Below w.heap.size w w' := by
  obtain ⟨ua, ub, uc, rfl⟩ := ha
  have hB0 : Below w.heap.size w ((w.alloc (.cells #[va, vb, .int .i64 0] 25)).alloc (.cells #[ua, ub, uc] 25)) := ((Below.refl _ _).alloc (Nat.le_refl _) _).alloc (by simp) _
  have C1 : Hid (∀ n, ((w.alloc (.cells #[va, vb, .int .i64 0] 25)).alloc (.cells #[ua, ub, uc] 25)).heap.size = n → Calls Try.prog 25 #[.agg #[va, vb, .int .i64 0], .agg #[.slice none 0 0, .slice none 0 0, .int .i64 0]] ((w.alloc (.cells #[va, vb, .int .i64 0] 25)).alloc (.cells #[ua, ub, uc] 25)) fun e w' => e = .returned (.bool true) ∧ Below n ((w.alloc (.cells #[va, vb, .int .i64 0] 25)).alloc (.cells #[ua, ub, uc] 25)) w') := fun n hn => by
    subst hn
    exact eqview_same va vb _ _ [] [] 0 _ (hc.below hB0) (hd.below hB0) (Ld.nil _) (Ld.nil _) (by simp) (by simp)
  replace C1 := Lib.hid (C1.out (w.heap.size + 2) (by simp))
  obtain ⟨o1, n1, rfl, _, _⟩ := hc
  obtain ⟨o2, n2, rfl, _, _⟩ := hd
  have h1 : (er != 0) = true := by rw [bne_iff_ne]; exact h0
  have HB0 := Lib.hid hB0
  simp only [List.length_nil] at *
  clear hB0 h0
  go_enter Try.func20, Try.ntmps20
  go_wp2_with (first | (go_at_call 27; (with_reducible refine (num7_any _ _).mono ?_); rintro e w' ⟨rfl, rfl⟩) | (go_at_call 25; (with_reducible refine C1.out.mono ?_); rintro e w2 ⟨rfl, hb2⟩; have b2 := HB0.out.trans (hb2.mono (by omega)); clear hb2))
  go_ret
  exact ⟨rfl, b2⟩

/-- What a call told is what is asked for: the error; the view, where there is none. -/
theorem is_any (base : Nat) (er fo z : Int) (S T : List Int) (os ot : Option Addr) (cs ct : Nat) (ua ub : Value) (fu : Int) (w : World) (h : Ov w base (.slice os (unl er S).length cs) (.slice ot (unl er T).length ct) (unl er S) (unl er T)) (hz : z = unn er fo)
    (hu : er = 0 → Ld w ua S ∧ Ld w ub T ∧ fu = fo) (hb : base ≤ w.heap.size) (l1 : (unl er S).length ≤ 65536) (l2 : (unl er T).length ≤ 65536) :
    Calls Try.prog 20 #[.agg #[.slice os (unl er S).length cs, .slice ot (unl er T).length ct, .int .i64 z], .int .i64 er, .int .i64 er, .agg #[ua, ub, .int .i64 fu]] w fun e w' => e = .returned (.bool true) ∧ Below base w w' ∧ KB w w' := by
  subst hz
  by_cases e : er = 0
  · subst e
    obtain ⟨h1, h2, rfl⟩ := hu rfl
    exact is_ok base _ _ ua ub S T fu w h h1 h2 hb l1 l2
  · have e1 : ∀ l, unl er l = [] := fun l => if_neg e
    have e2 : unn er fo = 0 := if_neg e
    obtain ⟨h1, h2⟩ := ov_ld h
    rw [e1] at h1
    rw [e1] at h2
    rw [e2]
    simp only [e1] at h ⊢
    exact (is_no _ _ _ er w h1 h2 e ⟨_, _, _, rfl⟩).mono fun e' w' hh => ⟨hh.1, hh.2.mono hb, kb_below hh.2⟩

set_option maxRecDepth 100000 in
set_option maxHeartbeats 4000000 in
theorem copyview_any (vs vt : Value) (sh st : List Int) (off : Int) (w : World) (hs : Ld w vs sh) (ht : Ld w vt st) (l1 : sh.length ≤ 17592186044000) (l2 : st.length ≤ 17592186044000) :
    Calls Try.prog 8 #[.agg #[vs, vt, .int .i64 off]] w fun e w' => ∃ v1 v2, e = .returned (.agg #[v1, v2, .int .i64 off]) ∧ Ld w' v1 sh ∧ Ld w' v2 st ∧ Below w.heap.size w w' := by
  obtain ⟨w3, hw3⟩ : ∃ w3, w3 = ((w.alloc (.cells #[vs, vt, .int .i64 off] 25)).alloc (.cells #[.slice none 0 0, .slice none 0 0, .int .i64 0] 25)).alloc (.cells #[vs, vt, .int .i64 off] 25) := ⟨_, rfl⟩
  have hsz : w3.heap.size = w.heap.size + 3 := by rw [hw3]; simp
  have B3 : Below w.heap.size w w3 := by rw [hw3]; exact (((Below.refl _ _).alloc (Nat.le_refl _) _).alloc (by simp) _).alloc (by simp; omega) _
  have K0 : Hid (Blk w3 w.heap.size 25 #[vs, vt, .int .i64 off]) := by rw [hw3]; exact ((Blk.new w _ _).alloc _).alloc _
  have K1 : Hid (Blk w3 (w.heap.size + 1) 25 #[.slice none 0 0, .slice none 0 0, .int .i64 0]) := by rw [hw3]; exact (blk_new1 w _ _ _).alloc _
  have K2 : Hid (Blk w3 (w.heap.size + 2) 25 #[vs, vt, .int .i64 off]) := by
    rw [hw3]
    have q := Blk.new ((w.alloc (.cells #[vs, vt, .int .i64 off] 25)).alloc (.cells #[.slice none 0 0, .slice none 0 0, .int .i64 0] 25)) 25 #[vs, vt, .int .i64 off]
    rwa [World.size_alloc, World.size_alloc] at q
  have C1 : Hid (∀ n, w3.heap.size = n → Calls Try.prog 45 #[vs] w3 fun e w' => ∃ o c, e = .returned (.slice o sh.length c) ∧ w'.ownsRow n 3 1 (.slice o sh.length c) sh.length (ints sh) ∧ Ld w' (.slice o sh.length c) sh ∧ Below n w3 w') := fun n hn => by
    subst hn
    exact copy_any vs sh w3 (hs.below B3) l1
  replace C1 := Lib.hid (C1.out (w.heap.size + 3) hsz)
  have C2 := Lib.hid (fun (W : World) (hW : Below w.heap.size w W) => copy_any vt st W (ht.below hW) l2)
  obtain ⟨o1, n1, rfl, _, _⟩ := hs
  obtain ⟨o2, n2, rfl, _, _⟩ := ht
  have HW := Lib.hid hw3
  rw [hw3] at C1
  clear hw3
  go_enter Try.func8, Try.ntmps8
  go_wp2_with (first | (go_at_call 45; (with_reducible refine C1.out.mono ?_); rintro e w2 ⟨o5, c5, rfl, ho5, _, hb2⟩; rw [← HW.out] at hb2; have b2 := B3.trans (hb2.mono (by omega)); replace K0 := Lib.hid (K0.out.below hb2 (by omega)); replace K1 := Lib.hid (K1.out.below hb2 (by omega)); replace K2 := Lib.hid (K2.out.below hb2 (by omega)); obtain ⟨c0, c1, c2, _⟩ := blk3 K0.out; obtain ⟨x0, x1, x2, g0, g1, g2⟩ := blk3 K2.out; have s2 := Nat.le_trans (Nat.le_of_eq hsz.symm) hb2.size; have O2 := Lib.hid (own_set (i := 0) (z := .slice o5 sh.length c5) ho5 K2.out); clear ho5 hb2) | (go_at_call 45; (with_reducible refine Go.Calls.mono (C2.out _ ?_) ?_); (· exact b2.setCell (by show w.heap.size ≤ w.heap.size + 2; omega) _); rintro e w4 ⟨o6, c6, rfl, ho6, hl6, hb4⟩; have b4 := (b2.setCell (p := ⟨w.heap.size + 2, 0, none⟩) (by show w.heap.size ≤ w.heap.size + 2; omega) (.slice o5 sh.length c5)).trans (hb4.mono (by simp; omega)); have s4 := hb4.size; have Q2 := Lib.hid ((K2.out.set_ 0 (.slice o5 sh.length c5)).below hb4 (by simp; omega)); have Q1 := Lib.hid ((K1.out.far (p := ⟨w.heap.size + 2, 0, none⟩) (by show w.heap.size + 1 ≠ w.heap.size + 2; omega) (.slice o5 sh.length c5)).below hb4 (by simp; omega)); obtain ⟨x0, x1, x2, g0, g1, g2⟩ := blk3 Q2.out; obtain ⟨d0, d1, d2, f0, f1, f2⟩ := blk3 Q1.out; have O4 := Lib.hid (Below.keepOwn O2.out hb4 (Nat.le_refl _)); have O6 := Lib.hid ho6; clear ho6 hl6 hb4))
  have e2 : w.heap.size + 1 + 1 = w.heap.size + 2 := rfl
  have R1 := Lib.hid (Q1.out.far (p := ⟨w.heap.size + 2, 1, none⟩) (by show w.heap.size + 1 ≠ w.heap.size + 2; omega) (.slice o6 st.length c6))
  obtain ⟨r0, r1, r2, _⟩ := blk3 R1.out
  refine bodyPost_ret (v := .agg #[.slice o5 sh.length c5, .slice o6 st.length c6, .int .i64 off]) (by simp [results, Try.results8, go_sem, r0, r1, r2]) rfl ?_
  have p5 := own_box (own_set (i := 1) (z := .slice o6 st.length c6) O4.out Q2.out) R1.out (.slice o5 sh.length c5) (.slice o6 st.length c6) (.int .i64 off)
  have p6 := own_box (own_set (i := 1) (z := .slice o6 st.length c6) O6.out Q2.out) R1.out (.slice o5 sh.length c5) (.slice o6 st.length c6) (.int .i64 off)
  obtain ⟨_, _, q5, h5⟩ := Ld.of_owns p5
  obtain ⟨_, _, q6, h6⟩ := Ld.of_owns p6
  rw [← q5] at h5
  rw [← q6] at h6
  exact ⟨_, _, rfl, h5, h6, Below.box (b4.setCell (by show w.heap.size ≤ w.heap.size + 2; omega) _) (Nat.le_succ _) _ _ _⟩
end Go.Proofs.Ytdcmcfmodbdhaaa
