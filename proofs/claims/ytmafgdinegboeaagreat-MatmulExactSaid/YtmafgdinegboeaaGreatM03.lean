/-
  
  
  
  
-/
import Derived.Lib.SliceRun
import Derived.WalkMore
import Derived.RegionIn
import Derived.BigRegionIn
import Derived.Test.YtmafgdinegboeaaGreatM02
namespace Go.Proofs.YtmafgdinegboeaaGreat
open Go.RowKit

def Fnd (ls : List Int) (x r : Int) : Prop := decide (0 ≤ r) = decide (x ∈ ls)
set_option maxRecDepth 100000 in
set_option maxHeartbeats 2000000 in
theorem indexs_any (v : Value) (ls : List Int) (x : Int) (w : World) (h : Ld w v ls) (l4 : ls.length ≤ 17592186044416) :
    Calls Tryz.prog 195 #[v, .int .i64 x] w fun e w' => ∃ r : Int, e = .returned (.int .i64 r) ∧ Fnd ls x r ∧ w = w' := by
  obtain ⟨o, c, rfl, _, hx⟩ := h
  have HX := Lib.hid hx
  clear hx
  go_enter Tryz.func195, Tryz.ntmps195
  go_wp2
  go_loop [8] (fun s8 => ∃ k : Nat, k ≤ ls.length ∧ s8 = .int .i64 k ∧ Hid (∀ j, j < k → ¬ ls.getD j 0 = x)) (fun s8 => ls.length - (intOf s8).toNat)
  case atStart => exact ⟨0, Nat.zero_le _, rfl, fun j hj => absurd hj (Nat.not_lt_zero _)⟩
  case round =>
    obtain ⟨k, hk, rfl, HK⟩ := hrel
    by_cases hlt : k < ls.length
    · obtain ⟨b, f, rfl, hb, hc⟩ := HX.out k hlt
      by_cases g : x = ls.getD k 0
      · have E : Hid (Fnd ls x (k : Int)) := by
          rw [Hid, Fnd, decide_eq_true (by omega), decide_eq_true (by rw [g]; exact getD_mem hlt)]
        rw [← g] at hc
        clear g
        go_wp2
        go_ret
        exact ⟨k, rfl, E.out, rfl⟩
      · have HG : Hid (∀ j, j < k + 1 → ¬ ls.getD j 0 = x) := fun j hj => by
          by_cases e : j = k
          · subst e; exact fun h => g h.symm
          · exact HK.out j (by omega)
        generalize ls.getD k 0 = y at *
        go_wp2
        exact ⟨⟨k + 1, by omega, by go_num, HG⟩, by simp [intOf]; omega⟩
    · have E : Hid (Fnd ls x (-1)) := by
        have : ¬ x ∈ ls := by
          intro hm
          obtain ⟨i, hi, e⟩ := List.mem_iff_getElem.1 hm
          refine HK.out i (by omega) ?_
          simp [List.getD, List.getElem?_eq_getElem hi, e]
        rw [Hid, Fnd, decide_eq_false this]; rfl
      go_wp2
      go_ret
      exact ⟨-1, rfl, E.out, rfl⟩
set_option maxRecDepth 100000 in
set_option maxHeartbeats 2000000 in
theorem contains_any (v : Value) (ls : List Int) (x : Int) (w : World) (h : Ld w v ls) (l4 : ls.length ≤ 17592186044416) :
    Calls Tryz.prog 146 #[v, .int .i64 x] w fun e w' => e = .returned (.bool (decide (x ∈ ls))) ∧ w = w' := by
  have C := Lib.hid (indexs_any v ls x w h l4)
  clear h l4
  go_enter Tryz.func146, Tryz.ntmps146
  go_wp2_with (go_at_call 195; (with_reducible refine C.out.mono ?_); rintro e w' ⟨r, rfl, hr, rfl⟩; replace hr := Lib.hid hr)
  go_ret
  exact ⟨by rw [← (show decide (0 ≤ r) = decide (x ∈ ls) from hr.out)]; rfl, rfl⟩
set_option maxRecDepth 100000 in
set_option maxHeartbeats 4000000 in
theorem equal_any (va vb : Value) (a b : List Int) (w : World) (ha : Ld w va a) (hb : Ld w vb b) (la : a.length ≤ 17592186044416) (_lb : b.length ≤ 17592186044416) :
    Calls Tryz.prog 204 #[va, vb] w fun e w' => e = .returned (.bool (decide (a = b))) ∧ Below w.heap.size w w' := by
  obtain ⟨oa, ca, rfl, _, hxa⟩ := ha
  obtain ⟨ob, cb, rfl, _, hxb⟩ := hb
  have HA := Lib.hid hxa
  have HB := Lib.hid hxb
  clear hxa hxb
  by_cases hl : a.length = b.length
  · have HL := Lib.hid hl
    have HX : Hid ((∀ k, k < a.length → a.getD k 0 = b.getD k 0) → a = b) := ext_getD hl
    rw [← hl]
    clear hl _lb
    go_enter Tryz.func204, Tryz.ntmps204
    go_wp2
    go_loopw [13] (fun s13 wr => ∃ k : Nat, k ≤ a.length ∧ s13 = .int .i64 k ∧ Hid (∀ j, j < k → a.getD j 0 = b.getD j 0) ∧ Below w.heap.size w wr) (fun s13 _ => a.length - (intOf s13).toNat)
    case atStart => exact ⟨0, Nat.zero_le _, rfl, fun j hj => absurd hj (Nat.not_lt_zero _), Below.refl _ _⟩
    case round =>
      obtain ⟨k, hk, rfl, HK, hW⟩ := hrel
      by_cases hlt : k < a.length
      · obtain ⟨b1, f1, rfl, h1, c1⟩ := HA.out k hlt
        obtain ⟨b2, f2, rfl, h2, c2⟩ := HB.out k (by have := HL.out; omega)
        have c1' : wr.cell? ⟨b1, f1 + k, none⟩ = some (.int .i64 (a.getD k 0)) := (hW.cell (p := ⟨b1, f1 + k, none⟩) h1).trans c1
        have c2' : wr.cell? ⟨b2, f2 + k, none⟩ = some (.int .i64 (b.getD k 0)) := (hW.cell (p := ⟨b2, f2 + k, none⟩) h2).trans c2
        have HG : Hid (a.getD k 0 = b.getD k 0 → ∀ j, j < k + 1 → a.getD j 0 = b.getD j 0) := fun g j hj => by
          by_cases e : j = k
          · subst e; exact g
          · exact HK.out j (by omega)
        have HN : Hid (¬ a.getD k 0 = b.getD k 0 → decide (a = b) = false) := fun g => decide_eq_false (fun e => g (by rw [e]))
        clear c1 c2
        generalize a.getD k 0 = x at *
        generalize b.getD k 0 = y at *
        by_cases g : x = y
        · subst g
          have R := Lib.hid (HG.out rfl)
          go_wp2
          go_quiet (fail)
          go_wp2
          exact ⟨⟨k + 1, by omega, by go_num, R, by first | exact below_drw hW _ | exact hW⟩, by simp [intOf]; omega⟩
        · have R := Lib.hid (HN.out g)
          have g' : (x != y) = true := by rw [bne_iff_ne]; exact g
          clear g
          go_wp2
          go_quiet (fail)
          go_wp2
          go_ret
          exact ⟨by rw [R.out]; rfl, by first | exact below_drw hW _ | exact hW⟩
      · have e : Hid (decide (a = b) = true) := decide_eq_true (HX.out fun j hj => HK.out j (by omega))
        go_wp2
        go_ret
        exact ⟨by rw [e.out]; rfl, hW⟩
  · have e : Hid (decide (a = b) = false) := decide_eq_false (fun e => hl (by rw [e]))
    have hl2 : ((a.length : Int) != (b.length : Int)) = true := by rw [bne_iff_ne]; omega
    clear hl
    go_enter Tryz.func204, Tryz.ntmps204
    go_wp2
    go_ret
    exact ⟨by rw [e.out]; rfl, Below.refl _ _⟩

theorem blk_nil {w : World} {g : Nat} {t : TypeId} (h : Blk w g t #[]) {base : Nat} (hb : base ≤ g) : w.ownsRow base t 1 (.slice (some ⟨g, 0, none⟩) 0 0) 0 [] :=
  ⟨by simp, .inr ⟨g, 0, #[], rfl, hb, h, Nat.le_refl _, Nat.zero_le _, by simp, by simp⟩⟩
set_option maxRecDepth 100000 in
set_option maxHeartbeats 4000000 in
theorem cloned_any (v : Value) (ls : List Int) (w : World) (h : Ld w v ls) (ll : ls.length ≤ 17592186044000) :
    Calls Tryz.prog 145 #[v] w (SomeC w ls) := by
  obtain ⟨i0, hi0, hz0, hz1, hz2⟩ := info_parts infoI
  obtain ⟨o, c, rfl, hc, hx⟩ := h
  cases o with
  | none =>
    have h1 : ls = [] := by
      cases ls with
      | nil => rfl
      | cons a r => obtain ⟨b, f, e, _⟩ := hx 0 (by simp); cases e
    subst h1
    simp only [List.length_nil] at *
    clear hx
    have en : (binOp .eql 23 (.slice none 0 c) (.slice none 0 0)).run Tryz.prog w = .ok (.bool true) w := Lib.run_eql_slice_nil w 23 3 none 0 c 0 0 Tryz.underlying23
    go_enter Tryz.func145, Tryz.ntmps145
    go_wp2
    go_ret
    exact ⟨none, 0, rfl, World.ownsRow_nil _ _ _ _, Ld.nil _, Below.refl _ _⟩
  | some ad =>
    have en : (binOp .eql 23 (.slice (some ad) ls.length c) (.slice none 0 0)).run Tryz.prog w = .ok (.bool false) w := Lib.run_eql_slice_nil w 23 3 (some ad) ls.length c 0 0 Tryz.underlying23
    go_enter Tryz.func145, Tryz.ntmps145
    have H := Lib.hid hx
    have HB := Lib.hid (blk_nil (base := w.heap.size) (Blk.new w 3 #[]) (Nat.le_refl _))
    clear hx
    go_wp2_with (at_builtin; refine wpList_append_own _ rfl _ _ 23 rfl w.heap.size 3 i0 (.int .i64 0) 1 8 Tryz.underlying23 hi0 hz0 hz1 hz2 rfl (by decide) _ 0 [] rfl HB.out ad ls.length c (ints ls) rfl ?c0 ?c1 ?c2 ?c3 ?c4 ?c5 ?_)
    case c0 => simp [ints]
    case c1 =>
      intro j u hu
      have hj : j < ls.length := by
        have := (List.getElem?_eq_some_iff.1 hu).1
        simpa [ints] using this
      obtain ⟨b, f, e, hb, hcell⟩ := H.out j hj
      cases e
      have : u = .int .i64 (ls.getD j 0) := by
        have h2 := ints_at hj
        rw [List.getElem?_toArray] at h2
        rw [h2] at hu; exact (Option.some.inj hu).symm
      rw [this, Go.WideShapes.add_plain, World.cell?_alloc_lt w _ _ hb]
      exact hcell
    case c2 => simp [ints, Value.oneCell']
    case c3 => unfold maxLen; omega
    case c4 => omega
    case c5 => simp
    intro v' w9 hown1 hgrow _
    have hown1 : w9.ownsRow w.heap.size 3 1 v' ls.length (ints ls) := by simpa using hown1
    have hB9 : Below w.heap.size w w9 := ((Below.refl _ _).alloc (Nat.le_refl _) _).grown hgrow (by simp) (fun k e => by simp [Value.ownBlock] at e; omega)
    obtain ⟨o2, c2, rfl, hld⟩ := Ld.of_owns hown1
    have H1 := Lib.hid (And.intro hown1 (And.intro hld hB9))
    clear hown1 hld hgrow hB9 H HB
    go_wp2
    go_ret
    exact ⟨o2, c2, rfl, H1.out.1, H1.out.2.1, H1.out.2.2⟩
end Go.Proofs.YtmafgdinegboeaaGreat
namespace Go.Proofs.YtmafgdinegboeaaGreat
open Go.RowKit

set_option maxRecDepth 100000 in
set_option maxHeartbeats 4000000 in
theorem stays_any (vs vt : Value) (sh st : List Int) (off n : Int) (w : World) (hs : Ld w vs sh) (ht : Ld w vt st) (hm : may sh = true) (hl : st.length = sh.length) (hn : n ≤ 65536) :
    Calls Tryz.prog 205 #[.agg #[vs, vt, .int .i64 off], .int .i64 n] w fun e w' => e = .returned (.bool (sty sh st off n)) ∧ Below w.heap.size w w' := by
  have l4 := may_len hm
  obtain ⟨os, cs, rfl, _, hxs⟩ := hs
  obtain ⟨ot, ct, rfl, _, hxt⟩ := ht
  have HS := Lib.hid hxs
  have HT := Lib.hid hxt
  have HD := Lib.hid (fun k hk => may_dim hm (i := k) hk)
  have HP := Lib.hid (And.intro (may_pos hm) hl)
  have hB0 : Below w.heap.size w (w.alloc (.cells #[.slice os sh.length cs, .slice ot st.length ct, .int .i64 off] 168)) := (Below.refl _ _).alloc (Nat.le_refl _) _
  clear hxs hxt hm
  by_cases g0 : off < 0
  · have E : Hid (sty sh st off n = false) := sty_no1 (by omega)
    clear hl
    go_enter Tryz.func205, Tryz.ntmps205
    go_wp2
    go_step3
    go_wp2
    rw [Exit.noGoto_ret]
    go_ret
    exact ⟨by rw [E.out]; rfl, hB0⟩
  by_cases g1 : n ≤ off
  · have E : Hid (sty sh st off n = false) := sty_no2 (by omega)
    clear hl
    go_enter Tryz.func205, Tryz.ntmps205
    go_wp2
    go_step3
    go_wp2
    rw [Exit.noGoto_ret]
    go_ret
    exact ⟨by rw [E.out]; rfl, hB0⟩
  have HO : Hid (0 ≤ off ∧ off < n) := ⟨by omega, by omega⟩
  clear hl
  go_enter Tryz.func205, Tryz.ntmps205
  go_wp2
  go_step3
  go_wp2
  go_step3
  go_wp2
  go_loop [5, 6, 24] (fun s5 s6 s24 => ∃ (k : Nat) (L : Int), k ≤ st.length ∧ 0 ≤ L ∧ L < n ∧ s24 = .int .i64 k ∧ s5 = .int .i64 L ∧ s6 = .bool true ∧ Hid (Sty sh st off n L k)) (fun _ _ s24 => st.length - (intOf s24).toNat)
  case atStart => exact ⟨0, off, Nat.zero_le _, HO.out.1, HO.out.2, rfl, rfl, rfl, sty_start HO.out.1⟩
  case round =>
    obtain ⟨k, L, hk, l0, l1, rfl, rfl, rfl, HL⟩ := hrel
    by_cases hlt : k < st.length
    · obtain ⟨b1, f1, rfl, h1, c1⟩ := HS.out k (by have := HP.out.2; omega)
      obtain ⟨b2, f2, rfl, h2, c2⟩ := HT.out k hlt
      have c1' : (w.alloc (.cells #[.slice (some ⟨b1, f1, none⟩) sh.length cs, .slice (some ⟨b2, f2, none⟩) st.length ct, .int .i64 off] 168)).cell? ⟨b1, f1 + k, none⟩ = some (.int .i64 (sh.getD k 0)) := (hB0.cell (p := ⟨b1, f1 + k, none⟩) h1).trans c1
      have c2' : (w.alloc (.cells #[.slice (some ⟨b1, f1, none⟩) sh.length cs, .slice (some ⟨b2, f2, none⟩) st.length ct, .int .i64 off] 168)).cell? ⟨b2, f2 + k, none⟩ = some (.int .i64 (st.getD k 0)) := (hB0.cell (p := ⟨b2, f2 + k, none⟩) h2).trans c2
      have klt : k < sh.length := by have := HP.out.2; omega
      obtain ⟨d1, d2⟩ := HD.out k klt
      have HN : Hid (¬ (0 ≤ st.getD k 0 ∧ st.getD k 0 ≤ 65536) → sty sh st off n = false) := fun g => sty_no3 hlt g
      have HG : Hid (n - L ≤ (sh.getD k 0 - 1) * st.getD k 0 → sty sh st off n = false) := fun g => sty_bad HL.out HP.out.2 HP.out.1 hlt g
      have HF : Hid (0 ≤ st.getD k 0 → st.getD k 0 ≤ 65536 → Sty sh st off n (L + (sh.getD k 0 - 1) * st.getD k 0) (k + 1)) := fun a b => sty_step HL.out HP.out.2 HP.out.1 hlt a b
      clear c1 c2 h1 h2
      generalize sh.getD k 0 = d at *
      generalize st.getD k 0 = s at *
      by_cases g2 : s < 0
      · have R := Lib.hid (HN.out (by omega))
        go_wp2
        go_ret
        exact ⟨by rw [R.out]; rfl, hB0⟩
      by_cases g3 : 65536 < s
      · have R := Lib.hid (HN.out (by omega))
        go_wp2
        go_ret
        exact ⟨by rw [R.out]; rfl, hB0⟩
      have m0 := Int.mul_nonneg (show 0 ≤ d - 1 by omega) (show 0 ≤ s by omega)
      have m1 := Int.mul_le_mul (show d - 1 ≤ 4095 by omega) (show s ≤ 65536 by omega) (by omega) (by decide)
      have R := Lib.hid (HF.out (by omega) (by omega))
      generalize hm : (d - 1) * s = m at *
      by_cases g4 : n - L ≤ m
      · have R := Lib.hid (HG.out g4)
        go_wp2
        go_ret
        exact ⟨by rw [R.out]; rfl, hB0⟩
      · go_wp2
        exact ⟨⟨k + 1, L + m, by omega, by omega, by omega, by go_num, rfl, rfl, R⟩, by simp [intOf]; omega⟩
    · have E : Hid (sty sh st off n = true) := by
        have := sty_end HL.out HP.out.2 hlt HO.out.1 HO.out.2
        rw [Hid, this, decide_eq_true l1]
      go_wp2
      go_ret
      exact ⟨by rw [E.out]; rfl, hB0⟩

def frm (b : Bool) : Int := if b then 0 else 1
theorem frm_t : frm true = 0 := rfl
theorem frm_f : frm false = 1 := rfl
set_option maxRecDepth 100000 in
set_option maxHeartbeats 4000000 in
theorem vcheck_any (vs vt : Value) (sh st : List Int) (off n : Int) (w : World) (hs : Ld w vs sh) (ht : Ld w vt st) (_ls : sh.length ≤ 17592186044416) (_lt : st.length ≤ 17592186044416) :
    Calls Tryz.prog 165 #[.agg #[vs, vt, .int .i64 off], .int .i64 n] w fun e w' => e = .returned (.int .i64 (frm (vwb sh st off n))) ∧ Below w.heap.size w w' := by
  have hB0 : Below w.heap.size w (w.alloc (.cells #[vs, vt, .int .i64 off] 168)) := (Below.refl _ _).alloc (Nat.le_refl _) _
  have hs' := hs.below hB0
  have ht' := ht.below hB0
  have CN := Lib.hid (fun h => check_no vs sh _ hs' h)
  have CK := Lib.hid (fun h => check_ok vs sh _ hs' h)
  have CS := Lib.hid (fun (a : may sh = true) (b : st.length = sh.length) (c : n ≤ 65536) => stays_any vs vt sh st off n _ hs' ht' a b c)
  obtain ⟨os, cs, rfl, _, _⟩ := hs
  obtain ⟨ot, ct, rfl, _, _⟩ := ht
  clear hs' ht'
  cases hm : may sh with
  | false =>
    have E : Hid (vwb sh st off n = false) := vwb_no1 hm
    replace CN := Lib.hid (CN.out hm)
    clear CS CK hm
    go_enter Tryz.func165, Tryz.ntmps165
    go_wp2_with (go_at_call 124; (with_reducible refine CN.out.mono ?_); rintro e w' ⟨rfl, rfl⟩)
    go_ret
    exact ⟨by rw [E.out]; rfl, hB0⟩
  | true =>
    replace CK := Lib.hid (CK.out hm)
    by_cases hl : st.length = sh.length
    · by_cases hn : n ≤ 65536
      · have E : Hid (vwb sh st off n = sty sh st off n) := vwb_sty hm hl hn
        replace CS := Lib.hid (CS.out hm hl hn)
        have hl' : ((st.length : Int) != (sh.length : Int)) = false := by simp [hl]
        clear CN hm hl
        go_enter Tryz.func165, Tryz.ntmps165
        cases hy : sty sh st off n with
        | false =>
          rw [hy] at E CS
          clear hy
          go_wp2_with (first | (go_at_call 124; (with_reducible refine CK.out.mono ?_); rintro e w' ⟨rfl, rfl⟩) | (go_at_call 205; (with_reducible refine CS.out.mono ?_); rintro e w2 ⟨rfl, hb2⟩; replace hb2 := Lib.hid hb2))
          go_ret
          exact ⟨by rw [E.out]; rfl, hB0.trans (hb2.out.mono (by simp))⟩
        | true =>
          rw [hy] at E CS
          clear hy
          go_wp2_with (first | (go_at_call 124; (with_reducible refine CK.out.mono ?_); rintro e w' ⟨rfl, rfl⟩) | (go_at_call 205; (with_reducible refine CS.out.mono ?_); rintro e w2 ⟨rfl, hb2⟩; replace hb2 := Lib.hid hb2))
          go_ret
          exact ⟨by rw [E.out]; rfl, hB0.trans (hb2.out.mono (by simp))⟩
      · have E : Hid (vwb sh st off n = false) := vwb_no3 hn
        have hl' : ((st.length : Int) != (sh.length : Int)) = false := by simp [hl]
        clear CN CS hm hl
        go_enter Tryz.func165, Tryz.ntmps165
        go_wp2_with (go_at_call 124; (with_reducible refine CK.out.mono ?_); rintro e w' ⟨rfl, rfl⟩)
        go_ret
        exact ⟨by rw [E.out]; rfl, hB0⟩
    · have E : Hid (vwb sh st off n = false) := vwb_no2 hl
      have hl' : ((st.length : Int) != (sh.length : Int)) = true := by rw [bne_iff_ne]; omega
      clear CN CS hm hl
      go_enter Tryz.func165, Tryz.ntmps165
      go_wp2_with (go_at_call 124; (with_reducible refine CK.out.mono ?_); rintro e w' ⟨rfl, rfl⟩)
      go_ret
      exact ⟨by rw [E.out]; rfl, hB0⟩
end Go.Proofs.YtmafgdinegboeaaGreat
namespace Go.Proofs.YtmafgdinegboeaaGreat
open Go.RowKit Go.Shelf
attribute [local go_sem] Oper.semAt_some

set_option maxRecDepth 100000 in
set_option maxHeartbeats 2000000 in
theorem strides_no (v : Value) (ls : List Int) (w : World) (h : Ld w v ls) (hm : may ls = false) :
    Calls Tryz.prog 164 #[v] w fun e w' => e = .returned (.tuple #[.slice none 0 0, .int .i64 1]) ∧ w = w' := by
  have CK := Lib.hid (check_no v ls w h hm)
  clear h hm
  go_enter Tryz.func164, Tryz.ntmps164
  go_wp2_with (go_at_call 124; (with_reducible refine CK.out.mono ?_); rintro e w' ⟨rfl, rfl⟩)
  go_ret2
  exact ⟨rfl, rfl⟩

def ixf (ls : List Int) (n : Int) (pre : List (Fin ls.length)) : List Int × Int := pre.foldl (fun p x => (p.1.set x.1 (p.2 % ls.getD x.1 0), p.2 / ls.getD x.1 0)) (List.replicate ls.length 0, n)
theorem ixf_snoc (ls : List Int) (n : Int) (pre : List (Fin ls.length)) (x : Fin ls.length) : ixf ls n (pre ++ [x]) = ((ixf ls n pre).1.set x.1 ((ixf ls n pre).2 % ls.getD x.1 0), (ixf ls n pre).2 / ls.getD x.1 0) := by simp [ixf]
theorem ixf_len (ls : List Int) (n : Int) (pre : List (Fin ls.length)) : (ixf ls n pre).1.length = ls.length := by
  have : ∀ (pre : List (Fin ls.length)) (p : List Int × Int), p.1.length = ls.length → (pre.foldl (fun p x => (p.1.set x.1 (p.2 % ls.getD x.1 0), p.2 / ls.getD x.1 0)) p).1.length = ls.length := by
    intro pre
    induction pre with
    | nil => intro p h; exact h
    | cons x pre ih => intro p h; exact ih _ (by simpa using h)
  exact this pre _ (by simp)
theorem quo_bd {p d : Int} (h : 0 ≤ p ∧ p ≤ 65536) (hd : 1 ≤ d) : 0 ≤ p / d ∧ p / d ≤ 65536 := by
  refine ⟨Int.ediv_nonneg h.1 (by omega), ?_⟩
  have := Int.ediv_le_self d h.1
  omega
theorem ixf_bd {ls : List Int} (hp : pos ls) {n : Int} (h0 : 0 ≤ n ∧ n ≤ 65536) (pre : List (Fin ls.length)) : 0 ≤ (ixf ls n pre).2 ∧ (ixf ls n pre).2 ≤ 65536 := by
  have : ∀ (pre : List (Fin ls.length)) (p : List Int × Int), 0 ≤ p.2 ∧ p.2 ≤ 65536 → 0 ≤ (pre.foldl (fun p x => (p.1.set x.1 (p.2 % ls.getD x.1 0), p.2 / ls.getD x.1 0)) p).2 ∧ (pre.foldl (fun p x => (p.1.set x.1 (p.2 % ls.getD x.1 0), p.2 / ls.getD x.1 0)) p).2 ≤ 65536 := by
    intro pre
    induction pre with
    | nil => intro p h; exact h
    | cons x pre ih => intro p h; exact ih _ (quo_bd h (hp _ (getD_mem x.2)))
  exact this pre _ h0
theorem ixf_end {ls : List Int} (hp : pos ls) {n : Int} (h0 : 0 ≤ n) (h1 : n < prod ls) : (ixf ls n (bk ls.length)).1 = atl ls n := by
  have : ∀ (j : Nat) (hj : j ≤ ls.length) (p : List Int × Int), p.1.length = ls.length → p.2 = n / prod (ls.drop j) → (∀ i, j ≤ i → i < ls.length → p.1.getD i 0 = n / prod (ls.drop (i + 1)) % ls.getD i 0) →
      ∀ i, i < ls.length → ((rs j hj).foldl (fun p x => (p.1.set x.1 (p.2 % ls.getD x.1 0), p.2 / ls.getD x.1 0)) p).1.getD i 0 = n / prod (ls.drop (i + 1)) % ls.getD i 0 := by
    intro j
    induction j with
    | zero => intro hj p h1 h2 h3 i hi; exact h3 i (Nat.zero_le _) hi
    | succ j ih =>
      intro hj p h1 h2 h3 i hi
      simp only [rs, List.foldl_cons]
      refine ih (by omega) _ (by simpa using h1) ?_ ?_ i hi
      · simp only [h2]
        rw [prod_drop (show j < ls.length by omega), Int.ediv_ediv_of_nonneg (by have := prod_pos (pos_drop hp (j + 1)); omega), Int.mul_comm]
      · intro k k1 k2
        simp only
        by_cases e : j = k
        · subst e; rw [set_getD_self (by omega), h2]
        · rw [set_getD_ne e]; exact h3 k (by omega) k2
  refine ext_getD (by rw [ixf_len, atl_len]) fun k hk => ?_
  rw [ixf_len] at hk
  rw [atl_getD ls n k hp h0 h1 hk]
  exact this ls.length (Nat.le_refl _) (List.replicate ls.length 0, n) (by simp) (by simp [prod]) (fun i h1 h2 => by omega) k hk

set_option maxRecDepth 100000 in
set_option maxHeartbeats 4000000 in
theorem index_any (v : Value) (ls : List Int) (n : Int) (w : World) (h : Ld w v ls) (hm : may ls = true) (h0 : 0 ≤ n) (h1 : n < prod ls) :
    Calls Tryz.prog 149 #[v, .int .i64 n] w fun e w' => e = .returned (.slice (some ⟨w.heap.size + 1, 0, none⟩) ls.length ls.length) ∧ Blk w' (w.heap.size + 1) 3 (ints (atl ls n)).toArray ∧ Below w.heap.size w w' := by
  obtain ⟨i0, hi0, hz0, hz1, hz2⟩ := info_parts infoI
  obtain ⟨o, c, rfl, _, hx⟩ := h
  have HX := Lib.hid hx
  have hl := may_len hm
  have hpos := may_pos hm
  have hpr := may_prod hm
  have HE := Lib.hid (ixf_end hpos h0 h1)
  have HB := Lib.hid (ixf_bd hpos (n := n) (by omega))
  have HP0 := Lib.hid hpos
  clear hx hm hpos hpr
  have mk : (Instr.makeSlice 23 (.int .i64 (ls.length : Int)) (.int .i64 (ls.length : Int))).run Tryz.prog (w.alloc (.cells #[.int .i64 n] 3)) = .ok (.slice (some ⟨w.heap.size + 1, 0, none⟩) ls.length ls.length) ((w.alloc (.cells #[.int .i64 n] 3)).alloc (.cells (madeCells #[.int .i64 0] ls.length) 3)) := by
    have := run_make (w := w.alloc (.cells #[.int .i64 n] 3)) 23 3 i0 (.int .i64 0) Tryz.underlying23 hi0 hz0 .i64 .i64 ls.length ls.length (by omega) (by omega) (by rw [hz2]; omega) (by omega)
    rw [this, hz1]; simp [Value.cells]
  rw [made_ints] at mk
  refine (callsIn_wide (n := 9)).1 ?_
  refine callsIn_of_wp_marks Tryz.func149 rfl trivial ?_
  simp only [Tryz.ntmps149, List.size_toArray, List.length_cons, List.length_nil, Nat.reduceAdd, Nat.reduceSub, Array.replicate_succ, Array.replicate_zero, List.push_toArray, List.append_toArray, List.nil_append, List.cons_append]
  refine wpIn_wide.2 ?_
  go_wp2_with (go_at_call 196; (with_reducible refine (backs_any _ _ _ _).mono ?_); rintro e w3 ⟨rfl, rfl⟩)
  have b1 : Boxed ((((w.alloc (Obj.cells #[Value.int IntKind.i64 n] 3)).alloc (Obj.cells (ints (List.replicate ls.length 0)).toArray 3)).alloc (Obj.cells #[Value.slice (some ⟨w.heap.size + 1, 0, none⟩) ls.length ls.length] 23)).alloc (Obj.cells #[Value.slice o ls.length c] 23)) w.heap.size 3 (.int .i64 n) := (((Boxed.new w 3 (.int .i64 n)).alloc (Obj.cells (ints (List.replicate ls.length 0)).toArray 3)).alloc (Obj.cells #[Value.slice (some ⟨w.heap.size + 1, 0, none⟩) ls.length ls.length] 23)).alloc (Obj.cells #[Value.slice o ls.length c] 23)
  have b0 : Blk ((((w.alloc (Obj.cells #[Value.int IntKind.i64 n] 3)).alloc (Obj.cells (ints (List.replicate ls.length 0)).toArray 3)).alloc (Obj.cells #[Value.slice (some ⟨w.heap.size + 1, 0, none⟩) ls.length ls.length] 23)).alloc (Obj.cells #[Value.slice o ls.length c] 23)) (w.heap.size + 1) 3 (ints (List.replicate ls.length 0)).toArray := by
    have := ((Blk.new (w.alloc (Obj.cells #[Value.int IntKind.i64 n] 3)) 3 (ints (List.replicate ls.length 0)).toArray).alloc (Obj.cells #[Value.slice (some ⟨w.heap.size + 1, 0, none⟩) ls.length ls.length] 23)).alloc (Obj.cells #[Value.slice o ls.length c] 23)
    rwa [World.size_alloc] at this
  have b2 : Boxed ((((w.alloc (Obj.cells #[Value.int IntKind.i64 n] 3)).alloc (Obj.cells (ints (List.replicate ls.length 0)).toArray 3)).alloc (Obj.cells #[Value.slice (some ⟨w.heap.size + 1, 0, none⟩) ls.length ls.length] 23)).alloc (Obj.cells #[Value.slice o ls.length c] 23)) (w.heap.size + 2) 23 (.slice (some ⟨w.heap.size + 1, 0, none⟩) ls.length ls.length) := by
    have := (Boxed.new ((w.alloc (Obj.cells #[Value.int IntKind.i64 n] 3)).alloc (Obj.cells (ints (List.replicate ls.length 0)).toArray 3)) 23 (.slice (some ⟨w.heap.size + 1, 0, none⟩) ls.length ls.length)).alloc (Obj.cells #[Value.slice o ls.length c] 23)
    rwa [World.size_alloc, World.size_alloc] at this
  have b3 : Boxed ((((w.alloc (Obj.cells #[Value.int IntKind.i64 n] 3)).alloc (Obj.cells (ints (List.replicate ls.length 0)).toArray 3)).alloc (Obj.cells #[Value.slice (some ⟨w.heap.size + 1, 0, none⟩) ls.length ls.length] 23)).alloc (Obj.cells #[Value.slice o ls.length c] 23)) (w.heap.size + 3) 23 (.slice o ls.length c) := by
    have := Boxed.new (((w.alloc (Obj.cells #[Value.int IntKind.i64 n] 3)).alloc (Obj.cells (ints (List.replicate ls.length 0)).toArray 3)).alloc (Obj.cells #[Value.slice (some ⟨w.heap.size + 1, 0, none⟩) ls.length ls.length] 23)) 23 (.slice o ls.length c)
    rwa [World.size_alloc, World.size_alloc, World.size_alloc] at this
  have bB : Below w.heap.size w ((((w.alloc (Obj.cells #[Value.int IntKind.i64 n] 3)).alloc (Obj.cells (ints (List.replicate ls.length 0)).toArray 3)).alloc (Obj.cells #[Value.slice (some ⟨w.heap.size + 1, 0, none⟩) ls.length ls.length] 23)).alloc (Obj.cells #[Value.slice o ls.length c] 23)) :=
    ((((Below.refl _ _).alloc (Nat.le_refl _) _).alloc (by simp) _).alloc (by simp; omega) _).alloc (by simp; omega) _
  have bS : w.heap.size + 4 = ((((w.alloc (Obj.cells #[Value.int IntKind.i64 n] 3)).alloc (Obj.cells (ints (List.replicate ls.length 0)).toArray 3)).alloc (Obj.cells #[Value.slice (some ⟨w.heap.size + 1, 0, none⟩) ls.length ls.length] 23)).alloc (Obj.cells #[Value.slice o ls.length c] 23)).heap.size := by simp
  generalize (((w.alloc (Obj.cells #[Value.int IntKind.i64 n] 3)).alloc (Obj.cells (ints (List.replicate ls.length 0)).toArray 3)).alloc (Obj.cells #[Value.slice (some ⟨w.heap.size + 1, 0, none⟩) ls.length ls.length] 23)).alloc (Obj.cells #[Value.slice o ls.length c] 23) = w3 at *
  refine (wpIn_wide (n := 9)).1 ?_
  refine wpIn_rangeFunc_ownG (F := Fence.wide) (n := 9) rfl (by decide) (gf := 215) (lb := #[.pointer (some ⟨w.heap.size + 1 + 1 + 1, 0, none⟩)]) rfl trivial (enters_of Tryz.func215 (by kernel_rfl) rfl)
    (back_stops Fence.wide 8 trivial rfl (by decide) (w.heap.size + 1 + 1 + 1) w.heap.size o c ls (by omega) w3 (by omega) (by omega) b3.cell (fun i hi => by
      obtain ⟨b, f, e, hb, hc⟩ := HX.out i hi
      exact ⟨b, f, e, hb, (bB.cell (p := ⟨b, f + i, none⟩) hb).trans hc⟩)) KeepB.trans (KeepB.put (by omega) (by omega)) (Below.refl _ _) (fun _ => rfl)
    (fun pre W => Boxed W (w.heap.size + 2) 23 (.slice (some ⟨w.heap.size + 1, 0, none⟩) ls.length ls.length) ∧ Boxed W w.heap.size 3 (.int .i64 (ixf ls n pre).2) ∧ Blk W (w.heap.size + 1) 3 (ints (ixf ls n pre).1).toArray ∧ Below w.heap.size w W)
    (fun _ _ _ => False)
    (OwnFrom.and (Own.from (boxed_own _ _ (fun _ => _)) _) (OwnFrom.and (Own.from (boxed_own _ _ (fun pre => .int .i64 (ixf ls n pre).2)) _) (OwnFrom.and (Own.from (blk_own _ _ (fun pre => (ints (ixf ls n pre).1).toArray)) _) (ownFrom_below (Nat.le_refl _) (by omega)))))
    (fun _ _ _ _ _ hs _ _ => hs)
    ⟨b2, b1, b0, bB⟩ ?a1 ?assign ?body ?done ?stop
  case assign =>
    intro l x W K hK
    unfold pr
    gi_wp2
    exact hK
  case stop =>
    rintro D c pre W _ _ h _
    exact h.elim
  case body =>
    rintro l pre x W ⟨g1, g2, g3, g4⟩ hlt
    have SN0 := ixf_snoc ls n pre x
    have hL := ixf_len ls n pre
    have hb := HB.out pre
    obtain ⟨j, hj⟩ := x
    have ed : ls.getD j 0 = ls[j] := by simp [List.getD, List.getElem?_eq_getElem hj]
    have d1 : 1 ≤ ls[j] := HP0.out _ (List.getElem_mem hj)
    simp only [ed] at SN0
    have SN := Lib.hid SN0
    clear SN0 ed
    have c1 := g1.cell
    have c2 := g2.cell
    have f2 := g2.frozen
    have c3 := g3.cell j
    rw [ints_at (by omega)] at c3
    have f3 := g3.frozen j
    have hBs := g4.size
    generalize hP : ixf ls n pre = P at *
    have HP := Lib.hid (And.intro hP hL)
    clear hP hL
    generalize P.1.getD j 0 = y at *
    obtain ⟨p0, p1⟩ := hb
    have dz : ¬ ls[j] = 0 := by omega
    gi_wp2
    gi_region
    all_goals
      gi_wp2
      have s1 := (boxed_at g1 (p := ⟨w.heap.size + 1, j, none⟩) (by show w.heap.size + 2 ≠ w.heap.size + 1; omega) (.int .i64 (P.2 % ls[j]))).other (B' := w.heap.size) (by omega) (.int .i64 (P.2 / ls[j]))
      have s2 := (boxed_at g2 (p := ⟨w.heap.size + 1, j, none⟩) (by show w.heap.size ≠ w.heap.size + 1; omega) (.int .i64 (P.2 % ls[j]))).set (.int .i64 (P.2 / ls[j]))
      have s3 := (g3.put j (P.2 % ls[j])).box (B' := w.heap.size) (by omega) (.int .i64 (P.2 / ls[j]))
      have hk := ((KeepsOthers.setCell W ⟨w.heap.size + 1, j, none⟩ (.int .i64 (P.2 % ls[j]))).trans (KeepsOthers.setCell _ ⟨w.heap.size, 0, none⟩ (.int .i64 (P.2 / ls[j])))).from w3.heap.size
      have hp := (KeepB.set (n0 := w.heap.size) (B := w.heap.size + 1 + 1 + 1) (W := W) (p := ⟨w.heap.size + 1, j, none⟩) (by show w.heap.size + 1 ≠ _; omega) (by show w.heap.size ≤ w.heap.size + 1; omega) (.int .i64 (P.2 % ls[j]))).trans (KeepB.set (p := ⟨w.heap.size, 0, none⟩) (by show w.heap.size ≠ _; omega) (Nat.le_refl _) (.int .i64 (P.2 / ls[j])))
      refine ⟨⟨hk.size, hk.same⟩, ⟨hp.1, hp.2⟩, s1, ?_, ?_, ((g4.setCell (by show w.heap.size ≤ w.heap.size + 1; omega) _).setCell (Nat.le_refl _) _).drew⟩
      · rw [SN.out]; exact s2
      · rw [SN.out]; exact s3
  case done =>
    rintro D ys W hD rfl ⟨g1, g2, g3, g4⟩ hK
    have c1 := g1.cell
    have hfin := g4.trans (belowK_b (w := w) (Nat.le_refl _) W D _ (.deferred none) (by omega) hK rfl rfl)
    have g5 : Blk (W.putObj D (.deferred none)) (w.heap.size + 1) 3 (ints (atl ls n)).toArray := by
      rw [← HE.out]
      exact g3.kept (grownBy_putObj' W D _) (by intro e; cases e; have := g3.lt; omega)
    clear g3
    go_wp2
    refine ⟨by simp, .inl ⟨_, _, rfl, run_takeDeferred hK, ?_⟩⟩
    exact ⟨_, results_tmp rfl _ _ _, rfl, g5, hfin⟩

end Go.Proofs.YtmafgdinegboeaaGreat
namespace Go.Proofs.YtmafgdinegboeaaGreat
open Go.RowKit

theorem blk3 {W : World} {b : Nat} {t : TypeId} {x y z : Value} (h : Blk W b t #[x, y, z]) : W.cell? ⟨b, 0, none⟩ = some x ∧ W.cell? ⟨b, 1, none⟩ = some y ∧ W.cell? ⟨b, 2, none⟩ = some z ∧ W.frozen? ⟨b, 0, none⟩ = false ∧ W.frozen? ⟨b, 1, none⟩ = false ∧ W.frozen? ⟨b, 2, none⟩ = false :=
  ⟨h.cell 0, h.cell 1, h.cell 2, h.frozen 0, h.frozen 1, h.frozen 2⟩
theorem blk_box {w W : World} {cs : Array Value} {t : TypeId} {B : Nat} (h : Below B (w.alloc (.cells cs t)) W) (hB : w.heap.size < B) : Blk W w.heap.size t cs := (Blk.new w t cs).below h hB
set_option maxRecDepth 100000 in
set_option maxHeartbeats 2000000 in
theorem areall_any (v : Value) (ax : List Int) (n : Nat) (w : World) (h : Ld w v ax) (la : ax.length ≤ 17592186044416) (ln : n ≤ 1073741824) :
    Calls Tryz.prog 166 #[v, .int .i64 n] w fun e w' => e = .returned (.bool (axs ax n)) ∧ w = w' := by
  have C := Lib.hid (fun (x : Int) => contains_any v ax x w h la)
  have HX := Lib.hid h
  obtain ⟨o, c, rfl, _, _⟩ := h
  by_cases hl : ax.length = n
  · have HN : Hid (axs ax n = axN ax n) := by unfold axs; rw [decide_eq_true hl]; exact Lib.hid (by simp)
    have hl' : ((ax.length : Int) != (n : Int)) = false := by simp [hl]
    clear hl
    go_enter Tryz.func166, Tryz.ntmps166
    go_wp2
    go_loop [11] (fun s11 => ∃ k : Nat, k ≤ n ∧ s11 = .int .i64 k ∧ Hid (axN ax k = true)) (fun s11 => n - (intOf s11).toNat)
    case atStart => exact ⟨0, Nat.zero_le _, rfl, rfl⟩
    case round =>
      obtain ⟨k, hk, rfl, HK⟩ := hrel
      by_cases hlt : k < n
      · have C1 := Lib.hid (C.out k)
        by_cases g : (k : Int) ∈ ax
        · have R : Hid (axN ax (k + 1) = true) := by unfold axN; rw [HK.out, decide_eq_true g]; exact Lib.hid rfl
          rw [decide_eq_true g] at C1
          clear g
          go_wp2_with (go_at_call 146; (with_reducible refine C1.out.mono ?_); rintro e w' ⟨rfl, rfl⟩)
          exact ⟨⟨k + 1, by omega, by go_num, R⟩, by simp [intOf]; omega⟩
        · have R : Hid (axs ax n = false) := by
            rw [Hid, HN.out]
            cases h : axN ax n with
            | false => rfl
            | true => exact absurd (axN_iff.1 h k hlt) g
          rw [decide_eq_false g] at C1
          clear g
          go_wp2_with (go_at_call 146; (with_reducible refine C1.out.mono ?_); rintro e w' ⟨rfl, rfl⟩)
          go_ret
          exact ⟨by rw [R.out]; rfl, rfl⟩
      · have R : Hid (axs ax n = true) := by rw [Hid, HN.out, ← show k = n by omega]; exact HK.out
        go_wp2
        go_ret
        exact ⟨by rw [R.out]; rfl, rfl⟩
  · have R : Hid (axs ax n = false) := by unfold axs; rw [decide_eq_false hl]; exact Lib.hid rfl
    have hl' : ((ax.length : Int) != (n : Int)) = true := by rw [bne_iff_ne]; omega
    clear hl
    go_enter Tryz.func166, Tryz.ntmps166
    go_wp2
    go_ret
    exact ⟨by rw [R.out]; rfl, rfl⟩



def Ov (w : World) (base : Nat) (vs vt : Value) (sh st : List Int) : Prop := w.ownsRow base 3 1 vs sh.length (ints sh) ∧ w.ownsRow base 3 1 vt st.length (ints st) ∧ ∀ g, vs.ownBlock = some g → ¬ vt.ownBlock = some g
def SomeV (w : World) (er : Int) (sh st : List Int) (off : Int) (e : Ending) (w' : World) : Prop := ∃ os cs ot ct, e = .returned (.tuple #[.agg #[.slice os sh.length cs, .slice ot st.length ct, .int .i64 off], .int .i64 er]) ∧ Ov w' w.heap.size (.slice os sh.length cs) (.slice ot st.length ct) sh st ∧ Below w.heap.size w w'
theorem ov_nil (w : World) (base : Nat) : Ov w base (.slice none 0 0) (.slice none 0 0) [] [] := ⟨World.ownsRow_nil _ _ _ _, World.ownsRow_nil _ _ _ _, fun g h => by simp [Value.ownBlock] at h⟩
theorem someV_no (w w' : World) (er : Int) (h : Below w.heap.size w w') : SomeV w er [] [] 0 (.returned (.tuple #[.agg #[.slice none 0 0, .slice none 0 0, .int .i64 0], .int .i64 er])) w' := ⟨none, 0, none, 0, rfl, ov_nil _ _, h⟩
theorem Below.keepOwn {w w' : World} {B base n : Nat} {e : TypeId} {v : Value} {xs : List Value} (h : w.ownsRow base e 1 v n xs) (hb : Below B w w') (hB : w.heap.size ≤ B) : w'.ownsRow base e 1 v n xs := by
  refine ⟨h.1, ?_⟩
  rcases h.2 with a | ⟨g, cap, cur, e1, e2, e3, rest⟩
  · exact .inl a
  · exact .inr ⟨g, cap, cur, e1, e2, (hb.block g (by have := (Array.getElem?_eq_some_iff.1 e3).1; omega)).trans e3, rest⟩
theorem own_base {w : World} {base base' n : Nat} {e : TypeId} {v : Value} {xs : List Value} (h : w.ownsRow base e 1 v n xs) (hb : base' ≤ base) : w.ownsRow base' e 1 v n xs := by
  refine ⟨h.1, ?_⟩
  rcases h.2 with a | ⟨g, cap, cur, e1, e2, rest⟩
  · exact .inl a
  · exact .inr ⟨g, cap, cur, e1, by omega, rest⟩
theorem own_apart {w : World} {base base' n n' : Nat} {e e' : TypeId} {v v' : Value} {xs xs' : List Value} {w' : World} (h : w.ownsRow base e 1 v n xs) (h' : w'.ownsRow base' e' 1 v' n' xs') (hb : w.heap.size ≤ base') : (∀ g, v.ownBlock = some g → ¬ v'.ownBlock = some g) ∧ (∀ g, v'.ownBlock = some g → ¬ v.ownBlock = some g) := by
  refine ⟨fun g a b => ?_, fun g a b => ?_⟩
  · have := (h.lt g a).2; have := (h'.lt g b).1; omega
  · have := (h.lt g b).2; have := (h'.lt g a).1; omega

theorem own_not_box {w : World} {base n b : Nat} {v : Value} {xs : List Value} {cs : Array Value} (h : w.ownsRow base 3 1 v n xs) (hb : Blk w b 168 cs) : ¬ v.ownBlock = some b := by
  intro e
  rcases h.2 with ⟨rfl, _⟩ | ⟨g, cap, cur, rfl, _, hh, _⟩
  · simp [Value.ownBlock] at e
  · simp only [Value.ownBlock, Option.some.injEq] at e
    subst e
    have := hh.symm.trans hb
    simp at this
theorem Ov.kept {w w' : World} {base : Nat} {vs vt : Value} {sh st : List Int} {row : Option Nat} (h : Ov w base vs vt sh st) (hg : w.grownBy w' row) (h1 : ¬ vs.ownBlock = row ∨ row = none) (h2 : ¬ vt.ownBlock = row ∨ row = none) : Ov w' base vs vt sh st := by
  refine ⟨h.1.kept hg ?_, h.2.1.kept hg ?_, h.2.2⟩
  · rcases h1 with h1 | rfl
    · exact .inr h1
    · cases e : vs.ownBlock with
      | none => exact .inl rfl
      | some g => exact .inr (by simp)
  · rcases h2 with h2 | rfl
    · exact .inr h2
    · cases e : vt.ownBlock with
      | none => exact .inl rfl
      | some g => exact .inr (by simp)
theorem Ov.base {w : World} {base base' : Nat} {vs vt : Value} {sh st : List Int} (h : Ov w base vs vt sh st) (hb : base' ≤ base) : Ov w base' vs vt sh st := ⟨own_base h.1 hb, own_base h.2.1 hb, h.2.2⟩
theorem grown_box3 (W : World) (b : Nat) (x y z : Value) : W.grownBy (((W.setCell ⟨b, 0, none⟩ x).setCell ⟨b, 1, none⟩ y).setCell ⟨b, 2, none⟩ z) (some b) := ⟨rfl, rfl, rfl, by simp, fun j _ hne => by
  have hn : ∀ k, j ≠ (⟨b, k, none⟩ : Addr).block := fun k e => hne (by rw [e])
  exact (Below.heap_setCell _ _ _ j (hn 2)).trans ((Below.heap_setCell _ _ _ j (hn 1)).trans (Below.heap_setCell _ _ _ j (hn 0)))⟩
theorem someV_end {w W : World} {b : Nat} {os ot : Option Addr} {ns nt cs ct : Nat} {off er : Int} {sh st : List Int} {x : Array Value} (hb : w.heap.size ≤ b) (hB : Below w.heap.size w W) (hx : Blk W b 168 x) (e1 : ns = sh.length) (e2 : nt = st.length)
    (ho : Ov W w.heap.size (.slice os ns cs) (.slice ot nt ct) sh st) :
    SomeV w er sh st off (.returned (.tuple #[.agg #[.slice os ns cs, .slice ot nt ct, .int .i64 off], .int .i64 er])) (((W.setCell ⟨b, 0, none⟩ (.slice os ns cs)).setCell ⟨b, 1, none⟩ (.slice ot nt ct)).setCell ⟨b, 2, none⟩ (.int .i64 off)) := by
  subst e1 e2
  have hg := grown_box3 W b (.slice os sh.length cs) (.slice ot st.length ct) (.int .i64 off)
  exact ⟨os, cs, ot, ct, rfl, ho.kept hg (.inl (own_not_box ho.1 hx)) (.inl (own_not_box ho.2.1 hx)), hB.grown hg hB.size (fun k e => by cases e; exact hb)⟩
theorem stl_own {W : World} {base g : Nat} {s : List Int} (h : Blk W g 3 (ints (stl s)).toArray) (hb : base ≤ g) (hm : s.length ≤ 65536) : W.ownsRow base 3 1 (.slice (some ⟨g, 0, none⟩) s.length s.length) (stl s).length (ints (stl s)) := by
  have := h.owns (base := base) hb (by rw [stl_len]; exact hm)
  rwa [stl_len] at this ⊢

set_option maxRecDepth 100000 in
set_option maxHeartbeats 4000000 in
theorem of_any (v : Value) (ls : List Int) (w : World) (h : Ld w v ls) (ll : ls.length ≤ 17592186044000) :
    Calls Tryz.prog 104 #[v] w (SomeV w (ofe ls) (unl (ofe ls) ls) (unl (ofe ls) (stl ls)) 0) := by
  have hB0 : Below w.heap.size w (w.alloc (.cells #[.slice none 0 0, .slice none 0 0, .int .i64 0] 168)) := (Below.refl _ _).alloc (Nat.le_refl _) _
  cases hm : may ls with
  | false =>
    have CS := strides_no v ls _ (h.below hB0) hm
    replace CS := Lib.hid CS
    have R : Hid (ofe ls = 1) := by unfold ofe; rw [hm]; exact Lib.hid rfl
    obtain ⟨o, c, rfl, _, _⟩ := h
    clear hm
    go_enter Tryz.func104, Tryz.ntmps104
    go_wp2_with (first | (go_at_call 164; (with_reducible refine CS.out.mono ?_); rintro e w2 ⟨rfl, rfl⟩))
    refine bodyPost_ret (v := .tuple #[.agg #[.slice none 0 0, .slice none 0 0, .int .i64 0], .int .i64 1]) (by simp [results, Tryz.results104, go_sem]) rfl ?_
    rw [R.out]
    exact someV_no _ _ 1 hB0
  | true =>
    have CS := strides_ok v ls _ (h.below hB0) hm
    simp only [World.size_alloc] at CS
    replace CS := Lib.hid CS
    have CL := Lib.hid (fun (W : World) (hb : Below w.heap.size w W) => cloned_any v ls W (h.below hb) ll)
    have R : Hid (ofe ls = 0) := by unfold ofe; rw [hm]; exact Lib.hid rfl
    have HL : Hid (ls.length ≤ 65536) := by have := may_len hm; exact Lib.hid (by omega)
    obtain ⟨o, c, rfl, _, _⟩ := h
    clear hm
    go_enter Tryz.func104, Tryz.ntmps104
    go_wp2_with (first | (go_at_call 164; (with_reducible refine CS.out.mono ?_); rintro e w2 ⟨rfl, hk2, hb2⟩; have X2 := Lib.hid (blk_box hb2 (by simp)); have B2 := Lib.hid (hB0.trans (hb2.mono (by simp))); have K2 := Lib.hid hk2; have S2 := hb2.size; simp only [World.size_alloc] at S2; clear hb2 hk2) | (go_at_call 145; (with_reducible refine (CL.out _ B2.out).mono ?_); rintro e w3 ⟨o3, c3, rfl, ho3, hl3, hb3⟩; have D3 := Lib.hid (And.intro ho3 hb3); obtain ⟨d0, d1, d2, f0, f1, f2⟩ := blk3 (X2.out.below hb3 X2.out.lt); clear ho3 hl3 hb3))
    refine bodyPost_ret (v := .tuple #[.agg #[.slice o3 ls.length c3, .slice (some ⟨w.heap.size + 1, 0, none⟩) ls.length ls.length, .int .i64 0], .int .i64 0]) (by simp [results, Tryz.results104, go_sem, d0, d1, d2]) rfl ?_
    rw [R.out]
    refine someV_end (Nat.le_refl _) (B2.out.trans (D3.out.2.mono B2.out.size)) (X2.out.below D3.out.2 X2.out.lt) (by simp [unl]) (by simp [unl, stl_len]) ?_
    have l3 := own_apart (e := 3) (stl_own K2.out (Nat.le_add_right _ _) HL.out) D3.out.1 (Nat.le_refl _)
    exact ⟨own_base D3.out.1 B2.out.size, Below.keepOwn (stl_own K2.out (Nat.le_add_right _ _) HL.out) D3.out.2 (Nat.le_refl _), l3.2⟩
end Go.Proofs.YtmafgdinegboeaaGreat
