/-
  
  
  
  
  
-/
import Derived.WalkKit
import Derived.WalkSpells
import Derived.Lib.Hide
import Derived.LoopTactic
import Derived.OwnWalk
import Derived.Laws.AppendOwn
import Derived.Deep.RegionHeld3
import Derived.Deep.AppendLies
import Derived.Test.YtmafgdinegboeaaGreatM01
import Derived.Test.YtmafgdinegboeaaGreatM07
import Derived.Test.YtmafgdinegboeaaGreatM08
import Derived.Test.YtmafgdinegboeaaGreatM11
import Derived.Test.YtmafgdinegboeaaGreatM18
import Derived.Test.YtmafgdinegboeaaGreatM20
namespace Go.Proofs.YtmafgdinegboeaaGreat
open Go Go.RowKit Go.Shelf

theorem ld_at' {W : World} {v : Value} {k : Nat} {ls : List Int} (h : Ld W v ls) (hk : k < ls.length) : ∃ g f, (∃ c, v = .slice (some ⟨g, f, none⟩) ls.length c ∧ ls.length ≤ c) ∧ W.cell? ⟨g, f + k, none⟩ = some (.int .i64 (ls.getD k 0)) := by
  obtain ⟨o, c, rfl, hc, hx⟩ := h
  obtain ⟨g, f, rfl, _, hcell⟩ := hx k hk
  exact ⟨g, f, ⟨c, rfl, hc⟩, hcell⟩
theorem own_two9 {W : World} {base n : Nat} {v : Value} {ls : List Int} {x y : Int} (h : W.ownsRow base 3 1 v n (ints ls ++ [.int .i64 x, .int .i64 y])) : W.ownsRow base 3 1 v n (ints (ls ++ [x, y])) := by
  rwa [show ints (ls ++ [x, y]) = ints ls ++ [.int .i64 x, .int .i64 y] by unfold ints; simp]
set_option maxRecDepth 100000 in
set_option maxHeartbeats 6000000 in
theorem rpair_any (va vb vi : Value) (a b i : List Int) (k : Nat) (z P Q : Int) (w : World) (ha : Ld w va a) (hb : Ld w vb b) (hi : Ld w vi i) (ma : may a = true) (mb : may b = true) (h2 : 2 ≤ a.length) (hbl : b.length = 2 ∨ b.length = a.length) (hil : i.length = a.length) (hk : k ≤ 4096)
    (hrow : inx a (i.take (a.length - 1) ++ [(k : Int)]) = true ∧ ix a (i.take (a.length - 1) ++ [(k : Int)]) = P) (hz : i.getD (a.length - 1) 0 = z)
    (hc2 : b.length = 2 → inx b [(k : Int), z] = true ∧ ix b [(k : Int), z] = Q) (hc3 : b.length = a.length → inx b (i.take (a.length - 2) ++ [(k : Int), z]) = true ∧ ix b (i.take (a.length - 2) ++ [(k : Int), z]) = Q) :
    Calls Tryz.prog 98 #[va, vb, vi, .int .i64 (k : Nat)] w fun e w' => e = .returned (.tuple #[.int .i64 P, .int .i64 Q]) ∧ Below w.heap.size w w' := by
  obtain ⟨i0, hi0, hz0, hz1, hz2⟩ := info_parts infoI
  have l4 := may_len ma
  have hA := Lib.hid ha
  have hB := Lib.hid hb
  obtain ⟨oa, ca, rfl, _, _⟩ := ha
  obtain ⟨ob, cb, rfl, _, _⟩ := hb
  obtain ⟨gi, fi, hoi, zi⟩ := ld_at' hi (k := a.length - 1) (by omega)
  obtain ⟨ci, hvi, hci⟩ := hoi
  subst hvi
  have HI := Lib.hid hi
  rw [hz] at zi
  obtain ⟨la1, hla1⟩ : ∃ m, m = a.length - 1 := ⟨_, rfl⟩
  obtain ⟨la2, hla2⟩ : ∃ m, m = a.length - 2 := ⟨_, rfl⟩
  have E12 := Lib.hid (And.intro (nat_wrap_sub (a := a.length) (k := 1) (c := la1) (by omega) (by omega) (by decide)) (nat_wrap_sub (a := a.length) (k := 2) (c := la2) (by omega) (by omega) (by decide)))
  have hT1 : (i.take la1).length = la1 := by rw [List.length_take]; omega
  have hT2 : (i.take la2).length = la2 := by rw [List.length_take]; omega
  rw [← hla1] at hrow zi hz
  rw [← hla2] at hc3
  have KC1 := Lib.hid (fun (W : World) (h : Below w.heap.size w W) => (copy_any (.slice (some ⟨gi, fi, none⟩) la1 ci) (i.take la1) W (by have q := ld_fst (HI.out.below h) (n := la1) (by omega); exact q) (by rw [hT1]; omega)).mono (fun e w' hh => someC_take hT1 hh))
  have KC2' := Lib.hid (fun (W : World) (h : Below w.heap.size w W) => (copy_any (.slice (some ⟨gi, fi, none⟩) la2 ci) (i.take la2) W (by have q := ld_fst (HI.out.below h) (n := la2) (by omega); exact q) (by rw [hT2]; omega)).mono (fun e w' hh => someC_take hT2 hh))
  have HZI : Hid (∀ W, Below w.heap.size w W → W.cell? ⟨gi, fi + la1, none⟩ = some (.int .i64 z)) := Lib.hid (fun W h => by rw [← hz]; exact ld_cell (HI.out.below h) (by omega))
  have rp1 := fun (W : World) => run_fst Tryz.underlying23 infoN.1 infoN.2 gi fi i.length ci la1 (by omega) (by omega) W
  have i1 : (la1 : Int) < (i.length : Int) := by omega
  have i3 : la1 < i.length := by omega
  have hl1 : (0 : Int) ≤ (la1 : Int) := by omega
  have HL := Lib.hid (And.intro h2 (And.intro l4 (And.intro hla1 (And.intro hla2 (And.intro hil hci)))))
  have HM := Lib.hid (And.intro ma mb)
  have HT2 := Lib.hid hT2
  have HT1 := Lib.hid hT1
  have HR := Lib.hid hrow
  have HC := Lib.hid (And.intro hc2 (And.intro hc3 hbl))
  obtain ⟨⟨e1, e2⟩, ⟨e3, e4⟩⟩ := E12.out
  rw [hil] at rp1 i1 i3 HI ⊢
  clear ma mb h2 l4 hla1 hla2 hil hci hT1 hT2 hrow hc2 hc3 hbl hz E12 hi
  go_enter Tryz.func98, Tryz.ntmps98
  go_upto_region 3 with (first
    | (go_at_call 58; (with_reducible refine (KC1.out _ (Below.refl _ _)).mono ?_); rintro e w2 ⟨oc, cc, rfl, ho, hb⟩; have B2 := Lib.hid hb; have O2 := Lib.hid ho; clear ho hb)
    | (at_builtin; refine wpList_append_own _ rfl _ _ 23 rfl w.heap.size 3 i0 (.int .i64 0) 1 8 Tryz.underlying23 hi0 hz0 hz1 hz2 rfl (by decide) (.slice oc la1 cc) la1 (ints (i.take la1)) rfl (O2.out.alloc _) ⟨w2.heap.size, 0, none⟩ 1 1 [.int .i64 (k : Int)] rfl rfl ?c1 ?c2 ?c3 ?c4 ?c5 ?_))
  case c1 => exact (cell_one_new _ _ _)
  case c2 => simp [Value.oneCell']
  case c3 => have := HL.out; unfold maxLen; omega
  case c4 => have := HL.out; omega
  case c5 => have := B2.out.size; simp; omega
  intro u3 w3 hown1 hgrow _
  obtain ⟨oX, cX, rfl⟩ := own_form1 hown1
  have B3 := Lib.hid ((B2.out.alloc B2.out.size (.cells #[.int .i64 (k : Int)] 3)).grown hgrow (by have := B2.out.size; simp; omega) (fun q e => (O2.out.lt q e).1))
  have LX3 : Hid (Ld w3 (.slice oX (la1 + 1) cX) (i.take la1 ++ [(k : Int)])) := Lib.hid (Ld.of_own' (own_msh hown1) (by rw [List.length_append, HT1.out]; rfl))
  clear hown1 hgrow B2 O2
  have y1 := HZI.out _ B3.out
  go_upto_region 4 with fail
  obtain ⟨w5, hw5⟩ : ∃ v, v = w3.alloc (.cells #[.int .i64 (k : Int), .int .i64 z] 3) := ⟨_, rfl⟩
  obtain ⟨gY, hgY⟩ : ∃ v, v = w3.heap.size := ⟨_, rfl⟩
  rw [← hw5, ← hgY]
  have BW : Hid (Below w.heap.size w w5) := Lib.hid (by rw [hw5]; exact B3.out.alloc B3.out.size _)
  have LX : Hid (Ld w5 (.slice oX (la1 + 1) cX) (i.take la1 ++ [(k : Int)])) := Lib.hid (by rw [hw5]; exact LX3.out.below (al_below _))
  have LY2 : Hid (Ld w5 (.slice (some ⟨gY, 0, none⟩) 2 2) [(k : Int), z]) := Lib.hid (by rw [hw5, hgY]; exact Ld.of_blk (ls := [(k : Int), z]) (Blk.new _ _ _) (Nat.le_refl _))
  clear hw5 hgY B3 LX3 y1 zi
  by_cases hb2 : b.length = 2
  · as_aux_lemma =>
    have d2 : decide ((2 : Int) < (b.length : Int)) = false := by simp; omega
    have HX := Lib.hid (And.intro HR.out (HC.out.1 hb2))
    have KIa := Lib.hid (rindex_any _ _ a (i.take la1 ++ [(k : Int)]) w5 (hA.out.below BW.out) LX.out HM.out.1 HX.out.1.1)
    have KIb := Lib.hid (fun (W : World) (hW : Below w5.heap.size w5 W) => rindex_any _ _ b [(k : Int), z] W ((hB.out.below BW.out).below hW) (LY2.out.below hW) HM.out.2 HX.out.2.1)
    rw [HX.out.1.2] at KIa
    rw [HX.out.2.2] at KIb
    clear hb2
    go_wp2_with (first | (go_at_call 52; (with_reducible refine KIa.out.mono ?_); rintro e w10 ⟨rfl, hb⟩; have B10 := Lib.hid hb; clear hb) | (go_at_call 52; (with_reducible refine (KIb.out _ B10.out).mono ?_); rintro e w11 ⟨rfl, hb⟩; have B11 := Lib.hid hb; clear hb))
    go_ret2
    exact ⟨rfl, (BW.out.trans (B10.out.mono BW.out.size)).trans (B11.out.mono (by have := BW.out.size; have := B10.out.size; omega))⟩
  · as_aux_lemma =>
    have hba : b.length = a.length := by have := HC.out.2.2; omega
    have d2 : decide ((2 : Int) < (b.length : Int)) = true := by simp; have := HL.out; omega
    have HX := Lib.hid (And.intro HR.out (HC.out.2.1 hba))
    have rp2 := fun (W : World) => run_fst Tryz.underlying23 infoN.1 infoN.2 gi fi a.length ci la2 (by have := HL.out; omega) (by have := HL.out; omega) W
    have KC2 := Lib.hid (fun (W : World) (h : Below w5.heap.size w5 W) => KC2'.out W (BW.out.trans (h.mono BW.out.size)))
    have KS : Hid (∀ W, Below w5.heap.size w5 W → W.cell? ⟨gi, fi + la1, none⟩ = some (.int .i64 z)) := Lib.hid (fun W h => HZI.out W (BW.out.trans (h.mono BW.out.size)))
    clear hb2 hba KC1 KC2' rp1 LY2
    go_upto_region 5 with fail
    have B_0 : Hid (Below w5.heap.size w5 w5.drew) := Lib.hid (below_drw (Below.refl _ _) 1)
    refine wp_region_held_drew (S := fun W => W.cell? ⟨gi, fi + la1, none⟩ = some (.int .i64 z)) (by kernel_rfl) ?_ (fun hHeld => ?_)
    · exact KS.out _ B_0.out
    have hHd := hHeld
    generalize w5.drew = w_0 at *
    (refine tk (i := 0) (oi := ⟨some 33, _, _, _, _, _⟩) (v := ?v0_p1) rfl ?hy0_p1 ?rest0_p1; (case hy0_p1 => intro w hSw; (try dsimp only at hSw); go_simp; first | done | with_reducible rfl))
    (try simp only [Act.put, pq])
    (refine tk (i := 1) (oi := ⟨some 34, _, _, _, _, _⟩) (v := ?v1_p2) rfl ?hy1_p2 ?rest1_p2; (case hy1_p2 => intro w hSw; (try dsimp only at hSw); go_simp; first | done | with_reducible rfl))
    (try simp only [Act.put, pq])
    (refine tk (i := 2) (oi := ⟨some 35, _, _, _, _, _⟩) (v := ?v2_p3) rfl ?hy2_p3 ?rest2_p3; (case hy2_p3 => intro w hSw; (try dsimp only at hSw); go_simp; first | done | with_reducible rfl))
    (try simp only [Act.put, pq])
    (refine tk (i := 3) (oi := ⟨some 36, _, _, _, _, _⟩) (v := ?v3_p4) rfl ?hy3_p4 ?rest3_p4; (case hy3_p4 => intro w hSw; (try dsimp only at hSw); go_simp; first | done | with_reducible rfl))
    (try simp only [Act.put, pq])
    (refine tk (i := 5) (oi := ⟨some 38, _, _, _, _, _⟩) (v := ?v5_p5) rfl ?hy5_p5 ?rest5_p5; (case hy5_p5 => intro w hSw; (try dsimp only at hSw); go_simp; first | done | with_reducible rfl))
    (try simp only [Act.put, pq])
    (refine tk (i := 6) (oi := ⟨some 39, _, _, _, _, _⟩) (v := ?v6_p6) rfl ?hy6_p6 ?rest6_p6; (case hy6_p6 => intro w hSw; (try dsimp only at hSw); go_simp; first | done | with_reducible rfl))
    (try simp only [Act.put, pq])
    (refine tk (i := 7) (oi := ⟨some 40, _, _, _, _, _⟩) (v := ?v7_p7) rfl ?hy7_p7 ?rest7_p7; (case hy7_p7 => intro w hSw; (try dsimp only at hSw); go_simp; first | done | with_reducible rfl))
    (try simp only [Act.put, pq])
    (refine tk (i := 8) (oi := ⟨some 41, _, _, _, _, _⟩) (v := ?v8_p8) rfl ?hy8_p8 ?rest8_p8; (case hy8_p8 => intro w hSw; (try dsimp only at hSw); go_simp; first | done | with_reducible rfl))
    (try simp only [Act.put, pq])
    (refine tk (i := 9) (oi := ⟨some 42, _, _, _, _, _⟩) (v := ?v9_p9) rfl ?hy9_p9 ?rest9_p9; (case hy9_p9 => intro w hSw; (try dsimp only at hSw); go_simp; first | done | with_reducible rfl))
    (try simp only [Act.put, pq])
    (refine tk (i := 10) (oi := ⟨some 43, _, _, _, _, _⟩) (v := ?v10_p10) rfl ?hy10_p10 ?rest10_p10; (case hy10_p10 => intro w hSw; (try dsimp only at hSw); go_simp; first | done | with_reducible rfl))
    (try simp only [Act.put, pq])
    refine wpAnyH_ready (rs := [4, 11]) (by kernel_rfl) (by simp) ?_
    refine AllReadyH.cons (o := ⟨some 37, _, _, _, _, _⟩) rfl (fun K hK => ?_) (AllReadyH.cons (o := ⟨some 44, _, _, _, _, _⟩) rfl (fun K hK => ?_) (AllReadyH.nil))
    · go_simp
      (go_at_call 58; (with_reducible refine (KC2.out _ B_0.out).mono ?_); rintro e w_1 ⟨oc, cc, rfl, ho, hb⟩; have B_1 := Lib.hid (B_0.out.trans (hb.mono B_0.out.size)); have O_1 := Lib.hid (own_base (base' := w5.heap.size) ho B_0.out.size); clear ho hb)
      refine hK.out _ _ ?_ (fun hHeld => ?_)
      · (try dsimp only)
        exact KS.out _ B_1.out
      clear hK K
      (try simp only [Act.put, pq])
      refine wpAnyH_ready (rs := [11]) (by kernel_rfl) (by simp) ?_
      refine AllReadyH.cons (o := ⟨some 44, _, _, _, _, _⟩) rfl (fun K hK => ?_) (AllReadyH.nil)
      go_simp
      have X_2 := Lib.hid (Blk.new w_1 3 #[.int .i64 k, .int .i64 z])
      have B_2 := Lib.hid (B_1.out.alloc B_1.out.size (.cells #[.int .i64 k, .int .i64 z] 3))
      have O_2 := Lib.hid (O_1.out.alloc (.cells #[.int .i64 k, .int .i64 z] 3))
      refine hK.out _ _ ?_ (fun hHeld => ?_)
      · (try dsimp only)
        exact KS.out _ B_2.out
      clear hK K
      generalize w_1.alloc (.cells #[.int .i64 k, .int .i64 z] 3) = w_2 at *
      (try simp only [Act.put, pq])
      refine wpAnyH_ready (rs := [12]) (by kernel_rfl) (by simp) ?_
      refine AllReadyH.cons (o := ⟨some 45, _, _, _, _, _⟩) rfl (fun K hK => ?_) (AllReadyH.nil)
      refine step_append_lies _ (by rfl) (.tmp 37) (.tmp 44) 23 (by rfl) w5.heap.size 3 i0 (.int .i64 0) 1 8 Tryz.underlying23 hi0 hz0 hz1 hz2 rfl (by decide) (.slice oc la2 cc) la2 (ints (i.take la2)) (by rfl) O_2.out ⟨w_1.heap.size, 0, none⟩ 2 2 [.int .i64 k, .int .i64 z] (by rfl) rfl (World.news_of_block X_2.out) (by simp [Value.oneCell']) (by decide) (by have := HL.out; unfold maxLen; omega) (by have := HL.out; omega) B_2.out.size w_2.heap.size rfl ?_
      intro g9 cp9 w9 hown hgrow hat _
      have F9 := Lib.hid (own_two9 hown)
      have B9 := Lib.hid (B_2.out.grown hgrow B_2.out.size (fun q e => (O_2.out.lt q e).1))
      clear hown hgrow hat
      refine hK.out _ _ ?_ (fun hHeld => ?_)
      · (try dsimp only)
        exact KS.out _ B9.out
      clear hK K
      (try simp only [Act.put, pq])
      (refine tk (i := 13) (oi := ⟨some 12, _, _, _, _, _⟩) (v := ?v13_p11) rfl ?hy13_p11 ?rest13_p11; (case hy13_p11 => intro w hSw; (try dsimp only at hSw); go_simp; first | done | with_reducible rfl))
      (try simp only [Act.put, pq])
      refine wpAnyH_done (by kernel_rfl) ?_ _
      have LY := Lib.hid (Ld.of_own' F9.out (by rw [List.length_append, HT2.out]; rfl))
      have LX9 := Lib.hid (LX.out.below B9.out)
      have KIa := Lib.hid (rindex_any _ _ a (i.take la1 ++ [(k : Int)]) w9 (hA.out.below (BW.out.trans (B9.out.mono BW.out.size))) LX9.out HM.out.1 HX.out.1.1)
      have KIb := Lib.hid (fun (W : World) (hW : Below w9.heap.size w9 W) => rindex_any _ _ b (i.take la2 ++ [(k : Int), z]) W ((hB.out.below (BW.out.trans (B9.out.mono BW.out.size))).below hW) (LY.out.below hW) HM.out.2 HX.out.2.1)
      rw [HX.out.1.2] at KIa
      rw [HX.out.2.2] at KIb
      go_wp2_with (first | (go_at_call 52; (with_reducible refine KIa.out.mono ?_); rintro e w10 ⟨rfl, hb⟩; have B10 := Lib.hid hb; clear hb) | (go_at_call 52; (with_reducible refine (KIb.out _ B10.out).mono ?_); rintro e w11 ⟨rfl, hb⟩; have B11 := Lib.hid hb; clear hb))
      go_ret2
      exact ⟨rfl, ((BW.out.trans (B9.out.mono BW.out.size)).trans (B10.out.mono (by have := BW.out.size; have := B9.out.size; omega))).trans (B11.out.mono (by have := BW.out.size; have := B9.out.size; have := B10.out.size; omega))⟩
    · go_simp
      have X_3 := Lib.hid (Blk.new w_0 3 #[.int .i64 k, .int .i64 z])
      have B_3 := Lib.hid (B_0.out.alloc B_0.out.size (.cells #[.int .i64 k, .int .i64 z] 3))
      refine hK.out _ _ ?_ (fun hHeld => ?_)
      · (try dsimp only)
        exact KS.out _ B_3.out
      clear hK K
      generalize w_0.alloc (.cells #[.int .i64 k, .int .i64 z] 3) = w_3 at *
      (try simp only [Act.put, pq])
      refine wpAnyH_ready (rs := [4]) (by kernel_rfl) (by simp) ?_
      refine AllReadyH.cons (o := ⟨some 37, _, _, _, _, _⟩) rfl (fun K hK => ?_) (AllReadyH.nil)
      go_simp
      (go_at_call 58; (with_reducible refine (KC2.out _ B_3.out).mono ?_); rintro e w_4 ⟨oc, cc, rfl, ho, hb⟩; have B_4 := Lib.hid (B_3.out.trans (hb.mono B_3.out.size)); have O_4 := Lib.hid (own_base (base' := w5.heap.size) ho B_3.out.size); have X_4 := Lib.hid (X_3.out.below hb X_3.out.lt); clear ho hb)
      refine hK.out _ _ ?_ (fun hHeld => ?_)
      · (try dsimp only)
        exact KS.out _ B_4.out
      clear hK K
      (try simp only [Act.put, pq])
      refine wpAnyH_ready (rs := [12]) (by kernel_rfl) (by simp) ?_
      refine AllReadyH.cons (o := ⟨some 45, _, _, _, _, _⟩) rfl (fun K hK => ?_) (AllReadyH.nil)
      refine step_append_lies _ (by rfl) (.tmp 37) (.tmp 44) 23 (by rfl) w5.heap.size 3 i0 (.int .i64 0) 1 8 Tryz.underlying23 hi0 hz0 hz1 hz2 rfl (by decide) (.slice oc la2 cc) la2 (ints (i.take la2)) (by rfl) O_4.out ⟨w_0.heap.size, 0, none⟩ 2 2 [.int .i64 k, .int .i64 z] (by rfl) rfl (World.news_of_block X_4.out) (by simp [Value.oneCell']) (by decide) (by have := HL.out; unfold maxLen; omega) (by have := HL.out; omega) B_4.out.size w_4.heap.size rfl ?_
      intro g9 cp9 w9 hown hgrow hat _
      have F9 := Lib.hid (own_two9 hown)
      have B9 := Lib.hid (B_4.out.grown hgrow B_4.out.size (fun q e => (O_4.out.lt q e).1))
      clear hown hgrow hat
      refine hK.out _ _ ?_ (fun hHeld => ?_)
      · (try dsimp only)
        exact KS.out _ B9.out
      clear hK K
      (try simp only [Act.put, pq])
      (refine tk (i := 13) (oi := ⟨some 12, _, _, _, _, _⟩) (v := ?v13_p12) rfl ?hy13_p12 ?rest13_p12; (case hy13_p12 => intro w hSw; (try dsimp only at hSw); go_simp; first | done | with_reducible rfl))
      (try simp only [Act.put, pq])
      refine wpAnyH_done (by kernel_rfl) ?_ _
      have LY := Lib.hid (Ld.of_own' F9.out (by rw [List.length_append, HT2.out]; rfl))
      have LX9 := Lib.hid (LX.out.below B9.out)
      have KIa := Lib.hid (rindex_any _ _ a (i.take la1 ++ [(k : Int)]) w9 (hA.out.below (BW.out.trans (B9.out.mono BW.out.size))) LX9.out HM.out.1 HX.out.1.1)
      have KIb := Lib.hid (fun (W : World) (hW : Below w9.heap.size w9 W) => rindex_any _ _ b (i.take la2 ++ [(k : Int), z]) W ((hB.out.below (BW.out.trans (B9.out.mono BW.out.size))).below hW) (LY.out.below hW) HM.out.2 HX.out.2.1)
      rw [HX.out.1.2] at KIa
      rw [HX.out.2.2] at KIb
      go_wp2_with (first | (go_at_call 52; (with_reducible refine KIa.out.mono ?_); rintro e w10 ⟨rfl, hb⟩; have B10 := Lib.hid hb; clear hb) | (go_at_call 52; (with_reducible refine (KIb.out _ B10.out).mono ?_); rintro e w11 ⟨rfl, hb⟩; have B11 := Lib.hid hb; clear hb))
      go_ret2
      exact ⟨rfl, ((BW.out.trans (B9.out.mono BW.out.size)).trans (B10.out.mono (by have := BW.out.size; have := B9.out.size; omega))).trans (B11.out.mono (by have := BW.out.size; have := B9.out.size; have := B10.out.size; omega))⟩
end Go.Proofs.YtmafgdinegboeaaGreat
namespace Go.Proofs.YtmafgdinegboeaaGreat
open Go Go.RowKit Go.Shelf
attribute [local go_sem] Oper.semAt_some

theorem ldg1 {W : World} {T i : Nat} {v u : Value} {ls : List Int} (h : Ld W v ls) (hn : ∀ x : Int, W.cell? ⟨T, i, none⟩ ≠ some (.int .i64 x)) : Ld (W.setCell ⟨T, i, none⟩ u) v ls := by
  obtain ⟨o, c, rfl, hc, hx⟩ := h
  refine ⟨o, c, rfl, hc, fun j hj => ?_⟩
  obtain ⟨b, f, e, hb, hcell⟩ := hx j hj
  refine ⟨b, f, e, by simpa using hb, ?_⟩
  by_cases q : b = T ∧ f + j = i
  · obtain ⟨rfl, rfl⟩ := q
    exact absurd hcell (hn _)
  · rw [← hcell]
    exact World.cell?_setCell_other _ _ _ _ (fun e => q (by simp only [Addr.mk.injEq, and_true] at e; exact ⟨e.1.symm, e.2.symm⟩))
theorem ldg2 {W : World} {T : Nat} {x v z : Value} {ls : List Int} {o1 o2 : Option Addr} {n1 n2 c1 c2 : Nat} (hb : Blk W T 26 #[.slice o1 n1 c1, .slice o2 n2 c2]) (h : Ld W v ls) : Ld ((W.setCell ⟨T, 0, none⟩ x).setCell ⟨T, 1, none⟩ z) v ls :=
  ldg1 (ldg1 h (fun y => by rw [hb.cell 0]; simp)) (fun y => by rw [(hb.set_ 0 x).cell 1]; simp)
theorem numg_any (x : Int) (w : World) : Calls Tryz.prog 64 #[.int .i64 x] w fun e w' => e = .returned (.int .i64 x) ∧ w = w' := by
  go_enter Tryz.func64, Tryz.ntmps64
  go_wp2
  go_ret
  exact ⟨rfl, rfl⟩
set_option maxRecDepth 100000 in
set_option maxHeartbeats 4000000 in
theorem spoilg_any (base : Nat) (vs vd : Value) (sh ds : List Int) (w : World) (h1 : w.ownsRow base 3 1 vs sh.length (ints sh)) (h2 : w.ownsRow base 2 1 vd ds.length (ints ds)) (hb : base ≤ w.heap.size) (l1 : sh.length ≤ 65536) (l2 : ds.length ≤ 65536) :
    Calls Tryz.prog 65 #[.agg #[vs, vd]] w fun e w' => e = .returned (.tuple #[]) ∧ Below base w w' ∧ ∀ (B : Nat) (cs : Array Value), Blk w B 26 cs → Blk w' B 26 cs := by
  have hap : ∀ g, vs.ownBlock = some g → ¬ vd.ownBlock = some g := fun g e1 e2 => by
    rcases h1.2 with ⟨rfl, _⟩ | ⟨g1, _, _, rfl, _, hh1, _⟩
    · simp [Value.ownBlock] at e1
    · rcases h2.2 with ⟨rfl, _⟩ | ⟨g2, _, _, rfl, _, hh2, _⟩
      · simp [Value.ownBlock] at e2
      · simp only [Value.ownBlock, Option.some.injEq] at e1 e2
        subst e1; subst e2
        have := hh1.symm.trans hh2
        simp at this
  have C1 := Lib.hid (numberso_any base vs sh (w.alloc (.cells #[vs, vd] 26)) (h1.alloc _) (by simp; omega) l1)
  have C2 := Lib.hid (fun (W : World) (hg : (w.alloc (.cells #[vs, vd] 26)).grownBy W vs.ownBlock) => wordso_any base vd ds W ((h2.alloc _).kept hg (by
    cases e : vd.ownBlock with
    | none => exact .inl rfl
    | some g => exact .inr (fun e2 => hap g (e2 ▸ rfl) e))) (Nat.le_trans (by simp; omega) hg.size) l2)
  have HX := Lib.hid (Blk.new w 26 #[vs, vd])
  have H1 := Lib.hid (And.intro h1 h2)
  have HAP := Lib.hid hap
  clear h1 h2 hap
  go_enter Tryz.func65, Tryz.ntmps65
  go_wp2_with (first | (go_at_call 130; (with_reducible refine C1.out.mono ?_); rintro e w2 ⟨rfl, hg2⟩; obtain ⟨c0, c1, _⟩ := blk2 (HX.out.kept hg2 (fun e => tens_not_row (H1.out.1.alloc _) HX.out (by decide) e.symm)); replace hg2 := Lib.hid hg2) | (go_at_call 131; (with_reducible refine (C2.out _ hg2.out).mono ?_); rintro e w3 ⟨rfl, hg3⟩; replace hg3 := Lib.hid hg3))
  refine bodyPost_end (results_none rfl _ _ _) rfl ?_
  have b1 : Below base w (w.alloc (.cells #[vs, vd] 26)) := (Below.refl _ _).alloc hb _
  have b2 := b1.grown hg2.out (by simp; omega) (fun k e => (H1.out.1.lt k e).1)
  refine ⟨rfl, b2.grown hg3.out (by have := b2.size; omega) (fun k e => (H1.out.2.lt k e).1), fun B cs hB => ?_⟩
  have k2 : World.ownsRow w2 base 2 1 vd ds.length (ints ds) := (H1.out.2.alloc (.cells #[vs, vd] 26)).kept hg2.out (by
    cases e : vd.ownBlock with
    | none => exact .inl rfl
    | some g => exact .inr (fun e2 => HAP.out g (e2 ▸ rfl) e))
  have q2 : Blk w2 B 26 cs := (hB.alloc (.cells #[vs, vd] 26)).kept hg2.out (fun e => tens_not_row (H1.out.1.alloc (.cells #[vs, vd] 26)) (hB.alloc (.cells #[vs, vd] 26)) (by decide) e.symm)
  exact q2.kept hg3.out (fun e => tens_not_row k2 q2 (by decide) e.symm)
set_option maxRecDepth 100000 in
set_option maxHeartbeats 4000000 in
theorem is8_any (base : Nat) (vs vd us ud : Value) (sh ds : List Int) (E : Int) (w : World) (h1 : w.ownsRow base 3 1 vs sh.length (ints sh)) (h2 : w.ownsRow base 2 1 vd ds.length (ints ds)) (hb : base ≤ w.heap.size) (l1 : sh.length ≤ 65536) (l2 : ds.length ≤ 65536) (hu : ∃ o n c, us = .slice o n c) (hv : ∃ o n c, ud = .slice o n c) (hw : E = 0 → Ld w us sh ∧ Ld w ud ds) (he : E ≠ 0 → sh = [] ∧ ds = []) :
    Calls Tryz.prog 17 #[.agg #[vs, vd], .int .i64 E, .agg #[us, ud], .int .i64 E] w fun e w' => e = .returned (.bool true) ∧ Below base w w' ∧ ∀ (B : Nat) (cs : Array Value), Blk w B 26 cs → Blk w' B 26 cs := by
  obtain ⟨o1, c1, e1⟩ := own_form1 h1
  obtain ⟨o2, c2, e2⟩ := own_form1 h2
  subst e1; subst e2
  obtain ⟨o3, n3, c3, rfl⟩ := hu
  obtain ⟨o4, n4, c4, rfl⟩ := hv
  obtain ⟨w2, hw2⟩ : ∃ w2, w2 = (w.alloc (.cells #[.slice o1 sh.length c1, .slice o2 ds.length c2] 26)).alloc (.cells #[.slice o3 n3 c3, .slice o4 n4 c4] 26) := ⟨_, rfl⟩
  have B2 : Hid (Below w.heap.size w w2) := Lib.hid (by rw [hw2]; exact ((Below.refl _ _).alloc (Nat.le_refl _) _).alloc (by simp) _)
  have K0 : Hid (Blk w2 w.heap.size 26 #[.slice o1 sh.length c1, .slice o2 ds.length c2]) := Lib.hid (by rw [hw2]; exact (Blk.new w _ _).alloc _)
  have K1 : Hid (Blk w2 (w.heap.size + 1) 26 #[.slice o3 n3 c3, .slice o4 n4 c4]) := Lib.hid (by rw [hw2]; exact blk_new1 w _ _ _)
  have HS := Lib.hid hb
  have HR := Lib.hid (And.intro h1 h2)
  have hL1 := own_ld h1 rfl
  have hL2 := own_ld h2 rfl
  have SP := Lib.hid (fun (W : World) (hW : Below w.heap.size w W) => spoilg_any base _ _ sh ds W (Below.keepOwn h1 hW (Nat.le_refl _)) (Below.keepOwn h2 hW (Nat.le_refl _)) (Nat.le_trans hb hW.size) l1 l2)
  by_cases h0 : E = 0
  · subst h0
    have EQ := Lib.hid (fun (W : World) (hW : Below w.heap.size w W) => eqtensor_same _ _ _ _ sh ds W (hL1.below hW) (hL2.below hW) ((hw rfl).1.below hW) ((hw rfl).2.below hW) (by omega) (by omega))
    have HW := Lib.hid hw2
    have EQ2 : Hid (Calls Tryz.prog 19 #[.agg #[.slice o1 sh.length c1, .slice o2 ds.length c2], .agg #[.slice o3 n3 c3, .slice o4 n4 c4]] w2 fun e w' => e = .returned (.bool true) ∧ Below w2.heap.size w2 w') := Lib.hid (EQ.out w2 B2.out)
    rw [hw2] at EQ2
    clear hw2 hw he h1 h2 hb hL1 hL2 EQ
    go_enter Tryz.func17, Tryz.ntmps17
    go_wp2_with (first
      | (go_at_call 64; (with_reducible refine (numg_any _ _).mono ?_); rintro e w' ⟨rfl, rfl⟩)
      | (go_at_call 19; (with_reducible refine EQ2.out.mono ?_); rintro e w4 ⟨rfl, hb4⟩; rw [← HW.out] at hb4; have B4 := Lib.hid (B2.out.trans (hb4.mono B2.out.size)); have K4 := Lib.hid (K0.out.below hb4 K0.out.lt); obtain ⟨t0, t1, _⟩ := blk2 K4.out; clear hb4)
      | (go_at_call 65; (with_reducible refine (SP.out _ B4.out).mono ?_); rintro e w5 ⟨rfl, hb5, hk5⟩; have B5 := Lib.hid hb5; have HK5 := Lib.hid hk5; clear hb5 hk5))
    go_ret
    exact ⟨rfl, (B4.out.mono (by have := HS.out; omega)).trans B5.out, fun B cs hB => HK5.out B cs (hB.below B4.out hB.lt)⟩
  · obtain ⟨rfl, rfl⟩ := he h0
    have d0 : (E != 0) = true := bne_iff_ne.2 h0
    have d1 : (E == E) = true := beq_iff_eq.2 rfl
    have EQ2 : Hid (Calls Tryz.prog 19 #[.agg #[.slice o1 0 c1, .slice o2 0 c2], .agg #[.slice none 0 0, .slice none 0 0]] w2 fun e w' => e = .returned (.bool true) ∧ Below w2.heap.size w2 w') := Lib.hid (eqtensor_same _ _ _ _ [] [] w2 (hL1.below B2.out) (hL2.below B2.out) (Ld.nil _) (Ld.nil _) (by simp) (by simp))
    have hw3 : w2 = (w.alloc (.cells #[.slice o1 0 c1, .slice o2 0 c2] 26)).alloc (.cells #[.slice o3 n3 c3, .slice o4 n4 c4] 26) := hw2
    have HW := Lib.hid hw3
    rw [hw3] at EQ2
    clear hw2 hw3 hw he h1 h2 hb hL1 hL2 h0 SP
    go_enter Tryz.func17, Tryz.ntmps17
    go_wp2_with (first
      | (go_at_call 64; (with_reducible refine (numg_any _ _).mono ?_); rintro e w' ⟨rfl, rfl⟩)
      | (go_at_call 19; (with_reducible refine EQ2.out.mono ?_); rintro e w4 ⟨rfl, hb4⟩; rw [← HW.out] at hb4; have B4 := Lib.hid (B2.out.trans (hb4.mono B2.out.size)); clear hb4))
    go_ret
    exact ⟨rfl, B4.out.mono HS.out, fun B cs hB => hB.below B4.out hB.lt⟩
end Go.Proofs.YtmafgdinegboeaaGreat
namespace Go.Proofs.YtmafgdinegboeaaGreat
open Go.RowKit

def trimLen : List Nat → Nat
  | [] => 0
  | x :: ls => if trimLen ls = 0 then (if x = 0 then 0 else 1) else trimLen ls + 1
theorem trimLen_le : ∀ ls : List Nat, trimLen ls ≤ ls.length
  | [] => Nat.le_refl _
  | x :: ls => by
    have := trimLen_le ls
    simp only [trimLen, List.length_cons]
    split
    · split <;> omega
    · omega
theorem trimLen_is : ∀ (ls : List Nat) (k : Nat), k ≤ ls.length → (∀ i, k ≤ i → ls.getD i 0 = 0) → (k = 0 ∨ ls.getD (k - 1) 0 ≠ 0) → trimLen ls = k
  | [], k, h, _, _ => by simp at h; simp [trimLen, h]
  | x :: ls, 0, _, hz, _ => by
    have ih := trimLen_is ls 0 (Nat.zero_le _) (fun i _ => by have := hz (i + 1) (Nat.zero_le _); simpa using this) (.inl rfl)
    have hx : x = 0 := by have := hz 0 (Nat.le_refl _); simpa using this
    simp [trimLen, ih, hx]
  | x :: ls, 1, _, hz, hn => by
    have ih := trimLen_is ls 0 (Nat.zero_le _) (fun i _ => by have := hz (i + 1) (by omega); simpa using this) (.inl rfl)
    have hx : x ≠ 0 := by rcases hn with h | h
                          · omega
                          · simpa using h
    simp [trimLen, ih, hx]
  | x :: ls, k + 2, h, hz, hn => by
    have ih := trimLen_is ls (k + 1) (by simp at h; omega) (fun i hi => by have := hz (i + 1) (by omega); simpa using this) (.inr (by
      rcases hn with h' | h'
      · omega
      · simpa using h'))
    simp [trimLen, ih]
def lval (B : Nat) : List Nat → Nat
  | [] => 0
  | x :: ls => x + B * lval B ls
theorem lval_trim (B : Nat) : ∀ ls : List Nat, lval B (ls.take (trimLen ls)) = lval B ls
  | [] => rfl
  | x :: ls => by
    have ih := lval_trim B ls
    simp only [trimLen]
    split
    · rename_i h0
      rw [h0] at ih
      simp only [List.take_zero, lval] at ih
      split
      · rename_i hx; simp [lval, hx, ← ih]
      · simp [lval, ← ih]
    · simp [lval, ih]
theorem trim_last : ∀ ls : List Nat, trimLen ls = 0 ∨ ls.getD (trimLen ls - 1) 0 ≠ 0
  | [] => .inl rfl
  | x :: ls => by
    simp only [trimLen]
    split
    · split
      · exact .inl rfl
      · rename_i h; exact .inr (by simpa using h)
    · rename_i h0
      rcases trim_last ls with h | h
      · exact absurd h h0
      · right
        obtain ⟨m, hm⟩ : ∃ m, trimLen ls = m + 1 := ⟨trimLen ls - 1, by omega⟩
        rw [hm] at h ⊢
        simpa using h

def Rd (k : IntKind) (w : World) (v : Value) (ls : List Nat) : Prop :=
  (v = .slice none 0 0 ∧ ls = []) ∨ ∃ b off cap, v = .slice (some ⟨b, off, none⟩) ls.length cap ∧ ls.length ≤ cap ∧ b < w.heap.size ∧ ∀ i, i < ls.length → w.cell? ⟨b, off + i, none⟩ = some (.int k (ls.getD i 0 : Nat))
theorem Rd.below {k : IntKind} {w w' : World} {v : Value} {ls : List Nat} (h : Rd k w v ls) (hb : Below w.heap.size w w') : Rd k w' v ls := by
  rcases h with h | ⟨b, off, cap, e, hc, hl, h⟩
  · exact .inl h
  · exact .inr ⟨b, off, cap, e, hc, Nat.lt_of_lt_of_le hl hb.size, fun i hi => (hb.cell (p := ⟨b, off + i, none⟩) hl).trans (h i hi)⟩
theorem Rd.take {k : IntKind} {w : World} {b off cap : Nat} {ls : List Nat} (hc : ls.length ≤ cap) (hl : b < w.heap.size) (h : ∀ i, i < ls.length → w.cell? ⟨b, off + i, none⟩ = some (.int k (ls.getD i 0 : Nat))) (n : Nat) (hn : n ≤ ls.length) :
    Rd k w (.slice (some ⟨b, off, none⟩) n cap) (ls.take n) := by
  refine .inr ⟨b, off, cap, by simp [Nat.min_eq_left hn], by simp; omega, hl, fun i hi => ?_⟩
  simp at hi
  have : (ls.take n).getD i 0 = ls.getD i 0 := by simp only [List.getD_eq_getElem?_getD, List.getElem?_take]; rw [if_pos (by omega)]
  rw [this]
  exact h i (by omega)
def cutv : Value → Nat → Value
  | .slice none _ _, _ => .slice none 0 0
  | .slice (some a) _ c, n => .slice (some a) n c
  | v, _ => v
theorem Rd.cut {k : IntKind} {w : World} {v : Value} {ls : List Nat} (h : Rd k w v ls) (n : Nat) (hn : n ≤ ls.length) : Rd k w (cutv v n) (ls.take n) := by
  rcases h with ⟨rfl, rfl⟩ | ⟨b, off, cap, rfl, hc, hl, h⟩
  · exact .inl ⟨rfl, by simp⟩
  · exact Rd.take hc hl h n hn
end Go.Proofs.YtmafgdinegboeaaGreat
namespace Go.Proofs.YtmafgdinegboeaaGreat
open Go.RowKit

set_option maxHeartbeats 2000000 in
theorem trim_at (b off cap : Nat) (ls : List Nat) (w : World) (_hc : ls.length ≤ cap) (_hm : ls.length ≤ 4611686018427387904) (h : ∀ i, i < ls.length → w.cell? ⟨b, off + i, none⟩ = some (.int .u64 (ls.getD i 0 : Nat))) :
    Calls Tryz.prog 121 #[.slice (some ⟨b, off, none⟩) ls.length cap] w fun e w' => e = .returned (.slice (some ⟨b, off, none⟩) (trimLen ls) cap) ∧ w = w' := by
  have H := Lib.hid h
  clear h
  go_enter Tryz.func121, Tryz.ntmps121
  go_wp2
  go_loop [3] (fun s3 => ∃ j : Nat, j ≤ ls.length ∧ s3 = .int .i64 j ∧ Hid (∀ i, j ≤ i → ls.getD i 0 = 0)) (fun s3 => (intOf s3).toNat)
  case atStart => exact ⟨ls.length, Nat.le_refl _, rfl, fun i hi => by simp [List.getD, List.getElem?_eq_none hi]⟩
  case round =>
    obtain ⟨j, hj, rfl, hz⟩ := hrel
    by_cases h0 : j = 0
    · subst h0
      have E := Lib.hid (trimLen_is ls 0 hj hz.out (.inl rfl))
      go_wp2
      go_ret
      exact ⟨by rw [E.out]; rfl, rfl⟩
    · obtain ⟨m, rfl⟩ : ∃ m, j = m + 1 := ⟨j - 1, by omega⟩
      have hcell : w.cell? ⟨b, off + m, none⟩ = some (.int .u64 (ls.getD m 0 : Nat)) := H.out m (by omega)
      obtain ⟨x, ex⟩ : ∃ x, x = ls.getD m 0 := ⟨_, rfl⟩
      rw [← ex] at hcell
      have EX := Lib.hid ex
      clear ex
      by_cases hx : x = 0
      · subst hx
        simp only [Int.natCast_zero] at hcell
        go_wp2
        refine ⟨⟨m, by omega, rfl, fun i hi => ?_⟩, by simp [intOf]⟩
        rcases Nat.lt_or_eq_of_le hi with h1 | h1
        · exact hz.out i h1
        · subst h1; exact EX.out.symm
      · have hx' : ((x : Int) == 0) = false := by simpa using hx
        have E := Lib.hid (trimLen_is ls (m + 1) hj hz.out (.inr (by rw [Nat.add_sub_cancel, ← EX.out]; exact hx)))
        clear hx h0
        go_wp2
        go_ret
        exact ⟨by rw [E.out]; rfl, rfl⟩
set_option maxHeartbeats 2000000 in
theorem trim_nil (w : World) : Calls Tryz.prog 121 #[.slice none 0 0] w fun e w' => e = .returned (.slice none 0 0) ∧ w = w' := by
  go_enter Tryz.func121, Tryz.ntmps121
  go_wp2
  go_loop [3] (fun s3 => s3 = .int .i64 0) (fun _ => 0)
  case atStart => rfl
  case round =>
    subst hrel
    go_wp2
    go_ret
    exact ⟨rfl, rfl⟩
theorem trim_any (v : Value) (ls : List Nat) (w : World) (hm : ls.length ≤ 4611686018427387904) (h : Rd .u64 w v ls) :
    Calls Tryz.prog 121 #[v] w fun e w' => e = .returned (cutv v (trimLen ls)) ∧ w = w' := by
  rcases h with ⟨rfl, rfl⟩ | ⟨b, off, cap, rfl, hc, _, h⟩
  · exact trim_nil w
  · exact trim_at b off cap ls w hc hm h

set_option maxHeartbeats 2000000 in
theorem cutd_at (b off cap : Nat) (ls : List Nat) (w : World) (_hc : ls.length ≤ cap) (_hm : ls.length ≤ 4611686018427387904) (h : ∀ i, i < ls.length → w.cell? ⟨b, off + i, none⟩ = some (.int .u32 (ls.getD i 0 : Nat))) :
    Calls Tryz.prog 171 #[.slice (some ⟨b, off, none⟩) ls.length cap] w fun e w' => e = .returned (.slice (some ⟨b, off, none⟩) (trimLen ls) cap) ∧ w = w' := by
  have H := Lib.hid h
  clear h
  go_enter Tryz.func171, Tryz.ntmps171
  go_wp2
  go_loop [3] (fun s3 => ∃ j : Nat, j ≤ ls.length ∧ s3 = .int .i64 j ∧ Hid (∀ i, j ≤ i → ls.getD i 0 = 0)) (fun s3 => (intOf s3).toNat)
  case atStart => exact ⟨ls.length, Nat.le_refl _, rfl, fun i hi => by simp [List.getD, List.getElem?_eq_none hi]⟩
  case round =>
    obtain ⟨j, hj, rfl, hz⟩ := hrel
    by_cases h0 : j = 0
    · subst h0
      have E := Lib.hid (trimLen_is ls 0 hj hz.out (.inl rfl))
      go_wp2
      go_ret
      exact ⟨by rw [E.out]; rfl, rfl⟩
    · obtain ⟨m, rfl⟩ : ∃ m, j = m + 1 := ⟨j - 1, by omega⟩
      have hcell : w.cell? ⟨b, off + m, none⟩ = some (.int .u32 (ls.getD m 0 : Nat)) := H.out m (by omega)
      obtain ⟨x, ex⟩ : ∃ x, x = ls.getD m 0 := ⟨_, rfl⟩
      rw [← ex] at hcell
      have EX := Lib.hid ex
      clear ex
      by_cases hx : x = 0
      · subst hx
        simp only [Int.natCast_zero] at hcell
        go_wp2
        refine ⟨⟨m, by omega, rfl, fun i hi => ?_⟩, by simp [intOf]⟩
        rcases Nat.lt_or_eq_of_le hi with h1 | h1
        · exact hz.out i h1
        · subst h1; exact EX.out.symm
      · have hx' : ((x : Int) == 0) = false := by simpa using hx
        have E := Lib.hid (trimLen_is ls (m + 1) hj hz.out (.inr (by rw [Nat.add_sub_cancel, ← EX.out]; exact hx)))
        clear hx h0
        go_wp2
        go_ret
        exact ⟨by rw [E.out]; rfl, rfl⟩
set_option maxHeartbeats 2000000 in
theorem cutd_nil (w : World) : Calls Tryz.prog 171 #[.slice none 0 0] w fun e w' => e = .returned (.slice none 0 0) ∧ w = w' := by
  go_enter Tryz.func171, Tryz.ntmps171
  go_wp2
  go_loop [3] (fun s3 => s3 = .int .i64 0) (fun _ => 0)
  case atStart => rfl
  case round =>
    subst hrel
    go_wp2
    go_ret
    exact ⟨rfl, rfl⟩
theorem cutd_any (v : Value) (ls : List Nat) (w : World) (hm : ls.length ≤ 4611686018427387904) (h : Rd .u32 w v ls) :
    Calls Tryz.prog 171 #[v] w fun e w' => e = .returned (cutv v (trimLen ls)) ∧ w = w' := by
  rcases h with ⟨rfl, rfl⟩ | ⟨b, off, cap, rfl, hc, _, h⟩
  · exact cutd_nil w
  · exact cutd_at b off cap ls w hc hm h

theorem Rd.one {k : IntKind} (w : World) (x : Nat) (t : TypeId) : Rd k (w.alloc (.cells #[.int k (x : Nat)] t)) (.slice (some ⟨w.heap.size, 0, none⟩) 1 1) [x] := by
  refine .inr ⟨w.heap.size, 0, 1, rfl, Nat.le_refl _, by simp, fun i hi => ?_⟩
  have : i = 0 := by simp at hi; omega
  subst this
  simp [World.cell?_alloc_new]
set_option maxHeartbeats 2000000 in
theorem nof_any (x : Nat) (w : World) : Calls Tryz.prog 57 #[.int .u64 x] w fun e w' => e = .returned (.slice (some ⟨w.heap.size, 0, none⟩) (trimLen [x]) 1) ∧ w.alloc (.cells #[.int .u64 x] 104) = w' := by
  have C := Lib.hid (fun W v h => trim_any v [x] W (by simp) h)
  go_enter Tryz.func57, Tryz.ntmps57
  go_wp2_with (go_at_call 121; (with_reducible refine (C.out _ _ (Rd.one _ _ _)).mono ?_); rintro e w' ⟨rfl, rfl⟩)
  go_ret
  exact ⟨rfl, rfl⟩
end Go.Proofs.YtmafgdinegboeaaGreat
namespace Go.Proofs.YtmafgdinegboeaaGreat
open Go.RowKit

def split2 : List Nat → List Nat
  | [] => []
  | x :: ls => x % 4294967296 :: x / 4294967296 :: split2 ls
theorem split2_length : ∀ ls : List Nat, (split2 ls).length = 2 * ls.length
  | [] => rfl
  | x :: ls => by simp [split2, split2_length ls]; omega
theorem split2_snoc : ∀ (ls : List Nat) (x : Nat), split2 (ls ++ [x]) = split2 ls ++ [x % 4294967296, x / 4294967296]
  | [], x => rfl
  | y :: ls, x => by simp [split2, split2_snoc ls x]
theorem take_snoc_getD (ls : List Nat) (i : Nat) (h : i < ls.length) : ls.take (i + 1) = ls.take i ++ [ls.getD i 0] := by
  rw [List.take_succ_eq_append_getElem h]; simp [List.getD, h]
theorem split2_val : ∀ ls : List Nat, (∀ x ∈ ls, x < 18446744073709551616) → lval 4294967296 (split2 ls) = lval 18446744073709551616 ls
  | [], _ => rfl
  | x :: ls, h => by
    have ih := split2_val ls (fun y hy => h y (List.mem_cons_of_mem _ hy))
    simp only [split2, lval, ih]
    omega

theorem own_far {w : World} {base : Nat} {e : TypeId} {size : Nat} {v : Value} {n : Nat} {xs : List Value} (h : w.ownsRow base e size v n xs) {b : Nat} (hb : b < base) : v.ownBlock ≠ some b := by
  rcases h.2 with ⟨rfl, _⟩ | ⟨g, cap, cur, rfl, hg, _⟩
  · simp [Value.ownBlock]
  · simp [Value.ownBlock]; omega
theorem own_rd {w : World} {base : Nat} {e : TypeId} {k : IntKind} {v : Value} {ls : List Nat} (h : w.ownsRow base e 1 v ls.length (ls.map fun x => Value.int k (x : Nat))) : Rd k w v ls := by
  obtain ⟨_, ⟨rfl, h0⟩ | ⟨g, cap, cur, rfl, _, hb, hc, _, _, ht⟩⟩ := h
  · exact .inl ⟨rfl, List.eq_nil_of_length_eq_zero h0⟩
  · have hlt : g < w.heap.size := by
      rcases Nat.lt_or_ge g w.heap.size with h | h
      · exact h
      · rw [Array.getElem?_eq_none h] at hb; cases hb
    refine .inr ⟨g, 0, cap, rfl, hc, hlt, fun i hi => ?_⟩
    rw [cell_of_row w g (0 + i) cur e (0, 0) hb, Nat.zero_add]
    have : (cur.toList.take (ls.length * 1))[i]? = some (Value.int k (ls.getD i 0 : Nat)) := by rw [ht]; simp [List.getD, hi]
    rw [List.getElem?_take] at this
    split at this
    · simpa using this
    · cases this

theorem info32 : (Tryz.prog.info? 239).map (fun i => (i.zero, i.size, i.bytes)) = some (some (.int .u32 0), 1, 4) := by kernel_rfl
theorem info64 : (Tryz.prog.info? 104).map (fun i => (i.zero, i.size, i.bytes)) = some (some (.int .u64 0), 1, 8) := by kernel_rfl
def SomeRd (k : IntKind) (w : World) (ls : List Nat) (e : Ending) (w' : World) : Prop := ∃ v, e = .returned v ∧ Rd k w' v ls ∧ Below w.heap.size w w'

set_option maxHeartbeats 4000000 in
theorem halves_at (b off cap : Nat) (ls : List Nat) (w : World) (hb : b < w.heap.size) (hx : ∀ x ∈ ls, x < 18446744073709551616) (hm : ls.length ≤ 1099511627776) (h : ∀ i, i < ls.length → w.cell? ⟨b, off + i, none⟩ = some (.int .u64 (ls.getD i 0 : Nat))) :
    Calls Tryz.prog 169 #[.slice (some ⟨b, off, none⟩) ls.length cap] w (SomeRd .u32 w ((split2 ls).take (trimLen (split2 ls)))) := by
  obtain ⟨i0, hi0, hz0, hz1, hz2⟩ := info_parts info32
  have H := Lib.hid (And.intro h hx)
  clear h hx
  go_enter Tryz.func169, Tryz.ntmps169
  go_wp2
  go_loopw [3, 4] (fun s3 s4 wr => ∃ i : Nat, i ≤ ls.length ∧ s4 = .int .i64 i ∧ Hid (wr.ownsRow w.heap.size 239 1 s3 (split2 (ls.take i)).length ((split2 (ls.take i)).map fun x => Value.int .u32 (x : Nat))) ∧ Below w.heap.size w wr) (fun _ s4 _ => ls.length - (intOf s4).toNat)
  case atStart => exact ⟨0, Nat.zero_le _, rfl, World.ownsRow_nil _ _ _ _, Below.refl _ _⟩
  case round =>
    obtain ⟨i, hi, rfl, hown, hB⟩ := hrel
    by_cases hlt : i < ls.length
    · have hcell : wr.cell? ⟨b, off + i, none⟩ = some (.int .u64 (ls.getD i 0 : Nat)) := (hB.cell (p := ⟨b, off + i, none⟩) hb).trans (H.out.1 i hlt)
      obtain ⟨x, ex⟩ : ∃ x, x = ls.getD i 0 := ⟨_, rfl⟩
      have hx : x < 18446744073709551616 := by rw [ex]; simp only [List.getD, List.getElem?_eq_getElem hlt, Option.getD_some]; exact H.out.2 _ (List.getElem_mem hlt)
      rw [← ex] at hcell
      obtain ⟨p, hp⟩ : ∃ p, p = x % 4294967296 := ⟨_, rfl⟩
      obtain ⟨q, hq⟩ : ∃ q, q = x / 4294967296 := ⟨_, rfl⟩
      have e1 : IntKind.u32.wrap (x : Int) = (p : Int) := by rw [IntKind.wrap_u32]; omega
      have e2 : IntKind.u32.wrap ((x : Int) / 4294967296) = (q : Int) := by rw [IntKind.wrap_u32]; omega
      have E : split2 (ls.take (i + 1)) = split2 (ls.take i) ++ [p, q] := by rw [take_snoc_getD ls i hlt, split2_snoc, ← ex, ← hp, ← hq]
      have hlen : (split2 (ls.take i)).length ≤ 2199023255552 := by rw [split2_length]; simp; omega
      have EH := Lib.hid E
      have hown2 := hown.out
      have far := Lib.hid (own_far hown2 hb)
      have hbr : b < wr.heap.size := Nat.lt_of_lt_of_le hb hB.size
      have hBs := hB.size
      generalize split2 (ls.take i) = ds at *
      clear E ex hp hq hx hown
      have HO := Lib.hid hown2
      clear hown2
      go_wp2
      go_region_held3 (fun w' => w'.cell? ⟨b, off + i, none⟩ = some (.int .u64 (x : Nat)))
        (first
          | (simp [go_sem, *]; done)
          | (rw [hgrow.cell_far _ (by simp; omega) (Ne.symm far.out)]; assumption))
        ((refine step_append_lies _ (by rfl) _ _ _ (by rfl) w.heap.size 239 i0 _ 1 4 Tryz.underlying237 hi0 hz0 hz1 hz2 rfl (by omega) _ ds.length (ds.map fun x => Value.int .u32 (x : Nat)) (by rfl) ((HO.out.alloc _).drew)
            ⟨wr.heap.size, 0, none⟩ 2 2 [.int .u32 (p : Nat), .int .u32 (q : Nat)] (by rfl) (by rfl) (World.news_of_block (cs := #[.int .u32 (p : Nat), .int .u32 (q : Nat)]) (t := 239) (fr := (0, 0)) (heap_alloc_new wr _)) (by simp [Value.oneCell'])
            (by omega) (by unfold maxLen; omega) (by omega) (by simp; omega) (wr.heap.size + 1) (by simp) ?_; intro gg cap' w1 hown1 hgrow hat hlt1))
      go_wp2
      refine ⟨⟨i + 1, by omega, by go_num, ?_, ?_⟩, by simp [intOf]; omega⟩
      · rw [EH.out]
        have h1 := hown1
        simpa [Hid] using h1
      · exact ((hB.alloc hBs _).drew).grown hgrow (by simp; omega) (fun k hk => (HO.out.lt k hk).1)
    · have he : i = ls.length := by omega
      subst he
      rw [List.take_length] at hown
      have hBs := hB.size
      have hlen : (split2 ls).length ≤ 2199023255552 := by rw [split2_length]; omega
      have RD := Lib.hid (own_rd hown.out)
      clear hown
      generalize split2 ls = ds at *
      go_wp2_with (go_at_call 171; (with_reducible refine (cutd_any _ ds _ (by omega) RD.out).mono ?_); rintro e w' ⟨rfl, rfl⟩)
      go_ret
      exact ⟨_, rfl, RD.out.cut _ (trimLen_le _), hB⟩
set_option maxHeartbeats 4000000 in
theorem halves_nil (w : World) : Calls Tryz.prog 169 #[.slice none 0 0] w fun e w' => e = .returned (.slice none 0 0) ∧ w = w' := by
  go_enter Tryz.func169, Tryz.ntmps169
  go_wp2
  go_loop [3, 4] (fun s3 s4 => s3 = .slice none 0 0 ∧ s4 = .int .i64 0) (fun _ _ => 0)
  case atStart => exact ⟨rfl, rfl⟩
  case round =>
    obtain ⟨rfl, rfl⟩ := hrel
    go_wp2_with (go_at_call 171; (with_reducible refine (cutd_nil _).mono ?_); rintro e w' ⟨rfl, rfl⟩)
    go_ret
    exact ⟨rfl, rfl⟩
theorem halves_any (v : Value) (ls : List Nat) (w : World) (hx : ∀ x ∈ ls, x < 18446744073709551616) (hm : ls.length ≤ 1099511627776) (h : Rd .u64 w v ls) :
    Calls Tryz.prog 169 #[v] w (SomeRd .u32 w ((split2 ls).take (trimLen (split2 ls)))) := by
  rcases h with ⟨rfl, rfl⟩ | ⟨b, off, cap, rfl, _, hl, h⟩
  · exact (halves_nil w).mono fun _ _ ⟨he, hw⟩ => ⟨_, he, .inl ⟨rfl, rfl⟩, hw ▸ Below.refl _ _⟩
  · exact halves_at b off cap ls w hl hx hm h
end Go.Proofs.YtmafgdinegboeaaGreat
