/-
  package reduce: Sum, Mean.
-/
import Derived.Test.YtmafgdinegboeaaGreatM20
namespace Go.Proofs.YtmafgdinegboeaaGreat
open Go Go.RowKit Go.Shelf

/-- The error of sums over D, and the words. -/
def rde (sh ds ax : List Int) (D : Int) (M : Nat) : Int := fer (cer (sms sh ax ds ds.length) D) M
def rdv (sh ds ax : List Int) (D : Int) (M : Nat) : List Int := vls (cva (sms sh ax ds ds.length) D) M
theorem al_below0 {W : World} (o : Obj) : Below W.heap.size W (W.alloc o) := (Below.refl _ _).alloc (Nat.le_refl _) o
theorem cell_off2 {W : World} {B b i n m : Nat} {u v x : Value} (hb : ¬ b = B) (hx : W.cell? ⟨b, i, none⟩ = some x) : ((W.setCell ⟨B, n, none⟩ u).setCell ⟨B, m, none⟩ v).cell? ⟨b, i, none⟩ = some x := by
  rw [← hx]
  simp only [World.cell?]
  rw [Below.heap_setCell _ _ _ _ hb, Below.heap_setCell _ _ _ _ hb]
theorem rsum_end {w W : World} {E : Int} {M B base2 b6 : Nat} {VL L : List Int} {so o6 od : Option Addr} {sn sc m6 c6 cd : Nat} (_hE : E = 0 → VL.length = M) (hsv : (Value.slice so sn sc) = if E = 0 then .slice o6 m6 c6 else .slice none 0 0)
    (hm6 : m6 = L.length) (ho : W.ownsRow b6 3 1 (.slice o6 m6 c6) m6 (ints L)) (hb : w.heap.size ≤ b6 ∧ w.heap.size ≤ base2) (hd : W.ownsRow base2 2 1 (.slice od (unl E VL).length cd) (unl E VL).length (ints (unl E VL))) (hx : Blk W B 26 #[.slice none 0 0, .slice none 0 0]) (hB : w.heap.size ≤ B) (hw : Below w.heap.size w W) :
    SomeT w E (unl E L) (unl E VL) (.returned (.tuple #[.agg #[.slice so sn sc, .slice od (unl E VL).length cd], .int .i64 E])) ((W.setCell ⟨B, 0, none⟩ (.slice so sn sc)).setCell ⟨B, 1, none⟩ (.slice od (unl E VL).length cd)) := by
  have hw2 := (hw.setCell (p := ⟨B, 0, none⟩) hB (.slice so sn sc)).setCell (p := ⟨B, 1, none⟩) hB (.slice od (unl E VL).length cd)
  have hd2 := own_setx (i := 1) (z := .slice od (unl E VL).length cd) (own_setx (i := 0) (z := .slice so sn sc) (own_base hd hb.2) hx (by decide)) (hx.set_ 0 _) (by decide)
  subst hm6
  by_cases e0 : E = 0
  · rw [if_pos e0] at hsv
    simp only [Value.slice.injEq] at hsv
    obtain ⟨e1, e2, e3⟩ := hsv
    subst e1 e2 e3
    have h2 := own_setx (i := 1) (z := .slice od (unl E VL).length cd) (own_setx (i := 0) (z := .slice so L.length sc) (own_base ho hb.1) hx (by decide)) (hx.set_ 0 _) (by decide)
    refine ⟨so, sc, od, cd, ?_, ?_, hd2, hw2⟩
    · rw [show (unl E L) = L from if_pos e0]
    · rw [show (unl E L) = L from if_pos e0]; exact h2
  · rw [if_neg e0] at hsv
    simp only [Value.slice.injEq] at hsv
    obtain ⟨rfl, rfl, rfl⟩ := hsv
    refine ⟨none, 0, od, cd, ?_, ?_, hd2, hw2⟩
    · rw [show (unl E L) = [] from if_neg e0]; rfl
    · rw [show (unl E L) = [] from if_neg e0]; exact World.ownsRow_nil _ _ _ _

set_option maxRecDepth 100000 in
set_option maxHeartbeats 8000000 in
theorem sum_no (vs vd va : Value) (sh ds ax : List Int) (w : World) (hs : Ld w vs sh) (hd : Ld w vd ds) (ha : Ld w va ax) (l1 : sh.length ≤ 17592186044416) (l2 : ds.length ≤ 17592186044416) (l3 : ax.length ≤ 17592186044416) (h : (tnb sh ds && axb (sh.length : Nat) ax (-1)) = false) :
    Calls Tryz.prog 35 #[.agg #[vs, vd], va] w (SomeT w (if tnb sh ds = true then 2 else 1) [] []) := by
  obtain ⟨w2, hw2⟩ : ∃ w2, w2 = (w.alloc (.cells #[vs, vd] 26)).alloc (.cells #[.slice none 0 0, .slice none 0 0] 26) := ⟨_, rfl⟩
  have hsz : w2.heap.size = w.heap.size + 2 := by rw [hw2]; simp
  have B2 : Below w.heap.size w w2 := by rw [hw2]; exact ((Below.refl _ _).alloc (Nat.le_refl _) _).alloc (by simp) _
  have K1 : Hid (Blk w2 (w.heap.size + 1) 26 #[.slice none 0 0, .slice none 0 0]) := by rw [hw2]; exact blk_new1 w _ _ _
  have CR : Hid (∀ n, w2.heap.size = n → Calls Tryz.prog 72 #[.agg #[vs, vd], va] w2 fun e w' => e = .returned (.tuple #[.agg #[.slice none 0 0, .slice none 0 0, .slice none 0 0, .int .i64 0], .int .i64 (if tnb sh ds = true then 2 else 1)]) ∧ Below n w2 w') := fun n hn => by
    subst hn
    exact reduced_no vs vd va sh ds ax w2 (hs.below B2) (hd.below B2) (ha.below B2) l1 l2 l3 h
  replace CR := Lib.hid (CR.out (w.heap.size + 2) hsz)
  obtain ⟨E, hE⟩ : ∃ E : Int, E = if tnb sh ds = true then 2 else 1 := ⟨_, rfl⟩
  rw [← hE] at CR ⊢
  have hne : (E != 0) = true := by rw [hE]; split <;> rfl
  have HW := Lib.hid hw2
  have HB2 := Lib.hid B2
  obtain ⟨o1, n1, rfl, _, _⟩ := hs
  obtain ⟨o2, n2, rfl, _, _⟩ := hd
  obtain ⟨o3, n3, rfl, _, _⟩ := ha
  rw [hw2] at CR
  clear hw2 B2 hE h
  go_enter Tryz.func35, Tryz.ntmps35
  go_wp2_with (go_at_call 72; (with_reducible refine CR.out.mono ?_); rintro e w3 ⟨rfl, hb3⟩; rw [← HW.out] at hb3; have X1 := Lib.hid ((K1.out.below hb3 (by omega)).alloc (.cells #[.slice none 0 0, .slice none 0 0, .slice none 0 0, .int .i64 0] 129)); have B3 := Lib.hid ((HB2.out.trans (hb3.mono (by omega))).alloc (by have := hb3.size; omega) (.cells #[.slice none 0 0, .slice none 0 0, .slice none 0 0, .int .i64 0] 129)); obtain ⟨d0, d1, f0, f1⟩ := blk2 X1.out; clear hb3)
  refine bodyPost_ret (v := .tuple #[.agg #[.slice none 0 0, .slice none 0 0], .int .i64 E]) (by simp [results, Tryz.results35, go_sem, d0, d1]) rfl ?_
  exact ⟨none, 0, none, 0, rfl, World.ownsRow_nil _ _ _ _, World.ownsRow_nil _ _ _ _, (B3.out.setCell (p := ⟨w.heap.size + 1, 0, none⟩) (Nat.le_succ _) _).setCell (p := ⟨w.heap.size + 1, 1, none⟩) (Nat.le_succ _) _⟩

set_option maxRecDepth 100000 in
set_option maxHeartbeats 8000000 in
theorem sum_ok (vs vd va : Value) (sh ds ax : List Int) (M : Nat) (w : World) (hs : Ld w vs sh) (hd : Ld w vd ds) (ha : Ld w va ax) (l3 : ax.length ≤ 17592186044416) (ht : tnb sh ds = true) (hax : axb (sh.length : Nat) ax (-1) = true) (hM : (M : Int) = prod (lf sh ax 0)) :
    Calls Tryz.prog 35 #[.agg #[vs, vd], va] w (SomeT w (rde sh ds ax 1 M) (unl (rde sh ds ax 1 M) (lf sh ax 0)) (unl (rde sh ds ax 1 M) (rdv sh ds ax 1 M))) := by
  obtain ⟨hm, hdl, hw⟩ := tnb_parts ht
  have l4 := may_len hm
  have hp := may_prod hm
  have hM6 : 1 ≤ M ∧ M ≤ ds.length ∧ ds.length ≤ 65536 := by
    have := lf_prod ax sh 0 (may_pos hm)
    omega
  obtain ⟨w2, hw2⟩ : ∃ w2, w2 = (w.alloc (.cells #[vs, vd] 26)).alloc (.cells #[.slice none 0 0, .slice none 0 0] 26) := ⟨_, rfl⟩
  have hsz : w2.heap.size = w.heap.size + 2 := by rw [hw2]; simp
  have B2 : Below w.heap.size w w2 := by rw [hw2]; exact ((Below.refl _ _).alloc (Nat.le_refl _) _).alloc (by simp) _
  have K0 : Hid (Blk w2 w.heap.size 26 #[vs, vd]) := by rw [hw2]; exact (Blk.new w _ _).alloc _
  have K1 : Hid (Blk w2 (w.heap.size + 1) 26 #[.slice none 0 0, .slice none 0 0]) := by rw [hw2]; exact blk_new1 w _ _ _
  have CR : Hid (∀ n, w2.heap.size = n → Calls Tryz.prog 72 #[.agg #[vs, vd], va] w2 fun e w' => ∃ o1 c1 o2 c2, e = .returned (.tuple #[.agg #[vs, .slice o1 sh.length c1, .slice o2 (lf sh ax 0).length c2, .int .i64 (prod (lf sh ax 0))], .int .i64 0]) ∧
      Hid (Ld w' (.slice o1 sh.length c1) (ons sh ax 0)) ∧ Hid (w'.ownsRow n 3 1 (.slice o2 (lf sh ax 0).length c2) (lf sh ax 0).length (ints (lf sh ax 0))) ∧ Below n w2 w') := fun n hn => by
    subst hn
    exact reduced_ok vs vd va sh ds ax w2 (hs.below B2) (hd.below B2) (ha.below B2) l3 ht hax
  replace CR := Lib.hid (CR.out (w.heap.size + 2) hsz)
  rw [← hM] at CR
  obtain ⟨m6, hm6⟩ : ∃ m6, m6 = (lf sh ax 0).length := ⟨_, rfl⟩
  rw [← hm6] at CR
  have HM6 := Lib.hid hm6
  obtain ⟨f, hf⟩ : ∃ f, f = sms sh ax ds ds.length := ⟨_, rfl⟩
  have SM := Lib.hid (fun (W : World) (vo vt : Value) (hW : Below w.heap.size w W) (ho : Ld W vo (ons sh ax 0)) (ht : ∃ o m k, vt = .slice o m k) => summed_any vs vd vo vt sh ds ax ds.length M W (hs.below hW) (hd.below hW) ho ht hm hdl hM rfl hw)
  rw [← hf] at SM
  have hfb : ∀ k, k < M → -9223372036854775808 ≤ f k ∧ f k ≤ 9223372036854775807 := fun k _ => by
    rw [hf]
    exact (sms_R (by omega) (fun j hj => wd_mk (wds_at hw hj))).2
  obtain ⟨DD, hDD⟩ : ∃ DD : Int, DD = 1 := ⟨_, rfl⟩
  have hD1 : 1 ≤ DD ∧ DD ≤ 65536 := by rw [hDD]; omega
  obtain ⟨E, hE⟩ : ∃ E, E = rde sh ds ax 1 M := ⟨_, rfl⟩
  obtain ⟨VL, hVL⟩ : ∃ VL, VL = rdv sh ds ax 1 M := ⟨_, rfl⟩
  rw [← hE, ← hVL]
  have CC := Lib.hid (fun (W : World) (vt : Value) (g : Nat) (hv : ∃ o n c, vt = .slice o n c) (hb : Blk W g 121 (wcs f M)) => closed_any vt g f M DD W hv hb (by omega) hfb hD1.1 hD1.2)
  rw [show fer (cer f DD) M = E by rw [hE, hDD, hf]; rfl, show vls (cva f DD) M = VL by rw [hVL, hDD, hf]; rfl] at CC
  have HW := Lib.hid hw2
  have HB2 := Lib.hid B2
  have HE0 : Hid (E = 0 → VL.length = M) := Lib.hid (fun _ => by rw [hVL]; exact vls_len _ _)
  have HDD := Lib.hid hDD
  obtain ⟨o1, n1, rfl, _, _⟩ := hs
  obtain ⟨o2, n2, rfl, _, _⟩ := hd
  obtain ⟨o3, n3, rfl, _, _⟩ := ha
  rw [hw2] at CR
  have HI := Lib.hid hM6
  have HD1 := Lib.hid hD1
  clear hw2 B2 ht hm hdl hw hax hM hm6 hf hfb hE hVL hp l4 l3 hM6 hD1 hDD
  go_enter Tryz.func35, Tryz.ntmps35
  go_upto_region 4 with (go_at_call 72; (with_reducible refine CR.out.mono ?_); rintro e w3 ⟨o5, c5, o6, c6, rfl, hl5, ho6, hb3⟩; rw [← HW.out] at hb3; have b3 := Lib.hid hb3; have HL5 := Lib.hid hl5.out; have HO6 := Lib.hid ho6.out; clear hb3 hl5 ho6)
  obtain ⟨w4, hw4⟩ : ∃ w4, w4 = w3.alloc (.cells #[.slice o1 sh.length n1, .slice o5 sh.length c5, .slice o6 m6 c6, .int .i64 (M : Int)] 129) := ⟨_, rfl⟩
  obtain ⟨TB, hTB⟩ : ∃ TB, TB = w3.heap.size := ⟨_, rfl⟩
  rw [← hw4, ← hTB]
  have b34 : Below w3.heap.size w3 w4 := by rw [hw4]; exact al_below0 _
  have X0 := Lib.hid ((K0.out.below b3.out (by omega)).below b34 (K0.out.below b3.out (by omega)).lt)
  have X1 := Lib.hid ((K1.out.below b3.out (by omega)).below b34 (K1.out.below b3.out (by omega)).lt)
  have XT : Hid (Blk w4 TB 129 #[.slice o1 sh.length n1, .slice o5 sh.length c5, .slice o6 m6 c6, .int .i64 (M : Int)]) := Lib.hid (by rw [hTB, hw4]; exact Blk.new _ _ _)
  have OG := Lib.hid (Below.keepOwn HO6.out b34 (Nat.le_refl _))
  have HL4 := Lib.hid (HL5.out.below b34)
  have HB4 := Lib.hid ((HB2.out.trans (b3.out.mono (by omega))).trans (b34.mono (by have := b3.out.size; omega)))
  have HZ : Hid (w.heap.size + 2 ≤ w4.heap.size ∧ w.heap.size + 2 ≤ TB ∧ TB < w4.heap.size) := Lib.hid ⟨by have := b3.out.size; have := b34.size; omega, by have := b3.out.size; omega, by rw [hTB, hw4]; simp⟩
  clear hw4 hTB b34 HL5 HO6
  have KS : Hid (∀ W, Below w4.heap.size w4 W → W.cell? ⟨w.heap.size, 0, none⟩ = some (.slice o1 sh.length n1) ∧ W.cell? ⟨w.heap.size, 1, none⟩ = some (.slice o2 ds.length n2) ∧ W.cell? ⟨TB, 0, none⟩ = some (.slice o1 sh.length n1) ∧ W.cell? ⟨TB, 1, none⟩ = some (.slice o5 sh.length c5) ∧ W.cell? ⟨TB, 2, none⟩ = some (.slice o6 m6 c6) ∧ W.cell? ⟨TB, 3, none⟩ = some (.int .i64 (M : Int))) := Lib.hid (fun W hW => by
    have h0 := blk2 (X0.out.below hW X0.out.lt)
    have h1 := blk4 (XT.out.below hW XT.out.lt)
    exact ⟨h0.1, h0.2.1, h1⟩)
  have KS2 : Hid (∀ W u v, Below w4.heap.size w4 W → ((W.setCell ⟨w.heap.size + 1, 0, none⟩ u).setCell ⟨w.heap.size + 1, 1, none⟩ v).cell? ⟨w.heap.size, 0, none⟩ = some (.slice o1 sh.length n1) ∧ ((W.setCell ⟨w.heap.size + 1, 0, none⟩ u).setCell ⟨w.heap.size + 1, 1, none⟩ v).cell? ⟨w.heap.size, 1, none⟩ = some (.slice o2 ds.length n2) ∧ ((W.setCell ⟨w.heap.size + 1, 0, none⟩ u).setCell ⟨w.heap.size + 1, 1, none⟩ v).cell? ⟨TB, 0, none⟩ = some (.slice o1 sh.length n1) ∧ ((W.setCell ⟨w.heap.size + 1, 0, none⟩ u).setCell ⟨w.heap.size + 1, 1, none⟩ v).cell? ⟨TB, 1, none⟩ = some (.slice o5 sh.length c5) ∧ ((W.setCell ⟨w.heap.size + 1, 0, none⟩ u).setCell ⟨w.heap.size + 1, 1, none⟩ v).cell? ⟨TB, 2, none⟩ = some (.slice o6 m6 c6) ∧ ((W.setCell ⟨w.heap.size + 1, 0, none⟩ u).setCell ⟨w.heap.size + 1, 1, none⟩ v).cell? ⟨TB, 3, none⟩ = some (.int .i64 (M : Int))) := Lib.hid (fun W u v hW => by
    obtain ⟨k1, k2, k3, k4, k5, k6⟩ := KS.out W hW
    have hz := HZ.out
    exact ⟨cell_off2 (by omega) k1, cell_off2 (by omega) k2, cell_off2 (by omega) k3, cell_off2 (by omega) k4, cell_off2 (by omega) k5, cell_off2 (by omega) k6⟩)
  have KM := Lib.hid (fun (W : World) (hW : Below w4.heap.size w4 W) => SM.out W (.slice o5 sh.length c5) (.slice o6 m6 c6) (HB4.out.trans (hW.mono HB4.out.size)) (HL4.out.below hW) ⟨_, _, _, rfl⟩)
  have KC : Hid (∀ (W : World) (g : Nat), Blk W g 121 (wcs f M) → Below w4.heap.size w4 W → Calls Tryz.prog 75 #[.slice o6 m6 c6, .slice (some ⟨g, 0, none⟩) M M, .int .i64 DD] W fun e w' => ∃ so sn sc od cd, e = .returned (.tuple #[.agg #[.slice so sn sc, .slice od (unl E VL).length cd], .int .i64 E]) ∧ Hid ((Value.slice so sn sc) = if E = 0 then .slice o6 m6 c6 else .slice none 0 0) ∧ Hid (w'.ownsRow W.heap.size 2 1 (.slice od (unl E VL).length cd) (unl E VL).length (ints (unl E VL))) ∧ Below W.heap.size W w') := Lib.hid (fun W g hb _ => (CC.out W (.slice o6 m6 c6) g ⟨_, _, _, rfl⟩ hb).mono fun e w' hh => by
    obtain ⟨od, cd, rfl, h1, h2⟩ := hh
    by_cases e0 : E = 0
    · rw [if_pos e0]; exact ⟨_, _, _, _, _, rfl, Lib.hid rfl, h1, h2⟩
    · rw [if_neg e0]; exact ⟨_, _, _, _, _, rfl, Lib.hid rfl, h1, h2⟩)
  have B0 : Hid (Below w4.heap.size w4 w4.drew) := Lib.hid (below_drw (Below.refl _ _) 1)
  have hq := HDD.out
  subst hq
  refine wp_region_held_drew (S := fun W => W.cell? ⟨w.heap.size, 0, none⟩ = some (.slice o1 sh.length n1) ∧ W.cell? ⟨w.heap.size, 1, none⟩ = some (.slice o2 ds.length n2) ∧ W.cell? ⟨TB, 0, none⟩ = some (.slice o1 sh.length n1) ∧ W.cell? ⟨TB, 1, none⟩ = some (.slice o5 sh.length c5) ∧ W.cell? ⟨TB, 2, none⟩ = some (.slice o6 m6 c6) ∧ W.cell? ⟨TB, 3, none⟩ = some (.int .i64 (M : Int))) (by kernel_rfl) ?_ (fun hHeld => ?_)
  · exact KS.out _ B0.out
  have hHd := hHeld
  generalize w4.drew = wd at *
  (refine wpAnyH_take (i := 0) (oi := ⟨some 18, _, _, _, _, _⟩) (v := ?v0_s1) rfl (by kernel_rfl) (by kernel_rfl) (by kernel_rfl) (fun _ _ _ h => h) (Or.inl ⟨by rfl, ?hy0_s1⟩) (by assumption) ?rest0_s1; (case hy0_s1 => ((intro w hSw); (try dsimp only at hSw); go_simp; first | done | (with_reducible rfl))))
  (try simp only [Act.put, List.setIfInBounds_toArray, List.set_cons_zero, List.set_cons_succ])
  (refine wpAnyH_take (i := 1) (oi := ⟨some 19, _, _, _, _, _⟩) (v := ?v1_s2) rfl (by kernel_rfl) (by kernel_rfl) (by kernel_rfl) (fun _ _ _ h => h) (Or.inl ⟨by rfl, ?hy1_s2⟩) (by assumption) ?rest1_s2; (case hy1_s2 => ((intro w hSw); (try dsimp only at hSw); go_simp; first | done | (with_reducible rfl))))
  (try simp only [Act.put, List.setIfInBounds_toArray, List.set_cons_zero, List.set_cons_succ])
  (refine wpAnyH_take (i := 2) (oi := ⟨some 20, _, _, _, _, _⟩) (v := ?v2_s3) rfl (by kernel_rfl) (by kernel_rfl) (by kernel_rfl) (fun _ _ _ h => h) (Or.inl ⟨by rfl, ?hy2_s3⟩) (by assumption) ?rest2_s3; (case hy2_s3 => ((intro w hSw); (try dsimp only at hSw); go_simp; first | done | (with_reducible rfl))))
  (try simp only [Act.put, List.setIfInBounds_toArray, List.set_cons_zero, List.set_cons_succ])
  (refine wpAnyH_take (i := 3) (oi := ⟨some 21, _, _, _, _, _⟩) (v := ?v3_s4) rfl (by kernel_rfl) (by kernel_rfl) (by kernel_rfl) (fun _ _ _ h => h) (Or.inl ⟨by rfl, ?hy3_s4⟩) (by assumption) ?rest3_s4; (case hy3_s4 => ((intro w hSw); (try dsimp only at hSw); go_simp; first | done | (with_reducible rfl))))
  (try simp only [Act.put, List.setIfInBounds_toArray, List.set_cons_zero, List.set_cons_succ])
  refine wpAnyH_ready (rs := [4]) (by kernel_rfl) (by simp) ?_
  refine AllReadyH.cons (o := ⟨some 22, _, _, _, _, _⟩) rfl (fun K hK => ?_) (AllReadyH.nil)
  go_simp
  (go_at_call 76; (with_reducible refine (KM.out _ B0.out).mono ?_); rintro e w5 ⟨gs, rfl, hgs, hb⟩; have HGS := Lib.hid hgs.out; clear hgs; have b5 := Lib.hid (B0.out.trans (hb.mono B0.out.size)); clear hb)
  refine hK.out _ _ ?_ (fun hHeld => ?_)
  · (try dsimp only)
    exact KS.out _ b5.out
  clear hK K
  (try simp only [Act.put, List.setIfInBounds_toArray, List.set_cons_zero, List.set_cons_succ])
  refine wpAnyH_ready (rs := [5]) (by kernel_rfl) (by simp) ?_
  refine AllReadyH.cons (o := ⟨some 23, _, _, _, _, _⟩) rfl (fun K hK => ?_) (AllReadyH.nil)
  go_simp
  (go_at_call 75; (with_reducible refine (KC.out _ gs HGS.out b5.out).mono ?_); rintro e w6 ⟨so, sn, sc, od, cd, rfl, hsv, hd5, hb⟩; have HSV := Lib.hid hsv.out; have HD5 := Lib.hid hd5.out; clear hsv hd5; have b6 := Lib.hid (b5.out.trans (hb.mono b5.out.size)); clear hb)
  refine hK.out _ _ ?_ (fun hHeld => ?_)
  · (try dsimp only)
    exact KS.out _ b6.out
  clear hK K
  (try simp only [Act.put, List.setIfInBounds_toArray, List.set_cons_zero, List.set_cons_succ])
  (refine wpAnyH_take (i := 6) (oi := ⟨some 24, _, _, _, _, _⟩) (v := ?v6_s5) rfl (by kernel_rfl) (by kernel_rfl) (by kernel_rfl) (fun _ _ _ h => h) (Or.inl ⟨by rfl, ?hy6_s5⟩) (by assumption) ?rest6_s5; (case hy6_s5 => ((intro w hSw); (try dsimp only at hSw); go_simp; first | done | (with_reducible rfl))))
  (try simp only [Act.put, List.setIfInBounds_toArray, List.set_cons_zero, List.set_cons_succ])
  (refine wpAnyH_take (i := 7) (oi := ⟨some 25, _, _, _, _, _⟩) (v := ?v7_s6) rfl (by kernel_rfl) (by kernel_rfl) (by kernel_rfl) (fun _ _ _ h => h) (Or.inl ⟨by rfl, ?hy7_s6⟩) (by assumption) ?rest7_s6; (case hy7_s6 => ((intro w hSw); (try dsimp only at hSw); go_simp; first | done | (with_reducible rfl))))
  (try simp only [Act.put, List.setIfInBounds_toArray, List.set_cons_zero, List.set_cons_succ])
  refine wpAnyH_ready (rs := [8]) (by kernel_rfl) (by simp) ?_
  refine AllReadyH.cons (o := ⟨none, _, _, _, _, _⟩) rfl (fun K hK => ?_) (AllReadyH.nil)
  obtain ⟨r0, r1, rf0, rf1⟩ := blk2 (X1.out.below b6.out X1.out.lt)
  go_simp
  refine hK.out _ _ ?_ (fun hHeld => ?_)
  · (try dsimp only)
    exact KS2.out _ _ _ b6.out
  clear hK K
  (try simp only [Act.put, List.setIfInBounds_toArray, List.set_cons_zero, List.set_cons_succ])
  (refine wpAnyH_take (i := 9) (oi := ⟨some 5, _, _, _, _, _⟩) (v := ?v9_s7) rfl (by kernel_rfl) (by kernel_rfl) (by kernel_rfl) (fun _ _ _ h => h) (Or.inl ⟨by rfl, ?hy9_s7⟩) (by assumption) ?rest9_s7; (case hy9_s7 => ((intro w hSw); (try dsimp only at hSw); go_simp; first | done | (with_reducible rfl))))
  (try simp only [Act.put, List.setIfInBounds_toArray, List.set_cons_zero, List.set_cons_succ])
  refine wpAnyH_done (by kernel_rfl) ?_ _
  go_wp2
  refine bodyPost_ret (v := .tuple #[.agg #[.slice so sn sc, .slice od (unl E VL).length cd], .int .i64 E]) (by simp [results, Tryz.results35, go_sem, r0, r1]) rfl ?_
  exact rsum_end HE0.out HSV.out HM6.out (Below.keepOwn OG.out b6.out (Nat.le_refl _)) ⟨Nat.le_add_right _ 2, (show w.heap.size ≤ w5.heap.size by have := HZ.out; have := b5.out.size; omega)⟩ HD5.out (X1.out.below b6.out X1.out.lt) (by have := HZ.out; omega) (HB4.out.trans (b6.out.mono HB4.out.size))

set_option maxRecDepth 100000 in
set_option maxHeartbeats 8000000 in
theorem mean_no (vs vd va : Value) (sh ds ax : List Int) (w : World) (hs : Ld w vs sh) (hd : Ld w vd ds) (ha : Ld w va ax) (l1 : sh.length ≤ 17592186044416) (l2 : ds.length ≤ 17592186044416) (l3 : ax.length ≤ 17592186044416) (h : (tnb sh ds && axb (sh.length : Nat) ax (-1)) = false) :
    Calls Tryz.prog 23 #[.agg #[vs, vd], va] w (SomeT w (if tnb sh ds = true then 2 else 1) [] []) := by
  obtain ⟨w2, hw2⟩ : ∃ w2, w2 = (w.alloc (.cells #[vs, vd] 26)).alloc (.cells #[.slice none 0 0, .slice none 0 0] 26) := ⟨_, rfl⟩
  have hsz : w2.heap.size = w.heap.size + 2 := by rw [hw2]; simp
  have B2 : Below w.heap.size w w2 := by rw [hw2]; exact ((Below.refl _ _).alloc (Nat.le_refl _) _).alloc (by simp) _
  have K1 : Hid (Blk w2 (w.heap.size + 1) 26 #[.slice none 0 0, .slice none 0 0]) := by rw [hw2]; exact blk_new1 w _ _ _
  have CR : Hid (∀ n, w2.heap.size = n → Calls Tryz.prog 72 #[.agg #[vs, vd], va] w2 fun e w' => e = .returned (.tuple #[.agg #[.slice none 0 0, .slice none 0 0, .slice none 0 0, .int .i64 0], .int .i64 (if tnb sh ds = true then 2 else 1)]) ∧ Below n w2 w') := fun n hn => by
    subst hn
    exact reduced_no vs vd va sh ds ax w2 (hs.below B2) (hd.below B2) (ha.below B2) l1 l2 l3 h
  replace CR := Lib.hid (CR.out (w.heap.size + 2) hsz)
  obtain ⟨E, hE⟩ : ∃ E : Int, E = if tnb sh ds = true then 2 else 1 := ⟨_, rfl⟩
  rw [← hE] at CR ⊢
  have hne : (E != 0) = true := by rw [hE]; split <;> rfl
  have HW := Lib.hid hw2
  have HB2 := Lib.hid B2
  obtain ⟨o1, n1, rfl, _, _⟩ := hs
  obtain ⟨o2, n2, rfl, _, _⟩ := hd
  obtain ⟨o3, n3, rfl, _, _⟩ := ha
  rw [hw2] at CR
  clear hw2 B2 hE h
  go_enter Tryz.func23, Tryz.ntmps23
  go_wp2_with (go_at_call 72; (with_reducible refine CR.out.mono ?_); rintro e w3 ⟨rfl, hb3⟩; rw [← HW.out] at hb3; have X1 := Lib.hid ((K1.out.below hb3 (by omega)).alloc (.cells #[.slice none 0 0, .slice none 0 0, .slice none 0 0, .int .i64 0] 129)); have B3 := Lib.hid ((HB2.out.trans (hb3.mono (by omega))).alloc (by have := hb3.size; omega) (.cells #[.slice none 0 0, .slice none 0 0, .slice none 0 0, .int .i64 0] 129)); obtain ⟨d0, d1, f0, f1⟩ := blk2 X1.out; clear hb3)
  refine bodyPost_ret (v := .tuple #[.agg #[.slice none 0 0, .slice none 0 0], .int .i64 E]) (by simp [results, Tryz.results23, go_sem, d0, d1]) rfl ?_
  exact ⟨none, 0, none, 0, rfl, World.ownsRow_nil _ _ _ _, World.ownsRow_nil _ _ _ _, (B3.out.setCell (p := ⟨w.heap.size + 1, 0, none⟩) (Nat.le_succ _) _).setCell (p := ⟨w.heap.size + 1, 1, none⟩) (Nat.le_succ _) _⟩

set_option maxRecDepth 100000 in
set_option maxHeartbeats 8000000 in
theorem mean_ok (vs vd va : Value) (sh ds ax : List Int) (M : Nat) (w : World) (hs : Ld w vs sh) (hd : Ld w vd ds) (ha : Ld w va ax) (l3 : ax.length ≤ 17592186044416) (ht : tnb sh ds = true) (hax : axb (sh.length : Nat) ax (-1) = true) (hM : (M : Int) = prod (lf sh ax 0)) :
    Calls Tryz.prog 23 #[.agg #[vs, vd], va] w (SomeT w (rde sh ds ax (ds.length / M : Nat) M) (unl (rde sh ds ax (ds.length / M : Nat) M) (lf sh ax 0)) (unl (rde sh ds ax (ds.length / M : Nat) M) (rdv sh ds ax (ds.length / M : Nat) M))) := by
  obtain ⟨hm, hdl, hw⟩ := tnb_parts ht
  have l4 := may_len hm
  have hp := may_prod hm
  have hM6 : 1 ≤ M ∧ M ≤ ds.length ∧ ds.length ≤ 65536 := by
    have := lf_prod ax sh 0 (may_pos hm)
    omega
  obtain ⟨w2, hw2⟩ : ∃ w2, w2 = (w.alloc (.cells #[vs, vd] 26)).alloc (.cells #[.slice none 0 0, .slice none 0 0] 26) := ⟨_, rfl⟩
  have hsz : w2.heap.size = w.heap.size + 2 := by rw [hw2]; simp
  have B2 : Below w.heap.size w w2 := by rw [hw2]; exact ((Below.refl _ _).alloc (Nat.le_refl _) _).alloc (by simp) _
  have K0 : Hid (Blk w2 w.heap.size 26 #[vs, vd]) := by rw [hw2]; exact (Blk.new w _ _).alloc _
  have K1 : Hid (Blk w2 (w.heap.size + 1) 26 #[.slice none 0 0, .slice none 0 0]) := by rw [hw2]; exact blk_new1 w _ _ _
  have CR : Hid (∀ n, w2.heap.size = n → Calls Tryz.prog 72 #[.agg #[vs, vd], va] w2 fun e w' => ∃ o1 c1 o2 c2, e = .returned (.tuple #[.agg #[vs, .slice o1 sh.length c1, .slice o2 (lf sh ax 0).length c2, .int .i64 (prod (lf sh ax 0))], .int .i64 0]) ∧
      Hid (Ld w' (.slice o1 sh.length c1) (ons sh ax 0)) ∧ Hid (w'.ownsRow n 3 1 (.slice o2 (lf sh ax 0).length c2) (lf sh ax 0).length (ints (lf sh ax 0))) ∧ Below n w2 w') := fun n hn => by
    subst hn
    exact reduced_ok vs vd va sh ds ax w2 (hs.below B2) (hd.below B2) (ha.below B2) l3 ht hax
  replace CR := Lib.hid (CR.out (w.heap.size + 2) hsz)
  rw [← hM] at CR
  obtain ⟨m6, hm6⟩ : ∃ m6, m6 = (lf sh ax 0).length := ⟨_, rfl⟩
  rw [← hm6] at CR
  have HM6 := Lib.hid hm6
  obtain ⟨f, hf⟩ : ∃ f, f = sms sh ax ds ds.length := ⟨_, rfl⟩
  have SM := Lib.hid (fun (W : World) (vo vt : Value) (hW : Below w.heap.size w W) (ho : Ld W vo (ons sh ax 0)) (ht : ∃ o m k, vt = .slice o m k) => summed_any vs vd vo vt sh ds ax ds.length M W (hs.below hW) (hd.below hW) ho ht hm hdl hM rfl hw)
  rw [← hf] at SM
  have hfb : ∀ k, k < M → -9223372036854775808 ≤ f k ∧ f k ≤ 9223372036854775807 := fun k _ => by
    rw [hf]
    exact (sms_R (by omega) (fun j hj => wd_mk (wds_at hw hj))).2
  obtain ⟨DD, hDD⟩ : ∃ DD : Int, DD = (ds.length / M : Nat) := ⟨_, rfl⟩
  have hD1 : 1 ≤ DD ∧ DD ≤ 65536 := by rw [hDD]; have := Nat.div_pos hM6.2.1 hM6.1; have := Nat.div_le_self ds.length M; omega
  obtain ⟨E, hE⟩ : ∃ E, E = rde sh ds ax (ds.length / M : Nat) M := ⟨_, rfl⟩
  obtain ⟨VL, hVL⟩ : ∃ VL, VL = rdv sh ds ax (ds.length / M : Nat) M := ⟨_, rfl⟩
  rw [← hE, ← hVL]
  have CC := Lib.hid (fun (W : World) (vt : Value) (g : Nat) (hv : ∃ o n c, vt = .slice o n c) (hb : Blk W g 121 (wcs f M)) => closed_any vt g f M DD W hv hb (by omega) hfb hD1.1 hD1.2)
  rw [show fer (cer f DD) M = E by rw [hE, hDD, hf]; rfl, show vls (cva f DD) M = VL by rw [hVL, hDD, hf]; rfl] at CC
  have HW := Lib.hid hw2
  have HB2 := Lib.hid B2
  have HE0 : Hid (E = 0 → VL.length = M) := Lib.hid (fun _ => by rw [hVL]; exact vls_len _ _)
  have HDD := Lib.hid hDD
  obtain ⟨o1, n1, rfl, _, _⟩ := hs
  obtain ⟨o2, n2, rfl, _, _⟩ := hd
  obtain ⟨o3, n3, rfl, _, _⟩ := ha
  rw [hw2] at CR
  have HI := Lib.hid hM6
  have HD1 := Lib.hid hD1
  clear hw2 B2 ht hm hdl hw hax hM hm6 hf hfb hE hVL hp l4 l3 hM6 hD1 hDD
  go_enter Tryz.func23, Tryz.ntmps23
  go_upto_region 4 with (go_at_call 72; (with_reducible refine CR.out.mono ?_); rintro e w3 ⟨o5, c5, o6, c6, rfl, hl5, ho6, hb3⟩; rw [← HW.out] at hb3; have b3 := Lib.hid hb3; have HL5 := Lib.hid hl5.out; have HO6 := Lib.hid ho6.out; clear hb3 hl5 ho6)
  obtain ⟨w4, hw4⟩ : ∃ w4, w4 = w3.alloc (.cells #[.slice o1 sh.length n1, .slice o5 sh.length c5, .slice o6 m6 c6, .int .i64 (M : Int)] 129) := ⟨_, rfl⟩
  obtain ⟨TB, hTB⟩ : ∃ TB, TB = w3.heap.size := ⟨_, rfl⟩
  rw [← hw4, ← hTB]
  have b34 : Below w3.heap.size w3 w4 := by rw [hw4]; exact al_below0 _
  have X0 := Lib.hid ((K0.out.below b3.out (by omega)).below b34 (K0.out.below b3.out (by omega)).lt)
  have X1 := Lib.hid ((K1.out.below b3.out (by omega)).below b34 (K1.out.below b3.out (by omega)).lt)
  have XT : Hid (Blk w4 TB 129 #[.slice o1 sh.length n1, .slice o5 sh.length c5, .slice o6 m6 c6, .int .i64 (M : Int)]) := Lib.hid (by rw [hTB, hw4]; exact Blk.new _ _ _)
  have OG := Lib.hid (Below.keepOwn HO6.out b34 (Nat.le_refl _))
  have HL4 := Lib.hid (HL5.out.below b34)
  have HB4 := Lib.hid ((HB2.out.trans (b3.out.mono (by omega))).trans (b34.mono (by have := b3.out.size; omega)))
  have HZ : Hid (w.heap.size + 2 ≤ w4.heap.size ∧ w.heap.size + 2 ≤ TB ∧ TB < w4.heap.size) := Lib.hid ⟨by have := b3.out.size; have := b34.size; omega, by have := b3.out.size; omega, by rw [hTB, hw4]; simp⟩
  clear hw4 hTB b34 HL5 HO6
  have KS : Hid (∀ W, Below w4.heap.size w4 W → W.cell? ⟨w.heap.size, 0, none⟩ = some (.slice o1 sh.length n1) ∧ W.cell? ⟨w.heap.size, 1, none⟩ = some (.slice o2 ds.length n2) ∧ W.cell? ⟨TB, 0, none⟩ = some (.slice o1 sh.length n1) ∧ W.cell? ⟨TB, 1, none⟩ = some (.slice o5 sh.length c5) ∧ W.cell? ⟨TB, 2, none⟩ = some (.slice o6 m6 c6) ∧ W.cell? ⟨TB, 3, none⟩ = some (.int .i64 (M : Int))) := Lib.hid (fun W hW => by
    have h0 := blk2 (X0.out.below hW X0.out.lt)
    have h1 := blk4 (XT.out.below hW XT.out.lt)
    exact ⟨h0.1, h0.2.1, h1⟩)
  have KS2 : Hid (∀ W u v, Below w4.heap.size w4 W → ((W.setCell ⟨w.heap.size + 1, 0, none⟩ u).setCell ⟨w.heap.size + 1, 1, none⟩ v).cell? ⟨w.heap.size, 0, none⟩ = some (.slice o1 sh.length n1) ∧ ((W.setCell ⟨w.heap.size + 1, 0, none⟩ u).setCell ⟨w.heap.size + 1, 1, none⟩ v).cell? ⟨w.heap.size, 1, none⟩ = some (.slice o2 ds.length n2) ∧ ((W.setCell ⟨w.heap.size + 1, 0, none⟩ u).setCell ⟨w.heap.size + 1, 1, none⟩ v).cell? ⟨TB, 0, none⟩ = some (.slice o1 sh.length n1) ∧ ((W.setCell ⟨w.heap.size + 1, 0, none⟩ u).setCell ⟨w.heap.size + 1, 1, none⟩ v).cell? ⟨TB, 1, none⟩ = some (.slice o5 sh.length c5) ∧ ((W.setCell ⟨w.heap.size + 1, 0, none⟩ u).setCell ⟨w.heap.size + 1, 1, none⟩ v).cell? ⟨TB, 2, none⟩ = some (.slice o6 m6 c6) ∧ ((W.setCell ⟨w.heap.size + 1, 0, none⟩ u).setCell ⟨w.heap.size + 1, 1, none⟩ v).cell? ⟨TB, 3, none⟩ = some (.int .i64 (M : Int))) := Lib.hid (fun W u v hW => by
    obtain ⟨k1, k2, k3, k4, k5, k6⟩ := KS.out W hW
    have hz := HZ.out
    exact ⟨cell_off2 (by omega) k1, cell_off2 (by omega) k2, cell_off2 (by omega) k3, cell_off2 (by omega) k4, cell_off2 (by omega) k5, cell_off2 (by omega) k6⟩)
  have KM := Lib.hid (fun (W : World) (hW : Below w4.heap.size w4 W) => SM.out W (.slice o5 sh.length c5) (.slice o6 m6 c6) (HB4.out.trans (hW.mono HB4.out.size)) (HL4.out.below hW) ⟨_, _, _, rfl⟩)
  have KC : Hid (∀ (W : World) (g : Nat), Blk W g 121 (wcs f M) → Below w4.heap.size w4 W → Calls Tryz.prog 75 #[.slice o6 m6 c6, .slice (some ⟨g, 0, none⟩) M M, .int .i64 DD] W fun e w' => ∃ so sn sc od cd, e = .returned (.tuple #[.agg #[.slice so sn sc, .slice od (unl E VL).length cd], .int .i64 E]) ∧ Hid ((Value.slice so sn sc) = if E = 0 then .slice o6 m6 c6 else .slice none 0 0) ∧ Hid (w'.ownsRow W.heap.size 2 1 (.slice od (unl E VL).length cd) (unl E VL).length (ints (unl E VL))) ∧ Below W.heap.size W w') := Lib.hid (fun W g hb _ => (CC.out W (.slice o6 m6 c6) g ⟨_, _, _, rfl⟩ hb).mono fun e w' hh => by
    obtain ⟨od, cd, rfl, h1, h2⟩ := hh
    by_cases e0 : E = 0
    · rw [if_pos e0]; exact ⟨_, _, _, _, _, rfl, Lib.hid rfl, h1, h2⟩
    · rw [if_neg e0]; exact ⟨_, _, _, _, _, rfl, Lib.hid rfl, h1, h2⟩)
  have B0 : Hid (Below w4.heap.size w4 w4.drew) := Lib.hid (below_drw (Below.refl _ _) 1)
  have hm0 : ¬ M = 0 := by have := HI.out; omega
  have hq : DD = (ds.length : Int) / (M : Int) := by rw [HDD.out, Int.natCast_ediv]
  have hq2 : IntKind.i64.wrap ((ds.length : Int) / (M : Int)) = (ds.length : Int) / (M : Int) := by rw [← hq]; have := HD1.out; exact IntWalk.i64_in _ (by omega)
  subst hq
  refine wp_region_held_drew (S := fun W => W.cell? ⟨w.heap.size, 0, none⟩ = some (.slice o1 sh.length n1) ∧ W.cell? ⟨w.heap.size, 1, none⟩ = some (.slice o2 ds.length n2) ∧ W.cell? ⟨TB, 0, none⟩ = some (.slice o1 sh.length n1) ∧ W.cell? ⟨TB, 1, none⟩ = some (.slice o5 sh.length c5) ∧ W.cell? ⟨TB, 2, none⟩ = some (.slice o6 m6 c6) ∧ W.cell? ⟨TB, 3, none⟩ = some (.int .i64 (M : Int))) (by kernel_rfl) ?_ (fun hHeld => ?_)
  · exact KS.out _ B0.out
  have hHd := hHeld
  generalize w4.drew = wd at *
  (refine wpAnyH_take (i := 0) (oi := ⟨some 18, _, _, _, _, _⟩) (v := ?v0_m1) rfl (by kernel_rfl) (by kernel_rfl) (by kernel_rfl) (fun _ _ _ h => h) (Or.inl ⟨by rfl, ?hy0_m1⟩) (by assumption) ?rest0_m1; (case hy0_m1 => ((intro w hSw); (try dsimp only at hSw); go_simp; first | done | (with_reducible rfl))))
  (try simp only [Act.put, List.setIfInBounds_toArray, List.set_cons_zero, List.set_cons_succ])
  (refine wpAnyH_take (i := 1) (oi := ⟨some 19, _, _, _, _, _⟩) (v := ?v1_m2) rfl (by kernel_rfl) (by kernel_rfl) (by kernel_rfl) (fun _ _ _ h => h) (Or.inl ⟨by rfl, ?hy1_m2⟩) (by assumption) ?rest1_m2; (case hy1_m2 => ((intro w hSw); (try dsimp only at hSw); go_simp; first | done | (with_reducible rfl))))
  (try simp only [Act.put, List.setIfInBounds_toArray, List.set_cons_zero, List.set_cons_succ])
  (refine wpAnyH_take (i := 2) (oi := ⟨some 20, _, _, _, _, _⟩) (v := ?v2_m3) rfl (by kernel_rfl) (by kernel_rfl) (by kernel_rfl) (fun _ _ _ h => h) (Or.inl ⟨by rfl, ?hy2_m3⟩) (by assumption) ?rest2_m3; (case hy2_m3 => ((intro w hSw); (try dsimp only at hSw); go_simp; first | done | (with_reducible rfl))))
  (try simp only [Act.put, List.setIfInBounds_toArray, List.set_cons_zero, List.set_cons_succ])
  (refine wpAnyH_take (i := 3) (oi := ⟨some 21, _, _, _, _, _⟩) (v := ?v3_m4) rfl (by kernel_rfl) (by kernel_rfl) (by kernel_rfl) (fun _ _ _ h => h) (Or.inl ⟨by rfl, ?hy3_m4⟩) (by assumption) ?rest3_m4; (case hy3_m4 => ((intro w hSw); (try dsimp only at hSw); go_simp; first | done | (with_reducible rfl))))
  (try simp only [Act.put, List.setIfInBounds_toArray, List.set_cons_zero, List.set_cons_succ])
  (refine wpAnyH_take (i := 5) (oi := ⟨some 23, _, _, _, _, _⟩) (v := ?v5_m5) rfl (by kernel_rfl) (by kernel_rfl) (by kernel_rfl) (fun _ _ _ h => h) (Or.inl ⟨by rfl, ?hy5_m5⟩) (by assumption) ?rest5_m5; (case hy5_m5 => ((intro w hSw); (try dsimp only at hSw); go_simp; first | done | (with_reducible rfl))))
  (try simp only [Act.put, List.setIfInBounds_toArray, List.set_cons_zero, List.set_cons_succ])
  (refine wpAnyH_take (i := 6) (oi := ⟨some 24, _, _, _, _, _⟩) (v := ?v6_m6) rfl (by kernel_rfl) (by kernel_rfl) (by kernel_rfl) (fun _ _ _ h => h) (Or.inl ⟨by rfl, ?hy6_m6⟩) (by assumption) ?rest6_m6; (case hy6_m6 => ((intro w hSw); (try dsimp only at hSw); go_simp; first | done | (with_reducible rfl))))
  (try simp only [Act.put, List.setIfInBounds_toArray, List.set_cons_zero, List.set_cons_succ])
  (refine wpAnyH_take (i := 7) (oi := ⟨some 25, _, _, _, _, _⟩) (v := ?v7_m7) rfl (by kernel_rfl) (by kernel_rfl) (by kernel_rfl) (fun _ _ _ h => h) (Or.inl ⟨by rfl, ?hy7_m7⟩) (by assumption) ?rest7_m7; (case hy7_m7 => ((intro w hSw); (try dsimp only at hSw); go_simp; first | done | (with_reducible rfl))))
  (try simp only [Act.put, List.setIfInBounds_toArray, List.set_cons_zero, List.set_cons_succ])
  (refine wpAnyH_take (i := 8) (oi := ⟨some 26, _, _, _, _, _⟩) (v := ?v8_m8) rfl (by kernel_rfl) (by kernel_rfl) (by kernel_rfl) (fun _ _ _ h => h) (Or.inl ⟨by rfl, ?hy8_m8⟩) (by assumption) ?rest8_m8; (case hy8_m8 => ((intro w hSw); (try dsimp only at hSw); go_simp; first | done | (with_reducible rfl))))
  (try simp only [Act.put, List.setIfInBounds_toArray, List.set_cons_zero, List.set_cons_succ])
  (refine wpAnyH_take (i := 9) (oi := ⟨some 27, _, _, _, _, _⟩) (v := ?v9_m9) rfl (by kernel_rfl) (by kernel_rfl) (by kernel_rfl) (fun _ _ _ h => h) (Or.inl ⟨by rfl, ?hy9_m9⟩) (by assumption) ?rest9_m9; (case hy9_m9 => ((intro w hSw); (try dsimp only at hSw); go_simp; first | done | (with_reducible rfl))))
  (try simp only [Act.put, List.setIfInBounds_toArray, List.set_cons_zero, List.set_cons_succ])
  (refine wpAnyH_take (i := 10) (oi := ⟨some 28, _, _, _, _, _⟩) (v := ?v10_m10) rfl (by kernel_rfl) (by kernel_rfl) (by kernel_rfl) (fun _ _ _ h => h) (Or.inl ⟨by rfl, ?hy10_m10⟩) (by assumption) ?rest10_m10; (case hy10_m10 => ((intro w hSw); (try dsimp only at hSw); go_simp; first | done | (with_reducible rfl))))
  (try simp only [Act.put, List.setIfInBounds_toArray, List.set_cons_zero, List.set_cons_succ])
  refine wpAnyH_ready (rs := [4]) (by kernel_rfl) (by simp) ?_
  refine AllReadyH.cons (o := ⟨some 22, _, _, _, _, _⟩) rfl (fun K hK => ?_) (AllReadyH.nil)
  go_simp
  (go_at_call 76; (with_reducible refine (KM.out _ B0.out).mono ?_); rintro e w5 ⟨gs, rfl, hgs, hb⟩; have HGS := Lib.hid hgs.out; clear hgs; have b5 := Lib.hid (B0.out.trans (hb.mono B0.out.size)); clear hb)
  refine hK.out _ _ ?_ (fun hHeld => ?_)
  · (try dsimp only)
    exact KS.out _ b5.out
  clear hK K
  (try simp only [Act.put, List.setIfInBounds_toArray, List.set_cons_zero, List.set_cons_succ])
  refine wpAnyH_ready (rs := [11]) (by kernel_rfl) (by simp) ?_
  refine AllReadyH.cons (o := ⟨some 29, _, _, _, _, _⟩) rfl (fun K hK => ?_) (AllReadyH.nil)
  go_simp
  (go_at_call 75; (with_reducible refine (KC.out _ gs HGS.out b5.out).mono ?_); rintro e w6 ⟨so, sn, sc, od, cd, rfl, hsv, hd5, hb⟩; have HSV := Lib.hid hsv.out; have HD5 := Lib.hid hd5.out; clear hsv hd5; have b6 := Lib.hid (b5.out.trans (hb.mono b5.out.size)); clear hb)
  refine hK.out _ _ ?_ (fun hHeld => ?_)
  · (try dsimp only)
    exact KS.out _ b6.out
  clear hK K
  (try simp only [Act.put, List.setIfInBounds_toArray, List.set_cons_zero, List.set_cons_succ])
  (refine wpAnyH_take (i := 12) (oi := ⟨some 30, _, _, _, _, _⟩) (v := ?v12_m11) rfl (by kernel_rfl) (by kernel_rfl) (by kernel_rfl) (fun _ _ _ h => h) (Or.inl ⟨by rfl, ?hy12_m11⟩) (by assumption) ?rest12_m11; (case hy12_m11 => ((intro w hSw); (try dsimp only at hSw); go_simp; first | done | (with_reducible rfl))))
  (try simp only [Act.put, List.setIfInBounds_toArray, List.set_cons_zero, List.set_cons_succ])
  (refine wpAnyH_take (i := 13) (oi := ⟨some 31, _, _, _, _, _⟩) (v := ?v13_m12) rfl (by kernel_rfl) (by kernel_rfl) (by kernel_rfl) (fun _ _ _ h => h) (Or.inl ⟨by rfl, ?hy13_m12⟩) (by assumption) ?rest13_m12; (case hy13_m12 => ((intro w hSw); (try dsimp only at hSw); go_simp; first | done | (with_reducible rfl))))
  (try simp only [Act.put, List.setIfInBounds_toArray, List.set_cons_zero, List.set_cons_succ])
  refine wpAnyH_ready (rs := [14]) (by kernel_rfl) (by simp) ?_
  refine AllReadyH.cons (o := ⟨none, _, _, _, _, _⟩) rfl (fun K hK => ?_) (AllReadyH.nil)
  obtain ⟨r0, r1, rf0, rf1⟩ := blk2 (X1.out.below b6.out X1.out.lt)
  go_simp
  refine hK.out _ _ ?_ (fun hHeld => ?_)
  · (try dsimp only)
    exact KS2.out _ _ _ b6.out
  clear hK K
  (try simp only [Act.put, List.setIfInBounds_toArray, List.set_cons_zero, List.set_cons_succ])
  (refine wpAnyH_take (i := 15) (oi := ⟨some 5, _, _, _, _, _⟩) (v := ?v15_m13) rfl (by kernel_rfl) (by kernel_rfl) (by kernel_rfl) (fun _ _ _ h => h) (Or.inl ⟨by rfl, ?hy15_m13⟩) (by assumption) ?rest15_m13; (case hy15_m13 => ((intro w hSw); (try dsimp only at hSw); go_simp; first | done | (with_reducible rfl))))
  (try simp only [Act.put, List.setIfInBounds_toArray, List.set_cons_zero, List.set_cons_succ])
  refine wpAnyH_done (by kernel_rfl) ?_ _
  go_wp2
  refine bodyPost_ret (v := .tuple #[.agg #[.slice so sn sc, .slice od (unl E VL).length cd], .int .i64 E]) (by simp [results, Tryz.results23, go_sem, r0, r1]) rfl ?_
  exact rsum_end HE0.out HSV.out HM6.out (Below.keepOwn OG.out b6.out (Nat.le_refl _)) ⟨Nat.le_add_right _ 2, (show w.heap.size ≤ w5.heap.size by have := HZ.out; have := b5.out.size; omega)⟩ HD5.out (X1.out.below b6.out X1.out.lt) (by have := HZ.out; omega) (HB4.out.trans (b6.out.mono HB4.out.size))
end Go.Proofs.YtmafgdinegboeaaGreat
