/-
  package reduce: Sum, Mean.
  What is played; told tensors as lists; small slices just laid.
  What each law of package reduce ends with: a sum.
  Words laid where indexes stand; which places are taken; plain mathematics.
  slices.Clone of words.
  The reference's views: which may be, axes, the plain one.
  view.Reshape; the reference's plain view.
  The view laws' own helpers: views held against one another, copied, written over, asked.
-/
import Derived.BigQuiet
import Derived.Deep.QuietTactic
import Derived.Test.YtlfijpcpfepfbaaM03
import Derived.Test.YtlfijpcpfepfbaaM07
import Derived.Test.YtlfijpcpfepfbaaM08
import Derived.Test.YtlfijpcpfepfbaaM14
namespace Go.Proofs.Ytlfijpcpfepfbaa
open Go Go.RowKit Go.Shelf

/-- The error of sums over D, and the words. -/
def rde (sh ds ax : List Int) (D : Int) (M : Nat) : Int := fer (cer (sms sh ax ds ds.length) D) M
def rdv (sh ds ax : List Int) (D : Int) (M : Nat) : List Int := vls (cva (sms sh ax ds ds.length) D) M
theorem al_below0 {W : World} (o : Obj) : Below W.heap.size W (W.alloc o) := (Below.refl _ _).alloc (Nat.le_refl _) o
theorem cell_off2 {W : World} {B b i n m : Nat} {u v x : Value} (hb : ¬ b = B) (hx : W.cell? ⟨b, i, none⟩ = some x) : ((W.setCell ⟨B, n, none⟩ u).setCell ⟨B, m, none⟩ v).cell? ⟨b, i, none⟩ = some x := by
  rw [← hx]
  simp only [World.cell?]
  rw [Below.heap_setCell _ _ _ _ hb, Below.heap_setCell _ _ _ _ hb]
theorem rsum_end {w W : World} {E : Int} {M B base2 b6 : Nat} {VL L : List Int} {so o6 od : Option Addr} {sn sc m6 c6 cd : Nat} (_hE : E = 0 → VL.length = M) (hsv : (Value.slice so sn sc) = if E = 0 then .slice o6 m6 c6 else .slice none 0 0)
    (hm6 : m6 = L.length) (ho : W.ownsRow b6 3 1 (.slice o6 m6 c6) m6 (ints L)) (hb : w.heap.size ≤ b6 ∧ w.heap.size ≤ base2) (hd : W.ownsRow base2 2 1 (.slice od (unl E VL).length cd) (unl E VL).length (ints (unl E VL))) (hx : Blk W B 26 #[.slice none 0 0, .slice none 0 0]) (hB : w.heap.size ≤ B) (hw : Below w.heap.size w W) :
    SomeT w E (unl E L) (unl E VL) (.returned (.tuple #[.agg #[.slice so sn sc, .slice od (unl E VL).length cd], .int .i64 E])) ((W.setCell ⟨B, 0, none⟩ (.slice so sn sc)).setCell ⟨B, 1, none⟩ (.slice od (unl E VL).length cd)) := by
  have hw2 := (hw.setCell (p := ⟨B, 0, none⟩) hB (.slice so sn sc)).setCell (p := ⟨B, 1, none⟩) hB (.slice od (unl E VL).length cd)
  have hd2 := own_setx (i := 1) (z := .slice od (unl E VL).length cd) (own_setx (i := 0) (z := .slice so sn sc) (own_base hd hb.2) hx (by decide)) (hx.set_ 0 _) (by decide)
  subst hm6
  by_cases e0 : E = 0
  · rw [if_pos e0] at hsv
    simp only [Value.slice.injEq] at hsv
    obtain ⟨e1, e2, e3⟩ := hsv
    subst e1 e2 e3
    have h2 := own_setx (i := 1) (z := .slice od (unl E VL).length cd) (own_setx (i := 0) (z := .slice so L.length sc) (own_base ho hb.1) hx (by decide)) (hx.set_ 0 _) (by decide)
    refine ⟨so, sc, od, cd, ?_, ?_, hd2, hw2⟩
    · rw [show (unl E L) = L from if_pos e0]
    · rw [show (unl E L) = L from if_pos e0]; exact h2
  · rw [if_neg e0] at hsv
    simp only [Value.slice.injEq] at hsv
    obtain ⟨rfl, rfl, rfl⟩ := hsv
    refine ⟨none, 0, od, cd, ?_, ?_, hd2, hw2⟩
    · rw [show (unl E L) = [] from if_neg e0]; rfl
    · rw [show (unl E L) = [] from if_neg e0]; exact World.ownsRow_nil _ _ _ _

set_option maxRecDepth 100000 in
set_option maxHeartbeats 8000000 in
theorem sum_no (vs vd va : Value) (sh ds ax : List Int) (w : World) (hs : Ld w vs sh) (hd : Ld w vd ds) (ha : Ld w va ax) (l1 : sh.length ≤ 17592186044416) (l2 : ds.length ≤ 17592186044416) (l3 : ax.length ≤ 17592186044416) (h : (tnb sh ds && axb (sh.length : Nat) ax (-1)) = false) :
    Calls Try.prog 16 #[.agg #[vs, vd], va] w (SomeT w (if tnb sh ds = true then 2 else 1) [] []) := by
  obtain ⟨w2, hw2⟩ : ∃ w2, w2 = (w.alloc (.cells #[vs, vd] 26)).alloc (.cells #[.slice none 0 0, .slice none 0 0] 26) := ⟨_, rfl⟩
  have hsz : w2.heap.size = w.heap.size + 2 := by rw [hw2]; simp
  have B2 : Below w.heap.size w w2 := by rw [hw2]; exact ((Below.refl _ _).alloc (Nat.le_refl _) _).alloc (by simp) _
  have K1 : Hid (Blk w2 (w.heap.size + 1) 26 #[.slice none 0 0, .slice none 0 0]) := by rw [hw2]; exact blk_new1 w _ _ _
  have CR : Hid (∀ n, w2.heap.size = n → Calls Try.prog 34 #[.agg #[vs, vd], va] w2 fun e w' => e = .returned (.tuple #[.agg #[.slice none 0 0, .slice none 0 0, .slice none 0 0, .int .i64 0], .int .i64 (if tnb sh ds = true then 2 else 1)]) ∧ Below n w2 w') := fun n hn => by
    subst hn
    exact reduced_no vs vd va sh ds ax w2 (hs.below B2) (hd.below B2) (ha.below B2) l1 l2 l3 h
  replace CR := Lib.hid (CR.out (w.heap.size + 2) hsz)
  obtain ⟨E, hE⟩ : ∃ E : Int, E = if tnb sh ds = true then 2 else 1 := ⟨_, rfl⟩
  rw [← hE] at CR ⊢
  have hne : (E != 0) = true := by rw [hE]; split <;> rfl
  have HW := Lib.hid hw2
  have HB2 := Lib.hid B2
  obtain ⟨o1, n1, rfl, _, _⟩ := hs
  obtain ⟨o2, n2, rfl, _, _⟩ := hd
  obtain ⟨o3, n3, rfl, _, _⟩ := ha
  rw [hw2] at CR
  clear hw2 B2 hE h
  go_enter Try.func16, Try.ntmps16
  go_wp2_with (go_at_call 34; (with_reducible refine CR.out.mono ?_); rintro e w3 ⟨rfl, hb3⟩; rw [← HW.out] at hb3; have X1 := Lib.hid ((K1.out.below hb3 (by omega)).alloc (.cells #[.slice none 0 0, .slice none 0 0, .slice none 0 0, .int .i64 0] 65)); have B3 := Lib.hid ((HB2.out.trans (hb3.mono (by omega))).alloc (by have := hb3.size; omega) (.cells #[.slice none 0 0, .slice none 0 0, .slice none 0 0, .int .i64 0] 65)); obtain ⟨d0, d1, f0, f1⟩ := blk2 X1.out; clear hb3)
  refine bodyPost_ret (v := .tuple #[.agg #[.slice none 0 0, .slice none 0 0], .int .i64 E]) (by simp [results, Try.results16, go_sem, d0, d1]) rfl ?_
  exact ⟨none, 0, none, 0, rfl, World.ownsRow_nil _ _ _ _, World.ownsRow_nil _ _ _ _, (B3.out.setCell (p := ⟨w.heap.size + 1, 0, none⟩) (Nat.le_succ _) _).setCell (p := ⟨w.heap.size + 1, 1, none⟩) (Nat.le_succ _) _⟩

set_option maxRecDepth 100000 in
set_option maxHeartbeats 8000000 in
theorem sum_ok (vs vd va : Value) (sh ds ax : List Int) (M : Nat) (w : World) (hs : Ld w vs sh) (hd : Ld w vd ds) (ha : Ld w va ax) (l3 : ax.length ≤ 17592186044416) (ht : tnb sh ds = true) (hax : axb (sh.length : Nat) ax (-1) = true) (hM : (M : Int) = prod (lf sh ax 0)) :
    Calls Try.prog 16 #[.agg #[vs, vd], va] w (SomeT w (rde sh ds ax 1 M) (unl (rde sh ds ax 1 M) (lf sh ax 0)) (unl (rde sh ds ax 1 M) (rdv sh ds ax 1 M))) := by
  obtain ⟨hm, hdl, hw⟩ := tnb_parts ht
  have l4 := may_len hm
  have hp := may_prod hm
  have hM6 : 1 ≤ M ∧ M ≤ ds.length ∧ ds.length ≤ 65536 := by
    have := lf_prod ax sh 0 (may_pos hm)
    omega
  obtain ⟨w2, hw2⟩ : ∃ w2, w2 = (w.alloc (.cells #[vs, vd] 26)).alloc (.cells #[.slice none 0 0, .slice none 0 0] 26) := ⟨_, rfl⟩
  have hsz : w2.heap.size = w.heap.size + 2 := by rw [hw2]; simp
  have B2 : Below w.heap.size w w2 := by rw [hw2]; exact ((Below.refl _ _).alloc (Nat.le_refl _) _).alloc (by simp) _
  have K0 : Hid (Blk w2 w.heap.size 26 #[vs, vd]) := by rw [hw2]; exact (Blk.new w _ _).alloc _
  have K1 : Hid (Blk w2 (w.heap.size + 1) 26 #[.slice none 0 0, .slice none 0 0]) := by rw [hw2]; exact blk_new1 w _ _ _
  have CR : Hid (∀ n, w2.heap.size = n → Calls Try.prog 34 #[.agg #[vs, vd], va] w2 fun e w' => ∃ o1 c1 o2 c2, e = .returned (.tuple #[.agg #[vs, .slice o1 sh.length c1, .slice o2 (lf sh ax 0).length c2, .int .i64 (prod (lf sh ax 0))], .int .i64 0]) ∧
      Hid (Ld w' (.slice o1 sh.length c1) (ons sh ax 0)) ∧ Hid (w'.ownsRow n 3 1 (.slice o2 (lf sh ax 0).length c2) (lf sh ax 0).length (ints (lf sh ax 0))) ∧ Below n w2 w') := fun n hn => by
    subst hn
    exact reduced_ok vs vd va sh ds ax w2 (hs.below B2) (hd.below B2) (ha.below B2) l3 ht hax
  replace CR := Lib.hid (CR.out (w.heap.size + 2) hsz)
  rw [← hM] at CR
  obtain ⟨m6, hm6⟩ : ∃ m6, m6 = (lf sh ax 0).length := ⟨_, rfl⟩
  rw [← hm6] at CR
  have HM6 := Lib.hid hm6
  obtain ⟨f, hf⟩ : ∃ f, f = sms sh ax ds ds.length := ⟨_, rfl⟩
  have SM := Lib.hid (fun (W : World) (vo vt : Value) (hW : Below w.heap.size w W) (ho : Ld W vo (ons sh ax 0)) (ht : ∃ o m k, vt = .slice o m k) => summed_any vs vd vo vt sh ds ax ds.length M W (hs.below hW) (hd.below hW) ho ht hm hdl hM rfl hw)
  rw [← hf] at SM
  have hfb : ∀ k, k < M → -9223372036854775808 ≤ f k ∧ f k ≤ 9223372036854775807 := fun k _ => by
    rw [hf]
    exact (sms_R (by omega) (fun j hj => wd_mk (wds_at hw hj))).2
  obtain ⟨DD, hDD⟩ : ∃ DD : Int, DD = 1 := ⟨_, rfl⟩
  have hD1 : 1 ≤ DD ∧ DD ≤ 65536 := by rw [hDD]; omega
  obtain ⟨E, hE⟩ : ∃ E, E = rde sh ds ax 1 M := ⟨_, rfl⟩
  obtain ⟨VL, hVL⟩ : ∃ VL, VL = rdv sh ds ax 1 M := ⟨_, rfl⟩
  rw [← hE, ← hVL]
  have CC := Lib.hid (fun (W : World) (vt : Value) (g : Nat) (hv : ∃ o n c, vt = .slice o n c) (hb : Blk W g 96 (wcs f M)) => closed_any vt g f M DD W hv hb (by omega) hfb hD1.1 hD1.2)
  rw [show fer (cer f DD) M = E by rw [hE, hDD, hf]; rfl, show vls (cva f DD) M = VL by rw [hVL, hDD, hf]; rfl] at CC
  have HW := Lib.hid hw2
  have HB2 := Lib.hid B2
  have HE0 : Hid (E = 0 → VL.length = M) := Lib.hid (fun _ => by rw [hVL]; exact vls_len _ _)
  have HDD := Lib.hid hDD
  obtain ⟨o1, n1, rfl, _, _⟩ := hs
  obtain ⟨o2, n2, rfl, _, _⟩ := hd
  obtain ⟨o3, n3, rfl, _, _⟩ := ha
  rw [hw2] at CR
  have HI := Lib.hid hM6
  have HD1 := Lib.hid hD1
  clear hw2 B2 ht hm hdl hw hax hM hm6 hf hfb hE hVL hp l4 l3 hM6 hD1 hDD
  go_enter Try.func16, Try.ntmps16
  go_upto_region 4 with (go_at_call 34; (with_reducible refine CR.out.mono ?_); rintro e w3 ⟨o5, c5, o6, c6, rfl, hl5, ho6, hb3⟩; rw [← HW.out] at hb3; have b3 := Lib.hid hb3; have HL5 := Lib.hid hl5.out; have HO6 := Lib.hid ho6.out; clear hb3 hl5 ho6)
  obtain ⟨w4, hw4⟩ : ∃ w4, w4 = w3.alloc (.cells #[.slice o1 sh.length n1, .slice o5 sh.length c5, .slice o6 m6 c6, .int .i64 (M : Int)] 65) := ⟨_, rfl⟩
  obtain ⟨TB, hTB⟩ : ∃ TB, TB = w3.heap.size := ⟨_, rfl⟩
  rw [← hw4, ← hTB]
  have b34 : Below w3.heap.size w3 w4 := by rw [hw4]; exact al_below0 _
  have X0 := Lib.hid ((K0.out.below b3.out (by omega)).below b34 (K0.out.below b3.out (by omega)).lt)
  have X1 := Lib.hid ((K1.out.below b3.out (by omega)).below b34 (K1.out.below b3.out (by omega)).lt)
  have XT : Hid (Blk w4 TB 65 #[.slice o1 sh.length n1, .slice o5 sh.length c5, .slice o6 m6 c6, .int .i64 (M : Int)]) := Lib.hid (by rw [hTB, hw4]; exact Blk.new _ _ _)
  have OG := Lib.hid (Below.keepOwn HO6.out b34 (Nat.le_refl _))
  have HL4 := Lib.hid (HL5.out.below b34)
  have HB4 := Lib.hid ((HB2.out.trans (b3.out.mono (by omega))).trans (b34.mono (by have := b3.out.size; omega)))
  have HZ : Hid (w.heap.size + 2 ≤ w4.heap.size ∧ w.heap.size + 2 ≤ TB ∧ TB < w4.heap.size) := Lib.hid ⟨by have := b3.out.size; have := b34.size; omega, by have := b3.out.size; omega, by rw [hTB, hw4]; simp⟩
  clear hw4 hTB b34 HL5 HO6
  have KS : Hid (∀ W, Below w4.heap.size w4 W → W.cell? ⟨w.heap.size, 0, none⟩ = some (.slice o1 sh.length n1) ∧ W.cell? ⟨w.heap.size, 1, none⟩ = some (.slice o2 ds.length n2) ∧ W.cell? ⟨TB, 0, none⟩ = some (.slice o1 sh.length n1) ∧ W.cell? ⟨TB, 1, none⟩ = some (.slice o5 sh.length c5) ∧ W.cell? ⟨TB, 2, none⟩ = some (.slice o6 m6 c6) ∧ W.cell? ⟨TB, 3, none⟩ = some (.int .i64 (M : Int))) := Lib.hid (fun W hW => by
    have h0 := blk2 (X0.out.below hW X0.out.lt)
    have h1 := blk4 (XT.out.below hW XT.out.lt)
    exact ⟨h0.1, h0.2.1, h1⟩)
  have KS2 : Hid (∀ W u v, Below w4.heap.size w4 W → ((W.setCell ⟨w.heap.size + 1, 0, none⟩ u).setCell ⟨w.heap.size + 1, 1, none⟩ v).cell? ⟨w.heap.size, 0, none⟩ = some (.slice o1 sh.length n1) ∧ ((W.setCell ⟨w.heap.size + 1, 0, none⟩ u).setCell ⟨w.heap.size + 1, 1, none⟩ v).cell? ⟨w.heap.size, 1, none⟩ = some (.slice o2 ds.length n2) ∧ ((W.setCell ⟨w.heap.size + 1, 0, none⟩ u).setCell ⟨w.heap.size + 1, 1, none⟩ v).cell? ⟨TB, 0, none⟩ = some (.slice o1 sh.length n1) ∧ ((W.setCell ⟨w.heap.size + 1, 0, none⟩ u).setCell ⟨w.heap.size + 1, 1, none⟩ v).cell? ⟨TB, 1, none⟩ = some (.slice o5 sh.length c5) ∧ ((W.setCell ⟨w.heap.size + 1, 0, none⟩ u).setCell ⟨w.heap.size + 1, 1, none⟩ v).cell? ⟨TB, 2, none⟩ = some (.slice o6 m6 c6) ∧ ((W.setCell ⟨w.heap.size + 1, 0, none⟩ u).setCell ⟨w.heap.size + 1, 1, none⟩ v).cell? ⟨TB, 3, none⟩ = some (.int .i64 (M : Int))) := Lib.hid (fun W u v hW => by
    obtain ⟨k1, k2, k3, k4, k5, k6⟩ := KS.out W hW
    have hz := HZ.out
    exact ⟨cell_off2 (by omega) k1, cell_off2 (by omega) k2, cell_off2 (by omega) k3, cell_off2 (by omega) k4, cell_off2 (by omega) k5, cell_off2 (by omega) k6⟩)
  have KM := Lib.hid (fun (W : World) (hW : Below w4.heap.size w4 W) => SM.out W (.slice o5 sh.length c5) (.slice o6 m6 c6) (HB4.out.trans (hW.mono HB4.out.size)) (HL4.out.below hW) ⟨_, _, _, rfl⟩)
  have KC : Hid (∀ (W : World) (g : Nat), Blk W g 96 (wcs f M) → Below w4.heap.size w4 W → Calls Try.prog 40 #[.slice o6 m6 c6, .slice (some ⟨g, 0, none⟩) M M, .int .i64 DD] W fun e w' => ∃ so sn sc od cd, e = .returned (.tuple #[.agg #[.slice so sn sc, .slice od (unl E VL).length cd], .int .i64 E]) ∧ Hid ((Value.slice so sn sc) = if E = 0 then .slice o6 m6 c6 else .slice none 0 0) ∧ Hid (w'.ownsRow W.heap.size 2 1 (.slice od (unl E VL).length cd) (unl E VL).length (ints (unl E VL))) ∧ Below W.heap.size W w') := Lib.hid (fun W g hb _ => (CC.out W (.slice o6 m6 c6) g ⟨_, _, _, rfl⟩ hb).mono fun e w' hh => by
    obtain ⟨od, cd, rfl, h1, h2⟩ := hh
    by_cases e0 : E = 0
    · rw [if_pos e0]; exact ⟨_, _, _, _, _, rfl, Lib.hid rfl, h1, h2⟩
    · rw [if_neg e0]; exact ⟨_, _, _, _, _, rfl, Lib.hid rfl, h1, h2⟩)
  have B0 : Hid (Below w4.heap.size w4 w4.drew) := Lib.hid (below_drw (Below.refl _ _) 1)
  have hq := HDD.out
  subst hq
  refine wp_region_held_drew (S := fun W => W.cell? ⟨w.heap.size, 0, none⟩ = some (.slice o1 sh.length n1) ∧ W.cell? ⟨w.heap.size, 1, none⟩ = some (.slice o2 ds.length n2) ∧ W.cell? ⟨TB, 0, none⟩ = some (.slice o1 sh.length n1) ∧ W.cell? ⟨TB, 1, none⟩ = some (.slice o5 sh.length c5) ∧ W.cell? ⟨TB, 2, none⟩ = some (.slice o6 m6 c6) ∧ W.cell? ⟨TB, 3, none⟩ = some (.int .i64 (M : Int))) (by kernel_rfl) ?_ (fun hHeld => ?_)
  · exact KS.out _ B0.out
  have hHd := hHeld
  generalize w4.drew = wd at *
  (refine wpAnyH_take (i := 0) (oi := ⟨some 18, _, _, _, _, _⟩) (v := ?v0_s1) rfl (by kernel_rfl) (by kernel_rfl) (by kernel_rfl) (fun _ _ _ h => h) (Or.inl ⟨by rfl, ?hy0_s1⟩) (by assumption) ?rest0_s1; (case hy0_s1 => ((intro w hSw); (try dsimp only at hSw); go_simp; first | done | (with_reducible rfl))))
  (try simp only [Act.put, List.setIfInBounds_toArray, List.set_cons_zero, List.set_cons_succ])
  (refine wpAnyH_take (i := 1) (oi := ⟨some 19, _, _, _, _, _⟩) (v := ?v1_s2) rfl (by kernel_rfl) (by kernel_rfl) (by kernel_rfl) (fun _ _ _ h => h) (Or.inl ⟨by rfl, ?hy1_s2⟩) (by assumption) ?rest1_s2; (case hy1_s2 => ((intro w hSw); (try dsimp only at hSw); go_simp; first | done | (with_reducible rfl))))
  (try simp only [Act.put, List.setIfInBounds_toArray, List.set_cons_zero, List.set_cons_succ])
  (refine wpAnyH_take (i := 2) (oi := ⟨some 20, _, _, _, _, _⟩) (v := ?v2_s3) rfl (by kernel_rfl) (by kernel_rfl) (by kernel_rfl) (fun _ _ _ h => h) (Or.inl ⟨by rfl, ?hy2_s3⟩) (by assumption) ?rest2_s3; (case hy2_s3 => ((intro w hSw); (try dsimp only at hSw); go_simp; first | done | (with_reducible rfl))))
  (try simp only [Act.put, List.setIfInBounds_toArray, List.set_cons_zero, List.set_cons_succ])
  (refine wpAnyH_take (i := 3) (oi := ⟨some 21, _, _, _, _, _⟩) (v := ?v3_s4) rfl (by kernel_rfl) (by kernel_rfl) (by kernel_rfl) (fun _ _ _ h => h) (Or.inl ⟨by rfl, ?hy3_s4⟩) (by assumption) ?rest3_s4; (case hy3_s4 => ((intro w hSw); (try dsimp only at hSw); go_simp; first | done | (with_reducible rfl))))
  (try simp only [Act.put, List.setIfInBounds_toArray, List.set_cons_zero, List.set_cons_succ])
  refine wpAnyH_ready (rs := [4]) (by kernel_rfl) (by simp) ?_
  refine AllReadyH.cons (o := ⟨some 22, _, _, _, _, _⟩) rfl (fun K hK => ?_) (AllReadyH.nil)
  go_simp
  (go_at_call 41; (with_reducible refine (KM.out _ B0.out).mono ?_); rintro e w5 ⟨gs, rfl, hgs, hb⟩; have HGS := Lib.hid hgs.out; clear hgs; have b5 := Lib.hid (B0.out.trans (hb.mono B0.out.size)); clear hb)
  refine hK.out _ _ ?_ (fun hHeld => ?_)
  · (try dsimp only)
    exact KS.out _ b5.out
  clear hK K
  (try simp only [Act.put, List.setIfInBounds_toArray, List.set_cons_zero, List.set_cons_succ])
  refine wpAnyH_ready (rs := [5]) (by kernel_rfl) (by simp) ?_
  refine AllReadyH.cons (o := ⟨some 23, _, _, _, _, _⟩) rfl (fun K hK => ?_) (AllReadyH.nil)
  go_simp
  (go_at_call 40; (with_reducible refine (KC.out _ gs HGS.out b5.out).mono ?_); rintro e w6 ⟨so, sn, sc, od, cd, rfl, hsv, hd5, hb⟩; have HSV := Lib.hid hsv.out; have HD5 := Lib.hid hd5.out; clear hsv hd5; have b6 := Lib.hid (b5.out.trans (hb.mono b5.out.size)); clear hb)
  refine hK.out _ _ ?_ (fun hHeld => ?_)
  · (try dsimp only)
    exact KS.out _ b6.out
  clear hK K
  (try simp only [Act.put, List.setIfInBounds_toArray, List.set_cons_zero, List.set_cons_succ])
  (refine wpAnyH_take (i := 6) (oi := ⟨some 24, _, _, _, _, _⟩) (v := ?v6_s5) rfl (by kernel_rfl) (by kernel_rfl) (by kernel_rfl) (fun _ _ _ h => h) (Or.inl ⟨by rfl, ?hy6_s5⟩) (by assumption) ?rest6_s5; (case hy6_s5 => ((intro w hSw); (try dsimp only at hSw); go_simp; first | done | (with_reducible rfl))))
  (try simp only [Act.put, List.setIfInBounds_toArray, List.set_cons_zero, List.set_cons_succ])
  (refine wpAnyH_take (i := 7) (oi := ⟨some 25, _, _, _, _, _⟩) (v := ?v7_s6) rfl (by kernel_rfl) (by kernel_rfl) (by kernel_rfl) (fun _ _ _ h => h) (Or.inl ⟨by rfl, ?hy7_s6⟩) (by assumption) ?rest7_s6; (case hy7_s6 => ((intro w hSw); (try dsimp only at hSw); go_simp; first | done | (with_reducible rfl))))
  (try simp only [Act.put, List.setIfInBounds_toArray, List.set_cons_zero, List.set_cons_succ])
  refine wpAnyH_ready (rs := [8]) (by kernel_rfl) (by simp) ?_
  refine AllReadyH.cons (o := ⟨none, _, _, _, _, _⟩) rfl (fun K hK => ?_) (AllReadyH.nil)
  obtain ⟨r0, r1, rf0, rf1⟩ := blk2 (X1.out.below b6.out X1.out.lt)
  go_simp
  refine hK.out _ _ ?_ (fun hHeld => ?_)
  · (try dsimp only)
    exact KS2.out _ _ _ b6.out
  clear hK K
  (try simp only [Act.put, List.setIfInBounds_toArray, List.set_cons_zero, List.set_cons_succ])
  (refine wpAnyH_take (i := 9) (oi := ⟨some 5, _, _, _, _, _⟩) (v := ?v9_s7) rfl (by kernel_rfl) (by kernel_rfl) (by kernel_rfl) (fun _ _ _ h => h) (Or.inl ⟨by rfl, ?hy9_s7⟩) (by assumption) ?rest9_s7; (case hy9_s7 => ((intro w hSw); (try dsimp only at hSw); go_simp; first | done | (with_reducible rfl))))
  (try simp only [Act.put, List.setIfInBounds_toArray, List.set_cons_zero, List.set_cons_succ])
  refine wpAnyH_done (by kernel_rfl) ?_ _
  go_wp2
  refine bodyPost_ret (v := .tuple #[.agg #[.slice so sn sc, .slice od (unl E VL).length cd], .int .i64 E]) (by simp [results, Try.results16, go_sem, r0, r1]) rfl ?_
  exact rsum_end HE0.out HSV.out HM6.out (Below.keepOwn OG.out b6.out (Nat.le_refl _)) ⟨Nat.le_add_right _ 2, (show w.heap.size ≤ w5.heap.size by have := HZ.out; have := b5.out.size; omega)⟩ HD5.out (X1.out.below b6.out X1.out.lt) (by have := HZ.out; omega) (HB4.out.trans (b6.out.mono HB4.out.size))

set_option maxRecDepth 100000 in
set_option maxHeartbeats 8000000 in
theorem mean_no (vs vd va : Value) (sh ds ax : List Int) (w : World) (hs : Ld w vs sh) (hd : Ld w vd ds) (ha : Ld w va ax) (l1 : sh.length ≤ 17592186044416) (l2 : ds.length ≤ 17592186044416) (l3 : ax.length ≤ 17592186044416) (h : (tnb sh ds && axb (sh.length : Nat) ax (-1)) = false) :
    Calls Try.prog 22 #[.agg #[vs, vd], va] w (SomeT w (if tnb sh ds = true then 2 else 1) [] []) := by
  obtain ⟨w2, hw2⟩ : ∃ w2, w2 = (w.alloc (.cells #[vs, vd] 26)).alloc (.cells #[.slice none 0 0, .slice none 0 0] 26) := ⟨_, rfl⟩
  have hsz : w2.heap.size = w.heap.size + 2 := by rw [hw2]; simp
  have B2 : Below w.heap.size w w2 := by rw [hw2]; exact ((Below.refl _ _).alloc (Nat.le_refl _) _).alloc (by simp) _
  have K1 : Hid (Blk w2 (w.heap.size + 1) 26 #[.slice none 0 0, .slice none 0 0]) := by rw [hw2]; exact blk_new1 w _ _ _
  have CR : Hid (∀ n, w2.heap.size = n → Calls Try.prog 34 #[.agg #[vs, vd], va] w2 fun e w' => e = .returned (.tuple #[.agg #[.slice none 0 0, .slice none 0 0, .slice none 0 0, .int .i64 0], .int .i64 (if tnb sh ds = true then 2 else 1)]) ∧ Below n w2 w') := fun n hn => by
    subst hn
    exact reduced_no vs vd va sh ds ax w2 (hs.below B2) (hd.below B2) (ha.below B2) l1 l2 l3 h
  replace CR := Lib.hid (CR.out (w.heap.size + 2) hsz)
  obtain ⟨E, hE⟩ : ∃ E : Int, E = if tnb sh ds = true then 2 else 1 := ⟨_, rfl⟩
  rw [← hE] at CR ⊢
  have hne : (E != 0) = true := by rw [hE]; split <;> rfl
  have HW := Lib.hid hw2
  have HB2 := Lib.hid B2
  obtain ⟨o1, n1, rfl, _, _⟩ := hs
  obtain ⟨o2, n2, rfl, _, _⟩ := hd
  obtain ⟨o3, n3, rfl, _, _⟩ := ha
  rw [hw2] at CR
  clear hw2 B2 hE h
  go_enter Try.func22, Try.ntmps22
  go_wp2_with (go_at_call 34; (with_reducible refine CR.out.mono ?_); rintro e w3 ⟨rfl, hb3⟩; rw [← HW.out] at hb3; have X1 := Lib.hid ((K1.out.below hb3 (by omega)).alloc (.cells #[.slice none 0 0, .slice none 0 0, .slice none 0 0, .int .i64 0] 65)); have B3 := Lib.hid ((HB2.out.trans (hb3.mono (by omega))).alloc (by have := hb3.size; omega) (.cells #[.slice none 0 0, .slice none 0 0, .slice none 0 0, .int .i64 0] 65)); obtain ⟨d0, d1, f0, f1⟩ := blk2 X1.out; clear hb3)
  refine bodyPost_ret (v := .tuple #[.agg #[.slice none 0 0, .slice none 0 0], .int .i64 E]) (by simp [results, Try.results22, go_sem, d0, d1]) rfl ?_
  exact ⟨none, 0, none, 0, rfl, World.ownsRow_nil _ _ _ _, World.ownsRow_nil _ _ _ _, (B3.out.setCell (p := ⟨w.heap.size + 1, 0, none⟩) (Nat.le_succ _) _).setCell (p := ⟨w.heap.size + 1, 1, none⟩) (Nat.le_succ _) _⟩

set_option maxRecDepth 100000 in
set_option maxHeartbeats 8000000 in
theorem mean_ok (vs vd va : Value) (sh ds ax : List Int) (M : Nat) (w : World) (hs : Ld w vs sh) (hd : Ld w vd ds) (ha : Ld w va ax) (l3 : ax.length ≤ 17592186044416) (ht : tnb sh ds = true) (hax : axb (sh.length : Nat) ax (-1) = true) (hM : (M : Int) = prod (lf sh ax 0)) :
    Calls Try.prog 22 #[.agg #[vs, vd], va] w (SomeT w (rde sh ds ax (ds.length / M : Nat) M) (unl (rde sh ds ax (ds.length / M : Nat) M) (lf sh ax 0)) (unl (rde sh ds ax (ds.length / M : Nat) M) (rdv sh ds ax (ds.length / M : Nat) M))) := by
  obtain ⟨hm, hdl, hw⟩ := tnb_parts ht
  have l4 := may_len hm
  have hp := may_prod hm
  have hM6 : 1 ≤ M ∧ M ≤ ds.length ∧ ds.length ≤ 65536 := by
    have := lf_prod ax sh 0 (may_pos hm)
    omega
  obtain ⟨w2, hw2⟩ : ∃ w2, w2 = (w.alloc (.cells #[vs, vd] 26)).alloc (.cells #[.slice none 0 0, .slice none 0 0] 26) := ⟨_, rfl⟩
  have hsz : w2.heap.size = w.heap.size + 2 := by rw [hw2]; simp
  have B2 : Below w.heap.size w w2 := by rw [hw2]; exact ((Below.refl _ _).alloc (Nat.le_refl _) _).alloc (by simp) _
  have K0 : Hid (Blk w2 w.heap.size 26 #[vs, vd]) := by rw [hw2]; exact (Blk.new w _ _).alloc _
  have K1 : Hid (Blk w2 (w.heap.size + 1) 26 #[.slice none 0 0, .slice none 0 0]) := by rw [hw2]; exact blk_new1 w _ _ _
  have CR : Hid (∀ n, w2.heap.size = n → Calls Try.prog 34 #[.agg #[vs, vd], va] w2 fun e w' => ∃ o1 c1 o2 c2, e = .returned (.tuple #[.agg #[vs, .slice o1 sh.length c1, .slice o2 (lf sh ax 0).length c2, .int .i64 (prod (lf sh ax 0))], .int .i64 0]) ∧
      Hid (Ld w' (.slice o1 sh.length c1) (ons sh ax 0)) ∧ Hid (w'.ownsRow n 3 1 (.slice o2 (lf sh ax 0).length c2) (lf sh ax 0).length (ints (lf sh ax 0))) ∧ Below n w2 w') := fun n hn => by
    subst hn
    exact reduced_ok vs vd va sh ds ax w2 (hs.below B2) (hd.below B2) (ha.below B2) l3 ht hax
  replace CR := Lib.hid (CR.out (w.heap.size + 2) hsz)
  rw [← hM] at CR
  obtain ⟨m6, hm6⟩ : ∃ m6, m6 = (lf sh ax 0).length := ⟨_, rfl⟩
  rw [← hm6] at CR
  have HM6 := Lib.hid hm6
  obtain ⟨f, hf⟩ : ∃ f, f = sms sh ax ds ds.length := ⟨_, rfl⟩
  have SM := Lib.hid (fun (W : World) (vo vt : Value) (hW : Below w.heap.size w W) (ho : Ld W vo (ons sh ax 0)) (ht : ∃ o m k, vt = .slice o m k) => summed_any vs vd vo vt sh ds ax ds.length M W (hs.below hW) (hd.below hW) ho ht hm hdl hM rfl hw)
  rw [← hf] at SM
  have hfb : ∀ k, k < M → -9223372036854775808 ≤ f k ∧ f k ≤ 9223372036854775807 := fun k _ => by
    rw [hf]
    exact (sms_R (by omega) (fun j hj => wd_mk (wds_at hw hj))).2
  obtain ⟨DD, hDD⟩ : ∃ DD : Int, DD = (ds.length / M : Nat) := ⟨_, rfl⟩
  have hD1 : 1 ≤ DD ∧ DD ≤ 65536 := by rw [hDD]; have := Nat.div_pos hM6.2.1 hM6.1; have := Nat.div_le_self ds.length M; omega
  obtain ⟨E, hE⟩ : ∃ E, E = rde sh ds ax (ds.length / M : Nat) M := ⟨_, rfl⟩
  obtain ⟨VL, hVL⟩ : ∃ VL, VL = rdv sh ds ax (ds.length / M : Nat) M := ⟨_, rfl⟩
  rw [← hE, ← hVL]
  have CC := Lib.hid (fun (W : World) (vt : Value) (g : Nat) (hv : ∃ o n c, vt = .slice o n c) (hb : Blk W g 96 (wcs f M)) => closed_any vt g f M DD W hv hb (by omega) hfb hD1.1 hD1.2)
  rw [show fer (cer f DD) M = E by rw [hE, hDD, hf]; rfl, show vls (cva f DD) M = VL by rw [hVL, hDD, hf]; rfl] at CC
  have HW := Lib.hid hw2
  have HB2 := Lib.hid B2
  have HE0 : Hid (E = 0 → VL.length = M) := Lib.hid (fun _ => by rw [hVL]; exact vls_len _ _)
  have HDD := Lib.hid hDD
  obtain ⟨o1, n1, rfl, _, _⟩ := hs
  obtain ⟨o2, n2, rfl, _, _⟩ := hd
  obtain ⟨o3, n3, rfl, _, _⟩ := ha
  rw [hw2] at CR
  have HI := Lib.hid hM6
  have HD1 := Lib.hid hD1
  clear hw2 B2 ht hm hdl hw hax hM hm6 hf hfb hE hVL hp l4 l3 hM6 hD1 hDD
  go_enter Try.func22, Try.ntmps22
  go_upto_region 4 with (go_at_call 34; (with_reducible refine CR.out.mono ?_); rintro e w3 ⟨o5, c5, o6, c6, rfl, hl5, ho6, hb3⟩; rw [← HW.out] at hb3; have b3 := Lib.hid hb3; have HL5 := Lib.hid hl5.out; have HO6 := Lib.hid ho6.out; clear hb3 hl5 ho6)
  obtain ⟨w4, hw4⟩ : ∃ w4, w4 = w3.alloc (.cells #[.slice o1 sh.length n1, .slice o5 sh.length c5, .slice o6 m6 c6, .int .i64 (M : Int)] 65) := ⟨_, rfl⟩
  obtain ⟨TB, hTB⟩ : ∃ TB, TB = w3.heap.size := ⟨_, rfl⟩
  rw [← hw4, ← hTB]
  have b34 : Below w3.heap.size w3 w4 := by rw [hw4]; exact al_below0 _
  have X0 := Lib.hid ((K0.out.below b3.out (by omega)).below b34 (K0.out.below b3.out (by omega)).lt)
  have X1 := Lib.hid ((K1.out.below b3.out (by omega)).below b34 (K1.out.below b3.out (by omega)).lt)
  have XT : Hid (Blk w4 TB 65 #[.slice o1 sh.length n1, .slice o5 sh.length c5, .slice o6 m6 c6, .int .i64 (M : Int)]) := Lib.hid (by rw [hTB, hw4]; exact Blk.new _ _ _)
  have OG := Lib.hid (Below.keepOwn HO6.out b34 (Nat.le_refl _))
  have HL4 := Lib.hid (HL5.out.below b34)
  have HB4 := Lib.hid ((HB2.out.trans (b3.out.mono (by omega))).trans (b34.mono (by have := b3.out.size; omega)))
  have HZ : Hid (w.heap.size + 2 ≤ w4.heap.size ∧ w.heap.size + 2 ≤ TB ∧ TB < w4.heap.size) := Lib.hid ⟨by have := b3.out.size; have := b34.size; omega, by have := b3.out.size; omega, by rw [hTB, hw4]; simp⟩
  clear hw4 hTB b34 HL5 HO6
  have KS : Hid (∀ W, Below w4.heap.size w4 W → W.cell? ⟨w.heap.size, 0, none⟩ = some (.slice o1 sh.length n1) ∧ W.cell? ⟨w.heap.size, 1, none⟩ = some (.slice o2 ds.length n2) ∧ W.cell? ⟨TB, 0, none⟩ = some (.slice o1 sh.length n1) ∧ W.cell? ⟨TB, 1, none⟩ = some (.slice o5 sh.length c5) ∧ W.cell? ⟨TB, 2, none⟩ = some (.slice o6 m6 c6) ∧ W.cell? ⟨TB, 3, none⟩ = some (.int .i64 (M : Int))) := Lib.hid (fun W hW => by
    have h0 := blk2 (X0.out.below hW X0.out.lt)
    have h1 := blk4 (XT.out.below hW XT.out.lt)
    exact ⟨h0.1, h0.2.1, h1⟩)
  have KS2 : Hid (∀ W u v, Below w4.heap.size w4 W → ((W.setCell ⟨w.heap.size + 1, 0, none⟩ u).setCell ⟨w.heap.size + 1, 1, none⟩ v).cell? ⟨w.heap.size, 0, none⟩ = some (.slice o1 sh.length n1) ∧ ((W.setCell ⟨w.heap.size + 1, 0, none⟩ u).setCell ⟨w.heap.size + 1, 1, none⟩ v).cell? ⟨w.heap.size, 1, none⟩ = some (.slice o2 ds.length n2) ∧ ((W.setCell ⟨w.heap.size + 1, 0, none⟩ u).setCell ⟨w.heap.size + 1, 1, none⟩ v).cell? ⟨TB, 0, none⟩ = some (.slice o1 sh.length n1) ∧ ((W.setCell ⟨w.heap.size + 1, 0, none⟩ u).setCell ⟨w.heap.size + 1, 1, none⟩ v).cell? ⟨TB, 1, none⟩ = some (.slice o5 sh.length c5) ∧ ((W.setCell ⟨w.heap.size + 1, 0, none⟩ u).setCell ⟨w.heap.size + 1, 1, none⟩ v).cell? ⟨TB, 2, none⟩ = some (.slice o6 m6 c6) ∧ ((W.setCell ⟨w.heap.size + 1, 0, none⟩ u).setCell ⟨w.heap.size + 1, 1, none⟩ v).cell? ⟨TB, 3, none⟩ = some (.int .i64 (M : Int))) := Lib.hid (fun W u v hW => by
    obtain ⟨k1, k2, k3, k4, k5, k6⟩ := KS.out W hW
    have hz := HZ.out
    exact ⟨cell_off2 (by omega) k1, cell_off2 (by omega) k2, cell_off2 (by omega) k3, cell_off2 (by omega) k4, cell_off2 (by omega) k5, cell_off2 (by omega) k6⟩)
  have KM := Lib.hid (fun (W : World) (hW : Below w4.heap.size w4 W) => SM.out W (.slice o5 sh.length c5) (.slice o6 m6 c6) (HB4.out.trans (hW.mono HB4.out.size)) (HL4.out.below hW) ⟨_, _, _, rfl⟩)
  have KC : Hid (∀ (W : World) (g : Nat), Blk W g 96 (wcs f M) → Below w4.heap.size w4 W → Calls Try.prog 40 #[.slice o6 m6 c6, .slice (some ⟨g, 0, none⟩) M M, .int .i64 DD] W fun e w' => ∃ so sn sc od cd, e = .returned (.tuple #[.agg #[.slice so sn sc, .slice od (unl E VL).length cd], .int .i64 E]) ∧ Hid ((Value.slice so sn sc) = if E = 0 then .slice o6 m6 c6 else .slice none 0 0) ∧ Hid (w'.ownsRow W.heap.size 2 1 (.slice od (unl E VL).length cd) (unl E VL).length (ints (unl E VL))) ∧ Below W.heap.size W w') := Lib.hid (fun W g hb _ => (CC.out W (.slice o6 m6 c6) g ⟨_, _, _, rfl⟩ hb).mono fun e w' hh => by
    obtain ⟨od, cd, rfl, h1, h2⟩ := hh
    by_cases e0 : E = 0
    · rw [if_pos e0]; exact ⟨_, _, _, _, _, rfl, Lib.hid rfl, h1, h2⟩
    · rw [if_neg e0]; exact ⟨_, _, _, _, _, rfl, Lib.hid rfl, h1, h2⟩)
  have B0 : Hid (Below w4.heap.size w4 w4.drew) := Lib.hid (below_drw (Below.refl _ _) 1)
  have hm0 : ¬ M = 0 := by have := HI.out; omega
  have hq : DD = (ds.length : Int) / (M : Int) := by rw [HDD.out, Int.natCast_ediv]
  have hq2 : IntKind.i64.wrap ((ds.length : Int) / (M : Int)) = (ds.length : Int) / (M : Int) := by rw [← hq]; have := HD1.out; exact IntWalk.i64_in _ (by omega)
  subst hq
  refine wp_region_held_drew (S := fun W => W.cell? ⟨w.heap.size, 0, none⟩ = some (.slice o1 sh.length n1) ∧ W.cell? ⟨w.heap.size, 1, none⟩ = some (.slice o2 ds.length n2) ∧ W.cell? ⟨TB, 0, none⟩ = some (.slice o1 sh.length n1) ∧ W.cell? ⟨TB, 1, none⟩ = some (.slice o5 sh.length c5) ∧ W.cell? ⟨TB, 2, none⟩ = some (.slice o6 m6 c6) ∧ W.cell? ⟨TB, 3, none⟩ = some (.int .i64 (M : Int))) (by kernel_rfl) ?_ (fun hHeld => ?_)
  · exact KS.out _ B0.out
  have hHd := hHeld
  generalize w4.drew = wd at *
  (refine wpAnyH_take (i := 0) (oi := ⟨some 18, _, _, _, _, _⟩) (v := ?v0_m1) rfl (by kernel_rfl) (by kernel_rfl) (by kernel_rfl) (fun _ _ _ h => h) (Or.inl ⟨by rfl, ?hy0_m1⟩) (by assumption) ?rest0_m1; (case hy0_m1 => ((intro w hSw); (try dsimp only at hSw); go_simp; first | done | (with_reducible rfl))))
  (try simp only [Act.put, List.setIfInBounds_toArray, List.set_cons_zero, List.set_cons_succ])
  (refine wpAnyH_take (i := 1) (oi := ⟨some 19, _, _, _, _, _⟩) (v := ?v1_m2) rfl (by kernel_rfl) (by kernel_rfl) (by kernel_rfl) (fun _ _ _ h => h) (Or.inl ⟨by rfl, ?hy1_m2⟩) (by assumption) ?rest1_m2; (case hy1_m2 => ((intro w hSw); (try dsimp only at hSw); go_simp; first | done | (with_reducible rfl))))
  (try simp only [Act.put, List.setIfInBounds_toArray, List.set_cons_zero, List.set_cons_succ])
  (refine wpAnyH_take (i := 2) (oi := ⟨some 20, _, _, _, _, _⟩) (v := ?v2_m3) rfl (by kernel_rfl) (by kernel_rfl) (by kernel_rfl) (fun _ _ _ h => h) (Or.inl ⟨by rfl, ?hy2_m3⟩) (by assumption) ?rest2_m3; (case hy2_m3 => ((intro w hSw); (try dsimp only at hSw); go_simp; first | done | (with_reducible rfl))))
  (try simp only [Act.put, List.setIfInBounds_toArray, List.set_cons_zero, List.set_cons_succ])
  (refine wpAnyH_take (i := 3) (oi := ⟨some 21, _, _, _, _, _⟩) (v := ?v3_m4) rfl (by kernel_rfl) (by kernel_rfl) (by kernel_rfl) (fun _ _ _ h => h) (Or.inl ⟨by rfl, ?hy3_m4⟩) (by assumption) ?rest3_m4; (case hy3_m4 => ((intro w hSw); (try dsimp only at hSw); go_simp; first | done | (with_reducible rfl))))
  (try simp only [Act.put, List.setIfInBounds_toArray, List.set_cons_zero, List.set_cons_succ])
  (refine wpAnyH_take (i := 5) (oi := ⟨some 23, _, _, _, _, _⟩) (v := ?v5_m5) rfl (by kernel_rfl) (by kernel_rfl) (by kernel_rfl) (fun _ _ _ h => h) (Or.inl ⟨by rfl, ?hy5_m5⟩) (by assumption) ?rest5_m5; (case hy5_m5 => ((intro w hSw); (try dsimp only at hSw); go_simp; first | done | (with_reducible rfl))))
  (try simp only [Act.put, List.setIfInBounds_toArray, List.set_cons_zero, List.set_cons_succ])
  (refine wpAnyH_take (i := 6) (oi := ⟨some 24, _, _, _, _, _⟩) (v := ?v6_m6) rfl (by kernel_rfl) (by kernel_rfl) (by kernel_rfl) (fun _ _ _ h => h) (Or.inl ⟨by rfl, ?hy6_m6⟩) (by assumption) ?rest6_m6; (case hy6_m6 => ((intro w hSw); (try dsimp only at hSw); go_simp; first | done | (with_reducible rfl))))
  (try simp only [Act.put, List.setIfInBounds_toArray, List.set_cons_zero, List.set_cons_succ])
  (refine wpAnyH_take (i := 7) (oi := ⟨some 25, _, _, _, _, _⟩) (v := ?v7_m7) rfl (by kernel_rfl) (by kernel_rfl) (by kernel_rfl) (fun _ _ _ h => h) (Or.inl ⟨by rfl, ?hy7_m7⟩) (by assumption) ?rest7_m7; (case hy7_m7 => ((intro w hSw); (try dsimp only at hSw); go_simp; first | done | (with_reducible rfl))))
  (try simp only [Act.put, List.setIfInBounds_toArray, List.set_cons_zero, List.set_cons_succ])
  (refine wpAnyH_take (i := 8) (oi := ⟨some 26, _, _, _, _, _⟩) (v := ?v8_m8) rfl (by kernel_rfl) (by kernel_rfl) (by kernel_rfl) (fun _ _ _ h => h) (Or.inl ⟨by rfl, ?hy8_m8⟩) (by assumption) ?rest8_m8; (case hy8_m8 => ((intro w hSw); (try dsimp only at hSw); go_simp; first | done | (with_reducible rfl))))
  (try simp only [Act.put, List.setIfInBounds_toArray, List.set_cons_zero, List.set_cons_succ])
  (refine wpAnyH_take (i := 9) (oi := ⟨some 27, _, _, _, _, _⟩) (v := ?v9_m9) rfl (by kernel_rfl) (by kernel_rfl) (by kernel_rfl) (fun _ _ _ h => h) (Or.inl ⟨by rfl, ?hy9_m9⟩) (by assumption) ?rest9_m9; (case hy9_m9 => ((intro w hSw); (try dsimp only at hSw); go_simp; first | done | (with_reducible rfl))))
  (try simp only [Act.put, List.setIfInBounds_toArray, List.set_cons_zero, List.set_cons_succ])
  (refine wpAnyH_take (i := 10) (oi := ⟨some 28, _, _, _, _, _⟩) (v := ?v10_m10) rfl (by kernel_rfl) (by kernel_rfl) (by kernel_rfl) (fun _ _ _ h => h) (Or.inl ⟨by rfl, ?hy10_m10⟩) (by assumption) ?rest10_m10; (case hy10_m10 => ((intro w hSw); (try dsimp only at hSw); go_simp; first | done | (with_reducible rfl))))
  (try simp only [Act.put, List.setIfInBounds_toArray, List.set_cons_zero, List.set_cons_succ])
  refine wpAnyH_ready (rs := [4]) (by kernel_rfl) (by simp) ?_
  refine AllReadyH.cons (o := ⟨some 22, _, _, _, _, _⟩) rfl (fun K hK => ?_) (AllReadyH.nil)
  go_simp
  (go_at_call 41; (with_reducible refine (KM.out _ B0.out).mono ?_); rintro e w5 ⟨gs, rfl, hgs, hb⟩; have HGS := Lib.hid hgs.out; clear hgs; have b5 := Lib.hid (B0.out.trans (hb.mono B0.out.size)); clear hb)
  refine hK.out _ _ ?_ (fun hHeld => ?_)
  · (try dsimp only)
    exact KS.out _ b5.out
  clear hK K
  (try simp only [Act.put, List.setIfInBounds_toArray, List.set_cons_zero, List.set_cons_succ])
  refine wpAnyH_ready (rs := [11]) (by kernel_rfl) (by simp) ?_
  refine AllReadyH.cons (o := ⟨some 29, _, _, _, _, _⟩) rfl (fun K hK => ?_) (AllReadyH.nil)
  go_simp
  (go_at_call 40; (with_reducible refine (KC.out _ gs HGS.out b5.out).mono ?_); rintro e w6 ⟨so, sn, sc, od, cd, rfl, hsv, hd5, hb⟩; have HSV := Lib.hid hsv.out; have HD5 := Lib.hid hd5.out; clear hsv hd5; have b6 := Lib.hid (b5.out.trans (hb.mono b5.out.size)); clear hb)
  refine hK.out _ _ ?_ (fun hHeld => ?_)
  · (try dsimp only)
    exact KS.out _ b6.out
  clear hK K
  (try simp only [Act.put, List.setIfInBounds_toArray, List.set_cons_zero, List.set_cons_succ])
  (refine wpAnyH_take (i := 12) (oi := ⟨some 30, _, _, _, _, _⟩) (v := ?v12_m11) rfl (by kernel_rfl) (by kernel_rfl) (by kernel_rfl) (fun _ _ _ h => h) (Or.inl ⟨by rfl, ?hy12_m11⟩) (by assumption) ?rest12_m11; (case hy12_m11 => ((intro w hSw); (try dsimp only at hSw); go_simp; first | done | (with_reducible rfl))))
  (try simp only [Act.put, List.setIfInBounds_toArray, List.set_cons_zero, List.set_cons_succ])
  (refine wpAnyH_take (i := 13) (oi := ⟨some 31, _, _, _, _, _⟩) (v := ?v13_m12) rfl (by kernel_rfl) (by kernel_rfl) (by kernel_rfl) (fun _ _ _ h => h) (Or.inl ⟨by rfl, ?hy13_m12⟩) (by assumption) ?rest13_m12; (case hy13_m12 => ((intro w hSw); (try dsimp only at hSw); go_simp; first | done | (with_reducible rfl))))
  (try simp only [Act.put, List.setIfInBounds_toArray, List.set_cons_zero, List.set_cons_succ])
  refine wpAnyH_ready (rs := [14]) (by kernel_rfl) (by simp) ?_
  refine AllReadyH.cons (o := ⟨none, _, _, _, _, _⟩) rfl (fun K hK => ?_) (AllReadyH.nil)
  obtain ⟨r0, r1, rf0, rf1⟩ := blk2 (X1.out.below b6.out X1.out.lt)
  go_simp
  refine hK.out _ _ ?_ (fun hHeld => ?_)
  · (try dsimp only)
    exact KS2.out _ _ _ b6.out
  clear hK K
  (try simp only [Act.put, List.setIfInBounds_toArray, List.set_cons_zero, List.set_cons_succ])
  (refine wpAnyH_take (i := 15) (oi := ⟨some 5, _, _, _, _, _⟩) (v := ?v15_m13) rfl (by kernel_rfl) (by kernel_rfl) (by kernel_rfl) (fun _ _ _ h => h) (Or.inl ⟨by rfl, ?hy15_m13⟩) (by assumption) ?rest15_m13; (case hy15_m13 => ((intro w hSw); (try dsimp only at hSw); go_simp; first | done | (with_reducible rfl))))
  (try simp only [Act.put, List.setIfInBounds_toArray, List.set_cons_zero, List.set_cons_succ])
  refine wpAnyH_done (by kernel_rfl) ?_ _
  go_wp2
  refine bodyPost_ret (v := .tuple #[.agg #[.slice so sn sc, .slice od (unl E VL).length cd], .int .i64 E]) (by simp [results, Try.results22, go_sem, r0, r1]) rfl ?_
  exact rsum_end HE0.out HSV.out HM6.out (Below.keepOwn OG.out b6.out (Nat.le_refl _)) ⟨Nat.le_add_right _ 2, (show w.heap.size ≤ w5.heap.size by have := HZ.out; have := b5.out.size; omega)⟩ HD5.out (X1.out.below b6.out X1.out.lt) (by have := HZ.out; omega) (HB4.out.trans (b6.out.mono HB4.out.size))
end Go.Proofs.Ytlfijpcpfepfbaa
namespace Go.Proofs.Ytlfijpcpfepfbaa
open Go.RowKit Go.Shelf

/-- More words than are played? -/
def hv8 (m : Int) (s d : List Int) : Bool := decide (m < d.length) || decide (8 < s.length)
theorem hv8_no {m : Int} {s d : List Int} (h : hv8 m s d = false) : (d.length : Int) ≤ m ∧ s.length ≤ 8 := by
  unfold hv8 at h
  simp only [Bool.or_eq_false_iff, decide_eq_false_iff_not] at h
  omega
set_option maxRecDepth 100000 in
set_option maxHeartbeats 2000000 in
theorem heavy8_any (va vb : Value) (s d : List Int) (m : Int) (w : World) (ha : Ld w va s) (hb : Ld w vb d) (l1 : s.length ≤ 9223372036854775807) (_l2 : d.length ≤ 9223372036854775807) :
    Calls Try.prog 7 #[.agg #[va, vb], .int .i64 m] w fun e w' => e = .returned (.bool (hv8 m s d)) ∧ Below w.heap.size w w' := by
  obtain ⟨os, cs, rfl, _, _⟩ := ha
  obtain ⟨od, cd, rfl, _, _⟩ := hb
  obtain ⟨Q, hQ⟩ : ∃ Q, Q = hv8 m s d := ⟨_, rfl⟩
  rw [← hQ]
  unfold hv8 at hQ
  generalize s.length = ns at *
  generalize d.length = nd at *
  have hB0 : Below w.heap.size w (w.alloc (.cells #[.slice os ns cs, .slice od nd cd] 26)) := (Below.refl _ _).alloc (Nat.le_refl _) _
  by_cases g1 : m < nd
  · have E : Hid (Q = true) := by rw [hQ, decide_eq_true g1]; exact Lib.hid rfl
    clear hQ
    go_enter Try.func7, Try.ntmps7
    go_wp2
    go_ret
    exact ⟨by rw [E.out]; first | rfl | (show Ending.returned (.bool _) = _; congr 2; simp; omega), hB0⟩
  · by_cases g2 : 8 < ns
    · have E : Hid (Q = true) := by rw [hQ, decide_eq_true g2]; exact Lib.hid (by simp)
      clear hQ
      go_enter Try.func7, Try.ntmps7
      go_wp2
      go_ret
      exact ⟨by rw [E.out]; first | rfl | (show Ending.returned (.bool _) = _; congr 2; simp; omega), hB0⟩
    · have E : Hid (Q = false) := by rw [hQ, decide_eq_false g1, decide_eq_false g2]; exact Lib.hid rfl
      clear hQ
      go_enter Try.func7, Try.ntmps7
      go_wp2
      go_ret
      exact ⟨by rw [E.out]; first | rfl | (show Ending.returned (.bool _) = _; congr 2; simp; omega), hB0⟩
/-- A told tensor reads as its lists. -/
theorem someT_ld {w W : World} {er : Int} {sh ds : List Int} {e : Ending} (h : SomeT w er sh ds e W) : ∃ vs vd, e = .returned (.tuple #[.agg #[vs, vd], .int .i64 er]) ∧ Ld W vs sh ∧ Ld W vd ds ∧ Below w.heap.size w W := by
  obtain ⟨os, cs, od, cd, rfl, h1, h2, hb⟩ := h
  obtain ⟨_, _, e1, h3⟩ := Ld.of_owns h1
  obtain ⟨_, _, e2, h4⟩ := Ld.of_owns h2
  simp only [Value.slice.injEq] at e1 e2
  obtain ⟨rfl, _, rfl⟩ := e1
  obtain ⟨rfl, _, rfl⟩ := e2
  exact ⟨_, _, rfl, h3, h4, hb⟩
theorem eq8 (W : World) (va vb : Value) (ha : Ld W va [2, 4]) (hb : Ld W vb [2, 4]) : Calls Try.prog 31 #[va, vb] W fun e w' => e = .returned (.bool true) ∧ Below W.heap.size W w' := by
  have C4 := eqw_any va vb [2, 4] [2, 4] W ha hb (by decide) (by decide)
  rwa [show decide ([(2 : Int), 4] = [2, 4]) = true by decide] at C4
theorem ld1 {W : World} {n : Nat} {t : TypeId} {x : Int} (h : W.heap.size = n) : Ld (W.alloc (.cells #[.int .i64 x] t)) (.slice (some ⟨n, 0, none⟩) 1 1) [x] := by
  subst h; exact Ld.of_blk (ls := [x]) (Blk.new W t _) (Nat.le_refl _)
theorem ld2 {W : World} {n : Nat} {t : TypeId} {x y : Int} (h : W.heap.size = n) : Ld (W.alloc (.cells #[.int .i64 x, .int .i64 y] t)) (.slice (some ⟨n, 0, none⟩) 2 2) [x, y] := by
  subst h; exact Ld.of_blk (ls := [x, y]) (Blk.new W t _) (Nat.le_refl _)
theorem al_below {W : World} (o : Obj) : Below W.heap.size W (W.alloc o) := (Below.refl _ _).alloc (Nat.le_refl _) o
end Go.Proofs.Ytlfijpcpfepfbaa
namespace Go.Proofs.Ytlfijpcpfepfbaa
open Go.RowKit Go.Shelf

/-- A told tensor, opened. -/
def Ty (W : World) (E : Int) (S D : List Int) (e : Ending) (w' : World) : Prop := ∃ os cs od cd, e = .returned (.tuple #[.agg #[.slice os S.length cs, .slice od D.length cd], .int .i64 E]) ∧ Ld w' (.slice os S.length cs) S ∧ Ld w' (.slice od D.length cd) D ∧ Below W.heap.size W w'
theorem ty_of {W w' : World} {E : Int} {S D : List Int} {e : Ending} (h : SomeT W E S D e w') : Ty W E S D e w' := by
  obtain ⟨vs, vd, rfl, h1, h2, hb⟩ := someT_ld h
  obtain ⟨o, c, rfl, _, _⟩ := id h1
  obtain ⟨o2, c2, rfl, _, _⟩ := id h2
  exact ⟨o, c, o2, c2, rfl, h1, h2, hb⟩
theorem num9_any (x : Int) (w : World) : Calls Try.prog 11 #[.int .i64 x] w fun e w' => e = .returned (.int .i64 x) ∧ w = w' := by
  go_enter Try.func11, Try.ntmps11
  go_wp2
  go_ret
  exact ⟨rfl, rfl⟩
theorem ldn {W : World} {n m : Nat} {t : TypeId} {ls : List Int} (h : W.heap.size = n) (hl : ls.length = m) : Ld (W.alloc (.cells (ints ls).toArray t)) (.slice (some ⟨n, 0, none⟩) m m) ls := by
  subst h; subst hl; exact Ld.of_blk (Blk.new W t _) (Nat.le_refl _)
theorem sum9 (W : World) (va vda vx : Value) (ha : Ld W va [2, 2]) (hda : Ld W vda [1, 2, 3, 4]) (hx : Ld W vx [0]) : Calls Try.prog 16 #[.agg #[va, vda], vx] W fun e w' => ∃ o c o2 c2, e = .returned (.tuple #[.agg #[.slice o 1 c, .slice o2 2 c2], .int .i64 0]) ∧ Ld w' (.slice o2 2 c2) [4, 6] ∧ Below W.heap.size W w' := by
  have h := sum_ok va vda vx [2, 2] [1, 2, 3, 4] [0] 2 W ha hda hx (by decide) (by decide) (by decide) (by decide)
  rw [show rde [2, 2] [1, 2, 3, 4] [0] 1 2 = 0 by decide, show unl 0 (lf [2, 2] [0] 0) = [2] by decide, show unl 0 (rdv [2, 2] [1, 2, 3, 4] [0] 1 2) = [4, 6] by decide] at h
  refine h.mono fun e w' hh => ?_
  obtain ⟨vs, vd, rfl, h1, h2, hb⟩ := someT_ld hh
  obtain ⟨o, c, rfl, _, _⟩ := h1
  obtain ⟨o2, c2, rfl, _, _⟩ := id h2
  exact ⟨o, c, o2, c2, rfl, h2, hb⟩
theorem eq9 (W : World) (va vb : Value) (ha : Ld W va [4, 6]) (hb : Ld W vb [4, 6]) : Calls Try.prog 31 #[va, vb] W fun e w' => e = .returned (.bool true) ∧ Below W.heap.size W w' := by
  have C4 := eqw_any va vb [4, 6] [4, 6] W ha hb (by decide) (by decide)
  rwa [show decide ([(4 : Int), 6] = [4, 6]) = true by decide] at C4
set_option maxRecDepth 100000 in
set_option maxHeartbeats 8000000 in
theorem wakes9_any (w : World) : Calls Try.prog 18 #[] w fun e w' => e = .returned (.bool true) ∧ Below w.heap.size w w' := by
  obtain ⟨w3, hw3⟩ : ∃ w3, w3 = ((w.alloc (.cells #[.int .i64 2, .int .i64 2] 3)).alloc (.cells #[.int .i64 1, .int .i64 2, .int .i64 3, .int .i64 4] 2)).alloc (.cells #[.int .i64 0] 3) := ⟨_, rfl⟩
  have hsz : w3.heap.size = w.heap.size + 3 := by rw [hw3]; simp
  have L1 : Hid (Ld w3 (.slice (some ⟨w.heap.size, 0, none⟩) 2 2) [2, 2]) := Lib.hid (by rw [hw3]; exact ((ldn (ls := [2, 2]) rfl rfl).below (al_below _)).below (al_below _))
  have L2 : Hid (Ld w3 (.slice (some ⟨w.heap.size + 1, 0, none⟩) 4 4) [1, 2, 3, 4]) := Lib.hid (by rw [hw3]; exact (ldn (ls := [1, 2, 3, 4]) (World.size_alloc _ _) rfl).below (al_below _))
  have L3 : Hid (Ld w3 (.slice (some ⟨w.heap.size + 2, 0, none⟩) 1 1) [0]) := Lib.hid (by rw [hw3]; exact ldn (ls := [0]) (by simp) rfl)
  have B3 : Hid (Below w.heap.size w w3) := Lib.hid (by rw [hw3]; exact (((Below.refl _ _).alloc (Nat.le_refl _) _).alloc (by simp) _).alloc (by simp; omega) _)
  have CS : Hid (∀ n, w3.heap.size = n → Calls Try.prog 16 #[.agg #[.slice (some ⟨w.heap.size, 0, none⟩) 2 2, .slice (some ⟨w.heap.size + 1, 0, none⟩) 4 4], .slice (some ⟨w.heap.size + 2, 0, none⟩) 1 1] w3 fun e w' => ∃ o c o2 c2, e = .returned (.tuple #[.agg #[.slice o 1 c, .slice o2 2 c2], .int .i64 0]) ∧ Ld w' (.slice o2 2 c2) [4, 6] ∧ Below n w3 w') := fun n hn => by
    subst hn
    exact sum9 w3 _ _ _ L1.out L2.out L3.out
  replace CS := Lib.hid (CS.out (w.heap.size + 3) hsz)
  have HW := Lib.hid hw3
  rw [hw3] at CS
  clear hw3
  go_enter Try.func18, Try.ntmps18
  go_wp2_with (first
    | (go_at_call 16; (with_reducible refine CS.out.mono ?_); rintro e w4 ⟨o4, c4, o5, c5, rfl, h4, hb4⟩; rw [← HW.out] at hb4; have B4 := Lib.hid (B3.out.trans (hb4.mono (by omega))); have H4 := Lib.hid h4; clear h4 hb4)
    | (go_at_call 31; (with_reducible refine (eq9 _ _ _ ((H4.out.below (al_below _)).below (al_below _)) (ld2 (World.size_alloc _ _))).mono ?_); rintro e w6 ⟨rfl, hb6⟩; have B6 := Lib.hid (((B4.out.alloc B4.out.size _).alloc (by have := B4.out.size; simp; omega) _).trans (hb6.mono (by have := B4.out.size; simp; omega))); clear hb6)
    | (go_at_call 11; (with_reducible refine (num9_any _ _).mono ?_); rintro e w' ⟨rfl, rfl⟩))
  go_ret
  exact ⟨rfl, B6.out⟩
end Go.Proofs.Ytlfijpcpfepfbaa
namespace Go.Proofs.Ytlfijpcpfepfbaa

/-- Where the n-th index stands. -/
def plat (sh st : List Int) (off : Int) (n : Nat) : Int := off + dot st (atl sh (n : Int))
/-- Does an index before stand there, too? -/
def hit (sh st : List Int) (off : Int) (k : Nat) : Bool := (List.range k).any fun i => decide (plat sh st off i = plat sh st off k)
/-- Do two indexes stand at one place? -/
def dup (sh st : List Int) (off : Int) (N : Nat) : Bool := (List.range N).any fun k => hit sh st off k
theorem dup_yes {sh st : List Int} {off : Int} {N k : Nat} (hk : k < N) (h : hit sh st off k = true) : dup sh st off N = true := List.any_eq_true.2 ⟨k, List.mem_range.2 hk, h⟩
theorem dup_no {sh st : List Int} {off : Int} {N : Nat} (h : ∀ k, k < N → hit sh st off k = false) : dup sh st off N = false := by
  cases e : dup sh st off N with
  | false => rfl
  | true =>
    obtain ⟨k, hk, h2⟩ := List.any_eq_true.1 e
    rw [h k (List.mem_range.1 hk)] at h2
    cases h2
/-- The words, k of them laid. -/
def lys (sh st : List Int) (off : Int) (ls tds : List Int) : Nat → List Int
  | 0 => ls
  | k + 1 => (lys sh st off ls tds k).set (plat sh st off k).toNat (tds.getD k 0)
theorem lys_len (sh st : List Int) (off : Int) (ls tds : List Int) : ∀ k, (lys sh st off ls tds k).length = ls.length
  | 0 => rfl
  | k + 1 => by unfold lys; rw [List.length_set, lys_len sh st off ls tds k]
theorem lys_step {sh st : List Int} {off : Int} {ls tds : List Int} {k P : Nat} (h : plat sh st off k = (P : Int)) : lys sh st off ls tds (k + 1) = (lys sh st off ls tds k).set P (tds.getD k 0) := by
  show List.set _ _ _ = _
  rw [h, Int.toNat_natCast]
/-- Which places are taken, by k indexes. -/
def tks (sh st : List Int) (off : Int) (m : Nat) : Nat → List Bool
  | 0 => List.replicate m false
  | k + 1 => (tks sh st off m k).set (plat sh st off k).toNat true
theorem tks_len (sh st : List Int) (off : Int) (m : Nat) : ∀ k, (tks sh st off m k).length = m
  | 0 => by simp [tks]
  | k + 1 => by unfold tks; rw [List.length_set, tks_len sh st off m k]
theorem tks_step {sh st : List Int} {off : Int} {m k P : Nat} (h : plat sh st off k = (P : Int)) : tks sh st off m (k + 1) = (tks sh st off m k).set P true := by
  show List.set _ _ _ = _
  rw [h, Int.toNat_natCast]
theorem tks_at {sh st : List Int} {off : Int} {m Q : Nat} (hQ : Q < m) : ∀ k, (∀ i, i < k → 0 ≤ plat sh st off i) → (tks sh st off m k).getD Q false = (List.range k).any fun i => decide (plat sh st off i = (Q : Int))
  | 0, _ => by simp [tks, List.getD, hQ]
  | k + 1, h => by
    have ih := tks_at (sh := sh) (st := st) (off := off) hQ k (fun i hi => h i (by omega))
    have h0 := h k (by omega)
    obtain ⟨P, hP⟩ := Int.eq_ofNat_of_zero_le h0
    rw [tks_step hP, List.range_succ, List.any_append, ← ih]
    simp only [List.any_cons, List.any_nil, Bool.or_false, hP]
    rw [List.getD_eq_getElem?_getD, List.getD_eq_getElem?_getD, List.getElem?_set]
    by_cases e : P = Q
    · subst e
      rw [if_pos rfl, if_pos (by rw [tks_len]; exact hQ)]
      simp
    · rw [if_neg e]
      have : ¬ (P : Int) = (Q : Int) := by omega
      simp [this]
theorem tks_hit {sh st : List Int} {off : Int} {m k P : Nat} (hk : ∀ i, i < k → 0 ≤ plat sh st off i) (h : plat sh st off k = (P : Int)) (hP : P < m) : (tks sh st off m k).getD P false = hit sh st off k := by
  rw [tks_at hP k hk]
  unfold hit
  rw [h]
/-- What is laid where it lay changes nothing. -/
theorem lys_same {sh st : List Int} {off : Int} {ls tds : List Int} {N : Nat} (h : ∀ k, k < N → ∃ P : Nat, plat sh st off k = (P : Int) ∧ tds.getD k 0 = ls.getD P 0) : ∀ k, k ≤ N → lys sh st off ls tds k = ls
  | 0, _ => rfl
  | k + 1, hk => by
    obtain ⟨P, hP, hv⟩ := h k (by omega)
    rw [lys_step hP, lys_same h k (by omega), hv]
    apply List.ext_getElem
    · simp
    · intro j h1 h2
      rw [List.getElem_set]
      split
      · rename_i e
        subst e
        simp [List.getD, List.getElem?_eq_getElem h2]
      · rfl
end Go.Proofs.Ytlfijpcpfepfbaa
namespace Go.Proofs.Ytlfijpcpfepfbaa
open Go.RowKit

/-- Words in new memory. -/
def SomeWd (w : World) (ls : List Int) (e : Ending) (w' : World) : Prop := ∃ o c, e = .returned (.slice o ls.length c) ∧ w'.ownsRow w.heap.size 2 1 (.slice o ls.length c) ls.length (ints ls) ∧ Ld w' (.slice o ls.length c) ls ∧ Below w.heap.size w w'
end Go.Proofs.Ytlfijpcpfepfbaa
namespace Go.Proofs.Ytlfijpcpfepfbaa
open Go.RowKit


end Go.Proofs.Ytlfijpcpfepfbaa
namespace Go.Proofs.Ytlfijpcpfepfbaa
open Go.RowKit

set_option maxRecDepth 100000 in
set_option maxHeartbeats 4000000 in
theorem rof_any (v : Value) (ls : List Int) (w : World) (h : Ld w v ls) (hm : may ls = true) :
    Calls Try.prog 21 #[v] w (SomeW w ls (stl ls) 0) := by
  have hB0 : Below w.heap.size w (w.alloc (.cells #[.slice none 0 0, .slice none 0 0, .int .i64 0] 47)) := (Below.refl _ _).alloc (Nat.le_refl _) _
  have l4 := may_len hm
  have CC := copy_any v ls _ (h.below hB0) (by omega)
  unfold SomeC at CC
  simp only [World.size_alloc] at CC
  replace CC := Lib.hid CC
  have CS := Lib.hid (fun (W : World) (hb : Below w.heap.size w W) => rstrides_any v ls W (h.below hb) hm)
  have HX := Lib.hid (Blk.new w 47 #[.slice none 0 0, .slice none 0 0, .int .i64 0])
  obtain ⟨o, c, rfl, _, _⟩ := h
  clear hm
  go_enter Try.func21, Try.ntmps21
  go_wp2_with (first | (go_at_call 42; (with_reducible refine CC.out.mono ?_); rintro e w2 ⟨o2, c2, rfl, ho2, _, hb2⟩; have X2 := Lib.hid (blk_box hb2 (by omega)); have b2 := hB0.trans (hb2.mono (by omega)); have s2 := hb2.size; simp only [World.size_alloc] at s2; replace ho2 := Lib.hid ho2; clear hb2) | (go_at_call 39; (with_reducible refine (CS.out _ b2).mono ?_); rintro e w3 ⟨rfl, hk3, hb3⟩; obtain ⟨d0, d1, d2, f0, f1, f2⟩ := blk3 (X2.out.below hb3 X2.out.lt); have D3 := Lib.hid (And.intro hk3 hb3); clear hk3 hb3))
  refine bodyPost_ret (v := .agg #[.slice o2 ls.length c2, .slice (some ⟨w2.heap.size, 0, none⟩) ls.length ls.length, .int .i64 0]) (by simp [results, Try.results21, go_sem, d0, d1, d2]) rfl ?_
  refine someW_end (Nat.le_refl _) (b2.trans (D3.out.2.mono (by omega))) (X2.out.below D3.out.2 X2.out.lt) rfl (by rw [stl_len]) ⟨own_base (Below.keepOwn ho2.out D3.out.2 (Nat.le_refl _)) (by omega), stl_own D3.out.1 (by omega) (by omega), ?_⟩
  intro g e e2
  have := (ho2.out.lt g e).2
  simp only [Value.ownBlock, Option.some.injEq] at e2
  omega


end Go.Proofs.Ytlfijpcpfepfbaa
namespace Go.Proofs.Ytlfijpcpfepfbaa
open Go.RowKit


theorem Ov.kept2 {w w' : World} {base : Nat} {vs vt : Value} {sh st : List Int} (h : Ov w base vs vt sh st) (hg : w.grownBy w' vs.ownBlock) : w'.ownsRow base 3 1 vt st.length (ints st) := h.2.1.kept hg (by
  cases e : vt.ownBlock with
  | none => exact .inl rfl
  | some g => exact .inr (fun e2 => h.2.2 g e2.symm e))
theorem own_len {w : World} {base n : Nat} {e : TypeId} {v : Value} {xs : List Value} (h : w.ownsRow base e 1 v n xs) : ∃ o c, v = .slice o n c := by
  rcases h.2 with ⟨rfl, rfl⟩ | ⟨g, cap, cur, rfl, _⟩
  · exact ⟨_, _, rfl⟩
  · exact ⟨_, _, rfl⟩
theorem own_put2 {w : World} {base g c i n : Nat} {ls : List Int} {e : TypeId} (h : w.ownsRow base e 1 (.slice (some ⟨g, 0, none⟩) n c) n (ints ls)) (hl : ls.length = n) (hi : i < n) (v : Int) : (w.setCell ⟨g, i, none⟩ (.int .i64 v)).ownsRow base e 1 (.slice (some ⟨g, 0, none⟩) n c) n (ints (ls.set i v)) := by
  subst hl
  have := own_put h hi v
  rwa [List.length_set] at this


/-- Views' boxes are kept. -/
def KB (w w' : World) : Prop := ∀ (B : Nat) (cs : Array Value), Blk w B 47 cs → Blk w' B 47 cs
theorem KB.trans {a b c : World} (h : KB a b) (k : KB b c) : KB a c := fun B cs hB => k B cs (h B cs hB)
theorem kb_below {w w' : World} (h : Below w.heap.size w w') : KB w w' := fun _ _ hB => hB.below h hB.lt
theorem kb_row {w w' : World} {base n : Nat} {v : Value} {xs : List Value} (h : w.ownsRow base 3 1 v n xs) (hg : w.grownBy w' v.ownBlock) : KB w w' := fun _ _ hB => hB.kept hg (fun e => own_not_box h hB e.symm)



/-- A list, where there is no error, in memory. -/
theorem ov_ld {w : World} {base : Nat} {vs vt : Value} {sh st : List Int} (h : Ov w base vs vt sh st) : Ld w vs sh ∧ Ld w vt st := by
  obtain ⟨_, _, rfl, h1⟩ := Ld.of_owns h.1
  obtain ⟨_, _, rfl, h2⟩ := Ld.of_owns h.2.1
  exact ⟨h1, h2⟩




end Go.Proofs.Ytlfijpcpfepfbaa
