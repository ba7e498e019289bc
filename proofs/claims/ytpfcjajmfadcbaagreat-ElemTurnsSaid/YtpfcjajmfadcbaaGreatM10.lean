/-
  package elem: Two, where nothing is no tensor.
  What is spread tells what its words laid out in the spread shape tell: plain mathematics.
  package elem: the operations of two words, and Two of any of them.
  package elem: the table of operations of one, and One where what is asked is a tensor.
-/
import Derived.Test.YtpfcjajmfadcbaaGreatM04
import Derived.Test.YtpfcjajmfadcbaaGreatM07
import Derived.Test.YtpfcjajmfadcbaaGreatM09
namespace Go.Proofs.YtpfcjajmfadcbaaGreat
open Go Go.RowKit Go.Shelf

theorem ov_spr {a b : List Int} {j : Nat} (h1 : 1 ≤ j) (h2 : j ≤ mx a b) : ov (spr a b) j = gr (ov a j) (ov b j) := by
  have hl : (spr a b).length = mx a b := spl_len a b _
  unfold ov
  rw [hl, if_neg (by omega)]
  have g := spl_getD a b (mx a b) (mx a b - j) (by omega)
  rw [show mx a b - (mx a b - j) = j by omega] at g
  show (spl a b (mx a b)).getD _ 0 = _
  rw [g]
  rfl
/-- What spreads goes under what it is spread to. -/
theorem goes_spv {a b : List Int} (ha : may a = true) (h : spe a b = 0) : may (spv a b) = true ∧ goes a (spv a b) = true := by
  obtain ⟨f, m⟩ := spe_fit h
  have e : spv a b = spr a b := if_pos h
  rw [e]
  refine ⟨m, ?_⟩
  have hl : (spr a b).length = mx a b := spl_len a b _
  rw [goes_is ha m, hl]
  simp only [Bool.and_eq_true, decide_eq_true_eq, gN_iff]
  refine ⟨by unfold mx; omega, fun j h1 h2 => ?_⟩
  rw [ov_spr h1 h2]
  have := (fa_iff a b j).1 ((fitN_iff _ _ _).1 f j h1 h2)
  unfold gr
  split <;> omega
/-- The word under the n-th index. -/
def txa (sa da s : List Int) (n : Nat) : Int := da.getD (und sa (atl s (n : Nat))).toNat 0
theorem tnb_parts {sh ds : List Int} (h : tnb sh ds = true) : may sh = true ∧ (ds.length : Int) = prod sh ∧ wds ds = true := by
  unfold tnb at h
  simp only [Bool.and_eq_true, decide_eq_true_eq] at h
  exact ⟨h.1.1, h.1.2, h.2⟩
theorem und_in {sa s da : List Int} {n N : Nat} (ta : tnb sa da = true) (ms : may s = true) (g : goes sa s = true) (hN : (N : Int) = prod s) (hn : n < N) : inx s (atl s (n : Nat)) = true ∧ 0 ≤ und sa (atl s (n : Nat)) ∧ und sa (atl s (n : Nat)) < da.length := by
  obtain ⟨ma, hl, _⟩ := tnb_parts ta
  have hi := atl_inx s (n : Nat) (may_pos ms) (by omega) (by omega)
  have hb := ix_bd (under_inx ma ms g hi)
  refine ⟨hi, ?_⟩
  unfold und
  omega
theorem txa_wd {sa s da : List Int} {n N : Nat} (ta : tnb sa da = true) (ms : may s = true) (g : goes sa s = true) (hN : (N : Int) = prod s) (hn : n < N) : wd (txa sa da s n) = true := by
  obtain ⟨_, h0, h1⟩ := und_in ta ms g hN hn
  exact wds_wd (tnb_parts ta).2.2 (by omega)
/-- Two's answers: its error. -/
def twe (ef : Int → Int → Int) (sa da sb db : List Int) : Int := if spe sa sb = 0 then fer (fun n => ef (txa sa da (spv sa sb) n) (txa sb db (spv sa sb) n)) (prod (spv sa sb)).toNat else spe sa sb
/-- Its words. -/
def twv (vf : Int → Int → Int) (sa da sb db : List Int) : List Int := vls (fun n => vf (txa sa da (spv sa sb) n) (txa sb db (spv sa sb) n)) (prod (spv sa sb)).toNat
theorem own_two {X : World} {b base n : Nat} {e : TypeId} {v : Value} {xs : List Value} {cs : Array Value} (hO : X.ownsRow base e 1 v n xs) (hb : Blk X b 26 cs) (hne : e ≠ 26) (u1 u2 : Value) :
    ((X.setCell ⟨b, 0, none⟩ u1).setCell ⟨b, 1, none⟩ u2).ownsRow base e 1 v n xs := by
  have h1 := hO.kept (grown_set X ⟨b, 0, none⟩ u1) (.inr (tens_not_row hO hb hne))
  exact h1.kept (grown_set _ ⟨b, 1, none⟩ u2) (.inr (tens_not_row h1 (hb.set_ 0 u1) hne))

set_option maxRecDepth 100000 in
set_option maxHeartbeats 8000000 in
theorem two_gen (WF : FuncId) (op f : Int) (i0 : Nat) (vf ef : Int → Int → Int) (va vda vb vdb : Value) (sa da sb db : List Int) (w : World) (ha : Ld w va sa) (hda : Ld w vda da) (hb : Ld w vb sb) (hdb : Ld w vdb db) (ta : tnb sa da = true) (tb : tnb sb db = true) (hf : fb f = true)
    (LK : Instr.findNow (.int .i64) (.int .i64 op) tbl2.toList 0 = some (some (i0, .func (.func WF) #[] #[])))
    (eW : ∀ args (W : World), (callFunc WF args).run Tryz.prog W = .ok (.enter WF args) W)
    (HF : ∀ (a b : Int) (W : World), wd a = true → wd b = true → Calls Tryz.prog WF #[.agg #[.int .i64 a, .int .i64 b, .int .i64 f]] W fun e w' => e = .returned (.tuple #[.int .i64 (vf a b), .int .i64 (ef a b)]) ∧ Below W.heap.size W w') :
    Calls Tryz.prog 10 #[.int .i64 op, .agg #[va, vda], .agg #[vb, vdb], .int .i64 f] w (SomeT w (twe ef sa da sb db) (unl (twe ef sa da sb db) (spv sa sb)) (unl (twe ef sa da sb db) (twv vf sa da sb db))) := by
  have ma := (tnb_parts ta).1
  have mb := (tnb_parts tb).1
  have la := may_len ma
  have lb := may_len mb
  have lda := (tnb_parts ta).2.1
  have ldb := (tnb_parts tb).2.1
  have pa := may_prod ma
  have pb := may_prod mb
  obtain ⟨w4, hw4⟩ : ∃ w4, w4 = (((w.alloc (.cells #[va, vda] 26)).alloc (.cells #[vb, vdb] 26)).alloc (.cells #[.int .i64 f] 3)).alloc (.cells #[.slice none 0 0, .slice none 0 0] 26) := ⟨_, rfl⟩
  have hsz : w4.heap.size = w.heap.size + 4 := by rw [hw4]; simp
  have B4 : Below w.heap.size w w4 := by rw [hw4]; exact ((((Below.refl _ _).alloc (Nat.le_refl _) _).alloc (by simp) _).alloc (by simp; omega) _).alloc (by simp; omega) _
  have K0 : Hid (Blk w4 w.heap.size 26 #[va, vda]) := by rw [hw4]; exact (((Blk.new w _ _).alloc _).alloc _).alloc _
  have K1 : Hid (Blk w4 (w.heap.size + 1) 26 #[vb, vdb]) := by rw [hw4]; exact ((blk_new1 w _ _ _).alloc _).alloc _
  have K2 : Hid (Blk w4 (w.heap.size + 2) 3 #[.int .i64 f]) := by
    rw [hw4]
    have q := Blk.new ((w.alloc (.cells #[va, vda] 26)).alloc (.cells #[vb, vdb] 26)) 3 #[.int .i64 f]
    rw [World.size_alloc, World.size_alloc] at q
    exact q.alloc _
  have K3 : Hid (Blk w4 (w.heap.size + 3) 26 #[.slice none 0 0, .slice none 0 0]) := by
    rw [hw4]
    have q := Blk.new (((w.alloc (.cells #[va, vda] 26)).alloc (.cells #[vb, vdb] 26)).alloc (.cells #[.int .i64 f] 3)) 26 #[.slice none 0 0, .slice none 0 0]
    rwa [World.size_alloc, World.size_alloc, World.size_alloc] at q
  have KT := Lib.hid (oftwo_any w4)
  rw [hsz] at KT
  have KCA : Hid (∀ W, Below w.heap.size w W → Calls Tryz.prog 16 #[.agg #[va, vda]] W fun e w' => e = .returned (.int .i64 0) ∧ Below W.heap.size W w') := Lib.hid (fun W hW => by have := echeck_any va vda sa da W (ha.below hW) (hda.below hW) (by omega) (by omega); rwa [ta, if_pos rfl] at this)
  have KCB : Hid (∀ W, Below w.heap.size w W → Calls Tryz.prog 16 #[.agg #[vb, vdb]] W fun e w' => e = .returned (.int .i64 0) ∧ Below W.heap.size W w') := Lib.hid (fun W hW => by have := echeck_any vb vdb sb db W (hb.below hW) (hdb.below hW) (by omega) (by omega); rwa [tb, if_pos rfl] at this)
  have KF := fun W => checkf_any f W
  rw [hf, if_pos rfl] at KF
  have KF := Lib.hid KF
  have KS : Hid (∀ W, Below w.heap.size w W → Calls Tryz.prog 32 #[va, vb] W (SomeL W (spe sa sb) (spv sa sb))) := Lib.hid (fun W hW => spread_any va vb sa sb W (ha.below hW) (hb.below hW) ma mb)
  have HLD := Lib.hid (And.intro ha (And.intro hda (And.intro hb hdb)))
  have HTA := Lib.hid (And.intro ta (And.intro tb (And.intro ma mb)))
  have LKH := Lib.hid LK
  have EFW := Lib.hid (And.intro eW HF)
  have HW := Lib.hid hw4
  clear ha hda hb hdb ta tb ma mb LK eW HF pa pb lda ldb hf
  obtain ⟨k0, k1, _⟩ := blk2 K0.out
  obtain ⟨k2, k3, _⟩ := blk2 K1.out
  rw [hw4] at KT
  clear hw4 k0 k1 k2 k3
  go_enter Tryz.func10, Tryz.ntmps10
  go_upto_region 4 with (first
    | (go_at_call 30; (with_reducible refine KT.out.mono ?_); rintro e w5 ⟨rfl, hm5, hb5⟩; rw [← HW.out] at hb5; have lk := run_look (P := Tryz.prog) (t := 57) (kt := 3) (e := 55) op (.func (.func WF) #[] #[]) (by kernel_rfl) (by kernel_rfl) hm5 LKH.out; have s5 : w.heap.size + 4 ≤ w5.heap.size := Nat.le_trans (Nat.le_of_eq hsz.symm) (by have := hb5.size; omega); have b5 := Lib.hid (B4.trans (hb5.mono (by omega))); replace K0 := Lib.hid (K0.out.below hb5 (by omega)); replace K1 := Lib.hid (K1.out.below hb5 (by omega)); replace K2 := Lib.hid (K2.out.below hb5 (by omega)); replace K3 := Lib.hid (K3.out.below hb5 (by omega)); obtain ⟨c0, c1, _⟩ := blk2 K0.out; obtain ⟨c2, c3, _⟩ := blk2 K1.out; have c4 := K2.out.cell 0; clear hb5 hm5)
    | (go_at_call 16; (with_reducible refine (KCA.out _ b5.out).mono ?_); rintro e w6 ⟨rfl, hb6⟩; have b6 := Lib.hid (b5.out.trans (hb6.mono b5.out.size)); have s6 : w.heap.size + 4 ≤ w6.heap.size := Nat.le_trans s5 hb6.size; replace K0 := Lib.hid (K0.out.below hb6 K0.out.lt); replace K1 := Lib.hid (K1.out.below hb6 K1.out.lt); replace K2 := Lib.hid (K2.out.below hb6 K2.out.lt); replace K3 := Lib.hid (K3.out.below hb6 K3.out.lt); obtain ⟨c0, c1, _⟩ := blk2 K0.out; obtain ⟨c2, c3, _⟩ := blk2 K1.out; have c4 := K2.out.cell 0; clear hb6)
    | (go_at_call 16; (with_reducible refine (KCB.out _ b6.out).mono ?_); rintro e w7 ⟨rfl, hb7⟩; have b7 := Lib.hid (b6.out.trans (hb7.mono b6.out.size)); have s7 : w.heap.size + 4 ≤ w7.heap.size := Nat.le_trans s6 hb7.size; replace K0 := Lib.hid (K0.out.below hb7 K0.out.lt); replace K1 := Lib.hid (K1.out.below hb7 K1.out.lt); replace K2 := Lib.hid (K2.out.below hb7 K2.out.lt); replace K3 := Lib.hid (K3.out.below hb7 K3.out.lt); obtain ⟨c0, c1, _⟩ := blk2 K0.out; obtain ⟨c2, c3, _⟩ := blk2 K1.out; have c4 := K2.out.cell 0; clear hb7)
    | (go_at_call 31; (with_reducible refine (KF.out _).mono ?_); rintro e w' ⟨rfl, rfl⟩))
  by_cases hsp : spe sa sb = 0
  · obtain ⟨ms, ga⟩ := goes_spv HTA.out.2.2.1 hsp
    have gb : goes sb (spv sa sb) = true := by rw [spv_sym]; exact (goes_spv HTA.out.2.2.2 (by rw [spe_sym]; exact hsp)).2
    have E1 : Hid (twe ef sa da sb db = fer (fun n => ef (txa sa da (spv sa sb) n) (txa sb db (spv sa sb) n)) (prod (spv sa sb)).toNat) := Lib.hid (if_pos hsp)
    have E2 : Hid (twv vf sa da sb db = vls (fun n => vf (txa sa da (spv sa sb) n) (txa sb db (spv sa sb) n)) (prod (spv sa sb)).toNat) := Lib.hid rfl
    have ps := may_prod ms
    obtain ⟨N, hN⟩ : ∃ N : Nat, (N : Int) = prod (spv sa sb) := ⟨(prod (spv sa sb)).toNat, by omega⟩
    rw [show (prod (spv sa sb)).toNat = N by omega] at E1 E2
    rw [hsp] at KS
    have HG := Lib.hid (And.intro ms (And.intro ga (And.intro gb hN)))
    rw [E1.out, E2.out]
    generalize hS9 : spv sa sb = s at *
    replace hS9 := Lib.hid hS9
    clear ms ga gb hN ps hsp
    go_upto_region 7 with (go_at_call 32; (with_reducible refine (KS.out _ b7.out).mono ?_); rintro e w8 ⟨v8, rfl, hv8, hb8⟩; obtain ⟨o8, c8, rfl, _, _⟩ := id hv8; have b8 := Lib.hid (b7.out.trans (hb8.mono b7.out.size)); have s8 : w.heap.size + 4 ≤ w8.heap.size := Nat.le_trans s7 hb8.size; have L8 := Lib.hid hv8; replace K0 := Lib.hid (K0.out.below hb8 K0.out.lt); replace K1 := Lib.hid (K1.out.below hb8 K1.out.lt); replace K2 := Lib.hid (K2.out.below hb8 K2.out.lt); replace K3 := Lib.hid (K3.out.below hb8 K3.out.lt); clear hb8 hv8)
    have BA := Lib.hid ((Below.refl w8.heap.size w8).alloc (Nat.le_refl _) (.cells #[.slice o8 s.length c8] 23))
    have KV8 := Lib.hid (Blk.new w8 23 #[.slice o8 s.length c8])
    have L9 := Lib.hid (L8.out.below BA.out)
    obtain ⟨w9, hw9⟩ : ∃ w9, w9 = w8.alloc (.cells #[.slice o8 s.length c8] 23) := ⟨_, rfl⟩
    rw [← hw9] at BA KV8 L9
    rw [← hw9]
    clear hw9
    have b9 := Lib.hid (b8.out.trans (BA.out.mono b8.out.size))
    have J0 := Lib.hid (K0.out.below BA.out K0.out.lt)
    have J1 := Lib.hid (K1.out.below BA.out K1.out.lt)
    have J2 := Lib.hid (K2.out.below BA.out K2.out.lt)
    have J3 := Lib.hid (K3.out.below BA.out K3.out.lt)
    have s9 : w.heap.size + 4 ≤ w9.heap.size := Nat.le_trans s8 BA.out.size
    have KE := Lib.hid (each_any 34 WF #[.pointer (some ⟨w.heap.size, 0, none⟩), .pointer (some ⟨w8.heap.size, 0, none⟩), .pointer (some ⟨w.heap.size + 1, 0, none⟩), .pointer (some ⟨w.heap.size + 1 + 1, 0, none⟩)]
      (fun n => .agg #[.int .i64 (txa sa da s n), .int .i64 (txa sb db s n), .int .i64 f]) (fun n => vf (txa sa da s n) (txa sb db s n)) (fun n => ef (txa sa da s n) (txa sb db s n)) (.slice o8 s.length c8) s N w9 L9.out HG.out.1 HG.out.2.2.2
      (enters_of Tryz.func34 (by kernel_rfl) rfl) EFW.out.1
      (fun n W vi hn hW hi => by
        obtain ⟨hx, ka⟩ := und_in HTA.out.1 HG.out.1 HG.out.2.1 HG.out.2.2.2 hn
        obtain ⟨_, kb⟩ := und_in HTA.out.2.1 HG.out.1 HG.out.2.2.1 HG.out.2.2.2 hn
        have bW := b9.out.trans (hW.mono b9.out.size)
        exact two1_any w.heap.size w8.heap.size (w.heap.size + 1) (w.heap.size + 2) n va vda vb vdb (.slice o8 s.length c8) vi sa da sb db s (atl s (n : Nat)) f W (J0.out.below hW J0.out.lt) (KV8.out.below hW KV8.out.lt) (J1.out.below hW J1.out.lt) (J2.out.below hW J2.out.lt) (HLD.out.1.below bW) (HLD.out.2.1.below bW) (HLD.out.2.2.1.below bW) (HLD.out.2.2.2.below bW) (L9.out.below hW) hi HTA.out.2.2.1 HTA.out.2.2.2 HG.out.1 HG.out.2.1 HG.out.2.2.1 hx ka kb)
      (fun n W hn => EFW.out.2 _ _ W (txa_wd HTA.out.1 HG.out.1 HG.out.2.1 HG.out.2.2.2 hn) (txa_wd HTA.out.2.1 HG.out.1 HG.out.2.2.1 HG.out.2.2.2 hn)))
    generalize fer (fun n => ef (txa sa da s n) (txa sb db s n)) N = er at *
    generalize vls (fun n => vf (txa sa da s n) (txa sb db s n)) N = vls9 at *
    clear K0 K1 K2 K3 c0 c1 c2 c3 c4 lk KS KCA KCB KF KT
    have kv := KV8.out.cell 0
    go_wp2_with (go_at_call 33; (with_reducible refine KE.out.mono ?_); rintro e wa ⟨os, cs, od, cd, rfl, ho, hd, hba⟩; have Ba := Lib.hid hba; have HO := Lib.hid (And.intro ho hd); replace J3 := Lib.hid (J3.out.below hba J3.out.lt); obtain ⟨r0, r1, rf0, rf1⟩ := blk2 J3.out; clear ho hd hba)
    have Q := Lib.hid ((J3.out.set_ 0 (.slice os (unl er s).length cs)).set_ 1 (.slice od (unl er vls9).length cd))
    have O1 := Lib.hid (own_two HO.out.1 J3.out (by decide) (.slice os (unl er s).length cs) (.slice od (unl er vls9).length cd))
    have O2 := Lib.hid (own_two HO.out.2 J3.out (by decide) (.slice os (unl er s).length cs) (.slice od (unl er vls9).length cd))
    have BZ := Lib.hid (((b9.out.trans (Ba.out.mono b9.out.size)).setCell (p := ⟨w.heap.size + 3, 0, none⟩) (by show w.heap.size ≤ w.heap.size + 3; omega) (.slice os (unl er s).length cs)).setCell (p := ⟨w.heap.size + 3, 1, none⟩) (by show w.heap.size ≤ w.heap.size + 3; omega) (.slice od (unl er vls9).length cd))
    have d0 := Q.out.cell 0
    have d1 := Q.out.cell 1
    refine bodyPost_ret (v := .tuple #[.agg #[.slice os (unl er s).length cs, .slice od (unl er vls9).length cd], .int .i64 er]) (by simp [results, Tryz.results10, go_sem, d0, d1]) rfl ?_
    try rw [E1.out]
    try rw [E2.out]
    try rw [hS9.out]
    exact ⟨os, cs, od, cd, rfl, own_base O1.out (show w.heap.size ≤ w9.heap.size by omega), own_base O2.out (show w.heap.size ≤ w9.heap.size by omega), BZ.out⟩
  · have E1 : Hid (twe ef sa da sb db = spe sa sb) := Lib.hid (if_neg hsp)
    have b0 : (spe sa sb != 0) = true := bne_iff_ne.2 hsp
    have HSP := Lib.hid hsp
    rw [E1.out]
    generalize spe sa sb = er at *
    clear hsp
    go_wp2_with (go_at_call 32; (with_reducible refine (KS.out _ b7.out).mono ?_); rintro e w8 ⟨v8, rfl, hv8, hb8⟩; obtain ⟨o8, c8, rfl, _, _⟩ := id hv8; have b8 := Lib.hid (b7.out.trans (hb8.mono b7.out.size)); have s8 : w.heap.size + 4 ≤ w8.heap.size := Nat.le_trans s7 hb8.size; replace K3 := Lib.hid ((K3.out.below hb8 K3.out.lt).alloc (.cells #[.slice o8 (spv sa sb).length c8] 23)); obtain ⟨r0, r1, rf0, rf1⟩ := blk2 K3.out; clear hb8 hv8)
    have Q := Lib.hid ((K3.out.set_ 0 (.slice none 0 0)).set_ 1 (.slice none 0 0))
    have BZ := Lib.hid ((((b8.out.alloc b8.out.size (.cells #[.slice o8 (spv sa sb).length c8] 23))).setCell (p := ⟨w.heap.size + 3, 0, none⟩) (by show w.heap.size ≤ w.heap.size + 3; omega) (.slice none 0 0)).setCell (p := ⟨w.heap.size + 3, 1, none⟩) (by show w.heap.size ≤ w.heap.size + 3; omega) (.slice none 0 0))
    have d0 := Q.out.cell 0
    have d1 := Q.out.cell 1
    refine bodyPost_ret (v := .tuple #[.agg #[.slice none 0 0, .slice none 0 0], .int .i64 er]) (by simp [results, Tryz.results10, go_sem, d0, d1]) rfl ?_
    have u0 : ∀ l : List Int, unl er l = [] := fun l => by unfold unl; rw [if_neg HSP.out]
    try rw [E1.out]
    rw [u0, u0]
    exact ⟨none, 0, none, 0, rfl, World.ownsRow_nil _ _ _ _, World.ownsRow_nil _ _ _ _, BZ.out⟩
end Go.Proofs.YtpfcjajmfadcbaaGreat
namespace Go.Proofs.YtpfcjajmfadcbaaGreat

theorem dot_same : ∀ (x y u v : List Int), x.length = y.length → u.length = v.length → x.length = u.length → (∀ j, j < x.length → x.getD j 0 * u.getD j 0 = y.getD j 0 * v.getD j 0) → dot x u = dot y v
  | [], [], [], [], _, _, _, _ => rfl
  | a :: x, b :: y, c :: u, d :: v, h1, h2, h3, h => by
    have h0 := h 0 (by simp)
    simp only [List.getD_cons_zero] at h0
    have hr := dot_same x y u v (by simpa using h1) (by simpa using h2) (by simpa using h3) (fun j hj => by
      have := h (j + 1) (by simp; omega)
      simpa using this)
    show c * a + dot x u = d * b + dot y v
    rw [hr, Int.mul_comm c a, h0, Int.mul_comm b d]
  | [], _ :: _, _, _, h1, _, _, _ => by simp at h1
  | _ :: _, [], _, _, h1, _, _, _ => by simp at h1
  | _, _, [], _ :: _, _, h2, _, _ => by simp at h2
  | _, _, _ :: _, [], _, h2, _, _ => by simp at h2
  | [], [], _ :: _, _ :: _, _, _, h3, _ => by simp at h3
  | _ :: _, _ :: _, [], [], _, _, h3, _ => by simp at h3
theorem dot_skip : ∀ (a : Nat) (x u : List Int), (∀ j, j < a → x.getD j 0 = 0) → dot x u = dot (x.drop a) (u.drop a)
  | 0, _, _, _ => by simp
  | a + 1, [], u, _ => by simp [dot]
  | a + 1, c :: x, [], _ => by simp [dot]
  | a + 1, c :: x, d :: u, h => by
    have h0 := h 0 (by omega)
    simp only [List.getD_cons_zero] at h0
    have := dot_skip a x u (fun j hj => by
      have := h (j + 1) (by omega)
      simpa using this)
    show d * c + dot x u = dot (x.drop a) (u.drop a)
    rw [h0, this]; omega
theorem far_dot : ∀ (st s : List Int), far st s = dot st (s.map (· - 1))
  | [], [] => rfl
  | [], _ :: _ => by simp [far, dot]
  | _ :: _, [] => by simp [far, dot]
  | c :: st, d :: s => by
    show (d - 1) * c + far st s = (d - 1) * c + dot st (s.map (· - 1))
    rw [far_dot st s]
theorem last_inx {s : List Int} (h : pos s) : inx s (s.map (· - 1)) = true := by
  rw [inx_iff]
  refine ⟨by simp, fun k hk => ?_⟩
  have h1 := h _ (getD_mem hk)
  have e : (s.map (· - 1)).getD k 0 = s.getD k 0 - 1 := by simp [List.getD, List.getElem?_eq_getElem hk]
  rw [e]
  omega
theorem wsn_getD (sh st s : List Int) (hl : sh.length ≤ s.length) : ∀ (k : Nat), k ≤ sh.length → ∀ j, j < s.length → (wsn sh st s k).getD j 0 = if s.length - sh.length ≤ j ∧ j - (s.length - sh.length) < k ∧ sh.getD (j - (s.length - sh.length)) 0 = s.getD j 0 then st.getD (j - (s.length - sh.length)) 0 else 0
  | 0, _, j, hj => by
    rw [if_neg (by omega)]
    simp [wsn, List.getD, hj]
  | k + 1, hk, j, hj => by
    obtain ⟨a, ha⟩ : ∃ a, a = s.length - sh.length := ⟨_, rfl⟩
    have ih := wsn_getD sh st s hl k (by omega) j hj
    have hw := wsn_len sh st s k
    unfold wsn
    rw [← ha] at ih ⊢
    by_cases e : sh.getD k 0 = s.getD (k + a) 0
    · rw [if_pos e]
      by_cases hjk : j = k + a
      · have hj2 : j - a = k := by omega
        rw [hj2, if_pos ⟨by omega, by omega, by rw [hjk]; exact e⟩]
        subst hjk
        simp only [List.getD_eq_getElem?_getD, List.getElem?_set]
        rw [if_pos trivial, if_pos (by omega)]; rfl
      · have : ((wsn sh st s k).set (k + a) (st.getD k 0)).getD j 0 = (wsn sh st s k).getD j 0 := by
          simp only [List.getD_eq_getElem?_getD, List.getElem?_set]
          rw [if_neg (Ne.symm hjk)]
        rw [this, ih]
        by_cases c : a ≤ j ∧ j - a < k ∧ sh.getD (j - a) 0 = s.getD j 0
        · rw [if_pos c, if_pos ⟨c.1, by omega, c.2.2⟩]
        · rw [if_neg c, if_neg (fun h => c ⟨h.1, by omega, h.2.2⟩)]
    · rw [if_neg e, ih]
      by_cases c : a ≤ j ∧ j - a < k ∧ sh.getD (j - a) 0 = s.getD j 0
      · rw [if_pos c, if_pos ⟨c.1, by omega, c.2.2⟩]
      · rw [if_neg c, if_neg (fun h => by
          by_cases hjk : j = k + a
          · exact e (by have := h.2.2; rw [show j - a = k by omega] at this; rw [← hjk]; exact this)
          · exact c ⟨h.1, by omega, h.2.2⟩)]
theorem wst_len (sh st s : List Int) : (wst sh st s).length = s.length := wsn_len sh st s _
theorem goes_parts {s t : List Int} (ms : may s = true) (mt : may t = true) (g : goes s t = true) : s.length ≤ t.length ∧ ∀ j, j < s.length → s.getD j 0 = 1 ∨ s.getD j 0 = t.getD (j + (t.length - s.length)) 0 := by
  rw [goes_is ms mt] at g
  simp only [Bool.and_eq_true, decide_eq_true_eq, gN_iff] at g
  refine ⟨g.1, fun j hj => ?_⟩
  have := g.2 (s.length - j) (by omega) (by omega)
  rw [ov_at hj] at this
  have e : ov t (s.length - j) = t.getD (j + (t.length - s.length)) 0 := by
    rw [show s.length - j = t.length - (j + (t.length - s.length)) by omega]
    exact ov_at (by omega)
  rwa [e] at this
/-- The widened strides' places are what stands under an index. -/
theorem dot_wst {sa s i : List Int} (ma : may sa = true) (ms : may s = true) (g : goes sa s = true) (hi : inx s i = true) : dot (wst sa (stl sa) s) i = und sa i := by
  obtain ⟨hl, hg⟩ := goes_parts ma ms g
  obtain ⟨il, ib⟩ := inx_iff.1 hi
  have hwl := wst_len sa (stl sa) s
  have hsl := stl_len sa
  have hW := wsn_getD sa (stl sa) s hl sa.length (Nat.le_refl _)
  rw [dot_skip (s.length - sa.length) (wst sa (stl sa) s) i (fun j hj => by
    show (wsn _ _ _ _).getD j 0 = 0
    rw [hW j (by omega), if_neg (by omega)])]
  have hll : sa.length = (lst sa i).length := lst_len (by omega)
  unfold und
  rw [← dot_stl sa _ (msk_len sa _ hll).symm]
  refine dot_same _ _ _ _ (by simp; omega) (by rw [msk_len sa _ hll]; simp; omega) (by simp; omega) (fun j hj => ?_)
  have hj' : j < sa.length := by simp at hj; omega
  have e1 : ((wst sa (stl sa) s).drop (s.length - sa.length)).getD j 0 = (wst sa (stl sa) s).getD (s.length - sa.length + j) 0 := by simp [List.getD]
  have e2 : (i.drop (s.length - sa.length)).getD j 0 = i.getD (s.length - sa.length + j) 0 := by simp [List.getD]
  have e3 : (wst sa (stl sa) s).getD (s.length - sa.length + j) 0 = if sa.getD j 0 = s.getD (s.length - sa.length + j) 0 then (stl sa).getD j 0 else 0 := by
    show (wsn _ _ _ _).getD _ 0 = _
    rw [hW _ (by omega), show s.length - sa.length + j - (s.length - sa.length) = j by omega]
    by_cases c : sa.getD j 0 = s.getD (s.length - sa.length + j) 0
    · rw [if_pos ⟨by omega, hj', c⟩, if_pos c]
    · rw [if_neg (fun h => c h.2.2), if_neg c]
  rw [e1, e2, e3, msk_getD sa _ j hll hj', lst_getD (by omega), show j + i.length - sa.length = s.length - sa.length + j by omega]
  have hb := ib (s.length - sa.length + j) (by omega)
  have hgj := hg j hj'
  rw [show j + (s.length - sa.length) = s.length - sa.length + j by omega] at hgj
  by_cases c : sa.getD j 0 = s.getD (s.length - sa.length + j) 0
  · rw [if_pos c]
    by_cases c1 : 1 < sa.getD j 0
    · rw [if_pos c1]
    · rw [if_neg c1, show i.getD (s.length - sa.length + j) 0 = 0 by omega]
  · rw [if_neg c, if_neg (by omega)]; omega
theorem sts_wst {sa s : List Int} (ma : may sa = true) (ms : may s = true) (g : goes sa s = true) : sts (wst sa (stl sa) s) := by
  obtain ⟨hl, _⟩ := goes_parts ma ms g
  intro x hx
  obtain ⟨j, hj, rfl⟩ := List.mem_iff_getElem.1 hx
  have hwl := wst_len sa (stl sa) s
  have e : (wst sa (stl sa) s).getD j 0 = (wst sa (stl sa) s)[j] := by simp [List.getD, List.getElem?_eq_getElem hj]
  rw [← e]
  show 0 ≤ (wsn _ _ _ _).getD j 0 ∧ (wsn _ _ _ _).getD j 0 ≤ 65536
  rw [wsn_getD sa (stl sa) s hl sa.length (Nat.le_refl _) j (by omega)]
  split
  · rename_i c
    rw [stl_getD sa _ (by omega)]
    have := may_drop ma (j - (s.length - sa.length) + 1)
    omega
  · omega
/-- What is widened to a shape that it spreads to is a view of its own words. -/
theorem vw_wst {sa s : List Int} {n : Int} (ma : may sa = true) (ms : may s = true) (g : goes sa s = true) (hn : n = prod sa) : Vw s (wst sa (stl sa) s) 0 n := by
  have hp := may_prod ma
  have hi := last_inx (may_pos ms)
  have hf : far (wst sa (stl sa) s) s = und sa (s.map (· - 1)) := by rw [far_dot, dot_wst ma ms g hi]
  have hb := ix_bd (under_inx ma ms g hi)
  refine ⟨ms, wst_len _ _ _, sts_wst ma ms g, by omega, by omega, by omega, ?_⟩
  rw [hf, hn]
  unfold und
  omega
theorem vw_stl {sa : List Int} {n : Int} (ma : may sa = true) (hn : n = prod sa) : Vw sa (stl sa) 0 n := by
  have hp := may_prod ma
  refine ⟨ma, stl_len _, fun x hx => ?_, by omega, by omega, by omega, ?_⟩
  · obtain ⟨j, hj, rfl⟩ := List.mem_iff_getElem.1 hx
    have e : (stl sa).getD j 0 = (stl sa)[j] := by simp [List.getD, List.getElem?_eq_getElem hj]
    rw [← e, stl_getD sa j (by rw [stl_len] at hj; exact hj)]
    have := may_drop ma (j + 1)
    omega
  · rw [far_stl]; omega
/-- A tensor's words, laid out in a shape that it spreads to. -/
def lay (sa da s : List Int) (N : Nat) : List Int := cps s (wst sa (stl sa) s) 0 da N
theorem lay_tx {sa da s : List Int} {n N : Nat} (ma : may sa = true) (ms : may s = true) (g : goes sa s = true) (hN : (N : Int) = prod s) (hn : n < N) : txa s (lay sa da s N) s n = txa sa da s n := by
  have hi := atl_inx s (n : Nat) (may_pos ms) (by omega) (by omega)
  unfold txa lay
  rw [und_same hi, ix_atl s (n : Nat) (may_pos ms) (by omega) (by omega), Int.toNat_natCast, cps_getD hn, dot_wst ma ms g hi, Int.zero_add]
theorem fer_same {a b : Nat → Int} : ∀ {n : Nat}, (∀ k, k < n → a k = b k) → fer a n = fer b n
  | 0, _ => rfl
  | n + 1, h => by
    unfold fer
    rw [fer_same (fun k hk => h k (by omega)), h n (by omega)]
theorem vls_same {a b : Nat → Int} {n : Nat} (h : ∀ k, k < n → a k = b k) : vls a n = vls b n := by
  unfold vls
  exact List.map_congr_left (fun k hk => h k (List.mem_range.1 hk))
theorem tw_lay {sa da sb db : List Int} (ef : Int → Int → Int) {N : Nat} (ma : may sa = true) (mb : may sb = true) (hs : spe sa sb = 0) (hN : (N : Int) = prod (spv sa sb)) :
    twe ef (spv sa sb) (lay sa da (spv sa sb) N) (spv sa sb) (lay sb db (spv sa sb) N) = twe ef sa da sb db ∧ twv ef (spv sa sb) (lay sa da (spv sa sb) N) (spv sa sb) (lay sb db (spv sa sb) N) = twv ef sa da sb db := by
  obtain ⟨ms, ga⟩ := goes_spv ma hs
  have gb : goes sb (spv sa sb) = true := by rw [spv_sym]; exact (goes_spv mb (by rw [spe_sym]; exact hs)).2
  obtain ⟨s0, s1⟩ := spe_self ms
  have hN2 : (prod (spv sa sb)).toNat = N := by omega
  unfold twe twv
  rw [s0, s1, hs, if_pos rfl, if_pos rfl, hN2]
  exact ⟨fer_same (fun n hn => by rw [lay_tx ma ms ga hN hn, lay_tx mb ms gb hN hn]), vls_same (fun n hn => by rw [lay_tx ma ms ga hN hn, lay_tx mb ms gb hN hn])⟩
theorem tw_sym {ef : Int → Int → Int} (h : ∀ a b, ef a b = ef b a) (sa da sb db : List Int) : twe ef sb db sa da = twe ef sa da sb db ∧ twv ef sb db sa da = twv ef sa da sb db := by
  unfold twe twv
  rw [spe_sym sb sa, spv_sym sb sa]
  have e : (fun n => ef (txa sb db (spv sa sb) n) (txa sa da (spv sa sb) n)) = fun n => ef (txa sa da (spv sa sb) n) (txa sb db (spv sa sb) n) := by
    funext n; exact h _ _
  rw [e]
  exact ⟨rfl, rfl⟩
end Go.Proofs.YtpfcjajmfadcbaaGreat
namespace Go.Proofs.YtpfcjajmfadcbaaGreat
open Go Go.RowKit Go.Shelf

/-- What an operation of two words tells. -/
def v2 (op : Int) (f : Nat) (a b : Int) : Int := if op = 3 then tw (a + b) else if op = 4 then tw (a - b) else if op = 5 then tw (rd (a * b) (2 ^ f)) else if b = 0 then 0 else tw (rd (a * 2 ^ f) b)
/-- Its error. -/
def e2 (op : Int) (f : Nat) (a b : Int) : Int := if op = 3 then te (a + b) else if op = 4 then te (a - b) else if op = 5 then te (rd (a * b) (2 ^ f)) else if b = 0 then 4 else te (rd (a * 2 ^ f) b)

set_option maxRecDepth 100000 in
set_option maxHeartbeats 2000000 in
theorem psum_any (a b : Int) (f : Nat) (w : World) (ga : wd a = true) (gb : wd b = true) : Calls Tryz.prog 51 #[.agg #[.int .i64 a, .int .i64 b, .int .i64 f]] w fun e w' => e = .returned (.tuple #[.int .i64 (v2 3 f a b), .int .i64 (e2 3 f a b)]) ∧ Below w.heap.size w w' := by
  have B0 := Lib.hid ((Below.refl w.heap.size w).alloc (Nat.le_refl _) (.cells #[.int .i64 a, .int .i64 b, .int .i64 f] 64))
  have C := Lib.hid (fun W : World => fxadd_any a b W ga gb)
  clear ga gb
  go_enter Tryz.func51, Tryz.ntmps51
  go_wp2_with (go_at_call 86; (with_reducible refine (C.out _).mono ?_); rintro e w' ⟨rfl, rfl⟩)
  go_ret2
  exact ⟨rfl, B0.out⟩

set_option maxRecDepth 100000 in
set_option maxHeartbeats 2000000 in
theorem pdiff_any (a b : Int) (f : Nat) (w : World) (ga : wd a = true) (gb : wd b = true) : Calls Tryz.prog 52 #[.agg #[.int .i64 a, .int .i64 b, .int .i64 f]] w fun e w' => e = .returned (.tuple #[.int .i64 (v2 4 f a b), .int .i64 (e2 4 f a b)]) ∧ Below w.heap.size w w' := by
  have B0 := Lib.hid ((Below.refl w.heap.size w).alloc (Nat.le_refl _) (.cells #[.int .i64 a, .int .i64 b, .int .i64 f] 64))
  have C := Lib.hid (fun W : World => fxsub_any a b W ga gb)
  clear ga gb
  go_enter Tryz.func52, Tryz.ntmps52
  go_wp2_with (go_at_call 87; (with_reducible refine (C.out _).mono ?_); rintro e w' ⟨rfl, rfl⟩)
  go_ret2
  exact ⟨rfl, B0.out⟩

set_option maxRecDepth 100000 in
set_option maxHeartbeats 2000000 in
theorem pprod_any (a b : Int) (f : Nat) (w : World) (ga : wd a = true) (gb : wd b = true) (gf : fb f = true) : Calls Tryz.prog 53 #[.agg #[.int .i64 a, .int .i64 b, .int .i64 f]] w fun e w' => e = .returned (.tuple #[.int .i64 (v2 5 f a b), .int .i64 (e2 5 f a b)]) ∧ Below w.heap.size w w' := by
  have B0 := Lib.hid ((Below.refl w.heap.size w).alloc (Nat.le_refl _) (.cells #[.int .i64 a, .int .i64 b, .int .i64 f] 64))
  have C := Lib.hid (fun W : World => fxmul_any a b f W ga gb gf)
  clear ga gb gf
  go_enter Tryz.func53, Tryz.ntmps53
  go_wp2_with (go_at_call 88; (with_reducible refine (C.out _).mono ?_); rintro e w' ⟨rfl, hb⟩)
  go_ret2
  exact ⟨rfl, B0.out.trans (hb.mono (by simp))⟩

set_option maxRecDepth 100000 in
set_option maxHeartbeats 2000000 in
theorem pquot_any (a b : Int) (f : Nat) (w : World) (ga : wd a = true) (gb : wd b = true) (gf : fb f = true) : Calls Tryz.prog 54 #[.agg #[.int .i64 a, .int .i64 b, .int .i64 f]] w fun e w' => e = .returned (.tuple #[.int .i64 (v2 6 f a b), .int .i64 (e2 6 f a b)]) ∧ Below w.heap.size w w' := by
  have B0 := Lib.hid ((Below.refl w.heap.size w).alloc (Nat.le_refl _) (.cells #[.int .i64 a, .int .i64 b, .int .i64 f] 64))
  have C : Hid (∀ W : World, Calls Tryz.prog 89 #[.int .i64 a, .int .i64 b, .int .i64 f] W fun e w' => e = .returned (.tuple #[.int .i64 (v2 6 f a b), .int .i64 (e2 6 f a b)]) ∧ Below W.heap.size W w') := Lib.hid (fun W => by
    by_cases h : b = 0
    · have := fxdiv_zero a b f W ga gb gf h
      subst h
      exact this
    · have := fxdiv_any a b f W ga gb gf h
      unfold v2 e2
      rw [if_neg h, if_neg h]
      exact this)
  clear ga gb gf
  generalize v2 6 f a b = x at *
  generalize e2 6 f a b = y at *
  go_enter Tryz.func54, Tryz.ntmps54
  go_wp2_with (go_at_call 89; (with_reducible refine (C.out _).mono ?_); rintro e w' ⟨rfl, hb⟩)
  go_ret2
  exact ⟨rfl, B0.out.trans (hb.mono (by simp))⟩

/-- Two, of any operation. -/
theorem two_any (op : Int) (f : Nat) (va vda vb vdb : Value) (sa da sb db : List Int) (w : World) (ha : Ld w va sa) (hda : Ld w vda da) (hb : Ld w vb sb) (hdb : Ld w vdb db) (ta : tnb sa da = true) (tb : tnb sb db = true) (hf : fb f = true) (h3 : 3 ≤ op) (h6 : op ≤ 6) :
    Calls Tryz.prog 10 #[.int .i64 op, .agg #[va, vda], .agg #[vb, vdb], .int .i64 f] w (SomeT w (twe (e2 op f) sa da sb db) (unl (twe (e2 op f) sa da sb db) (spv sa sb)) (unl (twe (e2 op f) sa da sb db) (twv (v2 op f) sa da sb db))) := by
  have h : op = 3 ∨ op = 4 ∨ op = 5 ∨ op = 6 := by omega
  rcases h with rfl | rfl | rfl | rfl
  · exact two_gen 51 3 f 0 _ _ va vda vb vdb sa da sb db w ha hda hb hdb ta tb hf rfl (enters_of Tryz.func51 (by kernel_rfl) rfl) (fun a b W x y => psum_any a b f W x y)
  · exact two_gen 52 4 f 1 _ _ va vda vb vdb sa da sb db w ha hda hb hdb ta tb hf rfl (enters_of Tryz.func52 (by kernel_rfl) rfl) (fun a b W x y => pdiff_any a b f W x y)
  · exact two_gen 53 5 f 2 _ _ va vda vb vdb sa da sb db w ha hda hb hdb ta tb hf rfl (enters_of Tryz.func53 (by kernel_rfl) rfl) (fun a b W x y => pprod_any a b f W x y hf)
  · exact two_gen 54 6 f 3 _ _ va vda vb vdb sa da sb db w ha hda hb hdb ta tb hf rfl (enters_of Tryz.func54 (by kernel_rfl) rfl) (fun a b W x y => pquot_any a b f W x y hf)
end Go.Proofs.YtpfcjajmfadcbaaGreat
namespace Go.Proofs.YtpfcjajmfadcbaaGreat
open Go Go.RowKit Go.Shelf

/-- The table of operations of one. -/
def tbl1 : Array MapEntry := #[⟨.int .i64 7, .func (.func 62) #[] #[], 0⟩, ⟨.int .i64 8, .func (.func 53) #[] #[], 1⟩, ⟨.int .i64 9, .func (.func 63) #[] #[], 2⟩, ⟨.int .i64 10, .func (.func 64) #[] #[], 3⟩, ⟨.int .i64 11, .func (.func 65) #[] #[], 4⟩, ⟨.int .i64 12, .func (.func 66) #[] #[], 5⟩, ⟨.int .i64 13, .func (.func 67) #[] #[], 6⟩, ⟨.int .i64 14, .func (.func 68) #[] #[], 7⟩, ⟨.int .i64 15, .func (.func 69) #[] #[], 8⟩]
set_option maxRecDepth 100000 in
set_option maxHeartbeats 4000000 in
theorem ofone_any (w : World) : Calls Tryz.prog 36 #[] w fun e w' => e = .returned (.map (some w.heap.size)) ∧ w'.heap[w.heap.size]? = some (.map tbl1 9) ∧ Below w.heap.size w w' := by
  have hmm := @run_makeMap Tryz.prog
  have h0 : (w.alloc (.map #[] 0)).heap[w.heap.size]? = some (.map #[] 0) ∧ w.heap.size < (w.alloc (.map #[] 0)).heap.size := ⟨World.alloc_heap_new w _, by simp⟩
  have b0 : Below w.heap.size w (w.alloc (.map #[] 0)) := (Below.refl _ _).alloc (Nat.le_refl _) _
  have q1 := put_at (.map #[⟨.int .i64 7, .func (.func 62) #[] #[], 0⟩] 1) h0.2
  have p1 := run_put (P := Tryz.prog) (t := 57) (kt := 3) (e := 55) 7 (.func (.func 62) #[] #[]) (by kernel_rfl) (by kernel_rfl) h0.1 rfl
  have b1 := below_put b0 (Nat.le_refl _) (.map #[⟨.int .i64 7, .func (.func 62) #[] #[], 0⟩] 1)
  obtain ⟨W1, hW1⟩ : ∃ W1, W1 = (w.alloc (.map #[] 0)).putObj w.heap.size (.map #[⟨.int .i64 7, .func (.func 62) #[] #[], 0⟩] 1) := ⟨_, rfl⟩
  rw [← hW1] at q1 b1
  replace p1 : (Instr.mapUpdate 57 (.map (some w.heap.size)) (.int .i64 7) (.func (.func 62) #[] #[])).run Tryz.prog (w.alloc (.map #[] 0)) = .ok () W1 := by rw [hW1]; exact p1
  have q2 := put_at (.map #[⟨.int .i64 7, .func (.func 62) #[] #[], 0⟩, ⟨.int .i64 8, .func (.func 53) #[] #[], 1⟩] 2) q1.2
  have p2 := run_put (P := Tryz.prog) (t := 57) (kt := 3) (e := 55) 8 (.func (.func 53) #[] #[]) (by kernel_rfl) (by kernel_rfl) q1.1 rfl
  have b2 := below_put b1 (Nat.le_refl _) (.map #[⟨.int .i64 7, .func (.func 62) #[] #[], 0⟩, ⟨.int .i64 8, .func (.func 53) #[] #[], 1⟩] 2)
  obtain ⟨W2, hW2⟩ : ∃ W2, W2 = W1.putObj w.heap.size (.map #[⟨.int .i64 7, .func (.func 62) #[] #[], 0⟩, ⟨.int .i64 8, .func (.func 53) #[] #[], 1⟩] 2) := ⟨_, rfl⟩
  rw [← hW2] at q2 b2
  replace p2 : (Instr.mapUpdate 57 (.map (some w.heap.size)) (.int .i64 8) (.func (.func 53) #[] #[])).run Tryz.prog W1 = .ok () W2 := by rw [hW2]; exact p2
  have q3 := put_at (.map #[⟨.int .i64 7, .func (.func 62) #[] #[], 0⟩, ⟨.int .i64 8, .func (.func 53) #[] #[], 1⟩, ⟨.int .i64 9, .func (.func 63) #[] #[], 2⟩] 3) q2.2
  have p3 := run_put (P := Tryz.prog) (t := 57) (kt := 3) (e := 55) 9 (.func (.func 63) #[] #[]) (by kernel_rfl) (by kernel_rfl) q2.1 rfl
  have b3 := below_put b2 (Nat.le_refl _) (.map #[⟨.int .i64 7, .func (.func 62) #[] #[], 0⟩, ⟨.int .i64 8, .func (.func 53) #[] #[], 1⟩, ⟨.int .i64 9, .func (.func 63) #[] #[], 2⟩] 3)
  obtain ⟨W3, hW3⟩ : ∃ W3, W3 = W2.putObj w.heap.size (.map #[⟨.int .i64 7, .func (.func 62) #[] #[], 0⟩, ⟨.int .i64 8, .func (.func 53) #[] #[], 1⟩, ⟨.int .i64 9, .func (.func 63) #[] #[], 2⟩] 3) := ⟨_, rfl⟩
  rw [← hW3] at q3 b3
  replace p3 : (Instr.mapUpdate 57 (.map (some w.heap.size)) (.int .i64 9) (.func (.func 63) #[] #[])).run Tryz.prog W2 = .ok () W3 := by rw [hW3]; exact p3
  have q4 := put_at (.map #[⟨.int .i64 7, .func (.func 62) #[] #[], 0⟩, ⟨.int .i64 8, .func (.func 53) #[] #[], 1⟩, ⟨.int .i64 9, .func (.func 63) #[] #[], 2⟩, ⟨.int .i64 10, .func (.func 64) #[] #[], 3⟩] 4) q3.2
  have p4 := run_put (P := Tryz.prog) (t := 57) (kt := 3) (e := 55) 10 (.func (.func 64) #[] #[]) (by kernel_rfl) (by kernel_rfl) q3.1 rfl
  have b4 := below_put b3 (Nat.le_refl _) (.map #[⟨.int .i64 7, .func (.func 62) #[] #[], 0⟩, ⟨.int .i64 8, .func (.func 53) #[] #[], 1⟩, ⟨.int .i64 9, .func (.func 63) #[] #[], 2⟩, ⟨.int .i64 10, .func (.func 64) #[] #[], 3⟩] 4)
  obtain ⟨W4, hW4⟩ : ∃ W4, W4 = W3.putObj w.heap.size (.map #[⟨.int .i64 7, .func (.func 62) #[] #[], 0⟩, ⟨.int .i64 8, .func (.func 53) #[] #[], 1⟩, ⟨.int .i64 9, .func (.func 63) #[] #[], 2⟩, ⟨.int .i64 10, .func (.func 64) #[] #[], 3⟩] 4) := ⟨_, rfl⟩
  rw [← hW4] at q4 b4
  replace p4 : (Instr.mapUpdate 57 (.map (some w.heap.size)) (.int .i64 10) (.func (.func 64) #[] #[])).run Tryz.prog W3 = .ok () W4 := by rw [hW4]; exact p4
  have q5 := put_at (.map #[⟨.int .i64 7, .func (.func 62) #[] #[], 0⟩, ⟨.int .i64 8, .func (.func 53) #[] #[], 1⟩, ⟨.int .i64 9, .func (.func 63) #[] #[], 2⟩, ⟨.int .i64 10, .func (.func 64) #[] #[], 3⟩, ⟨.int .i64 11, .func (.func 65) #[] #[], 4⟩] 5) q4.2
  have p5 := run_put (P := Tryz.prog) (t := 57) (kt := 3) (e := 55) 11 (.func (.func 65) #[] #[]) (by kernel_rfl) (by kernel_rfl) q4.1 rfl
  have b5 := below_put b4 (Nat.le_refl _) (.map #[⟨.int .i64 7, .func (.func 62) #[] #[], 0⟩, ⟨.int .i64 8, .func (.func 53) #[] #[], 1⟩, ⟨.int .i64 9, .func (.func 63) #[] #[], 2⟩, ⟨.int .i64 10, .func (.func 64) #[] #[], 3⟩, ⟨.int .i64 11, .func (.func 65) #[] #[], 4⟩] 5)
  obtain ⟨W5, hW5⟩ : ∃ W5, W5 = W4.putObj w.heap.size (.map #[⟨.int .i64 7, .func (.func 62) #[] #[], 0⟩, ⟨.int .i64 8, .func (.func 53) #[] #[], 1⟩, ⟨.int .i64 9, .func (.func 63) #[] #[], 2⟩, ⟨.int .i64 10, .func (.func 64) #[] #[], 3⟩, ⟨.int .i64 11, .func (.func 65) #[] #[], 4⟩] 5) := ⟨_, rfl⟩
  rw [← hW5] at q5 b5
  replace p5 : (Instr.mapUpdate 57 (.map (some w.heap.size)) (.int .i64 11) (.func (.func 65) #[] #[])).run Tryz.prog W4 = .ok () W5 := by rw [hW5]; exact p5
  have q6 := put_at (.map #[⟨.int .i64 7, .func (.func 62) #[] #[], 0⟩, ⟨.int .i64 8, .func (.func 53) #[] #[], 1⟩, ⟨.int .i64 9, .func (.func 63) #[] #[], 2⟩, ⟨.int .i64 10, .func (.func 64) #[] #[], 3⟩, ⟨.int .i64 11, .func (.func 65) #[] #[], 4⟩, ⟨.int .i64 12, .func (.func 66) #[] #[], 5⟩] 6) q5.2
  have p6 := run_put (P := Tryz.prog) (t := 57) (kt := 3) (e := 55) 12 (.func (.func 66) #[] #[]) (by kernel_rfl) (by kernel_rfl) q5.1 rfl
  have b6 := below_put b5 (Nat.le_refl _) (.map #[⟨.int .i64 7, .func (.func 62) #[] #[], 0⟩, ⟨.int .i64 8, .func (.func 53) #[] #[], 1⟩, ⟨.int .i64 9, .func (.func 63) #[] #[], 2⟩, ⟨.int .i64 10, .func (.func 64) #[] #[], 3⟩, ⟨.int .i64 11, .func (.func 65) #[] #[], 4⟩, ⟨.int .i64 12, .func (.func 66) #[] #[], 5⟩] 6)
  obtain ⟨W6, hW6⟩ : ∃ W6, W6 = W5.putObj w.heap.size (.map #[⟨.int .i64 7, .func (.func 62) #[] #[], 0⟩, ⟨.int .i64 8, .func (.func 53) #[] #[], 1⟩, ⟨.int .i64 9, .func (.func 63) #[] #[], 2⟩, ⟨.int .i64 10, .func (.func 64) #[] #[], 3⟩, ⟨.int .i64 11, .func (.func 65) #[] #[], 4⟩, ⟨.int .i64 12, .func (.func 66) #[] #[], 5⟩] 6) := ⟨_, rfl⟩
  rw [← hW6] at q6 b6
  replace p6 : (Instr.mapUpdate 57 (.map (some w.heap.size)) (.int .i64 12) (.func (.func 66) #[] #[])).run Tryz.prog W5 = .ok () W6 := by rw [hW6]; exact p6
  have q7 := put_at (.map #[⟨.int .i64 7, .func (.func 62) #[] #[], 0⟩, ⟨.int .i64 8, .func (.func 53) #[] #[], 1⟩, ⟨.int .i64 9, .func (.func 63) #[] #[], 2⟩, ⟨.int .i64 10, .func (.func 64) #[] #[], 3⟩, ⟨.int .i64 11, .func (.func 65) #[] #[], 4⟩, ⟨.int .i64 12, .func (.func 66) #[] #[], 5⟩, ⟨.int .i64 13, .func (.func 67) #[] #[], 6⟩] 7) q6.2
  have p7 := run_put (P := Tryz.prog) (t := 57) (kt := 3) (e := 55) 13 (.func (.func 67) #[] #[]) (by kernel_rfl) (by kernel_rfl) q6.1 rfl
  have b7 := below_put b6 (Nat.le_refl _) (.map #[⟨.int .i64 7, .func (.func 62) #[] #[], 0⟩, ⟨.int .i64 8, .func (.func 53) #[] #[], 1⟩, ⟨.int .i64 9, .func (.func 63) #[] #[], 2⟩, ⟨.int .i64 10, .func (.func 64) #[] #[], 3⟩, ⟨.int .i64 11, .func (.func 65) #[] #[], 4⟩, ⟨.int .i64 12, .func (.func 66) #[] #[], 5⟩, ⟨.int .i64 13, .func (.func 67) #[] #[], 6⟩] 7)
  obtain ⟨W7, hW7⟩ : ∃ W7, W7 = W6.putObj w.heap.size (.map #[⟨.int .i64 7, .func (.func 62) #[] #[], 0⟩, ⟨.int .i64 8, .func (.func 53) #[] #[], 1⟩, ⟨.int .i64 9, .func (.func 63) #[] #[], 2⟩, ⟨.int .i64 10, .func (.func 64) #[] #[], 3⟩, ⟨.int .i64 11, .func (.func 65) #[] #[], 4⟩, ⟨.int .i64 12, .func (.func 66) #[] #[], 5⟩, ⟨.int .i64 13, .func (.func 67) #[] #[], 6⟩] 7) := ⟨_, rfl⟩
  rw [← hW7] at q7 b7
  replace p7 : (Instr.mapUpdate 57 (.map (some w.heap.size)) (.int .i64 13) (.func (.func 67) #[] #[])).run Tryz.prog W6 = .ok () W7 := by rw [hW7]; exact p7
  have q8 := put_at (.map #[⟨.int .i64 7, .func (.func 62) #[] #[], 0⟩, ⟨.int .i64 8, .func (.func 53) #[] #[], 1⟩, ⟨.int .i64 9, .func (.func 63) #[] #[], 2⟩, ⟨.int .i64 10, .func (.func 64) #[] #[], 3⟩, ⟨.int .i64 11, .func (.func 65) #[] #[], 4⟩, ⟨.int .i64 12, .func (.func 66) #[] #[], 5⟩, ⟨.int .i64 13, .func (.func 67) #[] #[], 6⟩, ⟨.int .i64 14, .func (.func 68) #[] #[], 7⟩] 8) q7.2
  have p8 := run_put (P := Tryz.prog) (t := 57) (kt := 3) (e := 55) 14 (.func (.func 68) #[] #[]) (by kernel_rfl) (by kernel_rfl) q7.1 rfl
  have b8 := below_put b7 (Nat.le_refl _) (.map #[⟨.int .i64 7, .func (.func 62) #[] #[], 0⟩, ⟨.int .i64 8, .func (.func 53) #[] #[], 1⟩, ⟨.int .i64 9, .func (.func 63) #[] #[], 2⟩, ⟨.int .i64 10, .func (.func 64) #[] #[], 3⟩, ⟨.int .i64 11, .func (.func 65) #[] #[], 4⟩, ⟨.int .i64 12, .func (.func 66) #[] #[], 5⟩, ⟨.int .i64 13, .func (.func 67) #[] #[], 6⟩, ⟨.int .i64 14, .func (.func 68) #[] #[], 7⟩] 8)
  obtain ⟨W8, hW8⟩ : ∃ W8, W8 = W7.putObj w.heap.size (.map #[⟨.int .i64 7, .func (.func 62) #[] #[], 0⟩, ⟨.int .i64 8, .func (.func 53) #[] #[], 1⟩, ⟨.int .i64 9, .func (.func 63) #[] #[], 2⟩, ⟨.int .i64 10, .func (.func 64) #[] #[], 3⟩, ⟨.int .i64 11, .func (.func 65) #[] #[], 4⟩, ⟨.int .i64 12, .func (.func 66) #[] #[], 5⟩, ⟨.int .i64 13, .func (.func 67) #[] #[], 6⟩, ⟨.int .i64 14, .func (.func 68) #[] #[], 7⟩] 8) := ⟨_, rfl⟩
  rw [← hW8] at q8 b8
  replace p8 : (Instr.mapUpdate 57 (.map (some w.heap.size)) (.int .i64 14) (.func (.func 68) #[] #[])).run Tryz.prog W7 = .ok () W8 := by rw [hW8]; exact p8
  have q9 := put_at (.map tbl1 9) q8.2
  have p9 := run_put (P := Tryz.prog) (t := 57) (kt := 3) (e := 55) 15 (.func (.func 69) #[] #[]) (by kernel_rfl) (by kernel_rfl) q8.1 rfl
  have b9 := below_put b8 (Nat.le_refl _) (.map tbl1 9)
  obtain ⟨W9, hW9⟩ : ∃ W9, W9 = W8.putObj w.heap.size (.map tbl1 9) := ⟨_, rfl⟩
  rw [← hW9] at q9 b9
  replace p9 : (Instr.mapUpdate 57 (.map (some w.heap.size)) (.int .i64 15) (.func (.func 69) #[] #[])).run Tryz.prog W8 = .ok () W9 := by rw [hW9]; exact p9
  have Q := Lib.hid (And.intro q9.1 b9)
  clear hW1 q1 b1 hW2 q2 b2 hW3 q3 b3 hW4 q4 b4 hW5 q5 b5 hW6 q6 b6 hW7 q7 b7 hW8 q8 b8 hW9 q9 b9 b0 h0
  go_enter Tryz.func36, Tryz.ntmps36
  go_wp2
  go_ret
  exact ⟨rfl, Q.out.1, Q.out.2⟩

/-- May the word stand there? -/
def tk (op c : Int) : Bool := decide (c = 0) || (wd c && (decide (op = 8) || decide (op = 10)))
set_option maxRecDepth 100000 in
set_option maxHeartbeats 4000000 in
theorem takes_any (op c : Int) (w : World) : Calls Tryz.prog 37 #[.int .i64 op, .int .i64 c] w fun e w' => e = .returned (.bool (tk op c)) ∧ Below w.heap.size w w' := by
  obtain ⟨Q, hQ⟩ : ∃ Q, Q = tk op c := ⟨_, rfl⟩
  rw [← hQ]
  have BR := fun n => Lib.hid (below_drw (Below.refl w.heap.size w) n)
  have CK := fun W : World => check_any c W
  by_cases h0 : c = 0
  · have b0 : (c == 0) = true := beq_iff_eq.2 h0
    have E : Hid (Q = true) := Lib.hid (by rw [hQ]; unfold tk; rw [decide_eq_true h0]; rfl)
    clear hQ h0 CK
    go_enter Tryz.func37, Tryz.ntmps37
    go_wp2
    go_ret
    exact ⟨by rw [E.out]; rfl, Below.refl _ _⟩
  · have b0 : (c == 0) = false := beq_eq_false_iff_ne.2 h0
    cases hw : wd c with
    | false =>
      have E : Hid (Q = false) := Lib.hid (by rw [hQ]; unfold tk; rw [decide_eq_false h0, hw]; rfl)
      rw [hw, if_neg (by decide)] at CK
      replace CK := Lib.hid CK
      clear hQ h0 hw
      go_enter Tryz.func37, Tryz.ntmps37
      go_wp2_with (go_at_call 44; (with_reducible refine (CK.out _).mono ?_); rintro e w' ⟨rfl, rfl⟩)
      go_ret
      exact ⟨by rw [E.out]; rfl, Below.refl _ _⟩
    | true =>
      rw [hw, if_pos rfl] at CK
      replace CK := Lib.hid CK
      by_cases h8 : op = 8
      · have b8 : (op == 8) = true := beq_iff_eq.2 h8
        have E : Hid (Q = true) := Lib.hid (by rw [hQ]; unfold tk; rw [hw, decide_eq_true h8]; simp)
        clear hQ h0 hw h8
        go_enter Tryz.func37, Tryz.ntmps37
        go_wp2_with (go_at_call 44; (with_reducible refine (CK.out _).mono ?_); rintro e w' ⟨rfl, rfl⟩)
        go_ret
        exact ⟨by rw [E.out]; rfl, Below.refl _ _⟩
      · have b8 : (op == 8) = false := beq_eq_false_iff_ne.2 h8
        obtain ⟨q, hq⟩ : ∃ q, q = (op == 10) := ⟨_, rfl⟩
        have E : Hid (Q = q) := Lib.hid (by rw [hQ, hq]; unfold tk; rw [hw, decide_eq_false h8, decide_eq_false h0]; by_cases h : op = 10 <;> simp [h])
        have b10 : (op == 10) = q := hq.symm
        clear hQ h0 hw h8 hq
        go_enter Tryz.func37, Tryz.ntmps37
        go_wp2_with (go_at_call 44; (with_reducible refine (CK.out _).mono ?_); rintro e w' ⟨rfl, rfl⟩)
        go_ret
        exact ⟨by rw [E.out]; rfl, Below.refl _ _⟩

/-- What is asked of the n-th word. -/
theorem one1_any (bA bC bF n : Nat) (va vda vi : Value) (da : List Int) (c f : Int) (w : World) (h2 : Blk w bA 26 #[va, vda]) (h3 : Blk w bC 2 #[.int .i64 c]) (h4 : Blk w bF 3 #[.int .i64 f]) (hda : Ld w vda da) (hn : n < da.length) :
    Calls Tryz.prog 38 #[.int .i64 n, vi, .pointer (some ⟨bA, 0, none⟩), .pointer (some ⟨bC, 0, none⟩), .pointer (some ⟨bF, 0, none⟩)] w fun e w' => e = .returned (.agg #[.int .i64 (da.getD n 0), .int .i64 c, .int .i64 f]) ∧ Below w.heap.size w w' := by
  obtain ⟨oa, ca, rfl, _, xa⟩ := hda
  obtain ⟨a1, a2, rfl, a3, a4⟩ := xa n hn
  have KK0 : ∀ cs : Array Value, (w.alloc (.cells cs 64)).cell? ⟨bA, 1, none⟩ = some (.slice (some ⟨a1, a2, none⟩) da.length ca) ∧ (w.alloc (.cells cs 64)).cell? ⟨a1, a2 + n, none⟩ = some (.int .i64 (da.getD n 0)) ∧ (w.alloc (.cells cs 64)).cell? ⟨bC, 0, none⟩ = some (.int .i64 c) ∧ (w.alloc (.cells cs 64)).cell? ⟨bF, 0, none⟩ = some (.int .i64 f) := fun cs => by
    have b0 : Below w.heap.size w (w.alloc (.cells cs 64)) := (Below.refl _ _).alloc (Nat.le_refl _) _
    exact ⟨(h2.below b0 h2.lt).cell 1, (b0.cell (p := ⟨a1, a2 + n, none⟩) a3).trans a4, (h3.below b0 h3.lt).cell 0, (h4.below b0 h4.lt).cell 0⟩
  obtain ⟨c1, eA, c3, kF⟩ := KK0 #[.int .i64 0, .int .i64 0, .int .i64 0]
  have z2 := h2.lt
  have z3 := h3.lt
  have z4 := h4.lt
  generalize da.getD n 0 = x at *
  have j1 : (n : Int) < (da.length : Int) := by omega
  generalize da.length = la at *
  have KK := Lib.hid KK0
  clear xa a4 h2 h3 h4 KK0
  go_enter Tryz.func38, Tryz.ntmps38
  go_wp2
  go_region_held3 (fun W => W.cell? ⟨bA, 1, none⟩ = some (.slice (some ⟨a1, a2, none⟩) la ca) ∧ W.cell? ⟨a1, a2 + n, none⟩ = some (.int .i64 x) ∧ W.cell? ⟨bC, 0, none⟩ = some (.int .i64 c) ∧ W.cell? ⟨bF, 0, none⟩ = some (.int .i64 f)) (first | exact ⟨c1, eA, c3, kF⟩ | exact KK.out _ | go_keep) (fail)
  go_wp2
  refine bodyPost_ret (v := .agg #[.int .i64 x, .int .i64 c, .int .i64 f]) (by simp [results, Tryz.results38, go_sem]) rfl ?_
  exact ⟨rfl, below_drw ((Below.refl _ _).alloc (Nat.le_refl _) _) 1⟩

/-- One's answers: its error. -/
def owe (ef : Int → Int) (da : List Int) : Int := fer (fun n => ef (da.getD n 0)) da.length
/-- Its words. -/
def owv (vf : Int → Int) (da : List Int) : List Int := vls (fun n => vf (da.getD n 0)) da.length

set_option maxRecDepth 100000 in
set_option maxHeartbeats 8000000 in
theorem one_gen (WF : FuncId) (op c f : Int) (i0 : Nat) (vf ef : Int → Int) (va vda : Value) (sa da : List Int) (w : World) (ha : Ld w va sa) (hda : Ld w vda da) (ta : tnb sa da = true) (hk : tk op c = true) (hf : fb f = true)
    (LK : Instr.findNow (.int .i64) (.int .i64 op) tbl1.toList 0 = some (some (i0, .func (.func WF) #[] #[])))
    (eW : ∀ args (W : World), (callFunc WF args).run Tryz.prog W = .ok (.enter WF args) W)
    (HF : ∀ (a : Int) (W : World), wd a = true → Calls Tryz.prog WF #[.agg #[.int .i64 a, .int .i64 c, .int .i64 f]] W fun e w' => e = .returned (.tuple #[.int .i64 (vf a), .int .i64 (ef a)]) ∧ Below W.heap.size W w') :
    Calls Tryz.prog 11 #[.int .i64 op, .agg #[va, vda], .int .i64 c, .int .i64 f] w (SomeT w (owe ef da) (unl (owe ef da) sa) (unl (owe ef da) (owv vf da))) := by
  have ma := (tnb_parts ta).1
  have la := may_len ma
  have lda := (tnb_parts ta).2.1
  have pa := may_prod ma
  obtain ⟨w4, hw4⟩ : ∃ w4, w4 = (((w.alloc (.cells #[va, vda] 26)).alloc (.cells #[.int .i64 c] 2)).alloc (.cells #[.int .i64 f] 3)).alloc (.cells #[.slice none 0 0, .slice none 0 0] 26) := ⟨_, rfl⟩
  have hsz : w4.heap.size = w.heap.size + 4 := by rw [hw4]; simp
  have B4 : Below w.heap.size w w4 := by rw [hw4]; exact ((((Below.refl _ _).alloc (Nat.le_refl _) _).alloc (by simp) _).alloc (by simp; omega) _).alloc (by simp; omega) _
  have K0 : Hid (Blk w4 w.heap.size 26 #[va, vda]) := by rw [hw4]; exact (((Blk.new w _ _).alloc _).alloc _).alloc _
  have K1 : Hid (Blk w4 (w.heap.size + 1) 2 #[.int .i64 c]) := by rw [hw4]; exact ((blk_new1 w _ _ _).alloc _).alloc _
  have K2 : Hid (Blk w4 (w.heap.size + 2) 3 #[.int .i64 f]) := by
    rw [hw4]
    have q := Blk.new ((w.alloc (.cells #[va, vda] 26)).alloc (.cells #[.int .i64 c] 2)) 3 #[.int .i64 f]
    rw [World.size_alloc, World.size_alloc] at q
    exact q.alloc _
  have K3 : Hid (Blk w4 (w.heap.size + 3) 26 #[.slice none 0 0, .slice none 0 0]) := by
    rw [hw4]
    have q := Blk.new (((w.alloc (.cells #[va, vda] 26)).alloc (.cells #[.int .i64 c] 2)).alloc (.cells #[.int .i64 f] 3)) 26 #[.slice none 0 0, .slice none 0 0]
    rwa [World.size_alloc, World.size_alloc, World.size_alloc] at q
  have KT := Lib.hid (ofone_any w4)
  rw [hsz] at KT
  have KCA : Hid (∀ W, Below w.heap.size w W → Calls Tryz.prog 16 #[.agg #[va, vda]] W fun e w' => e = .returned (.int .i64 0) ∧ Below W.heap.size W w') := Lib.hid (fun W hW => by have := echeck_any va vda sa da W (ha.below hW) (hda.below hW) (by omega) (by omega); rwa [ta, if_pos rfl] at this)
  have KTK : Hid (∀ W, Calls Tryz.prog 37 #[.int .i64 op, .int .i64 c] W fun e w' => e = .returned (.bool true) ∧ Below W.heap.size W w') := Lib.hid (fun W => by have := takes_any op c W; rwa [hk] at this)
  have KF := fun W => checkf_any f W
  rw [hf, if_pos rfl] at KF
  have KF := Lib.hid KF
  have HLD := Lib.hid (And.intro ha hda)
  have HTA := Lib.hid (And.intro ta ma)
  have LKH := Lib.hid LK
  have EFW := Lib.hid (And.intro eW HF)
  have HW := Lib.hid hw4
  have HLA := Lib.hid lda
  clear ha hda ta ma LK eW HF pa lda hf hk
  rw [hw4] at KT
  clear hw4
  go_enter Tryz.func11, Tryz.ntmps11
  go_upto_region 4 with (first
    | (go_at_call 36; (with_reducible refine KT.out.mono ?_); rintro e w5 ⟨rfl, hm5, hb5⟩; rw [← HW.out] at hb5; have lk := run_look (P := Tryz.prog) (t := 57) (kt := 3) (e := 55) op (.func (.func WF) #[] #[]) (by kernel_rfl) (by kernel_rfl) hm5 LKH.out; have s5 : w.heap.size + 4 ≤ w5.heap.size := Nat.le_trans (Nat.le_of_eq hsz.symm) (by have := hb5.size; omega); have b5 := Lib.hid (B4.trans (hb5.mono (by omega))); replace K0 := Lib.hid (K0.out.below hb5 (by omega)); replace K1 := Lib.hid (K1.out.below hb5 (by omega)); replace K2 := Lib.hid (K2.out.below hb5 (by omega)); replace K3 := Lib.hid (K3.out.below hb5 (by omega)); obtain ⟨c0, c1, _⟩ := blk2 K0.out; have c3 := K1.out.cell 0; have c4 := K2.out.cell 0; clear hb5 hm5)
    | (go_at_call 16; (with_reducible refine (KCA.out _ b5.out).mono ?_); rintro e w6 ⟨rfl, hb6⟩; have b6 := Lib.hid (b5.out.trans (hb6.mono b5.out.size)); have s6 : w.heap.size + 4 ≤ w6.heap.size := Nat.le_trans s5 hb6.size; replace K0 := Lib.hid (K0.out.below hb6 K0.out.lt); replace K1 := Lib.hid (K1.out.below hb6 K1.out.lt); replace K2 := Lib.hid (K2.out.below hb6 K2.out.lt); replace K3 := Lib.hid (K3.out.below hb6 K3.out.lt); obtain ⟨c0, c1, _⟩ := blk2 K0.out; have c3 := K1.out.cell 0; have c4 := K2.out.cell 0; clear hb6)
    | (go_at_call 37; (with_reducible refine (KTK.out _).mono ?_); rintro e w7 ⟨rfl, hb7⟩; have b7 := Lib.hid (b6.out.trans (hb7.mono b6.out.size)); have s7 : w.heap.size + 4 ≤ w7.heap.size := Nat.le_trans s6 hb7.size; replace K0 := Lib.hid (K0.out.below hb7 K0.out.lt); replace K1 := Lib.hid (K1.out.below hb7 K1.out.lt); replace K2 := Lib.hid (K2.out.below hb7 K2.out.lt); replace K3 := Lib.hid (K3.out.below hb7 K3.out.lt); obtain ⟨c0, c1, _⟩ := blk2 K0.out; have c3 := K1.out.cell 0; have c4 := K2.out.cell 0; clear hb7)
    | (go_at_call 31; (with_reducible refine (KF.out _).mono ?_); rintro e w' ⟨rfl, rfl⟩))
  have KE := Lib.hid (each_any 38 WF #[.pointer (some ⟨w.heap.size, 0, none⟩), .pointer (some ⟨w.heap.size + 1, 0, none⟩), .pointer (some ⟨w.heap.size + 1 + 1, 0, none⟩)]
    (fun n => .agg #[.int .i64 (da.getD n 0), .int .i64 c, .int .i64 f]) (fun n => vf (da.getD n 0)) (fun n => ef (da.getD n 0)) va sa da.length w7 (HLD.out.1.below b7.out) HTA.out.2 HLA.out
    (enters_of Tryz.func38 (by kernel_rfl) rfl) EFW.out.1
    (fun n W vi hn hW hi => one1_any w.heap.size (w.heap.size + 1) (w.heap.size + 2) n va vda vi da c f W (K0.out.below hW K0.out.lt) (K1.out.below hW K1.out.lt) (K2.out.below hW K2.out.lt) (HLD.out.2.below (b7.out.trans (hW.mono b7.out.size))) hn)
    (fun n W hn => EFW.out.2 _ W (wds_wd (tnb_parts HTA.out.1).2.2 hn)))
  have E1 : Hid (owe ef da = fer (fun n => ef (da.getD n 0)) da.length) := Lib.hid rfl
  have E2 : Hid (owv vf da = vls (fun n => vf (da.getD n 0)) da.length) := Lib.hid rfl
  generalize fer (fun n => ef (da.getD n 0)) da.length = er at *
  generalize vls (fun n => vf (da.getD n 0)) da.length = vls9 at *
  clear lk KCA KF KT KTK
  go_wp2_with (go_at_call 33; (with_reducible refine KE.out.mono ?_); rintro e wa ⟨os, cs, od, cd, rfl, ho, hd, hba⟩; have Ba := Lib.hid hba; have HO := Lib.hid (And.intro ho hd); replace K3 := Lib.hid (K3.out.below hba K3.out.lt); obtain ⟨r0, r1, rf0, rf1⟩ := blk2 K3.out; clear ho hd hba)
  have Q := Lib.hid ((K3.out.set_ 0 (.slice os (unl er sa).length cs)).set_ 1 (.slice od (unl er vls9).length cd))
  have O1 := Lib.hid (own_two HO.out.1 K3.out (by decide) (.slice os (unl er sa).length cs) (.slice od (unl er vls9).length cd))
  have O2 := Lib.hid (own_two HO.out.2 K3.out (by decide) (.slice os (unl er sa).length cs) (.slice od (unl er vls9).length cd))
  have BZ := Lib.hid (((b7.out.trans (Ba.out.mono b7.out.size)).setCell (p := ⟨w.heap.size + 3, 0, none⟩) (by show w.heap.size ≤ w.heap.size + 3; omega) (.slice os (unl er sa).length cs)).setCell (p := ⟨w.heap.size + 3, 1, none⟩) (by show w.heap.size ≤ w.heap.size + 3; omega) (.slice od (unl er vls9).length cd))
  have d0 := Q.out.cell 0
  have d1 := Q.out.cell 1
  refine bodyPost_ret (v := .tuple #[.agg #[.slice os (unl er sa).length cs, .slice od (unl er vls9).length cd], .int .i64 er]) (by simp [results, Tryz.results11, go_sem, d0, d1]) rfl ?_
  try rw [E1.out]
  try rw [E2.out]
  exact ⟨os, cs, od, cd, rfl, own_base O1.out (show w.heap.size ≤ w7.heap.size by omega), own_base O2.out (show w.heap.size ≤ w7.heap.size by omega), BZ.out⟩
end Go.Proofs.YtpfcjajmfadcbaaGreat
