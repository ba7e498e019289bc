/-
  The reference's Norm of a tensor.
  The list of package norm's asks (a tensor, eps, a word, fraction bits) opened to the cells of its elements.
  The reference's May, of a tensor.
-/
import Derived.Deep.Slices
import Derived.Deep.Fields
import Derived.ProofKit
import Derived.Carry
import Derived.SizedLaws
import Derived.Deep.RegionHeld3
import Derived.Test.YtldchepfcgbpiaaGreatM17
import Derived.Test.YtldchepfcgbpiaaGreatM18
import Derived.Test.YtldchepfcgbpiaaGreatM27
namespace Go.Proofs.YtldchepfcgbpiaaGreat
open Go Go.RowKit Go.Shelf
attribute [local go_sem] Oper.semAt_some

/-- A tensor and an error, told. -/
def TyN (W : World) (E : Int) (S D : List Int) (e : Ending) (w' : World) : Prop := ∃ os cs od cd, e = .returned (.tuple #[.agg #[.slice os S.length cs, .slice od D.length cd], .int .i64 E]) ∧ Ld w' (.slice os S.length cs) S ∧ Ld w' (.slice od D.length cd) D ∧ Below W.heap.size W w'
/-- A row's words normed, as a part of all. -/
theorem nrw_mid {n k p : Nat} {ds : List Int} (eps : Int) (f : Nat) (hp : p = k * n) (h : p + n ≤ ds.length) : nrw n ds eps f k = ((nrt n ds eps f).drop p).take n := by
  subst hp
  refine List.ext_getElem (by rw [nrw_len, List.length_take, List.length_drop, nrt_len]; omega) (fun j h1 h2 => ?_)
  rw [nrw_len] at h1
  have c := nrt_in (n := n) (l := k) (j := j) (ds := ds) eps f h1 h
  rw [List.getElem_take, List.getElem_drop]
  have h3 : j < (nrw n ds eps f k).length := by rw [nrw_len]; exact h1
  have h4 : k * n + j < (nrt n ds eps f).length := by rw [nrt_len]; omega
  simpa [List.getD, List.getElem?_eq_getElem h3, List.getElem?_eq_getElem h4] using c.symm
theorem row_next {k N n p L : Nat} (hN : L = N * n) (hp : p = k * n) (h : p < L) : k < N ∧ p + n ≤ L := by
  have h3 : k < N := by
    refine Nat.lt_of_not_le fun hh => ?_
    have := Nat.mul_le_mul_right n hh
    omega
  refine ⟨h3, ?_⟩
  have := Nat.mul_le_mul_right n (show k + 1 ≤ N from h3)
  rw [Nat.add_mul, Nat.one_mul] at this
  omega
theorem row_addr {w : World} {base : Nat} {e : TypeId} {v : Value} {n : Nat} {xs : List Value} (h : w.ownsRow base e 1 v n xs) (hn : 1 ≤ n) : ∃ g c, v = .slice (some ⟨g, 0, none⟩) n c := by
  rcases h.2 with ⟨_, h0⟩ | ⟨g, cap, _, rfl, _⟩
  · omega
  · exact ⟨g, cap, rfl⟩
theorem ints_news {W : World} {g c : Nat} {R : List Int} {n : Nat} (h : Ld W (.slice (some ⟨g, 0, none⟩) n c) R) (hl : R.length = n) : ∀ j u, (ints R)[j]? = some u → W.cell? ((⟨g, 0, none⟩ : Addr).add j) = some u := fun j u hj => by
  subst hl
  simp only [ints, List.getElem?_map, Option.map_eq_some_iff] at hj
  obtain ⟨x, hx, rfl⟩ := hj
  obtain ⟨hlt, hx2⟩ := List.getElem?_eq_some_iff.1 hx
  have q := ld_cell h hlt
  rw [show R.getD j 0 = x by simp [List.getD, hx]] at q
  rw [Go.WideShapes.add_plain]
  exact q
theorem ints_one (R : List Int) : ∀ u ∈ ints R, u.oneCell' = true := fun u hu => by
  simp only [ints, List.mem_map] at hu
  obtain ⟨x, _, rfl⟩ := hu
  rfl
/-- A row's answer, with its address. -/
theorem norm13_row {gV fV cV n k p f : Nat} {ds : List Int} {eps : Int} {W : World} (hX : Ld W (.slice (some ⟨gV, fV, none⟩) ds.length cV) ds) (hwd : wds ds = true) (hp : p = k * n) (h : p + n ≤ ds.length) (h1 : 1 ≤ n) (h24 : ds.length ≤ 24) (e0 : 0 < eps) (we : wd eps = true) (hf : fb (f : Int) = true) :
    Calls Tryz.prog 19 #[.slice (some ⟨gV, fV + p, none⟩) n (cV - p), .int .i64 eps, .int .i64 f] W fun e w' => ∃ g c, e = .returned (.tuple #[.slice (some ⟨g, 0, none⟩) n c, .int .i64 0]) ∧ w'.ownsRow W.heap.size 2 1 (.slice (some ⟨g, 0, none⟩) n c) n (ints (((nrt n ds eps f).drop p).take n)) ∧ Below W.heap.size W w' := by
  have hl : ((ds.drop p).take n).length = n := by simp; omega
  have hm := wds_midq hwd (show k * n + n ≤ ds.length by omega)
  rw [← hp] at hm
  have hr : nml ((ds.drop p).take n) eps f = ((nrt n ds eps f).drop p).take n := by
    rw [← nrw_mid eps f hp h, nrw_map eps f (by omega), ← hp]
    unfold nml
    rw [hl]
  have hf2 : f ≤ 32 := by simp only [fb, decide_eq_true_eq] at hf; omega
  have he : eps ≤ 140737488355328 := by
    unfold wd at we; simp at we; omega
  have q := norm13_any gV (fV + p) n (cV - p) f ((ds.drop p).take n) eps W (ld_part hX h) hl ⟨h1, by omega⟩ (fun j hj => by
    have := wds_at hm (k := j) (by omega)
    omega) ⟨e0, he⟩ hf2 (fun i hi => by
    rw [ofl_at (by omega)]
    exact nD_lt e0 (by omega) (by omega))
  rw [hr] at q
  refine q.mono fun e w' hh => ?_
  have hl2 : (((nrt n ds eps f).drop p).take n).length = n := by rw [List.length_take, List.length_drop, nrt_len]; omega
  obtain ⟨o, c, rfl, ho, hb⟩ := hh
  rw [hl2] at ho ⊢
  obtain ⟨g, c2, e2⟩ := row_addr ho h1
  rw [e2] at ho ⊢
  exact ⟨g, c2, rfl, ho, hb⟩
set_option maxRecDepth 100000 in
set_option maxHeartbeats 4000000 in
theorem rnorm18_no (vs vd : Value) (sh _ds : List Int) (eps f : Int) (w : World) (hs : Ld w vs sh) :
    (eps ≤ 0 → Calls Tryz.prog 8 #[.agg #[vs, vd], .int .i64 eps, .int .i64 f] w (TyN w 1 [] [])) ∧
    (0 < eps → sh.length = 0 → Calls Tryz.prog 8 #[.agg #[vs, vd], .int .i64 eps, .int .i64 f] w (TyN w 2 [] [])) := by
  obtain ⟨oS, cS, rfl, _, _⟩ := id hs
  obtain ⟨w2, hw2⟩ : ∃ w2, w2 = (w.alloc (.cells #[.slice oS sh.length cS, vd] 26)).alloc (.cells #[.slice none 0 0, .slice none 0 0] 26) := ⟨_, rfl⟩
  have B2 : Hid (Below w.heap.size w w2) := Lib.hid (by rw [hw2]; exact ((Below.refl _ _).alloc (Nat.le_refl _) _).alloc (by simp) _)
  have K0 : Hid (Blk w2 w.heap.size 26 #[.slice oS sh.length cS, vd]) := Lib.hid (by rw [hw2]; exact (Blk.new w _ _).alloc _)
  have K1 : Hid (Blk w2 (w.heap.size + 1) 26 #[.slice none 0 0, .slice none 0 0]) := Lib.hid (by rw [hw2]; exact blk_new1 w _ _ _)
  have HW := Lib.hid hw2
  clear hs
  constructor
  · intro e1
    clear hw2
    go_enter Tryz.func8, Tryz.ntmps8
    go_upto_region 1 with fail
    rw [← HW.out]
    obtain ⟨t0, t1, tf0, tf1⟩ := blk2 K1.out
    go_wp2
    refine bodyPost_ret (v := .tuple #[.agg #[.slice none 0 0, .slice none 0 0], .int .i64 1]) (by simp [results, Tryz.results8, go_sem, t0, t1]) rfl ?_
    exact ⟨none, 0, none, 0, rfl, Ld.nil _, Ld.nil _, (B2.out.setCell (p := ⟨w.heap.size + 1, 0, none⟩) (Nat.le_succ _) _).setCell (p := ⟨w.heap.size + 1, 1, none⟩) (Nat.le_succ _) _⟩
  · intro e0 h0
    have e1 : ¬ eps ≤ 0 := by omega
    have z1 : (((sh.length : Nat) : Int) == 0) = true := by rw [h0]; rfl
    clear hw2 h0
    go_enter Tryz.func8, Tryz.ntmps8
    go_upto_region 1 with fail
    rw [← HW.out]
    obtain ⟨t0, t1, tf0, tf1⟩ := blk2 K1.out
    obtain ⟨x0, x1, _⟩ := blk2 K0.out
    go_wp2
    refine bodyPost_ret (v := .tuple #[.agg #[.slice none 0 0, .slice none 0 0], .int .i64 2]) (by simp [results, Tryz.results8, go_sem, t0, t1]) rfl ?_
    exact ⟨none, 0, none, 0, rfl, Ld.nil _, Ld.nil _, (B2.out.setCell (p := ⟨w.heap.size + 1, 0, none⟩) (Nat.le_succ _) _).setCell (p := ⟨w.heap.size + 1, 1, none⟩) (Nat.le_succ _) _⟩
set_option maxRecDepth 100000 in
set_option maxHeartbeats 8000000 in
theorem rnorm18_ok (vs vd : Value) (sh ds : List Int) (eps : Int) (f n : Nat) (w : World) (hs : Ld w vs sh) (hd : Ld w vd ds) (ta : tnb sh ds = true) (we : wd eps = true) (e0 : 0 < eps) (hf : fb (f : Int) = true) (h0 : sh.length ≠ 0) (hn : sh.getD (sh.length - 1) 0 = (n : Nat)) (h24 : ds.length ≤ 24) :
    Calls Tryz.prog 8 #[.agg #[vs, vd], .int .i64 eps, .int .i64 f] w (TyN w 0 sh (nrt n ds eps f)) := by
  obtain ⟨i0, hi0, hz0, hz1, hz2⟩ := info_parts infoI64
  obtain ⟨ma, la, hwd⟩ := tnb_parts ta
  have hp := may_prod ma
  have l8 := may_len ma
  have hn1 := may_dim ma (i := sh.length - 1) (by omega)
  rw [hn] at hn1
  have hn1' : 1 ≤ n := by omega
  obtain ⟨N, hN1, hNn⟩ := rows_of h0 hn la hp.1 hn1'
  have hL1 : 1 ≤ ds.length := by
    have := Nat.mul_le_mul hN1 hn1'
    omega
  have hnL : n ≤ ds.length := by
    have : 1 * n ≤ N * n := Nat.mul_le_mul_right n hN1
    omega
  obtain ⟨oS, cS, rfl, _, _⟩ := id hs
  obtain ⟨oV, cV, rfl, hcV, _⟩ := id hd
  obtain ⟨gV, fV, hoV, _⟩ := ld_at hd (k := 0) (by omega)
  subst hoV
  obtain ⟨w2, hw2⟩ : ∃ w2, w2 = (w.alloc (.cells #[.slice oS sh.length cS, .slice (some ⟨gV, fV, none⟩) ds.length cV] 26)).alloc (.cells #[.slice none 0 0, .slice none 0 0] 26) := ⟨_, rfl⟩
  have B2 : Hid (Below w.heap.size w w2) := Lib.hid (by rw [hw2]; exact ((Below.refl _ _).alloc (Nat.le_refl _) _).alloc (by simp) _)
  have K0 : Hid (Blk w2 w.heap.size 26 #[.slice oS sh.length cS, .slice (some ⟨gV, fV, none⟩) ds.length cV]) := Lib.hid (by rw [hw2]; exact (Blk.new w _ _).alloc _)
  have K1 : Hid (Blk w2 (w.heap.size + 1) 26 #[.slice none 0 0, .slice none 0 0]) := Lib.hid (by rw [hw2]; exact blk_new1 w _ _ _)
  have KRW := Lib.hid (rows13_any (.slice oS sh.length cS) (.slice (some ⟨gV, fV, none⟩) ds.length cV) sh n w2 (hs.below B2.out) h0 (by omega) hn)
  have KCP := Lib.hid (fun (W : World) (hW : Below w.heap.size w W) => copy_any (.slice oS sh.length cS) sh W (hs.below hW) (by omega))
  have KNM : Hid (∀ (W : World) (k p : Nat), Below w.heap.size w W → p = k * n → p + n ≤ ds.length → Calls Tryz.prog 19 #[.slice (some ⟨gV, fV + p, none⟩) n (cV - p), .int .i64 eps, .int .i64 f] W fun e w' => ∃ g c, e = .returned (.tuple #[.slice (some ⟨g, 0, none⟩) n c, .int .i64 0]) ∧ w'.ownsRow W.heap.size 2 1 (.slice (some ⟨g, 0, none⟩) n c) n (ints (((nrt n ds eps f).drop p).take n)) ∧ Below W.heap.size W w') := Lib.hid (fun W k p hW h1 h2 => norm13_row (hd.below hW) hwd h1 h2 hn1' h24 e0 we hf)
  have e1 : ¬ eps ≤ 0 := by omega
  have z1 : (((sh.length : Nat) : Int) == 0) = false := by rw [beq_eq_false_iff_ne]; omega
  have HW := Lib.hid hw2
  have HSZ : Hid (w2.heap.size = w.heap.size + 2) := Lib.hid (by rw [hw2]; simp)
  obtain ⟨AN, hAN⟩ : ∃ l, l = nrt n ds eps f := ⟨_, rfl⟩
  have HAl : Hid (AN.length = ds.length) := Lib.hid (by rw [hAN]; exact nrt_len _ _ _ _)
  rw [← hAN] at KNM ⊢
  have HN := Lib.hid hNn
  have HC := Lib.hid hcV
  clear hw2 hs hd ta we e0 hf h0 hn hp hn1 ma la hwd hNn hAN hcV hN1 l8
  go_enter Tryz.func8, Tryz.ntmps8
  go_upto_region 1 with fail
  rw [← HW.out]
  obtain ⟨x0, x1, _⟩ := blk2 K0.out
  go_upto_region 6 with (go_at_call 17; (with_reducible refine KRW.out.mono ?_); rintro e w3 ⟨rfl, hb⟩; have B3 := Lib.hid hb; clear hb)
  clear x0 x1 e1 z1
  have K03 := Lib.hid (K0.out.below B3.out K0.out.lt)
  obtain ⟨x0, x1, _⟩ := blk2 K03.out
  go_upto_region 7 with (go_at_call 18; (with_reducible refine (KCP.out _ (B2.out.trans (B3.out.mono B2.out.size))).mono ?_); rintro e w3c ⟨oc, cc, rfl, _, hld, hb⟩; have B3c := Lib.hid hb; have L3c := Lib.hid hld; clear hb hld)
  obtain ⟨w4, hw4⟩ : ∃ v, v = w3c.alloc (.cells #[.slice oc sh.length cc, .slice none 0 0] 26) := ⟨_, rfl⟩
  obtain ⟨T9, hT9⟩ : ∃ T, T = w3c.heap.size := ⟨_, rfl⟩
  rw [← hw4, ← hT9]
  have B24 : Hid (Below w2.heap.size w2 w4) := Lib.hid (by rw [hw4]; exact (B3.out.trans (B3c.out.mono B3.out.size)).alloc (Nat.le_trans B3.out.size B3c.out.size) _)
  have HT9 : Hid (w2.heap.size ≤ T9) := Lib.hid (by rw [hT9]; exact Nat.le_trans B3.out.size B3c.out.size)
  have KT0 : Hid (Blk w4 T9 26 #[.slice oc sh.length cc, .slice none 0 0]) := Lib.hid (by rw [hw4, hT9]; exact Blk.new _ _ _)
  have KL : Hid (∀ W, Below T9 w4 W → Ld W (.slice oc sh.length cc) sh) := Lib.hid (fun W hW => by
    rw [hT9, hw4] at hW
    exact L3c.out.below ((al_below0 _).trans hW))
  have H4S : Hid (w4.heap.size = T9 + 1) := Lib.hid (by rw [hw4, hT9]; simp)
  clear hw4 hT9 x0 x1 B3 B3c L3c K03 KRW KCP
  have KG : Hid (∀ W, Below T9 w4 W → Below w.heap.size w W ∧ Blk W w.heap.size 26 #[.slice oS sh.length cS, .slice (some ⟨gV, fV, none⟩) ds.length cV] ∧ Blk W (w.heap.size + 1) 26 #[.slice none 0 0, .slice none 0 0]) := Lib.hid (fun W hW => by
    have u := B24.out.trans (hW.mono HT9.out)
    exact ⟨B2.out.trans (u.mono B2.out.size), K0.out.below u K0.out.lt, K1.out.below u K1.out.lt⟩)
  clear B24 K0 K1
  go_wp2
  go_loopw [10] (fun s10 wx => ∃ (k p : Nat) (us : Value), p ≤ 24 ∧ s10 = .int .i64 (p : Nat) ∧ Hid (k ≤ N ∧ p = k * n) ∧ Hid (Blk wx T9 26 #[.slice oc sh.length cc, us]) ∧ Hid (wx.ownsRow (T9 + 1) 2 1 us p (ints (AN.take p))) ∧ Hid (Below T9 w4 wx) ∧ Hid (T9 + 1 ≤ wx.heap.size)) (fun s10 _ => ds.length - (intOf s10).toNat)
  case atStart => exact ⟨0, 0, _, Nat.zero_le _, rfl, Lib.hid ⟨Nat.zero_le _, by simp⟩, KT0, Lib.hid (World.ownsRow_nil _ _ _ _), Lib.hid (Below.refl _ _), Lib.hid (by rw [H4S.out]; exact Nat.le_refl _)⟩
  case round =>
    obtain ⟨k, p, us, hp24, rfl, HKP, KT, KU, KB, KZ⟩ := hrel
    obtain ⟨w9, hw9⟩ : ∃ v, v = wr := ⟨_, rfl⟩
    rw [← hw9] at KT KU KB KZ ⊢
    clear hw9
    obtain ⟨x0, x1, _⟩ := blk2 (KG.out _ KB.out).2.1
    by_cases hlt : p < ds.length
    · as_aux_lemma =>
      obtain ⟨hk1, hpn⟩ := row_next HN.out HKP.out.2 hlt
      obtain ⟨q, hq⟩ : ∃ q, q = p + n := ⟨_, rfl⟩
      have hq24 : q ≤ 24 := by omega
      have E34 := Lib.hid (nat_wrap_add hq (by omega))
      have rp := fun (W : World) => run_part Tryz.underlying24 hi0 hz1 gV fV ds.length cV p q n hq.symm (by have := HC.out; omega) hn1' W
      have KN := Lib.hid (KNM.out w9 k p (KG.out _ KB.out).1 HKP.out.2 hpn)
      obtain ⟨R, hR⟩ : ∃ R, R = (AN.drop p).take n := ⟨_, rfl⟩
      have HRl : Hid (R.length = n) := Lib.hid (by rw [hR, List.length_take, List.length_drop, HAl.out]; omega)
      have HRa : Hid (AN.take q = AN.take p ++ R) := Lib.hid (by rw [hq, List.take_add, hR])
      have HQ := Lib.hid hq
      have HK1 := Lib.hid hk1
      have HPN := Lib.hid hpn
      have hltI : (p : Int) < (ds.length : Int) := by omega
      rw [← hR] at KN
      clear hq hR hk1 hpn KNM
      obtain ⟨e3, e4⟩ := E34.out
      go_wp2_with (first | (go_at_call 19; (with_reducible refine KN.out.mono ?_); rintro e w13 ⟨g, c, rfl, hown, hb⟩; have b13 := Lib.hid hb; have O13 := Lib.hid hown; have T13 := Lib.hid (KT.out.below b13.out KT.out.lt); have U13 := Lib.hid (Below.keepOwn KU.out b13.out (Nat.le_refl _)); have L13 := Lib.hid (own_ld O13.out HRl.out); obtain ⟨t0, t2, tf0, tf1⟩ := blk2 T13.out; clear hb hown) | (at_builtin; refine wpList_append_own _ rfl _ _ 24 rfl (T9 + 1) 2 i0 (.int .i64 0) 1 8 Tryz.underlying24 hi0 hz0 hz1 hz2 rfl (by decide) us p (ints (AN.take p)) rfl U13.out ⟨g, 0, none⟩ n c (ints R) rfl ?c0 ?c1 ?c2 ?c3 ?c4 ?c5 ?_))
      case c0 => simp [ints, HRl.out]
      case c1 => exact ints_news L13.out HRl.out
      case c2 => exact ints_one R
      case c3 => clear e3 e4; have := HPN.out; unfold maxLen; omega
      case c4 => clear e3 e4; have := HPN.out; omega
      case c5 => exact Nat.le_trans KZ.out b13.out.size
      intro u9 w8 hown1 hgrow _
      clear e3 e4
      rw [← HQ.out, show ints (AN.take p) ++ ints R = ints (AN.take q) by rw [HRa.out]; simp [ints]] at hown1
      obtain ⟨o9, c9, rfl⟩ := own_form1 hown1
      have KT9 := Lib.hid (T13.out.kept hgrow (fun e => by have := (U13.out.lt _ e.symm).1; omega))
      have KB9 := Lib.hid ((KB.out.trans (b13.out.mono (Nat.le_trans (Nat.le_succ _) KZ.out))).grown hgrow (Nat.le_trans (Nat.le_trans (Nat.le_succ _) KZ.out) b13.out.size) (fun j e => by have := (U13.out.lt j e).1; omega))
      have KU9 : Hid (w8.ownsRow (T9 + 1) 2 1 (.slice o9 q c9) q (ints (AN.take q))) := Lib.hid hown1
      have KZ9 := Lib.hid (Nat.le_trans (Nat.le_trans KZ.out b13.out.size) hgrow.size)
      obtain ⟨q0, q1, qf0, qf1⟩ := blk2 KT9.out
      clear hown1 hgrow t0 t2 tf0 tf1 x0 x1
      obtain ⟨e3, e4⟩ := E34.out
      go_wp2
      clear e3 e4
      refine ⟨⟨k + 1, q, .slice o9 q c9, hq24, rfl, Lib.hid ⟨HK1.out, ?_⟩, Lib.hid (KT9.out.set_ 1 _), Lib.hid (own_setx KU9.out KT9.out (by decide)), Lib.hid (KB9.out.setCell (p := ⟨T9, 1, none⟩) (Nat.le_refl _) _), Lib.hid (by simpa using KZ9.out)⟩, by have := HQ.out; simp [intOf]; omega⟩
      rw [HQ.out, HKP.out.2, Nat.add_mul, Nat.one_mul]
    · as_aux_lemma =>
      obtain rfl : p = ds.length := by
        have h1 := HKP.out
        have h2 := Nat.mul_le_mul_right n h1.1
        have h3 := HN.out
        omega
      have q9 := KG.out w9 KB.out
      have K00 := Lib.hid q9.2.2
      have BW := Lib.hid q9.1
      have LS9 := Lib.hid (KL.out w9 KB.out)
      have hu := KU.out
      rw [List.take_of_length_le (by rw [HAl.out]; exact Nat.le_refl _)] at hu
      obtain ⟨o5, c5, rfl⟩ := own_form1 hu
      have HU := Lib.hid hu
      obtain ⟨t0, t2, _⟩ := blk2 KT.out
      obtain ⟨r0, r1, rf0, rf1⟩ := blk2 K00.out
      clear hu q9
      go_wp2
      refine bodyPost_ret (v := .tuple #[.agg #[.slice oc sh.length cc, .slice o5 ds.length c5], .int .i64 0]) (by simp [results, Tryz.results8, go_sem, r0, r1]) rfl ?_
      have hd1 := own_ld HU.out HAl.out
      refine ⟨oc, cc, o5, c5, by rw [HAl.out], ?_, ?_, (BW.out.setCell (p := ⟨w.heap.size + 1, 0, none⟩) (Nat.le_succ _) _).setCell (p := ⟨w.heap.size + 1, 1, none⟩) (Nat.le_succ _) _⟩
      · exact ldg2 K00.out LS9.out
      · rw [HAl.out]; exact ldg2 K00.out hd1
end Go.Proofs.YtldchepfcgbpiaaGreat
namespace Go.Proofs.YtldchepfcgbpiaaGreat
open Go.ChangeShapes Go.WideShapes Go.ChangeAt Go.RowKit Go.Deep

theorem Tryz.own : ownKnob Tryz.prog.godebug = none := by kernel_rfl
theorem Tryz.laidOut : laidOutB Tryz.prog = true := by kernel_rfl
theorem s_i64 {x : Int} (h : (Lit.int .i64 x).wf = true) : -9223372036854775808 ≤ x ∧ x ≤ 9223372036854775807 := by
  simp [Lit.wf, IntKind.min, IntKind.max, IntKind.signed, IntKind.bits] at h
  exact ⟨by omega, by omega⟩
theorem cS1 : Tryz.prog.cellsOf 23 = 1 := by kernel_rfl
theorem cS2 : Tryz.prog.cellsOf 3 = 1 := by kernel_rfl
theorem cS5 : Tryz.prog.cellsOf 24 = 1 := by kernel_rfl
theorem cS6 : Tryz.prog.cellsOf 2 = 1 := by kernel_rfl
theorem cS7 : Tryz.prog.cellsOf 26 = 2 := by kernel_rfl
theorem cS8 : Tryz.prog.cellsOf 28 = 5 := by kernel_rfl
theorem bS2 : Tryz.prog.bytesOf 3 = 8 := by kernel_rfl
theorem bS6 : Tryz.prog.bytesOf 2 = 8 := by kernel_rfl
theorem reach_is : reachBytes = 140737488351232 := rfl

/-- An element: a tensor, eps, a word, fraction bits. -/
structure Qk where
  X : Value
  XD : Value
  sx : List Int
  dx : List Int
  e : Int
  z : Int
  f : Int
def Qk.ok (w : World) (e : Qk) : Prop := (Ld w e.X e.sx ∧ Ld w e.XD e.dx) ∧ (e.sx.length ≤ 17592186043904 ∧ e.dx.length ≤ 17592186043904) ∧ (-9223372036854775808 ≤ e.e ∧ e.e ≤ 9223372036854775807) ∧ (-9223372036854775808 ≤ e.z ∧ e.z ≤ 9223372036854775807) ∧ (-9223372036854775808 ≤ e.f ∧ e.f ≤ 9223372036854775807)
def QkAt (w : World) (b p : Nat) (e : Qk) : Prop := w.cell? ⟨b, p, none⟩ = some e.X ∧ w.cell? ⟨b, p + 1, none⟩ = some e.XD ∧ w.cell? ⟨b, p + 2, none⟩ = some (.int .i64 e.e) ∧ w.cell? ⟨b, p + 3, none⟩ = some (.int .i64 e.z) ∧ w.cell? ⟨b, p + 4, none⟩ = some (.int .i64 e.f)
theorem QkAt.below {w W : World} {b p : Nat} {e : Qk} (h : QkAt w b p e) (hB : Below w.heap.size w W) (hb : b < w.heap.size) : QkAt W b p e := by
  obtain ⟨h0, h1, h2, h3, h4⟩ := h
  have k : ∀ (i : Nat) (v : Value), w.cell? ⟨b, i, none⟩ = some v → W.cell? ⟨b, i, none⟩ = some v := fun i v hh => (hB.cell (p := ⟨b, i, none⟩) hb).trans hh
  exact ⟨k _ _ h0, k _ _ h1, k _ _ h2, k _ _ h3, k _ _ h4⟩

/-- All that it weighs is within reach. -/
def Lite {H : Type} (t : TypeId) (d : DataW H) : Prop := ∀ n ∈ d.weights Tryz.prog t, n ≤ reachBytes
theorem lite_all {H : Type} {e : TypeId} : ∀ {l : List (DataW H)} {d : DataW H}, d ∈ l → ∀ n ∈ d.weights Tryz.prog e, n ∈ DataW.weightsAll Tryz.prog e l
  | d' :: r, d, hd, n, hn => by
    simp only [DataW.weightsAll, List.mem_append]
    rcases List.mem_cons.1 hd with rfl | h
    · exact .inl hn
    · exact .inr (lite_all h n hn)
theorem lite_in {H : Type} {t e : TypeId} {elems spare : List (DataW H)} {d : DataW H} (hu : Tryz.prog.underlying t = some (.slice e)) (h : Lite t (.slice elems spare)) (hd : d ∈ elems) : Lite e d := fun n hn =>
  h n (by simp only [DataW.weights, hu, List.mem_cons, List.mem_append]; exact .inr (.inl (lite_all hd n hn)))
theorem lite_len {H : Type} {t e : TypeId} {elems spare : List (DataW H)} (hu : Tryz.prog.underlying t = some (.slice e)) (hb : Tryz.prog.bytesOf e = 8) (h : Lite t (.slice elems spare)) : elems.length ≤ 17592186043904 := by
  have := h ((elems.length + spare.length) * Tryz.prog.bytesOf e) (by simp [DataW.weights, hu])
  rw [hb, reach_is] at this
  omega
theorem lite_part {H : Type} {t : TypeId} {fs : Array Field} {parts : List (DataW H)} {j : Nat} {d : DataW H} {u : TypeId} (hu : Tryz.prog.underlying t = some (.struct fs)) (h : Lite t (.agg parts)) (hj : (fs.toList.map (·.type))[j]? = some u) (hd : parts[j]? = some d) : Lite u d := fun n hn =>
  h n (by simp only [DataW.weights, hu]; exact DataW.weights_mem_each hj hd n hn)

section
variable {H : Type} {enc : TypeId × Value → H} {w : World} {base : Nat} {spare : Nat → Bool} {held : Bool}
set_option maxRecDepth 100000 in
theorem open_nums {t e : TypeId} {fuel : Nat} {v : Value} {x : DataW H × List MemPlace} (hu : Tryz.prog.underlying t = some (.slice e)) (hc : Tryz.prog.cellsOf e = 1) (hb : Tryz.prog.bytesOf e = 8) (hi : Tryz.prog.underlying e = some (.int .i64))
    (h : DataW.trod enc Tryz.prog w base spare held fuel t [v] = some x) (hz : Lite t x.1) : ∃ ls, Ld w v ls ∧ ls.length ≤ 17592186043904 := by
  rcases open_slice1 hu hc h with ⟨hcs, _⟩ | ⟨a, len, cap, m, n, V, D, Pl, hcs, _, hl, hm, hmm, hx, hia⟩
  · simp only [List.cons.injEq, and_true] at hcs
    subst hcs
    exact ⟨[], Ld.nil w, by simp⟩
  · simp only [List.cons.injEq, and_true] at hcs
    subst hcs
    have hle : len ≤ m := by rw [hmm]; split <;> omega
    have hlen2 : len ≤ 17592186043904 := by
      rw [hx] at hz
      have := lite_len hu hb hz
      simpa using this
    have hall : ∀ i, i < len → ∃ y : Int, w.cell? (a.add i) = some (.int .i64 y) := by
      intro i hik
      obtain ⟨hc, ht⟩ := hia i (by omega)
      obtain ⟨y, e0, _, _⟩ := DataW.trod_int hi ht
      simp only [List.cons.injEq, and_true] at e0
      exact ⟨y, by rw [hc, e0]⟩
    let ys : Nat → Int := fun i => if h : i < len then (hall i h).choose else 0
    have hys : ∀ i, i < len → w.cell? (a.add i) = some (.int .i64 (ys i)) := by
      intro i hik
      have := (hall i hik).choose_spec
      simp only [ys, dif_pos hik]
      exact this
    have hlen : ((List.range len).map ys).length = len := by simp
    refine ⟨(List.range len).map ys, ⟨some a, cap, by rw [hlen], by rw [hlen]; exact hl, fun i hi2 => ?_⟩, by rw [hlen]; exact hlen2⟩
    rw [hlen] at hi2
    obtain ⟨b, off, spot⟩ := a
    have hc := hys i hi2
    have hspot : spot = none := by simpa [Addr.add] using World.cell?_spot (hys 0 (by omega))
    subst hspot
    rw [Go.WideShapes.add_plain] at hc
    have hg : ((List.range len).map ys).getD i 0 = ys i := by simp [List.getD, hi2]
    exact ⟨b, off, rfl, World.block_lt_of_cell? w _ hc, by rw [hg]; exact hc⟩

set_option maxRecDepth 100000 in
theorem open_tens {fuel : Nat} {v0 v1 : Value} {x : DataW H × List MemPlace} (h : DataW.trod enc Tryz.prog w base spare held fuel 26 [v0, v1] = some x) (hz : Lite 26 x.1) :
    ∃ ts tds, Ld w v0 ts ∧ Ld w v1 tds ∧ ts.length ≤ 17592186043904 ∧ tds.length ≤ 17592186043904 := by
  obtain ⟨xs, n, _, hx, _, hxl, hf⟩ := DataW.trod_struct Tryz.underlying26 h
  have hxl2 : xs.length = 2 := hxl
  match xs, hxl2 with
  | [x0, x1], _ =>
    have h0 : DataW.trod enc Tryz.prog w base spare held n 23 ((([v0, v1] : List Value).drop 0).take (Tryz.prog.cellsOf 23)) = some x0 := hf 0 _ rfl
    have h1 : DataW.trod enc Tryz.prog w base spare held n 24 ((([v0, v1] : List Value).drop 1).take (Tryz.prog.cellsOf 24)) = some x1 := hf 1 _ rfl
    simp only [cS1, cS5, List.drop_zero, List.drop_succ_cons, List.take_succ_cons, List.take_zero] at h0 h1
    rw [hx] at hz
    obtain ⟨s, hs, ls⟩ := open_nums Tryz.underlying23 cS2 bS2 Tryz.underlying3 h0 (lite_part (j := 0) Tryz.underlying26 hz rfl rfl)
    obtain ⟨t, ht, lt⟩ := open_nums Tryz.underlying24 cS6 bS6 Tryz.underlying2 h1 (lite_part (j := 1) Tryz.underlying26 hz rfl rfl)
    exact ⟨s, t, hs, ht, ls, lt⟩
set_option maxRecDepth 100000 in
set_option maxHeartbeats 2000000 in
theorem open_qk {fuel : Nat} {cs : List Value} {x : DataW H × List MemPlace} (h : DataW.trod enc Tryz.prog w base spare held fuel 28 cs = some x) (hz : Lite 28 x.1) :
    ∃ e : Qk, e.ok w ∧ cs = [e.X, e.XD, .int .i64 e.e, .int .i64 e.z, .int .i64 e.f] := by
  obtain ⟨xs, n, _, hx, hl, hxl, hf⟩ := DataW.trod_struct Tryz.underlying28 h
  rw [cS8] at hl
  match cs, hl with
  | [v0, v1, v2, v3, v4], _ =>
    have hxl2 : xs.length = 4 := hxl
    match xs, hxl2 with
    | [x0, x1, x2, x3], _ =>
      have h0 : DataW.trod enc Tryz.prog w base spare held n 26 ((([v0, v1, v2, v3, v4] : List Value).drop 0).take (Tryz.prog.cellsOf 26)) = some x0 := hf 0 _ rfl
      have h1 : DataW.trod enc Tryz.prog w base spare held n 2 ((([v0, v1, v2, v3, v4] : List Value).drop 2).take (Tryz.prog.cellsOf 2)) = some x1 := hf 1 _ rfl
      have h2 : DataW.trod enc Tryz.prog w base spare held n 2 ((([v0, v1, v2, v3, v4] : List Value).drop 3).take (Tryz.prog.cellsOf 2)) = some x2 := hf 2 _ rfl
      have h3 : DataW.trod enc Tryz.prog w base spare held n 3 ((([v0, v1, v2, v3, v4] : List Value).drop 4).take (Tryz.prog.cellsOf 3)) = some x3 := hf 3 _ rfl
      simp only [cS2, cS6, cS7, List.drop_zero, List.drop_succ_cons, List.take_succ_cons, List.take_zero] at h0 h1 h2 h3
      rw [hx] at hz
      have q := fun (j : Nat) (u : TypeId) (d : DataW H) => lite_part (j := j) (u := u) (d := d) Tryz.underlying28 hz
      obtain ⟨sa, da, a0, a1, l0, l1⟩ := open_tens h0 (q 0 _ _ rfl rfl)
      obtain ⟨a, ea, _, wa⟩ := DataW.trod_int Tryz.underlying2 h1
      obtain ⟨b, eb, _, wb⟩ := DataW.trod_int Tryz.underlying2 h2
      obtain ⟨c, ec, _, wc⟩ := DataW.trod_int Tryz.underlying3 h3
      simp only [List.cons.injEq, and_true] at ea eb ec
      subst ea eb ec
      exact ⟨⟨v0, v1, sa, da, a, b, c⟩, ⟨⟨a0, a1⟩, ⟨l0, l1⟩, s_i64 wa, s_i64 wb, s_i64 wc⟩, rfl⟩

set_option maxRecDepth 100000 in
set_option maxHeartbeats 2000000 in
/-- The list: nil or empty, or its elements' cells. -/
theorem open_qks {fuel : Nat} {v : Value} {x : DataW H × List MemPlace} (h : DataW.trod enc Tryz.prog w base spare held fuel 22 [v] = some x) (hz : Lite 22 x.1) :
    (∃ o cap, v = .slice o 0 cap) ∨ ∃ (b off len cap : Nat) (es : Nat → Qk), v = .slice (some ⟨b, off, none⟩) len cap ∧ len ≤ 9223372036854775807 ∧ b < w.heap.size ∧
      (∀ i, i < len → QkAt w b (off + i * 5) (es i)) ∧ (∀ i, i < len → (es i).ok w) := by
  rcases open_slice Tryz.underlying22 h with ⟨hcs, _⟩ | ⟨a, len, cap, m, n, D, Pl, hcs, _, hl, hm, hmm, hx, hi⟩
  · left
    simp only [List.cons.injEq, and_true] at hcs
    exact ⟨_, _, hcs⟩
  · simp only [List.cons.injEq, and_true] at hcs
    subst hcs
    by_cases h0 : len = 0
    · subst h0; exact .inl ⟨_, _, rfl⟩
    right
    have hle : len ≤ m := by rw [hmm]; split <;> omega
    rw [cS8] at hi
    rw [hx] at hz
    have hall : ∀ i, i < len → ∃ e : Qk, e.ok w ∧ ∀ j, j < 5 → w.cell? ((a.add (i * 5)).add j) = ([e.X, e.XD, .int .i64 e.e, .int .i64 e.z, .int .i64 e.f] : List Value)[j]? := by
      intro i hik
      obtain ⟨cs', hc, ht⟩ := hi i (by omega)
      obtain ⟨e, he, rfl⟩ := open_qk ht (lite_in Tryz.underlying22 hz (List.mem_map.2 ⟨i, List.mem_range.2 hik, rfl⟩))
      exact ⟨e, he, (World.cells?_some hc).2.2⟩
    let es : Nat → Qk := fun i => if h : i < len then (hall i h).choose else ⟨.bool false, .bool false, [], [], 0, 0, 0⟩
    have hes : ∀ i, i < len → (es i).ok w ∧ ∀ j, j < 5 → w.cell? ((a.add (i * 5)).add j) = ([(es i).X, (es i).XD, .int .i64 (es i).e, .int .i64 (es i).z, .int .i64 (es i).f] : List Value)[j]? := by
      intro i hik
      have := (hall i hik).choose_spec
      simp only [es, dif_pos hik]
      exact this
    obtain ⟨b, off, spot⟩ := a
    have hspot : spot = none := by
      have := (hes 0 (by omega)).2 0 (by decide)
      simpa [Addr.add] using World.cell?_spot this
    subst hspot
    have cell : ∀ i, i < len → ∀ j, j < 5 → w.cell? ⟨b, off + i * 5 + j, none⟩ = ([(es i).X, (es i).XD, .int .i64 (es i).e, .int .i64 (es i).z, .int .i64 (es i).f] : List Value)[j]? := by
      intro i hik j hj
      rw [← (hes i hik).2 j hj, Go.WideShapes.add_plain, Go.WideShapes.add_plain]
    refine ⟨b, off, len, cap, es, rfl, by unfold maxLen at hm; omega, ?_, fun i hik => ?_, fun i hik => (hes i hik).1⟩
    · exact World.block_lt_of_cell? w _ (by have := cell 0 (by omega) 0 (by decide); simpa using this)
    · exact ⟨cell i hik 0 (by decide), cell i hik 1 (by decide), cell i hik 2 (by decide), cell i hik 3 (by decide), cell i hik 4 (by decide)⟩
end
end Go.Proofs.YtldchepfcgbpiaaGreat
namespace Go.Proofs.YtldchepfcgbpiaaGreat
open Go.RowKit Go.Shelf

set_option maxRecDepth 100000 in
set_option maxHeartbeats 8000000 in
theorem rmay8_any (vp vr : Value) (ts tds : List Int) (w : World) (hp : Ld w vp ts) (hr : Ld w vr tds) (lp : ts.length ≤ 1073741824) (lr : tds.length ≤ 17592186044416) :
    Calls Tryz.prog 5 #[.agg #[vp, vr]] w fun e w' => e = .returned (.bool (tnb ts tds)) ∧ Below w.heap.size w w' := by
  have B0 := Lib.hid ((Below.refl w.heap.size w).alloc (Nat.le_refl _) (.cells #[vp, vr] 26))
  have BD : Hid (Below w.heap.size w (w.alloc (.cells #[vp, vr] 26)).drew) := below_drw B0.out 1
  have KM := Lib.hid (fun (W : World) (hW : Below w.heap.size w W) => rmay_any vp ts W (hp.below hW) lp)
  have KD := Lib.hid (fun (W : World) (hW : Below w.heap.size w W) => words_any vr tds W (hr.below hW) (by omega))
  have KC := Lib.hid (fun (hm : may ts = true) (W : World) (hW : Below w.heap.size w W) => (rct_may hm ▸ rcount_any vp ts W (hp.below hW) (may_dms hm) lp : Calls Tryz.prog 15 #[vp] W fun e w' => e = .returned (.int .i64 (prod ts)) ∧ W = w'))
  obtain ⟨op, cp, rfl, _, _⟩ := hp
  obtain ⟨od, cd, rfl, _, _⟩ := hr
  obtain ⟨x0, x1, _⟩ := blk2 (show Blk (w.alloc (.cells #[.slice op ts.length cp, .slice od tds.length cd] 26)).drew w.heap.size 26 _ from Blk.new w _ _)
  cases hm : may ts with
  | false =>
    have E : Hid (tnb ts tds = false) := by unfold tnb; rw [hm]; exact Lib.hid (by simp)
    rw [hm] at KM
    clear hm KC
    go_enter Tryz.func5, Tryz.ntmps5
    go_wp2
    refine wp_region_held_drew (S := (fun W => W.cell? ⟨w.heap.size, 0, none⟩ = some (.slice op ts.length cp) ∧ W.cell? ⟨w.heap.size, 1, none⟩ = some (.slice od tds.length cd))) (by kernel_rfl) ?_ (fun hHeld => ?_)
    · exact ⟨x0, x1⟩
    have hHd := hHeld
    (refine wpAnyH_take (i := 0) (oi := ⟨some 3, _, _, _, _, _⟩) (v := ?v0a) rfl (by kernel_rfl) (by kernel_rfl) (by kernel_rfl) (fun _ _ _ h => h) (Or.inl ⟨by rfl, ?hy0a⟩) (by assumption) ?rest0a; (case hy0a => ((intro w hSw); (try dsimp only at hSw); go_simp; first | done | (with_reducible rfl) | (rw [b1]))))
    (try simp only [Act.put, List.setIfInBounds_toArray, List.set_cons_zero, List.set_cons_succ])
    (refine wpAnyH_take (i := 1) (oi := ⟨some 4, _, _, _, _, _⟩) (v := ?v1a) rfl (by kernel_rfl) (by kernel_rfl) (by kernel_rfl) (fun _ _ _ h => h) (Or.inl ⟨by rfl, ?hy1a⟩) (by assumption) ?rest1a; (case hy1a => ((intro w hSw); (try dsimp only at hSw); go_simp; first | done | (with_reducible rfl) | (rw [b1]))))
    (try simp only [Act.put, List.setIfInBounds_toArray, List.set_cons_zero, List.set_cons_succ])
    refine wpAnyH_ready (rs := [2]) (by kernel_rfl) (by simp) ?_
    refine AllReadyH.cons (o := ⟨some 5, _, _, _, _, _⟩) rfl (fun K hK => ?_) AllReadyH.nil
    go_simp
    (go_at_call 14; (with_reducible refine (KM.out _ BD.out).mono ?_); rintro e w' ⟨rfl, rfl⟩)
    refine hK.out _ _ ?_ (fun hHeld => ?_)
    · (try dsimp only)
      assumption
    clear hK K
    (try simp only [Act.put, List.setIfInBounds_toArray, List.set_cons_zero, List.set_cons_succ])
    (refine wpAnyH_take (i := 3) (oi := ⟨some 6, _, _, _, _, _⟩) (v := ?v3a) rfl (by kernel_rfl) (by kernel_rfl) (by kernel_rfl) (fun _ _ _ h => h) (Or.inl ⟨by rfl, ?hy3a⟩) (by assumption) ?rest3a; (case hy3a => ((intro w hSw); (try dsimp only at hSw); go_simp; first | done | (with_reducible rfl) | (rw [b1]))))
    (try simp only [Act.put, List.setIfInBounds_toArray, List.set_cons_zero, List.set_cons_succ])
    (refine wpAnyH_take (i := 4) (oi := ⟨some 7, _, _, _, _, _⟩) (v := _) rfl (by kernel_rfl) (by kernel_rfl) (by kernel_rfl) (fun _ _ _ h => h) (Or.inr ⟨by rfl, rfl⟩) (by assumption) ?_)
    (try simp only [Act.put, List.setIfInBounds_toArray, List.set_cons_zero, List.set_cons_succ])
    (refine wpAnyH_take (i := 5) (oi := ⟨some 8, _, _, _, _, _⟩) (v := _) rfl (by kernel_rfl) (by kernel_rfl) (by kernel_rfl) (fun _ _ _ h => h) (Or.inr ⟨by rfl, rfl⟩) (by assumption) ?_)
    (try simp only [Act.put, List.setIfInBounds_toArray, List.set_cons_zero, List.set_cons_succ])
    (refine wpAnyH_take (i := 6) (oi := ⟨some 9, _, _, _, _, _⟩) (v := _) rfl (by kernel_rfl) (by kernel_rfl) (by kernel_rfl) (fun _ _ _ h => h) (Or.inr ⟨by rfl, rfl⟩) (by assumption) ?_)
    (try simp only [Act.put, List.setIfInBounds_toArray, List.set_cons_zero, List.set_cons_succ])
    (refine wpAnyH_take (i := 7) (oi := ⟨some 10, _, _, _, _, _⟩) (v := _) rfl (by kernel_rfl) (by kernel_rfl) (by kernel_rfl) (fun _ _ _ h => h) (Or.inr ⟨by rfl, rfl⟩) (by assumption) ?_)
    (try simp only [Act.put, List.setIfInBounds_toArray, List.set_cons_zero, List.set_cons_succ])
    (refine wpAnyH_take (i := 8) (oi := ⟨some 11, _, _, _, _, _⟩) (v := _) rfl (by kernel_rfl) (by kernel_rfl) (by kernel_rfl) (fun _ _ _ h => h) (Or.inr ⟨by rfl, rfl⟩) (by assumption) ?_)
    (try simp only [Act.put, List.setIfInBounds_toArray, List.set_cons_zero, List.set_cons_succ])
    (refine wpAnyH_take (i := 9) (oi := ⟨some 12, _, _, _, _, _⟩) (v := _) rfl (by kernel_rfl) (by kernel_rfl) (by kernel_rfl) (fun _ _ _ h => h) (Or.inr ⟨by rfl, rfl⟩) (by assumption) ?_)
    (try simp only [Act.put, List.setIfInBounds_toArray, List.set_cons_zero, List.set_cons_succ])
    (refine wpAnyH_take (i := 10) (oi := ⟨some 13, _, _, _, _, _⟩) (v := _) rfl (by kernel_rfl) (by kernel_rfl) (by kernel_rfl) (fun _ _ _ h => h) (Or.inr ⟨by rfl, rfl⟩) (by assumption) ?_)
    (try simp only [Act.put, List.setIfInBounds_toArray, List.set_cons_zero, List.set_cons_succ])
    (refine wpAnyH_take (i := 11) (oi := ⟨some 14, _, _, _, _, _⟩) (v := ?v11a) rfl (by kernel_rfl) (by kernel_rfl) (by kernel_rfl) (fun _ _ _ h => h) (Or.inl ⟨by rfl, ?hy11a⟩) (by assumption) ?rest11a; (case hy11a => ((intro w hSw); (try dsimp only at hSw); go_simp; first | done | (with_reducible rfl) | (rw [b1]))))
    (try simp only [Act.put, List.setIfInBounds_toArray, List.set_cons_zero, List.set_cons_succ])
    (refine wpAnyH_take (i := 12) (oi := ⟨some 15, _, _, _, _, _⟩) (v := ?v12a) rfl (by kernel_rfl) (by kernel_rfl) (by kernel_rfl) (fun _ _ _ h => h) (Or.inl ⟨by rfl, ?hy12a⟩) (by assumption) ?rest12a; (case hy12a => ((intro w hSw); (try dsimp only at hSw); go_simp; first | done | (with_reducible rfl) | (rw [b1]))))
    (try simp only [Act.put, List.setIfInBounds_toArray, List.set_cons_zero, List.set_cons_succ])
    (refine wpAnyH_take (i := 13) (oi := ⟨some 16, _, _, _, _, _⟩) (v := _) rfl (by kernel_rfl) (by kernel_rfl) (by kernel_rfl) (fun _ _ _ h => h) (Or.inr ⟨by rfl, rfl⟩) (by assumption) ?_)
    (try simp only [Act.put, List.setIfInBounds_toArray, List.set_cons_zero, List.set_cons_succ])
    (refine wpAnyH_take (i := 14) (oi := ⟨some 17, _, _, _, _, _⟩) (v := _) rfl (by kernel_rfl) (by kernel_rfl) (by kernel_rfl) (fun _ _ _ h => h) (Or.inr ⟨by rfl, rfl⟩) (by assumption) ?_)
    (try simp only [Act.put, List.setIfInBounds_toArray, List.set_cons_zero, List.set_cons_succ])
    (refine wpAnyH_take (i := 15) (oi := ⟨some 18, _, _, _, _, _⟩) (v := _) rfl (by kernel_rfl) (by kernel_rfl) (by kernel_rfl) (fun _ _ _ h => h) (Or.inr ⟨by rfl, rfl⟩) (by assumption) ?_)
    (try simp only [Act.put, List.setIfInBounds_toArray, List.set_cons_zero, List.set_cons_succ])
    (refine wpAnyH_take (i := 16) (oi := ⟨some 19, _, _, _, _, _⟩) (v := ?v16a) rfl (by kernel_rfl) (by kernel_rfl) (by kernel_rfl) (fun _ _ _ h => h) (Or.inl ⟨by rfl, ?hy16a⟩) (by assumption) ?rest16a; (case hy16a => ((intro w hSw); (try dsimp only at hSw); go_simp; first | done | (with_reducible rfl) | (rw [b1]))))
    (try simp only [Act.put, List.setIfInBounds_toArray, List.set_cons_zero, List.set_cons_succ])
    (refine wpAnyH_take (i := 17) (oi := ⟨some 2, _, _, _, _, _⟩) (v := ?v17a) rfl (by kernel_rfl) (by kernel_rfl) (by kernel_rfl) (fun _ _ _ h => h) (Or.inl ⟨by rfl, ?hy17a⟩) (by assumption) ?rest17a; (case hy17a => ((intro w hSw); (try dsimp only at hSw); go_simp; first | done | (with_reducible rfl) | (rw [b1]))))
    (try simp only [Act.put, List.setIfInBounds_toArray, List.set_cons_zero, List.set_cons_succ])
    refine wpAnyH_done (by kernel_rfl) ?_ _
    go_wp2
    go_ret
    exact ⟨by rw [E.out]; rfl, BD.out⟩
  | true =>
    have KC2 := Lib.hid (KC.out hm)
    have E0 : Hid (tnb ts tds = (decide ((tds.length : Int) = prod ts) && wds tds)) := by unfold tnb; rw [hm]; exact Lib.hid (by simp)
    rw [hm] at KM
    clear hm KC
    generalize prod ts = n at *
    by_cases q : (tds.length : Int) = n
    · have b1 : ((tds.length : Int) == n) = true := by simpa using q
      have E : Hid (tnb ts tds = wds tds) := by rw [Hid, E0.out, decide_eq_true q, Bool.true_and]
      clear q E0
      go_enter Tryz.func5, Tryz.ntmps5
      go_wp2
      refine wp_region_held_drew (S := (fun W => W.cell? ⟨w.heap.size, 0, none⟩ = some (.slice op ts.length cp) ∧ W.cell? ⟨w.heap.size, 1, none⟩ = some (.slice od tds.length cd))) (by kernel_rfl) ?_ (fun hHeld => ?_)
      · exact ⟨x0, x1⟩
      have hHd := hHeld
      (refine wpAnyH_take (i := 0) (oi := ⟨some 3, _, _, _, _, _⟩) (v := ?v0b) rfl (by kernel_rfl) (by kernel_rfl) (by kernel_rfl) (fun _ _ _ h => h) (Or.inl ⟨by rfl, ?hy0b⟩) (by assumption) ?rest0b; (case hy0b => ((intro w hSw); (try dsimp only at hSw); go_simp; first | done | (with_reducible rfl) | (rw [b1]))))
      (try simp only [Act.put, List.setIfInBounds_toArray, List.set_cons_zero, List.set_cons_succ])
      (refine wpAnyH_take (i := 1) (oi := ⟨some 4, _, _, _, _, _⟩) (v := ?v1b) rfl (by kernel_rfl) (by kernel_rfl) (by kernel_rfl) (fun _ _ _ h => h) (Or.inl ⟨by rfl, ?hy1b⟩) (by assumption) ?rest1b; (case hy1b => ((intro w hSw); (try dsimp only at hSw); go_simp; first | done | (with_reducible rfl) | (rw [b1]))))
      (try simp only [Act.put, List.setIfInBounds_toArray, List.set_cons_zero, List.set_cons_succ])
      refine wpAnyH_ready (rs := [2]) (by kernel_rfl) (by simp) ?_
      refine AllReadyH.cons (o := ⟨some 5, _, _, _, _, _⟩) rfl (fun K hK => ?_) AllReadyH.nil
      go_simp
      (go_at_call 14; (with_reducible refine (KM.out _ BD.out).mono ?_); rintro e w' ⟨rfl, rfl⟩)
      refine hK.out _ _ ?_ (fun hHeld => ?_)
      · (try dsimp only)
        assumption
      clear hK K
      (try simp only [Act.put, List.setIfInBounds_toArray, List.set_cons_zero, List.set_cons_succ])
      (refine wpAnyH_take (i := 3) (oi := ⟨some 6, _, _, _, _, _⟩) (v := ?v3b) rfl (by kernel_rfl) (by kernel_rfl) (by kernel_rfl) (fun _ _ _ h => h) (Or.inl ⟨by rfl, ?hy3b⟩) (by assumption) ?rest3b; (case hy3b => ((intro w hSw); (try dsimp only at hSw); go_simp; first | done | (with_reducible rfl) | (rw [b1]))))
      (try simp only [Act.put, List.setIfInBounds_toArray, List.set_cons_zero, List.set_cons_succ])
      (refine wpAnyH_take (i := 4) (oi := ⟨some 7, _, _, _, _, _⟩) (v := ?v4b) rfl (by kernel_rfl) (by kernel_rfl) (by kernel_rfl) (fun _ _ _ h => h) (Or.inl ⟨by rfl, ?hy4b⟩) (by assumption) ?rest4b; (case hy4b => ((intro w hSw); (try dsimp only at hSw); go_simp; first | done | (with_reducible rfl) | (rw [b1]))))
      (try simp only [Act.put, List.setIfInBounds_toArray, List.set_cons_zero, List.set_cons_succ])
      (refine wpAnyH_take (i := 5) (oi := ⟨some 8, _, _, _, _, _⟩) (v := ?v5b) rfl (by kernel_rfl) (by kernel_rfl) (by kernel_rfl) (fun _ _ _ h => h) (Or.inl ⟨by rfl, ?hy5b⟩) (by assumption) ?rest5b; (case hy5b => ((intro w hSw); (try dsimp only at hSw); go_simp; first | done | (with_reducible rfl) | (rw [b1]))))
      (try simp only [Act.put, List.setIfInBounds_toArray, List.set_cons_zero, List.set_cons_succ])
      (refine wpAnyH_take (i := 6) (oi := ⟨some 9, _, _, _, _, _⟩) (v := ?v6b) rfl (by kernel_rfl) (by kernel_rfl) (by kernel_rfl) (fun _ _ _ h => h) (Or.inl ⟨by rfl, ?hy6b⟩) (by assumption) ?rest6b; (case hy6b => ((intro w hSw); (try dsimp only at hSw); go_simp; first | done | (with_reducible rfl) | (rw [b1]))))
      (try simp only [Act.put, List.setIfInBounds_toArray, List.set_cons_zero, List.set_cons_succ])
      (refine wpAnyH_take (i := 7) (oi := ⟨some 10, _, _, _, _, _⟩) (v := ?v7b) rfl (by kernel_rfl) (by kernel_rfl) (by kernel_rfl) (fun _ _ _ h => h) (Or.inl ⟨by rfl, ?hy7b⟩) (by assumption) ?rest7b; (case hy7b => ((intro w hSw); (try dsimp only at hSw); go_simp; first | done | (with_reducible rfl) | (rw [b1]))))
      (try simp only [Act.put, List.setIfInBounds_toArray, List.set_cons_zero, List.set_cons_succ])
      (refine wpAnyH_take (i := 8) (oi := ⟨some 11, _, _, _, _, _⟩) (v := ?v8b) rfl (by kernel_rfl) (by kernel_rfl) (by kernel_rfl) (fun _ _ _ h => h) (Or.inl ⟨by rfl, ?hy8b⟩) (by assumption) ?rest8b; (case hy8b => ((intro w hSw); (try dsimp only at hSw); go_simp; first | done | (with_reducible rfl) | (rw [b1]))))
      (try simp only [Act.put, List.setIfInBounds_toArray, List.set_cons_zero, List.set_cons_succ])
      refine wpAnyH_ready (rs := [9]) (by kernel_rfl) (by simp) ?_
      refine AllReadyH.cons (o := ⟨some 12, _, _, _, _, _⟩) rfl (fun K hK => ?_) AllReadyH.nil
      go_simp
      (go_at_call 15; (with_reducible refine (KC2.out _ BD.out).mono ?_); rintro e w' ⟨rfl, rfl⟩)
      refine hK.out _ _ ?_ (fun hHeld => ?_)
      · (try dsimp only)
        assumption
      clear hK K
      (try simp only [Act.put, List.setIfInBounds_toArray, List.set_cons_zero, List.set_cons_succ])
      (refine wpAnyH_take (i := 10) (oi := ⟨some 13, _, _, _, _, _⟩) (v := .bool true) rfl (by kernel_rfl) (by kernel_rfl) (by kernel_rfl) (fun _ _ _ h => h) (Or.inl ⟨by rfl, ?hy10b⟩) (by assumption) ?rest10b; (case hy10b => ((intro w hSw); (try dsimp only at hSw); go_simp; first | done | (with_reducible rfl) | (rw [b1]))))
      (try simp only [Act.put, List.setIfInBounds_toArray, List.set_cons_zero, List.set_cons_succ])
      (refine wpAnyH_take (i := 11) (oi := ⟨some 14, _, _, _, _, _⟩) (v := ?v11b) rfl (by kernel_rfl) (by kernel_rfl) (by kernel_rfl) (fun _ _ _ h => h) (Or.inl ⟨by rfl, ?hy11b⟩) (by assumption) ?rest11b; (case hy11b => ((intro w hSw); (try dsimp only at hSw); go_simp; first | done | (with_reducible rfl) | (rw [b1]))))
      (try simp only [Act.put, List.setIfInBounds_toArray, List.set_cons_zero, List.set_cons_succ])
      (refine wpAnyH_take (i := 12) (oi := ⟨some 15, _, _, _, _, _⟩) (v := ?v12b) rfl (by kernel_rfl) (by kernel_rfl) (by kernel_rfl) (fun _ _ _ h => h) (Or.inl ⟨by rfl, ?hy12b⟩) (by assumption) ?rest12b; (case hy12b => ((intro w hSw); (try dsimp only at hSw); go_simp; first | done | (with_reducible rfl) | (rw [b1]))))
      (try simp only [Act.put, List.setIfInBounds_toArray, List.set_cons_zero, List.set_cons_succ])
      (refine wpAnyH_take (i := 13) (oi := ⟨some 16, _, _, _, _, _⟩) (v := ?v13b) rfl (by kernel_rfl) (by kernel_rfl) (by kernel_rfl) (fun _ _ _ h => h) (Or.inl ⟨by rfl, ?hy13b⟩) (by assumption) ?rest13b; (case hy13b => ((intro w hSw); (try dsimp only at hSw); go_simp; first | done | (with_reducible rfl) | (rw [b1]))))
      (try simp only [Act.put, List.setIfInBounds_toArray, List.set_cons_zero, List.set_cons_succ])
      (refine wpAnyH_take (i := 14) (oi := ⟨some 17, _, _, _, _, _⟩) (v := ?v14b) rfl (by kernel_rfl) (by kernel_rfl) (by kernel_rfl) (fun _ _ _ h => h) (Or.inl ⟨by rfl, ?hy14b⟩) (by assumption) ?rest14b; (case hy14b => ((intro w hSw); (try dsimp only at hSw); go_simp; first | done | (with_reducible rfl) | (rw [b1]))))
      (try simp only [Act.put, List.setIfInBounds_toArray, List.set_cons_zero, List.set_cons_succ])
      refine wpAnyH_ready (rs := [15]) (by kernel_rfl) (by simp) ?_
      refine AllReadyH.cons (o := ⟨some 18, _, _, _, _, _⟩) rfl (fun K hK => ?_) AllReadyH.nil
      go_simp
      (go_at_call 16; (with_reducible refine (KD.out _ BD.out).mono ?_); rintro e w' ⟨rfl, rfl⟩)
      refine hK.out _ _ ?_ (fun hHeld => ?_)
      · (try dsimp only)
        assumption
      clear hK K
      (try simp only [Act.put, List.setIfInBounds_toArray, List.set_cons_zero, List.set_cons_succ])
      (refine wpAnyH_take (i := 16) (oi := ⟨some 19, _, _, _, _, _⟩) (v := ?v16b) rfl (by kernel_rfl) (by kernel_rfl) (by kernel_rfl) (fun _ _ _ h => h) (Or.inl ⟨by rfl, ?hy16b⟩) (by assumption) ?rest16b; (case hy16b => ((intro w hSw); (try dsimp only at hSw); go_simp; first | done | (with_reducible rfl) | (rw [b1]))))
      (try simp only [Act.put, List.setIfInBounds_toArray, List.set_cons_zero, List.set_cons_succ])
      (refine wpAnyH_take (i := 17) (oi := ⟨some 2, _, _, _, _, _⟩) (v := ?v17b) rfl (by kernel_rfl) (by kernel_rfl) (by kernel_rfl) (fun _ _ _ h => h) (Or.inl ⟨by rfl, ?hy17b⟩) (by assumption) ?rest17b; (case hy17b => ((intro w hSw); (try dsimp only at hSw); go_simp; first | done | (with_reducible rfl) | (rw [b1]))))
      (try simp only [Act.put, List.setIfInBounds_toArray, List.set_cons_zero, List.set_cons_succ])
      refine wpAnyH_done (by kernel_rfl) ?_ _
      go_wp2
      go_ret
      exact ⟨by rw [E.out]; rfl, BD.out⟩
    · have b1 : ((tds.length : Int) == n) = false := by simpa using q
      have E : Hid (tnb ts tds = false) := by rw [Hid, E0.out, decide_eq_false q, Bool.false_and]
      clear q E0
      go_enter Tryz.func5, Tryz.ntmps5
      go_wp2
      refine wp_region_held_drew (S := (fun W => W.cell? ⟨w.heap.size, 0, none⟩ = some (.slice op ts.length cp) ∧ W.cell? ⟨w.heap.size, 1, none⟩ = some (.slice od tds.length cd))) (by kernel_rfl) ?_ (fun hHeld => ?_)
      · exact ⟨x0, x1⟩
      have hHd := hHeld
      (refine wpAnyH_take (i := 0) (oi := ⟨some 3, _, _, _, _, _⟩) (v := ?v0c) rfl (by kernel_rfl) (by kernel_rfl) (by kernel_rfl) (fun _ _ _ h => h) (Or.inl ⟨by rfl, ?hy0c⟩) (by assumption) ?rest0c; (case hy0c => ((intro w hSw); (try dsimp only at hSw); go_simp; first | done | (with_reducible rfl) | (rw [b1]))))
      (try simp only [Act.put, List.setIfInBounds_toArray, List.set_cons_zero, List.set_cons_succ])
      (refine wpAnyH_take (i := 1) (oi := ⟨some 4, _, _, _, _, _⟩) (v := ?v1c) rfl (by kernel_rfl) (by kernel_rfl) (by kernel_rfl) (fun _ _ _ h => h) (Or.inl ⟨by rfl, ?hy1c⟩) (by assumption) ?rest1c; (case hy1c => ((intro w hSw); (try dsimp only at hSw); go_simp; first | done | (with_reducible rfl) | (rw [b1]))))
      (try simp only [Act.put, List.setIfInBounds_toArray, List.set_cons_zero, List.set_cons_succ])
      refine wpAnyH_ready (rs := [2]) (by kernel_rfl) (by simp) ?_
      refine AllReadyH.cons (o := ⟨some 5, _, _, _, _, _⟩) rfl (fun K hK => ?_) AllReadyH.nil
      go_simp
      (go_at_call 14; (with_reducible refine (KM.out _ BD.out).mono ?_); rintro e w' ⟨rfl, rfl⟩)
      refine hK.out _ _ ?_ (fun hHeld => ?_)
      · (try dsimp only)
        assumption
      clear hK K
      (try simp only [Act.put, List.setIfInBounds_toArray, List.set_cons_zero, List.set_cons_succ])
      (refine wpAnyH_take (i := 3) (oi := ⟨some 6, _, _, _, _, _⟩) (v := ?v3c) rfl (by kernel_rfl) (by kernel_rfl) (by kernel_rfl) (fun _ _ _ h => h) (Or.inl ⟨by rfl, ?hy3c⟩) (by assumption) ?rest3c; (case hy3c => ((intro w hSw); (try dsimp only at hSw); go_simp; first | done | (with_reducible rfl) | (rw [b1]))))
      (try simp only [Act.put, List.setIfInBounds_toArray, List.set_cons_zero, List.set_cons_succ])
      (refine wpAnyH_take (i := 4) (oi := ⟨some 7, _, _, _, _, _⟩) (v := ?v4c) rfl (by kernel_rfl) (by kernel_rfl) (by kernel_rfl) (fun _ _ _ h => h) (Or.inl ⟨by rfl, ?hy4c⟩) (by assumption) ?rest4c; (case hy4c => ((intro w hSw); (try dsimp only at hSw); go_simp; first | done | (with_reducible rfl) | (rw [b1]))))
      (try simp only [Act.put, List.setIfInBounds_toArray, List.set_cons_zero, List.set_cons_succ])
      (refine wpAnyH_take (i := 5) (oi := ⟨some 8, _, _, _, _, _⟩) (v := ?v5c) rfl (by kernel_rfl) (by kernel_rfl) (by kernel_rfl) (fun _ _ _ h => h) (Or.inl ⟨by rfl, ?hy5c⟩) (by assumption) ?rest5c; (case hy5c => ((intro w hSw); (try dsimp only at hSw); go_simp; first | done | (with_reducible rfl) | (rw [b1]))))
      (try simp only [Act.put, List.setIfInBounds_toArray, List.set_cons_zero, List.set_cons_succ])
      (refine wpAnyH_take (i := 6) (oi := ⟨some 9, _, _, _, _, _⟩) (v := ?v6c) rfl (by kernel_rfl) (by kernel_rfl) (by kernel_rfl) (fun _ _ _ h => h) (Or.inl ⟨by rfl, ?hy6c⟩) (by assumption) ?rest6c; (case hy6c => ((intro w hSw); (try dsimp only at hSw); go_simp; first | done | (with_reducible rfl) | (rw [b1]))))
      (try simp only [Act.put, List.setIfInBounds_toArray, List.set_cons_zero, List.set_cons_succ])
      (refine wpAnyH_take (i := 7) (oi := ⟨some 10, _, _, _, _, _⟩) (v := ?v7c) rfl (by kernel_rfl) (by kernel_rfl) (by kernel_rfl) (fun _ _ _ h => h) (Or.inl ⟨by rfl, ?hy7c⟩) (by assumption) ?rest7c; (case hy7c => ((intro w hSw); (try dsimp only at hSw); go_simp; first | done | (with_reducible rfl) | (rw [b1]))))
      (try simp only [Act.put, List.setIfInBounds_toArray, List.set_cons_zero, List.set_cons_succ])
      (refine wpAnyH_take (i := 8) (oi := ⟨some 11, _, _, _, _, _⟩) (v := ?v8c) rfl (by kernel_rfl) (by kernel_rfl) (by kernel_rfl) (fun _ _ _ h => h) (Or.inl ⟨by rfl, ?hy8c⟩) (by assumption) ?rest8c; (case hy8c => ((intro w hSw); (try dsimp only at hSw); go_simp; first | done | (with_reducible rfl) | (rw [b1]))))
      (try simp only [Act.put, List.setIfInBounds_toArray, List.set_cons_zero, List.set_cons_succ])
      refine wpAnyH_ready (rs := [9]) (by kernel_rfl) (by simp) ?_
      refine AllReadyH.cons (o := ⟨some 12, _, _, _, _, _⟩) rfl (fun K hK => ?_) AllReadyH.nil
      go_simp
      (go_at_call 15; (with_reducible refine (KC2.out _ BD.out).mono ?_); rintro e w' ⟨rfl, rfl⟩)
      refine hK.out _ _ ?_ (fun hHeld => ?_)
      · (try dsimp only)
        assumption
      clear hK K
      (try simp only [Act.put, List.setIfInBounds_toArray, List.set_cons_zero, List.set_cons_succ])
      (refine wpAnyH_take (i := 10) (oi := ⟨some 13, _, _, _, _, _⟩) (v := .bool false) rfl (by kernel_rfl) (by kernel_rfl) (by kernel_rfl) (fun _ _ _ h => h) (Or.inl ⟨by rfl, ?hy10c⟩) (by assumption) ?rest10c; (case hy10c => ((intro w hSw); (try dsimp only at hSw); go_simp; first | done | (with_reducible rfl) | (rw [b1]))))
      (try simp only [Act.put, List.setIfInBounds_toArray, List.set_cons_zero, List.set_cons_succ])
      (refine wpAnyH_take (i := 11) (oi := ⟨some 14, _, _, _, _, _⟩) (v := ?v11c) rfl (by kernel_rfl) (by kernel_rfl) (by kernel_rfl) (fun _ _ _ h => h) (Or.inl ⟨by rfl, ?hy11c⟩) (by assumption) ?rest11c; (case hy11c => ((intro w hSw); (try dsimp only at hSw); go_simp; first | done | (with_reducible rfl) | (rw [b1]))))
      (try simp only [Act.put, List.setIfInBounds_toArray, List.set_cons_zero, List.set_cons_succ])
      (refine wpAnyH_take (i := 12) (oi := ⟨some 15, _, _, _, _, _⟩) (v := ?v12c) rfl (by kernel_rfl) (by kernel_rfl) (by kernel_rfl) (fun _ _ _ h => h) (Or.inl ⟨by rfl, ?hy12c⟩) (by assumption) ?rest12c; (case hy12c => ((intro w hSw); (try dsimp only at hSw); go_simp; first | done | (with_reducible rfl) | (rw [b1]))))
      (try simp only [Act.put, List.setIfInBounds_toArray, List.set_cons_zero, List.set_cons_succ])
      (refine wpAnyH_take (i := 13) (oi := ⟨some 16, _, _, _, _, _⟩) (v := _) rfl (by kernel_rfl) (by kernel_rfl) (by kernel_rfl) (fun _ _ _ h => h) (Or.inr ⟨by rfl, rfl⟩) (by assumption) ?_)
      (try simp only [Act.put, List.setIfInBounds_toArray, List.set_cons_zero, List.set_cons_succ])
      (refine wpAnyH_take (i := 14) (oi := ⟨some 17, _, _, _, _, _⟩) (v := _) rfl (by kernel_rfl) (by kernel_rfl) (by kernel_rfl) (fun _ _ _ h => h) (Or.inr ⟨by rfl, rfl⟩) (by assumption) ?_)
      (try simp only [Act.put, List.setIfInBounds_toArray, List.set_cons_zero, List.set_cons_succ])
      (refine wpAnyH_take (i := 15) (oi := ⟨some 18, _, _, _, _, _⟩) (v := _) rfl (by kernel_rfl) (by kernel_rfl) (by kernel_rfl) (fun _ _ _ h => h) (Or.inr ⟨by rfl, rfl⟩) (by assumption) ?_)
      (try simp only [Act.put, List.setIfInBounds_toArray, List.set_cons_zero, List.set_cons_succ])
      (refine wpAnyH_take (i := 16) (oi := ⟨some 19, _, _, _, _, _⟩) (v := ?v16c) rfl (by kernel_rfl) (by kernel_rfl) (by kernel_rfl) (fun _ _ _ h => h) (Or.inl ⟨by rfl, ?hy16c⟩) (by assumption) ?rest16c; (case hy16c => ((intro w hSw); (try dsimp only at hSw); go_simp; first | done | (with_reducible rfl) | (rw [b1]))))
      (try simp only [Act.put, List.setIfInBounds_toArray, List.set_cons_zero, List.set_cons_succ])
      (refine wpAnyH_take (i := 17) (oi := ⟨some 2, _, _, _, _, _⟩) (v := ?v17c) rfl (by kernel_rfl) (by kernel_rfl) (by kernel_rfl) (fun _ _ _ h => h) (Or.inl ⟨by rfl, ?hy17c⟩) (by assumption) ?rest17c; (case hy17c => ((intro w hSw); (try dsimp only at hSw); go_simp; first | done | (with_reducible rfl) | (rw [b1]))))
      (try simp only [Act.put, List.setIfInBounds_toArray, List.set_cons_zero, List.set_cons_succ])
      refine wpAnyH_done (by kernel_rfl) ?_ _
      go_wp2
      go_ret
      exact ⟨by rw [E.out]; rfl, BD.out⟩
end Go.Proofs.YtldchepfcgbpiaaGreat
