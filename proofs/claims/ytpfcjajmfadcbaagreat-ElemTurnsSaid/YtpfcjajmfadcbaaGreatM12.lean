/-
  The reference's copy of a tensor; what a difference's laws say of words.
  A list of pairs of tensors, operations, words and fraction bits that came in, opened to the cells of its elements.
  The statements' counts of fraction bits.
  Tensors: alike? spoilt; may they be?
  The reference's May, of a tensor.
-/
import Derived.Deep.Slices
import Derived.Deep.Fields
import Derived.ProofKit
import Derived.Carry
import Derived.SizedLaws
import Derived.Deep.RegionHeld3
import Derived.Test.YtpfcjajmfadcbaaGreatM01
import Derived.Test.YtpfcjajmfadcbaaGreatM04
import Derived.Test.YtpfcjajmfadcbaaGreatM05
import Derived.Test.YtpfcjajmfadcbaaGreatM07
import Derived.Test.YtpfcjajmfadcbaaGreatM11
namespace Go.Proofs.YtpfcjajmfadcbaaGreat
open Go Go.RowKit Go.Shelf

theorem own_tset {W : World} {T base n i : Nat} {t : TypeId} {v z : Value} {xs : List Value} {cs : Array Value} (h : W.ownsRow base t 1 v n xs) (hb : Blk W T 26 cs) (hne : t ≠ 26) : (W.setCell ⟨T, i, none⟩ z).ownsRow base t 1 v n xs :=
  h.kept (grown_set W ⟨T, i, none⟩ z) (.inr (tens_not_row h hb hne))
/-- A tensor in new memory. -/
def SomeCT (w : World) (sh ds : List Int) (e : Ending) (w' : World) : Prop := ∃ os cs od cd, e = .returned (.agg #[.slice os sh.length cs, .slice od ds.length cd]) ∧ w'.ownsRow w.heap.size 3 1 (.slice os sh.length cs) sh.length (ints sh) ∧ w'.ownsRow w.heap.size 2 1 (.slice od ds.length cd) ds.length (ints ds) ∧ Below w.heap.size w w'
set_option maxRecDepth 100000 in
set_option maxHeartbeats 8000000 in
theorem copytens_any (vs vd : Value) (sh ds : List Int) (w : World) (hs : Ld w vs sh) (hd : Ld w vd ds) (l1 : sh.length ≤ 17592186044000) (l2 : ds.length ≤ 17592186044000) :
    Calls Tryz.prog 14 #[.agg #[vs, vd]] w (SomeCT w sh ds) := by
  obtain ⟨w3, hw3⟩ : ∃ w3, w3 = ((w.alloc (.cells #[vs, vd] 26)).alloc (.cells #[.slice none 0 0, .slice none 0 0] 26)).alloc (.cells #[vs, vd] 26) := ⟨_, rfl⟩
  have hsz : w3.heap.size = w.heap.size + 3 := by rw [hw3]; simp
  have B3 : Below w.heap.size w w3 := by rw [hw3]; exact (((Below.refl _ _).alloc (Nat.le_refl _) _).alloc (by simp) _).alloc (by simp; omega) _
  have K0 : Hid (Blk w3 w.heap.size 26 #[vs, vd]) := by rw [hw3]; exact ((Blk.new w _ _).alloc _).alloc _
  have K1 : Hid (Blk w3 (w.heap.size + 1) 26 #[.slice none 0 0, .slice none 0 0]) := by rw [hw3]; exact (blk_new1 w _ _ _).alloc _
  have K2 : Hid (Blk w3 (w.heap.size + 2) 26 #[vs, vd]) := by
    rw [hw3]
    have q := Blk.new ((w.alloc (.cells #[vs, vd] 26)).alloc (.cells #[.slice none 0 0, .slice none 0 0] 26)) 26 #[vs, vd]
    rwa [World.size_alloc, World.size_alloc] at q
  have C1 : Hid (∀ n, w3.heap.size = n → Calls Tryz.prog 41 #[vs] w3 fun e w' => ∃ o c, e = .returned (.slice o sh.length c) ∧ w'.ownsRow n 3 1 (.slice o sh.length c) sh.length (ints sh) ∧ Ld w' (.slice o sh.length c) sh ∧ Below n w3 w') := fun n hn => by
    subst hn
    exact copy_any vs sh w3 (hs.below B3) l1
  replace C1 := Lib.hid (C1.out (w.heap.size + 3) hsz)
  have C2 := Lib.hid (fun (W : World) (hW : Below w.heap.size w W) => copywords_any vd ds W (hd.below hW) l2)
  obtain ⟨o1, n1, rfl, _, _⟩ := hs
  obtain ⟨o2, n2, rfl, _, _⟩ := hd
  have HW := Lib.hid hw3
  rw [hw3] at C1
  clear hw3
  go_enter Tryz.func14, Tryz.ntmps14
  go_wp2_with (first
    | (go_at_call 41; (with_reducible refine C1.out.mono ?_); rintro e w2 ⟨o5, c5, rfl, ho5, _, hb2⟩; rw [← HW.out] at hb2; have b2 := B3.trans (hb2.mono (by omega)); replace K0 := Lib.hid (K0.out.below hb2 (by omega)); replace K1 := Lib.hid (K1.out.below hb2 (by omega)); replace K2 := Lib.hid (K2.out.below hb2 (by omega)); obtain ⟨c0, c1, _⟩ := blk2 K0.out; obtain ⟨x0, x1, g0, g1⟩ := blk2 K2.out; have s2 := Nat.le_trans (Nat.le_of_eq hsz.symm) hb2.size; have O2 := Lib.hid (own_tset (i := 0) (z := .slice o5 sh.length c5) ho5 K2.out (by decide)); clear ho5 hb2)
    | (go_at_call 42; (with_reducible refine Go.Calls.mono (C2.out _ ?_) ?_); (· exact b2.setCell (by show w.heap.size ≤ w.heap.size + 2; omega) _); rintro e w4 ⟨o6, c6, rfl, ho6, _, hb4⟩; have b4 := (b2.setCell (p := ⟨w.heap.size + 2, 0, none⟩) (by show w.heap.size ≤ w.heap.size + 2; omega) (.slice o5 sh.length c5)).trans (hb4.mono (by simp; omega)); have s4 := hb4.size; have Q2 := Lib.hid ((K2.out.set_ 0 (.slice o5 sh.length c5)).below hb4 (by simp; omega)); have Q1 := Lib.hid ((K1.out.far (p := ⟨w.heap.size + 2, 0, none⟩) (by show w.heap.size + 1 ≠ w.heap.size + 2; omega) (.slice o5 sh.length c5)).below hb4 (by simp; omega)); obtain ⟨x0, x1, g0, g1⟩ := blk2 Q2.out; obtain ⟨d0, d1, f0, f1⟩ := blk2 Q1.out; have O4 := Lib.hid (Below.keepOwn O2.out hb4 (Nat.le_refl _)); have O6 := Lib.hid ho6; clear ho6 hb4))
  have e2 : w.heap.size + 1 + 1 = w.heap.size + 2 := rfl
  have R1 := Lib.hid (Q1.out.far (p := ⟨w.heap.size + 2, 1, none⟩) (by show w.heap.size + 1 ≠ w.heap.size + 2; omega) (.slice o6 ds.length c6))
  have R2 := Lib.hid ((R1.out.set_ 0 (.slice o5 sh.length c5)).set_ 1 (.slice o6 ds.length c6))
  have r0 := R2.out.cell 0
  have r1 := R2.out.cell 1
  refine bodyPost_ret (v := .agg #[.slice o5 sh.length c5, .slice o6 ds.length c6]) (by simp [results, Tryz.results14, go_sem, r0, r1]) rfl ?_
  have p5 := own_two (own_tset (i := 1) (z := .slice o6 ds.length c6) O4.out Q2.out (by decide)) R1.out (by decide) (.slice o5 sh.length c5) (.slice o6 ds.length c6)
  have p6 := own_two (own_tset (i := 1) (z := .slice o6 ds.length c6) O6.out Q2.out (by decide)) R1.out (by decide) (.slice o5 sh.length c5) (.slice o6 ds.length c6)
  refine ⟨_, _, _, _, rfl, own_base p5 ?_, own_base p6 ?_, ((b4.setCell (p := ⟨w.heap.size + 2, 1, none⟩) (by show w.heap.size ≤ w.heap.size + 2; omega) _).setCell (p := ⟨w.heap.size + 1, 0, none⟩) (by show w.heap.size ≤ w.heap.size + 1; omega) _).setCell (p := ⟨w.heap.size + 1, 1, none⟩) (by show w.heap.size ≤ w.heap.size + 1; omega) _⟩
  · omega
  · simp; omega
theorem own_off {W : World} {b1 b2 n1 n2 c g : Nat} {t1 t2 : TypeId} {v : Value} {xs ys : List Value} (h1 : W.ownsRow b1 t1 1 v n1 xs) (h2 : W.ownsRow b2 t2 1 (.slice (some ⟨g, 0, none⟩) n2 c) n2 ys) (hne : t1 ≠ t2) : ¬ v.ownBlock = some g := by
  intro e
  rcases h2.2 with ⟨e2, _⟩ | ⟨g2, cap2, cur2, e2, _, hh2, _⟩
  · simp at e2
  · simp only [Value.slice.injEq, Option.some.injEq, Addr.mk.injEq, and_true] at e2
    obtain ⟨rfl, _⟩ := e2
    rcases h1.2 with ⟨rfl, _⟩ | ⟨g1, cap1, cur1, rfl, _, hh1, _⟩
    · simp [Value.ownBlock] at e
    · simp only [Value.ownBlock, Option.some.injEq] at e
      subst e
      have := hh1.symm.trans hh2
      simp only [Option.some.injEq, Obj.cells.injEq] at this
      exact hne this.2.1
theorem tw_flip (ef : Int → Int → Int) (sa da sb db : List Int) : twe ef sb db sa da = twe (fun a b => ef b a) sa da sb db ∧ twv ef sb db sa da = twv (fun a b => ef b a) sa da sb db := by
  unfold twe twv
  rw [spe_sym sb sa, spv_sym sb sa]
  exact ⟨rfl, rfl⟩
theorem wd_sym (v : Int) : wd (-v) = wd v := by
  cases h : wd v with
  | true => exact wd_neg h
  | false =>
    cases h2 : wd (-v) with
    | false => rfl
    | true => have := wd_neg h2; rw [Int.neg_neg, h] at this; cases this
theorem te_sym (v : Int) : te (-v) = te v := by unfold te; rw [wd_sym]
theorem sub_sym (f : Nat) (sa da sb db : List Int) : twe (e2 4 f) sb db sa da = twe (e2 4 f) sa da sb db := by
  rw [(tw_flip (e2 4 f) sa da sb db).1]
  have : (fun a b => e2 4 f b a) = e2 4 f := by
    funext a b
    show te (b - a) = te (a - b)
    rw [← te_sym (a - b), Int.neg_sub]
  rw [this]
theorem ngl_len (db : List Int) : (ngl db).length = db.length := vls_len _ _
theorem ngl_at {db : List Int} {k : Nat} (hk : k < db.length) : (ngl db).getD k 0 = tw (-(db.getD k 0)) := by
  unfold ngl owv vls
  simp only [List.getD_eq_getElem?_getD, List.getElem?_map, List.getElem?_range hk]
  rfl
theorem tnb_of {s ls : List Int} (ms : may s = true) (hl : (ls.length : Int) = prod s) (h : ∀ k, k < ls.length → wd (ls.getD k 0) = true) : tnb s ls = true := by
  have hw : wds ls = true := wds_yes fun k hk => wd_bd (h k hk)
  unfold tnb
  rw [ms, hw, decide_eq_true hl]; rfl
theorem ngl_tnb {sb db : List Int} (tb : tnb sb db = true) : tnb sb (ngl db) = true := by
  obtain ⟨mb, hl, _⟩ := tnb_parts tb
  refine tnb_of mb (by rw [ngl_len]; exact hl) (fun k hk => ?_)
  rw [ngl_len] at hk
  rw [ngl_at hk]
  exact wd_tw _
/-- Added to the negative is taken away. -/
theorem add_neg {sa da sb db : List Int} (f : Nat) (tb : tnb sb db = true) : twe (e2 3 f) sa da sb (ngl db) = twe (e2 4 f) sa da sb db ∧ (spe sa sb = 0 → twv (v2 3 f) sa da sb (ngl db) = twv (v2 4 f) sa da sb db) := by
  have key : spe sa sb = 0 → ∀ n, n < (prod (spv sa sb)).toNat → txa sb (ngl db) (spv sa sb) n = -(txa sb db (spv sa sb) n) := fun hs n hn => by
    obtain ⟨mb, hl, hw⟩ := tnb_parts tb
    obtain ⟨ms, gb⟩ := goes_spv mb (by rw [spe_sym]; exact hs : spe sb sa = 0)
    rw [spv_sym sb sa] at ms gb
    have hp := may_prod ms
    obtain ⟨_, u0, u1⟩ := und_in tb ms gb (N := (prod (spv sa sb)).toNat) (by omega) hn
    unfold txa
    rw [ngl_at (by omega)]
    exact tw_in (wd_neg (wds_wd hw (by omega)))
  refine ⟨?_, fun hs => ?_⟩
  · unfold twe
    by_cases hs : spe sa sb = 0
    · rw [if_pos hs, if_pos hs]
      exact fer_same (fun n hn => by
        rw [key hs n hn]
        show te (_ + -_) = te (_ - _)
        rw [Int.sub_eq_add_neg])
    · rw [if_neg hs, if_neg hs]
  · unfold twv
    exact vls_same (fun n hn => by
      rw [key hs n hn]
      show tw (_ + -_) = tw (_ - _)
      rw [Int.sub_eq_add_neg])
theorem tw_neg (v : Int) : tw (-(tw v)) = tw (-v) := by
  unfold tw
  rw [wd_sym v]
  by_cases h : wd v = true
  · rw [if_pos h, wd_sym, if_pos h]
  · rw [if_neg h, if_neg h]; rfl
/-- The negative of the other way round. -/
theorem sub_neg {sa da sb db : List Int} (f : Nat) : ngl (twv (v2 4 f) sb db sa da) = twv (v2 4 f) sa da sb db := by
  rw [(tw_flip (v2 4 f) sa da sb db).2]
  refine owv_is (by unfold twv; rw [vls_len, vls_len]) (fun k hk => ?_)
  unfold twv at hk ⊢
  rw [vls_len] at hk
  unfold vls
  simp only [List.getD_eq_getElem?_getD, List.getElem?_map, List.getElem?_range hk]
  show tw (-(tw (_ - _))) = tw (_ - _)
  rw [tw_neg, Int.neg_sub]
theorem sub_tnb {sa da sb db : List Int} (f : Nat) (ma : may sa = true) (hs : spe sa sb = 0) : tnb (spv sa sb) (twv (v2 4 f) sb db sa da) = true := by
  obtain ⟨ms, _⟩ := goes_spv ma hs
  have hp := may_prod ms
  refine tnb_of ms ?_ (fun k hk => ?_)
  · unfold twv; rw [vls_len, spv_sym sb sa]; omega
  · unfold twv at hk ⊢
    rw [vls_len] at hk
    unfold vls
    simp only [List.getD_eq_getElem?_getD, List.getElem?_map, List.getElem?_range hk]
    exact wd_tw _
/-- Over ones it is itself. -/
theorem over_ones {sa da os : List Int} (f : Nat) (ta : tnb sa da = true) (hl : os.length = da.length) (h : ∀ k, k < os.length → os.getD k 0 = 2 ^ f) (tos : tnb sa os = true) : twe (e2 6 f) sa da sa os = 0 ∧ twv (v2 6 f) sa da sa os = da := by
  obtain ⟨ma, hld, hw⟩ := tnb_parts ta
  obtain ⟨s0, s1⟩ := spe_self ma
  have hN : (prod sa).toNat = da.length := by omega
  constructor
  · unfold twe
    rw [s0, if_pos rfl, s1, hN]
    exact fer_no (fun k hk => by
      rw [txa_self ta hk, txa_self tos (by omega), h k (by omega)]
      exact (over_one (wds_wd hw hk)).2)
  · unfold twv
    rw [s1, hN]
    refine ext_getD (by rw [vls_len]) (fun k hk => ?_)
    rw [vls_len] at hk
    unfold vls
    simp only [List.getD_eq_getElem?_getD, List.getElem?_map, List.getElem?_range hk]
    show v2 6 f (txa sa da sa k) (txa sa os sa k) = da.getD k 0
    rw [txa_self ta hk, txa_self tos (by omega), h k (by omega)]
    exact (over_one (wds_wd hw hk)).1
end Go.Proofs.YtpfcjajmfadcbaaGreat
namespace Go.Proofs.YtpfcjajmfadcbaaGreat
open Go.ChangeShapes Go.WideShapes Go.ChangeAt Go.RowKit Go.Deep

theorem Tryz.own : ownKnob Tryz.prog.godebug = none := by kernel_rfl
theorem Tryz.laidOut : laidOutB Tryz.prog = true := by kernel_rfl
theorem s_i64 {x : Int} (h : (Lit.int .i64 x).wf = true) : -9223372036854775808 ≤ x ∧ x ≤ 9223372036854775807 := by
  simp [Lit.wf, IntKind.min, IntKind.max, IntKind.signed, IntKind.bits] at h
  exact ⟨by omega, by omega⟩
theorem cS1 : Tryz.prog.cellsOf 23 = 1 := by kernel_rfl
theorem cS2 : Tryz.prog.cellsOf 3 = 1 := by kernel_rfl
theorem cS5 : Tryz.prog.cellsOf 24 = 1 := by kernel_rfl
theorem cS6 : Tryz.prog.cellsOf 2 = 1 := by kernel_rfl
theorem cS7 : Tryz.prog.cellsOf 26 = 2 := by kernel_rfl
theorem cS8 : Tryz.prog.cellsOf 28 = 7 := by kernel_rfl
theorem bS2 : Tryz.prog.bytesOf 3 = 8 := by kernel_rfl
theorem bS6 : Tryz.prog.bytesOf 2 = 8 := by kernel_rfl
theorem reach_is : reachBytes = 140737488351232 := rfl

/-- An element: two tensors, an operation, a word, a number. -/
structure Ek where
  A : Value
  X : Value
  B : Value
  Y : Value
  sa : List Int
  da : List Int
  sb : List Int
  db : List Int
  op : Int
  c : Int
  f : Int
def Ek.ok (w : World) (e : Ek) : Prop := (Ld w e.A e.sa ∧ Ld w e.X e.da ∧ Ld w e.B e.sb ∧ Ld w e.Y e.db) ∧ (e.sa.length ≤ 17592186043904 ∧ e.da.length ≤ 17592186043904 ∧ e.sb.length ≤ 17592186043904 ∧ e.db.length ≤ 17592186043904) ∧
  (-9223372036854775808 ≤ e.op ∧ e.op ≤ 9223372036854775807) ∧ (-9223372036854775808 ≤ e.c ∧ e.c ≤ 9223372036854775807) ∧ (-9223372036854775808 ≤ e.f ∧ e.f ≤ 9223372036854775807)
def EkAt (w : World) (b p : Nat) (e : Ek) : Prop := w.cell? ⟨b, p, none⟩ = some e.A ∧ w.cell? ⟨b, p + 1, none⟩ = some e.X ∧ w.cell? ⟨b, p + 2, none⟩ = some e.B ∧ w.cell? ⟨b, p + 3, none⟩ = some e.Y ∧ w.cell? ⟨b, p + 4, none⟩ = some (.int .i64 e.op) ∧ w.cell? ⟨b, p + 5, none⟩ = some (.int .i64 e.c) ∧ w.cell? ⟨b, p + 6, none⟩ = some (.int .i64 e.f)
theorem EkAt.below {w W : World} {b p : Nat} {e : Ek} (h : EkAt w b p e) (hB : Below w.heap.size w W) (hb : b < w.heap.size) : EkAt W b p e := by
  obtain ⟨h0, h1, h2, h3, h4, h5, h6⟩ := h
  have k : ∀ (i : Nat) (v : Value), w.cell? ⟨b, i, none⟩ = some v → W.cell? ⟨b, i, none⟩ = some v := fun i v hh => (hB.cell (p := ⟨b, i, none⟩) hb).trans hh
  exact ⟨k _ _ h0, k _ _ h1, k _ _ h2, k _ _ h3, k _ _ h4, k _ _ h5, k _ _ h6⟩

/-- All that it weighs is within reach. -/
def Lite {H : Type} (t : TypeId) (d : DataW H) : Prop := ∀ n ∈ d.weights Tryz.prog t, n ≤ reachBytes
theorem lite_all {H : Type} {e : TypeId} : ∀ {l : List (DataW H)} {d : DataW H}, d ∈ l → ∀ n ∈ d.weights Tryz.prog e, n ∈ DataW.weightsAll Tryz.prog e l
  | d' :: r, d, hd, n, hn => by
    simp only [DataW.weightsAll, List.mem_append]
    rcases List.mem_cons.1 hd with rfl | h
    · exact .inl hn
    · exact .inr (lite_all h n hn)
theorem lite_in {H : Type} {t e : TypeId} {elems spare : List (DataW H)} {d : DataW H} (hu : Tryz.prog.underlying t = some (.slice e)) (h : Lite t (.slice elems spare)) (hd : d ∈ elems) : Lite e d := fun n hn =>
  h n (by simp only [DataW.weights, hu, List.mem_cons, List.mem_append]; exact .inr (.inl (lite_all hd n hn)))
theorem lite_len {H : Type} {t e : TypeId} {elems spare : List (DataW H)} (hu : Tryz.prog.underlying t = some (.slice e)) (hb : Tryz.prog.bytesOf e = 8) (h : Lite t (.slice elems spare)) : elems.length ≤ 17592186043904 := by
  have := h ((elems.length + spare.length) * Tryz.prog.bytesOf e) (by simp [DataW.weights, hu])
  rw [hb, reach_is] at this
  omega
theorem lite_part {H : Type} {t : TypeId} {fs : Array Field} {parts : List (DataW H)} {j : Nat} {d : DataW H} {u : TypeId} (hu : Tryz.prog.underlying t = some (.struct fs)) (h : Lite t (.agg parts)) (hj : (fs.toList.map (·.type))[j]? = some u) (hd : parts[j]? = some d) : Lite u d := fun n hn =>
  h n (by simp only [DataW.weights, hu]; exact DataW.weights_mem_each hj hd n hn)

section
variable {H : Type} {enc : TypeId × Value → H} {w : World} {base : Nat} {spare : Nat → Bool} {held : Bool}
set_option maxRecDepth 100000 in
theorem open_nums {t e : TypeId} {fuel : Nat} {v : Value} {x : DataW H × List MemPlace} (hu : Tryz.prog.underlying t = some (.slice e)) (hc : Tryz.prog.cellsOf e = 1) (hb : Tryz.prog.bytesOf e = 8) (hi : Tryz.prog.underlying e = some (.int .i64))
    (h : DataW.trod enc Tryz.prog w base spare held fuel t [v] = some x) (hz : Lite t x.1) : ∃ ls, Ld w v ls ∧ ls.length ≤ 17592186043904 := by
  rcases open_slice1 hu hc h with ⟨hcs, _⟩ | ⟨a, len, cap, m, n, V, D, Pl, hcs, _, hl, hm, hmm, hx, hia⟩
  · simp only [List.cons.injEq, and_true] at hcs
    subst hcs
    exact ⟨[], Ld.nil w, by simp⟩
  · simp only [List.cons.injEq, and_true] at hcs
    subst hcs
    have hle : len ≤ m := by rw [hmm]; split <;> omega
    have hlen2 : len ≤ 17592186043904 := by
      rw [hx] at hz
      have := lite_len hu hb hz
      simpa using this
    have hall : ∀ i, i < len → ∃ y : Int, w.cell? (a.add i) = some (.int .i64 y) := by
      intro i hik
      obtain ⟨hc, ht⟩ := hia i (by omega)
      obtain ⟨y, e0, _, _⟩ := DataW.trod_int hi ht
      simp only [List.cons.injEq, and_true] at e0
      exact ⟨y, by rw [hc, e0]⟩
    let ys : Nat → Int := fun i => if h : i < len then (hall i h).choose else 0
    have hys : ∀ i, i < len → w.cell? (a.add i) = some (.int .i64 (ys i)) := by
      intro i hik
      have := (hall i hik).choose_spec
      simp only [ys, dif_pos hik]
      exact this
    have hlen : ((List.range len).map ys).length = len := by simp
    refine ⟨(List.range len).map ys, ⟨some a, cap, by rw [hlen], by rw [hlen]; exact hl, fun i hi2 => ?_⟩, by rw [hlen]; exact hlen2⟩
    rw [hlen] at hi2
    obtain ⟨b, off, spot⟩ := a
    have hc := hys i hi2
    have hspot : spot = none := by simpa [Addr.add] using World.cell?_spot (hys 0 (by omega))
    subst hspot
    rw [Go.WideShapes.add_plain] at hc
    have hg : ((List.range len).map ys).getD i 0 = ys i := by simp [List.getD, hi2]
    exact ⟨b, off, rfl, World.block_lt_of_cell? w _ hc, by rw [hg]; exact hc⟩

set_option maxRecDepth 100000 in
theorem open_tens {fuel : Nat} {v0 v1 : Value} {x : DataW H × List MemPlace} (h : DataW.trod enc Tryz.prog w base spare held fuel 26 [v0, v1] = some x) (hz : Lite 26 x.1) :
    ∃ ts tds, Ld w v0 ts ∧ Ld w v1 tds ∧ ts.length ≤ 17592186043904 ∧ tds.length ≤ 17592186043904 := by
  obtain ⟨xs, n, _, hx, _, hxl, hf⟩ := DataW.trod_struct Tryz.underlying26 h
  have hxl2 : xs.length = 2 := hxl
  match xs, hxl2 with
  | [x0, x1], _ =>
    have h0 : DataW.trod enc Tryz.prog w base spare held n 23 ((([v0, v1] : List Value).drop 0).take (Tryz.prog.cellsOf 23)) = some x0 := hf 0 _ rfl
    have h1 : DataW.trod enc Tryz.prog w base spare held n 24 ((([v0, v1] : List Value).drop 1).take (Tryz.prog.cellsOf 24)) = some x1 := hf 1 _ rfl
    simp only [cS1, cS5, List.drop_zero, List.drop_succ_cons, List.take_succ_cons, List.take_zero] at h0 h1
    rw [hx] at hz
    obtain ⟨s, hs, ls⟩ := open_nums Tryz.underlying23 cS2 bS2 Tryz.underlying3 h0 (lite_part (j := 0) Tryz.underlying26 hz rfl rfl)
    obtain ⟨t, ht, lt⟩ := open_nums Tryz.underlying24 cS6 bS6 Tryz.underlying2 h1 (lite_part (j := 1) Tryz.underlying26 hz rfl rfl)
    exact ⟨s, t, hs, ht, ls, lt⟩
set_option maxRecDepth 100000 in
set_option maxHeartbeats 2000000 in
theorem open_ek {fuel : Nat} {cs : List Value} {x : DataW H × List MemPlace} (h : DataW.trod enc Tryz.prog w base spare held fuel 28 cs = some x) (hz : Lite 28 x.1) :
    ∃ e : Ek, e.ok w ∧ cs = [e.A, e.X, e.B, e.Y, .int .i64 e.op, .int .i64 e.c, .int .i64 e.f] := by
  obtain ⟨xs, n, _, hx, hl, hxl, hf⟩ := DataW.trod_struct Tryz.underlying28 h
  rw [cS8] at hl
  match cs, hl with
  | [v0, v1, v2, v3, v4, v5, v6], _ =>
    have hxl2 : xs.length = 5 := hxl
    match xs, hxl2 with
    | [x0, x1, x2, x3, x4], _ =>
      have h0 : DataW.trod enc Tryz.prog w base spare held n 26 ((([v0, v1, v2, v3, v4, v5, v6] : List Value).drop 0).take (Tryz.prog.cellsOf 26)) = some x0 := hf 0 _ rfl
      have h1 : DataW.trod enc Tryz.prog w base spare held n 26 ((([v0, v1, v2, v3, v4, v5, v6] : List Value).drop 2).take (Tryz.prog.cellsOf 26)) = some x1 := hf 1 _ rfl
      have h2 : DataW.trod enc Tryz.prog w base spare held n 3 ((([v0, v1, v2, v3, v4, v5, v6] : List Value).drop 4).take (Tryz.prog.cellsOf 3)) = some x2 := hf 2 _ rfl
      have h3 : DataW.trod enc Tryz.prog w base spare held n 2 ((([v0, v1, v2, v3, v4, v5, v6] : List Value).drop 5).take (Tryz.prog.cellsOf 2)) = some x3 := hf 3 _ rfl
      have h4 : DataW.trod enc Tryz.prog w base spare held n 3 ((([v0, v1, v2, v3, v4, v5, v6] : List Value).drop 6).take (Tryz.prog.cellsOf 3)) = some x4 := hf 4 _ rfl
      simp only [cS2, cS6, cS7, List.drop_zero, List.drop_succ_cons, List.take_succ_cons, List.take_zero] at h0 h1 h2 h3 h4
      rw [hx] at hz
      have q := fun (j : Nat) (u : TypeId) (d : DataW H) => lite_part (j := j) (u := u) (d := d) Tryz.underlying28 hz
      obtain ⟨sa, da, hs, hd, l0, l1⟩ := open_tens h0 (q 0 _ _ rfl rfl)
      obtain ⟨sb, db, ht, he, l2, l3⟩ := open_tens h1 (q 1 _ _ rfl rfl)
      obtain ⟨a, ea, _, wa⟩ := DataW.trod_int Tryz.underlying3 h2
      obtain ⟨b, eb, _, wb⟩ := DataW.trod_int Tryz.underlying2 h3
      obtain ⟨c, ec, _, wc⟩ := DataW.trod_int Tryz.underlying3 h4
      simp only [List.cons.injEq, and_true] at ea eb ec
      subst ea; subst eb; subst ec
      exact ⟨⟨v0, v1, v2, v3, sa, da, sb, db, a, b, c⟩, ⟨⟨hs, hd, ht, he⟩, ⟨l0, l1, l2, l3⟩, s_i64 wa, s_i64 wb, s_i64 wc⟩, rfl⟩

set_option maxRecDepth 100000 in
set_option maxHeartbeats 2000000 in
/-- The list: nil or empty, or its elements' cells. -/
theorem open_eks {fuel : Nat} {v : Value} {x : DataW H × List MemPlace} (h : DataW.trod enc Tryz.prog w base spare held fuel 22 [v] = some x) (hz : Lite 22 x.1) :
    (∃ o cap, v = .slice o 0 cap) ∨ ∃ (b off len cap : Nat) (es : Nat → Ek), v = .slice (some ⟨b, off, none⟩) len cap ∧ len ≤ 9223372036854775807 ∧ b < w.heap.size ∧
      (∀ i, i < len → EkAt w b (off + i * 7) (es i)) ∧ (∀ i, i < len → (es i).ok w) := by
  rcases open_slice Tryz.underlying22 h with ⟨hcs, _⟩ | ⟨a, len, cap, m, n, D, Pl, hcs, _, hl, hm, hmm, hx, hi⟩
  · left
    simp only [List.cons.injEq, and_true] at hcs
    exact ⟨_, _, hcs⟩
  · simp only [List.cons.injEq, and_true] at hcs
    subst hcs
    by_cases h0 : len = 0
    · subst h0; exact .inl ⟨_, _, rfl⟩
    right
    have hle : len ≤ m := by rw [hmm]; split <;> omega
    rw [cS8] at hi
    rw [hx] at hz
    have hall : ∀ i, i < len → ∃ e : Ek, e.ok w ∧ ∀ j, j < 7 → w.cell? ((a.add (i * 7)).add j) = ([e.A, e.X, e.B, e.Y, .int .i64 e.op, .int .i64 e.c, .int .i64 e.f] : List Value)[j]? := by
      intro i hik
      obtain ⟨cs', hc, ht⟩ := hi i (by omega)
      obtain ⟨e, he, rfl⟩ := open_ek ht (lite_in Tryz.underlying22 hz (List.mem_map.2 ⟨i, List.mem_range.2 hik, rfl⟩))
      exact ⟨e, he, (World.cells?_some hc).2.2⟩
    let es : Nat → Ek := fun i => if h : i < len then (hall i h).choose else ⟨.bool false, .bool false, .bool false, .bool false, [], [], [], [], 0, 0, 0⟩
    have hes : ∀ i, i < len → (es i).ok w ∧ ∀ j, j < 7 → w.cell? ((a.add (i * 7)).add j) = ([(es i).A, (es i).X, (es i).B, (es i).Y, .int .i64 (es i).op, .int .i64 (es i).c, .int .i64 (es i).f] : List Value)[j]? := by
      intro i hik
      have := (hall i hik).choose_spec
      simp only [es, dif_pos hik]
      exact this
    obtain ⟨b, off, spot⟩ := a
    have hspot : spot = none := by
      have := (hes 0 (by omega)).2 0 (by decide)
      simpa [Addr.add] using World.cell?_spot this
    subst hspot
    have cell : ∀ i, i < len → ∀ j, j < 7 → w.cell? ⟨b, off + i * 7 + j, none⟩ = ([(es i).A, (es i).X, (es i).B, (es i).Y, .int .i64 (es i).op, .int .i64 (es i).c, .int .i64 (es i).f] : List Value)[j]? := by
      intro i hik j hj
      rw [← (hes i hik).2 j hj, Go.WideShapes.add_plain, Go.WideShapes.add_plain]
    refine ⟨b, off, len, cap, es, rfl, by unfold maxLen at hm; omega, ?_, fun i hik => ?_, fun i hik => (hes i hik).1⟩
    · exact World.block_lt_of_cell? w _ (by have := cell 0 (by omega) 0 (by decide); simpa using this)
    · exact ⟨cell i hik 0 (by decide), cell i hik 1 (by decide), cell i hik 2 (by decide), cell i hik 3 (by decide), cell i hik 4 (by decide), cell i hik 5 (by decide), cell i hik 6 (by decide)⟩
end
end Go.Proofs.YtpfcjajmfadcbaaGreat
namespace Go.Proofs.YtpfcjajmfadcbaaGreat
open Go.RowKit
theorem ff_any (i : Int) (w : World) : Calls Tryz.prog 9 #[.int .i64 i] w fun e w' => e = .returned (.int .i64 (8 + i % 18446744073709551616 % 25)) ∧ w = w' := by
  have C := Lib.hid (fun W : World => within_any i 25 W (by decide) (by decide))
  have e1 : wrap64 (8 + i % 18446744073709551616 % 25) = 8 + i % 18446744073709551616 % 25 := IntWalk.wrap64_in _ ⟨by omega, by omega⟩
  have E := Lib.hid e1
  clear e1
  generalize i % 18446744073709551616 % 25 = r at *
  go_enter Tryz.func9, Tryz.ntmps9
  go_wp2_with (go_at_call 27; (with_reducible refine (C.out _).mono ?_); rintro e w' ⟨rfl, rfl⟩)
  go_ret
  exact ⟨by show Ending.returned (.int .i64 (wrap64 (8 + r))) = _; rw [E.out], rfl⟩
end Go.Proofs.YtpfcjajmfadcbaaGreat
namespace Go.Proofs.YtpfcjajmfadcbaaGreat
open Go.RowKit Go.Shelf

set_option maxRecDepth 100000 in
set_option maxHeartbeats 4000000 in
theorem eqtensor_same (va vb ua ub : Value) (a b : List Int) (w : World) (ha : Ld w va a) (hb : Ld w vb b) (hc : Ld w ua a) (hd : Ld w ub b) (l1 : a.length ≤ 17592186044416) (l2 : b.length ≤ 17592186044416) :
    Calls Tryz.prog 13 #[.agg #[va, vb], .agg #[ua, ub]] w fun e w' => e = .returned (.bool true) ∧ Below w.heap.size w w' := by
  have hB0 : Below w.heap.size w ((w.alloc (.cells #[va, vb] 26)).alloc (.cells #[ua, ub] 26)) := ((Below.refl _ _).alloc (Nat.le_refl _) _).alloc (by simp) _
  have X0 := Lib.hid ((Blk.new w 26 #[va, vb]).alloc (.cells #[ua, ub] 26))
  have X1 := Lib.hid (blk_new1 w (.cells #[va, vb] 26) 26 #[ua, ub])
  have C1 : Hid (∀ n, ((w.alloc (.cells #[va, vb] 26)).alloc (.cells #[ua, ub] 26)).heap.size = n → Calls Tryz.prog 39 #[va, ua] ((w.alloc (.cells #[va, vb] 26)).alloc (.cells #[ua, ub] 26)) fun e w' => e = .returned (.bool true) ∧ Below n ((w.alloc (.cells #[va, vb] 26)).alloc (.cells #[ua, ub] 26)) w') := fun n hn => by
    subst hn
    have := eqn_any va ua a a _ (ha.below hB0) (hc.below hB0) l1 l1
    rwa [show decide (a = a) = true by simp] at this
  have C2 : Hid (∀ W, Below w.heap.size w W → Calls Tryz.prog 40 #[vb, ub] W fun e w' => e = .returned (.bool true) ∧ Below W.heap.size W w') := fun W hW => by
    have := eqw_any vb ub b b _ (hb.below hW) (hd.below hW) l2 l2
    rwa [show decide (b = b) = true by simp] at this
  replace C1 := Lib.hid (C1.out (w.heap.size + 2) (by simp))
  obtain ⟨o1, n1, rfl, _, _⟩ := ha
  obtain ⟨o2, n2, rfl, _, _⟩ := hb
  obtain ⟨o3, n3, rfl, _, _⟩ := hc
  obtain ⟨o4, n4, rfl, _, _⟩ := hd
  have HB0 := Lib.hid hB0
  clear hB0
  go_enter Tryz.func13, Tryz.ntmps13
  go_wp2_with (first
    | (go_at_call 39; (with_reducible refine C1.out.mono ?_); rintro e w2 ⟨rfl, hb2⟩; have b2 := HB0.out.trans (hb2.mono (by omega)); have Z0 := Lib.hid (X0.out.below hb2 (by omega)); have Z1 := Lib.hid (X1.out.below hb2 (by omega)); obtain ⟨c0, c1, _⟩ := blk2 Z0.out; obtain ⟨d0, d1, _⟩ := blk2 Z1.out; clear hb2)
    | (go_at_call 40; (with_reducible refine (C2.out _ b2).mono ?_); rintro e w3 ⟨rfl, hb3⟩; have b3 := b2.trans (hb3.mono b2.size); clear hb3))
  go_ret
  exact ⟨rfl, b3⟩

set_option maxRecDepth 100000 in
set_option maxHeartbeats 4000000 in
/-- Two own rows are spoilt. -/
theorem spoilt_any (base : Nat) (vs vd : Value) (sh ds : List Int) (w : World) (h1 : w.ownsRow base 3 1 vs sh.length (ints sh)) (h2 : w.ownsRow base 2 1 vd ds.length (ints ds)) (hb : base ≤ w.heap.size) (l1 : sh.length ≤ 65536) (l2 : ds.length ≤ 65536) :
    Calls Tryz.prog 50 #[.agg #[vs, vd]] w fun e w' => e = .returned (.tuple #[]) ∧ Below base w w' ∧ (∀ (b n : Nat) (v : Value) (xs : List Value) (e : TypeId), w.ownsRow b e 1 v n xs → (∀ g, v.ownBlock = some g → ¬ vs.ownBlock = some g) → (∀ g, v.ownBlock = some g → ¬ vd.ownBlock = some g) → w'.ownsRow b e 1 v n xs) := by
  have hap : ∀ g, vs.ownBlock = some g → ¬ vd.ownBlock = some g := fun g e1 e2 => by
    rcases h1.2 with ⟨rfl, _⟩ | ⟨g1, _, _, rfl, _, hh1, _⟩
    · simp [Value.ownBlock] at e1
    · rcases h2.2 with ⟨rfl, _⟩ | ⟨g2, _, _, rfl, _, hh2, _⟩
      · simp [Value.ownBlock] at e2
      · simp only [Value.ownBlock, Option.some.injEq] at e1 e2
        subst e1; subst e2
        have := hh1.symm.trans hh2
        simp at this
  have C1 := Lib.hid (numberso_any base vs sh (w.alloc (.cells #[vs, vd] 26)) (h1.alloc _) (by simp; omega) l1)
  have C2 := Lib.hid (fun (W : World) (hg : (w.alloc (.cells #[vs, vd] 26)).grownBy W vs.ownBlock) => wordso_any base vd ds W ((h2.alloc _).kept hg (by
    cases e : vd.ownBlock with
    | none => exact .inl rfl
    | some g => exact .inr (fun e2 => hap g (e2 ▸ rfl) e))) (Nat.le_trans (by simp; omega) hg.size) l2)
  have HX := Lib.hid (Blk.new w 26 #[vs, vd])
  have H1 := Lib.hid (And.intro h1 h2)
  clear h1 h2
  go_enter Tryz.func50, Tryz.ntmps50
  go_wp2_with (first | (go_at_call 84; (with_reducible refine C1.out.mono ?_); rintro e w2 ⟨rfl, hg2⟩; obtain ⟨c0, c1, _⟩ := blk2 (HX.out.kept hg2 (fun e => tens_not_row (H1.out.1.alloc _) HX.out (by decide) e.symm)); replace hg2 := Lib.hid hg2) | (go_at_call 85; (with_reducible refine (C2.out _ hg2.out).mono ?_); rintro e w3 ⟨rfl, hg3⟩; replace hg3 := Lib.hid hg3))
  refine bodyPost_end (results_none rfl _ _ _) rfl ?_
  refine ⟨rfl, ?_, fun b n v xs e hv n1 n2 => ?_⟩
  rotate_left
  · have k1 := (hv.alloc (.cells #[vs, vd] 26)).kept hg2.out (by
      cases ee : v.ownBlock with
      | none => exact .inl rfl
      | some g => exact .inr (fun e2 => n1 g ee e2.symm))
    exact k1.kept hg3.out (by
      cases ee : v.ownBlock with
      | none => exact .inl rfl
      | some g => exact .inr (fun e2 => n2 g ee e2.symm))
  have b1 : Below base w (w.alloc (.cells #[vs, vd] 26)) := (Below.refl _ _).alloc hb _
  have b2 := b1.grown hg2.out (by simp; omega) (fun k e => (H1.out.1.lt k e).1)
  exact b2.grown hg3.out (by have := b2.size; omega) (fun k e => (H1.out.2.lt k e).1)
end Go.Proofs.YtpfcjajmfadcbaaGreat
namespace Go.Proofs.YtpfcjajmfadcbaaGreat
open Go.RowKit Go.Shelf

set_option maxRecDepth 100000 in
set_option maxHeartbeats 8000000 in
theorem rmay8_any (vp vr : Value) (ts tds : List Int) (w : World) (hp : Ld w vp ts) (hr : Ld w vr tds) (lp : ts.length ≤ 1073741824) (lr : tds.length ≤ 17592186044416) :
    Calls Tryz.prog 8 #[.agg #[vp, vr]] w fun e w' => e = .returned (.bool (tnb ts tds)) ∧ Below w.heap.size w w' := by
  have B0 := Lib.hid ((Below.refl w.heap.size w).alloc (Nat.le_refl _) (.cells #[vp, vr] 26))
  have BD : Hid (Below w.heap.size w (w.alloc (.cells #[vp, vr] 26)).drew) := below_drw B0.out 1
  have KM := Lib.hid (fun (W : World) (hW : Below w.heap.size w W) => rmay_any vp ts W (hp.below hW) lp)
  have KD := Lib.hid (fun (W : World) (hW : Below w.heap.size w W) => words_any vr tds W (hr.below hW) (by omega))
  have KC := Lib.hid (fun (hm : may ts = true) (W : World) (hW : Below w.heap.size w W) => (rct_may hm ▸ rcount_any vp ts W (hp.below hW) (may_dms hm) lp : Calls Tryz.prog 20 #[vp] W fun e w' => e = .returned (.int .i64 (prod ts)) ∧ W = w'))
  obtain ⟨op, cp, rfl, _, _⟩ := hp
  obtain ⟨od, cd, rfl, _, _⟩ := hr
  obtain ⟨x0, x1, _⟩ := blk2 (show Blk (w.alloc (.cells #[.slice op ts.length cp, .slice od tds.length cd] 26)).drew w.heap.size 26 _ from Blk.new w _ _)
  cases hm : may ts with
  | false =>
    have E : Hid (tnb ts tds = false) := by unfold tnb; rw [hm]; exact Lib.hid (by simp)
    rw [hm] at KM
    clear hm KC
    go_enter Tryz.func8, Tryz.ntmps8
    go_wp2
    refine wp_region_held_drew (S := (fun W => W.cell? ⟨w.heap.size, 0, none⟩ = some (.slice op ts.length cp) ∧ W.cell? ⟨w.heap.size, 1, none⟩ = some (.slice od tds.length cd))) (by kernel_rfl) ?_ (fun hHeld => ?_)
    · exact ⟨x0, x1⟩
    have hHd := hHeld
    (refine wpAnyH_take (i := 0) (oi := ⟨some 3, _, _, _, _, _⟩) (v := ?v0a) rfl (by kernel_rfl) (by kernel_rfl) (by kernel_rfl) (fun _ _ _ h => h) (Or.inl ⟨by rfl, ?hy0a⟩) (by assumption) ?rest0a; (case hy0a => ((intro w hSw); (try dsimp only at hSw); go_simp; first | done | (with_reducible rfl) | (rw [b1]))))
    (try simp only [Act.put, List.setIfInBounds_toArray, List.set_cons_zero, List.set_cons_succ])
    (refine wpAnyH_take (i := 1) (oi := ⟨some 4, _, _, _, _, _⟩) (v := ?v1a) rfl (by kernel_rfl) (by kernel_rfl) (by kernel_rfl) (fun _ _ _ h => h) (Or.inl ⟨by rfl, ?hy1a⟩) (by assumption) ?rest1a; (case hy1a => ((intro w hSw); (try dsimp only at hSw); go_simp; first | done | (with_reducible rfl) | (rw [b1]))))
    (try simp only [Act.put, List.setIfInBounds_toArray, List.set_cons_zero, List.set_cons_succ])
    refine wpAnyH_ready (rs := [2]) (by kernel_rfl) (by simp) ?_
    refine AllReadyH.cons (o := ⟨some 5, _, _, _, _, _⟩) rfl (fun K hK => ?_) AllReadyH.nil
    go_simp
    (go_at_call 28; (with_reducible refine (KM.out _ BD.out).mono ?_); rintro e w' ⟨rfl, rfl⟩)
    refine hK.out _ _ ?_ (fun hHeld => ?_)
    · (try dsimp only)
      assumption
    clear hK K
    (try simp only [Act.put, List.setIfInBounds_toArray, List.set_cons_zero, List.set_cons_succ])
    (refine wpAnyH_take (i := 3) (oi := ⟨some 6, _, _, _, _, _⟩) (v := ?v3a) rfl (by kernel_rfl) (by kernel_rfl) (by kernel_rfl) (fun _ _ _ h => h) (Or.inl ⟨by rfl, ?hy3a⟩) (by assumption) ?rest3a; (case hy3a => ((intro w hSw); (try dsimp only at hSw); go_simp; first | done | (with_reducible rfl) | (rw [b1]))))
    (try simp only [Act.put, List.setIfInBounds_toArray, List.set_cons_zero, List.set_cons_succ])
    (refine wpAnyH_take (i := 4) (oi := ⟨some 7, _, _, _, _, _⟩) (v := _) rfl (by kernel_rfl) (by kernel_rfl) (by kernel_rfl) (fun _ _ _ h => h) (Or.inr ⟨by rfl, rfl⟩) (by assumption) ?_)
    (try simp only [Act.put, List.setIfInBounds_toArray, List.set_cons_zero, List.set_cons_succ])
    (refine wpAnyH_take (i := 5) (oi := ⟨some 8, _, _, _, _, _⟩) (v := _) rfl (by kernel_rfl) (by kernel_rfl) (by kernel_rfl) (fun _ _ _ h => h) (Or.inr ⟨by rfl, rfl⟩) (by assumption) ?_)
    (try simp only [Act.put, List.setIfInBounds_toArray, List.set_cons_zero, List.set_cons_succ])
    (refine wpAnyH_take (i := 6) (oi := ⟨some 9, _, _, _, _, _⟩) (v := _) rfl (by kernel_rfl) (by kernel_rfl) (by kernel_rfl) (fun _ _ _ h => h) (Or.inr ⟨by rfl, rfl⟩) (by assumption) ?_)
    (try simp only [Act.put, List.setIfInBounds_toArray, List.set_cons_zero, List.set_cons_succ])
    (refine wpAnyH_take (i := 7) (oi := ⟨some 10, _, _, _, _, _⟩) (v := _) rfl (by kernel_rfl) (by kernel_rfl) (by kernel_rfl) (fun _ _ _ h => h) (Or.inr ⟨by rfl, rfl⟩) (by assumption) ?_)
    (try simp only [Act.put, List.setIfInBounds_toArray, List.set_cons_zero, List.set_cons_succ])
    (refine wpAnyH_take (i := 8) (oi := ⟨some 11, _, _, _, _, _⟩) (v := _) rfl (by kernel_rfl) (by kernel_rfl) (by kernel_rfl) (fun _ _ _ h => h) (Or.inr ⟨by rfl, rfl⟩) (by assumption) ?_)
    (try simp only [Act.put, List.setIfInBounds_toArray, List.set_cons_zero, List.set_cons_succ])
    (refine wpAnyH_take (i := 9) (oi := ⟨some 12, _, _, _, _, _⟩) (v := _) rfl (by kernel_rfl) (by kernel_rfl) (by kernel_rfl) (fun _ _ _ h => h) (Or.inr ⟨by rfl, rfl⟩) (by assumption) ?_)
    (try simp only [Act.put, List.setIfInBounds_toArray, List.set_cons_zero, List.set_cons_succ])
    (refine wpAnyH_take (i := 10) (oi := ⟨some 13, _, _, _, _, _⟩) (v := _) rfl (by kernel_rfl) (by kernel_rfl) (by kernel_rfl) (fun _ _ _ h => h) (Or.inr ⟨by rfl, rfl⟩) (by assumption) ?_)
    (try simp only [Act.put, List.setIfInBounds_toArray, List.set_cons_zero, List.set_cons_succ])
    (refine wpAnyH_take (i := 11) (oi := ⟨some 14, _, _, _, _, _⟩) (v := ?v11a) rfl (by kernel_rfl) (by kernel_rfl) (by kernel_rfl) (fun _ _ _ h => h) (Or.inl ⟨by rfl, ?hy11a⟩) (by assumption) ?rest11a; (case hy11a => ((intro w hSw); (try dsimp only at hSw); go_simp; first | done | (with_reducible rfl) | (rw [b1]))))
    (try simp only [Act.put, List.setIfInBounds_toArray, List.set_cons_zero, List.set_cons_succ])
    (refine wpAnyH_take (i := 12) (oi := ⟨some 15, _, _, _, _, _⟩) (v := ?v12a) rfl (by kernel_rfl) (by kernel_rfl) (by kernel_rfl) (fun _ _ _ h => h) (Or.inl ⟨by rfl, ?hy12a⟩) (by assumption) ?rest12a; (case hy12a => ((intro w hSw); (try dsimp only at hSw); go_simp; first | done | (with_reducible rfl) | (rw [b1]))))
    (try simp only [Act.put, List.setIfInBounds_toArray, List.set_cons_zero, List.set_cons_succ])
    (refine wpAnyH_take (i := 13) (oi := ⟨some 16, _, _, _, _, _⟩) (v := _) rfl (by kernel_rfl) (by kernel_rfl) (by kernel_rfl) (fun _ _ _ h => h) (Or.inr ⟨by rfl, rfl⟩) (by assumption) ?_)
    (try simp only [Act.put, List.setIfInBounds_toArray, List.set_cons_zero, List.set_cons_succ])
    (refine wpAnyH_take (i := 14) (oi := ⟨some 17, _, _, _, _, _⟩) (v := _) rfl (by kernel_rfl) (by kernel_rfl) (by kernel_rfl) (fun _ _ _ h => h) (Or.inr ⟨by rfl, rfl⟩) (by assumption) ?_)
    (try simp only [Act.put, List.setIfInBounds_toArray, List.set_cons_zero, List.set_cons_succ])
    (refine wpAnyH_take (i := 15) (oi := ⟨some 18, _, _, _, _, _⟩) (v := _) rfl (by kernel_rfl) (by kernel_rfl) (by kernel_rfl) (fun _ _ _ h => h) (Or.inr ⟨by rfl, rfl⟩) (by assumption) ?_)
    (try simp only [Act.put, List.setIfInBounds_toArray, List.set_cons_zero, List.set_cons_succ])
    (refine wpAnyH_take (i := 16) (oi := ⟨some 19, _, _, _, _, _⟩) (v := ?v16a) rfl (by kernel_rfl) (by kernel_rfl) (by kernel_rfl) (fun _ _ _ h => h) (Or.inl ⟨by rfl, ?hy16a⟩) (by assumption) ?rest16a; (case hy16a => ((intro w hSw); (try dsimp only at hSw); go_simp; first | done | (with_reducible rfl) | (rw [b1]))))
    (try simp only [Act.put, List.setIfInBounds_toArray, List.set_cons_zero, List.set_cons_succ])
    (refine wpAnyH_take (i := 17) (oi := ⟨some 2, _, _, _, _, _⟩) (v := ?v17a) rfl (by kernel_rfl) (by kernel_rfl) (by kernel_rfl) (fun _ _ _ h => h) (Or.inl ⟨by rfl, ?hy17a⟩) (by assumption) ?rest17a; (case hy17a => ((intro w hSw); (try dsimp only at hSw); go_simp; first | done | (with_reducible rfl) | (rw [b1]))))
    (try simp only [Act.put, List.setIfInBounds_toArray, List.set_cons_zero, List.set_cons_succ])
    refine wpAnyH_done (by kernel_rfl) ?_ _
    go_wp2
    go_ret
    exact ⟨by rw [E.out]; rfl, BD.out⟩
  | true =>
    have KC2 := Lib.hid (KC.out hm)
    have E0 : Hid (tnb ts tds = (decide ((tds.length : Int) = prod ts) && wds tds)) := by unfold tnb; rw [hm]; exact Lib.hid (by simp)
    rw [hm] at KM
    clear hm KC
    generalize prod ts = n at *
    by_cases q : (tds.length : Int) = n
    · have b1 : ((tds.length : Int) == n) = true := by simpa using q
      have E : Hid (tnb ts tds = wds tds) := by rw [Hid, E0.out, decide_eq_true q, Bool.true_and]
      clear q E0
      go_enter Tryz.func8, Tryz.ntmps8
      go_wp2
      refine wp_region_held_drew (S := (fun W => W.cell? ⟨w.heap.size, 0, none⟩ = some (.slice op ts.length cp) ∧ W.cell? ⟨w.heap.size, 1, none⟩ = some (.slice od tds.length cd))) (by kernel_rfl) ?_ (fun hHeld => ?_)
      · exact ⟨x0, x1⟩
      have hHd := hHeld
      (refine wpAnyH_take (i := 0) (oi := ⟨some 3, _, _, _, _, _⟩) (v := ?v0b) rfl (by kernel_rfl) (by kernel_rfl) (by kernel_rfl) (fun _ _ _ h => h) (Or.inl ⟨by rfl, ?hy0b⟩) (by assumption) ?rest0b; (case hy0b => ((intro w hSw); (try dsimp only at hSw); go_simp; first | done | (with_reducible rfl) | (rw [b1]))))
      (try simp only [Act.put, List.setIfInBounds_toArray, List.set_cons_zero, List.set_cons_succ])
      (refine wpAnyH_take (i := 1) (oi := ⟨some 4, _, _, _, _, _⟩) (v := ?v1b) rfl (by kernel_rfl) (by kernel_rfl) (by kernel_rfl) (fun _ _ _ h => h) (Or.inl ⟨by rfl, ?hy1b⟩) (by assumption) ?rest1b; (case hy1b => ((intro w hSw); (try dsimp only at hSw); go_simp; first | done | (with_reducible rfl) | (rw [b1]))))
      (try simp only [Act.put, List.setIfInBounds_toArray, List.set_cons_zero, List.set_cons_succ])
      refine wpAnyH_ready (rs := [2]) (by kernel_rfl) (by simp) ?_
      refine AllReadyH.cons (o := ⟨some 5, _, _, _, _, _⟩) rfl (fun K hK => ?_) AllReadyH.nil
      go_simp
      (go_at_call 28; (with_reducible refine (KM.out _ BD.out).mono ?_); rintro e w' ⟨rfl, rfl⟩)
      refine hK.out _ _ ?_ (fun hHeld => ?_)
      · (try dsimp only)
        assumption
      clear hK K
      (try simp only [Act.put, List.setIfInBounds_toArray, List.set_cons_zero, List.set_cons_succ])
      (refine wpAnyH_take (i := 3) (oi := ⟨some 6, _, _, _, _, _⟩) (v := ?v3b) rfl (by kernel_rfl) (by kernel_rfl) (by kernel_rfl) (fun _ _ _ h => h) (Or.inl ⟨by rfl, ?hy3b⟩) (by assumption) ?rest3b; (case hy3b => ((intro w hSw); (try dsimp only at hSw); go_simp; first | done | (with_reducible rfl) | (rw [b1]))))
      (try simp only [Act.put, List.setIfInBounds_toArray, List.set_cons_zero, List.set_cons_succ])
      (refine wpAnyH_take (i := 4) (oi := ⟨some 7, _, _, _, _, _⟩) (v := ?v4b) rfl (by kernel_rfl) (by kernel_rfl) (by kernel_rfl) (fun _ _ _ h => h) (Or.inl ⟨by rfl, ?hy4b⟩) (by assumption) ?rest4b; (case hy4b => ((intro w hSw); (try dsimp only at hSw); go_simp; first | done | (with_reducible rfl) | (rw [b1]))))
      (try simp only [Act.put, List.setIfInBounds_toArray, List.set_cons_zero, List.set_cons_succ])
      (refine wpAnyH_take (i := 5) (oi := ⟨some 8, _, _, _, _, _⟩) (v := ?v5b) rfl (by kernel_rfl) (by kernel_rfl) (by kernel_rfl) (fun _ _ _ h => h) (Or.inl ⟨by rfl, ?hy5b⟩) (by assumption) ?rest5b; (case hy5b => ((intro w hSw); (try dsimp only at hSw); go_simp; first | done | (with_reducible rfl) | (rw [b1]))))
      (try simp only [Act.put, List.setIfInBounds_toArray, List.set_cons_zero, List.set_cons_succ])
      (refine wpAnyH_take (i := 6) (oi := ⟨some 9, _, _, _, _, _⟩) (v := ?v6b) rfl (by kernel_rfl) (by kernel_rfl) (by kernel_rfl) (fun _ _ _ h => h) (Or.inl ⟨by rfl, ?hy6b⟩) (by assumption) ?rest6b; (case hy6b => ((intro w hSw); (try dsimp only at hSw); go_simp; first | done | (with_reducible rfl) | (rw [b1]))))
      (try simp only [Act.put, List.setIfInBounds_toArray, List.set_cons_zero, List.set_cons_succ])
      (refine wpAnyH_take (i := 7) (oi := ⟨some 10, _, _, _, _, _⟩) (v := ?v7b) rfl (by kernel_rfl) (by kernel_rfl) (by kernel_rfl) (fun _ _ _ h => h) (Or.inl ⟨by rfl, ?hy7b⟩) (by assumption) ?rest7b; (case hy7b => ((intro w hSw); (try dsimp only at hSw); go_simp; first | done | (with_reducible rfl) | (rw [b1]))))
      (try simp only [Act.put, List.setIfInBounds_toArray, List.set_cons_zero, List.set_cons_succ])
      (refine wpAnyH_take (i := 8) (oi := ⟨some 11, _, _, _, _, _⟩) (v := ?v8b) rfl (by kernel_rfl) (by kernel_rfl) (by kernel_rfl) (fun _ _ _ h => h) (Or.inl ⟨by rfl, ?hy8b⟩) (by assumption) ?rest8b; (case hy8b => ((intro w hSw); (try dsimp only at hSw); go_simp; first | done | (with_reducible rfl) | (rw [b1]))))
      (try simp only [Act.put, List.setIfInBounds_toArray, List.set_cons_zero, List.set_cons_succ])
      refine wpAnyH_ready (rs := [9]) (by kernel_rfl) (by simp) ?_
      refine AllReadyH.cons (o := ⟨some 12, _, _, _, _, _⟩) rfl (fun K hK => ?_) AllReadyH.nil
      go_simp
      (go_at_call 20; (with_reducible refine (KC2.out _ BD.out).mono ?_); rintro e w' ⟨rfl, rfl⟩)
      refine hK.out _ _ ?_ (fun hHeld => ?_)
      · (try dsimp only)
        assumption
      clear hK K
      (try simp only [Act.put, List.setIfInBounds_toArray, List.set_cons_zero, List.set_cons_succ])
      (refine wpAnyH_take (i := 10) (oi := ⟨some 13, _, _, _, _, _⟩) (v := .bool true) rfl (by kernel_rfl) (by kernel_rfl) (by kernel_rfl) (fun _ _ _ h => h) (Or.inl ⟨by rfl, ?hy10b⟩) (by assumption) ?rest10b; (case hy10b => ((intro w hSw); (try dsimp only at hSw); go_simp; first | done | (with_reducible rfl) | (rw [b1]))))
      (try simp only [Act.put, List.setIfInBounds_toArray, List.set_cons_zero, List.set_cons_succ])
      (refine wpAnyH_take (i := 11) (oi := ⟨some 14, _, _, _, _, _⟩) (v := ?v11b) rfl (by kernel_rfl) (by kernel_rfl) (by kernel_rfl) (fun _ _ _ h => h) (Or.inl ⟨by rfl, ?hy11b⟩) (by assumption) ?rest11b; (case hy11b => ((intro w hSw); (try dsimp only at hSw); go_simp; first | done | (with_reducible rfl) | (rw [b1]))))
      (try simp only [Act.put, List.setIfInBounds_toArray, List.set_cons_zero, List.set_cons_succ])
      (refine wpAnyH_take (i := 12) (oi := ⟨some 15, _, _, _, _, _⟩) (v := ?v12b) rfl (by kernel_rfl) (by kernel_rfl) (by kernel_rfl) (fun _ _ _ h => h) (Or.inl ⟨by rfl, ?hy12b⟩) (by assumption) ?rest12b; (case hy12b => ((intro w hSw); (try dsimp only at hSw); go_simp; first | done | (with_reducible rfl) | (rw [b1]))))
      (try simp only [Act.put, List.setIfInBounds_toArray, List.set_cons_zero, List.set_cons_succ])
      (refine wpAnyH_take (i := 13) (oi := ⟨some 16, _, _, _, _, _⟩) (v := ?v13b) rfl (by kernel_rfl) (by kernel_rfl) (by kernel_rfl) (fun _ _ _ h => h) (Or.inl ⟨by rfl, ?hy13b⟩) (by assumption) ?rest13b; (case hy13b => ((intro w hSw); (try dsimp only at hSw); go_simp; first | done | (with_reducible rfl) | (rw [b1]))))
      (try simp only [Act.put, List.setIfInBounds_toArray, List.set_cons_zero, List.set_cons_succ])
      (refine wpAnyH_take (i := 14) (oi := ⟨some 17, _, _, _, _, _⟩) (v := ?v14b) rfl (by kernel_rfl) (by kernel_rfl) (by kernel_rfl) (fun _ _ _ h => h) (Or.inl ⟨by rfl, ?hy14b⟩) (by assumption) ?rest14b; (case hy14b => ((intro w hSw); (try dsimp only at hSw); go_simp; first | done | (with_reducible rfl) | (rw [b1]))))
      (try simp only [Act.put, List.setIfInBounds_toArray, List.set_cons_zero, List.set_cons_succ])
      refine wpAnyH_ready (rs := [15]) (by kernel_rfl) (by simp) ?_
      refine AllReadyH.cons (o := ⟨some 18, _, _, _, _, _⟩) rfl (fun K hK => ?_) AllReadyH.nil
      go_simp
      (go_at_call 29; (with_reducible refine (KD.out _ BD.out).mono ?_); rintro e w' ⟨rfl, rfl⟩)
      refine hK.out _ _ ?_ (fun hHeld => ?_)
      · (try dsimp only)
        assumption
      clear hK K
      (try simp only [Act.put, List.setIfInBounds_toArray, List.set_cons_zero, List.set_cons_succ])
      (refine wpAnyH_take (i := 16) (oi := ⟨some 19, _, _, _, _, _⟩) (v := ?v16b) rfl (by kernel_rfl) (by kernel_rfl) (by kernel_rfl) (fun _ _ _ h => h) (Or.inl ⟨by rfl, ?hy16b⟩) (by assumption) ?rest16b; (case hy16b => ((intro w hSw); (try dsimp only at hSw); go_simp; first | done | (with_reducible rfl) | (rw [b1]))))
      (try simp only [Act.put, List.setIfInBounds_toArray, List.set_cons_zero, List.set_cons_succ])
      (refine wpAnyH_take (i := 17) (oi := ⟨some 2, _, _, _, _, _⟩) (v := ?v17b) rfl (by kernel_rfl) (by kernel_rfl) (by kernel_rfl) (fun _ _ _ h => h) (Or.inl ⟨by rfl, ?hy17b⟩) (by assumption) ?rest17b; (case hy17b => ((intro w hSw); (try dsimp only at hSw); go_simp; first | done | (with_reducible rfl) | (rw [b1]))))
      (try simp only [Act.put, List.setIfInBounds_toArray, List.set_cons_zero, List.set_cons_succ])
      refine wpAnyH_done (by kernel_rfl) ?_ _
      go_wp2
      go_ret
      exact ⟨by rw [E.out]; rfl, BD.out⟩
    · have b1 : ((tds.length : Int) == n) = false := by simpa using q
      have E : Hid (tnb ts tds = false) := by rw [Hid, E0.out, decide_eq_false q, Bool.false_and]
      clear q E0
      go_enter Tryz.func8, Tryz.ntmps8
      go_wp2
      refine wp_region_held_drew (S := (fun W => W.cell? ⟨w.heap.size, 0, none⟩ = some (.slice op ts.length cp) ∧ W.cell? ⟨w.heap.size, 1, none⟩ = some (.slice od tds.length cd))) (by kernel_rfl) ?_ (fun hHeld => ?_)
      · exact ⟨x0, x1⟩
      have hHd := hHeld
      (refine wpAnyH_take (i := 0) (oi := ⟨some 3, _, _, _, _, _⟩) (v := ?v0c) rfl (by kernel_rfl) (by kernel_rfl) (by kernel_rfl) (fun _ _ _ h => h) (Or.inl ⟨by rfl, ?hy0c⟩) (by assumption) ?rest0c; (case hy0c => ((intro w hSw); (try dsimp only at hSw); go_simp; first | done | (with_reducible rfl) | (rw [b1]))))
      (try simp only [Act.put, List.setIfInBounds_toArray, List.set_cons_zero, List.set_cons_succ])
      (refine wpAnyH_take (i := 1) (oi := ⟨some 4, _, _, _, _, _⟩) (v := ?v1c) rfl (by kernel_rfl) (by kernel_rfl) (by kernel_rfl) (fun _ _ _ h => h) (Or.inl ⟨by rfl, ?hy1c⟩) (by assumption) ?rest1c; (case hy1c => ((intro w hSw); (try dsimp only at hSw); go_simp; first | done | (with_reducible rfl) | (rw [b1]))))
      (try simp only [Act.put, List.setIfInBounds_toArray, List.set_cons_zero, List.set_cons_succ])
      refine wpAnyH_ready (rs := [2]) (by kernel_rfl) (by simp) ?_
      refine AllReadyH.cons (o := ⟨some 5, _, _, _, _, _⟩) rfl (fun K hK => ?_) AllReadyH.nil
      go_simp
      (go_at_call 28; (with_reducible refine (KM.out _ BD.out).mono ?_); rintro e w' ⟨rfl, rfl⟩)
      refine hK.out _ _ ?_ (fun hHeld => ?_)
      · (try dsimp only)
        assumption
      clear hK K
      (try simp only [Act.put, List.setIfInBounds_toArray, List.set_cons_zero, List.set_cons_succ])
      (refine wpAnyH_take (i := 3) (oi := ⟨some 6, _, _, _, _, _⟩) (v := ?v3c) rfl (by kernel_rfl) (by kernel_rfl) (by kernel_rfl) (fun _ _ _ h => h) (Or.inl ⟨by rfl, ?hy3c⟩) (by assumption) ?rest3c; (case hy3c => ((intro w hSw); (try dsimp only at hSw); go_simp; first | done | (with_reducible rfl) | (rw [b1]))))
      (try simp only [Act.put, List.setIfInBounds_toArray, List.set_cons_zero, List.set_cons_succ])
      (refine wpAnyH_take (i := 4) (oi := ⟨some 7, _, _, _, _, _⟩) (v := ?v4c) rfl (by kernel_rfl) (by kernel_rfl) (by kernel_rfl) (fun _ _ _ h => h) (Or.inl ⟨by rfl, ?hy4c⟩) (by assumption) ?rest4c; (case hy4c => ((intro w hSw); (try dsimp only at hSw); go_simp; first | done | (with_reducible rfl) | (rw [b1]))))
      (try simp only [Act.put, List.setIfInBounds_toArray, List.set_cons_zero, List.set_cons_succ])
      (refine wpAnyH_take (i := 5) (oi := ⟨some 8, _, _, _, _, _⟩) (v := ?v5c) rfl (by kernel_rfl) (by kernel_rfl) (by kernel_rfl) (fun _ _ _ h => h) (Or.inl ⟨by rfl, ?hy5c⟩) (by assumption) ?rest5c; (case hy5c => ((intro w hSw); (try dsimp only at hSw); go_simp; first | done | (with_reducible rfl) | (rw [b1]))))
      (try simp only [Act.put, List.setIfInBounds_toArray, List.set_cons_zero, List.set_cons_succ])
      (refine wpAnyH_take (i := 6) (oi := ⟨some 9, _, _, _, _, _⟩) (v := ?v6c) rfl (by kernel_rfl) (by kernel_rfl) (by kernel_rfl) (fun _ _ _ h => h) (Or.inl ⟨by rfl, ?hy6c⟩) (by assumption) ?rest6c; (case hy6c => ((intro w hSw); (try dsimp only at hSw); go_simp; first | done | (with_reducible rfl) | (rw [b1]))))
      (try simp only [Act.put, List.setIfInBounds_toArray, List.set_cons_zero, List.set_cons_succ])
      (refine wpAnyH_take (i := 7) (oi := ⟨some 10, _, _, _, _, _⟩) (v := ?v7c) rfl (by kernel_rfl) (by kernel_rfl) (by kernel_rfl) (fun _ _ _ h => h) (Or.inl ⟨by rfl, ?hy7c⟩) (by assumption) ?rest7c; (case hy7c => ((intro w hSw); (try dsimp only at hSw); go_simp; first | done | (with_reducible rfl) | (rw [b1]))))
      (try simp only [Act.put, List.setIfInBounds_toArray, List.set_cons_zero, List.set_cons_succ])
      (refine wpAnyH_take (i := 8) (oi := ⟨some 11, _, _, _, _, _⟩) (v := ?v8c) rfl (by kernel_rfl) (by kernel_rfl) (by kernel_rfl) (fun _ _ _ h => h) (Or.inl ⟨by rfl, ?hy8c⟩) (by assumption) ?rest8c; (case hy8c => ((intro w hSw); (try dsimp only at hSw); go_simp; first | done | (with_reducible rfl) | (rw [b1]))))
      (try simp only [Act.put, List.setIfInBounds_toArray, List.set_cons_zero, List.set_cons_succ])
      refine wpAnyH_ready (rs := [9]) (by kernel_rfl) (by simp) ?_
      refine AllReadyH.cons (o := ⟨some 12, _, _, _, _, _⟩) rfl (fun K hK => ?_) AllReadyH.nil
      go_simp
      (go_at_call 20; (with_reducible refine (KC2.out _ BD.out).mono ?_); rintro e w' ⟨rfl, rfl⟩)
      refine hK.out _ _ ?_ (fun hHeld => ?_)
      · (try dsimp only)
        assumption
      clear hK K
      (try simp only [Act.put, List.setIfInBounds_toArray, List.set_cons_zero, List.set_cons_succ])
      (refine wpAnyH_take (i := 10) (oi := ⟨some 13, _, _, _, _, _⟩) (v := .bool false) rfl (by kernel_rfl) (by kernel_rfl) (by kernel_rfl) (fun _ _ _ h => h) (Or.inl ⟨by rfl, ?hy10c⟩) (by assumption) ?rest10c; (case hy10c => ((intro w hSw); (try dsimp only at hSw); go_simp; first | done | (with_reducible rfl) | (rw [b1]))))
      (try simp only [Act.put, List.setIfInBounds_toArray, List.set_cons_zero, List.set_cons_succ])
      (refine wpAnyH_take (i := 11) (oi := ⟨some 14, _, _, _, _, _⟩) (v := ?v11c) rfl (by kernel_rfl) (by kernel_rfl) (by kernel_rfl) (fun _ _ _ h => h) (Or.inl ⟨by rfl, ?hy11c⟩) (by assumption) ?rest11c; (case hy11c => ((intro w hSw); (try dsimp only at hSw); go_simp; first | done | (with_reducible rfl) | (rw [b1]))))
      (try simp only [Act.put, List.setIfInBounds_toArray, List.set_cons_zero, List.set_cons_succ])
      (refine wpAnyH_take (i := 12) (oi := ⟨some 15, _, _, _, _, _⟩) (v := ?v12c) rfl (by kernel_rfl) (by kernel_rfl) (by kernel_rfl) (fun _ _ _ h => h) (Or.inl ⟨by rfl, ?hy12c⟩) (by assumption) ?rest12c; (case hy12c => ((intro w hSw); (try dsimp only at hSw); go_simp; first | done | (with_reducible rfl) | (rw [b1]))))
      (try simp only [Act.put, List.setIfInBounds_toArray, List.set_cons_zero, List.set_cons_succ])
      (refine wpAnyH_take (i := 13) (oi := ⟨some 16, _, _, _, _, _⟩) (v := _) rfl (by kernel_rfl) (by kernel_rfl) (by kernel_rfl) (fun _ _ _ h => h) (Or.inr ⟨by rfl, rfl⟩) (by assumption) ?_)
      (try simp only [Act.put, List.setIfInBounds_toArray, List.set_cons_zero, List.set_cons_succ])
      (refine wpAnyH_take (i := 14) (oi := ⟨some 17, _, _, _, _, _⟩) (v := _) rfl (by kernel_rfl) (by kernel_rfl) (by kernel_rfl) (fun _ _ _ h => h) (Or.inr ⟨by rfl, rfl⟩) (by assumption) ?_)
      (try simp only [Act.put, List.setIfInBounds_toArray, List.set_cons_zero, List.set_cons_succ])
      (refine wpAnyH_take (i := 15) (oi := ⟨some 18, _, _, _, _, _⟩) (v := _) rfl (by kernel_rfl) (by kernel_rfl) (by kernel_rfl) (fun _ _ _ h => h) (Or.inr ⟨by rfl, rfl⟩) (by assumption) ?_)
      (try simp only [Act.put, List.setIfInBounds_toArray, List.set_cons_zero, List.set_cons_succ])
      (refine wpAnyH_take (i := 16) (oi := ⟨some 19, _, _, _, _, _⟩) (v := ?v16c) rfl (by kernel_rfl) (by kernel_rfl) (by kernel_rfl) (fun _ _ _ h => h) (Or.inl ⟨by rfl, ?hy16c⟩) (by assumption) ?rest16c; (case hy16c => ((intro w hSw); (try dsimp only at hSw); go_simp; first | done | (with_reducible rfl) | (rw [b1]))))
      (try simp only [Act.put, List.setIfInBounds_toArray, List.set_cons_zero, List.set_cons_succ])
      (refine wpAnyH_take (i := 17) (oi := ⟨some 2, _, _, _, _, _⟩) (v := ?v17c) rfl (by kernel_rfl) (by kernel_rfl) (by kernel_rfl) (fun _ _ _ h => h) (Or.inl ⟨by rfl, ?hy17c⟩) (by assumption) ?rest17c; (case hy17c => ((intro w hSw); (try dsimp only at hSw); go_simp; first | done | (with_reducible rfl) | (rw [b1]))))
      (try simp only [Act.put, List.setIfInBounds_toArray, List.set_cons_zero, List.set_cons_succ])
      refine wpAnyH_done (by kernel_rfl) ?_ _
      go_wp2
      go_ret
      exact ⟨by rw [E.out]; rfl, BD.out⟩
end Go.Proofs.YtpfcjajmfadcbaaGreat
