/-
  package elem: the operations of two words, and Two of any of them.
  What is spread tells what its words laid out in the spread shape tell: plain mathematics.
  What each law of package elem ends with: a sum. What is played.
  A list of pairs of tensors, operations, words and fraction bits that came in, opened to the cells of its elements.
  The statements' counts of fraction bits.
  Words laid where indexes stand; which places are taken; plain mathematics.
  slices.Clone of words.
  The reference's views: which may be, axes, the plain one.
  view.Reshape; the reference's plain view.
  The view laws' own helpers: views held against one another, copied, written over, asked.
  Of the references that the laws of package view call: words copied and spoilt, where an index stands.
-/
import Derived.Deep.Slices
import Derived.Deep.Fields
import Derived.ProofKit
import Derived.Carry
import Derived.SizedLaws
import Derived.Deep.QuietTactic
import Derived.BigQuiet
import Derived.Deep.DeepBigQuietO
import Derived.Test.YtpfcjajmfadcbaaM01
import Derived.Test.YtpfcjajmfadcbaaM03
import Derived.Test.YtpfcjajmfadcbaaM04
import Derived.Test.YtpfcjajmfadcbaaM05
import Derived.Test.YtpfcjajmfadcbaaM06
import Derived.Test.YtpfcjajmfadcbaaM09
namespace Go.Proofs.Ytpfcjajmfadcbaa
open Go Go.RowKit Go.Shelf

/-- What an operation of two words tells. -/
def v2 (op : Int) (f : Nat) (a b : Int) : Int := if op = 3 then tw (a + b) else if op = 4 then tw (a - b) else if op = 5 then tw (rd (a * b) (2 ^ f)) else if b = 0 then 0 else tw (rd (a * 2 ^ f) b)
/-- Its error. -/
def e2 (op : Int) (f : Nat) (a b : Int) : Int := if op = 3 then te (a + b) else if op = 4 then te (a - b) else if op = 5 then te (rd (a * b) (2 ^ f)) else if b = 0 then 4 else te (rd (a * 2 ^ f) b)

set_option maxRecDepth 100000 in
set_option maxHeartbeats 2000000 in
theorem psum_any (a b : Int) (f : Nat) (w : World) (ga : wd a = true) (gb : wd b = true) : Calls Try.prog 34 #[.agg #[.int .i64 a, .int .i64 b, .int .i64 f]] w fun e w' => e = .returned (.tuple #[.int .i64 (v2 3 f a b), .int .i64 (e2 3 f a b)]) ∧ Below w.heap.size w w' := by
  have B0 := Lib.hid ((Below.refl w.heap.size w).alloc (Nat.le_refl _) (.cells #[.int .i64 a, .int .i64 b, .int .i64 f] 65))
  have C := Lib.hid (fun W : World => fxadd_any a b W ga gb)
  clear ga gb
  go_enter Try.func34, Try.ntmps34
  go_wp2_with (go_at_call 47; (with_reducible refine (C.out _).mono ?_); rintro e w' ⟨rfl, rfl⟩)
  go_ret2
  exact ⟨rfl, B0.out⟩

set_option maxRecDepth 100000 in
set_option maxHeartbeats 2000000 in
theorem pdiff_any (a b : Int) (f : Nat) (w : World) (ga : wd a = true) (gb : wd b = true) : Calls Try.prog 35 #[.agg #[.int .i64 a, .int .i64 b, .int .i64 f]] w fun e w' => e = .returned (.tuple #[.int .i64 (v2 4 f a b), .int .i64 (e2 4 f a b)]) ∧ Below w.heap.size w w' := by
  have B0 := Lib.hid ((Below.refl w.heap.size w).alloc (Nat.le_refl _) (.cells #[.int .i64 a, .int .i64 b, .int .i64 f] 65))
  have C := Lib.hid (fun W : World => fxsub_any a b W ga gb)
  clear ga gb
  go_enter Try.func35, Try.ntmps35
  go_wp2_with (go_at_call 48; (with_reducible refine (C.out _).mono ?_); rintro e w' ⟨rfl, rfl⟩)
  go_ret2
  exact ⟨rfl, B0.out⟩

set_option maxRecDepth 100000 in
set_option maxHeartbeats 2000000 in
theorem pprod_any (a b : Int) (f : Nat) (w : World) (ga : wd a = true) (gb : wd b = true) (gf : fb f = true) : Calls Try.prog 36 #[.agg #[.int .i64 a, .int .i64 b, .int .i64 f]] w fun e w' => e = .returned (.tuple #[.int .i64 (v2 5 f a b), .int .i64 (e2 5 f a b)]) ∧ Below w.heap.size w w' := by
  have B0 := Lib.hid ((Below.refl w.heap.size w).alloc (Nat.le_refl _) (.cells #[.int .i64 a, .int .i64 b, .int .i64 f] 65))
  have C := Lib.hid (fun W : World => fxmul_any a b f W ga gb gf)
  clear ga gb gf
  go_enter Try.func36, Try.ntmps36
  go_wp2_with (go_at_call 49; (with_reducible refine (C.out _).mono ?_); rintro e w' ⟨rfl, hb⟩)
  go_ret2
  exact ⟨rfl, B0.out.trans (hb.mono (by simp))⟩

set_option maxRecDepth 100000 in
set_option maxHeartbeats 2000000 in
theorem pquot_any (a b : Int) (f : Nat) (w : World) (ga : wd a = true) (gb : wd b = true) (gf : fb f = true) : Calls Try.prog 37 #[.agg #[.int .i64 a, .int .i64 b, .int .i64 f]] w fun e w' => e = .returned (.tuple #[.int .i64 (v2 6 f a b), .int .i64 (e2 6 f a b)]) ∧ Below w.heap.size w w' := by
  have B0 := Lib.hid ((Below.refl w.heap.size w).alloc (Nat.le_refl _) (.cells #[.int .i64 a, .int .i64 b, .int .i64 f] 65))
  have C : Hid (∀ W : World, Calls Try.prog 50 #[.int .i64 a, .int .i64 b, .int .i64 f] W fun e w' => e = .returned (.tuple #[.int .i64 (v2 6 f a b), .int .i64 (e2 6 f a b)]) ∧ Below W.heap.size W w') := Lib.hid (fun W => by
    by_cases h : b = 0
    · have := fxdiv_zero a b f W ga gb gf h
      subst h
      exact this
    · have := fxdiv_any a b f W ga gb gf h
      unfold v2 e2
      rw [if_neg h, if_neg h]
      exact this)
  clear ga gb gf
  generalize v2 6 f a b = x at *
  generalize e2 6 f a b = y at *
  go_enter Try.func37, Try.ntmps37
  go_wp2_with (go_at_call 50; (with_reducible refine (C.out _).mono ?_); rintro e w' ⟨rfl, hb⟩)
  go_ret2
  exact ⟨rfl, B0.out.trans (hb.mono (by simp))⟩

/-- Two, of any operation. -/
theorem two_any (op : Int) (f : Nat) (va vda vb vdb : Value) (sa da sb db : List Int) (w : World) (ha : Ld w va sa) (hda : Ld w vda da) (hb : Ld w vb sb) (hdb : Ld w vdb db) (ta : tnb sa da = true) (tb : tnb sb db = true) (hf : fb f = true) (h3 : 3 ≤ op) (h6 : op ≤ 6) :
    Calls Try.prog 12 #[.int .i64 op, .agg #[va, vda], .agg #[vb, vdb], .int .i64 f] w (SomeT w (twe (e2 op f) sa da sb db) (unl (twe (e2 op f) sa da sb db) (spv sa sb)) (unl (twe (e2 op f) sa da sb db) (twv (v2 op f) sa da sb db))) := by
  have h : op = 3 ∨ op = 4 ∨ op = 5 ∨ op = 6 := by omega
  rcases h with rfl | rfl | rfl | rfl
  · exact two_gen 34 3 f 0 _ _ va vda vb vdb sa da sb db w ha hda hb hdb ta tb hf rfl (enters_of Try.func34 (by kernel_rfl) rfl) (fun a b W x y => psum_any a b f W x y)
  · exact two_gen 35 4 f 1 _ _ va vda vb vdb sa da sb db w ha hda hb hdb ta tb hf rfl (enters_of Try.func35 (by kernel_rfl) rfl) (fun a b W x y => pdiff_any a b f W x y)
  · exact two_gen 36 5 f 2 _ _ va vda vb vdb sa da sb db w ha hda hb hdb ta tb hf rfl (enters_of Try.func36 (by kernel_rfl) rfl) (fun a b W x y => pprod_any a b f W x y hf)
  · exact two_gen 37 6 f 3 _ _ va vda vb vdb sa da sb db w ha hda hb hdb ta tb hf rfl (enters_of Try.func37 (by kernel_rfl) rfl) (fun a b W x y => pquot_any a b f W x y hf)
end Go.Proofs.Ytpfcjajmfadcbaa
namespace Go.Proofs.Ytpfcjajmfadcbaa

theorem dot_same : ∀ (x y u v : List Int), x.length = y.length → u.length = v.length → x.length = u.length → (∀ j, j < x.length → x.getD j 0 * u.getD j 0 = y.getD j 0 * v.getD j 0) → dot x u = dot y v
  | [], [], [], [], _, _, _, _ => rfl
  | a :: x, b :: y, c :: u, d :: v, h1, h2, h3, h => by
    have h0 := h 0 (by simp)
    simp only [List.getD_cons_zero] at h0
    have hr := dot_same x y u v (by simpa using h1) (by simpa using h2) (by simpa using h3) (fun j hj => by
      have := h (j + 1) (by simp; omega)
      simpa using this)
    show c * a + dot x u = d * b + dot y v
    rw [hr, Int.mul_comm c a, h0, Int.mul_comm b d]
  | [], _ :: _, _, _, h1, _, _, _ => by simp at h1
  | _ :: _, [], _, _, h1, _, _, _ => by simp at h1
  | _, _, [], _ :: _, _, h2, _, _ => by simp at h2
  | _, _, _ :: _, [], _, h2, _, _ => by simp at h2
  | [], [], _ :: _, _ :: _, _, _, h3, _ => by simp at h3
  | _ :: _, _ :: _, [], [], _, _, h3, _ => by simp at h3
theorem dot_skip : ∀ (a : Nat) (x u : List Int), (∀ j, j < a → x.getD j 0 = 0) → dot x u = dot (x.drop a) (u.drop a)
  | 0, _, _, _ => by simp
  | a + 1, [], u, _ => by simp [dot]
  | a + 1, c :: x, [], _ => by simp [dot]
  | a + 1, c :: x, d :: u, h => by
    have h0 := h 0 (by omega)
    simp only [List.getD_cons_zero] at h0
    have := dot_skip a x u (fun j hj => by
      have := h (j + 1) (by omega)
      simpa using this)
    show d * c + dot x u = dot (x.drop a) (u.drop a)
    rw [h0, this]; omega
theorem far_dot : ∀ (st s : List Int), far st s = dot st (s.map (· - 1))
  | [], [] => rfl
  | [], _ :: _ => by simp [far, dot]
  | _ :: _, [] => by simp [far, dot]
  | c :: st, d :: s => by
    show (d - 1) * c + far st s = (d - 1) * c + dot st (s.map (· - 1))
    rw [far_dot st s]
theorem last_inx {s : List Int} (h : pos s) : inx s (s.map (· - 1)) = true := by
  rw [inx_iff]
  refine ⟨by simp, fun k hk => ?_⟩
  have h1 := h _ (getD_mem hk)
  have e : (s.map (· - 1)).getD k 0 = s.getD k 0 - 1 := by simp [List.getD, List.getElem?_eq_getElem hk]
  rw [e]
  omega
theorem wsn_getD (sh st s : List Int) (hl : sh.length ≤ s.length) : ∀ (k : Nat), k ≤ sh.length → ∀ j, j < s.length → (wsn sh st s k).getD j 0 = if s.length - sh.length ≤ j ∧ j - (s.length - sh.length) < k ∧ sh.getD (j - (s.length - sh.length)) 0 = s.getD j 0 then st.getD (j - (s.length - sh.length)) 0 else 0
  | 0, _, j, hj => by
    rw [if_neg (by omega)]
    simp [wsn, List.getD, hj]
  | k + 1, hk, j, hj => by
    obtain ⟨a, ha⟩ : ∃ a, a = s.length - sh.length := ⟨_, rfl⟩
    have ih := wsn_getD sh st s hl k (by omega) j hj
    have hw := wsn_len sh st s k
    unfold wsn
    rw [← ha] at ih ⊢
    by_cases e : sh.getD k 0 = s.getD (k + a) 0
    · rw [if_pos e]
      by_cases hjk : j = k + a
      · have hj2 : j - a = k := by omega
        rw [hj2, if_pos ⟨by omega, by omega, by rw [hjk]; exact e⟩]
        subst hjk
        simp only [List.getD_eq_getElem?_getD, List.getElem?_set]
        rw [if_pos trivial, if_pos (by omega)]; rfl
      · have : ((wsn sh st s k).set (k + a) (st.getD k 0)).getD j 0 = (wsn sh st s k).getD j 0 := by
          simp only [List.getD_eq_getElem?_getD, List.getElem?_set]
          rw [if_neg (Ne.symm hjk)]
        rw [this, ih]
        by_cases c : a ≤ j ∧ j - a < k ∧ sh.getD (j - a) 0 = s.getD j 0
        · rw [if_pos c, if_pos ⟨c.1, by omega, c.2.2⟩]
        · rw [if_neg c, if_neg (fun h => c ⟨h.1, by omega, h.2.2⟩)]
    · rw [if_neg e, ih]
      by_cases c : a ≤ j ∧ j - a < k ∧ sh.getD (j - a) 0 = s.getD j 0
      · rw [if_pos c, if_pos ⟨c.1, by omega, c.2.2⟩]
      · rw [if_neg c, if_neg (fun h => by
          by_cases hjk : j = k + a
          · exact e (by have := h.2.2; rw [show j - a = k by omega] at this; rw [← hjk]; exact this)
          · exact c ⟨h.1, by omega, h.2.2⟩)]
theorem wst_len (sh st s : List Int) : (wst sh st s).length = s.length := wsn_len sh st s _
theorem goes_parts {s t : List Int} (ms : may s = true) (mt : may t = true) (g : goes s t = true) : s.length ≤ t.length ∧ ∀ j, j < s.length → s.getD j 0 = 1 ∨ s.getD j 0 = t.getD (j + (t.length - s.length)) 0 := by
  rw [goes_is ms mt] at g
  simp only [Bool.and_eq_true, decide_eq_true_eq, gN_iff] at g
  refine ⟨g.1, fun j hj => ?_⟩
  have := g.2 (s.length - j) (by omega) (by omega)
  rw [ov_at hj] at this
  have e : ov t (s.length - j) = t.getD (j + (t.length - s.length)) 0 := by
    rw [show s.length - j = t.length - (j + (t.length - s.length)) by omega]
    exact ov_at (by omega)
  rwa [e] at this
/-- The widened strides' places are what stands under an index. -/
theorem dot_wst {sa s i : List Int} (ma : may sa = true) (ms : may s = true) (g : goes sa s = true) (hi : inx s i = true) : dot (wst sa (stl sa) s) i = und sa i := by
  obtain ⟨hl, hg⟩ := goes_parts ma ms g
  obtain ⟨il, ib⟩ := inx_iff.1 hi
  have hwl := wst_len sa (stl sa) s
  have hsl := stl_len sa
  have hW := wsn_getD sa (stl sa) s hl sa.length (Nat.le_refl _)
  rw [dot_skip (s.length - sa.length) (wst sa (stl sa) s) i (fun j hj => by
    show (wsn _ _ _ _).getD j 0 = 0
    rw [hW j (by omega), if_neg (by omega)])]
  have hll : sa.length = (lst sa i).length := lst_len (by omega)
  unfold und
  rw [← dot_stl sa _ (msk_len sa _ hll).symm]
  refine dot_same _ _ _ _ (by simp; omega) (by rw [msk_len sa _ hll]; simp; omega) (by simp; omega) (fun j hj => ?_)
  have hj' : j < sa.length := by simp at hj; omega
  have e1 : ((wst sa (stl sa) s).drop (s.length - sa.length)).getD j 0 = (wst sa (stl sa) s).getD (s.length - sa.length + j) 0 := by simp [List.getD]
  have e2 : (i.drop (s.length - sa.length)).getD j 0 = i.getD (s.length - sa.length + j) 0 := by simp [List.getD]
  have e3 : (wst sa (stl sa) s).getD (s.length - sa.length + j) 0 = if sa.getD j 0 = s.getD (s.length - sa.length + j) 0 then (stl sa).getD j 0 else 0 := by
    show (wsn _ _ _ _).getD _ 0 = _
    rw [hW _ (by omega), show s.length - sa.length + j - (s.length - sa.length) = j by omega]
    by_cases c : sa.getD j 0 = s.getD (s.length - sa.length + j) 0
    · rw [if_pos ⟨by omega, hj', c⟩, if_pos c]
    · rw [if_neg (fun h => c h.2.2), if_neg c]
  rw [e1, e2, e3, msk_getD sa _ j hll hj', lst_getD (by omega), show j + i.length - sa.length = s.length - sa.length + j by omega]
  have hb := ib (s.length - sa.length + j) (by omega)
  have hgj := hg j hj'
  rw [show j + (s.length - sa.length) = s.length - sa.length + j by omega] at hgj
  by_cases c : sa.getD j 0 = s.getD (s.length - sa.length + j) 0
  · rw [if_pos c]
    by_cases c1 : 1 < sa.getD j 0
    · rw [if_pos c1]
    · rw [if_neg c1, show i.getD (s.length - sa.length + j) 0 = 0 by omega]
  · rw [if_neg c, if_neg (by omega)]; omega
theorem sts_wst {sa s : List Int} (ma : may sa = true) (ms : may s = true) (g : goes sa s = true) : sts (wst sa (stl sa) s) := by
  obtain ⟨hl, _⟩ := goes_parts ma ms g
  intro x hx
  obtain ⟨j, hj, rfl⟩ := List.mem_iff_getElem.1 hx
  have hwl := wst_len sa (stl sa) s
  have e : (wst sa (stl sa) s).getD j 0 = (wst sa (stl sa) s)[j] := by simp [List.getD, List.getElem?_eq_getElem hj]
  rw [← e]
  show 0 ≤ (wsn _ _ _ _).getD j 0 ∧ (wsn _ _ _ _).getD j 0 ≤ 65536
  rw [wsn_getD sa (stl sa) s hl sa.length (Nat.le_refl _) j (by omega)]
  split
  · rename_i c
    rw [stl_getD sa _ (by omega)]
    have := may_drop ma (j - (s.length - sa.length) + 1)
    omega
  · omega
/-- What is widened to a shape that it spreads to is a view of its own words. -/
theorem vw_wst {sa s : List Int} {n : Int} (ma : may sa = true) (ms : may s = true) (g : goes sa s = true) (hn : n = prod sa) : Vw s (wst sa (stl sa) s) 0 n := by
  have hp := may_prod ma
  have hi := last_inx (may_pos ms)
  have hf : far (wst sa (stl sa) s) s = und sa (s.map (· - 1)) := by rw [far_dot, dot_wst ma ms g hi]
  have hb := ix_bd (under_inx ma ms g hi)
  refine ⟨ms, wst_len _ _ _, sts_wst ma ms g, by omega, by omega, by omega, ?_⟩
  rw [hf, hn]
  unfold und
  omega
theorem vw_stl {sa : List Int} {n : Int} (ma : may sa = true) (hn : n = prod sa) : Vw sa (stl sa) 0 n := by
  have hp := may_prod ma
  refine ⟨ma, stl_len _, fun x hx => ?_, by omega, by omega, by omega, ?_⟩
  · obtain ⟨j, hj, rfl⟩ := List.mem_iff_getElem.1 hx
    have e : (stl sa).getD j 0 = (stl sa)[j] := by simp [List.getD, List.getElem?_eq_getElem hj]
    rw [← e, stl_getD sa j (by rw [stl_len] at hj; exact hj)]
    have := may_drop ma (j + 1)
    omega
  · rw [far_stl]; omega
/-- A tensor's words, laid out in a shape that it spreads to. -/
def lay (sa da s : List Int) (N : Nat) : List Int := cps s (wst sa (stl sa) s) 0 da N
theorem lay_tx {sa da s : List Int} {n N : Nat} (ma : may sa = true) (ms : may s = true) (g : goes sa s = true) (hN : (N : Int) = prod s) (hn : n < N) : txa s (lay sa da s N) s n = txa sa da s n := by
  have hi := atl_inx s (n : Nat) (may_pos ms) (by omega) (by omega)
  unfold txa lay
  rw [und_same hi, ix_atl s (n : Nat) (may_pos ms) (by omega) (by omega), Int.toNat_natCast, cps_getD hn, dot_wst ma ms g hi, Int.zero_add]
theorem fer_same {a b : Nat → Int} : ∀ {n : Nat}, (∀ k, k < n → a k = b k) → fer a n = fer b n
  | 0, _ => rfl
  | n + 1, h => by
    unfold fer
    rw [fer_same (fun k hk => h k (by omega)), h n (by omega)]
theorem vls_same {a b : Nat → Int} {n : Nat} (h : ∀ k, k < n → a k = b k) : vls a n = vls b n := by
  unfold vls
  exact List.map_congr_left (fun k hk => h k (List.mem_range.1 hk))
theorem tw_lay {sa da sb db : List Int} (ef : Int → Int → Int) {N : Nat} (ma : may sa = true) (mb : may sb = true) (hs : spe sa sb = 0) (hN : (N : Int) = prod (spv sa sb)) :
    twe ef (spv sa sb) (lay sa da (spv sa sb) N) (spv sa sb) (lay sb db (spv sa sb) N) = twe ef sa da sb db ∧ twv ef (spv sa sb) (lay sa da (spv sa sb) N) (spv sa sb) (lay sb db (spv sa sb) N) = twv ef sa da sb db := by
  obtain ⟨ms, ga⟩ := goes_spv ma hs
  have gb : goes sb (spv sa sb) = true := by rw [spv_sym]; exact (goes_spv mb (by rw [spe_sym]; exact hs)).2
  obtain ⟨s0, s1⟩ := spe_self ms
  have hN2 : (prod (spv sa sb)).toNat = N := by omega
  unfold twe twv
  rw [s0, s1, hs, if_pos rfl, if_pos rfl, hN2]
  exact ⟨fer_same (fun n hn => by rw [lay_tx ma ms ga hN hn, lay_tx mb ms gb hN hn]), vls_same (fun n hn => by rw [lay_tx ma ms ga hN hn, lay_tx mb ms gb hN hn])⟩
theorem tw_sym {ef : Int → Int → Int} (h : ∀ a b, ef a b = ef b a) (sa da sb db : List Int) : twe ef sb db sa da = twe ef sa da sb db ∧ twv ef sb db sa da = twv ef sa da sb db := by
  unfold twe twv
  rw [spe_sym sb sa, spv_sym sb sa]
  have e : (fun n => ef (txa sb db (spv sa sb) n) (txa sa da (spv sa sb) n)) = fun n => ef (txa sa da (spv sa sb) n) (txa sb db (spv sa sb) n) := by
    funext n; exact h _ _
  rw [e]
  exact ⟨rfl, rfl⟩
end Go.Proofs.Ytpfcjajmfadcbaa
namespace Go.Proofs.Ytpfcjajmfadcbaa
open Go.RowKit Go.Shelf

theorem num8_any (x : Int) (w : World) : Calls Try.prog 13 #[.int .i64 x] w fun e w' => e = .returned (.int .i64 x) ∧ w = w' := by
  go_enter Try.func13, Try.ntmps13
  go_wp2
  go_ret
  exact ⟨rfl, rfl⟩
/-- More words than are played? -/
def hv8 (m : Int) (s d : List Int) : Bool := decide (m < d.length) || decide (8 < s.length)
theorem hv8_no {m : Int} {s d : List Int} (h : hv8 m s d = false) : (d.length : Int) ≤ m ∧ s.length ≤ 8 := by
  unfold hv8 at h
  simp only [Bool.or_eq_false_iff, decide_eq_false_iff_not] at h
  omega
set_option maxRecDepth 100000 in
set_option maxHeartbeats 2000000 in
theorem heavy8_any (va vb : Value) (s d : List Int) (m : Int) (w : World) (ha : Ld w va s) (hb : Ld w vb d) (l1 : s.length ≤ 9223372036854775807) (_l2 : d.length ≤ 9223372036854775807) :
    Calls Try.prog 4 #[.agg #[va, vb], .int .i64 m] w fun e w' => e = .returned (.bool (hv8 m s d)) ∧ Below w.heap.size w w' := by
  obtain ⟨os, cs, rfl, _, _⟩ := ha
  obtain ⟨od, cd, rfl, _, _⟩ := hb
  obtain ⟨Q, hQ⟩ : ∃ Q, Q = hv8 m s d := ⟨_, rfl⟩
  rw [← hQ]
  unfold hv8 at hQ
  generalize s.length = ns at *
  generalize d.length = nd at *
  have hB0 : Below w.heap.size w (w.alloc (.cells #[.slice os ns cs, .slice od nd cd] 26)) := (Below.refl _ _).alloc (Nat.le_refl _) _
  by_cases g1 : m < nd
  · have E : Hid (Q = true) := by rw [hQ, decide_eq_true g1]; exact Lib.hid rfl
    clear hQ
    go_enter Try.func4, Try.ntmps4
    go_wp2
    go_ret
    exact ⟨by rw [E.out]; first | rfl | (show Ending.returned (.bool _) = _; congr 2; simp; omega), hB0⟩
  · by_cases g2 : 8 < ns
    · have E : Hid (Q = true) := by rw [hQ, decide_eq_true g2]; exact Lib.hid (by simp)
      clear hQ
      go_enter Try.func4, Try.ntmps4
      go_wp2
      go_ret
      exact ⟨by rw [E.out]; first | rfl | (show Ending.returned (.bool _) = _; congr 2; simp; omega), hB0⟩
    · have E : Hid (Q = false) := by rw [hQ, decide_eq_false g1, decide_eq_false g2]; exact Lib.hid rfl
      clear hQ
      go_enter Try.func4, Try.ntmps4
      go_wp2
      go_ret
      exact ⟨by rw [E.out]; first | rfl | (show Ending.returned (.bool _) = _; congr 2; simp; omega), hB0⟩
/-- A told tensor reads as its lists. -/
theorem someT_ld {w W : World} {er : Int} {sh ds : List Int} {e : Ending} (h : SomeT w er sh ds e W) : ∃ vs vd, e = .returned (.tuple #[.agg #[vs, vd], .int .i64 er]) ∧ Ld W vs sh ∧ Ld W vd ds ∧ Below w.heap.size w W := by
  obtain ⟨os, cs, od, cd, rfl, h1, h2, hb⟩ := h
  obtain ⟨_, _, e1, h3⟩ := Ld.of_owns h1
  obtain ⟨_, _, e2, h4⟩ := Ld.of_owns h2
  simp only [Value.slice.injEq] at e1 e2
  obtain ⟨rfl, _, rfl⟩ := e1
  obtain ⟨rfl, _, rfl⟩ := e2
  exact ⟨_, _, rfl, h3, h4, hb⟩
theorem sum8 (W : World) (va vda vb vdb : Value) (ha : Ld W va [2]) (hda : Ld W vda [1, 2]) (hb : Ld W vb [2]) (hdb : Ld W vdb [1, 2]) : Calls Try.prog 12 #[.int .i64 3, .agg #[va, vda], .agg #[vb, vdb], .int .i64 8] W fun e w' => ∃ o c o2 c2, e = .returned (.tuple #[.agg #[.slice o 1 c, .slice o2 2 c2], .int .i64 0]) ∧ Ld w' (.slice o2 2 c2) [2, 4] ∧ Below W.heap.size W w' := by
  have h := two_any 3 8 va vda vb vdb [2] [1, 2] [2] [1, 2] W ha hda hb hdb (by decide) (by decide) (by decide) (by decide) (by decide)
  rw [show twe (e2 3 8) [2] [1, 2] [2] [1, 2] = 0 by decide, show unl 0 (spv [2] [2]) = [2] by decide, show unl 0 (twv (v2 3 8) [2] [1, 2] [2] [1, 2]) = [2, 4] by decide] at h
  refine h.mono fun e w' hh => ?_
  obtain ⟨vs, vd, rfl, h1, h2, hb⟩ := someT_ld hh
  obtain ⟨o, c, rfl, _, _⟩ := h1
  obtain ⟨o2, c2, rfl, _, _⟩ := id h2
  exact ⟨o, c, o2, c2, rfl, h2, hb⟩
theorem eq8 (W : World) (va vb : Value) (ha : Ld W va [2, 4]) (hb : Ld W vb [2, 4]) : Calls Try.prog 32 #[va, vb] W fun e w' => e = .returned (.bool true) ∧ Below W.heap.size W w' := by
  have C4 := eqw_any va vb [2, 4] [2, 4] W ha hb (by decide) (by decide)
  rwa [show decide ([(2 : Int), 4] = [2, 4]) = true by decide] at C4
theorem ld1 {W : World} {n : Nat} {t : TypeId} {x : Int} (h : W.heap.size = n) : Ld (W.alloc (.cells #[.int .i64 x] t)) (.slice (some ⟨n, 0, none⟩) 1 1) [x] := by
  subst h; exact Ld.of_blk (ls := [x]) (Blk.new W t _) (Nat.le_refl _)
theorem ld2 {W : World} {n : Nat} {t : TypeId} {x y : Int} (h : W.heap.size = n) : Ld (W.alloc (.cells #[.int .i64 x, .int .i64 y] t)) (.slice (some ⟨n, 0, none⟩) 2 2) [x, y] := by
  subst h; exact Ld.of_blk (ls := [x, y]) (Blk.new W t _) (Nat.le_refl _)
theorem al_below {W : World} (o : Obj) : Below W.heap.size W (W.alloc o) := (Below.refl _ _).alloc (Nat.le_refl _) o
set_option maxRecDepth 100000 in
set_option maxHeartbeats 8000000 in
theorem wakes8_any (w : World) : Calls Try.prog 15 #[] w fun e w' => e = .returned (.bool true) ∧ Below w.heap.size w w' := by
  have LS : Hid (∀ o2, Ld (((w.alloc (.cells #[.int .i64 2] 3)).alloc (.cells #[.int .i64 1, .int .i64 2] 2)).alloc o2) (.slice (some ⟨w.heap.size, 0, none⟩) 1 1) [2]) := Lib.hid (fun o2 => ((ld1 rfl).below (al_below _)).below (al_below _))
  have LD : Hid (∀ o2, Ld (((w.alloc (.cells #[.int .i64 2] 3)).alloc (.cells #[.int .i64 1, .int .i64 2] 2)).alloc o2) (.slice (some ⟨w.heap.size + 1, 0, none⟩) 2 2) [1, 2]) := Lib.hid (fun o2 => (ld2 (World.size_alloc _ _)).below (al_below _))
  have B3 : Hid (∀ o2, Below w.heap.size w (((w.alloc (.cells #[.int .i64 2] 3)).alloc (.cells #[.int .i64 1, .int .i64 2] 2)).alloc o2)) := Lib.hid (fun o2 => (((Below.refl _ _).alloc (Nat.le_refl _) _).alloc (by simp) _).alloc (by simp; omega) _)
  go_enter Try.func15, Try.ntmps15
  go_wp2_with (first
    | (go_at_call 12; (with_reducible refine (sum8 _ _ _ _ _ (LS.out _) (LD.out _) (LS.out _) (LD.out _)).mono ?_); rintro e w4 ⟨o4, c4, o5, c5, rfl, h4, hb4⟩; have B4 := Lib.hid ((B3.out _).trans (hb4.mono (B3.out _).size)); have H4 := Lib.hid h4; clear h4 hb4)
    | (go_at_call 32; (with_reducible refine (eq8 _ _ _ ((H4.out.below (al_below _)).below (al_below _)) (ld2 (World.size_alloc _ _))).mono ?_); rintro e w6 ⟨rfl, hb6⟩; have B6 := Lib.hid (((B4.out.alloc B4.out.size _).alloc (by have := B4.out.size; simp; omega) _).trans (hb6.mono (by have := B4.out.size; simp; omega))); clear hb6)
    | (go_at_call 13; (with_reducible refine (num8_any _ _).mono ?_); rintro e w' ⟨rfl, rfl⟩))
  go_ret
  exact ⟨rfl, B6.out⟩
end Go.Proofs.Ytpfcjajmfadcbaa
namespace Go.Proofs.Ytpfcjajmfadcbaa
open Go.ChangeShapes Go.WideShapes Go.ChangeAt Go.RowKit Go.Deep

theorem Try.own : ownKnob Try.prog.godebug = none := by kernel_rfl
theorem Try.laidOut : laidOutB Try.prog = true := by kernel_rfl
theorem s_i64 {x : Int} (h : (Lit.int .i64 x).wf = true) : -9223372036854775808 ≤ x ∧ x ≤ 9223372036854775807 := by
  simp [Lit.wf, IntKind.min, IntKind.max, IntKind.signed, IntKind.bits] at h
  exact ⟨by omega, by omega⟩
theorem cS1 : Try.prog.cellsOf 23 = 1 := by kernel_rfl
theorem cS2 : Try.prog.cellsOf 3 = 1 := by kernel_rfl
theorem cS5 : Try.prog.cellsOf 24 = 1 := by kernel_rfl
theorem cS6 : Try.prog.cellsOf 2 = 1 := by kernel_rfl
theorem cS7 : Try.prog.cellsOf 26 = 2 := by kernel_rfl
theorem cS8 : Try.prog.cellsOf 28 = 7 := by kernel_rfl
theorem bS2 : Try.prog.bytesOf 3 = 8 := by kernel_rfl
theorem bS6 : Try.prog.bytesOf 2 = 8 := by kernel_rfl
theorem reach_is : reachBytes = 140737488351232 := rfl

/-- An element: two tensors, an operation, a word, a number. -/
structure Ek where
  A : Value
  X : Value
  B : Value
  Y : Value
  sa : List Int
  da : List Int
  sb : List Int
  db : List Int
  op : Int
  c : Int
  f : Int
def Ek.ok (w : World) (e : Ek) : Prop := (Ld w e.A e.sa ∧ Ld w e.X e.da ∧ Ld w e.B e.sb ∧ Ld w e.Y e.db) ∧ (e.sa.length ≤ 17592186043904 ∧ e.da.length ≤ 17592186043904 ∧ e.sb.length ≤ 17592186043904 ∧ e.db.length ≤ 17592186043904) ∧
  (-9223372036854775808 ≤ e.op ∧ e.op ≤ 9223372036854775807) ∧ (-9223372036854775808 ≤ e.c ∧ e.c ≤ 9223372036854775807) ∧ (-9223372036854775808 ≤ e.f ∧ e.f ≤ 9223372036854775807)
def EkAt (w : World) (b p : Nat) (e : Ek) : Prop := w.cell? ⟨b, p, none⟩ = some e.A ∧ w.cell? ⟨b, p + 1, none⟩ = some e.X ∧ w.cell? ⟨b, p + 2, none⟩ = some e.B ∧ w.cell? ⟨b, p + 3, none⟩ = some e.Y ∧ w.cell? ⟨b, p + 4, none⟩ = some (.int .i64 e.op) ∧ w.cell? ⟨b, p + 5, none⟩ = some (.int .i64 e.c) ∧ w.cell? ⟨b, p + 6, none⟩ = some (.int .i64 e.f)
theorem EkAt.below {w W : World} {b p : Nat} {e : Ek} (h : EkAt w b p e) (hB : Below w.heap.size w W) (hb : b < w.heap.size) : EkAt W b p e := by
  obtain ⟨h0, h1, h2, h3, h4, h5, h6⟩ := h
  have k : ∀ (i : Nat) (v : Value), w.cell? ⟨b, i, none⟩ = some v → W.cell? ⟨b, i, none⟩ = some v := fun i v hh => (hB.cell (p := ⟨b, i, none⟩) hb).trans hh
  exact ⟨k _ _ h0, k _ _ h1, k _ _ h2, k _ _ h3, k _ _ h4, k _ _ h5, k _ _ h6⟩

/-- All that it weighs is within reach. -/
def Lite {H : Type} (t : TypeId) (d : DataW H) : Prop := ∀ n ∈ d.weights Try.prog t, n ≤ reachBytes
theorem lite_all {H : Type} {e : TypeId} : ∀ {l : List (DataW H)} {d : DataW H}, d ∈ l → ∀ n ∈ d.weights Try.prog e, n ∈ DataW.weightsAll Try.prog e l
  | d' :: r, d, hd, n, hn => by
    simp only [DataW.weightsAll, List.mem_append]
    rcases List.mem_cons.1 hd with rfl | h
    · exact .inl hn
    · exact .inr (lite_all h n hn)
theorem lite_in {H : Type} {t e : TypeId} {elems spare : List (DataW H)} {d : DataW H} (hu : Try.prog.underlying t = some (.slice e)) (h : Lite t (.slice elems spare)) (hd : d ∈ elems) : Lite e d := fun n hn =>
  h n (by simp only [DataW.weights, hu, List.mem_cons, List.mem_append]; exact .inr (.inl (lite_all hd n hn)))
theorem lite_len {H : Type} {t e : TypeId} {elems spare : List (DataW H)} (hu : Try.prog.underlying t = some (.slice e)) (hb : Try.prog.bytesOf e = 8) (h : Lite t (.slice elems spare)) : elems.length ≤ 17592186043904 := by
  have := h ((elems.length + spare.length) * Try.prog.bytesOf e) (by simp [DataW.weights, hu])
  rw [hb, reach_is] at this
  omega
theorem lite_part {H : Type} {t : TypeId} {fs : Array Field} {parts : List (DataW H)} {j : Nat} {d : DataW H} {u : TypeId} (hu : Try.prog.underlying t = some (.struct fs)) (h : Lite t (.agg parts)) (hj : (fs.toList.map (·.type))[j]? = some u) (hd : parts[j]? = some d) : Lite u d := fun n hn =>
  h n (by simp only [DataW.weights, hu]; exact DataW.weights_mem_each hj hd n hn)

section
variable {H : Type} {enc : TypeId × Value → H} {w : World} {base : Nat} {spare : Nat → Bool} {held : Bool}
set_option maxRecDepth 100000 in
theorem open_nums {t e : TypeId} {fuel : Nat} {v : Value} {x : DataW H × List MemPlace} (hu : Try.prog.underlying t = some (.slice e)) (hc : Try.prog.cellsOf e = 1) (hb : Try.prog.bytesOf e = 8) (hi : Try.prog.underlying e = some (.int .i64))
    (h : DataW.trod enc Try.prog w base spare held fuel t [v] = some x) (hz : Lite t x.1) : ∃ ls, Ld w v ls ∧ ls.length ≤ 17592186043904 := by
  rcases open_slice1 hu hc h with ⟨hcs, _⟩ | ⟨a, len, cap, m, n, V, D, Pl, hcs, _, hl, hm, hmm, hx, hia⟩
  · simp only [List.cons.injEq, and_true] at hcs
    subst hcs
    exact ⟨[], Ld.nil w, by simp⟩
  · simp only [List.cons.injEq, and_true] at hcs
    subst hcs
    have hle : len ≤ m := by rw [hmm]; split <;> omega
    have hlen2 : len ≤ 17592186043904 := by
      rw [hx] at hz
      have := lite_len hu hb hz
      simpa using this
    have hall : ∀ i, i < len → ∃ y : Int, w.cell? (a.add i) = some (.int .i64 y) := by
      intro i hik
      obtain ⟨hc, ht⟩ := hia i (by omega)
      obtain ⟨y, e0, _, _⟩ := DataW.trod_int hi ht
      simp only [List.cons.injEq, and_true] at e0
      exact ⟨y, by rw [hc, e0]⟩
    let ys : Nat → Int := fun i => if h : i < len then (hall i h).choose else 0
    have hys : ∀ i, i < len → w.cell? (a.add i) = some (.int .i64 (ys i)) := by
      intro i hik
      have := (hall i hik).choose_spec
      simp only [ys, dif_pos hik]
      exact this
    have hlen : ((List.range len).map ys).length = len := by simp
    refine ⟨(List.range len).map ys, ⟨some a, cap, by rw [hlen], by rw [hlen]; exact hl, fun i hi2 => ?_⟩, by rw [hlen]; exact hlen2⟩
    rw [hlen] at hi2
    obtain ⟨b, off, spot⟩ := a
    have hc := hys i hi2
    have hspot : spot = none := by simpa [Addr.add] using World.cell?_spot (hys 0 (by omega))
    subst hspot
    rw [Go.WideShapes.add_plain] at hc
    have hg : ((List.range len).map ys).getD i 0 = ys i := by simp [List.getD, hi2]
    exact ⟨b, off, rfl, World.block_lt_of_cell? w _ hc, by rw [hg]; exact hc⟩

set_option maxRecDepth 100000 in
theorem open_tens {fuel : Nat} {v0 v1 : Value} {x : DataW H × List MemPlace} (h : DataW.trod enc Try.prog w base spare held fuel 26 [v0, v1] = some x) (hz : Lite 26 x.1) :
    ∃ ts tds, Ld w v0 ts ∧ Ld w v1 tds ∧ ts.length ≤ 17592186043904 ∧ tds.length ≤ 17592186043904 := by
  obtain ⟨xs, n, _, hx, _, hxl, hf⟩ := DataW.trod_struct Try.underlying26 h
  have hxl2 : xs.length = 2 := hxl
  match xs, hxl2 with
  | [x0, x1], _ =>
    have h0 : DataW.trod enc Try.prog w base spare held n 23 ((([v0, v1] : List Value).drop 0).take (Try.prog.cellsOf 23)) = some x0 := hf 0 _ rfl
    have h1 : DataW.trod enc Try.prog w base spare held n 24 ((([v0, v1] : List Value).drop 1).take (Try.prog.cellsOf 24)) = some x1 := hf 1 _ rfl
    simp only [cS1, cS5, List.drop_zero, List.drop_succ_cons, List.take_succ_cons, List.take_zero] at h0 h1
    rw [hx] at hz
    obtain ⟨s, hs, ls⟩ := open_nums Try.underlying23 cS2 bS2 Try.underlying3 h0 (lite_part (j := 0) Try.underlying26 hz rfl rfl)
    obtain ⟨t, ht, lt⟩ := open_nums Try.underlying24 cS6 bS6 Try.underlying2 h1 (lite_part (j := 1) Try.underlying26 hz rfl rfl)
    exact ⟨s, t, hs, ht, ls, lt⟩
set_option maxRecDepth 100000 in
set_option maxHeartbeats 2000000 in
theorem open_ek {fuel : Nat} {cs : List Value} {x : DataW H × List MemPlace} (h : DataW.trod enc Try.prog w base spare held fuel 28 cs = some x) (hz : Lite 28 x.1) :
    ∃ e : Ek, e.ok w ∧ cs = [e.A, e.X, e.B, e.Y, .int .i64 e.op, .int .i64 e.c, .int .i64 e.f] := by
  obtain ⟨xs, n, _, hx, hl, hxl, hf⟩ := DataW.trod_struct Try.underlying28 h
  rw [cS8] at hl
  match cs, hl with
  | [v0, v1, v2, v3, v4, v5, v6], _ =>
    have hxl2 : xs.length = 5 := hxl
    match xs, hxl2 with
    | [x0, x1, x2, x3, x4], _ =>
      have h0 : DataW.trod enc Try.prog w base spare held n 26 ((([v0, v1, v2, v3, v4, v5, v6] : List Value).drop 0).take (Try.prog.cellsOf 26)) = some x0 := hf 0 _ rfl
      have h1 : DataW.trod enc Try.prog w base spare held n 26 ((([v0, v1, v2, v3, v4, v5, v6] : List Value).drop 2).take (Try.prog.cellsOf 26)) = some x1 := hf 1 _ rfl
      have h2 : DataW.trod enc Try.prog w base spare held n 3 ((([v0, v1, v2, v3, v4, v5, v6] : List Value).drop 4).take (Try.prog.cellsOf 3)) = some x2 := hf 2 _ rfl
      have h3 : DataW.trod enc Try.prog w base spare held n 2 ((([v0, v1, v2, v3, v4, v5, v6] : List Value).drop 5).take (Try.prog.cellsOf 2)) = some x3 := hf 3 _ rfl
      have h4 : DataW.trod enc Try.prog w base spare held n 3 ((([v0, v1, v2, v3, v4, v5, v6] : List Value).drop 6).take (Try.prog.cellsOf 3)) = some x4 := hf 4 _ rfl
      simp only [cS2, cS6, cS7, List.drop_zero, List.drop_succ_cons, List.take_succ_cons, List.take_zero] at h0 h1 h2 h3 h4
      rw [hx] at hz
      have q := fun (j : Nat) (u : TypeId) (d : DataW H) => lite_part (j := j) (u := u) (d := d) Try.underlying28 hz
      obtain ⟨sa, da, hs, hd, l0, l1⟩ := open_tens h0 (q 0 _ _ rfl rfl)
      obtain ⟨sb, db, ht, he, l2, l3⟩ := open_tens h1 (q 1 _ _ rfl rfl)
      obtain ⟨a, ea, _, wa⟩ := DataW.trod_int Try.underlying3 h2
      obtain ⟨b, eb, _, wb⟩ := DataW.trod_int Try.underlying2 h3
      obtain ⟨c, ec, _, wc⟩ := DataW.trod_int Try.underlying3 h4
      simp only [List.cons.injEq, and_true] at ea eb ec
      subst ea; subst eb; subst ec
      exact ⟨⟨v0, v1, v2, v3, sa, da, sb, db, a, b, c⟩, ⟨⟨hs, hd, ht, he⟩, ⟨l0, l1, l2, l3⟩, s_i64 wa, s_i64 wb, s_i64 wc⟩, rfl⟩

set_option maxRecDepth 100000 in
set_option maxHeartbeats 2000000 in
/-- The list: nil or empty, or its elements' cells. -/
theorem open_eks {fuel : Nat} {v : Value} {x : DataW H × List MemPlace} (h : DataW.trod enc Try.prog w base spare held fuel 22 [v] = some x) (hz : Lite 22 x.1) :
    (∃ o cap, v = .slice o 0 cap) ∨ ∃ (b off len cap : Nat) (es : Nat → Ek), v = .slice (some ⟨b, off, none⟩) len cap ∧ len ≤ 9223372036854775807 ∧ b < w.heap.size ∧
      (∀ i, i < len → EkAt w b (off + i * 7) (es i)) ∧ (∀ i, i < len → (es i).ok w) := by
  rcases open_slice Try.underlying22 h with ⟨hcs, _⟩ | ⟨a, len, cap, m, n, D, Pl, hcs, _, hl, hm, hmm, hx, hi⟩
  · left
    simp only [List.cons.injEq, and_true] at hcs
    exact ⟨_, _, hcs⟩
  · simp only [List.cons.injEq, and_true] at hcs
    subst hcs
    by_cases h0 : len = 0
    · subst h0; exact .inl ⟨_, _, rfl⟩
    right
    have hle : len ≤ m := by rw [hmm]; split <;> omega
    rw [cS8] at hi
    rw [hx] at hz
    have hall : ∀ i, i < len → ∃ e : Ek, e.ok w ∧ ∀ j, j < 7 → w.cell? ((a.add (i * 7)).add j) = ([e.A, e.X, e.B, e.Y, .int .i64 e.op, .int .i64 e.c, .int .i64 e.f] : List Value)[j]? := by
      intro i hik
      obtain ⟨cs', hc, ht⟩ := hi i (by omega)
      obtain ⟨e, he, rfl⟩ := open_ek ht (lite_in Try.underlying22 hz (List.mem_map.2 ⟨i, List.mem_range.2 hik, rfl⟩))
      exact ⟨e, he, (World.cells?_some hc).2.2⟩
    let es : Nat → Ek := fun i => if h : i < len then (hall i h).choose else ⟨.bool false, .bool false, .bool false, .bool false, [], [], [], [], 0, 0, 0⟩
    have hes : ∀ i, i < len → (es i).ok w ∧ ∀ j, j < 7 → w.cell? ((a.add (i * 7)).add j) = ([(es i).A, (es i).X, (es i).B, (es i).Y, .int .i64 (es i).op, .int .i64 (es i).c, .int .i64 (es i).f] : List Value)[j]? := by
      intro i hik
      have := (hall i hik).choose_spec
      simp only [es, dif_pos hik]
      exact this
    obtain ⟨b, off, spot⟩ := a
    have hspot : spot = none := by
      have := (hes 0 (by omega)).2 0 (by decide)
      simpa [Addr.add] using World.cell?_spot this
    subst hspot
    have cell : ∀ i, i < len → ∀ j, j < 7 → w.cell? ⟨b, off + i * 7 + j, none⟩ = ([(es i).A, (es i).X, (es i).B, (es i).Y, .int .i64 (es i).op, .int .i64 (es i).c, .int .i64 (es i).f] : List Value)[j]? := by
      intro i hik j hj
      rw [← (hes i hik).2 j hj, Go.WideShapes.add_plain, Go.WideShapes.add_plain]
    refine ⟨b, off, len, cap, es, rfl, by unfold maxLen at hm; omega, ?_, fun i hik => ?_, fun i hik => (hes i hik).1⟩
    · exact World.block_lt_of_cell? w _ (by have := cell 0 (by omega) 0 (by decide); simpa using this)
    · exact ⟨cell i hik 0 (by decide), cell i hik 1 (by decide), cell i hik 2 (by decide), cell i hik 3 (by decide), cell i hik 4 (by decide), cell i hik 5 (by decide), cell i hik 6 (by decide)⟩
end
end Go.Proofs.Ytpfcjajmfadcbaa
namespace Go.Proofs.Ytpfcjajmfadcbaa
open Go.RowKit
theorem ff_any (i : Int) (w : World) : Calls Try.prog 6 #[.int .i64 i] w fun e w' => e = .returned (.int .i64 (8 + i % 18446744073709551616 % 25)) ∧ w = w' := by
  have C := Lib.hid (fun W : World => within_any i 25 W (by decide) (by decide))
  have e1 : wrap64 (8 + i % 18446744073709551616 % 25) = 8 + i % 18446744073709551616 % 25 := IntWalk.wrap64_in _ ⟨by omega, by omega⟩
  have E := Lib.hid e1
  clear e1
  generalize i % 18446744073709551616 % 25 = r at *
  go_enter Try.func6, Try.ntmps6
  go_wp2_with (go_at_call 18; (with_reducible refine (C.out _).mono ?_); rintro e w' ⟨rfl, rfl⟩)
  go_ret
  exact ⟨by show Ending.returned (.int .i64 (wrap64 (8 + r))) = _; rw [E.out], rfl⟩
end Go.Proofs.Ytpfcjajmfadcbaa
namespace Go.Proofs.Ytpfcjajmfadcbaa

/-- Where the n-th index stands. -/
def plat (sh st : List Int) (off : Int) (n : Nat) : Int := off + dot st (atl sh (n : Int))
/-- Does an index before stand there, too? -/
def hit (sh st : List Int) (off : Int) (k : Nat) : Bool := (List.range k).any fun i => decide (plat sh st off i = plat sh st off k)
/-- Do two indexes stand at one place? -/
def dup (sh st : List Int) (off : Int) (N : Nat) : Bool := (List.range N).any fun k => hit sh st off k
theorem dup_yes {sh st : List Int} {off : Int} {N k : Nat} (hk : k < N) (h : hit sh st off k = true) : dup sh st off N = true := List.any_eq_true.2 ⟨k, List.mem_range.2 hk, h⟩
theorem dup_no {sh st : List Int} {off : Int} {N : Nat} (h : ∀ k, k < N → hit sh st off k = false) : dup sh st off N = false := by
  cases e : dup sh st off N with
  | false => rfl
  | true =>
    obtain ⟨k, hk, h2⟩ := List.any_eq_true.1 e
    rw [h k (List.mem_range.1 hk)] at h2
    cases h2
/-- The words, k of them laid. -/
def lys (sh st : List Int) (off : Int) (ls tds : List Int) : Nat → List Int
  | 0 => ls
  | k + 1 => (lys sh st off ls tds k).set (plat sh st off k).toNat (tds.getD k 0)
theorem lys_len (sh st : List Int) (off : Int) (ls tds : List Int) : ∀ k, (lys sh st off ls tds k).length = ls.length
  | 0 => rfl
  | k + 1 => by unfold lys; rw [List.length_set, lys_len sh st off ls tds k]
theorem lys_step {sh st : List Int} {off : Int} {ls tds : List Int} {k P : Nat} (h : plat sh st off k = (P : Int)) : lys sh st off ls tds (k + 1) = (lys sh st off ls tds k).set P (tds.getD k 0) := by
  show List.set _ _ _ = _
  rw [h, Int.toNat_natCast]
/-- Which places are taken, by k indexes. -/
def tks (sh st : List Int) (off : Int) (m : Nat) : Nat → List Bool
  | 0 => List.replicate m false
  | k + 1 => (tks sh st off m k).set (plat sh st off k).toNat true
theorem tks_len (sh st : List Int) (off : Int) (m : Nat) : ∀ k, (tks sh st off m k).length = m
  | 0 => by simp [tks]
  | k + 1 => by unfold tks; rw [List.length_set, tks_len sh st off m k]
theorem tks_step {sh st : List Int} {off : Int} {m k P : Nat} (h : plat sh st off k = (P : Int)) : tks sh st off m (k + 1) = (tks sh st off m k).set P true := by
  show List.set _ _ _ = _
  rw [h, Int.toNat_natCast]
theorem tks_at {sh st : List Int} {off : Int} {m Q : Nat} (hQ : Q < m) : ∀ k, (∀ i, i < k → 0 ≤ plat sh st off i) → (tks sh st off m k).getD Q false = (List.range k).any fun i => decide (plat sh st off i = (Q : Int))
  | 0, _ => by simp [tks, List.getD, hQ]
  | k + 1, h => by
    have ih := tks_at (sh := sh) (st := st) (off := off) hQ k (fun i hi => h i (by omega))
    have h0 := h k (by omega)
    obtain ⟨P, hP⟩ := Int.eq_ofNat_of_zero_le h0
    rw [tks_step hP, List.range_succ, List.any_append, ← ih]
    simp only [List.any_cons, List.any_nil, Bool.or_false, hP]
    rw [List.getD_eq_getElem?_getD, List.getD_eq_getElem?_getD, List.getElem?_set]
    by_cases e : P = Q
    · subst e
      rw [if_pos rfl, if_pos (by rw [tks_len]; exact hQ)]
      simp
    · rw [if_neg e]
      have : ¬ (P : Int) = (Q : Int) := by omega
      simp [this]
theorem tks_hit {sh st : List Int} {off : Int} {m k P : Nat} (hk : ∀ i, i < k → 0 ≤ plat sh st off i) (h : plat sh st off k = (P : Int)) (hP : P < m) : (tks sh st off m k).getD P false = hit sh st off k := by
  rw [tks_at hP k hk]
  unfold hit
  rw [h]
/-- What is laid where it lay changes nothing. -/
theorem lys_same {sh st : List Int} {off : Int} {ls tds : List Int} {N : Nat} (h : ∀ k, k < N → ∃ P : Nat, plat sh st off k = (P : Int) ∧ tds.getD k 0 = ls.getD P 0) : ∀ k, k ≤ N → lys sh st off ls tds k = ls
  | 0, _ => rfl
  | k + 1, hk => by
    obtain ⟨P, hP, hv⟩ := h k (by omega)
    rw [lys_step hP, lys_same h k (by omega), hv]
    apply List.ext_getElem
    · simp
    · intro j h1 h2
      rw [List.getElem_set]
      split
      · rename_i e
        subst e
        simp [List.getD, List.getElem?_eq_getElem h2]
      · rfl
end Go.Proofs.Ytpfcjajmfadcbaa
namespace Go.Proofs.Ytpfcjajmfadcbaa
open Go.RowKit

/-- Words in new memory. -/
def SomeWd (w : World) (ls : List Int) (e : Ending) (w' : World) : Prop := ∃ o c, e = .returned (.slice o ls.length c) ∧ w'.ownsRow w.heap.size 2 1 (.slice o ls.length c) ls.length (ints ls) ∧ Ld w' (.slice o ls.length c) ls ∧ Below w.heap.size w w'
end Go.Proofs.Ytpfcjajmfadcbaa
namespace Go.Proofs.Ytpfcjajmfadcbaa
open Go.RowKit


end Go.Proofs.Ytpfcjajmfadcbaa
namespace Go.Proofs.Ytpfcjajmfadcbaa
open Go.RowKit

set_option maxRecDepth 100000 in
set_option maxHeartbeats 4000000 in
theorem rof_any (v : Value) (ls : List Int) (w : World) (h : Ld w v ls) (hm : may ls = true) :
    Calls Try.prog 11 #[v] w (SomeW w ls (stl ls) 0) := by
  have hB0 : Below w.heap.size w (w.alloc (.cells #[.slice none 0 0, .slice none 0 0, .int .i64 0] 37)) := (Below.refl _ _).alloc (Nat.le_refl _) _
  have l4 := may_len hm
  have CC := copy_any v ls _ (h.below hB0) (by omega)
  unfold SomeC at CC
  simp only [World.size_alloc] at CC
  replace CC := Lib.hid CC
  have CS := Lib.hid (fun (W : World) (hb : Below w.heap.size w W) => rstrides_any v ls W (h.below hb) hm)
  have HX := Lib.hid (Blk.new w 37 #[.slice none 0 0, .slice none 0 0, .int .i64 0])
  obtain ⟨o, c, rfl, _, _⟩ := h
  clear hm
  go_enter Try.func11, Try.ntmps11
  go_wp2_with (first | (go_at_call 20; (with_reducible refine CC.out.mono ?_); rintro e w2 ⟨o2, c2, rfl, ho2, _, hb2⟩; have X2 := Lib.hid (blk_box hb2 (by omega)); have b2 := hB0.trans (hb2.mono (by omega)); have s2 := hb2.size; simp only [World.size_alloc] at s2; replace ho2 := Lib.hid ho2; clear hb2) | (go_at_call 23; (with_reducible refine (CS.out _ b2).mono ?_); rintro e w3 ⟨rfl, hk3, hb3⟩; obtain ⟨d0, d1, d2, f0, f1, f2⟩ := blk3 (X2.out.below hb3 X2.out.lt); have D3 := Lib.hid (And.intro hk3 hb3); clear hk3 hb3))
  refine bodyPost_ret (v := .agg #[.slice o2 ls.length c2, .slice (some ⟨w2.heap.size, 0, none⟩) ls.length ls.length, .int .i64 0]) (by simp [results, Try.results11, go_sem, d0, d1, d2]) rfl ?_
  refine someW_end (Nat.le_refl _) (b2.trans (D3.out.2.mono (by omega))) (X2.out.below D3.out.2 X2.out.lt) rfl (by rw [stl_len]) ⟨own_base (Below.keepOwn ho2.out D3.out.2 (Nat.le_refl _)) (by omega), stl_own D3.out.1 (by omega) (by omega), ?_⟩
  intro g e e2
  have := (ho2.out.lt g e).2
  simp only [Value.ownBlock, Option.some.injEq] at e2
  omega


end Go.Proofs.Ytpfcjajmfadcbaa
namespace Go.Proofs.Ytpfcjajmfadcbaa
open Go.RowKit


theorem Ov.kept2 {w w' : World} {base : Nat} {vs vt : Value} {sh st : List Int} (h : Ov w base vs vt sh st) (hg : w.grownBy w' vs.ownBlock) : w'.ownsRow base 3 1 vt st.length (ints st) := h.2.1.kept hg (by
  cases e : vt.ownBlock with
  | none => exact .inl rfl
  | some g => exact .inr (fun e2 => h.2.2 g e2.symm e))
theorem own_len {w : World} {base n : Nat} {e : TypeId} {v : Value} {xs : List Value} (h : w.ownsRow base e 1 v n xs) : ∃ o c, v = .slice o n c := by
  rcases h.2 with ⟨rfl, rfl⟩ | ⟨g, cap, cur, rfl, _⟩
  · exact ⟨_, _, rfl⟩
  · exact ⟨_, _, rfl⟩
theorem own_put2 {w : World} {base g c i n : Nat} {ls : List Int} {e : TypeId} (h : w.ownsRow base e 1 (.slice (some ⟨g, 0, none⟩) n c) n (ints ls)) (hl : ls.length = n) (hi : i < n) (v : Int) : (w.setCell ⟨g, i, none⟩ (.int .i64 v)).ownsRow base e 1 (.slice (some ⟨g, 0, none⟩) n c) n (ints (ls.set i v)) := by
  subst hl
  have := own_put h hi v
  rwa [List.length_set] at this


/-- Views' boxes are kept. -/
def KB (w w' : World) : Prop := ∀ (B : Nat) (cs : Array Value), Blk w B 37 cs → Blk w' B 37 cs
theorem KB.trans {a b c : World} (h : KB a b) (k : KB b c) : KB a c := fun B cs hB => k B cs (h B cs hB)
theorem kb_below {w w' : World} (h : Below w.heap.size w w') : KB w w' := fun _ _ hB => hB.below h hB.lt
theorem kb_row {w w' : World} {base n : Nat} {v : Value} {xs : List Value} (h : w.ownsRow base 3 1 v n xs) (hg : w.grownBy w' v.ownBlock) : KB w w' := fun _ _ hB => hB.kept hg (fun e => own_not_box h hB e.symm)



/-- A list, where there is no error, in memory. -/
theorem ov_ld {w : World} {base : Nat} {vs vt : Value} {sh st : List Int} (h : Ov w base vs vt sh st) : Ld w vs sh ∧ Ld w vt st := by
  obtain ⟨_, _, rfl, h1⟩ := Ld.of_owns h.1
  obtain ⟨_, _, rfl, h2⟩ := Ld.of_owns h.2.1
  exact ⟨h1, h2⟩




end Go.Proofs.Ytpfcjajmfadcbaa
namespace Go.Proofs.Ytpfcjajmfadcbaa
open Go.RowKit



set_option maxRecDepth 100000 in
set_option maxHeartbeats 4000000 in
/-- Place. -/
theorem rplace_any (vs vt vi : Value) (st ix : List Int) (off : Int) (w : World) (ht : Ld w vt st) (hi : Ld w vi ix) (hl : st.length = ix.length) (l4 : st.length ≤ 4) (hst : sts st) (hnn : ∀ x ∈ ix, 0 ≤ x) (h0 : 0 ≤ off) (hT : off + dot st ix ≤ 65536) :
    Calls Try.prog 21 #[.agg #[vs, vt, .int .i64 off], vi] w fun e w' => e = .returned (.int .i64 (off + dot st ix)) ∧ Below w.heap.size w w' := by
  have B0 : Below w.heap.size w (w.alloc (.cells #[vs, vt, .int .i64 off] 37)) := (Below.refl _ _).alloc (Nat.le_refl _) _
  have K0 := Lib.hid (Blk.new w 37 #[vs, vt, .int .i64 off])
  obtain ⟨T, hTe⟩ : ∃ T, T = off + dot st ix := ⟨_, rfl⟩
  have hd0 := dot_nn (st := st) (i := ix) (fun s hs => (hst s hs).1) hnn
  have DS : Hid (Dt st ix T off 0) := ⟨Nat.zero_le _, h0, by simpa using hTe.symm⟩
  have hT2 : 0 ≤ T ∧ T ≤ 65536 := by omega
  have hoff : off ≤ 65536 := by omega
  rw [← hTe]
  have HD := Lib.hid (And.intro hst (And.intro hnn hl))
  have HB := Lib.hid B0
  obtain ⟨o1, c1, rfl, _, hx1⟩ := ht
  obtain ⟨o2, c2, rfl, _, hx2⟩ := hi
  have HX := Lib.hid (And.intro hx1 hx2)
  rw [← hl]
  clear hx1 hx2 hst hnn hd0 hTe hT hl B0
  go_enter Try.func21, Try.ntmps21
  go_wp2
  go_loopw [5, 6] (fun s5 s6 wr => ∃ (k : Nat) (p : Int), k ≤ st.length ∧ 0 ≤ p ∧ p ≤ 65536 ∧ s6 = .int .i64 k ∧ s5 = .int .i64 p ∧ Hid (Dt st ix T p k) ∧ Hid (Below w.heap.size w wr ∧ Blk wr w.heap.size 37 #[vs, .slice o1 st.length c1, .int .i64 off])) (fun _ s6 _ => st.length - (intOf s6).toNat)
  case atStart => exact ⟨0, off, Nat.zero_le _, h0, hoff, rfl, rfl, DS, HB.out, K0.out⟩
  case round =>
    obtain ⟨k, p, hk, p0, p1, rfl, rfl, HK, HW⟩ := hrel
    have hBW : Hid (Below w.heap.size w wr) := HW.out.1
    have KW : Hid (Blk wr w.heap.size 37 #[vs, .slice o1 st.length c1, .int .i64 off]) := HW.out.2
    have hmx : Try.prog.follows .mixedOrders = true := by kernel_rfl
    obtain ⟨_, x1, _⟩ := blk3 KW.out
    by_cases hlt : k < st.length
    · obtain ⟨b1, f1, rfl, hb1, hc1⟩ := HX.out.1 k hlt
      obtain ⟨b2, f2, rfl, hb2, hc2⟩ := HX.out.2 k (by have := HD.out.2.2; omega)
      have y1 := (hBW.out.cell (p := ⟨b1, f1 + k, none⟩) hb1).trans hc1
      have y2 := (hBW.out.cell (p := ⟨b2, f2 + k, none⟩) hb2).trans hc2
      obtain ⟨st1, t0, t1, t2, t3⟩ := dt_step HK.out HD.out.2.2 (fun s hs => (HD.out.1 s hs).1) HD.out.2.1 hlt
      have ST := Lib.hid st1
      clear st1 hc1 hc2
      generalize ix.getD k 0 = y at *
      generalize st.getD k 0 = s at *
      have q1 : y * s ≤ 65536 := by omega
      have q2 : p + y * s ≤ 65536 := by omega
      clear HX HD HK hb1 hb2
      go_wp2
      go_big_quiet_o (fail)
      go_wp2
      refine ⟨⟨k + 1, p + y * s, by omega, t3, q2, by go_num, by go_num, ST, below_drw HW.out.1 _, HW.out.2⟩, by simp [intOf]; omega⟩
    · obtain rfl : k = st.length := by omega
      obtain rfl := dt_end HK.out HD.out.2.2
      clear hlt
      go_wp2
      go_ret
      exact ⟨rfl, hBW.out⟩
end Go.Proofs.Ytpfcjajmfadcbaa
