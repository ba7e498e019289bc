/-
  The list of package norm's asks (a tensor, eps, a word, fraction bits) opened to the cells of its elements.
  package norm, NormMoves: two copies of a tensor that a loop rewrites; a whole number in a box.
-/
import Derived.Deep.Slices
import Derived.Deep.Fields
import Derived.ProofKit
import Derived.Carry
import Derived.SizedLaws
import Derived.Test.YtimmgmhgahbcbaaM02
import Derived.Test.YtimmgmhgahbcbaaM07
import Derived.Test.YtimmgmhgahbcbaaM09
import Derived.Test.YtimmgmhgahbcbaaM13
namespace Go.Proofs.Ytimmgmhgahbcbaa
open Go.ChangeShapes Go.WideShapes Go.ChangeAt Go.RowKit Go.Deep

theorem Try.own : ownKnob Try.prog.godebug = none := by kernel_rfl
theorem Try.laidOut : laidOutB Try.prog = true := by kernel_rfl
theorem s_i64 {x : Int} (h : (Lit.int .i64 x).wf = true) : -9223372036854775808 ≤ x ∧ x ≤ 9223372036854775807 := by
  simp [Lit.wf, IntKind.min, IntKind.max, IntKind.signed, IntKind.bits] at h
  exact ⟨by omega, by omega⟩
theorem cS1 : Try.prog.cellsOf 23 = 1 := by kernel_rfl
theorem cS2 : Try.prog.cellsOf 3 = 1 := by kernel_rfl
theorem cS5 : Try.prog.cellsOf 24 = 1 := by kernel_rfl
theorem cS6 : Try.prog.cellsOf 2 = 1 := by kernel_rfl
theorem cS7 : Try.prog.cellsOf 26 = 2 := by kernel_rfl
theorem cS8 : Try.prog.cellsOf 28 = 5 := by kernel_rfl
theorem bS2 : Try.prog.bytesOf 3 = 8 := by kernel_rfl
theorem bS6 : Try.prog.bytesOf 2 = 8 := by kernel_rfl
theorem reach_is : reachBytes = 140737488351232 := rfl

/-- An element: a tensor, eps, a word, fraction bits. -/
structure Qk where
  X : Value
  XD : Value
  sx : List Int
  dx : List Int
  e : Int
  z : Int
  f : Int
def Qk.ok (w : World) (e : Qk) : Prop := (Ld w e.X e.sx ∧ Ld w e.XD e.dx) ∧ (e.sx.length ≤ 17592186043904 ∧ e.dx.length ≤ 17592186043904) ∧ (-9223372036854775808 ≤ e.e ∧ e.e ≤ 9223372036854775807) ∧ (-9223372036854775808 ≤ e.z ∧ e.z ≤ 9223372036854775807) ∧ (-9223372036854775808 ≤ e.f ∧ e.f ≤ 9223372036854775807)
def QkAt (w : World) (b p : Nat) (e : Qk) : Prop := w.cell? ⟨b, p, none⟩ = some e.X ∧ w.cell? ⟨b, p + 1, none⟩ = some e.XD ∧ w.cell? ⟨b, p + 2, none⟩ = some (.int .i64 e.e) ∧ w.cell? ⟨b, p + 3, none⟩ = some (.int .i64 e.z) ∧ w.cell? ⟨b, p + 4, none⟩ = some (.int .i64 e.f)
theorem QkAt.below {w W : World} {b p : Nat} {e : Qk} (h : QkAt w b p e) (hB : Below w.heap.size w W) (hb : b < w.heap.size) : QkAt W b p e := by
  obtain ⟨h0, h1, h2, h3, h4⟩ := h
  have k : ∀ (i : Nat) (v : Value), w.cell? ⟨b, i, none⟩ = some v → W.cell? ⟨b, i, none⟩ = some v := fun i v hh => (hB.cell (p := ⟨b, i, none⟩) hb).trans hh
  exact ⟨k _ _ h0, k _ _ h1, k _ _ h2, k _ _ h3, k _ _ h4⟩

/-- All that it weighs is within reach. -/
def Lite {H : Type} (t : TypeId) (d : DataW H) : Prop := ∀ n ∈ d.weights Try.prog t, n ≤ reachBytes
theorem lite_all {H : Type} {e : TypeId} : ∀ {l : List (DataW H)} {d : DataW H}, d ∈ l → ∀ n ∈ d.weights Try.prog e, n ∈ DataW.weightsAll Try.prog e l
  | d' :: r, d, hd, n, hn => by
    simp only [DataW.weightsAll, List.mem_append]
    rcases List.mem_cons.1 hd with rfl | h
    · exact .inl hn
    · exact .inr (lite_all h n hn)
theorem lite_in {H : Type} {t e : TypeId} {elems spare : List (DataW H)} {d : DataW H} (hu : Try.prog.underlying t = some (.slice e)) (h : Lite t (.slice elems spare)) (hd : d ∈ elems) : Lite e d := fun n hn =>
  h n (by simp only [DataW.weights, hu, List.mem_cons, List.mem_append]; exact .inr (.inl (lite_all hd n hn)))
theorem lite_len {H : Type} {t e : TypeId} {elems spare : List (DataW H)} (hu : Try.prog.underlying t = some (.slice e)) (hb : Try.prog.bytesOf e = 8) (h : Lite t (.slice elems spare)) : elems.length ≤ 17592186043904 := by
  have := h ((elems.length + spare.length) * Try.prog.bytesOf e) (by simp [DataW.weights, hu])
  rw [hb, reach_is] at this
  omega
theorem lite_part {H : Type} {t : TypeId} {fs : Array Field} {parts : List (DataW H)} {j : Nat} {d : DataW H} {u : TypeId} (hu : Try.prog.underlying t = some (.struct fs)) (h : Lite t (.agg parts)) (hj : (fs.toList.map (·.type))[j]? = some u) (hd : parts[j]? = some d) : Lite u d := fun n hn =>
  h n (by simp only [DataW.weights, hu]; exact DataW.weights_mem_each hj hd n hn)

section
variable {H : Type} {enc : TypeId × Value → H} {w : World} {base : Nat} {spare : Nat → Bool} {held : Bool}
set_option maxRecDepth 100000 in
theorem open_nums {t e : TypeId} {fuel : Nat} {v : Value} {x : DataW H × List MemPlace} (hu : Try.prog.underlying t = some (.slice e)) (hc : Try.prog.cellsOf e = 1) (hb : Try.prog.bytesOf e = 8) (hi : Try.prog.underlying e = some (.int .i64))
    (h : DataW.trod enc Try.prog w base spare held fuel t [v] = some x) (hz : Lite t x.1) : ∃ ls, Ld w v ls ∧ ls.length ≤ 17592186043904 := by
  rcases open_slice1 hu hc h with ⟨hcs, _⟩ | ⟨a, len, cap, m, n, V, D, Pl, hcs, _, hl, hm, hmm, hx, hia⟩
  · simp only [List.cons.injEq, and_true] at hcs
    subst hcs
    exact ⟨[], Ld.nil w, by simp⟩
  · simp only [List.cons.injEq, and_true] at hcs
    subst hcs
    have hle : len ≤ m := by rw [hmm]; split <;> omega
    have hlen2 : len ≤ 17592186043904 := by
      rw [hx] at hz
      have := lite_len hu hb hz
      simpa using this
    have hall : ∀ i, i < len → ∃ y : Int, w.cell? (a.add i) = some (.int .i64 y) := by
      intro i hik
      obtain ⟨hc, ht⟩ := hia i (by omega)
      obtain ⟨y, e0, _, _⟩ := DataW.trod_int hi ht
      simp only [List.cons.injEq, and_true] at e0
      exact ⟨y, by rw [hc, e0]⟩
    let ys : Nat → Int := fun i => if h : i < len then (hall i h).choose else 0
    have hys : ∀ i, i < len → w.cell? (a.add i) = some (.int .i64 (ys i)) := by
      intro i hik
      have := (hall i hik).choose_spec
      simp only [ys, dif_pos hik]
      exact this
    have hlen : ((List.range len).map ys).length = len := by simp
    refine ⟨(List.range len).map ys, ⟨some a, cap, by rw [hlen], by rw [hlen]; exact hl, fun i hi2 => ?_⟩, by rw [hlen]; exact hlen2⟩
    rw [hlen] at hi2
    obtain ⟨b, off, spot⟩ := a
    have hc := hys i hi2
    have hspot : spot = none := by simpa [Addr.add] using World.cell?_spot (hys 0 (by omega))
    subst hspot
    rw [Go.WideShapes.add_plain] at hc
    have hg : ((List.range len).map ys).getD i 0 = ys i := by simp [List.getD, hi2]
    exact ⟨b, off, rfl, World.block_lt_of_cell? w _ hc, by rw [hg]; exact hc⟩

set_option maxRecDepth 100000 in
theorem open_tens {fuel : Nat} {v0 v1 : Value} {x : DataW H × List MemPlace} (h : DataW.trod enc Try.prog w base spare held fuel 26 [v0, v1] = some x) (hz : Lite 26 x.1) :
    ∃ ts tds, Ld w v0 ts ∧ Ld w v1 tds ∧ ts.length ≤ 17592186043904 ∧ tds.length ≤ 17592186043904 := by
  obtain ⟨xs, n, _, hx, _, hxl, hf⟩ := DataW.trod_struct Try.underlying26 h
  have hxl2 : xs.length = 2 := hxl
  match xs, hxl2 with
  | [x0, x1], _ =>
    have h0 : DataW.trod enc Try.prog w base spare held n 23 ((([v0, v1] : List Value).drop 0).take (Try.prog.cellsOf 23)) = some x0 := hf 0 _ rfl
    have h1 : DataW.trod enc Try.prog w base spare held n 24 ((([v0, v1] : List Value).drop 1).take (Try.prog.cellsOf 24)) = some x1 := hf 1 _ rfl
    simp only [cS1, cS5, List.drop_zero, List.drop_succ_cons, List.take_succ_cons, List.take_zero] at h0 h1
    rw [hx] at hz
    obtain ⟨s, hs, ls⟩ := open_nums Try.underlying23 cS2 bS2 Try.underlying3 h0 (lite_part (j := 0) Try.underlying26 hz rfl rfl)
    obtain ⟨t, ht, lt⟩ := open_nums Try.underlying24 cS6 bS6 Try.underlying2 h1 (lite_part (j := 1) Try.underlying26 hz rfl rfl)
    exact ⟨s, t, hs, ht, ls, lt⟩
set_option maxRecDepth 100000 in
set_option maxHeartbeats 2000000 in
theorem open_qk {fuel : Nat} {cs : List Value} {x : DataW H × List MemPlace} (h : DataW.trod enc Try.prog w base spare held fuel 28 cs = some x) (hz : Lite 28 x.1) :
    ∃ e : Qk, e.ok w ∧ cs = [e.X, e.XD, .int .i64 e.e, .int .i64 e.z, .int .i64 e.f] := by
  obtain ⟨xs, n, _, hx, hl, hxl, hf⟩ := DataW.trod_struct Try.underlying28 h
  rw [cS8] at hl
  match cs, hl with
  | [v0, v1, v2, v3, v4], _ =>
    have hxl2 : xs.length = 4 := hxl
    match xs, hxl2 with
    | [x0, x1, x2, x3], _ =>
      have h0 : DataW.trod enc Try.prog w base spare held n 26 ((([v0, v1, v2, v3, v4] : List Value).drop 0).take (Try.prog.cellsOf 26)) = some x0 := hf 0 _ rfl
      have h1 : DataW.trod enc Try.prog w base spare held n 2 ((([v0, v1, v2, v3, v4] : List Value).drop 2).take (Try.prog.cellsOf 2)) = some x1 := hf 1 _ rfl
      have h2 : DataW.trod enc Try.prog w base spare held n 2 ((([v0, v1, v2, v3, v4] : List Value).drop 3).take (Try.prog.cellsOf 2)) = some x2 := hf 2 _ rfl
      have h3 : DataW.trod enc Try.prog w base spare held n 3 ((([v0, v1, v2, v3, v4] : List Value).drop 4).take (Try.prog.cellsOf 3)) = some x3 := hf 3 _ rfl
      simp only [cS2, cS6, cS7, List.drop_zero, List.drop_succ_cons, List.take_succ_cons, List.take_zero] at h0 h1 h2 h3
      rw [hx] at hz
      have q := fun (j : Nat) (u : TypeId) (d : DataW H) => lite_part (j := j) (u := u) (d := d) Try.underlying28 hz
      obtain ⟨sa, da, a0, a1, l0, l1⟩ := open_tens h0 (q 0 _ _ rfl rfl)
      obtain ⟨a, ea, _, wa⟩ := DataW.trod_int Try.underlying2 h1
      obtain ⟨b, eb, _, wb⟩ := DataW.trod_int Try.underlying2 h2
      obtain ⟨c, ec, _, wc⟩ := DataW.trod_int Try.underlying3 h3
      simp only [List.cons.injEq, and_true] at ea eb ec
      subst ea eb ec
      exact ⟨⟨v0, v1, sa, da, a, b, c⟩, ⟨⟨a0, a1⟩, ⟨l0, l1⟩, s_i64 wa, s_i64 wb, s_i64 wc⟩, rfl⟩

set_option maxRecDepth 100000 in
set_option maxHeartbeats 2000000 in
/-- The list: nil or empty, or its elements' cells. -/
theorem open_qks {fuel : Nat} {v : Value} {x : DataW H × List MemPlace} (h : DataW.trod enc Try.prog w base spare held fuel 22 [v] = some x) (hz : Lite 22 x.1) :
    (∃ o cap, v = .slice o 0 cap) ∨ ∃ (b off len cap : Nat) (es : Nat → Qk), v = .slice (some ⟨b, off, none⟩) len cap ∧ len ≤ 9223372036854775807 ∧ b < w.heap.size ∧
      (∀ i, i < len → QkAt w b (off + i * 5) (es i)) ∧ (∀ i, i < len → (es i).ok w) := by
  rcases open_slice Try.underlying22 h with ⟨hcs, _⟩ | ⟨a, len, cap, m, n, D, Pl, hcs, _, hl, hm, hmm, hx, hi⟩
  · left
    simp only [List.cons.injEq, and_true] at hcs
    exact ⟨_, _, hcs⟩
  · simp only [List.cons.injEq, and_true] at hcs
    subst hcs
    by_cases h0 : len = 0
    · subst h0; exact .inl ⟨_, _, rfl⟩
    right
    have hle : len ≤ m := by rw [hmm]; split <;> omega
    rw [cS8] at hi
    rw [hx] at hz
    have hall : ∀ i, i < len → ∃ e : Qk, e.ok w ∧ ∀ j, j < 5 → w.cell? ((a.add (i * 5)).add j) = ([e.X, e.XD, .int .i64 e.e, .int .i64 e.z, .int .i64 e.f] : List Value)[j]? := by
      intro i hik
      obtain ⟨cs', hc, ht⟩ := hi i (by omega)
      obtain ⟨e, he, rfl⟩ := open_qk ht (lite_in Try.underlying22 hz (List.mem_map.2 ⟨i, List.mem_range.2 hik, rfl⟩))
      exact ⟨e, he, (World.cells?_some hc).2.2⟩
    let es : Nat → Qk := fun i => if h : i < len then (hall i h).choose else ⟨.bool false, .bool false, [], [], 0, 0, 0⟩
    have hes : ∀ i, i < len → (es i).ok w ∧ ∀ j, j < 5 → w.cell? ((a.add (i * 5)).add j) = ([(es i).X, (es i).XD, .int .i64 (es i).e, .int .i64 (es i).z, .int .i64 (es i).f] : List Value)[j]? := by
      intro i hik
      have := (hall i hik).choose_spec
      simp only [es, dif_pos hik]
      exact this
    obtain ⟨b, off, spot⟩ := a
    have hspot : spot = none := by
      have := (hes 0 (by omega)).2 0 (by decide)
      simpa [Addr.add] using World.cell?_spot this
    subst hspot
    have cell : ∀ i, i < len → ∀ j, j < 5 → w.cell? ⟨b, off + i * 5 + j, none⟩ = ([(es i).X, (es i).XD, .int .i64 (es i).e, .int .i64 (es i).z, .int .i64 (es i).f] : List Value)[j]? := by
      intro i hik j hj
      rw [← (hes i hik).2 j hj, Go.WideShapes.add_plain, Go.WideShapes.add_plain]
    refine ⟨b, off, len, cap, es, rfl, by unfold maxLen at hm; omega, ?_, fun i hik => ?_, fun i hik => (hes i hik).1⟩
    · exact World.block_lt_of_cell? w _ (by have := cell 0 (by omega) 0 (by decide); simpa using this)
    · exact ⟨cell i hik 0 (by decide), cell i hik 1 (by decide), cell i hik 2 (by decide), cell i hik 3 (by decide), cell i hik 4 (by decide)⟩
end
end Go.Proofs.Ytimmgmhgahbcbaa
namespace Go.Proofs.Ytimmgmhgahbcbaa
open Go Go.RowKit Go.Shelf

/-- The first k words are told anew. -/
def mvl (g : Int → Int) (l : List Int) (k : Nat) : List Int := (l.take k).map g ++ l.drop k
theorem mvl_0 (g : Int → Int) (l : List Int) : mvl g l 0 = l := by simp [mvl]
theorem mvl_all (g : Int → Int) (l : List Int) : mvl g l l.length = l.map g := by simp [mvl]
theorem mvl_part {g : Int → Int} {l : List Int} {k : Nat} (hk : k < l.length) : mvl g l k = (l.take k).map g ++ (l.getD k 0 :: l.drop (k + 1)) := by rw [mvl, drop_getD hk]
theorem mvl_get {g : Int → Int} {l : List Int} {k : Nat} (hk : k < l.length) : (mvl g l k).getD k 0 = l.getD k 0 := by
  rw [mvl_part hk]
  have h : ((l.take k).map g).length = k := by simp; omega
  simp only [List.getD]
  rw [List.getElem?_append_right (by omega), h, Nat.sub_self]
  simp
theorem mvl_set {g : Int → Int} {l : List Int} {k : Nat} (hk : k < l.length) : (mvl g l k).set k (g (l.getD k 0)) = mvl g l (k + 1) := by
  rw [mvl_part hk, mvl, take_snoc hk, List.map_append, List.append_assoc]
  have h : ((l.take k).map g).length = k := by simp; omega
  rw [List.set_append_right _ _ (by omega), h, Nat.sub_self]
  simp
/-- Are all sums words? -/
def okl (z : Int) (l : List Int) (k : Nat) : Bool := (l.take k).all fun a => wd (a + z)
theorem okl_succ {z : Int} {l : List Int} {k : Nat} (hk : k < l.length) : okl z l (k + 1) = (okl z l k && wd (l.getD k 0 + z)) := by
  unfold okl
  rw [take_snoc hk, List.all_append]
  simp
theorem okl_all {z : Int} {l : List Int} (h : okl z l l.length = true) : (l.map fun a => tw (a + z)) = l.map (· + z) ∧ ∀ a ∈ l, wd (a + z) = true := by
  unfold okl at h
  rw [List.take_length, List.all_eq_true] at h
  exact ⟨List.map_congr_left (fun a ha => if_pos (h a ha)), h⟩
theorem wds_map {g : Int → Int} {l : List Int} (h : ∀ a ∈ l, wd (g a) = true) : wds (l.map g) = true := wds_yes (fun k hk => by
  rw [List.length_map] at hk
  rw [mp_getD g hk]
  exact wd_bd (h _ (getD_mem hk)))
/-- The two copies, in boxes; their words are lm and ln. -/
def MvS (V9 : World) (T9 T10 gM gN cM cN : Nat) (o1 o2 : Option Addr) (c1 c2 : Nat) (sx : List Int) (mD : Nat) (lm ln : List Int) (W : World) : Prop :=
  Below V9.heap.size V9 W ∧ (Blk W T9 26 #[.slice o1 sx.length c1, .slice (some ⟨gM, 0, none⟩) mD cM] ∧ Blk W T10 26 #[.slice o2 sx.length c2, .slice (some ⟨gN, 0, none⟩) mD cN]) ∧
    (W.ownsRow V9.heap.size 3 1 (.slice o1 sx.length c1) sx.length (ints sx) ∧ W.ownsRow V9.heap.size 3 1 (.slice o2 sx.length c2) sx.length (ints sx)) ∧
    (W.ownsRow V9.heap.size 2 1 (.slice (some ⟨gM, 0, none⟩) mD cM) mD (ints lm) ∧ W.ownsRow V9.heap.size 2 1 (.slice (some ⟨gN, 0, none⟩) mD cN) mD (ints ln)) ∧ (lm.length = mD ∧ ln.length = mD ∧ gM ≠ gN)
theorem MvS.next {V9 : World} {T9 T10 gM gN cM cN : Nat} {o1 o2 : Option Addr} {c1 c2 : Nat} {sx : List Int} {mD : Nat} {lm ln : List Int} {W W' : World} (h : MvS V9 T9 T10 gM gN cM cN o1 o2 c1 c2 sx mD lm ln W) (hb : Below W.heap.size W W') : MvS V9 T9 T10 gM gN cM cN o1 o2 c1 c2 sx mD lm ln W' :=
  ⟨h.1.trans (hb.mono h.1.size), ⟨h.2.1.1.below hb h.2.1.1.lt, h.2.1.2.below hb h.2.1.2.lt⟩, ⟨Below.keepOwn h.2.2.1.1 hb (Nat.le_refl _), Below.keepOwn h.2.2.1.2 hb (Nat.le_refl _)⟩, ⟨Below.keepOwn h.2.2.2.1.1 hb (Nat.le_refl _), Below.keepOwn h.2.2.2.1.2 hb (Nat.le_refl _)⟩, h.2.2.2.2⟩
theorem row_put {W : World} {base g c n i : Nat} {ls : List Int} (h : W.ownsRow base 2 1 (.slice (some ⟨g, 0, none⟩) n c) n (ints ls)) (hl : ls.length = n) (hi : i < n) (v : Int) : (W.setCell ⟨g, i, none⟩ (.int .i64 v)).ownsRow base 2 1 (.slice (some ⟨g, 0, none⟩) n c) n (ints (ls.set i v)) := by
  subst hl
  have q := own_put h hi v
  rwa [List.length_set] at q
theorem MvS.put1 {V9 : World} {T9 T10 gM gN cM cN : Nat} {o1 o2 : Option Addr} {c1 c2 : Nat} {sx : List Int} {mD : Nat} {lm ln : List Int} {W : World} (h : MvS V9 T9 T10 gM gN cM cN o1 o2 c1 c2 sx mD lm ln W) {i : Nat} (hi : i < mD) (v : Int) : MvS V9 T9 T10 gM gN cM cN o1 o2 c1 c2 sx mD (lm.set i v) ln (W.setCell ⟨gM, i, none⟩ (.int .i64 v)) := by
  obtain ⟨hB, ⟨b1, b2⟩, ⟨s1, s2⟩, ⟨r1, r2⟩, l1, l2, hne⟩ := h
  have hg := (r1.lt gM rfl).1
  have n9 : ¬ T9 = gM := fun e => tens_not_row r1 b1 (by decide) (by subst e; rfl)
  have n10 : ¬ T10 = gM := fun e => tens_not_row r1 b2 (by decide) (by subst e; rfl)
  exact ⟨hB.setCell (p := ⟨gM, i, none⟩) hg _, ⟨b1.far (p := ⟨gM, i, none⟩) n9 _, b2.far (p := ⟨gM, i, none⟩) n10 _⟩, ⟨s1.kept (grown_set W ⟨gM, i, none⟩ _) (.inr (own_off s1 r1 (by decide))), s2.kept (grown_set W ⟨gM, i, none⟩ _) (.inr (own_off s2 r1 (by decide)))⟩,
    ⟨row_put r1 l1 hi v, r2.kept (grown_set W ⟨gM, i, none⟩ _) (.inr (fun e => hne (by simpa [Value.ownBlock] using e.symm)))⟩, by rw [List.length_set]; exact l1, l2, hne⟩
theorem MvS.put2 {V9 : World} {T9 T10 gM gN cM cN : Nat} {o1 o2 : Option Addr} {c1 c2 : Nat} {sx : List Int} {mD : Nat} {lm ln : List Int} {W : World} (h : MvS V9 T9 T10 gM gN cM cN o1 o2 c1 c2 sx mD lm ln W) {i : Nat} (hi : i < mD) (v : Int) : MvS V9 T9 T10 gM gN cM cN o1 o2 c1 c2 sx mD lm (ln.set i v) (W.setCell ⟨gN, i, none⟩ (.int .i64 v)) := by
  obtain ⟨hB, ⟨b1, b2⟩, ⟨s1, s2⟩, ⟨r1, r2⟩, l1, l2, hne⟩ := h
  have hg := (r2.lt gN rfl).1
  have n9 : ¬ T9 = gN := fun e => tens_not_row r2 b1 (by decide) (by subst e; rfl)
  have n10 : ¬ T10 = gN := fun e => tens_not_row r2 b2 (by decide) (by subst e; rfl)
  exact ⟨hB.setCell (p := ⟨gN, i, none⟩) hg _, ⟨b1.far (p := ⟨gN, i, none⟩) n9 _, b2.far (p := ⟨gN, i, none⟩) n10 _⟩, ⟨s1.kept (grown_set W ⟨gN, i, none⟩ _) (.inr (own_off s1 r2 (by decide))), s2.kept (grown_set W ⟨gN, i, none⟩ _) (.inr (own_off s2 r2 (by decide)))⟩,
    ⟨r1.kept (grown_set W ⟨gN, i, none⟩ _) (.inr (fun e => hne (by simpa [Value.ownBlock] using e))), row_put r2 l2 hi v⟩, l1, by rw [List.length_set]; exact l2, hne⟩
/-- A whole number in a box. -/
def IBq (W : World) (B : Nat) (b : Bool) (o : Option Addr) (l c : Nat) (z : Int) : Prop := Blk W B 47 #[.bool b, .slice o l c] ∧ IsI W (Iv b (.slice o l c)) z
theorem IBq.below {W W' : World} {B : Nat} {b : Bool} {o : Option Addr} {l c : Nat} {z : Int} (h : IBq W B b o l c z) (hb : Below W.heap.size W W') : IBq W' B b o l c z := ⟨h.1.below hb h.1.lt, h.2.below hb⟩
theorem IBq.num {W : World} {B : Nat} {b : Bool} {o : Option Addr} {l c : Nat} {z : Int} (h : IBq W B b o l c z) : IsI W (Iv b (.slice o l c)) z := h.2
theorem IBq.box {W : World} {B : Nat} {b : Bool} {o : Option Addr} {l c : Nat} {z : Int} (h : IBq W B b o l c z) : Blk W B 47 #[.bool b, .slice o l c] := h.1
theorem IBq.put {W : World} {B : Nat} {b b2 : Bool} {o o2 : Option Addr} {l c l2 c2 : Nat} {z z2 : Int} (h : IBq W B b o l c z) (hz : IsI W (Iv b2 (.slice o2 l2 c2)) z2) : IBq ((W.setCell ⟨B, 0, none⟩ (.bool b2)).setCell ⟨B, 1, none⟩ (.slice o2 l2 c2)) B b2 o2 l2 c2 z2 :=
  ⟨(h.1.set_ 0 _).set_ 1 _, hz.put (h.1.cell 0) (by intro x; simp) (h.1.cell 1) (by intro x; simp)⟩
theorem ileft_1q (x : Value) (z : Int) (w : World) (h : IsI w x z) (gz : z.natAbs < BIG) : Calls Try.prog 19 #[x, .int .i64 1] w (SomeI w (z * 2 ^ 1)) := ileft_any x z 1 w h gz (by decide)
theorem ibq_new {W : World} {b : Bool} {o : Option Addr} {l c : Nat} {z : Int} (h : IsI W (Iv b (.slice o l c)) z) : IBq (W.alloc (.cells #[.bool b, .slice o l c] 47)) W.heap.size b o l c z := ⟨Blk.new _ _ _, h.below ((Below.refl _ _).alloc (Nat.le_refl _) _)⟩
theorem n_big {n sh : Nat} (hn : n ≤ 24) (hs : sh ≤ 66) : ((n : Int) * 2 ^ sh).natAbs < BIG := by
  rw [Int.natAbs_mul, Int.natAbs_pow]
  have h1 : 2 ^ sh ≤ 2 ^ 66 := Nat.pow_le_pow_right (by decide) hs
  have h2 := Nat.mul_le_mul hn h1
  have e : (2 : Int).natAbs = 2 := rfl
  rw [e, Int.natAbs_natCast]
  exact big_of (k := 80) (Nat.lt_of_le_of_lt h2 (by decide)) (by decide)
theorem sq_le2 {d : Int} (h : -1 ≤ d ∧ d ≤ 549755813888) : 0 ≤ d * d ∧ d * d ≤ 302231454903657293676544 := by
  refine ⟨sqn d, ?_⟩
  by_cases h0 : 0 ≤ d
  · have := sq_le (a := d) (b := 549755813888) h0 h.2
    omega
  · obtain rfl : d = -1 := by omega
    decide
end Go.Proofs.Ytimmgmhgahbcbaa
