
import Derived.Deep.Slices
import Derived.Deep.Fields
import Derived.ProofKit
import Derived.Carry
import Derived.SizedLaws
import Derived.Test.YtmafgdinegboeaaGreatM01
namespace Go.Proofs.YtmafgdinegboeaaGreat
open Go.ChangeShapes Go.WideShapes Go.ChangeAt Go.RowKit Go.Deep

theorem Tryz.own : ownKnob Tryz.prog.godebug = none := by kernel_rfl
theorem Tryz.laidOut : laidOutB Tryz.prog = true := by kernel_rfl
theorem s_i64 {x : Int} (h : (Lit.int .i64 x).wf = true) : -9223372036854775808 ≤ x ∧ x ≤ 9223372036854775807 := by
  simp [Lit.wf, IntKind.min, IntKind.max, IntKind.signed, IntKind.bits] at h
  exact ⟨by omega, by omega⟩
theorem cS1 : Tryz.prog.cellsOf 23 = 1 := by kernel_rfl
theorem cS2 : Tryz.prog.cellsOf 3 = 1 := by kernel_rfl
theorem cS5 : Tryz.prog.cellsOf 24 = 1 := by kernel_rfl
theorem cS6 : Tryz.prog.cellsOf 2 = 1 := by kernel_rfl
theorem cS7 : Tryz.prog.cellsOf 26 = 2 := by kernel_rfl
theorem cS8 : Tryz.prog.cellsOf 75 = 5 := by kernel_rfl
theorem bS2 : Tryz.prog.bytesOf 3 = 8 := by kernel_rfl
theorem bS6 : Tryz.prog.bytesOf 2 = 8 := by kernel_rfl
theorem reach_is : reachBytes = 140737488351232 := rfl

structure Mk where
  A : Value
  X : Value
  B : Value
  Y : Value
  sa : List Int
  da : List Int
  sb : List Int
  db : List Int
  f : Int
def Mk.ok (w : World) (e : Mk) : Prop := (Ld w e.A e.sa ∧ Ld w e.X e.da ∧ Ld w e.B e.sb ∧ Ld w e.Y e.db) ∧ (e.sa.length ≤ 17592186043904 ∧ e.da.length ≤ 17592186043904 ∧ e.sb.length ≤ 17592186043904 ∧ e.db.length ≤ 17592186043904) ∧ (-9223372036854775808 ≤ e.f ∧ e.f ≤ 9223372036854775807)
def MkAt (w : World) (b p : Nat) (e : Mk) : Prop := w.cell? ⟨b, p, none⟩ = some e.A ∧ w.cell? ⟨b, p + 1, none⟩ = some e.X ∧ w.cell? ⟨b, p + 2, none⟩ = some e.B ∧ w.cell? ⟨b, p + 3, none⟩ = some e.Y ∧ w.cell? ⟨b, p + 4, none⟩ = some (.int .i64 e.f)
theorem MkAt.below {w W : World} {b p : Nat} {e : Mk} (h : MkAt w b p e) (hB : Below w.heap.size w W) (hb : b < w.heap.size) : MkAt W b p e := by
  obtain ⟨h0, h1, h2, h3, h4⟩ := h
  have k : ∀ (i : Nat) (v : Value), w.cell? ⟨b, i, none⟩ = some v → W.cell? ⟨b, i, none⟩ = some v := fun i v hh => (hB.cell (p := ⟨b, i, none⟩) hb).trans hh
  exact ⟨k _ _ h0, k _ _ h1, k _ _ h2, k _ _ h3, k _ _ h4⟩

def Lite {H : Type} (t : TypeId) (d : DataW H) : Prop := ∀ n ∈ d.weights Tryz.prog t, n ≤ reachBytes
theorem lite_all {H : Type} {e : TypeId} : ∀ {l : List (DataW H)} {d : DataW H}, d ∈ l → ∀ n ∈ d.weights Tryz.prog e, n ∈ DataW.weightsAll Tryz.prog e l
  | d' :: r, d, hd, n, hn => by
    simp only [DataW.weightsAll, List.mem_append]
    rcases List.mem_cons.1 hd with rfl | h
    · exact .inl hn
    · exact .inr (lite_all h n hn)
theorem lite_in {H : Type} {t e : TypeId} {elems spare : List (DataW H)} {d : DataW H} (hu : Tryz.prog.underlying t = some (.slice e)) (h : Lite t (.slice elems spare)) (hd : d ∈ elems) : Lite e d := fun n hn =>
  h n (by simp only [DataW.weights, hu, List.mem_cons, List.mem_append]; exact .inr (.inl (lite_all hd n hn)))
theorem lite_len {H : Type} {t e : TypeId} {elems spare : List (DataW H)} (hu : Tryz.prog.underlying t = some (.slice e)) (hb : Tryz.prog.bytesOf e = 8) (h : Lite t (.slice elems spare)) : elems.length ≤ 17592186043904 := by
  have := h ((elems.length + spare.length) * Tryz.prog.bytesOf e) (by simp [DataW.weights, hu])
  rw [hb, reach_is] at this
  omega
theorem lite_part {H : Type} {t : TypeId} {fs : Array Field} {parts : List (DataW H)} {j : Nat} {d : DataW H} {u : TypeId} (hu : Tryz.prog.underlying t = some (.struct fs)) (h : Lite t (.agg parts)) (hj : (fs.toList.map (·.type))[j]? = some u) (hd : parts[j]? = some d) : Lite u d := fun n hn =>
  h n (by simp only [DataW.weights, hu]; exact DataW.weights_mem_each hj hd n hn)

section
variable {H : Type} {enc : TypeId × Value → H} {w : World} {base : Nat} {spare : Nat → Bool} {held : Bool}
set_option maxRecDepth 100000 in
theorem open_nums {t e : TypeId} {fuel : Nat} {v : Value} {x : DataW H × List MemPlace} (hu : Tryz.prog.underlying t = some (.slice e)) (hc : Tryz.prog.cellsOf e = 1) (hb : Tryz.prog.bytesOf e = 8) (hi : Tryz.prog.underlying e = some (.int .i64))
    (h : DataW.trod enc Tryz.prog w base spare held fuel t [v] = some x) (hz : Lite t x.1) : ∃ ls, Ld w v ls ∧ ls.length ≤ 17592186043904 := by
  rcases open_slice1 hu hc h with ⟨hcs, _⟩ | ⟨a, len, cap, m, n, V, D, Pl, hcs, _, hl, hm, hmm, hx, hia⟩
  · simp only [List.cons.injEq, and_true] at hcs
    subst hcs
    exact ⟨[], Ld.nil w, by simp⟩
  · simp only [List.cons.injEq, and_true] at hcs
    subst hcs
    have hle : len ≤ m := by rw [hmm]; split <;> omega
    have hlen2 : len ≤ 17592186043904 := by
      rw [hx] at hz
      have := lite_len hu hb hz
      simpa using this
    have hall : ∀ i, i < len → ∃ y : Int, w.cell? (a.add i) = some (.int .i64 y) := by
      intro i hik
      obtain ⟨hc, ht⟩ := hia i (by omega)
      obtain ⟨y, e0, _, _⟩ := DataW.trod_int hi ht
      simp only [List.cons.injEq, and_true] at e0
      exact ⟨y, by rw [hc, e0]⟩
    let ys : Nat → Int := fun i => if h : i < len then (hall i h).choose else 0
    have hys : ∀ i, i < len → w.cell? (a.add i) = some (.int .i64 (ys i)) := by
      intro i hik
      have := (hall i hik).choose_spec
      simp only [ys, dif_pos hik]
      exact this
    have hlen : ((List.range len).map ys).length = len := by simp
    refine ⟨(List.range len).map ys, ⟨some a, cap, by rw [hlen], by rw [hlen]; exact hl, fun i hi2 => ?_⟩, by rw [hlen]; exact hlen2⟩
    rw [hlen] at hi2
    obtain ⟨b, off, spot⟩ := a
    have hc := hys i hi2
    have hspot : spot = none := by simpa [Addr.add] using World.cell?_spot (hys 0 (by omega))
    subst hspot
    rw [Go.WideShapes.add_plain] at hc
    have hg : ((List.range len).map ys).getD i 0 = ys i := by simp [List.getD, hi2]
    exact ⟨b, off, rfl, World.block_lt_of_cell? w _ hc, by rw [hg]; exact hc⟩

set_option maxRecDepth 100000 in
theorem open_tens {fuel : Nat} {v0 v1 : Value} {x : DataW H × List MemPlace} (h : DataW.trod enc Tryz.prog w base spare held fuel 26 [v0, v1] = some x) (hz : Lite 26 x.1) :
    ∃ ts tds, Ld w v0 ts ∧ Ld w v1 tds ∧ ts.length ≤ 17592186043904 ∧ tds.length ≤ 17592186043904 := by
  obtain ⟨xs, n, _, hx, _, hxl, hf⟩ := DataW.trod_struct Tryz.underlying26 h
  have hxl2 : xs.length = 2 := hxl
  match xs, hxl2 with
  | [x0, x1], _ =>
    have h0 : DataW.trod enc Tryz.prog w base spare held n 23 ((([v0, v1] : List Value).drop 0).take (Tryz.prog.cellsOf 23)) = some x0 := hf 0 _ rfl
    have h1 : DataW.trod enc Tryz.prog w base spare held n 24 ((([v0, v1] : List Value).drop 1).take (Tryz.prog.cellsOf 24)) = some x1 := hf 1 _ rfl
    simp only [cS1, cS5, List.drop_zero, List.drop_succ_cons, List.take_succ_cons, List.take_zero] at h0 h1
    rw [hx] at hz
    obtain ⟨s, hs, ls⟩ := open_nums Tryz.underlying23 cS2 bS2 Tryz.underlying3 h0 (lite_part (j := 0) Tryz.underlying26 hz rfl rfl)
    obtain ⟨t, ht, lt⟩ := open_nums Tryz.underlying24 cS6 bS6 Tryz.underlying2 h1 (lite_part (j := 1) Tryz.underlying26 hz rfl rfl)
    exact ⟨s, t, hs, ht, ls, lt⟩
set_option maxRecDepth 100000 in
set_option maxHeartbeats 2000000 in
theorem open_mk {fuel : Nat} {cs : List Value} {x : DataW H × List MemPlace} (h : DataW.trod enc Tryz.prog w base spare held fuel 75 cs = some x) (hz : Lite 75 x.1) :
    ∃ e : Mk, e.ok w ∧ cs = [e.A, e.X, e.B, e.Y, .int .i64 e.f] := by
  obtain ⟨xs, n, _, hx, hl, hxl, hf⟩ := DataW.trod_struct Tryz.underlying75 h
  rw [cS8] at hl
  match cs, hl with
  | [v0, v1, v2, v3, v4], _ =>
    have hxl2 : xs.length = 3 := hxl
    match xs, hxl2 with
    | [x0, x1, x2], _ =>
      have h0 : DataW.trod enc Tryz.prog w base spare held n 26 ((([v0, v1, v2, v3, v4] : List Value).drop 0).take (Tryz.prog.cellsOf 26)) = some x0 := hf 0 _ rfl
      have h1 : DataW.trod enc Tryz.prog w base spare held n 26 ((([v0, v1, v2, v3, v4] : List Value).drop 2).take (Tryz.prog.cellsOf 26)) = some x1 := hf 1 _ rfl
      have h2 : DataW.trod enc Tryz.prog w base spare held n 3 ((([v0, v1, v2, v3, v4] : List Value).drop 4).take (Tryz.prog.cellsOf 3)) = some x2 := hf 2 _ rfl
      simp only [cS2, cS7, List.drop_zero, List.drop_succ_cons, List.take_succ_cons, List.take_zero] at h0 h1 h2
      rw [hx] at hz
      have q := fun (j : Nat) (u : TypeId) (d : DataW H) => lite_part (j := j) (u := u) (d := d) Tryz.underlying75 hz
      obtain ⟨sa, da, hs, hd, l0, l1⟩ := open_tens h0 (q 0 _ _ rfl rfl)
      obtain ⟨sb, db, hs2, hd2, l2, l3⟩ := open_tens h1 (q 1 _ _ rfl rfl)
      obtain ⟨a, ea, _, wa⟩ := DataW.trod_int Tryz.underlying3 h2
      simp only [List.cons.injEq, and_true] at ea
      subst ea
      exact ⟨⟨v0, v1, v2, v3, sa, da, sb, db, a⟩, ⟨⟨hs, hd, hs2, hd2⟩, ⟨l0, l1, l2, l3⟩, s_i64 wa⟩, rfl⟩

set_option maxRecDepth 100000 in
set_option maxHeartbeats 2000000 in
theorem open_mks {fuel : Nat} {v : Value} {x : DataW H × List MemPlace} (h : DataW.trod enc Tryz.prog w base spare held fuel 73 [v] = some x) (hz : Lite 73 x.1) :
    (∃ o cap, v = .slice o 0 cap) ∨ ∃ (b off len cap : Nat) (es : Nat → Mk), v = .slice (some ⟨b, off, none⟩) len cap ∧ len ≤ 9223372036854775807 ∧ b < w.heap.size ∧
      (∀ i, i < len → MkAt w b (off + i * 5) (es i)) ∧ (∀ i, i < len → (es i).ok w) := by
  rcases open_slice Tryz.underlying73 h with ⟨hcs, _⟩ | ⟨a, len, cap, m, n, D, Pl, hcs, _, hl, hm, hmm, hx, hi⟩
  · left
    simp only [List.cons.injEq, and_true] at hcs
    exact ⟨_, _, hcs⟩
  · simp only [List.cons.injEq, and_true] at hcs
    subst hcs
    by_cases h0 : len = 0
    · subst h0; exact .inl ⟨_, _, rfl⟩
    right
    have hle : len ≤ m := by rw [hmm]; split <;> omega
    rw [cS8] at hi
    rw [hx] at hz
    have hall : ∀ i, i < len → ∃ e : Mk, e.ok w ∧ ∀ j, j < 5 → w.cell? ((a.add (i * 5)).add j) = ([e.A, e.X, e.B, e.Y, .int .i64 e.f] : List Value)[j]? := by
      intro i hik
      obtain ⟨cs', hc, ht⟩ := hi i (by omega)
      obtain ⟨e, he, rfl⟩ := open_mk ht (lite_in Tryz.underlying73 hz (List.mem_map.2 ⟨i, List.mem_range.2 hik, rfl⟩))
      exact ⟨e, he, (World.cells?_some hc).2.2⟩
    let es : Nat → Mk := fun i => if h : i < len then (hall i h).choose else ⟨.bool false, .bool false, .bool false, .bool false, [], [], [], [], 0⟩
    have hes : ∀ i, i < len → (es i).ok w ∧ ∀ j, j < 5 → w.cell? ((a.add (i * 5)).add j) = ([(es i).A, (es i).X, (es i).B, (es i).Y, .int .i64 (es i).f] : List Value)[j]? := by
      intro i hik
      have := (hall i hik).choose_spec
      simp only [es, dif_pos hik]
      exact this
    obtain ⟨b, off, spot⟩ := a
    have hspot : spot = none := by
      have := (hes 0 (by omega)).2 0 (by decide)
      simpa [Addr.add] using World.cell?_spot this
    subst hspot
    have cell : ∀ i, i < len → ∀ j, j < 5 → w.cell? ⟨b, off + i * 5 + j, none⟩ = ([(es i).A, (es i).X, (es i).B, (es i).Y, .int .i64 (es i).f] : List Value)[j]? := by
      intro i hik j hj
      rw [← (hes i hik).2 j hj, Go.WideShapes.add_plain, Go.WideShapes.add_plain]
    refine ⟨b, off, len, cap, es, rfl, by unfold maxLen at hm; omega, ?_, fun i hik => ?_, fun i hik => (hes i hik).1⟩
    · exact World.block_lt_of_cell? w _ (by have := cell 0 (by omega) 0 (by decide); simpa using this)
    · exact ⟨cell i hik 0 (by decide), cell i hik 1 (by decide), cell i hik 2 (by decide), cell i hik 3 (by decide), cell i hik 4 (by decide)⟩
end
end Go.Proofs.YtmafgdinegboeaaGreat
