/-
  What the view laws' rounds carry from call to call.
  Copy's and Lay's answers, refused or not; a list in memory behind a box's two stores.
  What ViewBack's round calls, where nothing is refused.
-/
import Derived.Test.YtdcmcfmodbdhaaaM04
import Derived.Test.YtdcmcfmodbdhaaaM06
import Derived.Test.YtdcmcfmodbdhaaaM07
import Derived.Test.YtdcmcfmodbdhaaaM09
import Derived.Test.YtdcmcfmodbdhaaaM10
import Derived.Test.YtdcmcfmodbdhaaaM12
import Derived.Test.YtdcmcfmodbdhaaaM13
import Derived.Test.YtdcmcfmodbdhaaaM14
namespace Go.Proofs.Ytdcmcfmodbdhaaa
open Go.RowKit Go.Shelf

/-- An element's lists and numbers. -/
structure Lk where
  sh : List Int
  st : List Int
  ax : List Int
  s : List Int
  off : Int
  A : Int
  B : Int
  C : Int
/-- A box that holds a view, if there is no error. -/
def VBx (W : World) (base B : Nat) (er : Int) (S T : List Int) (fo : Int) : Prop := ∃ ua ub fu, Blk W B 25 #[ua, ub, .int .i64 fu] ∧ (er = 0 → Ov W base ua ub S T ∧ fu = fo)
section
variable {W W' : World} {base B b : Nat} {er : Int} {S T : List Int} {fo : Int}
theorem VBx.next (h : VBx W base B er S T fo) (hb : Below W.heap.size W W') : VBx W' base B er S T fo := by
  obtain ⟨ua, ub, fu, h1, h2⟩ := h
  exact ⟨ua, ub, fu, h1.below hb h1.lt, fun e => ⟨(h2 e).1.below hb, (h2 e).2⟩⟩
theorem VBx.far {cs : Array Value} (h : VBx W base B er S T fo) (hb : Blk W b 25 cs) (hne : B ≠ b) (x y z : Value) : VBx (((W.setCell ⟨b, 0, none⟩ x).setCell ⟨b, 1, none⟩ y).setCell ⟨b, 2, none⟩ z) base B er S T fo := by
  obtain ⟨ua, ub, fu, h1, h2⟩ := h
  exact ⟨ua, ub, fu, ((h1.far (p := ⟨b, 0, none⟩) hne x).far (p := ⟨b, 1, none⟩) hne y).far (p := ⟨b, 2, none⟩) hne z, fun e => ⟨(h2 e).1.box hb x y z, (h2 e).2⟩⟩
theorem VBx.blk (h : VBx W base B er S T fo) : ∃ cs, Blk W B 25 cs := let ⟨_, _, _, h1, _⟩ := h; ⟨_, h1⟩
theorem vbx_put {_cs : Array Value} {x y z : Value} {v1 v2 : Value} (hb : Blk W B 25 #[x, y, z]) (ho : Ov W base v1 v2 S T) : VBx (((W.setCell ⟨B, 0, none⟩ v1).setCell ⟨B, 1, none⟩ v2).setCell ⟨B, 2, none⟩ (.int .i64 fo)) base B er S T fo :=
  ⟨v1, v2, fo, ((hb.set_ 0 v1).set_ 1 v2).set_ 2 _, fun _ => ⟨ho.box hb _ _ _, rfl⟩⟩
theorem vbx_new (he : ¬ er = 0) (h : Blk W B 25 #[.slice none 0 0, .slice none 0 0, .int .i64 0]) : VBx W base B er S T fo := ⟨_, _, _, h, fun e => absurd e he⟩
theorem VBx.mono {er' : Int} (h : VBx W base B er S T fo) (he : er' = 0 → er = 0) : VBx W base B er' S T fo := by
  obtain ⟨ua, ub, fu, h1, h2⟩ := h
  exact ⟨ua, ub, fu, h1, fun e => h2 (he e)⟩
end
/-- What ViewExact's round holds: the copy, and the five views that are asked for. -/
def Fr (p : Lk) (w3 : World) (b : Nat) (v1 v2 : Value) (e1 e2 e3 e4 e5 : Int) (W : World) : Prop :=
  Below w3.heap.size w3 W ∧ Blk W w3.heap.size 25 #[v1, v2, .int .i64 p.off] ∧ VBx W b b e1 (trl p.sh p.ax) (trl p.st p.ax) p.off ∧ VBx W b (b + 1) e2 (slv p.sh p.A p.B p.C) p.st (slo p.st p.off p.A p.B) ∧
    VBx W b (b + 1 + 1) e3 p.s (wst p.sh p.st p.s) p.off ∧ VBx W b (b + 1 + 1 + 1) e4 p.s (stl p.s) 0 ∧ VBx W b (b + 1 + 1 + 1 + 1) e5 p.s (stl p.s) 0 ∧ b + 5 ≤ W.heap.size ∧ w3.heap.size < b
section
variable {p : Lk} {w3 W W' : World} {b : Nat} {v1 v2 : Value} {e1 e2 e3 e4 e5 : Int}
theorem Fr.next (h : Fr p w3 b v1 v2 e1 e2 e3 e4 e5 W) (hb : Below W.heap.size W W') : Fr p w3 b v1 v2 e1 e2 e3 e4 e5 W' := by
  obtain ⟨h0, h1, h2, h3, h4, h5, h6, h7, h8⟩ := h
  exact ⟨h0.trans (hb.mono h0.size), h1.below hb h1.lt, h2.next hb, h3.next hb, h4.next hb, h5.next hb, h6.next hb, Nat.le_trans h7 hb.size, h8⟩
theorem Fr.below (h : Fr p w3 b v1 v2 e1 e2 e3 e4 e5 W) : Below w3.heap.size w3 W := h.1
theorem Fr.alloc (h : Fr p w3 b v1 v2 e1 e2 e3 e4 e5 W) (o : Obj) : Fr p w3 b v1 v2 e1 e2 e3 e4 e5 (W.alloc o) := h.next ((Below.refl _ _).alloc (Nat.le_refl _) o)
theorem Fr.mono {f1 f2 f3 f4 f5 : Int} (h : Fr p w3 b v1 v2 e1 e2 e3 e4 e5 W) (h1 : f1 = 0 → e1 = 0) (h2 : f2 = 0 → e2 = 0) (h3 : f3 = 0 → e3 = 0) (h4 : f4 = 0 → e4 = 0) (h5 : f5 = 0 → e5 = 0) : Fr p w3 b v1 v2 f1 f2 f3 f4 f5 W :=
  ⟨h.1, h.2.1, h.2.2.1.mono h1, h.2.2.2.1.mono h2, h.2.2.2.2.1.mono h3, h.2.2.2.2.2.1.mono h4, h.2.2.2.2.2.2.1.mono h5, h.2.2.2.2.2.2.2⟩
theorem Fr.box3 (h : Fr p w3 b v1 v2 e1 e2 e3 e4 e5 W) {B : Nat} {cs : Array Value} (hB : Blk W B 25 cs) (hb : b + 5 ≤ B) (x y z : Value) : Fr p w3 b v1 v2 e1 e2 e3 e4 e5 (((W.setCell ⟨B, 0, none⟩ x).setCell ⟨B, 1, none⟩ y).setCell ⟨B, 2, none⟩ z) := by
  obtain ⟨h0, h1, h2, h3, h4, h5, h6, h7, h8⟩ := h
  have hne : w3.heap.size ≠ B := by omega
  exact ⟨Below.box h0 (by omega) x y z, ((h1.far (p := ⟨B, 0, none⟩) hne x).far (p := ⟨B, 1, none⟩) hne y).far (p := ⟨B, 2, none⟩) hne z, h2.far hB (by omega) x y z, h3.far hB (by omega) x y z, h4.far hB (by omega) x y z, h5.far hB (by omega) x y z, h6.far hB (by omega) x y z, by simpa using h7, h8⟩
end
theorem Fr.put1 {p : Lk} {w3 W : World} {b : Nat} {v1 v2 : Value} {e1 e2 e3 e4 e5 : Int} (h : Fr p w3 b v1 v2 e1 e2 e3 e4 e5 W) {u1 u2 : Value} (f : Int) (ho : Ov W b u1 u2 (trl p.sh p.ax) (trl p.st p.ax)) : Fr p w3 b v1 v2 f e2 e3 e4 e5 (((W.setCell ⟨b, 0, none⟩ u1).setCell ⟨b, 1, none⟩ u2).setCell ⟨b, 2, none⟩ (.int .i64 (p.off))) := by
  obtain ⟨h0, h1, h2, h3, h4, h5, h6, h7, h8⟩ := h
  obtain ⟨xa, xb, xc, hx, _⟩ := h2
  have hne : w3.heap.size ≠ b := by omega
  exact ⟨Below.box h0 (by omega) _ _ _, ((h1.far (p := ⟨b, 0, none⟩) hne _).far (p := ⟨b, 1, none⟩) hne _).far (p := ⟨b, 2, none⟩) hne _, vbx_put (_cs := #[]) hx ho, h3.far hx (by omega) _ _ _, h4.far hx (by omega) _ _ _, h5.far hx (by omega) _ _ _, h6.far hx (by omega) _ _ _, by simpa using h7, h8⟩
theorem Fr.put2 {p : Lk} {w3 W : World} {b : Nat} {v1 v2 : Value} {e1 e2 e3 e4 e5 : Int} (h : Fr p w3 b v1 v2 e1 e2 e3 e4 e5 W) {u1 u2 : Value} (f : Int) (ho : Ov W b u1 u2 (slv p.sh p.A p.B p.C) (p.st)) : Fr p w3 b v1 v2 e1 f e3 e4 e5 (((W.setCell ⟨b + 1, 0, none⟩ u1).setCell ⟨b + 1, 1, none⟩ u2).setCell ⟨b + 1, 2, none⟩ (.int .i64 (slo p.st p.off p.A p.B))) := by
  obtain ⟨h0, h1, h2, h3, h4, h5, h6, h7, h8⟩ := h
  obtain ⟨xa, xb, xc, hx, _⟩ := h3
  have hne : w3.heap.size ≠ b + 1 := by omega
  exact ⟨Below.box h0 (by omega) _ _ _, ((h1.far (p := ⟨b + 1, 0, none⟩) hne _).far (p := ⟨b + 1, 1, none⟩) hne _).far (p := ⟨b + 1, 2, none⟩) hne _, h2.far hx (by omega) _ _ _, vbx_put (_cs := #[]) hx ho, h4.far hx (by omega) _ _ _, h5.far hx (by omega) _ _ _, h6.far hx (by omega) _ _ _, by simpa using h7, h8⟩
theorem Fr.put3 {p : Lk} {w3 W : World} {b : Nat} {v1 v2 : Value} {e1 e2 e3 e4 e5 : Int} (h : Fr p w3 b v1 v2 e1 e2 e3 e4 e5 W) {u1 u2 : Value} (f : Int) (ho : Ov W b u1 u2 (p.s) (wst p.sh p.st p.s)) : Fr p w3 b v1 v2 e1 e2 f e4 e5 (((W.setCell ⟨b + 1 + 1, 0, none⟩ u1).setCell ⟨b + 1 + 1, 1, none⟩ u2).setCell ⟨b + 1 + 1, 2, none⟩ (.int .i64 (p.off))) := by
  obtain ⟨h0, h1, h2, h3, h4, h5, h6, h7, h8⟩ := h
  obtain ⟨xa, xb, xc, hx, _⟩ := h4
  have hne : w3.heap.size ≠ b + 1 + 1 := by omega
  exact ⟨Below.box h0 (by omega) _ _ _, ((h1.far (p := ⟨b + 1 + 1, 0, none⟩) hne _).far (p := ⟨b + 1 + 1, 1, none⟩) hne _).far (p := ⟨b + 1 + 1, 2, none⟩) hne _, h2.far hx (by omega) _ _ _, h3.far hx (by omega) _ _ _, vbx_put (_cs := #[]) hx ho, h5.far hx (by omega) _ _ _, h6.far hx (by omega) _ _ _, by simpa using h7, h8⟩
theorem Fr.put4 {p : Lk} {w3 W : World} {b : Nat} {v1 v2 : Value} {e1 e2 e3 e4 e5 : Int} (h : Fr p w3 b v1 v2 e1 e2 e3 e4 e5 W) {u1 u2 : Value} (f : Int) (ho : Ov W b u1 u2 (p.s) (stl p.s)) : Fr p w3 b v1 v2 e1 e2 e3 f e5 (((W.setCell ⟨b + 1 + 1 + 1, 0, none⟩ u1).setCell ⟨b + 1 + 1 + 1, 1, none⟩ u2).setCell ⟨b + 1 + 1 + 1, 2, none⟩ (.int .i64 (0))) := by
  obtain ⟨h0, h1, h2, h3, h4, h5, h6, h7, h8⟩ := h
  obtain ⟨xa, xb, xc, hx, _⟩ := h5
  have hne : w3.heap.size ≠ b + 1 + 1 + 1 := by omega
  exact ⟨Below.box h0 (by omega) _ _ _, ((h1.far (p := ⟨b + 1 + 1 + 1, 0, none⟩) hne _).far (p := ⟨b + 1 + 1 + 1, 1, none⟩) hne _).far (p := ⟨b + 1 + 1 + 1, 2, none⟩) hne _, h2.far hx (by omega) _ _ _, h3.far hx (by omega) _ _ _, h4.far hx (by omega) _ _ _, vbx_put (_cs := #[]) hx ho, h6.far hx (by omega) _ _ _, by simpa using h7, h8⟩
theorem Fr.put5 {p : Lk} {w3 W : World} {b : Nat} {v1 v2 : Value} {e1 e2 e3 e4 e5 : Int} (h : Fr p w3 b v1 v2 e1 e2 e3 e4 e5 W) {u1 u2 : Value} (f : Int) (ho : Ov W b u1 u2 (p.s) (stl p.s)) : Fr p w3 b v1 v2 e1 e2 e3 e4 f (((W.setCell ⟨b + 1 + 1 + 1 + 1, 0, none⟩ u1).setCell ⟨b + 1 + 1 + 1 + 1, 1, none⟩ u2).setCell ⟨b + 1 + 1 + 1 + 1, 2, none⟩ (.int .i64 (0))) := by
  obtain ⟨h0, h1, h2, h3, h4, h5, h6, h7, h8⟩ := h
  obtain ⟨xa, xb, xc, hx, _⟩ := h6
  have hne : w3.heap.size ≠ b + 1 + 1 + 1 + 1 := by omega
  exact ⟨Below.box h0 (by omega) _ _ _, ((h1.far (p := ⟨b + 1 + 1 + 1 + 1, 0, none⟩) hne _).far (p := ⟨b + 1 + 1 + 1 + 1, 1, none⟩) hne _).far (p := ⟨b + 1 + 1 + 1 + 1, 2, none⟩) hne _, h2.far hx (by omega) _ _ _, h3.far hx (by omega) _ _ _, h4.far hx (by omega) _ _ _, h5.far hx (by omega) _ _ _, vbx_put (_cs := #[]) hx ho, by simpa using h7, h8⟩
/-- An element: seven lists, four numbers. -/
structure Ak where
  U : Value
  T : Value
  D : Value
  X : Value
  V : Value
  P : Value
  R : Value
  sh : List Int
  st : List Int
  ds : List Int
  ax : List Int
  s : List Int
  ts : List Int
  tds : List Int
  off : Int
  A : Int
  B : Int
  C : Int
def Ak.ok (w : World) (e : Ak) : Prop := (Ld w e.U e.sh ∧ Ld w e.T e.st ∧ Ld w e.D e.ds ∧ Ld w e.X e.ax ∧ Ld w e.V e.s ∧ Ld w e.P e.ts ∧ Ld w e.R e.tds) ∧
  (e.sh.length ≤ 9223372036854775807 ∧ e.st.length ≤ 17592186044000 ∧ e.ds.length ≤ 9223372036854775807 ∧ e.ax.length ≤ 9223372036854775807 ∧ e.s.length ≤ 9223372036854775807 ∧ e.ts.length ≤ 9223372036854775807 ∧ e.tds.length ≤ 9223372036854775807) ∧
  (-9223372036854775808 ≤ e.A ∧ e.A ≤ 9223372036854775807) ∧ (-9223372036854775808 ≤ e.B ∧ e.B ≤ 9223372036854775807) ∧ (-9223372036854775808 ≤ e.C ∧ e.C ≤ 9223372036854775807) ∧ (-9223372036854775808 ≤ e.off ∧ e.off ≤ 9223372036854775807)
def AkAt (w : World) (b p : Nat) (e : Ak) : Prop := w.cell? ⟨b, p, none⟩ = some e.U ∧ w.cell? ⟨b, p + 1, none⟩ = some e.T ∧ w.cell? ⟨b, p + 2, none⟩ = some (.int .i64 e.off) ∧ w.cell? ⟨b, p + 3, none⟩ = some e.D ∧ w.cell? ⟨b, p + 4, none⟩ = some e.X ∧ w.cell? ⟨b, p + 5, none⟩ = some e.V ∧
  w.cell? ⟨b, p + 6, none⟩ = some (.int .i64 e.A) ∧ w.cell? ⟨b, p + 7, none⟩ = some (.int .i64 e.B) ∧ w.cell? ⟨b, p + 8, none⟩ = some (.int .i64 e.C) ∧ w.cell? ⟨b, p + 9, none⟩ = some e.P ∧ w.cell? ⟨b, p + 10, none⟩ = some e.R
theorem AkAt.below {w W : World} {b p : Nat} {e : Ak} (h : AkAt w b p e) (hB : Below w.heap.size w W) (hb : b < w.heap.size) : AkAt W b p e := by
  obtain ⟨h0, h1, h2, h3, h4, h5, h6, h7, h8, h9, h10⟩ := h
  have k : ∀ (i : Nat) (v : Value), w.cell? ⟨b, i, none⟩ = some v → W.cell? ⟨b, i, none⟩ = some v := fun i v hh => (hB.cell (p := ⟨b, i, none⟩) hb).trans hh
  exact ⟨k _ _ h0, k _ _ h1, k _ _ h2, k _ _ h3, k _ _ h4, k _ _ h5, k _ _ h6, k _ _ h7, k _ _ h8, k _ _ h9, k _ _ h10⟩
theorem tre_f {sh st : List Int} {off : Int} {ax : List Int} (h : vwb sh st off 65536 = false) : tre sh st off ax = 1 := by unfold tre; rw [h]; rfl
theorem tre_t {sh st : List Int} {off : Int} {ax : List Int} (h : vwb sh st off 65536 = true) : tre sh st off ax = if axs ax sh.length then 0 else 2 := by unfold tre; rw [h]; rfl
theorem sle_f {sh st : List Int} {off x y z : Int} (h : vwb sh st off 65536 = false) : sle sh st off x y z = 1 := by unfold sle; rw [h]; rfl
theorem sle_t {sh st : List Int} {off x y z : Int} (h : vwb sh st off 65536 = true) : sle sh st off x y z = if slb sh x y z then 0 else 2 := by unfold sle; rw [h]; rfl
theorem Fr.start {p : Lk} {w3 w4 : World} {v1 v2 : Value} (hB : Below w3.heap.size w3 w4) (hK : Blk w4 w3.heap.size 25 #[v1, v2, .int .i64 p.off]) : Fr p w3 w4.heap.size v1 v2 1 1 1 1 1
    (((((w4.alloc (.cells #[.slice none 0 0, .slice none 0 0, .int .i64 0] 25)).alloc (.cells #[.slice none 0 0, .slice none 0 0, .int .i64 0] 25)).alloc (.cells #[.slice none 0 0, .slice none 0 0, .int .i64 0] 25)).alloc (.cells #[.slice none 0 0, .slice none 0 0, .int .i64 0] 25)).alloc (.cells #[.slice none 0 0, .slice none 0 0, .int .i64 0] 25)) := by
  have n1 := fun (W : World) (n : Nat) (h : W.heap.size = n) => (h ▸ Blk.new W 25 #[.slice none 0 0, .slice none 0 0, .int .i64 0] : Blk (W.alloc (.cells #[.slice none 0 0, .slice none 0 0, .int .i64 0] 25)) n 25 #[.slice none 0 0, .slice none 0 0, .int .i64 0])
  have hlt := hK.lt
  refine ⟨((((hB.alloc hB.size _).alloc (by simp; omega) _).alloc (by simp; omega) _).alloc (by simp; omega) _).alloc (by simp; omega) _, ((((hK.alloc _).alloc _).alloc _).alloc _).alloc _, vbx_new (by decide) ?_, vbx_new (by decide) ?_, vbx_new (by decide) ?_, vbx_new (by decide) ?_, vbx_new (by decide) ?_, by simp, hlt⟩
  · exact ((((n1 _ _ rfl).alloc _).alloc _).alloc _).alloc _
  · exact (((n1 _ _ (by simp)).alloc _).alloc _).alloc _
  · exact ((n1 _ _ (by simp)).alloc _).alloc _
  · exact (n1 _ _ (by simp)).alloc _
  · exact n1 _ _ (by simp)
end Go.Proofs.Ytdcmcfmodbdhaaa
namespace Go.Proofs.Ytdcmcfmodbdhaaa
open Go.RowKit Go.Shelf

theorem copy_both (vs vt vd : Value) (sh st ls : List Int) (off : Int) (N : Nat) (w : World) (hs : Ld w vs sh) (ht : Ld w vt st) (hd : Ld w vd ls) (l1 : sh.length ≤ 17592186044416) (l2 : st.length ≤ 17592186044416) (l3 : ls.length ≤ 17592186044416) (hN : (vwb sh st off ls.length && wds ls) = true → (N : Int) = prod sh) {e1 : Int} (he : e1 = if vwb sh st off ls.length && wds ls then 0 else 1) :
    Calls Try.prog 37 #[.agg #[vs, vt, .int .i64 off], vd] w (SomeT w e1 (unl e1 sh) (unl e1 (cps sh st off ls N))) := by
  cases hG : (vwb sh st off ls.length && wds ls) with
  | false =>
    obtain rfl : e1 = 1 := by rw [he, hG]; rfl
    exact copy_no vs vt vd sh st ls off w hs ht hd l1 l2 l3 hG
  | true =>
    obtain rfl : e1 = 0 := by rw [he, hG]; rfl
    have hN' := hN hG
    simp only [Bool.and_eq_true] at hG
    exact copy_ok vs vt vd sh st ls off N w hs ht hd hG.1 hG.2 hN'
theorem lay_both (vs vt vp vr vd : Value) (sh st ts tds ls : List Int) (off : Int) (N : Nat) (w : World) (hs : Ld w vs sh) (ht : Ld w vt st) (hp : Ld w vp ts) (hr : Ld w vr tds) (hd : Ld w vd ls)
    (l1 : sh.length ≤ 17592186044416) (l2 : st.length ≤ 17592186044416) (l3 : ls.length ≤ 17592186044416) (l4 : ts.length ≤ 17592186044416) (l5 : tds.length ≤ 17592186044416) (hN : (vwb sh st off ls.length && wds ls) = true → (N : Int) = prod sh) {e2 : Int} (he : e2 = lye sh st ts tds ls off N) :
    Calls Try.prog 38 #[.agg #[vs, vt, .int .i64 off], .agg #[vp, vr], vd] w (SomeLd w e2 (unl e2 (lys sh st off ls tds N))) := by
  cases hG : (vwb sh st off ls.length && wds ls && tnb ts tds) with
  | false =>
    obtain rfl : e2 = 1 := by rw [he]; unfold lye; rw [hG]; rfl
    exact lay_no 1 vs vt vp vr vd sh st ts tds ls off w hs ht hp hr hd l1 l2 l3 l4 l5 (.inl ⟨hG, rfl⟩)
  | true =>
    have h3 := hG
    simp only [Bool.and_eq_true] at h3
    obtain ⟨⟨h1, h2⟩, h4⟩ := h3
    by_cases hq : ts = sh
    · subst hq
      have hN' := hN (by rw [h1, h2]; rfl)
      have h := lay_ok vs vt vp vr vd ts st tds ls off N w hs ht hp hr hd h1 h2 h4 hN'
      cases hd2 : dup ts st off N with
      | true =>
        obtain rfl : e2 = 2 := by rw [he]; unfold lye; rw [hG, decide_eq_true rfl, hd2]; rfl
        rw [hd2] at h
        exact h
      | false =>
        obtain rfl : e2 = 0 := by rw [he]; unfold lye; rw [hG, decide_eq_true rfl, hd2]; rfl
        rw [hd2] at h
        exact h
    · obtain rfl : e2 = 2 := by rw [he]; unfold lye; rw [hG, decide_eq_false hq]; rfl
      exact lay_no 2 vs vt vp vr vd sh st ts tds ls off w hs ht hp hr hd l1 l2 l3 l4 l5 (.inr ⟨h1, h2, h4, hq, rfl⟩)
theorem ld_own {w : World} {base c : Nat} {o : Option Addr} {e : TypeId} {ls : List Int} (h : w.ownsRow base e 1 (.slice o ls.length c) ls.length (ints ls)) : Ld w (.slice o ls.length c) ls := by
  obtain ⟨o', c', e2, hl⟩ := Ld.of_owns h
  simp only [Value.slice.injEq] at e2
  obtain ⟨rfl, _, rfl⟩ := e2
  exact hl
theorem eqw_same (va vb : Value) (a : List Int) (w : World) (ha : Ld w va a) (hb : Ld w vb a) (l : a.length ≤ 17592186044416) : Calls Try.prog 40 #[va, vb] w fun e w' => e = .returned (.bool true) ∧ Below w.heap.size w w' := by
  have := eqw_any va vb a a w ha hb l l
  rwa [show decide (a = a) = true by simp] at this
/-- The box's two stores leave a list of numbers. -/
theorem ld_set1 {W : World} {T i : Nat} {v u : Value} {ls : List Int} (h : Ld W v ls) (hn : ∀ x : Int, W.cell? ⟨T, i, none⟩ ≠ some (.int .i64 x)) : Ld (W.setCell ⟨T, i, none⟩ u) v ls := by
  obtain ⟨o, c, rfl, hc, hx⟩ := h
  refine ⟨o, c, rfl, hc, fun j hj => ?_⟩
  obtain ⟨b, f, e, hb, hcell⟩ := hx j hj
  refine ⟨b, f, e, by simpa using hb, ?_⟩
  by_cases q : b = T ∧ f + j = i
  · obtain ⟨rfl, rfl⟩ := q
    exact absurd hcell (hn _)
  · rw [← hcell]
    exact World.cell?_setCell_other _ _ _ _ (fun e => q (by simp only [Addr.mk.injEq, and_true] at e; exact ⟨e.1.symm, e.2.symm⟩))
theorem ld_sets {W : World} {T : Nat} {x v z : Value} {ls : List Int} {o1 o2 : Option Addr} {n1 n2 c1 c2 : Nat} (hb : Blk W T 28 #[.slice o1 n1 c1, .slice o2 n2 c2]) (h : Ld W v ls) : Ld ((W.setCell ⟨T, 0, none⟩ x).setCell ⟨T, 1, none⟩ z) v ls :=
  ld_set1 (ld_set1 h (fun y => by rw [hb.cell 0]; simp)) (fun y => by rw [(hb.set_ 0 x).cell 1]; simp)
end Go.Proofs.Ytdcmcfmodbdhaaa
namespace Go.Proofs.Ytdcmcfmodbdhaaa
open Go.RowKit Go.Shelf

theorem transp_ok (vs vt va : Value) (sh st ax : List Int) (off m : Int) (n : Nat) (w : World) (hs : Ld w vs sh) (ht : Ld w vt st) (ha : Ld w va ax) (hv : Vw sh st off m) (hx : axs ax sh.length = true) (hn : n = sh.length) :
    Calls Try.prog 19 #[.agg #[vs, vt, .int .i64 off], va] w (NewV w (trl sh ax) (trl st ax) off n n) := by
  have l1 := may_len hv.1
  have l3 := hv.2.1
  have l4 := axs_len hx
  have h := transpose_any vs vt va sh st ax off w hs ht ha (by omega) (by omega) (by omega)
  have e : tre sh st off ax = 0 := by
    unfold tre
    rw [vwb_iff.2 (vw_more hv), hx]; rfl
  rw [e] at h
  rw [show unl 0 (trl sh ax) = trl sh ax from rfl, show unl 0 (trl st ax) = trl st ax from rfl, show unn 0 off = off from rfl] at h
  exact h.mono fun e w' hh => newV_of (by rw [trl_len]; omega) (by rw [trl_len]; omega) hh
/-- There and back again. -/
theorem transp_back (vs vt va : Value) (sh st ax : List Int) (off m : Int) (n : Nat) (w : World) (hs : Ld w vs (trl sh ax)) (ht : Ld w vt (trl st ax)) (ha : Ld w va (bks ax)) (hv : Vw sh st off m) (hx : axs ax sh.length = true) (hn : n = sh.length) :
    Calls Try.prog 19 #[.agg #[vs, vt, .int .i64 off], va] w (NewV w sh st off n n) := by
  have l4 := axs_len hx
  have h := transp_ok vs vt va (trl sh ax) (trl st ax) (bks ax) off m n w hs ht ha (vw_trl hv hx) (by rw [trl_len, l4]; exact axs_bks hx) (by rw [trl_len, hn, l4])
  rwa [trl_back hx rfl, trl_back hx hv.2.1] at h
/-- A slice of one index. -/
theorem slice_one (vs vt : Value) (sh st : List Int) (off m k : Int) (a n : Nat) (w : World) (hs : Ld w vs sh) (ht : Ld w vt st) (hv : Vw sh st off m) (ha : a < sh.length) (k0 : 0 ≤ k) (k1 : k < sh.getD a 0) (hn : n = sh.length) :
    Calls Try.prog 21 #[.agg #[vs, vt, .int .i64 off], .int .i64 (a : Int), .int .i64 k, .int .i64 (k + 1)] w (NewV w (sh.set a 1) st (off + k * st.getD a 0) n n) := by
  have l1 := may_len hv.1
  have l3 := hv.2.1
  have h := slice_any vs vt sh st off a k (k + 1) w hs ht (by omega) (by omega)
  have e : sle sh st off a k (k + 1) = 0 := by
    have hb : slb sh a k (k + 1) = true := by
      unfold slb
      simp only [Int.toNat_natCast, Bool.and_eq_true, decide_eq_true_eq]
      exact ⟨⟨⟨⟨by omega, by omega⟩, k0⟩, by omega⟩, by omega⟩
    unfold sle
    rw [vwb_iff.2 (vw_more hv), hb]; rfl
  rw [e] at h
  have e2 : slv sh a k (k + 1) = sh.set a 1 := by
    unfold slv
    rw [Int.toNat_natCast, show k + 1 - k = 1 by omega]
  have e3 : slo st off a k = off + k * st.getD a 0 := by
    unfold slo
    rw [Int.toNat_natCast]
  rw [e2, e3] at h
  rw [show unl 0 (sh.set a 1) = sh.set a 1 from rfl, show unl 0 st = st from rfl, show unn 0 (off + k * st.getD a 0) = off + k * st.getD a 0 from rfl] at h
  exact h.mono fun e w' hh => newV_of (by rw [List.length_set]; omega) (by omega) hh
theorem cps_at {sh st ls : List Int} {off : Int} {N k : Nat} (hv : Vw sh st off ls.length) (hN : (N : Int) = prod sh) (hk : k < N) : ∃ P : Nat, plat sh st off k = (P : Int) ∧ P < ls.length ∧ (cps sh st off ls N).getD k 0 = ls.getD P 0 := by
  have hi := atl_inx sh (k : Nat) (may_pos hv.1) (by omega) (by omega)
  have hb := vw_at hv hi
  refine ⟨(plat sh st off k).toNat, ?_, ?_, ?_⟩
  · unfold plat; omega
  · unfold plat; omega
  · rw [cps_getD hk]; rfl
theorem cps_tnb {sh st ls : List Int} {off : Int} {N : Nat} (hv : Vw sh st off ls.length) (hw : wds ls = true) (hN : (N : Int) = prod sh) : tnb sh (cps sh st off ls N) = true := by
  have h1 : wds (cps sh st off ls N) = true := wds_yes fun k hk => by
    rw [cps_len] at hk
    obtain ⟨P, _, hP, e⟩ := cps_at hv hN hk
    rw [e]
    exact wds_at hw hP
  unfold tnb
  rw [hv.1, h1, cps_len, decide_eq_true hN]; rfl
/-- Laid where it was copied from, nothing changes. -/
theorem lay_back (vs vt vp vr vd : Value) (sh st ls : List Int) (off : Int) (N : Nat) (w : World) (hs : Ld w vs sh) (ht : Ld w vt st) (hp : Ld w vp sh) (hr : Ld w vr (cps sh st off ls N)) (hd : Ld w vd ls) (hv : Vw sh st off ls.length) (hw : wds ls = true) (hN : (N : Int) = prod sh) :
    Calls Try.prog 38 #[.agg #[vs, vt, .int .i64 off], .agg #[vp, vr], vd] w (if dup sh st off N then SomeLd w 2 [] else SomeLd w 0 ls) := by
  have h := lay_ok vs vt vp vr vd sh st (cps sh st off ls N) ls off N w hs ht hp hr hd (vwb_iff.2 hv) hw (cps_tnb hv hw hN) hN
  rwa [lys_same (fun k hk => by
    obtain ⟨P, h1, _, h2⟩ := cps_at hv hN hk
    exact ⟨P, h1, h2⟩) N (Nat.le_refl _)] at h
end Go.Proofs.Ytdcmcfmodbdhaaa
