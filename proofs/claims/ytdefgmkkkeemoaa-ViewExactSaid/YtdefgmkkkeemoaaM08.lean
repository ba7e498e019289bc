/-
  What the view laws' rounds carry from call to call.
-/
import Derived.Test.YtdefgmkkkeemoaaM04
import Derived.Test.YtdefgmkkkeemoaaM05
import Derived.Test.YtdefgmkkkeemoaaM06
import Derived.Test.YtdefgmkkkeemoaaM07
namespace Go.Proofs.Ytdefgmkkkeemoaa
open Go.RowKit Go.Shelf

/-- An element's lists and numbers. -/
structure Lk where
  sh : List Int
  st : List Int
  ax : List Int
  s : List Int
  off : Int
  A : Int
  B : Int
  C : Int
/-- A box that holds a view, if there is no error. -/
def VBx (W : World) (base B : Nat) (er : Int) (S T : List Int) (fo : Int) : Prop := ∃ ua ub fu, Blk W B 25 #[ua, ub, .int .i64 fu] ∧ (er = 0 → Ov W base ua ub S T ∧ fu = fo)
section
variable {W W' : World} {base B b : Nat} {er : Int} {S T : List Int} {fo : Int}
theorem VBx.next (h : VBx W base B er S T fo) (hb : Below W.heap.size W W') : VBx W' base B er S T fo := by
  obtain ⟨ua, ub, fu, h1, h2⟩ := h
  exact ⟨ua, ub, fu, h1.below hb h1.lt, fun e => ⟨(h2 e).1.below hb, (h2 e).2⟩⟩
theorem VBx.far {cs : Array Value} (h : VBx W base B er S T fo) (hb : Blk W b 25 cs) (hne : B ≠ b) (x y z : Value) : VBx (((W.setCell ⟨b, 0, none⟩ x).setCell ⟨b, 1, none⟩ y).setCell ⟨b, 2, none⟩ z) base B er S T fo := by
  obtain ⟨ua, ub, fu, h1, h2⟩ := h
  exact ⟨ua, ub, fu, ((h1.far (p := ⟨b, 0, none⟩) hne x).far (p := ⟨b, 1, none⟩) hne y).far (p := ⟨b, 2, none⟩) hne z, fun e => ⟨(h2 e).1.box hb x y z, (h2 e).2⟩⟩
theorem VBx.blk (h : VBx W base B er S T fo) : ∃ cs, Blk W B 25 cs := let ⟨_, _, _, h1, _⟩ := h; ⟨_, h1⟩
theorem vbx_put {_cs : Array Value} {x y z : Value} {v1 v2 : Value} (hb : Blk W B 25 #[x, y, z]) (ho : Ov W base v1 v2 S T) : VBx (((W.setCell ⟨B, 0, none⟩ v1).setCell ⟨B, 1, none⟩ v2).setCell ⟨B, 2, none⟩ (.int .i64 fo)) base B er S T fo :=
  ⟨v1, v2, fo, ((hb.set_ 0 v1).set_ 1 v2).set_ 2 _, fun _ => ⟨ho.box hb _ _ _, rfl⟩⟩
theorem vbx_new (he : ¬ er = 0) (h : Blk W B 25 #[.slice none 0 0, .slice none 0 0, .int .i64 0]) : VBx W base B er S T fo := ⟨_, _, _, h, fun e => absurd e he⟩
theorem VBx.mono {er' : Int} (h : VBx W base B er S T fo) (he : er' = 0 → er = 0) : VBx W base B er' S T fo := by
  obtain ⟨ua, ub, fu, h1, h2⟩ := h
  exact ⟨ua, ub, fu, h1, fun e => h2 (he e)⟩
end
/-- What ViewExact's round holds: the copy, and the five views that are asked for. -/
def Fr (p : Lk) (w3 : World) (b : Nat) (v1 v2 : Value) (e1 e2 e3 e4 e5 : Int) (W : World) : Prop :=
  Below w3.heap.size w3 W ∧ Blk W w3.heap.size 25 #[v1, v2, .int .i64 p.off] ∧ VBx W b b e1 (trl p.sh p.ax) (trl p.st p.ax) p.off ∧ VBx W b (b + 1) e2 (slv p.sh p.A p.B p.C) p.st (slo p.st p.off p.A p.B) ∧
    VBx W b (b + 1 + 1) e3 p.s (wst p.sh p.st p.s) p.off ∧ VBx W b (b + 1 + 1 + 1) e4 p.s (stl p.s) 0 ∧ VBx W b (b + 1 + 1 + 1 + 1) e5 p.s (stl p.s) 0 ∧ b + 5 ≤ W.heap.size ∧ w3.heap.size < b
section
variable {p : Lk} {w3 W W' : World} {b : Nat} {v1 v2 : Value} {e1 e2 e3 e4 e5 : Int}
theorem Fr.next (h : Fr p w3 b v1 v2 e1 e2 e3 e4 e5 W) (hb : Below W.heap.size W W') : Fr p w3 b v1 v2 e1 e2 e3 e4 e5 W' := by
  obtain ⟨h0, h1, h2, h3, h4, h5, h6, h7, h8⟩ := h
  exact ⟨h0.trans (hb.mono h0.size), h1.below hb h1.lt, h2.next hb, h3.next hb, h4.next hb, h5.next hb, h6.next hb, Nat.le_trans h7 hb.size, h8⟩
theorem Fr.below (h : Fr p w3 b v1 v2 e1 e2 e3 e4 e5 W) : Below w3.heap.size w3 W := h.1
theorem Fr.alloc (h : Fr p w3 b v1 v2 e1 e2 e3 e4 e5 W) (o : Obj) : Fr p w3 b v1 v2 e1 e2 e3 e4 e5 (W.alloc o) := h.next ((Below.refl _ _).alloc (Nat.le_refl _) o)
theorem Fr.mono {f1 f2 f3 f4 f5 : Int} (h : Fr p w3 b v1 v2 e1 e2 e3 e4 e5 W) (h1 : f1 = 0 → e1 = 0) (h2 : f2 = 0 → e2 = 0) (h3 : f3 = 0 → e3 = 0) (h4 : f4 = 0 → e4 = 0) (h5 : f5 = 0 → e5 = 0) : Fr p w3 b v1 v2 f1 f2 f3 f4 f5 W :=
  ⟨h.1, h.2.1, h.2.2.1.mono h1, h.2.2.2.1.mono h2, h.2.2.2.2.1.mono h3, h.2.2.2.2.2.1.mono h4, h.2.2.2.2.2.2.1.mono h5, h.2.2.2.2.2.2.2⟩
theorem Fr.box3 (h : Fr p w3 b v1 v2 e1 e2 e3 e4 e5 W) {B : Nat} {cs : Array Value} (hB : Blk W B 25 cs) (hb : b + 5 ≤ B) (x y z : Value) : Fr p w3 b v1 v2 e1 e2 e3 e4 e5 (((W.setCell ⟨B, 0, none⟩ x).setCell ⟨B, 1, none⟩ y).setCell ⟨B, 2, none⟩ z) := by
  obtain ⟨h0, h1, h2, h3, h4, h5, h6, h7, h8⟩ := h
  have hne : w3.heap.size ≠ B := by omega
  exact ⟨Below.box h0 (by omega) x y z, ((h1.far (p := ⟨B, 0, none⟩) hne x).far (p := ⟨B, 1, none⟩) hne y).far (p := ⟨B, 2, none⟩) hne z, h2.far hB (by omega) x y z, h3.far hB (by omega) x y z, h4.far hB (by omega) x y z, h5.far hB (by omega) x y z, h6.far hB (by omega) x y z, by simpa using h7, h8⟩
end
theorem Fr.put1 {p : Lk} {w3 W : World} {b : Nat} {v1 v2 : Value} {e1 e2 e3 e4 e5 : Int} (h : Fr p w3 b v1 v2 e1 e2 e3 e4 e5 W) {u1 u2 : Value} (f : Int) (ho : Ov W b u1 u2 (trl p.sh p.ax) (trl p.st p.ax)) : Fr p w3 b v1 v2 f e2 e3 e4 e5 (((W.setCell ⟨b, 0, none⟩ u1).setCell ⟨b, 1, none⟩ u2).setCell ⟨b, 2, none⟩ (.int .i64 (p.off))) := by
  obtain ⟨h0, h1, h2, h3, h4, h5, h6, h7, h8⟩ := h
  obtain ⟨xa, xb, xc, hx, _⟩ := h2
  have hne : w3.heap.size ≠ b := by omega
  exact ⟨Below.box h0 (by omega) _ _ _, ((h1.far (p := ⟨b, 0, none⟩) hne _).far (p := ⟨b, 1, none⟩) hne _).far (p := ⟨b, 2, none⟩) hne _, vbx_put (_cs := #[]) hx ho, h3.far hx (by omega) _ _ _, h4.far hx (by omega) _ _ _, h5.far hx (by omega) _ _ _, h6.far hx (by omega) _ _ _, by simpa using h7, h8⟩
theorem Fr.put2 {p : Lk} {w3 W : World} {b : Nat} {v1 v2 : Value} {e1 e2 e3 e4 e5 : Int} (h : Fr p w3 b v1 v2 e1 e2 e3 e4 e5 W) {u1 u2 : Value} (f : Int) (ho : Ov W b u1 u2 (slv p.sh p.A p.B p.C) (p.st)) : Fr p w3 b v1 v2 e1 f e3 e4 e5 (((W.setCell ⟨b + 1, 0, none⟩ u1).setCell ⟨b + 1, 1, none⟩ u2).setCell ⟨b + 1, 2, none⟩ (.int .i64 (slo p.st p.off p.A p.B))) := by
  obtain ⟨h0, h1, h2, h3, h4, h5, h6, h7, h8⟩ := h
  obtain ⟨xa, xb, xc, hx, _⟩ := h3
  have hne : w3.heap.size ≠ b + 1 := by omega
  exact ⟨Below.box h0 (by omega) _ _ _, ((h1.far (p := ⟨b + 1, 0, none⟩) hne _).far (p := ⟨b + 1, 1, none⟩) hne _).far (p := ⟨b + 1, 2, none⟩) hne _, h2.far hx (by omega) _ _ _, vbx_put (_cs := #[]) hx ho, h4.far hx (by omega) _ _ _, h5.far hx (by omega) _ _ _, h6.far hx (by omega) _ _ _, by simpa using h7, h8⟩
theorem Fr.put3 {p : Lk} {w3 W : World} {b : Nat} {v1 v2 : Value} {e1 e2 e3 e4 e5 : Int} (h : Fr p w3 b v1 v2 e1 e2 e3 e4 e5 W) {u1 u2 : Value} (f : Int) (ho : Ov W b u1 u2 (p.s) (wst p.sh p.st p.s)) : Fr p w3 b v1 v2 e1 e2 f e4 e5 (((W.setCell ⟨b + 1 + 1, 0, none⟩ u1).setCell ⟨b + 1 + 1, 1, none⟩ u2).setCell ⟨b + 1 + 1, 2, none⟩ (.int .i64 (p.off))) := by
  obtain ⟨h0, h1, h2, h3, h4, h5, h6, h7, h8⟩ := h
  obtain ⟨xa, xb, xc, hx, _⟩ := h4
  have hne : w3.heap.size ≠ b + 1 + 1 := by omega
  exact ⟨Below.box h0 (by omega) _ _ _, ((h1.far (p := ⟨b + 1 + 1, 0, none⟩) hne _).far (p := ⟨b + 1 + 1, 1, none⟩) hne _).far (p := ⟨b + 1 + 1, 2, none⟩) hne _, h2.far hx (by omega) _ _ _, h3.far hx (by omega) _ _ _, vbx_put (_cs := #[]) hx ho, h5.far hx (by omega) _ _ _, h6.far hx (by omega) _ _ _, by simpa using h7, h8⟩
theorem Fr.put4 {p : Lk} {w3 W : World} {b : Nat} {v1 v2 : Value} {e1 e2 e3 e4 e5 : Int} (h : Fr p w3 b v1 v2 e1 e2 e3 e4 e5 W) {u1 u2 : Value} (f : Int) (ho : Ov W b u1 u2 (p.s) (stl p.s)) : Fr p w3 b v1 v2 e1 e2 e3 f e5 (((W.setCell ⟨b + 1 + 1 + 1, 0, none⟩ u1).setCell ⟨b + 1 + 1 + 1, 1, none⟩ u2).setCell ⟨b + 1 + 1 + 1, 2, none⟩ (.int .i64 (0))) := by
  obtain ⟨h0, h1, h2, h3, h4, h5, h6, h7, h8⟩ := h
  obtain ⟨xa, xb, xc, hx, _⟩ := h5
  have hne : w3.heap.size ≠ b + 1 + 1 + 1 := by omega
  exact ⟨Below.box h0 (by omega) _ _ _, ((h1.far (p := ⟨b + 1 + 1 + 1, 0, none⟩) hne _).far (p := ⟨b + 1 + 1 + 1, 1, none⟩) hne _).far (p := ⟨b + 1 + 1 + 1, 2, none⟩) hne _, h2.far hx (by omega) _ _ _, h3.far hx (by omega) _ _ _, h4.far hx (by omega) _ _ _, vbx_put (_cs := #[]) hx ho, h6.far hx (by omega) _ _ _, by simpa using h7, h8⟩
theorem Fr.put5 {p : Lk} {w3 W : World} {b : Nat} {v1 v2 : Value} {e1 e2 e3 e4 e5 : Int} (h : Fr p w3 b v1 v2 e1 e2 e3 e4 e5 W) {u1 u2 : Value} (f : Int) (ho : Ov W b u1 u2 (p.s) (stl p.s)) : Fr p w3 b v1 v2 e1 e2 e3 e4 f (((W.setCell ⟨b + 1 + 1 + 1 + 1, 0, none⟩ u1).setCell ⟨b + 1 + 1 + 1 + 1, 1, none⟩ u2).setCell ⟨b + 1 + 1 + 1 + 1, 2, none⟩ (.int .i64 (0))) := by
  obtain ⟨h0, h1, h2, h3, h4, h5, h6, h7, h8⟩ := h
  obtain ⟨xa, xb, xc, hx, _⟩ := h6
  have hne : w3.heap.size ≠ b + 1 + 1 + 1 + 1 := by omega
  exact ⟨Below.box h0 (by omega) _ _ _, ((h1.far (p := ⟨b + 1 + 1 + 1 + 1, 0, none⟩) hne _).far (p := ⟨b + 1 + 1 + 1 + 1, 1, none⟩) hne _).far (p := ⟨b + 1 + 1 + 1 + 1, 2, none⟩) hne _, h2.far hx (by omega) _ _ _, h3.far hx (by omega) _ _ _, h4.far hx (by omega) _ _ _, h5.far hx (by omega) _ _ _, vbx_put (_cs := #[]) hx ho, by simpa using h7, h8⟩
/-- An element: seven lists, four numbers. -/
structure Ak where
  U : Value
  T : Value
  D : Value
  X : Value
  V : Value
  P : Value
  R : Value
  sh : List Int
  st : List Int
  ds : List Int
  ax : List Int
  s : List Int
  ts : List Int
  tds : List Int
  off : Int
  A : Int
  B : Int
  C : Int
def Ak.ok (w : World) (e : Ak) : Prop := (Ld w e.U e.sh ∧ Ld w e.T e.st ∧ Ld w e.D e.ds ∧ Ld w e.X e.ax ∧ Ld w e.V e.s ∧ Ld w e.P e.ts ∧ Ld w e.R e.tds) ∧
  (e.sh.length ≤ 9223372036854775807 ∧ e.st.length ≤ 17592186044000 ∧ e.ds.length ≤ 9223372036854775807 ∧ e.ax.length ≤ 9223372036854775807 ∧ e.s.length ≤ 9223372036854775807 ∧ e.ts.length ≤ 9223372036854775807 ∧ e.tds.length ≤ 9223372036854775807) ∧
  (-9223372036854775808 ≤ e.A ∧ e.A ≤ 9223372036854775807) ∧ (-9223372036854775808 ≤ e.B ∧ e.B ≤ 9223372036854775807) ∧ (-9223372036854775808 ≤ e.C ∧ e.C ≤ 9223372036854775807) ∧ (-9223372036854775808 ≤ e.off ∧ e.off ≤ 9223372036854775807)
def AkAt (w : World) (b p : Nat) (e : Ak) : Prop := w.cell? ⟨b, p, none⟩ = some e.U ∧ w.cell? ⟨b, p + 1, none⟩ = some e.T ∧ w.cell? ⟨b, p + 2, none⟩ = some (.int .i64 e.off) ∧ w.cell? ⟨b, p + 3, none⟩ = some e.D ∧ w.cell? ⟨b, p + 4, none⟩ = some e.X ∧ w.cell? ⟨b, p + 5, none⟩ = some e.V ∧
  w.cell? ⟨b, p + 6, none⟩ = some (.int .i64 e.A) ∧ w.cell? ⟨b, p + 7, none⟩ = some (.int .i64 e.B) ∧ w.cell? ⟨b, p + 8, none⟩ = some (.int .i64 e.C) ∧ w.cell? ⟨b, p + 9, none⟩ = some e.P ∧ w.cell? ⟨b, p + 10, none⟩ = some e.R
theorem AkAt.below {w W : World} {b p : Nat} {e : Ak} (h : AkAt w b p e) (hB : Below w.heap.size w W) (hb : b < w.heap.size) : AkAt W b p e := by
  obtain ⟨h0, h1, h2, h3, h4, h5, h6, h7, h8, h9, h10⟩ := h
  have k : ∀ (i : Nat) (v : Value), w.cell? ⟨b, i, none⟩ = some v → W.cell? ⟨b, i, none⟩ = some v := fun i v hh => (hB.cell (p := ⟨b, i, none⟩) hb).trans hh
  exact ⟨k _ _ h0, k _ _ h1, k _ _ h2, k _ _ h3, k _ _ h4, k _ _ h5, k _ _ h6, k _ _ h7, k _ _ h8, k _ _ h9, k _ _ h10⟩
theorem tre_f {sh st : List Int} {off : Int} {ax : List Int} (h : vwb sh st off 65536 = false) : tre sh st off ax = 1 := by unfold tre; rw [h]; rfl
theorem tre_t {sh st : List Int} {off : Int} {ax : List Int} (h : vwb sh st off 65536 = true) : tre sh st off ax = if axs ax sh.length then 0 else 2 := by unfold tre; rw [h]; rfl
theorem sle_f {sh st : List Int} {off x y z : Int} (h : vwb sh st off 65536 = false) : sle sh st off x y z = 1 := by unfold sle; rw [h]; rfl
theorem sle_t {sh st : List Int} {off x y z : Int} (h : vwb sh st off 65536 = true) : sle sh st off x y z = if slb sh x y z then 0 else 2 := by unfold sle; rw [h]; rfl
theorem Fr.start {p : Lk} {w3 w4 : World} {v1 v2 : Value} (hB : Below w3.heap.size w3 w4) (hK : Blk w4 w3.heap.size 25 #[v1, v2, .int .i64 p.off]) : Fr p w3 w4.heap.size v1 v2 1 1 1 1 1
    (((((w4.alloc (.cells #[.slice none 0 0, .slice none 0 0, .int .i64 0] 25)).alloc (.cells #[.slice none 0 0, .slice none 0 0, .int .i64 0] 25)).alloc (.cells #[.slice none 0 0, .slice none 0 0, .int .i64 0] 25)).alloc (.cells #[.slice none 0 0, .slice none 0 0, .int .i64 0] 25)).alloc (.cells #[.slice none 0 0, .slice none 0 0, .int .i64 0] 25)) := by
  have n1 := fun (W : World) (n : Nat) (h : W.heap.size = n) => (h ▸ Blk.new W 25 #[.slice none 0 0, .slice none 0 0, .int .i64 0] : Blk (W.alloc (.cells #[.slice none 0 0, .slice none 0 0, .int .i64 0] 25)) n 25 #[.slice none 0 0, .slice none 0 0, .int .i64 0])
  have hlt := hK.lt
  refine ⟨((((hB.alloc hB.size _).alloc (by simp; omega) _).alloc (by simp; omega) _).alloc (by simp; omega) _).alloc (by simp; omega) _, ((((hK.alloc _).alloc _).alloc _).alloc _).alloc _, vbx_new (by decide) ?_, vbx_new (by decide) ?_, vbx_new (by decide) ?_, vbx_new (by decide) ?_, vbx_new (by decide) ?_, by simp, hlt⟩
  · exact ((((n1 _ _ rfl).alloc _).alloc _).alloc _).alloc _
  · exact (((n1 _ _ (by simp)).alloc _).alloc _).alloc _
  · exact ((n1 _ _ (by simp)).alloc _).alloc _
  · exact (n1 _ _ (by simp)).alloc _
  · exact n1 _ _ (by simp)
end Go.Proofs.Ytdefgmkkkeemoaa
