/-
  The reference's Parts: a row's sum, its words' distances, their squares' sum.
-/
import Derived.Test.YtldchepfcgbpiaaGreatM19
namespace Go.Proofs.YtldchepfcgbpiaaGreat
open Go Go.RowKit Go.Shelf
attribute [local go_sem] Oper.semAt_some

/-- A whole number in a box. -/
def IBv (W : World) (B : Nat) (b : Bool) (o : Option Addr) (l c : Nat) (z : Int) : Prop := Blk W B 71 #[.bool b, .slice o l c] ∧ IsI W (Iv b (.slice o l c)) z
theorem ibv_below {W W' : World} {B : Nat} {b : Bool} {o : Option Addr} {l c : Nat} {z : Int} (h : IBv W B b o l c z) (hb : Below W.heap.size W W') : IBv W' B b o l c z := ⟨h.1.below hb h.1.lt, h.2.below hb⟩
theorem ibv_put {W : World} {B : Nat} {b b2 : Bool} {o o2 : Option Addr} {l c l2 c2 : Nat} {z z2 : Int} (h : IBv W B b o l c z) (hz : IsI W (Iv b2 (.slice o2 l2 c2)) z2) : IBv ((W.setCell ⟨B, 0, none⟩ (.bool b2)).setCell ⟨B, 1, none⟩ (.slice o2 l2 c2)) B b2 o2 l2 c2 z2 :=
  ⟨(h.1.set_ 0 _).set_ 1 _, hz.put (h.1.cell 0) (by intro x; simp) (h.1.cell 1) (by intro x; simp)⟩
theorem ibv_num {W : World} {B : Nat} {b : Bool} {o : Option Addr} {l c : Nat} {z : Int} (h : IBv W B b o l c z) : IsI W (Iv b (.slice o l c)) z := h.2
theorem ibv_new {W : World} {b : Bool} {o : Option Addr} {l c : Nat} {z : Int} (h : IsI W (Iv b (.slice o l c)) z) : IBv (W.alloc (.cells #[.bool b, .slice o l c] 71)) W.heap.size b o l c z := ⟨Blk.new _ _ _, h.below ((Below.refl _ _).alloc (Nat.le_refl _) _)⟩
theorem take_sum2 {l : List Int} {k : Nat} (hk : k < l.length) : (l.take (k + 1)).sum = (l.take k).sum + l.getD k 0 := by
  rw [List.take_add_one, List.sum_append]
  simp [List.getD, List.getElem?_eq_getElem hk]
/-- The first loop's world: it lies above w; its boxes. -/
def PtF (w : World) (T6 : Nat) (b6 : Bool) (o6 : Option Addr) (l6 c6 n : Nat) (W : World) : Prop := Below w.heap.size w W ∧ Blk W w.heap.size 71 #[.bool false, .slice none 0 0] ∧ Blk W (w.heap.size + 1) 71 #[.bool false, .slice none 0 0] ∧ IBv W T6 b6 o6 l6 c6 (n : Int)
theorem PtF.next {w : World} {T6 : Nat} {b6 : Bool} {o6 : Option Addr} {l6 c6 n : Nat} {W W' : World} (h : PtF w T6 b6 o6 l6 c6 n W) (hb : Below W.heap.size W W') : PtF w T6 b6 o6 l6 c6 n W' := ⟨h.1.trans (hb.mono h.1.size), h.2.1.below hb h.2.1.lt, h.2.2.1.below hb h.2.2.1.lt, ibv_below h.2.2.2 hb⟩
theorem PtF.put {w : World} {T6 : Nat} {b6 : Bool} {o6 : Option Addr} {l6 c6 n : Nat} {W : World} (h : PtF w T6 b6 o6 l6 c6 n W) {B : Nat} {b0 : Bool} {o : Option Addr} {l c : Nat} {z : Int} (hB : w.heap.size + 1 < B ∧ B ≠ T6) (hI : IBv W B b0 o l c z) (u0 u1 : Value) : PtF w T6 b6 o6 l6 c6 n ((W.setCell ⟨B, 0, none⟩ u0).setCell ⟨B, 1, none⟩ u1) := by
  have e0 : ¬ w.heap.size = B := by omega
  have e1 : ¬ w.heap.size + 1 = B := by omega
  have e6 : ¬ T6 = B := fun e => hB.2 e.symm
  exact ⟨(h.1.setCell (p := ⟨B, 0, none⟩) (by show w.heap.size ≤ B; omega) _).setCell (p := ⟨B, 1, none⟩) (by show w.heap.size ≤ B; omega) _, (h.2.1.far (p := ⟨B, 0, none⟩) e0 _).far (p := ⟨B, 1, none⟩) e0 _, (h.2.2.1.far (p := ⟨B, 0, none⟩) e1 _).far (p := ⟨B, 1, none⟩) e1 _, (h.2.2.2.1.far (p := ⟨B, 0, none⟩) e6 _).far (p := ⟨B, 1, none⟩) e6 _, h.2.2.2.2.put (hI.1.cell 0) (by intro x; simp) (hI.1.cell 1) (by intro x; simp)⟩
theorem ibv_grown {W W' : World} {B : Nat} {b : Bool} {o : Option Addr} {l c : Nat} {z : Int} {row : Option Nat} (h : IBv W B b o l c z) (hg : W.grownBy W' row) (h1 : row ≠ some B) (h2 : ∀ g, row = some g → (Value.slice o l c).ownBlock ≠ some g) : IBv W' B b o l c z :=
  ⟨(hg.block B h.1.lt (fun e => h1 e.symm)).trans h.1, h.2.grown hg h2⟩
theorem ibv_far {W : World} {B B2 : Nat} {b b2 : Bool} {o o2 : Option Addr} {l c l2 c2 : Nat} {z : Int} (h : IBv W B b o l c z) (hB : Blk W B2 71 #[.bool b2, .slice o2 l2 c2]) (hne : B ≠ B2) (u0 u1 : Value) : IBv ((W.setCell ⟨B2, 0, none⟩ u0).setCell ⟨B2, 1, none⟩ u1) B b o l c z :=
  ⟨(h.1.far (p := ⟨B2, 0, none⟩) hne _).far (p := ⟨B2, 1, none⟩) hne _, h.2.put (hB.cell 0) (by intro x; simp) (hB.cell 1) (by intro x; simp)⟩
theorem offx_far {W : World} {base B2 : Nat} {v : Value} {es : List (Bool × Value)} {zs : List Int} {b2 : Bool} {o2 : Option Addr} {l2 c2 : Nat} (h : OffX W base v es zs) (hB : Blk W B2 71 #[.bool b2, .slice o2 l2 c2]) (hne : v.ownBlock ≠ some B2) (u0 u1 : Value) : OffX ((W.setCell ⟨B2, 0, none⟩ u0).setCell ⟨B2, 1, none⟩ u1) base v es zs := by
  refine ⟨h.1, ⟨h.2.1.1, ?_⟩, fun i hi => ⟨(h.2.2 i hi).1.put (hB.cell 0) (by intro x; simp) (hB.cell 1) (by intro x; simp), (h.2.2 i hi).2⟩⟩
  rcases h.2.1.2 with e | ⟨g, cap, cur, e1, e2, e3, e4⟩
  · exact .inl e
  · refine .inr ⟨g, cap, cur, e1, e2, ?_, e4⟩
    have hg : g ≠ B2 := fun e => hne (by rw [e1, e]; rfl)
    have e5 : Blk W g 71 cur := e3
    exact (e5.far (p := ⟨B2, 0, none⟩) hg _).far (p := ⟨B2, 1, none⟩) hg _
/-- The second loop's world: the boxes of the sum, of the length and of the squares' sum, and the row. -/
def PtH (w : World) (T5 T6 T9 base : Nat) (b5 : Bool) (o5 : Option Addr) (l5 c5 : Nat) (S : Int) (b6 : Bool) (o6 : Option Addr) (l6 c6 n : Nat) (W : World) (v : Value) (es : List (Bool × Value)) (zs : List Int) (b9 : Bool) (o9 : Option Addr) (l9 c9 : Nat) (q : Int) : Prop :=
  PtF w T6 b6 o6 l6 c6 n W ∧ IBv W T5 b5 o5 l5 c5 S ∧ IBv W T9 b9 o9 l9 c9 q ∧ OffX W base v es zs ∧ ∀ g, v.ownBlock = some g → (Value.slice o9 l9 c9).ownBlock ≠ some g
/-- Where the boxes lie, and the limbs that stay. -/
def PtS (w : World) (T5 T6 T9 base : Nat) (o5 : Option Addr) (l5 c5 : Nat) (o6 : Option Addr) (l6 c6 : Nat) : Prop :=
  w.heap.size + 1 < T5 ∧ T5 < T6 ∧ T6 < T9 ∧ base = T9 + 1 ∧ (∀ g, (Value.slice o5 l5 c5).ownBlock = some g → g < base) ∧ ∀ g, (Value.slice o6 l6 c6).ownBlock = some g → g < base
section
variable {w : World} {T5 T6 T9 base : Nat} {b5 : Bool} {o5 : Option Addr} {l5 c5 : Nat} {S : Int} {b6 : Bool} {o6 : Option Addr} {l6 c6 n : Nat} {W W' : World} {v : Value} {es : List (Bool × Value)} {zs : List Int} {b9 : Bool} {o9 : Option Addr} {l9 c9 : Nat} {q : Int}
theorem PtH.next (h : PtH w T5 T6 T9 base b5 o5 l5 c5 S b6 o6 l6 c6 n W v es zs b9 o9 l9 c9 q) (hb : Below W.heap.size W W') : PtH w T5 T6 T9 base b5 o5 l5 c5 S b6 o6 l6 c6 n W' v es zs b9 o9 l9 c9 q :=
  ⟨h.1.next hb, ibv_below h.2.1 hb, ibv_below h.2.2.1 hb, offx_below h.2.2.2.1 hb, h.2.2.2.2⟩
theorem PtH.lt (h : PtH w T5 T6 T9 base b5 o5 l5 c5 S b6 o6 l6 c6 n W v es zs b9 o9 l9 c9 q) : ∀ g, v.ownBlock = some g → base ≤ g ∧ g < W.heap.size := h.2.2.2.1.2.1.lt
/-- A fresh box beside all of these is written. -/
theorem PtH.put (hS : PtS w T5 T6 T9 base o5 l5 c5 o6 l6 c6) (h : PtH w T5 T6 T9 base b5 o5 l5 c5 S b6 o6 l6 c6 n W v es zs b9 o9 l9 c9 q) {B : Nat} {b2 : Bool} {o2 : Option Addr} {l2 c2 : Nat} (hB : Blk W B 71 #[.bool b2, .slice o2 l2 c2]) (h1 : T9 < B) (h2 : v.ownBlock ≠ some B) (u0 u1 : Value) :
    PtH w T5 T6 T9 base b5 o5 l5 c5 S b6 o6 l6 c6 n ((W.setCell ⟨B, 0, none⟩ u0).setCell ⟨B, 1, none⟩ u1) v es zs b9 o9 l9 c9 q := by
  obtain ⟨s1, s2, s3, s4, _, _⟩ := hS
  obtain ⟨f, i5, i9, ox, ne⟩ := h
  have e0 : ¬ w.heap.size = B := by omega
  have e1 : ¬ w.heap.size + 1 = B := by omega
  refine ⟨⟨(f.1.setCell (p := ⟨B, 0, none⟩) (by show w.heap.size ≤ B; omega) _).setCell (p := ⟨B, 1, none⟩) (by show w.heap.size ≤ B; omega) _, (f.2.1.far (p := ⟨B, 0, none⟩) e0 _).far (p := ⟨B, 1, none⟩) e0 _, (f.2.2.1.far (p := ⟨B, 0, none⟩) e1 _).far (p := ⟨B, 1, none⟩) e1 _, ibv_far f.2.2.2 hB (by omega) _ _⟩, ibv_far i5 hB (by omega) _ _, ibv_far i9 hB (by omega) _ _, offx_far ox hB h2 _ _, ne⟩
/-- The squares' sum is written. -/
theorem PtH.put9 (hS : PtS w T5 T6 T9 base o5 l5 c5 o6 l6 c6) (h : PtH w T5 T6 T9 base b5 o5 l5 c5 S b6 o6 l6 c6 n W v es zs b9 o9 l9 c9 q) {b2 : Bool} {o2 : Option Addr} {l2 c2 : Nat} {q2 : Int} (hz : IsI W (Iv b2 (.slice o2 l2 c2)) q2) (h2 : ∀ g, v.ownBlock = some g → (Value.slice o2 l2 c2).ownBlock ≠ some g) :
    PtH w T5 T6 T9 base b5 o5 l5 c5 S b6 o6 l6 c6 n ((W.setCell ⟨T9, 0, none⟩ (.bool b2)).setCell ⟨T9, 1, none⟩ (.slice o2 l2 c2)) v es zs b2 o2 l2 c2 q2 := by
  obtain ⟨s1, s2, s3, s4, _, _⟩ := hS
  have hlt := h.lt
  obtain ⟨f, i5, i9, ox, ne⟩ := h
  have e0 : ¬ w.heap.size = T9 := by omega
  have e1 : ¬ w.heap.size + 1 = T9 := by omega
  have hr : v.ownBlock ≠ some T9 := fun e => by have := hlt _ e; omega
  refine ⟨⟨(f.1.setCell (p := ⟨T9, 0, none⟩) (by show w.heap.size ≤ T9; omega) _).setCell (p := ⟨T9, 1, none⟩) (by show w.heap.size ≤ T9; omega) _, (f.2.1.far (p := ⟨T9, 0, none⟩) e0 _).far (p := ⟨T9, 1, none⟩) e0 _, (f.2.2.1.far (p := ⟨T9, 0, none⟩) e1 _).far (p := ⟨T9, 1, none⟩) e1 _, ibv_far f.2.2.2 i9.1 (by omega) _ _⟩, ibv_far i5 i9.1 (by omega) _ _, ibv_put i9 hz, offx_far ox i9.1 hr _ _, h2⟩
/-- The row grows by a number whose limbs lie beside it. -/
theorem PtH.push (hS : PtS w T5 T6 T9 base o5 l5 c5 o6 l6 c6) (h : PtH w T5 T6 T9 base b5 o5 l5 c5 S b6 o6 l6 c6 n W v es zs b9 o9 l9 c9 q) {g cap : Nat} {b : Bool} {m : Value} {z : Int} (hz : IsI W (Iv b m) z) (hne : ∀ g, v.ownBlock = some g → m.ownBlock ≠ some g) (hg : W.grownBy W' v.ownBlock) (hat : v.ownBlock = some g ∨ g = W.heap.size) (ho : W'.ownsRow base 71 2 (.slice (some ⟨g, 0, none⟩) (zs.length + 1) cap) (zs.length + 1) (icl es ++ [.bool b, m])) :
    PtH w T5 T6 T9 base b5 o5 l5 c5 S b6 o6 l6 c6 n W' (.slice (some ⟨g, 0, none⟩) (zs.length + 1) cap) (es ++ [(b, m)]) (zs ++ [z]) b9 o9 l9 c9 q := by
  obtain ⟨s1, s2, s3, s4, s5, s6⟩ := hS
  have hlt := h.lt
  obtain ⟨f, i5, i9, ox, ne⟩ := h
  have hr : ∀ T, T < base → v.ownBlock ≠ some T := fun T hT e => by have := hlt _ e; omega
  have blk : ∀ T, T < base → T < W.heap.size → W'.heap[T]? = W.heap[T]? := fun T hT hl => hg.block T hl (fun e => hr T hT e.symm)
  refine ⟨⟨f.1.grown hg f.1.size (fun k e => ?_), (blk _ (by omega) f.2.1.lt).trans f.2.1, (blk _ (by omega) f.2.2.1.lt).trans f.2.2.1, ibv_grown f.2.2.2 hg (hr _ (by omega)) (fun k e e2 => ?_)⟩, ibv_grown i5 hg (hr _ (by omega)) (fun k e e2 => ?_), ibv_grown i9 hg (hr _ (by omega)) ne, offx_push ox hz hne hg hat ho, fun k hk => ?_⟩
  · have := hlt _ e; omega
  · have := hlt _ e; have := s6 _ e2; omega
  · have := hlt _ e; have := s5 _ e2; omega
  · simp only [Value.ownBlock, Option.some.injEq] at hk
    rw [← hk]
    rcases hat with e | e
    · exact ne _ e
    · intro e2
      have := i9.2.num.lt _ e2
      omega
end
/-- A row's words less their mean, times its length. -/
def ofl (ds : List Int) : List Int := ds.map fun x => (ds.length : Int) * x - ds.sum
/-- The squares' sum. -/
def sql (l : List Int) : Int := (l.map fun x => x * x).sum
theorem sql_bd (l : List Int) (h : ∀ x ∈ l, x.natAbs ≤ 2305843009213693952) : (sql l).natAbs ≤ l.length * (2305843009213693952 * 2305843009213693952) := by
  induction l with
  | nil => simp [sql]
  | cons a l ih =>
    have i := ih (fun x hx => h x (by simp [hx]))
    have j := h a (by simp)
    have k : (a * a).natAbs ≤ 2305843009213693952 * 2305843009213693952 := by rw [Int.natAbs_mul]; exact Nat.mul_le_mul j j
    have e : sql (a :: l) = a * a + sql l := by simp [sql]
    rw [e, List.length_cons, Nat.add_mul, Nat.one_mul]
    omega
theorem sql_next {l : List Int} {j : Nat} (h : j < l.length) : sql (l.take (j + 1)) = sql (l.take j) + l.getD j 0 * l.getD j 0 := by
  unfold sql
  rw [List.take_add_one, List.map_append, List.sum_append]
  simp [List.getD, List.getElem?_eq_getElem h]
theorem ofl_at {ds : List Int} {j : Nat} (h : j < ds.length) : (ofl ds).getD j 0 = (ds.length : Int) * ds.getD j 0 - ds.sum := by
  simp [ofl, List.getD, List.getElem?_eq_getElem h]
theorem ibv_set {W : World} {B : Nat} {b b2 : Bool} {o o2 : Option Addr} {l c l2 c2 : Nat} {z : Int} (h : Blk W B 71 #[.bool b, .slice o l c]) (hz : IsI W (Iv b2 (.slice o2 l2 c2)) z) : IBv ((W.setCell ⟨B, 0, none⟩ (.bool b2)).setCell ⟨B, 1, none⟩ (.slice o2 l2 c2)) B b2 o2 l2 c2 z :=
  ⟨(h.set_ 0 _).set_ 1 _, hz.put (h.cell 0) (by intro x; simp) (h.cell 1) (by intro x; simp)⟩
/-- The end: what the named results' boxes hold. -/
def PtE (w : World) (T5 T9 base : Nat) (b5 : Bool) (o5 : Option Addr) (l5 c5 : Nat) (S : Int) (W : World) (v : Value) (es : List (Bool × Value)) (zs : List Int) (b9 : Bool) (o9 : Option Addr) (l9 c9 : Nat) (q : Int) (x0 x1 : Array Value) : Prop :=
  Below w.heap.size w W ∧ Blk W w.heap.size 71 x0 ∧ Blk W (w.heap.size + 1) 71 x1 ∧ IBv W T5 b5 o5 l5 c5 S ∧ IBv W T9 b9 o9 l9 c9 q ∧ OffX W base v es zs
theorem PtE.set0 {w : World} {T5 T9 base : Nat} {b5 : Bool} {o5 : Option Addr} {l5 c5 : Nat} {S : Int} {W : World} {v : Value} {es : List (Bool × Value)} {zs : List Int} {b9 : Bool} {o9 : Option Addr} {l9 c9 : Nat} {q : Int} {x1 : Array Value} (hL : w.heap.size + 1 < T5 ∧ w.heap.size + 1 < T9 ∧ v.ownBlock ≠ some w.heap.size ∧ v.ownBlock ≠ some (w.heap.size + 1)) (h : PtE w T5 T9 base b5 o5 l5 c5 S W v es zs b9 o9 l9 c9 q #[.bool false, .slice none 0 0] x1) (b : Bool) (o : Option Addr) (l c : Nat) :
    PtE w T5 T9 base b5 o5 l5 c5 S ((W.setCell ⟨w.heap.size, 0, none⟩ (.bool b)).setCell ⟨w.heap.size, 1, none⟩ (.slice o l c)) v es zs b9 o9 l9 c9 q #[.bool b, .slice o l c] x1 := by
  obtain ⟨e1, e2, e3, e4, e5, e6⟩ := h
  exact ⟨(e1.setCell (p := ⟨w.heap.size, 0, none⟩) (Nat.le_refl _) _).setCell (p := ⟨w.heap.size, 1, none⟩) (Nat.le_refl _) _, (e2.set_ 0 _).set_ 1 _, (e3.far (p := ⟨w.heap.size, 0, none⟩) (by show ¬ w.heap.size + 1 = w.heap.size; omega) _).far (p := ⟨w.heap.size, 1, none⟩) (by show ¬ w.heap.size + 1 = w.heap.size; omega) _, ibv_far e4 e2 (by omega) _ _, ibv_far e5 e2 (by omega) _ _, offx_far e6 e2 hL.2.2.1 _ _⟩
theorem PtE.set1 {w : World} {T5 T9 base : Nat} {b5 : Bool} {o5 : Option Addr} {l5 c5 : Nat} {S : Int} {W : World} {v : Value} {es : List (Bool × Value)} {zs : List Int} {b9 : Bool} {o9 : Option Addr} {l9 c9 : Nat} {q : Int} {x0 : Array Value} (hL : w.heap.size + 1 < T5 ∧ w.heap.size + 1 < T9 ∧ v.ownBlock ≠ some w.heap.size ∧ v.ownBlock ≠ some (w.heap.size + 1)) (h : PtE w T5 T9 base b5 o5 l5 c5 S W v es zs b9 o9 l9 c9 q x0 #[.bool false, .slice none 0 0]) (b : Bool) (o : Option Addr) (l c : Nat) :
    PtE w T5 T9 base b5 o5 l5 c5 S ((W.setCell ⟨w.heap.size + 1, 0, none⟩ (.bool b)).setCell ⟨w.heap.size + 1, 1, none⟩ (.slice o l c)) v es zs b9 o9 l9 c9 q x0 #[.bool b, .slice o l c] := by
  obtain ⟨e1, e2, e3, e4, e5, e6⟩ := h
  exact ⟨(e1.setCell (p := ⟨w.heap.size + 1, 0, none⟩) (Nat.le_succ _) _).setCell (p := ⟨w.heap.size + 1, 1, none⟩) (Nat.le_succ _) _, (e2.far (p := ⟨w.heap.size + 1, 0, none⟩) (by show ¬ w.heap.size = w.heap.size + 1; omega) _).far (p := ⟨w.heap.size + 1, 1, none⟩) (by show ¬ w.heap.size = w.heap.size + 1; omega) _, (e3.set_ 0 _).set_ 1 _, ibv_far e4 e3 (by omega) _ _, ibv_far e5 e3 (by omega) _ _, offx_far e6 e3 hL.2.2.2 _ _⟩
theorem PtE.next {w : World} {T5 T9 base : Nat} {b5 : Bool} {o5 : Option Addr} {l5 c5 : Nat} {S : Int} {W W' : World} {v : Value} {es : List (Bool × Value)} {zs : List Int} {b9 : Bool} {o9 : Option Addr} {l9 c9 : Nat} {q : Int} {x0 x1 : Array Value} (h : PtE w T5 T9 base b5 o5 l5 c5 S W v es zs b9 o9 l9 c9 q x0 x1) (hb : Below W.heap.size W W') : PtE w T5 T9 base b5 o5 l5 c5 S W' v es zs b9 o9 l9 c9 q x0 x1 :=
  ⟨h.1.trans (hb.mono h.1.size), h.2.1.below hb h.2.1.lt, h.2.2.1.below hb h.2.2.1.lt, ibv_below h.2.2.2.1 hb, ibv_below h.2.2.2.2.1 hb, offx_below h.2.2.2.2.2 hb⟩
/-- What Parts tells: the sum, the row and the squares' sum. -/
def PtP (w : World) (ds : List Int) (e : Ending) (w' : World) : Prop :=
  ∃ (b5 : Bool) (o5 : Option Addr) (l5 c5 : Nat) (v : Value) (b9 : Bool) (o9 : Option Addr) (l9 c9 : Nat), e = .returned (.tuple #[Iv b5 (.slice o5 l5 c5), v, Iv b9 (.slice o9 l9 c9)]) ∧ IsI w' (Iv b5 (.slice o5 l5 c5)) ds.sum ∧ Offs w' v (ofl ds) ∧ IsI w' (Iv b9 (.slice o9 l9 c9)) (sql (ofl ds)) ∧ Below w.heap.size w w'
theorem infoInt : (Tryz.prog.info? 71).map (fun i => (i.zero, i.size, i.bytes)) = some (some (.agg #[.bool false, .slice none 0 0]), 2, 32) := by kernel_rfl
set_option maxRecDepth 100000 in
set_option maxHeartbeats 8000000 in
theorem parts_any (gX fX n cX : Nat) (ds : List Int) (w : World) (hX : Ld w (.slice (some ⟨gX, fX, none⟩) n cX) ds) (hl : ds.length = n) (hn : 1 ≤ n ∧ n ≤ 4096) (hw : ∀ k, k < n → (ds.getD k 0).natAbs ≤ 140737488355328) :
    Calls Tryz.prog 33 #[.slice (some ⟨gX, fX, none⟩) n cX] w (PtP w ds) := by
  have HX := Lib.hid hX
  have HD := Lib.hid (And.intro hl (And.intro hn hw))
  have hsb : Hid (∀ k, k ≤ n → (ds.take k).sum.natAbs ≤ 576460752303423488) := Lib.hid (fun k hk => by
    have q : ∀ (l : List Int), (∀ x ∈ l, x.natAbs ≤ 140737488355328) → l.sum.natAbs ≤ l.length * 140737488355328 := fun l => by
      induction l with
      | nil => intro _; simp
      | cons a l ih =>
        intro h
        have i := ih (fun x hx => h x (by simp [hx]))
        have j := h a (by simp)
        rw [List.sum_cons, List.length_cons, Nat.add_mul]
        omega
    have := q (ds.take k) (fun x hx => by
      obtain ⟨i, hi, rfl⟩ := List.mem_iff_getElem.1 (List.mem_of_mem_take hx)
      have := hw i (by omega)
      simpa [List.getD, List.getElem?_eq_getElem hi] using this)
    have h2 : (ds.take k).length ≤ 4096 := by rw [List.length_take]; omega
    have := Nat.mul_le_mul_right 140737488355328 h2
    omega)
  have KF0 := Lib.hid (fun W : World => ifrom_any 0 W (by decide) (by decide))
  have KFN := Lib.hid (fun W : World => ifrom_any (n : Int) W (by omega) (by omega))
  have B2 : Hid (Below w.heap.size w ((w.alloc (.cells #[.bool false, .slice none 0 0] 71)).alloc (.cells #[.bool false, .slice none 0 0] 71))) := Lib.hid (((Below.refl _ _).alloc (Nat.le_refl _) _).alloc (by simp) _)
  have ZA : Hid (Blk ((w.alloc (.cells #[.bool false, .slice none 0 0] 71)).alloc (.cells #[.bool false, .slice none 0 0] 71)) w.heap.size 71 #[.bool false, .slice none 0 0] ∧ Blk ((w.alloc (.cells #[.bool false, .slice none 0 0] 71)).alloc (.cells #[.bool false, .slice none 0 0] 71)) (w.heap.size + 1) 71 #[.bool false, .slice none 0 0]) := Lib.hid ⟨(Blk.new w _ _).alloc _, by have q := Blk.new (w.alloc (.cells #[.bool false, .slice none 0 0] 71)) 71 #[.bool false, .slice none 0 0]; rwa [World.size_alloc] at q⟩
  clear hX hw
  go_enter Tryz.func33, Tryz.ntmps33
  go_upto_region 1 with fail
  obtain ⟨w2, hw2⟩ : ∃ v, v = (w.alloc (.cells #[.bool false, .slice none 0 0] 71)).alloc (.cells #[.bool false, .slice none 0 0] 71) := ⟨_, rfl⟩
  rw [← hw2] at B2 ZA ⊢
  clear hw2
  go_upto_region 2 with (go_at_call 48; (with_reducible refine (KF0.out _).mono ?_); rintro e x1w ⟨va, rfl, hI, hb⟩; obtain ⟨ba, oa, la, ca, rfl, H0⟩ := hI.open; have X1 := Lib.hid hb; have Ha := Lib.hid (IsI.mk H0.out.1 H0.out.2.1); clear hb hI H0)
  obtain ⟨w3, hw3⟩ : ∃ v, v = x1w.alloc (.cells #[.bool ba, .slice oa la ca] 71) := ⟨_, rfl⟩
  obtain ⟨T5, hT5⟩ : ∃ T, T = x1w.heap.size := ⟨_, rfl⟩
  rw [← hw3, ← hT5]
  have I5 : Hid (IBv w3 T5 ba oa la ca 0) := Lib.hid (by rw [hw3, hT5]; exact ibv_new Ha.out)
  have B3 : Hid (Below w2.heap.size w2 w3) := Lib.hid (by rw [hw3]; exact X1.out.alloc X1.out.size _)
  have HS5 : Hid (w2.heap.size ≤ T5) := Lib.hid (by rw [hT5]; exact X1.out.size)
  clear hw3 hT5 X1 Ha
  go_upto_region 3 with (go_at_call 48; (with_reducible refine (KFN.out _).mono ?_); rintro e x2w ⟨vb, rfl, hI, hb⟩; obtain ⟨bb, ob, lb, cb, rfl, H0⟩ := hI.open; have X2 := Lib.hid hb; have Hb := Lib.hid (IsI.mk H0.out.1 H0.out.2.1); clear hb hI H0)
  obtain ⟨w4, hw4⟩ : ∃ v, v = x2w.alloc (.cells #[.bool bb, .slice ob lb cb] 71) := ⟨_, rfl⟩
  obtain ⟨T6, hT6⟩ : ∃ T, T = x2w.heap.size := ⟨_, rfl⟩
  rw [← hw4, ← hT6]
  have I6 : Hid (IBv w4 T6 bb ob lb cb (n : Int)) := Lib.hid (by rw [hw4, hT6]; exact ibv_new Hb.out)
  have B4 : Hid (Below w3.heap.size w3 w4) := Lib.hid (by rw [hw4]; exact X2.out.alloc X2.out.size _)
  have I5b : Hid (IBv w4 T5 ba oa la ca 0) := Lib.hid (ibv_below I5.out B4.out)
  have HS6 : Hid (w.heap.size + 2 ≤ T5 ∧ T5 < T6) := Lib.hid (by
    have h1 := ZA.out.2.lt
    have h2 := HS5.out
    have h3 := I5.out.1.lt
    have h4 := X2.out.size
    rw [hT6]
    omega)
  have F0 : Hid (PtF w T6 bb ob lb cb n w4) := Lib.hid (by
    have hb := B3.out.trans (B4.out.mono B3.out.size)
    exact ⟨B2.out.trans (hb.mono B2.out.size), ZA.out.1.below hb ZA.out.1.lt, ZA.out.2.below hb ZA.out.2.lt, I6.out⟩)
  have FRn : Hid (∀ W W', PtF w T6 bb ob lb cb n W → Below W.heap.size W W' → PtF w T6 bb ob lb cb n W') := Lib.hid (fun W W' h hb => h.next hb)
  clear hw4 hT6 X2 Hb I5 I6 B2 B3 B4 ZA HS5
  go_wp2
  go_loopw [7] (fun s7 wQ => ∃ (k : Nat) (b : Bool) (o : Option Addr) (l c : Nat), k ≤ n ∧ s7 = .int .i64 k ∧ Hid (IBv wQ T5 b o l c (ds.take k).sum) ∧ Hid (PtF w T6 bb ob lb cb n wQ)) (fun s7 _ => n - (intOf s7).toNat)
  case atStart => exact ⟨0, _, _, _, _, Nat.zero_le _, rfl, I5b, F0⟩
  case round =>
    obtain ⟨k, bs, os, lsx, csx, hk, rfl, HI, HF⟩ := hrel
    obtain ⟨wk, hwk⟩ : ∃ v, v = wr := ⟨_, rfl⟩
    rw [← hwk] at HI HF ⊢
    clear hwk
    by_cases hkn : k < n
    · as_aux_lemma =>
      have hda := HD.out.2.2 k hkn
      have KS : Hid (∀ V, PtF w T6 bb ob lb cb n V → V.cell? ⟨gX, fX + k, none⟩ = some (.int .i64 (ds.getD k 0))) := Lib.hid (fun V hV => ld_cell (HX.out.below hV.1) (by have := HD.out.1; omega))
      have KFX := Lib.hid (fun W : World => ifrom_any (ds.getD k 0) W (by omega) (by omega))
      have KPL : Hid (∀ (W : World) (u v : Value), IsI W u (ds.take k).sum → IsI W v (ds.getD k 0) → Calls Tryz.prog 49 #[u, v] W (SomeI W (ds.take (k + 1)).sum)) := Lib.hid (fun W u v hu hv => by
        rw [take_sum2 (by have := HD.out.1; omega)]
        have h1 := hsb.out k (by omega)
        exact iplus_any u v _ _ W hu hv (big_of (k := 64) (by omega) (by decide)) (big_of (k := 64) (by omega) (by decide)))
      have HT5 : Hid (w.heap.size + 1 < T5 ∧ T5 ≠ T6) := Lib.hid (by have := HS6.out; omega)
      generalize ds.getD k 0 = a at *
      clear hda
      go_upto_region 6 with fail
      have F_0 : Hid (PtF w T6 bb ob lb cb n wk.drew) := Lib.hid (FRn.out _ _ HF.out (below_drw (Below.refl _ _) 1))
      have Q_0 : Hid (IBv wk.drew T5 bs os lsx csx (ds.take k).sum) := Lib.hid (ibv_below HI.out (below_drw (Below.refl _ _) 1))
      refine wp_region_held_drew (S := fun V => V.cell? ⟨gX, fX + k, none⟩ = some (.int .i64 a)) (by kernel_rfl) ?_ (fun hHeld => ?_)
      · exact KS.out _ F_0.out
      have hHd := hHeld
      generalize wk.drew = w_0 at *
      (refine wpAnyH_take (i := 1) (oi := ⟨some 23, _, _, _, _, _⟩) (v := ?v1_a1) rfl (by kernel_rfl) (by kernel_rfl) (by kernel_rfl) (fun _ _ _ h => h) (Or.inl ⟨by rfl, ?hy1_a1⟩) (by assumption) ?rest1_a1; (case hy1_a1 => ((intro w hSw); (try dsimp only at hSw); go_simp; first | done | (with_reducible rfl))))
      (try simp only [Act.put, List.setIfInBounds_toArray, List.set_cons_zero, List.set_cons_succ])
      (refine wpAnyH_take (i := 2) (oi := ⟨some 24, _, _, _, _, _⟩) (v := ?v2_a2) rfl (by kernel_rfl) (by kernel_rfl) (by kernel_rfl) (fun _ _ _ h => h) (Or.inl ⟨by rfl, ?hy2_a2⟩) (by assumption) ?rest2_a2; (case hy2_a2 => ((intro w hSw); (try dsimp only at hSw); go_simp; first | done | (with_reducible rfl))))
      (try simp only [Act.put, List.setIfInBounds_toArray, List.set_cons_zero, List.set_cons_succ])
      (refine wpAnyH_take (i := 3) (oi := ⟨some 25, _, _, _, _, _⟩) (v := ?v3_a3) rfl (by kernel_rfl) (by kernel_rfl) (by kernel_rfl) (fun _ _ _ h => h) (Or.inl ⟨by rfl, ?hy3_a3⟩) (by assumption) ?rest3_a3; (case hy3_a3 => ((intro w hSw); (try dsimp only at hSw); go_simp; first | done | (with_reducible rfl))))
      (try simp only [Act.put, List.setIfInBounds_toArray, List.set_cons_zero, List.set_cons_succ])
      (refine wpAnyH_take (i := 4) (oi := ⟨some 26, _, _, _, _, _⟩) (v := ?v4_a4) rfl (by kernel_rfl) (by kernel_rfl) (by kernel_rfl) (fun _ _ _ h => h) (Or.inl ⟨by rfl, ?hy4_a4⟩) (by assumption) ?rest4_a4; (case hy4_a4 => ((intro w hSw); (try dsimp only at hSw); go_simp; first | done | (with_reducible rfl))))
      (try simp only [Act.put, List.setIfInBounds_toArray, List.set_cons_zero, List.set_cons_succ])
      refine wpAnyH_ready (rs := [0, 5]) (by kernel_rfl) (by simp) ?_
      refine AllReadyH.cons (o := ⟨some 22, _, _, _, _, _⟩) rfl (fun K hK => ?_) (AllReadyH.cons (o := ⟨some 27, _, _, _, _, _⟩) rfl (fun K hK => ?_) (AllReadyH.nil))
      · (try clear l0 l1)
        have l0 := Q_0.out.1.cell 0
        have l1 := Q_0.out.1.cell 1
        go_simp
        refine hK.out _ _ ?_ (fun hHeld => ?_)
        · (try dsimp only)
          exact KS.out _ F_0.out
        clear hK K
        (try simp only [Act.put, List.setIfInBounds_toArray, List.set_cons_zero, List.set_cons_succ])
        refine wpAnyH_ready (rs := [5]) (by kernel_rfl) (by simp) ?_
        refine AllReadyH.cons (o := ⟨some 27, _, _, _, _, _⟩) rfl (fun K hK => ?_) (AllReadyH.nil)
        go_simp
        (try clear l0 l1)
        (go_at_call 48; (with_reducible refine (KFX.out _).mono ?_); rintro e w_1 ⟨vx1, rfl, hI, hb⟩; obtain ⟨bx1, ox1, lx1, cx1, rfl, H0⟩ := hI.open; have F_1 := Lib.hid (FRn.out _ _ F_0.out hb); have Q_1 := Lib.hid (ibv_below Q_0.out hb); have Hx1 := Lib.hid (IsI.mk H0.out.1 H0.out.2.1); clear hb hI H0)
        refine hK.out _ _ ?_ (fun hHeld => ?_)
        · (try dsimp only)
          exact KS.out _ F_1.out
        clear hK K
        (try simp only [Act.put, List.setIfInBounds_toArray, List.set_cons_zero, List.set_cons_succ])
        refine wpAnyH_ready (rs := [6]) (by kernel_rfl) (by simp) ?_
        refine AllReadyH.cons (o := ⟨some 28, _, _, _, _, _⟩) rfl (fun K hK => ?_) (AllReadyH.nil)
        go_simp
        (try clear l0 l1)
        (go_at_call 49; (with_reducible refine (KPL.out _ _ _ (ibv_num Q_1.out) Hx1.out).mono ?_); rintro e w_2 ⟨vx2, rfl, hI, hb⟩; obtain ⟨bx2, ox2, lx2, cx2, rfl, H0⟩ := hI.open; have F_2 := Lib.hid (FRn.out _ _ F_1.out hb); have Q_2 := Lib.hid (ibv_below Q_1.out hb); have Hx2 := Lib.hid (IsI.mk H0.out.1 H0.out.2.1); clear hb hI H0)
        refine hK.out _ _ ?_ (fun hHeld => ?_)
        · (try dsimp only)
          exact KS.out _ F_2.out
        clear hK K
        (try simp only [Act.put, List.setIfInBounds_toArray, List.set_cons_zero, List.set_cons_succ])
        refine wpAnyH_ready (rs := [7]) (by kernel_rfl) (by simp) ?_
        refine AllReadyH.cons (o := ⟨none, _, _, _, _, _⟩) rfl (fun K hK => ?_) (AllReadyH.nil)
        (try clear l0 l1)
        have c0 := Q_2.out.1.cell 0
        have c1 := Q_2.out.1.cell 1
        have f0 := Q_2.out.1.frozen 0
        have f1 := Q_2.out.1.frozen 1
        have QF := Lib.hid (ibv_put Q_2.out Hx2.out)
        have FF := Lib.hid (PtF.put F_2.out HT5.out Q_2.out (.bool bx2) (.slice ox2 lx2 cx2))
        unfold Iv
        go_simp
        refine hK.out _ _ ?_ (fun hHeld => ?_)
        · (try dsimp only)
          exact KS.out _ FF.out
        clear hK K
        (try simp only [Act.put, List.setIfInBounds_toArray, List.set_cons_zero, List.set_cons_succ])
        refine wpAnyH_done (by kernel_rfl) ?_ _
        (try clear c0 c1 f0 f1)
        go_wp2
        refine ⟨?_, by simp [intOf]; omega⟩
        (repeat apply Exists.intro)
        exact ⟨⟨k + 1, _, _, _, _, by omega, by go_num, QF, FF⟩, rfl⟩
      · go_simp
        (try clear l0 l1)
        (go_at_call 48; (with_reducible refine (KFX.out _).mono ?_); rintro e w_1 ⟨vx1, rfl, hI, hb⟩; obtain ⟨bx1, ox1, lx1, cx1, rfl, H0⟩ := hI.open; have F_1 := Lib.hid (FRn.out _ _ F_0.out hb); have Q_1 := Lib.hid (ibv_below Q_0.out hb); have Hx1 := Lib.hid (IsI.mk H0.out.1 H0.out.2.1); clear hb hI H0)
        refine hK.out _ _ ?_ (fun hHeld => ?_)
        · (try dsimp only)
          exact KS.out _ F_1.out
        clear hK K
        (try simp only [Act.put, List.setIfInBounds_toArray, List.set_cons_zero, List.set_cons_succ])
        refine wpAnyH_ready (rs := [0]) (by kernel_rfl) (by simp) ?_
        refine AllReadyH.cons (o := ⟨some 22, _, _, _, _, _⟩) rfl (fun K hK => ?_) (AllReadyH.nil)
        (try clear l0 l1)
        have l0 := Q_1.out.1.cell 0
        have l1 := Q_1.out.1.cell 1
        go_simp
        refine hK.out _ _ ?_ (fun hHeld => ?_)
        · (try dsimp only)
          exact KS.out _ F_1.out
        clear hK K
        (try simp only [Act.put, List.setIfInBounds_toArray, List.set_cons_zero, List.set_cons_succ])
        refine wpAnyH_ready (rs := [6]) (by kernel_rfl) (by simp) ?_
        refine AllReadyH.cons (o := ⟨some 28, _, _, _, _, _⟩) rfl (fun K hK => ?_) (AllReadyH.nil)
        go_simp
        (try clear l0 l1)
        (go_at_call 49; (with_reducible refine (KPL.out _ _ _ (ibv_num Q_1.out) Hx1.out).mono ?_); rintro e w_2 ⟨vx2, rfl, hI, hb⟩; obtain ⟨bx2, ox2, lx2, cx2, rfl, H0⟩ := hI.open; have F_2 := Lib.hid (FRn.out _ _ F_1.out hb); have Q_2 := Lib.hid (ibv_below Q_1.out hb); have Hx2 := Lib.hid (IsI.mk H0.out.1 H0.out.2.1); clear hb hI H0)
        refine hK.out _ _ ?_ (fun hHeld => ?_)
        · (try dsimp only)
          exact KS.out _ F_2.out
        clear hK K
        (try simp only [Act.put, List.setIfInBounds_toArray, List.set_cons_zero, List.set_cons_succ])
        refine wpAnyH_ready (rs := [7]) (by kernel_rfl) (by simp) ?_
        refine AllReadyH.cons (o := ⟨none, _, _, _, _, _⟩) rfl (fun K hK => ?_) (AllReadyH.nil)
        (try clear l0 l1)
        have c0 := Q_2.out.1.cell 0
        have c1 := Q_2.out.1.cell 1
        have f0 := Q_2.out.1.frozen 0
        have f1 := Q_2.out.1.frozen 1
        have QF := Lib.hid (ibv_put Q_2.out Hx2.out)
        have FF := Lib.hid (PtF.put F_2.out HT5.out Q_2.out (.bool bx2) (.slice ox2 lx2 cx2))
        unfold Iv
        go_simp
        refine hK.out _ _ ?_ (fun hHeld => ?_)
        · (try dsimp only)
          exact KS.out _ FF.out
        clear hK K
        (try simp only [Act.put, List.setIfInBounds_toArray, List.set_cons_zero, List.set_cons_succ])
        refine wpAnyH_done (by kernel_rfl) ?_ _
        (try clear c0 c1 f0 f1)
        go_wp2
        refine ⟨?_, by simp [intOf]; omega⟩
        (repeat apply Exists.intro)
        exact ⟨⟨k + 1, _, _, _, _, by omega, by go_num, QF, FF⟩, rfl⟩
    · as_aux_lemma =>
      have hkn2 : k = n := by omega
      have HI2 : Hid (IBv wk T5 bs os lsx csx ds.sum) := Lib.hid (by have := HI.out; rwa [List.take_of_length_le (by have := HD.out.1; omega)] at this)
      clear HI hkn2
      go_upto_region 9 with (go_at_call 48; (with_reducible refine (KF0.out _).mono ?_); rintro e x3w ⟨vc, rfl, hI, hb⟩; obtain ⟨bc, oc, lc, cc, rfl, H0⟩ := hI.open; have X3 := Lib.hid hb; have Hc := Lib.hid (IsI.mk H0.out.1 H0.out.2.1); clear hb hI H0)
      obtain ⟨w9, hw9⟩ : ∃ v, v = x3w.alloc (.cells #[.bool bc, .slice oc lc cc] 71) := ⟨_, rfl⟩
      obtain ⟨T9, hT9⟩ : ∃ T, T = x3w.heap.size := ⟨_, rfl⟩
      rw [← hw9, ← hT9]
      obtain ⟨bas, hbas⟩ : ∃ b, b = w9.heap.size := ⟨_, rfl⟩
      have I9 : Hid (IBv w9 T9 bc oc lc cc 0) := Lib.hid (by rw [hw9, hT9]; exact ibv_new Hc.out)
      have B9 : Hid (Below wk.heap.size wk w9) := Lib.hid (by rw [hw9]; exact X3.out.alloc X3.out.size _)
      have PS : Hid (PtS w T5 T6 T9 bas os lsx csx ob lb cb) := Lib.hid (by
        have h1 := HF.out.2.2.2.1.lt
        have h2 := X3.out.size
        have h3 := HS6.out
        have h4 := I9.out.1.lt
        have h5 := (ibv_below HI2.out B9.out).2.num.lt
        have h6 := (ibv_below HF.out.2.2.2 B9.out).2.num.lt
        rw [← hbas] at h4 h5 h6
        exact ⟨by omega, h3.2, by omega, by rw [hbas, hw9, World.size_alloc, hT9], h5, h6⟩)
      have H0 : Hid (PtH w T5 T6 T9 bas bs os lsx csx ds.sum bb ob lb cb n w9 (.slice none 0 0) [] [] bc oc lc cc 0) := Lib.hid ⟨HF.out.next B9.out, ibv_below HI2.out B9.out, I9.out, offx_nil _ _, fun g hg => by simp [Value.ownBlock] at hg⟩
      clear hw9 hT9 hbas X3 Hc I9 B9 HI2 HF
      have HZ : Hid (∀ j, j < n → ((ofl ds).getD j 0).natAbs ≤ 2305843009213693952) := Lib.hid (fun j hj => by
        rw [ofl_at (by have := HD.out.1; omega), HD.out.1]
        have h1 := HD.out.2.2 j hj
        have h2 := hsb.out n (Nat.le_refl _)
        rw [List.take_of_length_le (by have := HD.out.1; omega)] at h2
        have h3 : ((n : Int) * ds.getD j 0).natAbs ≤ 4096 * 140737488355328 := by rw [Int.natAbs_mul]; exact Nat.mul_le_mul (by have := HD.out.2.1; omega) h1
        omega)
      have HQ : Hid (∀ j, j ≤ n → (sql ((ofl ds).take j)).natAbs < 2 ^ 140) := Lib.hid (fun j hj => by
        have h1 := sql_bd ((ofl ds).take j) (fun x hx => by
          obtain ⟨i, hi, rfl⟩ := List.mem_iff_getElem.1 (List.mem_of_mem_take hx)
          have h := HZ.out i (by have := HD.out.1; simp [ofl] at hi; omega)
          simpa [List.getD, List.getElem?_eq_getElem hi] using h)
        have h2 : ((ofl ds).take j).length ≤ 4096 := by have := HD.out.2.1; rw [List.length_take]; omega
        have h3 := Nat.mul_le_mul_right (2305843009213693952 * 2305843009213693952) h2
        exact Nat.lt_of_le_of_lt (Nat.le_trans h1 h3) (by decide))
      go_wp2
      go_loopw [8, 10] (fun s8 s10 wQ => ∃ (j : Nat) (es : List (Bool × Value)) (b9 : Bool) (o9 : Option Addr) (l9 c9 : Nat), j ≤ n ∧ s10 = .int .i64 j ∧ Hid (PtH w T5 T6 T9 bas bs os lsx csx ds.sum bb ob lb cb n wQ s8 es ((ofl ds).take j) b9 o9 l9 c9 (sql ((ofl ds).take j)))) (fun _ s10 _ => n - (intOf s10).toNat)
      case atStart => exact ⟨0, [], _, _, _, _, Nat.zero_le _, rfl, by simpa [sql] using H0⟩
      case round =>
        obtain ⟨j, es, b9, o9, l9, c9, hj, rfl, HH⟩ := hrel
        obtain ⟨wj, hwj⟩ : ∃ v, v = wr := ⟨_, rfl⟩
        rw [← hwj] at HH ⊢
        clear hwj H0
        by_cases hjn : j < n
        · as_aux_lemma =>
          have hz := HZ.out j hjn
          have hda := HD.out.2.2 j hjn
          have ez : (ofl ds).getD j 0 = (n : Int) * ds.getD j 0 - ds.sum := by rw [ofl_at (by have := HD.out.1; omega), HD.out.1]
          have hS2 : ds.sum.natAbs ≤ 576460752303423488 := by
            have h2 := hsb.out n (Nat.le_refl _)
            rwa [List.take_of_length_le (by have := HD.out.1; omega)] at h2
          have hnn := HD.out.2.1
          obtain ⟨z, hzz⟩ : ∃ z, z = (ofl ds).getD j 0 := ⟨_, rfl⟩
          rw [← hzz] at hz ez
          obtain ⟨a, ha⟩ : ∃ a, a = ds.getD j 0 := ⟨_, rfl⟩
          rw [← ha] at hda ez
          have KFX := Lib.hid (fun W : World => ifrom_any a W (by omega) (by omega))
          have KTM : Hid (∀ (W : World) (u v : Value), IsI W u (n : Int) → IsI W v a → Calls Tryz.prog 51 #[u, v] W (SomeI W ((n : Int) * a))) := Lib.hid (fun W u v hu hv => itimes_any u v _ _ W hu hv (big_of (k := 64) (by omega) (by decide)) (big_of (k := 64) (by omega) (by decide)))
          have KLS : Hid (∀ (W : World) (u v : Value), IsI W u ((n : Int) * a) → IsI W v ds.sum → Calls Tryz.prog 50 #[u, v] W (SomeIF W z)) := Lib.hid (fun W u v hu hv => by
            rw [ez]
            exact iless_far u v _ _ W hu hv (big_of (k := 64) (by omega) (by decide)) (big_of (k := 64) (by omega) (by decide)))
          obtain ⟨FR, hFR⟩ : ∃ FR : World → Prop, FR = fun W => PtH w T5 T6 T9 bas bs os lsx csx ds.sum bb ob lb cb n W u8 es ((ofl ds).take j) b9 o9 l9 c9 (sql ((ofl ds).take j)) := ⟨_, rfl⟩
          have FRn : Hid (∀ W W', FR W → Below W.heap.size W W' → FR W') := Lib.hid (fun W W' h hb => by rw [hFR] at h ⊢; exact h.next hb)
          have FR6 : Hid (∀ W, FR W → IsI W (Iv bb (.slice ob lb cb)) (n : Int)) := Lib.hid (fun W h => by rw [hFR] at h; exact ibv_num h.1.2.2.2)
          have FR5 : Hid (∀ W, FR W → IsI W (Iv bs (.slice os lsx csx)) ds.sum) := Lib.hid (fun W h => by rw [hFR] at h; exact ibv_num h.2.1)
          have FRl : Hid (∀ W, FR W → T9 < W.heap.size ∧ u8.ownBlock ≠ some W.heap.size) := Lib.hid (fun W h => by rw [hFR] at h; exact ⟨h.2.2.1.1.lt, fun e => by have := h.lt _ e; omega⟩)
          have FRf : Hid (∀ (W : World) (m : Value), FR W → (∀ k, k < W.heap.size → m.ownBlock ≠ some k) → ∀ g, u8.ownBlock = some g → m.ownBlock ≠ some g) := Lib.hid (fun W m h hf g hg => by rw [hFR] at h; exact hf g (h.lt g hg).2)
          have FRs : Hid (∀ (W : World) (B : Nat) (u0 u1 : Value), (T9 < B ∧ u8.ownBlock ≠ some B) → FR W → Blk W B 71 #[.bool false, .slice none 0 0] → FR ((W.setCell ⟨B, 0, none⟩ u0).setCell ⟨B, 1, none⟩ u1)) := Lib.hid (fun W B u0 u1 hB h hb => by rw [hFR] at h ⊢; exact h.put PS.out hb hB.1 hB.2 u0 u1)
          have KS : Hid (∀ V, FR V → V.cell? ⟨gX, fX + j, none⟩ = some (.int .i64 a) ∧ V.cell? ⟨T6, 0, none⟩ = some (.bool bb) ∧ V.cell? ⟨T6, 1, none⟩ = some (.slice ob lb cb) ∧ V.cell? ⟨T5, 0, none⟩ = some (.bool bs) ∧ V.cell? ⟨T5, 1, none⟩ = some (.slice os lsx csx)) := Lib.hid (fun V hV => by
            rw [hFR] at hV
            refine ⟨?_, hV.1.2.2.2.1.cell 0, hV.1.2.2.2.1.cell 1, hV.2.1.1.cell 0, hV.2.1.1.cell 1⟩
            rw [ha]
            exact ld_cell (HX.out.below hV.1.1) (by have := HD.out.1; omega))
          have HF2 : Hid (FR wj) := Lib.hid (by rw [hFR]; exact HH.out)
          have HFR := Lib.hid hFR
          have HEZ := Lib.hid (And.intro hz hzz)
          clear hz hda ez hS2 hnn hzz ha hFR HH
          go_upto_region 12 with fail
          go_cut [11] (fun s11 wx => ∃ (T1 : Nat) (bz : Bool) (oz : Option Addr) (lz cz : Nat), s11 = .pointer (some ⟨T1, 0, none⟩) ∧ Hid (IBv wx T1 bz oz lz cz z) ∧ Hid (∀ g, u8.ownBlock = some g → (Value.slice oz lz cz).ownBlock ≠ some g) ∧ Hid (T9 < T1 ∧ u8.ownBlock ≠ some T1) ∧ Hid (FR wx))
          case first =>
            as_aux_lemma =>
            have B_0 : Hid (FR wj.drew) := Lib.hid (FRn.out _ _ HF2.out (below_drw (Below.refl _ _) 1))
            refine wp_region_held_drew (S := fun V => V.cell? ⟨gX, fX + j, none⟩ = some (.int .i64 a) ∧ V.cell? ⟨T6, 0, none⟩ = some (.bool bb) ∧ V.cell? ⟨T6, 1, none⟩ = some (.slice ob lb cb) ∧ V.cell? ⟨T5, 0, none⟩ = some (.bool bs) ∧ V.cell? ⟨T5, 1, none⟩ = some (.slice os lsx csx)) (by kernel_rfl) ?_ (fun hHeld => ?_)
            · exact KS.out _ B_0.out
            have hHd := hHeld
            generalize wj.drew = w_0 at *
            (refine wpAnyH_take (i := 0) (oi := ⟨some 36, _, _, _, _, _⟩) (v := ?v0_b1) rfl (by kernel_rfl) (by kernel_rfl) (by kernel_rfl) (fun _ _ _ h => h) (Or.inl ⟨by rfl, ?hy0_b1⟩) (by assumption) ?rest0_b1; (case hy0_b1 => ((intro w hSw); (try dsimp only at hSw); go_simp; first | done | (with_reducible rfl))))
            (try simp only [Act.put, List.setIfInBounds_toArray, List.set_cons_zero, List.set_cons_succ])
            (refine wpAnyH_take (i := 1) (oi := ⟨some 37, _, _, _, _, _⟩) (v := ?v1_b2) rfl (by kernel_rfl) (by kernel_rfl) (by kernel_rfl) (fun _ _ _ h => h) (Or.inl ⟨by rfl, ?hy1_b2⟩) (by assumption) ?rest1_b2; (case hy1_b2 => ((intro w hSw); (try dsimp only at hSw); go_simp; first | done | (with_reducible rfl))))
            (try simp only [Act.put, List.setIfInBounds_toArray, List.set_cons_zero, List.set_cons_succ])
            (refine wpAnyH_take (i := 2) (oi := ⟨some 38, _, _, _, _, _⟩) (v := ?v2_b3) rfl (by kernel_rfl) (by kernel_rfl) (by kernel_rfl) (fun _ _ _ h => h) (Or.inl ⟨by rfl, ?hy2_b3⟩) (by assumption) ?rest2_b3; (case hy2_b3 => ((intro w hSw); (try dsimp only at hSw); go_simp; first | done | (with_reducible rfl))))
            (try simp only [Act.put, List.setIfInBounds_toArray, List.set_cons_zero, List.set_cons_succ])
            (refine wpAnyH_take (i := 3) (oi := ⟨some 39, _, _, _, _, _⟩) (v := ?v3_b4) rfl (by kernel_rfl) (by kernel_rfl) (by kernel_rfl) (fun _ _ _ h => h) (Or.inl ⟨by rfl, ?hy3_b4⟩) (by assumption) ?rest3_b4; (case hy3_b4 => ((intro w hSw); (try dsimp only at hSw); go_simp; first | done | (with_reducible rfl))))
            (try simp only [Act.put, List.setIfInBounds_toArray, List.set_cons_zero, List.set_cons_succ])
            (refine wpAnyH_take (i := 4) (oi := ⟨some 40, _, _, _, _, _⟩) (v := ?v4_b5) rfl (by kernel_rfl) (by kernel_rfl) (by kernel_rfl) (fun _ _ _ h => h) (Or.inl ⟨by rfl, ?hy4_b5⟩) (by assumption) ?rest4_b5; (case hy4_b5 => ((intro w hSw); (try dsimp only at hSw); go_simp; first | done | (with_reducible rfl))))
            (try simp only [Act.put, List.setIfInBounds_toArray, List.set_cons_zero, List.set_cons_succ])
            (refine wpAnyH_take (i := 7) (oi := ⟨some 43, _, _, _, _, _⟩) (v := ?v7_b6) rfl (by kernel_rfl) (by kernel_rfl) (by kernel_rfl) (fun _ _ _ h => h) (Or.inl ⟨by rfl, ?hy7_b6⟩) (by assumption) ?rest7_b6; (case hy7_b6 => ((intro w hSw); (try dsimp only at hSw); go_simp; first | done | (with_reducible rfl))))
            (try simp only [Act.put, List.setIfInBounds_toArray, List.set_cons_zero, List.set_cons_succ])
            refine wpAnyH_ready (rs := [5, 9]) (by kernel_rfl) (by simp) ?_
            refine AllReadyH.cons (o := ⟨some 41, _, _, _, _, _⟩) rfl (fun K hK => ?_) (AllReadyH.cons (o := ⟨some 11, _, _, _, _, _⟩) rfl (fun K hK => ?_) (AllReadyH.nil))
            · go_simp
              (go_at_call 48; (with_reducible refine (KFX.out _).mono ?_); rintro e w_1 ⟨vx1, rfl, hI, hb⟩; obtain ⟨bx1, ox1, lx1, cx1, rfl, H0⟩ := hI.open; have B_1 := Lib.hid (FRn.out _ _ B_0.out hb); have X_1 := Lib.hid (IsI.mk H0.out.1 H0.out.2.1); clear hb hI H0)
              refine hK.out _ _ ?_ (fun hHeld => ?_)
              · (try dsimp only)
                exact KS.out _ B_1.out
              clear hK K
              (try simp only [Act.put, List.setIfInBounds_toArray, List.set_cons_zero, List.set_cons_succ])
              refine wpAnyH_ready (rs := [6, 9]) (by kernel_rfl) (by simp) ?_
              refine AllReadyH.cons (o := ⟨some 42, _, _, _, _, _⟩) rfl (fun K hK => ?_) (AllReadyH.cons (o := ⟨some 11, _, _, _, _, _⟩) rfl (fun K hK => ?_) (AllReadyH.nil))
              · go_simp
                (go_at_call 51; (with_reducible refine (KTM.out _ _ _ (FR6.out _ B_1.out) X_1.out).mono ?_); rintro e w_2 ⟨vx2, rfl, hI, hb⟩; obtain ⟨bx2, ox2, lx2, cx2, rfl, H0⟩ := hI.open; have B_2 := Lib.hid (FRn.out _ _ B_1.out hb); have X_2 := Lib.hid (IsI.mk H0.out.1 H0.out.2.1); clear hb hI H0)
                refine hK.out _ _ ?_ (fun hHeld => ?_)
                · (try dsimp only)
                  exact KS.out _ B_2.out
                clear hK K
                (try simp only [Act.put, List.setIfInBounds_toArray, List.set_cons_zero, List.set_cons_succ])
                refine wpAnyH_ready (rs := [8, 9]) (by kernel_rfl) (by simp) ?_
                refine AllReadyH.cons (o := ⟨some 44, _, _, _, _, _⟩) rfl (fun K hK => ?_) (AllReadyH.cons (o := ⟨some 11, _, _, _, _, _⟩) rfl (fun K hK => ?_) (AllReadyH.nil))
                · go_simp
                  (go_at_call 50; (with_reducible refine (KLS.out _ _ _ X_2.out (FR5.out _ B_2.out)).mono ?_); rintro e w_3 ⟨bz, mz, rfl, hI, hb, far⟩; obtain ⟨oz, lz, cz, rfl, H0⟩ := hI.open2; have NE_3 := Lib.hid (FRf.out _ _ B_2.out far); have B_3 := Lib.hid (FRn.out _ _ B_2.out hb); have X_3 := Lib.hid (IsI.mk H0.out.1 H0.out.2.1); clear hb hI H0 far)
                  refine hK.out _ _ ?_ (fun hHeld => ?_)
                  · (try dsimp only)
                    exact KS.out _ B_3.out
                  clear hK K
                  (try simp only [Act.put, List.setIfInBounds_toArray, List.set_cons_zero, List.set_cons_succ])
                  refine wpAnyH_ready (rs := [9]) (by kernel_rfl) (by simp) ?_
                  refine AllReadyH.cons (o := ⟨some 11, _, _, _, _, _⟩) rfl (fun K hK => ?_) (AllReadyH.nil)
                  go_simp
                  have Z_4 := Lib.hid (Blk.new w_3 71 #[.bool false, .slice none 0 0])
                  have B_4 := Lib.hid (FRn.out _ _ B_3.out (al_below0 (.cells #[.bool false, .slice none 0 0] 71)))
                  have T_4 := Lib.hid (FRl.out _ B_3.out)
                  have X_4 := Lib.hid (X_3.out.below (al_below0 (.cells #[.bool false, .slice none 0 0] 71)))
                  refine hK.out _ _ ?_ (fun hHeld => ?_)
                  · (try dsimp only)
                    exact KS.out _ B_4.out
                  clear hK K
                  generalize w_3.alloc (.cells #[.bool false, .slice none 0 0] 71) = w_4 at *
                  (try simp only [Act.put, List.setIfInBounds_toArray, List.set_cons_zero, List.set_cons_succ])
                  refine wpAnyH_ready (rs := [10]) (by kernel_rfl) (by simp) ?_
                  refine AllReadyH.cons (o := ⟨none, _, _, _, _, _⟩) rfl (fun K hK => ?_) (AllReadyH.nil)
                  have c0 := Z_4.out.cell 0
                  have c1' := Z_4.out.cell 1
                  have f0 := Z_4.out.frozen 0
                  have f1 := Z_4.out.frozen 1
                  have ZF := Lib.hid (ibv_set Z_4.out X_4.out)
                  have BF := Lib.hid (FRs.out _ _ (.bool bz) (.slice oz lz cz) T_4.out B_4.out Z_4.out)
                  (try unfold Iv)
                  go_simp
                  refine hK.out _ _ ?_ (fun hHeld => ?_)
                  · (try dsimp only)
                    exact KS.out _ BF.out
                  clear hK K
                  generalize (w_4.setCell ⟨w_3.heap.size, 0, none⟩ (.bool bz)).setCell ⟨w_3.heap.size, 1, none⟩ (.slice oz lz cz) = w_99 at *
                  (try simp only [Act.put, List.setIfInBounds_toArray, List.set_cons_zero, List.set_cons_succ])
                  refine wpAnyH_done (by kernel_rfl) ?_ _
                  (try clear c0 c1' f0 f1)
                  go_wp2
                  go_meet
                  exact ⟨_, bz, oz, lz, cz, rfl, ZF, NE_3, T_4, BF⟩
                · go_simp
                  have Z_5 := Lib.hid (Blk.new w_2 71 #[.bool false, .slice none 0 0])
                  have B_5 := Lib.hid (FRn.out _ _ B_2.out (al_below0 (.cells #[.bool false, .slice none 0 0] 71)))
                  have T_5 := Lib.hid (FRl.out _ B_2.out)
                  have X_5 := Lib.hid (X_2.out.below (al_below0 (.cells #[.bool false, .slice none 0 0] 71)))
                  refine hK.out _ _ ?_ (fun hHeld => ?_)
                  · (try dsimp only)
                    exact KS.out _ B_5.out
                  clear hK K
                  generalize w_2.alloc (.cells #[.bool false, .slice none 0 0] 71) = w_5 at *
                  (try simp only [Act.put, List.setIfInBounds_toArray, List.set_cons_zero, List.set_cons_succ])
                  refine wpAnyH_ready (rs := [8]) (by kernel_rfl) (by simp) ?_
                  refine AllReadyH.cons (o := ⟨some 44, _, _, _, _, _⟩) rfl (fun K hK => ?_) (AllReadyH.nil)
                  go_simp
                  (go_at_call 50; (with_reducible refine (KLS.out _ _ _ X_5.out (FR5.out _ B_5.out)).mono ?_); rintro e w_6 ⟨bz, mz, rfl, hI, hb, far⟩; obtain ⟨oz, lz, cz, rfl, H0⟩ := hI.open2; have NE_6 := Lib.hid (FRf.out _ _ B_5.out far); have B_6 := Lib.hid (FRn.out _ _ B_5.out hb); have X_6 := Lib.hid (IsI.mk H0.out.1 H0.out.2.1); have Z_6 := Lib.hid (Z_5.out.below hb Z_5.out.lt); clear hb hI H0 far)
                  refine hK.out _ _ ?_ (fun hHeld => ?_)
                  · (try dsimp only)
                    exact KS.out _ B_6.out
                  clear hK K
                  (try simp only [Act.put, List.setIfInBounds_toArray, List.set_cons_zero, List.set_cons_succ])
                  refine wpAnyH_ready (rs := [10]) (by kernel_rfl) (by simp) ?_
                  refine AllReadyH.cons (o := ⟨none, _, _, _, _, _⟩) rfl (fun K hK => ?_) (AllReadyH.nil)
                  have c0 := Z_6.out.cell 0
                  have c1' := Z_6.out.cell 1
                  have f0 := Z_6.out.frozen 0
                  have f1 := Z_6.out.frozen 1
                  have ZF := Lib.hid (ibv_set Z_6.out X_6.out)
                  have BF := Lib.hid (FRs.out _ _ (.bool bz) (.slice oz lz cz) T_5.out B_6.out Z_6.out)
                  (try unfold Iv)
                  go_simp
                  refine hK.out _ _ ?_ (fun hHeld => ?_)
                  · (try dsimp only)
                    exact KS.out _ BF.out
                  clear hK K
                  generalize (w_6.setCell ⟨w_2.heap.size, 0, none⟩ (.bool bz)).setCell ⟨w_2.heap.size, 1, none⟩ (.slice oz lz cz) = w_99 at *
                  (try simp only [Act.put, List.setIfInBounds_toArray, List.set_cons_zero, List.set_cons_succ])
                  refine wpAnyH_done (by kernel_rfl) ?_ _
                  (try clear c0 c1' f0 f1)
                  go_wp2
                  go_meet
                  exact ⟨_, bz, oz, lz, cz, rfl, ZF, NE_6, T_5, BF⟩
              · go_simp
                have Z_7 := Lib.hid (Blk.new w_1 71 #[.bool false, .slice none 0 0])
                have B_7 := Lib.hid (FRn.out _ _ B_1.out (al_below0 (.cells #[.bool false, .slice none 0 0] 71)))
                have T_7 := Lib.hid (FRl.out _ B_1.out)
                have X_7 := Lib.hid (X_1.out.below (al_below0 (.cells #[.bool false, .slice none 0 0] 71)))
                refine hK.out _ _ ?_ (fun hHeld => ?_)
                · (try dsimp only)
                  exact KS.out _ B_7.out
                clear hK K
                generalize w_1.alloc (.cells #[.bool false, .slice none 0 0] 71) = w_7 at *
                (try simp only [Act.put, List.setIfInBounds_toArray, List.set_cons_zero, List.set_cons_succ])
                refine wpAnyH_ready (rs := [6]) (by kernel_rfl) (by simp) ?_
                refine AllReadyH.cons (o := ⟨some 42, _, _, _, _, _⟩) rfl (fun K hK => ?_) (AllReadyH.nil)
                go_simp
                (go_at_call 51; (with_reducible refine (KTM.out _ _ _ (FR6.out _ B_7.out) X_7.out).mono ?_); rintro e w_8 ⟨vx2, rfl, hI, hb⟩; obtain ⟨bx2, ox2, lx2, cx2, rfl, H0⟩ := hI.open; have B_8 := Lib.hid (FRn.out _ _ B_7.out hb); have X_8 := Lib.hid (IsI.mk H0.out.1 H0.out.2.1); have Z_8 := Lib.hid (Z_7.out.below hb Z_7.out.lt); clear hb hI H0)
                refine hK.out _ _ ?_ (fun hHeld => ?_)
                · (try dsimp only)
                  exact KS.out _ B_8.out
                clear hK K
                (try simp only [Act.put, List.setIfInBounds_toArray, List.set_cons_zero, List.set_cons_succ])
                refine wpAnyH_ready (rs := [8]) (by kernel_rfl) (by simp) ?_
                refine AllReadyH.cons (o := ⟨some 44, _, _, _, _, _⟩) rfl (fun K hK => ?_) (AllReadyH.nil)
                go_simp
                (go_at_call 50; (with_reducible refine (KLS.out _ _ _ X_8.out (FR5.out _ B_8.out)).mono ?_); rintro e w_9 ⟨bz, mz, rfl, hI, hb, far⟩; obtain ⟨oz, lz, cz, rfl, H0⟩ := hI.open2; have NE_9 := Lib.hid (FRf.out _ _ B_8.out far); have B_9 := Lib.hid (FRn.out _ _ B_8.out hb); have X_9 := Lib.hid (IsI.mk H0.out.1 H0.out.2.1); have Z_9 := Lib.hid (Z_8.out.below hb Z_8.out.lt); clear hb hI H0 far)
                refine hK.out _ _ ?_ (fun hHeld => ?_)
                · (try dsimp only)
                  exact KS.out _ B_9.out
                clear hK K
                (try simp only [Act.put, List.setIfInBounds_toArray, List.set_cons_zero, List.set_cons_succ])
                refine wpAnyH_ready (rs := [10]) (by kernel_rfl) (by simp) ?_
                refine AllReadyH.cons (o := ⟨none, _, _, _, _, _⟩) rfl (fun K hK => ?_) (AllReadyH.nil)
                have c0 := Z_9.out.cell 0
                have c1' := Z_9.out.cell 1
                have f0 := Z_9.out.frozen 0
                have f1 := Z_9.out.frozen 1
                have ZF := Lib.hid (ibv_set Z_9.out X_9.out)
                have BF := Lib.hid (FRs.out _ _ (.bool bz) (.slice oz lz cz) T_7.out B_9.out Z_9.out)
                (try unfold Iv)
                go_simp
                refine hK.out _ _ ?_ (fun hHeld => ?_)
                · (try dsimp only)
                  exact KS.out _ BF.out
                clear hK K
                generalize (w_9.setCell ⟨w_1.heap.size, 0, none⟩ (.bool bz)).setCell ⟨w_1.heap.size, 1, none⟩ (.slice oz lz cz) = w_99 at *
                (try simp only [Act.put, List.setIfInBounds_toArray, List.set_cons_zero, List.set_cons_succ])
                refine wpAnyH_done (by kernel_rfl) ?_ _
                (try clear c0 c1' f0 f1)
                go_wp2
                go_meet
                exact ⟨_, bz, oz, lz, cz, rfl, ZF, NE_9, T_7, BF⟩
            · go_simp
              have Z_10 := Lib.hid (Blk.new w_0 71 #[.bool false, .slice none 0 0])
              have B_10 := Lib.hid (FRn.out _ _ B_0.out (al_below0 (.cells #[.bool false, .slice none 0 0] 71)))
              have T_10 := Lib.hid (FRl.out _ B_0.out)
              refine hK.out _ _ ?_ (fun hHeld => ?_)
              · (try dsimp only)
                exact KS.out _ B_10.out
              clear hK K
              generalize w_0.alloc (.cells #[.bool false, .slice none 0 0] 71) = w_10 at *
              (try simp only [Act.put, List.setIfInBounds_toArray, List.set_cons_zero, List.set_cons_succ])
              refine wpAnyH_ready (rs := [5]) (by kernel_rfl) (by simp) ?_
              refine AllReadyH.cons (o := ⟨some 41, _, _, _, _, _⟩) rfl (fun K hK => ?_) (AllReadyH.nil)
              go_simp
              (go_at_call 48; (with_reducible refine (KFX.out _).mono ?_); rintro e w_11 ⟨vx1, rfl, hI, hb⟩; obtain ⟨bx1, ox1, lx1, cx1, rfl, H0⟩ := hI.open; have B_11 := Lib.hid (FRn.out _ _ B_10.out hb); have X_11 := Lib.hid (IsI.mk H0.out.1 H0.out.2.1); have Z_11 := Lib.hid (Z_10.out.below hb Z_10.out.lt); clear hb hI H0)
              refine hK.out _ _ ?_ (fun hHeld => ?_)
              · (try dsimp only)
                exact KS.out _ B_11.out
              clear hK K
              (try simp only [Act.put, List.setIfInBounds_toArray, List.set_cons_zero, List.set_cons_succ])
              refine wpAnyH_ready (rs := [6]) (by kernel_rfl) (by simp) ?_
              refine AllReadyH.cons (o := ⟨some 42, _, _, _, _, _⟩) rfl (fun K hK => ?_) (AllReadyH.nil)
              go_simp
              (go_at_call 51; (with_reducible refine (KTM.out _ _ _ (FR6.out _ B_11.out) X_11.out).mono ?_); rintro e w_12 ⟨vx2, rfl, hI, hb⟩; obtain ⟨bx2, ox2, lx2, cx2, rfl, H0⟩ := hI.open; have B_12 := Lib.hid (FRn.out _ _ B_11.out hb); have X_12 := Lib.hid (IsI.mk H0.out.1 H0.out.2.1); have Z_12 := Lib.hid (Z_11.out.below hb Z_11.out.lt); clear hb hI H0)
              refine hK.out _ _ ?_ (fun hHeld => ?_)
              · (try dsimp only)
                exact KS.out _ B_12.out
              clear hK K
              (try simp only [Act.put, List.setIfInBounds_toArray, List.set_cons_zero, List.set_cons_succ])
              refine wpAnyH_ready (rs := [8]) (by kernel_rfl) (by simp) ?_
              refine AllReadyH.cons (o := ⟨some 44, _, _, _, _, _⟩) rfl (fun K hK => ?_) (AllReadyH.nil)
              go_simp
              (go_at_call 50; (with_reducible refine (KLS.out _ _ _ X_12.out (FR5.out _ B_12.out)).mono ?_); rintro e w_13 ⟨bz, mz, rfl, hI, hb, far⟩; obtain ⟨oz, lz, cz, rfl, H0⟩ := hI.open2; have NE_13 := Lib.hid (FRf.out _ _ B_12.out far); have B_13 := Lib.hid (FRn.out _ _ B_12.out hb); have X_13 := Lib.hid (IsI.mk H0.out.1 H0.out.2.1); have Z_13 := Lib.hid (Z_12.out.below hb Z_12.out.lt); clear hb hI H0 far)
              refine hK.out _ _ ?_ (fun hHeld => ?_)
              · (try dsimp only)
                exact KS.out _ B_13.out
              clear hK K
              (try simp only [Act.put, List.setIfInBounds_toArray, List.set_cons_zero, List.set_cons_succ])
              refine wpAnyH_ready (rs := [10]) (by kernel_rfl) (by simp) ?_
              refine AllReadyH.cons (o := ⟨none, _, _, _, _, _⟩) rfl (fun K hK => ?_) (AllReadyH.nil)
              have c0 := Z_13.out.cell 0
              have c1' := Z_13.out.cell 1
              have f0 := Z_13.out.frozen 0
              have f1 := Z_13.out.frozen 1
              have ZF := Lib.hid (ibv_set Z_13.out X_13.out)
              have BF := Lib.hid (FRs.out _ _ (.bool bz) (.slice oz lz cz) T_10.out B_13.out Z_13.out)
              (try unfold Iv)
              go_simp
              refine hK.out _ _ ?_ (fun hHeld => ?_)
              · (try dsimp only)
                exact KS.out _ BF.out
              clear hK K
              generalize (w_13.setCell ⟨w_0.heap.size, 0, none⟩ (.bool bz)).setCell ⟨w_0.heap.size, 1, none⟩ (.slice oz lz cz) = w_99 at *
              (try simp only [Act.put, List.setIfInBounds_toArray, List.set_cons_zero, List.set_cons_succ])
              refine wpAnyH_done (by kernel_rfl) ?_ _
              (try clear c0 c1' f0 f1)
              go_wp2
              go_meet
              exact ⟨_, bz, oz, lz, cz, rfl, ZF, NE_13, T_10, BF⟩
          case rest =>
            as_aux_lemma =>
            obtain ⟨T1, bz, oz, lz, cz, rfl, Z1, NE, T1L, HF3⟩ := hcut
            obtain ⟨w7, hw7⟩ : ∃ v, v = wc := ⟨_, rfl⟩
            rw [← hw7] at Z1 HF3 ⊢
            clear hw7 HF2 KS FRs FRf FRl FR5 FR6 FRn KFX KTM KLS
            have HP : Hid (PtH w T5 T6 T9 bas bs os lsx csx ds.sum bb ob lb cb n w7 u8 es ((ofl ds).take j) b9 o9 l9 c9 (sql ((ofl ds).take j))) := Lib.hid (by have h := HF3.out; rw [HFR.out] at h; exact h)
            clear HF3 HFR
            have hlj : ((ofl ds).take j).length = j := by have := HD.out.1; rw [List.length_take]; simp [ofl]; omega
            have HLJ := Lib.hid hlj
            have hn4 := HD.out.2.1
            obtain ⟨i0, hi0, hz0, hz1, hz2⟩ := info_parts infoInt
            have c0 := Z1.out.1.cell 0
            have c1 := Z1.out.1.cell 1
            go_wp2_with (at_builtin; refine wpList_append_lies _ rfl _ _ 72 rfl bas 71 i0 (.agg #[.bool false, .slice none 0 0]) 2 32 Tryz.underlying72 hi0 hz0 hz1 hz2 rfl (by decide) _ ((ofl ds).take j).length (icl es) rfl (row_bel (offx_row HP.out.2.2.2.1) (al_below0 _)) ⟨w7.heap.size, 0, none⟩ 1 1 [.bool bz, .slice oz lz cz] rfl rfl (World.news_of_block (Blk.new w7 _ #[.bool bz, .slice oz lz cz])) (by simp [Value.oneCell']) (by decide) (by unfold maxLen; omega) (by omega) ?b1 _ rfl ?_)
            case b1 => (have h1 := PS.out.2.2.2.1; have h2 := HP.out.2.2.1.1.lt; (first | omega | (simp; omega)))
            intro g9 cp9 w9 hown hgrow hat _
            have et : (ofl ds).take (j + 1) = (ofl ds).take j ++ [z] := by
              have h1 : j < (ofl ds).length := by have := HD.out.1; simp [ofl]; omega
              rw [List.take_add_one, HEZ.out.2]
              simp [List.getD, List.getElem?_eq_getElem h1]
            have HP8 : Hid (PtH w T5 T6 T9 bas bs os lsx csx ds.sum bb ob lb cb n w9 (.slice (some ⟨g9, 0, none⟩) (j + 1) cp9) (es ++ [(bz, .slice oz lz cz)]) ((ofl ds).take (j + 1)) b9 o9 l9 c9 (sql ((ofl ds).take j))) := Lib.hid (by
              have h := PtH.push PS.out (HP.out.next (al_below0 (.cells #[.bool bz, .slice oz lz cz] 71))) (g := g9) (cap := cp9) (Z1.out.2.below (al_below0 _)) NE.out hgrow (by rcases hat with e | e; exact .inl e; exact .inr (by rw [World.size_alloc]; exact e)) (by rw [hlj]; exact hown)
              rw [hlj] at h
              rw [et]
              exact h)
            have Z8 : Hid (IBv w9 T1 bz oz lz cz z) := Lib.hid (ibv_grown (ibv_below Z1.out (al_below0 _)) hgrow T1L.out.2 NE.out)
            have hzb := HEZ.out.1
            have hqb := HQ.out j (by omega)
            have hsn : sql ((ofl ds).take (j + 1)) = sql ((ofl ds).take j) + z * z := by
              have h1 : j < (ofl ds).length := by have := HD.out.1; simp [ofl]; omega
              rw [sql_next h1, ← HEZ.out.2]
            have hzz : (z * z).natAbs < 2 ^ 140 := by
              have h : (z * z).natAbs ≤ 2305843009213693952 * 2305843009213693952 := by rw [Int.natAbs_mul]; exact Nat.mul_le_mul hzb hzb
              exact Nat.lt_of_le_of_lt h (by decide)
            obtain ⟨q1, hq1⟩ : ∃ q, q = sql ((ofl ds).take j) := ⟨_, rfl⟩
            obtain ⟨q2, hq2⟩ : ∃ q, q = sql ((ofl ds).take (j + 1)) := ⟨_, rfl⟩
            rw [← hq1] at HP8 hqb hsn
            rw [← hq2] at hsn
            have KT2 : Hid (∀ (W : World) (u v : Value), IsI W u z → IsI W v z → Calls Tryz.prog 51 #[u, v] W (SomeI W (z * z))) := Lib.hid (fun W u v hu hv => itimes_any u v _ _ W hu hv (big_of (k := 64) (by omega) (by decide)) (big_of (k := 64) (by omega) (by decide)))
            have KP2 : Hid (∀ (W : World) (u v : Value), IsI W u q1 → IsI W v (z * z) → Calls Tryz.prog 49 #[u, v] W (SomeIF W q2)) := Lib.hid (fun W u v hu hv => by
              rw [hsn]
              exact iplus_far u v _ _ W hu hv (big_of hqb (by decide)) (big_of hzz (by decide)))
            have HQ2 := Lib.hid hq2
            obtain ⟨v8, hv8⟩ : ∃ v, v = Value.slice (some ⟨g9, 0, none⟩) (j + 1) cp9 := ⟨_, rfl⟩
            rw [← hv8] at HP8
            have HV8 := Lib.hid hv8
            obtain ⟨es8, hes8⟩ : ∃ e, e = es ++ [(bz, .slice oz lz cz)] := ⟨_, rfl⟩
            rw [← hes8] at HP8
            obtain ⟨FR, hFR⟩ : ∃ FR : World → Prop, FR = fun W => PtH w T5 T6 T9 bas bs os lsx csx ds.sum bb ob lb cb n W v8 es8 ((ofl ds).take (j + 1)) b9 o9 l9 c9 q1 := ⟨_, rfl⟩
            have FRn : Hid (∀ W W', FR W → Below W.heap.size W W' → FR W') := Lib.hid (fun W W' h hb => by rw [hFR] at h ⊢; exact h.next hb)
            have FR9 : Hid (∀ W, FR W → IBv W T9 b9 o9 l9 c9 q1) := Lib.hid (fun W h => by rw [hFR] at h; exact h.2.2.1)
            have FRf : Hid (∀ (W : World) (m : Value), FR W → (∀ k, k < W.heap.size → m.ownBlock ≠ some k) → ∀ g, v8.ownBlock = some g → m.ownBlock ≠ some g) := Lib.hid (fun W m h hf g hg => by rw [hFR] at h; exact hf g (h.lt g hg).2)
            have FRs : Hid (∀ (W : World) (b : Bool) (o : Option Addr) (l c : Nat), FR W → IsI W (Iv b (.slice o l c)) q2 → (∀ g, v8.ownBlock = some g → (Value.slice o l c).ownBlock ≠ some g) → PtH w T5 T6 T9 bas bs os lsx csx ds.sum bb ob lb cb n ((W.setCell ⟨T9, 0, none⟩ (.bool b)).setCell ⟨T9, 1, none⟩ (.slice o l c)) v8 es8 ((ofl ds).take (j + 1)) b o l c q2) := Lib.hid (fun W b o l c h hz hne => by rw [hFR] at h; exact h.put9 PS.out hz hne)
            have KZ : Hid (∀ V, IBv V T1 bz oz lz cz z → V.cell? ⟨T1, 0, none⟩ = some (.bool bz) ∧ V.cell? ⟨T1, 1, none⟩ = some (.slice oz lz cz)) := Lib.hid (fun V h => ⟨h.1.cell 0, h.1.cell 1⟩)
            have HF8 : Hid (FR w9) := Lib.hid (by rw [hFR]; exact HP8.out)
            have HT1 : Hid (T1 ≠ T9) := Lib.hid (by have := T1L.out.1; omega)
            rw [← hv8]
            clear hown hgrow hat et hzb hqb hsn hzz hq1 hq2 hv8 hes8 hFR hlj HP8 HP NE Z1 T1L c0 c1 i0 hi0 hz0 hz1 hz2
            go_upto_region 14 with fail
            have B_0 : Hid (FR w9.drew) := Lib.hid (FRn.out _ _ HF8.out (below_drw (Below.refl _ _) 1))
            have Z_0 : Hid (IBv w9.drew T1 bz oz lz cz z) := Lib.hid (ibv_below Z8.out (below_drw (Below.refl _ _) 1))
            refine wp_region_held_drew (S := fun V => V.cell? ⟨T1, 0, none⟩ = some (.bool bz) ∧ V.cell? ⟨T1, 1, none⟩ = some (.slice oz lz cz)) (by kernel_rfl) ?_ (fun hHeld => ?_)
            · exact KZ.out _ Z_0.out
            have hHd := hHeld
            generalize w9.drew = w_0 at *
            (refine wpAnyH_take (i := 1) (oi := ⟨some 50, _, _, _, _, _⟩) (v := ?v1_c1) rfl (by kernel_rfl) (by kernel_rfl) (by kernel_rfl) (fun _ _ _ h => h) (Or.inl ⟨by rfl, ?hy1_c1⟩) (by assumption) ?rest1_c1; (case hy1_c1 => ((intro w hSw); (try dsimp only at hSw); go_simp; first | done | (with_reducible rfl))))
            (try simp only [Act.put, List.setIfInBounds_toArray, List.set_cons_zero, List.set_cons_succ])
            (refine wpAnyH_take (i := 2) (oi := ⟨some 51, _, _, _, _, _⟩) (v := ?v2_c2) rfl (by kernel_rfl) (by kernel_rfl) (by kernel_rfl) (fun _ _ _ h => h) (Or.inl ⟨by rfl, ?hy2_c2⟩) (by assumption) ?rest2_c2; (case hy2_c2 => ((intro w hSw); (try dsimp only at hSw); go_simp; first | done | (with_reducible rfl))))
            (try simp only [Act.put, List.setIfInBounds_toArray, List.set_cons_zero, List.set_cons_succ])
            refine wpAnyH_ready (rs := [0, 3]) (by kernel_rfl) (by simp) ?_
            refine AllReadyH.cons (o := ⟨some 49, _, _, _, _, _⟩) rfl (fun K hK => ?_) (AllReadyH.cons (o := ⟨some 52, _, _, _, _, _⟩) rfl (fun K hK => ?_) (AllReadyH.nil))
            · (try clear l0 l1)
              have l0 := (FR9.out _ B_0.out).1.cell 0
              have l1 := (FR9.out _ B_0.out).1.cell 1
              go_simp
              refine hK.out _ _ ?_ (fun hHeld => ?_)
              · (try dsimp only)
                exact KZ.out _ Z_0.out
              clear hK K
              (try simp only [Act.put, List.setIfInBounds_toArray, List.set_cons_zero, List.set_cons_succ])
              refine wpAnyH_ready (rs := [3]) (by kernel_rfl) (by simp) ?_
              refine AllReadyH.cons (o := ⟨some 52, _, _, _, _, _⟩) rfl (fun K hK => ?_) (AllReadyH.nil)
              go_simp
              (try clear l0 l1)
              (go_at_call 51; (with_reducible refine (KT2.out _ _ _ (ibv_num Z_0.out) (ibv_num Z_0.out)).mono ?_); rintro e w_14 ⟨vx2, rfl, hI, hb⟩; obtain ⟨bx2, ox2, lx2, cx2, rfl, H0⟩ := hI.open; have B_14 := Lib.hid (FRn.out _ _ B_0.out hb); have Z_14 := Lib.hid (ibv_below Z_0.out hb); have X_14 := Lib.hid (IsI.mk H0.out.1 H0.out.2.1); clear hb hI H0)
              refine hK.out _ _ ?_ (fun hHeld => ?_)
              · (try dsimp only)
                exact KZ.out _ Z_14.out
              clear hK K
              (try simp only [Act.put, List.setIfInBounds_toArray, List.set_cons_zero, List.set_cons_succ])
              refine wpAnyH_ready (rs := [4]) (by kernel_rfl) (by simp) ?_
              refine AllReadyH.cons (o := ⟨some 53, _, _, _, _, _⟩) rfl (fun K hK => ?_) (AllReadyH.nil)
              go_simp
              (try clear l0 l1)
              (go_at_call 49; (with_reducible refine (KP2.out _ _ _ (ibv_num (FR9.out _ B_14.out)) X_14.out).mono ?_); rintro e w_15 ⟨bq, mq, rfl, hI, hb, far⟩; obtain ⟨oq, lq, cq, rfl, H0⟩ := hI.open2; have NE_15 := Lib.hid (FRf.out _ _ B_14.out far); have B_15 := Lib.hid (FRn.out _ _ B_14.out hb); have Z_15 := Lib.hid (ibv_below Z_14.out hb); have X_15 := Lib.hid (IsI.mk H0.out.1 H0.out.2.1); clear hb hI H0 far)
              refine hK.out _ _ ?_ (fun hHeld => ?_)
              · (try dsimp only)
                exact KZ.out _ Z_15.out
              clear hK K
              (try simp only [Act.put, List.setIfInBounds_toArray, List.set_cons_zero, List.set_cons_succ])
              refine wpAnyH_ready (rs := [5]) (by kernel_rfl) (by simp) ?_
              refine AllReadyH.cons (o := ⟨none, _, _, _, _, _⟩) rfl (fun K hK => ?_) (AllReadyH.nil)
              (try clear l0 l1)
              have I9 := FR9.out _ B_15.out
              have c0 := I9.1.cell 0
              have c1' := I9.1.cell 1
              have f0 := I9.1.frozen 0
              have f1 := I9.1.frozen 1
              have ZF := Lib.hid (ibv_far Z_15.out I9.1 HT1.out (.bool bq) (.slice oq lq cq))
              have PF := Lib.hid (FRs.out _ _ _ _ _ B_15.out X_15.out NE_15.out)
              clear I9
              (try unfold Iv)
              go_simp
              refine hK.out _ _ ?_ (fun hHeld => ?_)
              · (try dsimp only)
                exact KZ.out _ ZF.out
              clear hK K
              (try simp only [Act.put, List.setIfInBounds_toArray, List.set_cons_zero, List.set_cons_succ])
              refine wpAnyH_done (by kernel_rfl) ?_ _
              (try clear c0 c1' f0 f1)
              go_wp2
              refine ⟨?_, by simp [intOf]; omega⟩
              (repeat apply Exists.intro)
              exact ⟨⟨j + 1, _, _, _, _, _, by omega, by go_num, by rw [← HQ2.out]; exact PF⟩, rfl⟩
            · go_simp
              (try clear l0 l1)
              (go_at_call 51; (with_reducible refine (KT2.out _ _ _ (ibv_num Z_0.out) (ibv_num Z_0.out)).mono ?_); rintro e w_16 ⟨vx2, rfl, hI, hb⟩; obtain ⟨bx2, ox2, lx2, cx2, rfl, H0⟩ := hI.open; have B_16 := Lib.hid (FRn.out _ _ B_0.out hb); have Z_16 := Lib.hid (ibv_below Z_0.out hb); have X_16 := Lib.hid (IsI.mk H0.out.1 H0.out.2.1); clear hb hI H0)
              refine hK.out _ _ ?_ (fun hHeld => ?_)
              · (try dsimp only)
                exact KZ.out _ Z_16.out
              clear hK K
              (try simp only [Act.put, List.setIfInBounds_toArray, List.set_cons_zero, List.set_cons_succ])
              refine wpAnyH_ready (rs := [0]) (by kernel_rfl) (by simp) ?_
              refine AllReadyH.cons (o := ⟨some 49, _, _, _, _, _⟩) rfl (fun K hK => ?_) (AllReadyH.nil)
              (try clear l0 l1)
              have l0 := (FR9.out _ B_16.out).1.cell 0
              have l1 := (FR9.out _ B_16.out).1.cell 1
              go_simp
              refine hK.out _ _ ?_ (fun hHeld => ?_)
              · (try dsimp only)
                exact KZ.out _ Z_16.out
              clear hK K
              (try simp only [Act.put, List.setIfInBounds_toArray, List.set_cons_zero, List.set_cons_succ])
              refine wpAnyH_ready (rs := [4]) (by kernel_rfl) (by simp) ?_
              refine AllReadyH.cons (o := ⟨some 53, _, _, _, _, _⟩) rfl (fun K hK => ?_) (AllReadyH.nil)
              go_simp
              (try clear l0 l1)
              (go_at_call 49; (with_reducible refine (KP2.out _ _ _ (ibv_num (FR9.out _ B_16.out)) X_16.out).mono ?_); rintro e w_17 ⟨bq, mq, rfl, hI, hb, far⟩; obtain ⟨oq, lq, cq, rfl, H0⟩ := hI.open2; have NE_17 := Lib.hid (FRf.out _ _ B_16.out far); have B_17 := Lib.hid (FRn.out _ _ B_16.out hb); have Z_17 := Lib.hid (ibv_below Z_16.out hb); have X_17 := Lib.hid (IsI.mk H0.out.1 H0.out.2.1); clear hb hI H0 far)
              refine hK.out _ _ ?_ (fun hHeld => ?_)
              · (try dsimp only)
                exact KZ.out _ Z_17.out
              clear hK K
              (try simp only [Act.put, List.setIfInBounds_toArray, List.set_cons_zero, List.set_cons_succ])
              refine wpAnyH_ready (rs := [5]) (by kernel_rfl) (by simp) ?_
              refine AllReadyH.cons (o := ⟨none, _, _, _, _, _⟩) rfl (fun K hK => ?_) (AllReadyH.nil)
              (try clear l0 l1)
              have I9 := FR9.out _ B_17.out
              have c0 := I9.1.cell 0
              have c1' := I9.1.cell 1
              have f0 := I9.1.frozen 0
              have f1 := I9.1.frozen 1
              have ZF := Lib.hid (ibv_far Z_17.out I9.1 HT1.out (.bool bq) (.slice oq lq cq))
              have PF := Lib.hid (FRs.out _ _ _ _ _ B_17.out X_17.out NE_17.out)
              clear I9
              (try unfold Iv)
              go_simp
              refine hK.out _ _ ?_ (fun hHeld => ?_)
              · (try dsimp only)
                exact KZ.out _ ZF.out
              clear hK K
              (try simp only [Act.put, List.setIfInBounds_toArray, List.set_cons_zero, List.set_cons_succ])
              refine wpAnyH_done (by kernel_rfl) ?_ _
              (try clear c0 c1' f0 f1)
              go_wp2
              refine ⟨?_, by simp [intOf]; omega⟩
              (repeat apply Exists.intro)
              exact ⟨⟨j + 1, _, _, _, _, _, by omega, by go_num, by rw [← HQ2.out]; exact PF⟩, rfl⟩
        · as_aux_lemma =>
          have hjn2 : j = n := by omega
          have hlo : (ofl ds).length = n := by have := HD.out.1; simp [ofl]; omega
          have HL := Lib.hid (Iff.intro (fun h : True => h) (fun h => h))
          have E0 : Hid (PtE w T5 T9 bas bs os lsx csx ds.sum wj u8 es (ofl ds) b9 o9 l9 c9 (sql (ofl ds)) #[.bool false, .slice none 0 0] #[.bool false, .slice none 0 0]) := Lib.hid (by
            have h := HH.out
            rw [hjn2, List.take_of_length_le (by omega)] at h
            exact ⟨h.1.1, h.1.2.1, h.1.2.2.1, h.2.1, h.2.2.1, h.2.2.2.1⟩)
          have EL : Hid (w.heap.size + 1 < T5 ∧ w.heap.size + 1 < T9 ∧ u8.ownBlock ≠ some w.heap.size ∧ u8.ownBlock ≠ some (w.heap.size + 1)) := Lib.hid (by
            obtain ⟨s1, s2, s3, s4, _, _⟩ := PS.out
            have h := HH.out.lt
            exact ⟨s1, by omega, fun e => by have := h _ e; omega, fun e => by have := h _ e; omega⟩)
          have KS : Hid (∀ V x0 x1, PtE w T5 T9 bas bs os lsx csx ds.sum V u8 es (ofl ds) b9 o9 l9 c9 (sql (ofl ds)) x0 x1 → V.cell? ⟨T5, 0, none⟩ = some (.bool bs) ∧ V.cell? ⟨T5, 1, none⟩ = some (.slice os lsx csx) ∧ V.cell? ⟨T9, 0, none⟩ = some (.bool b9) ∧ V.cell? ⟨T9, 1, none⟩ = some (.slice o9 l9 c9)) := Lib.hid (fun V x0 x1 h => ⟨h.2.2.2.1.1.cell 0, h.2.2.2.1.1.cell 1, h.2.2.2.2.1.1.cell 0, h.2.2.2.2.1.1.cell 1⟩)
          clear HL hlo hjn2
          go_upto_region 15 with fail
          have E_0 : Hid (PtE w T5 T9 bas bs os lsx csx ds.sum wj.drew u8 es (ofl ds) b9 o9 l9 c9 (sql (ofl ds)) #[.bool false, .slice none 0 0] #[.bool false, .slice none 0 0]) := Lib.hid (E0.out.next (below_drw (Below.refl _ _) 1))
          refine wp_region_held_drew (S := fun V => V.cell? ⟨T5, 0, none⟩ = some (.bool bs) ∧ V.cell? ⟨T5, 1, none⟩ = some (.slice os lsx csx) ∧ V.cell? ⟨T9, 0, none⟩ = some (.bool b9) ∧ V.cell? ⟨T9, 1, none⟩ = some (.slice o9 l9 c9)) (by kernel_rfl) ?_ (fun hHeld => ?_)
          · exact KS.out _ _ _ E_0.out
          have hHd := hHeld
          generalize wj.drew = w_0 at *
          (refine wpAnyH_take (i := 0) (oi := ⟨some 54, _, _, _, _, _⟩) (v := ?v0_d1) rfl (by kernel_rfl) (by kernel_rfl) (by kernel_rfl) (fun _ _ _ h => h) (Or.inl ⟨by rfl, ?hy0_d1⟩) (by assumption) ?rest0_d1; (case hy0_d1 => ((intro w hSw); (try dsimp only at hSw); go_simp; first | done | (with_reducible rfl))))
          (try simp only [Act.put, List.setIfInBounds_toArray, List.set_cons_zero, List.set_cons_succ])
          (refine wpAnyH_take (i := 1) (oi := ⟨some 55, _, _, _, _, _⟩) (v := ?v1_d2) rfl (by kernel_rfl) (by kernel_rfl) (by kernel_rfl) (fun _ _ _ h => h) (Or.inl ⟨by rfl, ?hy1_d2⟩) (by assumption) ?rest1_d2; (case hy1_d2 => ((intro w hSw); (try dsimp only at hSw); go_simp; first | done | (with_reducible rfl))))
          (try simp only [Act.put, List.setIfInBounds_toArray, List.set_cons_zero, List.set_cons_succ])
          (refine wpAnyH_take (i := 2) (oi := ⟨some 56, _, _, _, _, _⟩) (v := ?v2_d3) rfl (by kernel_rfl) (by kernel_rfl) (by kernel_rfl) (fun _ _ _ h => h) (Or.inl ⟨by rfl, ?hy2_d3⟩) (by assumption) ?rest2_d3; (case hy2_d3 => ((intro w hSw); (try dsimp only at hSw); go_simp; first | done | (with_reducible rfl))))
          (try simp only [Act.put, List.setIfInBounds_toArray, List.set_cons_zero, List.set_cons_succ])
          refine wpAnyH_ready (rs := [3]) (by kernel_rfl) (by simp) ?_
          refine AllReadyH.cons (o := ⟨none, _, _, _, _, _⟩) rfl (fun K hK => ?_) (AllReadyH.nil)
          obtain ⟨p0, p1, f0, f1⟩ := ibk2 E_0.out.2.1
          have E_1 := Lib.hid (PtE.set0 EL.out E_0.out bs os lsx csx)
          (try unfold Iv)
          go_simp
          clear p0 p1 f0 f1
          refine hK.out _ _ ?_ (fun hHeld => ?_)
          · (try dsimp only)
            exact KS.out _ _ _ E_1.out
          clear hK K
          generalize (w_0.setCell ⟨w.heap.size, 0, none⟩ (.bool bs)).setCell ⟨w.heap.size, 1, none⟩ (.slice os lsx csx) = w_91 at *
          (try simp only [Act.put, List.setIfInBounds_toArray, List.set_cons_zero, List.set_cons_succ])
          (refine wpAnyH_take (i := 4) (oi := ⟨some 3, _, _, _, _, _⟩) (v := ?v4_d4) rfl (by kernel_rfl) (by kernel_rfl) (by kernel_rfl) (fun _ _ _ h => h) (Or.inl ⟨by rfl, ?hy4_d4⟩) (by assumption) ?rest4_d4; (case hy4_d4 => ((intro w hSw); (try dsimp only at hSw); go_simp; first | done | (with_reducible rfl))))
          (try simp only [Act.put, List.setIfInBounds_toArray, List.set_cons_zero, List.set_cons_succ])
          refine wpAnyH_ready (rs := [5]) (by kernel_rfl) (by simp) ?_
          refine AllReadyH.cons (o := ⟨none, _, _, _, _, _⟩) rfl (fun K hK => ?_) (AllReadyH.nil)
          obtain ⟨p0, p1, f0, f1⟩ := ibk2 E_1.out.2.2.1
          have E_2 := Lib.hid (PtE.set1 EL.out E_1.out b9 o9 l9 c9)
          (try unfold Iv)
          go_simp
          clear p0 p1 f0 f1
          refine hK.out _ _ ?_ (fun hHeld => ?_)
          · (try dsimp only)
            exact KS.out _ _ _ E_2.out
          clear hK K
          generalize (w_91.setCell ⟨w.heap.size + 1, 0, none⟩ (.bool b9)).setCell ⟨w.heap.size + 1, 1, none⟩ (.slice o9 l9 c9) = w_92 at *
          (try simp only [Act.put, List.setIfInBounds_toArray, List.set_cons_zero, List.set_cons_succ])
          refine wpAnyH_done (by kernel_rfl) ?_ _
          obtain ⟨r0, r1, _, _⟩ := ibk2 E_2.out.2.1
          obtain ⟨r2, r3, _, _⟩ := ibk2 E_2.out.2.2.1
          go_wp2
          refine bodyPost_ret (v := .tuple #[Iv bs (.slice os lsx csx), u8, Iv b9 (.slice o9 l9 c9)]) (by simp [results, Tryz.results33, go_sem, r0, r1, r2, r3]) rfl ⟨bs, os, lsx, csx, u8, b9, o9, l9, c9, rfl, ibv_num E_2.out.2.2.2.1, offx_offs E_2.out.2.2.2.2.2, ibv_num E_2.out.2.2.2.2.1, E_2.out.1⟩

end Go.Proofs.YtldchepfcgbpiaaGreat
