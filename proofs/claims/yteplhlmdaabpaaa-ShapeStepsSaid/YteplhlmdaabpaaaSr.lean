/-
  What ShapeSteps' loops carry.
-/
import Derived.Test.YteplhlmdaabpaaaSq
namespace Go.Proofs.Yteplhlmdaabpaaa
open Go.RowKit

theorem On.drw {wr W : World} {S T I : Value} {n : Int} (h : On wr S T I n W) (k : Nat) : On wr S T I n (W.drewN k) := h.next (below_drw (Below.refl _ _) k)
theorem On.set {wr W : World} {S T I : Value} {n : Int} (h : On wr S T I n W) {p : Addr} (hp : wr.heap.size < p.block) (u : Value) : On wr S T I n (W.setCell p u) := by
  obtain ⟨⟨a, b, c, d⟩, e, f⟩ := h
  have hx : ∀ k, (W.setCell p u).cell? ⟨wr.heap.size, k, none⟩ = W.cell? ⟨wr.heap.size, k, none⟩ := fun k => World.cell?_setCell_other W p ⟨wr.heap.size, k, none⟩ u (fun e => by subst e; exact Nat.lt_irrefl _ hp)
  exact ⟨⟨(hx 0).trans a, (hx 1).trans b, (hx 2).trans c, (hx 3).trans d⟩, e.setCell (Nat.le_of_lt hp) u, by simpa using f⟩
/-- A row of the call's own, one of its words written over. -/
theorem owns_put {w : World} {base : Nat} {e : TypeId} {o : Option Addr} {c : Nat} {ls : List Int} {k : Nat} (h : w.ownsRow base e 1 (.slice o ls.length c) ls.length (ints ls)) (hk : k < ls.length) :
    ∃ g, o = some ⟨g, 0, none⟩ ∧ base ≤ g ∧ ls.length ≤ c ∧ w.cell? ⟨g, k, none⟩ = some (.int .i64 (ls.getD k 0)) ∧ w.frozen? ⟨g, k, none⟩ = false ∧ ∀ v : Int, Ld (w.setCell ⟨g, k, none⟩ (.int .i64 v)) (.slice (some ⟨g, 0, none⟩) ls.length c) (ls.set k v) := by
  rcases h.2 with ⟨_, h0⟩ | ⟨g, cap, cur, hv, hb, hh, hc, hm, hsz, ht⟩
  · omega
  · simp only [Value.slice.injEq, true_and] at hv
    obtain ⟨rfl, rfl⟩ := hv
    have hblk : Blk w g e cur := hh
    have hcur : ∀ i, i < ls.length → cur[i]? = some (.int .i64 (ls.getD i 0)) := fun i hi => by
      have : (ints ls)[i]? = some (.int .i64 (ls.getD i 0)) := by simpa using ints_at hi
      rw [← ht, List.getElem?_take] at this
      split at this
      · simpa using this
      · cases this
    refine ⟨g, rfl, hb, hc, by rw [hblk.cell]; exact hcur k hk, hblk.frozen k, fun v => ?_⟩
    have hput := hblk.set_ k (.int .i64 v)
    refine ⟨_, c, by rw [List.length_set], by rw [List.length_set]; exact hc, fun i hi => ⟨g, 0, rfl, hput.lt, ?_⟩⟩
    rw [List.length_set] at hi
    rw [Nat.zero_add, hput.cell]
    have hs : k < cur.size := by have := hcur k hk; exact (Array.getElem?_eq_some_iff.1 this).1
    by_cases ek : k = i
    · subst ek; rw [set_getD_self hi, Array.getElem?_setIfInBounds_self_of_lt hs]
    · rw [set_getD_ne ek, Array.getElem?_setIfInBounds_ne ek]; exact hcur i hi
theorem Blk.drwn {w : World} {g : Nat} {t : TypeId} {cs : Array Value} (h : Blk w g t cs) (k : Nat) : Blk (w.drewN k) g t cs := h
theorem copy_row (v : Value) (L : List Int) (n : Nat) (hn : L.length = n) (w : World) (h : Ld w v L) (l0 : 0 < n) (ll : n ≤ 65536) :
    Calls Try.prog 15 #[v] w fun e w' => ∃ g c, e = .returned (.slice (some ⟨g, 0, none⟩) n c) ∧ w.heap.size ≤ g ∧ n ≤ c ∧ Below w.heap.size w w' ∧
      Hid (∀ k, k < n → w'.cell? ⟨g, k, none⟩ = some (.int .i64 (L.getD k 0)) ∧ w'.frozen? ⟨g, k, none⟩ = false ∧ ∀ v : Int, Ld (w'.setCell ⟨g, k, none⟩ (.int .i64 v)) (.slice (some ⟨g, 0, none⟩) n c) (L.set k v)) := by
  subst hn
  refine (copy_any v L w h ll).mono ?_
  rintro e w' ⟨o, c, rfl, ho, _, hb⟩
  obtain ⟨g, rfl, hg, hc, _⟩ := owns_put ho l0
  refine ⟨g, c, rfl, hg, hc, hb, fun k hk => ?_⟩
  obtain ⟨g', e, _, _, a, b, c⟩ := owns_put ho hk
  cases e
  exact ⟨a, b, c⟩
end Go.Proofs.Yteplhlmdaabpaaa
