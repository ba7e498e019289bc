/-
  Words laid where indexes stand; which places are taken; plain mathematics.
  slices.Clone of words.
  The reference's views: which may be, axes, the plain one.
  view.Reshape; the reference's plain view.
  The view laws' own helpers: views held against one another, copied, written over, asked.
  Of the references that the laws of package view call: words copied and spoilt, where an index stands.
  Tensors: alike? spoilt; may they be?
  The reference's May, of a tensor.
-/
import Derived.Deep.QuietTactic
import Derived.BigQuiet
import Derived.Deep.DeepBigQuietO
import Derived.Deep.RegionHeld3
import Derived.Test.YtpfcjajmfadcbaaGreatM01
import Derived.Test.YtpfcjajmfadcbaaGreatM03
import Derived.Test.YtpfcjajmfadcbaaGreatM04
import Derived.Test.YtpfcjajmfadcbaaGreatM05
namespace Go.Proofs.YtpfcjajmfadcbaaGreat

/-- Where the n-th index stands. -/
def plat (sh st : List Int) (off : Int) (n : Nat) : Int := off + dot st (atl sh (n : Int))
/-- Does an index before stand there, too? -/
def hit (sh st : List Int) (off : Int) (k : Nat) : Bool := (List.range k).any fun i => decide (plat sh st off i = plat sh st off k)
/-- Do two indexes stand at one place? -/
def dup (sh st : List Int) (off : Int) (N : Nat) : Bool := (List.range N).any fun k => hit sh st off k
theorem dup_yes {sh st : List Int} {off : Int} {N k : Nat} (hk : k < N) (h : hit sh st off k = true) : dup sh st off N = true := List.any_eq_true.2 ⟨k, List.mem_range.2 hk, h⟩
theorem dup_no {sh st : List Int} {off : Int} {N : Nat} (h : ∀ k, k < N → hit sh st off k = false) : dup sh st off N = false := by
  cases e : dup sh st off N with
  | false => rfl
  | true =>
    obtain ⟨k, hk, h2⟩ := List.any_eq_true.1 e
    rw [h k (List.mem_range.1 hk)] at h2
    cases h2
/-- The words, k of them laid. -/
def lys (sh st : List Int) (off : Int) (ls tds : List Int) : Nat → List Int
  | 0 => ls
  | k + 1 => (lys sh st off ls tds k).set (plat sh st off k).toNat (tds.getD k 0)
theorem lys_len (sh st : List Int) (off : Int) (ls tds : List Int) : ∀ k, (lys sh st off ls tds k).length = ls.length
  | 0 => rfl
  | k + 1 => by unfold lys; rw [List.length_set, lys_len sh st off ls tds k]
theorem lys_step {sh st : List Int} {off : Int} {ls tds : List Int} {k P : Nat} (h : plat sh st off k = (P : Int)) : lys sh st off ls tds (k + 1) = (lys sh st off ls tds k).set P (tds.getD k 0) := by
  show List.set _ _ _ = _
  rw [h, Int.toNat_natCast]
/-- Which places are taken, by k indexes. -/
def tks (sh st : List Int) (off : Int) (m : Nat) : Nat → List Bool
  | 0 => List.replicate m false
  | k + 1 => (tks sh st off m k).set (plat sh st off k).toNat true
theorem tks_len (sh st : List Int) (off : Int) (m : Nat) : ∀ k, (tks sh st off m k).length = m
  | 0 => by simp [tks]
  | k + 1 => by unfold tks; rw [List.length_set, tks_len sh st off m k]
theorem tks_step {sh st : List Int} {off : Int} {m k P : Nat} (h : plat sh st off k = (P : Int)) : tks sh st off m (k + 1) = (tks sh st off m k).set P true := by
  show List.set _ _ _ = _
  rw [h, Int.toNat_natCast]
theorem tks_at {sh st : List Int} {off : Int} {m Q : Nat} (hQ : Q < m) : ∀ k, (∀ i, i < k → 0 ≤ plat sh st off i) → (tks sh st off m k).getD Q false = (List.range k).any fun i => decide (plat sh st off i = (Q : Int))
  | 0, _ => by simp [tks, List.getD, hQ]
  | k + 1, h => by
    have ih := tks_at (sh := sh) (st := st) (off := off) hQ k (fun i hi => h i (by omega))
    have h0 := h k (by omega)
    obtain ⟨P, hP⟩ := Int.eq_ofNat_of_zero_le h0
    rw [tks_step hP, List.range_succ, List.any_append, ← ih]
    simp only [List.any_cons, List.any_nil, Bool.or_false, hP]
    rw [List.getD_eq_getElem?_getD, List.getD_eq_getElem?_getD, List.getElem?_set]
    by_cases e : P = Q
    · subst e
      rw [if_pos rfl, if_pos (by rw [tks_len]; exact hQ)]
      simp
    · rw [if_neg e]
      have : ¬ (P : Int) = (Q : Int) := by omega
      simp [this]
theorem tks_hit {sh st : List Int} {off : Int} {m k P : Nat} (hk : ∀ i, i < k → 0 ≤ plat sh st off i) (h : plat sh st off k = (P : Int)) (hP : P < m) : (tks sh st off m k).getD P false = hit sh st off k := by
  rw [tks_at hP k hk]
  unfold hit
  rw [h]
/-- What is laid where it lay changes nothing. -/
theorem lys_same {sh st : List Int} {off : Int} {ls tds : List Int} {N : Nat} (h : ∀ k, k < N → ∃ P : Nat, plat sh st off k = (P : Int) ∧ tds.getD k 0 = ls.getD P 0) : ∀ k, k ≤ N → lys sh st off ls tds k = ls
  | 0, _ => rfl
  | k + 1, hk => by
    obtain ⟨P, hP, hv⟩ := h k (by omega)
    rw [lys_step hP, lys_same h k (by omega), hv]
    apply List.ext_getElem
    · simp
    · intro j h1 h2
      rw [List.getElem_set]
      split
      · rename_i e
        subst e
        simp [List.getD, List.getElem?_eq_getElem h2]
      · rfl
end Go.Proofs.YtpfcjajmfadcbaaGreat
namespace Go.Proofs.YtpfcjajmfadcbaaGreat
open Go.RowKit

/-- Words in new memory. -/
def SomeWd (w : World) (ls : List Int) (e : Ending) (w' : World) : Prop := ∃ o c, e = .returned (.slice o ls.length c) ∧ w'.ownsRow w.heap.size 2 1 (.slice o ls.length c) ls.length (ints ls) ∧ Ld w' (.slice o ls.length c) ls ∧ Below w.heap.size w w'
end Go.Proofs.YtpfcjajmfadcbaaGreat
namespace Go.Proofs.YtpfcjajmfadcbaaGreat
open Go.RowKit


end Go.Proofs.YtpfcjajmfadcbaaGreat
namespace Go.Proofs.YtpfcjajmfadcbaaGreat
open Go.RowKit



end Go.Proofs.YtpfcjajmfadcbaaGreat
namespace Go.Proofs.YtpfcjajmfadcbaaGreat
open Go.RowKit


theorem Ov.kept2 {w w' : World} {base : Nat} {vs vt : Value} {sh st : List Int} (h : Ov w base vs vt sh st) (hg : w.grownBy w' vs.ownBlock) : w'.ownsRow base 3 1 vt st.length (ints st) := h.2.1.kept hg (by
  cases e : vt.ownBlock with
  | none => exact .inl rfl
  | some g => exact .inr (fun e2 => h.2.2 g e2.symm e))
theorem own_len {w : World} {base n : Nat} {e : TypeId} {v : Value} {xs : List Value} (h : w.ownsRow base e 1 v n xs) : ∃ o c, v = .slice o n c := by
  rcases h.2 with ⟨rfl, rfl⟩ | ⟨g, cap, cur, rfl, _⟩
  · exact ⟨_, _, rfl⟩
  · exact ⟨_, _, rfl⟩
theorem own_put2 {w : World} {base g c i n : Nat} {ls : List Int} {e : TypeId} (h : w.ownsRow base e 1 (.slice (some ⟨g, 0, none⟩) n c) n (ints ls)) (hl : ls.length = n) (hi : i < n) (v : Int) : (w.setCell ⟨g, i, none⟩ (.int .i64 v)).ownsRow base e 1 (.slice (some ⟨g, 0, none⟩) n c) n (ints (ls.set i v)) := by
  subst hl
  have := own_put h hi v
  rwa [List.length_set] at this

set_option maxRecDepth 100000 in
set_option maxHeartbeats 4000000 in
theorem numberso_any (base : Nat) (v : Value) (ls : List Int) (w : World) (h : w.ownsRow base 3 1 v ls.length (ints ls)) (hb : base ≤ w.heap.size) (hl : ls.length ≤ 65536) :
    Calls Tryz.prog 84 #[v] w fun e w' => e = .returned (.tuple #[]) ∧ w.grownBy w' v.ownBlock := by
  obtain ⟨i0, hi0, hz0, hz1, hz2⟩ := info_parts infoI
  obtain ⟨n, hn⟩ : ∃ n, n = ls.length := ⟨_, rfl⟩
  have HLN := Lib.hid hn
  rw [← hn] at h hl
  clear hn
  obtain ⟨o, c, rfl⟩ := own_len h
  have H0 : Hid (w.ownsRow base 3 1 (.slice o n c) n (ints ls)) := h
  have HF := Lib.hid (fun (h0 : 0 < n) => own_some h h0)
  clear h
  go_enter Tryz.func84, Tryz.ntmps84
  go_wp2
  go_loopw [2] (fun s2 wr => ∃ (k : Nat) (L : List Int), k ≤ n ∧ s2 = .int .i64 k ∧ Hid (L.length = n) ∧ Hid (wr.ownsRow base 3 1 (.slice o n c) n (ints L)) ∧ Hid (w.grownBy wr (Value.slice o n c).ownBlock)) (fun s2 _ => n - (intOf s2).toNat)
  case atStart => exact ⟨0, ls, Nat.zero_le _, rfl, HLN.out.symm, H0.out, World.grownBy.refl _ _⟩
  case round =>
    obtain ⟨k, L, hk, rfl, HL, HO, HG⟩ := hrel
    by_cases hlt : k < n
    · obtain ⟨g, rfl⟩ := HF.out (by omega)
      have kc : wr.cell? ⟨g, k, none⟩ = some (.int .i64 (L.getD k 0)) := by
        have h1 := HO.out
        rw [← HL.out] at h1
        exact own_cell h1 (by have := HL.out; omega)
      have kf := own_frozen HO.out k
      generalize L.getD k 0 = x at kc
      go_wp2
      refine ⟨⟨k + 1, L.set k (-99), by omega, by go_num, by have := HL.out; simpa [Hid] using this, own_put2 HO.out HL.out hlt _, grown_put HG.out _⟩, by simp [intOf]; omega⟩
    · go_wp2_with (at_builtin; refine wpList_append_own _ rfl _ _ 23 rfl base 3 i0 (.int .i64 0) 1 8 Tryz.underlying23 hi0 hz0 hz1 hz2 rfl (by decide) _ n (ints L) rfl (HO.out.alloc _) ⟨wr.heap.size, 0, none⟩ 1 1 [.int .i64 5] rfl rfl ?c1 ?c2 ?c3 ?c4 ?c5 ?_)
      case c1 => exact (cell_one_new _ _ _)
      case c2 => simp [Value.oneCell']
      case c3 => unfold maxLen; omega
      case c4 => omega
      case c5 => have := HG.out.size; simp; omega
      intro v' w9 _ hgrow _
      have h1 := HG.out
      have h2 : w.grownBy w9 (Value.slice o n c).ownBlock := ⟨hgrow.os.trans h1.os, hgrow.tape.trans h1.tape, hgrow.output.trans h1.output, Nat.le_trans h1.size (Nat.le_trans (by simp) hgrow.size), fun j hj hne => (hgrow.block j (by have := h1.size; simp; omega) hne).trans ((Below.heap_alloc _ _ _ (by have := h1.size; omega)).trans (h1.block j hj hne))⟩
      have H2 := Lib.hid h2
      clear h1 h2 hgrow
      go_wp2
      refine bodyPost_end (results_none rfl _ _ _) rfl ?_
      exact ⟨rfl, H2.out⟩




/-- A list, where there is no error, in memory. -/
theorem ov_ld {w : World} {base : Nat} {vs vt : Value} {sh st : List Int} (h : Ov w base vs vt sh st) : Ld w vs sh ∧ Ld w vt st := by
  obtain ⟨_, _, rfl, h1⟩ := Ld.of_owns h.1
  obtain ⟨_, _, rfl, h2⟩ := Ld.of_owns h.2.1
  exact ⟨h1, h2⟩




end Go.Proofs.YtpfcjajmfadcbaaGreat
namespace Go.Proofs.YtpfcjajmfadcbaaGreat
open Go.RowKit

set_option maxRecDepth 100000 in
set_option maxHeartbeats 4000000 in
theorem wordso_any (base : Nat) (v : Value) (ls : List Int) (w : World) (h : w.ownsRow base 2 1 v ls.length (ints ls)) (hb : base ≤ w.heap.size) (hl : ls.length ≤ 65536) :
    Calls Tryz.prog 85 #[v] w fun e w' => e = .returned (.tuple #[]) ∧ w.grownBy w' v.ownBlock := by
  obtain ⟨i0, hi0, hz0, hz1, hz2⟩ := info_parts infoW
  obtain ⟨n, hn⟩ : ∃ n, n = ls.length := ⟨_, rfl⟩
  have HLN := Lib.hid hn
  rw [← hn] at h hl
  clear hn
  obtain ⟨o, c, rfl⟩ := own_len h
  have H0 : Hid (w.ownsRow base 2 1 (.slice o n c) n (ints ls)) := h
  have HF := Lib.hid (fun (h0 : 0 < n) => own_some h h0)
  clear h
  go_enter Tryz.func85, Tryz.ntmps85
  go_wp2
  go_loopw [2] (fun s2 wr => ∃ (k : Nat) (L : List Int), k ≤ n ∧ s2 = .int .i64 k ∧ Hid (L.length = n) ∧ Hid (wr.ownsRow base 2 1 (.slice o n c) n (ints L)) ∧ Hid (w.grownBy wr (Value.slice o n c).ownBlock)) (fun s2 _ => n - (intOf s2).toNat)
  case atStart => exact ⟨0, ls, Nat.zero_le _, rfl, HLN.out.symm, H0.out, World.grownBy.refl _ _⟩
  case round =>
    obtain ⟨k, L, hk, rfl, HL, HO, HG⟩ := hrel
    by_cases hlt : k < n
    · obtain ⟨g, rfl⟩ := HF.out (by omega)
      have kc : wr.cell? ⟨g, k, none⟩ = some (.int .i64 (L.getD k 0)) := by
        have h1 := HO.out
        rw [← HL.out] at h1
        exact own_cell h1 (by have := HL.out; omega)
      have kf := own_frozen HO.out k
      generalize L.getD k 0 = x at kc
      go_wp2
      refine ⟨⟨k + 1, L.set k (-9999), by omega, by go_num, by have := HL.out; simpa [Hid] using this, own_put2 HO.out HL.out hlt _, grown_put HG.out _⟩, by simp [intOf]; omega⟩
    · go_wp2_with (at_builtin; refine wpList_append_own _ rfl _ _ 24 rfl base 2 i0 (.int .i64 0) 1 8 Tryz.underlying24 hi0 hz0 hz1 hz2 rfl (by decide) _ n (ints L) rfl (HO.out.alloc _) ⟨wr.heap.size, 0, none⟩ 1 1 [.int .i64 5] rfl rfl ?c1 ?c2 ?c3 ?c4 ?c5 ?_)
      case c1 => exact (cell_one_new _ _ _)
      case c2 => simp [Value.oneCell']
      case c3 => unfold maxLen; omega
      case c4 => omega
      case c5 => have := HG.out.size; simp; omega
      intro v' w9 _ hgrow _
      have h1 := HG.out
      have h2 : w.grownBy w9 (Value.slice o n c).ownBlock := ⟨hgrow.os.trans h1.os, hgrow.tape.trans h1.tape, hgrow.output.trans h1.output, Nat.le_trans h1.size (Nat.le_trans (by simp) hgrow.size), fun j hj hne => (hgrow.block j (by have := h1.size; simp; omega) hne).trans ((Below.heap_alloc _ _ _ (by have := h1.size; omega)).trans (h1.block j hj hne))⟩
      have H2 := Lib.hid h2
      clear h1 h2 hgrow
      go_wp2
      refine bodyPost_end (results_none rfl _ _ _) rfl ?_
      exact ⟨rfl, H2.out⟩

set_option maxRecDepth 100000 in
set_option maxHeartbeats 4000000 in
theorem copywords_any (v : Value) (ls : List Int) (w : World) (h : Ld w v ls) (ll : ls.length ≤ 17592186044000) :
    Calls Tryz.prog 42 #[v] w (SomeWd w ls) := by
  obtain ⟨i0, hi0, hz0, hz1, hz2⟩ := info_parts infoW
  obtain ⟨o, c, rfl, _, hx⟩ := h
  have HX := Lib.hid hx
  clear hx
  go_enter Tryz.func42, Tryz.ntmps42
  go_wp2
  go_loopw [3, 4] (fun s3 s4 wr => ∃ k : Nat, k ≤ ls.length ∧ s4 = .int .i64 k ∧ Hid (wr.ownsRow w.heap.size 2 1 s3 k (ints (ls.take k))) ∧ Below w.heap.size w wr) (fun _ s4 _ => ls.length - (intOf s4).toNat)
  case atStart => exact ⟨0, Nat.zero_le _, rfl, World.ownsRow_nil _ _ _ _, Below.refl _ _⟩
  case round =>
    obtain ⟨k, hk, rfl, HO, hB⟩ := hrel
    have hBs := hB.size
    by_cases hlt : k < ls.length
    · obtain ⟨b, f, rfl, hb, hc⟩ := HX.out k hlt
      have hc' : wr.cell? ⟨b, f + k, none⟩ = some (.int .i64 (ls.getD k 0)) := (hB.cell (p := ⟨b, f + k, none⟩) hb).trans hc
      have E : Hid (ints (ls.take (k + 1)) = ints (ls.take k) ++ [.int .i64 (ls.getD k 0)]) := by
        unfold Hid ints
        rw [List.take_succ_eq_append_getElem hlt, List.map_append]
        simp [List.getD, List.getElem?_eq_getElem hlt]
      clear hc
      generalize ls.getD k 0 = x at *
      go_wp2_with (at_builtin; refine wpList_append_own _ rfl _ _ 24 rfl w.heap.size 2 i0 (.int .i64 0) 1 8 Tryz.underlying24 hi0 hz0 hz1 hz2 rfl (by decide) _ k (ints (ls.take k)) rfl (HO.out.alloc _) ⟨wr.heap.size, 0, none⟩ 1 1 [.int .i64 x] rfl rfl ?c1 ?c2 ?c3 ?c4 ?c5 ?_)
      case c1 => exact (cell_one_new _ _ _)
      case c2 => simp [Value.oneCell']
      case c3 => unfold maxLen; omega
      case c4 => omega
      case c5 => simp; omega
      intro v' w9 hown1 hgrow _
      have hB9 : Below w.heap.size w w9 := (hB.alloc hBs _).grown hgrow (by simp; omega) (fun j hj => (HO.out.lt j hj).1)
      have h1 : Hid (w9.ownsRow w.heap.size 2 1 v' (k + 1) (ints (ls.take (k + 1)))) := by
        rw [Hid, E.out]; exact hown1
      clear hown1 hgrow
      go_wp2
      exact ⟨⟨k + 1, by omega, by go_num, h1, hB9⟩, by simp [intOf]; omega⟩
    · obtain rfl : k = ls.length := by omega
      have h1 := HO.out
      rw [List.take_length] at h1
      obtain ⟨o2, c2, rfl, hld⟩ := Ld.of_owns h1
      have H1 := Lib.hid (And.intro h1 hld)
      clear h1 hld HO
      go_wp2
      go_ret
      exact ⟨o2, c2, rfl, H1.out.1, H1.out.2, hB⟩

end Go.Proofs.YtpfcjajmfadcbaaGreat
namespace Go.Proofs.YtpfcjajmfadcbaaGreat
open Go.RowKit Go.Shelf

set_option maxRecDepth 100000 in
set_option maxHeartbeats 4000000 in
theorem eqtensor_same (va vb ua ub : Value) (a b : List Int) (w : World) (ha : Ld w va a) (hb : Ld w vb b) (hc : Ld w ua a) (hd : Ld w ub b) (l1 : a.length ≤ 17592186044416) (l2 : b.length ≤ 17592186044416) :
    Calls Tryz.prog 13 #[.agg #[va, vb], .agg #[ua, ub]] w fun e w' => e = .returned (.bool true) ∧ Below w.heap.size w w' := by
  have hB0 : Below w.heap.size w ((w.alloc (.cells #[va, vb] 26)).alloc (.cells #[ua, ub] 26)) := ((Below.refl _ _).alloc (Nat.le_refl _) _).alloc (by simp) _
  have X0 := Lib.hid ((Blk.new w 26 #[va, vb]).alloc (.cells #[ua, ub] 26))
  have X1 := Lib.hid (blk_new1 w (.cells #[va, vb] 26) 26 #[ua, ub])
  have C1 : Hid (∀ n, ((w.alloc (.cells #[va, vb] 26)).alloc (.cells #[ua, ub] 26)).heap.size = n → Calls Tryz.prog 39 #[va, ua] ((w.alloc (.cells #[va, vb] 26)).alloc (.cells #[ua, ub] 26)) fun e w' => e = .returned (.bool true) ∧ Below n ((w.alloc (.cells #[va, vb] 26)).alloc (.cells #[ua, ub] 26)) w') := fun n hn => by
    subst hn
    have := eqn_any va ua a a _ (ha.below hB0) (hc.below hB0) l1 l1
    rwa [show decide (a = a) = true by simp] at this
  have C2 : Hid (∀ W, Below w.heap.size w W → Calls Tryz.prog 40 #[vb, ub] W fun e w' => e = .returned (.bool true) ∧ Below W.heap.size W w') := fun W hW => by
    have := eqw_any vb ub b b _ (hb.below hW) (hd.below hW) l2 l2
    rwa [show decide (b = b) = true by simp] at this
  replace C1 := Lib.hid (C1.out (w.heap.size + 2) (by simp))
  obtain ⟨o1, n1, rfl, _, _⟩ := ha
  obtain ⟨o2, n2, rfl, _, _⟩ := hb
  obtain ⟨o3, n3, rfl, _, _⟩ := hc
  obtain ⟨o4, n4, rfl, _, _⟩ := hd
  have HB0 := Lib.hid hB0
  clear hB0
  go_enter Tryz.func13, Tryz.ntmps13
  go_wp2_with (first
    | (go_at_call 39; (with_reducible refine C1.out.mono ?_); rintro e w2 ⟨rfl, hb2⟩; have b2 := HB0.out.trans (hb2.mono (by omega)); have Z0 := Lib.hid (X0.out.below hb2 (by omega)); have Z1 := Lib.hid (X1.out.below hb2 (by omega)); obtain ⟨c0, c1, _⟩ := blk2 Z0.out; obtain ⟨d0, d1, _⟩ := blk2 Z1.out; clear hb2)
    | (go_at_call 40; (with_reducible refine (C2.out _ b2).mono ?_); rintro e w3 ⟨rfl, hb3⟩; have b3 := b2.trans (hb3.mono b2.size); clear hb3))
  go_ret
  exact ⟨rfl, b3⟩

set_option maxRecDepth 100000 in
set_option maxHeartbeats 4000000 in
/-- Two own rows are spoilt. -/
theorem spoilt_any (base : Nat) (vs vd : Value) (sh ds : List Int) (w : World) (h1 : w.ownsRow base 3 1 vs sh.length (ints sh)) (h2 : w.ownsRow base 2 1 vd ds.length (ints ds)) (hb : base ≤ w.heap.size) (l1 : sh.length ≤ 65536) (l2 : ds.length ≤ 65536) :
    Calls Tryz.prog 50 #[.agg #[vs, vd]] w fun e w' => e = .returned (.tuple #[]) ∧ Below base w w' ∧ (∀ (b n : Nat) (v : Value) (xs : List Value) (e : TypeId), w.ownsRow b e 1 v n xs → (∀ g, v.ownBlock = some g → ¬ vs.ownBlock = some g) → (∀ g, v.ownBlock = some g → ¬ vd.ownBlock = some g) → w'.ownsRow b e 1 v n xs) := by
  have hap : ∀ g, vs.ownBlock = some g → ¬ vd.ownBlock = some g := fun g e1 e2 => by
    rcases h1.2 with ⟨rfl, _⟩ | ⟨g1, _, _, rfl, _, hh1, _⟩
    · simp [Value.ownBlock] at e1
    · rcases h2.2 with ⟨rfl, _⟩ | ⟨g2, _, _, rfl, _, hh2, _⟩
      · simp [Value.ownBlock] at e2
      · simp only [Value.ownBlock, Option.some.injEq] at e1 e2
        subst e1; subst e2
        have := hh1.symm.trans hh2
        simp at this
  have C1 := Lib.hid (numberso_any base vs sh (w.alloc (.cells #[vs, vd] 26)) (h1.alloc _) (by simp; omega) l1)
  have C2 := Lib.hid (fun (W : World) (hg : (w.alloc (.cells #[vs, vd] 26)).grownBy W vs.ownBlock) => wordso_any base vd ds W ((h2.alloc _).kept hg (by
    cases e : vd.ownBlock with
    | none => exact .inl rfl
    | some g => exact .inr (fun e2 => hap g (e2 ▸ rfl) e))) (Nat.le_trans (by simp; omega) hg.size) l2)
  have HX := Lib.hid (Blk.new w 26 #[vs, vd])
  have H1 := Lib.hid (And.intro h1 h2)
  clear h1 h2
  go_enter Tryz.func50, Tryz.ntmps50
  go_wp2_with (first | (go_at_call 84; (with_reducible refine C1.out.mono ?_); rintro e w2 ⟨rfl, hg2⟩; obtain ⟨c0, c1, _⟩ := blk2 (HX.out.kept hg2 (fun e => tens_not_row (H1.out.1.alloc _) HX.out (by decide) e.symm)); replace hg2 := Lib.hid hg2) | (go_at_call 85; (with_reducible refine (C2.out _ hg2.out).mono ?_); rintro e w3 ⟨rfl, hg3⟩; replace hg3 := Lib.hid hg3))
  refine bodyPost_end (results_none rfl _ _ _) rfl ?_
  refine ⟨rfl, ?_, fun b n v xs e hv n1 n2 => ?_⟩
  rotate_left
  · have k1 := (hv.alloc (.cells #[vs, vd] 26)).kept hg2.out (by
      cases ee : v.ownBlock with
      | none => exact .inl rfl
      | some g => exact .inr (fun e2 => n1 g ee e2.symm))
    exact k1.kept hg3.out (by
      cases ee : v.ownBlock with
      | none => exact .inl rfl
      | some g => exact .inr (fun e2 => n2 g ee e2.symm))
  have b1 : Below base w (w.alloc (.cells #[vs, vd] 26)) := (Below.refl _ _).alloc hb _
  have b2 := b1.grown hg2.out (by simp; omega) (fun k e => (H1.out.1.lt k e).1)
  exact b2.grown hg3.out (by have := b2.size; omega) (fun k e => (H1.out.2.lt k e).1)
end Go.Proofs.YtpfcjajmfadcbaaGreat
namespace Go.Proofs.YtpfcjajmfadcbaaGreat
open Go.RowKit Go.Shelf

set_option maxRecDepth 100000 in
set_option maxHeartbeats 8000000 in
theorem rmay8_any (vp vr : Value) (ts tds : List Int) (w : World) (hp : Ld w vp ts) (hr : Ld w vr tds) (lp : ts.length ≤ 1073741824) (lr : tds.length ≤ 17592186044416) :
    Calls Tryz.prog 8 #[.agg #[vp, vr]] w fun e w' => e = .returned (.bool (tnb ts tds)) ∧ Below w.heap.size w w' := by
  have B0 := Lib.hid ((Below.refl w.heap.size w).alloc (Nat.le_refl _) (.cells #[vp, vr] 26))
  have BD : Hid (Below w.heap.size w (w.alloc (.cells #[vp, vr] 26)).drew) := below_drw B0.out 1
  have KM := Lib.hid (fun (W : World) (hW : Below w.heap.size w W) => rmay_any vp ts W (hp.below hW) lp)
  have KD := Lib.hid (fun (W : World) (hW : Below w.heap.size w W) => words_any vr tds W (hr.below hW) (by omega))
  have KC := Lib.hid (fun (hm : may ts = true) (W : World) (hW : Below w.heap.size w W) => (rct_may hm ▸ rcount_any vp ts W (hp.below hW) (may_dms hm) lp : Calls Tryz.prog 20 #[vp] W fun e w' => e = .returned (.int .i64 (prod ts)) ∧ W = w'))
  obtain ⟨op, cp, rfl, _, _⟩ := hp
  obtain ⟨od, cd, rfl, _, _⟩ := hr
  obtain ⟨x0, x1, _⟩ := blk2 (show Blk (w.alloc (.cells #[.slice op ts.length cp, .slice od tds.length cd] 26)).drew w.heap.size 26 _ from Blk.new w _ _)
  cases hm : may ts with
  | false =>
    have E : Hid (tnb ts tds = false) := by unfold tnb; rw [hm]; exact Lib.hid (by simp)
    rw [hm] at KM
    clear hm KC
    go_enter Tryz.func8, Tryz.ntmps8
    go_wp2
    refine wp_region_held_drew (S := (fun W => W.cell? ⟨w.heap.size, 0, none⟩ = some (.slice op ts.length cp) ∧ W.cell? ⟨w.heap.size, 1, none⟩ = some (.slice od tds.length cd))) (by kernel_rfl) ?_ (fun hHeld => ?_)
    · exact ⟨x0, x1⟩
    have hHd := hHeld
    (refine wpAnyH_take (i := 0) (oi := ⟨some 3, _, _, _, _, _⟩) (v := ?v0a) rfl (by kernel_rfl) (by kernel_rfl) (by kernel_rfl) (fun _ _ _ h => h) (Or.inl ⟨by rfl, ?hy0a⟩) (by assumption) ?rest0a; (case hy0a => ((intro w hSw); (try dsimp only at hSw); go_simp; first | done | (with_reducible rfl) | (rw [b1]))))
    (try simp only [Act.put, List.setIfInBounds_toArray, List.set_cons_zero, List.set_cons_succ])
    (refine wpAnyH_take (i := 1) (oi := ⟨some 4, _, _, _, _, _⟩) (v := ?v1a) rfl (by kernel_rfl) (by kernel_rfl) (by kernel_rfl) (fun _ _ _ h => h) (Or.inl ⟨by rfl, ?hy1a⟩) (by assumption) ?rest1a; (case hy1a => ((intro w hSw); (try dsimp only at hSw); go_simp; first | done | (with_reducible rfl) | (rw [b1]))))
    (try simp only [Act.put, List.setIfInBounds_toArray, List.set_cons_zero, List.set_cons_succ])
    refine wpAnyH_ready (rs := [2]) (by kernel_rfl) (by simp) ?_
    refine AllReadyH.cons (o := ⟨some 5, _, _, _, _, _⟩) rfl (fun K hK => ?_) AllReadyH.nil
    go_simp
    (go_at_call 28; (with_reducible refine (KM.out _ BD.out).mono ?_); rintro e w' ⟨rfl, rfl⟩)
    refine hK.out _ _ ?_ (fun hHeld => ?_)
    · (try dsimp only)
      assumption
    clear hK K
    (try simp only [Act.put, List.setIfInBounds_toArray, List.set_cons_zero, List.set_cons_succ])
    (refine wpAnyH_take (i := 3) (oi := ⟨some 6, _, _, _, _, _⟩) (v := ?v3a) rfl (by kernel_rfl) (by kernel_rfl) (by kernel_rfl) (fun _ _ _ h => h) (Or.inl ⟨by rfl, ?hy3a⟩) (by assumption) ?rest3a; (case hy3a => ((intro w hSw); (try dsimp only at hSw); go_simp; first | done | (with_reducible rfl) | (rw [b1]))))
    (try simp only [Act.put, List.setIfInBounds_toArray, List.set_cons_zero, List.set_cons_succ])
    (refine wpAnyH_take (i := 4) (oi := ⟨some 7, _, _, _, _, _⟩) (v := _) rfl (by kernel_rfl) (by kernel_rfl) (by kernel_rfl) (fun _ _ _ h => h) (Or.inr ⟨by rfl, rfl⟩) (by assumption) ?_)
    (try simp only [Act.put, List.setIfInBounds_toArray, List.set_cons_zero, List.set_cons_succ])
    (refine wpAnyH_take (i := 5) (oi := ⟨some 8, _, _, _, _, _⟩) (v := _) rfl (by kernel_rfl) (by kernel_rfl) (by kernel_rfl) (fun _ _ _ h => h) (Or.inr ⟨by rfl, rfl⟩) (by assumption) ?_)
    (try simp only [Act.put, List.setIfInBounds_toArray, List.set_cons_zero, List.set_cons_succ])
    (refine wpAnyH_take (i := 6) (oi := ⟨some 9, _, _, _, _, _⟩) (v := _) rfl (by kernel_rfl) (by kernel_rfl) (by kernel_rfl) (fun _ _ _ h => h) (Or.inr ⟨by rfl, rfl⟩) (by assumption) ?_)
    (try simp only [Act.put, List.setIfInBounds_toArray, List.set_cons_zero, List.set_cons_succ])
    (refine wpAnyH_take (i := 7) (oi := ⟨some 10, _, _, _, _, _⟩) (v := _) rfl (by kernel_rfl) (by kernel_rfl) (by kernel_rfl) (fun _ _ _ h => h) (Or.inr ⟨by rfl, rfl⟩) (by assumption) ?_)
    (try simp only [Act.put, List.setIfInBounds_toArray, List.set_cons_zero, List.set_cons_succ])
    (refine wpAnyH_take (i := 8) (oi := ⟨some 11, _, _, _, _, _⟩) (v := _) rfl (by kernel_rfl) (by kernel_rfl) (by kernel_rfl) (fun _ _ _ h => h) (Or.inr ⟨by rfl, rfl⟩) (by assumption) ?_)
    (try simp only [Act.put, List.setIfInBounds_toArray, List.set_cons_zero, List.set_cons_succ])
    (refine wpAnyH_take (i := 9) (oi := ⟨some 12, _, _, _, _, _⟩) (v := _) rfl (by kernel_rfl) (by kernel_rfl) (by kernel_rfl) (fun _ _ _ h => h) (Or.inr ⟨by rfl, rfl⟩) (by assumption) ?_)
    (try simp only [Act.put, List.setIfInBounds_toArray, List.set_cons_zero, List.set_cons_succ])
    (refine wpAnyH_take (i := 10) (oi := ⟨some 13, _, _, _, _, _⟩) (v := _) rfl (by kernel_rfl) (by kernel_rfl) (by kernel_rfl) (fun _ _ _ h => h) (Or.inr ⟨by rfl, rfl⟩) (by assumption) ?_)
    (try simp only [Act.put, List.setIfInBounds_toArray, List.set_cons_zero, List.set_cons_succ])
    (refine wpAnyH_take (i := 11) (oi := ⟨some 14, _, _, _, _, _⟩) (v := ?v11a) rfl (by kernel_rfl) (by kernel_rfl) (by kernel_rfl) (fun _ _ _ h => h) (Or.inl ⟨by rfl, ?hy11a⟩) (by assumption) ?rest11a; (case hy11a => ((intro w hSw); (try dsimp only at hSw); go_simp; first | done | (with_reducible rfl) | (rw [b1]))))
    (try simp only [Act.put, List.setIfInBounds_toArray, List.set_cons_zero, List.set_cons_succ])
    (refine wpAnyH_take (i := 12) (oi := ⟨some 15, _, _, _, _, _⟩) (v := ?v12a) rfl (by kernel_rfl) (by kernel_rfl) (by kernel_rfl) (fun _ _ _ h => h) (Or.inl ⟨by rfl, ?hy12a⟩) (by assumption) ?rest12a; (case hy12a => ((intro w hSw); (try dsimp only at hSw); go_simp; first | done | (with_reducible rfl) | (rw [b1]))))
    (try simp only [Act.put, List.setIfInBounds_toArray, List.set_cons_zero, List.set_cons_succ])
    (refine wpAnyH_take (i := 13) (oi := ⟨some 16, _, _, _, _, _⟩) (v := _) rfl (by kernel_rfl) (by kernel_rfl) (by kernel_rfl) (fun _ _ _ h => h) (Or.inr ⟨by rfl, rfl⟩) (by assumption) ?_)
    (try simp only [Act.put, List.setIfInBounds_toArray, List.set_cons_zero, List.set_cons_succ])
    (refine wpAnyH_take (i := 14) (oi := ⟨some 17, _, _, _, _, _⟩) (v := _) rfl (by kernel_rfl) (by kernel_rfl) (by kernel_rfl) (fun _ _ _ h => h) (Or.inr ⟨by rfl, rfl⟩) (by assumption) ?_)
    (try simp only [Act.put, List.setIfInBounds_toArray, List.set_cons_zero, List.set_cons_succ])
    (refine wpAnyH_take (i := 15) (oi := ⟨some 18, _, _, _, _, _⟩) (v := _) rfl (by kernel_rfl) (by kernel_rfl) (by kernel_rfl) (fun _ _ _ h => h) (Or.inr ⟨by rfl, rfl⟩) (by assumption) ?_)
    (try simp only [Act.put, List.setIfInBounds_toArray, List.set_cons_zero, List.set_cons_succ])
    (refine wpAnyH_take (i := 16) (oi := ⟨some 19, _, _, _, _, _⟩) (v := ?v16a) rfl (by kernel_rfl) (by kernel_rfl) (by kernel_rfl) (fun _ _ _ h => h) (Or.inl ⟨by rfl, ?hy16a⟩) (by assumption) ?rest16a; (case hy16a => ((intro w hSw); (try dsimp only at hSw); go_simp; first | done | (with_reducible rfl) | (rw [b1]))))
    (try simp only [Act.put, List.setIfInBounds_toArray, List.set_cons_zero, List.set_cons_succ])
    (refine wpAnyH_take (i := 17) (oi := ⟨some 2, _, _, _, _, _⟩) (v := ?v17a) rfl (by kernel_rfl) (by kernel_rfl) (by kernel_rfl) (fun _ _ _ h => h) (Or.inl ⟨by rfl, ?hy17a⟩) (by assumption) ?rest17a; (case hy17a => ((intro w hSw); (try dsimp only at hSw); go_simp; first | done | (with_reducible rfl) | (rw [b1]))))
    (try simp only [Act.put, List.setIfInBounds_toArray, List.set_cons_zero, List.set_cons_succ])
    refine wpAnyH_done (by kernel_rfl) ?_ _
    go_wp2
    go_ret
    exact ⟨by rw [E.out]; rfl, BD.out⟩
  | true =>
    have KC2 := Lib.hid (KC.out hm)
    have E0 : Hid (tnb ts tds = (decide ((tds.length : Int) = prod ts) && wds tds)) := by unfold tnb; rw [hm]; exact Lib.hid (by simp)
    rw [hm] at KM
    clear hm KC
    generalize prod ts = n at *
    by_cases q : (tds.length : Int) = n
    · have b1 : ((tds.length : Int) == n) = true := by simpa using q
      have E : Hid (tnb ts tds = wds tds) := by rw [Hid, E0.out, decide_eq_true q, Bool.true_and]
      clear q E0
      go_enter Tryz.func8, Tryz.ntmps8
      go_wp2
      refine wp_region_held_drew (S := (fun W => W.cell? ⟨w.heap.size, 0, none⟩ = some (.slice op ts.length cp) ∧ W.cell? ⟨w.heap.size, 1, none⟩ = some (.slice od tds.length cd))) (by kernel_rfl) ?_ (fun hHeld => ?_)
      · exact ⟨x0, x1⟩
      have hHd := hHeld
      (refine wpAnyH_take (i := 0) (oi := ⟨some 3, _, _, _, _, _⟩) (v := ?v0b) rfl (by kernel_rfl) (by kernel_rfl) (by kernel_rfl) (fun _ _ _ h => h) (Or.inl ⟨by rfl, ?hy0b⟩) (by assumption) ?rest0b; (case hy0b => ((intro w hSw); (try dsimp only at hSw); go_simp; first | done | (with_reducible rfl) | (rw [b1]))))
      (try simp only [Act.put, List.setIfInBounds_toArray, List.set_cons_zero, List.set_cons_succ])
      (refine wpAnyH_take (i := 1) (oi := ⟨some 4, _, _, _, _, _⟩) (v := ?v1b) rfl (by kernel_rfl) (by kernel_rfl) (by kernel_rfl) (fun _ _ _ h => h) (Or.inl ⟨by rfl, ?hy1b⟩) (by assumption) ?rest1b; (case hy1b => ((intro w hSw); (try dsimp only at hSw); go_simp; first | done | (with_reducible rfl) | (rw [b1]))))
      (try simp only [Act.put, List.setIfInBounds_toArray, List.set_cons_zero, List.set_cons_succ])
      refine wpAnyH_ready (rs := [2]) (by kernel_rfl) (by simp) ?_
      refine AllReadyH.cons (o := ⟨some 5, _, _, _, _, _⟩) rfl (fun K hK => ?_) AllReadyH.nil
      go_simp
      (go_at_call 28; (with_reducible refine (KM.out _ BD.out).mono ?_); rintro e w' ⟨rfl, rfl⟩)
      refine hK.out _ _ ?_ (fun hHeld => ?_)
      · (try dsimp only)
        assumption
      clear hK K
      (try simp only [Act.put, List.setIfInBounds_toArray, List.set_cons_zero, List.set_cons_succ])
      (refine wpAnyH_take (i := 3) (oi := ⟨some 6, _, _, _, _, _⟩) (v := ?v3b) rfl (by kernel_rfl) (by kernel_rfl) (by kernel_rfl) (fun _ _ _ h => h) (Or.inl ⟨by rfl, ?hy3b⟩) (by assumption) ?rest3b; (case hy3b => ((intro w hSw); (try dsimp only at hSw); go_simp; first | done | (with_reducible rfl) | (rw [b1]))))
      (try simp only [Act.put, List.setIfInBounds_toArray, List.set_cons_zero, List.set_cons_succ])
      (refine wpAnyH_take (i := 4) (oi := ⟨some 7, _, _, _, _, _⟩) (v := ?v4b) rfl (by kernel_rfl) (by kernel_rfl) (by kernel_rfl) (fun _ _ _ h => h) (Or.inl ⟨by rfl, ?hy4b⟩) (by assumption) ?rest4b; (case hy4b => ((intro w hSw); (try dsimp only at hSw); go_simp; first | done | (with_reducible rfl) | (rw [b1]))))
      (try simp only [Act.put, List.setIfInBounds_toArray, List.set_cons_zero, List.set_cons_succ])
      (refine wpAnyH_take (i := 5) (oi := ⟨some 8, _, _, _, _, _⟩) (v := ?v5b) rfl (by kernel_rfl) (by kernel_rfl) (by kernel_rfl) (fun _ _ _ h => h) (Or.inl ⟨by rfl, ?hy5b⟩) (by assumption) ?rest5b; (case hy5b => ((intro w hSw); (try dsimp only at hSw); go_simp; first | done | (with_reducible rfl) | (rw [b1]))))
      (try simp only [Act.put, List.setIfInBounds_toArray, List.set_cons_zero, List.set_cons_succ])
      (refine wpAnyH_take (i := 6) (oi := ⟨some 9, _, _, _, _, _⟩) (v := ?v6b) rfl (by kernel_rfl) (by kernel_rfl) (by kernel_rfl) (fun _ _ _ h => h) (Or.inl ⟨by rfl, ?hy6b⟩) (by assumption) ?rest6b; (case hy6b => ((intro w hSw); (try dsimp only at hSw); go_simp; first | done | (with_reducible rfl) | (rw [b1]))))
      (try simp only [Act.put, List.setIfInBounds_toArray, List.set_cons_zero, List.set_cons_succ])
      (refine wpAnyH_take (i := 7) (oi := ⟨some 10, _, _, _, _, _⟩) (v := ?v7b) rfl (by kernel_rfl) (by kernel_rfl) (by kernel_rfl) (fun _ _ _ h => h) (Or.inl ⟨by rfl, ?hy7b⟩) (by assumption) ?rest7b; (case hy7b => ((intro w hSw); (try dsimp only at hSw); go_simp; first | done | (with_reducible rfl) | (rw [b1]))))
      (try simp only [Act.put, List.setIfInBounds_toArray, List.set_cons_zero, List.set_cons_succ])
      (refine wpAnyH_take (i := 8) (oi := ⟨some 11, _, _, _, _, _⟩) (v := ?v8b) rfl (by kernel_rfl) (by kernel_rfl) (by kernel_rfl) (fun _ _ _ h => h) (Or.inl ⟨by rfl, ?hy8b⟩) (by assumption) ?rest8b; (case hy8b => ((intro w hSw); (try dsimp only at hSw); go_simp; first | done | (with_reducible rfl) | (rw [b1]))))
      (try simp only [Act.put, List.setIfInBounds_toArray, List.set_cons_zero, List.set_cons_succ])
      refine wpAnyH_ready (rs := [9]) (by kernel_rfl) (by simp) ?_
      refine AllReadyH.cons (o := ⟨some 12, _, _, _, _, _⟩) rfl (fun K hK => ?_) AllReadyH.nil
      go_simp
      (go_at_call 20; (with_reducible refine (KC2.out _ BD.out).mono ?_); rintro e w' ⟨rfl, rfl⟩)
      refine hK.out _ _ ?_ (fun hHeld => ?_)
      · (try dsimp only)
        assumption
      clear hK K
      (try simp only [Act.put, List.setIfInBounds_toArray, List.set_cons_zero, List.set_cons_succ])
      (refine wpAnyH_take (i := 10) (oi := ⟨some 13, _, _, _, _, _⟩) (v := .bool true) rfl (by kernel_rfl) (by kernel_rfl) (by kernel_rfl) (fun _ _ _ h => h) (Or.inl ⟨by rfl, ?hy10b⟩) (by assumption) ?rest10b; (case hy10b => ((intro w hSw); (try dsimp only at hSw); go_simp; first | done | (with_reducible rfl) | (rw [b1]))))
      (try simp only [Act.put, List.setIfInBounds_toArray, List.set_cons_zero, List.set_cons_succ])
      (refine wpAnyH_take (i := 11) (oi := ⟨some 14, _, _, _, _, _⟩) (v := ?v11b) rfl (by kernel_rfl) (by kernel_rfl) (by kernel_rfl) (fun _ _ _ h => h) (Or.inl ⟨by rfl, ?hy11b⟩) (by assumption) ?rest11b; (case hy11b => ((intro w hSw); (try dsimp only at hSw); go_simp; first | done | (with_reducible rfl) | (rw [b1]))))
      (try simp only [Act.put, List.setIfInBounds_toArray, List.set_cons_zero, List.set_cons_succ])
      (refine wpAnyH_take (i := 12) (oi := ⟨some 15, _, _, _, _, _⟩) (v := ?v12b) rfl (by kernel_rfl) (by kernel_rfl) (by kernel_rfl) (fun _ _ _ h => h) (Or.inl ⟨by rfl, ?hy12b⟩) (by assumption) ?rest12b; (case hy12b => ((intro w hSw); (try dsimp only at hSw); go_simp; first | done | (with_reducible rfl) | (rw [b1]))))
      (try simp only [Act.put, List.setIfInBounds_toArray, List.set_cons_zero, List.set_cons_succ])
      (refine wpAnyH_take (i := 13) (oi := ⟨some 16, _, _, _, _, _⟩) (v := ?v13b) rfl (by kernel_rfl) (by kernel_rfl) (by kernel_rfl) (fun _ _ _ h => h) (Or.inl ⟨by rfl, ?hy13b⟩) (by assumption) ?rest13b; (case hy13b => ((intro w hSw); (try dsimp only at hSw); go_simp; first | done | (with_reducible rfl) | (rw [b1]))))
      (try simp only [Act.put, List.setIfInBounds_toArray, List.set_cons_zero, List.set_cons_succ])
      (refine wpAnyH_take (i := 14) (oi := ⟨some 17, _, _, _, _, _⟩) (v := ?v14b) rfl (by kernel_rfl) (by kernel_rfl) (by kernel_rfl) (fun _ _ _ h => h) (Or.inl ⟨by rfl, ?hy14b⟩) (by assumption) ?rest14b; (case hy14b => ((intro w hSw); (try dsimp only at hSw); go_simp; first | done | (with_reducible rfl) | (rw [b1]))))
      (try simp only [Act.put, List.setIfInBounds_toArray, List.set_cons_zero, List.set_cons_succ])
      refine wpAnyH_ready (rs := [15]) (by kernel_rfl) (by simp) ?_
      refine AllReadyH.cons (o := ⟨some 18, _, _, _, _, _⟩) rfl (fun K hK => ?_) AllReadyH.nil
      go_simp
      (go_at_call 29; (with_reducible refine (KD.out _ BD.out).mono ?_); rintro e w' ⟨rfl, rfl⟩)
      refine hK.out _ _ ?_ (fun hHeld => ?_)
      · (try dsimp only)
        assumption
      clear hK K
      (try simp only [Act.put, List.setIfInBounds_toArray, List.set_cons_zero, List.set_cons_succ])
      (refine wpAnyH_take (i := 16) (oi := ⟨some 19, _, _, _, _, _⟩) (v := ?v16b) rfl (by kernel_rfl) (by kernel_rfl) (by kernel_rfl) (fun _ _ _ h => h) (Or.inl ⟨by rfl, ?hy16b⟩) (by assumption) ?rest16b; (case hy16b => ((intro w hSw); (try dsimp only at hSw); go_simp; first | done | (with_reducible rfl) | (rw [b1]))))
      (try simp only [Act.put, List.setIfInBounds_toArray, List.set_cons_zero, List.set_cons_succ])
      (refine wpAnyH_take (i := 17) (oi := ⟨some 2, _, _, _, _, _⟩) (v := ?v17b) rfl (by kernel_rfl) (by kernel_rfl) (by kernel_rfl) (fun _ _ _ h => h) (Or.inl ⟨by rfl, ?hy17b⟩) (by assumption) ?rest17b; (case hy17b => ((intro w hSw); (try dsimp only at hSw); go_simp; first | done | (with_reducible rfl) | (rw [b1]))))
      (try simp only [Act.put, List.setIfInBounds_toArray, List.set_cons_zero, List.set_cons_succ])
      refine wpAnyH_done (by kernel_rfl) ?_ _
      go_wp2
      go_ret
      exact ⟨by rw [E.out]; rfl, BD.out⟩
    · have b1 : ((tds.length : Int) == n) = false := by simpa using q
      have E : Hid (tnb ts tds = false) := by rw [Hid, E0.out, decide_eq_false q, Bool.false_and]
      clear q E0
      go_enter Tryz.func8, Tryz.ntmps8
      go_wp2
      refine wp_region_held_drew (S := (fun W => W.cell? ⟨w.heap.size, 0, none⟩ = some (.slice op ts.length cp) ∧ W.cell? ⟨w.heap.size, 1, none⟩ = some (.slice od tds.length cd))) (by kernel_rfl) ?_ (fun hHeld => ?_)
      · exact ⟨x0, x1⟩
      have hHd := hHeld
      (refine wpAnyH_take (i := 0) (oi := ⟨some 3, _, _, _, _, _⟩) (v := ?v0c) rfl (by kernel_rfl) (by kernel_rfl) (by kernel_rfl) (fun _ _ _ h => h) (Or.inl ⟨by rfl, ?hy0c⟩) (by assumption) ?rest0c; (case hy0c => ((intro w hSw); (try dsimp only at hSw); go_simp; first | done | (with_reducible rfl) | (rw [b1]))))
      (try simp only [Act.put, List.setIfInBounds_toArray, List.set_cons_zero, List.set_cons_succ])
      (refine wpAnyH_take (i := 1) (oi := ⟨some 4, _, _, _, _, _⟩) (v := ?v1c) rfl (by kernel_rfl) (by kernel_rfl) (by kernel_rfl) (fun _ _ _ h => h) (Or.inl ⟨by rfl, ?hy1c⟩) (by assumption) ?rest1c; (case hy1c => ((intro w hSw); (try dsimp only at hSw); go_simp; first | done | (with_reducible rfl) | (rw [b1]))))
      (try simp only [Act.put, List.setIfInBounds_toArray, List.set_cons_zero, List.set_cons_succ])
      refine wpAnyH_ready (rs := [2]) (by kernel_rfl) (by simp) ?_
      refine AllReadyH.cons (o := ⟨some 5, _, _, _, _, _⟩) rfl (fun K hK => ?_) AllReadyH.nil
      go_simp
      (go_at_call 28; (with_reducible refine (KM.out _ BD.out).mono ?_); rintro e w' ⟨rfl, rfl⟩)
      refine hK.out _ _ ?_ (fun hHeld => ?_)
      · (try dsimp only)
        assumption
      clear hK K
      (try simp only [Act.put, List.setIfInBounds_toArray, List.set_cons_zero, List.set_cons_succ])
      (refine wpAnyH_take (i := 3) (oi := ⟨some 6, _, _, _, _, _⟩) (v := ?v3c) rfl (by kernel_rfl) (by kernel_rfl) (by kernel_rfl) (fun _ _ _ h => h) (Or.inl ⟨by rfl, ?hy3c⟩) (by assumption) ?rest3c; (case hy3c => ((intro w hSw); (try dsimp only at hSw); go_simp; first | done | (with_reducible rfl) | (rw [b1]))))
      (try simp only [Act.put, List.setIfInBounds_toArray, List.set_cons_zero, List.set_cons_succ])
      (refine wpAnyH_take (i := 4) (oi := ⟨some 7, _, _, _, _, _⟩) (v := ?v4c) rfl (by kernel_rfl) (by kernel_rfl) (by kernel_rfl) (fun _ _ _ h => h) (Or.inl ⟨by rfl, ?hy4c⟩) (by assumption) ?rest4c; (case hy4c => ((intro w hSw); (try dsimp only at hSw); go_simp; first | done | (with_reducible rfl) | (rw [b1]))))
      (try simp only [Act.put, List.setIfInBounds_toArray, List.set_cons_zero, List.set_cons_succ])
      (refine wpAnyH_take (i := 5) (oi := ⟨some 8, _, _, _, _, _⟩) (v := ?v5c) rfl (by kernel_rfl) (by kernel_rfl) (by kernel_rfl) (fun _ _ _ h => h) (Or.inl ⟨by rfl, ?hy5c⟩) (by assumption) ?rest5c; (case hy5c => ((intro w hSw); (try dsimp only at hSw); go_simp; first | done | (with_reducible rfl) | (rw [b1]))))
      (try simp only [Act.put, List.setIfInBounds_toArray, List.set_cons_zero, List.set_cons_succ])
      (refine wpAnyH_take (i := 6) (oi := ⟨some 9, _, _, _, _, _⟩) (v := ?v6c) rfl (by kernel_rfl) (by kernel_rfl) (by kernel_rfl) (fun _ _ _ h => h) (Or.inl ⟨by rfl, ?hy6c⟩) (by assumption) ?rest6c; (case hy6c => ((intro w hSw); (try dsimp only at hSw); go_simp; first | done | (with_reducible rfl) | (rw [b1]))))
      (try simp only [Act.put, List.setIfInBounds_toArray, List.set_cons_zero, List.set_cons_succ])
      (refine wpAnyH_take (i := 7) (oi := ⟨some 10, _, _, _, _, _⟩) (v := ?v7c) rfl (by kernel_rfl) (by kernel_rfl) (by kernel_rfl) (fun _ _ _ h => h) (Or.inl ⟨by rfl, ?hy7c⟩) (by assumption) ?rest7c; (case hy7c => ((intro w hSw); (try dsimp only at hSw); go_simp; first | done | (with_reducible rfl) | (rw [b1]))))
      (try simp only [Act.put, List.setIfInBounds_toArray, List.set_cons_zero, List.set_cons_succ])
      (refine wpAnyH_take (i := 8) (oi := ⟨some 11, _, _, _, _, _⟩) (v := ?v8c) rfl (by kernel_rfl) (by kernel_rfl) (by kernel_rfl) (fun _ _ _ h => h) (Or.inl ⟨by rfl, ?hy8c⟩) (by assumption) ?rest8c; (case hy8c => ((intro w hSw); (try dsimp only at hSw); go_simp; first | done | (with_reducible rfl) | (rw [b1]))))
      (try simp only [Act.put, List.setIfInBounds_toArray, List.set_cons_zero, List.set_cons_succ])
      refine wpAnyH_ready (rs := [9]) (by kernel_rfl) (by simp) ?_
      refine AllReadyH.cons (o := ⟨some 12, _, _, _, _, _⟩) rfl (fun K hK => ?_) AllReadyH.nil
      go_simp
      (go_at_call 20; (with_reducible refine (KC2.out _ BD.out).mono ?_); rintro e w' ⟨rfl, rfl⟩)
      refine hK.out _ _ ?_ (fun hHeld => ?_)
      · (try dsimp only)
        assumption
      clear hK K
      (try simp only [Act.put, List.setIfInBounds_toArray, List.set_cons_zero, List.set_cons_succ])
      (refine wpAnyH_take (i := 10) (oi := ⟨some 13, _, _, _, _, _⟩) (v := .bool false) rfl (by kernel_rfl) (by kernel_rfl) (by kernel_rfl) (fun _ _ _ h => h) (Or.inl ⟨by rfl, ?hy10c⟩) (by assumption) ?rest10c; (case hy10c => ((intro w hSw); (try dsimp only at hSw); go_simp; first | done | (with_reducible rfl) | (rw [b1]))))
      (try simp only [Act.put, List.setIfInBounds_toArray, List.set_cons_zero, List.set_cons_succ])
      (refine wpAnyH_take (i := 11) (oi := ⟨some 14, _, _, _, _, _⟩) (v := ?v11c) rfl (by kernel_rfl) (by kernel_rfl) (by kernel_rfl) (fun _ _ _ h => h) (Or.inl ⟨by rfl, ?hy11c⟩) (by assumption) ?rest11c; (case hy11c => ((intro w hSw); (try dsimp only at hSw); go_simp; first | done | (with_reducible rfl) | (rw [b1]))))
      (try simp only [Act.put, List.setIfInBounds_toArray, List.set_cons_zero, List.set_cons_succ])
      (refine wpAnyH_take (i := 12) (oi := ⟨some 15, _, _, _, _, _⟩) (v := ?v12c) rfl (by kernel_rfl) (by kernel_rfl) (by kernel_rfl) (fun _ _ _ h => h) (Or.inl ⟨by rfl, ?hy12c⟩) (by assumption) ?rest12c; (case hy12c => ((intro w hSw); (try dsimp only at hSw); go_simp; first | done | (with_reducible rfl) | (rw [b1]))))
      (try simp only [Act.put, List.setIfInBounds_toArray, List.set_cons_zero, List.set_cons_succ])
      (refine wpAnyH_take (i := 13) (oi := ⟨some 16, _, _, _, _, _⟩) (v := _) rfl (by kernel_rfl) (by kernel_rfl) (by kernel_rfl) (fun _ _ _ h => h) (Or.inr ⟨by rfl, rfl⟩) (by assumption) ?_)
      (try simp only [Act.put, List.setIfInBounds_toArray, List.set_cons_zero, List.set_cons_succ])
      (refine wpAnyH_take (i := 14) (oi := ⟨some 17, _, _, _, _, _⟩) (v := _) rfl (by kernel_rfl) (by kernel_rfl) (by kernel_rfl) (fun _ _ _ h => h) (Or.inr ⟨by rfl, rfl⟩) (by assumption) ?_)
      (try simp only [Act.put, List.setIfInBounds_toArray, List.set_cons_zero, List.set_cons_succ])
      (refine wpAnyH_take (i := 15) (oi := ⟨some 18, _, _, _, _, _⟩) (v := _) rfl (by kernel_rfl) (by kernel_rfl) (by kernel_rfl) (fun _ _ _ h => h) (Or.inr ⟨by rfl, rfl⟩) (by assumption) ?_)
      (try simp only [Act.put, List.setIfInBounds_toArray, List.set_cons_zero, List.set_cons_succ])
      (refine wpAnyH_take (i := 16) (oi := ⟨some 19, _, _, _, _, _⟩) (v := ?v16c) rfl (by kernel_rfl) (by kernel_rfl) (by kernel_rfl) (fun _ _ _ h => h) (Or.inl ⟨by rfl, ?hy16c⟩) (by assumption) ?rest16c; (case hy16c => ((intro w hSw); (try dsimp only at hSw); go_simp; first | done | (with_reducible rfl) | (rw [b1]))))
      (try simp only [Act.put, List.setIfInBounds_toArray, List.set_cons_zero, List.set_cons_succ])
      (refine wpAnyH_take (i := 17) (oi := ⟨some 2, _, _, _, _, _⟩) (v := ?v17c) rfl (by kernel_rfl) (by kernel_rfl) (by kernel_rfl) (fun _ _ _ h => h) (Or.inl ⟨by rfl, ?hy17c⟩) (by assumption) ?rest17c; (case hy17c => ((intro w hSw); (try dsimp only at hSw); go_simp; first | done | (with_reducible rfl) | (rw [b1]))))
      (try simp only [Act.put, List.setIfInBounds_toArray, List.set_cons_zero, List.set_cons_succ])
      refine wpAnyH_done (by kernel_rfl) ?_ _
      go_wp2
      go_ret
      exact ⟨by rw [E.out]; rfl, BD.out⟩
end Go.Proofs.YtpfcjajmfadcbaaGreat
