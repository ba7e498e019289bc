/-
  ReduceTurned's loop.
-/
import Derived.BigQuiet
import Derived.Test.YtlfijpcpfepfbaaM01
import Derived.Test.YtlfijpcpfepfbaaM15
import Derived.Test.YtlfijpcpfepfbaaM16
import Derived.Test.YtlfijpcpfepfbaaM20
namespace Go.Proofs.Ytlfijpcpfepfbaa
open Go.RowKit Go.Shelf

theorem blk4r {W : World} {b : Nat} {v0 v1 v2 v3 : Value} (h : Blk W b 28 #[v0, v1, v2, v3]) : W.cell? ⟨b, 0, none⟩ = some v0 ∧ W.cell? ⟨b, 1, none⟩ = some v1 ∧ W.cell? ⟨b, 2, none⟩ = some v2 ∧ W.cell? ⟨b, 3, none⟩ = some v3 := ⟨h.cell 0, h.cell 1, h.cell 2, h.cell 3⟩
theorem Ld.setd2 {W : World} {v : Value} {ls : List Int} {b : Nat} {x y : Value} (h : Ld W v ls) (hb : Blk W b 26 #[.slice none 0 0, .slice none 0 0]) : Ld ((W.setCell ⟨b, 0, none⟩ x).setCell ⟨b, 1, none⟩ y) v ls := by
  obtain ⟨o, c, rfl, h1, h2⟩ := h
  refine ⟨o, c, rfl, h1, fun k hk => ?_⟩
  obtain ⟨g, f, e1, h3, h4⟩ := h2 k hk
  have hne : ¬ g = b := by
    rintro rfl
    rcases Nat.lt_or_ge (f + k) 2 with h | h
    · rcases (show f + k = 0 ∨ f + k = 1 by omega) with e | e
      · rw [e, hb.cell 0] at h4; simp at h4
      · rw [e, hb.cell 1] at h4; simp at h4
    · rw [World.cell?, show W.heap[g]? = _ from hb] at h4
      simp at h4
      rw [List.getElem?_eq_none (by simpa using h)] at h4
      cases h4
  refine ⟨g, f, e1, by simpa using h3, ?_⟩
  rw [← h4]
  simp only [World.cell?]
  rw [Below.heap_setCell _ _ _ _ hne, Below.heap_setCell _ _ _ _ hne]
/-- A view that the reference tells, its lists' lengths by name. -/
def RvN (W : World) (sh st : List Int) (n m : Nat) (e : Ending) (w' : World) : Prop := ∃ os cs ot ct, e = .returned (.agg #[.slice os n cs, .slice ot m ct, .int .i64 0]) ∧ Ld w' (.slice os n cs) sh ∧ Ld w' (.slice ot m ct) st ∧ Below W.heap.size W w'
theorem rvN_of {W : World} {sh st : List Int} {n m : Nat} (hn : n = sh.length) (hm : m = st.length) {e : Ending} {w' : World} (h : SomeW W sh st 0 e w') : RvN W sh st n m e w' := by
  subst hn hm
  obtain ⟨os, cs, ot, ct, rfl, ho, hb⟩ := h
  exact ⟨os, cs, ot, ct, rfl, (ov_ld ho).1, (ov_ld ho).2, hb⟩
/-- A tensor that the reference tells. -/
def RtN (W : World) (sh ds : List Int) (e : Ending) (w' : World) : Prop := ∃ os ns cs od nd cd, e = .returned (.agg #[.slice os ns cs, .slice od nd cd]) ∧ Ld w' (.slice os ns cs) sh ∧ Ld w' (.slice od nd cd) ds ∧ Below W.heap.size W w'
/-- A tensor that is told, with an error. -/
def TyN (W : World) (E : Int) (S D : List Int) (e : Ending) (w' : World) : Prop := ∃ os ns cs od nd cd, e = .returned (.tuple #[.agg #[.slice os ns cs, .slice od nd cd], .int .i64 E]) ∧ Ld w' (.slice os ns cs) S ∧ Ld w' (.slice od nd cd) D ∧ Below W.heap.size W w'
theorem tyN_of {W w' : World} {E : Int} {S D : List Int} {e : Ending} (h : Ty W E S D e w') : TyN W E S D e w' := by
  obtain ⟨o, c, o2, c2, rfl, h1, h2, h3⟩ := h
  exact ⟨o, _, c, o2, _, c2, rfl, h1, h2, h3⟩
/-- Greatest words and picks. -/
def TmN (W : World) (S D P : List Int) (e : Ending) (w' : World) : Prop := ∃ os ns cs od nd cd op np cp, e = .returned (.tuple #[.agg #[.slice os ns cs, .slice od nd cd], .slice op np cp, .int .i64 0]) ∧ Ld w' (.slice os ns cs) S ∧ Ld w' (.slice od nd cd) D ∧ Ld w' (.slice op np cp) P ∧ Below W.heap.size W w'
theorem tmN_of {W w' : World} {S D P : List Int} {e : Ending} (h : SomeM W S D P e w') : TmN W S D P e w' := by
  obtain ⟨os, cs, gd, gp, rfl, h1, h2, h3⟩ := h
  exact ⟨os, _, cs, _, _, _, _, _, _, rfl, own_ld h1.out rfl, Ld.of_blk h2.out.1 (Nat.le_refl _), Ld.of_blk h2.out.2.1 (Nat.le_refl _), h3⟩
theorem sumN (vA vX v : Value) (sh ds ax : List Int) (M : Nat) (W : World) (hA : Ld W vA sh) (hX : Ld W vX ds) (hv : Ld W v ax) (ta : tnb sh ds = true) (hx : axb (sh.length : Nat) ax (-1) = true) (hM : (M : Int) = prod (lf sh ax 0)) :
    Calls Try.prog 16 #[.agg #[vA, vX], v] W (TyN W (rde sh ds ax 1 M) (unl (rde sh ds ax 1 M) (lf sh ax 0)) (unl (rde sh ds ax 1 M) (rdv sh ds ax 1 M))) := by
  have hl := axb_len hx (by omega)
  have l4 := may_len (tnb_parts ta).1
  exact (sum_ok vA vX v sh ds ax M W hA hX hv (by omega) ta hx hM).mono (fun _ _ hh => tyN_of (ty_of hh))
theorem meanN (vA vX v : Value) (sh ds ax : List Int) (M : Nat) (W : World) (hA : Ld W vA sh) (hX : Ld W vX ds) (hv : Ld W v ax) (ta : tnb sh ds = true) (hx : axb (sh.length : Nat) ax (-1) = true) (hM : (M : Int) = prod (lf sh ax 0)) :
    Calls Try.prog 22 #[.agg #[vA, vX], v] W (TyN W (rde sh ds ax (ds.length / M : Nat) M) (unl (rde sh ds ax (ds.length / M : Nat) M) (lf sh ax 0)) (unl (rde sh ds ax (ds.length / M : Nat) M) (rdv sh ds ax (ds.length / M : Nat) M))) := by
  have hl := axb_len hx (by omega)
  have l4 := may_len (tnb_parts ta).1
  exact (mean_ok vA vX v sh ds ax M W hA hX hv (by omega) ta hx hM).mono (fun _ _ hh => tyN_of (ty_of hh))
theorem maxN (vA vX : Value) (sh ds : List Int) (a M : Nat) (W : World) (hA : Ld W vA sh) (hX : Ld W vX ds) (ta : tnb sh ds = true) (ha : a < sh.length) (hM : (M : Int) = prod (lf sh [(a : Int)] 0)) :
    Calls Try.prog 10 #[.agg #[vA, vX], .int .i64 (a : Nat)] W (TmN W (lf sh [(a : Int)] 0) (mxl sh ds a ds.length M) (mpl sh ds a ds.length M)) :=
  (max_ok vA vX sh ds a M W hA hX ta ha hM).mono (fun _ _ hh => tmN_of hh)
theorem eqnN (W : World) (va vb : Value) (l : List Int) (ha : Ld W va l) (hb : Ld W vb l) (hl : l.length ≤ 17592186044416) : Calls Try.prog 23 #[va, vb] W fun e w' => e = .returned (.bool true) ∧ Below W.heap.size W w' := by
  have h := eqn_any va vb l l W ha hb hl hl
  rwa [show decide (l = l) = true by simp] at h
theorem two_of {sh : List Int} (h : sh.length = 2) (hm : may sh = true) : ∃ A B : Nat, sh = [(A : Int), (B : Int)] := by
  obtain ⟨x, y, rfl⟩ : ∃ x y, sh = [x, y] := by
    match sh, h with
    | [x, y], _ => exact ⟨x, y, rfl⟩
  have h1 : 1 ≤ x := (may_dim hm (i := 0) (by simp)).1
  have h2 : 1 ≤ y := (may_dim hm (i := 1) (by simp)).1
  exact ⟨x.toNat, y.toNat, by rw [Int.toNat_of_nonneg (by omega), Int.toNat_of_nonneg (by omega)]⟩
theorem turn_view (A B : Nat) : trl [(A : Int), (B : Int)] [1, 0] = [(B : Int), (A : Int)] ∧ trl (stl [(A : Int), (B : Int)]) [1, 0] = [1, (B : Int)] := by
  constructor
  · rfl
  · show [(1 : Int), ((B : Int) * 1)] = _
    rw [Int.mul_one]
theorem turn_vw {A B : Nat} {ds : List Int} (ht : tnb [(A : Int), (B : Int)] ds = true) : Vw [(B : Int), (A : Int)] [1, (B : Int)] 0 ds.length := by
  obtain ⟨⟨hA, hB, hl, h6⟩, ht2, _⟩ := turned_num ht
  have hc : far [1, (B : Int)] [(B : Int), (A : Int)] = ((B : Int) - 1) * 1 + (((A : Int) - 1) * (B : Int) + 0) := rfl
  have e : ((A : Int) - 1) * (B : Int) = ((A * B : Nat) : Int) - B := by rw [Int.sub_mul, Int.one_mul]; push_cast; rfl
  have hB2 : (B : Int) ≤ 4096 := (may_dim (tnb_parts ht2).1 (i := 0) (by simp)).2
  refine ⟨(tnb_parts ht2).1, rfl, ?_, Int.le_refl _, by omega, by rw [hl]; have := Nat.mul_le_mul hA hB; omega, by rw [hc, e, hl]; omega⟩
  intro x hx
  simp only [List.mem_cons, List.not_mem_nil, or_false] at hx
  rcases hx with rfl | rfl <;> omega

set_option maxRecDepth 100000 in
set_option maxHeartbeats 6000000 in
theorem reduceturned_any (bb oo len cap : Nat) (es : Nat → Rk) (w : World) (_hl : len ≤ 9223372036854775807) (hb : bb < w.heap.size) (hT : ∀ i, i < len → RkAt w bb (oo + i * 4) (es i)) (hok : ∀ i, i < len → (es i).ok w) :
    Calls Try.prog 4 #[.slice (some ⟨bb, oo, none⟩) len cap] w fun e w' => e = .returned (.bool true) ∧ Below w.heap.size w w' := by
  have HT := Lib.hid (And.intro hT hok)
  clear hT hok
  go_enter Try.func4, Try.ntmps4
  go_wp2
  go_loopw [3] (fun s3 wQ => ∃ k : Nat, k ≤ len ∧ s3 = .int .i64 k ∧ Below w.heap.size w wQ) (fun s3 _ => len - (intOf s3).toNat)
  case atStart => exact ⟨0, Nat.zero_le _, rfl, Below.refl _ _⟩
  case round =>
    obtain ⟨k, hk, rfl, hB⟩ := hrel
    have hBs := hB.size
    obtain ⟨w1, hw1⟩ : ∃ w1, w1 = wr := ⟨_, rfl⟩
    subst hw1
    by_cases g : k < len ∧ k < 10
    · obtain ⟨g1, g2⟩ := g
      obtain ⟨t0, t1, t2, t3⟩ := (HT.out.1 k (by omega)).below hB hb
      obtain ⟨⟨hA, hX, hV⟩, ⟨l0, l1, l2⟩, ⟨a0, a1⟩⟩ := HT.out.2 k (by omega)
      replace hA := hA.below hB
      replace hX := hX.below hB
      replace hV := hV.below hB
      generalize es k = p at *
      obtain ⟨vA, vX, vV, sh, ds, ax, a⟩ := p
      simp only at t0 t1 t2 t3 hA hX hV l0 l1 l2 a0 a1
      obtain ⟨oA, cA, rfl, _, _⟩ := id hA
      obtain ⟨oX, cX, rfl, _, hxX⟩ := id hX
      obtain ⟨oV, cV, rfl, _, _⟩ := id hV
      have HXX := Lib.hid hxX
      clear hxX
      have K0 := Lib.hid (fun o => (Below.refl w1.heap.size w1).alloc (Nat.le_refl _) o)
      have K4 := Lib.hid (Blk.new w1 28 #[.slice oA sh.length cA, .slice oX ds.length cX, .slice oV ax.length cV, .int .i64 a])
      obtain ⟨FR, hFR⟩ : ∃ FR : World → Prop, FR = fun W => Below w1.heap.size w1 W ∧ Blk W w1.heap.size 28 #[.slice oA sh.length cA, .slice oX ds.length cX, .slice oV ax.length cV, .int .i64 a] := ⟨_, rfl⟩
      have FRb : Hid (∀ W, FR W → Below w1.heap.size w1 W) := Lib.hid (fun W h => by rw [hFR] at h; exact h.1)
      have FRk := Lib.hid (fun (W : World) (h : FR W) => blk4r (by rw [hFR] at h; exact h.2 : Blk W w1.heap.size 28 #[.slice oA sh.length cA, .slice oX ds.length cX, .slice oV ax.length cV, .int .i64 a]))
      have FRn : Hid (∀ W W', FR W → Below W.heap.size W W' → FR W') := Lib.hid (fun W W' h hb => by rw [hFR] at h ⊢; exact ⟨h.1.trans (hb.mono h.1.size), h.2.below hb h.2.lt⟩)
      have FRl : Hid (∀ W, FR W → w1.heap.size < W.heap.size) := Lib.hid (fun W h => by rw [hFR] at h; exact h.2.lt)
      have FRs : Hid (∀ W, Below (w1.alloc (.cells #[.slice oA sh.length cA, .slice oX ds.length cX, .slice oV ax.length cV, .int .i64 a] 28)).heap.size (w1.alloc (.cells #[.slice oA sh.length cA, .slice oX ds.length cX, .slice oV ax.length cV, .int .i64 a] 28)) W → FR W) := Lib.hid (fun W h => by rw [hFR]; exact ⟨(K0.out _).trans (h.mono (by simp)), K4.out.below h K4.out.lt⟩)
      have FRz : Hid (∀ W Z u v, FR W → w1.heap.size < Z → FR ((W.setCell ⟨Z, 0, none⟩ u).setCell ⟨Z, 1, none⟩ v)) := Lib.hid (fun W Z u v h hz => by rw [hFR] at h ⊢; exact ⟨(h.1.setCell (p := ⟨Z, 0, none⟩) (Nat.le_of_lt hz) u).setCell (p := ⟨Z, 1, none⟩) (Nat.le_of_lt hz) v, (h.2.far (p := ⟨Z, 0, none⟩) (by show w1.heap.size ≠ Z; omega) u).far (p := ⟨Z, 1, none⟩) (by show w1.heap.size ≠ Z; omega) v⟩)
      clear hFR
      have LG := Lib.hid (fun (W : World) (hW : Below w1.heap.size w1 W) => heavy8_any _ _ sh ds 60 W (hA.below hW) (hX.below hW) (by omega) (by omega))
      cases lg : hv8 60 sh ds with
      | true =>
        as_aux_lemma =>
        rw [lg] at LG
        clear lg hA hX hV
        go_wp2_with (go_at_call 7; (with_reducible refine (LG.out _ (K0.out _)).mono ?_); rintro e w2 ⟨rfl, hb2⟩; have F2 := Lib.hid (FRs.out _ hb2); obtain ⟨x0, x1, x2, x3⟩ := FRk.out _ F2.out; clear hb2)
        go_ret
        exact ⟨rfl, hB.trans ((FRb.out _ F2.out).mono hBs)⟩
      | false =>
        rw [lg] at LG
        have na := hv8_no lg
        have HL := Lib.hid (And.intro hA (And.intro hX hV))
        have KMA := Lib.hid (fun (W : World) (hW : Below w1.heap.size w1 W) => rmay8_any _ _ sh ds W (hA.below hW) (hX.below hW) (by omega) (by omega))
        clear lg hA hX hV
        cases ta : tnb sh ds with
        | false =>
          as_aux_lemma =>
          rw [ta] at KMA
          clear ta
          go_wp2_with (first | (go_at_call 7; (with_reducible refine (LG.out _ (K0.out _)).mono ?_); rintro e w2 ⟨rfl, hb2⟩; have F2 := Lib.hid (FRs.out _ hb2); obtain ⟨x0, x1, x2, x3⟩ := FRk.out _ F2.out; clear hb2) | (go_at_call 8; (with_reducible refine (KMA.out _ (FRb.out _ F2.out)).mono ?_); rintro e w4 ⟨rfl, hb4⟩; have F4 := Lib.hid (FRn.out _ _ F2.out hb4); obtain ⟨x0, x1, x2, x3⟩ := FRk.out _ F4.out; clear hb4))
          exact ⟨⟨k + 1, by omega, by go_num, hB.trans ((FRb.out _ F4.out).mono hBs)⟩, by simp [intOf]; omega⟩
        | true =>
          rw [ta] at KMA
          by_cases hz : sh.length = 2
          · as_aux_lemma =>
            have hz' : ((sh.length : Int) != 2) = false := by simp [hz]
            obtain ⟨A, B, hAB⟩ := two_of hz (tnb_parts ta).1
            have lsh := may_len (tnb_parts ta).1
            have HSH := Lib.hid hAB
            have HTA := Lib.hid ta
            have HTB : Hid (tnb [(A : Int), (B : Int)] ds = true) := Lib.hid (by rw [← hAB]; exact ta)
            clear hAB hz ta na
            have HTN := Lib.hid (turned_num HTB.out)
            have KO : Hid (∀ W, FR W → Calls Try.prog 21 #[.slice oA sh.length cA] W (RvN W [(A : Int), (B : Int)] (stl [(A : Int), (B : Int)]) 2 2)) := Lib.hid (fun W h => by
              have q := rof_any _ sh W (HL.out.1.below (FRb.out _ h)) (tnb_parts HTA.out).1
              rw [HSH.out] at q ⊢
              exact q.mono (fun _ _ hh => rvN_of rfl rfl hh))
            have KW : Hid (∀ W va vb v, Ld W va [(A : Int), (B : Int)] → Ld W vb (stl [(A : Int), (B : Int)]) → Ld W v [1, 0] → Calls Try.prog 20 #[.agg #[va, vb, .int .i64 0], v] W (RvN W [(B : Int), (A : Int)] [1, (B : Int)] 2 2)) := Lib.hid (fun W va vb v ha hb hv => by
              have q := rtranspose_any va vb v _ _ [1, 0] 0 W ha hb hv (by rw [stl_len]) (by simp) (by rfl)
              rw [(turn_view A B).1, (turn_view A B).2] at q
              exact q.mono (fun _ _ hh => rvN_of rfl rfl hh))
            have KC : Hid (∀ W va vb, FR W → Ld W va [(B : Int), (A : Int)] → Ld W vb [1, (B : Int)] → Calls Try.prog 19 #[.agg #[va, vb, .int .i64 0], .slice oX ds.length cX] W (RtN W [(B : Int), (A : Int)] (tds A B ds))) := Lib.hid (fun W va vb h ha hb => by
              refine (rcopyt_any va vb _ _ _ ds 0 (B * A) W ha hb (HL.out.2.1.below (FRb.out _ h)) (turn_vw HTB.out) (by show _ = (B : Int) * ((A : Int) * 1); rw [Int.mul_one]; push_cast; rfl)).mono (fun e w' hh => ?_)
              obtain ⟨os, cs, od, cd, rfl, h1, h2, h3⟩ := hh
              exact ⟨os, _, cs, od, _, cd, rfl, h1, h2, h3⟩)
            have KS : Hid (∀ W, FR W → W.cell? ⟨w1.heap.size, 0, none⟩ = some (.slice oA sh.length cA) ∧ W.cell? ⟨w1.heap.size, 1, none⟩ = some (.slice oX ds.length cX)) := Lib.hid (fun W h => ⟨(FRk.out _ h).1, (FRk.out _ h).2.1⟩)
            have HL2 : Hid (∀ W, FR W → Ld W (.slice oA sh.length cA) [(A : Int), (B : Int)] ∧ Ld W (.slice oX ds.length cX) ds) := Lib.hid (fun W h => ⟨by have := HL.out.1.below (FRb.out _ h); rwa [HSH.out] at this ⊢, HL.out.2.1.below (FRb.out _ h)⟩)
            obtain ⟨S, hS⟩ : ∃ S, S = [(B : Int)] := ⟨_, rfl⟩
            obtain ⟨E1, hE1⟩ : ∃ E, E = rde [(A : Int), (B : Int)] ds [0] 1 B := ⟨_, rfl⟩
            obtain ⟨L1, hL1⟩ : ∃ L, L = rdv [(A : Int), (B : Int)] ds [0] 1 B := ⟨_, rfl⟩
            obtain ⟨E2, hE2⟩ : ∃ E, E = rde [(A : Int), (B : Int)] ds [0] (A : Nat) B := ⟨_, rfl⟩
            obtain ⟨L2, hL2⟩ : ∃ L, L = rdv [(A : Int), (B : Int)] ds [0] (A : Nat) B := ⟨_, rfl⟩
            obtain ⟨LM, hLM⟩ : ∃ L, L = mxl [(A : Int), (B : Int)] ds 0 ds.length B := ⟨_, rfl⟩
            obtain ⟨LP, hLP⟩ : ∃ L, L = mpl [(A : Int), (B : Int)] ds 0 ds.length B := ⟨_, rfl⟩
            have HB : Hid ((B : Int) = prod (lf [(A : Int), (B : Int)] [0] 0) ∧ (B : Int) = prod (lf [(B : Int), (A : Int)] [1] 0)) := Lib.hid (by rw [(lf_tab A B).1, (lf_tab A B).2]; exact ⟨by show _ = (B : Int) * 1; omega, by show _ = (B : Int) * 1; omega⟩)
            have HQ : Hid (ds.length / B = A ∧ (tds A B ds).length / B = A) := Lib.hid (by
              obtain ⟨⟨q1, q2, q3, q4⟩, _⟩ := HTN.out
              rw [tds_len, q3, Nat.mul_div_cancel _ (by omega), Nat.mul_comm B A, Nat.mul_div_cancel _ (by omega)]; exact ⟨rfl, rfl⟩)
            have K2 : Hid (∀ W v, FR W → Ld W v [0] → Calls Try.prog 16 #[.agg #[.slice oA sh.length cA, .slice oX ds.length cX], v] W (TyN W E1 (unl E1 S) (unl E1 L1))) := Lib.hid (fun W v h hv => by
              have q := sumN _ _ v _ ds [0] B W (HL2.out W h).1 (HL2.out W h).2 hv HTB.out (by rfl) HB.out.1
              rwa [(lf_tab A B).1, ← hE1, ← hL1, ← hS] at q)
            have K3 : Hid (∀ W va vb v, Ld W va [(B : Int), (A : Int)] → Ld W vb (tds A B ds) → Ld W v [1] → Calls Try.prog 16 #[.agg #[va, vb], v] W (TyN W E1 (unl E1 S) (unl E1 L1))) := Lib.hid (fun W va vb v ha hb hv => by
              have q := sumN va vb v _ _ [1] B W ha hb hv HTN.out.2.1 (by rfl) HB.out.2
              rwa [(lf_tab A B).2, (HTN.out.2.2.1 1).1, (HTN.out.2.2.1 1).2, ← hE1, ← hL1, ← hS] at q)
            have K4 : Hid (∀ W v, FR W → Ld W v [0] → Calls Try.prog 22 #[.agg #[.slice oA sh.length cA, .slice oX ds.length cX], v] W (TyN W E2 (unl E2 S) (unl E2 L2))) := Lib.hid (fun W v h hv => by
              have q := meanN _ _ v _ ds [0] B W (HL2.out W h).1 (HL2.out W h).2 hv HTB.out (by rfl) HB.out.1
              rwa [HQ.out.1, (lf_tab A B).1, ← hE2, ← hL2, ← hS] at q)
            have K5 : Hid (∀ W va vb v, Ld W va [(B : Int), (A : Int)] → Ld W vb (tds A B ds) → Ld W v [1] → Calls Try.prog 22 #[.agg #[va, vb], v] W (TyN W E2 (unl E2 S) (unl E2 L2))) := Lib.hid (fun W va vb v ha hb hv => by
              have q := meanN va vb v _ _ [1] B W ha hb hv HTN.out.2.1 (by rfl) HB.out.2
              rwa [HQ.out.2, (lf_tab A B).2, (HTN.out.2.2.1 A).1, (HTN.out.2.2.1 A).2, ← hE2, ← hL2, ← hS] at q)
            have K6 : Hid (∀ W, FR W → Calls Try.prog 10 #[.agg #[.slice oA sh.length cA, .slice oX ds.length cX], .int .i64 0] W (TmN W S LM LP)) := Lib.hid (fun W h => by
              have q := maxN _ _ _ ds 0 B W (HL2.out W h).1 (HL2.out W h).2 HTB.out (by simp) HB.out.1
              rwa [← hLM, ← hLP, show lf [(A : Int), (B : Int)] [((0 : Nat) : Int)] 0 = [(B : Int)] from (lf_tab A B).1, ← hS] at q)
            have K7 : Hid (∀ W va vb, Ld W va [(B : Int), (A : Int)] → Ld W vb (tds A B ds) → Calls Try.prog 10 #[.agg #[va, vb], .int .i64 1] W (TmN W S LM LP)) := Lib.hid (fun W va vb ha hb => by
              have q := maxN va vb _ _ 1 B W ha hb HTN.out.2.1 (by simp) HB.out.2
              rwa [HTN.out.2.2.2.1, HTN.out.2.2.2.2, ← hLM, ← hLP, show lf [(B : Int), (A : Int)] [((1 : Nat) : Int)] 0 = [(B : Int)] from (lf_tab A B).2, ← hS] at q)
            have hlen : Hid (S.length ≤ 65536 ∧ L1.length ≤ 65536 ∧ L2.length ≤ 65536 ∧ LM.length ≤ 65536 ∧ LP.length ≤ 65536) := Lib.hid (by
              obtain ⟨⟨q1, q2, q3, q4⟩, _⟩ := HTN.out
              have q5 : B ≤ 65536 := by have := Nat.mul_le_mul_right B q1; omega
              rw [hS, hL1, hL2, hLM, hLP, show (rdv [(A : Int), (B : Int)] ds [0] 1 B).length = B from vls_len _ _, show (rdv [(A : Int), (B : Int)] ds [0] (A : Nat) B).length = B from vls_len _ _, mxl_len, mpl_len]
              exact ⟨by simp, q5, q5, q5, q5⟩)
            have ule : ∀ (e : Int) (l : List Int), l.length ≤ 65536 → (unl e l).length ≤ 17592186044416 := fun e l h => by unfold unl; split <;> first | omega | exact Nat.zero_le _
            have KE1 := Lib.hid (fun W va vb ua ub (ha : Ld W va (unl E1 S)) (hb : Ld W vb (unl E1 L1)) (hc : Ld W ua (unl E1 S)) (hd : Ld W ub (unl E1 L1)) => eqtensor_same va vb ua ub _ _ W ha hb hc hd (ule _ _ hlen.out.1) (ule _ _ hlen.out.2.1))
            have KE2 := Lib.hid (fun W va vb ua ub (ha : Ld W va (unl E2 S)) (hb : Ld W vb (unl E2 L2)) (hc : Ld W ua (unl E2 S)) (hd : Ld W ub (unl E2 L2)) => eqtensor_same va vb ua ub _ _ W ha hb hc hd (ule _ _ hlen.out.1) (ule _ _ hlen.out.2.2.1))
            have KE3 := Lib.hid (fun W va vb ua ub (ha : Ld W va S) (hb : Ld W vb LM) (hc : Ld W ua S) (hd : Ld W ub LM) => eqtensor_same va vb ua ub _ _ W ha hb hc hd (by have := hlen.out.1; omega) (by have := hlen.out.2.2.2.1; omega))
            have KEN := Lib.hid (fun W va vb (ha : Ld W va LP) (hb : Ld W vb LP) => eqnN W va vb LP ha hb (by have := hlen.out.2.2.2.2; omega))
            clear hS hE1 hL1 hE2 hL2 hLM hLP ule hlen
            go_upto_region 8 with (first | (go_at_call 7; (with_reducible refine (LG.out _ (K0.out _)).mono ?_); rintro e w2 ⟨rfl, hb2⟩; have F2 := Lib.hid (FRs.out _ hb2); obtain ⟨x0, x1, x2, x3⟩ := FRk.out _ F2.out; clear hb2) | (go_at_call 8; (with_reducible refine (KMA.out _ (FRb.out _ F2.out)).mono ?_); rintro e w4 ⟨rfl, hb4⟩; have F4 := Lib.hid (FRn.out _ _ F2.out hb4); obtain ⟨x0, x1, x2, x3⟩ := FRk.out _ F4.out; clear hb4))
            go_cut [5] (fun s5 wx => ∃ (P : Nat) (o1 : Option Addr) (n1 c1 : Nat) (o2 : Option Addr) (n2 c2 : Nat), s5 = .pointer (some ⟨P, 0, none⟩) ∧ Blk wx P 26 #[.slice o1 n1 c1, .slice o2 n2 c2] ∧ Hid (Ld wx (.slice o1 n1 c1) [(B : Int), (A : Int)] ∧ Ld wx (.slice o2 n2 c2) (tds A B ds)) ∧ Hid (FR wx))
            case first =>
              as_aux_lemma =>
              have B_0 : Hid (FR w4.drew) := Lib.hid (FRn.out _ _ F4.out (below_drw (Below.refl _ _) 1))
              refine wp_region_held_drew (S := fun W => W.cell? ⟨w1.heap.size, 0, none⟩ = some (.slice oA sh.length cA) ∧ W.cell? ⟨w1.heap.size, 1, none⟩ = some (.slice oX ds.length cX)) (by kernel_rfl) ?_ (fun hHeld => ?_)
              · exact KS.out _ B_0.out
              have hHd := hHeld
              generalize w4.drew = w_0 at *
              (refine wpAnyH_take (i := 0) (oi := ⟨some 48, _, _, _, _, _⟩) (v := ?v0_t1) rfl (by kernel_rfl) (by kernel_rfl) (by kernel_rfl) (fun _ _ _ h => h) (Or.inl ⟨by rfl, ?hy0_t1⟩) (by assumption) ?rest0_t1; (case hy0_t1 => ((intro w hSw); (try dsimp only at hSw); go_simp; first | done | (with_reducible rfl))))
              (try simp only [Act.put, List.setIfInBounds_toArray, List.set_cons_zero, List.set_cons_succ])
              (refine wpAnyH_take (i := 1) (oi := ⟨some 49, _, _, _, _, _⟩) (v := ?v1_t2) rfl (by kernel_rfl) (by kernel_rfl) (by kernel_rfl) (fun _ _ _ h => h) (Or.inl ⟨by rfl, ?hy1_t2⟩) (by assumption) ?rest1_t2; (case hy1_t2 => ((intro w hSw); (try dsimp only at hSw); go_simp; first | done | (with_reducible rfl))))
              (try simp only [Act.put, List.setIfInBounds_toArray, List.set_cons_zero, List.set_cons_succ])
              (refine wpAnyH_take (i := 2) (oi := ⟨some 50, _, _, _, _, _⟩) (v := ?v2_t3) rfl (by kernel_rfl) (by kernel_rfl) (by kernel_rfl) (fun _ _ _ h => h) (Or.inl ⟨by rfl, ?hy2_t3⟩) (by assumption) ?rest2_t3; (case hy2_t3 => ((intro w hSw); (try dsimp only at hSw); go_simp; first | done | (with_reducible rfl))))
              (try simp only [Act.put, List.setIfInBounds_toArray, List.set_cons_zero, List.set_cons_succ])
              (refine wpAnyH_take (i := 6) (oi := ⟨some 54, _, _, _, _, _⟩) (v := ?v6_t4) rfl (by kernel_rfl) (by kernel_rfl) (by kernel_rfl) (fun _ _ _ h => h) (Or.inl ⟨by rfl, ?hy6_t4⟩) (by assumption) ?rest6_t4; (case hy6_t4 => ((intro w hSw); (try dsimp only at hSw); go_simp; first | done | (with_reducible rfl))))
              (try simp only [Act.put, List.setIfInBounds_toArray, List.set_cons_zero, List.set_cons_succ])
              (refine wpAnyH_take (i := 7) (oi := ⟨some 55, _, _, _, _, _⟩) (v := ?v7_t5) rfl (by kernel_rfl) (by kernel_rfl) (by kernel_rfl) (fun _ _ _ h => h) (Or.inl ⟨by rfl, ?hy7_t5⟩) (by assumption) ?rest7_t5; (case hy7_t5 => ((intro w hSw); (try dsimp only at hSw); go_simp; first | done | (with_reducible rfl))))
              (try simp only [Act.put, List.setIfInBounds_toArray, List.set_cons_zero, List.set_cons_succ])
              (refine wpAnyH_take (i := 8) (oi := ⟨some 56, _, _, _, _, _⟩) (v := ?v8_t6) rfl (by kernel_rfl) (by kernel_rfl) (by kernel_rfl) (fun _ _ _ h => h) (Or.inl ⟨by rfl, ?hy8_t6⟩) (by assumption) ?rest8_t6; (case hy8_t6 => ((intro w hSw); (try dsimp only at hSw); go_simp; first | done | (with_reducible rfl))))
              (try simp only [Act.put, List.setIfInBounds_toArray, List.set_cons_zero, List.set_cons_succ])
              refine wpAnyH_ready (rs := [3, 4, 10]) (by kernel_rfl) (by simp) ?_
              refine AllReadyH.cons (o := ⟨some 51, _, _, _, _, _⟩) rfl (fun K hK => ?_) (AllReadyH.cons (o := ⟨some 52, _, _, _, _, _⟩) rfl (fun K hK => ?_) (AllReadyH.cons (o := ⟨some 5, _, _, _, _, _⟩) rfl (fun K hK => ?_) (AllReadyH.nil)))
              · go_simp
                (go_at_call 21; (with_reducible refine (KO.out _ B_0.out).mono ?_); rintro e w_1 ⟨os, cs, ot, ct, rfl, h1, h2, hb⟩; have B_1 := Lib.hid (FRn.out _ _ B_0.out hb); have V1_1 := Lib.hid (And.intro h1 h2); clear h1 h2 hb)
                refine hK.out _ _ ?_ (fun hHeld => ?_)
                · (try dsimp only)
                  exact KS.out _ B_1.out
                clear hK K
                (try simp only [Act.put, List.setIfInBounds_toArray, List.set_cons_zero, List.set_cons_succ])
                refine wpAnyH_ready (rs := [4, 10]) (by kernel_rfl) (by simp) ?_
                refine AllReadyH.cons (o := ⟨some 52, _, _, _, _, _⟩) rfl (fun K hK => ?_) (AllReadyH.cons (o := ⟨some 5, _, _, _, _, _⟩) rfl (fun K hK => ?_) (AllReadyH.nil))
                · go_simp
                  have X_2 := Lib.hid (ld2 (W := w_1) (t := 3) (x := 1) (y := 0) rfl)
                  have V1_2 := Lib.hid (And.intro (V1_1.out.1.below (al_below (.cells #[.int .i64 1, .int .i64 0] 3))) (V1_1.out.2.below (al_below (.cells #[.int .i64 1, .int .i64 0] 3))))
                  have B_2 := Lib.hid (FRn.out _ _ B_1.out (al_below (.cells #[.int .i64 1, .int .i64 0] 3)))
                  refine hK.out _ _ ?_ (fun hHeld => ?_)
                  · (try dsimp only)
                    exact KS.out _ B_2.out
                  clear hK K
                  generalize w_1.alloc (.cells #[.int .i64 1, .int .i64 0] 3) = w_2 at *
                  (try simp only [Act.put, List.setIfInBounds_toArray, List.set_cons_zero, List.set_cons_succ])
                  refine wpAnyH_ready (rs := [5, 10]) (by kernel_rfl) (by simp) ?_
                  refine AllReadyH.cons (o := ⟨some 53, _, _, _, _, _⟩) rfl (fun K hK => ?_) (AllReadyH.cons (o := ⟨some 5, _, _, _, _, _⟩) rfl (fun K hK => ?_) (AllReadyH.nil))
                  · go_simp
                    (go_at_call 20; (with_reducible refine (KW.out _ _ _ _ V1_2.out.1 V1_2.out.2 X_2.out).mono ?_); rintro e w_3 ⟨os, cs, ot, ct, rfl, h1, h2, hb⟩; have B_3 := Lib.hid (FRn.out _ _ B_2.out hb); have V1_3 := Lib.hid (And.intro (V1_2.out.1.below hb) (V1_2.out.2.below hb)); have X_3 := Lib.hid (X_2.out.below hb); have V2_3 := Lib.hid (And.intro h1 h2); clear h1 h2 hb)
                    refine hK.out _ _ ?_ (fun hHeld => ?_)
                    · (try dsimp only)
                      exact KS.out _ B_3.out
                    clear hK K
                    (try simp only [Act.put, List.setIfInBounds_toArray, List.set_cons_zero, List.set_cons_succ])
                    refine wpAnyH_ready (rs := [9, 10]) (by kernel_rfl) (by simp) ?_
                    refine AllReadyH.cons (o := ⟨some 57, _, _, _, _, _⟩) rfl (fun K hK => ?_) (AllReadyH.cons (o := ⟨some 5, _, _, _, _, _⟩) rfl (fun K hK => ?_) (AllReadyH.nil))
                    · go_simp
                      (go_at_call 19; (with_reducible refine (KC.out _ _ _ B_3.out V2_3.out.1 V2_3.out.2).mono ?_); rintro e w_4 ⟨os, ns, cs, od, nd, cd, rfl, h1, h2, hb⟩; have B_4 := Lib.hid (FRn.out _ _ B_3.out hb); have V1_4 := Lib.hid (And.intro (V1_3.out.1.below hb) (V1_3.out.2.below hb)); have V2_4 := Lib.hid (And.intro (V2_3.out.1.below hb) (V2_3.out.2.below hb)); have X_4 := Lib.hid (X_3.out.below hb); have VT_4 := Lib.hid (And.intro h1 h2); clear h1 h2 hb)
                      refine hK.out _ _ ?_ (fun hHeld => ?_)
                      · (try dsimp only)
                        exact KS.out _ B_4.out
                      clear hK K
                      (try simp only [Act.put, List.setIfInBounds_toArray, List.set_cons_zero, List.set_cons_succ])
                      refine wpAnyH_ready (rs := [10]) (by kernel_rfl) (by simp) ?_
                      refine AllReadyH.cons (o := ⟨some 5, _, _, _, _, _⟩) rfl (fun K hK => ?_) (AllReadyH.nil)
                      go_simp
                      have Z_5 := Lib.hid (And.intro (Blk.new w_4 26 #[.slice none 0 0, .slice none 0 0]) (FRl.out _ B_4.out))
                      have V1_5 := Lib.hid (And.intro (V1_4.out.1.below (al_below (.cells #[.slice none 0 0, .slice none 0 0] 26))) (V1_4.out.2.below (al_below (.cells #[.slice none 0 0, .slice none 0 0] 26))))
                      have V2_5 := Lib.hid (And.intro (V2_4.out.1.below (al_below (.cells #[.slice none 0 0, .slice none 0 0] 26))) (V2_4.out.2.below (al_below (.cells #[.slice none 0 0, .slice none 0 0] 26))))
                      have VT_5 := Lib.hid (And.intro (VT_4.out.1.below (al_below (.cells #[.slice none 0 0, .slice none 0 0] 26))) (VT_4.out.2.below (al_below (.cells #[.slice none 0 0, .slice none 0 0] 26))))
                      have X_5 := Lib.hid (X_4.out.below (al_below (.cells #[.slice none 0 0, .slice none 0 0] 26)))
                      have B_5 := Lib.hid (FRn.out _ _ B_4.out (al_below (.cells #[.slice none 0 0, .slice none 0 0] 26)))
                      refine hK.out _ _ ?_ (fun hHeld => ?_)
                      · (try dsimp only)
                        exact KS.out _ B_5.out
                      clear hK K
                      generalize w_4.alloc (.cells #[.slice none 0 0, .slice none 0 0] 26) = w_5 at *
                      (try simp only [Act.put, List.setIfInBounds_toArray, List.set_cons_zero, List.set_cons_succ])
                      refine wpAnyH_ready (rs := [11]) (by kernel_rfl) (by simp) ?_
                      refine AllReadyH.cons (o := ⟨none, _, _, _, _, _⟩) rfl (fun K hK => ?_) (AllReadyH.nil)
                      obtain ⟨p0, p1, pf0, pf1⟩ := blk2 Z_5.out.1
                      go_simp
                      refine hK.out _ _ ?_ (fun hHeld => ?_)
                      · (try dsimp only)
                        exact KS.out _ (FRz.out _ _ _ _ B_5.out Z_5.out.2)
                      clear hK K
                      (try simp only [Act.put, List.setIfInBounds_toArray, List.set_cons_zero, List.set_cons_succ])
                      refine wpAnyH_done (by kernel_rfl) ?_ _
                      go_wp2
                      go_meet
                      exact ⟨_, _, _, _, _, _, _, rfl, (Z_5.out.1.set_ 0 _).set_ 1 _, Lib.hid ⟨VT_5.out.1.setd2 Z_5.out.1, VT_5.out.2.setd2 Z_5.out.1⟩, Lib.hid (FRz.out _ _ _ _ B_5.out Z_5.out.2)⟩
                    · go_simp
                      have Z_6 := Lib.hid (And.intro (Blk.new w_3 26 #[.slice none 0 0, .slice none 0 0]) (FRl.out _ B_3.out))
                      have V1_6 := Lib.hid (And.intro (V1_3.out.1.below (al_below (.cells #[.slice none 0 0, .slice none 0 0] 26))) (V1_3.out.2.below (al_below (.cells #[.slice none 0 0, .slice none 0 0] 26))))
                      have V2_6 := Lib.hid (And.intro (V2_3.out.1.below (al_below (.cells #[.slice none 0 0, .slice none 0 0] 26))) (V2_3.out.2.below (al_below (.cells #[.slice none 0 0, .slice none 0 0] 26))))
                      have X_6 := Lib.hid (X_3.out.below (al_below (.cells #[.slice none 0 0, .slice none 0 0] 26)))
                      have B_6 := Lib.hid (FRn.out _ _ B_3.out (al_below (.cells #[.slice none 0 0, .slice none 0 0] 26)))
                      refine hK.out _ _ ?_ (fun hHeld => ?_)
                      · (try dsimp only)
                        exact KS.out _ B_6.out
                      clear hK K
                      generalize w_3.alloc (.cells #[.slice none 0 0, .slice none 0 0] 26) = w_6 at *
                      (try simp only [Act.put, List.setIfInBounds_toArray, List.set_cons_zero, List.set_cons_succ])
                      refine wpAnyH_ready (rs := [9]) (by kernel_rfl) (by simp) ?_
                      refine AllReadyH.cons (o := ⟨some 57, _, _, _, _, _⟩) rfl (fun K hK => ?_) (AllReadyH.nil)
                      go_simp
                      (go_at_call 19; (with_reducible refine (KC.out _ _ _ B_6.out V2_6.out.1 V2_6.out.2).mono ?_); rintro e w_7 ⟨os, ns, cs, od, nd, cd, rfl, h1, h2, hb⟩; have B_7 := Lib.hid (FRn.out _ _ B_6.out hb); have V1_7 := Lib.hid (And.intro (V1_6.out.1.below hb) (V1_6.out.2.below hb)); have V2_7 := Lib.hid (And.intro (V2_6.out.1.below hb) (V2_6.out.2.below hb)); have X_7 := Lib.hid (X_6.out.below hb); have Z_7 := Lib.hid (And.intro (Z_6.out.1.below hb Z_6.out.1.lt) Z_6.out.2); have VT_7 := Lib.hid (And.intro h1 h2); clear h1 h2 hb)
                      refine hK.out _ _ ?_ (fun hHeld => ?_)
                      · (try dsimp only)
                        exact KS.out _ B_7.out
                      clear hK K
                      (try simp only [Act.put, List.setIfInBounds_toArray, List.set_cons_zero, List.set_cons_succ])
                      refine wpAnyH_ready (rs := [11]) (by kernel_rfl) (by simp) ?_
                      refine AllReadyH.cons (o := ⟨none, _, _, _, _, _⟩) rfl (fun K hK => ?_) (AllReadyH.nil)
                      obtain ⟨p0, p1, pf0, pf1⟩ := blk2 Z_7.out.1
                      go_simp
                      refine hK.out _ _ ?_ (fun hHeld => ?_)
                      · (try dsimp only)
                        exact KS.out _ (FRz.out _ _ _ _ B_7.out Z_7.out.2)
                      clear hK K
                      (try simp only [Act.put, List.setIfInBounds_toArray, List.set_cons_zero, List.set_cons_succ])
                      refine wpAnyH_done (by kernel_rfl) ?_ _
                      go_wp2
                      go_meet
                      exact ⟨_, _, _, _, _, _, _, rfl, (Z_7.out.1.set_ 0 _).set_ 1 _, Lib.hid ⟨VT_7.out.1.setd2 Z_7.out.1, VT_7.out.2.setd2 Z_7.out.1⟩, Lib.hid (FRz.out _ _ _ _ B_7.out Z_7.out.2)⟩
                  · go_simp
                    have Z_8 := Lib.hid (And.intro (Blk.new w_2 26 #[.slice none 0 0, .slice none 0 0]) (FRl.out _ B_2.out))
                    have V1_8 := Lib.hid (And.intro (V1_2.out.1.below (al_below (.cells #[.slice none 0 0, .slice none 0 0] 26))) (V1_2.out.2.below (al_below (.cells #[.slice none 0 0, .slice none 0 0] 26))))
                    have X_8 := Lib.hid (X_2.out.below (al_below (.cells #[.slice none 0 0, .slice none 0 0] 26)))
                    have B_8 := Lib.hid (FRn.out _ _ B_2.out (al_below (.cells #[.slice none 0 0, .slice none 0 0] 26)))
                    refine hK.out _ _ ?_ (fun hHeld => ?_)
                    · (try dsimp only)
                      exact KS.out _ B_8.out
                    clear hK K
                    generalize w_2.alloc (.cells #[.slice none 0 0, .slice none 0 0] 26) = w_8 at *
                    (try simp only [Act.put, List.setIfInBounds_toArray, List.set_cons_zero, List.set_cons_succ])
                    refine wpAnyH_ready (rs := [5]) (by kernel_rfl) (by simp) ?_
                    refine AllReadyH.cons (o := ⟨some 53, _, _, _, _, _⟩) rfl (fun K hK => ?_) (AllReadyH.nil)
                    go_simp
                    (go_at_call 20; (with_reducible refine (KW.out _ _ _ _ V1_8.out.1 V1_8.out.2 X_8.out).mono ?_); rintro e w_9 ⟨os, cs, ot, ct, rfl, h1, h2, hb⟩; have B_9 := Lib.hid (FRn.out _ _ B_8.out hb); have V1_9 := Lib.hid (And.intro (V1_8.out.1.below hb) (V1_8.out.2.below hb)); have X_9 := Lib.hid (X_8.out.below hb); have Z_9 := Lib.hid (And.intro (Z_8.out.1.below hb Z_8.out.1.lt) Z_8.out.2); have V2_9 := Lib.hid (And.intro h1 h2); clear h1 h2 hb)
                    refine hK.out _ _ ?_ (fun hHeld => ?_)
                    · (try dsimp only)
                      exact KS.out _ B_9.out
                    clear hK K
                    (try simp only [Act.put, List.setIfInBounds_toArray, List.set_cons_zero, List.set_cons_succ])
                    refine wpAnyH_ready (rs := [9]) (by kernel_rfl) (by simp) ?_
                    refine AllReadyH.cons (o := ⟨some 57, _, _, _, _, _⟩) rfl (fun K hK => ?_) (AllReadyH.nil)
                    go_simp
                    (go_at_call 19; (with_reducible refine (KC.out _ _ _ B_9.out V2_9.out.1 V2_9.out.2).mono ?_); rintro e w_10 ⟨os, ns, cs, od, nd, cd, rfl, h1, h2, hb⟩; have B_10 := Lib.hid (FRn.out _ _ B_9.out hb); have V1_10 := Lib.hid (And.intro (V1_9.out.1.below hb) (V1_9.out.2.below hb)); have V2_10 := Lib.hid (And.intro (V2_9.out.1.below hb) (V2_9.out.2.below hb)); have X_10 := Lib.hid (X_9.out.below hb); have Z_10 := Lib.hid (And.intro (Z_9.out.1.below hb Z_9.out.1.lt) Z_9.out.2); have VT_10 := Lib.hid (And.intro h1 h2); clear h1 h2 hb)
                    refine hK.out _ _ ?_ (fun hHeld => ?_)
                    · (try dsimp only)
                      exact KS.out _ B_10.out
                    clear hK K
                    (try simp only [Act.put, List.setIfInBounds_toArray, List.set_cons_zero, List.set_cons_succ])
                    refine wpAnyH_ready (rs := [11]) (by kernel_rfl) (by simp) ?_
                    refine AllReadyH.cons (o := ⟨none, _, _, _, _, _⟩) rfl (fun K hK => ?_) (AllReadyH.nil)
                    obtain ⟨p0, p1, pf0, pf1⟩ := blk2 Z_10.out.1
                    go_simp
                    refine hK.out _ _ ?_ (fun hHeld => ?_)
                    · (try dsimp only)
                      exact KS.out _ (FRz.out _ _ _ _ B_10.out Z_10.out.2)
                    clear hK K
                    (try simp only [Act.put, List.setIfInBounds_toArray, List.set_cons_zero, List.set_cons_succ])
                    refine wpAnyH_done (by kernel_rfl) ?_ _
                    go_wp2
                    go_meet
                    exact ⟨_, _, _, _, _, _, _, rfl, (Z_10.out.1.set_ 0 _).set_ 1 _, Lib.hid ⟨VT_10.out.1.setd2 Z_10.out.1, VT_10.out.2.setd2 Z_10.out.1⟩, Lib.hid (FRz.out _ _ _ _ B_10.out Z_10.out.2)⟩
                · go_simp
                  have Z_11 := Lib.hid (And.intro (Blk.new w_1 26 #[.slice none 0 0, .slice none 0 0]) (FRl.out _ B_1.out))
                  have V1_11 := Lib.hid (And.intro (V1_1.out.1.below (al_below (.cells #[.slice none 0 0, .slice none 0 0] 26))) (V1_1.out.2.below (al_below (.cells #[.slice none 0 0, .slice none 0 0] 26))))
                  have B_11 := Lib.hid (FRn.out _ _ B_1.out (al_below (.cells #[.slice none 0 0, .slice none 0 0] 26)))
                  refine hK.out _ _ ?_ (fun hHeld => ?_)
                  · (try dsimp only)
                    exact KS.out _ B_11.out
                  clear hK K
                  generalize w_1.alloc (.cells #[.slice none 0 0, .slice none 0 0] 26) = w_11 at *
                  (try simp only [Act.put, List.setIfInBounds_toArray, List.set_cons_zero, List.set_cons_succ])
                  refine wpAnyH_ready (rs := [4]) (by kernel_rfl) (by simp) ?_
                  refine AllReadyH.cons (o := ⟨some 52, _, _, _, _, _⟩) rfl (fun K hK => ?_) (AllReadyH.nil)
                  go_simp
                  have X_12 := Lib.hid (ld2 (W := w_11) (t := 3) (x := 1) (y := 0) rfl)
                  have V1_12 := Lib.hid (And.intro (V1_11.out.1.below (al_below (.cells #[.int .i64 1, .int .i64 0] 3))) (V1_11.out.2.below (al_below (.cells #[.int .i64 1, .int .i64 0] 3))))
                  have Z_12 := Lib.hid (And.intro (Z_11.out.1.below (al_below (.cells #[.int .i64 1, .int .i64 0] 3)) Z_11.out.1.lt) Z_11.out.2)
                  have B_12 := Lib.hid (FRn.out _ _ B_11.out (al_below (.cells #[.int .i64 1, .int .i64 0] 3)))
                  refine hK.out _ _ ?_ (fun hHeld => ?_)
                  · (try dsimp only)
                    exact KS.out _ B_12.out
                  clear hK K
                  generalize w_11.alloc (.cells #[.int .i64 1, .int .i64 0] 3) = w_12 at *
                  (try simp only [Act.put, List.setIfInBounds_toArray, List.set_cons_zero, List.set_cons_succ])
                  refine wpAnyH_ready (rs := [5]) (by kernel_rfl) (by simp) ?_
                  refine AllReadyH.cons (o := ⟨some 53, _, _, _, _, _⟩) rfl (fun K hK => ?_) (AllReadyH.nil)
                  go_simp
                  (go_at_call 20; (with_reducible refine (KW.out _ _ _ _ V1_12.out.1 V1_12.out.2 X_12.out).mono ?_); rintro e w_13 ⟨os, cs, ot, ct, rfl, h1, h2, hb⟩; have B_13 := Lib.hid (FRn.out _ _ B_12.out hb); have V1_13 := Lib.hid (And.intro (V1_12.out.1.below hb) (V1_12.out.2.below hb)); have X_13 := Lib.hid (X_12.out.below hb); have Z_13 := Lib.hid (And.intro (Z_12.out.1.below hb Z_12.out.1.lt) Z_12.out.2); have V2_13 := Lib.hid (And.intro h1 h2); clear h1 h2 hb)
                  refine hK.out _ _ ?_ (fun hHeld => ?_)
                  · (try dsimp only)
                    exact KS.out _ B_13.out
                  clear hK K
                  (try simp only [Act.put, List.setIfInBounds_toArray, List.set_cons_zero, List.set_cons_succ])
                  refine wpAnyH_ready (rs := [9]) (by kernel_rfl) (by simp) ?_
                  refine AllReadyH.cons (o := ⟨some 57, _, _, _, _, _⟩) rfl (fun K hK => ?_) (AllReadyH.nil)
                  go_simp
                  (go_at_call 19; (with_reducible refine (KC.out _ _ _ B_13.out V2_13.out.1 V2_13.out.2).mono ?_); rintro e w_14 ⟨os, ns, cs, od, nd, cd, rfl, h1, h2, hb⟩; have B_14 := Lib.hid (FRn.out _ _ B_13.out hb); have V1_14 := Lib.hid (And.intro (V1_13.out.1.below hb) (V1_13.out.2.below hb)); have V2_14 := Lib.hid (And.intro (V2_13.out.1.below hb) (V2_13.out.2.below hb)); have X_14 := Lib.hid (X_13.out.below hb); have Z_14 := Lib.hid (And.intro (Z_13.out.1.below hb Z_13.out.1.lt) Z_13.out.2); have VT_14 := Lib.hid (And.intro h1 h2); clear h1 h2 hb)
                  refine hK.out _ _ ?_ (fun hHeld => ?_)
                  · (try dsimp only)
                    exact KS.out _ B_14.out
                  clear hK K
                  (try simp only [Act.put, List.setIfInBounds_toArray, List.set_cons_zero, List.set_cons_succ])
                  refine wpAnyH_ready (rs := [11]) (by kernel_rfl) (by simp) ?_
                  refine AllReadyH.cons (o := ⟨none, _, _, _, _, _⟩) rfl (fun K hK => ?_) (AllReadyH.nil)
                  obtain ⟨p0, p1, pf0, pf1⟩ := blk2 Z_14.out.1
                  go_simp
                  refine hK.out _ _ ?_ (fun hHeld => ?_)
                  · (try dsimp only)
                    exact KS.out _ (FRz.out _ _ _ _ B_14.out Z_14.out.2)
                  clear hK K
                  (try simp only [Act.put, List.setIfInBounds_toArray, List.set_cons_zero, List.set_cons_succ])
                  refine wpAnyH_done (by kernel_rfl) ?_ _
                  go_wp2
                  go_meet
                  exact ⟨_, _, _, _, _, _, _, rfl, (Z_14.out.1.set_ 0 _).set_ 1 _, Lib.hid ⟨VT_14.out.1.setd2 Z_14.out.1, VT_14.out.2.setd2 Z_14.out.1⟩, Lib.hid (FRz.out _ _ _ _ B_14.out Z_14.out.2)⟩
              · go_simp
                have X_15 := Lib.hid (ld2 (W := w_0) (t := 3) (x := 1) (y := 0) rfl)
                have B_15 := Lib.hid (FRn.out _ _ B_0.out (al_below (.cells #[.int .i64 1, .int .i64 0] 3)))
                refine hK.out _ _ ?_ (fun hHeld => ?_)
                · (try dsimp only)
                  exact KS.out _ B_15.out
                clear hK K
                generalize w_0.alloc (.cells #[.int .i64 1, .int .i64 0] 3) = w_15 at *
                (try simp only [Act.put, List.setIfInBounds_toArray, List.set_cons_zero, List.set_cons_succ])
                refine wpAnyH_ready (rs := [3, 10]) (by kernel_rfl) (by simp) ?_
                refine AllReadyH.cons (o := ⟨some 51, _, _, _, _, _⟩) rfl (fun K hK => ?_) (AllReadyH.cons (o := ⟨some 5, _, _, _, _, _⟩) rfl (fun K hK => ?_) (AllReadyH.nil))
                · go_simp
                  (go_at_call 21; (with_reducible refine (KO.out _ B_15.out).mono ?_); rintro e w_16 ⟨os, cs, ot, ct, rfl, h1, h2, hb⟩; have B_16 := Lib.hid (FRn.out _ _ B_15.out hb); have X_16 := Lib.hid (X_15.out.below hb); have V1_16 := Lib.hid (And.intro h1 h2); clear h1 h2 hb)
                  refine hK.out _ _ ?_ (fun hHeld => ?_)
                  · (try dsimp only)
                    exact KS.out _ B_16.out
                  clear hK K
                  (try simp only [Act.put, List.setIfInBounds_toArray, List.set_cons_zero, List.set_cons_succ])
                  refine wpAnyH_ready (rs := [5, 10]) (by kernel_rfl) (by simp) ?_
                  refine AllReadyH.cons (o := ⟨some 53, _, _, _, _, _⟩) rfl (fun K hK => ?_) (AllReadyH.cons (o := ⟨some 5, _, _, _, _, _⟩) rfl (fun K hK => ?_) (AllReadyH.nil))
                  · go_simp
                    (go_at_call 20; (with_reducible refine (KW.out _ _ _ _ V1_16.out.1 V1_16.out.2 X_16.out).mono ?_); rintro e w_17 ⟨os, cs, ot, ct, rfl, h1, h2, hb⟩; have B_17 := Lib.hid (FRn.out _ _ B_16.out hb); have V1_17 := Lib.hid (And.intro (V1_16.out.1.below hb) (V1_16.out.2.below hb)); have X_17 := Lib.hid (X_16.out.below hb); have V2_17 := Lib.hid (And.intro h1 h2); clear h1 h2 hb)
                    refine hK.out _ _ ?_ (fun hHeld => ?_)
                    · (try dsimp only)
                      exact KS.out _ B_17.out
                    clear hK K
                    (try simp only [Act.put, List.setIfInBounds_toArray, List.set_cons_zero, List.set_cons_succ])
                    refine wpAnyH_ready (rs := [9, 10]) (by kernel_rfl) (by simp) ?_
                    refine AllReadyH.cons (o := ⟨some 57, _, _, _, _, _⟩) rfl (fun K hK => ?_) (AllReadyH.cons (o := ⟨some 5, _, _, _, _, _⟩) rfl (fun K hK => ?_) (AllReadyH.nil))
                    · go_simp
                      (go_at_call 19; (with_reducible refine (KC.out _ _ _ B_17.out V2_17.out.1 V2_17.out.2).mono ?_); rintro e w_18 ⟨os, ns, cs, od, nd, cd, rfl, h1, h2, hb⟩; have B_18 := Lib.hid (FRn.out _ _ B_17.out hb); have V1_18 := Lib.hid (And.intro (V1_17.out.1.below hb) (V1_17.out.2.below hb)); have V2_18 := Lib.hid (And.intro (V2_17.out.1.below hb) (V2_17.out.2.below hb)); have X_18 := Lib.hid (X_17.out.below hb); have VT_18 := Lib.hid (And.intro h1 h2); clear h1 h2 hb)
                      refine hK.out _ _ ?_ (fun hHeld => ?_)
                      · (try dsimp only)
                        exact KS.out _ B_18.out
                      clear hK K
                      (try simp only [Act.put, List.setIfInBounds_toArray, List.set_cons_zero, List.set_cons_succ])
                      refine wpAnyH_ready (rs := [10]) (by kernel_rfl) (by simp) ?_
                      refine AllReadyH.cons (o := ⟨some 5, _, _, _, _, _⟩) rfl (fun K hK => ?_) (AllReadyH.nil)
                      go_simp
                      have Z_19 := Lib.hid (And.intro (Blk.new w_18 26 #[.slice none 0 0, .slice none 0 0]) (FRl.out _ B_18.out))
                      have V1_19 := Lib.hid (And.intro (V1_18.out.1.below (al_below (.cells #[.slice none 0 0, .slice none 0 0] 26))) (V1_18.out.2.below (al_below (.cells #[.slice none 0 0, .slice none 0 0] 26))))
                      have V2_19 := Lib.hid (And.intro (V2_18.out.1.below (al_below (.cells #[.slice none 0 0, .slice none 0 0] 26))) (V2_18.out.2.below (al_below (.cells #[.slice none 0 0, .slice none 0 0] 26))))
                      have VT_19 := Lib.hid (And.intro (VT_18.out.1.below (al_below (.cells #[.slice none 0 0, .slice none 0 0] 26))) (VT_18.out.2.below (al_below (.cells #[.slice none 0 0, .slice none 0 0] 26))))
                      have X_19 := Lib.hid (X_18.out.below (al_below (.cells #[.slice none 0 0, .slice none 0 0] 26)))
                      have B_19 := Lib.hid (FRn.out _ _ B_18.out (al_below (.cells #[.slice none 0 0, .slice none 0 0] 26)))
                      refine hK.out _ _ ?_ (fun hHeld => ?_)
                      · (try dsimp only)
                        exact KS.out _ B_19.out
                      clear hK K
                      generalize w_18.alloc (.cells #[.slice none 0 0, .slice none 0 0] 26) = w_19 at *
                      (try simp only [Act.put, List.setIfInBounds_toArray, List.set_cons_zero, List.set_cons_succ])
                      refine wpAnyH_ready (rs := [11]) (by kernel_rfl) (by simp) ?_
                      refine AllReadyH.cons (o := ⟨none, _, _, _, _, _⟩) rfl (fun K hK => ?_) (AllReadyH.nil)
                      obtain ⟨p0, p1, pf0, pf1⟩ := blk2 Z_19.out.1
                      go_simp
                      refine hK.out _ _ ?_ (fun hHeld => ?_)
                      · (try dsimp only)
                        exact KS.out _ (FRz.out _ _ _ _ B_19.out Z_19.out.2)
                      clear hK K
                      (try simp only [Act.put, List.setIfInBounds_toArray, List.set_cons_zero, List.set_cons_succ])
                      refine wpAnyH_done (by kernel_rfl) ?_ _
                      go_wp2
                      go_meet
                      exact ⟨_, _, _, _, _, _, _, rfl, (Z_19.out.1.set_ 0 _).set_ 1 _, Lib.hid ⟨VT_19.out.1.setd2 Z_19.out.1, VT_19.out.2.setd2 Z_19.out.1⟩, Lib.hid (FRz.out _ _ _ _ B_19.out Z_19.out.2)⟩
                    · go_simp
                      have Z_20 := Lib.hid (And.intro (Blk.new w_17 26 #[.slice none 0 0, .slice none 0 0]) (FRl.out _ B_17.out))
                      have V1_20 := Lib.hid (And.intro (V1_17.out.1.below (al_below (.cells #[.slice none 0 0, .slice none 0 0] 26))) (V1_17.out.2.below (al_below (.cells #[.slice none 0 0, .slice none 0 0] 26))))
                      have V2_20 := Lib.hid (And.intro (V2_17.out.1.below (al_below (.cells #[.slice none 0 0, .slice none 0 0] 26))) (V2_17.out.2.below (al_below (.cells #[.slice none 0 0, .slice none 0 0] 26))))
                      have X_20 := Lib.hid (X_17.out.below (al_below (.cells #[.slice none 0 0, .slice none 0 0] 26)))
                      have B_20 := Lib.hid (FRn.out _ _ B_17.out (al_below (.cells #[.slice none 0 0, .slice none 0 0] 26)))
                      refine hK.out _ _ ?_ (fun hHeld => ?_)
                      · (try dsimp only)
                        exact KS.out _ B_20.out
                      clear hK K
                      generalize w_17.alloc (.cells #[.slice none 0 0, .slice none 0 0] 26) = w_20 at *
                      (try simp only [Act.put, List.setIfInBounds_toArray, List.set_cons_zero, List.set_cons_succ])
                      refine wpAnyH_ready (rs := [9]) (by kernel_rfl) (by simp) ?_
                      refine AllReadyH.cons (o := ⟨some 57, _, _, _, _, _⟩) rfl (fun K hK => ?_) (AllReadyH.nil)
                      go_simp
                      (go_at_call 19; (with_reducible refine (KC.out _ _ _ B_20.out V2_20.out.1 V2_20.out.2).mono ?_); rintro e w_21 ⟨os, ns, cs, od, nd, cd, rfl, h1, h2, hb⟩; have B_21 := Lib.hid (FRn.out _ _ B_20.out hb); have V1_21 := Lib.hid (And.intro (V1_20.out.1.below hb) (V1_20.out.2.below hb)); have V2_21 := Lib.hid (And.intro (V2_20.out.1.below hb) (V2_20.out.2.below hb)); have X_21 := Lib.hid (X_20.out.below hb); have Z_21 := Lib.hid (And.intro (Z_20.out.1.below hb Z_20.out.1.lt) Z_20.out.2); have VT_21 := Lib.hid (And.intro h1 h2); clear h1 h2 hb)
                      refine hK.out _ _ ?_ (fun hHeld => ?_)
                      · (try dsimp only)
                        exact KS.out _ B_21.out
                      clear hK K
                      (try simp only [Act.put, List.setIfInBounds_toArray, List.set_cons_zero, List.set_cons_succ])
                      refine wpAnyH_ready (rs := [11]) (by kernel_rfl) (by simp) ?_
                      refine AllReadyH.cons (o := ⟨none, _, _, _, _, _⟩) rfl (fun K hK => ?_) (AllReadyH.nil)
                      obtain ⟨p0, p1, pf0, pf1⟩ := blk2 Z_21.out.1
                      go_simp
                      refine hK.out _ _ ?_ (fun hHeld => ?_)
                      · (try dsimp only)
                        exact KS.out _ (FRz.out _ _ _ _ B_21.out Z_21.out.2)
                      clear hK K
                      (try simp only [Act.put, List.setIfInBounds_toArray, List.set_cons_zero, List.set_cons_succ])
                      refine wpAnyH_done (by kernel_rfl) ?_ _
                      go_wp2
                      go_meet
                      exact ⟨_, _, _, _, _, _, _, rfl, (Z_21.out.1.set_ 0 _).set_ 1 _, Lib.hid ⟨VT_21.out.1.setd2 Z_21.out.1, VT_21.out.2.setd2 Z_21.out.1⟩, Lib.hid (FRz.out _ _ _ _ B_21.out Z_21.out.2)⟩
                  · go_simp
                    have Z_22 := Lib.hid (And.intro (Blk.new w_16 26 #[.slice none 0 0, .slice none 0 0]) (FRl.out _ B_16.out))
                    have V1_22 := Lib.hid (And.intro (V1_16.out.1.below (al_below (.cells #[.slice none 0 0, .slice none 0 0] 26))) (V1_16.out.2.below (al_below (.cells #[.slice none 0 0, .slice none 0 0] 26))))
                    have X_22 := Lib.hid (X_16.out.below (al_below (.cells #[.slice none 0 0, .slice none 0 0] 26)))
                    have B_22 := Lib.hid (FRn.out _ _ B_16.out (al_below (.cells #[.slice none 0 0, .slice none 0 0] 26)))
                    refine hK.out _ _ ?_ (fun hHeld => ?_)
                    · (try dsimp only)
                      exact KS.out _ B_22.out
                    clear hK K
                    generalize w_16.alloc (.cells #[.slice none 0 0, .slice none 0 0] 26) = w_22 at *
                    (try simp only [Act.put, List.setIfInBounds_toArray, List.set_cons_zero, List.set_cons_succ])
                    refine wpAnyH_ready (rs := [5]) (by kernel_rfl) (by simp) ?_
                    refine AllReadyH.cons (o := ⟨some 53, _, _, _, _, _⟩) rfl (fun K hK => ?_) (AllReadyH.nil)
                    go_simp
                    (go_at_call 20; (with_reducible refine (KW.out _ _ _ _ V1_22.out.1 V1_22.out.2 X_22.out).mono ?_); rintro e w_23 ⟨os, cs, ot, ct, rfl, h1, h2, hb⟩; have B_23 := Lib.hid (FRn.out _ _ B_22.out hb); have V1_23 := Lib.hid (And.intro (V1_22.out.1.below hb) (V1_22.out.2.below hb)); have X_23 := Lib.hid (X_22.out.below hb); have Z_23 := Lib.hid (And.intro (Z_22.out.1.below hb Z_22.out.1.lt) Z_22.out.2); have V2_23 := Lib.hid (And.intro h1 h2); clear h1 h2 hb)
                    refine hK.out _ _ ?_ (fun hHeld => ?_)
                    · (try dsimp only)
                      exact KS.out _ B_23.out
                    clear hK K
                    (try simp only [Act.put, List.setIfInBounds_toArray, List.set_cons_zero, List.set_cons_succ])
                    refine wpAnyH_ready (rs := [9]) (by kernel_rfl) (by simp) ?_
                    refine AllReadyH.cons (o := ⟨some 57, _, _, _, _, _⟩) rfl (fun K hK => ?_) (AllReadyH.nil)
                    go_simp
                    (go_at_call 19; (with_reducible refine (KC.out _ _ _ B_23.out V2_23.out.1 V2_23.out.2).mono ?_); rintro e w_24 ⟨os, ns, cs, od, nd, cd, rfl, h1, h2, hb⟩; have B_24 := Lib.hid (FRn.out _ _ B_23.out hb); have V1_24 := Lib.hid (And.intro (V1_23.out.1.below hb) (V1_23.out.2.below hb)); have V2_24 := Lib.hid (And.intro (V2_23.out.1.below hb) (V2_23.out.2.below hb)); have X_24 := Lib.hid (X_23.out.below hb); have Z_24 := Lib.hid (And.intro (Z_23.out.1.below hb Z_23.out.1.lt) Z_23.out.2); have VT_24 := Lib.hid (And.intro h1 h2); clear h1 h2 hb)
                    refine hK.out _ _ ?_ (fun hHeld => ?_)
                    · (try dsimp only)
                      exact KS.out _ B_24.out
                    clear hK K
                    (try simp only [Act.put, List.setIfInBounds_toArray, List.set_cons_zero, List.set_cons_succ])
                    refine wpAnyH_ready (rs := [11]) (by kernel_rfl) (by simp) ?_
                    refine AllReadyH.cons (o := ⟨none, _, _, _, _, _⟩) rfl (fun K hK => ?_) (AllReadyH.nil)
                    obtain ⟨p0, p1, pf0, pf1⟩ := blk2 Z_24.out.1
                    go_simp
                    refine hK.out _ _ ?_ (fun hHeld => ?_)
                    · (try dsimp only)
                      exact KS.out _ (FRz.out _ _ _ _ B_24.out Z_24.out.2)
                    clear hK K
                    (try simp only [Act.put, List.setIfInBounds_toArray, List.set_cons_zero, List.set_cons_succ])
                    refine wpAnyH_done (by kernel_rfl) ?_ _
                    go_wp2
                    go_meet
                    exact ⟨_, _, _, _, _, _, _, rfl, (Z_24.out.1.set_ 0 _).set_ 1 _, Lib.hid ⟨VT_24.out.1.setd2 Z_24.out.1, VT_24.out.2.setd2 Z_24.out.1⟩, Lib.hid (FRz.out _ _ _ _ B_24.out Z_24.out.2)⟩
                · go_simp
                  have Z_25 := Lib.hid (And.intro (Blk.new w_15 26 #[.slice none 0 0, .slice none 0 0]) (FRl.out _ B_15.out))
                  have X_25 := Lib.hid (X_15.out.below (al_below (.cells #[.slice none 0 0, .slice none 0 0] 26)))
                  have B_25 := Lib.hid (FRn.out _ _ B_15.out (al_below (.cells #[.slice none 0 0, .slice none 0 0] 26)))
                  refine hK.out _ _ ?_ (fun hHeld => ?_)
                  · (try dsimp only)
                    exact KS.out _ B_25.out
                  clear hK K
                  generalize w_15.alloc (.cells #[.slice none 0 0, .slice none 0 0] 26) = w_25 at *
                  (try simp only [Act.put, List.setIfInBounds_toArray, List.set_cons_zero, List.set_cons_succ])
                  refine wpAnyH_ready (rs := [3]) (by kernel_rfl) (by simp) ?_
                  refine AllReadyH.cons (o := ⟨some 51, _, _, _, _, _⟩) rfl (fun K hK => ?_) (AllReadyH.nil)
                  go_simp
                  (go_at_call 21; (with_reducible refine (KO.out _ B_25.out).mono ?_); rintro e w_26 ⟨os, cs, ot, ct, rfl, h1, h2, hb⟩; have B_26 := Lib.hid (FRn.out _ _ B_25.out hb); have X_26 := Lib.hid (X_25.out.below hb); have Z_26 := Lib.hid (And.intro (Z_25.out.1.below hb Z_25.out.1.lt) Z_25.out.2); have V1_26 := Lib.hid (And.intro h1 h2); clear h1 h2 hb)
                  refine hK.out _ _ ?_ (fun hHeld => ?_)
                  · (try dsimp only)
                    exact KS.out _ B_26.out
                  clear hK K
                  (try simp only [Act.put, List.setIfInBounds_toArray, List.set_cons_zero, List.set_cons_succ])
                  refine wpAnyH_ready (rs := [5]) (by kernel_rfl) (by simp) ?_
                  refine AllReadyH.cons (o := ⟨some 53, _, _, _, _, _⟩) rfl (fun K hK => ?_) (AllReadyH.nil)
                  go_simp
                  (go_at_call 20; (with_reducible refine (KW.out _ _ _ _ V1_26.out.1 V1_26.out.2 X_26.out).mono ?_); rintro e w_27 ⟨os, cs, ot, ct, rfl, h1, h2, hb⟩; have B_27 := Lib.hid (FRn.out _ _ B_26.out hb); have V1_27 := Lib.hid (And.intro (V1_26.out.1.below hb) (V1_26.out.2.below hb)); have X_27 := Lib.hid (X_26.out.below hb); have Z_27 := Lib.hid (And.intro (Z_26.out.1.below hb Z_26.out.1.lt) Z_26.out.2); have V2_27 := Lib.hid (And.intro h1 h2); clear h1 h2 hb)
                  refine hK.out _ _ ?_ (fun hHeld => ?_)
                  · (try dsimp only)
                    exact KS.out _ B_27.out
                  clear hK K
                  (try simp only [Act.put, List.setIfInBounds_toArray, List.set_cons_zero, List.set_cons_succ])
                  refine wpAnyH_ready (rs := [9]) (by kernel_rfl) (by simp) ?_
                  refine AllReadyH.cons (o := ⟨some 57, _, _, _, _, _⟩) rfl (fun K hK => ?_) (AllReadyH.nil)
                  go_simp
                  (go_at_call 19; (with_reducible refine (KC.out _ _ _ B_27.out V2_27.out.1 V2_27.out.2).mono ?_); rintro e w_28 ⟨os, ns, cs, od, nd, cd, rfl, h1, h2, hb⟩; have B_28 := Lib.hid (FRn.out _ _ B_27.out hb); have V1_28 := Lib.hid (And.intro (V1_27.out.1.below hb) (V1_27.out.2.below hb)); have V2_28 := Lib.hid (And.intro (V2_27.out.1.below hb) (V2_27.out.2.below hb)); have X_28 := Lib.hid (X_27.out.below hb); have Z_28 := Lib.hid (And.intro (Z_27.out.1.below hb Z_27.out.1.lt) Z_27.out.2); have VT_28 := Lib.hid (And.intro h1 h2); clear h1 h2 hb)
                  refine hK.out _ _ ?_ (fun hHeld => ?_)
                  · (try dsimp only)
                    exact KS.out _ B_28.out
                  clear hK K
                  (try simp only [Act.put, List.setIfInBounds_toArray, List.set_cons_zero, List.set_cons_succ])
                  refine wpAnyH_ready (rs := [11]) (by kernel_rfl) (by simp) ?_
                  refine AllReadyH.cons (o := ⟨none, _, _, _, _, _⟩) rfl (fun K hK => ?_) (AllReadyH.nil)
                  obtain ⟨p0, p1, pf0, pf1⟩ := blk2 Z_28.out.1
                  go_simp
                  refine hK.out _ _ ?_ (fun hHeld => ?_)
                  · (try dsimp only)
                    exact KS.out _ (FRz.out _ _ _ _ B_28.out Z_28.out.2)
                  clear hK K
                  (try simp only [Act.put, List.setIfInBounds_toArray, List.set_cons_zero, List.set_cons_succ])
                  refine wpAnyH_done (by kernel_rfl) ?_ _
                  go_wp2
                  go_meet
                  exact ⟨_, _, _, _, _, _, _, rfl, (Z_28.out.1.set_ 0 _).set_ 1 _, Lib.hid ⟨VT_28.out.1.setd2 Z_28.out.1, VT_28.out.2.setd2 Z_28.out.1⟩, Lib.hid (FRz.out _ _ _ _ B_28.out Z_28.out.2)⟩
              · go_simp
                have Z_29 := Lib.hid (And.intro (Blk.new w_0 26 #[.slice none 0 0, .slice none 0 0]) (FRl.out _ B_0.out))
                have B_29 := Lib.hid (FRn.out _ _ B_0.out (al_below (.cells #[.slice none 0 0, .slice none 0 0] 26)))
                refine hK.out _ _ ?_ (fun hHeld => ?_)
                · (try dsimp only)
                  exact KS.out _ B_29.out
                clear hK K
                generalize w_0.alloc (.cells #[.slice none 0 0, .slice none 0 0] 26) = w_29 at *
                (try simp only [Act.put, List.setIfInBounds_toArray, List.set_cons_zero, List.set_cons_succ])
                refine wpAnyH_ready (rs := [3, 4]) (by kernel_rfl) (by simp) ?_
                refine AllReadyH.cons (o := ⟨some 51, _, _, _, _, _⟩) rfl (fun K hK => ?_) (AllReadyH.cons (o := ⟨some 52, _, _, _, _, _⟩) rfl (fun K hK => ?_) (AllReadyH.nil))
                · go_simp
                  (go_at_call 21; (with_reducible refine (KO.out _ B_29.out).mono ?_); rintro e w_30 ⟨os, cs, ot, ct, rfl, h1, h2, hb⟩; have B_30 := Lib.hid (FRn.out _ _ B_29.out hb); have Z_30 := Lib.hid (And.intro (Z_29.out.1.below hb Z_29.out.1.lt) Z_29.out.2); have V1_30 := Lib.hid (And.intro h1 h2); clear h1 h2 hb)
                  refine hK.out _ _ ?_ (fun hHeld => ?_)
                  · (try dsimp only)
                    exact KS.out _ B_30.out
                  clear hK K
                  (try simp only [Act.put, List.setIfInBounds_toArray, List.set_cons_zero, List.set_cons_succ])
                  refine wpAnyH_ready (rs := [4]) (by kernel_rfl) (by simp) ?_
                  refine AllReadyH.cons (o := ⟨some 52, _, _, _, _, _⟩) rfl (fun K hK => ?_) (AllReadyH.nil)
                  go_simp
                  have X_31 := Lib.hid (ld2 (W := w_30) (t := 3) (x := 1) (y := 0) rfl)
                  have V1_31 := Lib.hid (And.intro (V1_30.out.1.below (al_below (.cells #[.int .i64 1, .int .i64 0] 3))) (V1_30.out.2.below (al_below (.cells #[.int .i64 1, .int .i64 0] 3))))
                  have Z_31 := Lib.hid (And.intro (Z_30.out.1.below (al_below (.cells #[.int .i64 1, .int .i64 0] 3)) Z_30.out.1.lt) Z_30.out.2)
                  have B_31 := Lib.hid (FRn.out _ _ B_30.out (al_below (.cells #[.int .i64 1, .int .i64 0] 3)))
                  refine hK.out _ _ ?_ (fun hHeld => ?_)
                  · (try dsimp only)
                    exact KS.out _ B_31.out
                  clear hK K
                  generalize w_30.alloc (.cells #[.int .i64 1, .int .i64 0] 3) = w_31 at *
                  (try simp only [Act.put, List.setIfInBounds_toArray, List.set_cons_zero, List.set_cons_succ])
                  refine wpAnyH_ready (rs := [5]) (by kernel_rfl) (by simp) ?_
                  refine AllReadyH.cons (o := ⟨some 53, _, _, _, _, _⟩) rfl (fun K hK => ?_) (AllReadyH.nil)
                  go_simp
                  (go_at_call 20; (with_reducible refine (KW.out _ _ _ _ V1_31.out.1 V1_31.out.2 X_31.out).mono ?_); rintro e w_32 ⟨os, cs, ot, ct, rfl, h1, h2, hb⟩; have B_32 := Lib.hid (FRn.out _ _ B_31.out hb); have V1_32 := Lib.hid (And.intro (V1_31.out.1.below hb) (V1_31.out.2.below hb)); have X_32 := Lib.hid (X_31.out.below hb); have Z_32 := Lib.hid (And.intro (Z_31.out.1.below hb Z_31.out.1.lt) Z_31.out.2); have V2_32 := Lib.hid (And.intro h1 h2); clear h1 h2 hb)
                  refine hK.out _ _ ?_ (fun hHeld => ?_)
                  · (try dsimp only)
                    exact KS.out _ B_32.out
                  clear hK K
                  (try simp only [Act.put, List.setIfInBounds_toArray, List.set_cons_zero, List.set_cons_succ])
                  refine wpAnyH_ready (rs := [9]) (by kernel_rfl) (by simp) ?_
                  refine AllReadyH.cons (o := ⟨some 57, _, _, _, _, _⟩) rfl (fun K hK => ?_) (AllReadyH.nil)
                  go_simp
                  (go_at_call 19; (with_reducible refine (KC.out _ _ _ B_32.out V2_32.out.1 V2_32.out.2).mono ?_); rintro e w_33 ⟨os, ns, cs, od, nd, cd, rfl, h1, h2, hb⟩; have B_33 := Lib.hid (FRn.out _ _ B_32.out hb); have V1_33 := Lib.hid (And.intro (V1_32.out.1.below hb) (V1_32.out.2.below hb)); have V2_33 := Lib.hid (And.intro (V2_32.out.1.below hb) (V2_32.out.2.below hb)); have X_33 := Lib.hid (X_32.out.below hb); have Z_33 := Lib.hid (And.intro (Z_32.out.1.below hb Z_32.out.1.lt) Z_32.out.2); have VT_33 := Lib.hid (And.intro h1 h2); clear h1 h2 hb)
                  refine hK.out _ _ ?_ (fun hHeld => ?_)
                  · (try dsimp only)
                    exact KS.out _ B_33.out
                  clear hK K
                  (try simp only [Act.put, List.setIfInBounds_toArray, List.set_cons_zero, List.set_cons_succ])
                  refine wpAnyH_ready (rs := [11]) (by kernel_rfl) (by simp) ?_
                  refine AllReadyH.cons (o := ⟨none, _, _, _, _, _⟩) rfl (fun K hK => ?_) (AllReadyH.nil)
                  obtain ⟨p0, p1, pf0, pf1⟩ := blk2 Z_33.out.1
                  go_simp
                  refine hK.out _ _ ?_ (fun hHeld => ?_)
                  · (try dsimp only)
                    exact KS.out _ (FRz.out _ _ _ _ B_33.out Z_33.out.2)
                  clear hK K
                  (try simp only [Act.put, List.setIfInBounds_toArray, List.set_cons_zero, List.set_cons_succ])
                  refine wpAnyH_done (by kernel_rfl) ?_ _
                  go_wp2
                  go_meet
                  exact ⟨_, _, _, _, _, _, _, rfl, (Z_33.out.1.set_ 0 _).set_ 1 _, Lib.hid ⟨VT_33.out.1.setd2 Z_33.out.1, VT_33.out.2.setd2 Z_33.out.1⟩, Lib.hid (FRz.out _ _ _ _ B_33.out Z_33.out.2)⟩
                · go_simp
                  have X_34 := Lib.hid (ld2 (W := w_29) (t := 3) (x := 1) (y := 0) rfl)
                  have Z_34 := Lib.hid (And.intro (Z_29.out.1.below (al_below (.cells #[.int .i64 1, .int .i64 0] 3)) Z_29.out.1.lt) Z_29.out.2)
                  have B_34 := Lib.hid (FRn.out _ _ B_29.out (al_below (.cells #[.int .i64 1, .int .i64 0] 3)))
                  refine hK.out _ _ ?_ (fun hHeld => ?_)
                  · (try dsimp only)
                    exact KS.out _ B_34.out
                  clear hK K
                  generalize w_29.alloc (.cells #[.int .i64 1, .int .i64 0] 3) = w_34 at *
                  (try simp only [Act.put, List.setIfInBounds_toArray, List.set_cons_zero, List.set_cons_succ])
                  refine wpAnyH_ready (rs := [3]) (by kernel_rfl) (by simp) ?_
                  refine AllReadyH.cons (o := ⟨some 51, _, _, _, _, _⟩) rfl (fun K hK => ?_) (AllReadyH.nil)
                  go_simp
                  (go_at_call 21; (with_reducible refine (KO.out _ B_34.out).mono ?_); rintro e w_35 ⟨os, cs, ot, ct, rfl, h1, h2, hb⟩; have B_35 := Lib.hid (FRn.out _ _ B_34.out hb); have X_35 := Lib.hid (X_34.out.below hb); have Z_35 := Lib.hid (And.intro (Z_34.out.1.below hb Z_34.out.1.lt) Z_34.out.2); have V1_35 := Lib.hid (And.intro h1 h2); clear h1 h2 hb)
                  refine hK.out _ _ ?_ (fun hHeld => ?_)
                  · (try dsimp only)
                    exact KS.out _ B_35.out
                  clear hK K
                  (try simp only [Act.put, List.setIfInBounds_toArray, List.set_cons_zero, List.set_cons_succ])
                  refine wpAnyH_ready (rs := [5]) (by kernel_rfl) (by simp) ?_
                  refine AllReadyH.cons (o := ⟨some 53, _, _, _, _, _⟩) rfl (fun K hK => ?_) (AllReadyH.nil)
                  go_simp
                  (go_at_call 20; (with_reducible refine (KW.out _ _ _ _ V1_35.out.1 V1_35.out.2 X_35.out).mono ?_); rintro e w_36 ⟨os, cs, ot, ct, rfl, h1, h2, hb⟩; have B_36 := Lib.hid (FRn.out _ _ B_35.out hb); have V1_36 := Lib.hid (And.intro (V1_35.out.1.below hb) (V1_35.out.2.below hb)); have X_36 := Lib.hid (X_35.out.below hb); have Z_36 := Lib.hid (And.intro (Z_35.out.1.below hb Z_35.out.1.lt) Z_35.out.2); have V2_36 := Lib.hid (And.intro h1 h2); clear h1 h2 hb)
                  refine hK.out _ _ ?_ (fun hHeld => ?_)
                  · (try dsimp only)
                    exact KS.out _ B_36.out
                  clear hK K
                  (try simp only [Act.put, List.setIfInBounds_toArray, List.set_cons_zero, List.set_cons_succ])
                  refine wpAnyH_ready (rs := [9]) (by kernel_rfl) (by simp) ?_
                  refine AllReadyH.cons (o := ⟨some 57, _, _, _, _, _⟩) rfl (fun K hK => ?_) (AllReadyH.nil)
                  go_simp
                  (go_at_call 19; (with_reducible refine (KC.out _ _ _ B_36.out V2_36.out.1 V2_36.out.2).mono ?_); rintro e w_37 ⟨os, ns, cs, od, nd, cd, rfl, h1, h2, hb⟩; have B_37 := Lib.hid (FRn.out _ _ B_36.out hb); have V1_37 := Lib.hid (And.intro (V1_36.out.1.below hb) (V1_36.out.2.below hb)); have V2_37 := Lib.hid (And.intro (V2_36.out.1.below hb) (V2_36.out.2.below hb)); have X_37 := Lib.hid (X_36.out.below hb); have Z_37 := Lib.hid (And.intro (Z_36.out.1.below hb Z_36.out.1.lt) Z_36.out.2); have VT_37 := Lib.hid (And.intro h1 h2); clear h1 h2 hb)
                  refine hK.out _ _ ?_ (fun hHeld => ?_)
                  · (try dsimp only)
                    exact KS.out _ B_37.out
                  clear hK K
                  (try simp only [Act.put, List.setIfInBounds_toArray, List.set_cons_zero, List.set_cons_succ])
                  refine wpAnyH_ready (rs := [11]) (by kernel_rfl) (by simp) ?_
                  refine AllReadyH.cons (o := ⟨none, _, _, _, _, _⟩) rfl (fun K hK => ?_) (AllReadyH.nil)
                  obtain ⟨p0, p1, pf0, pf1⟩ := blk2 Z_37.out.1
                  go_simp
                  refine hK.out _ _ ?_ (fun hHeld => ?_)
                  · (try dsimp only)
                    exact KS.out _ (FRz.out _ _ _ _ B_37.out Z_37.out.2)
                  clear hK K
                  (try simp only [Act.put, List.setIfInBounds_toArray, List.set_cons_zero, List.set_cons_succ])
                  refine wpAnyH_done (by kernel_rfl) ?_ _
                  go_wp2
                  go_meet
                  exact ⟨_, _, _, _, _, _, _, rfl, (Z_37.out.1.set_ 0 _).set_ 1 _, Lib.hid ⟨VT_37.out.1.setd2 Z_37.out.1, VT_37.out.2.setd2 Z_37.out.1⟩, Lib.hid (FRz.out _ _ _ _ B_37.out Z_37.out.2)⟩
            case rest =>
              as_aux_lemma =>
              obtain ⟨T1, os1, ns1, cs1, od1, nd1, cd1, rfl, hbt, HLt, HF⟩ := hcut
              obtain ⟨v1, hv1⟩ : ∃ v, v = wc := ⟨_, rfl⟩
              rw [← hv1] at hbt HLt HF ⊢
              clear hv1
              obtain ⟨P1, hP⟩ : ∃ P : World → Prop, P = fun W => FR W ∧ Blk W T1 26 #[.slice os1 ns1 cs1, .slice od1 nd1 cd1] ∧ Ld W (.slice os1 ns1 cs1) [(B : Int), (A : Int)] ∧ Ld W (.slice od1 nd1 cd1) (tds A B ds) := ⟨_, rfl⟩
              have G1 : Hid (P1 v1) := Lib.hid (by rw [hP]; exact ⟨HF.out, hbt, HLt.out⟩)
              have P1f : Hid (∀ W, P1 W → FR W) := Lib.hid (fun W h => by rw [hP] at h; exact h.1)
              have G0f := P1f
              have P1n : Hid (∀ W W', P1 W → Below W.heap.size W W' → P1 W') := Lib.hid (fun W W' h hb => by rw [hP] at h ⊢; exact ⟨FRn.out _ _ h.1 hb, h.2.1.below hb h.2.1.lt, h.2.2.1.below hb, h.2.2.2.below hb⟩)
              have P1t : Hid (∀ W, P1 W → (W.cell? ⟨T1, 0, none⟩ = some (.slice os1 ns1 cs1) ∧ W.cell? ⟨T1, 1, none⟩ = some (.slice od1 nd1 cd1)) ∧ Ld W (.slice os1 ns1 cs1) [(B : Int), (A : Int)] ∧ Ld W (.slice od1 nd1 cd1) (tds A B ds)) := Lib.hid (fun W h => by rw [hP] at h; exact ⟨⟨(blk2 h.2.1).1, (blk2 h.2.1).2.1⟩, h.2.2⟩)
              have K3' := Lib.hid (fun W v (h : P1 W) hv => K3.out W _ _ v (P1t.out W h).2.1 (P1t.out W h).2.2 hv)
              have K5' := Lib.hid (fun W v (h : P1 W) hv => K5.out W _ _ v (P1t.out W h).2.1 (P1t.out W h).2.2 hv)
              have K7' := Lib.hid (fun W (h : P1 W) => K7.out W _ _ (P1t.out W h).2.1 (P1t.out W h).2.2)
              clear hP hbt HLt HF K3 K5 K7 KO KW KC LG KMA K0
              obtain ⟨K3, K5, K7⟩ := And.intro K3' (And.intro K5' K7')
              clear K3' K5' K7'
              obtain ⟨x0, x1, x2, x3⟩ := FRk.out _ (P1f.out _ G1.out)
              go_upto_region 10 with (go_at_call 16; (with_reducible refine (K2.out _ _ ((P1f.out _ (P1n.out _ _ G1.out (al_below _)))) (ld1 rfl)).mono ?_); rintro e wz2 ⟨os2, ns2, cs2, od2, nd2, cd2, rfl, h1, h2, hb⟩; have U2 := Lib.hid (And.intro (P1n.out _ _ (P1n.out _ _ G1.out (al_below _)) hb) (And.intro h1 h2)); clear h1 h2 hb)
              obtain ⟨v2, hv⟩ : ∃ v, v = wz2.alloc (.cells #[.slice os2 ns2 cs2, .slice od2 nd2 cd2] 26) := ⟨_, rfl⟩
              obtain ⟨T2, hT⟩ : ∃ T, T = wz2.heap.size := ⟨_, rfl⟩
              rw [← hv, ← hT]
              obtain ⟨P2, hP⟩ : ∃ P : World → Prop, P = fun W => P1 W ∧ Blk W T2 26 #[.slice os2 ns2 cs2, .slice od2 nd2 cd2] ∧ Ld W (.slice os2 ns2 cs2) (unl E1 S) ∧ Ld W (.slice od2 nd2 cd2) (unl E1 L1) := ⟨_, rfl⟩
              have G2 : Hid (P2 v2) := Lib.hid (by rw [hP, hv, hT]; exact ⟨P1n.out _ _ U2.out.1 (al_below _), Blk.new _ _ _, U2.out.2.1.below (al_below _), U2.out.2.2.below (al_below _)⟩)
              have P2f : Hid (∀ W, P2 W → P1 W) := Lib.hid (fun W h => by rw [hP] at h; exact h.1)
              have P2n : Hid (∀ W W', P2 W → Below W.heap.size W W' → P2 W') := Lib.hid (fun W W' h hb => by rw [hP] at h ⊢; exact ⟨P1n.out _ _ h.1 hb, h.2.1.below hb h.2.1.lt, h.2.2.1.below hb, h.2.2.2.below hb⟩)
              have P2t : Hid (∀ W, P2 W → (W.cell? ⟨T2, 0, none⟩ = some (.slice os2 ns2 cs2) ∧ W.cell? ⟨T2, 1, none⟩ = some (.slice od2 nd2 cd2)) ∧ Ld W (.slice os2 ns2 cs2) (unl E1 S) ∧ Ld W (.slice od2 nd2 cd2) (unl E1 L1)) := Lib.hid (fun W h => by rw [hP] at h; exact ⟨⟨(blk2 h.2.1).1, (blk2 h.2.1).2.1⟩, h.2.2⟩)
              clear hv hT hP U2 K2 x0 x1 x2 x3
              obtain ⟨⟨y0, y1⟩, _, _⟩ := P1t.out _ (P2f.out _ G2.out)
              go_upto_region 11 with (go_at_call 16; (with_reducible refine (K3.out _ _ ((P2f.out _ (P2n.out _ _ G2.out (al_below _)))) (ld1 rfl)).mono ?_); rintro e wz3 ⟨os3, ns3, cs3, od3, nd3, cd3, rfl, h1, h2, hb⟩; have U3 := Lib.hid (And.intro (P2n.out _ _ (P2n.out _ _ G2.out (al_below _)) hb) (And.intro h1 h2)); clear h1 h2 hb)
              obtain ⟨v3, hv⟩ : ∃ v, v = wz3.alloc (.cells #[.slice os3 ns3 cs3, .slice od3 nd3 cd3] 26) := ⟨_, rfl⟩
              obtain ⟨T3, hT⟩ : ∃ T, T = wz3.heap.size := ⟨_, rfl⟩
              rw [← hv, ← hT]
              obtain ⟨P3, hP⟩ : ∃ P : World → Prop, P = fun W => P2 W ∧ Blk W T3 26 #[.slice os3 ns3 cs3, .slice od3 nd3 cd3] ∧ Ld W (.slice os3 ns3 cs3) (unl E1 S) ∧ Ld W (.slice od3 nd3 cd3) (unl E1 L1) := ⟨_, rfl⟩
              have G3 : Hid (P3 v3) := Lib.hid (by rw [hP, hv, hT]; exact ⟨P2n.out _ _ U3.out.1 (al_below _), Blk.new _ _ _, U3.out.2.1.below (al_below _), U3.out.2.2.below (al_below _)⟩)
              have P3f : Hid (∀ W, P3 W → P2 W) := Lib.hid (fun W h => by rw [hP] at h; exact h.1)
              have P3n : Hid (∀ W W', P3 W → Below W.heap.size W W' → P3 W') := Lib.hid (fun W W' h hb => by rw [hP] at h ⊢; exact ⟨P2n.out _ _ h.1 hb, h.2.1.below hb h.2.1.lt, h.2.2.1.below hb, h.2.2.2.below hb⟩)
              have P3t : Hid (∀ W, P3 W → (W.cell? ⟨T3, 0, none⟩ = some (.slice os3 ns3 cs3) ∧ W.cell? ⟨T3, 1, none⟩ = some (.slice od3 nd3 cd3)) ∧ Ld W (.slice os3 ns3 cs3) (unl E1 S) ∧ Ld W (.slice od3 nd3 cd3) (unl E1 L1)) := Lib.hid (fun W h => by rw [hP] at h; exact ⟨⟨(blk2 h.2.1).1, (blk2 h.2.1).2.1⟩, h.2.2⟩)
              clear hv hT hP U3 K3 y0 y1
              obtain ⟨x0, x1, x2, x3⟩ := FRk.out _ (P1f.out _ (P2f.out _ (P3f.out _ G3.out)))
              go_upto_region 12 with (go_at_call 22; (with_reducible refine (K4.out _ _ ((P1f.out _ (P2f.out _ (P3f.out _ (P3n.out _ _ G3.out (al_below _)))))) (ld1 rfl)).mono ?_); rintro e wz4 ⟨os4, ns4, cs4, od4, nd4, cd4, rfl, h1, h2, hb⟩; have U4 := Lib.hid (And.intro (P3n.out _ _ (P3n.out _ _ G3.out (al_below _)) hb) (And.intro h1 h2)); clear h1 h2 hb)
              obtain ⟨v4, hv⟩ : ∃ v, v = wz4.alloc (.cells #[.slice os4 ns4 cs4, .slice od4 nd4 cd4] 26) := ⟨_, rfl⟩
              obtain ⟨T4, hT⟩ : ∃ T, T = wz4.heap.size := ⟨_, rfl⟩
              rw [← hv, ← hT]
              obtain ⟨P4, hP⟩ : ∃ P : World → Prop, P = fun W => P3 W ∧ Blk W T4 26 #[.slice os4 ns4 cs4, .slice od4 nd4 cd4] ∧ Ld W (.slice os4 ns4 cs4) (unl E2 S) ∧ Ld W (.slice od4 nd4 cd4) (unl E2 L2) := ⟨_, rfl⟩
              have G4 : Hid (P4 v4) := Lib.hid (by rw [hP, hv, hT]; exact ⟨P3n.out _ _ U4.out.1 (al_below _), Blk.new _ _ _, U4.out.2.1.below (al_below _), U4.out.2.2.below (al_below _)⟩)
              have P4f : Hid (∀ W, P4 W → P3 W) := Lib.hid (fun W h => by rw [hP] at h; exact h.1)
              have P4n : Hid (∀ W W', P4 W → Below W.heap.size W W' → P4 W') := Lib.hid (fun W W' h hb => by rw [hP] at h ⊢; exact ⟨P3n.out _ _ h.1 hb, h.2.1.below hb h.2.1.lt, h.2.2.1.below hb, h.2.2.2.below hb⟩)
              have P4t : Hid (∀ W, P4 W → (W.cell? ⟨T4, 0, none⟩ = some (.slice os4 ns4 cs4) ∧ W.cell? ⟨T4, 1, none⟩ = some (.slice od4 nd4 cd4)) ∧ Ld W (.slice os4 ns4 cs4) (unl E2 S) ∧ Ld W (.slice od4 nd4 cd4) (unl E2 L2)) := Lib.hid (fun W h => by rw [hP] at h; exact ⟨⟨(blk2 h.2.1).1, (blk2 h.2.1).2.1⟩, h.2.2⟩)
              clear hv hT hP U4 K4 x0 x1 x2 x3
              obtain ⟨⟨y0, y1⟩, _, _⟩ := P1t.out _ (P2f.out _ (P3f.out _ (P4f.out _ G4.out)))
              go_upto_region 13 with (go_at_call 22; (with_reducible refine (K5.out _ _ ((P2f.out _ (P3f.out _ (P4f.out _ (P4n.out _ _ G4.out (al_below _)))))) (ld1 rfl)).mono ?_); rintro e wz5 ⟨os5, ns5, cs5, od5, nd5, cd5, rfl, h1, h2, hb⟩; have U5 := Lib.hid (And.intro (P4n.out _ _ (P4n.out _ _ G4.out (al_below _)) hb) (And.intro h1 h2)); clear h1 h2 hb)
              obtain ⟨v5, hv⟩ : ∃ v, v = wz5.alloc (.cells #[.slice os5 ns5 cs5, .slice od5 nd5 cd5] 26) := ⟨_, rfl⟩
              obtain ⟨T5, hT⟩ : ∃ T, T = wz5.heap.size := ⟨_, rfl⟩
              rw [← hv, ← hT]
              obtain ⟨P5, hP⟩ : ∃ P : World → Prop, P = fun W => P4 W ∧ Blk W T5 26 #[.slice os5 ns5 cs5, .slice od5 nd5 cd5] ∧ Ld W (.slice os5 ns5 cs5) (unl E2 S) ∧ Ld W (.slice od5 nd5 cd5) (unl E2 L2) := ⟨_, rfl⟩
              have G5 : Hid (P5 v5) := Lib.hid (by rw [hP, hv, hT]; exact ⟨P4n.out _ _ U5.out.1 (al_below _), Blk.new _ _ _, U5.out.2.1.below (al_below _), U5.out.2.2.below (al_below _)⟩)
              have P5f : Hid (∀ W, P5 W → P4 W) := Lib.hid (fun W h => by rw [hP] at h; exact h.1)
              have P5n : Hid (∀ W W', P5 W → Below W.heap.size W W' → P5 W') := Lib.hid (fun W W' h hb => by rw [hP] at h ⊢; exact ⟨P4n.out _ _ h.1 hb, h.2.1.below hb h.2.1.lt, h.2.2.1.below hb, h.2.2.2.below hb⟩)
              have P5t : Hid (∀ W, P5 W → (W.cell? ⟨T5, 0, none⟩ = some (.slice os5 ns5 cs5) ∧ W.cell? ⟨T5, 1, none⟩ = some (.slice od5 nd5 cd5)) ∧ Ld W (.slice os5 ns5 cs5) (unl E2 S) ∧ Ld W (.slice od5 nd5 cd5) (unl E2 L2)) := Lib.hid (fun W h => by rw [hP] at h; exact ⟨⟨(blk2 h.2.1).1, (blk2 h.2.1).2.1⟩, h.2.2⟩)
              clear hv hT hP U5 K5 y0 y1
              obtain ⟨x0, x1, x2, x3⟩ := FRk.out _ (P1f.out _ (P2f.out _ (P3f.out _ (P4f.out _ (P5f.out _ G5.out)))))
              go_upto_region 14 with (go_at_call 10; (with_reducible refine (K6.out _ ((P1f.out _ (P2f.out _ (P3f.out _ (P4f.out _ (P5f.out _ G5.out))))))).mono ?_); rintro e wz6 ⟨os6, ns6, cs6, od6, nd6, cd6, op6, np6, cp6, rfl, h1, h2, h3, hb⟩; have U6 := Lib.hid (And.intro (P5n.out _ _ G5.out hb) (And.intro h1 (And.intro h2 h3))); clear h1 h2 h3 hb)
              obtain ⟨v6, hv⟩ : ∃ v, v = wz6.alloc (.cells #[.slice os6 ns6 cs6, .slice od6 nd6 cd6] 26) := ⟨_, rfl⟩
              obtain ⟨T6, hT⟩ : ∃ T, T = wz6.heap.size := ⟨_, rfl⟩
              rw [← hv, ← hT]
              obtain ⟨P6, hP⟩ : ∃ P : World → Prop, P = fun W => P5 W ∧ Blk W T6 26 #[.slice os6 ns6 cs6, .slice od6 nd6 cd6] ∧ Ld W (.slice os6 ns6 cs6) (S) ∧ Ld W (.slice od6 nd6 cd6) (LM) ∧ Ld W (.slice op6 np6 cp6) (LP) := ⟨_, rfl⟩
              have G6 : Hid (P6 v6) := Lib.hid (by rw [hP, hv, hT]; exact ⟨P5n.out _ _ U6.out.1 (al_below _), Blk.new _ _ _, U6.out.2.1.below (al_below _), U6.out.2.2.1.below (al_below _), U6.out.2.2.2.below (al_below _)⟩)
              have P6f : Hid (∀ W, P6 W → P5 W) := Lib.hid (fun W h => by rw [hP] at h; exact h.1)
              have P6n : Hid (∀ W W', P6 W → Below W.heap.size W W' → P6 W') := Lib.hid (fun W W' h hb => by rw [hP] at h ⊢; exact ⟨P5n.out _ _ h.1 hb, h.2.1.below hb h.2.1.lt, h.2.2.1.below hb, h.2.2.2.1.below hb, h.2.2.2.2.below hb⟩)
              have P6t : Hid (∀ W, P6 W → (W.cell? ⟨T6, 0, none⟩ = some (.slice os6 ns6 cs6) ∧ W.cell? ⟨T6, 1, none⟩ = some (.slice od6 nd6 cd6)) ∧ Ld W (.slice os6 ns6 cs6) (S) ∧ Ld W (.slice od6 nd6 cd6) (LM) ∧ Ld W (.slice op6 np6 cp6) (LP)) := Lib.hid (fun W h => by rw [hP] at h; exact ⟨⟨(blk2 h.2.1).1, (blk2 h.2.1).2.1⟩, h.2.2⟩)
              clear hv hT hP U6 K6 x0 x1 x2 x3
              obtain ⟨⟨y0, y1⟩, _, _⟩ := P1t.out _ (P2f.out _ (P3f.out _ (P4f.out _ (P5f.out _ (P6f.out _ G6.out)))))
              go_upto_region 15 with (go_at_call 10; (with_reducible refine (K7.out _ ((P2f.out _ (P3f.out _ (P4f.out _ (P5f.out _ (P6f.out _ G6.out))))))).mono ?_); rintro e wz7 ⟨os7, ns7, cs7, od7, nd7, cd7, op7, np7, cp7, rfl, h1, h2, h3, hb⟩; have U7 := Lib.hid (And.intro (P6n.out _ _ G6.out hb) (And.intro h1 (And.intro h2 h3))); clear h1 h2 h3 hb)
              obtain ⟨v7, hv⟩ : ∃ v, v = wz7.alloc (.cells #[.slice os7 ns7 cs7, .slice od7 nd7 cd7] 26) := ⟨_, rfl⟩
              obtain ⟨T7, hT⟩ : ∃ T, T = wz7.heap.size := ⟨_, rfl⟩
              rw [← hv, ← hT]
              obtain ⟨P7, hP⟩ : ∃ P : World → Prop, P = fun W => P6 W ∧ Blk W T7 26 #[.slice os7 ns7 cs7, .slice od7 nd7 cd7] ∧ Ld W (.slice os7 ns7 cs7) (S) ∧ Ld W (.slice od7 nd7 cd7) (LM) ∧ Ld W (.slice op7 np7 cp7) (LP) := ⟨_, rfl⟩
              have G7 : Hid (P7 v7) := Lib.hid (by rw [hP, hv, hT]; exact ⟨P6n.out _ _ U7.out.1 (al_below _), Blk.new _ _ _, U7.out.2.1.below (al_below _), U7.out.2.2.1.below (al_below _), U7.out.2.2.2.below (al_below _)⟩)
              have P7f : Hid (∀ W, P7 W → P6 W) := Lib.hid (fun W h => by rw [hP] at h; exact h.1)
              have P7n : Hid (∀ W W', P7 W → Below W.heap.size W W' → P7 W') := Lib.hid (fun W W' h hb => by rw [hP] at h ⊢; exact ⟨P6n.out _ _ h.1 hb, h.2.1.below hb h.2.1.lt, h.2.2.1.below hb, h.2.2.2.1.below hb, h.2.2.2.2.below hb⟩)
              have P7t : Hid (∀ W, P7 W → (W.cell? ⟨T7, 0, none⟩ = some (.slice os7 ns7 cs7) ∧ W.cell? ⟨T7, 1, none⟩ = some (.slice od7 nd7 cd7)) ∧ Ld W (.slice os7 ns7 cs7) (S) ∧ Ld W (.slice od7 nd7 cd7) (LM) ∧ Ld W (.slice op7 np7 cp7) (LP)) := Lib.hid (fun W h => by rw [hP] at h; exact ⟨⟨(blk2 h.2.1).1, (blk2 h.2.1).2.1⟩, h.2.2⟩)
              clear hv hT hP U7 K7 y0 y1
              obtain ⟨⟨y2, y3⟩, _, _⟩ := P2t.out _ (P3f.out _ (P4f.out _ (P5f.out _ (P6f.out _ (P7f.out _ G7.out)))))
              obtain ⟨⟨y4, y5⟩, _, _⟩ := P3t.out _ (P4f.out _ (P5f.out _ (P6f.out _ (P7f.out _ G7.out))))
              go_wp2_with (first | (go_at_call 11; (with_reducible refine (num9_any _ _).mono ?_); rintro e w' ⟨rfl, rfl⟩) | (go_at_call 17; (with_reducible refine (KE1.out _ _ _ _ _ (P2t.out _ (P3f.out _ (P4f.out _ (P5f.out _ (P6f.out _ (P7f.out _ G7.out)))))).2.1 (P2t.out _ (P3f.out _ (P4f.out _ (P5f.out _ (P6f.out _ (P7f.out _ G7.out)))))).2.2 (P3t.out _ (P4f.out _ (P5f.out _ (P6f.out _ (P7f.out _ G7.out))))).2.1 (P3t.out _ (P4f.out _ (P5f.out _ (P6f.out _ (P7f.out _ G7.out))))).2.2).mono ?_); rintro e q1 ⟨rfl, hb⟩; have Q1 := Lib.hid (P7n.out _ _ G7.out hb); have z4_1 := (P4t.out _ (P5f.out _ (P6f.out _ (P7f.out _ Q1.out)))).1.1; have z4_1b := (P4t.out _ (P5f.out _ (P6f.out _ (P7f.out _ Q1.out)))).1.2; have z5_1 := (P5t.out _ (P6f.out _ (P7f.out _ Q1.out))).1.1; have z5_1b := (P5t.out _ (P6f.out _ (P7f.out _ Q1.out))).1.2; have z6_1 := (P6t.out _ (P7f.out _ Q1.out)).1.1; have z6_1b := (P6t.out _ (P7f.out _ Q1.out)).1.2; have z7_1 := (P7t.out _ Q1.out).1.1; have z7_1b := (P7t.out _ Q1.out).1.2; clear hb) | (go_at_call 17; (with_reducible refine (KE2.out _ _ _ _ _ (P4t.out _ (P5f.out _ (P6f.out _ (P7f.out _ Q1.out)))).2.1 (P4t.out _ (P5f.out _ (P6f.out _ (P7f.out _ Q1.out)))).2.2 (P5t.out _ (P6f.out _ (P7f.out _ Q1.out))).2.1 (P5t.out _ (P6f.out _ (P7f.out _ Q1.out))).2.2).mono ?_); rintro e q2 ⟨rfl, hb⟩; have Q2 := Lib.hid (P7n.out _ _ Q1.out hb); have z6_2 := (P6t.out _ (P7f.out _ Q2.out)).1.1; have z6_2b := (P6t.out _ (P7f.out _ Q2.out)).1.2; have z7_2 := (P7t.out _ Q2.out).1.1; have z7_2b := (P7t.out _ Q2.out).1.2; clear hb) | (go_at_call 17; (with_reducible refine (KE3.out _ _ _ _ _ (P6t.out _ (P7f.out _ Q2.out)).2.1 (P6t.out _ (P7f.out _ Q2.out)).2.2.1 (P7t.out _ Q2.out).2.1 (P7t.out _ Q2.out).2.2.1).mono ?_); rintro e q3 ⟨rfl, hb⟩; have Q3 := Lib.hid (P7n.out _ _ Q2.out hb); skip; clear hb) | (go_at_call 23; (with_reducible refine (KEN.out _ _ _ (P6t.out _ (P7f.out _ Q3.out)).2.2.2 (P7t.out _ Q3.out).2.2.2).mono ?_); rintro e q4 ⟨rfl, hb⟩; have F9 := Lib.hid (FRn.out _ _ (G0f.out _ (P2f.out _ (P3f.out _ (P4f.out _ (P5f.out _ (P6f.out _ (P7f.out _ Q3.out))))))) hb); clear hb))
              exact ⟨⟨k + 1, by omega, by go_num, hB.trans ((FRb.out _ F9.out).mono hBs)⟩, by simp [intOf]; omega⟩
          · as_aux_lemma =>
            have hz' : ((sh.length : Int) != 2) = true := by rw [bne_iff_ne]; omega
            clear hz ta
            go_wp2_with (first | (go_at_call 7; (with_reducible refine (LG.out _ (K0.out _)).mono ?_); rintro e w2 ⟨rfl, hb2⟩; have F2 := Lib.hid (FRs.out _ hb2); obtain ⟨x0, x1, x2, x3⟩ := FRk.out _ F2.out; clear hb2) | (go_at_call 8; (with_reducible refine (KMA.out _ (FRb.out _ F2.out)).mono ?_); rintro e w4 ⟨rfl, hb4⟩; have F4 := Lib.hid (FRn.out _ _ F2.out hb4); obtain ⟨x0, x1, x2, x3⟩ := FRk.out _ F4.out; clear hb4))
            exact ⟨⟨k + 1, by omega, by go_num, hB.trans ((FRb.out _ F4.out).mono hBs)⟩, by simp [intOf]; omega⟩

    · as_aux_lemma =>
      by_cases g1 : k < len
      · have g2 : 10 ≤ k := by omega
        clear g
        go_wp2_with (go_at_call 18; (with_reducible refine (wakes9_any _).mono ?_); rintro e w9 ⟨rfl, hb9⟩)
        go_ret
        exact ⟨rfl, hB.trans (hb9.mono hBs)⟩
      · have g2 : len ≤ k := by omega
        clear g g1
        go_wp2_with (go_at_call 18; (with_reducible refine (wakes9_any _).mono ?_); rintro e w9 ⟨rfl, hb9⟩)
        go_ret
        exact ⟨rfl, hB.trans (hb9.mono hBs)⟩
end Go.Proofs.Ytlfijpcpfepfbaa
