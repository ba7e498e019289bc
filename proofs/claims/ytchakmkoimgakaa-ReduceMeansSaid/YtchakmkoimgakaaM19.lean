/-
  ReduceMeans' loop.
-/
import Derived.BigQuiet
import Derived.Test.YtchakmkoimgakaaM01
import Derived.Test.YtchakmkoimgakaaM13
import Derived.Test.YtchakmkoimgakaaM14
import Derived.Test.YtchakmkoimgakaaM18
namespace Go.Proofs.Ytchakmkoimgakaa
open Go.RowKit Go.Shelf

theorem blk4r {W : World} {b : Nat} {v0 v1 v2 v3 : Value} (h : Blk W b 28 #[v0, v1, v2, v3]) : W.cell? ⟨b, 0, none⟩ = some v0 ∧ W.cell? ⟨b, 1, none⟩ = some v1 ∧ W.cell? ⟨b, 2, none⟩ = some v2 ∧ W.cell? ⟨b, 3, none⟩ = some v3 := ⟨h.cell 0, h.cell 1, h.cell 2, h.cell 3⟩
theorem smD_all (sh ds : List Int) (n : Nat) : sms sh (alx sh.length) ds n 0 = smN (fun _ => 0) (fun k => ds.getD k 0) 0 n := by
  unfold sms
  exact smN_same (fun k _ => ⟨into_alx sh k, rfl⟩)
/-- A sum of all. -/
def smD (ds : List Int) (n : Nat) : Int := smN (fun _ => 0) (fun k => ds.getD k 0) 0 n
theorem smD_step (ds : List Int) (n : Nat) : smD ds (n + 1) = smD ds n + ds.getD n 0 := by
  show smN _ _ 0 n + (if (0 : Int) = 0 then ds.getD n 0 else 0) = _
  rw [if_pos rfl]; rfl
theorem rde_one (sh ds : List Int) (D : Int) : rde sh ds (alx sh.length) D 1 = te (rd (smD ds ds.length) D) ∧ rdv sh ds (alx sh.length) D 1 = [tw (rd (smD ds ds.length) D)] := by
  constructor
  · unfold rde
    show (if (0 : Int) = 0 then cer (sms sh (alx sh.length) ds ds.length) D 0 else 0) = _
    rw [if_pos rfl]
    unfold cer
    rw [smD_all]; rfl
  · unfold rdv
    show [cva (sms sh (alx sh.length) ds ds.length) D 0] = _
    unfold cva
    rw [smD_all]; rfl
theorem mean_bd {ds : List Int} {lo hi : Int} {n : Nat} (hn : 0 < n) (h : ∀ k, k < n → lo ≤ ds.getD k 0 ∧ ds.getD k 0 ≤ hi) : lo ≤ rd (smD ds n) n ∧ rd (smD ds n) n ≤ hi := by
  have hb := smN_all (d := fun k => ds.getD k 0) (lo := lo) (hi := hi) (n := n) h
  have h1 := rd_mono (d := (n : Int)) (by omega) hb.1
  have h2 := rd_mono (d := (n : Int)) (by omega) hb.2
  rw [rd_whole _ (by omega)] at h1 h2
  exact ⟨h1, h2⟩
theorem tdiv_halves (S : Int) (h : -9223372036854775807 ≤ S ∧ S ≤ 9223372036854775807) : -9223372036854775808 ≤ S.tdiv 2 ∧ S.tdiv 2 ≤ 9223372036854775807 ∧ -9223372036854775808 ≤ S - S.tdiv 2 ∧ S - S.tdiv 2 ≤ 9223372036854775807 := by
  rcases Int.le_total 0 S with g | g
  · rw [Int.tdiv_eq_ediv_of_nonneg g]; omega
  · obtain ⟨T, rfl⟩ : ∃ T, S = -T := ⟨-S, by omega⟩
    rw [Int.neg_tdiv, Int.tdiv_eq_ediv_of_nonneg (by omega)]; omega
theorem mean1 (vA vX v : Value) (sh ds : List Int) (W : World) (hA : Ld W vA sh) (hX : Ld W vX ds) (hv : Ld W v (alx sh.length)) (ta : tnb sh ds = true) (hw : wd (rd (smD ds ds.length) ds.length) = true) :
    Calls Try.prog 18 #[.agg #[vA, vX], v] W fun e w' => ∃ p1 c1 q1 d1, e = .returned (.tuple #[.agg #[.slice p1 0 c1, .slice q1 1 d1], .int .i64 0]) ∧ Ld w' (.slice q1 1 d1) [rd (smD ds ds.length) ds.length] ∧ Below W.heap.size W w' := by
  have l4 := may_len (tnb_parts ta).1
  have h0 := mean_ok vA vX v sh ds (alx sh.length) 1 W hA hX hv (by rw [alx_len]; omega) ta (alx_axb _) (by rw [lf_alx]; rfl)
  obtain ⟨E, hE⟩ : ∃ E, E = rde sh ds (alx sh.length) (ds.length / 1 : Nat) 1 := ⟨_, rfl⟩
  obtain ⟨V, hV⟩ : ∃ V, V = rdv sh ds (alx sh.length) (ds.length / 1 : Nat) 1 := ⟨_, rfl⟩
  rw [← hE, ← hV, lf_alx] at h0
  have e1 : E = 0 := by rw [hE, (rde_one sh ds _).1, Nat.div_one]; exact if_pos hw
  have e2 : V = [rd (smD ds ds.length) ds.length] := by rw [hV, (rde_one sh ds _).2, Nat.div_one, show tw (rd (smD ds ds.length) ds.length) = rd (smD ds ds.length) ds.length from if_pos hw]
  rw [e1, e2] at h0
  clear hE hV e1 e2
  exact h0.mono (fun e w' hh => by
    obtain ⟨p1, c1, q1, d1, rfl, _, h2, h3⟩ := ty_of hh
    exact ⟨p1, c1, q1, d1, rfl, h2, h3⟩)
theorem sum1 (vA vX v : Value) (sh ds : List Int) (W : World) (hA : Ld W vA sh) (hX : Ld W vX ds) (hv : Ld W v (alx sh.length)) (ta : tnb sh ds = true) :
    Calls Try.prog 15 #[.agg #[vA, vX], v] W (Ty W (te (smD ds ds.length)) (unl (te (smD ds ds.length)) []) (unl (te (smD ds ds.length)) [tw (smD ds ds.length)])) := by
  have l4 := may_len (tnb_parts ta).1
  have h0 := sum_ok vA vX v sh ds (alx sh.length) 1 W hA hX hv (by rw [alx_len]; omega) ta (alx_axb _) (by rw [lf_alx]; rfl)
  rw [(rde_one sh ds 1).1, (rde_one sh ds 1).2, lf_alx, rd_by1] at h0
  exact h0.mono (fun _ _ hh => ty_of hh)
theorem means_last {S mm lo hi : Int} {N : Nat} (h60 : 1 ≤ N ∧ N ≤ 60) (hmr : -140737488355327 ≤ mm ∧ mm ≤ 140737488355327) (hsr : -(140737488355327 * (N : Int)) ≤ S ∧ S ≤ 140737488355327 * (N : Int)) (hhf : 2 * ((S - mm * N).natAbs : Int) ≤ N) (hmb : lo ≤ mm ∧ mm ≤ hi) :
    ∃ P Q A B Q2 Nn : Int, wrap64 (mm * (N : Int)) = P ∧ wrap64 (P - S) = Q ∧ wrap64 (2 * Q) = Q2 ∧ wrap64 (-(N : Int)) = Nn ∧ wrap64 (S.tdiv 2) = A ∧ IntKind.i64.wrap (S.tdiv 2) = A ∧ wrap64 (S - A) = B ∧ ¬ mm < lo ∧ ¬ hi < mm ∧ ¬ (N : Int) < Q2 ∧ ¬ Q2 < Nn ∧ ¬ Q2 < -(N : Int) ∧
      Hid (∀ W : World, Calls Try.prog 19 #[.int .i64 A, .int .i64 B] W fun e w' => e = .returned (.tuple #[.int .i64 (tw S), .int .i64 (te S)]) ∧ Below W.heap.size W w') := by
  have _ := hmr
  obtain ⟨P, hP⟩ : ∃ P, P = mm * (N : Int) := ⟨_, rfl⟩
  rw [← hP] at hhf ⊢
  have hth := tdiv_halves S (by omega)
  refine ⟨P, P - S, S.tdiv 2, S - S.tdiv 2, 2 * (P - S), -(N : Int), IntWalk.wrap64_in _ (by omega), IntWalk.wrap64_in _ (by omega), IntWalk.wrap64_in _ (by omega), IntWalk.wrap64_in _ (by omega), IntWalk.wrap64_in _ ⟨hth.1, hth.2.1⟩, IntWalk.i64_in _ ⟨hth.1, hth.2.1⟩, IntWalk.wrap64_in _ hth.2.2, by omega, by omega, by omega, by omega, by omega, Lib.hid (fun W => ?_)⟩
  have h := r2add_any (S.tdiv 2) (S - S.tdiv 2) W hth.1 hth.2.1 hth.2.2.1 hth.2.2.2
  rwa [show S.tdiv 2 + (S - S.tdiv 2) = S by omega] at h
theorem sum_yes {va vX v : Value} {W : World} {s : Int} (h : Calls Try.prog 15 #[.agg #[va, vX], v] W (Ty W (te s) (unl (te s) []) (unl (te s) [tw s]))) (hw : wd s = true) : Calls Try.prog 15 #[.agg #[va, vX], v] W fun e w' => ∃ p1 c1 q1 d1, e = .returned (.tuple #[.agg #[.slice p1 0 c1, .slice q1 1 d1], .int .i64 0]) ∧ Ld w' (.slice q1 1 d1) [s] ∧ Below W.heap.size W w' := by
  rw [show te s = 0 from if_pos hw, show tw s = s from if_pos hw] at h
  exact h.mono (fun e w' hh => by
    obtain ⟨p1, c1, q1, d1, rfl, _, h2, h3⟩ := hh
    exact ⟨p1, c1, q1, d1, rfl, h2, h3⟩)
theorem sum_not {va vX v : Value} {W : World} {s : Int} (h : Calls Try.prog 15 #[.agg #[va, vX], v] W (Ty W (te s) (unl (te s) []) (unl (te s) [tw s]))) (hw : wd s = false) : Calls Try.prog 15 #[.agg #[va, vX], v] W fun e w' => ∃ p1 c1 q1 d1, e = .returned (.tuple #[.agg #[.slice p1 0 c1, .slice q1 0 d1], .int .i64 3]) ∧ Ld w' (.slice q1 0 d1) [] ∧ Below W.heap.size W w' := by
  rw [show te s = 3 from if_neg (by rw [hw]; decide)] at h
  exact h.mono (fun e w' hh => by
    obtain ⟨p1, c1, q1, d1, rfl, _, h2, h3⟩ := hh
    exact ⟨p1, c1, q1, d1, rfl, h2, h3⟩)
theorem means_num {sh ds : List Int} (ta : tnb sh ds = true) (h60 : (ds.length : Int) ≤ 60) :
    (1 ≤ ds.length ∧ ds.length ≤ 60) ∧ (∀ q, q < ds.length → -140737488355327 ≤ ds.getD q 0 ∧ ds.getD q 0 ≤ 140737488355327) ∧ wd (rd (smD ds ds.length) ds.length) = true ∧ (-140737488355327 ≤ rd (smD ds ds.length) ds.length ∧ rd (smD ds ds.length) ds.length ≤ 140737488355327) ∧ (-(140737488355327 * (ds.length : Int)) ≤ smD ds ds.length ∧ smD ds ds.length ≤ 140737488355327 * (ds.length : Int)) ∧
    2 * ((smD ds ds.length - rd (smD ds ds.length) ds.length * ds.length).natAbs : Int) ≤ ds.length := by
  obtain ⟨hm, hdl, hwd⟩ := tnb_parts ta
  have hpr := may_prod hm
  have hwb : ∀ q, q < ds.length → -140737488355327 ≤ ds.getD q 0 ∧ ds.getD q 0 ≤ 140737488355327 := fun q hq => by have := wd_bd (wd_mk (wds_at hwd hq)); omega
  have hmb := mean_bd (n := ds.length) (by omega) hwb
  have hhf := (half_math (smD ds ds.length) ds.length (by omega)).1
  exact ⟨by omega, hwb, wd_mk ⟨by omega, by omega⟩, hmb, smN_bd (by decide) (fun q hq => hwb q hq), by simpa using hhf⟩

set_option maxRecDepth 100000 in
set_option maxHeartbeats 6000000 in
theorem reducemeans_any (bb oo len cap : Nat) (es : Nat → Rk) (w : World) (_hl : len ≤ 9223372036854775807) (hb : bb < w.heap.size) (hT : ∀ i, i < len → RkAt w bb (oo + i * 4) (es i)) (hok : ∀ i, i < len → (es i).ok w) :
    Calls Try.prog 4 #[.slice (some ⟨bb, oo, none⟩) len cap] w fun e w' => e = .returned (.bool true) ∧ Below w.heap.size w w' := by
  have HT := Lib.hid (And.intro hT hok)
  clear hT hok
  go_enter Try.func4, Try.ntmps4
  go_wp2
  go_loopw [3] (fun s3 wQ => ∃ k : Nat, k ≤ len ∧ s3 = .int .i64 k ∧ Below w.heap.size w wQ) (fun s3 _ => len - (intOf s3).toNat)
  case atStart => exact ⟨0, Nat.zero_le _, rfl, Below.refl _ _⟩
  case round =>
    obtain ⟨k, hk, rfl, hB⟩ := hrel
    have hBs := hB.size
    obtain ⟨w1, hw1⟩ : ∃ w1, w1 = wr := ⟨_, rfl⟩
    subst hw1
    by_cases g : k < len ∧ k < 10
    · obtain ⟨g1, g2⟩ := g
      obtain ⟨t0, t1, t2, t3⟩ := (HT.out.1 k (by omega)).below hB hb
      obtain ⟨⟨hA, hX, hV⟩, ⟨l0, l1, l2⟩, ⟨a0, a1⟩⟩ := HT.out.2 k (by omega)
      replace hA := hA.below hB
      replace hX := hX.below hB
      replace hV := hV.below hB
      generalize es k = p at *
      obtain ⟨vA, vX, vV, sh, ds, ax, a⟩ := p
      simp only at t0 t1 t2 t3 hA hX hV l0 l1 l2 a0 a1
      obtain ⟨oA, cA, rfl, _, _⟩ := id hA
      obtain ⟨oX, cX, rfl, _, hxX⟩ := id hX
      obtain ⟨oV, cV, rfl, _, _⟩ := id hV
      have HXX := Lib.hid hxX
      clear hxX
      have K0 := Lib.hid (fun o => (Below.refl w1.heap.size w1).alloc (Nat.le_refl _) o)
      have K4 := Lib.hid (Blk.new w1 28 #[.slice oA sh.length cA, .slice oX ds.length cX, .slice oV ax.length cV, .int .i64 a])
      obtain ⟨FR, hFR⟩ : ∃ FR : World → Prop, FR = fun W => Below w1.heap.size w1 W ∧ Blk W w1.heap.size 28 #[.slice oA sh.length cA, .slice oX ds.length cX, .slice oV ax.length cV, .int .i64 a] := ⟨_, rfl⟩
      have FRb : Hid (∀ W, FR W → Below w1.heap.size w1 W) := Lib.hid (fun W h => by rw [hFR] at h; exact h.1)
      have FRk := Lib.hid (fun (W : World) (h : FR W) => blk4r (by rw [hFR] at h; exact h.2 : Blk W w1.heap.size 28 #[.slice oA sh.length cA, .slice oX ds.length cX, .slice oV ax.length cV, .int .i64 a]))
      have FRn : Hid (∀ W W', FR W → Below W.heap.size W W' → FR W') := Lib.hid (fun W W' h hb => by rw [hFR] at h ⊢; exact ⟨h.1.trans (hb.mono h.1.size), h.2.below hb h.2.lt⟩)
      have FRl : Hid (∀ W, FR W → w1.heap.size < W.heap.size) := Lib.hid (fun W h => by rw [hFR] at h; exact h.2.lt)
      have FRs : Hid (∀ W, Below (w1.alloc (.cells #[.slice oA sh.length cA, .slice oX ds.length cX, .slice oV ax.length cV, .int .i64 a] 28)).heap.size (w1.alloc (.cells #[.slice oA sh.length cA, .slice oX ds.length cX, .slice oV ax.length cV, .int .i64 a] 28)) W → FR W) := Lib.hid (fun W h => by rw [hFR]; exact ⟨(K0.out _).trans (h.mono (by simp)), K4.out.below h K4.out.lt⟩)
      clear hFR
      have LG := Lib.hid (fun (W : World) (hW : Below w1.heap.size w1 W) => heavy8_any _ _ sh ds 60 W (hA.below hW) (hX.below hW) (by omega) (by omega))
      cases lg : hv8 60 sh ds with
      | true =>
        as_aux_lemma =>
        rw [lg] at LG
        clear lg hA hX hV
        go_wp2_with (go_at_call 6; (with_reducible refine (LG.out _ (K0.out _)).mono ?_); rintro e w2 ⟨rfl, hb2⟩; have F2 := Lib.hid (FRs.out _ hb2); obtain ⟨x0, x1, x2, x3⟩ := FRk.out _ F2.out; clear hb2)
        go_ret
        exact ⟨rfl, hB.trans ((FRb.out _ F2.out).mono hBs)⟩
      | false =>
        rw [lg] at LG
        have na := hv8_no lg
        have HL := Lib.hid (And.intro hA (And.intro hX hV))
        have KMA := Lib.hid (fun (W : World) (hW : Below w1.heap.size w1 W) => rmay8_any _ _ sh ds W (hA.below hW) (hX.below hW) (by omega) (by omega))
        clear lg hA hX hV
        cases ta : tnb sh ds with
        | false =>
          as_aux_lemma =>
          rw [ta] at KMA
          clear ta
          go_wp2_with (first | (go_at_call 6; (with_reducible refine (LG.out _ (K0.out _)).mono ?_); rintro e w2 ⟨rfl, hb2⟩; have F2 := Lib.hid (FRs.out _ hb2); obtain ⟨x0, x1, x2, x3⟩ := FRk.out _ F2.out; clear hb2) | (go_at_call 7; (with_reducible refine (KMA.out _ (FRb.out _ F2.out)).mono ?_); rintro e w4 ⟨rfl, hb4⟩; have F4 := Lib.hid (FRn.out _ _ F2.out hb4); obtain ⟨x0, x1, x2, x3⟩ := FRk.out _ F4.out; clear hb4))
          exact ⟨⟨k + 1, by omega, by go_num, hB.trans ((FRb.out _ F4.out).mono hBs)⟩, by simp [intOf]; omega⟩
        | true =>
          as_aux_lemma =>
          rw [ta] at KMA
          obtain ⟨i0, hi0, hz0, hz1, hz2⟩ := info_parts infoI
          have lsh := may_len (tnb_parts ta).1
          have MN := Lib.hid (means_num ta na.1)
          have KMS : Hid (∀ W v, FR W → Ld W v (alx sh.length) → (Calls Try.prog 18 #[.agg #[.slice oA sh.length cA, .slice oX ds.length cX], v] W fun e w' => ∃ p1 c1 q1 d1, e = .returned (.tuple #[.agg #[.slice p1 0 c1, .slice q1 1 d1], .int .i64 0]) ∧ Ld w' (.slice q1 1 d1) [rd (smD ds ds.length) ds.length] ∧ Below W.heap.size W w') ∧
              Calls Try.prog 15 #[.agg #[.slice oA sh.length cA, .slice oX ds.length cX], v] W (Ty W (te (smD ds ds.length)) (unl (te (smD ds ds.length)) []) (unl (te (smD ds ds.length)) [tw (smD ds ds.length)]))) := Lib.hid (fun W v h hv =>
            ⟨mean1 _ _ v sh ds W (HL.out.1.below (FRb.out _ h)) (HL.out.2.1.below (FRb.out _ h)) hv ta MN.out.2.2.1, sum1 _ _ v sh ds W (HL.out.1.below (FRb.out _ h)) (HL.out.2.1.below (FRb.out _ h)) hv ta⟩)
          have hn2 : 0 < ds.length := MN.out.1.1
          have HLN := Lib.hid MN.out.1
          obtain ⟨bX, fX, rfl, hx1, hx2⟩ := HXX.out 0 hn2
          obtain ⟨mm, hmm⟩ : ∃ mm, mm = rd (smD ds ds.length) ds.length := ⟨_, rfl⟩
          obtain ⟨S, hS⟩ : ∃ S, S = smD ds ds.length := ⟨_, rfl⟩
          rw [← hmm] at MN KMS
          rw [← hS] at MN KMS
          have HSM := Lib.hid (And.intro hS (hmm.trans (by rw [← hS])))
          have KME := Lib.hid (fun W v h hv => (KMS.out W v h hv).1)
          clear hS hmm ta hn2 na
          go_wp2_with (first | (go_at_call 6; (with_reducible refine (LG.out _ (K0.out _)).mono ?_); rintro e w2 ⟨rfl, hb2⟩; have F2 := Lib.hid (FRs.out _ hb2); obtain ⟨x0, x1, x2, x3⟩ := FRk.out _ F2.out; clear hb2) | (go_at_call 7; (with_reducible refine (KMA.out _ (FRb.out _ F2.out)).mono ?_); rintro e w4 ⟨rfl, hb4⟩; have F4 := Lib.hid (FRn.out _ _ F2.out hb4); obtain ⟨x0, x1, x2, x3⟩ := FRk.out _ F4.out; clear hb4))
          go_loopw [5, 6] (fun s5 s6 wQ => ∃ j : Nat, j ≤ sh.length ∧ s6 = .int .i64 j ∧ Hid (wQ.ownsRow w4.heap.size 3 1 s5 j (ints (alx j))) ∧ Hid (Below w4.heap.size w4 wQ)) (fun _ s6 _ => sh.length - (intOf s6).toNat)
          case atStart => exact ⟨0, Nat.zero_le _, rfl, Lib.hid (World.ownsRow_nil _ _ _ _), Lib.hid (Below.refl _ _)⟩
          case round =>
            obtain ⟨j, hj, rfl, HO, HB⟩ := hrel
            obtain ⟨x0, x1, x2, x3⟩ := FRk.out _ (FRn.out _ _ F4.out HB.out)
            have hbs := HB.out.size
            by_cases hlt : j < sh.length
            · as_aux_lemma =>
              have EA : Hid (ints (alx (j + 1)) = ints (alx j) ++ [.int .i64 (j : Int)]) := Lib.hid (by rw [alx_snoc, ints_snoc])
              go_wp2_with (at_builtin; refine wpList_append_own _ rfl _ _ 23 rfl w4.heap.size 3 i0 (.int .i64 0) 1 8 Try.underlying23 hi0 hz0 hz1 hz2 rfl (by decide) _ j (ints (alx j)) rfl (HO.out.alloc _) ⟨wr.heap.size, 0, none⟩ 1 1 [.int .i64 (j : Int)] rfl rfl ?c1 ?c2 ?c3 ?c4 ?c5 ?_)
              case c1 => exact (cell_one_new _ _ _)
              case c2 => simp [Value.oneCell']
              case c3 => unfold maxLen; omega
              case c4 => omega
              case c5 => simp; omega
              intro u9 w9 hown1 hgrow _
              have HB9 := Lib.hid ((HB.out.alloc hbs (.cells #[.int .i64 (j : Int)] 3)).grown hgrow (by simp; omega) (fun q e => (HO.out.lt q e).1))
              have HO9 : Hid (w9.ownsRow w4.heap.size 3 1 u9 (j + 1) (ints (alx (j + 1)))) := Lib.hid (by rw [EA.out]; exact hown1)
              clear hown1 hgrow
              go_wp2
              exact ⟨⟨j + 1, by omega, by go_num, HO9, HB9⟩, by simp [intOf]; omega⟩
            · as_aux_lemma =>
              obtain rfl : j = sh.length := by omega
              obtain ⟨wm, hwm'⟩ : ∃ wm, wm = wr := ⟨_, rfl⟩
              subst hwm'
              obtain ⟨o5, c5, rfl⟩ := own_form1 HO.out
              have LM := Lib.hid (own_ld HO.out (alx_len _))
              have FM := Lib.hid (FRn.out _ _ F4.out HB.out)
              clear hlt
              go_upto_region 16 with (first | (go_at_call 18; (with_reducible refine (KME.out _ _ FM.out LM.out).mono ?_); rintro e w6 ⟨p1, c1', q1, d1', rfl, h1, hb⟩; have V1 := Lib.hid h1; have F6 := Lib.hid (FRn.out _ _ FM.out hb); have LM6 := Lib.hid (LM.out.below hb); obtain ⟨x0, x1, x2, x3⟩ := FRk.out _ (FRn.out _ _ F6.out (al_below (.cells #[.slice p1 0 c1', .slice q1 1 d1'] 26))); clear h1 hb) | (go_at_call 10; (with_reducible refine (num9_any _ _).mono ?_); rintro e w' ⟨rfl, rfl⟩))
              obtain ⟨wv, hwv⟩ : ∃ wv, wv = w6.alloc (.cells #[.slice p1 0 c1', .slice q1 1 d1'] 26) := ⟨_, rfl⟩
              obtain ⟨TB, hTB⟩ : ∃ TB, TB = w6.heap.size := ⟨_, rfl⟩
              rw [← hwv, ← hTB]
              have QB : Hid (Blk wv TB 26 #[.slice p1 0 c1', .slice q1 1 d1']) := Lib.hid (by rw [hwv, hTB]; exact Blk.new _ _ _)
              have FV : Hid (FR wv) := Lib.hid (by rw [hwv]; exact FRn.out _ _ F6.out (al_below _))
              have LV : Hid (Ld wv (.slice o5 sh.length c5) (alx sh.length)) := Lib.hid (by rw [hwv]; exact LM6.out.below (al_below _))
              have VV : Hid (Ld wv (.slice q1 1 d1') [mm]) := Lib.hid (by rw [hwv]; exact V1.out.below (al_below _))
              have HXd : Hid (∀ (W : World) (q : Nat), FR W → q < ds.length → W.cell? ⟨bX, fX + q, none⟩ = some (.int .i64 (ds.getD q 0))) := Lib.hid (fun W q hW hq => by
                obtain ⟨b, f, e, e2, e3⟩ := HXX.out q hq
                cases e
                exact ((FRb.out W hW).cell (p := ⟨bX, fX + q, none⟩) e2).trans e3)
              clear hwv hTB V1 LM6 F6 hx1 hx2 x0 x1 x2 x3
              obtain ⟨x0, x1, x2, x3⟩ := FRk.out _ FV.out
              have z1 := HXd.out wv 0 FV.out HLN.out.1
              rw [Nat.add_zero] at z1
              have z2 : (0 : Int) < (ds.length : Int) := by have := HLN.out.1; omega
              go_cut [9, 10] (fun s9 s10 wx => s9 = .int .i64 (ds.getD 0 0) ∧ s10 = .int .i64 (ds.getD 0 0) ∧ Hid (FR wx ∧ Below wv.heap.size wv wx))
              case first =>
                as_aux_lemma =>
                generalize ds.getD 0 0 = d0 at *
                have hfr := Lib.hid (FRn.out _ _ FV.out (below_drw (Below.refl _ _) 1))
                go_quiet (fail)
                go_wp2
                go_meet
                exact ⟨rfl, rfl, Lib.hid ⟨FRn.out _ _ FV.out (below_drw (Below.refl _ _) _), below_drw (Below.refl _ _) _⟩⟩
              case rest =>
                obtain ⟨rfl, rfl, HC⟩ := hcut
                have FC := Lib.hid HC.out.1
                have QC := Lib.hid (QB.out.below HC.out.2 QB.out.lt)
                have LC := Lib.hid (LV.out.below HC.out.2)
                have VC := Lib.hid (VV.out.below HC.out.2)
                clear x0 x1 x2 x3 z1 z2 HC QB LV VV FV
                go_wp2
                go_loopw [9, 10, 11, 12] (fun s9 s10 s11 s12 wQ => ∃ (j : Nat) (lo hi s : Int), j ≤ ds.length ∧ s9 = .int .i64 lo ∧ s10 = .int .i64 hi ∧ s11 = .int .i64 s ∧ s12 = .int .i64 j ∧ Hid (s = smD ds j ∧ (∀ q, q < j → lo ≤ ds.getD q 0 ∧ ds.getD q 0 ≤ hi)) ∧ Hid (wQ = wc)) (fun _ _ _ s12 _ => ds.length - (intOf s12).toNat)
                case atStart => exact ⟨0, _, _, 0, Nat.zero_le _, rfl, rfl, rfl, rfl, Lib.hid ⟨rfl, fun q hq => absurd hq (Nat.not_lt_zero _)⟩, Lib.hid rfl⟩
                case round =>
                  obtain ⟨j, lo, hi, s, hj, rfl, rfl, rfl, rfl, HI, HE⟩ := hrel
                  have he := HE.out
                  subst he
                  obtain ⟨x0, x1, x2, x3⟩ := FRk.out _ FC.out
                  by_cases hlt : j < ds.length
                  · as_aux_lemma =>
                    have z1 := HXd.out _ j FC.out hlt
                    have hs2 : s + ds.getD j 0 = smD ds (j + 1) := by rw [smD_step, HI.out.1]
                    have hsb : -9223372036854775808 ≤ s + ds.getD j 0 ∧ s + ds.getD j 0 ≤ 9223372036854775807 := by
                      have h60 := HLN.out
                      have := smN_bd (key := fun _ => 0) (d := fun k => ds.getD k 0) (m := 0) (B := 140737488355327) (by decide) (n := j + 1) (fun q hq => MN.out.2.1 q (by omega))
                      have e : smD ds (j + 1) = smN (fun _ => 0) (fun k => ds.getD k 0) 0 (j + 1) := rfl
                      omega
                    have HI2 : Hid (∀ l h : Int, l ≤ lo → l ≤ ds.getD j 0 → hi ≤ h → ds.getD j 0 ≤ h → ∀ q, q < j + 1 → l ≤ ds.getD q 0 ∧ ds.getD q 0 ≤ h) := Lib.hid (fun l h h1 h2 h3 h4 q hq => by
                      by_cases e : q = j
                      · subst e; exact ⟨h2, h4⟩
                      · have := HI.out.2 q (by omega); omega)
                    generalize ds.getD j 0 = d at *
                    have ew : wrap64 (s + d) = s + d := IntWalk.wrap64_in _ hsb
                    have ew2 : IntKind.i64.wrap (s + d) = s + d := IntWalk.i64_in _ hsb
                    have HS2 := Lib.hid hs2
                    clear hs2 hsb
                    by_cases c1 : d < lo
                    · by_cases c2 : hi < d
                      · go_wp2
                        clear ew ew2
                        refine ⟨⟨j + 1, _, _, s + d, by omega, rfl, rfl, rfl, by go_num, Lib.hid ⟨HS2.out, HI2.out _ _ ?_ ?_ ?_ ?_⟩, by first | exact Lib.hid rfl | exact Lib.hid trivial⟩, by simp [intOf]; omega⟩ <;> omega
                      · go_wp2
                        clear ew ew2
                        refine ⟨⟨j + 1, _, _, s + d, by omega, rfl, rfl, rfl, by go_num, Lib.hid ⟨HS2.out, HI2.out _ _ ?_ ?_ ?_ ?_⟩, by first | exact Lib.hid rfl | exact Lib.hid trivial⟩, by simp [intOf]; omega⟩ <;> omega
                    · by_cases c2 : hi < d
                      · go_wp2
                        clear ew ew2
                        refine ⟨⟨j + 1, _, _, s + d, by omega, rfl, rfl, rfl, by go_num, Lib.hid ⟨HS2.out, HI2.out _ _ ?_ ?_ ?_ ?_⟩, by first | exact Lib.hid rfl | exact Lib.hid trivial⟩, by simp [intOf]; omega⟩ <;> omega
                      · go_wp2
                        clear ew ew2
                        refine ⟨⟨j + 1, _, _, s + d, by omega, rfl, rfl, rfl, by go_num, Lib.hid ⟨HS2.out, HI2.out _ _ ?_ ?_ ?_ ?_⟩, by first | exact Lib.hid rfl | exact Lib.hid trivial⟩, by simp [intOf]; omega⟩ <;> omega
                  · as_aux_lemma =>
                    obtain rfl : j = ds.length := by omega
                    have hsS : s = S := HI.out.1.trans HSM.out.1.symm
                    subst hsS
                    have hmb : lo ≤ mm ∧ mm ≤ hi := by
                      have h := mean_bd (n := ds.length) HLN.out.1 HI.out.2
                      rw [← HSM.out.1, ← HSM.out.2] at h
                      exact h
                    obtain ⟨x0, x1, x2, x3⟩ := FRk.out _ FC.out
                    obtain ⟨y0, y1, _, _⟩ := blk2 QC.out
                    obtain ⟨ov, cv, ev, _, hv⟩ := VC.out
                    simp only [Value.slice.injEq] at ev
                    obtain ⟨rfl, hlen1, rfl⟩ := ev
                    clear hlen1
                    obtain ⟨bm, fm, rfl, _, zm0⟩ := hv 0 (by simp)
                    have zm : wr.cell? ⟨bm, fm, none⟩ = some (.int .i64 mm) := zm0
                    obtain ⟨P, Q, A, B, Q2, Nn, e1, e2, e3, e4, e5, e5b, e6, c1, c2, c3, c4, c5, KAD0⟩ := means_last MN.out.1 MN.out.2.2.2.1 MN.out.2.2.2.2.1 MN.out.2.2.2.2.2 hmb
                    have KSU0 := Lib.hid (fun W v h hv => (KMS.out W v h hv).2)
                    have FZ := FC
                    have LZ := LC
                    clear hmb hv zm0 HI hj hlt KME KMA LG K0 K4 FRs HXd
                    cases hws : wd s with
                    | true =>
                      have KSU := Lib.hid (fun W v h hv => sum_yes (KSU0.out W v h hv) hws)
                      rw [show tw s = s from if_pos hws, show te s = 0 from if_pos hws] at KAD0
                      have KAD := KAD0
                      clear hws KSU0 KAD0
                      go_wp2_with (first | (go_at_call 15; (with_reducible refine (KSU.out _ _ FZ.out LZ.out).mono ?_); rintro e w8 ⟨p2, c2', q2, d2', rfl, h1, hb⟩; have V2 := Lib.hid h1; have F8 := Lib.hid (FRn.out _ _ FZ.out hb); obtain ⟨x0, x1, x2, x3⟩ := FRk.out _ (FRn.out _ _ F8.out (al_below (.cells #[.slice p2 0 c2', .slice q2 1 d2'] 26))); clear h1 hb) | (go_at_call 19; (with_reducible refine (KAD.out _).mono ?_); rintro e w10 ⟨rfl, hb⟩; have F10 := Lib.hid (FRn.out _ _ (FRn.out _ _ F8.out (al_below _)) hb); have Q10 := Lib.hid ((Blk.new w8 26 #[.slice p2 0 c2', .slice q2 1 d2']).below hb (Blk.new w8 _ _).lt); have V10 := Lib.hid ((V2.out.below (al_below _)).below hb); obtain ⟨y0, y1, _, _⟩ := blk2 Q10.out; obtain ⟨os, cs, es, _, hs2⟩ := V10.out; simp only [Value.slice.injEq] at es; obtain ⟨rfl, hlen2, rfl⟩ := es; clear hlen2; obtain ⟨b2, f2, rfl, _, zs0⟩ := hs2 0 (by simp); have zs : w10.cell? ⟨b2, f2, none⟩ = some (.int .i64 s) := zs0; clear hb zs0 hs2) | (go_at_call 10; (with_reducible refine (num9_any _ _).mono ?_); rintro e w' ⟨rfl, rfl⟩))
                      clear e1 e2 e3 e4 e5 e5b e6
                      exact ⟨⟨k + 1, by omega, by go_num, hB.trans ((FRb.out _ F10.out).mono hBs)⟩, by simp [intOf]; omega⟩
                    | false =>
                      have KSU := Lib.hid (fun W v h hv => sum_not (KSU0.out W v h hv) hws)
                      rw [show tw s = 0 from if_neg (by rw [hws]; decide), show te s = 3 from if_neg (by rw [hws]; decide)] at KAD0
                      have KAD := KAD0
                      clear hws KSU0 KAD0
                      go_wp2_with (first | (go_at_call 15; (with_reducible refine (KSU.out _ _ FZ.out LZ.out).mono ?_); rintro e w8 ⟨p2, c2', q2, d2', rfl, h1, hb⟩; have V2 := Lib.hid h1; have F8 := Lib.hid (FRn.out _ _ FZ.out hb); obtain ⟨x0, x1, x2, x3⟩ := FRk.out _ (FRn.out _ _ F8.out (al_below (.cells #[.slice p2 0 c2', .slice q2 0 d2'] 26))); clear h1 hb) | (go_at_call 19; (with_reducible refine (KAD.out _).mono ?_); rintro e w10 ⟨rfl, hb⟩; have F10 := Lib.hid (FRn.out _ _ (FRn.out _ _ F8.out (al_below _)) hb); have Q10 := Lib.hid ((Blk.new w8 26 #[.slice p2 0 c2', .slice q2 0 d2']).below hb (Blk.new w8 _ _).lt); have V10 := Lib.hid ((V2.out.below (al_below _)).below hb); obtain ⟨y0, y1, _, _⟩ := blk2 Q10.out; clear hb) | (go_at_call 10; (with_reducible refine (num9_any _ _).mono ?_); rintro e w' ⟨rfl, rfl⟩))
                      clear e1 e2 e3 e4 e5 e5b e6
                      exact ⟨⟨k + 1, by omega, by go_num, hB.trans ((FRb.out _ F10.out).mono hBs)⟩, by simp [intOf]; omega⟩

    · as_aux_lemma =>
      by_cases g1 : k < len
      · have g2 : 10 ≤ k := by omega
        clear g
        go_wp2_with (go_at_call 17; (with_reducible refine (wakes9_any _).mono ?_); rintro e w9 ⟨rfl, hb9⟩)
        go_ret
        exact ⟨rfl, hB.trans (hb9.mono hBs)⟩
      · have g2 : len ≤ k := by omega
        clear g g1
        go_wp2_with (go_at_call 17; (with_reducible refine (wakes9_any _).mono ?_); rintro e w9 ⟨rfl, hb9⟩)
        go_ret
        exact ⟨rfl, hB.trans (hb9.mono hBs)⟩
end Go.Proofs.Ytchakmkoimgakaa
