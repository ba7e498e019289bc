/-
  LossHubers' loop.
-/
import Derived.BigQuiet
import Derived.BigRegion
import Derived.Test.YtocoedpmcognpaaM06
import Derived.Test.YtocoedpmcognpaaM07
namespace Go.Proofs.Ytocoedpmcognpaa
open Go.RowKit Go.Shelf

theorem max3_if {G Y Z : Int} : (if Z > (if Y > G then Y else G) then Z else if Y > G then Y else G) = max (max G Y) Z := by
  by_cases m1 : Y > G
  · rw [if_pos m1]
    by_cases m2 : Z > Y
    · rw [if_pos m2]; omega
    · rw [if_neg m2]; omega
  · rw [if_neg m1]
    by_cases m2 : Z > G
    · rw [if_pos m2]; omega
    · rw [if_neg m2]; omega
theorem run_max3 {G Y Z M : Int} (h : max (max G Y) Z = M) (W : World) : Sem.run Try.prog (Builtin.max_ #[2, 2, 2] 2 #[.int .i64 G, .int .i64 Y, .int .i64 Z]) W = .ok (.int .i64 M) W := by
  have e : Sem.run Try.prog (Builtin.max_ #[2, 2, 2] 2 #[.int .i64 G, .int .i64 Y, .int .i64 Z]) W = .ok (.int .i64 (if Z > (if Y > G then Y else G) then Z else if Y > G then Y else G)) W := rfl
  rw [e, max3_if, h]
theorem te_wdq {v : Int} (h : te v = 0) : wd v = true := by
  unfold te at h
  split at h
  · assumption
  · omega
/-- What LossHubers holds against one another. -/
theorem hub_num {dA dB : List Int} {D : Int} (hD : 0 < D) (n : Nat) (h1 : wds dA = true) (h2 : wds dB = true) (l1 : n ≤ dA.length) (l2 : n ≤ dB.length) (e : te (rd (lsp hsq dA dB n) D) = 0) :
    let F := far1 dA dB n
    te (rd (lsp (hhu F) dA dB n) (2 * D)) = 0 ∧ te (rd (lsp (hhu (1 + F / 2)) dA dB n) (2 * D)) = 0 ∧ 2 * rd (lsp (hhu F) dA dB n) (2 * D) - rd (lsp hsq dA dB n) D ≤ 1 ∧ -1 ≤ 2 * rd (lsp (hhu F) dA dB n) (2 * D) - rd (lsp hsq dA dB n) D ∧ rd (lsp (hhu (1 + F / 2)) dA dB n) (2 * D) ≤ rd (lsp (hhu F) dA dB n) (2 * D) ∧ (0 ≤ rd (lsp hsq dA dB n) D ∧ rd (lsp hsq dA dB n) D < 140737488355328) ∧ (0 ≤ rd (lsp (hhu F) dA dB n) (2 * D) ∧ rd (lsp (hhu F) dA dB n) (2 * D) < 140737488355328) := by
  intro F
  have hF := far1_pos dA dB n
  have ef : lsp (hhu F) dA dB n = lsp hsq dA dB n := lsp_eq (fun k hk => hhu_eq (far1_ge dA dB hk))
  have hle : lsp (hhu (1 + F / 2)) dA dB n ≤ lsp hsq dA dB n := lsp_le (fun k _ => hhu_le _ _)
  have s0 := (lsp_bd (n := n) prt_sq h1 h2 l1 l2).1
  have s1 := (lsp_bd (n := n) (h := hhu (1 + F / 2)) (prt_hu (by omega)) h1 h2 l1 l2).1
  rw [ef]
  generalize lsp hsq dA dB n = S at *
  generalize lsp (hhu (1 + F / 2)) dA dB n = S3 at *
  have a1 := rd_half_le s0 hD
  have a2 := rd_half2 (S := S) hD
  have a3 := rd_mono (d := 2 * D) (by omega) hle
  have a4 := rd_nn s0 hD
  have a5 := rd_nn s0 (d := 2 * D) (by omega)
  have a6 := rd_nn s1 (d := 2 * D) (by omega)
  have w1 : wd (rd S D) = true := te_wdq e
  have w1' : rd S D < 140737488355328 := by unfold wd at w1; simp at w1; omega
  have wm : ∀ x : Int, 0 ≤ x → x < 140737488355328 → te x = 0 := fun x h h' => te_in (by unfold wd; simp; omega)
  exact ⟨wm _ a5 (by omega), wm _ a6 (by omega), a2.1, a2.2, a3, ⟨a4, w1'⟩, ⟨a5, by omega⟩⟩
/-- A box with a told word. -/
def WBx (W : World) (B : Nat) (o : Option Addr) (n c : Nat) : Prop := Blk W B 26 #[.slice none 0 0, .slice o n c]
theorem WBx.below {W W' : World} {B : Nat} {o : Option Addr} {n c : Nat} (h : WBx W B o n c) (hb : Below W.heap.size W W') : WBx W' B o n c := Blk.below h hb (Blk.lt h)

set_option maxRecDepth 100000 in
set_option maxHeartbeats 8000000 in
theorem losshubers_any (bb oo len cap : Nat) (es : Nat → Lk) (w : World) (_hl : len ≤ 9223372036854775807) (hb : bb < w.heap.size) (hT : ∀ i, i < len → LkAt w bb (oo + i * 7) (es i)) (hok : ∀ i, i < len → (es i).ok w) :
    Calls Try.prog 3 #[.slice (some ⟨bb, oo, none⟩) len cap] w fun e w' => e = .returned (.bool true) ∧ Below w.heap.size w w' := by
  have HT := Lib.hid (And.intro hT hok)
  clear hT hok
  go_enter Try.func3, Try.ntmps3
  go_wp2
  go_loopw [3] (fun s3 wQ => ∃ k : Nat, k ≤ len ∧ s3 = .int .i64 k ∧ Below w.heap.size w wQ) (fun s3 _ => len - (intOf s3).toNat)
  case atStart => exact ⟨0, Nat.zero_le _, rfl, Below.refl _ _⟩
  case round =>
    obtain ⟨k, hk, rfl, hB⟩ := hrel
    have hBs := hB.size
    obtain ⟨w1, hw1⟩ : ∃ w1, w1 = wr := ⟨_, rfl⟩
    subst hw1
    by_cases g : k < len ∧ k < 4
    · obtain ⟨g1, g2⟩ := g
      obtain ⟨t0, t1, t2, t3, t4, t5, t6⟩ := (HT.out.1 k (by omega)).below hB hb
      obtain ⟨⟨hA, hAD, hV, hBD, hLL⟩, ⟨l0, l1, l2, l3, l4⟩, ⟨a0, a1⟩, ⟨b0, b1⟩⟩ := HT.out.2 k (by omega)
      replace hA := hA.below hB
      replace hAD := hAD.below hB
      replace hV := hV.below hB
      replace hBD := hBD.below hB
      replace hLL := hLL.below hB
      generalize es k = p at *
      obtain ⟨vA, vAD, vB, vBD, vL, sA, dA, sB, dB, lL, nD, nF⟩ := p
      simp only at t0 t1 t2 t3 t4 t5 t6 hA hAD hV hBD hLL l0 l1 l2 l3 l4 a0 a1 b0 b1
      obtain ⟨oA, cA, rfl, _, _⟩ := id hA
      obtain ⟨oAD, cAD, rfl, _, _⟩ := id hAD
      obtain ⟨oB, cB, rfl, _, _⟩ := id hV
      obtain ⟨oBD, cBD, rfl, _, _⟩ := id hBD
      obtain ⟨oL, cL, rfl, _, _⟩ := id hLL
      have K0 := Lib.hid (fun o => (Below.refl w1.heap.size w1).alloc (Nat.le_refl _) o)
      have K4 := Lib.hid (Blk.new w1 28 #[.slice oA sA.length cA, .slice oAD dA.length cAD, .slice oB sB.length cB, .slice oBD dB.length cBD, .slice oL lL.length cL, .int .i64 nD, .int .i64 nF])
      obtain ⟨FR, hFR⟩ : ∃ FR : World → Prop, FR = fun W => Below w1.heap.size w1 W ∧ Blk W w1.heap.size 28 #[.slice oA sA.length cA, .slice oAD dA.length cAD, .slice oB sB.length cB, .slice oBD dB.length cBD, .slice oL lL.length cL, .int .i64 nD, .int .i64 nF] := ⟨_, rfl⟩
      have FRb : Hid (∀ W, FR W → Below w1.heap.size w1 W) := Lib.hid (fun W h => by rw [hFR] at h; exact h.1)
      have FRk := Lib.hid (fun (W : World) (h : FR W) => blk7q (by rw [hFR] at h; exact h.2 : Blk W w1.heap.size 28 #[.slice oA sA.length cA, .slice oAD dA.length cAD, .slice oB sB.length cB, .slice oBD dB.length cBD, .slice oL lL.length cL, .int .i64 nD, .int .i64 nF]))
      have FRn : Hid (∀ W W', FR W → Below W.heap.size W W' → FR W') := Lib.hid (fun W W' h hb => by rw [hFR] at h ⊢; exact ⟨h.1.trans (hb.mono h.1.size), h.2.below hb h.2.lt⟩)
      have FRm : Hid (∀ W W', FR W → Below (w1.heap.size + 1) W W' → FR W') := Lib.hid (fun W W' h hb => by rw [hFR] at h ⊢; exact ⟨h.1.trans (hb.mono (Nat.le_succ _)), h.2.below hb (Nat.lt_succ_self _)⟩)
      have FRl : Hid (∀ W, FR W → w1.heap.size < W.heap.size) := Lib.hid (fun W h => by rw [hFR] at h; exact h.2.lt)
      have FRs : Hid (∀ W, Below (w1.alloc (.cells #[.slice oA sA.length cA, .slice oAD dA.length cAD, .slice oB sB.length cB, .slice oBD dB.length cBD, .slice oL lL.length cL, .int .i64 nD, .int .i64 nF] 28)).heap.size (w1.alloc (.cells #[.slice oA sA.length cA, .slice oAD dA.length cAD, .slice oB sB.length cB, .slice oBD dB.length cBD, .slice oL lL.length cL, .int .i64 nD, .int .i64 nF] 28)) W → FR W) := Lib.hid (fun W h => by rw [hFR]; exact ⟨(K0.out _).trans (h.mono (by simp)), K4.out.below h K4.out.lt⟩)
      clear hFR
      have HL := Lib.hid (And.intro hA (And.intro hAD (And.intro hV (And.intro hBD hLL))))
      have HLN := Lib.hid (And.intro l0 (And.intro l1 (And.intro l2 (And.intro l3 l4))))
      have HNI := Lib.hid (And.intro (And.intro a0 a1) (And.intro b0 b1))
      clear hA hAD hV hBD hLL l0 l1 l2 l3 l4 a0 a1 b0 b1
      have KHV := Lib.hid (fun (W : World) (hW : Below w1.heap.size w1 W) => heavy16_any _ _ _ _ _ sA dA sB dB lL nD nF W (HL.out.1.below hW) (HL.out.2.1.below hW) (HL.out.2.2.1.below hW) (HL.out.2.2.2.1.below hW) (HL.out.2.2.2.2.below hW) HLN.out.1 HLN.out.2.1 HLN.out.2.2.1 HLN.out.2.2.2.1)
      obtain ⟨GV, hGV⟩ : ∃ b, b = hv16 sA dA sB dB lL := ⟨_, rfl⟩
      obtain ⟨TA, hTA⟩ : ∃ b, b = tnb sA dA := ⟨_, rfl⟩
      obtain ⟨TB, hTB⟩ : ∃ b, b = tnb sB dB := ⟨_, rfl⟩
      obtain ⟨EQ, hEQ⟩ : ∃ b, b = decide (sA = sB) := ⟨_, rfl⟩
      have KMA := Lib.hid (fun (h : GV = false) (W : World) (hW : Below w1.heap.size w1 W) => rmay8_any _ _ sA dA W (HL.out.1.below hW) (HL.out.2.1.below hW) (by have := hv16_no (hGV.symm.trans h); omega) (by have := HLN.out.2.1; omega))
      have KMB := Lib.hid (fun (h : GV = false) (W : World) (hW : Below w1.heap.size w1 W) => rmay8_any _ _ sB dB W (HL.out.2.2.1.below hW) (HL.out.2.2.2.1.below hW) (by have := hv16_no (hGV.symm.trans h); omega) (by have := HLN.out.2.2.2.1; omega))
      have KEQ := Lib.hid (fun (_ : GV = false) (W : World) (hW : Below w1.heap.size w1 W) => eqn_any _ _ sA sB W (HL.out.1.below hW) (HL.out.2.2.1.below hW) (by have := HLN.out.1; omega) (by have := HLN.out.2.2.1; omega))
      rw [← hGV] at KHV
      rw [← hTA] at KMA
      rw [← hTB] at KMB
      rw [← hEQ] at KEQ
      obtain ⟨SK, hSK⟩ : ∃ b, b = (GV || !TA || !TB || !EQ) := ⟨_, rfl⟩
      have HSK := Lib.hid hSK
      have HGV := Lib.hid hGV
      have HTA := Lib.hid hTA
      have HTB := Lib.hid hTB
      have HEQ := Lib.hid hEQ
      clear hSK hGV hTA hTB hEQ
      go_upto_region 5 with fail
      go_cut [53] (fun s53 wx => s53 = .bool SK ∧ Hid (FR wx))
      case first =>
        as_aux_lemma =>
        cases GV with
        | true =>
          go_wp2_with (go_at_call 4; (with_reducible refine (KHV.out _ (K0.out _)).mono ?_); rintro e w2 ⟨rfl, hb⟩; have F2 := Lib.hid (FRs.out _ hb); obtain ⟨x0, x1, x2, x3, x4, x5, x6⟩ := FRk.out _ F2.out; clear hb)
          go_meet
          exact ⟨by rw [HSK.out]; rfl, F2⟩
        | false =>
          replace KMA := Lib.hid (KMA.out rfl)
          replace KMB := Lib.hid (KMB.out rfl)
          replace KEQ := Lib.hid (KEQ.out rfl)
          cases TA with
          | false =>
            go_wp2_with (first | (go_at_call 4; (with_reducible refine (KHV.out _ (K0.out _)).mono ?_); rintro e w2 ⟨rfl, hb⟩; have F2 := Lib.hid (FRs.out _ hb); obtain ⟨x0, x1, x2, x3, x4, x5, x6⟩ := FRk.out _ F2.out; clear hb) | (go_at_call 5; (with_reducible refine (KMA.out _ (FRb.out _ F2.out)).mono ?_); rintro e w3 ⟨rfl, hb⟩; (try clear x0 x1 x2 x3 x4 x5 x6); have F3 := Lib.hid (FRn.out _ _ F2.out hb); obtain ⟨x0, x1, x2, x3, x4, x5, x6⟩ := FRk.out _ F3.out; clear hb))
            go_meet
            exact ⟨by rw [HSK.out]; rfl, F3⟩
          | true =>
            cases TB with
            | false =>
              go_wp2_with (first | (go_at_call 4; (with_reducible refine (KHV.out _ (K0.out _)).mono ?_); rintro e w2 ⟨rfl, hb⟩; have F2 := Lib.hid (FRs.out _ hb); obtain ⟨x0, x1, x2, x3, x4, x5, x6⟩ := FRk.out _ F2.out; clear hb) | (go_at_call 5; (with_reducible refine (KMA.out _ (FRb.out _ F2.out)).mono ?_); rintro e w3 ⟨rfl, hb⟩; (try clear x0 x1 x2 x3 x4 x5 x6); have F3 := Lib.hid (FRn.out _ _ F2.out hb); obtain ⟨x0, x1, x2, x3, x4, x5, x6⟩ := FRk.out _ F3.out; clear hb) | (go_at_call 5; (with_reducible refine (KMB.out _ (FRb.out _ F3.out)).mono ?_); rintro e w4 ⟨rfl, hb⟩; (try clear x0 x1 x2 x3 x4 x5 x6); have F4 := Lib.hid (FRn.out _ _ F3.out hb); obtain ⟨x0, x1, x2, x3, x4, x5, x6⟩ := FRk.out _ F4.out; clear hb))
              go_meet
              exact ⟨by rw [HSK.out]; rfl, F4⟩
            | true =>
              go_wp2_with (first | (go_at_call 4; (with_reducible refine (KHV.out _ (K0.out _)).mono ?_); rintro e w2 ⟨rfl, hb⟩; have F2 := Lib.hid (FRs.out _ hb); obtain ⟨x0, x1, x2, x3, x4, x5, x6⟩ := FRk.out _ F2.out; clear hb) | (go_at_call 5; (with_reducible refine (KMA.out _ (FRb.out _ F2.out)).mono ?_); rintro e w3 ⟨rfl, hb⟩; (try clear x0 x1 x2 x3 x4 x5 x6); have F3 := Lib.hid (FRn.out _ _ F2.out hb); obtain ⟨x0, x1, x2, x3, x4, x5, x6⟩ := FRk.out _ F3.out; clear hb) | (go_at_call 5; (with_reducible refine (KMB.out _ (FRb.out _ F3.out)).mono ?_); rintro e w4 ⟨rfl, hb⟩; (try clear x0 x1 x2 x3 x4 x5 x6); have F4 := Lib.hid (FRn.out _ _ F3.out hb); obtain ⟨x0, x1, x2, x3, x4, x5, x6⟩ := FRk.out _ F4.out; clear hb) | (go_at_call 6; (with_reducible refine (KEQ.out _ (FRb.out _ F4.out)).mono ?_); rintro e w5 ⟨rfl, hb⟩; have F5 := Lib.hid (FRn.out _ _ F4.out hb); clear hb))
              go_meet
              exact ⟨by rw [HSK.out]; cases EQ <;> rfl, F5⟩
      case rest =>
        obtain ⟨rfl, FD⟩ := hcut
        obtain ⟨w6, hw6⟩ : ∃ v, v = wc := ⟨_, rfl⟩
        rw [← hw6] at FD ⊢
        clear hw6
        cases SK with
        | true =>
          as_aux_lemma =>
          clear KHV KMA KMB KEQ
          go_wp2
          exact ⟨⟨k + 1, by omega, by go_num, hB.trans ((FRb.out _ FD.out).mono hBs)⟩, by simp [intOf]; omega⟩
        | false =>
          as_aux_lemma =>
          obtain ⟨gv, ta, tb, eq⟩ : GV = false ∧ TA = true ∧ TB = true ∧ EQ = true := by
            have q := HSK.out
            revert q
            cases GV <;> cases TA <;> cases TB <;> cases EQ <;> simp
          have hs : sA = sB := by
            have q := HEQ.out
            rw [eq] at q
            exact of_decide_eq_true q.symm
          subst hs
          have hl := hv16_no (HGV.out.symm.trans gv)
          rw [ta] at HTA
          rw [tb] at HTB
          have ta2 : tnb sA dA = true := HTA.out.symm
          have tb2 : tnb sA dB = true := HTB.out.symm
          clear ta tb eq gv HSK HGV HTA HTB HEQ KHV KMA KMB KEQ GV TA TB EQ
          obtain ⟨fN, hfN⟩ : ∃ fN : Nat, (fN : Int) = 8 + nF % 18446744073709551616 % 25 := ⟨(8 + nF % 18446744073709551616 % 25).toNat, by omega⟩
          have hfb : fb (fN : Int) = true := fb_mk (by omega)
          have KFF : Hid (∀ W : World, Calls Try.prog 7 #[.int .i64 nF] W fun e w' => e = .returned (.int .i64 (fN : Int)) ∧ W = w') := Lib.hid (fun W => by rw [hfN]; exact ff_any nF W)
          obtain ⟨ma, la, wa⟩ := tnb_parts ta2
          obtain ⟨_, lb, wb⟩ := tnb_parts tb2
          have hLL : dA.length = dB.length := by omega
          have hp := may_prod ma
          have hL1 : 1 ≤ dA.length := by omega
          have KSQ := Lib.hid (fun (W : World) (hW : Below w1.heap.size w1 W) => lsquare_any _ _ _ _ sA dA dB fN W (HL.out.1.below hW) (HL.out.2.1.below hW) (HL.out.2.2.1.below hW) (HL.out.2.2.2.1.below hW) ta2 tb2 hfb)
          have KHU := Lib.hid (fun (d : Int) (h1 : wd d = true) (h2 : 0 < d) (W : World) (hW : Below w1.heap.size w1 W) => lhuber_any _ _ _ _ sA dA dB d fN W (HL.out.1.below hW) (HL.out.2.1.below hW) (HL.out.2.2.1.below hW) (HL.out.2.2.2.1.below hW) ta2 tb2 hfb h1 h2)
          have hpf := pow_f hfb
          obtain ⟨D, hD⟩ : ∃ D : Int, D = (2 : Int) ^ fN * dA.length := ⟨_, rfl⟩
          have hD0 : 0 < D := by rw [hD]; exact Int.mul_pos (by omega) (by omega)
          have hNM := hub_num (dA := dA) (dB := dB) hD0 dA.length wa wb (Nat.le_refl _) (by omega)
          have hD2 : 2 * (2 : Int) ^ fN * dA.length = 2 * D := by rw [hD, Int.mul_assoc]
          simp only [hD2] at KHU
          clear hD2
          rw [← hD] at KSQ
          obtain ⟨gA, fA, hgA⟩ := ld_pos HL.out.2.1 hL1
          obtain ⟨gB, fB, hgB⟩ := ld_pos HL.out.2.2.2.1 (by omega)
          subst hgA hgB
          have HCA : Hid (∀ W, FR W → ∀ j, j < dA.length → W.cell? ⟨gA, fA + j, none⟩ = some (.int .i64 (dA.getD j 0)) ∧ W.cell? ⟨gB, fB + j, none⟩ = some (.int .i64 (dB.getD j 0))) := Lib.hid (fun W h j hj => ⟨ld_celq (HL.out.2.1.below (FRb.out _ h)) hj, ld_celq (HL.out.2.2.2.1.below (FRb.out _ h)) (by omega)⟩)
          have HX : Hid (∀ j, j < dA.length → -281474976710654 ≤ dA.getD j 0 - dB.getD j 0 ∧ dA.getD j 0 - dB.getD j 0 ≤ 281474976710654) := Lib.hid (fun j hj => by
            have := wds_at wa hj
            have := wds_at wb (k := j) (by omega)
            omega)
          have HFR : Hid (∀ n, n ≤ dA.length → 1 ≤ far1 dA dB n ∧ far1 dA dB n ≤ 281474976710654) := Lib.hid (fun n hn => ⟨far1_pos dA dB n, far1_bd wa wb hn (by omega)⟩)
          have HNM := Lib.hid hNM
          have HLEN := Lib.hid (And.intro hLL (And.intro hL1 hl.1.2))
          clear hNM hLL hp ma la wa lb wb hpf hD hD0 hfN hfb ta2 tb2 hl hL1
          obtain ⟨x0, x1, x2, x3, x4, x5, x6⟩ := FRk.out _ FD.out
          go_upto_region 7 with (go_at_call 7; (with_reducible refine (KFF.out _).mono ?_); rintro e w' ⟨rfl, rfl⟩)
          clear x0 x1 x2 x3 x4 x5 x6
          go_wp2
          go_loopw [6, 7] (fun s6 s7 wx => ∃ j : Nat, j ≤ dA.length ∧ s6 = .int .i64 (far1 dA dB j) ∧ s7 = .int .i64 (j : Nat) ∧ Hid (FR wx)) (fun _ s7 _ => dA.length - (intOf s7).toNat)
          case atStart => exact ⟨0, Nat.zero_le _, rfl, rfl, FD⟩
          case round =>
            obtain ⟨j, hj, rfl, rfl, FJ⟩ := hrel
            obtain ⟨w7, hw7⟩ : ∃ v, v = wr := ⟨_, rfl⟩
            rw [← hw7] at FJ ⊢
            clear hw7
            obtain ⟨x0, x1, x2, x3, x4, x5, x6⟩ := FRk.out _ FJ.out
            have hj24 : j ≤ 24 := by have := HLEN.out.2.2; omega
            by_cases hjl : j < dA.length
            · as_aux_lemma =>
              obtain ⟨cA1, cB1⟩ := HCA.out _ FJ.out j hjl
              have hX := HX.out j hjl
              have hf1 := HFR.out j hj
              have HS : Hid (far1 dA dB (j + 1) = max (max (far1 dA dB j) (dA.getD j 0 - dB.getD j 0)) (-(dA.getD j 0 - dB.getD j 0))) := Lib.hid rfl
              obtain ⟨G1, hG1⟩ : ∃ z, z = far1 dA dB (j + 1) := ⟨_, rfl⟩
              rw [← hG1] at HS
              generalize far1 dA dB j = G at *
              generalize dA.getD j 0 = a at *
              generalize dB.getD j 0 = b at *
              obtain ⟨Y, hY⟩ : ∃ Y, Y = a - b := ⟨_, rfl⟩
              have W1 := Lib.hid (wr64q (x := a - b) (by omega))
              have W2 := Lib.hid (wr64q (x := -Y) (by omega))
              rw [← hY] at HS
              have HY := Lib.hid hY
              have HG1 := Lib.hid hG1
              have hji : (j : Int) < (dA.length : Int) := by omega
              have hjb : (j : Int) < (dB.length : Int) := by have := HLEN.out.1; omega
              have hG0 : 1 ≤ G := hf1.1
              clear hX hf1 hY hG1
              obtain ⟨e1, e2⟩ := W1.out
              go_upto_region 11 with fail
              go_cut [8] (fun s8 wx => s8 = .int .i64 Y ∧ Hid (FR wx))
              case first =>
                as_aux_lemma =>
                go_quiet (fail)
                go_wp2
                go_meet
                exact ⟨by rw [HY.out], Lib.hid (FRn.out _ _ FJ.out (below_drw (Below.refl _ _) _))⟩
              case rest =>
                as_aux_lemma =>
                clear e1 e2 x0 x1 x2 x3 x4 x5 x6 cA1 cB1
                obtain ⟨rfl, FJ2⟩ := hcut
                obtain ⟨w8, hw8⟩ : ∃ v, v = wc := ⟨_, rfl⟩
                rw [← hw8] at FJ2 ⊢
                clear hw8
                have FIN : ∀ z : Int, z = max (max G Y) (-Y) → (Value.int .i64 z) = .int .i64 (far1 dA dB (j + 1)) := fun z hz => by rw [hz, ← HG1.out, HS.out]
                have FINH := Lib.hid FIN
                clear FIN
                obtain ⟨M, hM⟩ : ∃ M, M = max (max G Y) (-Y) := ⟨_, rfl⟩
                have HF := Lib.hid (FINH.out M hM)
                have hrun := fun W : World => run_max3 hM.symm W
                clear hM FINH HS HG1
                obtain ⟨e1, e2⟩ := W2.out
                go_wp2
                exact ⟨⟨j + 1, by omega, HF.out, by go_num, FJ2⟩, by simp [intOf]; omega⟩
            · as_aux_lemma =>
              obtain rfl : j = dA.length := by omega
              have hf1 := HFR.out _ (Nat.le_refl _)
              have hNM := HNM.out
              obtain ⟨G, hG⟩ : ∃ z, z = far1 dA dB dA.length := ⟨_, rfl⟩
              rw [← hG] at hf1 hNM ⊢
              have HG := Lib.hid hG
              clear hG HCA HX HFR
              by_cases big : 140737488355328 ≤ G
              · as_aux_lemma =>
                clear hNM
                go_wp2
                exact ⟨⟨k + 1, by omega, by go_num, hB.trans ((FRb.out _ FJ.out).mono hBs)⟩, by simp [intOf]; omega⟩
              · as_aux_lemma =>
                have nbig : ¬ 140737488355328 ≤ G := big
                have w2 : wd G = true := by unfold wd; simp; omega
                have w3 : wd (1 + G / 2) = true := by unfold wd; simp; omega
                obtain ⟨H, hH⟩ : ∃ z, z = 1 + G / 2 := ⟨_, rfl⟩
                rw [← hH] at hNM w3
                have hH0 : 0 < H := by omega
                have K2 := Lib.hid (KHU.out G w2 (by omega))
                have K3 := Lib.hid (KHU.out H w3 hH0)
                have W3 := Lib.hid (And.intro (show G.tdiv 2 = H - 1 by rw [Int.tdiv_eq_ediv_of_nonneg (by omega)]; omega) (And.intro (wr64q (x := H - 1) (by omega)) (show wrap64 (1 + (H - 1)) = H ∧ IntKind.i64.wrap (1 + (H - 1)) = H by rw [show 1 + (H - 1) = H by omega]; exact wr64q (by omega))))
                obtain ⟨V1, hV1⟩ : ∃ z, z = rd (lsp hsq dA dB dA.length) D := ⟨_, rfl⟩
                obtain ⟨V2, hV2⟩ : ∃ z, z = rd (lsp (hhu G) dA dB dA.length) (2 * D) := ⟨_, rfl⟩
                obtain ⟨V3, hV3⟩ : ∃ z, z = rd (lsp (hhu H) dA dB dA.length) (2 * D) := ⟨_, rfl⟩
                rw [← hV1, ← hV2, ← hV3] at hNM
                rw [← hV1] at KSQ
                rw [← hV2] at K2
                rw [← hV3] at K3
                have HNV := Lib.hid hNM
                have HGB := Lib.hid (And.intro hf1 hH)
                clear hNM hV1 hV2 hV3 hH w2 w3 hf1 KHU HNM big HG
                go_upto_region 15 with (go_at_call 8; (with_reducible refine (KSQ.out _ (FRb.out _ FJ.out)).mono ?_); rintro e wq ⟨o1, n1, c1, E1, rfl, hL, hb⟩; have U := Lib.hid (And.intro hL hb); clear hL hb)
                clear x0 x1 x2 x3 x4 x5 x6
                obtain ⟨v1, hv⟩ : ∃ v, v = wq.alloc (.cells #[.slice none 0 0, .slice o1 n1 c1] 26) := ⟨_, rfl⟩
                obtain ⟨T1, hT⟩ : ∃ T, T = wq.heap.size := ⟨_, rfl⟩
                rw [← hv, ← hT]
                have BS1 : Hid (Below w7.heap.size w7 v1) := Lib.hid (by rw [hv]; exact U.out.2.alloc U.out.2.size _)
                have WB1_1 : Hid (WBx v1 T1 o1 n1 c1) := Lib.hid (by rw [hv, hT]; exact Blk.new _ _ _)
                have LV1_1 : Hid (LsV 0 v1 V1 o1 n1 c1 E1) := Lib.hid (by rw [hv]; exact (LsV.below U.out.1 (al_below _)).low (Nat.zero_le _))
                have FV1 := Lib.hid (FRn.out _ _ FJ.out BS1.out)
                clear hv hT U BS1
                obtain ⟨x0, x1, x2, x3, x4, x5, x6⟩ := FRk.out _ FV1.out
                go_upto_region 16 with (go_at_call 9; (with_reducible refine (K2.out _ (FRb.out _ FV1.out)).mono ?_); rintro e wq ⟨o2, n2, c2, E2, rfl, hL, hb⟩; have U := Lib.hid (And.intro hL hb); clear hL hb)
                clear x0 x1 x2 x3 x4 x5 x6
                obtain ⟨v2, hv⟩ : ∃ v, v = wq.alloc (.cells #[.slice none 0 0, .slice o2 n2 c2] 26) := ⟨_, rfl⟩
                obtain ⟨T2, hT⟩ : ∃ T, T = wq.heap.size := ⟨_, rfl⟩
                rw [← hv, ← hT]
                have BS2 : Hid (Below v1.heap.size v1 v2) := Lib.hid (by rw [hv]; exact U.out.2.alloc U.out.2.size _)
                have WB2_2 : Hid (WBx v2 T2 o2 n2 c2) := Lib.hid (by rw [hv, hT]; exact Blk.new _ _ _)
                have LV2_2 : Hid (LsV 0 v2 V2 o2 n2 c2 E2) := Lib.hid (by rw [hv]; exact (LsV.below U.out.1 (al_below _)).low (Nat.zero_le _))
                have WB1_2 := Lib.hid (WBx.below WB1_1.out BS2.out)
                have LV1_2 := Lib.hid (LsV.below LV1_1.out BS2.out)
                have FV2 := Lib.hid (FRn.out _ _ FV1.out BS2.out)
                clear hv hT U WB1_1 LV1_1 BS2
                obtain ⟨x0, x1, x2, x3, x4, x5, x6⟩ := FRk.out _ FV2.out
                obtain ⟨t1, ⟨t2, t3⟩, ⟨t4, t5⟩⟩ := W3.out
                go_upto_region 17 with (go_at_call 9; (with_reducible refine (K3.out _ (FRb.out _ FV2.out)).mono ?_); rintro e wq ⟨o3, n3, c3, E3, rfl, hL, hb⟩; have U := Lib.hid (And.intro hL hb); clear hL hb)
                clear x0 x1 x2 x3 x4 x5 x6
                obtain ⟨v3, hv⟩ : ∃ v, v = wq.alloc (.cells #[.slice none 0 0, .slice o3 n3 c3] 26) := ⟨_, rfl⟩
                obtain ⟨T3, hT⟩ : ∃ T, T = wq.heap.size := ⟨_, rfl⟩
                rw [← hv, ← hT]
                have BS3 : Hid (Below v2.heap.size v2 v3) := Lib.hid (by rw [hv]; exact U.out.2.alloc U.out.2.size _)
                have WB3_3 : Hid (WBx v3 T3 o3 n3 c3) := Lib.hid (by rw [hv, hT]; exact Blk.new _ _ _)
                have LV3_3 : Hid (LsV 0 v3 V3 o3 n3 c3 E3) := Lib.hid (by rw [hv]; exact (LsV.below U.out.1 (al_below _)).low (Nat.zero_le _))
                have WB1_3 := Lib.hid (WBx.below WB1_2.out BS3.out)
                have LV1_3 := Lib.hid (LsV.below LV1_2.out BS3.out)
                have WB2_3 := Lib.hid (WBx.below WB2_2.out BS3.out)
                have LV2_3 := Lib.hid (LsV.below LV2_2.out BS3.out)
                have FV3 := Lib.hid (FRn.out _ _ FV2.out BS3.out)
                clear hv hT U WB1_2 LV1_2 WB2_2 LV2_2 BS3
                obtain ⟨x0, x1, x2, x3, x4, x5, x6⟩ := FRk.out _ FV3.out
                clear t1 t2 t3 t4 t5 W3 hH0 nbig x0 x1 x2 x3 x4 x5 x6
                by_cases e1 : te V1 = 0
                · as_aux_lemma =>
                  obtain ⟨e2, e3, q1, q2, q3, ⟨q4, q5⟩, ⟨q6, q7⟩⟩ := HNV.out e1
                  obtain ⟨a1, _, b1⟩ := LV1_3.out
                  obtain ⟨a2, _, b2⟩ := LV2_3.out
                  obtain ⟨a3, _, b3⟩ := LV3_3.out
                  rw [e1] at a1
                  rw [e2] at a2
                  rw [e3] at a3
                  subst a1 a2 a3
                  obtain ⟨g1, rfl, rfl, rfl, _, m1⟩ := b1 rfl
                  obtain ⟨g2, rfl, rfl, rfl, _, m2⟩ := b2 rfl
                  obtain ⟨g3, rfl, rfl, rfl, _, m3⟩ := b3 rfl
                  have M1 := Lib.hid m1
                  have M2 := Lib.hid m2
                  have M3 := Lib.hid m3
                  clear LV1_3 LV2_3 LV3_3 b1 b2 b3 m1 m2 m3 e1 e2 e3 HNV
                  have HQ := Lib.hid (And.intro q1 (And.intro q2 (And.intro q3 (And.intro (And.intro q4 q5) (And.intro q6 q7)))))
                  clear q1 q2 q3 q4 q5 q6 q7
                  obtain ⟨s0, s1⟩ : _ ∧ _ := ⟨Blk.cell WB1_3.out 0, Blk.cell WB1_3.out 1⟩
                  obtain ⟨u0, u1⟩ : _ ∧ _ := ⟨Blk.cell WB2_3.out 0, Blk.cell WB2_3.out 1⟩
                  obtain ⟨r0, r1⟩ : _ ∧ _ := ⟨Blk.cell WB3_3.out 0, Blk.cell WB3_3.out 1⟩
                  go_upto_region 20 with (go_at_call 10; (with_reducible refine (num16_any _ _).mono ?_); rintro e w' ⟨rfl, rfl⟩)
                  have z1 := M1.out.cell 0
                  have z2 := M2.out.cell 0
                  have z3 := M3.out.cell 0
                  obtain ⟨hd1, hd2⟩ := wr64q (x := 2 * V2) (by have := HQ.out; omega)
                  obtain ⟨hd3, hd4⟩ := wr64q (x := 2 * V2 - V1) (by have := HQ.out; omega)
                  obtain ⟨DD, hDD⟩ : ∃ z, z = 2 * V2 - V1 := ⟨_, rfl⟩
                  have HDD := Lib.hid hDD
                  clear hDD
                  go_cut [15] (fun s15 wx => s15 = .int .i64 DD ∧ ∃ nq, v3.drewN nq = wx)
                  case first =>
                    as_aux_lemma =>
                    go_quiet (fail)
                    go_wp2
                    go_meet
                    exact ⟨by rw [HDD.out], _, rfl⟩
                  case rest =>
                    as_aux_lemma =>
                    clear hd1 hd2 hd3 hd4 s0 s1 u0 u1 r0 r1 z1 z2 z3
                    obtain ⟨rfl, nq, hnq⟩ := hcut
                    have BZ := Lib.hid (below_drw (Below.refl v3.heap.size v3) nq)
                    rw [hnq] at BZ
                    obtain ⟨wz, hwz⟩ : ∃ v, v = wc := ⟨_, rfl⟩
                    rw [← hwz] at BZ ⊢
                    clear hnq hwz
                    have FZ := Lib.hid (FRn.out _ _ FV3.out BZ.out)
                    have hq := HQ.out
                    rw [← HDD.out] at hq
                    have d1 : ¬ DD > 1 := by omega
                    have d2 : ¬ DD < -1 := by omega
                    have d1b : decide (1 < DD) = false := decide_eq_false (by omega)
                    have d2b : decide (DD < -1) = false := decide_eq_false (by omega)
                    have d3 : ¬ V3 > V2 := by omega
                    have d3b : decide (V2 < V3) = false := decide_eq_false (by omega)
                    obtain ⟨u0, u1⟩ : _ ∧ _ := ⟨Blk.cell (WBx.below WB2_3.out BZ.out) 0, Blk.cell (WBx.below WB2_3.out BZ.out) 1⟩
                    obtain ⟨r0, r1⟩ : _ ∧ _ := ⟨Blk.cell (WBx.below WB3_3.out BZ.out) 0, Blk.cell (WBx.below WB3_3.out BZ.out) 1⟩
                    have z2 := (M2.out.below BZ.out M2.out.lt).cell 0
                    have z3 := (M3.out.below BZ.out M3.out.lt).cell 0
                    clear hq
                    go_upto_region 21 with fail
                    go_cut [175] (fun s175 wx => s175 = .bool false ∧ Hid (FR wx))
                    case first =>
                      as_aux_lemma =>
                      by_cases hG1 : G > 1
                      · as_aux_lemma =>
                        have c1 : decide (1 < G) = true := decide_eq_true hG1
                        go_quiet (fail)
                        go_wp2
                        go_meet
                        exact ⟨rfl, Lib.hid (FRn.out _ _ FZ.out (below_drw (Below.refl _ _) _))⟩
                      · as_aux_lemma =>
                        have c1 : decide (1 < G) = false := decide_eq_false (by omega)
                        go_quiet (fail)
                        go_wp2
                        go_meet
                        exact ⟨rfl, Lib.hid (FRn.out _ _ FZ.out (below_drw (Below.refl _ _) _))⟩
                    case rest =>
                      as_aux_lemma =>
                      clear u0 u1 r0 r1 z2 z3 d1 d2 d1b d2b d3 d3b
                      obtain ⟨rfl, FY⟩ := hcut
                      go_wp2
                      exact ⟨⟨k + 1, by omega, by go_num, hB.trans ((FRb.out _ FY.out).mono hBs)⟩, by simp [intOf]; omega⟩
                · as_aux_lemma =>
                  have a1 := LV1_3.out.1
                  have he : (E1 != 0) = true := by rw [a1]; exact bne_iff_ne.2 e1
                  clear a1 LV1_3 LV2_3 LV3_3 HNV
                  go_wp2_with (go_at_call 10; (with_reducible refine (num16_any _ _).mono ?_); rintro e w' ⟨rfl, rfl⟩)
                  exact ⟨⟨k + 1, by omega, by go_num, hB.trans ((FRb.out _ FV3.out).mono hBs)⟩, by simp [intOf]; omega⟩

    · as_aux_lemma =>
      by_cases g1 : k < len
      · have g2 : 4 ≤ k := by omega
        clear g
        go_wp2_with (go_at_call 11; (with_reducible refine (wakes16_any _).mono ?_); rintro e w9 ⟨rfl, hb9⟩)
        go_ret
        exact ⟨rfl, hB.trans (hb9.mono hBs)⟩
      · have g2 : len ≤ k := by omega
        clear g g1
        go_wp2_with (go_at_call 11; (with_reducible refine (wakes16_any _).mono ?_); rintro e w9 ⟨rfl, hb9⟩)
        go_ret
        exact ⟨rfl, hB.trans (hb9.mono hBs)⟩
end Go.Proofs.Ytocoedpmcognpaa
