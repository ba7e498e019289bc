/-
  MatmulTurns' loop.
-/
import Derived.BigQuiet
import Derived.Deep.RegionHeld3
import Derived.Test.YtlidkeabadioeaaM01
import Derived.Test.YtlidkeabadioeaaM10
import Derived.Test.YtlidkeabadioeaaM17
import Derived.Test.YtlidkeabadioeaaM18
import Derived.Test.YtlidkeabadioeaaM19
namespace Go.Proofs.Ytlidkeabadioeaa
open Go.RowKit Go.Shelf


set_option maxRecDepth 100000 in
set_option maxHeartbeats 6000000 in
theorem matmulturns_any (bb oo len cap : Nat) (es : Nat → Mk) (w : World) (_hl : len ≤ 9223372036854775807) (hb : bb < w.heap.size) (hT : ∀ i, i < len → MkAt w bb (oo + i * 5) (es i)) (hok : ∀ i, i < len → (es i).ok w) :
    Calls Try.prog 4 #[.slice (some ⟨bb, oo, none⟩) len cap] w fun e w' => e = .returned (.bool true) ∧ Below w.heap.size w w' := by
  have HT := Lib.hid (And.intro hT hok)
  clear hT hok
  go_enter Try.func4, Try.ntmps4
  go_wp2
  go_loopw [3] (fun s3 wQ => ∃ k : Nat, k ≤ len ∧ s3 = .int .i64 k ∧ Below w.heap.size w wQ) (fun s3 _ => len - (intOf s3).toNat)
  case atStart => exact ⟨0, Nat.zero_le _, rfl, Below.refl _ _⟩
  case round =>
    obtain ⟨k, hk, rfl, hB⟩ := hrel
    have hBs := hB.size
    obtain ⟨w1, hw1⟩ : ∃ w1, w1 = wr := ⟨_, rfl⟩
    subst hw1
    by_cases g : k < len ∧ k < 6
    · obtain ⟨g1, g2⟩ := g
      obtain ⟨t0, t1, t2, t3, t4⟩ := (HT.out.1 k (by omega)).below hB hb
      obtain ⟨⟨hA, hX, hV, hY⟩, ⟨l0, l1, l2, l3⟩, ⟨a0, a1⟩⟩ := HT.out.2 k (by omega)
      replace hA := hA.below hB
      replace hX := hX.below hB
      replace hV := hV.below hB
      replace hY := hY.below hB
      generalize es k = p at *
      obtain ⟨vA, vX, vB, vY, sa, da, sb, db, f⟩ := p
      simp only at t0 t1 t2 t3 t4 hA hX hV hY l0 l1 l2 l3 a0 a1
      obtain ⟨oA, cA, rfl, _, _⟩ := id hA
      obtain ⟨oX, cX, rfl, _, hxX⟩ := id hX
      obtain ⟨oB, cB, rfl, _, _⟩ := id hV
      obtain ⟨oY, cY, rfl, _, hxY⟩ := id hY
      have HXX := Lib.hid (And.intro hxX hxY)
      clear hxX hxY
      have K0 := Lib.hid (fun o => (Below.refl w1.heap.size w1).alloc (Nat.le_refl _) o)
      have K4 := Lib.hid (Blk.new w1 28 #[.slice oA sa.length cA, .slice oX da.length cX, .slice oB sb.length cB, .slice oY db.length cY, .int .i64 f])
      obtain ⟨FR, hFR⟩ : ∃ FR : World → Prop, FR = fun W => Below w1.heap.size w1 W ∧ Blk W w1.heap.size 28 #[.slice oA sa.length cA, .slice oX da.length cX, .slice oB sb.length cB, .slice oY db.length cY, .int .i64 f] := ⟨_, rfl⟩
      have FRb : Hid (∀ W, FR W → Below w1.heap.size w1 W) := Lib.hid (fun W h => by rw [hFR] at h; exact h.1)
      have FRk := Lib.hid (fun (W : World) (h : FR W) => blk5m (by rw [hFR] at h; exact h.2 : Blk W w1.heap.size 28 #[.slice oA sa.length cA, .slice oX da.length cX, .slice oB sb.length cB, .slice oY db.length cY, .int .i64 f]))
      have FRn : Hid (∀ W W', FR W → Below W.heap.size W W' → FR W') := Lib.hid (fun W W' h hb => by rw [hFR] at h ⊢; exact ⟨h.1.trans (hb.mono h.1.size), h.2.below hb h.2.lt⟩)
      have FRl : Hid (∀ W, FR W → w1.heap.size < W.heap.size) := Lib.hid (fun W h => by rw [hFR] at h; exact h.2.lt)
      have FRs : Hid (∀ W, Below (w1.alloc (.cells #[.slice oA sa.length cA, .slice oX da.length cX, .slice oB sb.length cB, .slice oY db.length cY, .int .i64 f] 28)).heap.size (w1.alloc (.cells #[.slice oA sa.length cA, .slice oX da.length cX, .slice oB sb.length cB, .slice oY db.length cY, .int .i64 f] 28)) W → FR W) := Lib.hid (fun W h => by rw [hFR]; exact ⟨(K0.out _).trans (h.mono (by simp)), K4.out.below h K4.out.lt⟩)
      clear hFR
      have LG := Lib.hid (fun (W : World) (hW : Below w1.heap.size w1 W) => heavy10_any _ _ _ _ sa da sb db f W (hA.below hW) (hX.below hW) (hV.below hW) (hY.below hW) (by omega) (by omega) (by omega) (by omega))
      cases lg : (hv8 40 sa da || hv8 40 sb db) with
      | true =>
        as_aux_lemma =>
        rw [lg] at LG
        clear lg hA hX hV hY
        go_wp2_with (go_at_call 11; (with_reducible refine (LG.out _ (K0.out _)).mono ?_); rintro e w2 ⟨rfl, hb2⟩; have F2 := Lib.hid (FRs.out _ hb2); obtain ⟨x0, x1, x2, x3, x4⟩ := FRk.out _ F2.out; clear hb2)
        go_ret
        exact ⟨rfl, hB.trans ((FRb.out _ F2.out).mono hBs)⟩
      | false =>
        rw [lg] at LG
        have na := hv10_no lg
        have HL := Lib.hid (And.intro hA (And.intro hX (And.intro hV hY)))
        have KMA := Lib.hid (fun (W : World) (hW : Below w1.heap.size w1 W) => rmay8_any _ _ sa da W (hA.below hW) (hX.below hW) (by omega) (by omega))
        have KMB := Lib.hid (fun (W : World) (hW : Below w1.heap.size w1 W) => rmay8_any _ _ sb db W (hV.below hW) (hY.below hW) (by omega) (by omega))
        clear lg hA hX hV hY
        cases ta : tnb sa da with
        | false =>
          as_aux_lemma =>
          rw [ta] at KMA
          clear ta
          go_wp2_with (first | (go_at_call 11; (with_reducible refine (LG.out _ (K0.out _)).mono ?_); rintro e w2 ⟨rfl, hb2⟩; have F2 := Lib.hid (FRs.out _ hb2); obtain ⟨x0, x1, x2, x3, x4⟩ := FRk.out _ F2.out; clear hb2) | (go_at_call 12; (with_reducible refine (KMA.out _ (FRb.out _ F2.out)).mono ?_); rintro e w4 ⟨rfl, hb4⟩; have F4 := Lib.hid (FRn.out _ _ F2.out hb4); obtain ⟨x0, x1, x2, x3, x4⟩ := FRk.out _ F4.out; clear hb4))
          exact ⟨⟨k + 1, by omega, by go_num, hB.trans ((FRb.out _ F4.out).mono hBs)⟩, by simp [intOf]; omega⟩
        | true =>
          rw [ta] at KMA
          cases tb : tnb sb db with
          | false =>
            as_aux_lemma =>
            rw [tb] at KMB
            clear ta tb
            go_wp2_with (first | (go_at_call 11; (with_reducible refine (LG.out _ (K0.out _)).mono ?_); rintro e w2 ⟨rfl, hb2⟩; have F2 := Lib.hid (FRs.out _ hb2); obtain ⟨x0, x1, x2, x3, x4⟩ := FRk.out _ F2.out; clear hb2) | (go_at_call 12; (with_reducible refine (KMA.out _ (FRb.out _ F2.out)).mono ?_); rintro e w4 ⟨rfl, hb4⟩; have F4 := Lib.hid (FRn.out _ _ F2.out hb4); obtain ⟨x0, x1, x2, x3, x4⟩ := FRk.out _ F4.out; clear hb4) | (go_at_call 12; (with_reducible refine (KMB.out _ (FRb.out _ F4.out)).mono ?_); rintro e w5 ⟨rfl, hb5⟩; have F5 := Lib.hid (FRn.out _ _ F4.out hb5); obtain ⟨x0, x1, x2, x3, x4⟩ := FRk.out _ F5.out; clear hb5))
            exact ⟨⟨k + 1, by omega, by go_num, hB.trans ((FRb.out _ F5.out).mono hBs)⟩, by simp [intOf]; omega⟩
          | true =>
            rw [tb] at KMB
            by_cases hr : sa.length = 2
            · skip
              as_aux_lemma =>
              obtain ⟨r, n, hrn⟩ := two_of hr (tnb_parts ta).1
              have la := (tnb_parts ta).2.1
              have hdl : da.length = r * n := by
                rw [hrn] at la
                have : (da.length : Int) = (r : Int) * ((n : Int) * 1) := la
                rw [Int.mul_one, ← Int.natCast_mul] at this; omega
              have hr1 : 1 ≤ r ∧ 1 ≤ n ∧ r ≤ 4096 := by
                have h0 := (tnb_parts ta).1
                rw [hrn] at h0
                have h1 : 1 ≤ (r : Int) ∧ (r : Int) ≤ 4096 := may_dim h0 (i := 0) (by simp)
                have h2 : 1 ≤ (n : Int) := (may_dim h0 (i := 1) (by simp)).1
                omega
              have hn40 : n ≤ 40 := by have := Nat.mul_le_mul_right n hr1.1; omega
              have lsb := may_len (tnb_parts tb).1
              obtain ⟨fN, hfN⟩ : ∃ fN : Nat, (fN : Int) = 8 + f % 18446744073709551616 % 25 := ⟨(8 + f % 18446744073709551616 % 25).toNat, by omega⟩
              have hfb : fb fN = true := fb_mk (by omega)
              have hf64 : fN < 64 := by omega
              have KFF : Hid (∀ W : World, Calls Try.prog 13 #[.int .i64 f] W fun e w' => e = .returned (.int .i64 (fN : Int)) ∧ W = w') := Lib.hid (fun W => by rw [hfN]; exact ff_any f W)
              obtain ⟨O, hO⟩ : ∃ O : Int, O = 2 ^ fN := ⟨_, rfl⟩
              have HEO : Hid (wrap64 (2 ^ fN) = O ∧ IntKind.i64.wrap (2 ^ fN) = O) := Lib.hid (by rw [hO]; exact ⟨wrap_pow1 hfb, wrap_pow2 hfb⟩)
              obtain ⟨gA, fA, hoA, _⟩ := ld_at HL.out.1 (k := 0) (by omega)
              subst hoA
              obtain ⟨gX, fX, hoX, _⟩ := ld_at HL.out.2.1 (k := 0) (by rw [hdl]; exact Nat.mul_pos (by omega) (by omega))
              subst hoX
              have HLW : Hid (∀ W, FR W → Ld W (.slice (some ⟨gA, fA, none⟩) sa.length cA) sa ∧ Ld W (.slice (some ⟨gX, fX, none⟩) da.length cX) da ∧ Ld W (.slice oB sb.length cB) sb ∧ Ld W (.slice oY db.length cY) db) := Lib.hid (fun W h => ⟨HL.out.1.below (FRb.out _ h), HL.out.2.1.below (FRb.out _ h), HL.out.2.2.1.below (FRb.out _ h), HL.out.2.2.2.below (FRb.out _ h)⟩)
              have HSA : Hid (∀ W, FR W → W.cell? ⟨gA, fA, none⟩ = some (.int .i64 (r : Int)) ∧ W.cell? ⟨gA, fA + 1, none⟩ = some (.int .i64 (n : Int))) := Lib.hid (fun W h => by
                have h0 := ld_cell (HLW.out W h).1 (k := 0) (by omega)
                have h1 := ld_cell (HLW.out W h).1 (k := 1) (by omega)
                have e0 : sa.getD 0 0 = (r : Int) := by rw [hrn]; rfl
                have e1 : sa.getD 1 0 = (n : Int) := by rw [hrn]; rfl
                rw [e0, Nat.add_zero] at h0
                rw [e1] at h1
                exact ⟨h0, h1⟩)
              have HRN := Lib.hid hrn
              obtain ⟨N2, hN2⟩ : ∃ N, N = n * n := ⟨_, rfl⟩
              have hN16 : N2 ≤ 1600 := by rw [hN2]; have := Nat.mul_le_mul hn40 hn40; omega
              have HN2 := Lib.hid hN2
              have HE12 := Lib.hid (nat_wrap hN2 (by omega))
              have mk : ∀ W : World, (Instr.makeSlice 24 (.int .i64 (N2 : Int)) (.int .i64 (N2 : Int))).run Try.prog W = .ok (.slice (some ⟨W.heap.size, 0, none⟩) N2 N2) (W.alloc (.cells (ints (nod N2)).toArray 2)) := fun W => by
                obtain ⟨i1, hi1, hy0, hy1, hy2⟩ := info_parts infoW
                have := run_make (w := W) 24 2 i1 (.int .i64 0) Try.underlying24 hi1 hy0 .i64 .i64 N2 N2 (by omega) (by omega) (by rw [hy2]; omega) (by omega)
                rw [this, hy1, nod, ← made_ints]; simp [Value.cells]
              have K2 : Hid (∀ W vs vd L, FR W → Ld W vs [(n : Int), (n : Int)] → Ld W vd L → (L.length = n * n ∧ ∀ k j, k < n → j < n → L.getD (k * n + j) 0 = if k = j then O else 0) → Calls Try.prog 18 #[.agg #[.slice (some ⟨gA, fA, none⟩) sa.length cA, .slice (some ⟨gX, fX, none⟩) da.length cX], .agg #[vs, vd], .int .i64 (fN : Int)] W (TyL W 0 sa sa.length da da.length)) := Lib.hid (fun W vs vd L h h1 h2 h3 => by
                have q := mul_all _ _ vs vd sa da _ L fN W (HLW.out _ h).1 (HLW.out _ h).2.1 h1 h2 ta (one_tnb hr1.2.1 hn40 h3.1 (by rw [hO]; exact wd_pow' hfb) h3.2) hfb
                have u := turns_one (r := r) (n := n) (f := fN) (da := da) (ods := L) (by rw [← hrn]; exact ta) (by rw [← hO]; exact h3.2)
                rw [← hrn] at u
                have e : msh sa [(n : Int), (n : Int)] = sa := by rw [hrn]; rfl
                rw [u.1, u.2, e] at q
                exact q.mono (fun _ _ hh => tyL_of rfl rfl hh))
              have KE := Lib.hid (fun W va vb ua ub (ha : Ld W va sa) (hb : Ld W vb da) (hc : Ld W ua sa) (hd : Ld W ub da) => eqtensor_same va vb ua ub _ _ W ha hb hc hd (by omega) (by omega))
              obtain ⟨E, hE⟩ : ∃ E, E = mue sa da sb db fN := ⟨_, rfl⟩
              obtain ⟨S, hS⟩ : ∃ S, S = msh sa sb := ⟨_, rfl⟩
              obtain ⟨LQ, hLQ⟩ : ∃ L, L = muw sa da sb db fN := ⟨_, rfl⟩
              have K3 : Hid (∀ W, FR W → Calls Try.prog 18 #[.agg #[.slice (some ⟨gA, fA, none⟩) sa.length cA, .slice (some ⟨gX, fX, none⟩) da.length cX], .agg #[.slice oB sb.length cB, .slice oY db.length cY], .int .i64 (fN : Int)] W (TyL W E (unl E S) (unl E S).length (unl E LQ) (unl E LQ).length)) := Lib.hid (fun W h => by
                have q := mul_all _ _ _ _ sa da sb db fN W (HLW.out _ h).1 (HLW.out _ h).2.1 (HLW.out _ h).2.2.1 (HLW.out _ h).2.2.2 ta tb hfb
                rw [← hE, ← hS, ← hLQ] at q
                exact q.mono (fun _ _ hh => tyL_of rfl rfl hh))
              have HX := Lib.hid (And.intro ta (And.intro tb hfb))
              have HEQ := Lib.hid (And.intro hE (And.intro hS hLQ))
              have HR1 := Lib.hid (And.intro hr1 (And.intro hdl hn40))
              have hz1 : ((sa.length : Int) != 2) = false := by simp [hr]
              have hz3 : (1 : Int) < (sa.length : Int) := by omega
              have hz4 : (0 : Int) < (sa.length : Int) := by omega
              have hz6 : 0 < sa.length := by omega
              have hz7 : 1 < sa.length := by omega
              have hn41 : (n : Int) ≤ 40 := by omega
              clear hr ta tb hrn la hdl lsb hfb hfN hO hN2 hE hS hLQ na
              go_upto_region 9 with (first | (go_at_call 11; (with_reducible refine (LG.out _ (K0.out _)).mono ?_); rintro e w2 ⟨rfl, hb2⟩; have F2 := Lib.hid (FRs.out _ hb2); obtain ⟨x0, x1, x2, x3, x4⟩ := FRk.out _ F2.out; clear hb2) | (go_at_call 12; (with_reducible refine (KMA.out _ (FRb.out _ F2.out)).mono ?_); rintro e w4 ⟨rfl, hb4⟩; have F4 := Lib.hid (FRn.out _ _ F2.out hb4); obtain ⟨x0, x1, x2, x3, x4⟩ := FRk.out _ F4.out; clear hb4) | (go_at_call 12; (with_reducible refine (KMB.out _ (FRb.out _ F4.out)).mono ?_); rintro e w5 ⟨rfl, hb5⟩; have F5 := Lib.hid (FRn.out _ _ F4.out hb5); obtain ⟨x0, x1, x2, x3, x4⟩ := FRk.out _ F5.out; clear hb5) | (go_at_call 13; (with_reducible refine (KFF.out _).mono ?_); rintro e w' ⟨rfl, rfl⟩))
              as_aux_lemma =>
              have P0n := FRn
              obtain ⟨P0, hP0⟩ : ∃ P : World → Prop, P = FR := ⟨_, rfl⟩
              subst hP0
              clear x0 x1 x2 x3 x4 LG KMA KMB K0 FRs F2 F4
              obtain ⟨s0, s1⟩ := HSA.out _ F5.out
              obtain ⟨x0, x1, x2, x3, x4⟩ := FRk.out _ F5.out
              obtain ⟨e1, e2⟩ := HE12.out
              go_upto_region 12 with fail
              clear e1 e2
              obtain ⟨v1, hv⟩ : ∃ v, v = ((w5.alloc (.cells #[.int .i64 (n : Int), .int .i64 (n : Int)] 3)).alloc (.cells (ints (nod N2)).toArray 2)).alloc (.cells #[.slice (some ⟨w5.heap.size, 0, none⟩) 2 2, .slice (some ⟨w5.heap.size + 1, 0, none⟩) N2 N2] 26) := ⟨_, rfl⟩
              obtain ⟨g1, hg1⟩ : ∃ g, g = w5.heap.size := ⟨_, rfl⟩
              have QA : Hid (Blk v1 g1 3 (ints [(n : Int), (n : Int)]).toArray) := Lib.hid (by rw [hv, hg1]; exact ((Blk.new w5 _ _).alloc _).alloc _)
              have QB : Hid (Blk v1 (g1 + 1) 2 (ints (nod N2)).toArray) := Lib.hid (by rw [hv, hg1]; exact (blk_new1 w5 _ _ _).alloc _)
              have QC : Hid (Blk v1 (g1 + 2) 26 #[.slice (some ⟨g1, 0, none⟩) 2 2, .slice (some ⟨g1 + 1, 0, none⟩) N2 N2]) := Lib.hid (by
                rw [hv, hg1]
                have q := Blk.new ((w5.alloc (.cells #[.int .i64 (n : Int), .int .i64 (n : Int)] 3)).alloc (.cells (ints (nod N2)).toArray 2)) 26 #[.slice (some ⟨w5.heap.size, 0, none⟩) 2 2, .slice (some ⟨w5.heap.size + 1, 0, none⟩) N2 N2]
                rw [World.size_alloc, World.size_alloc] at q
                exact q)
              have QD : Hid (Below w5.heap.size w5 v1) := Lib.hid (by rw [hv]; exact (((Below.refl _ _).alloc (Nat.le_refl _) _).alloc (by simp) _).alloc (by simp; omega) _)
              have HG1 := Lib.hid hg1
              simp only [Nat.add_assoc, Nat.reduceAdd]
              rw [← hg1] at hv
              rw [← hg1, ← hv]
              clear hv hg1 x0 x1 x2 x3 x4 mk HE12
              go_wp2
              go_loopw [8] (fun s8 wQ => ∃ (j : Nat) (L : List Int), j ≤ n ∧ s8 = .int .i64 j ∧ Hid (L.length = N2 ∧ ∀ a b, a < n → b < n → L.getD (a * n + b) 0 = if a = b ∧ a < j then O else 0) ∧ Hid (Blk wQ g1 3 (ints [(n : Int), (n : Int)]).toArray) ∧ Hid (Blk wQ (g1 + 1) 2 (ints L).toArray) ∧ Hid (Blk wQ (g1 + 2) 26 #[.slice (some ⟨g1, 0, none⟩) 2 2, .slice (some ⟨g1 + 1, 0, none⟩) N2 N2]) ∧ Hid (Below w5.heap.size w5 wQ)) (fun s8 _ => n - (intOf s8).toNat)
              case atStart => exact ⟨0, nod N2, Nat.zero_le _, rfl, Lib.hid ⟨by simp [nod], fun a b _ _ => by rw [nod_at, if_neg (by omega)]⟩, QA, QB, QC, QD⟩
              case round =>
                obtain ⟨j, L, hj, rfl, HLL, HQA, HQB, HQC, HQD⟩ := hrel
                obtain ⟨t0, t1, _⟩ := blk2 HQC.out
                by_cases hlt : j < n
                · as_aux_lemma =>
                  obtain ⟨J, hJ⟩ : ∃ J, J = j * n := ⟨_, rfl⟩
                  obtain ⟨Q, hQ⟩ : ∃ Q, Q = j * n + j := ⟨_, rfl⟩
                  have hQ2 : Q < N2 := by rw [hQ, HN2.out]; exact row_lt hlt hlt
                  have h16 : J ≤ 65536 ∧ Q ≤ 65536 := by omega
                  have hQJ : Q = J + j := by omega
                  have HE := Lib.hid (And.intro (nat_wrap hJ h16.1) (nat_wrap_add hQJ h16.2))
                  have kc := HQB.out.cell Q
                  rw [ints_at (by rw [HLL.out.1]; exact hQ2)] at kc
                  have kf := HQB.out.frozen Q
                  generalize L.getD Q 0 = l0 at kc
                  have R1 := Lib.hid (HQB.out.put Q O)
                  have R2 := Lib.hid (HQA.out.far (p := ⟨g1 + 1, Q, none⟩) (by show g1 ≠ g1 + 1; omega) (.int .i64 O))
                  have R3 := Lib.hid (HQC.out.far (p := ⟨g1 + 1, Q, none⟩) (by show g1 + 2 ≠ g1 + 1; omega) (.int .i64 O))
                  have R4 := Lib.hid (HQD.out.setCell (p := ⟨g1 + 1, Q, none⟩) (by show w5.heap.size ≤ g1 + 1; rw [HG1.out]; omega) (.int .i64 O))
                  have HL2 : Hid ((L.set Q O).length = N2 ∧ ∀ a b, a < n → b < n → (L.set Q O).getD (a * n + b) 0 = if a = b ∧ a < j + 1 then O else 0) := Lib.hid ⟨by rw [List.length_set]; exact HLL.out.1, fun a b ha hb => by rw [hQ]; exact diag_step (by rw [HLL.out.1, ← hQ]; exact hQ2) hlt ha hb (HLL.out.2 a b ha hb)⟩
                  have i1 : (Q : Int) < (N2 : Int) := by omega
                  clear hJ hQ hQ2 h16 hQJ
                  obtain ⟨⟨e1, e2⟩, ⟨e3, e4⟩⟩ := HE.out
                  obtain ⟨eo1, eo2⟩ := HEO.out
                  go_wp2
                  go_region
                  go_wp2
                  clear e1 e2 e3 e4 eo1 eo2
                  exact ⟨⟨j + 1, L.set Q O, by omega, by go_num, HL2, R2, R1, R3, Lib.hid (below_drw R4.out 1)⟩, by simp [intOf]; omega⟩
                · as_aux_lemma =>
                  obtain rfl : n = j := by omega
                  have HOD : Hid (L.length = n * n ∧ ∀ k b, k < n → b < n → L.getD (k * n + b) 0 = if k = b then O else 0) := Lib.hid ⟨by rw [HLL.out.1, HN2.out], fun k b hk hb => by rw [HLL.out.2 k b hk hb]; simp [hk]⟩
                  have HLn : Hid (Ld wr (.slice (some ⟨g1, 0, none⟩) 2 2) [(n : Int), (n : Int)] ∧ Ld wr (.slice (some ⟨g1 + 1, 0, none⟩) N2 N2) L) := Lib.hid ⟨Ld.of_blk HQA.out (Nat.le_refl _), by
                    have q := Ld.of_blk (c := N2) HQB.out (by rw [HLL.out.1]; exact Nat.le_refl _)
                    rwa [HLL.out.1] at q⟩
                  have HLL1 := Lib.hid HLL.out.1
                  obtain ⟨v1', hv1⟩ : ∃ v, v = wr := ⟨_, rfl⟩
                  rw [← hv1] at HLn HQC HQD t0 t1
                  rw [← hv1]
                  have GQ1 := Lib.hid (P0n.out _ _ F5.out HQD.out)
                  clear hv1 HQA HQB HLL hlt QA QB QC QD HEO hf64
                  obtain ⟨P1, hP⟩ : ∃ P : World → Prop, P = fun W => P0 W ∧ Blk W (g1 + 2) 26 #[.slice (some ⟨g1, 0, none⟩) 2 2, .slice (some ⟨g1 + 1, 0, none⟩) N2 N2] ∧ Ld W (.slice (some ⟨g1, 0, none⟩) 2 2) ([(n : Int), (n : Int)]) ∧ Ld W (.slice (some ⟨g1 + 1, 0, none⟩) N2 N2) (L) := ⟨_, rfl⟩
                  have G1 : Hid (P1 v1') := Lib.hid (by rw [hP]; exact ⟨GQ1.out, HQC.out, HLn.out.1, HLn.out.2⟩)
                  have P1f : Hid (∀ W, P1 W → P0 W) := Lib.hid (fun W h => by rw [hP] at h; exact h.1)
                  have P1n : Hid (∀ W W', P1 W → Below W.heap.size W W' → P1 W') := Lib.hid (fun W W' h hb => by rw [hP] at h ⊢; exact ⟨P0n.out _ _ h.1 hb, h.2.1.below hb h.2.1.lt, h.2.2.1.below hb, h.2.2.2.below hb⟩)
                  have P1t : Hid (∀ W, P1 W → (W.cell? ⟨(g1 + 2), 0, none⟩ = some (.slice (some ⟨g1, 0, none⟩) 2 2) ∧ W.cell? ⟨(g1 + 2), 1, none⟩ = some (.slice (some ⟨g1 + 1, 0, none⟩) N2 N2)) ∧ Ld W (.slice (some ⟨g1, 0, none⟩) 2 2) ([(n : Int), (n : Int)]) ∧ Ld W (.slice (some ⟨g1 + 1, 0, none⟩) N2 N2) (L)) := Lib.hid (fun W h => by rw [hP] at h; exact ⟨⟨(blk2 h.2.1).1, (blk2 h.2.1).2.1⟩, h.2.2⟩)
                  clear hP
                  clear GQ1 HQC HLn HQD
                  obtain ⟨x0, x1, x2, x3, x4⟩ := FRk.out _ (P1f.out _ G1.out)
                  go_upto_region 17 with (go_at_call 18; (with_reducible refine (K2.out _ _ _ L (P1f.out _ G1.out) (P1t.out _ G1.out).2.1 (P1t.out _ G1.out).2.2 HOD.out).mono ?_); rintro e wz2 ⟨os2, cs2, od2, cd2, rfl, h1, h2, hb⟩; have U2 := Lib.hid (And.intro (P1n.out _ _ G1.out hb) (And.intro h1 h2)); clear h1 h2 hb)
                  obtain ⟨v2, hv⟩ : ∃ v, v = wz2.alloc (.cells #[.slice os2 sa.length cs2, .slice od2 da.length cd2] 26) := ⟨_, rfl⟩
                  obtain ⟨T2, hT⟩ : ∃ T, T = wz2.heap.size := ⟨_, rfl⟩
                  rw [← hv, ← hT]
                  obtain ⟨P2, hP⟩ : ∃ P : World → Prop, P = fun W => P1 W ∧ Blk W T2 26 #[.slice os2 sa.length cs2, .slice od2 da.length cd2] ∧ Ld W (.slice os2 sa.length cs2) (sa) ∧ Ld W (.slice od2 da.length cd2) (da) := ⟨_, rfl⟩
                  have G2 : Hid (P2 v2) := Lib.hid (by rw [hP]; exact ⟨by rw [hv]; exact P1n.out _ _ U2.out.1 (al_below _), by rw [hv, hT]; exact Blk.new _ _ _, by rw [hv]; exact U2.out.2.1.below (al_below _), by rw [hv]; exact U2.out.2.2.below (al_below _)⟩)
                  have P2f : Hid (∀ W, P2 W → P1 W) := Lib.hid (fun W h => by rw [hP] at h; exact h.1)
                  have P2n : Hid (∀ W W', P2 W → Below W.heap.size W W' → P2 W') := Lib.hid (fun W W' h hb => by rw [hP] at h ⊢; exact ⟨P1n.out _ _ h.1 hb, h.2.1.below hb h.2.1.lt, h.2.2.1.below hb, h.2.2.2.below hb⟩)
                  have P2t : Hid (∀ W, P2 W → (W.cell? ⟨T2, 0, none⟩ = some (.slice os2 sa.length cs2) ∧ W.cell? ⟨T2, 1, none⟩ = some (.slice od2 da.length cd2)) ∧ Ld W (.slice os2 sa.length cs2) (sa) ∧ Ld W (.slice od2 da.length cd2) (da)) := Lib.hid (fun W h => by rw [hP] at h; exact ⟨⟨(blk2 h.2.1).1, (blk2 h.2.1).2.1⟩, h.2.2⟩)
                  clear hP
                  clear hv hT U2 x0 x1 x2 x3 x4 t0 t1
                  obtain ⟨x0, x1, x2, x3, x4⟩ := FRk.out _ (P1f.out _ (P2f.out _ G2.out))
                  obtain ⟨⟨y2_0, y2_1⟩, _⟩ := P2t.out _ G2.out
                  go_upto_region 19 with (first | (go_at_call 15; (with_reducible refine (num10_any _ _).mono ?_); rintro e w' ⟨rfl, rfl⟩) | (go_at_call 16; (with_reducible refine (KE.out _ _ _ _ _ (P2t.out _ G2.out).2.1 (P2t.out _ G2.out).2.2 (HLW.out _ (P1f.out _ (P2f.out _ G2.out))).1 (HLW.out _ (P1f.out _ (P2f.out _ G2.out))).2.1).mono ?_); rintro e q1 ⟨rfl, hb⟩; have GQ := Lib.hid (P2n.out _ _ G2.out hb); clear x0 x1 x2 x3 x4 y2_0 y2_1; obtain ⟨x0, x1, x2, x3, x4⟩ := FRk.out _ (P1f.out _ (P2f.out _ GQ.out)); clear hb))
                  by_cases hE : E = 0
                  · as_aux_lemma =>
                    by_cases hz2 : sb.length = 2
                    · skip
                      skip
                      obtain ⟨ta, tb, hfb⟩ := HX.out
                      obtain ⟨hE', hS, hLQ⟩ := HEQ.out
                      have hmu : mue sa da sb db fN = 0 := hE'.symm.trans hE
                      clear hE'
                      subst hE
                      obtain ⟨x, c, hsb⟩ := two_of hz2 (tnb_parts tb).1
                      obtain ⟨hfit, hmay, _⟩ := mue_ok hmu
                      have h5 := (mfit_len hfit).2.2.2.2
                      have hrn := HRN.out
                      rw [hrn, hsb] at h5
                      have h5' : (n : Int) = (x : Int) := h5
                      obtain rfl : n = x := by omega
                      clear h5 h5'
                      have hz2' : ((sb.length : Int) != 2) = false := by simp [hz2]
                      have hz5 : (1 : Int) < (sb.length : Int) := by omega
                      have hz8 : 1 < sb.length := by omega
                      obtain ⟨gB, fB, hoB, _⟩ := ld_at HL.out.2.2.1 (k := 0) (by omega)
                      subst hoB
                      have HSB : Hid (∀ W, P0 W → W.cell? ⟨gB, fB, none⟩ = some (.int .i64 (n : Int)) ∧ W.cell? ⟨gB, fB + 1, none⟩ = some (.int .i64 (c : Int))) := Lib.hid (fun W h => by
                        have h0 := ld_cell (HLW.out W h).2.2.1 (k := 0) (by omega)
                        have h1 := ld_cell (HLW.out W h).2.2.1 (k := 1) (by omega)
                        have e0 : sb.getD 0 0 = (n : Int) := by rw [hsb]; rfl
                        have e1 : sb.getD 1 0 = (c : Int) := by rw [hsb]; rfl
                        rw [e0, Nat.add_zero] at h0
                        rw [e1] at h1
                        exact ⟨h0, h1⟩)
                      have hc1 : 1 ≤ c ∧ c ≤ 4096 := by
                        have h0 := (tnb_parts tb).1
                        rw [hsb] at h0
                        have h1 : 1 ≤ (c : Int) ∧ (c : Int) ≤ 4096 := may_dim h0 (i := 1) (by simp)
                        omega
                      obtain ⟨⟨hr1, hn1, hr4⟩, hdl, hn40⟩ := HR1.out
                      have hS2 : S = [(r : Int), (c : Int)] := by rw [hS, hrn, hsb]; rfl
                      obtain ⟨mL, hmL⟩ : ∃ m, m = r * c := ⟨_, rfl⟩
                      have hmL6 : mL ≤ 65536 := by
                        have := may_prod hmay
                        rw [← hS, hS2] at this
                        have e : prod [(r : Int), (c : Int)] = ((r * c : Nat) : Int) := by show (r : Int) * ((c : Int) * 1) = _; push_cast; rw [Int.mul_one]
                        omega
                      have hlq : LQ.length = mL := by rw [hLQ, muw_len, hrn, hsb, two_mun, hmL]
                      have tL : tnb [(r : Int), (c : Int)] LQ = true := by rw [← hS2, hS, hLQ]; exact muw_tnb hmu
                      have hdb : (db.length : Int) = prod sb := (tnb_parts tb).2.1
                      have hdb2 : 1 * (n * c) ≤ 65536 := by
                        have h0 := may_prod (tnb_parts tb).1
                        have e : prod sb = ((n * c : Nat) : Int) := by rw [hsb]; show (n : Int) * ((c : Int) * 1) = _; push_cast; rw [Int.mul_one]
                        rw [Nat.one_mul]; omega
                      have K3' : Hid (∀ W, P0 W → Calls Try.prog 18 #[.agg #[.slice (some ⟨gA, fA, none⟩) sa.length cA, .slice (some ⟨gX, fX, none⟩) da.length cX], .agg #[.slice (some ⟨gB, fB, none⟩) sb.length cB, .slice oY db.length cY], .int .i64 (fN : Int)] W (TyL W 0 [(r : Int), (c : Int)] 2 LQ mL)) := Lib.hid (fun W h => by
                        have q := K3.out W h
                        rw [show unl 0 S = [(r : Int), (c : Int)] from hS2, show unl 0 LQ = LQ from rfl, hlq] at q
                        exact q)
                      obtain ⟨D4, hD4⟩ : ∃ D, D = tnn 1 r n da := ⟨_, rfl⟩
                      obtain ⟨n4, hn4⟩ : ∃ m, m = D4.length := ⟨_, rfl⟩
                      obtain ⟨D5, hD5⟩ : ∃ D, D = tnn 1 n c db := ⟨_, rfl⟩
                      obtain ⟨n5, hn5⟩ : ∃ m, m = D5.length := ⟨_, rfl⟩
                      obtain ⟨D7, hD7⟩ : ∃ D, D = tnn 1 r c LQ := ⟨_, rfl⟩
                      obtain ⟨n7, hn7⟩ : ∃ m, m = D7.length := ⟨_, rfl⟩
                      have ta2 : tnb ([] ++ [(r : Int), (n : Int)]) da = true := by rw [List.nil_append, ← hrn]; exact ta
                      have tb2 : tnb ([] ++ [(n : Int), (c : Int)]) db = true := by rw [List.nil_append, ← hsb]; exact tb
                      have K4 : Hid (∀ W, P0 W → Calls Try.prog 14 #[.agg #[.slice (some ⟨gA, fA, none⟩) sa.length cA, .slice (some ⟨gX, fX, none⟩) da.length cX]] W (TyL W 0 [(n : Int), (r : Int)] 2 D4 n4)) := Lib.hid (fun W h => by
                        have q := turn_ok _ _ sa da [] r n 1 W (HLW.out _ h).1 (HLW.out _ h).2.1 ta hrn rfl (fun _ hx => by cases hx) ⟨hr1, hn1, Nat.le_refl _⟩ (by rw [hrn]; exact prod_two [] r n 1 rfl) (by rw [Nat.one_mul]; have := (tnb_parts ta).2.1; have := may_prod (tnb_parts ta).1; omega) (by simp)
                        rw [← hD4] at q
                        exact q.mono (fun _ _ hh => tyL_of rfl hn4 hh))
                      have K5 : Hid (∀ W, P0 W → Calls Try.prog 14 #[.agg #[.slice (some ⟨gB, fB, none⟩) sb.length cB, .slice oY db.length cY]] W (TyL W 0 [(c : Int), (n : Int)] 2 D5 n5)) := Lib.hid (fun W h => by
                        have q := turn_ok _ _ sb db [] n c 1 W (HLW.out _ h).2.2.1 (HLW.out _ h).2.2.2 tb hsb rfl (fun _ hx => by cases hx) ⟨hn1, hc1.1, Nat.le_refl _⟩ (by rw [hsb]; exact prod_two [] n c 1 rfl) hdb2 (by simp)
                        rw [← hD5] at q
                        exact q.mono (fun _ _ hh => tyL_of rfl hn5 hh))
                      have hTT := turns_turn (r := r) (n := n) (c := c) (da := da) (db := db) (f := fN) (by rw [← hrn, ← hsb]; exact hmu)
                      rw [← hrn, ← hsb, ← hLQ, ← hD4, ← hD5, ← hD7] at hTT
                      have K6 : Hid (∀ W vs vd vt ve, Ld W vs [(c : Int), (n : Int)] → Ld W vd D5 → Ld W vt [(n : Int), (r : Int)] → Ld W ve D4 → Calls Try.prog 18 #[.agg #[vs, vd], .agg #[vt, ve], .int .i64 (fN : Int)] W (TyL W 0 [(c : Int), (r : Int)] 2 D7 n7)) := Lib.hid (fun W vs vd vt ve h1 h2 h3 h4 => by
                        have q := mul_all vs vd vt ve _ D5 _ D4 fN W h1 h2 h3 h4 (by rw [hD5]; exact tnn_tnb (p := []) tb2 rfl) (by rw [hD4]; exact tnn_tnb (p := []) ta2 rfl) hfb
                        rw [hTT.1, hTT.2] at q
                        exact q.mono (fun _ _ hh => tyL_of rfl hn7 hh))
                      have K7 : Hid (∀ W vs vd, Ld W vs [(r : Int), (c : Int)] → Ld W vd LQ → Calls Try.prog 14 #[.agg #[vs, vd]] W (TyL W 0 [(c : Int), (r : Int)] 2 D7 n7)) := Lib.hid (fun W vs vd h1 h2 => by
                        have q := turn_ok vs vd _ LQ [] r c 1 W h1 h2 tL rfl rfl (fun _ hx => by cases hx) ⟨hr1, hc1.1, Nat.le_refl _⟩ (prod_two [] r c 1 rfl) (by rw [Nat.one_mul, ← hmL]; exact hmL6) (by simp)
                        rw [← hD7] at q
                        exact q.mono (fun _ _ hh => tyL_of rfl hn7 hh))
                      have KE6 := Lib.hid (fun W va vb ua ub (ha : Ld W va [(c : Int), (r : Int)]) (hb : Ld W vb D7) (hc : Ld W ua [(c : Int), (r : Int)]) (hd : Ld W ub D7) => eqtensor_same va vb ua ub _ _ W ha hb hc hd (by simp) (by rw [hD7, tnn_len, Nat.one_mul, Nat.mul_comm c r, ← hmL]; omega))
                      obtain ⟨X, hX⟩ : ∃ X : Nat, (X : Int) = (f % 18446744073709551616) % (r : Int) := ⟨((f % 18446744073709551616) % (r : Int)).toNat, Int.toNat_of_nonneg (Int.emod_nonneg _ (by omega))⟩
                      have hXr : X < r := by have := Int.emod_lt_of_pos (f % 18446744073709551616) (show 0 < (r : Int) by omega); omega
                      have KWI : Hid (∀ W : World, Calls Try.prog 20 #[.int .i64 f, .int .i64 (r : Int)] W fun e w' => e = .returned (.int .i64 (X : Int)) ∧ W = w') := Lib.hid (fun W => by rw [hX]; exact win_any f (r : Int) W (by omega) (by omega))
                      obtain ⟨lo, hlo⟩ : ∃ m, m = X * n := ⟨_, rfl⟩
                      obtain ⟨X1, hX1⟩ : ∃ m, m = X + 1 := ⟨_, rfl⟩
                      obtain ⟨hi, hhi⟩ : ∃ m, m = X1 * n := ⟨_, rfl⟩
                      obtain ⟨lo2, hlo2⟩ : ∃ m, m = X * c := ⟨_, rfl⟩
                      obtain ⟨hi2, hhi2⟩ : ∃ m, m = X1 * c := ⟨_, rfl⟩
                      have hhl : lo + n = hi := by rw [hhi, hlo, hX1, Nat.add_mul, Nat.one_mul]
                      have hhl2 : lo2 + c = hi2 := by rw [hhi2, hlo2, hX1, Nat.add_mul, Nat.one_mul]
                      have hhr : hi ≤ da.length := by rw [hdl, hhi]; exact Nat.mul_le_mul_right n (by omega)
                      have hhr2 : hi2 ≤ mL := by rw [hmL, hhi2]; exact Nat.mul_le_mul_right c (by omega)
                      have hd40 : da.length ≤ 65536 := by have := (tnb_parts ta).2.1; have := may_prod (tnb_parts ta).1; omega
                      have hr65 : X1 ≤ 65536 := by have := Nat.mul_le_mul_left r hn1; omega
                      have HWR := Lib.hid (And.intro (nat_wrap hlo (by omega)) (And.intro (nat_wrap hhi (by omega)) (And.intro (nat_wrap hlo2 (by omega)) (And.intro (nat_wrap hhi2 (by omega)) (nat_wrap_one hX1 hr65)))))
                      have HHL := Lib.hid (And.intro (And.intro hhl hhr) (And.intro (And.intro hhl2 hhr2) (And.intro hn1 hc1.1)))
                      have hRW := turns_row (r := r) (n := n) (c := c) (da := da) (db := db) (f := fN) hXr (by rw [← hrn, ← hsb]; exact hmu) (by rw [← hsb]; exact (tnb_parts tb).1)
                      rw [← hrn, ← hsb, ← hLQ, ← hlo, ← hlo2] at hRW
                      have K9 : Hid (∀ W vs vd, P0 W → Ld W vs [(1 : Int), (n : Int)] → Ld W vd ((da.drop lo).take n) → Calls Try.prog 18 #[.agg #[vs, vd], .agg #[.slice (some ⟨gB, fB, none⟩) sb.length cB, .slice oY db.length cY], .int .i64 (fN : Int)] W (TyL W 0 [(1 : Int), (c : Int)] 2 ((LQ.drop lo2).take c) c)) := Lib.hid (fun W vs vd h h1 h2 => by
                        have q := mul_all vs vd _ _ [((1 : Nat) : Int), (n : Int)] ((da.drop lo).take n) sb db fN W h1 h2 (HLW.out _ h).2.2.1 (HLW.out _ h).2.2.2 (row_tnb hn1 hn40 (by omega) (tnb_parts ta).2.2) tb hfb
                        rw [hRW.1, hRW.2, show msh [((1 : Nat) : Int), (n : Int)] sb = [((1 : Nat) : Int), (c : Int)] by rw [hsb]; rfl] at q
                        exact q.mono (fun _ _ hh => tyL_of (S := [((1 : Nat) : Int), (c : Int)]) (D := (LQ.drop lo2).take c) rfl (drop_take_len (by omega)).symm hh))
                      have KEW := Lib.hid (fun W va vb (ha : Ld W va ((LQ.drop lo2).take c)) (hb : Ld W vb ((LQ.drop lo2).take c)) => eqw_same va vb _ W ha hb (by rw [drop_take_len (by omega)]; omega))
                      have HCC := Lib.hid (ld_cap HL.out.2.1)
                      have bm : ((mL : Int) != (mL : Int)) = false := by simp
                      have HMM := Lib.hid (nat_wrap hmL hmL6)
                      have hlqH := Lib.hid hlq
                      clear hz2 ta tb hfb hS hLQ hmu hsb hfit hmay hrn hc1 hr1 hn1 hr4 hdl hn40 hS2 hmL hmL6 hlq tL hdb hdb2 K3 hD4 hn4 hD5 hn5 hD7 hn7 ta2 tb2 hTT hX hXr hlo hX1 hhi hlo2 hhi2 hhl hhl2 hhr hhr2 hd40 hr65 hRW

                      go_upto_region 20 with (go_at_call 18; (with_reducible refine (K3'.out _ (P1f.out _ (P2f.out _ GQ.out))).mono ?_); rintro e wz3 ⟨os3, cs3, od3, cd3, rfl, h1, h2, hb⟩; have U3 := Lib.hid (And.intro (P2n.out _ _ GQ.out hb) (And.intro h1 h2)); clear h1 h2 hb)
                      obtain ⟨v3, hv⟩ : ∃ v, v = wz3.alloc (.cells #[.slice os3 2 cs3, .slice od3 mL cd3] 26) := ⟨_, rfl⟩
                      obtain ⟨T3, hT⟩ : ∃ T, T = wz3.heap.size := ⟨_, rfl⟩
                      rw [← hv, ← hT]
                      obtain ⟨P3, hP⟩ : ∃ P : World → Prop, P = fun W => P2 W ∧ Blk W T3 26 #[.slice os3 2 cs3, .slice od3 mL cd3] ∧ Ld W (.slice os3 2 cs3) ([(r : Int), (c : Int)]) ∧ Ld W (.slice od3 mL cd3) (LQ) := ⟨_, rfl⟩
                      have G3 : Hid (P3 v3) := Lib.hid (by rw [hP]; exact ⟨by rw [hv]; exact P2n.out _ _ U3.out.1 (al_below _), by rw [hv, hT]; exact Blk.new _ _ _, by rw [hv]; exact U3.out.2.1.below (al_below _), by rw [hv]; exact U3.out.2.2.below (al_below _)⟩)
                      have P3f : Hid (∀ W, P3 W → P2 W) := Lib.hid (fun W h => by rw [hP] at h; exact h.1)
                      have P3n : Hid (∀ W W', P3 W → Below W.heap.size W W' → P3 W') := Lib.hid (fun W W' h hb => by rw [hP] at h ⊢; exact ⟨P2n.out _ _ h.1 hb, h.2.1.below hb h.2.1.lt, h.2.2.1.below hb, h.2.2.2.below hb⟩)
                      have P3t : Hid (∀ W, P3 W → (W.cell? ⟨T3, 0, none⟩ = some (.slice os3 2 cs3) ∧ W.cell? ⟨T3, 1, none⟩ = some (.slice od3 mL cd3)) ∧ Ld W (.slice os3 2 cs3) ([(r : Int), (c : Int)]) ∧ Ld W (.slice od3 mL cd3) (LQ)) := Lib.hid (fun W h => by rw [hP] at h; exact ⟨⟨(blk2 h.2.1).1, (blk2 h.2.1).2.1⟩, h.2.2⟩)
                      clear hP
                      clear hv hT U3 x0 x1 x2 x3 x4
                      obtain ⟨x0, x1, x2, x3, x4⟩ := FRk.out _ (P1f.out _ (P2f.out _ (P3f.out _ G3.out)))
                      go_upto_region 22 with (first | (go_at_call 14; (with_reducible refine (K4.out _ (P1f.out _ (P2f.out _ (P3f.out _ G3.out)))).mono ?_); rintro e wz4 ⟨os4, cs4, od4, cd4, rfl, h1, h2, hb⟩; have U4 := Lib.hid (And.intro (P3n.out _ _ G3.out hb) (And.intro h1 h2)); clear h1 h2 hb) | (go_at_call 15; (with_reducible refine (num10_any _ _).mono ?_); rintro e w' ⟨rfl, rfl⟩))
                      obtain ⟨v4, hv⟩ : ∃ v, v = wz4.alloc (.cells #[.slice os4 2 cs4, .slice od4 n4 cd4] 26) := ⟨_, rfl⟩
                      obtain ⟨T4, hT⟩ : ∃ T, T = wz4.heap.size := ⟨_, rfl⟩
                      rw [← hv, ← hT]
                      obtain ⟨P4, hP⟩ : ∃ P : World → Prop, P = fun W => P3 W ∧ Blk W T4 26 #[.slice os4 2 cs4, .slice od4 n4 cd4] ∧ Ld W (.slice os4 2 cs4) ([(n : Int), (r : Int)]) ∧ Ld W (.slice od4 n4 cd4) (D4) := ⟨_, rfl⟩
                      have G4 : Hid (P4 v4) := Lib.hid (by rw [hP]; exact ⟨by rw [hv]; exact P3n.out _ _ U4.out.1 (al_below _), by rw [hv, hT]; exact Blk.new _ _ _, by rw [hv]; exact U4.out.2.1.below (al_below _), by rw [hv]; exact U4.out.2.2.below (al_below _)⟩)
                      have P4f : Hid (∀ W, P4 W → P3 W) := Lib.hid (fun W h => by rw [hP] at h; exact h.1)
                      have P4n : Hid (∀ W W', P4 W → Below W.heap.size W W' → P4 W') := Lib.hid (fun W W' h hb => by rw [hP] at h ⊢; exact ⟨P3n.out _ _ h.1 hb, h.2.1.below hb h.2.1.lt, h.2.2.1.below hb, h.2.2.2.below hb⟩)
                      have P4t : Hid (∀ W, P4 W → (W.cell? ⟨T4, 0, none⟩ = some (.slice os4 2 cs4) ∧ W.cell? ⟨T4, 1, none⟩ = some (.slice od4 n4 cd4)) ∧ Ld W (.slice os4 2 cs4) ([(n : Int), (r : Int)]) ∧ Ld W (.slice od4 n4 cd4) (D4)) := Lib.hid (fun W h => by rw [hP] at h; exact ⟨⟨(blk2 h.2.1).1, (blk2 h.2.1).2.1⟩, h.2.2⟩)
                      clear hP
                      clear hv hT U4 x0 x1 x2 x3 x4
                      obtain ⟨x0, x1, x2, x3, x4⟩ := FRk.out _ (P1f.out _ (P2f.out _ (P3f.out _ (P4f.out _ G4.out))))
                      go_upto_region 23 with (go_at_call 14; (with_reducible refine (K5.out _ (P1f.out _ (P2f.out _ (P3f.out _ (P4f.out _ G4.out))))).mono ?_); rintro e wz5 ⟨os5, cs5, od5, cd5, rfl, h1, h2, hb⟩; have U5 := Lib.hid (And.intro (P4n.out _ _ G4.out hb) (And.intro h1 h2)); clear h1 h2 hb)
                      obtain ⟨v5, hv⟩ : ∃ v, v = wz5.alloc (.cells #[.slice os5 2 cs5, .slice od5 n5 cd5] 26) := ⟨_, rfl⟩
                      obtain ⟨T5, hT⟩ : ∃ T, T = wz5.heap.size := ⟨_, rfl⟩
                      rw [← hv, ← hT]
                      obtain ⟨P5, hP⟩ : ∃ P : World → Prop, P = fun W => P4 W ∧ Blk W T5 26 #[.slice os5 2 cs5, .slice od5 n5 cd5] ∧ Ld W (.slice os5 2 cs5) ([(c : Int), (n : Int)]) ∧ Ld W (.slice od5 n5 cd5) (D5) := ⟨_, rfl⟩
                      have G5 : Hid (P5 v5) := Lib.hid (by rw [hP]; exact ⟨by rw [hv]; exact P4n.out _ _ U5.out.1 (al_below _), by rw [hv, hT]; exact Blk.new _ _ _, by rw [hv]; exact U5.out.2.1.below (al_below _), by rw [hv]; exact U5.out.2.2.below (al_below _)⟩)
                      have P5f : Hid (∀ W, P5 W → P4 W) := Lib.hid (fun W h => by rw [hP] at h; exact h.1)
                      have P5n : Hid (∀ W W', P5 W → Below W.heap.size W W' → P5 W') := Lib.hid (fun W W' h hb => by rw [hP] at h ⊢; exact ⟨P4n.out _ _ h.1 hb, h.2.1.below hb h.2.1.lt, h.2.2.1.below hb, h.2.2.2.below hb⟩)
                      have P5t : Hid (∀ W, P5 W → (W.cell? ⟨T5, 0, none⟩ = some (.slice os5 2 cs5) ∧ W.cell? ⟨T5, 1, none⟩ = some (.slice od5 n5 cd5)) ∧ Ld W (.slice os5 2 cs5) ([(c : Int), (n : Int)]) ∧ Ld W (.slice od5 n5 cd5) (D5)) := Lib.hid (fun W h => by rw [hP] at h; exact ⟨⟨(blk2 h.2.1).1, (blk2 h.2.1).2.1⟩, h.2.2⟩)
                      clear hP
                      clear hv hT U5 x0 x1 x2 x3 x4
                      obtain ⟨⟨y5_0, y5_1⟩, _⟩ := P5t.out _ G5.out
                      obtain ⟨⟨y4_0, y4_1⟩, _⟩ := P4t.out _ (P5f.out _ G5.out)
                      go_upto_region 24 with (go_at_call 18; (with_reducible refine (K6.out _ _ _ _ _ (P5t.out _ G5.out).2.1 (P5t.out _ G5.out).2.2 (P4t.out _ (P5f.out _ G5.out)).2.1 (P4t.out _ (P5f.out _ G5.out)).2.2).mono ?_); rintro e wz6 ⟨os6, cs6, od6, cd6, rfl, h1, h2, hb⟩; have U6 := Lib.hid (And.intro (P5n.out _ _ G5.out hb) (And.intro h1 h2)); clear h1 h2 hb)
                      obtain ⟨v6, hv⟩ : ∃ v, v = wz6.alloc (.cells #[.slice os6 2 cs6, .slice od6 n7 cd6] 26) := ⟨_, rfl⟩
                      obtain ⟨T6, hT⟩ : ∃ T, T = wz6.heap.size := ⟨_, rfl⟩
                      rw [← hv, ← hT]
                      obtain ⟨P6, hP⟩ : ∃ P : World → Prop, P = fun W => P5 W ∧ Blk W T6 26 #[.slice os6 2 cs6, .slice od6 n7 cd6] ∧ Ld W (.slice os6 2 cs6) ([(c : Int), (r : Int)]) ∧ Ld W (.slice od6 n7 cd6) (D7) := ⟨_, rfl⟩
                      have G6 : Hid (P6 v6) := Lib.hid (by rw [hP]; exact ⟨by rw [hv]; exact P5n.out _ _ U6.out.1 (al_below _), by rw [hv, hT]; exact Blk.new _ _ _, by rw [hv]; exact U6.out.2.1.below (al_below _), by rw [hv]; exact U6.out.2.2.below (al_below _)⟩)
                      have P6f : Hid (∀ W, P6 W → P5 W) := Lib.hid (fun W h => by rw [hP] at h; exact h.1)
                      have P6n : Hid (∀ W W', P6 W → Below W.heap.size W W' → P6 W') := Lib.hid (fun W W' h hb => by rw [hP] at h ⊢; exact ⟨P5n.out _ _ h.1 hb, h.2.1.below hb h.2.1.lt, h.2.2.1.below hb, h.2.2.2.below hb⟩)
                      have P6t : Hid (∀ W, P6 W → (W.cell? ⟨T6, 0, none⟩ = some (.slice os6 2 cs6) ∧ W.cell? ⟨T6, 1, none⟩ = some (.slice od6 n7 cd6)) ∧ Ld W (.slice os6 2 cs6) ([(c : Int), (r : Int)]) ∧ Ld W (.slice od6 n7 cd6) (D7)) := Lib.hid (fun W h => by rw [hP] at h; exact ⟨⟨(blk2 h.2.1).1, (blk2 h.2.1).2.1⟩, h.2.2⟩)
                      clear hP
                      clear hv hT U6 y5_0 y5_1 y4_0 y4_1
                      obtain ⟨⟨y3_0, y3_1⟩, _⟩ := P3t.out _ (P4f.out _ (P5f.out _ (P6f.out _ G6.out)))
                      go_upto_region 25 with (go_at_call 14; (with_reducible refine (K7.out _ _ _ (P3t.out _ (P4f.out _ (P5f.out _ (P6f.out _ G6.out)))).2.1 (P3t.out _ (P4f.out _ (P5f.out _ (P6f.out _ G6.out)))).2.2).mono ?_); rintro e wz7 ⟨os7, cs7, od7, cd7, rfl, h1, h2, hb⟩; have U7 := Lib.hid (And.intro (P6n.out _ _ G6.out hb) (And.intro h1 h2)); clear h1 h2 hb)
                      obtain ⟨v7, hv⟩ : ∃ v, v = wz7.alloc (.cells #[.slice os7 2 cs7, .slice od7 n7 cd7] 26) := ⟨_, rfl⟩
                      obtain ⟨T7, hT⟩ : ∃ T, T = wz7.heap.size := ⟨_, rfl⟩
                      rw [← hv, ← hT]
                      obtain ⟨P7, hP⟩ : ∃ P : World → Prop, P = fun W => P6 W ∧ Blk W T7 26 #[.slice os7 2 cs7, .slice od7 n7 cd7] ∧ Ld W (.slice os7 2 cs7) ([(c : Int), (r : Int)]) ∧ Ld W (.slice od7 n7 cd7) (D7) := ⟨_, rfl⟩
                      have G7 : Hid (P7 v7) := Lib.hid (by rw [hP]; exact ⟨by rw [hv]; exact P6n.out _ _ U7.out.1 (al_below _), by rw [hv, hT]; exact Blk.new _ _ _, by rw [hv]; exact U7.out.2.1.below (al_below _), by rw [hv]; exact U7.out.2.2.below (al_below _)⟩)
                      have P7f : Hid (∀ W, P7 W → P6 W) := Lib.hid (fun W h => by rw [hP] at h; exact h.1)
                      have P7n : Hid (∀ W W', P7 W → Below W.heap.size W W' → P7 W') := Lib.hid (fun W W' h hb => by rw [hP] at h ⊢; exact ⟨P6n.out _ _ h.1 hb, h.2.1.below hb h.2.1.lt, h.2.2.1.below hb, h.2.2.2.below hb⟩)
                      have P7t : Hid (∀ W, P7 W → (W.cell? ⟨T7, 0, none⟩ = some (.slice os7 2 cs7) ∧ W.cell? ⟨T7, 1, none⟩ = some (.slice od7 n7 cd7)) ∧ Ld W (.slice os7 2 cs7) ([(c : Int), (r : Int)]) ∧ Ld W (.slice od7 n7 cd7) (D7)) := Lib.hid (fun W h => by rw [hP] at h; exact ⟨⟨(blk2 h.2.1).1, (blk2 h.2.1).2.1⟩, h.2.2⟩)
                      clear hP
                      clear hv hT U7 y3_0 y3_1
                      have KS : Hid (∀ W, P7 W → (W.cell? ⟨w1.heap.size, 0, none⟩ = some (.slice (some ⟨gA, fA, none⟩) sa.length cA) ∧ W.cell? ⟨w1.heap.size, 2, none⟩ = some (.slice (some ⟨gB, fB, none⟩) sb.length cB)) ∧ W.cell? ⟨gA, fA, none⟩ = some (.int .i64 (r : Int)) ∧ W.cell? ⟨gB, fB + 1, none⟩ = some (.int .i64 (c : Int)) ∧ W.cell? ⟨T3, 1, none⟩ = some (.slice od3 mL cd3) ∧ (W.cell? ⟨T6, 0, none⟩ = some (.slice os6 2 cs6) ∧ W.cell? ⟨T6, 1, none⟩ = some (.slice od6 n7 cd6)) ∧ W.cell? ⟨T7, 0, none⟩ = some (.slice os7 2 cs7) ∧ W.cell? ⟨T7, 1, none⟩ = some (.slice od7 n7 cd7)) := Lib.hid (fun W h => ⟨⟨(FRk.out _ (P1f.out _ (P2f.out _ (P3f.out _ (P4f.out _ (P5f.out _ (P6f.out _ (P7f.out _ h)))))))).1, (FRk.out _ (P1f.out _ (P2f.out _ (P3f.out _ (P4f.out _ (P5f.out _ (P6f.out _ (P7f.out _ h)))))))).2.2.1⟩, (HSA.out _ (P1f.out _ (P2f.out _ (P3f.out _ (P4f.out _ (P5f.out _ (P6f.out _ (P7f.out _ h)))))))).1, (HSB.out _ (P1f.out _ (P2f.out _ (P3f.out _ (P4f.out _ (P5f.out _ (P6f.out _ (P7f.out _ h)))))))).2, (P3t.out _ (P4f.out _ (P5f.out _ (P6f.out _ (P7f.out _ h))))).1.2, (P6t.out _ (P7f.out _ h)).1, (P7t.out _ h).1⟩)
                      go_cut [193] (fun s193 wx => s193 = .bool false ∧ Hid (P7 wx))
                      case first =>
                        as_aux_lemma =>
                        obtain ⟨e5, e6⟩ := HMM.out
                        have B_0 : Hid (P7 v7.drew) := Lib.hid (P7n.out _ _ G7.out (below_drw (Below.refl _ _) 1))
                        refine wp_region_held_drew (S := fun W => (W.cell? ⟨w1.heap.size, 0, none⟩ = some (.slice (some ⟨gA, fA, none⟩) sa.length cA) ∧ W.cell? ⟨w1.heap.size, 2, none⟩ = some (.slice (some ⟨gB, fB, none⟩) sb.length cB)) ∧ W.cell? ⟨gA, fA, none⟩ = some (.int .i64 (r : Int)) ∧ W.cell? ⟨gB, fB + 1, none⟩ = some (.int .i64 (c : Int)) ∧ W.cell? ⟨T3, 1, none⟩ = some (.slice od3 mL cd3) ∧ (W.cell? ⟨T6, 0, none⟩ = some (.slice os6 2 cs6) ∧ W.cell? ⟨T6, 1, none⟩ = some (.slice od6 n7 cd6)) ∧ W.cell? ⟨T7, 0, none⟩ = some (.slice os7 2 cs7) ∧ W.cell? ⟨T7, 1, none⟩ = some (.slice od7 n7 cd7)) (by kernel_rfl) ?_ (fun hHeld => ?_)
                        · exact KS.out _ B_0.out
                        have hHd := hHeld
                        generalize v7.drew = w_0 at *
                        (refine wpAnyH_take (i := 0) (oi := ⟨some 153, _, _, _, _, _⟩) (v := ?v0_u1) rfl (by kernel_rfl) (by kernel_rfl) (by kernel_rfl) (fun _ _ _ h => h) (Or.inl ⟨by rfl, ?hy0_u1⟩) (by assumption) ?rest0_u1; (case hy0_u1 => ((intro w hSw); (try dsimp only at hSw); go_simp; first | done | (with_reducible rfl))))
                        (try simp only [Act.put, List.setIfInBounds_toArray, List.set_cons_zero, List.set_cons_succ])
                        refine wpAnyH_ready (rs := [1]) (by kernel_rfl) (by simp) ?_
                        refine AllReadyH.cons (o := ⟨some 154, _, _, _, _, _⟩) rfl (fun K hK => ?_) (AllReadyH.nil)
                        go_simp
                        (go_at_call 15; (with_reducible refine (num10_any _ _).mono ?_); rintro e w' ⟨rfl, rfl⟩)
                        refine hK.out _ _ ?_ (fun hHeld => ?_)
                        · (try dsimp only)
                          exact KS.out _ B_0.out
                        clear hK K
                        (try simp only [Act.put, List.setIfInBounds_toArray, List.set_cons_zero, List.set_cons_succ])
                        (refine wpAnyH_take (i := 2) (oi := ⟨some 155, _, _, _, _, _⟩) (v := ?v2_u2) rfl (by kernel_rfl) (by kernel_rfl) (by kernel_rfl) (fun _ _ _ h => h) (Or.inl ⟨by rfl, ?hy2_u2⟩) (by assumption) ?rest2_u2; (case hy2_u2 => ((intro w hSw); (try dsimp only at hSw); go_simp; first | done | (with_reducible rfl))))
                        (try simp only [Act.put, List.setIfInBounds_toArray, List.set_cons_zero, List.set_cons_succ])
                        (refine wpAnyH_take (i := 3) (oi := ⟨some 156, _, _, _, _, _⟩) (v := .bool false) rfl (by kernel_rfl) (by kernel_rfl) (by kernel_rfl) (fun _ _ _ h => h) (Or.inl ⟨by rfl, ?hy3_u3⟩) (by assumption) ?rest3_u3; (case hy3_u3 => ((intro w hSw); (try dsimp only at hSw); go_simp; first | done | (with_reducible rfl))))
                        (try simp only [Act.put, List.setIfInBounds_toArray, List.set_cons_zero, List.set_cons_succ])
                        (refine wpAnyH_take (i := 4) (oi := ⟨some 157, _, _, _, _, _⟩) (v := ?v4_u4) rfl (by kernel_rfl) (by kernel_rfl) (by kernel_rfl) (fun _ _ _ h => h) (Or.inl ⟨by rfl, ?hy4_u4⟩) (by assumption) ?rest4_u4; (case hy4_u4 => ((intro w hSw); (try dsimp only at hSw); go_simp; first | done | (with_reducible rfl))))
                        (try simp only [Act.put, List.setIfInBounds_toArray, List.set_cons_zero, List.set_cons_succ])
                        refine wpAnyH_ready (rs := [5]) (by kernel_rfl) (by simp) ?_
                        refine AllReadyH.cons (o := ⟨some 158, _, _, _, _, _⟩) rfl (fun K hK => ?_) (AllReadyH.nil)
                        go_simp
                        (go_at_call 15; (with_reducible refine (num10_any _ _).mono ?_); rintro e w' ⟨rfl, rfl⟩)
                        refine hK.out _ _ ?_ (fun hHeld => ?_)
                        · (try dsimp only)
                          exact KS.out _ B_0.out
                        clear hK K
                        (try simp only [Act.put, List.setIfInBounds_toArray, List.set_cons_zero, List.set_cons_succ])
                        (refine wpAnyH_take (i := 6) (oi := ⟨some 159, _, _, _, _, _⟩) (v := ?v6_u5) rfl (by kernel_rfl) (by kernel_rfl) (by kernel_rfl) (fun _ _ _ h => h) (Or.inl ⟨by rfl, ?hy6_u5⟩) (by assumption) ?rest6_u5; (case hy6_u5 => ((intro w hSw); (try dsimp only at hSw); go_simp; first | done | (with_reducible rfl))))
                        (try simp only [Act.put, List.setIfInBounds_toArray, List.set_cons_zero, List.set_cons_succ])
                        (refine wpAnyH_take (i := 7) (oi := ⟨some 160, _, _, _, _, _⟩) (v := ?v7_u6) rfl (by kernel_rfl) (by kernel_rfl) (by kernel_rfl) (fun _ _ _ h => h) (Or.inl ⟨by rfl, ?hy7_u6⟩) (by assumption) ?rest7_u6; (case hy7_u6 => ((intro w hSw); (try dsimp only at hSw); go_simp; first | done | (with_reducible rfl))))
                        (try simp only [Act.put, List.setIfInBounds_toArray, List.set_cons_zero, List.set_cons_succ])
                        (refine wpAnyH_take (i := 8) (oi := ⟨some 161, _, _, _, _, _⟩) (v := .bool false) rfl (by kernel_rfl) (by kernel_rfl) (by kernel_rfl) (fun _ _ _ h => h) (Or.inl ⟨by rfl, ?hy8_u7⟩) (by assumption) ?rest8_u7; (case hy8_u7 => ((intro w hSw); (try dsimp only at hSw); go_simp; first | done | (with_reducible rfl))))
                        (try simp only [Act.put, List.setIfInBounds_toArray, List.set_cons_zero, List.set_cons_succ])
                        (refine wpAnyH_take (i := 9) (oi := ⟨some 162, _, _, _, _, _⟩) (v := ?v9_u8) rfl (by kernel_rfl) (by kernel_rfl) (by kernel_rfl) (fun _ _ _ h => h) (Or.inl ⟨by rfl, ?hy9_u8⟩) (by assumption) ?rest9_u8; (case hy9_u8 => ((intro w hSw); (try dsimp only at hSw); go_simp; first | done | (with_reducible rfl))))
                        (try simp only [Act.put, List.setIfInBounds_toArray, List.set_cons_zero, List.set_cons_succ])
                        refine wpAnyH_ready (rs := [10]) (by kernel_rfl) (by simp) ?_
                        refine AllReadyH.cons (o := ⟨some 163, _, _, _, _, _⟩) rfl (fun K hK => ?_) (AllReadyH.nil)
                        go_simp
                        (go_at_call 15; (with_reducible refine (num10_any _ _).mono ?_); rintro e w' ⟨rfl, rfl⟩)
                        refine hK.out _ _ ?_ (fun hHeld => ?_)
                        · (try dsimp only)
                          exact KS.out _ B_0.out
                        clear hK K
                        (try simp only [Act.put, List.setIfInBounds_toArray, List.set_cons_zero, List.set_cons_succ])
                        (refine wpAnyH_take (i := 11) (oi := ⟨some 164, _, _, _, _, _⟩) (v := ?v11_u9) rfl (by kernel_rfl) (by kernel_rfl) (by kernel_rfl) (fun _ _ _ h => h) (Or.inl ⟨by rfl, ?hy11_u9⟩) (by assumption) ?rest11_u9; (case hy11_u9 => ((intro w hSw); (try dsimp only at hSw); go_simp; first | done | (with_reducible rfl))))
                        (try simp only [Act.put, List.setIfInBounds_toArray, List.set_cons_zero, List.set_cons_succ])
                        (refine wpAnyH_take (i := 12) (oi := ⟨some 165, _, _, _, _, _⟩) (v := ?v12_u10) rfl (by kernel_rfl) (by kernel_rfl) (by kernel_rfl) (fun _ _ _ h => h) (Or.inl ⟨by rfl, ?hy12_u10⟩) (by assumption) ?rest12_u10; (case hy12_u10 => ((intro w hSw); (try dsimp only at hSw); go_simp; first | done | (with_reducible rfl))))
                        (try simp only [Act.put, List.setIfInBounds_toArray, List.set_cons_zero, List.set_cons_succ])
                        (refine wpAnyH_take (i := 13) (oi := ⟨some 166, _, _, _, _, _⟩) (v := .bool false) rfl (by kernel_rfl) (by kernel_rfl) (by kernel_rfl) (fun _ _ _ h => h) (Or.inl ⟨by rfl, ?hy13_u11⟩) (by assumption) ?rest13_u11; (case hy13_u11 => ((intro w hSw); (try dsimp only at hSw); go_simp; first | done | (with_reducible rfl))))
                        (try simp only [Act.put, List.setIfInBounds_toArray, List.set_cons_zero, List.set_cons_succ])
                        (refine wpAnyH_take (i := 14) (oi := ⟨some 167, _, _, _, _, _⟩) (v := ?v14_u12) rfl (by kernel_rfl) (by kernel_rfl) (by kernel_rfl) (fun _ _ _ h => h) (Or.inl ⟨by rfl, ?hy14_u12⟩) (by assumption) ?rest14_u12; (case hy14_u12 => ((intro w hSw); (try dsimp only at hSw); go_simp; first | done | (with_reducible rfl))))
                        (try simp only [Act.put, List.setIfInBounds_toArray, List.set_cons_zero, List.set_cons_succ])
                        refine wpAnyH_ready (rs := [15]) (by kernel_rfl) (by simp) ?_
                        refine AllReadyH.cons (o := ⟨some 168, _, _, _, _, _⟩) rfl (fun K hK => ?_) (AllReadyH.nil)
                        go_simp
                        (go_at_call 15; (with_reducible refine (num10_any _ _).mono ?_); rintro e w' ⟨rfl, rfl⟩)
                        refine hK.out _ _ ?_ (fun hHeld => ?_)
                        · (try dsimp only)
                          exact KS.out _ B_0.out
                        clear hK K
                        (try simp only [Act.put, List.setIfInBounds_toArray, List.set_cons_zero, List.set_cons_succ])
                        (refine wpAnyH_take (i := 16) (oi := ⟨some 169, _, _, _, _, _⟩) (v := ?v16_u13) rfl (by kernel_rfl) (by kernel_rfl) (by kernel_rfl) (fun _ _ _ h => h) (Or.inl ⟨by rfl, ?hy16_u13⟩) (by assumption) ?rest16_u13; (case hy16_u13 => ((intro w hSw); (try dsimp only at hSw); go_simp; first | done | (with_reducible rfl))))
                        (try simp only [Act.put, List.setIfInBounds_toArray, List.set_cons_zero, List.set_cons_succ])
                        (refine wpAnyH_take (i := 17) (oi := ⟨some 170, _, _, _, _, _⟩) (v := ?v17_u14) rfl (by kernel_rfl) (by kernel_rfl) (by kernel_rfl) (fun _ _ _ h => h) (Or.inl ⟨by rfl, ?hy17_u14⟩) (by assumption) ?rest17_u14; (case hy17_u14 => ((intro w hSw); (try dsimp only at hSw); go_simp; first | done | (with_reducible rfl))))
                        (try simp only [Act.put, List.setIfInBounds_toArray, List.set_cons_zero, List.set_cons_succ])
                        (refine wpAnyH_take (i := 18) (oi := ⟨some 171, _, _, _, _, _⟩) (v := .bool false) rfl (by kernel_rfl) (by kernel_rfl) (by kernel_rfl) (fun _ _ _ h => h) (Or.inl ⟨by rfl, ?hy18_u15⟩) (by assumption) ?rest18_u15; (case hy18_u15 => ((intro w hSw); (try dsimp only at hSw); go_simp; first | done | (with_reducible rfl))))
                        (try simp only [Act.put, List.setIfInBounds_toArray, List.set_cons_zero, List.set_cons_succ])
                        (refine wpAnyH_take (i := 19) (oi := ⟨some 172, _, _, _, _, _⟩) (v := ?v19_u16) rfl (by kernel_rfl) (by kernel_rfl) (by kernel_rfl) (fun _ _ _ h => h) (Or.inl ⟨by rfl, ?hy19_u16⟩) (by assumption) ?rest19_u16; (case hy19_u16 => ((intro w hSw); (try dsimp only at hSw); go_simp; first | done | (with_reducible rfl))))
                        (try simp only [Act.put, List.setIfInBounds_toArray, List.set_cons_zero, List.set_cons_succ])
                        (refine wpAnyH_take (i := 20) (oi := ⟨some 173, _, _, _, _, _⟩) (v := ?v20_u17) rfl (by kernel_rfl) (by kernel_rfl) (by kernel_rfl) (fun _ _ _ h => h) (Or.inl ⟨by rfl, ?hy20_u17⟩) (by assumption) ?rest20_u17; (case hy20_u17 => ((intro w hSw); (try dsimp only at hSw); go_simp; first | done | (with_reducible rfl))))
                        (try simp only [Act.put, List.setIfInBounds_toArray, List.set_cons_zero, List.set_cons_succ])
                        refine wpAnyH_ready (rs := [21]) (by kernel_rfl) (by simp) ?_
                        refine AllReadyH.cons (o := ⟨some 174, _, _, _, _, _⟩) rfl (fun K hK => ?_) (AllReadyH.nil)
                        go_simp
                        (go_at_call 16; (with_reducible refine (KE6.out _ _ _ _ _ (P6t.out _ (P7f.out _ B_0.out)).2.1 (P6t.out _ (P7f.out _ B_0.out)).2.2 (P7t.out _ B_0.out).2.1 (P7t.out _ B_0.out).2.2).mono ?_); rintro e w_e1 ⟨rfl, hb⟩; have B_e1 := Lib.hid (P7n.out _ _ B_0.out hb); clear hb)
                        refine hK.out _ _ ?_ (fun hHeld => ?_)
                        · (try dsimp only)
                          exact KS.out _ B_e1.out
                        clear hK K
                        (try simp only [Act.put, List.setIfInBounds_toArray, List.set_cons_zero, List.set_cons_succ])
                        (refine wpAnyH_take (i := 22) (oi := ⟨some 175, _, _, _, _, _⟩) (v := ?v22_u18) rfl (by kernel_rfl) (by kernel_rfl) (by kernel_rfl) (fun _ _ _ h => h) (Or.inl ⟨by rfl, ?hy22_u18⟩) (by assumption) ?rest22_u18; (case hy22_u18 => ((intro w hSw); (try dsimp only at hSw); go_simp; first | done | (with_reducible rfl))))
                        (try simp only [Act.put, List.setIfInBounds_toArray, List.set_cons_zero, List.set_cons_succ])
                        (refine wpAnyH_take (i := 23) (oi := ⟨some 176, _, _, _, _, _⟩) (v := ?v23_u19) rfl (by kernel_rfl) (by kernel_rfl) (by kernel_rfl) (fun _ _ _ h => h) (Or.inl ⟨by rfl, ?hy23_u19⟩) (by assumption) ?rest23_u19; (case hy23_u19 => ((intro w hSw); (try dsimp only at hSw); go_simp; first | done | (with_reducible rfl))))
                        (try simp only [Act.put, List.setIfInBounds_toArray, List.set_cons_zero, List.set_cons_succ])
                        (refine wpAnyH_take (i := 24) (oi := ⟨some 177, _, _, _, _, _⟩) (v := .bool false) rfl (by kernel_rfl) (by kernel_rfl) (by kernel_rfl) (fun _ _ _ h => h) (Or.inl ⟨by rfl, ?hy24_u20⟩) (by assumption) ?rest24_u20; (case hy24_u20 => ((intro w hSw); (try dsimp only at hSw); go_simp; first | done | (with_reducible rfl))))
                        (try simp only [Act.put, List.setIfInBounds_toArray, List.set_cons_zero, List.set_cons_succ])
                        (refine wpAnyH_take (i := 25) (oi := ⟨some 178, _, _, _, _, _⟩) (v := ?v25_u21) rfl (by kernel_rfl) (by kernel_rfl) (by kernel_rfl) (fun _ _ _ h => h) (Or.inl ⟨by rfl, ?hy25_u21⟩) (by assumption) ?rest25_u21; (case hy25_u21 => ((intro w hSw); (try dsimp only at hSw); go_simp; first | done | (with_reducible rfl))))
                        (try simp only [Act.put, List.setIfInBounds_toArray, List.set_cons_zero, List.set_cons_succ])
                        (refine wpAnyH_take (i := 26) (oi := ⟨some 179, _, _, _, _, _⟩) (v := ?v26_u22) rfl (by kernel_rfl) (by kernel_rfl) (by kernel_rfl) (fun _ _ _ h => h) (Or.inl ⟨by rfl, ?hy26_u22⟩) (by assumption) ?rest26_u22; (case hy26_u22 => ((intro w hSw); (try dsimp only at hSw); go_simp; first | done | (with_reducible rfl))))
                        (try simp only [Act.put, List.setIfInBounds_toArray, List.set_cons_zero, List.set_cons_succ])
                        (refine wpAnyH_take (i := 27) (oi := ⟨some 180, _, _, _, _, _⟩) (v := ?v27_u23) rfl (by kernel_rfl) (by kernel_rfl) (by kernel_rfl) (fun _ _ _ h => h) (Or.inl ⟨by rfl, ?hy27_u23⟩) (by assumption) ?rest27_u23; (case hy27_u23 => ((intro w hSw); (try dsimp only at hSw); go_simp; first | done | (with_reducible rfl))))
                        (try simp only [Act.put, List.setIfInBounds_toArray, List.set_cons_zero, List.set_cons_succ])
                        (refine wpAnyH_take (i := 28) (oi := ⟨some 181, _, _, _, _, _⟩) (v := ?v28_u24) rfl (by kernel_rfl) (by kernel_rfl) (by kernel_rfl) (fun _ _ _ h => h) (Or.inl ⟨by rfl, ?hy28_u24⟩) (by assumption) ?rest28_u24; (case hy28_u24 => ((intro w hSw); (try dsimp only at hSw); go_simp; first | done | (with_reducible rfl))))
                        (try simp only [Act.put, List.setIfInBounds_toArray, List.set_cons_zero, List.set_cons_succ])
                        (refine wpAnyH_take (i := 29) (oi := ⟨some 182, _, _, _, _, _⟩) (v := ?v29_u25) rfl (by kernel_rfl) (by kernel_rfl) (by kernel_rfl) (fun _ _ _ h => h) (Or.inl ⟨by rfl, ?hy29_u25⟩) (by assumption) ?rest29_u25; (case hy29_u25 => ((intro w hSw); (try dsimp only at hSw); go_simp; first | done | (with_reducible rfl))))
                        (try simp only [Act.put, List.setIfInBounds_toArray, List.set_cons_zero, List.set_cons_succ])
                        (refine wpAnyH_take (i := 30) (oi := ⟨some 183, _, _, _, _, _⟩) (v := ?v30_u26) rfl (by kernel_rfl) (by kernel_rfl) (by kernel_rfl) (fun _ _ _ h => h) (Or.inl ⟨by rfl, ?hy30_u26⟩) (by assumption) ?rest30_u26; (case hy30_u26 => ((intro w hSw); (try dsimp only at hSw); go_simp; first | done | (with_reducible rfl))))
                        (try simp only [Act.put, List.setIfInBounds_toArray, List.set_cons_zero, List.set_cons_succ])
                        (refine wpAnyH_take (i := 31) (oi := ⟨some 184, _, _, _, _, _⟩) (v := ?v31_u27) rfl (by kernel_rfl) (by kernel_rfl) (by kernel_rfl) (fun _ _ _ h => h) (Or.inl ⟨by rfl, ?hy31_u27⟩) (by assumption) ?rest31_u27; (case hy31_u27 => ((intro w hSw); (try dsimp only at hSw); go_simp; first | done | (with_reducible rfl))))
                        (try simp only [Act.put, List.setIfInBounds_toArray, List.set_cons_zero, List.set_cons_succ])
                        (refine wpAnyH_take (i := 32) (oi := ⟨some 185, _, _, _, _, _⟩) (v := ?v32_u28) rfl (by kernel_rfl) (by kernel_rfl) (by kernel_rfl) (fun _ _ _ h => h) (Or.inl ⟨by rfl, ?hy32_u28⟩) (by assumption) ?rest32_u28; (case hy32_u28 => ((intro w hSw); (try dsimp only at hSw); go_simp; first | done | (with_reducible rfl))))
                        (try simp only [Act.put, List.setIfInBounds_toArray, List.set_cons_zero, List.set_cons_succ])
                        (refine wpAnyH_take (i := 33) (oi := ⟨some 186, _, _, _, _, _⟩) (v := ?v33_u29) rfl (by kernel_rfl) (by kernel_rfl) (by kernel_rfl) (fun _ _ _ h => h) (Or.inl ⟨by rfl, ?hy33_u29⟩) (by assumption) ?rest33_u29; (case hy33_u29 => ((intro w hSw); (try dsimp only at hSw); go_simp; first | done | (with_reducible rfl))))
                        (try simp only [Act.put, List.setIfInBounds_toArray, List.set_cons_zero, List.set_cons_succ])
                        (refine wpAnyH_take (i := 34) (oi := ⟨some 187, _, _, _, _, _⟩) (v := ?v34_u30) rfl (by kernel_rfl) (by kernel_rfl) (by kernel_rfl) (fun _ _ _ h => h) (Or.inl ⟨by rfl, ?hy34_u30⟩) (by assumption) ?rest34_u30; (case hy34_u30 => ((intro w hSw); (try dsimp only at hSw); go_simp; first | done | (with_reducible rfl))))
                        (try simp only [Act.put, List.setIfInBounds_toArray, List.set_cons_zero, List.set_cons_succ])
                        (refine wpAnyH_take (i := 35) (oi := ⟨some 188, _, _, _, _, _⟩) (v := ?v35_u31) rfl (by kernel_rfl) (by kernel_rfl) (by kernel_rfl) (fun _ _ _ h => h) (Or.inl ⟨by rfl, ?hy35_u31⟩) (by assumption) ?rest35_u31; (case hy35_u31 => ((intro w hSw); (try dsimp only at hSw); go_simp; first | done | (with_reducible rfl))))
                        (try simp only [Act.put, List.setIfInBounds_toArray, List.set_cons_zero, List.set_cons_succ])
                        (refine wpAnyH_take (i := 36) (oi := ⟨some 189, _, _, _, _, _⟩) (v := ?v36_u32) rfl (by kernel_rfl) (by kernel_rfl) (by kernel_rfl) (fun _ _ _ h => h) (Or.inl ⟨by rfl, ?hy36_u32⟩) (by assumption) ?rest36_u32; (case hy36_u32 => ((intro w hSw); (try dsimp only at hSw); go_simp; first | done | (with_reducible rfl))))
                        (try simp only [Act.put, List.setIfInBounds_toArray, List.set_cons_zero, List.set_cons_succ])
                        (refine wpAnyH_take (i := 37) (oi := ⟨some 190, _, _, _, _, _⟩) (v := ?v37_u33) rfl (by kernel_rfl) (by kernel_rfl) (by kernel_rfl) (fun _ _ _ h => h) (Or.inl ⟨by rfl, ?hy37_u33⟩) (by assumption) ?rest37_u33; (case hy37_u33 => ((intro w hSw); (try dsimp only at hSw); go_simp; first | done | (with_reducible rfl))))
                        (try simp only [Act.put, List.setIfInBounds_toArray, List.set_cons_zero, List.set_cons_succ])
                        (refine wpAnyH_take (i := 38) (oi := ⟨some 191, _, _, _, _, _⟩) (v := ?v38_u34) rfl (by kernel_rfl) (by kernel_rfl) (by kernel_rfl) (fun _ _ _ h => h) (Or.inl ⟨by rfl, ?hy38_u34⟩) (by assumption) ?rest38_u34; (case hy38_u34 => ((intro w hSw); (try dsimp only at hSw); go_simp; first | done | (with_reducible rfl))))
                        (try simp only [Act.put, List.setIfInBounds_toArray, List.set_cons_zero, List.set_cons_succ])
                        (refine wpAnyH_take (i := 39) (oi := ⟨some 192, _, _, _, _, _⟩) (v := ?v39_u35) rfl (by kernel_rfl) (by kernel_rfl) (by kernel_rfl) (fun _ _ _ h => h) (Or.inl ⟨by rfl, ?hy39_u35⟩) (by assumption) ?rest39_u35; (case hy39_u35 => ((intro w hSw); (try dsimp only at hSw); go_simp; first | done | (with_reducible rfl))))
                        (try simp only [Act.put, List.setIfInBounds_toArray, List.set_cons_zero, List.set_cons_succ])
                        (refine wpAnyH_take (i := 40) (oi := ⟨some 193, _, _, _, _, _⟩) (v := ?v40_u36) rfl (by kernel_rfl) (by kernel_rfl) (by kernel_rfl) (fun _ _ _ h => h) (Or.inl ⟨by rfl, ?hy40_u36⟩) (by assumption) ?rest40_u36; (case hy40_u36 => ((intro w hSw); (try dsimp only at hSw); go_simp; first | done | (with_reducible rfl))))
                        (try simp only [Act.put, List.setIfInBounds_toArray, List.set_cons_zero, List.set_cons_succ])
                        refine wpAnyH_done (by kernel_rfl) ?_ _
                        go_wp2
                        go_meet
                        exact ⟨rfl, B_e1⟩
                      case rest =>
                        obtain ⟨rfl, GW⟩ := hcut
                        as_aux_lemma =>
                        obtain ⟨v7', hv7⟩ : ∃ v, v = wc := ⟨_, rfl⟩
                        rw [← hv7] at GW ⊢
                        clear hv7 KS
                        obtain ⟨x0, x1, x2, x3, x4⟩ := FRk.out _ (P1f.out _ (P2f.out _ (P3f.out _ (P4f.out _ (P5f.out _ (P6f.out _ (P7f.out _ GW.out)))))))
                        obtain ⟨s0, s1⟩ := HSA.out _ (P1f.out _ (P2f.out _ (P3f.out _ (P4f.out _ (P5f.out _ (P6f.out _ (P7f.out _ GW.out)))))))
                        go_upto_region 27 with fail
                        go_cut [21] (fun s21 wx => s21 = .int .i64 (X : Int) ∧ Hid (P7 wx))
                        case first =>
                          as_aux_lemma =>
                          go_quiet ((go_at_call 20; exact Calls.quiet_of_same ((KWI.out _).mono fun _ _ h => ⟨h.1, h.2.symm⟩)))
                          go_wp2
                          go_meet
                          exact ⟨rfl, Lib.hid (P7n.out _ _ GW.out (below_drw (Below.refl _ _) _))⟩
                        case rest =>
                          as_aux_lemma =>
                          obtain ⟨rfl, GV⟩ := hcut
                          obtain ⟨w7, hw7⟩ : ∃ v, v = wc := ⟨_, rfl⟩
                          rw [← hw7] at GV ⊢
                          clear hw7 x0 x1 x2 x3 x4 s0 s1 GW
                          obtain ⟨x0, x1, x2, x3, x4⟩ := FRk.out _ (P1f.out _ (P2f.out _ (P3f.out _ (P4f.out _ (P5f.out _ (P6f.out _ (P7f.out _ GV.out)))))))
                          have rp := fun (W : World) => run_part Try.underlying24 info64.1 info64.2 gX fX da.length cX lo hi n HHL.out.1.1 (by have := HHL.out.1; have := HCC.out; omega) HHL.out.2.2.1 W
                          have xa := fun (o : Obj) => (FRk.out _ (P1f.out _ (P2f.out _ (P3f.out _ (P4f.out _ (P5f.out _ (P6f.out _ (P7f.out _ (P7n.out _ _ GV.out (al_below o)))))))))).2.1
                          obtain ⟨⟨e1, e2⟩, ⟨e3, e4⟩, _, _, e5, e6⟩ := HWR.out
                          go_upto_region 29 with fail
                          clear e1 e2 e3 e4 e5 e6 xa
                          obtain ⟨v8, hv⟩ : ∃ v, v = (w7.alloc (.cells #[.int .i64 1, .int .i64 (n : Int)] 3)).alloc (.cells #[.slice (some ⟨w7.heap.size, 0, none⟩) 2 2, .slice (some ⟨gX, fX + lo, none⟩) n (cX - lo)] 26) := ⟨_, rfl⟩
                          obtain ⟨g8, hg8⟩ : ∃ g, g = w7.heap.size := ⟨_, rfl⟩
                          have QA : Hid (Ld v8 (.slice (some ⟨g8, 0, none⟩) 2 2) [(1 : Int), (n : Int)]) := Lib.hid (by rw [hv, hg8]; exact (ld2 rfl).below (al_below _))
                          have QC : Hid (Blk v8 (g8 + 1) 26 #[.slice (some ⟨g8, 0, none⟩) 2 2, .slice (some ⟨gX, fX + lo, none⟩) n (cX - lo)]) := Lib.hid (by rw [hv, hg8]; exact blk_new1 w7 _ _ _)
                          have QP : Hid (P7 v8) := Lib.hid (by rw [hv]; exact P7n.out _ _ (P7n.out _ _ GV.out (al_below _)) (al_below _))
                          have QX : Hid (Ld v8 (.slice (some ⟨gX, fX + lo, none⟩) n (cX - lo)) ((da.drop lo).take n)) := Lib.hid (ld_part (HLW.out _ (P1f.out _ (P2f.out _ (P3f.out _ (P4f.out _ (P5f.out _ (P6f.out _ (P7f.out _ QP.out)))))))).2.1 (by have := HHL.out.1; omega))
                          rw [← hg8] at hv
                          rw [← hg8, ← hv]
                          clear hv hg8 rp x0 x1 x2 x3 x4
                          obtain ⟨P8, hP⟩ : ∃ P : World → Prop, P = fun W => P7 W ∧ Blk W (g8 + 1) 26 #[.slice (some ⟨g8, 0, none⟩) 2 2, .slice (some ⟨gX, fX + lo, none⟩) n (cX - lo)] ∧ Ld W (.slice (some ⟨g8, 0, none⟩) 2 2) ([(1 : Int), (n : Int)]) ∧ Ld W (.slice (some ⟨gX, fX + lo, none⟩) n (cX - lo)) ((da.drop lo).take n) := ⟨_, rfl⟩
                          have G8 : Hid (P8 v8) := Lib.hid (by rw [hP]; exact ⟨QP.out, QC.out, QA.out, QX.out⟩)
                          have P8f : Hid (∀ W, P8 W → P7 W) := Lib.hid (fun W h => by rw [hP] at h; exact h.1)
                          have P8n : Hid (∀ W W', P8 W → Below W.heap.size W W' → P8 W') := Lib.hid (fun W W' h hb => by rw [hP] at h ⊢; exact ⟨P7n.out _ _ h.1 hb, h.2.1.below hb h.2.1.lt, h.2.2.1.below hb, h.2.2.2.below hb⟩)
                          have P8t : Hid (∀ W, P8 W → (W.cell? ⟨(g8 + 1), 0, none⟩ = some (.slice (some ⟨g8, 0, none⟩) 2 2) ∧ W.cell? ⟨(g8 + 1), 1, none⟩ = some (.slice (some ⟨gX, fX + lo, none⟩) n (cX - lo))) ∧ Ld W (.slice (some ⟨g8, 0, none⟩) 2 2) ([(1 : Int), (n : Int)]) ∧ Ld W (.slice (some ⟨gX, fX + lo, none⟩) n (cX - lo)) ((da.drop lo).take n)) := Lib.hid (fun W h => by rw [hP] at h; exact ⟨⟨(blk2 h.2.1).1, (blk2 h.2.1).2.1⟩, h.2.2⟩)
                          clear hP
                          clear QC QP QX QA GV
                          obtain ⟨x0, x1, x2, x3, x4⟩ := FRk.out _ (P1f.out _ (P2f.out _ (P3f.out _ (P4f.out _ (P5f.out _ (P6f.out _ (P7f.out _ (P8f.out _ G8.out))))))))
                          obtain ⟨⟨y8_0, y8_1⟩, _⟩ := P8t.out _ G8.out
                          go_upto_region 30 with (go_at_call 18; (with_reducible refine (K9.out _ _ _ (P1f.out _ (P2f.out _ (P3f.out _ (P4f.out _ (P5f.out _ (P6f.out _ (P7f.out _ (P8f.out _ G8.out)))))))) (P8t.out _ G8.out).2.1 (P8t.out _ G8.out).2.2).mono ?_); rintro e wz9 ⟨os9, cs9, od9, cd9, rfl, h1, h2, hb⟩; have U9 := Lib.hid (And.intro (P8n.out _ _ G8.out hb) (And.intro h1 h2)); clear h1 h2 hb)
                          obtain ⟨v9, hv⟩ : ∃ v, v = wz9.alloc (.cells #[.slice os9 2 cs9, .slice od9 c cd9] 26) := ⟨_, rfl⟩
                          obtain ⟨T9, hT⟩ : ∃ T, T = wz9.heap.size := ⟨_, rfl⟩
                          rw [← hv, ← hT]
                          obtain ⟨P9, hP⟩ : ∃ P : World → Prop, P = fun W => P8 W ∧ Blk W T9 26 #[.slice os9 2 cs9, .slice od9 c cd9] ∧ Ld W (.slice os9 2 cs9) ([(1 : Int), (c : Int)]) ∧ Ld W (.slice od9 c cd9) ((LQ.drop lo2).take c) := ⟨_, rfl⟩
                          have G9 : Hid (P9 v9) := Lib.hid (by rw [hP]; exact ⟨by rw [hv]; exact P8n.out _ _ U9.out.1 (al_below _), by rw [hv, hT]; exact Blk.new _ _ _, by rw [hv]; exact U9.out.2.1.below (al_below _), by rw [hv]; exact U9.out.2.2.below (al_below _)⟩)
                          have P9f : Hid (∀ W, P9 W → P8 W) := Lib.hid (fun W h => by rw [hP] at h; exact h.1)
                          have P9n : Hid (∀ W W', P9 W → Below W.heap.size W W' → P9 W') := Lib.hid (fun W W' h hb => by rw [hP] at h ⊢; exact ⟨P8n.out _ _ h.1 hb, h.2.1.below hb h.2.1.lt, h.2.2.1.below hb, h.2.2.2.below hb⟩)
                          have P9t : Hid (∀ W, P9 W → (W.cell? ⟨T9, 0, none⟩ = some (.slice os9 2 cs9) ∧ W.cell? ⟨T9, 1, none⟩ = some (.slice od9 c cd9)) ∧ Ld W (.slice os9 2 cs9) ([(1 : Int), (c : Int)]) ∧ Ld W (.slice od9 c cd9) ((LQ.drop lo2).take c)) := Lib.hid (fun W h => by rw [hP] at h; exact ⟨⟨(blk2 h.2.1).1, (blk2 h.2.1).2.1⟩, h.2.2⟩)
                          clear hP
                          clear hv hT U9 x0 x1 x2 x3 x4 y8_0 y8_1
                          obtain ⟨x0, x1, x2, x3, x4⟩ := FRk.out _ (P1f.out _ (P2f.out _ (P3f.out _ (P4f.out _ (P5f.out _ (P6f.out _ (P7f.out _ (P8f.out _ (P9f.out _ G9.out)))))))))
                          obtain ⟨s2, s3⟩ := HSB.out _ (P1f.out _ (P2f.out _ (P3f.out _ (P4f.out _ (P5f.out _ (P6f.out _ (P7f.out _ (P8f.out _ (P9f.out _ G9.out)))))))))
                          obtain ⟨g3, f3, hod3, _⟩ := ld_at (P3t.out _ (P4f.out _ (P5f.out _ (P6f.out _ (P7f.out _ (P8f.out _ (P9f.out _ G9.out))))))).2.2 (k := lo2) (by rw [hlqH.out]; have := HHL.out.2; omega)
                          subst hod3
                          go_upto_region 31 with fail
                          have KS : Hid (∀ W, P9 W → W.cell? ⟨T9, 1, none⟩ = some (.slice od9 c cd9) ∧ W.cell? ⟨T3, 1, none⟩ = some (.slice (some ⟨g3, f3, none⟩) mL cd3)) := Lib.hid (fun W h => ⟨(P9t.out _ h).1.2, (P3t.out _ (P4f.out _ (P5f.out _ (P6f.out _ (P7f.out _ (P8f.out _ (P9f.out _ h))))))).1.2⟩)
                          have rp := fun (W : World) => run_part Try.underlying24 info64.1 info64.2 g3 f3 mL cd3 lo2 hi2 c HHL.out.2.1.1 (by have := HHL.out.2; have := ld_cap (P3t.out _ (P4f.out _ (P5f.out _ (P6f.out _ (P7f.out _ (P8f.out _ (P9f.out _ G9.out))))))).2.2; have := hlqH.out; omega) HHL.out.2.2.2 W
                          go_cut [247] (fun s247 wx => s247 = .bool false ∧ Hid (P9 wx))
                          case first =>
                            as_aux_lemma =>
                            obtain ⟨_, _, ⟨e1, e2⟩, ⟨e3, e4⟩, e5, e6⟩ := HWR.out
                            have B_0 : Hid (P9 v9.drew) := Lib.hid (P9n.out _ _ G9.out (below_drw (Below.refl _ _) 1))
                            refine wp_region_held_drew (S := fun W => W.cell? ⟨T9, 1, none⟩ = some (.slice od9 c cd9) ∧ W.cell? ⟨T3, 1, none⟩ = some (.slice (some ⟨g3, f3, none⟩) mL cd3)) (by kernel_rfl) ?_ (fun hHeld => ?_)
                            · exact KS.out _ B_0.out
                            have hHd := hHeld
                            generalize v9.drew = w_0 at *
                            (refine wpAnyH_take (i := 0) (oi := ⟨some 229, _, _, _, _, _⟩) (v := ?v0_wq1) rfl (by kernel_rfl) (by kernel_rfl) (by kernel_rfl) (fun _ _ _ h => h) (Or.inl ⟨by rfl, ?hy0_wq1⟩) (by assumption) ?rest0_wq1; (case hy0_wq1 => ((intro w hSw); (try dsimp only at hSw); go_simp; first | done | (with_reducible rfl))))
                            (try simp only [Act.put, List.setIfInBounds_toArray, List.set_cons_zero, List.set_cons_succ])
                            refine wpAnyH_ready (rs := [1]) (by kernel_rfl) (by simp) ?_
                            refine AllReadyH.cons (o := ⟨some 230, _, _, _, _, _⟩) rfl (fun K hK => ?_) (AllReadyH.nil)
                            go_simp
                            (go_at_call 15; (with_reducible refine (num10_any _ _).mono ?_); rintro e w' ⟨rfl, rfl⟩)
                            refine hK.out _ _ ?_ (fun hHeld => ?_)
                            · (try dsimp only)
                              exact KS.out _ B_0.out
                            clear hK K
                            (try simp only [Act.put, List.setIfInBounds_toArray, List.set_cons_zero, List.set_cons_succ])
                            (refine wpAnyH_take (i := 2) (oi := ⟨some 231, _, _, _, _, _⟩) (v := ?v2_wq2) rfl (by kernel_rfl) (by kernel_rfl) (by kernel_rfl) (fun _ _ _ h => h) (Or.inl ⟨by rfl, ?hy2_wq2⟩) (by assumption) ?rest2_wq2; (case hy2_wq2 => ((intro w hSw); (try dsimp only at hSw); go_simp; first | done | (with_reducible rfl))))
                            (try simp only [Act.put, List.setIfInBounds_toArray, List.set_cons_zero, List.set_cons_succ])
                            (refine wpAnyH_take (i := 3) (oi := ⟨some 232, _, _, _, _, _⟩) (v := .bool false) rfl (by kernel_rfl) (by kernel_rfl) (by kernel_rfl) (fun _ _ _ h => h) (Or.inl ⟨by rfl, ?hy3_wq3⟩) (by assumption) ?rest3_wq3; (case hy3_wq3 => ((intro w hSw); (try dsimp only at hSw); go_simp; first | done | (with_reducible rfl))))
                            (try simp only [Act.put, List.setIfInBounds_toArray, List.set_cons_zero, List.set_cons_succ])
                            (refine wpAnyH_take (i := 4) (oi := ⟨some 233, _, _, _, _, _⟩) (v := ?v4_wq4) rfl (by kernel_rfl) (by kernel_rfl) (by kernel_rfl) (fun _ _ _ h => h) (Or.inl ⟨by rfl, ?hy4_wq4⟩) (by assumption) ?rest4_wq4; (case hy4_wq4 => ((intro w hSw); (try dsimp only at hSw); go_simp; first | done | (with_reducible rfl))))
                            (try simp only [Act.put, List.setIfInBounds_toArray, List.set_cons_zero, List.set_cons_succ])
                            (refine wpAnyH_take (i := 5) (oi := ⟨some 234, _, _, _, _, _⟩) (v := ?v5_wq5) rfl (by kernel_rfl) (by kernel_rfl) (by kernel_rfl) (fun _ _ _ h => h) (Or.inl ⟨by rfl, ?hy5_wq5⟩) (by assumption) ?rest5_wq5; (case hy5_wq5 => ((intro w hSw); (try dsimp only at hSw); go_simp; first | done | (with_reducible rfl))))
                            (try simp only [Act.put, List.setIfInBounds_toArray, List.set_cons_zero, List.set_cons_succ])
                            (refine wpAnyH_take (i := 6) (oi := ⟨some 235, _, _, _, _, _⟩) (v := ?v6_wq6) rfl (by kernel_rfl) (by kernel_rfl) (by kernel_rfl) (fun _ _ _ h => h) (Or.inl ⟨by rfl, ?hy6_wq6⟩) (by assumption) ?rest6_wq6; (case hy6_wq6 => ((intro w hSw); (try dsimp only at hSw); go_simp; first | done | (with_reducible rfl))))
                            (try simp only [Act.put, List.setIfInBounds_toArray, List.set_cons_zero, List.set_cons_succ])
                            (refine wpAnyH_take (i := 7) (oi := ⟨some 236, _, _, _, _, _⟩) (v := ?v7_wq7) rfl (by kernel_rfl) (by kernel_rfl) (by kernel_rfl) (fun _ _ _ h => h) (Or.inl ⟨by rfl, ?hy7_wq7⟩) (by assumption) ?rest7_wq7; (case hy7_wq7 => ((intro w hSw); (try dsimp only at hSw); go_simp; first | done | (with_reducible rfl))))
                            (try simp only [Act.put, List.setIfInBounds_toArray, List.set_cons_zero, List.set_cons_succ])
                            (refine wpAnyH_take (i := 8) (oi := ⟨some 237, _, _, _, _, _⟩) (v := ?v8_wq8) rfl (by kernel_rfl) (by kernel_rfl) (by kernel_rfl) (fun _ _ _ h => h) (Or.inl ⟨by rfl, ?hy8_wq8⟩) (by assumption) ?rest8_wq8; (case hy8_wq8 => ((intro w hSw); (try dsimp only at hSw); go_simp; first | done | (with_reducible rfl))))
                            (try simp only [Act.put, List.setIfInBounds_toArray, List.set_cons_zero, List.set_cons_succ])
                            (refine wpAnyH_take (i := 9) (oi := ⟨some 238, _, _, _, _, _⟩) (v := ?v9_wq9) rfl (by kernel_rfl) (by kernel_rfl) (by kernel_rfl) (fun _ _ _ h => h) (Or.inl ⟨by rfl, ?hy9_wq9⟩) (by assumption) ?rest9_wq9; (case hy9_wq9 => ((intro w hSw); (try dsimp only at hSw); go_simp; first | done | (with_reducible rfl))))
                            (try simp only [Act.put, List.setIfInBounds_toArray, List.set_cons_zero, List.set_cons_succ])
                            (refine wpAnyH_take (i := 10) (oi := ⟨some 239, _, _, _, _, _⟩) (v := ?v10_wq10) rfl (by kernel_rfl) (by kernel_rfl) (by kernel_rfl) (fun _ _ _ h => h) (Or.inl ⟨by rfl, ?hy10_wq10⟩) (by assumption) ?rest10_wq10; (case hy10_wq10 => ((intro w hSw); (try dsimp only at hSw); go_simp; first | done | (with_reducible rfl))))
                            (try simp only [Act.put, List.setIfInBounds_toArray, List.set_cons_zero, List.set_cons_succ])
                            (refine wpAnyH_take (i := 11) (oi := ⟨some 240, _, _, _, _, _⟩) (v := ?v11_wq11) rfl (by kernel_rfl) (by kernel_rfl) (by kernel_rfl) (fun _ _ _ h => h) (Or.inl ⟨by rfl, ?hy11_wq11⟩) (by assumption) ?rest11_wq11; (case hy11_wq11 => ((intro w hSw); (try dsimp only at hSw); go_simp; first | done | (with_reducible rfl))))
                            (try simp only [Act.put, List.setIfInBounds_toArray, List.set_cons_zero, List.set_cons_succ])
                            (refine wpAnyH_take (i := 12) (oi := ⟨some 241, _, _, _, _, _⟩) (v := ?v12_wq12) rfl (by kernel_rfl) (by kernel_rfl) (by kernel_rfl) (fun _ _ _ h => h) (Or.inl ⟨by rfl, ?hy12_wq12⟩) (by assumption) ?rest12_wq12; (case hy12_wq12 => ((intro w hSw); (try dsimp only at hSw); go_simp; first | done | (with_reducible rfl))))
                            (try simp only [Act.put, List.setIfInBounds_toArray, List.set_cons_zero, List.set_cons_succ])
                            (refine wpAnyH_take (i := 13) (oi := ⟨some 242, _, _, _, _, _⟩) (v := ?v13_wq13) rfl (by kernel_rfl) (by kernel_rfl) (by kernel_rfl) (fun _ _ _ h => h) (Or.inl ⟨by rfl, ?hy13_wq13⟩) (by assumption) ?rest13_wq13; (case hy13_wq13 => ((intro w hSw); (try dsimp only at hSw); go_simp; first | done | (with_reducible rfl))))
                            (try simp only [Act.put, List.setIfInBounds_toArray, List.set_cons_zero, List.set_cons_succ])
                            (refine wpAnyH_take (i := 14) (oi := ⟨some 243, _, _, _, _, _⟩) (v := ?v14_wq14) rfl (by kernel_rfl) (by kernel_rfl) (by kernel_rfl) (fun _ _ _ h => h) (Or.inl ⟨by rfl, ?hy14_wq14⟩) (by assumption) ?rest14_wq14; (case hy14_wq14 => ((intro w hSw); (try dsimp only at hSw); go_simp; first | done | (with_reducible rfl))))
                            (try simp only [Act.put, List.setIfInBounds_toArray, List.set_cons_zero, List.set_cons_succ])
                            (refine wpAnyH_take (i := 15) (oi := ⟨some 244, _, _, _, _, _⟩) (v := ?v15_wq15) rfl (by kernel_rfl) (by kernel_rfl) (by kernel_rfl) (fun _ _ _ h => h) (Or.inl ⟨by rfl, ?hy15_wq15⟩) (by assumption) ?rest15_wq15; (case hy15_wq15 => ((intro w hSw); (try dsimp only at hSw); go_simp; first | done | (with_reducible rfl))))
                            (try simp only [Act.put, List.setIfInBounds_toArray, List.set_cons_zero, List.set_cons_succ])
                            refine wpAnyH_ready (rs := [16]) (by kernel_rfl) (by simp) ?_
                            refine AllReadyH.cons (o := ⟨some 245, _, _, _, _, _⟩) rfl (fun K hK => ?_) (AllReadyH.nil)
                            go_simp
                            (go_at_call 21; (with_reducible refine (KEW.out _ _ _ (P9t.out _ B_0.out).2.2 (ld_part (P3t.out _ (P4f.out _ (P5f.out _ (P6f.out _ (P7f.out _ (P8f.out _ (P9f.out _ B_0.out))))))).2.2 (by rw [hlqH.out]; have := HHL.out.2; omega))).mono ?_); rintro e w_e2 ⟨rfl, hb⟩; have B_e2 := Lib.hid (P9n.out _ _ B_0.out hb); clear hb)
                            refine hK.out _ _ ?_ (fun hHeld => ?_)
                            · (try dsimp only)
                              exact KS.out _ B_e2.out
                            clear hK K
                            (try simp only [Act.put, List.setIfInBounds_toArray, List.set_cons_zero, List.set_cons_succ])
                            (refine wpAnyH_take (i := 17) (oi := ⟨some 246, _, _, _, _, _⟩) (v := ?v17_wq16) rfl (by kernel_rfl) (by kernel_rfl) (by kernel_rfl) (fun _ _ _ h => h) (Or.inl ⟨by rfl, ?hy17_wq16⟩) (by assumption) ?rest17_wq16; (case hy17_wq16 => ((intro w hSw); (try dsimp only at hSw); go_simp; first | done | (with_reducible rfl))))
                            (try simp only [Act.put, List.setIfInBounds_toArray, List.set_cons_zero, List.set_cons_succ])
                            (refine wpAnyH_take (i := 18) (oi := ⟨some 247, _, _, _, _, _⟩) (v := ?v18_wq17) rfl (by kernel_rfl) (by kernel_rfl) (by kernel_rfl) (fun _ _ _ h => h) (Or.inl ⟨by rfl, ?hy18_wq17⟩) (by assumption) ?rest18_wq17; (case hy18_wq17 => ((intro w hSw); (try dsimp only at hSw); go_simp; first | done | (with_reducible rfl))))
                            (try simp only [Act.put, List.setIfInBounds_toArray, List.set_cons_zero, List.set_cons_succ])
                            refine wpAnyH_done (by kernel_rfl) ?_ _
                            go_wp2
                            go_meet
                            exact ⟨rfl, B_e2⟩
                          case rest =>
                            as_aux_lemma =>
                            obtain ⟨rfl, GW⟩ := hcut
                            clear rp KS
                            go_wp2
                            exact ⟨⟨k + 1, by omega, by go_num, hB.trans ((FRb.out _ (P1f.out _ (P2f.out _ (P3f.out _ (P4f.out _ (P5f.out _ (P6f.out _ (P7f.out _ (P8f.out _ (P9f.out _ GW.out)))))))))).mono hBs)⟩, by simp [intOf]; omega⟩
                    · as_aux_lemma =>
                      have b2 : ((sb.length : Int) != 2) = true := by rw [bne_iff_ne]; omega
                      have b0 : (E != 0) = false := by rw [hE]; rfl
                      clear hz2 hE

                      go_wp2_with (first | (go_at_call 18; (with_reducible refine (K3.out _ (P1f.out _ (P2f.out _ GQ.out))).mono ?_); rintro e wz ⟨os, cs, od, cd, rfl, h1, h2, hb⟩; have GZ := Lib.hid (P2n.out _ _ GQ.out hb); have YZ := Lib.hid (fun o => FRk.out _ (P1f.out _ (P2f.out _ (P2n.out _ _ GZ.out (al_below o))))); obtain ⟨X0, X1, X2, X3, X4⟩ := YZ.out (.cells #[.slice os (unl E S).length cs, .slice od (unl E LQ).length cd] 26); clear h1 h2 hb) | (go_at_call 15; (with_reducible refine (num10_any _ _).mono ?_); rintro e w' ⟨rfl, rfl⟩))
                      exact ⟨⟨k + 1, by omega, by go_num, hB.trans ((FRb.out _ (FRn.out _ _ (P1f.out _ (P2f.out _ GZ.out)) (al_below _))).mono hBs)⟩, by simp [intOf]; omega⟩
                  · as_aux_lemma =>
                    have b0 : (E != 0) = true := bne_iff_ne.2 hE
                    clear hE

                    go_wp2_with (first | (go_at_call 18; (with_reducible refine (K3.out _ (P1f.out _ (P2f.out _ GQ.out))).mono ?_); rintro e wz ⟨os, cs, od, cd, rfl, h1, h2, hb⟩; have GZ := Lib.hid (P2n.out _ _ GQ.out hb); have YZ := Lib.hid (fun o => FRk.out _ (P1f.out _ (P2f.out _ (P2n.out _ _ GZ.out (al_below o))))); obtain ⟨X0, X1, X2, X3, X4⟩ := YZ.out (.cells #[.slice os (unl E S).length cs, .slice od (unl E LQ).length cd] 26); clear h1 h2 hb) | (go_at_call 15; (with_reducible refine (num10_any _ _).mono ?_); rintro e w' ⟨rfl, rfl⟩))
                    exact ⟨⟨k + 1, by omega, by go_num, hB.trans ((FRb.out _ (FRn.out _ _ (P1f.out _ (P2f.out _ GZ.out)) (al_below _))).mono hBs)⟩, by simp [intOf]; omega⟩
            · as_aux_lemma =>
              have hr2 : ((sa.length : Int) != 2) = true := by rw [bne_iff_ne]; omega
              clear ta tb hr
              go_wp2_with (first | (go_at_call 11; (with_reducible refine (LG.out _ (K0.out _)).mono ?_); rintro e w2 ⟨rfl, hb2⟩; have F2 := Lib.hid (FRs.out _ hb2); obtain ⟨x0, x1, x2, x3, x4⟩ := FRk.out _ F2.out; clear hb2) | (go_at_call 12; (with_reducible refine (KMA.out _ (FRb.out _ F2.out)).mono ?_); rintro e w4 ⟨rfl, hb4⟩; have F4 := Lib.hid (FRn.out _ _ F2.out hb4); obtain ⟨x0, x1, x2, x3, x4⟩ := FRk.out _ F4.out; clear hb4) | (go_at_call 12; (with_reducible refine (KMB.out _ (FRb.out _ F4.out)).mono ?_); rintro e w5 ⟨rfl, hb5⟩; have F5 := Lib.hid (FRn.out _ _ F4.out hb5); obtain ⟨x0, x1, x2, x3, x4⟩ := FRk.out _ F5.out; clear hb5))
              exact ⟨⟨k + 1, by omega, by go_num, hB.trans ((FRb.out _ F5.out).mono hBs)⟩, by simp [intOf]; omega⟩

    · as_aux_lemma =>
      by_cases g1 : k < len
      · have g2 : 6 ≤ k := by omega
        clear g
        go_wp2_with (go_at_call 19; (with_reducible refine (wakes10_any _).mono ?_); rintro e w9 ⟨rfl, hb9⟩)
        go_ret
        exact ⟨rfl, hB.trans (hb9.mono hBs)⟩
      · have g2 : len ≤ k := by omega
        clear g g1
        go_wp2_with (go_at_call 19; (with_reducible refine (wakes10_any _).mono ?_); rintro e w9 ⟨rfl, hb9⟩)
        go_ret
        exact ⟨rfl, hB.trans (hb9.mono hBs)⟩
end Go.Proofs.Ytlidkeabadioeaa
