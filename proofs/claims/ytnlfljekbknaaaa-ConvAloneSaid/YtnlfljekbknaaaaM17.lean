/-
  ratchetlaw11: more than is played?
  What each law of package conv ends with: a short convolution; an error's number.
-/
import Derived.BigRegion
import Derived.Test.YtnlfljekbknaaaaM02
import Derived.Test.YtnlfljekbknaaaaM05
import Derived.Test.YtnlfljekbknaaaaM15
import Derived.Test.YtnlfljekbknaaaaM16
namespace Go.Proofs.Ytnlfljekbknaaaa
open Go Go.RowKit Go.Shelf
attribute [local go_sem] Oper.semAt_some

theorem blk11 {W : World} {b : Nat} {v0 v1 v2 v3 v4 v5 v6 v7 v8 v9 v10 : Value} (h : Blk W b 30 #[v0, v1, v2, v3, v4, v5, v6, v7, v8, v9, v10]) : W.cell? ⟨b, 0, none⟩ = some v0 ∧ W.cell? ⟨b, 1, none⟩ = some v1 ∧ W.cell? ⟨b, 2, none⟩ = some v2 ∧ W.cell? ⟨b, 3, none⟩ = some v3 ∧ W.cell? ⟨b, 4, none⟩ = some v4 ∧ W.cell? ⟨b, 5, none⟩ = some v5 ∧ W.cell? ⟨b, 6, none⟩ = some v6 ∧ W.cell? ⟨b, 7, none⟩ = some v7 ∧ W.cell? ⟨b, 8, none⟩ = some v8 ∧ W.cell? ⟨b, 9, none⟩ = some v9 ∧ W.cell? ⟨b, 10, none⟩ = some v10 := ⟨h.cell 0, h.cell 1, h.cell 2, h.cell 3, h.cell 4, h.cell 5, h.cell 6, h.cell 7, h.cell 8, h.cell 9, h.cell 10⟩
/-- A told tensor, its lists' lengths by name. -/
def TzL (W : World) (E : Int) (S : List Int) (ms : Nat) (D : List Int) (md : Nat) (e : Ending) (w' : World) : Prop := ∃ os cs od cd, e = .returned (.tuple #[.agg #[.slice os ms cs, .slice od md cd], .int .i64 E]) ∧ Ld w' (.slice os ms cs) S ∧ Ld w' (.slice od md cd) D ∧ Below W.heap.size W w'
theorem tzL_of {W w' : World} {E : Int} {S D : List Int} {ms md : Nat} {e : Ending} (hs : ms = S.length) (hd : md = D.length) (h : SomeT W E S D e w') : TzL W E S ms D md e w' := by
  subst hs hd
  obtain ⟨vs, vd, rfl, h1, h2, h3⟩ := someT_ld h
  obtain ⟨o, c, rfl, _, _⟩ := id h1
  obtain ⟨o2, c2, rfl, _, _⟩ := id h2
  exact ⟨o, c, o2, c2, rfl, h1, h2, h3⟩
theorem nat_quo {L a b : Nat} (h : L = a * b) (ha : 1 ≤ a) (hb : L ≤ 65536) : ((L : Int).tdiv (a : Int) = (b : Int)) ∧ wrap64 (b : Int) = (b : Int) ∧ IntKind.i64.wrap (b : Int) = (b : Int) ∧ ¬ a = 0 := by
  have hq : b ≤ 65536 := by
    have := Nat.mul_le_mul_right b ha
    omega
  refine ⟨?_, IntWalk.wrap64_in _ (by omega), IntWalk.i64_in _ (by omega), by omega⟩
  rw [h, Int.natCast_mul]
  exact Int.mul_tdiv_cancel_left _ (by omega)
/-- What stands behind the first of a list, as cells to be appended. -/
theorem tail_news {W : World} {g f n c : Nat} {ls : List Int} (h : Ld W (.slice (some ⟨g, f, none⟩) n c) ls) : ∀ j u, (ints (ls.drop 1))[j]? = some u → W.cell? ((⟨g, f + 1, none⟩ : Addr).add j) = some u := by
  intro j u hu
  have hj : j < (ls.drop 1).length := by
    have := (List.getElem?_eq_some_iff.1 hu).1
    simpa [ints] using this
  have hj2 : 1 + j < ls.length := by rw [List.length_drop] at hj; omega
  have e := ld_cell h (k := 1 + j) hj2
  rw [Go.WideShapes.add_plain, show f + 1 + j = f + (1 + j) by omega, e]
  have q := ints_at (ls := ls.drop 1) hj
  have e2 : (ints (ls.drop 1))[j]? = some (.int .i64 ((ls.drop 1).getD j 0)) := by simpa using q
  rw [e2] at hu
  rw [← hu]
  simp [List.getD, Nat.add_comm]
theorem ints_one (ls : List Int) : ∀ u ∈ ints ls, u.oneCell' = true := by
  intro u hu
  simp only [ints, List.mem_map] at hu
  obtain ⟨x, _, rfl⟩ := hu
  simp [Value.oneCell']
theorem run_tail {P : Program} {t e : TypeId} {i : TypeInfo} (hu : P.underlying t = some (.slice e)) (hi : P.info? e = some i) (hs : i.size = 1) (g f n m c : Nat) (h : n = 1 + m) (hc : n ≤ c) (h0 : 1 ≤ m) (wx : World) :
    (Instr.slice t (.slice (some ⟨g, f, none⟩) n c) (some (.int .i64 1)) none none).run P wx = .ok (.slice (some ⟨g, f + 1, none⟩) m (c - 1)) wx := by
  subst h
  have a3 : ¬ c = 1 := by omega
  have a4 : 1 + m - 1 = m := by omega
  have a6 : 1 ≤ 1 + m := by omega
  have a7 : ¬ (1 + (m : Int) < 1) := by omega
  simp [Instr.slice, run_underlying hu, Instr.sliceBounds, Instr.sliceBound, asIntOf, sizeOf, typeInfo, hi, hs, Addr.add, a3, a4, a7]
theorem infoI1 : Try.prog.info? 3 = some ((Try.prog.info? 3).getD default) ∧ ((Try.prog.info? 3).getD default).size = 1 := by
  obtain ⟨i, h1, _, h2, _⟩ := info_parts infoI
  rw [h1]
  exact ⟨rfl, h2⟩
theorem part_le {i N n L : Nat} (hi : i < N) (hL : L = N * n) : i * n + n ≤ L ∧ (i + 1) * n = i * n + n := by
  have h := Nat.mul_le_mul_right n (show i + 1 ≤ N from hi)
  rw [Nat.add_mul, Nat.one_mul] at h ⊢
  exact ⟨by omega, rfl⟩
theorem two_six {a b : Nat} (h : (decide ((6 : Int) < (a : Int)) || decide ((6 : Int) < (b : Int))) = false) : a ≤ 6 ∧ b ≤ 6 := by
  simp only [Bool.or_eq_false_iff, decide_eq_false_iff_not] at h
  omega
theorem run_tail2 {P : Program} {t e : TypeId} {i : TypeInfo} (hu : P.underlying t = some (.slice e)) (hi : P.info? e = some i) (hs : i.size = 1) (g f n m c : Nat) (h : n = 2 + m) (hc : n ≤ c) (h0 : 1 ≤ m) (wx : World) :
    (Instr.slice t (.slice (some ⟨g, f, none⟩) n c) (some (.int .i64 2)) none none).run P wx = .ok (.slice (some ⟨g, f + 2, none⟩) m (c - 2)) wx := by
  subst h
  have a3 : ¬ c = 2 := by omega
  have a4 : 2 + m - 2 = m := by omega
  have a6 : 2 ≤ 2 + m := by omega
  have a7 : ¬ (2 + (m : Int) < 2) := by omega
  simp [Instr.slice, run_underlying hu, Instr.sliceBounds, Instr.sliceBound, asIntOf, sizeOf, typeInfo, hi, hs, Addr.add, a3, a4, a7]
theorem ld_drop2 {W : World} {g f n m c : Nat} {ls : List Int} (h : Ld W (.slice (some ⟨g, f, none⟩) n c) ls) (hm : ls.length = 2 + m) : Ld W (.slice (some ⟨g, f + 2, none⟩) m (c - 2)) (ls.drop 2) := by
  have q := ld_part h (lo := 2) (N := m) (by omega)
  rwa [List.take_of_length_le (by simp; omega)] at q

set_option maxRecDepth 100000 in
set_option maxHeartbeats 12000000 in
theorem heavy11_any (v0 v1 v2 v3 v4 v5 v6 v7 v8 v9 : Value) (sx dx sw dw zk zs zp zd zq zr : List Int) (f : Int) (w : World) (h0 : Ld w v0 sx) (h1 : Ld w v1 dx) (h2 : Ld w v2 sw) (h3 : Ld w v3 dw) (h4 : Ld w v4 zk) (h5 : Ld w v5 zs) (h6 : Ld w v6 zp) (h7 : Ld w v7 zd) (h8 : Ld w v8 zq) (h9 : Ld w v9 zr) (l0 : sx.length ≤ 17592186044416) (l1 : dx.length ≤ 17592186044416) (l2 : sw.length ≤ 17592186044416) (l3 : dw.length ≤ 17592186044416) (l4 : zk.length ≤ 17592186044416) (l5 : zs.length ≤ 17592186044416) (l6 : zp.length ≤ 17592186044416) (l7 : zd.length ≤ 17592186044416) (l8 : zq.length ≤ 17592186044416) (l9 : zr.length ≤ 17592186044416) :
    Calls Try.prog 11 #[.agg #[v0, v1, v2, v3, v4, v5, v6, v7, v8, v9, .int .i64 f]] w (YnL w (sx.length ≤ 8 ∧ sw.length ≤ 8)) := by
  have LA := Lib.hid (fun (W : World) (hW : Below w.heap.size w W) => heavy8_any v0 v1 sx dx 60 W (h0.below hW) (h1.below hW) (by omega) (by omega))
  have LB := Lib.hid (fun (W : World) (hW : Below w.heap.size w W) => heavy8_any v2 v3 sw dw 60 W (h2.below hW) (h3.below hW) (by omega) (by omega))
  have LL := Lib.hid (fun (W : World) (hW : Below w.heap.size w W) => long11_any v4 v5 v6 v7 zk zs zp zd W (h4.below hW) (h5.below hW) (h6.below hW) (h7.below hW))
  obtain ⟨oX, cX, rfl, _, _⟩ := id h0
  obtain ⟨oV, cV, rfl, _, _⟩ := id h1
  obtain ⟨oW, cW, rfl, _, _⟩ := id h2
  obtain ⟨oY, cY, rfl, _, _⟩ := id h3
  obtain ⟨oK, cK, rfl, _, _⟩ := id h4
  obtain ⟨oS, cS, rfl, _, _⟩ := id h5
  obtain ⟨oP, cP, rfl, _, _⟩ := id h6
  obtain ⟨oD, cD, rfl, _, _⟩ := id h7
  obtain ⟨oQ, cQ, rfl, _, _⟩ := id h8
  obtain ⟨oR, cR, rfl, _, _⟩ := id h9
  have K4 := Lib.hid (Blk.new w 30 #[.slice oX sx.length cX, .slice oV dx.length cV, .slice oW sw.length cW, .slice oY dw.length cY, .slice oK zk.length cK, .slice oS zs.length cS, .slice oP zp.length cP, .slice oD zd.length cD, .slice oQ zq.length cQ, .slice oR zr.length cR, .int .i64 f])
  obtain ⟨FR, hFR⟩ : ∃ FR : World → Prop, FR = fun W => Below w.heap.size w W ∧ Blk W w.heap.size 30 #[.slice oX sx.length cX, .slice oV dx.length cV, .slice oW sw.length cW, .slice oY dw.length cY, .slice oK zk.length cK, .slice oS zs.length cS, .slice oP zp.length cP, .slice oD zd.length cD, .slice oQ zq.length cQ, .slice oR zr.length cR, .int .i64 f] := ⟨_, rfl⟩
  have FRb : Hid (∀ W, FR W → Below w.heap.size w W) := Lib.hid (fun W h => by rw [hFR] at h; exact h.1)
  have FRk := Lib.hid (fun (W : World) (h : FR W) => blk11 (by rw [hFR] at h; exact h.2 : Blk W w.heap.size 30 #[.slice oX sx.length cX, .slice oV dx.length cV, .slice oW sw.length cW, .slice oY dw.length cY, .slice oK zk.length cK, .slice oS zs.length cS, .slice oP zp.length cP, .slice oD zd.length cD, .slice oQ zq.length cQ, .slice oR zr.length cR, .int .i64 f]))
  have FRn : Hid (∀ W W', FR W → Below W.heap.size W W' → FR W') := Lib.hid (fun W W' h hb => by rw [hFR] at h ⊢; exact ⟨h.1.trans (hb.mono h.1.size), h.2.below hb h.2.lt⟩)
  have F1 : Hid (FR (w.alloc (.cells #[.slice oX sx.length cX, .slice oV dx.length cV, .slice oW sw.length cW, .slice oY dw.length cY, .slice oK zk.length cK, .slice oS zs.length cS, .slice oP zp.length cP, .slice oD zd.length cD, .slice oQ zq.length cQ, .slice oR zr.length cR, .int .i64 f] 30))) := Lib.hid (by rw [hFR]; exact ⟨(Below.refl _ _).alloc (Nat.le_refl _) _, K4.out⟩)
  clear hFR K4
  go_enter Try.func11, Try.ntmps11
  go_upto_region 1 with fail
  obtain ⟨x0, x1, x2, x3, x4, x5, x6, x7, x8, x9, x10⟩ := FRk.out _ F1.out
  go_cut [27] (fun s27 wx => ∃ b, s27 = .bool b ∧ Hid (b = false → (sx.length ≤ 8 ∧ sw.length ≤ 8) ∧ (zk.length ≤ 6 ∧ zs.length ≤ 6 ∧ zp.length ≤ 6 ∧ zd.length ≤ 6) ∧ zq.length ≤ 6 ∧ zr.length ≤ 6) ∧ Hid (FR wx))
  case first =>
    as_aux_lemma =>
    cases ga : hv8 60 sx dx with
    | true =>
      rw [ga] at LA
      clear ga
      go_wp2_with (go_at_call 36; (with_reducible refine (LA.out _ (FRb.out _ F1.out)).mono ?_); rintro e w2 ⟨rfl, hb⟩; have F2 := Lib.hid (FRn.out _ _ F1.out hb); obtain ⟨x0, x1, x2, x3, x4, x5, x6, x7, x8, x9, x10⟩ := FRk.out _ F2.out; clear hb)
      go_meet
      exact ⟨_, rfl, Lib.hid (fun h => by simp at h), F2⟩
    | false =>
      rw [ga] at LA
      have GA := Lib.hid (hv8_no ga).2
      clear ga
      cases gb : hv8 60 sw dw with
      | true =>
        rw [gb] at LB
        clear gb
        go_wp2_with (first | (go_at_call 36; (with_reducible refine (LA.out _ (FRb.out _ F1.out)).mono ?_); rintro e w2 ⟨rfl, hb⟩; have F2 := Lib.hid (FRn.out _ _ F1.out hb); obtain ⟨x0, x1, x2, x3, x4, x5, x6, x7, x8, x9, x10⟩ := FRk.out _ F2.out; clear hb) | (go_at_call 36; (with_reducible refine (LB.out _ (FRb.out _ F2.out)).mono ?_); rintro e w3 ⟨rfl, hb⟩; have F3 := Lib.hid (FRn.out _ _ F2.out hb); obtain ⟨x0, x1, x2, x3, x4, x5, x6, x7, x8, x9, x10⟩ := FRk.out _ F3.out; clear hb))
        go_meet
        exact ⟨_, rfl, Lib.hid (fun h => by simp at h), F3⟩
      | false =>
        rw [gb] at LB
        have GB := Lib.hid (hv8_no gb).2
        clear gb
        go_wp2_with (first | (go_at_call 36; (with_reducible refine (LA.out _ (FRb.out _ F1.out)).mono ?_); rintro e w2 ⟨rfl, hb⟩; have F2 := Lib.hid (FRn.out _ _ F1.out hb); obtain ⟨x0, x1, x2, x3, x4, x5, x6, x7, x8, x9, x10⟩ := FRk.out _ F2.out; clear hb) | (go_at_call 36; (with_reducible refine (LB.out _ (FRb.out _ F2.out)).mono ?_); rintro e w3 ⟨rfl, hb⟩; have F3 := Lib.hid (FRn.out _ _ F2.out hb); obtain ⟨x0, x1, x2, x3, x4, x5, x6, x7, x8, x9, x10⟩ := FRk.out _ F3.out; clear hb) | (go_at_call 46; (with_reducible refine (LL.out _ (FRb.out _ F3.out)).mono ?_); rintro e w4 ⟨b, rfl, hq, hb⟩; have F4 := Lib.hid (FRn.out _ _ F3.out hb); have HQ := Lib.hid hq; obtain ⟨x0, x1, x2, x3, x4, x5, x6, x7, x8, x9, x10⟩ := FRk.out _ F4.out; clear hb hq; cases b))
        all_goals go_meet
        all_goals first
          | exact ⟨_, rfl, Lib.hid (fun h => ⟨⟨GA.out, GB.out⟩, HQ.out trivial, two_six h⟩), F4⟩
          | exact ⟨_, rfl, Lib.hid (fun h => ⟨⟨GA.out, GB.out⟩, HQ.out, two_six h⟩), F4⟩
          | exact ⟨_, rfl, Lib.hid (fun h => by simp at h), F4⟩
  case rest =>
    as_aux_lemma =>
    obtain ⟨b, rfl, HN, FD⟩ := hcut
    clear x0 x1 x2 x3 x4 x5 x6 x7 x8 x9 x10
    clear LA LB LL
    obtain ⟨wd, hwd⟩ : ∃ v, v = wc := ⟨_, rfl⟩
    rw [← hwd] at FD ⊢
    clear hwd
    cases b with
    | true =>
      as_aux_lemma =>
      go_wp2
      go_ret
      exact ⟨_, rfl, fun h => by simp at h, FRb.out _ FD.out⟩
    | false =>
      as_aux_lemma =>
      replace HN := Lib.hid (HN.out rfl)
      obtain ⟨x0, x1, x2, x3, x4, x5, x6, x7, x8, x9, x10⟩ := FRk.out _ FD.out
      go_upto_region 3 with fail
      go_cut [44] (fun s44 wx => ∃ b, s44 = .bool b ∧ Hid (FR wx))
      case first =>
        as_aux_lemma =>
        by_cases g : 2 < sw.length
        · have gI : (2 : Int) < (sw.length : Int) := by omega
          obtain ⟨gB, fB, hoB, _⟩ := ld_at h2 (k := 0) (by omega)
          subst hoB
          obtain ⟨m2, hm2⟩ : ∃ m, sw.length = 2 + m := ⟨sw.length - 2, by omega⟩
          have hcW := ld_cap h2
          have LW1 := Lib.hid (fun (W : World) (h : FR W) => wide11_some _ (.slice (some ⟨gB, fB + 2, none⟩) m2 (cW - 2)) _ _ _ _ sx (sw.drop 2) zk zs zp zd W (h0.below (FRb.out _ h)) (ld_drop2 (h2.below (FRb.out _ h)) hm2) (h4.below (FRb.out _ h)) (h5.below (FRb.out _ h)) (h6.below (FRb.out _ h)) (h7.below (FRb.out _ h)) (by have := HN.out; omega) (by have := HN.out; simp; omega) (by have := HN.out; omega) (by have := HN.out; omega) (by have := HN.out; omega) (by have := HN.out; omega))
          have rp := fun (W : World) => run_tail2 Try.underlying23 infoI1.1 infoI1.2 gB fB sw.length m2 cW hm2 hcW (by omega) W
          have KS : Hid (∀ W, FR W → W.cell? ⟨w.heap.size, 0, none⟩ = some (.slice oX sx.length cX) ∧ W.cell? ⟨w.heap.size, 2, none⟩ = some (.slice (some ⟨gB, fB, none⟩) sw.length cW) ∧ W.cell? ⟨w.heap.size, 4, none⟩ = some (.slice oK zk.length cK) ∧ W.cell? ⟨w.heap.size, 5, none⟩ = some (.slice oS zs.length cS) ∧ W.cell? ⟨w.heap.size, 6, none⟩ = some (.slice oP zp.length cP) ∧ W.cell? ⟨w.heap.size, 7, none⟩ = some (.slice oD zd.length cD)) := Lib.hid (fun W h => by obtain ⟨x0, x1, x2, x3, x4, x5, x6, x7, x8, x9, x10⟩ := FRk.out _ h; exact ⟨x0, x2, x4, x5, x6, x7⟩)
          have B_0 : Hid (FR wd.drew) := Lib.hid (FRn.out _ _ FD.out (below_drw (Below.refl _ _) 1))
          clear hm2 hcW h0 h1 h2 h3 h4 h5 h6 h7 h8 h9
          clear x0 x1 x2 x3 x4 x5 x6 x7 x8 x9 x10
          refine wp_region_held_drew (S := fun W => W.cell? ⟨w.heap.size, 0, none⟩ = some (.slice oX sx.length cX) ∧ W.cell? ⟨w.heap.size, 2, none⟩ = some (.slice (some ⟨gB, fB, none⟩) sw.length cW) ∧ W.cell? ⟨w.heap.size, 4, none⟩ = some (.slice oK zk.length cK) ∧ W.cell? ⟨w.heap.size, 5, none⟩ = some (.slice oS zs.length cS) ∧ W.cell? ⟨w.heap.size, 6, none⟩ = some (.slice oP zp.length cP) ∧ W.cell? ⟨w.heap.size, 7, none⟩ = some (.slice oD zd.length cD)) (by kernel_rfl) ?_ (fun hHeld => ?_)
          · exact KS.out _ B_0.out
          have hHd := hHeld
          generalize wd.drew = w_0 at *
          (refine wpAnyH_take (i := 0) (oi := ⟨some 28, _, _, _, _, _⟩) (v := ?v0_h1) rfl (by kernel_rfl) (by kernel_rfl) (by kernel_rfl) (fun _ _ _ h => h) (Or.inl ⟨by rfl, ?hy0_h1⟩) (by assumption) ?rest0_h1; (case hy0_h1 => ((intro w hSw); (try dsimp only at hSw); go_simp; first | done | (with_reducible rfl))))
          (try simp only [Act.put, List.setIfInBounds_toArray, List.set_cons_zero, List.set_cons_succ])
          (refine wpAnyH_take (i := 1) (oi := ⟨some 29, _, _, _, _, _⟩) (v := ?v1_h2) rfl (by kernel_rfl) (by kernel_rfl) (by kernel_rfl) (fun _ _ _ h => h) (Or.inl ⟨by rfl, ?hy1_h2⟩) (by assumption) ?rest1_h2; (case hy1_h2 => ((intro w hSw); (try dsimp only at hSw); go_simp; first | done | (with_reducible rfl))))
          (try simp only [Act.put, List.setIfInBounds_toArray, List.set_cons_zero, List.set_cons_succ])
          (refine wpAnyH_take (i := 2) (oi := ⟨some 30, _, _, _, _, _⟩) (v := ?v2_h3) rfl (by kernel_rfl) (by kernel_rfl) (by kernel_rfl) (fun _ _ _ h => h) (Or.inl ⟨by rfl, ?hy2_h3⟩) (by assumption) ?rest2_h3; (case hy2_h3 => ((intro w hSw); (try dsimp only at hSw); go_simp; first | done | (with_reducible rfl))))
          (try simp only [Act.put, List.setIfInBounds_toArray, List.set_cons_zero, List.set_cons_succ])
          (refine wpAnyH_take (i := 3) (oi := ⟨some 31, _, _, _, _, _⟩) (v := ?v3_h4) rfl (by kernel_rfl) (by kernel_rfl) (by kernel_rfl) (fun _ _ _ h => h) (Or.inl ⟨by rfl, ?hy3_h4⟩) (by assumption) ?rest3_h4; (case hy3_h4 => ((intro w hSw); (try dsimp only at hSw); go_simp; first | done | (with_reducible rfl))))
          (try simp only [Act.put, List.setIfInBounds_toArray, List.set_cons_zero, List.set_cons_succ])
          (refine wpAnyH_take (i := 4) (oi := ⟨some 32, _, _, _, _, _⟩) (v := ?v4_h5) rfl (by kernel_rfl) (by kernel_rfl) (by kernel_rfl) (fun _ _ _ h => h) (Or.inl ⟨by rfl, ?hy4_h5⟩) (by assumption) ?rest4_h5; (case hy4_h5 => ((intro w hSw); (try dsimp only at hSw); go_simp; first | done | (with_reducible rfl))))
          (try simp only [Act.put, List.setIfInBounds_toArray, List.set_cons_zero, List.set_cons_succ])
          (refine wpAnyH_take (i := 5) (oi := ⟨some 33, _, _, _, _, _⟩) (v := .bool true) rfl (by kernel_rfl) (by kernel_rfl) (by kernel_rfl) (fun _ _ _ h => h) (Or.inl ⟨by rfl, ?hy5_h6⟩) (by assumption) ?rest5_h6; (case hy5_h6 => ((intro w hSw); (try dsimp only at hSw); go_simp; first | done | (with_reducible rfl))))
          (try simp only [Act.put, List.setIfInBounds_toArray, List.set_cons_zero, List.set_cons_succ])
          (refine wpAnyH_take (i := 6) (oi := ⟨some 34, _, _, _, _, _⟩) (v := ?v6_h7) rfl (by kernel_rfl) (by kernel_rfl) (by kernel_rfl) (fun _ _ _ h => h) (Or.inl ⟨by rfl, ?hy6_h7⟩) (by assumption) ?rest6_h7; (case hy6_h7 => ((intro w hSw); (try dsimp only at hSw); go_simp; first | done | (with_reducible rfl))))
          (try simp only [Act.put, List.setIfInBounds_toArray, List.set_cons_zero, List.set_cons_succ])
          (refine wpAnyH_take (i := 7) (oi := ⟨some 35, _, _, _, _, _⟩) (v := ?v7_h8) rfl (by kernel_rfl) (by kernel_rfl) (by kernel_rfl) (fun _ _ _ h => h) (Or.inl ⟨by rfl, ?hy7_h8⟩) (by assumption) ?rest7_h8; (case hy7_h8 => ((intro w hSw); (try dsimp only at hSw); go_simp; first | done | (with_reducible rfl))))
          (try simp only [Act.put, List.setIfInBounds_toArray, List.set_cons_zero, List.set_cons_succ])
          (refine wpAnyH_take (i := 8) (oi := ⟨some 36, _, _, _, _, _⟩) (v := ?v8_h9) rfl (by kernel_rfl) (by kernel_rfl) (by kernel_rfl) (fun _ _ _ h => h) (Or.inl ⟨by rfl, ?hy8_h9⟩) (by assumption) ?rest8_h9; (case hy8_h9 => ((intro w hSw); (try dsimp only at hSw); go_simp; first | done | (with_reducible rfl))))
          (try simp only [Act.put, List.setIfInBounds_toArray, List.set_cons_zero, List.set_cons_succ])
          (refine wpAnyH_take (i := 9) (oi := ⟨some 37, _, _, _, _, _⟩) (v := ?v9_h10) rfl (by kernel_rfl) (by kernel_rfl) (by kernel_rfl) (fun _ _ _ h => h) (Or.inl ⟨by rfl, ?hy9_h10⟩) (by assumption) ?rest9_h10; (case hy9_h10 => ((intro w hSw); (try dsimp only at hSw); go_simp; first | done | (with_reducible rfl))))
          (try simp only [Act.put, List.setIfInBounds_toArray, List.set_cons_zero, List.set_cons_succ])
          (refine wpAnyH_take (i := 10) (oi := ⟨some 38, _, _, _, _, _⟩) (v := ?v10_h11) rfl (by kernel_rfl) (by kernel_rfl) (by kernel_rfl) (fun _ _ _ h => h) (Or.inl ⟨by rfl, ?hy10_h11⟩) (by assumption) ?rest10_h11; (case hy10_h11 => ((intro w hSw); (try dsimp only at hSw); go_simp; first | done | (with_reducible rfl))))
          (try simp only [Act.put, List.setIfInBounds_toArray, List.set_cons_zero, List.set_cons_succ])
          (refine wpAnyH_take (i := 11) (oi := ⟨some 39, _, _, _, _, _⟩) (v := ?v11_h12) rfl (by kernel_rfl) (by kernel_rfl) (by kernel_rfl) (fun _ _ _ h => h) (Or.inl ⟨by rfl, ?hy11_h12⟩) (by assumption) ?rest11_h12; (case hy11_h12 => ((intro w hSw); (try dsimp only at hSw); go_simp; first | done | (with_reducible rfl))))
          (try simp only [Act.put, List.setIfInBounds_toArray, List.set_cons_zero, List.set_cons_succ])
          (refine wpAnyH_take (i := 12) (oi := ⟨some 40, _, _, _, _, _⟩) (v := ?v12_h13) rfl (by kernel_rfl) (by kernel_rfl) (by kernel_rfl) (fun _ _ _ h => h) (Or.inl ⟨by rfl, ?hy12_h13⟩) (by assumption) ?rest12_h13; (case hy12_h13 => ((intro w hSw); (try dsimp only at hSw); go_simp; first | done | (with_reducible rfl))))
          (try simp only [Act.put, List.setIfInBounds_toArray, List.set_cons_zero, List.set_cons_succ])
          (refine wpAnyH_take (i := 13) (oi := ⟨some 41, _, _, _, _, _⟩) (v := ?v13_h14) rfl (by kernel_rfl) (by kernel_rfl) (by kernel_rfl) (fun _ _ _ h => h) (Or.inl ⟨by rfl, ?hy13_h14⟩) (by assumption) ?rest13_h14; (case hy13_h14 => ((intro w hSw); (try dsimp only at hSw); go_simp; first | done | (with_reducible rfl))))
          (try simp only [Act.put, List.setIfInBounds_toArray, List.set_cons_zero, List.set_cons_succ])
          (refine wpAnyH_take (i := 14) (oi := ⟨some 42, _, _, _, _, _⟩) (v := ?v14_h15) rfl (by kernel_rfl) (by kernel_rfl) (by kernel_rfl) (fun _ _ _ h => h) (Or.inl ⟨by rfl, ?hy14_h15⟩) (by assumption) ?rest14_h15; (case hy14_h15 => ((intro w hSw); (try dsimp only at hSw); go_simp; first | done | (with_reducible rfl))))
          (try simp only [Act.put, List.setIfInBounds_toArray, List.set_cons_zero, List.set_cons_succ])
          refine wpAnyH_ready (rs := [15]) (by kernel_rfl) (by simp) ?_
          refine AllReadyH.cons (o := ⟨some 43, _, _, _, _, _⟩) rfl (fun K hK => ?_) (AllReadyH.nil)
          go_simp
          (go_at_call 47; (with_reducible refine (LW1.out _ B_0.out).mono ?_); rintro e w_3 ⟨⟨b, rfl⟩, hb⟩; have B_3 := Lib.hid (FRn.out _ _ B_0.out hb); clear hb)
          refine hK.out _ _ ?_ (fun hHeld => ?_)
          · (try dsimp only)
            exact KS.out _ B_3.out
          clear hK K
          (try simp only [Act.put, List.setIfInBounds_toArray, List.set_cons_zero, List.set_cons_succ])
          (refine wpAnyH_take (i := 16) (oi := ⟨some 44, _, _, _, _, _⟩) (v := ?v16_h16) rfl (by kernel_rfl) (by kernel_rfl) (by kernel_rfl) (fun _ _ _ h => h) (Or.inl ⟨by rfl, ?hy16_h16⟩) (by assumption) ?rest16_h16; (case hy16_h16 => ((intro w hSw); (try dsimp only at hSw); go_simp; first | done | (with_reducible rfl))))
          (try simp only [Act.put, List.setIfInBounds_toArray, List.set_cons_zero, List.set_cons_succ])
          refine wpAnyH_done (by kernel_rfl) ?_ _
          go_wp2
          go_meet
          exact ⟨_, rfl, B_3⟩
        · have gI : ¬ (2 : Int) < (sw.length : Int) := by omega
          go_quiet (fail)
          go_wp2
          go_meet
          exact ⟨_, rfl, Lib.hid (FRn.out _ _ FD.out (below_drw (Below.refl _ _) _))⟩
      case rest =>
        as_aux_lemma =>
        obtain ⟨b, rfl, FE⟩ := hcut
        clear x0 x1 x2 x3 x4 x5 x6 x7 x8 x9 x10
        obtain ⟨wf, hwd⟩ : ∃ v, v = wc := ⟨_, rfl⟩
        rw [← hwd] at FE ⊢
        clear hwd
        cases b with
        | true =>
          as_aux_lemma =>
          go_wp2
          go_ret
          exact ⟨_, rfl, fun h => by simp at h, FRb.out _ FE.out⟩
        | false =>
          as_aux_lemma =>
          obtain ⟨x0, x1, x2, x3, x4, x5, x6, x7, x8, x9, x10⟩ := FRk.out _ FE.out
          have LK := Lib.hid (fun (W : World) (hW : Below w.heap.size w W) => kernel11_any _ zq W (h8.below hW) (by omega))
          have LW2 := Lib.hid (fun (W : World) (h : FR W) => wide11_some _ _ _ _ _ _ sx zq zk zs zp zd W (h0.below (FRb.out _ h)) (h8.below (FRb.out _ h)) (h4.below (FRb.out _ h)) (h5.below (FRb.out _ h)) (h6.below (FRb.out _ h)) (h7.below (FRb.out _ h)) (by have := HN.out; omega) (by have := HN.out; omega) (by have := HN.out; omega) (by have := HN.out; omega) (by have := HN.out; omega) (by have := HN.out; omega))
          have LW3 := Lib.hid (fun (W : World) (h : FR W) => wide11_some _ _ _ _ _ _ zr zq zk zs zp zd W (h9.below (FRb.out _ h)) (h8.below (FRb.out _ h)) (h4.below (FRb.out _ h)) (h5.below (FRb.out _ h)) (h6.below (FRb.out _ h)) (h7.below (FRb.out _ h)) (by have := HN.out; omega) (by have := HN.out; omega) (by have := HN.out; omega) (by have := HN.out; omega) (by have := HN.out; omega) (by have := HN.out; omega))
          have HNS := Lib.hid HN.out.1
          clear h0 h1 h2 h3 h4 h5 h6 h7 h8 h9
          cases gk : afr 1 zq with
          | true =>
            rw [gk] at LK
            clear gk
            go_wp2_with (first | (go_at_call 20; (with_reducible refine (LK.out _ (FRb.out _ FE.out)).mono ?_); rintro e w' ⟨rfl, rfl⟩) | (go_at_call 47; (with_reducible refine (LW2.out _ FE.out).mono ?_); rintro e w6 ⟨⟨b, rfl⟩, hb⟩; have F6 := Lib.hid (FRn.out _ _ FE.out hb); obtain ⟨x0, x1, x2, x3, x4, x5, x6, x7, x8, x9, x10⟩ := FRk.out _ F6.out; clear hb; cases b) | (go_at_call 47; (with_reducible refine (LW3.out _ F6.out).mono ?_); rintro e w7 ⟨⟨b, rfl⟩, hb⟩; have F7 := Lib.hid (FRn.out _ _ F6.out hb); clear hb))
            all_goals go_ret
            all_goals first | exact ⟨_, rfl, fun _ => HNS.out, FRb.out _ F7.out⟩ | exact ⟨_, rfl, fun _ => HNS.out, FRb.out _ F6.out⟩
          | false =>
            rw [gk] at LK
            clear gk
            go_wp2_with (go_at_call 20; (with_reducible refine (LK.out _ (FRb.out _ FE.out)).mono ?_); rintro e w' ⟨rfl, rfl⟩)
            go_ret
            exact ⟨_, rfl, fun _ => HNS.out, FRb.out _ FE.out⟩
end Go.Proofs.Ytnlfljekbknaaaa
namespace Go.Proofs.Ytnlfljekbknaaaa
open Go Go.RowKit Go.Shelf
attribute [local go_sem] Oper.semAt_some
theorem num11_any (x : Int) (w : World) : Calls Try.prog 15 #[.int .i64 x] w fun e w' => e = .returned (.int .i64 x) ∧ w = w' := by
  go_enter Try.func15, Try.ntmps15
  go_wp2
  go_ret
  exact ⟨rfl, rfl⟩
theorem eq11 (W : World) (va vb : Value) (ha : Ld W va [3, 5, 7]) (hb : Ld W vb [3, 5, 7]) : Calls Try.prog 16 #[va, vb] W fun e w' => e = .returned (.bool true) ∧ Below W.heap.size W w' := eqw_same va vb _ W ha hb (by decide)
theorem ldn {W : World} {n k : Nat} {t : TypeId} (ls : List Int) (h : W.heap.size = n) (hk : ls.length = k) : Ld (W.alloc (.cells (ints ls).toArray t)) (.slice (some ⟨n, 0, none⟩) k k) ls := by
  subst h hk
  exact Ld.of_blk (ls := ls) (Blk.new W t _) (Nat.le_refl _)
theorem ld357 {W : World} {n : Nat} {t : TypeId} (h : W.heap.size = n) : Ld (W.alloc (.cells #[.int .i64 3, .int .i64 5, .int .i64 7] t)) (.slice (some ⟨n, 0, none⟩) 3 3) [3, 5, 7] := ldn [3, 5, 7] h rfl
/-- What wakes asks of Conv. -/
def CW (W : World) (va vda vb vdb v1 v2 v3 : Value) : Prop := ∀ n, W.heap.size = n → Calls Try.prog 14 #[.agg #[va, vda], .agg #[vb, vdb], .agg #[.slice none 0 0, v1, v2, v3], .int .i64 8] W fun e w' => ∃ o c o2 c2, e = .returned (.tuple #[.agg #[.slice o 3 c, .slice o2 3 c2], .int .i64 0]) ∧ Ld w' (.slice o2 3 c2) [3, 5, 7] ∧ Below n W w'
theorem convw (W : World) (va vda vb vdb v1 v2 v3 : Value) (ha : Ld W va [1, 1, 4]) (hda : Ld W vda [1, 2, 3, 4]) (hb : Ld W vb [1, 1, 2]) (hdb : Ld W vdb [256, 256]) (h1 : Ld W v1 [1]) (h2 : Ld W v2 [0]) (h3 : Ld W v3 [1]) : CW W va vda vb vdb v1 v2 v3 := by
  intro n hn
  subst hn
  have hF : CvFit [] [1] [0] [1] [((1 : Nat) : Int), ((1 : Nat) : Int), 4] [((1 : Nat) : Int), ((1 : Nat) : Int), ((2 : Nat) : Int)] [3] 1 1 1 3 2 4 1 2 1 1 1 0 1 4 3 1 0 1 := ⟨rfl, .inl ⟨rfl, rfl, rfl, rfl, rfl, rfl, rfl, rfl, rfl, rfl, rfl, rfl⟩, by decide, by decide, by decide, by decide, by decide, by decide, by decide, by decide, by decide⟩
  have h := conv_fit hF W va vda vb vdb (.slice none 0 0) v1 v2 v3 [1, 2, 3, 4] [256, 256] 8 ⟨⟨ha, hda, hb, hdb, Ld.nil _, h1, h2, h3⟩, ⟨by decide, by decide, by decide⟩, by decide, by decide, by decide, by decide⟩
  refine h.mono fun e w' hh => ?_
  have h9 := (hh.2 (by decide)).1 (fun P p hP h1 h2 => by
    obtain ⟨p1, p2⟩ := p
    obtain rfl : p1 = 0 := by simp at h1; exact h1
    obtain rfl : p2 = 0 := by simp at h2; exact h2
    rcases (show P = 0 ∨ P = 1 ∨ P = 2 by omega) with rfl | rfl | rfl <;> decide)
  rw [show rowL (fun q => tw (cvV [1, 2, 3, 4] [256, 256] (1, 1, ((1 : Nat) : Int), 1, 0, 1) (4, 3, ((2 : Nat) : Int), 1, 0, 1) 3 1 2 4 2 1 8 (q % 3) (q / 3 / 1, q / 3 % 1))) (1 * 1 * 3) = [3, 5, 7] by decide] at h9
  obtain ⟨vs, vd, rfl, q1, q2, q3⟩ := someT_ld h9
  obtain ⟨o, c, rfl, _, _⟩ := q1
  obtain ⟨o2, c2, rfl, _, _⟩ := id q2
  exact ⟨o, c, o2, c2, rfl, q2, q3⟩
set_option maxRecDepth 100000 in
set_option maxHeartbeats 8000000 in
theorem wakes11_any (w : World) : Calls Try.prog 17 #[] w fun e w' => e = .returned (.bool true) ∧ Below w.heap.size w w' := by
  obtain ⟨w6, hw6⟩ : ∃ w6, w6 = (((((w.alloc (.cells #[.int .i64 1, .int .i64 1, .int .i64 4] 3)).alloc (.cells #[.int .i64 1, .int .i64 2, .int .i64 3, .int .i64 4] 2)).alloc (.cells #[.slice (some ⟨w.heap.size, 0, none⟩) 3 3, .slice (some ⟨w.heap.size + 1, 0, none⟩) 4 4] 26)).alloc (.cells #[.int .i64 1, .int .i64 1, .int .i64 2] 3)).alloc (.cells #[.int .i64 256, .int .i64 256] 2)).alloc (.cells #[.slice (some ⟨w.heap.size + 3, 0, none⟩) 3 3, .slice (some ⟨w.heap.size + 4, 0, none⟩) 2 2] 26) := ⟨_, rfl⟩
  have hs6 : w6.heap.size = w.heap.size + 6 := by rw [hw6]; simp
  have B6 : Hid (Below w.heap.size w w6) := Lib.hid (by rw [hw6]; exact ((((((Below.refl _ _).alloc (Nat.le_refl _) _).alloc (by simp) _).alloc (by simp; omega) _).alloc (by simp; omega) _).alloc (by simp; omega) _).alloc (by simp; omega) _)
  have L1 : Hid (Ld w6 (.slice (some ⟨w.heap.size, 0, none⟩) 3 3) [1, 1, 4]) := Lib.hid (by
    have h := ldn (W := w) (t := 3) (n := w.heap.size) [1, 1, 4] (by simp) rfl
    rw [hw6]; exact (((((((h.below (al_below _)).below (al_below _)).below (al_below _)).below (al_below _)).below (al_below _)))))
  have L2 : Hid (Ld w6 (.slice (some ⟨w.heap.size + 1, 0, none⟩) 4 4) [1, 2, 3, 4]) := Lib.hid (by
    have h := ldn (W := (w.alloc (.cells #[.int .i64 1, .int .i64 1, .int .i64 4] 3))) (t := 2) (n := w.heap.size + 1) [1, 2, 3, 4] (by simp) rfl
    rw [hw6]; exact ((((((h.below (al_below _)).below (al_below _)).below (al_below _)).below (al_below _)))))
  have L3 : Hid (Ld w6 (.slice (some ⟨w.heap.size + 3, 0, none⟩) 3 3) [1, 1, 2]) := Lib.hid (by
    have h := ldn (W := (((w.alloc (.cells #[.int .i64 1, .int .i64 1, .int .i64 4] 3)).alloc (.cells #[.int .i64 1, .int .i64 2, .int .i64 3, .int .i64 4] 2)).alloc (.cells #[.slice (some ⟨w.heap.size, 0, none⟩) 3 3, .slice (some ⟨w.heap.size + 1, 0, none⟩) 4 4] 26))) (t := 3) (n := w.heap.size + 3) [1, 1, 2] (by simp) rfl
    rw [hw6]; exact ((((h.below (al_below _)).below (al_below _)))))
  have L4 : Hid (Ld w6 (.slice (some ⟨w.heap.size + 4, 0, none⟩) 2 2) [256, 256]) := Lib.hid (by
    have h := ldn (W := ((((w.alloc (.cells #[.int .i64 1, .int .i64 1, .int .i64 4] 3)).alloc (.cells #[.int .i64 1, .int .i64 2, .int .i64 3, .int .i64 4] 2)).alloc (.cells #[.slice (some ⟨w.heap.size, 0, none⟩) 3 3, .slice (some ⟨w.heap.size + 1, 0, none⟩) 4 4] 26)).alloc (.cells #[.int .i64 1, .int .i64 1, .int .i64 2] 3))) (t := 2) (n := w.heap.size + 4) [256, 256] (by simp) rfl
    rw [hw6]; exact (((h.below (al_below _)))))
  have QX : Hid (Blk w6 (w.heap.size + 2) 26 #[.slice (some ⟨w.heap.size, 0, none⟩) 3 3, .slice (some ⟨w.heap.size + 1, 0, none⟩) 4 4]) := Lib.hid (by
    have h := Blk.new ((w.alloc (.cells #[.int .i64 1, .int .i64 1, .int .i64 4] 3)).alloc (.cells #[.int .i64 1, .int .i64 2, .int .i64 3, .int .i64 4] 2)) 26 #[.slice (some ⟨w.heap.size, 0, none⟩) 3 3, .slice (some ⟨w.heap.size + 1, 0, none⟩) 4 4]
    rw [show ((w.alloc (.cells #[.int .i64 1, .int .i64 1, .int .i64 4] 3)).alloc (.cells #[.int .i64 1, .int .i64 2, .int .i64 3, .int .i64 4] 2)).heap.size = w.heap.size + 2 by simp] at h
    rw [hw6]; exact (((h.alloc _).alloc _).alloc _))
  have QK : Hid (Blk w6 (w.heap.size + 5) 26 #[.slice (some ⟨w.heap.size + 3, 0, none⟩) 3 3, .slice (some ⟨w.heap.size + 4, 0, none⟩) 2 2]) := Lib.hid (by
    have h := Blk.new (((((w.alloc (.cells #[.int .i64 1, .int .i64 1, .int .i64 4] 3)).alloc (.cells #[.int .i64 1, .int .i64 2, .int .i64 3, .int .i64 4] 2)).alloc (.cells #[.slice (some ⟨w.heap.size, 0, none⟩) 3 3, .slice (some ⟨w.heap.size + 1, 0, none⟩) 4 4] 26)).alloc (.cells #[.int .i64 1, .int .i64 1, .int .i64 2] 3)).alloc (.cells #[.int .i64 256, .int .i64 256] 2)) 26 #[.slice (some ⟨w.heap.size + 3, 0, none⟩) 3 3, .slice (some ⟨w.heap.size + 4, 0, none⟩) 2 2]
    rw [show (((((w.alloc (.cells #[.int .i64 1, .int .i64 1, .int .i64 4] 3)).alloc (.cells #[.int .i64 1, .int .i64 2, .int .i64 3, .int .i64 4] 2)).alloc (.cells #[.slice (some ⟨w.heap.size, 0, none⟩) 3 3, .slice (some ⟨w.heap.size + 1, 0, none⟩) 4 4] 26)).alloc (.cells #[.int .i64 1, .int .i64 1, .int .i64 2] 3)).alloc (.cells #[.int .i64 256, .int .i64 256] 2)).heap.size = w.heap.size + 5 by simp] at h
    rw [hw6]; exact h)
  obtain ⟨c0, c1, _⟩ := blk2 QX.out
  obtain ⟨c2, c3, _⟩ := blk2 QK.out
  have CS := Lib.hid (convw (((w6.alloc (.cells #[.int .i64 1] 3)).alloc (.cells #[.int .i64 0] 3)).alloc (.cells #[.int .i64 1] 3)) _ _ _ _ (.slice (some ⟨w6.heap.size, 0, none⟩) 1 1) (.slice (some ⟨w6.heap.size + 1, 0, none⟩) 1 1) (.slice (some ⟨w6.heap.size + 2, 0, none⟩) 1 1) (((L1.out.below (al_below _)).below (al_below _)).below (al_below _)) (((L2.out.below (al_below _)).below (al_below _)).below (al_below _)) (((L3.out.below (al_below _)).below (al_below _)).below (al_below _)) (((L4.out.below (al_below _)).below (al_below _)).below (al_below _)) (((ldn [1] rfl rfl).below (al_below _)).below (al_below _)) ((ldn [0] (by simp) rfl).below (al_below _)) (ldn [1] (by simp) rfl) (w6.heap.size + 3) (by simp))
  have B9 : Hid (Below w.heap.size w (((w6.alloc (.cells #[.int .i64 1] 3)).alloc (.cells #[.int .i64 0] 3)).alloc (.cells #[.int .i64 1] 3))) := Lib.hid ((((B6.out.alloc B6.out.size _).alloc (by simp; omega) _)).alloc (by simp; omega) _)
  have HS6 := Lib.hid hs6
  have HW6 := Lib.hid hw6
  clear hw6 hs6 QX QK L1 L2 L3 L4 B6
  go_enter Try.func17, Try.ntmps17
  go_upto_region 3 with fail
  rw [← HW6.out]
  clear HW6
  go_wp2_with (first
    | (go_at_call 14; (with_reducible refine CS.out.mono ?_); rintro e w10 ⟨o4, k4, o5, k5, rfl, h4, hb4⟩; have B10 := Lib.hid (B9.out.trans (hb4.mono (by have := HS6.out; omega))); have H4 := Lib.hid h4; clear h4 hb4)
    | (go_at_call 16; (with_reducible refine (eq11 _ _ _ ((H4.out.below (al_below _)).below (al_below _)) (ld357 (World.size_alloc _ _))).mono ?_); rintro e w11 ⟨rfl, hb6⟩; have B11 := Lib.hid (((B10.out.alloc B10.out.size _).alloc (by have := B10.out.size; simp; omega) _).trans (hb6.mono (by have := B10.out.size; simp; omega))); clear hb6)
    | (go_at_call 15; (with_reducible refine (num11_any _ _).mono ?_); rintro e w' ⟨rfl, rfl⟩))
  go_ret
  exact ⟨rfl, B11.out⟩
end Go.Proofs.Ytnlfljekbknaaaa
