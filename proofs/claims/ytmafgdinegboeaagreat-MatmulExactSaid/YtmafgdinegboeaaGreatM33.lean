/-
  
  
-/
import Derived.Deep.AppendLies
import Derived.Deep.RegionHeld3
import Derived.Test.YtmafgdinegboeaaGreatM01
import Derived.Test.YtmafgdinegboeaaGreatM06
import Derived.Test.YtmafgdinegboeaaGreatM16
import Derived.Test.YtmafgdinegboeaaGreatM17
import Derived.Test.YtmafgdinegboeaaGreatM18
import Derived.Test.YtmafgdinegboeaaGreatM19
import Derived.Test.YtmafgdinegboeaaGreatM20
import Derived.Test.YtmafgdinegboeaaGreatM21
namespace Go.Proofs.YtmafgdinegboeaaGreat
open Go Go.RowKit Go.Shelf
attribute [local go_sem] Oper.semAt_some

theorem ltc_app {m k1 n : Nat} (h : n = m + 2) (hk : k1 = m + 1) (h4 : n ≤ 4) : alx m ++ [(k1 : Int), (m : Int)] = ltc n := by
  subst hk h
  obtain rfl | rfl | rfl : m = 0 ∨ m = 1 ∨ m = 2 := by omega
  all_goals decide
theorem ints2 (l : List Int) (x y : Int) : ints (l ++ [x, y]) = ints l ++ [.int .i64 x, .int .i64 y] := by simp [ints]
theorem Ld.grown9 {W W' : World} {r : Option Nat} {ls : List Int} {o : Option Addr} {n c : Nat} (h : Ld W (.slice o n c) ls) (hg : W.grownBy W' r) (hn : ∀ a : Addr, o = some a → some a.block ≠ r) : Ld W' (.slice o n c) ls := by
  obtain ⟨o2, c2, e, h1, h2⟩ := h
  simp only [Value.slice.injEq] at e
  obtain ⟨rfl, rfl, rfl⟩ := e
  refine ⟨o, c, rfl, h1, fun k hk => ?_⟩
  obtain ⟨g, f, e1, h3, h4⟩ := h2 k hk
  exact ⟨g, f, e1, Nat.lt_of_lt_of_le h3 hg.size, (hg.cell_far ⟨g, f + k, none⟩ h3 (hn ⟨g, f, none⟩ e1)).trans h4⟩
theorem apart9 {W : World} {base n : Nat} {e : TypeId} {v : Value} {xs : List Value} {o : Option Addr} (h : ∀ a, o = some a → W.heap.size ≤ a.block) (ho : W.ownsRow base e 1 v n xs) : ∀ a, o = some a → some a.block ≠ v.ownBlock := fun a e1 e2 => absurd (h a e1) (Nat.not_le_of_lt (ho.lt _ e2.symm).2)
def RvM (W : World) (sh st : List Int) (n m : Nat) (e : Ending) (w' : World) : Prop := ∃ os cs ot ct, e = .returned (.agg #[.slice os n cs, .slice ot m ct, .int .i64 0]) ∧ (Ld w' (.slice os n cs) sh ∧ ∀ a, os = some a → W.heap.size ≤ a.block) ∧ (Ld w' (.slice ot m ct) st ∧ ∀ a, ot = some a → W.heap.size ≤ a.block) ∧ Below W.heap.size W w'
theorem rvM_of {W : World} {sh st : List Int} {n m : Nat} (hn : n = sh.length) (hm : m = st.length) {e : Ending} {w' : World} (h : SomeW W sh st 0 e w') : RvM W sh st n m e w' := by
  subst hn hm
  obtain ⟨os, cs, ot, ct, rfl, ho, hb⟩ := h
  have lo : ∀ {v : Value} {n : Nat} {xs : List Value} {o : Option Addr} {m c : Nat}, w'.ownsRow W.heap.size 3 1 v n xs → v = .slice o m c → ∀ a, o = some a → W.heap.size ≤ a.block := by
    intro v n xs o m c hv e a ea
    subst e ea
    exact (hv.lt a.block rfl).1
  exact ⟨os, cs, ot, ct, rfl, ⟨(ov_ld ho).1, lo ho.1 rfl⟩, ⟨(ov_ld ho).2, lo ho.2.1 rfl⟩, hb⟩
set_option maxRecDepth 100000 in
set_option maxHeartbeats 6000000 in
theorem rturn_any (vs vd : Value) (a da p : List Int) (A B K : Nat) (w : World) (hs : Ld w vs a) (hd : Ld w vd da) (ta : tnb a da = true) (ha : a = p ++ [(A : Int), (B : Int)]) (hK : prod p = (K : Int)) (hp : pos p) (h1 : 1 ≤ A ∧ 1 ≤ B ∧ 1 ≤ K) (hN : prod a = ((K * (A * B) : Nat) : Int)) (h6 : K * (A * B) ≤ 65536) (hl : p.length ≤ 2) :
    Calls Tryz.prog 39 #[.agg #[vs, vd]] w (RefT w (p ++ [(B : Int), (A : Int)]) (tnn K A B da)) := by
  obtain ⟨i0, hi0, hz0, hz1, hz2⟩ := info_parts infoI
  have ka := tnb_parts ta
  have hal : a.length = p.length + 2 := by rw [ha]; simp
  have KO := Lib.hid (fun (W : World) (hW : Below w.heap.size w W) => (rof_any vs a W (hs.below hW) ka.1).mono (fun _ _ hh => rvM_of (n := a.length) (m := a.length) rfl (stl_len a).symm hh))
  have KW := Lib.hid (fun (W : World) (va vb v : Value) (q1 : Ld W va a) (q2 : Ld W vb (stl a)) (q3 : Ld W v (ltc a.length)) => by
    have q := rtranspose_any va vb v a (stl a) (ltc a.length) 0 W q1 q2 q3 (stl_len a) (by omega) (ltc_axs (by omega) (by omega))
    have e1 : trl a (ltc a.length) = p ++ [(B : Int), (A : Int)] := by rw [hal, ha]; exact (turn_lists p A B hl).1
    have e2 : trl (stl a) (ltc a.length) = stT p A B := by rw [hal, ha]; exact (turn_lists p A B hl).2
    rw [e1, e2] at q
    exact q.mono (fun _ _ hh => rvM_of (n := a.length) (m := a.length) (by rw [hal]; simp) (by rw [stT_len]; omega) hh))
  have KC := Lib.hid (fun (W : World) (va vb : Value) (hW : Below w.heap.size w W) (q1 : Ld W va (p ++ [(B : Int), (A : Int)])) (q2 : Ld W vb (stT p A B)) => by
    have q := rcopyt_any va vb vd _ _ da 0 (K * (B * A)) W q1 q2 (hd.below hW) (vwb_iff.1 (turn_vwb ta ha hK hp h1 hl h6 hN)) (by rw [prod_two p B A K hK])
    rwa [cps_tnn hp hK] at q)
  obtain ⟨S1, hS1⟩ : ∃ S, S = p ++ [(B : Int), (A : Int)] := ⟨_, rfl⟩
  obtain ⟨D1, hD1⟩ : ∃ D, D = tnn K A B da := ⟨_, rfl⟩
  rw [← hS1] at KW KC
  rw [← hD1] at KC
  rw [← hS1, ← hD1]
  obtain ⟨o1, c1, rfl, _, _⟩ := id hs
  obtain ⟨o2, c2, rfl, _, _⟩ := id hd
  have l4 : a.length ≤ 4 := by omega
  have l2 : 2 ≤ a.length := by omega
  obtain ⟨w2, hw2⟩ : ∃ w2, w2 = (w.alloc (.cells #[.slice o1 a.length c1, .slice o2 da.length c2] 26)).alloc (.cells #[.slice none 0 0, .slice none 0 0] 26) := ⟨_, rfl⟩
  have B2 : Hid (Below w.heap.size w w2) := Lib.hid (by rw [hw2]; exact ((Below.refl _ _).alloc (Nat.le_refl _) _).alloc (by simp) _)
  have S2 : Hid (w2.heap.size = w.heap.size + 2) := Lib.hid (by rw [hw2]; simp)
  have Q1 : Hid (Blk w2 (w.heap.size + 1) 26 #[.slice none 0 0, .slice none 0 0]) := Lib.hid (by rw [hw2]; exact blk_new1 w _ _ _)
  have Q0 : Hid (Blk w2 w.heap.size 26 #[.slice o1 a.length c1, .slice o2 da.length c2]) := Lib.hid (by rw [hw2]; exact (Blk.new w _ _).alloc _)
  have HW := Lib.hid hw2
  clear hw2 hs hd ta hN h6 h1 hp hl ha hal ka hS1 hD1
  have FBb : Hid (∀ W, Below (w.heap.size + 2) w2 W → Below w.heap.size w W) := Lib.hid (fun W h => B2.out.trans (h.mono (Nat.le_add_right _ _)))
  have FBz : Hid (∀ W, Below (w.heap.size + 2) w2 W → w.heap.size + 2 ≤ W.heap.size) := Lib.hid (fun W h => by have := h.size; have := S2.out; omega)
  have FBn : Hid (∀ W W', Below (w.heap.size + 2) w2 W → Below W.heap.size W W' → Below (w.heap.size + 2) w2 W') := Lib.hid (fun W W' h hb => h.trans (hb.mono (FBz.out W h)))
  have KS : Hid (∀ W, Below (w.heap.size + 2) w2 W → W.cell? ⟨w.heap.size, 0, none⟩ = some (.slice o1 a.length c1) ∧ W.cell? ⟨w.heap.size, 1, none⟩ = some (.slice o2 da.length c2)) := Lib.hid (fun W h => by
    have q := Q0.out.below h (by omega)
    exact ⟨q.cell 0, q.cell 1⟩)
  have KSz : Hid (∀ (W : World) (x y : Value), Below (w.heap.size + 2) w2 W → ((W.setCell ⟨w.heap.size + 1, 0, none⟩ x).setCell ⟨w.heap.size + 1, 1, none⟩ y).cell? ⟨w.heap.size, 0, none⟩ = some (.slice o1 a.length c1) ∧ ((W.setCell ⟨w.heap.size + 1, 0, none⟩ x).setCell ⟨w.heap.size + 1, 1, none⟩ y).cell? ⟨w.heap.size, 1, none⟩ = some (.slice o2 da.length c2)) := Lib.hid (fun W x y h => by
    have q := ((Q0.out.below h (by omega)).far (p := ⟨w.heap.size + 1, 0, none⟩) (by show w.heap.size ≠ w.heap.size + 1; omega) x).far (p := ⟨w.heap.size + 1, 1, none⟩) (by show w.heap.size ≠ w.heap.size + 1; omega) y
    exact ⟨q.cell 0, q.cell 1⟩)
  go_enter Tryz.func39, Tryz.ntmps39
  go_wp2
  go_loopw [4, 5] (fun s4 s5 wr => ∃ k : Nat, k + 2 ≤ a.length ∧ s5 = .int .i64 k ∧ Hid (wr.ownsRow (w.heap.size + 2) 3 1 s4 k (ints (alx k))) ∧ Hid (Below (w.heap.size + 2) w2 wr)) (fun _ s5 _ => a.length - (intOf s5).toNat)
  case atStart => exact ⟨0, l2, rfl, Lib.hid (World.ownsRow_nil _ _ _ _), Lib.hid (by rw [HW.out]; exact Below.refl _ _)⟩
  case round =>
    obtain ⟨wo, hwo⟩ : ∃ v, v = wr := ⟨_, rfl⟩
    subst hwo
    obtain ⟨k, hk, rfl, U, KB⟩ := hrel
    have hk4 : k ≤ 2 := by omega
    by_cases hlt : k + 2 < a.length
    · as_aux_lemma =>
      have z0 := FBz.out _ KB.out
      have hltI : (k : Int) + 2 < (a.length : Int) := by omega
      go_wp2_with (at_builtin; refine wpList_append_own _ rfl _ _ 23 rfl (w.heap.size + 2) 3 i0 (.int .i64 0) 1 8 Tryz.underlying23 hi0 hz0 hz1 hz2 rfl (by decide) _ k (ints (alx k)) rfl (U.out.alloc _) ⟨wo.heap.size, 0, none⟩ 1 1 [.int .i64 (k : Int)] rfl rfl ?c1 ?c2 ?c3 ?c4 ?c5 ?_)
      case c1 => exact (cell_one_new _ _ _)
      case c2 => simp [Value.oneCell']
      case c3 => unfold maxLen; omega
      case c4 => omega
      case c5 => simp; omega
      intro u9 w8 hown1 hgrow _
      have KU9 : Hid (w8.ownsRow (w.heap.size + 2) 3 1 u9 (k + 1) (ints (alx (k + 1)))) := Lib.hid (by rw [alx_snoc, ints_snoc]; exact hown1)
      have KB9 := Lib.hid ((KB.out.alloc z0 (.cells #[.int .i64 (k : Int)] 3)).grown hgrow (by simp; omega) (fun j e => (U.out.lt j e).1))
      clear hown1 hgrow z0
      go_wp2
      exact ⟨⟨k + 1, by omega, by go_num, KU9, KB9⟩, by simp [intOf]; omega⟩
    · as_aux_lemma =>
      obtain ⟨oU, cU, rfl⟩ := own_form1 U.out
      obtain ⟨k1, hk1⟩ : ∃ m, m = k + 1 := ⟨_, rfl⟩
      have HLT : Hid (alx k ++ [(k1 : Int), (k : Int)] = ltc a.length) := Lib.hid (ltc_app (by omega) hk1 l4)
      obtain ⟨e1, e2⟩ := nat_wrap_sub (a := a.length) (k := 1) (c := k1) (by omega) (by omega) (by decide)
      obtain ⟨e3, e4⟩ := nat_wrap_sub (a := a.length) (k := 2) (c := k) (by omega) (by omega) (by decide)
      have hltI : ¬ (k : Int) + 2 < (a.length : Int) := by omega
      clear hk1
      go_upto_region 7 with fail
      have B_0 : Hid (Below (w.heap.size + 2) w2 wo.drew) := Lib.hid (below_drw KB.out 1)
      have O_0 : Hid (wo.drew.ownsRow (w.heap.size + 2) 3 1 (.slice oU k cU) k (ints (alx k))) := Lib.hid (Below.keepOwn U.out (below_drw (Below.refl _ _) 1) (Nat.le_refl _))
      refine wp_region_held_drew (S := fun W => W.cell? ⟨w.heap.size, 0, none⟩ = some (.slice o1 a.length c1) ∧ W.cell? ⟨w.heap.size, 1, none⟩ = some (.slice o2 da.length c2)) (by kernel_rfl) ?_ (fun hHeld => ?_)
      · exact KS.out _ B_0.out
      have hHd := hHeld
      generalize wo.drew = w_0 at *
      (refine Go.Proofs.YtmafgdinegboeaaGreat.tk (i := 0) (oi := ⟨some 19, _, _, _, _, _⟩) (v := ?v0_t1) rfl ?hy0_t1 ?rest0_t1; (case hy0_t1 => intro w hSw; (try dsimp only at hSw); go_simp; first | done | with_reducible rfl))
      (try simp only [Act.put, pq])
      (refine Go.Proofs.YtmafgdinegboeaaGreat.tk (i := 1) (oi := ⟨some 20, _, _, _, _, _⟩) (v := ?v1_t2) rfl ?hy1_t2 ?rest1_t2; (case hy1_t2 => intro w hSw; (try dsimp only at hSw); go_simp; first | done | with_reducible rfl))
      (try simp only [Act.put, pq])
      (refine Go.Proofs.YtmafgdinegboeaaGreat.tk (i := 3) (oi := ⟨some 22, _, _, _, _, _⟩) (v := ?v3_t3) rfl ?hy3_t3 ?rest3_t3; (case hy3_t3 => intro w hSw; (try dsimp only at hSw); go_simp; first | done | with_reducible rfl))
      (try simp only [Act.put, pq])
      (refine Go.Proofs.YtmafgdinegboeaaGreat.tk (i := 4) (oi := ⟨some 23, _, _, _, _, _⟩) (v := ?v4_t4) rfl ?hy4_t4 ?rest4_t4; (case hy4_t4 => intro w hSw; (try dsimp only at hSw); go_simp; first | done | with_reducible rfl))
      (try simp only [Act.put, pq])
      (refine Go.Proofs.YtmafgdinegboeaaGreat.tk (i := 5) (oi := ⟨some 24, _, _, _, _, _⟩) (v := ?v5_t5) rfl ?hy5_t5 ?rest5_t5; (case hy5_t5 => intro w hSw; (try dsimp only at hSw); go_simp; first | done | with_reducible rfl))
      (try simp only [Act.put, pq])
      (refine Go.Proofs.YtmafgdinegboeaaGreat.tk (i := 6) (oi := ⟨some 25, _, _, _, _, _⟩) (v := ?v6_t6) rfl ?hy6_t6 ?rest6_t6; (case hy6_t6 => intro w hSw; (try dsimp only at hSw); go_simp; first | done | with_reducible rfl))
      (try simp only [Act.put, pq])
      (refine Go.Proofs.YtmafgdinegboeaaGreat.tk (i := 7) (oi := ⟨some 26, _, _, _, _, _⟩) (v := ?v7_t7) rfl ?hy7_t7 ?rest7_t7; (case hy7_t7 => intro w hSw; (try dsimp only at hSw); go_simp; first | done | with_reducible rfl))
      (try simp only [Act.put, pq])
      (refine Go.Proofs.YtmafgdinegboeaaGreat.tk (i := 11) (oi := ⟨some 30, _, _, _, _, _⟩) (v := ?v11_t8) rfl ?hy11_t8 ?rest11_t8; (case hy11_t8 => intro w hSw; (try dsimp only at hSw); go_simp; first | done | with_reducible rfl))
      (try simp only [Act.put, pq])
      (refine Go.Proofs.YtmafgdinegboeaaGreat.tk (i := 12) (oi := ⟨some 31, _, _, _, _, _⟩) (v := ?v12_t9) rfl ?hy12_t9 ?rest12_t9; (case hy12_t9 => intro w hSw; (try dsimp only at hSw); go_simp; first | done | with_reducible rfl))
      (try simp only [Act.put, pq])
      refine wpAnyH_ready (rs := [2, 8]) (by kernel_rfl) (by simp) ?_
      refine AllReadyH.cons (o := ⟨some 21, _, _, _, _, _⟩) rfl (fun K hK => ?_) (AllReadyH.cons (o := ⟨some 27, _, _, _, _, _⟩) rfl (fun K hK => ?_) (AllReadyH.nil))
      · go_simp
        (go_at_call 101; (with_reducible refine (KO.out _ (FBb.out _ B_0.out)).mono ?_); rintro e w_1 ⟨os, cs, ot, ct, rfl, h1, h2, hb⟩; have B_1 := Lib.hid (FBn.out _ _ B_0.out hb); have N1 := Lib.hid (apart9 (h := h1.2) O_0.out); have N2 := Lib.hid (apart9 (h := h2.2) O_0.out); have O_1 := Lib.hid (Below.keepOwn O_0.out hb (Nat.le_refl _)); have V_1 := Lib.hid (And.intro h1.1 h2.1); clear h1 h2 hb)
        refine hK.out _ _ ?_ (fun hHeld => ?_)
        · (try dsimp only)
          exact KS.out _ B_1.out
        clear hK K
        (try simp only [Act.put, pq])
        refine wpAnyH_ready (rs := [8]) (by kernel_rfl) (by simp) ?_
        refine AllReadyH.cons (o := ⟨some 27, _, _, _, _, _⟩) rfl (fun K hK => ?_) (AllReadyH.nil)
        go_simp
        have X_2 := Lib.hid (Blk.new w_1 3 #[.int .i64 (k1 : Int), .int .i64 (k : Int)])
        have V_2 := Lib.hid (And.intro (V_1.out.1.below (al_below (W := w_1) (.cells #[.int .i64 (k1 : Int), .int .i64 (k : Int)] 3))) (V_1.out.2.below (al_below (W := w_1) (.cells #[.int .i64 (k1 : Int), .int .i64 (k : Int)] 3))))
        have O_2 := Lib.hid (Below.keepOwn O_1.out (al_below (W := w_1) (.cells #[.int .i64 (k1 : Int), .int .i64 (k : Int)] 3)) (Nat.le_refl _))
        have B_2 := Lib.hid (FBn.out _ _ B_1.out (al_below (.cells #[.int .i64 (k1 : Int), .int .i64 (k : Int)] 3)))
        refine hK.out _ _ ?_ (fun hHeld => ?_)
        · (try dsimp only)
          exact KS.out _ B_2.out
        clear hK K
        generalize w_1.alloc (.cells #[.int .i64 (k1 : Int), .int .i64 (k : Int)] 3) = w_2 at *
        (try simp only [Act.put, pq])
        refine wpAnyH_ready (rs := [9]) (by kernel_rfl) (by simp) ?_
        refine AllReadyH.cons (o := ⟨some 28, _, _, _, _, _⟩) rfl (fun K hK => ?_) (AllReadyH.nil)
        have z9 := FBz.out _ B_2.out
        refine step_append_lies _ (by rfl) (.tmp 22) (.tmp 27) 23 (by rfl) (w.heap.size + 2) 3 i0 (.int .i64 0) 1 8 Tryz.underlying23 hi0 hz0 hz1 hz2 rfl (by decide) (.slice oU k cU) k (ints (alx k)) (by rfl) O_2.out ⟨w_1.heap.size, 0, none⟩ 2 2 [.int .i64 (k1 : Int), .int .i64 (k : Int)] (by rfl) rfl (World.news_of_block X_2.out) (by simp [Value.oneCell']) (by decide) (by unfold maxLen; omega) (by omega) z9 w_2.heap.size rfl ?_
        intro g9 cp9 w_3 hown hgrow hat _
        have L_3 : Hid (Ld w_3 (.slice (some ⟨g9, 0, none⟩) (k + 2) cp9) (ltc a.length)) := Lib.hid (by rw [← HLT.out]; exact own_ld (by rw [ints2]; exact hown) (by simp [alx_len]))
        have B_3 := Lib.hid (B_2.out.grown hgrow z9 (fun k e => (O_2.out.lt k e).1))
        have V_3 := Lib.hid (And.intro (V_2.out.1.grown9 hgrow N1.out) (V_2.out.2.grown9 hgrow N2.out))
        clear hown hgrow hat z9
        refine hK.out _ _ ?_ (fun hHeld => ?_)
        · (try dsimp only)
          exact KS.out _ B_3.out
        clear hK K
        (try simp only [Act.put, pq])
        refine wpAnyH_ready (rs := [10]) (by kernel_rfl) (by simp) ?_
        refine AllReadyH.cons (o := ⟨some 29, _, _, _, _, _⟩) rfl (fun K hK => ?_) (AllReadyH.nil)
        go_simp
        (go_at_call 100; (with_reducible refine (KW.out _ _ _ _ V_3.out.1 V_3.out.2 L_3.out).mono ?_); rintro e w_4 ⟨os2, cs2, ot2, ct2, rfl, h1, h2, hb⟩; have B_4 := Lib.hid (FBn.out _ _ B_3.out hb); have V_4 := Lib.hid (And.intro h1.1 h2.1); clear h1 h2 hb)
        refine hK.out _ _ ?_ (fun hHeld => ?_)
        · (try dsimp only)
          exact KS.out _ B_4.out
        clear hK K
        (try simp only [Act.put, pq])
        refine wpAnyH_ready (rs := [13]) (by kernel_rfl) (by simp) ?_
        refine AllReadyH.cons (o := ⟨some 32, _, _, _, _, _⟩) rfl (fun K hK => ?_) (AllReadyH.nil)
        go_simp
        (go_at_call 99; (with_reducible refine (KC.out _ _ _ (FBb.out _ B_4.out) V_4.out.1 V_4.out.2).mono ?_); rintro e w_5 ⟨os3, cs3, od3, cd3, rfl, h1, h2, hb⟩; have B_5 := Lib.hid (FBn.out _ _ B_4.out hb); have V_5 := Lib.hid (And.intro h1 h2); clear h1 h2 hb)
        refine hK.out _ _ ?_ (fun hHeld => ?_)
        · (try dsimp only)
          exact KS.out _ B_5.out
        clear hK K
        (try simp only [Act.put, pq])
        refine wpAnyH_ready (rs := [14]) (by kernel_rfl) (by simp) ?_
        refine AllReadyH.cons (o := ⟨none, _, _, _, _, _⟩) rfl (fun K hK => ?_) (AllReadyH.nil)
        have QB := Lib.hid (Q1.out.below B_5.out (Nat.lt_succ_self _))
        obtain ⟨p0, p1, pf0, pf1⟩ := blk2 QB.out
        go_simp
        refine hK.out _ _ ?_ (fun hHeld => ?_)
        · (try dsimp only)
          exact KSz.out _ _ _ B_5.out
        clear hK K
        (try simp only [Act.put, pq])
        refine wpAnyH_done (by kernel_rfl) ?_ _
        go_wp2
        refine bodyPost_ret (v := .agg #[.slice os3 S1.length cs3, .slice od3 D1.length cd3]) (by simp [results, Tryz.results39, go_sem, p0, p1]) rfl ?_
        exact ⟨os3, cs3, od3, cd3, rfl, ldg2 QB.out V_5.out.1, ldg2 QB.out V_5.out.2, ((FBb.out _ B_5.out).setCell (p := ⟨w.heap.size + 1, 0, none⟩) (Nat.le_succ _) _).setCell (p := ⟨w.heap.size + 1, 1, none⟩) (Nat.le_succ _) _⟩
      · go_simp
        have X_6 := Lib.hid (Blk.new w_0 3 #[.int .i64 (k1 : Int), .int .i64 (k : Int)])
        have O_6 := Lib.hid (Below.keepOwn O_0.out (al_below (W := w_0) (.cells #[.int .i64 (k1 : Int), .int .i64 (k : Int)] 3)) (Nat.le_refl _))
        have B_6 := Lib.hid (FBn.out _ _ B_0.out (al_below (.cells #[.int .i64 (k1 : Int), .int .i64 (k : Int)] 3)))
        refine hK.out _ _ ?_ (fun hHeld => ?_)
        · (try dsimp only)
          exact KS.out _ B_6.out
        clear hK K
        generalize w_0.alloc (.cells #[.int .i64 (k1 : Int), .int .i64 (k : Int)] 3) = w_6 at *
        (try simp only [Act.put, pq])
        refine wpAnyH_ready (rs := [2]) (by kernel_rfl) (by simp) ?_
        refine AllReadyH.cons (o := ⟨some 21, _, _, _, _, _⟩) rfl (fun K hK => ?_) (AllReadyH.nil)
        go_simp
        (go_at_call 101; (with_reducible refine (KO.out _ (FBb.out _ B_6.out)).mono ?_); rintro e w_7 ⟨os, cs, ot, ct, rfl, h1, h2, hb⟩; have B_7 := Lib.hid (FBn.out _ _ B_6.out hb); have N1 := Lib.hid (apart9 (h := h1.2) O_6.out); have N2 := Lib.hid (apart9 (h := h2.2) O_6.out); have X_7 := Lib.hid (X_6.out.below hb X_6.out.lt); have O_7 := Lib.hid (Below.keepOwn O_6.out hb (Nat.le_refl _)); have V_7 := Lib.hid (And.intro h1.1 h2.1); clear h1 h2 hb)
        refine hK.out _ _ ?_ (fun hHeld => ?_)
        · (try dsimp only)
          exact KS.out _ B_7.out
        clear hK K
        (try simp only [Act.put, pq])
        refine wpAnyH_ready (rs := [9]) (by kernel_rfl) (by simp) ?_
        refine AllReadyH.cons (o := ⟨some 28, _, _, _, _, _⟩) rfl (fun K hK => ?_) (AllReadyH.nil)
        have z9 := FBz.out _ B_7.out
        refine step_append_lies _ (by rfl) (.tmp 22) (.tmp 27) 23 (by rfl) (w.heap.size + 2) 3 i0 (.int .i64 0) 1 8 Tryz.underlying23 hi0 hz0 hz1 hz2 rfl (by decide) (.slice oU k cU) k (ints (alx k)) (by rfl) O_7.out ⟨w_0.heap.size, 0, none⟩ 2 2 [.int .i64 (k1 : Int), .int .i64 (k : Int)] (by rfl) rfl (World.news_of_block X_7.out) (by simp [Value.oneCell']) (by decide) (by unfold maxLen; omega) (by omega) z9 w_7.heap.size rfl ?_
        intro g9 cp9 w_8 hown hgrow hat _
        have L_8 : Hid (Ld w_8 (.slice (some ⟨g9, 0, none⟩) (k + 2) cp9) (ltc a.length)) := Lib.hid (by rw [← HLT.out]; exact own_ld (by rw [ints2]; exact hown) (by simp [alx_len]))
        have B_8 := Lib.hid (B_7.out.grown hgrow z9 (fun k e => (O_7.out.lt k e).1))
        have V_8 := Lib.hid (And.intro (V_7.out.1.grown9 hgrow N1.out) (V_7.out.2.grown9 hgrow N2.out))
        clear hown hgrow hat z9
        refine hK.out _ _ ?_ (fun hHeld => ?_)
        · (try dsimp only)
          exact KS.out _ B_8.out
        clear hK K
        (try simp only [Act.put, pq])
        refine wpAnyH_ready (rs := [10]) (by kernel_rfl) (by simp) ?_
        refine AllReadyH.cons (o := ⟨some 29, _, _, _, _, _⟩) rfl (fun K hK => ?_) (AllReadyH.nil)
        go_simp
        (go_at_call 100; (with_reducible refine (KW.out _ _ _ _ V_8.out.1 V_8.out.2 L_8.out).mono ?_); rintro e w_9 ⟨os2, cs2, ot2, ct2, rfl, h1, h2, hb⟩; have B_9 := Lib.hid (FBn.out _ _ B_8.out hb); have V_9 := Lib.hid (And.intro h1.1 h2.1); clear h1 h2 hb)
        refine hK.out _ _ ?_ (fun hHeld => ?_)
        · (try dsimp only)
          exact KS.out _ B_9.out
        clear hK K
        (try simp only [Act.put, pq])
        refine wpAnyH_ready (rs := [13]) (by kernel_rfl) (by simp) ?_
        refine AllReadyH.cons (o := ⟨some 32, _, _, _, _, _⟩) rfl (fun K hK => ?_) (AllReadyH.nil)
        go_simp
        (go_at_call 99; (with_reducible refine (KC.out _ _ _ (FBb.out _ B_9.out) V_9.out.1 V_9.out.2).mono ?_); rintro e w_10 ⟨os3, cs3, od3, cd3, rfl, h1, h2, hb⟩; have B_10 := Lib.hid (FBn.out _ _ B_9.out hb); have V_10 := Lib.hid (And.intro h1 h2); clear h1 h2 hb)
        refine hK.out _ _ ?_ (fun hHeld => ?_)
        · (try dsimp only)
          exact KS.out _ B_10.out
        clear hK K
        (try simp only [Act.put, pq])
        refine wpAnyH_ready (rs := [14]) (by kernel_rfl) (by simp) ?_
        refine AllReadyH.cons (o := ⟨none, _, _, _, _, _⟩) rfl (fun K hK => ?_) (AllReadyH.nil)
        have QB := Lib.hid (Q1.out.below B_10.out (Nat.lt_succ_self _))
        obtain ⟨p0, p1, pf0, pf1⟩ := blk2 QB.out
        go_simp
        refine hK.out _ _ ?_ (fun hHeld => ?_)
        · (try dsimp only)
          exact KSz.out _ _ _ B_10.out
        clear hK K
        (try simp only [Act.put, pq])
        refine wpAnyH_done (by kernel_rfl) ?_ _
        go_wp2
        refine bodyPost_ret (v := .agg #[.slice os3 S1.length cs3, .slice od3 D1.length cd3]) (by simp [results, Tryz.results39, go_sem, p0, p1]) rfl ?_
        exact ⟨os3, cs3, od3, cd3, rfl, ldg2 QB.out V_10.out.1, ldg2 QB.out V_10.out.2, ((FBb.out _ B_10.out).setCell (p := ⟨w.heap.size + 1, 0, none⟩) (Nat.le_succ _) _).setCell (p := ⟨w.heap.size + 1, 1, none⟩) (Nat.le_succ _) _⟩
end Go.Proofs.YtmafgdinegboeaaGreat
namespace Go.Proofs.YtmafgdinegboeaaGreat
open Go.RowKit Go.Shelf

set_option maxRecDepth 100000 in
set_option maxHeartbeats 8000000 in
theorem rmay8_any (vp vr : Value) (ts tds : List Int) (w : World) (hp : Ld w vp ts) (hr : Ld w vr tds) (lp : ts.length ≤ 1073741824) (lr : tds.length ≤ 17592186044416) :
    Calls Tryz.prog 9 #[.agg #[vp, vr]] w fun e w' => e = .returned (.bool (tnb ts tds)) ∧ Below w.heap.size w w' := by
  have B0 := Lib.hid ((Below.refl w.heap.size w).alloc (Nat.le_refl _) (.cells #[vp, vr] 26))
  have BD : Hid (Below w.heap.size w (w.alloc (.cells #[vp, vr] 26)).drew) := below_drw B0.out 1
  have KM := Lib.hid (fun (W : World) (hW : Below w.heap.size w W) => rmay_any vp ts W (hp.below hW) lp)
  have KD := Lib.hid (fun (W : World) (hW : Below w.heap.size w W) => words_any vr tds W (hr.below hW) (by omega))
  have KC := Lib.hid (fun (hm : may ts = true) (W : World) (hW : Below w.heap.size w W) => (rct_may hm ▸ rcount_any vp ts W (hp.below hW) (may_dms hm) lp : Calls Tryz.prog 46 #[vp] W fun e w' => e = .returned (.int .i64 (prod ts)) ∧ W = w'))
  obtain ⟨op, cp, rfl, _, _⟩ := hp
  obtain ⟨od, cd, rfl, _, _⟩ := hr
  obtain ⟨x0, x1, _⟩ := blk2 (show Blk (w.alloc (.cells #[.slice op ts.length cp, .slice od tds.length cd] 26)).drew w.heap.size 26 _ from Blk.new w _ _)
  cases hm : may ts with
  | false =>
    have E : Hid (tnb ts tds = false) := by unfold tnb; rw [hm]; exact Lib.hid (by simp)
    rw [hm] at KM
    clear hm KC
    go_enter Tryz.func9, Tryz.ntmps9
    go_wp2
    refine wp_region_held_drew (S := (fun W => W.cell? ⟨w.heap.size, 0, none⟩ = some (.slice op ts.length cp) ∧ W.cell? ⟨w.heap.size, 1, none⟩ = some (.slice od tds.length cd))) (by kernel_rfl) ?_ (fun hHeld => ?_)
    · exact ⟨x0, x1⟩
    have hHd := hHeld
    (refine Go.Proofs.YtmafgdinegboeaaGreat.tk (i := 0) (oi := ⟨some 3, _, _, _, _, _⟩) (v := ?v0a) rfl ?hy0a ?rest0a; (case hy0a => ((intro w hSw); (try dsimp only at hSw); go_simp; first | done | (with_reducible rfl) | (rw [b1]))))
    (try simp only [Act.put, pq])
    (refine Go.Proofs.YtmafgdinegboeaaGreat.tk (i := 1) (oi := ⟨some 4, _, _, _, _, _⟩) (v := ?v1a) rfl ?hy1a ?rest1a; (case hy1a => ((intro w hSw); (try dsimp only at hSw); go_simp; first | done | (with_reducible rfl) | (rw [b1]))))
    (try simp only [Act.put, pq])
    refine wpAnyH_ready (rs := [2]) (by kernel_rfl) (by simp) ?_
    refine AllReadyH.cons (o := ⟨some 5, _, _, _, _, _⟩) rfl (fun K hK => ?_) AllReadyH.nil
    go_simp
    (go_at_call 45; (with_reducible refine (KM.out _ BD.out).mono ?_); rintro e w' ⟨rfl, rfl⟩)
    refine hK.out _ _ ?_ (fun hHeld => ?_)
    · (try dsimp only)
      assumption
    clear hK K
    (try simp only [Act.put, pq])
    (refine Go.Proofs.YtmafgdinegboeaaGreat.tk (i := 3) (oi := ⟨some 6, _, _, _, _, _⟩) (v := ?v3a) rfl ?hy3a ?rest3a; (case hy3a => ((intro w hSw); (try dsimp only at hSw); go_simp; first | done | (with_reducible rfl) | (rw [b1]))))
    (try simp only [Act.put, pq])
    (refine Go.Proofs.YtmafgdinegboeaaGreat.ts (i := 4) (oi := ⟨some 7, _, _, _, _, _⟩) rfl ?_)
    (try simp only [Act.put, pq])
    (refine Go.Proofs.YtmafgdinegboeaaGreat.ts (i := 5) (oi := ⟨some 8, _, _, _, _, _⟩) rfl ?_)
    (try simp only [Act.put, pq])
    (refine Go.Proofs.YtmafgdinegboeaaGreat.ts (i := 6) (oi := ⟨some 9, _, _, _, _, _⟩) rfl ?_)
    (try simp only [Act.put, pq])
    (refine Go.Proofs.YtmafgdinegboeaaGreat.ts (i := 7) (oi := ⟨some 10, _, _, _, _, _⟩) rfl ?_)
    (try simp only [Act.put, pq])
    (refine Go.Proofs.YtmafgdinegboeaaGreat.ts (i := 8) (oi := ⟨some 11, _, _, _, _, _⟩) rfl ?_)
    (try simp only [Act.put, pq])
    (refine Go.Proofs.YtmafgdinegboeaaGreat.ts (i := 9) (oi := ⟨some 12, _, _, _, _, _⟩) rfl ?_)
    (try simp only [Act.put, pq])
    (refine Go.Proofs.YtmafgdinegboeaaGreat.ts (i := 10) (oi := ⟨some 13, _, _, _, _, _⟩) rfl ?_)
    (try simp only [Act.put, pq])
    (refine Go.Proofs.YtmafgdinegboeaaGreat.tk (i := 11) (oi := ⟨some 14, _, _, _, _, _⟩) (v := ?v11a) rfl ?hy11a ?rest11a; (case hy11a => ((intro w hSw); (try dsimp only at hSw); go_simp; first | done | (with_reducible rfl) | (rw [b1]))))
    (try simp only [Act.put, pq])
    (refine Go.Proofs.YtmafgdinegboeaaGreat.tk (i := 12) (oi := ⟨some 15, _, _, _, _, _⟩) (v := ?v12a) rfl ?hy12a ?rest12a; (case hy12a => ((intro w hSw); (try dsimp only at hSw); go_simp; first | done | (with_reducible rfl) | (rw [b1]))))
    (try simp only [Act.put, pq])
    (refine Go.Proofs.YtmafgdinegboeaaGreat.ts (i := 13) (oi := ⟨some 16, _, _, _, _, _⟩) rfl ?_)
    (try simp only [Act.put, pq])
    (refine Go.Proofs.YtmafgdinegboeaaGreat.ts (i := 14) (oi := ⟨some 17, _, _, _, _, _⟩) rfl ?_)
    (try simp only [Act.put, pq])
    (refine Go.Proofs.YtmafgdinegboeaaGreat.ts (i := 15) (oi := ⟨some 18, _, _, _, _, _⟩) rfl ?_)
    (try simp only [Act.put, pq])
    (refine Go.Proofs.YtmafgdinegboeaaGreat.tk (i := 16) (oi := ⟨some 19, _, _, _, _, _⟩) (v := ?v16a) rfl ?hy16a ?rest16a; (case hy16a => ((intro w hSw); (try dsimp only at hSw); go_simp; first | done | (with_reducible rfl) | (rw [b1]))))
    (try simp only [Act.put, pq])
    (refine Go.Proofs.YtmafgdinegboeaaGreat.tk (i := 17) (oi := ⟨some 2, _, _, _, _, _⟩) (v := ?v17a) rfl ?hy17a ?rest17a; (case hy17a => ((intro w hSw); (try dsimp only at hSw); go_simp; first | done | (with_reducible rfl) | (rw [b1]))))
    (try simp only [Act.put, pq])
    refine wpAnyH_done (by kernel_rfl) ?_ _
    go_wp2
    go_ret
    exact ⟨by rw [E.out]; rfl, BD.out⟩
  | true =>
    have KC2 := Lib.hid (KC.out hm)
    have E0 : Hid (tnb ts tds = (decide ((tds.length : Int) = prod ts) && wds tds)) := by unfold tnb; rw [hm]; exact Lib.hid (by simp)
    rw [hm] at KM
    clear hm KC
    generalize prod ts = n at *
    by_cases q : (tds.length : Int) = n
    · have b1 : ((tds.length : Int) == n) = true := by simpa using q
      have E : Hid (tnb ts tds = wds tds) := by rw [Hid, E0.out, decide_eq_true q, Bool.true_and]
      clear q E0
      go_enter Tryz.func9, Tryz.ntmps9
      go_wp2
      refine wp_region_held_drew (S := (fun W => W.cell? ⟨w.heap.size, 0, none⟩ = some (.slice op ts.length cp) ∧ W.cell? ⟨w.heap.size, 1, none⟩ = some (.slice od tds.length cd))) (by kernel_rfl) ?_ (fun hHeld => ?_)
      · exact ⟨x0, x1⟩
      have hHd := hHeld
      (refine Go.Proofs.YtmafgdinegboeaaGreat.tk (i := 0) (oi := ⟨some 3, _, _, _, _, _⟩) (v := ?v0b) rfl ?hy0b ?rest0b; (case hy0b => ((intro w hSw); (try dsimp only at hSw); go_simp; first | done | (with_reducible rfl) | (rw [b1]))))
      (try simp only [Act.put, pq])
      (refine Go.Proofs.YtmafgdinegboeaaGreat.tk (i := 1) (oi := ⟨some 4, _, _, _, _, _⟩) (v := ?v1b) rfl ?hy1b ?rest1b; (case hy1b => ((intro w hSw); (try dsimp only at hSw); go_simp; first | done | (with_reducible rfl) | (rw [b1]))))
      (try simp only [Act.put, pq])
      refine wpAnyH_ready (rs := [2]) (by kernel_rfl) (by simp) ?_
      refine AllReadyH.cons (o := ⟨some 5, _, _, _, _, _⟩) rfl (fun K hK => ?_) AllReadyH.nil
      go_simp
      (go_at_call 45; (with_reducible refine (KM.out _ BD.out).mono ?_); rintro e w' ⟨rfl, rfl⟩)
      refine hK.out _ _ ?_ (fun hHeld => ?_)
      · (try dsimp only)
        assumption
      clear hK K
      (try simp only [Act.put, pq])
      (refine Go.Proofs.YtmafgdinegboeaaGreat.tk (i := 3) (oi := ⟨some 6, _, _, _, _, _⟩) (v := ?v3b) rfl ?hy3b ?rest3b; (case hy3b => ((intro w hSw); (try dsimp only at hSw); go_simp; first | done | (with_reducible rfl) | (rw [b1]))))
      (try simp only [Act.put, pq])
      (refine Go.Proofs.YtmafgdinegboeaaGreat.tk (i := 4) (oi := ⟨some 7, _, _, _, _, _⟩) (v := ?v4b) rfl ?hy4b ?rest4b; (case hy4b => ((intro w hSw); (try dsimp only at hSw); go_simp; first | done | (with_reducible rfl) | (rw [b1]))))
      (try simp only [Act.put, pq])
      (refine Go.Proofs.YtmafgdinegboeaaGreat.tk (i := 5) (oi := ⟨some 8, _, _, _, _, _⟩) (v := ?v5b) rfl ?hy5b ?rest5b; (case hy5b => ((intro w hSw); (try dsimp only at hSw); go_simp; first | done | (with_reducible rfl) | (rw [b1]))))
      (try simp only [Act.put, pq])
      (refine Go.Proofs.YtmafgdinegboeaaGreat.tk (i := 6) (oi := ⟨some 9, _, _, _, _, _⟩) (v := ?v6b) rfl ?hy6b ?rest6b; (case hy6b => ((intro w hSw); (try dsimp only at hSw); go_simp; first | done | (with_reducible rfl) | (rw [b1]))))
      (try simp only [Act.put, pq])
      (refine Go.Proofs.YtmafgdinegboeaaGreat.tk (i := 7) (oi := ⟨some 10, _, _, _, _, _⟩) (v := ?v7b) rfl ?hy7b ?rest7b; (case hy7b => ((intro w hSw); (try dsimp only at hSw); go_simp; first | done | (with_reducible rfl) | (rw [b1]))))
      (try simp only [Act.put, pq])
      (refine Go.Proofs.YtmafgdinegboeaaGreat.tk (i := 8) (oi := ⟨some 11, _, _, _, _, _⟩) (v := ?v8b) rfl ?hy8b ?rest8b; (case hy8b => ((intro w hSw); (try dsimp only at hSw); go_simp; first | done | (with_reducible rfl) | (rw [b1]))))
      (try simp only [Act.put, pq])
      refine wpAnyH_ready (rs := [9]) (by kernel_rfl) (by simp) ?_
      refine AllReadyH.cons (o := ⟨some 12, _, _, _, _, _⟩) rfl (fun K hK => ?_) AllReadyH.nil
      go_simp
      (go_at_call 46; (with_reducible refine (KC2.out _ BD.out).mono ?_); rintro e w' ⟨rfl, rfl⟩)
      refine hK.out _ _ ?_ (fun hHeld => ?_)
      · (try dsimp only)
        assumption
      clear hK K
      (try simp only [Act.put, pq])
      (refine Go.Proofs.YtmafgdinegboeaaGreat.tk (i := 10) (oi := ⟨some 13, _, _, _, _, _⟩) (v := .bool true) rfl ?hy10b ?rest10b; (case hy10b => ((intro w hSw); (try dsimp only at hSw); go_simp; first | done | (with_reducible rfl) | (rw [b1]))))
      (try simp only [Act.put, pq])
      (refine Go.Proofs.YtmafgdinegboeaaGreat.tk (i := 11) (oi := ⟨some 14, _, _, _, _, _⟩) (v := ?v11b) rfl ?hy11b ?rest11b; (case hy11b => ((intro w hSw); (try dsimp only at hSw); go_simp; first | done | (with_reducible rfl) | (rw [b1]))))
      (try simp only [Act.put, pq])
      (refine Go.Proofs.YtmafgdinegboeaaGreat.tk (i := 12) (oi := ⟨some 15, _, _, _, _, _⟩) (v := ?v12b) rfl ?hy12b ?rest12b; (case hy12b => ((intro w hSw); (try dsimp only at hSw); go_simp; first | done | (with_reducible rfl) | (rw [b1]))))
      (try simp only [Act.put, pq])
      (refine Go.Proofs.YtmafgdinegboeaaGreat.tk (i := 13) (oi := ⟨some 16, _, _, _, _, _⟩) (v := ?v13b) rfl ?hy13b ?rest13b; (case hy13b => ((intro w hSw); (try dsimp only at hSw); go_simp; first | done | (with_reducible rfl) | (rw [b1]))))
      (try simp only [Act.put, pq])
      (refine Go.Proofs.YtmafgdinegboeaaGreat.tk (i := 14) (oi := ⟨some 17, _, _, _, _, _⟩) (v := ?v14b) rfl ?hy14b ?rest14b; (case hy14b => ((intro w hSw); (try dsimp only at hSw); go_simp; first | done | (with_reducible rfl) | (rw [b1]))))
      (try simp only [Act.put, pq])
      refine wpAnyH_ready (rs := [15]) (by kernel_rfl) (by simp) ?_
      refine AllReadyH.cons (o := ⟨some 18, _, _, _, _, _⟩) rfl (fun K hK => ?_) AllReadyH.nil
      go_simp
      (go_at_call 47; (with_reducible refine (KD.out _ BD.out).mono ?_); rintro e w' ⟨rfl, rfl⟩)
      refine hK.out _ _ ?_ (fun hHeld => ?_)
      · (try dsimp only)
        assumption
      clear hK K
      (try simp only [Act.put, pq])
      (refine Go.Proofs.YtmafgdinegboeaaGreat.tk (i := 16) (oi := ⟨some 19, _, _, _, _, _⟩) (v := ?v16b) rfl ?hy16b ?rest16b; (case hy16b => ((intro w hSw); (try dsimp only at hSw); go_simp; first | done | (with_reducible rfl) | (rw [b1]))))
      (try simp only [Act.put, pq])
      (refine Go.Proofs.YtmafgdinegboeaaGreat.tk (i := 17) (oi := ⟨some 2, _, _, _, _, _⟩) (v := ?v17b) rfl ?hy17b ?rest17b; (case hy17b => ((intro w hSw); (try dsimp only at hSw); go_simp; first | done | (with_reducible rfl) | (rw [b1]))))
      (try simp only [Act.put, pq])
      refine wpAnyH_done (by kernel_rfl) ?_ _
      go_wp2
      go_ret
      exact ⟨by rw [E.out]; rfl, BD.out⟩
    · have b1 : ((tds.length : Int) == n) = false := by simpa using q
      have E : Hid (tnb ts tds = false) := by rw [Hid, E0.out, decide_eq_false q, Bool.false_and]
      clear q E0
      go_enter Tryz.func9, Tryz.ntmps9
      go_wp2
      refine wp_region_held_drew (S := (fun W => W.cell? ⟨w.heap.size, 0, none⟩ = some (.slice op ts.length cp) ∧ W.cell? ⟨w.heap.size, 1, none⟩ = some (.slice od tds.length cd))) (by kernel_rfl) ?_ (fun hHeld => ?_)
      · exact ⟨x0, x1⟩
      have hHd := hHeld
      (refine Go.Proofs.YtmafgdinegboeaaGreat.tk (i := 0) (oi := ⟨some 3, _, _, _, _, _⟩) (v := ?v0c) rfl ?hy0c ?rest0c; (case hy0c => ((intro w hSw); (try dsimp only at hSw); go_simp; first | done | (with_reducible rfl) | (rw [b1]))))
      (try simp only [Act.put, pq])
      (refine Go.Proofs.YtmafgdinegboeaaGreat.tk (i := 1) (oi := ⟨some 4, _, _, _, _, _⟩) (v := ?v1c) rfl ?hy1c ?rest1c; (case hy1c => ((intro w hSw); (try dsimp only at hSw); go_simp; first | done | (with_reducible rfl) | (rw [b1]))))
      (try simp only [Act.put, pq])
      refine wpAnyH_ready (rs := [2]) (by kernel_rfl) (by simp) ?_
      refine AllReadyH.cons (o := ⟨some 5, _, _, _, _, _⟩) rfl (fun K hK => ?_) AllReadyH.nil
      go_simp
      (go_at_call 45; (with_reducible refine (KM.out _ BD.out).mono ?_); rintro e w' ⟨rfl, rfl⟩)
      refine hK.out _ _ ?_ (fun hHeld => ?_)
      · (try dsimp only)
        assumption
      clear hK K
      (try simp only [Act.put, pq])
      (refine Go.Proofs.YtmafgdinegboeaaGreat.tk (i := 3) (oi := ⟨some 6, _, _, _, _, _⟩) (v := ?v3c) rfl ?hy3c ?rest3c; (case hy3c => ((intro w hSw); (try dsimp only at hSw); go_simp; first | done | (with_reducible rfl) | (rw [b1]))))
      (try simp only [Act.put, pq])
      (refine Go.Proofs.YtmafgdinegboeaaGreat.tk (i := 4) (oi := ⟨some 7, _, _, _, _, _⟩) (v := ?v4c) rfl ?hy4c ?rest4c; (case hy4c => ((intro w hSw); (try dsimp only at hSw); go_simp; first | done | (with_reducible rfl) | (rw [b1]))))
      (try simp only [Act.put, pq])
      (refine Go.Proofs.YtmafgdinegboeaaGreat.tk (i := 5) (oi := ⟨some 8, _, _, _, _, _⟩) (v := ?v5c) rfl ?hy5c ?rest5c; (case hy5c => ((intro w hSw); (try dsimp only at hSw); go_simp; first | done | (with_reducible rfl) | (rw [b1]))))
      (try simp only [Act.put, pq])
      (refine Go.Proofs.YtmafgdinegboeaaGreat.tk (i := 6) (oi := ⟨some 9, _, _, _, _, _⟩) (v := ?v6c) rfl ?hy6c ?rest6c; (case hy6c => ((intro w hSw); (try dsimp only at hSw); go_simp; first | done | (with_reducible rfl) | (rw [b1]))))
      (try simp only [Act.put, pq])
      (refine Go.Proofs.YtmafgdinegboeaaGreat.tk (i := 7) (oi := ⟨some 10, _, _, _, _, _⟩) (v := ?v7c) rfl ?hy7c ?rest7c; (case hy7c => ((intro w hSw); (try dsimp only at hSw); go_simp; first | done | (with_reducible rfl) | (rw [b1]))))
      (try simp only [Act.put, pq])
      (refine Go.Proofs.YtmafgdinegboeaaGreat.tk (i := 8) (oi := ⟨some 11, _, _, _, _, _⟩) (v := ?v8c) rfl ?hy8c ?rest8c; (case hy8c => ((intro w hSw); (try dsimp only at hSw); go_simp; first | done | (with_reducible rfl) | (rw [b1]))))
      (try simp only [Act.put, pq])
      refine wpAnyH_ready (rs := [9]) (by kernel_rfl) (by simp) ?_
      refine AllReadyH.cons (o := ⟨some 12, _, _, _, _, _⟩) rfl (fun K hK => ?_) AllReadyH.nil
      go_simp
      (go_at_call 46; (with_reducible refine (KC2.out _ BD.out).mono ?_); rintro e w' ⟨rfl, rfl⟩)
      refine hK.out _ _ ?_ (fun hHeld => ?_)
      · (try dsimp only)
        assumption
      clear hK K
      (try simp only [Act.put, pq])
      (refine Go.Proofs.YtmafgdinegboeaaGreat.tk (i := 10) (oi := ⟨some 13, _, _, _, _, _⟩) (v := .bool false) rfl ?hy10c ?rest10c; (case hy10c => ((intro w hSw); (try dsimp only at hSw); go_simp; first | done | (with_reducible rfl) | (rw [b1]))))
      (try simp only [Act.put, pq])
      (refine Go.Proofs.YtmafgdinegboeaaGreat.tk (i := 11) (oi := ⟨some 14, _, _, _, _, _⟩) (v := ?v11c) rfl ?hy11c ?rest11c; (case hy11c => ((intro w hSw); (try dsimp only at hSw); go_simp; first | done | (with_reducible rfl) | (rw [b1]))))
      (try simp only [Act.put, pq])
      (refine Go.Proofs.YtmafgdinegboeaaGreat.tk (i := 12) (oi := ⟨some 15, _, _, _, _, _⟩) (v := ?v12c) rfl ?hy12c ?rest12c; (case hy12c => ((intro w hSw); (try dsimp only at hSw); go_simp; first | done | (with_reducible rfl) | (rw [b1]))))
      (try simp only [Act.put, pq])
      (refine Go.Proofs.YtmafgdinegboeaaGreat.ts (i := 13) (oi := ⟨some 16, _, _, _, _, _⟩) rfl ?_)
      (try simp only [Act.put, pq])
      (refine Go.Proofs.YtmafgdinegboeaaGreat.ts (i := 14) (oi := ⟨some 17, _, _, _, _, _⟩) rfl ?_)
      (try simp only [Act.put, pq])
      (refine Go.Proofs.YtmafgdinegboeaaGreat.ts (i := 15) (oi := ⟨some 18, _, _, _, _, _⟩) rfl ?_)
      (try simp only [Act.put, pq])
      (refine Go.Proofs.YtmafgdinegboeaaGreat.tk (i := 16) (oi := ⟨some 19, _, _, _, _, _⟩) (v := ?v16c) rfl ?hy16c ?rest16c; (case hy16c => ((intro w hSw); (try dsimp only at hSw); go_simp; first | done | (with_reducible rfl) | (rw [b1]))))
      (try simp only [Act.put, pq])
      (refine Go.Proofs.YtmafgdinegboeaaGreat.tk (i := 17) (oi := ⟨some 2, _, _, _, _, _⟩) (v := ?v17c) rfl ?hy17c ?rest17c; (case hy17c => ((intro w hSw); (try dsimp only at hSw); go_simp; first | done | (with_reducible rfl) | (rw [b1]))))
      (try simp only [Act.put, pq])
      refine wpAnyH_done (by kernel_rfl) ?_ _
      go_wp2
      go_ret
      exact ⟨by rw [E.out]; rfl, BD.out⟩
end Go.Proofs.YtmafgdinegboeaaGreat
