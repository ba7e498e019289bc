/-
  The reference's OverRoot: the nearest whole number to a quotient by a root.
  What is played; told tensors as lists; small slices just laid.
  Cells of lists, parts of lists, small numbers in a walk.
  A row of the references' whole numbers: its cells, and the limbs that lie apart from it.
-/
import Derived.BigQuiet
import Derived.Test.YtldchepfcgbpiaaGreatM05
import Derived.Test.YtldchepfcgbpiaaGreatM17
import Derived.Test.YtldchepfcgbpiaaGreatM18
namespace Go.Proofs.YtldchepfcgbpiaaGreat
open Go Go.RowKit Go.Shelf
attribute [local go_sem] Oper.semAt_some

theorem isr_put {W : World} {x u0 u1 u2 : Value} {p : Int} {q B : Nat} {b0 : Bool} {s1 s2 : Value} (h : IsR W x p q) (e0 : W.cell? ⟨B, 0, none⟩ = some (.bool b0)) (e1 : W.cell? ⟨B, 1, none⟩ = some s1) (e2 : W.cell? ⟨B, 2, none⟩ = some s2) (n1 : ∀ x, s1 ≠ .int .u64 x := by intro x; simp) (n2 : ∀ x, s2 ≠ .int .u64 x := by intro x; simp) : IsR (((W.setCell ⟨B, 0, none⟩ u0).setCell ⟨B, 1, none⟩ u1).setCell ⟨B, 2, none⟩ u2) x p q := by
  obtain ⟨b, o1, l1, c1, o2, l2, c2, rfl, H⟩ := h
  exact ⟨b, o1, l1, c1, o2, l2, c2, rfl, Lib.hid ⟨H.out.1, IsN.store3 H.out.2.1 e0 e1 e2 n1 n2, IsN.store3 H.out.2.2 e0 e1 e2 n1 n2⟩⟩
theorem pow_mul3 {a b n m : Nat} (h1 : a < 2 ^ n) (h2 : b < 2 ^ m) : a * b < 2 ^ (n + m) := by
  rw [Nat.pow_add]; exact Nat.mul_lt_mul'' h1 h2
theorem ibk2 {W : World} {b : Nat} {t : TypeId} {x y : Value} (h : Blk W b t #[x, y]) : W.cell? ⟨b, 0, none⟩ = some x ∧ W.cell? ⟨b, 1, none⟩ = some y ∧ W.frozen? ⟨b, 0, none⟩ = false ∧ W.frozen? ⟨b, 1, none⟩ = false := ⟨h.cell 0, h.cell 1, h.frozen 0, h.frozen 1⟩
/-- A fraction made shorter: what stays. -/
theorem red_of (m : Int) (d : Nat) (d0 : d ≠ 0) : m.tdiv (Nat.gcd m.natAbs d : Nat) * d = m * ((d / Nat.gcd m.natAbs d : Nat) : Int) ∧ d / Nat.gcd m.natAbs d ≠ 0 ∧ (0 ≤ m → 0 ≤ m.tdiv (Nat.gcd m.natAbs d : Nat)) ∧ (m.tdiv (Nat.gcd m.natAbs d : Nat)).natAbs ≤ m.natAbs ∧ d / Nat.gcd m.natAbs d ≤ d := by
  obtain ⟨g, hg⟩ : ∃ g, g = Nat.gcd m.natAbs d := ⟨_, rfl⟩
  have g0 : 0 < g := by rw [hg]; exact Nat.gcd_pos_of_pos_right _ (by omega)
  obtain ⟨m', hm⟩ : (g : Int) ∣ m := Int.ofNat_dvd_left.2 (by rw [hg]; exact Nat.gcd_dvd_left _ _)
  obtain ⟨d', hd⟩ : g ∣ d := by rw [hg]; exact Nat.gcd_dvd_right _ _
  rw [← hg]
  have e1 : m.tdiv (g : Int) = m' := by rw [hm]; exact Int.mul_tdiv_cancel_left _ (by omega)
  have e2 : d / g = d' := by rw [hd]; exact Nat.mul_div_cancel_left _ g0
  rw [e1, e2]
  refine ⟨?_, ?_, ?_, ?_, ?_⟩
  · rw [hm, hd, Int.natCast_mul, Int.mul_assoc, Int.mul_left_comm]
  · intro e; rw [e, Nat.mul_zero] at hd; omega
  · intro h
    rw [hm] at h
    refine Int.not_lt.1 fun c => ?_
    have := Int.mul_neg_of_pos_of_neg (show (0 : Int) < g by omega) c
    omega
  · rw [hm, Int.natAbs_mul, Int.natAbs_natCast]
    exact Nat.le_mul_of_pos_left _ g0
  · rw [hd]; exact Nat.le_mul_of_pos_left _ g0
set_option maxRecDepth 100000 in
set_option maxHeartbeats 8000000 in
theorem overroot_any (x y : Value) (p r u : Int) (q s : Nat) (w : World) (h : IsR w x p q) (k : IsR w y r s) (r0 : 0 < r) (q0 : q ≠ 0) (gp : p.natAbs < 2 ^ 200) (gr : r.natAbs < 2 ^ 200) (gq : q < 2 ^ 200) (gs : s < 2 ^ 200)
    (hu : ∀ (P : Int) (Q : Nat) (t : Int), Q ≠ 0 → 0 ≤ P → P * (q * q * r) = Q * (p * p * s) → Rt (P / (Q : Int)) t → rnr t P Q = u) : Calls Tryz.prog 36 #[x, y] w (SomeI w (if p < 0 then -u else u)) := by
  obtain ⟨P1, hP1⟩ : ∃ P1, P1 = (p * p).tdiv (Nat.gcd (p * p).natAbs (q * q) : Nat) := ⟨_, rfl⟩
  obtain ⟨Q1, hQ1⟩ : ∃ Q1, Q1 = q * q / Nat.gcd (p * p).natAbs (q * q) := ⟨_, rfl⟩
  obtain ⟨a1, a2, a3, a4, a5⟩ := red_of (p * p) (q * q) (Nat.mul_ne_zero q0 q0)
  rw [← hP1, ← hQ1] at a1
  rw [← hQ1] at a2 a5
  rw [← hP1] at a3 a4
  have pp := nab_mul gp gp
  have qq := pow_mul3 gq gq
  have gP1 : P1.natAbs < 2 ^ (200 + 200) := Nat.lt_of_le_of_lt a4 pp
  have gQ1 : Q1 < 2 ^ (200 + 200) := Nat.lt_of_le_of_lt a5 qq
  have e0 : Q1 * r.natAbs ≠ 0 := Nat.mul_ne_zero a2 (by omega)
  obtain ⟨P2, hP2⟩ : ∃ P2, P2 = (P1 * s).tdiv (Nat.gcd (P1 * s).natAbs (Q1 * r.natAbs) : Nat) := ⟨_, rfl⟩
  obtain ⟨Q2, hQ2⟩ : ∃ Q2, Q2 = Q1 * r.natAbs / Nat.gcd (P1 * s).natAbs (Q1 * r.natAbs) := ⟨_, rfl⟩
  obtain ⟨b1, b2, b3, b4, b5⟩ := red_of (P1 * s) (Q1 * r.natAbs) e0
  rw [← hP2, ← hQ2] at b1
  rw [← hQ2] at b2 b5
  rw [← hP2] at b3 b4
  have ps := nab_mul gP1 (show ((s : Nat) : Int).natAbs < 2 ^ 200 by rw [Int.natAbs_natCast]; exact gs)
  have qr := pow_mul3 gQ1 gr
  have p0 : 0 ≤ P2 := b3 (Int.mul_nonneg (a3 (by rcases Int.le_total 0 p with g | g; exact Int.mul_nonneg g g; exact Int.mul_nonneg_of_nonpos_of_nonpos g g)) (by omega))
  have lP2 : P2.natAbs < LOW := low_of (Nat.lt_of_le_of_lt b4 ps) (by decide)
  have lQ2 : Q2 < LOW := low_of (Nat.lt_of_le_of_lt b5 qr) (by decide)
  have hrt : P2 * (q * q * r) = Q2 * (p * p * s) := by
    have er : ((r.natAbs : Nat) : Int) = r := by omega
    rw [Int.natCast_mul, er] at b1
    have z1 : (0 : Int) < Q1 := by omega
    refine Int.eq_of_mul_eq_mul_left (a := (Q1 : Int)) (by omega) ?_
    have c1 : (Q1 : Int) * (P2 * (q * q * r)) = P2 * (Q1 * r) * ((q * q : Nat) : Int) := by push_cast; ac_rfl
    have c2 : (Q1 : Int) * (Q2 * (p * p * s)) = p * p * Q1 * (s * Q2) := by ac_rfl
    rw [c1, b1, c2, ← a1]
    push_cast
    ac_rfl
  obtain ⟨t, ht⟩ := rt_ex (show 0 ≤ P2 / (Q2 : Int) from Int.ediv_nonneg p0 (by omega))
  have hut := hu P2 Q2 t b2 p0 hrt ht
  have RN : Hid (∀ (W : World) (z : Value), IsR W z P2 Q2 → Calls Tryz.prog 58 #[z] W (SomeI W u)) := Lib.hid (fun W z hz => rootnear_all z P2 t u Q2 W hz p0 b2 lP2 lQ2 ht hut.symm)
  have TM0 : Hid (∀ (W : World), Below w.heap.size w W → Calls Tryz.prog 57 #[x, x] W (SomeR W P1 Q1)) := Lib.hid (fun W hW => rtimes_any x x p p (p * p) q q (q * q) P1 Q1 W (h.below hW) (h.below hW) (big_of gp (by decide)) (big_of gp (by decide)) (big_of gq (by decide)) (big_of gq (by decide)) rfl rfl (mid_of pp (by decide)) (mid_of qq (by decide)) (Nat.mul_ne_zero q0 q0) hP1 hQ1)
  have OV0 : Hid (∀ (W : World) (z : Value), Below w.heap.size w W → IsR W z P1 Q1 → Calls Tryz.prog 56 #[z, y] W (SomeR W P2 Q2)) := Lib.hid (fun W z hW hz => rover_any z y P1 r (P1 * s) Q1 s (Q1 * r.natAbs) P2 Q2 W hz (k.below hW) r0 (big_of gP1 (by decide)) (big_of gr (by decide)) (big_of gQ1 (by decide)) (big_of gs (by decide)) rfl rfl (mid_of ps (by decide)) (mid_of qr (by decide)) e0 hP2 hQ2)
  have SG0 : Hid (∀ (W : World), Below w.heap.size w W → Calls Tryz.prog 59 #[x] W fun e w' => e = .returned (.int .i64 (sg p 0)) ∧ Below W.heap.size W w') := Lib.hid (fun W hW => rsign_any x p q W (h.below hW))
  clear a1 a2 a3 a4 a5 b1 b2 b3 b4 b5 pp qq gP1 gQ1 e0 ps qr p0 lP2 lQ2 hrt ht hut hu hP1 hQ1 hP2 hQ2 gp gr gq gs r0 q0
  obtain ⟨U, hU⟩ : ∃ U, U = if p < 0 then -u else u := ⟨_, rfl⟩
  rw [← hU]
  have HU := Lib.hid hU
  clear hU
  obtain ⟨ba, oa1, la1, ca1, oa2, la2, ca2, rfl, Ha⟩ := h
  obtain ⟨bc, od1, ld1, cd1, od2, ld2, cd2, rfl, Hd⟩ := k
  obtain ⟨FR, hFR⟩ : ∃ FR : World → Prop, FR = fun W => Below w.heap.size w W ∧ Blk W w.heap.size 76 #[.bool ba, .slice oa1 la1 ca1, .slice oa2 la2 ca2] ∧ Blk W (w.heap.size + 1) 76 #[.bool bc, .slice od1 ld1 cd1, .slice od2 ld2 cd2] ∧ Blk W (w.heap.size + 1 + 1) 71 #[.bool false, .slice none 0 0] := ⟨_, rfl⟩
  have FRb : Hid (∀ W, FR W → Below w.heap.size w W) := Lib.hid (fun W h => by rw [hFR] at h; exact h.1)
  have FRn : Hid (∀ W W', FR W → Below W.heap.size W W' → FR W') := Lib.hid (fun W W' h hb => by rw [hFR] at h ⊢; exact ⟨h.1.trans (hb.mono h.1.size), h.2.1.below hb h.2.1.lt, h.2.2.1.below hb h.2.2.1.lt, h.2.2.2.below hb h.2.2.2.lt⟩)
  have FRl : Hid (∀ W, FR W → w.heap.size + 2 < W.heap.size) := Lib.hid (fun W h => by rw [hFR] at h; exact h.2.2.2.lt)
  have FRs : Hid (∀ (W : World) (B : Nat), w.heap.size + 2 < B → ∀ (i : Nat) (v : Value), FR W → FR (W.setCell ⟨B, i, none⟩ v)) := Lib.hid (fun W B hB i v h => by rw [hFR] at h ⊢; exact ⟨h.1.setCell (p := ⟨B, i, none⟩) (by show w.heap.size ≤ B; omega) _, h.2.1.far (p := ⟨B, i, none⟩) (by show ¬ w.heap.size = B; omega) _, h.2.2.1.far (p := ⟨B, i, none⟩) (by show ¬ w.heap.size + 1 = B; omega) _, h.2.2.2.far (p := ⟨B, i, none⟩) (by show ¬ w.heap.size + 1 + 1 = B; omega) _⟩)
  have FRr : Hid (∀ W, FR W → Blk W (w.heap.size + 1 + 1) 71 #[.bool false, .slice none 0 0]) := Lib.hid (fun W h => by rw [hFR] at h; exact h.2.2.2)
  have KS : Hid (∀ V, FR V → V.cell? ⟨w.heap.size, 0, none⟩ = some (.bool ba) ∧ V.cell? ⟨w.heap.size, 1, none⟩ = some (.slice oa1 la1 ca1) ∧ V.cell? ⟨w.heap.size, 2, none⟩ = some (.slice oa2 la2 ca2) ∧ V.cell? ⟨w.heap.size + 1, 0, none⟩ = some (.bool bc) ∧ V.cell? ⟨w.heap.size + 1, 1, none⟩ = some (.slice od1 ld1 cd1) ∧ V.cell? ⟨w.heap.size + 1, 2, none⟩ = some (.slice od2 ld2 cd2)) := Lib.hid (fun V h => by rw [hFR] at h; exact ⟨h.2.1.cell 0, h.2.1.cell 1, h.2.1.cell 2, h.2.2.1.cell 0, h.2.2.1.cell 1, h.2.2.1.cell 2⟩)
  have TM : Hid (∀ (W : World), FR W → _) := Lib.hid (fun W hW => TM0.out W (FRb.out _ hW))
  have OV : Hid (∀ (W : World) (z : Value), FR W → IsR W z P1 Q1 → _) := Lib.hid (fun W z hW hz => OV0.out W z (FRb.out _ hW) hz)
  have SG : Hid (∀ (W : World), FR W → _) := Lib.hid (fun W hW => SG0.out W (FRb.out _ hW))
  have F3 : Hid (FR (((w.alloc (.cells #[.bool ba, .slice oa1 la1 ca1, .slice oa2 la2 ca2] 76)).alloc (.cells #[.bool bc, .slice od1 ld1 cd1, .slice od2 ld2 cd2] 76)).alloc (.cells #[.bool false, .slice none 0 0] 71))) := Lib.hid (by
    rw [hFR]
    refine ⟨(((Below.refl _ _).alloc (Nat.le_refl _) _).alloc (by simp) _).alloc (by simp; omega) _, ((Blk.new w _ _).alloc _).alloc _, ?_, ?_⟩
    · have q := Blk.new (w.alloc (.cells #[.bool ba, .slice oa1 la1 ca1, .slice oa2 la2 ca2] 76)) 76 #[.bool bc, .slice od1 ld1 cd1, .slice od2 ld2 cd2]
      rw [World.size_alloc] at q
      exact q.alloc _
    · have q := Blk.new ((w.alloc (.cells #[.bool ba, .slice oa1 la1 ca1, .slice oa2 la2 ca2] 76)).alloc (.cells #[.bool bc, .slice od1 ld1 cd1, .slice od2 ld2 cd2] 76)) 71 #[.bool false, .slice none 0 0]
      rw [World.size_alloc, World.size_alloc] at q
      exact q)
  clear hFR TM0 OV0 SG0
  go_enter Tryz.func36, Tryz.ntmps36
  go_upto_region 1 with fail
  obtain ⟨w3, hw3⟩ : ∃ v, v = ((w.alloc (.cells #[.bool ba, .slice oa1 la1 ca1, .slice oa2 la2 ca2] 76)).alloc (.cells #[.bool bc, .slice od1 ld1 cd1, .slice od2 ld2 cd2] 76)).alloc (.cells #[.bool false, .slice none 0 0] 71) := ⟨_, rfl⟩
  rw [← hw3] at F3 ⊢
  clear hw3
  go_cut [5] (fun s5 wx => ∃ (T5 : Nat) (b3 : Bool) (o3 : Option Addr) (l3 c3 : Nat) (o4 : Option Addr) (l4 c4 : Nat), s5 = .pointer (some ⟨T5, 0, none⟩) ∧ Hid (Blk wx T5 76 #[.bool b3, .slice o3 l3 c3, .slice o4 l4 c4]) ∧ Hid (IsR wx (Rv b3 (.slice o3 l3 c3) (.slice o4 l4 c4)) P2 Q2) ∧ Hid (FR wx))
  case first =>
    as_aux_lemma =>
    have B_0 : Hid (FR w3.drew) := Lib.hid (FRn.out _ _ F3.out (below_drw (Below.refl _ _) 1))
    refine wp_region_held_drew (S := fun V => V.cell? ⟨w.heap.size, 0, none⟩ = some (.bool ba) ∧ V.cell? ⟨w.heap.size, 1, none⟩ = some (.slice oa1 la1 ca1) ∧ V.cell? ⟨w.heap.size, 2, none⟩ = some (.slice oa2 la2 ca2) ∧ V.cell? ⟨w.heap.size + 1, 0, none⟩ = some (.bool bc) ∧ V.cell? ⟨w.heap.size + 1, 1, none⟩ = some (.slice od1 ld1 cd1) ∧ V.cell? ⟨w.heap.size + 1, 2, none⟩ = some (.slice od2 ld2 cd2)) (by kernel_rfl) ?_ (fun hHeld => ?_)
    · exact KS.out _ B_0.out
    have hHd := hHeld
    generalize w3.drew = w_0 at *
    (refine wpAnyH_take (i := 0) (oi := ⟨some 7, _, _, _, _, _⟩) (v := ?v0_a1) rfl (by kernel_rfl) (by kernel_rfl) (by kernel_rfl) (fun _ _ _ h => h) (Or.inl ⟨by rfl, ?hy0_a1⟩) (by assumption) ?rest0_a1; (case hy0_a1 => ((intro w hSw); (try dsimp only at hSw); go_simp; first | done | (with_reducible rfl))))
    (try simp only [Act.put, List.setIfInBounds_toArray, List.set_cons_zero, List.set_cons_succ])
    (refine wpAnyH_take (i := 1) (oi := ⟨some 8, _, _, _, _, _⟩) (v := ?v1_a2) rfl (by kernel_rfl) (by kernel_rfl) (by kernel_rfl) (fun _ _ _ h => h) (Or.inl ⟨by rfl, ?hy1_a2⟩) (by assumption) ?rest1_a2; (case hy1_a2 => ((intro w hSw); (try dsimp only at hSw); go_simp; first | done | (with_reducible rfl))))
    (try simp only [Act.put, List.setIfInBounds_toArray, List.set_cons_zero, List.set_cons_succ])
    (refine wpAnyH_take (i := 3) (oi := ⟨some 10, _, _, _, _, _⟩) (v := ?v3_a3) rfl (by kernel_rfl) (by kernel_rfl) (by kernel_rfl) (fun _ _ _ h => h) (Or.inl ⟨by rfl, ?hy3_a3⟩) (by assumption) ?rest3_a3; (case hy3_a3 => ((intro w hSw); (try dsimp only at hSw); go_simp; first | done | (with_reducible rfl))))
    (try simp only [Act.put, List.setIfInBounds_toArray, List.set_cons_zero, List.set_cons_succ])
    refine wpAnyH_ready (rs := [2, 5]) (by kernel_rfl) (by simp) ?_
    refine AllReadyH.cons (o := ⟨some 9, _, _, _, _, _⟩) rfl (fun K hK => ?_) (AllReadyH.cons (o := ⟨some 5, _, _, _, _, _⟩) rfl (fun K hK => ?_) (AllReadyH.nil))
    · go_simp
      (go_at_call 57; (with_reducible refine (TM.out _ B_0.out).mono ?_); rintro e w_1 ⟨b1, o1, l1, c1, o2, l2, c2, rfl, hv, hb⟩; have B_1 := Lib.hid (FRn.out _ _ B_0.out hb); have M_1 := Lib.hid (IsR.mk hv); clear hb hv)
      refine hK.out _ _ ?_ (fun hHeld => ?_)
      · (try dsimp only)
        exact KS.out _ B_1.out
      clear hK K
      (try simp only [Act.put, List.setIfInBounds_toArray, List.set_cons_zero, List.set_cons_succ])
      refine wpAnyH_ready (rs := [4, 5]) (by kernel_rfl) (by simp) ?_
      refine AllReadyH.cons (o := ⟨some 11, _, _, _, _, _⟩) rfl (fun K hK => ?_) (AllReadyH.cons (o := ⟨some 5, _, _, _, _, _⟩) rfl (fun K hK => ?_) (AllReadyH.nil))
      · go_simp
        (go_at_call 56; (with_reducible refine (OV.out _ _ B_1.out M_1.out).mono ?_); rintro e w_2 ⟨b3, o3, l3, c3, o4, l4, c4, rfl, hv, hb⟩; have B_2 := Lib.hid (FRn.out _ _ B_1.out hb); have O_2 := Lib.hid (IsR.mk hv); clear hb hv)
        refine hK.out _ _ ?_ (fun hHeld => ?_)
        · (try dsimp only)
          exact KS.out _ B_2.out
        clear hK K
        (try simp only [Act.put, List.setIfInBounds_toArray, List.set_cons_zero, List.set_cons_succ])
        refine wpAnyH_ready (rs := [5]) (by kernel_rfl) (by simp) ?_
        refine AllReadyH.cons (o := ⟨some 5, _, _, _, _, _⟩) rfl (fun K hK => ?_) (AllReadyH.nil)
        go_simp
        have Z_3 := Lib.hid (Blk.new w_2 76 #[.bool false, .slice none 0 0, .slice none 0 0])
        have B_3 := Lib.hid (FRn.out _ _ B_2.out (al_below0 (.cells #[.bool false, .slice none 0 0, .slice none 0 0] 76)))
        have T_3 := Lib.hid (FRl.out _ B_2.out)
        have M_3 := Lib.hid (M_1.out.below (al_below0 (.cells #[.bool false, .slice none 0 0, .slice none 0 0] 76)))
        have O_3 := Lib.hid (O_2.out.below (al_below0 (.cells #[.bool false, .slice none 0 0, .slice none 0 0] 76)))
        refine hK.out _ _ ?_ (fun hHeld => ?_)
        · (try dsimp only)
          exact KS.out _ B_3.out
        clear hK K
        generalize w_2.alloc (.cells #[.bool false, .slice none 0 0, .slice none 0 0] 76) = w_3 at *
        (try simp only [Act.put, List.setIfInBounds_toArray, List.set_cons_zero, List.set_cons_succ])
        refine wpAnyH_ready (rs := [6]) (by kernel_rfl) (by simp) ?_
        refine AllReadyH.cons (o := ⟨none, _, _, _, _, _⟩) rfl (fun K hK => ?_) (AllReadyH.nil)
        have c0 := Z_3.out.cell 0
        have c1' := Z_3.out.cell 1
        have c2' := Z_3.out.cell 2
        have f0 := Z_3.out.frozen 0
        have f1 := Z_3.out.frozen 1
        have f2 := Z_3.out.frozen 2
        have ZF := Lib.hid (((Z_3.out.set_ 0 (.bool b3)).set_ 1 (.slice o3 l3 c3)).set_ 2 (.slice o4 l4 c4))
        have BF := Lib.hid (FRs.out _ _ T_3.out 2 (.slice o4 l4 c4) (FRs.out _ _ T_3.out 1 (.slice o3 l3 c3) (FRs.out _ _ T_3.out 0 (.bool b3) B_3.out)))
        have OF := Lib.hid (isr_put O_3.out c0 c1' c2' : IsR (((w_3.setCell ⟨w_2.heap.size, 0, none⟩ (.bool b3)).setCell ⟨w_2.heap.size, 1, none⟩ (.slice o3 l3 c3)).setCell ⟨w_2.heap.size, 2, none⟩ (.slice o4 l4 c4)) _ P2 Q2)
        (try unfold Rv)
        go_simp
        refine hK.out _ _ ?_ (fun hHeld => ?_)
        · (try dsimp only)
          exact KS.out _ BF.out
        clear hK K
        generalize ((w_3.setCell ⟨w_2.heap.size, 0, none⟩ (.bool b3)).setCell ⟨w_2.heap.size, 1, none⟩ (.slice o3 l3 c3)).setCell ⟨w_2.heap.size, 2, none⟩ (.slice o4 l4 c4) = w_9 at *
        (try simp only [Act.put, List.setIfInBounds_toArray, List.set_cons_zero, List.set_cons_succ])
        refine wpAnyH_done (by kernel_rfl) ?_ _
        (try clear c0 c1' c2' f0 f1 f2)
        go_wp2
        go_meet
        exact ⟨_, b3, o3, l3, c3, o4, l4, c4, rfl, ZF, OF, BF⟩
      · go_simp
        have Z_4 := Lib.hid (Blk.new w_1 76 #[.bool false, .slice none 0 0, .slice none 0 0])
        have B_4 := Lib.hid (FRn.out _ _ B_1.out (al_below0 (.cells #[.bool false, .slice none 0 0, .slice none 0 0] 76)))
        have T_4 := Lib.hid (FRl.out _ B_1.out)
        have M_4 := Lib.hid (M_1.out.below (al_below0 (.cells #[.bool false, .slice none 0 0, .slice none 0 0] 76)))
        refine hK.out _ _ ?_ (fun hHeld => ?_)
        · (try dsimp only)
          exact KS.out _ B_4.out
        clear hK K
        generalize w_1.alloc (.cells #[.bool false, .slice none 0 0, .slice none 0 0] 76) = w_4 at *
        (try simp only [Act.put, List.setIfInBounds_toArray, List.set_cons_zero, List.set_cons_succ])
        refine wpAnyH_ready (rs := [4]) (by kernel_rfl) (by simp) ?_
        refine AllReadyH.cons (o := ⟨some 11, _, _, _, _, _⟩) rfl (fun K hK => ?_) (AllReadyH.nil)
        go_simp
        (go_at_call 56; (with_reducible refine (OV.out _ _ B_4.out M_4.out).mono ?_); rintro e w_5 ⟨b3, o3, l3, c3, o4, l4, c4, rfl, hv, hb⟩; have B_5 := Lib.hid (FRn.out _ _ B_4.out hb); have O_5 := Lib.hid (IsR.mk hv); have Z_5 := Lib.hid (Z_4.out.below hb Z_4.out.lt); clear hb hv)
        refine hK.out _ _ ?_ (fun hHeld => ?_)
        · (try dsimp only)
          exact KS.out _ B_5.out
        clear hK K
        (try simp only [Act.put, List.setIfInBounds_toArray, List.set_cons_zero, List.set_cons_succ])
        refine wpAnyH_ready (rs := [6]) (by kernel_rfl) (by simp) ?_
        refine AllReadyH.cons (o := ⟨none, _, _, _, _, _⟩) rfl (fun K hK => ?_) (AllReadyH.nil)
        have c0 := Z_5.out.cell 0
        have c1' := Z_5.out.cell 1
        have c2' := Z_5.out.cell 2
        have f0 := Z_5.out.frozen 0
        have f1 := Z_5.out.frozen 1
        have f2 := Z_5.out.frozen 2
        have ZF := Lib.hid (((Z_5.out.set_ 0 (.bool b3)).set_ 1 (.slice o3 l3 c3)).set_ 2 (.slice o4 l4 c4))
        have BF := Lib.hid (FRs.out _ _ T_4.out 2 (.slice o4 l4 c4) (FRs.out _ _ T_4.out 1 (.slice o3 l3 c3) (FRs.out _ _ T_4.out 0 (.bool b3) B_5.out)))
        have OF := Lib.hid (isr_put O_5.out c0 c1' c2' : IsR (((w_5.setCell ⟨w_1.heap.size, 0, none⟩ (.bool b3)).setCell ⟨w_1.heap.size, 1, none⟩ (.slice o3 l3 c3)).setCell ⟨w_1.heap.size, 2, none⟩ (.slice o4 l4 c4)) _ P2 Q2)
        (try unfold Rv)
        go_simp
        refine hK.out _ _ ?_ (fun hHeld => ?_)
        · (try dsimp only)
          exact KS.out _ BF.out
        clear hK K
        generalize ((w_5.setCell ⟨w_1.heap.size, 0, none⟩ (.bool b3)).setCell ⟨w_1.heap.size, 1, none⟩ (.slice o3 l3 c3)).setCell ⟨w_1.heap.size, 2, none⟩ (.slice o4 l4 c4) = w_9 at *
        (try simp only [Act.put, List.setIfInBounds_toArray, List.set_cons_zero, List.set_cons_succ])
        refine wpAnyH_done (by kernel_rfl) ?_ _
        (try clear c0 c1' c2' f0 f1 f2)
        go_wp2
        go_meet
        exact ⟨_, b3, o3, l3, c3, o4, l4, c4, rfl, ZF, OF, BF⟩
    · go_simp
      have Z_6 := Lib.hid (Blk.new w_0 76 #[.bool false, .slice none 0 0, .slice none 0 0])
      have B_6 := Lib.hid (FRn.out _ _ B_0.out (al_below0 (.cells #[.bool false, .slice none 0 0, .slice none 0 0] 76)))
      have T_6 := Lib.hid (FRl.out _ B_0.out)
      refine hK.out _ _ ?_ (fun hHeld => ?_)
      · (try dsimp only)
        exact KS.out _ B_6.out
      clear hK K
      generalize w_0.alloc (.cells #[.bool false, .slice none 0 0, .slice none 0 0] 76) = w_6 at *
      (try simp only [Act.put, List.setIfInBounds_toArray, List.set_cons_zero, List.set_cons_succ])
      refine wpAnyH_ready (rs := [2]) (by kernel_rfl) (by simp) ?_
      refine AllReadyH.cons (o := ⟨some 9, _, _, _, _, _⟩) rfl (fun K hK => ?_) (AllReadyH.nil)
      go_simp
      (go_at_call 57; (with_reducible refine (TM.out _ B_6.out).mono ?_); rintro e w_7 ⟨b1, o1, l1, c1, o2, l2, c2, rfl, hv, hb⟩; have B_7 := Lib.hid (FRn.out _ _ B_6.out hb); have M_7 := Lib.hid (IsR.mk hv); have Z_7 := Lib.hid (Z_6.out.below hb Z_6.out.lt); clear hb hv)
      refine hK.out _ _ ?_ (fun hHeld => ?_)
      · (try dsimp only)
        exact KS.out _ B_7.out
      clear hK K
      (try simp only [Act.put, List.setIfInBounds_toArray, List.set_cons_zero, List.set_cons_succ])
      refine wpAnyH_ready (rs := [4]) (by kernel_rfl) (by simp) ?_
      refine AllReadyH.cons (o := ⟨some 11, _, _, _, _, _⟩) rfl (fun K hK => ?_) (AllReadyH.nil)
      go_simp
      (go_at_call 56; (with_reducible refine (OV.out _ _ B_7.out M_7.out).mono ?_); rintro e w_8 ⟨b3, o3, l3, c3, o4, l4, c4, rfl, hv, hb⟩; have B_8 := Lib.hid (FRn.out _ _ B_7.out hb); have O_8 := Lib.hid (IsR.mk hv); have Z_8 := Lib.hid (Z_7.out.below hb Z_7.out.lt); clear hb hv)
      refine hK.out _ _ ?_ (fun hHeld => ?_)
      · (try dsimp only)
        exact KS.out _ B_8.out
      clear hK K
      (try simp only [Act.put, List.setIfInBounds_toArray, List.set_cons_zero, List.set_cons_succ])
      refine wpAnyH_ready (rs := [6]) (by kernel_rfl) (by simp) ?_
      refine AllReadyH.cons (o := ⟨none, _, _, _, _, _⟩) rfl (fun K hK => ?_) (AllReadyH.nil)
      have c0 := Z_8.out.cell 0
      have c1' := Z_8.out.cell 1
      have c2' := Z_8.out.cell 2
      have f0 := Z_8.out.frozen 0
      have f1 := Z_8.out.frozen 1
      have f2 := Z_8.out.frozen 2
      have ZF := Lib.hid (((Z_8.out.set_ 0 (.bool b3)).set_ 1 (.slice o3 l3 c3)).set_ 2 (.slice o4 l4 c4))
      have BF := Lib.hid (FRs.out _ _ T_6.out 2 (.slice o4 l4 c4) (FRs.out _ _ T_6.out 1 (.slice o3 l3 c3) (FRs.out _ _ T_6.out 0 (.bool b3) B_8.out)))
      have OF := Lib.hid (isr_put O_8.out c0 c1' c2' : IsR (((w_8.setCell ⟨w_0.heap.size, 0, none⟩ (.bool b3)).setCell ⟨w_0.heap.size, 1, none⟩ (.slice o3 l3 c3)).setCell ⟨w_0.heap.size, 2, none⟩ (.slice o4 l4 c4)) _ P2 Q2)
      (try unfold Rv)
      go_simp
      refine hK.out _ _ ?_ (fun hHeld => ?_)
      · (try dsimp only)
        exact KS.out _ BF.out
      clear hK K
      generalize ((w_8.setCell ⟨w_0.heap.size, 0, none⟩ (.bool b3)).setCell ⟨w_0.heap.size, 1, none⟩ (.slice o3 l3 c3)).setCell ⟨w_0.heap.size, 2, none⟩ (.slice o4 l4 c4) = w_9 at *
      (try simp only [Act.put, List.setIfInBounds_toArray, List.set_cons_zero, List.set_cons_succ])
      refine wpAnyH_done (by kernel_rfl) ?_ _
      (try clear c0 c1' c2' f0 f1 f2)
      go_wp2
      go_meet
      exact ⟨_, b3, o3, l3, c3, o4, l4, c4, rfl, ZF, OF, BF⟩
  case rest =>
    as_aux_lemma =>
    obtain ⟨T5, b3, o3, l3, c3, o4, l4, c4, rfl, ZG, OG, BG⟩ := hcut
    obtain ⟨w4, hw4⟩ : ∃ v, v = wc := ⟨_, rfl⟩
    rw [← hw4] at ZG OG BG ⊢
    clear hw4
    have z0 := ZG.out.cell 0
    have z1 := ZG.out.cell 1
    have z2 := ZG.out.cell 2
    go_upto_region 3 with (go_at_call 58; (with_reducible refine (RN.out _ _ OG.out).mono ?_); rintro e w5 ⟨v5, rfl, hI, hb⟩; obtain ⟨b6, o6, l6, c6, rfl, H0⟩ := hI.open; have B5 := Lib.hid (FRn.out _ _ BG.out hb); have I5 := Lib.hid (IsI.mk H0.out.1 H0.out.2.1); clear hb hI H0)
    clear z0 z1 z2
    obtain ⟨w6, hw6⟩ : ∃ v, v = w5.alloc (.cells #[.bool b6, .slice o6 l6 c6] 71) := ⟨_, rfl⟩
    obtain ⟨T6, hT6⟩ : ∃ T, T = w5.heap.size := ⟨_, rfl⟩
    rw [← hw6, ← hT6]
    have Z6 : Hid (Blk w6 T6 71 #[.bool b6, .slice o6 l6 c6]) := Lib.hid (by rw [hw6, hT6]; exact Blk.new _ _ _)
    have I6 : Hid (IsI w6 (Iv b6 (.slice o6 l6 c6)) u) := Lib.hid (by rw [hw6]; exact I5.out.below (al_below0 _))
    have B6 : Hid (FR w6) := Lib.hid (by rw [hw6]; exact FRn.out _ _ B5.out (al_below0 _))
    clear hw6 hT6 I5 B5 ZG OG BG
    obtain ⟨x0, x1, x2, _, _, _⟩ := KS.out _ B6.out
    by_cases hp : p < 0
    · have s1 : sg p 0 = -1 := sg_lt hp
      rw [s1] at SG
      have HU2 : Hid (U = -u) := Lib.hid (by rw [HU.out, if_pos hp])
      clear s1 hp
      go_upto_region 4 with (go_at_call 59; (with_reducible refine (SG.out _ B6.out).mono ?_); rintro e w7 ⟨rfl, hb⟩; have B7 := Lib.hid (FRn.out _ _ B6.out hb); have Z7 := Lib.hid (Z6.out.below hb Z6.out.lt); have I7 := Lib.hid (I6.out.below hb); clear hb)
      clear x0 x1 x2
      have z0 := Z7.out.cell 0
      have z1 := Z7.out.cell 1
      have KN := Lib.hid (ineg_any _ u w7 I7.out)
      go_wp2_with (go_at_call 60; (with_reducible refine KN.out.mono ?_); rintro e w8 ⟨v8, rfl, hI, hb⟩; obtain ⟨b8, o8, l8, c8, rfl, H0⟩ := hI.open; have B8 := Lib.hid (FRn.out _ _ B7.out hb); have I8 := Lib.hid (IsI.mk H0.out.1 H0.out.2.1); obtain ⟨r0, r1, f0, f1⟩ := ibk2 (FRr.out _ B8.out); clear hb hI H0)
      have q := ((FRr.out _ B8.out).set_ 0 (.bool b8)).set_ 1 (.slice o8 l8 c8)
      rw [HU2.out]
      refine bodyPost_ret (v := Iv b8 (.slice o8 l8 c8)) (by simp [results, Tryz.results36, go_sem, q.cell 0, q.cell 1]) rfl ⟨_, rfl, I8.out.put r0 (by intro x; simp) r1 (by intro x; simp), ?_⟩
      exact ((FRb.out _ B8.out).setCell (p := ⟨w.heap.size + 1 + 1, 0, none⟩) (by show w.heap.size ≤ w.heap.size + 1 + 1; omega) _).setCell (p := ⟨w.heap.size + 1 + 1, 1, none⟩) (by show w.heap.size ≤ w.heap.size + 1 + 1; omega) _
    · obtain ⟨s1, hs1⟩ : ∃ s, s = sg p 0 := ⟨_, rfl⟩
      have hs0 : ¬ s1 < 0 := by
        rw [hs1]
        rcases Int.lt_or_eq_of_le (Int.not_lt.1 hp) with g | g
        · rw [sg_gt g]; decide
        · rw [← g, sg_eq]; decide
      rw [← hs1] at SG
      have HU2 : Hid (U = u) := Lib.hid (by rw [HU.out, if_neg hp])
      clear hs1 hp
      go_wp2_with (go_at_call 59; (with_reducible refine (SG.out _ B6.out).mono ?_); rintro e w7 ⟨rfl, hb⟩; have B7 := Lib.hid (FRn.out _ _ B6.out hb); have Z7 := Lib.hid (Z6.out.below hb Z6.out.lt); have I7 := Lib.hid (I6.out.below hb); obtain ⟨z0, z1, _, _⟩ := ibk2 Z7.out; obtain ⟨r0, r1, f0, f1⟩ := ibk2 (FRr.out _ B7.out); clear hb)
      have q := ((FRr.out _ B7.out).set_ 0 (.bool b6)).set_ 1 (.slice o6 l6 c6)
      rw [HU2.out]
      refine bodyPost_ret (v := Iv b6 (.slice o6 l6 c6)) (by simp [results, Tryz.results36, go_sem, q.cell 0, q.cell 1]) rfl ⟨_, rfl, I7.out.put r0 (by intro x; simp) r1 (by intro x; simp), ?_⟩
      exact ((FRb.out _ B7.out).setCell (p := ⟨w.heap.size + 1 + 1, 0, none⟩) (by show w.heap.size ≤ w.heap.size + 1 + 1; omega) _).setCell (p := ⟨w.heap.size + 1 + 1, 1, none⟩) (by show w.heap.size ≤ w.heap.size + 1 + 1; omega) _
end Go.Proofs.YtldchepfcgbpiaaGreat
namespace Go.Proofs.YtldchepfcgbpiaaGreat
open Go.RowKit Go.Shelf

/-- More words than are played? -/
def hv8 (m : Int) (s d : List Int) : Bool := decide (m < d.length) || decide (8 < s.length)
theorem hv8_no {m : Int} {s d : List Int} (h : hv8 m s d = false) : (d.length : Int) ≤ m ∧ s.length ≤ 8 := by
  unfold hv8 at h
  simp only [Bool.or_eq_false_iff, decide_eq_false_iff_not] at h
  omega
set_option maxRecDepth 100000 in
set_option maxHeartbeats 2000000 in
theorem heavy8_any (va vb : Value) (s d : List Int) (m : Int) (w : World) (ha : Ld w va s) (hb : Ld w vb d) (l1 : s.length ≤ 9223372036854775807) (_l2 : d.length ≤ 9223372036854775807) :
    Calls Tryz.prog 4 #[.agg #[va, vb], .int .i64 m] w fun e w' => e = .returned (.bool (hv8 m s d)) ∧ Below w.heap.size w w' := by
  obtain ⟨os, cs, rfl, _, _⟩ := ha
  obtain ⟨od, cd, rfl, _, _⟩ := hb
  obtain ⟨Q, hQ⟩ : ∃ Q, Q = hv8 m s d := ⟨_, rfl⟩
  rw [← hQ]
  unfold hv8 at hQ
  generalize s.length = ns at *
  generalize d.length = nd at *
  have hB0 : Below w.heap.size w (w.alloc (.cells #[.slice os ns cs, .slice od nd cd] 26)) := (Below.refl _ _).alloc (Nat.le_refl _) _
  by_cases g1 : m < nd
  · have E : Hid (Q = true) := by rw [hQ, decide_eq_true g1]; exact Lib.hid rfl
    clear hQ
    go_enter Tryz.func4, Tryz.ntmps4
    go_wp2
    go_ret
    exact ⟨by rw [E.out]; first | rfl | (show Ending.returned (.bool _) = _; congr 2; simp; omega), hB0⟩
  · by_cases g2 : 8 < ns
    · have E : Hid (Q = true) := by rw [hQ, decide_eq_true g2]; exact Lib.hid (by simp)
      clear hQ
      go_enter Tryz.func4, Tryz.ntmps4
      go_wp2
      go_ret
      exact ⟨by rw [E.out]; first | rfl | (show Ending.returned (.bool _) = _; congr 2; simp; omega), hB0⟩
    · have E : Hid (Q = false) := by rw [hQ, decide_eq_false g1, decide_eq_false g2]; exact Lib.hid rfl
      clear hQ
      go_enter Tryz.func4, Tryz.ntmps4
      go_wp2
      go_ret
      exact ⟨by rw [E.out]; first | rfl | (show Ending.returned (.bool _) = _; congr 2; simp; omega), hB0⟩
/-- A told tensor reads as its lists. -/
theorem someT_ld {w W : World} {er : Int} {sh ds : List Int} {e : Ending} (h : SomeT w er sh ds e W) : ∃ vs vd, e = .returned (.tuple #[.agg #[vs, vd], .int .i64 er]) ∧ Ld W vs sh ∧ Ld W vd ds ∧ Below w.heap.size w W := by
  obtain ⟨os, cs, od, cd, rfl, h1, h2, hb⟩ := h
  obtain ⟨_, _, e1, h3⟩ := Ld.of_owns h1
  obtain ⟨_, _, e2, h4⟩ := Ld.of_owns h2
  simp only [Value.slice.injEq] at e1 e2
  obtain ⟨rfl, _, rfl⟩ := e1
  obtain ⟨rfl, _, rfl⟩ := e2
  exact ⟨_, _, rfl, h3, h4, hb⟩
theorem ld1 {W : World} {n : Nat} {t : TypeId} {x : Int} (h : W.heap.size = n) : Ld (W.alloc (.cells #[.int .i64 x] t)) (.slice (some ⟨n, 0, none⟩) 1 1) [x] := by
  subst h; exact Ld.of_blk (ls := [x]) (Blk.new W t _) (Nat.le_refl _)
theorem ld2 {W : World} {n : Nat} {t : TypeId} {x y : Int} (h : W.heap.size = n) : Ld (W.alloc (.cells #[.int .i64 x, .int .i64 y] t)) (.slice (some ⟨n, 0, none⟩) 2 2) [x, y] := by
  subst h; exact Ld.of_blk (ls := [x, y]) (Blk.new W t _) (Nat.le_refl _)
theorem al_below {W : World} (o : Obj) : Below W.heap.size W (W.alloc o) := (Below.refl _ _).alloc (Nat.le_refl _) o
end Go.Proofs.YtldchepfcgbpiaaGreat
namespace Go.Proofs.YtldchepfcgbpiaaGreat
open Go.RowKit Go.Shelf

theorem mid_getD1 {ls : List Int} {lo n k : Nat} (h : k < n) : ((ls.drop lo).take n).getD k 0 = ls.getD (lo + k) 0 := by
  simp [List.getD, List.getElem?_drop, h]
/-- The n-th number's cell. -/
theorem ld_at {W : World} {o : Option Addr} {n c k : Nat} {ls : List Int} (h : Ld W (.slice o n c) ls) (hk : k < ls.length) : ∃ g f, o = some ⟨g, f, none⟩ ∧ W.cell? ⟨g, f + k, none⟩ = some (.int .i64 (ls.getD k 0)) := by
  obtain ⟨o2, c2, e, _, h2⟩ := h
  simp only [Value.slice.injEq] at e
  obtain ⟨rfl, _, rfl⟩ := e
  obtain ⟨g, f, e1, _, h4⟩ := h2 k hk
  exact ⟨g, f, e1, h4⟩
theorem nat_wrap_add {a b c : Nat} (h : c = a + b) (hc : c ≤ 65536) : wrap64 ((a : Int) + (b : Int)) = (c : Int) ∧ IntKind.i64.wrap ((a : Int) + (b : Int)) = (c : Int) := by
  rw [← Int.natCast_add, ← h]
  exact ⟨IntWalk.wrap64_in _ (by omega), IntWalk.i64_in _ (by omega)⟩
theorem ld_cell {W : World} {g f n c k : Nat} {ls : List Int} (h : Ld W (.slice (some ⟨g, f, none⟩) n c) ls) (hk : k < ls.length) : W.cell? ⟨g, f + k, none⟩ = some (.int .i64 (ls.getD k 0)) := by
  obtain ⟨g', f', e, h2⟩ := ld_at h hk
  simp only [Option.some.injEq, Addr.mk.injEq, and_true] at e
  obtain ⟨rfl, rfl⟩ := e
  exact h2
theorem ld_cap {W : World} {o : Option Addr} {n c : Nat} {ls : List Int} (h : Ld W (.slice o n c) ls) : ls.length ≤ c := by
  obtain ⟨o2, c2, e, hc, _⟩ := h
  simp only [Value.slice.injEq] at e
  obtain ⟨_, _, rfl⟩ := e
  exact hc
theorem ld_part {W : World} {g f L c lo N : Nat} {ls : List Int} (h : Ld W (.slice (some ⟨g, f, none⟩) L c) ls) (hl : lo + N ≤ ls.length) : Ld W (.slice (some ⟨g, f + lo, none⟩) N (c - lo)) ((ls.drop lo).take N) := by
  have hc := ld_cap h
  have hlen : ((ls.drop lo).take N).length = N := by simp; omega
  refine ⟨_, _, by rw [hlen], by rw [hlen]; omega, fun i hi => ?_⟩
  rw [hlen] at hi
  obtain ⟨o2, c2, e, _, hx⟩ := h
  simp only [Value.slice.injEq] at e
  obtain ⟨rfl, _, _⟩ := e
  obtain ⟨b, f', e, hb, hcell⟩ := hx (lo + i) (by omega)
  simp only [Option.some.injEq, Addr.mk.injEq, and_true] at e
  obtain ⟨rfl, rfl⟩ := e
  refine ⟨g, f + lo, rfl, hb, ?_⟩
  rw [show f + lo + i = f + (lo + i) by omega, hcell, mid_getD1 hi]
theorem run_part {P : Program} {t e : TypeId} {i : TypeInfo} (hu : P.underlying t = some (.slice e)) (hi : P.info? e = some i) (hs : i.size = 1) (g f L c lo hi' N : Nat) (h : lo + N = hi') (hc : hi' ≤ c) (h0 : 1 ≤ N) (wx : World) :
    (Instr.slice t (.slice (some ⟨g, f, none⟩) L c) (some (.int .i64 (lo : Int))) (some (.int .i64 (hi' : Int))) none).run P wx = .ok (.slice (some ⟨g, f + lo, none⟩) N (c - lo)) wx := by
  have a3 : ¬ c = lo := by omega
  have a4 : hi' - lo = N := by omega
  have a6 : lo ≤ hi' := by omega
  simp [Instr.slice, run_underlying hu, Instr.sliceBounds, Instr.sliceBound, asIntOf, sizeOf, typeInfo, hi, hs, Addr.add, hc, a6, a3, a4]
theorem eqw_same (va vb : Value) (l : List Int) (W : World) (ha : Ld W va l) (hb : Ld W vb l) (hl : l.length ≤ 17592186044416) : Calls Tryz.prog 31 #[va, vb] W fun e w' => e = .returned (.bool true) ∧ Below W.heap.size W w' := by
  have C4 := eqw_any va vb l l W ha hb hl hl
  rwa [show decide (l = l) = true by simp] at C4
end Go.Proofs.YtldchepfcgbpiaaGreat
namespace Go.Proofs.YtldchepfcgbpiaaGreat
open Go Go.RowKit Go.Shelf

/-- The cells of a row of whole numbers. -/
def icl (es : List (Bool × Value)) : List Value := es.flatMap fun p => [.bool p.1, p.2]
theorem icl_snoc (es : List (Bool × Value)) (b : Bool) (m : Value) : icl (es ++ [(b, m)]) = icl es ++ [.bool b, m] := by
  simp [icl]
theorem icl_at (d : Bool × Value) : ∀ (es : List (Bool × Value)) (i : Nat), i < es.length → (icl es)[i * 2]? = some (.bool (es.getD i d).1) ∧ (icl es)[i * 2 + 1]? = some (es.getD i d).2 := by
  intro es
  induction es with
  | nil => intro i h; simp at h
  | cons a l ih =>
    intro i h
    have e : icl (a :: l) = .bool a.1 :: a.2 :: icl l := by simp [icl]
    rw [e]
    cases i with
    | zero => simp
    | succ j =>
      have q := ih j (by simpa using h)
      rw [show (j + 1) * 2 = j * 2 + 1 + 1 by omega]
      simpa using q
theorem IsN.lt {w : World} {v : Value} {n : Nat} (h : IsN w v n) : ∀ g, v.ownBlock = some g → g < w.heap.size := by
  intro g hg
  obtain ⟨ls, r, _⟩ := h
  rcases r with ⟨rfl, _⟩ | ⟨b, off, cap, rfl, _, hl, _⟩
  · simp [Value.ownBlock] at hg
  · simp only [Value.ownBlock, Option.some.injEq] at hg
    omega
theorem IsN.grown {w w' : World} {v : Value} {n : Nat} {row : Option Nat} (h : IsN w v n) (hg : w.grownBy w' row) (hne : ∀ g, row = some g → v.ownBlock ≠ some g) : IsN w' v n := by
  obtain ⟨ls, r, h1⟩ := h
  refine ⟨ls, ?_, h1⟩
  rcases r with r | ⟨b, off, cap, rfl, hc, hl, hcell⟩
  · exact .inl r
  · exact .inr ⟨b, off, cap, rfl, hc, Nat.lt_of_lt_of_le hl hg.size, fun i hi => hg.cell (hcell i hi) (fun e => hne b e.symm rfl)⟩
theorem IsI.num {w : World} {b : Bool} {m : Value} {z : Int} (h : IsI w (Iv b m) z) : IsN w m z.natAbs := by
  obtain ⟨o, l, c, rfl, e⟩ := h.open2
  exact e.out.2.1
theorem IsI.grown {w w' : World} {b : Bool} {m : Value} {z : Int} {row : Option Nat} (h : IsI w (Iv b m) z) (hg : w.grownBy w' row) (hne : ∀ g, row = some g → m.ownBlock ≠ some g) : IsI w' (Iv b m) z := by
  have k := h.num.grown hg hne
  obtain ⟨o, l, c, rfl, e⟩ := h.open2
  exact IsI.mk e.out.1 k
theorem row_bel {base n sz : Nat} {X Y : World} {e : TypeId} {v : Value} {xs : List Value} (ho : X.ownsRow base e sz v n xs) (x : Below X.heap.size X Y) : Y.ownsRow base e sz v n xs := by
  refine ⟨ho.1, ?_⟩
  rcases ho.2 with h | ⟨g, cap, cur, e1, e2, e3, e4⟩
  · exact .inl h
  · refine .inr ⟨g, cap, cur, e1, e2, ?_, e4⟩
    have hg : g < X.heap.size := by
      rcases Nat.lt_or_ge g X.heap.size with q | q
      · exact q
      · rw [Array.getElem?_eq_none q] at e3; simp at e3
    rw [x.block g hg]; exact e3
/-- What stands for an element that is none. -/
def e0 : Bool × Value := (false, .slice none 0 0)
/-- A row of whole numbers that is being built: its own memory, and each element's limbs beside it. -/
def OffX (W : World) (base : Nat) (v : Value) (es : List (Bool × Value)) (zs : List Int) : Prop :=
  es.length = zs.length ∧ W.ownsRow base 71 2 v zs.length (icl es) ∧ ∀ i, i < zs.length → IsI W (Iv (es.getD i e0).1 (es.getD i e0).2) (zs.getD i 0) ∧ ∀ g, v.ownBlock = some g → (es.getD i e0).2.ownBlock ≠ some g
theorem offx_nil (W : World) (base : Nat) : OffX W base (.slice none 0 0) [] [] := ⟨rfl, World.ownsRow_nil _ _ _ _, fun i h => by simp at h⟩
theorem offx_below {W W' : World} {base : Nat} {v : Value} {es : List (Bool × Value)} {zs : List Int} (h : OffX W base v es zs) (hb : Below W.heap.size W W') : OffX W' base v es zs :=
  ⟨h.1, row_bel h.2.1 hb, fun i hi => ⟨(h.2.2 i hi).1.below hb, (h.2.2 i hi).2⟩⟩
theorem offx_row {W : World} {base : Nat} {v : Value} {es : List (Bool × Value)} {zs : List Int} (h : OffX W base v es zs) : W.ownsRow base 71 2 v zs.length (icl es) := h.2.1
theorem offx_push {W W' : World} {base g cap : Nat} {v : Value} {es : List (Bool × Value)} {zs : List Int} {b : Bool} {m : Value} {z : Int} (h : OffX W base v es zs) (hz : IsI W (Iv b m) z) (hne : ∀ g, v.ownBlock = some g → m.ownBlock ≠ some g) (hg : W.grownBy W' v.ownBlock) (hat : v.ownBlock = some g ∨ g = W.heap.size) (ho : W'.ownsRow base 71 2 (.slice (some ⟨g, 0, none⟩) (zs.length + 1) cap) (zs.length + 1) (icl es ++ [.bool b, m])) :
    OffX W' base (.slice (some ⟨g, 0, none⟩) (zs.length + 1) cap) (es ++ [(b, m)]) (zs ++ [z]) := by
  have far : ∀ (x : Value) (a : Bool) (y : Int), IsI W (Iv a x) y → (∀ g, v.ownBlock = some g → x.ownBlock ≠ some g) → x.ownBlock ≠ some g := fun x a y hx hn e => by
    rcases hat with q | q
    · exact hn g q e
    · have := hx.num.lt g e
      omega
  refine ⟨by simp [h.1], by rw [icl_snoc]; simpa using ho, fun i hi => ?_⟩
  have hl := h.1
  rcases Nat.lt_or_ge i zs.length with hi2 | hi2
  · obtain ⟨q1, q2⟩ := h.2.2 i hi2
    have e1 : (es ++ [(b, m)]).getD i e0 = es.getD i e0 := by simp [List.getD, List.getElem?_append_left (by omega : i < es.length)]
    have e2 : (zs ++ [z]).getD i 0 = zs.getD i 0 := by simp [List.getD, List.getElem?_append_left hi2]
    rw [e1, e2]
    refine ⟨q1.grown hg q2, fun k hk => ?_⟩
    simp only [Value.ownBlock, Option.some.injEq] at hk
    rw [← hk]
    exact far _ _ _ q1 q2
  · have hi3 : i = zs.length := by simp at hi; omega
    have e1 : (es ++ [(b, m)]).getD i e0 = (b, m) := by rw [hi3, ← hl]; simp [List.getD]
    have e2 : (zs ++ [z]).getD i 0 = z := by rw [hi3]; simp [List.getD]
    rw [e1, e2]
    refine ⟨hz.grown hg hne, fun k hk => ?_⟩
    simp only [Value.ownBlock, Option.some.injEq] at hk
    rw [← hk]
    exact far _ _ _ hz hne
/-- A row of whole numbers as others read it. -/
def Offs (W : World) (v : Value) (zs : List Int) : Prop := zs = [] ∧ v = .slice none 0 0 ∨ ∃ (g cap : Nat) (es : Nat → Bool), v = .slice (some ⟨g, 0, none⟩) zs.length cap ∧ g < W.heap.size ∧ ∀ i, i < zs.length → ∃ o l c, W.cell? ⟨g, i * 2, none⟩ = some (.bool (es i)) ∧ W.cell? ⟨g, i * 2 + 1, none⟩ = some (.slice o l c) ∧ IsI W (Iv (es i) (.slice o l c)) (zs.getD i 0)
theorem offx_offs {W : World} {base : Nat} {v : Value} {es : List (Bool × Value)} {zs : List Int} (h : OffX W base v es zs) : Offs W v zs := by
  rcases Nat.eq_zero_or_pos zs.length with h0 | hp
  · have hz : zs = [] := List.length_eq_zero_iff.1 h0
    rcases h.2.1.2 with ⟨e, _⟩ | ⟨g, cap, cur, e, _, hb, _⟩
    · exact .inl ⟨hz, e⟩
    · refine .inr ⟨g, cap, fun _ => false, e, ?_, fun i hi => by omega⟩
      rcases Nat.lt_or_ge g W.heap.size with q | q
      · exact q
      · rw [Array.getElem?_eq_none q] at hb; simp at hb
  · obtain ⟨g, cap, rfl, _, hlt⟩ := h.2.1.form hp
    refine .inr ⟨g, cap, fun i => (es.getD i e0).1, rfl, hlt, fun i hi => ?_⟩
    obtain ⟨q1, _⟩ := h.2.2 i hi
    have hc := icl_at e0 es i (by rw [h.1]; exact hi)
    have c0 := h.2.1.cellAt (i * 2) (by omega)
    have c1 := h.2.1.cellAt (i * 2 + 1) (by omega)
    rw [hc.1] at c0
    rw [hc.2] at c1
    obtain ⟨o, l, c, e, _⟩ := q1.open2
    rw [e] at c1 q1
    exact ⟨o, l, c, c0, c1, q1⟩
theorem offs_below {W W' : World} {v : Value} {zs : List Int} (h : Offs W v zs) (hb : Below W.heap.size W W') : Offs W' v zs := by
  rcases h with h | ⟨g, cap, es, e, hl, hc⟩
  · exact .inl h
  · refine .inr ⟨g, cap, es, e, Nat.lt_of_lt_of_le hl hb.size, fun i hi => ?_⟩
    obtain ⟨o, l, c, c0, c1, q⟩ := hc i hi
    exact ⟨o, l, c, (hb.cell (p := ⟨g, i * 2, none⟩) hl).trans c0, (hb.cell (p := ⟨g, i * 2 + 1, none⟩) hl).trans c1, q.below hb⟩
end Go.Proofs.YtldchepfcgbpiaaGreat
