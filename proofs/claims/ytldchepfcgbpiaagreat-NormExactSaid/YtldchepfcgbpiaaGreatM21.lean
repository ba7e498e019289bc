/-
  The reference's Q: the mean of the squares, and eps.
-/
import Derived.Test.YtldchepfcgbpiaaGreatM20
namespace Go.Proofs.YtldchepfcgbpiaaGreat
open Go Go.RowKit Go.Shelf
attribute [local go_sem] Oper.semAt_some

/-- What Q tells: P over Q is the squares' sum over n n n 4^f, and eps over 2^f. -/
def QFr (ds : List Int) (eps : Int) (f : Nat) (P : Int) (Q : Nat) : Prop :=
  P * ((ds.length : Int) * ds.length * ds.length * 2 ^ (2 * f) * 2 ^ f) = (sql (ofl ds) * 2 ^ f + eps * ((ds.length : Int) * ds.length * ds.length * 2 ^ (2 * f))) * Q ∧ Q ≠ 0 ∧ 0 ≤ P ∧ P.natAbs < 2 ^ 200 ∧ Q < 2 ^ 200
theorem sql_nn (l : List Int) : 0 ≤ sql l := by
  induction l with
  | nil => simp [sql]
  | cons a l ih =>
    have e : sql (a :: l) = a * a + sql l := by simp [sql]
    have : 0 ≤ a * a := by rcases Int.le_total 0 a with g | g; exact Int.mul_nonneg g g; exact Int.mul_nonneg_of_nonpos_of_nonpos g g
    omega
theorem ofl_bd {ds : List Int} {n j : Nat} (hl : ds.length = n) (hn : 1 ≤ n ∧ n ≤ 4096) (hw : ∀ k, k < n → (ds.getD k 0).natAbs ≤ 140737488355328) (hj : j < n) : ((ds.length : Int) * ds.getD j 0 - ds.sum).natAbs ≤ 2305843009213693952 := by
  have q : ∀ (l : List Int), (∀ x ∈ l, x.natAbs ≤ 140737488355328) → l.sum.natAbs ≤ l.length * 140737488355328 := fun l => by
    induction l with
    | nil => intro _; simp
    | cons a l ih =>
      intro h
      have i := ih (fun x hx => h x (by simp [hx]))
      have j := h a (by simp)
      rw [List.sum_cons, List.length_cons, Nat.add_mul]
      omega
  have h1 := q ds (fun x hx => by
    obtain ⟨i, hi, rfl⟩ := List.mem_iff_getElem.1 hx
    have := hw i (by omega)
    simpa [List.getD, List.getElem?_eq_getElem hi] using this)
  have h2 : ((ds.length : Int) * ds.getD j 0).natAbs ≤ 4096 * 140737488355328 := by
    rw [Int.natAbs_mul]; exact Nat.mul_le_mul (by omega) (hw j hj)
  have h3 := Nat.mul_le_mul_right 140737488355328 (show ds.length ≤ 4096 by omega)
  omega
theorem isn_of {W : World} {b : Bool} {m : Value} {D : Nat} (h : IsI W (Iv b m) (D : Int)) : IsN W m D := by
  have q := h.num
  rwa [Int.natAbs_natCast] at q
theorem isi_put3 {W : World} {x u0 u1 u2 : Value} {z : Int} {B : Nat} {b0 : Bool} {s1 s2 : Value} (h : IsI W x z) (e0 : W.cell? ⟨B, 0, none⟩ = some (.bool b0)) (e1 : W.cell? ⟨B, 1, none⟩ = some s1) (e2 : W.cell? ⟨B, 2, none⟩ = some s2) (n1 : ∀ x, s1 ≠ .int .u64 x := by intro x; simp) (n2 : ∀ x, s2 ≠ .int .u64 x := by intro x; simp) : IsI (((W.setCell ⟨B, 0, none⟩ u0).setCell ⟨B, 1, none⟩ u1).setCell ⟨B, 2, none⟩ u2) x z := by
  obtain ⟨m, e, H⟩ := h
  exact ⟨m, e, IsN.store3 H e0 e1 e2 n1 n2⟩
/-- The numbers of Q. -/
theorem q_num {S eps : Int} {D F : Nat} (s0 : 0 ≤ S) (e0 : 0 ≤ eps) (d0 : D ≠ 0) (f0 : F ≠ 0) (gS : S.natAbs < 2 ^ 140) (gE : eps.natAbs < 2 ^ 48) (gD : D < 2 ^ 110) (gF : F < 2 ^ 33) :
    ∃ (P1 : Int) (Q1 : Nat) (a2 : Int) (c2 : Nat) (P : Int) (Q : Nat), P1 = S.tdiv (Nat.gcd S.natAbs D : Nat) ∧ Q1 = D / Nat.gcd S.natAbs D ∧ a2 = eps.tdiv (Nat.gcd eps.natAbs F : Nat) ∧ c2 = F / Nat.gcd eps.natAbs F ∧
      P = (P1 * c2 + a2 * Q1).tdiv (Nat.gcd (P1 * c2 + a2 * Q1).natAbs (Q1 * c2) : Nat) ∧ Q = Q1 * c2 / Nat.gcd (P1 * c2 + a2 * Q1).natAbs (Q1 * c2) ∧
      P1.natAbs < 2 ^ 140 ∧ Q1 < 2 ^ 110 ∧ a2.natAbs < 2 ^ 48 ∧ c2 < 2 ^ 33 ∧ (P1 * c2).natAbs < 2 ^ 173 ∧ (a2 * Q1).natAbs < 2 ^ 158 ∧ (P1 * c2 + a2 * Q1).natAbs < 2 ^ 174 ∧ Q1 * c2 < 2 ^ 143 ∧ Q1 * c2 ≠ 0 ∧
      P * ((D : Int) * F) = (S * F + eps * D) * Q ∧ Q ≠ 0 ∧ 0 ≤ P ∧ P.natAbs < 2 ^ 200 ∧ Q < 2 ^ 200 := by
  obtain ⟨P1, hP1⟩ : ∃ P1, P1 = S.tdiv (Nat.gcd S.natAbs D : Nat) := ⟨_, rfl⟩
  obtain ⟨Q1, hQ1⟩ : ∃ Q1, Q1 = D / Nat.gcd S.natAbs D := ⟨_, rfl⟩
  obtain ⟨a2, ha2⟩ : ∃ a2, a2 = eps.tdiv (Nat.gcd eps.natAbs F : Nat) := ⟨_, rfl⟩
  obtain ⟨c2, hc2⟩ : ∃ c2, c2 = F / Nat.gcd eps.natAbs F := ⟨_, rfl⟩
  obtain ⟨x1, x2, x3, x4, x5⟩ := red_of S D d0
  obtain ⟨y1, y2, y3, y4, y5⟩ := red_of eps F f0
  rw [← hP1, ← hQ1] at x1
  rw [← hQ1] at x2 x5
  rw [← hP1] at x3 x4
  rw [← ha2, ← hc2] at y1
  rw [← hc2] at y2 y5
  rw [← ha2] at y3 y4
  have gP1 : P1.natAbs < 2 ^ 140 := by omega
  have gQ1 : Q1 < 2 ^ 110 := by omega
  have ga2 : a2.natAbs < 2 ^ 48 := by omega
  have gc2 : c2 < 2 ^ 33 := by omega
  have m1 : (P1 * c2).natAbs < 2 ^ (140 + 33) := nab_mul gP1 (by rw [Int.natAbs_natCast]; exact gc2)
  have m2 : (a2 * Q1).natAbs < 2 ^ (48 + 110) := nab_mul ga2 (by rw [Int.natAbs_natCast]; exact gQ1)
  have m3 : Q1 * c2 < 2 ^ (110 + 33) := pow_mul3 gQ1 gc2
  have m4 : (P1 * c2 + a2 * Q1).natAbs < 2 ^ 174 := by omega
  have n0 : Q1 * c2 ≠ 0 := Nat.mul_ne_zero x2 y2
  obtain ⟨z1, z2, z3, z4, z5⟩ := red_of (P1 * c2 + a2 * Q1) (Q1 * c2) n0
  refine ⟨P1, Q1, a2, c2, _, _, hP1, hQ1, ha2, hc2, rfl, rfl, gP1, gQ1, ga2, gc2, m1, m2, m4, m3, n0, ?_, z2, z3 ?_, by omega, by omega⟩
  · generalize (P1 * (c2 : Int) + a2 * Q1).tdiv _ = P at *
    generalize Q1 * c2 / _ = Q at *
    have k0 : ((Q1 * c2 : Nat) : Int) ≠ 0 := by omega
    refine Int.eq_of_mul_eq_mul_left k0 ?_
    have c1 : ((Q1 * c2 : Nat) : Int) * (P * ((D : Int) * F)) = P * ((Q1 * c2 : Nat) : Int) * (D * F) := by ac_rfl
    rw [c1, z1]
    have c3 : (P1 * c2 + a2 * Q1) * (Q : Int) * (D * F) = (P1 * D * (c2 * F) + a2 * F * (Q1 * D)) * Q := by
      rw [Int.add_mul, Int.add_mul, Int.add_mul]; congr 1 <;> ac_rfl
    have c5 : S * (Q1 : Int) * (c2 * F) + eps * c2 * (Q1 * D) = (Q1 : Int) * c2 * (S * F + eps * D) := by
      rw [Int.mul_add]; congr 1 <;> ac_rfl
    rw [c3, x1, y1, Int.natCast_mul, c5]
    exact Int.mul_assoc _ _ _
  · exact Int.add_nonneg (Int.mul_nonneg (x3 s0) (by omega)) (Int.mul_nonneg (y3 e0) (by omega))
set_option maxRecDepth 100000 in
set_option maxHeartbeats 8000000 in
theorem q_any (gX fX n cX f : Nat) (ds : List Int) (eps : Int) (w : World) (hX : Ld w (.slice (some ⟨gX, fX, none⟩) n cX) ds) (hl : ds.length = n) (hn : 1 ≤ n ∧ n ≤ 4096) (hw : ∀ k, k < n → (ds.getD k 0).natAbs ≤ 140737488355328) (he : 0 ≤ eps ∧ eps ≤ 140737488355328) (hf : f ≤ 32) :
    Calls Tryz.prog 34 #[.slice (some ⟨gX, fX, none⟩) n cX, .int .i64 eps, .int .i64 f] w (fun e w' => ∃ P Q v, e = .returned v ∧ IsR w' v P Q ∧ Below w.heap.size w w' ∧ QFr ds eps f P Q) := by
  have KPT := Lib.hid (fun (W : World) (hb : Below w.heap.size w W) => parts_any gX fX n cX ds W (hX.below hb) hl hn hw)
  obtain ⟨N3, hN3⟩ : ∃ N : Nat, N = n * n * n := ⟨_, rfl⟩
  have hN : N3 ≤ 4096 * 4096 * 4096 ∧ 1 ≤ N3 := by
    rw [hN3]
    exact ⟨Nat.mul_le_mul (Nat.mul_le_mul hn.2 hn.2) hn.2, Nat.mul_pos (Nat.mul_pos hn.1 hn.1) hn.1⟩
  have hnn : n * n ≤ 4096 * 4096 := Nat.mul_le_mul hn.2 hn.2
  have hp2 : (2 : Nat) ^ (2 * f) ≤ 2 ^ 64 := Nat.pow_le_pow_right (by decide) (by omega)
  have hp1 : (2 : Nat) ^ f ≤ 2 ^ 32 := Nat.pow_le_pow_right (by decide) hf
  have hq2 : (2 : Nat) ^ (2 * f) ≠ 0 := Nat.ne_of_gt (Nat.pow_pos (by decide))
  have hq1 : (2 : Nat) ^ f ≠ 0 := Nat.ne_of_gt (Nat.pow_pos (by decide))
  obtain ⟨D, hD⟩ : ∃ D, D = N3 * 2 ^ (2 * f) := ⟨_, rfl⟩
  have gD : D < 2 ^ 110 := by
    rw [hD]; exact Nat.lt_of_le_of_lt (Nat.mul_le_mul hN.1 hp2) (by decide)
  have d0 : D ≠ 0 := by rw [hD]; exact Nat.mul_ne_zero (by omega) hq2
  have sq0 := sql_nn (ofl ds)
  have gS : (sql (ofl ds)).natAbs < 2 ^ 140 := by
    have h1 := sql_bd (ofl ds) (fun x hx => by
      obtain ⟨i, hi, rfl⟩ := List.mem_iff_getElem.1 hx
      have hi2 : i < ds.length := by simpa [ofl] using hi
      have e := ofl_at hi2
      rw [List.getD, List.getElem?_eq_getElem hi, Option.getD_some] at e
      rw [e]
      exact ofl_bd hl hn hw (by omega))
    have h2 : (ofl ds).length ≤ 4096 := by simp [ofl]; omega
    have h3 := Nat.mul_le_mul_right (2305843009213693952 * 2305843009213693952) h2
    exact Nat.lt_of_le_of_lt (Nat.le_trans h1 h3) (by decide)
  obtain ⟨P1, Q1, a2, c2, P, Q, eP1, eQ1, ea2, ec2, eP, eQ, gP1, gQ1, ga2, gc2, g1, g2, g3, g4, g5, qe, q0, p0, gP, gQ⟩ := q_num (S := sql (ofl ds)) (eps := eps) (D := D) (F := 2 ^ f) sq0 he.1 d0 hq1 gS (by omega) gD (by omega)
  have QE : Hid (QFr ds eps f P Q) := Lib.hid (by
    refine ⟨?_, q0, p0, gP, gQ⟩
    rw [hl]
    have e : ((n : Int) * n * n * 2 ^ (2 * f)) = (D : Int) := by rw [hD, hN3]; push_cast; rfl
    rw [e]
    have e2 : ((2 ^ f : Nat) : Int) = 2 ^ f := by push_cast; rfl
    rw [← e2]
    exact qe)
  have KN3 := Lib.hid (fun W : World => ifrom_any (N3 : Int) W (by omega) (by omega))
  have K1 := Lib.hid (fun W : World => ifrom_any 1 W (by omega) (by omega))
  have KLF : Hid (∀ (W : World) (u : Value), IsI W u 1 → Calls Tryz.prog 52 #[u, .int .i64 ((2 * f : Nat) : Int)] W (SomeI W (1 * 2 ^ (2 * f)))) := Lib.hid (fun W u hu => ileft_any u 1 (2 * f) W hu one_big (by omega))
  have KTM : Hid (∀ (W : World) (u v : Value), IsI W u (N3 : Int) → IsI W v (1 * 2 ^ (2 * f)) → Calls Tryz.prog 51 #[u, v] W (SomeI W (D : Int))) := Lib.hid (fun W u v hu hv => by
    have e : (D : Int) = (N3 : Int) * (1 * 2 ^ (2 * f)) := by rw [hD]; push_cast; rw [Int.one_mul]
    rw [e]
    refine itimes_any u v _ _ W hu hv (big_of (k := 64) (by omega) (by decide)) ?_
    rw [Int.one_mul]
    have e2 : ((2 : Int) ^ (2 * f)) = ((2 ^ (2 * f) : Nat) : Int) := by push_cast; rfl
    rw [e2, Int.natAbs_natCast]
    exact big_of (k := 65) (by omega) (by decide))
  have KMK : Hid (∀ (W : World) (u v : Value), IsI W u (sql (ofl ds)) → IsN W v D → Calls Tryz.prog 37 #[u, v] W (SomeR W P1 Q1)) := Lib.hid (fun W u v hu hv => by
    rw [eP1, eQ1]
    exact make_any u v _ _ W hu hv (mid_of gS (by decide)) (mid_of gD (by decide)) d0)
  have KO2 : Hid (∀ (W : World), Calls Tryz.prog 54 #[.int .i64 eps, .int .i64 f] W (SomeR W a2 c2)) := Lib.hid (fun W => over2_any eps a2 f c2 W (by omega) (by omega) (by omega) (by rw [Nat.one_mul]; exact ea2) (by rw [Nat.one_mul]; exact ec2))
  have KPL : Hid (∀ (W : World) (x y : Value), IsR W x P1 Q1 → IsR W y a2 c2 → Calls Tryz.prog 53 #[x, y] W (SomeR W P Q)) := Lib.hid (fun W x y hx hy => rplus_any x y P1 a2 _ Q1 c2 _ P Q W hx hy (big_of gP1 (by decide)) (big_of ga2 (by decide)) (big_of gQ1 (by decide)) (big_of gc2 (by decide)) (big_of g1 (by decide)) (big_of g2 (by decide)) rfl rfl (mid_of g3 (by decide)) (mid_of g4 (by decide)) g5 eP eQ)
  clear eP1 eQ1 ea2 ec2 eP eQ gP1 gQ1 ga2 gc2 g1 g2 g3 g4 g5 qe q0 p0 gP gQ sq0 gS gD d0 hp2 hp1 hq2 hq1 hD hw hl
  have HN := Lib.hid (And.intro hN (And.intro hn (And.intro hnn (And.intro hN3 hf))))
  clear hN hnn hN3
  go_enter Tryz.func34, Tryz.ntmps34
  go_upto_region 3 with (go_at_call 33; (with_reducible refine (KPT.out _ ((Below.refl _ _).alloc (Nat.le_refl _) _)).mono ?_); rintro e wp ⟨b5, o5, l5, c5, v8, b9, o9, l9, c9, rfl, hS, hO, hQ, hb⟩)
  obtain ⟨T9, hT9⟩ : ∃ T, T = wp.heap.size + 1 := ⟨_, rfl⟩
  obtain ⟨w1, hw1⟩ : ∃ v, v = (wp.alloc (.cells #[.bool b5, .slice o5 l5 c5] 71)).alloc (.cells #[.bool b9, .slice o9 l9 c9] 71) := ⟨_, rfl⟩
  rw [← hT9, ← hw1]
  have hA := (Below.refl w.heap.size w).alloc (Nat.le_refl _) (.cells #[.bool false, .slice none 0 0, .slice none 0 0] 76)
  have hB2 : Below wp.heap.size wp w1 := by rw [hw1]; exact (al_below0 _).alloc (by simp) _
  have F1 : Hid (Below w.heap.size w w1 ∧ Blk w1 w.heap.size 76 #[.bool false, .slice none 0 0, .slice none 0 0] ∧ IBv w1 T9 b9 o9 l9 c9 (sql (ofl ds)) ∧ w.heap.size < T9) := Lib.hid (by
    have hz := Blk.new w 76 #[.bool false, .slice none 0 0, .slice none 0 0]
    have hz2 := hz.below hb hz.lt
    have h1 : w.heap.size < wp.heap.size := hz2.lt
    refine ⟨(hA.trans (hb.mono (by simp))).trans (hB2.mono (by omega)), hz2.below hB2 h1, ?_, by omega⟩
    rw [hw1, hT9]
    have q := ibv_new (W := wp.alloc (.cells #[.bool b5, .slice o5 l5 c5] 71)) (hQ.below (al_below0 _))
    rwa [World.size_alloc] at q)
  clear hA hB2 hw1 hT9 hS hO hQ hb KPT
  obtain ⟨FR, hFR⟩ : ∃ FR : World → Prop, FR = fun W => Below w.heap.size w W ∧ Blk W w.heap.size 76 #[.bool false, .slice none 0 0, .slice none 0 0] ∧ IBv W T9 b9 o9 l9 c9 (sql (ofl ds)) ∧ w.heap.size < T9 := ⟨_, rfl⟩
  have FRn : Hid (∀ W W', FR W → Below W.heap.size W W' → FR W') := Lib.hid (fun W W' h hb => by rw [hFR] at h ⊢; exact ⟨h.1.trans (hb.mono h.1.size), h.2.1.below hb h.2.1.lt, ibv_below h.2.2.1 hb, h.2.2.2⟩)
  have FR9 : Hid (∀ W, FR W → IsI W (Iv b9 (.slice o9 l9 c9)) (sql (ofl ds))) := Lib.hid (fun W h => by rw [hFR] at h; exact ibv_num h.2.2.1)
  have FRl : Hid (∀ W, FR W → w.heap.size < W.heap.size ∧ T9 < W.heap.size) := Lib.hid (fun W h => by rw [hFR] at h; exact ⟨h.2.1.lt, h.2.2.1.1.lt⟩)
  have FRs : Hid (∀ (W : World) (B : Nat) (u0 u1 u2 : Value), (w.heap.size < B ∧ T9 < B) → FR W → Blk W B 76 #[.bool false, .slice none 0 0, .slice none 0 0] → FR (((W.setCell ⟨B, 0, none⟩ u0).setCell ⟨B, 1, none⟩ u1).setCell ⟨B, 2, none⟩ u2)) := Lib.hid (fun W B u0 u1 u2 hB h hz => by
    rw [hFR] at h ⊢
    have e0 : ¬ w.heap.size = B := by omega
    have e9 : ¬ T9 = B := by omega
    refine ⟨((h.1.setCell (p := ⟨B, 0, none⟩) (by show w.heap.size ≤ B; omega) _).setCell (p := ⟨B, 1, none⟩) (by show w.heap.size ≤ B; omega) _).setCell (p := ⟨B, 2, none⟩) (by show w.heap.size ≤ B; omega) _, ((h.2.1.far (p := ⟨B, 0, none⟩) e0 _).far (p := ⟨B, 1, none⟩) e0 _).far (p := ⟨B, 2, none⟩) e0 _, ⟨((h.2.2.1.1.far (p := ⟨B, 0, none⟩) e9 _).far (p := ⟨B, 1, none⟩) e9 _).far (p := ⟨B, 2, none⟩) e9 _, isi_put3 h.2.2.1.2 (hz.cell 0) (hz.cell 1) (hz.cell 2)⟩, h.2.2.2⟩)
  have FRb : Hid (∀ W, FR W → Below w.heap.size w W ∧ Blk W w.heap.size 76 #[.bool false, .slice none 0 0, .slice none 0 0]) := Lib.hid (fun W h => by rw [hFR] at h; exact ⟨h.1, h.2.1⟩)
  have KS : Hid (∀ V, FR V → V.cell? ⟨T9, 0, none⟩ = some (.bool b9) ∧ V.cell? ⟨T9, 1, none⟩ = some (.slice o9 l9 c9)) := Lib.hid (fun V h => by rw [hFR] at h; exact ⟨h.2.2.1.1.cell 0, h.2.2.1.1.cell 1⟩)
  have HF : Hid (FR w1) := Lib.hid (by rw [hFR]; exact F1.out)
  clear hFR F1
  obtain ⟨NN, hNN⟩ : ∃ N : Nat, N = n * n := ⟨_, rfl⟩
  obtain ⟨F2, hF2⟩ : ∃ N : Nat, N = 2 * f := ⟨_, rfl⟩
  rw [← hF2] at KLF KTM
  have e1 : IntKind.i64.wrap ((n : Int) * (n : Int)) = (NN : Int) := by
    have h := HN.out.2.2.1
    have e : (NN : Int) = (n : Int) * n := by rw [hNN]; push_cast; rfl
    rw [← e, IntKind.wrap_i64]; omega
  have e2 : IntKind.i64.wrap ((NN : Int) * (n : Int)) = (N3 : Int) := by
    have h := HN.out.1
    have e : (N3 : Int) = (NN : Int) * n := by rw [HN.out.2.2.2.1, hNN]; push_cast; rfl
    rw [← e, IntKind.wrap_i64]; omega
  have e3 : IntKind.i64.wrap (2 * (f : Int)) = (F2 : Int) := by
    have h := HN.out.2.2.2.2
    rw [IntKind.wrap_i64]; omega
  clear hNN hF2
  go_cut [11] (fun s11 wx => ∃ (T1 : Nat) (bm : Bool) (o1m : Option Addr) (l1m c1m : Nat) (o2m : Option Addr) (l2m c2m : Nat), s11 = .pointer (some ⟨T1, 0, none⟩) ∧ Hid (Blk wx T1 76 #[.bool bm, .slice o1m l1m c1m, .slice o2m l2m c2m]) ∧ Hid (IsR wx (Rv bm (.slice o1m l1m c1m) (.slice o2m l2m c2m)) P1 Q1) ∧ Hid (w.heap.size < T1 ∧ T9 < T1) ∧ Hid (FR wx))
  case first =>
    as_aux_lemma =>
    have B_0 : Hid (FR w1.drew) := Lib.hid (FRn.out _ _ HF.out (below_drw (Below.refl _ _) 1))
    refine wp_region_held_drew (S := fun V => V.cell? ⟨T9, 0, none⟩ = some (.bool b9) ∧ V.cell? ⟨T9, 1, none⟩ = some (.slice o9 l9 c9)) (by kernel_rfl) ?_ (fun hHeld => ?_)
    · exact KS.out _ B_0.out
    have hHd := hHeld
    generalize w1.drew = w_0 at *
    (refine wpAnyH_take (i := 0) (oi := ⟨some 20, _, _, _, _, _⟩) (v := ?v0_a1) rfl (by kernel_rfl) (by kernel_rfl) (by kernel_rfl) (fun _ _ _ h => h) (Or.inl ⟨by rfl, ?hy0_a1⟩) (by assumption) ?rest0_a1; (case hy0_a1 => ((intro w hSw); (try dsimp only at hSw); go_simp; first | done | (with_reducible rfl))))
    (try simp only [Act.put, List.setIfInBounds_toArray, List.set_cons_zero, List.set_cons_succ])
    (refine wpAnyH_take (i := 1) (oi := ⟨some 21, _, _, _, _, _⟩) (v := ?v1_a2) rfl (by kernel_rfl) (by kernel_rfl) (by kernel_rfl) (fun _ _ _ h => h) (Or.inl ⟨by rfl, ?hy1_a2⟩) (by assumption) ?rest1_a2; (case hy1_a2 => ((intro w hSw); (try dsimp only at hSw); go_simp; first | done | (with_reducible rfl))))
    (try simp only [Act.put, List.setIfInBounds_toArray, List.set_cons_zero, List.set_cons_succ])
    (refine wpAnyH_take (i := 2) (oi := ⟨some 22, _, _, _, _, _⟩) (v := ?v2_a3) rfl (by kernel_rfl) (by kernel_rfl) (by kernel_rfl) (fun _ _ _ h => h) (Or.inl ⟨by rfl, ?hy2_a3⟩) (by assumption) ?rest2_a3; (case hy2_a3 => ((intro w hSw); (try dsimp only at hSw); go_simp; first | done | (with_reducible rfl))))
    (try simp only [Act.put, List.setIfInBounds_toArray, List.set_cons_zero, List.set_cons_succ])
    (refine wpAnyH_take (i := 3) (oi := ⟨some 23, _, _, _, _, _⟩) (v := .int .i64 (NN : Nat)) rfl (by kernel_rfl) (by kernel_rfl) (by kernel_rfl) (fun _ _ _ h => h) (Or.inl ⟨by rfl, ?hy3_a4⟩) (by assumption) ?rest3_a4; (case hy3_a4 => ((intro w hSw); (try dsimp only at hSw); go_simp; first | done | (with_reducible rfl))))
    (try simp only [Act.put, List.setIfInBounds_toArray, List.set_cons_zero, List.set_cons_succ])
    (refine wpAnyH_take (i := 4) (oi := ⟨some 24, _, _, _, _, _⟩) (v := ?v4_a5) rfl (by kernel_rfl) (by kernel_rfl) (by kernel_rfl) (fun _ _ _ h => h) (Or.inl ⟨by rfl, ?hy4_a5⟩) (by assumption) ?rest4_a5; (case hy4_a5 => ((intro w hSw); (try dsimp only at hSw); go_simp; first | done | (with_reducible rfl))))
    (try simp only [Act.put, List.setIfInBounds_toArray, List.set_cons_zero, List.set_cons_succ])
    (refine wpAnyH_take (i := 5) (oi := ⟨some 25, _, _, _, _, _⟩) (v := .int .i64 (N3 : Nat)) rfl (by kernel_rfl) (by kernel_rfl) (by kernel_rfl) (fun _ _ _ h => h) (Or.inl ⟨by rfl, ?hy5_a6⟩) (by assumption) ?rest5_a6; (case hy5_a6 => ((intro w hSw); (try dsimp only at hSw); go_simp; first | done | (with_reducible rfl))))
    (try simp only [Act.put, List.setIfInBounds_toArray, List.set_cons_zero, List.set_cons_succ])
    (refine wpAnyH_take (i := 8) (oi := ⟨some 28, _, _, _, _, _⟩) (v := ?v8_a7) rfl (by kernel_rfl) (by kernel_rfl) (by kernel_rfl) (fun _ _ _ h => h) (Or.inl ⟨by rfl, ?hy8_a7⟩) (by assumption) ?rest8_a7; (case hy8_a7 => ((intro w hSw); (try dsimp only at hSw); go_simp; first | done | (with_reducible rfl))))
    (try simp only [Act.put, List.setIfInBounds_toArray, List.set_cons_zero, List.set_cons_succ])
    (refine wpAnyH_take (i := 9) (oi := ⟨some 29, _, _, _, _, _⟩) (v := .int .i64 (F2 : Nat)) rfl (by kernel_rfl) (by kernel_rfl) (by kernel_rfl) (fun _ _ _ h => h) (Or.inl ⟨by rfl, ?hy9_a8⟩) (by assumption) ?rest9_a8; (case hy9_a8 => ((intro w hSw); (try dsimp only at hSw); go_simp; first | done | (with_reducible rfl))))
    (try simp only [Act.put, List.setIfInBounds_toArray, List.set_cons_zero, List.set_cons_succ])
    refine wpAnyH_ready (rs := [6, 14]) (by kernel_rfl) (by simp) ?_
    refine AllReadyH.cons (o := ⟨some 26, _, _, _, _, _⟩) rfl (fun K hK => ?_) (AllReadyH.cons (o := ⟨some 11, _, _, _, _, _⟩) rfl (fun K hK => ?_) (AllReadyH.nil))
    · go_simp
      (go_at_call 48; (with_reducible refine (KN3.out _).mono ?_); rintro e w_1 ⟨vx, rfl, hI, hb⟩; obtain ⟨bx, ox, lx, cx, rfl, H0⟩ := hI.open; have B_1 := Lib.hid (FRn.out _ _ B_0.out hb); have X_1 := Lib.hid (IsI.mk H0.out.1 H0.out.2.1); clear hb hI H0)
      refine hK.out _ _ ?_ (fun hHeld => ?_)
      · (try dsimp only)
        exact KS.out _ B_1.out
      clear hK K
      (try simp only [Act.put, List.setIfInBounds_toArray, List.set_cons_zero, List.set_cons_succ])
      refine wpAnyH_ready (rs := [7, 14]) (by kernel_rfl) (by simp) ?_
      refine AllReadyH.cons (o := ⟨some 27, _, _, _, _, _⟩) rfl (fun K hK => ?_) (AllReadyH.cons (o := ⟨some 11, _, _, _, _, _⟩) rfl (fun K hK => ?_) (AllReadyH.nil))
      · go_simp
        (go_at_call 48; (with_reducible refine (K1.out _).mono ?_); rintro e w_2 ⟨vx, rfl, hI, hb⟩; obtain ⟨bu, ou, lu, cu, rfl, H0⟩ := hI.open; have B_2 := Lib.hid (FRn.out _ _ B_1.out hb); have X_2 := Lib.hid (X_1.out.below hb); have Y_2 := Lib.hid (IsI.mk H0.out.1 H0.out.2.1); clear hb hI H0)
        refine hK.out _ _ ?_ (fun hHeld => ?_)
        · (try dsimp only)
          exact KS.out _ B_2.out
        clear hK K
        (try simp only [Act.put, List.setIfInBounds_toArray, List.set_cons_zero, List.set_cons_succ])
        refine wpAnyH_ready (rs := [10, 14]) (by kernel_rfl) (by simp) ?_
        refine AllReadyH.cons (o := ⟨some 30, _, _, _, _, _⟩) rfl (fun K hK => ?_) (AllReadyH.cons (o := ⟨some 11, _, _, _, _, _⟩) rfl (fun K hK => ?_) (AllReadyH.nil))
        · go_simp
          (go_at_call 52; (with_reducible refine (KLF.out _ _ Y_2.out).mono ?_); rintro e w_3 ⟨vx, rfl, hI, hb⟩; obtain ⟨bu, ou, lu, cu, rfl, H0⟩ := hI.open; have B_3 := Lib.hid (FRn.out _ _ B_2.out hb); have X_3 := Lib.hid (X_2.out.below hb); have Y_3 := Lib.hid (IsI.mk H0.out.1 H0.out.2.1); clear hb hI H0)
          refine hK.out _ _ ?_ (fun hHeld => ?_)
          · (try dsimp only)
            exact KS.out _ B_3.out
          clear hK K
          (try simp only [Act.put, List.setIfInBounds_toArray, List.set_cons_zero, List.set_cons_succ])
          refine wpAnyH_ready (rs := [11, 14]) (by kernel_rfl) (by simp) ?_
          refine AllReadyH.cons (o := ⟨some 31, _, _, _, _, _⟩) rfl (fun K hK => ?_) (AllReadyH.cons (o := ⟨some 11, _, _, _, _, _⟩) rfl (fun K hK => ?_) (AllReadyH.nil))
          · go_simp
            (go_at_call 51; (with_reducible refine (KTM.out _ _ _ X_3.out Y_3.out).mono ?_); rintro e w_4 ⟨vx, rfl, hI, hb⟩; obtain ⟨bt, ot, lt, ct, rfl, H0⟩ := hI.open; have B_4 := Lib.hid (FRn.out _ _ B_3.out hb); have X_4 := Lib.hid (IsI.mk H0.out.1 H0.out.2.1); clear hb hI H0)
            refine hK.out _ _ ?_ (fun hHeld => ?_)
            · (try dsimp only)
              exact KS.out _ B_4.out
            clear hK K
            (try simp only [Act.put, List.setIfInBounds_toArray, List.set_cons_zero, List.set_cons_succ])
            (refine wpAnyH_take (i := 12) (oi := ⟨some 32, _, _, _, _, _⟩) (v := .slice ot lt ct) rfl (by kernel_rfl) (by kernel_rfl) (by kernel_rfl) (fun _ _ _ h => h) (Or.inl ⟨by rfl, fun w _ => by first | rfl | kernel_rfl | (unfold Iv; go_simp; done) | (unfold Iv; simp [go_sem]; done) | (unfold Iv; go_simp; rfl)⟩) (by assumption) ?_)
            (try simp only [Act.put, List.setIfInBounds_toArray, List.set_cons_zero, List.set_cons_succ])
            refine wpAnyH_ready (rs := [13, 14]) (by kernel_rfl) (by simp) ?_
            refine AllReadyH.cons (o := ⟨some 33, _, _, _, _, _⟩) rfl (fun K hK => ?_) (AllReadyH.cons (o := ⟨some 11, _, _, _, _, _⟩) rfl (fun K hK => ?_) (AllReadyH.nil))
            · go_simp
              (go_at_call 37; (with_reducible refine (KMK.out _ _ _ (FR9.out _ B_4.out) (isn_of X_4.out)).mono ?_); rintro e w_5 ⟨bm, o1m, l1m, c1m, o2m, l2m, c2m, rfl, hv, hb⟩; have B_5 := Lib.hid (FRn.out _ _ B_4.out hb); have M_5 := Lib.hid (IsR.mk hv); clear hb hv)
              refine hK.out _ _ ?_ (fun hHeld => ?_)
              · (try dsimp only)
                exact KS.out _ B_5.out
              clear hK K
              (try simp only [Act.put, List.setIfInBounds_toArray, List.set_cons_zero, List.set_cons_succ])
              refine wpAnyH_ready (rs := [14]) (by kernel_rfl) (by simp) ?_
              refine AllReadyH.cons (o := ⟨some 11, _, _, _, _, _⟩) rfl (fun K hK => ?_) (AllReadyH.nil)
              go_simp
              have Z_6 := Lib.hid (Blk.new w_5 76 #[.bool false, .slice none 0 0, .slice none 0 0])
              have B_6 := Lib.hid (FRn.out _ _ B_5.out (al_below0 (.cells #[.bool false, .slice none 0 0, .slice none 0 0] 76)))
              have T_6 := Lib.hid (FRl.out _ B_5.out)
              have M_6 := Lib.hid (M_5.out.below (al_below0 (.cells #[.bool false, .slice none 0 0, .slice none 0 0] 76)))
              refine hK.out _ _ ?_ (fun hHeld => ?_)
              · (try dsimp only)
                exact KS.out _ B_6.out
              clear hK K
              generalize w_5.alloc (.cells #[.bool false, .slice none 0 0, .slice none 0 0] 76) = w_6 at *
              (try simp only [Act.put, List.setIfInBounds_toArray, List.set_cons_zero, List.set_cons_succ])
              refine wpAnyH_ready (rs := [15]) (by kernel_rfl) (by simp) ?_
              refine AllReadyH.cons (o := ⟨none, _, _, _, _, _⟩) rfl (fun K hK => ?_) (AllReadyH.nil)
              have c0 := Z_6.out.cell 0
              have c1' := Z_6.out.cell 1
              have c2' := Z_6.out.cell 2
              have f0 := Z_6.out.frozen 0
              have f1 := Z_6.out.frozen 1
              have f2 := Z_6.out.frozen 2
              have ZF := Lib.hid (((Z_6.out.set_ 0 (.bool bm)).set_ 1 (.slice o1m l1m c1m)).set_ 2 (.slice o2m l2m c2m))
              have BF := Lib.hid (FRs.out _ _ (.bool bm) (.slice o1m l1m c1m) (.slice o2m l2m c2m) T_6.out B_6.out Z_6.out)
              have OF := Lib.hid (isr_put M_6.out c0 c1' c2' : IsR (((w_6.setCell ⟨w_5.heap.size, 0, none⟩ (.bool bm)).setCell ⟨w_5.heap.size, 1, none⟩ (.slice o1m l1m c1m)).setCell ⟨w_5.heap.size, 2, none⟩ (.slice o2m l2m c2m)) _ P1 Q1)
              (try unfold Rv)
              go_simp
              refine hK.out _ _ ?_ (fun hHeld => ?_)
              · (try dsimp only)
                exact KS.out _ BF.out
              clear hK K
              generalize ((w_6.setCell ⟨w_5.heap.size, 0, none⟩ (.bool bm)).setCell ⟨w_5.heap.size, 1, none⟩ (.slice o1m l1m c1m)).setCell ⟨w_5.heap.size, 2, none⟩ (.slice o2m l2m c2m) = w_99 at *
              (try simp only [Act.put, List.setIfInBounds_toArray, List.set_cons_zero, List.set_cons_succ])
              refine wpAnyH_done (by kernel_rfl) ?_ _
              (try clear c0 c1' c2' f0 f1 f2)
              go_wp2
              go_meet
              exact ⟨_, bm, o1m, l1m, c1m, o2m, l2m, c2m, rfl, ZF, OF, T_6, BF⟩
            · go_simp
              have Z_7 := Lib.hid (Blk.new w_4 76 #[.bool false, .slice none 0 0, .slice none 0 0])
              have B_7 := Lib.hid (FRn.out _ _ B_4.out (al_below0 (.cells #[.bool false, .slice none 0 0, .slice none 0 0] 76)))
              have T_7 := Lib.hid (FRl.out _ B_4.out)
              have X_7 := Lib.hid (X_4.out.below (al_below0 (.cells #[.bool false, .slice none 0 0, .slice none 0 0] 76)))
              refine hK.out _ _ ?_ (fun hHeld => ?_)
              · (try dsimp only)
                exact KS.out _ B_7.out
              clear hK K
              generalize w_4.alloc (.cells #[.bool false, .slice none 0 0, .slice none 0 0] 76) = w_7 at *
              (try simp only [Act.put, List.setIfInBounds_toArray, List.set_cons_zero, List.set_cons_succ])
              refine wpAnyH_ready (rs := [13]) (by kernel_rfl) (by simp) ?_
              refine AllReadyH.cons (o := ⟨some 33, _, _, _, _, _⟩) rfl (fun K hK => ?_) (AllReadyH.nil)
              go_simp
              (go_at_call 37; (with_reducible refine (KMK.out _ _ _ (FR9.out _ B_7.out) (isn_of X_7.out)).mono ?_); rintro e w_8 ⟨bm, o1m, l1m, c1m, o2m, l2m, c2m, rfl, hv, hb⟩; have B_8 := Lib.hid (FRn.out _ _ B_7.out hb); have Z_8 := Lib.hid (Z_7.out.below hb Z_7.out.lt); have M_8 := Lib.hid (IsR.mk hv); clear hb hv)
              refine hK.out _ _ ?_ (fun hHeld => ?_)
              · (try dsimp only)
                exact KS.out _ B_8.out
              clear hK K
              (try simp only [Act.put, List.setIfInBounds_toArray, List.set_cons_zero, List.set_cons_succ])
              refine wpAnyH_ready (rs := [15]) (by kernel_rfl) (by simp) ?_
              refine AllReadyH.cons (o := ⟨none, _, _, _, _, _⟩) rfl (fun K hK => ?_) (AllReadyH.nil)
              have c0 := Z_8.out.cell 0
              have c1' := Z_8.out.cell 1
              have c2' := Z_8.out.cell 2
              have f0 := Z_8.out.frozen 0
              have f1 := Z_8.out.frozen 1
              have f2 := Z_8.out.frozen 2
              have ZF := Lib.hid (((Z_8.out.set_ 0 (.bool bm)).set_ 1 (.slice o1m l1m c1m)).set_ 2 (.slice o2m l2m c2m))
              have BF := Lib.hid (FRs.out _ _ (.bool bm) (.slice o1m l1m c1m) (.slice o2m l2m c2m) T_7.out B_8.out Z_8.out)
              have OF := Lib.hid (isr_put M_8.out c0 c1' c2' : IsR (((w_8.setCell ⟨w_4.heap.size, 0, none⟩ (.bool bm)).setCell ⟨w_4.heap.size, 1, none⟩ (.slice o1m l1m c1m)).setCell ⟨w_4.heap.size, 2, none⟩ (.slice o2m l2m c2m)) _ P1 Q1)
              (try unfold Rv)
              go_simp
              refine hK.out _ _ ?_ (fun hHeld => ?_)
              · (try dsimp only)
                exact KS.out _ BF.out
              clear hK K
              generalize ((w_8.setCell ⟨w_4.heap.size, 0, none⟩ (.bool bm)).setCell ⟨w_4.heap.size, 1, none⟩ (.slice o1m l1m c1m)).setCell ⟨w_4.heap.size, 2, none⟩ (.slice o2m l2m c2m) = w_99 at *
              (try simp only [Act.put, List.setIfInBounds_toArray, List.set_cons_zero, List.set_cons_succ])
              refine wpAnyH_done (by kernel_rfl) ?_ _
              (try clear c0 c1' c2' f0 f1 f2)
              go_wp2
              go_meet
              exact ⟨_, bm, o1m, l1m, c1m, o2m, l2m, c2m, rfl, ZF, OF, T_7, BF⟩
          · go_simp
            have Z_9 := Lib.hid (Blk.new w_3 76 #[.bool false, .slice none 0 0, .slice none 0 0])
            have B_9 := Lib.hid (FRn.out _ _ B_3.out (al_below0 (.cells #[.bool false, .slice none 0 0, .slice none 0 0] 76)))
            have T_9 := Lib.hid (FRl.out _ B_3.out)
            have X_9 := Lib.hid (X_3.out.below (al_below0 (.cells #[.bool false, .slice none 0 0, .slice none 0 0] 76)))
            have Y_9 := Lib.hid (Y_3.out.below (al_below0 (.cells #[.bool false, .slice none 0 0, .slice none 0 0] 76)))
            refine hK.out _ _ ?_ (fun hHeld => ?_)
            · (try dsimp only)
              exact KS.out _ B_9.out
            clear hK K
            generalize w_3.alloc (.cells #[.bool false, .slice none 0 0, .slice none 0 0] 76) = w_9 at *
            (try simp only [Act.put, List.setIfInBounds_toArray, List.set_cons_zero, List.set_cons_succ])
            refine wpAnyH_ready (rs := [11]) (by kernel_rfl) (by simp) ?_
            refine AllReadyH.cons (o := ⟨some 31, _, _, _, _, _⟩) rfl (fun K hK => ?_) (AllReadyH.nil)
            go_simp
            (go_at_call 51; (with_reducible refine (KTM.out _ _ _ X_9.out Y_9.out).mono ?_); rintro e w_10 ⟨vx, rfl, hI, hb⟩; obtain ⟨bt, ot, lt, ct, rfl, H0⟩ := hI.open; have B_10 := Lib.hid (FRn.out _ _ B_9.out hb); have Z_10 := Lib.hid (Z_9.out.below hb Z_9.out.lt); have X_10 := Lib.hid (IsI.mk H0.out.1 H0.out.2.1); clear hb hI H0)
            refine hK.out _ _ ?_ (fun hHeld => ?_)
            · (try dsimp only)
              exact KS.out _ B_10.out
            clear hK K
            (try simp only [Act.put, List.setIfInBounds_toArray, List.set_cons_zero, List.set_cons_succ])
            (refine wpAnyH_take (i := 12) (oi := ⟨some 32, _, _, _, _, _⟩) (v := .slice ot lt ct) rfl (by kernel_rfl) (by kernel_rfl) (by kernel_rfl) (fun _ _ _ h => h) (Or.inl ⟨by rfl, fun w _ => by first | rfl | kernel_rfl | (unfold Iv; go_simp; done) | (unfold Iv; simp [go_sem]; done) | (unfold Iv; go_simp; rfl)⟩) (by assumption) ?_)
            (try simp only [Act.put, List.setIfInBounds_toArray, List.set_cons_zero, List.set_cons_succ])
            refine wpAnyH_ready (rs := [13]) (by kernel_rfl) (by simp) ?_
            refine AllReadyH.cons (o := ⟨some 33, _, _, _, _, _⟩) rfl (fun K hK => ?_) (AllReadyH.nil)
            go_simp
            (go_at_call 37; (with_reducible refine (KMK.out _ _ _ (FR9.out _ B_10.out) (isn_of X_10.out)).mono ?_); rintro e w_11 ⟨bm, o1m, l1m, c1m, o2m, l2m, c2m, rfl, hv, hb⟩; have B_11 := Lib.hid (FRn.out _ _ B_10.out hb); have Z_11 := Lib.hid (Z_10.out.below hb Z_10.out.lt); have M_11 := Lib.hid (IsR.mk hv); clear hb hv)
            refine hK.out _ _ ?_ (fun hHeld => ?_)
            · (try dsimp only)
              exact KS.out _ B_11.out
            clear hK K
            (try simp only [Act.put, List.setIfInBounds_toArray, List.set_cons_zero, List.set_cons_succ])
            refine wpAnyH_ready (rs := [15]) (by kernel_rfl) (by simp) ?_
            refine AllReadyH.cons (o := ⟨none, _, _, _, _, _⟩) rfl (fun K hK => ?_) (AllReadyH.nil)
            have c0 := Z_11.out.cell 0
            have c1' := Z_11.out.cell 1
            have c2' := Z_11.out.cell 2
            have f0 := Z_11.out.frozen 0
            have f1 := Z_11.out.frozen 1
            have f2 := Z_11.out.frozen 2
            have ZF := Lib.hid (((Z_11.out.set_ 0 (.bool bm)).set_ 1 (.slice o1m l1m c1m)).set_ 2 (.slice o2m l2m c2m))
            have BF := Lib.hid (FRs.out _ _ (.bool bm) (.slice o1m l1m c1m) (.slice o2m l2m c2m) T_9.out B_11.out Z_11.out)
            have OF := Lib.hid (isr_put M_11.out c0 c1' c2' : IsR (((w_11.setCell ⟨w_3.heap.size, 0, none⟩ (.bool bm)).setCell ⟨w_3.heap.size, 1, none⟩ (.slice o1m l1m c1m)).setCell ⟨w_3.heap.size, 2, none⟩ (.slice o2m l2m c2m)) _ P1 Q1)
            (try unfold Rv)
            go_simp
            refine hK.out _ _ ?_ (fun hHeld => ?_)
            · (try dsimp only)
              exact KS.out _ BF.out
            clear hK K
            generalize ((w_11.setCell ⟨w_3.heap.size, 0, none⟩ (.bool bm)).setCell ⟨w_3.heap.size, 1, none⟩ (.slice o1m l1m c1m)).setCell ⟨w_3.heap.size, 2, none⟩ (.slice o2m l2m c2m) = w_99 at *
            (try simp only [Act.put, List.setIfInBounds_toArray, List.set_cons_zero, List.set_cons_succ])
            refine wpAnyH_done (by kernel_rfl) ?_ _
            (try clear c0 c1' c2' f0 f1 f2)
            go_wp2
            go_meet
            exact ⟨_, bm, o1m, l1m, c1m, o2m, l2m, c2m, rfl, ZF, OF, T_9, BF⟩
        · go_simp
          have Z_12 := Lib.hid (Blk.new w_2 76 #[.bool false, .slice none 0 0, .slice none 0 0])
          have B_12 := Lib.hid (FRn.out _ _ B_2.out (al_below0 (.cells #[.bool false, .slice none 0 0, .slice none 0 0] 76)))
          have T_12 := Lib.hid (FRl.out _ B_2.out)
          have X_12 := Lib.hid (X_2.out.below (al_below0 (.cells #[.bool false, .slice none 0 0, .slice none 0 0] 76)))
          have Y_12 := Lib.hid (Y_2.out.below (al_below0 (.cells #[.bool false, .slice none 0 0, .slice none 0 0] 76)))
          refine hK.out _ _ ?_ (fun hHeld => ?_)
          · (try dsimp only)
            exact KS.out _ B_12.out
          clear hK K
          generalize w_2.alloc (.cells #[.bool false, .slice none 0 0, .slice none 0 0] 76) = w_12 at *
          (try simp only [Act.put, List.setIfInBounds_toArray, List.set_cons_zero, List.set_cons_succ])
          refine wpAnyH_ready (rs := [10]) (by kernel_rfl) (by simp) ?_
          refine AllReadyH.cons (o := ⟨some 30, _, _, _, _, _⟩) rfl (fun K hK => ?_) (AllReadyH.nil)
          go_simp
          (go_at_call 52; (with_reducible refine (KLF.out _ _ Y_12.out).mono ?_); rintro e w_13 ⟨vx, rfl, hI, hb⟩; obtain ⟨bu, ou, lu, cu, rfl, H0⟩ := hI.open; have B_13 := Lib.hid (FRn.out _ _ B_12.out hb); have Z_13 := Lib.hid (Z_12.out.below hb Z_12.out.lt); have X_13 := Lib.hid (X_12.out.below hb); have Y_13 := Lib.hid (IsI.mk H0.out.1 H0.out.2.1); clear hb hI H0)
          refine hK.out _ _ ?_ (fun hHeld => ?_)
          · (try dsimp only)
            exact KS.out _ B_13.out
          clear hK K
          (try simp only [Act.put, List.setIfInBounds_toArray, List.set_cons_zero, List.set_cons_succ])
          refine wpAnyH_ready (rs := [11]) (by kernel_rfl) (by simp) ?_
          refine AllReadyH.cons (o := ⟨some 31, _, _, _, _, _⟩) rfl (fun K hK => ?_) (AllReadyH.nil)
          go_simp
          (go_at_call 51; (with_reducible refine (KTM.out _ _ _ X_13.out Y_13.out).mono ?_); rintro e w_14 ⟨vx, rfl, hI, hb⟩; obtain ⟨bt, ot, lt, ct, rfl, H0⟩ := hI.open; have B_14 := Lib.hid (FRn.out _ _ B_13.out hb); have Z_14 := Lib.hid (Z_13.out.below hb Z_13.out.lt); have X_14 := Lib.hid (IsI.mk H0.out.1 H0.out.2.1); clear hb hI H0)
          refine hK.out _ _ ?_ (fun hHeld => ?_)
          · (try dsimp only)
            exact KS.out _ B_14.out
          clear hK K
          (try simp only [Act.put, List.setIfInBounds_toArray, List.set_cons_zero, List.set_cons_succ])
          (refine wpAnyH_take (i := 12) (oi := ⟨some 32, _, _, _, _, _⟩) (v := .slice ot lt ct) rfl (by kernel_rfl) (by kernel_rfl) (by kernel_rfl) (fun _ _ _ h => h) (Or.inl ⟨by rfl, fun w _ => by first | rfl | kernel_rfl | (unfold Iv; go_simp; done) | (unfold Iv; simp [go_sem]; done) | (unfold Iv; go_simp; rfl)⟩) (by assumption) ?_)
          (try simp only [Act.put, List.setIfInBounds_toArray, List.set_cons_zero, List.set_cons_succ])
          refine wpAnyH_ready (rs := [13]) (by kernel_rfl) (by simp) ?_
          refine AllReadyH.cons (o := ⟨some 33, _, _, _, _, _⟩) rfl (fun K hK => ?_) (AllReadyH.nil)
          go_simp
          (go_at_call 37; (with_reducible refine (KMK.out _ _ _ (FR9.out _ B_14.out) (isn_of X_14.out)).mono ?_); rintro e w_15 ⟨bm, o1m, l1m, c1m, o2m, l2m, c2m, rfl, hv, hb⟩; have B_15 := Lib.hid (FRn.out _ _ B_14.out hb); have Z_15 := Lib.hid (Z_14.out.below hb Z_14.out.lt); have M_15 := Lib.hid (IsR.mk hv); clear hb hv)
          refine hK.out _ _ ?_ (fun hHeld => ?_)
          · (try dsimp only)
            exact KS.out _ B_15.out
          clear hK K
          (try simp only [Act.put, List.setIfInBounds_toArray, List.set_cons_zero, List.set_cons_succ])
          refine wpAnyH_ready (rs := [15]) (by kernel_rfl) (by simp) ?_
          refine AllReadyH.cons (o := ⟨none, _, _, _, _, _⟩) rfl (fun K hK => ?_) (AllReadyH.nil)
          have c0 := Z_15.out.cell 0
          have c1' := Z_15.out.cell 1
          have c2' := Z_15.out.cell 2
          have f0 := Z_15.out.frozen 0
          have f1 := Z_15.out.frozen 1
          have f2 := Z_15.out.frozen 2
          have ZF := Lib.hid (((Z_15.out.set_ 0 (.bool bm)).set_ 1 (.slice o1m l1m c1m)).set_ 2 (.slice o2m l2m c2m))
          have BF := Lib.hid (FRs.out _ _ (.bool bm) (.slice o1m l1m c1m) (.slice o2m l2m c2m) T_12.out B_15.out Z_15.out)
          have OF := Lib.hid (isr_put M_15.out c0 c1' c2' : IsR (((w_15.setCell ⟨w_2.heap.size, 0, none⟩ (.bool bm)).setCell ⟨w_2.heap.size, 1, none⟩ (.slice o1m l1m c1m)).setCell ⟨w_2.heap.size, 2, none⟩ (.slice o2m l2m c2m)) _ P1 Q1)
          (try unfold Rv)
          go_simp
          refine hK.out _ _ ?_ (fun hHeld => ?_)
          · (try dsimp only)
            exact KS.out _ BF.out
          clear hK K
          generalize ((w_15.setCell ⟨w_2.heap.size, 0, none⟩ (.bool bm)).setCell ⟨w_2.heap.size, 1, none⟩ (.slice o1m l1m c1m)).setCell ⟨w_2.heap.size, 2, none⟩ (.slice o2m l2m c2m) = w_99 at *
          (try simp only [Act.put, List.setIfInBounds_toArray, List.set_cons_zero, List.set_cons_succ])
          refine wpAnyH_done (by kernel_rfl) ?_ _
          (try clear c0 c1' c2' f0 f1 f2)
          go_wp2
          go_meet
          exact ⟨_, bm, o1m, l1m, c1m, o2m, l2m, c2m, rfl, ZF, OF, T_12, BF⟩
      · go_simp
        have Z_16 := Lib.hid (Blk.new w_1 76 #[.bool false, .slice none 0 0, .slice none 0 0])
        have B_16 := Lib.hid (FRn.out _ _ B_1.out (al_below0 (.cells #[.bool false, .slice none 0 0, .slice none 0 0] 76)))
        have T_16 := Lib.hid (FRl.out _ B_1.out)
        have X_16 := Lib.hid (X_1.out.below (al_below0 (.cells #[.bool false, .slice none 0 0, .slice none 0 0] 76)))
        refine hK.out _ _ ?_ (fun hHeld => ?_)
        · (try dsimp only)
          exact KS.out _ B_16.out
        clear hK K
        generalize w_1.alloc (.cells #[.bool false, .slice none 0 0, .slice none 0 0] 76) = w_16 at *
        (try simp only [Act.put, List.setIfInBounds_toArray, List.set_cons_zero, List.set_cons_succ])
        refine wpAnyH_ready (rs := [7]) (by kernel_rfl) (by simp) ?_
        refine AllReadyH.cons (o := ⟨some 27, _, _, _, _, _⟩) rfl (fun K hK => ?_) (AllReadyH.nil)
        go_simp
        (go_at_call 48; (with_reducible refine (K1.out _).mono ?_); rintro e w_17 ⟨vx, rfl, hI, hb⟩; obtain ⟨bu, ou, lu, cu, rfl, H0⟩ := hI.open; have B_17 := Lib.hid (FRn.out _ _ B_16.out hb); have Z_17 := Lib.hid (Z_16.out.below hb Z_16.out.lt); have X_17 := Lib.hid (X_16.out.below hb); have Y_17 := Lib.hid (IsI.mk H0.out.1 H0.out.2.1); clear hb hI H0)
        refine hK.out _ _ ?_ (fun hHeld => ?_)
        · (try dsimp only)
          exact KS.out _ B_17.out
        clear hK K
        (try simp only [Act.put, List.setIfInBounds_toArray, List.set_cons_zero, List.set_cons_succ])
        refine wpAnyH_ready (rs := [10]) (by kernel_rfl) (by simp) ?_
        refine AllReadyH.cons (o := ⟨some 30, _, _, _, _, _⟩) rfl (fun K hK => ?_) (AllReadyH.nil)
        go_simp
        (go_at_call 52; (with_reducible refine (KLF.out _ _ Y_17.out).mono ?_); rintro e w_18 ⟨vx, rfl, hI, hb⟩; obtain ⟨bu, ou, lu, cu, rfl, H0⟩ := hI.open; have B_18 := Lib.hid (FRn.out _ _ B_17.out hb); have Z_18 := Lib.hid (Z_17.out.below hb Z_17.out.lt); have X_18 := Lib.hid (X_17.out.below hb); have Y_18 := Lib.hid (IsI.mk H0.out.1 H0.out.2.1); clear hb hI H0)
        refine hK.out _ _ ?_ (fun hHeld => ?_)
        · (try dsimp only)
          exact KS.out _ B_18.out
        clear hK K
        (try simp only [Act.put, List.setIfInBounds_toArray, List.set_cons_zero, List.set_cons_succ])
        refine wpAnyH_ready (rs := [11]) (by kernel_rfl) (by simp) ?_
        refine AllReadyH.cons (o := ⟨some 31, _, _, _, _, _⟩) rfl (fun K hK => ?_) (AllReadyH.nil)
        go_simp
        (go_at_call 51; (with_reducible refine (KTM.out _ _ _ X_18.out Y_18.out).mono ?_); rintro e w_19 ⟨vx, rfl, hI, hb⟩; obtain ⟨bt, ot, lt, ct, rfl, H0⟩ := hI.open; have B_19 := Lib.hid (FRn.out _ _ B_18.out hb); have Z_19 := Lib.hid (Z_18.out.below hb Z_18.out.lt); have X_19 := Lib.hid (IsI.mk H0.out.1 H0.out.2.1); clear hb hI H0)
        refine hK.out _ _ ?_ (fun hHeld => ?_)
        · (try dsimp only)
          exact KS.out _ B_19.out
        clear hK K
        (try simp only [Act.put, List.setIfInBounds_toArray, List.set_cons_zero, List.set_cons_succ])
        (refine wpAnyH_take (i := 12) (oi := ⟨some 32, _, _, _, _, _⟩) (v := .slice ot lt ct) rfl (by kernel_rfl) (by kernel_rfl) (by kernel_rfl) (fun _ _ _ h => h) (Or.inl ⟨by rfl, fun w _ => by first | rfl | kernel_rfl | (unfold Iv; go_simp; done) | (unfold Iv; simp [go_sem]; done) | (unfold Iv; go_simp; rfl)⟩) (by assumption) ?_)
        (try simp only [Act.put, List.setIfInBounds_toArray, List.set_cons_zero, List.set_cons_succ])
        refine wpAnyH_ready (rs := [13]) (by kernel_rfl) (by simp) ?_
        refine AllReadyH.cons (o := ⟨some 33, _, _, _, _, _⟩) rfl (fun K hK => ?_) (AllReadyH.nil)
        go_simp
        (go_at_call 37; (with_reducible refine (KMK.out _ _ _ (FR9.out _ B_19.out) (isn_of X_19.out)).mono ?_); rintro e w_20 ⟨bm, o1m, l1m, c1m, o2m, l2m, c2m, rfl, hv, hb⟩; have B_20 := Lib.hid (FRn.out _ _ B_19.out hb); have Z_20 := Lib.hid (Z_19.out.below hb Z_19.out.lt); have M_20 := Lib.hid (IsR.mk hv); clear hb hv)
        refine hK.out _ _ ?_ (fun hHeld => ?_)
        · (try dsimp only)
          exact KS.out _ B_20.out
        clear hK K
        (try simp only [Act.put, List.setIfInBounds_toArray, List.set_cons_zero, List.set_cons_succ])
        refine wpAnyH_ready (rs := [15]) (by kernel_rfl) (by simp) ?_
        refine AllReadyH.cons (o := ⟨none, _, _, _, _, _⟩) rfl (fun K hK => ?_) (AllReadyH.nil)
        have c0 := Z_20.out.cell 0
        have c1' := Z_20.out.cell 1
        have c2' := Z_20.out.cell 2
        have f0 := Z_20.out.frozen 0
        have f1 := Z_20.out.frozen 1
        have f2 := Z_20.out.frozen 2
        have ZF := Lib.hid (((Z_20.out.set_ 0 (.bool bm)).set_ 1 (.slice o1m l1m c1m)).set_ 2 (.slice o2m l2m c2m))
        have BF := Lib.hid (FRs.out _ _ (.bool bm) (.slice o1m l1m c1m) (.slice o2m l2m c2m) T_16.out B_20.out Z_20.out)
        have OF := Lib.hid (isr_put M_20.out c0 c1' c2' : IsR (((w_20.setCell ⟨w_1.heap.size, 0, none⟩ (.bool bm)).setCell ⟨w_1.heap.size, 1, none⟩ (.slice o1m l1m c1m)).setCell ⟨w_1.heap.size, 2, none⟩ (.slice o2m l2m c2m)) _ P1 Q1)
        (try unfold Rv)
        go_simp
        refine hK.out _ _ ?_ (fun hHeld => ?_)
        · (try dsimp only)
          exact KS.out _ BF.out
        clear hK K
        generalize ((w_20.setCell ⟨w_1.heap.size, 0, none⟩ (.bool bm)).setCell ⟨w_1.heap.size, 1, none⟩ (.slice o1m l1m c1m)).setCell ⟨w_1.heap.size, 2, none⟩ (.slice o2m l2m c2m) = w_99 at *
        (try simp only [Act.put, List.setIfInBounds_toArray, List.set_cons_zero, List.set_cons_succ])
        refine wpAnyH_done (by kernel_rfl) ?_ _
        (try clear c0 c1' c2' f0 f1 f2)
        go_wp2
        go_meet
        exact ⟨_, bm, o1m, l1m, c1m, o2m, l2m, c2m, rfl, ZF, OF, T_16, BF⟩
    · go_simp
      have Z_21 := Lib.hid (Blk.new w_0 76 #[.bool false, .slice none 0 0, .slice none 0 0])
      have B_21 := Lib.hid (FRn.out _ _ B_0.out (al_below0 (.cells #[.bool false, .slice none 0 0, .slice none 0 0] 76)))
      have T_21 := Lib.hid (FRl.out _ B_0.out)
      refine hK.out _ _ ?_ (fun hHeld => ?_)
      · (try dsimp only)
        exact KS.out _ B_21.out
      clear hK K
      generalize w_0.alloc (.cells #[.bool false, .slice none 0 0, .slice none 0 0] 76) = w_21 at *
      (try simp only [Act.put, List.setIfInBounds_toArray, List.set_cons_zero, List.set_cons_succ])
      refine wpAnyH_ready (rs := [6]) (by kernel_rfl) (by simp) ?_
      refine AllReadyH.cons (o := ⟨some 26, _, _, _, _, _⟩) rfl (fun K hK => ?_) (AllReadyH.nil)
      go_simp
      (go_at_call 48; (with_reducible refine (KN3.out _).mono ?_); rintro e w_22 ⟨vx, rfl, hI, hb⟩; obtain ⟨bx, ox, lx, cx, rfl, H0⟩ := hI.open; have B_22 := Lib.hid (FRn.out _ _ B_21.out hb); have Z_22 := Lib.hid (Z_21.out.below hb Z_21.out.lt); have X_22 := Lib.hid (IsI.mk H0.out.1 H0.out.2.1); clear hb hI H0)
      refine hK.out _ _ ?_ (fun hHeld => ?_)
      · (try dsimp only)
        exact KS.out _ B_22.out
      clear hK K
      (try simp only [Act.put, List.setIfInBounds_toArray, List.set_cons_zero, List.set_cons_succ])
      refine wpAnyH_ready (rs := [7]) (by kernel_rfl) (by simp) ?_
      refine AllReadyH.cons (o := ⟨some 27, _, _, _, _, _⟩) rfl (fun K hK => ?_) (AllReadyH.nil)
      go_simp
      (go_at_call 48; (with_reducible refine (K1.out _).mono ?_); rintro e w_23 ⟨vx, rfl, hI, hb⟩; obtain ⟨bu, ou, lu, cu, rfl, H0⟩ := hI.open; have B_23 := Lib.hid (FRn.out _ _ B_22.out hb); have Z_23 := Lib.hid (Z_22.out.below hb Z_22.out.lt); have X_23 := Lib.hid (X_22.out.below hb); have Y_23 := Lib.hid (IsI.mk H0.out.1 H0.out.2.1); clear hb hI H0)
      refine hK.out _ _ ?_ (fun hHeld => ?_)
      · (try dsimp only)
        exact KS.out _ B_23.out
      clear hK K
      (try simp only [Act.put, List.setIfInBounds_toArray, List.set_cons_zero, List.set_cons_succ])
      refine wpAnyH_ready (rs := [10]) (by kernel_rfl) (by simp) ?_
      refine AllReadyH.cons (o := ⟨some 30, _, _, _, _, _⟩) rfl (fun K hK => ?_) (AllReadyH.nil)
      go_simp
      (go_at_call 52; (with_reducible refine (KLF.out _ _ Y_23.out).mono ?_); rintro e w_24 ⟨vx, rfl, hI, hb⟩; obtain ⟨bu, ou, lu, cu, rfl, H0⟩ := hI.open; have B_24 := Lib.hid (FRn.out _ _ B_23.out hb); have Z_24 := Lib.hid (Z_23.out.below hb Z_23.out.lt); have X_24 := Lib.hid (X_23.out.below hb); have Y_24 := Lib.hid (IsI.mk H0.out.1 H0.out.2.1); clear hb hI H0)
      refine hK.out _ _ ?_ (fun hHeld => ?_)
      · (try dsimp only)
        exact KS.out _ B_24.out
      clear hK K
      (try simp only [Act.put, List.setIfInBounds_toArray, List.set_cons_zero, List.set_cons_succ])
      refine wpAnyH_ready (rs := [11]) (by kernel_rfl) (by simp) ?_
      refine AllReadyH.cons (o := ⟨some 31, _, _, _, _, _⟩) rfl (fun K hK => ?_) (AllReadyH.nil)
      go_simp
      (go_at_call 51; (with_reducible refine (KTM.out _ _ _ X_24.out Y_24.out).mono ?_); rintro e w_25 ⟨vx, rfl, hI, hb⟩; obtain ⟨bt, ot, lt, ct, rfl, H0⟩ := hI.open; have B_25 := Lib.hid (FRn.out _ _ B_24.out hb); have Z_25 := Lib.hid (Z_24.out.below hb Z_24.out.lt); have X_25 := Lib.hid (IsI.mk H0.out.1 H0.out.2.1); clear hb hI H0)
      refine hK.out _ _ ?_ (fun hHeld => ?_)
      · (try dsimp only)
        exact KS.out _ B_25.out
      clear hK K
      (try simp only [Act.put, List.setIfInBounds_toArray, List.set_cons_zero, List.set_cons_succ])
      (refine wpAnyH_take (i := 12) (oi := ⟨some 32, _, _, _, _, _⟩) (v := .slice ot lt ct) rfl (by kernel_rfl) (by kernel_rfl) (by kernel_rfl) (fun _ _ _ h => h) (Or.inl ⟨by rfl, fun w _ => by first | rfl | kernel_rfl | (unfold Iv; go_simp; done) | (unfold Iv; simp [go_sem]; done) | (unfold Iv; go_simp; rfl)⟩) (by assumption) ?_)
      (try simp only [Act.put, List.setIfInBounds_toArray, List.set_cons_zero, List.set_cons_succ])
      refine wpAnyH_ready (rs := [13]) (by kernel_rfl) (by simp) ?_
      refine AllReadyH.cons (o := ⟨some 33, _, _, _, _, _⟩) rfl (fun K hK => ?_) (AllReadyH.nil)
      go_simp
      (go_at_call 37; (with_reducible refine (KMK.out _ _ _ (FR9.out _ B_25.out) (isn_of X_25.out)).mono ?_); rintro e w_26 ⟨bm, o1m, l1m, c1m, o2m, l2m, c2m, rfl, hv, hb⟩; have B_26 := Lib.hid (FRn.out _ _ B_25.out hb); have Z_26 := Lib.hid (Z_25.out.below hb Z_25.out.lt); have M_26 := Lib.hid (IsR.mk hv); clear hb hv)
      refine hK.out _ _ ?_ (fun hHeld => ?_)
      · (try dsimp only)
        exact KS.out _ B_26.out
      clear hK K
      (try simp only [Act.put, List.setIfInBounds_toArray, List.set_cons_zero, List.set_cons_succ])
      refine wpAnyH_ready (rs := [15]) (by kernel_rfl) (by simp) ?_
      refine AllReadyH.cons (o := ⟨none, _, _, _, _, _⟩) rfl (fun K hK => ?_) (AllReadyH.nil)
      have c0 := Z_26.out.cell 0
      have c1' := Z_26.out.cell 1
      have c2' := Z_26.out.cell 2
      have f0 := Z_26.out.frozen 0
      have f1 := Z_26.out.frozen 1
      have f2 := Z_26.out.frozen 2
      have ZF := Lib.hid (((Z_26.out.set_ 0 (.bool bm)).set_ 1 (.slice o1m l1m c1m)).set_ 2 (.slice o2m l2m c2m))
      have BF := Lib.hid (FRs.out _ _ (.bool bm) (.slice o1m l1m c1m) (.slice o2m l2m c2m) T_21.out B_26.out Z_26.out)
      have OF := Lib.hid (isr_put M_26.out c0 c1' c2' : IsR (((w_26.setCell ⟨w_0.heap.size, 0, none⟩ (.bool bm)).setCell ⟨w_0.heap.size, 1, none⟩ (.slice o1m l1m c1m)).setCell ⟨w_0.heap.size, 2, none⟩ (.slice o2m l2m c2m)) _ P1 Q1)
      (try unfold Rv)
      go_simp
      refine hK.out _ _ ?_ (fun hHeld => ?_)
      · (try dsimp only)
        exact KS.out _ BF.out
      clear hK K
      generalize ((w_26.setCell ⟨w_0.heap.size, 0, none⟩ (.bool bm)).setCell ⟨w_0.heap.size, 1, none⟩ (.slice o1m l1m c1m)).setCell ⟨w_0.heap.size, 2, none⟩ (.slice o2m l2m c2m) = w_99 at *
      (try simp only [Act.put, List.setIfInBounds_toArray, List.set_cons_zero, List.set_cons_succ])
      refine wpAnyH_done (by kernel_rfl) ?_ _
      (try clear c0 c1' c2' f0 f1 f2)
      go_wp2
      go_meet
      exact ⟨_, bm, o1m, l1m, c1m, o2m, l2m, c2m, rfl, ZF, OF, T_21, BF⟩
  case rest =>
    as_aux_lemma =>
    obtain ⟨T1, bm, o1m, l1m, c1m, o2m, l2m, c2m, rfl, Z1, M1, T1L, HF1⟩ := hcut
    obtain ⟨w2, hw2⟩ : ∃ v, v = wc := ⟨_, rfl⟩
    rw [← hw2] at Z1 M1 HF1 ⊢
    clear hw2 KS e1 e2 e3
    have KZ : Hid (∀ V, Blk V T1 76 #[.bool bm, .slice o1m l1m c1m, .slice o2m l2m c2m] → V.cell? ⟨T1, 0, none⟩ = some (.bool bm) ∧ V.cell? ⟨T1, 1, none⟩ = some (.slice o1m l1m c1m) ∧ V.cell? ⟨T1, 2, none⟩ = some (.slice o2m l2m c2m)) := Lib.hid (fun V h => ⟨h.cell 0, h.cell 1, h.cell 2⟩)
    go_upto_region 4 with fail
    have hd := below_drw (Below.refl w2.heap.size w2) 1
    have B_0 : Hid (FR w2.drew) := Lib.hid (FRn.out _ _ HF1.out hd)
    have Z_0 : Hid (Blk w2.drew T1 76 #[.bool bm, .slice o1m l1m c1m, .slice o2m l2m c2m]) := Lib.hid (Z1.out.below hd Z1.out.lt)
    have M_0 : Hid (IsR w2.drew (Rv bm (.slice o1m l1m c1m) (.slice o2m l2m c2m)) P1 Q1) := Lib.hid (M1.out.below hd)
    clear hd
    refine wp_region_held_drew (S := fun V => V.cell? ⟨T1, 0, none⟩ = some (.bool bm) ∧ V.cell? ⟨T1, 1, none⟩ = some (.slice o1m l1m c1m) ∧ V.cell? ⟨T1, 2, none⟩ = some (.slice o2m l2m c2m)) (by kernel_rfl) ?_ (fun hHeld => ?_)
    · exact KZ.out _ Z_0.out
    have hHd := hHeld
    generalize w2.drew = w_0 at *
    (refine wpAnyH_take (i := 0) (oi := ⟨some 34, _, _, _, _, _⟩) (v := ?v0_b1) rfl (by kernel_rfl) (by kernel_rfl) (by kernel_rfl) (fun _ _ _ h => h) (Or.inl ⟨by rfl, ?hy0_b1⟩) (by assumption) ?rest0_b1; (case hy0_b1 => ((intro w hSw); (try dsimp only at hSw); go_simp; first | done | (with_reducible rfl))))
    (try simp only [Act.put, List.setIfInBounds_toArray, List.set_cons_zero, List.set_cons_succ])
    (refine wpAnyH_take (i := 1) (oi := ⟨some 35, _, _, _, _, _⟩) (v := ?v1_b2) rfl (by kernel_rfl) (by kernel_rfl) (by kernel_rfl) (fun _ _ _ h => h) (Or.inl ⟨by rfl, ?hy1_b2⟩) (by assumption) ?rest1_b2; (case hy1_b2 => ((intro w hSw); (try dsimp only at hSw); go_simp; first | done | (with_reducible rfl))))
    (try simp only [Act.put, List.setIfInBounds_toArray, List.set_cons_zero, List.set_cons_succ])
    (refine wpAnyH_take (i := 2) (oi := ⟨some 36, _, _, _, _, _⟩) (v := ?v2_b3) rfl (by kernel_rfl) (by kernel_rfl) (by kernel_rfl) (fun _ _ _ h => h) (Or.inl ⟨by rfl, ?hy2_b3⟩) (by assumption) ?rest2_b3; (case hy2_b3 => ((intro w hSw); (try dsimp only at hSw); go_simp; first | done | (with_reducible rfl))))
    (try simp only [Act.put, List.setIfInBounds_toArray, List.set_cons_zero, List.set_cons_succ])
    refine wpAnyH_ready (rs := [3]) (by kernel_rfl) (by simp) ?_
    refine AllReadyH.cons (o := ⟨some 37, _, _, _, _, _⟩) rfl (fun K hK => ?_) (AllReadyH.nil)
    go_simp
    (go_at_call 54; (with_reducible refine (KO2.out _).mono ?_); rintro e w_27 ⟨ba, o1a, l1a, c1a, o2a, l2a, c2a, rfl, hv, hb⟩; have B_27 := Lib.hid (FRn.out _ _ B_0.out hb); have Z_27 := Lib.hid (Z_0.out.below hb Z_0.out.lt); have M_27 := Lib.hid (M_0.out.below hb); have A_27 := Lib.hid (IsR.mk hv); clear hb hv)
    refine hK.out _ _ ?_ (fun hHeld => ?_)
    · (try dsimp only)
      exact KZ.out _ Z_27.out
    clear hK K
    (try simp only [Act.put, List.setIfInBounds_toArray, List.set_cons_zero, List.set_cons_succ])
    refine wpAnyH_ready (rs := [4]) (by kernel_rfl) (by simp) ?_
    refine AllReadyH.cons (o := ⟨some 38, _, _, _, _, _⟩) rfl (fun K hK => ?_) (AllReadyH.nil)
    go_simp
    (go_at_call 53; (with_reducible refine (KPL.out _ _ _ M_27.out A_27.out).mono ?_); rintro e w_28 ⟨bp, o1p, l1p, c1p, o2p, l2p, c2p, rfl, hv, hb⟩; have B_28 := Lib.hid (FRn.out _ _ B_27.out hb); have Z_28 := Lib.hid (Z_27.out.below hb Z_27.out.lt); have M_28 := Lib.hid (M_27.out.below hb); have A_28 := Lib.hid (A_27.out.below hb); have R_28 := Lib.hid (IsR.mk hv); clear hb hv)
    refine hK.out _ _ ?_ (fun hHeld => ?_)
    · (try dsimp only)
      exact KZ.out _ Z_28.out
    clear hK K
    (try simp only [Act.put, List.setIfInBounds_toArray, List.set_cons_zero, List.set_cons_succ])
    refine wpAnyH_ready (rs := [5]) (by kernel_rfl) (by simp) ?_
    refine AllReadyH.cons (o := ⟨none, _, _, _, _, _⟩) rfl (fun K hK => ?_) (AllReadyH.nil)
    have rb := (FRb.out _ B_28.out).2
    have c0 := rb.cell 0
    have c1' := rb.cell 1
    have c2' := rb.cell 2
    have f0 := rb.frozen 0
    have f1 := rb.frozen 1
    have f2 := rb.frozen 2
    have hne : T1 ≠ w.heap.size := by have := T1L.out; omega
    have RF := Lib.hid (((rb.set_ 0 (.bool bp)).set_ 1 (.slice o1p l1p c1p)).set_ 2 (.slice o2p l2p c2p))
    have ZF := Lib.hid (((Z_28.out.far (p := ⟨w.heap.size, 0, none⟩) hne (.bool bp)).far (p := ⟨w.heap.size, 1, none⟩) hne (.slice o1p l1p c1p)).far (p := ⟨w.heap.size, 2, none⟩) hne (.slice o2p l2p c2p))
    have BW := Lib.hid ((((FRb.out _ B_28.out).1.setCell (p := ⟨w.heap.size, 0, none⟩) (Nat.le_refl _) (.bool bp)).setCell (p := ⟨w.heap.size, 1, none⟩) (Nat.le_refl _) (.slice o1p l1p c1p)).setCell (p := ⟨w.heap.size, 2, none⟩) (Nat.le_refl _) (.slice o2p l2p c2p))
    have OF := Lib.hid (isr_put R_28.out c0 c1' c2' : IsR (((w_28.setCell ⟨w.heap.size, 0, none⟩ (.bool bp)).setCell ⟨w.heap.size, 1, none⟩ (.slice o1p l1p c1p)).setCell ⟨w.heap.size, 2, none⟩ (.slice o2p l2p c2p)) _ P Q)
    clear rb hne
    (try unfold Rv)
    go_simp
    refine hK.out _ _ ?_ (fun hHeld => ?_)
    · (try dsimp only)
      exact KZ.out _ ZF.out
    clear hK K
    (try simp only [Act.put, List.setIfInBounds_toArray, List.set_cons_zero, List.set_cons_succ])
    refine wpAnyH_done (by kernel_rfl) ?_ _
    (try clear c0 c1' c2' f0 f1 f2)
    have r0 := RF.out.cell 0
    have r1 := RF.out.cell 1
    have r2 := RF.out.cell 2
    go_wp2
    refine bodyPost_ret (v := Rv bp (.slice o1p l1p c1p) (.slice o2p l2p c2p)) (by simp [results, Tryz.results34, go_sem, r0, r1, r2]) rfl ⟨P, Q, _, rfl, OF.out, BW.out, QE.out⟩
end Go.Proofs.YtldchepfcgbpiaaGreat
