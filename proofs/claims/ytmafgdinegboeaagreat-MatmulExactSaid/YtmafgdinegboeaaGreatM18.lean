/-
  
  
  
  
  
  
  
  
-/
import Derived.BigQuiet
import Derived.Test.YtmafgdinegboeaaGreatM02
import Derived.Test.YtmafgdinegboeaaGreatM04
import Derived.Test.YtmafgdinegboeaaGreatM05
import Derived.Test.YtmafgdinegboeaaGreatM07
import Derived.Test.YtmafgdinegboeaaGreatM08
import Derived.Test.YtmafgdinegboeaaGreatM11
import Derived.Test.YtmafgdinegboeaaGreatM15
import Derived.Test.YtmafgdinegboeaaGreatM16
import Derived.Test.YtmafgdinegboeaaGreatM17
namespace Go.Proofs.YtmafgdinegboeaaGreat
open Go Go.RowKit Go.Shelf

theorem getD_past {l : List Int} {k : Nat} (h : l.length ≤ k) : l.getD k 0 = 0 := by simp [List.getD, List.getElem?_eq_none h]
def stT : List Int → Int → Int → List Int
  | [], _, B => [prod [], prod [B]]
  | _ :: r, A, B => prod (r ++ [A, B]) :: stT r A B
theorem stT_len : ∀ (p : List Int) (A B : Int), (stT p A B).length = p.length + 2
  | [], _, _ => rfl
  | _ :: r, A, B => by show (stT r A B).length + 1 = _; rw [stT_len r A B]; rfl
theorem turn_lists (p : List Int) (A B : Int) (hp : p.length ≤ 2) : trl (p ++ [A, B]) (ltc (p.length + 2)) = p ++ [B, A] ∧ trl (stl (p ++ [A, B])) (ltc (p.length + 2)) = stT p A B := by
  match p, hp with
  | [], _ => exact ⟨rfl, rfl⟩
  | [_], _ => exact ⟨rfl, rfl⟩
  | [_, _], _ => exact ⟨rfl, rfl⟩
theorem dot_turn {A B : Nat} {i j : Nat} (hi : i < A) (hj : j < B) : ∀ (p : List Int) (x : Nat), pos p → (x : Int) < prod p →
    dot (stT p A B) (atl (p ++ [(B : Int), (A : Int)]) ((x * (B * A) + (j * A + i) : Nat) : Int)) = ((x * (A * B) + (i * B + j) : Nat) : Int)
  | [], x, _, hx => by
    have hx0 : x = 0 := by simp [prod] at hx; omega
    subst hx0
    rw [Nat.zero_mul, Nat.zero_add, Nat.zero_mul, Nat.zero_add]
    show dot (stT [] A B) (atl [(B : Int), (A : Int)] ((j * A + i : Nat) : Int)) = _
    rw [atl_two hj hi]
    show (j : Int) * prod [] + ((i : Int) * prod [(B : Int)] + 0) = _
    show (j : Int) * 1 + ((i : Int) * ((B : Int) * 1) + 0) = _
    rw [Int.mul_one, Int.mul_one, Int.natCast_add, Int.natCast_mul]; omega
  | d :: r, x, hp, hx => by
    have hr : pos r := fun y hy => hp y (List.mem_cons_of_mem _ hy)
    have hpr := prod_pos hr
    obtain ⟨K, hK⟩ := Int.eq_ofNat_of_zero_le (show 0 ≤ prod r by omega)
    have hK1 : 0 < K := by omega
    have hq : j * A + i < B * A := row_lt hj hi
    obtain ⟨Q, hQ⟩ : ∃ Q, Q = j * A + i := ⟨_, rfl⟩
    have hx0 : x % K < K := Nat.mod_lt _ hK1
    have hm := dot_turn hi hj r (x % K) hr (by rw [hK]; omega)
    rw [← hQ] at hq hm ⊢
    have hP : prod (r ++ [(B : Int), (A : Int)]) = ((K * (B * A) : Nat) : Int) := by
      rw [prod_app, hK]; show (K : Int) * ((B : Int) * ((A : Int) * 1)) = _; push_cast; rw [Int.mul_one]
    have hP2 : prod (r ++ [(A : Int), (B : Int)]) = ((K * (A * B) : Nat) : Int) := by
      rw [prod_app, hK]; show (K : Int) * ((A : Int) * ((B : Int) * 1)) = _; push_cast; rw [Int.mul_one]
    have hpos : 0 < K * (B * A) := Nat.mul_pos hK1 (by omega)
    have hs : x * (B * A) + Q = x / K * (K * (B * A)) + (x % K * (B * A) + Q) := by
      have e : x * (B * A) = (x / K * K + x % K) * (B * A) := by rw [Nat.mul_comm (x / K) K, Nat.div_add_mod]
      rw [e, Nat.add_mul, Nat.mul_assoc, Nat.add_assoc]
    have hlt : x % K * (B * A) + Q < K * (B * A) := by
      have : (x % K + 1) * (B * A) ≤ K * (B * A) := Nat.mul_le_mul_right _ hx0
      rw [Nat.add_mul, Nat.one_mul] at this; omega
    have e1 : ((x * (B * A) + Q : Nat) : Int) / ((K * (B * A) : Nat) : Int) = ((x / K : Nat) : Int) := by
      rw [hs, ← Int.natCast_ediv, Nat.add_comm, Nat.add_mul_div_right _ _ hpos, Nat.div_eq_of_lt hlt, Nat.zero_add]
    have e2 : ((x * (B * A) + Q : Nat) : Int) % ((K * (B * A) : Nat) : Int) = ((x % K * (B * A) + Q : Nat) : Int) := by
      rw [hs, ← Int.natCast_emod, Nat.add_comm, Nat.add_mul_mod_self_right, Nat.mod_eq_of_lt hlt]
    show ((x * (B * A) + Q : Nat) : Int) / prod (r ++ [(B : Int), (A : Int)]) * prod (r ++ [(A : Int), (B : Int)]) + dot (stT r A B) (atl (r ++ [(B : Int), (A : Int)]) (((x * (B * A) + Q : Nat) : Int) % prod (r ++ [(B : Int), (A : Int)]))) = _
    rw [hP, e1, e2, hm, hP2]
    have e : x * (A * B) = (x / K * K + x % K) * (A * B) := by rw [Nat.mul_comm (x / K) K, Nat.div_add_mod]
    rw [e, Nat.add_mul, Nat.mul_assoc]
    push_cast
    omega
def tnn (K A B : Nat) (ds : List Int) : List Int := vls (fun k => ds.getD (k / (B * A) * (A * B) + (k % (B * A) % A * B + k % (B * A) / A)) 0) (K * (B * A))
theorem tnn_len (K A B : Nat) (ds : List Int) : (tnn K A B ds).length = K * (B * A) := vls_len _ _
theorem blk_lt {K M x q : Nat} (hx : x < K) (hq : q < M) : x * M + q < K * M := by
  have : (x + 1) * M ≤ K * M := Nat.mul_le_mul_right M hx
  rw [Nat.add_mul, Nat.one_mul] at this; omega
theorem tnn_get {K A B x j i : Nat} (ds : List Int) (hx : x < K) (hj : j < B) (hi : i < A) : (tnn K A B ds).getD (x * (B * A) + (j * A + i)) 0 = ds.getD (x * (A * B) + (i * B + j)) 0 := by
  have hq : j * A + i < B * A := row_lt hj hi
  unfold tnn
  rw [vls_getD (blk_lt hx hq)]
  have e1 : (x * (B * A) + (j * A + i)) / (B * A) = x := by rw [Nat.add_comm, Nat.add_mul_div_right _ _ (by omega), Nat.div_eq_of_lt hq, Nat.zero_add]
  have e2 : (x * (B * A) + (j * A + i)) % (B * A) = j * A + i := by rw [Nat.add_comm, Nat.add_mul_mod_self_right, Nat.mod_eq_of_lt hq]
  have e3 : (j * A + i) / A = j := by rw [Nat.add_comm, Nat.add_mul_div_right _ _ (by omega), Nat.div_eq_of_lt hi, Nat.zero_add]
  have e4 : (j * A + i) % A = i := by rw [Nat.add_comm, Nat.add_mul_mod_self_right, Nat.mod_eq_of_lt hi]
  rw [e1, e2, e3, e4]
theorem split3 {K B A k : Nat} (h : k < K * (B * A)) : ∃ x j i, x < K ∧ j < B ∧ i < A ∧ k = x * (B * A) + (j * A + i) := by
  have hM : 0 < B * A := by
    rcases Nat.eq_zero_or_pos (B * A) with e | e
    · rw [e, Nat.mul_zero] at h; omega
    · exact e
  have hA : 0 < A := by
    rcases Nat.eq_zero_or_pos A with e | e
    · rw [e, Nat.mul_zero] at hM; omega
    · exact e
  have h1 : k % (B * A) < B * A := Nat.mod_lt _ hM
  refine ⟨k / (B * A), k % (B * A) / A, k % (B * A) % A, Nat.div_lt_of_lt_mul (by rw [Nat.mul_comm]; exact h), Nat.div_lt_of_lt_mul (by rw [Nat.mul_comm A B]; exact h1), Nat.mod_lt _ hA, ?_⟩
  have e1 : k % (B * A) / A * A + k % (B * A) % A = k % (B * A) := by rw [Nat.mul_comm]; exact Nat.div_add_mod _ _
  have e2 : k / (B * A) * (B * A) + k % (B * A) = k := by rw [Nat.mul_comm]; exact Nat.div_add_mod _ _
  rw [e1, e2]
theorem cps_tnn {p : List Int} {A B K : Nat} {ds : List Int} (hp : pos p) (hK : prod p = (K : Int)) : cps (p ++ [(B : Int), (A : Int)]) (stT p A B) 0 ds (K * (B * A)) = tnn K A B ds := by
  refine ext_getD (by rw [cps_len, tnn_len]) (fun k hk => ?_)
  rw [cps_len] at hk
  rw [cps_getD hk]
  obtain ⟨x, j, i, hx, hj, hi, rfl⟩ := split3 hk
  rw [dot_turn hi hj p x hp (by rw [hK]; omega), tnn_get _ hx hj hi, Int.zero_add, Int.toNat_natCast]
theorem far_turn {A B : Nat} (hA : 1 ≤ A) (hB : 1 ≤ B) : ∀ (p : List Int) (K : Nat), pos p → prod p = (K : Int) → far (stT p A B) (p ++ [(B : Int), (A : Int)]) = ((K * (A * B) : Nat) : Int) - 1
  | [], K, _, hK => by
    have hK1 : K = 1 := by simp [prod] at hK; omega
    subst hK1
    show ((B : Int) - 1) * 1 + (((A : Int) - 1) * ((B : Int) * 1) + 0) = _
    have e : ((A : Int) - 1) * ((B : Int) * 1) = ((A * B : Nat) : Int) - B := by rw [Int.mul_one, Int.sub_mul, Int.one_mul]; push_cast; rfl
    rw [e]; push_cast; omega
  | d :: r, K, hp, hK => by
    have hr : pos r := fun y hy => hp y (List.mem_cons_of_mem _ hy)
    have hpr := prod_pos hr
    obtain ⟨L, hL⟩ := Int.eq_ofNat_of_zero_le (show 0 ≤ prod r by omega)
    have hP2 : prod (r ++ [(A : Int), (B : Int)]) = ((L * (A * B) : Nat) : Int) := by
      rw [prod_app, hL]; show (L : Int) * ((A : Int) * ((B : Int) * 1)) = _; push_cast; rw [Int.mul_one]
    have ih := far_turn hA hB r L hr hL
    have hdK : d * (L : Int) = K := by rw [← hK, ← hL]; rfl
    show (d - 1) * prod (r ++ [(A : Int), (B : Int)]) + far (stT r A B) (r ++ [(B : Int), (A : Int)]) = _
    rw [hP2, ih, Int.sub_mul, Int.one_mul]
    have e : d * ((L * (A * B) : Nat) : Int) = ((K * (A * B) : Nat) : Int) := by
      push_cast; rw [← Int.mul_assoc, hdK]
    rw [e]; omega
theorem turn_parts {a : List Int} (ma : may a = true) (h2 : 2 ≤ a.length) : ∃ (p : List Int) (A B K : Nat), a = p ++ [(A : Int), (B : Int)] ∧ prod p = (K : Int) ∧ pos p ∧ (1 ≤ A ∧ 1 ≤ B ∧ 1 ≤ K) ∧ prod a = ((K * (A * B) : Nat) : Int) ∧ K * (A * B) ≤ 65536 ∧ p.length ≤ 2 := by
  obtain ⟨d1, _⟩ := may_dim ma (i := a.length - 1) (by omega)
  obtain ⟨d2, _⟩ := may_dim ma (i := a.length - 2) (by omega)
  have l4 := may_len ma
  obtain ⟨B, hB⟩ := Int.eq_ofNat_of_zero_le (show 0 ≤ a.getD (a.length - 1) 0 by omega)
  obtain ⟨A, hA⟩ := Int.eq_ofNat_of_zero_le (show 0 ≤ a.getD (a.length - 2) 0 by omega)
  have e1 := take_last (a := a) (n := a.length - 1) (by omega)
  have e2 := take_last (a := a.take (a.length - 1)) (n := a.length - 2) (by simp; omega)
  rw [take_getD (by omega), List.take_take, show min (a.length - 2) (a.length - 1) = a.length - 2 by omega, hA] at e2
  rw [hB, e2] at e1
  have hp : pos (a.take (a.length - 2)) := fun y hy => may_pos ma y (List.mem_of_mem_take hy)
  have hpp := prod_pos hp
  obtain ⟨K, hK⟩ := Int.eq_ofNat_of_zero_le (show 0 ≤ prod (a.take (a.length - 2)) by omega)
  have hpr := may_prod ma
  have e3 : a = a.take (a.length - 2) ++ [(A : Int), (B : Int)] := by
    conv => lhs; rw [e1]
    rw [List.append_assoc]; rfl
  have e4 : prod a = ((K * (A * B) : Nat) : Int) := by
    rw [e3, prod_app, hK]; show (K : Int) * ((A : Int) * ((B : Int) * 1)) = _; push_cast; rw [Int.mul_one]
  exact ⟨a.take (a.length - 2), A, B, K, e3, hK, hp, by omega, e4, by omega, by simp; omega⟩
theorem prod_two (p : List Int) (A B K : Nat) (hK : prod p = (K : Int)) : prod (p ++ [(A : Int), (B : Int)]) = ((K * (A * B) : Nat) : Int) := by
  rw [prod_app, hK]; show (K : Int) * ((A : Int) * ((B : Int) * 1)) = _; push_cast; rw [Int.mul_one]
theorem may_swap {p : List Int} {x y : Int} (h : may (p ++ [x, y]) = true) : may (p ++ [y, x]) = true := by
  obtain ⟨h1, h2, h3⟩ := (may_iff _).1 h
  refine (may_iff _).2 ⟨by simpa using h1, fun d hd => h2 d ?_, ?_⟩
  · simp only [List.mem_append, List.mem_cons, List.not_mem_nil, or_false] at hd ⊢
    rcases hd with a | b | c
    · exact .inl a
    · exact .inr (.inr b)
    · exact .inr (.inl c)
  · rw [prod_app] at h3 ⊢
    show prod p * (y * (x * 1)) ≤ 65536
    have h4 : prod p * (x * (y * 1)) ≤ 65536 := h3
    rwa [Int.mul_one, Int.mul_comm y x, ← Int.mul_one y]
end Go.Proofs.YtmafgdinegboeaaGreat
namespace Go.Proofs.YtmafgdinegboeaaGreat
open Go Go.RowKit Go.Shelf

theorem own_two {X : World} {b base n : Nat} {e : TypeId} {v : Value} {xs : List Value} {cs : Array Value} (hO : X.ownsRow base e 1 v n xs) (hb : Blk X b 26 cs) (hne : e ≠ 26) (u1 u2 : Value) :
    ((X.setCell ⟨b, 0, none⟩ u1).setCell ⟨b, 1, none⟩ u2).ownsRow base e 1 v n xs := by
  have h1 := hO.kept (grown_set X ⟨b, 0, none⟩ u1) (.inr (tens_not_row hO hb hne))
  exact h1.kept (grown_set _ ⟨b, 1, none⟩ u2) (.inr (tens_not_row h1 (hb.set_ 0 u1) hne))
end Go.Proofs.YtmafgdinegboeaaGreat
namespace Go.Proofs.YtmafgdinegboeaaGreat
open Go Go.RowKit Go.Shelf

theorem own_tset {W : World} {T base n i : Nat} {t : TypeId} {v z : Value} {xs : List Value} {cs : Array Value} (h : W.ownsRow base t 1 v n xs) (hb : Blk W T 26 cs) (hne : t ≠ 26) : (W.setCell ⟨T, i, none⟩ z).ownsRow base t 1 v n xs :=
  h.kept (grown_set W ⟨T, i, none⟩ z) (.inr (tens_not_row h hb hne))
def SomeCT (w : World) (sh ds : List Int) (e : Ending) (w' : World) : Prop := ∃ os cs od cd, e = .returned (.agg #[.slice os sh.length cs, .slice od ds.length cd]) ∧ w'.ownsRow w.heap.size 3 1 (.slice os sh.length cs) sh.length (ints sh) ∧ w'.ownsRow w.heap.size 2 1 (.slice od ds.length cd) ds.length (ints ds) ∧ Below w.heap.size w w'
set_option maxRecDepth 100000 in
set_option maxHeartbeats 8000000 in
theorem copytens_any (vs vd : Value) (sh ds : List Int) (w : World) (hs : Ld w vs sh) (hd : Ld w vd ds) (l1 : sh.length ≤ 17592186044000) (l2 : ds.length ≤ 17592186044000) :
    Calls Tryz.prog 14 #[.agg #[vs, vd]] w (SomeCT w sh ds) := by
  obtain ⟨w3, hw3⟩ : ∃ w3, w3 = ((w.alloc (.cells #[vs, vd] 26)).alloc (.cells #[.slice none 0 0, .slice none 0 0] 26)).alloc (.cells #[vs, vd] 26) := ⟨_, rfl⟩
  have hsz : w3.heap.size = w.heap.size + 3 := by rw [hw3]; simp
  have B3 : Below w.heap.size w w3 := by rw [hw3]; exact (((Below.refl _ _).alloc (Nat.le_refl _) _).alloc (by simp) _).alloc (by simp; omega) _
  have K0 : Hid (Blk w3 w.heap.size 26 #[vs, vd]) := by rw [hw3]; exact ((Blk.new w _ _).alloc _).alloc _
  have K1 : Hid (Blk w3 (w.heap.size + 1) 26 #[.slice none 0 0, .slice none 0 0]) := by rw [hw3]; exact (blk_new1 w _ _ _).alloc _
  have K2 : Hid (Blk w3 (w.heap.size + 2) 26 #[vs, vd]) := by
    rw [hw3]
    have q := Blk.new ((w.alloc (.cells #[vs, vd] 26)).alloc (.cells #[.slice none 0 0, .slice none 0 0] 26)) 26 #[vs, vd]
    rwa [World.size_alloc, World.size_alloc] at q
  have C1 : Hid (∀ n, w3.heap.size = n → Calls Tryz.prog 58 #[vs] w3 fun e w' => ∃ o c, e = .returned (.slice o sh.length c) ∧ w'.ownsRow n 3 1 (.slice o sh.length c) sh.length (ints sh) ∧ Ld w' (.slice o sh.length c) sh ∧ Below n w3 w') := fun n hn => by
    subst hn
    exact copy_any vs sh w3 (hs.below B3) l1
  replace C1 := Lib.hid (C1.out (w.heap.size + 3) hsz)
  have C2 := Lib.hid (fun (W : World) (hW : Below w.heap.size w W) => copywords_any vd ds W (hd.below hW) l2)
  obtain ⟨o1, n1, rfl, _, _⟩ := hs
  obtain ⟨o2, n2, rfl, _, _⟩ := hd
  have HW := Lib.hid hw3
  rw [hw3] at C1
  clear hw3
  go_enter Tryz.func14, Tryz.ntmps14
  go_wp2_with (first
    | (go_at_call 58; (with_reducible refine C1.out.mono ?_); rintro e w2 ⟨o5, c5, rfl, ho5, _, hb2⟩; rw [← HW.out] at hb2; have b2 := B3.trans (hb2.mono (by omega)); replace K0 := Lib.hid (K0.out.below hb2 (by omega)); replace K1 := Lib.hid (K1.out.below hb2 (by omega)); replace K2 := Lib.hid (K2.out.below hb2 (by omega)); obtain ⟨c0, c1, _⟩ := blk2 K0.out; obtain ⟨x0, x1, g0, g1⟩ := blk2 K2.out; have s2 := Nat.le_trans (Nat.le_of_eq hsz.symm) hb2.size; have O2 := Lib.hid (own_tset (i := 0) (z := .slice o5 sh.length c5) ho5 K2.out (by decide)); clear ho5 hb2)
    | (go_at_call 59; (with_reducible refine Go.Calls.mono (C2.out _ ?_) ?_); (· exact b2.setCell (by show w.heap.size ≤ w.heap.size + 2; omega) _); rintro e w4 ⟨o6, c6, rfl, ho6, _, hb4⟩; have b4 := (b2.setCell (p := ⟨w.heap.size + 2, 0, none⟩) (by show w.heap.size ≤ w.heap.size + 2; omega) (.slice o5 sh.length c5)).trans (hb4.mono (by simp; omega)); have s4 := hb4.size; have Q2 := Lib.hid ((K2.out.set_ 0 (.slice o5 sh.length c5)).below hb4 (by simp; omega)); have Q1 := Lib.hid ((K1.out.far (p := ⟨w.heap.size + 2, 0, none⟩) (by show w.heap.size + 1 ≠ w.heap.size + 2; omega) (.slice o5 sh.length c5)).below hb4 (by simp; omega)); obtain ⟨x0, x1, g0, g1⟩ := blk2 Q2.out; obtain ⟨d0, d1, f0, f1⟩ := blk2 Q1.out; have O4 := Lib.hid (Below.keepOwn O2.out hb4 (Nat.le_refl _)); have O6 := Lib.hid ho6; clear ho6 hb4))
  have e2 : w.heap.size + 1 + 1 = w.heap.size + 2 := rfl
  have R1 := Lib.hid (Q1.out.far (p := ⟨w.heap.size + 2, 1, none⟩) (by show w.heap.size + 1 ≠ w.heap.size + 2; omega) (.slice o6 ds.length c6))
  have R2 := Lib.hid ((R1.out.set_ 0 (.slice o5 sh.length c5)).set_ 1 (.slice o6 ds.length c6))
  have r0 := R2.out.cell 0
  have r1 := R2.out.cell 1
  refine bodyPost_ret (v := .agg #[.slice o5 sh.length c5, .slice o6 ds.length c6]) (by simp [results, Tryz.results14, go_sem, r0, r1]) rfl ?_
  have p5 := own_two (own_tset (i := 1) (z := .slice o6 ds.length c6) O4.out Q2.out (by decide)) R1.out (by decide) (.slice o5 sh.length c5) (.slice o6 ds.length c6)
  have p6 := own_two (own_tset (i := 1) (z := .slice o6 ds.length c6) O6.out Q2.out (by decide)) R1.out (by decide) (.slice o5 sh.length c5) (.slice o6 ds.length c6)
  refine ⟨_, _, _, _, rfl, own_base p5 ?_, own_base p6 ?_, ((b4.setCell (p := ⟨w.heap.size + 2, 1, none⟩) (by show w.heap.size ≤ w.heap.size + 2; omega) _).setCell (p := ⟨w.heap.size + 1, 0, none⟩) (by show w.heap.size ≤ w.heap.size + 1; omega) _).setCell (p := ⟨w.heap.size + 1, 1, none⟩) (by show w.heap.size ≤ w.heap.size + 1; omega) _⟩
  · omega
  · simp; omega
end Go.Proofs.YtmafgdinegboeaaGreat
namespace Go.Proofs.YtmafgdinegboeaaGreat
open Go Go.RowKit Go.Shelf

def mux (a da b db : List Int) (n : Nat) : Int := mN da db (a.getD (a.length - 1) 0).toNat (b.getD (b.length - 1) 0).toNat (mrw a b).toNat n
def mun (a b : List Int) : Nat := (prod (msh a b)).toNat
def mue (a da b db : List Int) (f : Nat) : Int := if mfit a b = true then (if may (msh a b) = true then fer (fun n => te (rd (mux a da b db n) (2 ^ f))) (mun a b) else 5) else 2
def muw (a da b db : List Int) (f : Nat) : List Int := vls (fun n => tw (rd (mux a da b db n) (2 ^ f))) (mun a b)
theorem muw_len (a da b db : List Int) (f : Nat) : (muw a da b db f).length = mun a b := vls_len _ _
theorem mue_ok {a da b db : List Int} {f : Nat} (h : mue a da b db f = 0) : mfit a b = true ∧ may (msh a b) = true ∧ ∀ n, n < mun a b → wd (rd (mux a da b db n) (2 ^ f)) = true := by
  unfold mue at h
  cases h1 : mfit a b with
  | false => rw [h1, if_neg (by decide)] at h; exact absurd h (by decide)
  | true =>
    cases h2 : may (msh a b) with
    | false => rw [h1, h2, if_pos rfl, if_neg (by decide)] at h; exact absurd h (by decide)
    | true =>
      rw [h1, h2, if_pos rfl, if_pos rfl] at h
      exact ⟨rfl, rfl, fun n hn => te_wd (fer_zero h n hn)⟩
theorem mun_msh {a b : List Int} (h : may (msh a b) = true) : (mun a b : Int) = prod (msh a b) ∧ mun a b ≤ 65536 := by
  have := may_prod h
  unfold mun
  omega
theorem mul_all (vs vd vt ve : Value) (a da b db : List Int) (f : Nat) (w : World) (hs : Ld w vs a) (hd : Ld w vd da) (ht : Ld w vt b) (he : Ld w ve db) (ta : tnb a da = true) (tb : tnb b db = true) (hf : fb (f : Nat) = true) :
    Calls Tryz.prog 40 #[.agg #[vs, vd], .agg #[vt, ve], .int .i64 (f : Nat)] w (SomeT w (mue a da b db f) (unl (mue a da b db f) (msh a b)) (unl (mue a da b db f) (muw a da b db f))) := by
  have ka := tnb_parts ta
  have kb := tnb_parts tb
  have la := may_len ka.1
  have lb := may_len kb.1
  have pa := may_prod ka.1
  have pb := may_prod kb.1
  cases h1 : mfit a b with
  | false =>
    have e : mue a da b db f = 2 := by unfold mue; rw [h1, if_neg (by decide)]
    rw [e]
    exact mul_ns vs vd vt ve a da b db f w hs hd ht he (by omega) (by omega) (by omega) (by omega) ta tb hf h1
  | true =>
    cases h2 : may (msh a b) with
    | false =>
      have e : mue a da b db f = 5 := by unfold mue; rw [h1, h2, if_pos rfl, if_neg (by decide)]
      rw [e]
      exact mul_nm vs vd vt ve a da b db f w hs hd ht he (by omega) (by omega) (by omega) (by omega) ta tb hf h1 h2
    | true =>
      obtain ⟨D, C, Rb, NB, eD, eC, _, eR, p1, p2, p3, hD, hC, hR, hN, h6, h7, h8⟩ := mul_parts h1 ka.1 kb.1 h2
      have q := mul_ok vs vd vt ve a da b db f D C Rb NB w hs hd ht he ta tb hf h1 h2 eD eC eR p1 p2 hD hC hR hN h6 h7 h8
      have e0 : mun a b = NB * Rb * C := by unfold mun; rw [p3]; rfl
      have e1 : mue a da b db f = fer (mvr da db D C Rb f) (NB * Rb * C) := by
        unfold mue; rw [if_pos h1, if_pos h2, e0]; unfold mux; rw [eD, eC, eR]; rfl
      have e2 : muw a da b db f = vls (mva da db D C Rb f) (NB * Rb * C) := by
        unfold muw; rw [e0]; unfold mux; rw [eD, eC, eR]; rfl
      rw [e1, e2]
      exact q

end Go.Proofs.YtmafgdinegboeaaGreat
namespace Go.Proofs.YtmafgdinegboeaaGreat
open Go.RowKit Go.Shelf

def hv8 (m : Int) (s d : List Int) : Bool := decide (m < d.length) || decide (8 < s.length)
theorem hv8_no {m : Int} {s d : List Int} (h : hv8 m s d = false) : (d.length : Int) ≤ m ∧ s.length ≤ 8 := by
  unfold hv8 at h
  simp only [Bool.or_eq_false_iff, decide_eq_false_iff_not] at h
  omega
set_option maxRecDepth 100000 in
set_option maxHeartbeats 2000000 in
theorem heavy8_any (va vb : Value) (s d : List Int) (m : Int) (w : World) (ha : Ld w va s) (hb : Ld w vb d) (l1 : s.length ≤ 9223372036854775807) (_l2 : d.length ≤ 9223372036854775807) :
    Calls Tryz.prog 31 #[.agg #[va, vb], .int .i64 m] w fun e w' => e = .returned (.bool (hv8 m s d)) ∧ Below w.heap.size w w' := by
  obtain ⟨os, cs, rfl, _, _⟩ := ha
  obtain ⟨od, cd, rfl, _, _⟩ := hb
  obtain ⟨Q, hQ⟩ : ∃ Q, Q = hv8 m s d := ⟨_, rfl⟩
  rw [← hQ]
  unfold hv8 at hQ
  generalize s.length = ns at *
  generalize d.length = nd at *
  have hB0 : Below w.heap.size w (w.alloc (.cells #[.slice os ns cs, .slice od nd cd] 26)) := (Below.refl _ _).alloc (Nat.le_refl _) _
  by_cases g1 : m < nd
  · have E : Hid (Q = true) := by rw [hQ, decide_eq_true g1]; exact Lib.hid rfl
    clear hQ
    go_enter Tryz.func31, Tryz.ntmps31
    go_wp2
    go_ret
    exact ⟨by rw [E.out]; first | rfl | (show Ending.returned (.bool _) = _; congr 2; simp; omega), hB0⟩
  · by_cases g2 : 8 < ns
    · have E : Hid (Q = true) := by rw [hQ, decide_eq_true g2]; exact Lib.hid (by simp)
      clear hQ
      go_enter Tryz.func31, Tryz.ntmps31
      go_wp2
      go_ret
      exact ⟨by rw [E.out]; first | rfl | (show Ending.returned (.bool _) = _; congr 2; simp; omega), hB0⟩
    · have E : Hid (Q = false) := by rw [hQ, decide_eq_false g1, decide_eq_false g2]; exact Lib.hid rfl
      clear hQ
      go_enter Tryz.func31, Tryz.ntmps31
      go_wp2
      go_ret
      exact ⟨by rw [E.out]; first | rfl | (show Ending.returned (.bool _) = _; congr 2; simp; omega), hB0⟩
theorem someT_ld {w W : World} {er : Int} {sh ds : List Int} {e : Ending} (h : SomeT w er sh ds e W) : ∃ vs vd, e = .returned (.tuple #[.agg #[vs, vd], .int .i64 er]) ∧ Ld W vs sh ∧ Ld W vd ds ∧ Below w.heap.size w W := by
  obtain ⟨os, cs, od, cd, rfl, h1, h2, hb⟩ := h
  obtain ⟨_, _, e1, h3⟩ := Ld.of_owns h1
  obtain ⟨_, _, e2, h4⟩ := Ld.of_owns h2
  simp only [Value.slice.injEq] at e1 e2
  obtain ⟨rfl, _, rfl⟩ := e1
  obtain ⟨rfl, _, rfl⟩ := e2
  exact ⟨_, _, rfl, h3, h4, hb⟩
theorem ld1 {W : World} {n : Nat} {t : TypeId} {x : Int} (h : W.heap.size = n) : Ld (W.alloc (.cells #[.int .i64 x] t)) (.slice (some ⟨n, 0, none⟩) 1 1) [x] := by
  subst h; exact Ld.of_blk (ls := [x]) (Blk.new W t _) (Nat.le_refl _)
theorem ld2 {W : World} {n : Nat} {t : TypeId} {x y : Int} (h : W.heap.size = n) : Ld (W.alloc (.cells #[.int .i64 x, .int .i64 y] t)) (.slice (some ⟨n, 0, none⟩) 2 2) [x, y] := by
  subst h; exact Ld.of_blk (ls := [x, y]) (Blk.new W t _) (Nat.le_refl _)
theorem al_below {W : World} (o : Obj) : Below W.heap.size W (W.alloc o) := (Below.refl _ _).alloc (Nat.le_refl _) o
end Go.Proofs.YtmafgdinegboeaaGreat
namespace Go.Proofs.YtmafgdinegboeaaGreat
open Go.RowKit Go.Shelf

set_option maxRecDepth 100000 in
set_option maxHeartbeats 4000000 in
theorem eqtensor_same (va vb ua ub : Value) (a b : List Int) (w : World) (ha : Ld w va a) (hb : Ld w vb b) (hc : Ld w ua a) (hd : Ld w ub b) (l1 : a.length ≤ 17592186044416) (l2 : b.length ≤ 17592186044416) :
    Calls Tryz.prog 19 #[.agg #[va, vb], .agg #[ua, ub]] w fun e w' => e = .returned (.bool true) ∧ Below w.heap.size w w' := by
  have hB0 : Below w.heap.size w ((w.alloc (.cells #[va, vb] 26)).alloc (.cells #[ua, ub] 26)) := ((Below.refl _ _).alloc (Nat.le_refl _) _).alloc (by simp) _
  have X0 := Lib.hid ((Blk.new w 26 #[va, vb]).alloc (.cells #[ua, ub] 26))
  have X1 := Lib.hid (blk_new1 w (.cells #[va, vb] 26) 26 #[ua, ub])
  have C1 : Hid (∀ n, ((w.alloc (.cells #[va, vb] 26)).alloc (.cells #[ua, ub] 26)).heap.size = n → Calls Tryz.prog 16 #[va, ua] ((w.alloc (.cells #[va, vb] 26)).alloc (.cells #[ua, ub] 26)) fun e w' => e = .returned (.bool true) ∧ Below n ((w.alloc (.cells #[va, vb] 26)).alloc (.cells #[ua, ub] 26)) w') := fun n hn => by
    subst hn
    have := eqn_any va ua a a _ (ha.below hB0) (hc.below hB0) l1 l1
    rwa [show decide (a = a) = true by simp] at this
  have C2 : Hid (∀ W, Below w.heap.size w W → Calls Tryz.prog 25 #[vb, ub] W fun e w' => e = .returned (.bool true) ∧ Below W.heap.size W w') := fun W hW => by
    have := eqw_any vb ub b b _ (hb.below hW) (hd.below hW) l2 l2
    rwa [show decide (b = b) = true by simp] at this
  replace C1 := Lib.hid (C1.out (w.heap.size + 2) (by simp))
  obtain ⟨o1, n1, rfl, _, _⟩ := ha
  obtain ⟨o2, n2, rfl, _, _⟩ := hb
  obtain ⟨o3, n3, rfl, _, _⟩ := hc
  obtain ⟨o4, n4, rfl, _, _⟩ := hd
  have HB0 := Lib.hid hB0
  clear hB0
  go_enter Tryz.func19, Tryz.ntmps19
  go_wp2_with (first
    | (go_at_call 16; (with_reducible refine C1.out.mono ?_); rintro e w2 ⟨rfl, hb2⟩; have b2 := HB0.out.trans (hb2.mono (by omega)); have Z0 := Lib.hid (X0.out.below hb2 (by omega)); have Z1 := Lib.hid (X1.out.below hb2 (by omega)); obtain ⟨c0, c1, _⟩ := blk2 Z0.out; obtain ⟨d0, d1, _⟩ := blk2 Z1.out; clear hb2)
    | (go_at_call 25; (with_reducible refine (C2.out _ b2).mono ?_); rintro e w3 ⟨rfl, hb3⟩; have b3 := b2.trans (hb3.mono b2.size); clear hb3))
  go_ret
  exact ⟨rfl, b3⟩

end Go.Proofs.YtmafgdinegboeaaGreat
namespace Go.Proofs.YtmafgdinegboeaaGreat
open Go.RowKit Go.Shelf

def Ty (W : World) (E : Int) (S D : List Int) (e : Ending) (w' : World) : Prop := ∃ os cs od cd, e = .returned (.tuple #[.agg #[.slice os S.length cs, .slice od D.length cd], .int .i64 E]) ∧ Ld w' (.slice os S.length cs) S ∧ Ld w' (.slice od D.length cd) D ∧ Below W.heap.size W w'
theorem num10_any (x : Int) (w : World) : Calls Tryz.prog 108 #[.int .i64 x] w fun e w' => e = .returned (.int .i64 x) ∧ w = w' := by
  go_enter Tryz.func108, Tryz.ntmps108
  go_wp2
  go_ret
  exact ⟨rfl, rfl⟩
theorem mulw (W : World) (va vda vb vdb : Value) (ha : Ld W va [1, 2]) (hda : Ld W vda [256, 512]) (hb : Ld W vb [2, 1]) (hdb : Ld W vdb [256, 128]) : Calls Tryz.prog 40 #[.agg #[va, vda], .agg #[vb, vdb], .int .i64 8] W fun e w' => ∃ o c o2 c2, e = .returned (.tuple #[.agg #[.slice o 2 c, .slice o2 1 c2], .int .i64 0]) ∧ Ld w' (.slice o2 1 c2) [512] ∧ Below W.heap.size W w' := by
  have h := mul_all va vda vb vdb [1, 2] [256, 512] [2, 1] [256, 128] 8 W ha hda hb hdb (by decide) (by decide) (by decide)
  rw [show mue [1, 2] [256, 512] [2, 1] [256, 128] 8 = 0 by decide, show unl 0 (msh [1, 2] [2, 1]) = [1, 1] by decide, show unl 0 (muw [1, 2] [256, 512] [2, 1] [256, 128] 8) = [512] by decide] at h
  refine h.mono fun e w' hh => ?_
  obtain ⟨vs, vd, rfl, h1, h2, hb⟩ := someT_ld hh
  obtain ⟨o, c, rfl, _, _⟩ := h1
  obtain ⟨o2, c2, rfl, _, _⟩ := id h2
  exact ⟨o, c, o2, c2, rfl, h2, hb⟩
theorem eq10 (W : World) (va vb : Value) (ha : Ld W va [512]) (hb : Ld W vb [512]) : Calls Tryz.prog 25 #[va, vb] W fun e w' => e = .returned (.bool true) ∧ Below W.heap.size W w' := by
  have C4 := eqw_any va vb [512] [512] W ha hb (by decide) (by decide)
  rwa [show decide ([(512 : Int)] = [512]) = true by decide] at C4
set_option maxRecDepth 100000 in
set_option maxHeartbeats 8000000 in
theorem wakes10_any (w : World) : Calls Tryz.prog 42 #[] w fun e w' => e = .returned (.bool true) ∧ Below w.heap.size w w' := by
  obtain ⟨w4, hw4⟩ : ∃ w4, w4 = (((w.alloc (.cells #[.int .i64 1, .int .i64 2] 3)).alloc (.cells #[.int .i64 256, .int .i64 512] 2)).alloc (.cells #[.int .i64 2, .int .i64 1] 3)).alloc (.cells #[.int .i64 256, .int .i64 128] 2) := ⟨_, rfl⟩
  have hsz : w4.heap.size = w.heap.size + 4 := by rw [hw4]; simp
  have L1 : Hid (Ld w4 (.slice (some ⟨w.heap.size, 0, none⟩) 2 2) [1, 2]) := Lib.hid (by rw [hw4]; exact (((ld2 rfl).below (al_below _)).below (al_below _)).below (al_below _))
  have L2 : Hid (Ld w4 (.slice (some ⟨w.heap.size + 1, 0, none⟩) 2 2) [256, 512]) := Lib.hid (by rw [hw4]; exact ((ld2 (World.size_alloc _ _)).below (al_below _)).below (al_below _))
  have L3 : Hid (Ld w4 (.slice (some ⟨w.heap.size + 2, 0, none⟩) 2 2) [2, 1]) := Lib.hid (by rw [hw4]; exact (ld2 (by simp)).below (al_below _))
  have L4 : Hid (Ld w4 (.slice (some ⟨w.heap.size + 3, 0, none⟩) 2 2) [256, 128]) := Lib.hid (by rw [hw4]; exact ld2 (by simp))
  have B4 : Hid (Below w.heap.size w w4) := Lib.hid (by rw [hw4]; exact ((((Below.refl _ _).alloc (Nat.le_refl _) _).alloc (by simp) _).alloc (by simp; omega) _).alloc (by simp; omega) _)
  have CS : Hid (∀ n, w4.heap.size = n → Calls Tryz.prog 40 #[.agg #[.slice (some ⟨w.heap.size, 0, none⟩) 2 2, .slice (some ⟨w.heap.size + 1, 0, none⟩) 2 2], .agg #[.slice (some ⟨w.heap.size + 2, 0, none⟩) 2 2, .slice (some ⟨w.heap.size + 3, 0, none⟩) 2 2], .int .i64 8] w4 fun e w' => ∃ o c o2 c2, e = .returned (.tuple #[.agg #[.slice o 2 c, .slice o2 1 c2], .int .i64 0]) ∧ Ld w' (.slice o2 1 c2) [512] ∧ Below n w4 w') := fun n hn => by
    subst hn
    exact mulw w4 _ _ _ _ L1.out L2.out L3.out L4.out
  replace CS := Lib.hid (CS.out (w.heap.size + 4) hsz)
  have HW := Lib.hid hw4
  rw [hw4] at CS
  clear hw4
  go_enter Tryz.func42, Tryz.ntmps42
  go_wp2_with (first
    | (go_at_call 40; (with_reducible refine CS.out.mono ?_); rintro e w5 ⟨o4, c4, o5, c5, rfl, h4, hb4⟩; rw [← HW.out] at hb4; have B5 := Lib.hid (B4.out.trans (hb4.mono (by omega))); have H4 := Lib.hid h4; clear h4 hb4)
    | (go_at_call 25; (with_reducible refine (eq10 _ _ _ ((H4.out.below (al_below _)).below (al_below _)) (ld1 (World.size_alloc _ _))).mono ?_); rintro e w6 ⟨rfl, hb6⟩; have B6 := Lib.hid (((B5.out.alloc B5.out.size _).alloc (by have := B5.out.size; simp; omega) _).trans (hb6.mono (by have := B5.out.size; simp; omega))); clear hb6)
    | (go_at_call 108; (with_reducible refine (num10_any _ _).mono ?_); rintro e w' ⟨rfl, rfl⟩))
  go_ret
  exact ⟨rfl, B6.out⟩
theorem blk5m {W : World} {b : Nat} {v0 v1 v2 v3 v4 : Value} (h : Blk W b 75 #[v0, v1, v2, v3, v4]) : W.cell? ⟨b, 0, none⟩ = some v0 ∧ W.cell? ⟨b, 1, none⟩ = some v1 ∧ W.cell? ⟨b, 2, none⟩ = some v2 ∧ W.cell? ⟨b, 3, none⟩ = some v3 ∧ W.cell? ⟨b, 4, none⟩ = some v4 := ⟨h.cell 0, h.cell 1, h.cell 2, h.cell 3, h.cell 4⟩
theorem hv10_no {sa da sb db : List Int} (h : (hv8 40 sa da || hv8 40 sb db) = false) : ((da.length : Int) ≤ 40 ∧ sa.length ≤ 8) ∧ ((db.length : Int) ≤ 40 ∧ sb.length ≤ 8) := by
  rw [Bool.or_eq_false_iff] at h
  exact ⟨hv8_no h.1, hv8_no h.2⟩
set_option maxRecDepth 100000 in
set_option maxHeartbeats 2000000 in
theorem heavy10_any (vA vX vB vY : Value) (sa da sb db : List Int) (f : Int) (w : World) (hA : Ld w vA sa) (hX : Ld w vX da) (hB : Ld w vB sb) (hY : Ld w vY db) (l0 : sa.length ≤ 9223372036854775807) (l1 : da.length ≤ 9223372036854775807) (l2 : sb.length ≤ 9223372036854775807) (l3 : db.length ≤ 9223372036854775807) :
    Calls Tryz.prog 37 #[.agg #[vA, vX, vB, vY, .int .i64 f]] w fun e w' => e = .returned (.bool (hv8 40 sa da || hv8 40 sb db)) ∧ Below w.heap.size w w' := by
  have B1 := Lib.hid ((Below.refl w.heap.size w).alloc (Nat.le_refl _) (.cells #[vA, vX, vB, vY, .int .i64 f] 75))
  have Q1 := Lib.hid (Blk.new w 75 #[vA, vX, vB, vY, .int .i64 f])
  have LA := Lib.hid (fun (W : World) (hW : Below w.heap.size w W) => heavy8_any vA vX sa da 40 W (hA.below hW) (hX.below hW) l0 l1)
  have LB := Lib.hid (fun (W : World) (hW : Below w.heap.size w W) => heavy8_any vB vY sb db 40 W (hB.below hW) (hY.below hW) l2 l3)
  obtain ⟨oA, cA, rfl, _, _⟩ := hA
  obtain ⟨oX, cX, rfl, _, _⟩ := hX
  obtain ⟨oB, cB, rfl, _, _⟩ := hB
  obtain ⟨oY, cY, rfl, _, _⟩ := hY
  cases ga : hv8 40 sa da with
  | true =>
    rw [ga] at LA
    go_enter Tryz.func37, Tryz.ntmps37
    go_wp2_with (go_at_call 31; (with_reducible refine (LA.out _ B1.out).mono ?_); rintro e w2 ⟨rfl, hb⟩; have F2 := Lib.hid (B1.out.trans (hb.mono (by simp))); clear hb)
    go_ret
    exact ⟨rfl, F2.out⟩
  | false =>
    rw [ga] at LA
    go_enter Tryz.func37, Tryz.ntmps37
    go_wp2_with (first | (go_at_call 31; (with_reducible refine (LA.out _ B1.out).mono ?_); rintro e w2 ⟨rfl, hb⟩; obtain ⟨x0, x1, x2, x3, x4⟩ := blk5m (Q1.out.below hb Q1.out.lt); have F2 := Lib.hid (B1.out.trans (hb.mono (by simp))); clear hb) | (go_at_call 31; (with_reducible refine (LB.out _ F2.out).mono ?_); rintro e w3 ⟨rfl, hb⟩; have F3 := Lib.hid (F2.out.trans (hb.mono F2.out.size)); clear hb))
    go_ret
    exact ⟨rfl, F3.out⟩
end Go.Proofs.YtmafgdinegboeaaGreat
namespace Go.Proofs.YtmafgdinegboeaaGreat
open Go Go.RowKit Go.Shelf

set_option maxRecDepth 100000 in
set_option maxHeartbeats 4000000 in
theorem turn_no (vs vd : Value) (a da : List Int) (w : World) (hs : Ld w vs a) (hd : Ld w vd da) (l1 : a.length ≤ 17592186044416) (l2 : da.length ≤ 17592186044416) (ta : tnb a da = false) :
    Calls Tryz.prog 41 #[.agg #[vs, vd]] w (SomeT w 1 [] []) := by
  have CA := Lib.hid (fun (W : World) (hW : Below w.heap.size w W) => echeck_any vs vd a da W (hs.below hW) (hd.below hW) (by omega) (by omega))
  rw [ta, if_neg (by decide)] at CA
  obtain ⟨o1, c1, rfl, _, _⟩ := id hs
  obtain ⟨o2, c2, rfl, _, _⟩ := id hd
  clear hs hd ta
  obtain ⟨w2, hw2⟩ : ∃ w2, w2 = (w.alloc (.cells #[.slice o1 a.length c1, .slice o2 da.length c2] 26)).alloc (.cells #[.slice none 0 0, .slice none 0 0] 26) := ⟨_, rfl⟩
  have B2 : Hid (Below w.heap.size w w2) := Lib.hid (by rw [hw2]; exact ((Below.refl _ _).alloc (Nat.le_refl _) _).alloc (by simp) _)
  have S2 : Hid (w2.heap.size = w.heap.size + 2) := Lib.hid (by rw [hw2]; simp)
  have Q1 : Hid (Blk w2 (w.heap.size + 1) 26 #[.slice none 0 0, .slice none 0 0]) := Lib.hid (by rw [hw2]; exact blk_new1 w _ _ _)
  have CA1 := Lib.hid (CA.out w2 B2.out)
  have HW := Lib.hid hw2
  rw [hw2] at CA1
  clear hw2
  go_enter Tryz.func41, Tryz.ntmps41
  go_wp2_with (go_at_call 83; (with_reducible refine CA1.out.mono ?_); rintro e wa ⟨rfl, hb⟩; rw [← HW.out] at hb; have Fa := Lib.hid hb; have X1 := Q1.out.below Fa.out (by have := S2.out; omega); obtain ⟨d0, d1, f0, f1⟩ := blk2 X1; clear hb X1)
  refine bodyPost_ret (v := .tuple #[.agg #[.slice none 0 0, .slice none 0 0], .int .i64 1]) (by simp [results, Tryz.results41, go_sem, d0, d1]) rfl ?_
  exact ⟨none, 0, none, 0, rfl, World.ownsRow_nil _ _ _ _, World.ownsRow_nil _ _ _ _, ((B2.out.trans (Fa.out.mono B2.out.size)).setCell (p := ⟨w.heap.size + 1, 0, none⟩) (Nat.le_succ _) _).setCell (p := ⟨w.heap.size + 1, 1, none⟩) (Nat.le_succ _) _⟩
set_option maxRecDepth 100000 in
set_option maxHeartbeats 4000000 in
theorem turn_low (vs vd : Value) (a da : List Int) (w : World) (hs : Ld w vs a) (hd : Ld w vd da) (l1 : a.length ≤ 17592186044416) (l2 : da.length ≤ 17592186044416) (ta : tnb a da = true) (lo : a.length < 2) :
    Calls Tryz.prog 41 #[.agg #[vs, vd]] w (SomeT w 2 [] []) := by
  have CA := Lib.hid (fun (W : World) (hW : Below w.heap.size w W) => echeck_any vs vd a da W (hs.below hW) (hd.below hW) (by omega) (by omega))
  rw [ta, if_pos rfl] at CA
  obtain ⟨o1, c1, rfl, _, _⟩ := id hs
  obtain ⟨o2, c2, rfl, _, _⟩ := id hd
  clear hs hd ta
  obtain ⟨w2, hw2⟩ : ∃ w2, w2 = (w.alloc (.cells #[.slice o1 a.length c1, .slice o2 da.length c2] 26)).alloc (.cells #[.slice none 0 0, .slice none 0 0] 26) := ⟨_, rfl⟩
  have B2 : Hid (Below w.heap.size w w2) := Lib.hid (by rw [hw2]; exact ((Below.refl _ _).alloc (Nat.le_refl _) _).alloc (by simp) _)
  have S2 : Hid (w2.heap.size = w.heap.size + 2) := Lib.hid (by rw [hw2]; simp)
  have Q1 : Hid (Blk w2 (w.heap.size + 1) 26 #[.slice none 0 0, .slice none 0 0]) := Lib.hid (by rw [hw2]; exact blk_new1 w _ _ _)
  have Q0 : Hid (Blk w2 w.heap.size 26 #[.slice o1 a.length c1, .slice o2 da.length c2]) := Lib.hid (by rw [hw2]; exact (Blk.new w _ _).alloc _)
  have c0 : (a.length : Int) < 2 := by omega
  have CA1 := Lib.hid (CA.out w2 B2.out)
  have HW := Lib.hid hw2
  rw [hw2] at CA1
  clear hw2
  go_enter Tryz.func41, Tryz.ntmps41
  go_wp2_with (go_at_call 83; (with_reducible refine CA1.out.mono ?_); rintro e wa ⟨rfl, hb⟩; rw [← HW.out] at hb; have Fa := Lib.hid hb; have X1 := Q1.out.below Fa.out (by have := S2.out; omega); obtain ⟨d0, d1, f0, f1⟩ := blk2 X1; have X0 := Q0.out.below Fa.out (by have := S2.out; omega); obtain ⟨x0, x1, _, _⟩ := blk2 X0; clear X0; clear hb X1)
  refine bodyPost_ret (v := .tuple #[.agg #[.slice none 0 0, .slice none 0 0], .int .i64 2]) (by simp [results, Tryz.results41, go_sem, d0, d1]) rfl ?_
  exact ⟨none, 0, none, 0, rfl, World.ownsRow_nil _ _ _ _, World.ownsRow_nil _ _ _ _, ((B2.out.trans (Fa.out.mono B2.out.size)).setCell (p := ⟨w.heap.size + 1, 0, none⟩) (Nat.le_succ _) _).setCell (p := ⟨w.heap.size + 1, 1, none⟩) (Nat.le_succ _) _⟩
end Go.Proofs.YtmafgdinegboeaaGreat
