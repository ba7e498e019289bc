/-
  package norm: what follows: a word added to all, the negatives, greater words, the squares together.
  The references' Norm: its numbers are the program's.
  The reference's Norm of one row.
  Words laid where indexes stand; which places are taken; plain mathematics.
  slices.Clone of words.
  The reference's views: which may be, axes, the plain one.
  view.Reshape; the reference's plain view.
  The view laws' own helpers: views held against one another, copied, written over, asked.
  Of the references that the laws of package view call: words copied and spoilt, where an index stands.
  Tensors: alike? spoilt; may they be?
  A told tensor's box is written: a row of another kind stands.
  The reference's copy of a tensor; words' signs; a tensor told by its words.
  Is an answer the page's own? it is spoilt behind it; two stores into a box of a tensor.
-/
import Derived.Deep.QuietTactic
import Derived.BigQuiet
import Derived.Deep.DeepBigQuietO
import Derived.Test.YtldchepfcgbpiaaGreatM17
import Derived.Test.YtldchepfcgbpiaaGreatM18
import Derived.Test.YtldchepfcgbpiaaGreatM19
import Derived.Test.YtldchepfcgbpiaaGreatM21
import Derived.Test.YtldchepfcgbpiaaGreatM25
import Derived.Test.YtldchepfcgbpiaaGreatM26
namespace Go.Proofs.YtldchepfcgbpiaaGreat
open Go.RowKit Go.Shelf

/-- What a row's word is, in its own row. -/
theorem nrt_in {n l j : Nat} {ds : List Int} (eps : Int) (f : Nat) (hj : j < n) (h : l * n + n ≤ ds.length) : (nrt n ds eps f).getD (l * n + j) 0 = (nrw n ds eps f l).getD j 0 := by
  rw [nrt_at eps f hj h, nrw_at ds eps f hj]
theorem list_ext0 {a b : List Int} (h : a.length = b.length) (hk : ∀ k, k < a.length → a.getD k 0 = b.getD k 0) : a = b := by
  refine List.ext_getElem h (fun k h1 h2 => ?_)
  have := hk k h1
  simpa [List.getD, List.getElem?_eq_getElem h1, List.getElem?_eq_getElem h2] using this
theorem mp_getD (g : Int → Int) {l : List Int} {k : Nat} (hk : k < l.length) : (l.map g).getD k 0 = g (l.getD k 0) := by
  simp [List.getD, List.getElem?_eq_getElem hk]
theorem sum_nn (g : Int → Int) (hg : ∀ x, 0 ≤ g x) : ∀ l : List Int, 0 ≤ (l.map g).sum
  | [] => by simp
  | a :: l => by
    have i := sum_nn g hg l
    rw [List.map_cons, List.sum_cons]; have := hg a; omega
/-- A word's square, within a row, is not above the row's. -/
theorem sq_part (g : Int → Int) : ∀ (l : List Int), (∀ x, 0 ≤ g x) → ∀ j, j < l.length → g (l.getD j 0) ≤ (l.map g).sum
  | [], _, j, h => by simp at h
  | a :: l, hg, 0, _ => by
    have := sum_nn g hg l
    simp only [List.map_cons, List.sum_cons, List.getD_cons_zero]
    omega
  | a :: l, hg, j + 1, h => by
    have i := sq_part g l hg j (by simpa using h)
    have := hg a
    simp only [List.map_cons, List.sum_cons, List.getD_cons_succ]
    omega
theorem dsq_le {rl : List Int} {eps : Int} {f : Nat} (he : 0 < eps) (hl : 1 ≤ rl.length) : dsq rl.length rl.sum rl ≤ rsq rl eps f ∧ 0 < rsq rl eps f := by
  refine ⟨?_, rsq_pos1 he hl⟩
  have g : 0 < rsb (rl.length : Int) eps f := Int.mul_pos (Int.mul_pos (Int.mul_pos (by omega) (by omega)) he) (Int.pow_pos (by decide))
  unfold rsq
  omega
theorem sqn (x : Int) : 0 ≤ x * x := by
  rcases Int.le_total 0 x with h | h
  · exact Int.mul_nonneg h h
  · exact Int.mul_nonneg_of_nonpos_of_nonpos h h
theorem p2f (f : Nat) : ((2 : Int) ^ (2 * f + 2)) = 4 * (2 ^ f * 2 ^ f) ∧ (2 : Int) ^ (f + 6) = 64 * 2 ^ f ∧ 1 ≤ (2 : Int) ^ f := by
  refine ⟨?_, ?_, Int.pow_pos (by decide)⟩
  · rw [Int.pow_add, Nat.two_mul, Int.pow_add]; omega
  · rw [Int.pow_add]; omega
theorem nD_val (x : Int) (f : Nat) : ((nD x f : Nat) : Int) = x * x * 2 ^ (2 * f + 2) := by
  unfold nD
  rw [Int.natCast_mul, Int.toNat_of_nonneg (sqn x), Int.toNat_of_nonneg (by have : (0 : Int) < 2 ^ (2 * f + 2) := Int.pow_pos (by decide); omega)]
/-- The search goes far enough. -/
theorem nD_lt {rl : List Int} {eps : Int} {f j : Nat} (he : 0 < eps) (hn : rl.length ≤ 24) (hj : j < rl.length) : ((nD ((rl.length : Int) * rl.getD j 0 - rl.sum) f : Nat) : Int) < (2 * (0 + 2 ^ (f + 6)) - 1) * (2 * (0 + 2 ^ (f + 6)) - 1) * ((rsq rl eps f).toNat : Nat) := by
  obtain ⟨h1, h2⟩ := dsq_le (f := f) he (show 1 ≤ rl.length by omega)
  have h3 := sq_part (fun a => ((rl.length : Int) * a - rl.sum) * ((rl.length : Int) * a - rl.sum)) rl (fun x => sqn _) j hj
  rw [dist_all] at h3
  rw [nD_val, Int.toNat_of_nonneg (by omega)]
  generalize ((rl.length : Int) * rl.getD j 0 - rl.sum) * ((rl.length : Int) * rl.getD j 0 - rl.sum) = X at *
  generalize rsq rl eps f = Q at *
  generalize dsq rl.length rl.sum rl = D at *
  obtain ⟨e1, e2, e3⟩ := p2f f
  rw [e1, e2]
  generalize (2 : Int) ^ f = p at *
  have hD : (rl.length : Int) * D ≤ 24 * Q := by
    by_cases hd : 0 ≤ D
    · have a := Int.mul_le_mul_of_nonneg_right (show (rl.length : Int) ≤ 24 by omega) hd
      omega
    · have a := Int.mul_nonneg (show (0 : Int) ≤ (rl.length : Int) by omega) (show 0 ≤ -D by omega)
      rw [Int.mul_neg] at a
      omega
  have hX : X ≤ 24 * Q := by omega
  have hpp : 1 ≤ p * p := by
    have := Int.mul_le_mul e3 e3 (by decide) (by omega)
    omega
  have k1 : X * (4 * (p * p)) ≤ 24 * Q * (4 * (p * p)) := Int.mul_le_mul_of_nonneg_right hX (by omega)
  have k2 : 97 * (p * p) ≤ (2 * (0 + 64 * p) - 1) * (2 * (0 + 64 * p) - 1) := by
    have e : (2 * (0 + 64 * p) - 1) * (2 * (0 + 64 * p) - 1) = 16384 * (p * p) - 256 * p + 1 := by
      have : 2 * (0 + 64 * p) - 1 = 128 * p - 1 := by omega
      rw [this, Int.sub_mul, Int.mul_sub, Int.mul_sub, Int.mul_assoc, Int.mul_left_comm p 128 p]
      omega
    have a : p ≤ p * p := by
      have := Int.mul_le_mul_of_nonneg_right e3 (show 0 ≤ p by omega)
      omega
    rw [e]
    omega
  have k3 := Int.mul_le_mul_of_nonneg_right k2 (show 0 ≤ Q by omega)
  have k4 : 24 * Q * (4 * (p * p)) = 96 * (p * p * Q) := by
    rw [Int.mul_assoc, Int.mul_left_comm Q 4 (p * p), Int.mul_comm Q (p * p)]
    omega
  have k5 : 97 * (p * p) * Q = 96 * (p * p * Q) + p * p * Q := by
    rw [Int.mul_assoc]; omega
  have k6 : 0 < p * p * Q := Int.mul_pos (by omega) h2
  omega
theorem nrw_map {n l : Nat} {ds : List Int} (eps : Int) (f : Nat) (hl : l * n + n ≤ ds.length) : nrw n ds eps f l = ((ds.drop (l * n)).take n).map fun a => nmv (rsq ((ds.drop (l * n)).take n) eps f) ((n : Int) * a - ((ds.drop (l * n)).take n).sum) f := by
  have hlen : ((ds.drop (l * n)).take n).length = n := by simp; omega
  refine list_ext0 (by rw [nrw_len, List.length_map, hlen]) (fun k hk => ?_)
  rw [nrw_len] at hk
  rw [nrw_at ds eps f hk, mp_getD _ (by rw [hlen]; exact hk)]
end Go.Proofs.YtldchepfcgbpiaaGreat
namespace Go.Proofs.YtldchepfcgbpiaaGreat
open Go Go.RowKit Go.Shelf

theorem nrm_mul {n d R P P' p F : Int} {Q Q' q : Nat} (h1 : P * (n * n * (F * F)) = R * Q) (h2 : p * n = d * q) (h3 : P' * (q * q * P) = Q' * (p * p * Q)) (p0 : P ≠ 0) (q0 : q ≠ 0) (Q0 : Q ≠ 0) : d * d * (F * F) * Q' = P' * R := by
  have k0 : (q : Int) * q * P * Q ≠ 0 := Int.mul_ne_zero (Int.mul_ne_zero (Int.mul_ne_zero (by omega) (by omega)) p0) (by omega)
  refine Int.eq_of_mul_eq_mul_left k0 ?_
  have e1 : (q : Int) * q * P * Q * (d * d * (F * F) * Q') = (d * q) * (d * q) * (F * F) * P * Q * Q' := by ac_rfl
  have e2 : (q : Int) * q * P * Q * (P' * R) = (P' * (q * q * P)) * (R * Q) := by ac_rfl
  rw [e1, e2, ← h2, h3, ← h1]
  ac_rfl
theorem sql_dsq (ds : List Int) : sql (ofl ds) = ds.length * dsq ds.length ds.sum ds := by
  rw [← dist_all]
  simp [sql, ofl, Function.comp_def]
/-- The quotient that Q tells, by the program's number. -/
theorem q_rsq {ds : List Int} {eps : Int} {f : Nat} {P : Int} {Q : Nat} (h : QFr ds eps f P Q) (hn : 0 < ds.length) : P * ((ds.length : Int) * ds.length * (2 ^ f * 2 ^ f)) = rsq ds eps f * Q := by
  obtain ⟨h1, _⟩ := h
  rw [sql_dsq] at h1
  obtain ⟨n, hnn⟩ : ∃ n : Int, n = ds.length := ⟨_, rfl⟩
  obtain ⟨F, hF⟩ : ∃ F : Int, F = 2 ^ f := ⟨_, rfl⟩
  have e2 : (2 : Int) ^ (2 * f) = F * F := by rw [hF, Nat.two_mul, Int.pow_add]
  rw [e2, ← hnn, ← hF] at h1
  have F0 : F ≠ 0 := by rw [hF]; exact Int.ne_of_gt (Int.pow_pos (by decide))
  have n0 : n ≠ 0 := by omega
  unfold rsq rsb
  rw [← hnn, ← hF]
  refine Int.eq_of_mul_eq_mul_left (Int.mul_ne_zero n0 F0) ?_
  have e3 : n * F * (P * (n * n * (F * F))) = P * (n * n * n * (F * F) * F) := by ac_rfl
  rw [e3, h1]
  generalize dsq n ds.sum ds = G
  have e4 : n * G * F + eps * (n * n * n * (F * F)) = n * F * (n * n * eps * F + G) := by
    rw [Int.mul_add, Int.add_comm]; congr 1 <;> ac_rfl
  rw [e4]
  exact Int.mul_assoc _ _ _
/-- What OverRoot rounds to is what the program's search tells. -/
theorem nrm_hu {ds : List Int} {eps d P p : Int} {f Q q : Nat} (h : QFr ds eps f P Q) (he : 0 < eps) (h1 : 1 ≤ ds.length) (hx : ((nD d f : Nat) : Int) < (2 * (0 + 2 ^ (f + 6)) - 1) * (2 * (0 + 2 ^ (f + 6)) - 1) * ((rsq ds eps f).toNat : Nat)) (hp : p * ds.length = d * q) (q0 : q ≠ 0) :
    0 < P ∧ (∀ (P' : Int) (Q' : Nat) (t : Int), Q' ≠ 0 → 0 ≤ P' → P' * (q * q * P) = Q' * (p * p * Q) → Rt (P' / (Q' : Int)) t → rnr t P' Q' = nsr (rsq ds eps f).toNat (nD d f) (f + 6) 0) ∧
      (if p < 0 then -nsr (rsq ds eps f).toNat (nD d f) (f + 6) 0 else nsr (rsq ds eps f).toNat (nD d f) (f + 6) 0) = nmv (rsq ds eps f) d f := by
  have hR := rsq_pos1 (f := f) he h1
  have e1 := q_rsq h h1
  obtain ⟨_, Q0, P0, _, _⟩ := h
  obtain ⟨R, hRe⟩ : ∃ R, R = rsq ds eps f := ⟨_, rfl⟩
  rw [← hRe] at hR e1 hx ⊢
  have PP : P ≠ 0 := by
    intro e
    rw [e, Int.zero_mul] at e1
    have := Int.mul_ne_zero (show R ≠ 0 by omega) (show (Q : Int) ≠ 0 by omega)
    omega
  have hR2 : ((R.toNat : Nat) : Int) = R := Int.toNat_of_nonneg (by omega)
  refine ⟨by omega, fun P' Q' t Q'0 P'0 h3 ht => ?_, ?_⟩
  · have m := nrm_mul (F := 2 ^ f) e1 hp h3 PP q0 Q0
    have v : ((nD d f : Nat) : Int) * Q' = 4 * P' * (R.toNat : Nat) := by
      rw [nD_val, (p2f f).1, hR2]
      have e2 : d * d * (4 * (2 ^ f * 2 ^ f)) * Q' = 4 * (d * d * (2 ^ f * 2 ^ f) * Q') := by ac_rfl
      rw [e2, m, Int.mul_assoc]
    exact nst_uniq (by omega) (rnr_nst (by omega) (by omega) v ht) (nsr_nst (by omega) hx)
  · have hs : p < 0 ↔ d < 0 := by
      have n0 : (0 : Int) < ds.length := by omega
      have q1 : (0 : Int) < q := by omega
      constructor
      · intro g
        refine Int.not_le.1 fun c => ?_
        have a := Int.mul_neg_of_neg_of_pos g n0
        have b := Int.mul_nonneg c (Int.le_of_lt q1)
        omega
      · intro g
        refine Int.not_le.1 fun c => ?_
        have a := Int.mul_neg_of_neg_of_pos g q1
        have b := Int.mul_nonneg c (Int.le_of_lt n0)
        omega
    unfold nmv
    by_cases g : d < 0
    · rw [if_pos g, if_pos (hs.2 g)]
    · rw [if_neg g, if_neg (fun c => g (hs.1 c))]
end Go.Proofs.YtldchepfcgbpiaaGreat
namespace Go.Proofs.YtldchepfcgbpiaaGreat
open Go Go.RowKit Go.Shelf
attribute [local go_sem] Oper.semAt_some

/-- A row that is normed, as the program's numbers say. -/
def nml (ds : List Int) (eps : Int) (f : Nat) : List Int := ds.map fun a => nmv (rsq ds eps f) ((ds.length : Int) * a - ds.sum) f
theorem nml_at {ds : List Int} {eps : Int} {f i : Nat} (h : i < ds.length) : (nml ds eps f).getD i 0 = nmv (rsq ds eps f) ((ofl ds).getD i 0) f := by
  rw [ofl_at h]
  simp [nml, List.getD, List.getElem?_eq_getElem h]
theorem row_low {w : World} {base base' : Nat} {e : TypeId} {size : Nat} {v : Value} {n : Nat} {xs : List Value} (h : w.ownsRow base e size v n xs) (hb : base' ≤ base) : w.ownsRow base' e size v n xs :=
  ⟨h.1, h.2.imp id fun ⟨g, cap, cur, e1, h1, r⟩ => ⟨g, cap, cur, e1, Nat.le_trans hb h1, r⟩⟩
theorem row_form {w : World} {base : Nat} {e : TypeId} {size : Nat} {v : Value} {n : Nat} {xs : List Value} (h : w.ownsRow base e size v n xs) : ∃ o c, v = .slice o n c := by
  rcases h.2 with ⟨e1, e2⟩ | ⟨g, cap, _, e1, _⟩
  · exact ⟨none, 0, by rw [e1, e2]⟩
  · exact ⟨_, cap, e1⟩
theorem infoI64 : (Tryz.prog.info? 2).map (fun i => (i.zero, i.size, i.bytes)) = some (some (.int .i64 0), 1, 8) := by kernel_rfl
def SomeNm (w : World) (L : List Int) (e : Ending) (w' : World) : Prop := ∃ o c, e = .returned (.tuple #[.slice o L.length c, .int .i64 0]) ∧ w'.ownsRow w.heap.size 2 1 (.slice o L.length c) L.length (ints L) ∧ Below w.heap.size w w'
set_option maxRecDepth 100000 in
set_option maxHeartbeats 8000000 in
theorem norm13_any (gX fX n cX f : Nat) (ds : List Int) (eps : Int) (w : World) (hX : Ld w (.slice (some ⟨gX, fX, none⟩) n cX) ds) (hl : ds.length = n) (hn : 1 ≤ n ∧ n ≤ 4096) (hw : ∀ k, k < n → (ds.getD k 0).natAbs ≤ 140737488355328) (he : 0 < eps ∧ eps ≤ 140737488355328) (hf : f ≤ 32)
    (hx : ∀ i, i < n → ((nD ((ofl ds).getD i 0) f : Nat) : Int) < (2 * (0 + 2 ^ (f + 6)) - 1) * (2 * (0 + 2 ^ (f + 6)) - 1) * ((rsq ds eps f).toNat : Nat)) :
    Calls Tryz.prog 19 #[.slice (some ⟨gX, fX, none⟩) n cX, .int .i64 eps, .int .i64 f] w (SomeNm w (nml ds eps f)) := by
  have KPT := Lib.hid (fun (W : World) (hb : Below w.heap.size w W) => parts_any gX fX n cX ds W (hX.below hb) hl hn hw)
  have KQ := Lib.hid (fun (W : World) (hb : Below w.heap.size w W) => q_any gX fX n cX f ds eps W (hX.below hb) hl hn hw ⟨by omega, he.2⟩ hf)
  have HZ : Hid (∀ i, i < n → ((ofl ds).getD i 0).natAbs ≤ 2305843009213693952) := Lib.hid (fun i hi => by rw [ofl_at (by omega)]; exact ofl_bd hl hn hw hi)
  have HD := Lib.hid (And.intro hl (And.intro hn (And.intro he (And.intro hf hx))))
  clear hX hw hx
  go_enter Tryz.func19, Tryz.ntmps19
  go_upto_region 2 with (go_at_call 33; (with_reducible refine (KPT.out _ (Below.refl _ _)).mono ?_); rintro e wp ⟨b5, o5, l5, c5, v8, b9, o9, l9, c9, rfl, hS, hO, hQ, hb⟩)
  obtain ⟨w1, hw1⟩ : ∃ v, v = (wp.alloc (.cells #[.bool b5, .slice o5 l5 c5] 71)).alloc (.cells #[.bool b9, .slice o9 l9 c9] 71) := ⟨_, rfl⟩
  rw [← hw1]
  have hB2 : Below wp.heap.size wp w1 := by rw [hw1]; exact (al_below0 _).alloc (by simp) _
  have B1 : Hid (Below w.heap.size w w1) := Lib.hid (hb.trans (hB2.mono hb.size))
  have O1 : Hid (Offs w1 v8 (ofl ds)) := Lib.hid (offs_below hO hB2)
  clear hB2 hw1 hS hO hQ hb KPT
  go_upto_region 3 with (go_at_call 34; (with_reducible refine (KQ.out _ B1.out).mono ?_); rintro e wq ⟨P, Q, vq, rfl, hR, hb, hq⟩; obtain ⟨bq, o1q, l1q, c1q, o2q, l2q, c2q, rfl, hv⟩ := hR)
  obtain ⟨T11, hT11⟩ : ∃ T, T = wq.heap.size := ⟨_, rfl⟩
  obtain ⟨w2, hw2⟩ : ∃ v, v = wq.alloc (.cells #[.bool bq, .slice o1q l1q c1q, .slice o2q l2q c2q] 76) := ⟨_, rfl⟩
  rw [← hw2, ← hT11]
  have B2 : Hid (Below w.heap.size w w2) := Lib.hid (by
    rw [hw2]; exact (B1.out.trans (hb.mono B1.out.size)).trans ((al_below0 _).mono (Nat.le_trans B1.out.size hb.size)))
  have O2 := offs_below (offs_below O1.out hb) (show Below wq.heap.size wq w2 by rw [hw2]; exact al_below0 _)
  have Z2 : Hid (Blk w2 T11 76 #[.bool bq, .slice o1q l1q c1q, .slice o2q l2q c2q]) := Lib.hid (by rw [hw2, hT11]; exact Blk.new _ _ _)
  have R2 : Hid (IsR w2 (Rv bq (.slice o1q l1q c1q) (.slice o2q l2q c2q)) P Q) := Lib.hid (by rw [hw2]; exact (IsR.mk hv).below (al_below0 _))
  have QF := Lib.hid hq
  clear hw2 hT11 hv hb hq O1 B1 KQ
  have hlo : (ofl ds).length = n := by simp [ofl, hl]
  obtain ⟨gO, cO, es8, hv8, hgl, hcell⟩ : ∃ (g cap : Nat) (es : Nat → Bool), v8 = .slice (some ⟨g, 0, none⟩) n cap ∧ g < w2.heap.size ∧ ∀ i, i < n → ∃ o l c, w2.cell? ⟨g, i * 2, none⟩ = some (.bool (es i)) ∧ w2.cell? ⟨g, i * 2 + 1, none⟩ = some (.slice o l c) ∧ IsI w2 (Iv (es i) (.slice o l c)) ((ofl ds).getD i 0) := by
    rcases O2 with ⟨h, _⟩ | h
    · rw [h] at hlo; simp at hlo; omega
    · rw [hlo] at h; exact h
  subst hv8
  have HC := Lib.hid (And.intro hgl hcell)
  obtain ⟨L, hL⟩ : ∃ L, L = nml ds eps f := ⟨_, rfl⟩
  rw [← hL]
  have HL2 : Hid (L = nml ds eps f) := Lib.hid hL
  have HLn : Hid (L.length = n) := Lib.hid (by rw [hL]; simp [nml, hl])
  have HLa : Hid (∀ i, i < n → L.getD i 0 = nmv (rsq ds eps f) ((ofl ds).getD i 0) f) := Lib.hid (fun i hi => by rw [hL]; exact nml_at (by omega))
  clear O2 hgl hcell hL hlo
  go_wp2
  go_loopw [12, 13] (fun s12 s13 wx => ∃ (i : Nat), i ≤ n ∧ s13 = .int .i64 i ∧ Hid (Below w2.heap.size w2 wx ∧ wx.ownsRow w2.heap.size 2 1 s12 i (ints (L.take i)))) (fun _ s13 _ => n - (intOf s13).toNat)
  case atStart => exact ⟨0, Nat.zero_le _, rfl, Below.refl _ _, World.ownsRow_nil _ _ _ _⟩
  case round =>
    obtain ⟨i, hi, rfl, HI⟩ := hrel
    obtain ⟨wk, hwk⟩ : ∃ v, v = wr := ⟨_, rfl⟩
    rw [← hwk] at HI ⊢
    clear hwk
    by_cases hin : i < n
    · as_aux_lemma =>
      obtain ⟨oo, lo, co, k0, k1, hOI⟩ := HC.out.2 i hin
      obtain ⟨bo, hbo⟩ : ∃ b, b = es8 i := ⟨_, rfl⟩
      rw [← hbo] at k0 hOI
      obtain ⟨d, hd⟩ : ∃ d, d = (ofl ds).getD i 0 := ⟨_, rfl⟩
      rw [← hd] at hOI
      obtain ⟨FR, hFR⟩ : ∃ FR : World → Prop, FR = fun W => Below w2.heap.size w2 W ∧ W.ownsRow w2.heap.size 2 1 u12 i (ints (L.take i)) := ⟨_, rfl⟩
      have FRb : Hid (∀ W, FR W → Below w2.heap.size w2 W ∧ W.ownsRow w2.heap.size 2 1 u12 i (ints (L.take i))) := Lib.hid (fun W h => by rw [hFR] at h; exact h)
      have FRn : Hid (∀ W W', FR W → Below W.heap.size W W' → FR W') := Lib.hid (fun W W' h hb => by rw [hFR] at h ⊢; exact ⟨h.1.trans (hb.mono h.1.size), row_bel h.2 hb⟩)
      have HF : Hid (FR wk) := Lib.hid (by rw [hFR]; exact HI.out)
      have KS : Hid (∀ V, FR V → V.cell? ⟨gO, i * 2, none⟩ = some (.bool bo) ∧ V.cell? ⟨gO, i * 2 + 1, none⟩ = some (.slice oo lo co) ∧ V.cell? ⟨T11, 0, none⟩ = some (.bool bq) ∧ V.cell? ⟨T11, 1, none⟩ = some (.slice o1q l1q c1q) ∧ V.cell? ⟨T11, 2, none⟩ = some (.slice o2q l2q c2q)) := Lib.hid (fun V hV => by
        rw [hFR] at hV
        have hz := Z2.out.below hV.1 Z2.out.lt
        exact ⟨(hV.1.cell (p := ⟨gO, i * 2, none⟩) HC.out.1).trans k0, (hV.1.cell (p := ⟨gO, i * 2 + 1, none⟩) HC.out.1).trans k1, hz.cell 0, hz.cell 1, hz.cell 2⟩)
      have KOF : Hid (∀ V, FR V → IsI V (Iv bo (.slice oo lo co)) d) := Lib.hid (fun V hV => by rw [hFR] at hV; exact hOI.below hV.1)
      have KQR : Hid (∀ V, FR V → IsR V (Rv bq (.slice o1q l1q c1q) (.slice o2q l2q c2q)) P Q) := Lib.hid (fun V hV => by rw [hFR] at hV; exact R2.out.below hV.1)
      have KNO := Lib.hid (fun W : World => nof_num n W (by have := HD.out.2.1; omega))
      have hdz : d.natAbs ≤ 2305843009213693952 := by rw [hd]; exact HZ.out i hin
      have hn0 : n ≠ 0 := by have := HD.out.2.1; omega
      obtain ⟨p, hp⟩ : ∃ p, p = d.tdiv (Nat.gcd d.natAbs n : Nat) := ⟨_, rfl⟩
      obtain ⟨q, hq⟩ : ∃ q, q = n / Nat.gcd d.natAbs n := ⟨_, rfl⟩
      obtain ⟨x1, x2, x3, x4, x5⟩ := red_of d n hn0
      rw [← hp, ← hq] at x1
      rw [← hq] at x2 x5
      rw [← hp] at x4
      have KMK : Hid (∀ (W : World) (u v : Value), IsI W u d → IsN W v n → Calls Tryz.prog 37 #[u, v] W (SomeR W p q)) := Lib.hid (fun W u v hu hv => by
        rw [hp, hq]
        exact make_any u v _ _ W hu hv (mid_of (k := 64) (by omega) (by decide)) (mid_of (k := 64) (by have := HD.out.2.1; omega) (by decide)) hn0)
      obtain ⟨P0, hu, hsg⟩ := nrm_hu (d := d) (p := p) (q := q) QF.out HD.out.2.2.1.1 (by have := HD.out.1; have := HD.out.2.1; omega) (by rw [hd]; exact HD.out.2.2.2.2 i hin) (by rw [HD.out.1]; exact x1) x2
      obtain ⟨m, hm⟩ : ∃ m, m = nmv (rsq ds eps f) d f := ⟨_, rfl⟩
      rw [← hm] at hsg
      have KOV : Hid (∀ (W : World) (x y : Value), IsR W x p q → IsR W y P Q → Calls Tryz.prog 36 #[x, y] W (SomeI W m)) := Lib.hid (fun W x y hx hy => by
        rw [← hsg]
        exact overroot_any x y p P _ q Q W hx hy P0 x2 (Nat.lt_of_lt_of_le (show p.natAbs < 2 ^ 64 by omega) (by decide)) QF.out.2.2.2.1 (Nat.lt_of_lt_of_le (show q < 2 ^ 64 by have := HD.out.2.1; omega) (by decide)) QF.out.2.2.2.2 hu)
      have hmb := nmv_bd (q := rsq ds eps f) (x := d) HD.out.2.2.2.1
      rw [← hm] at hmb
      have KWD : Hid (∀ (W : World) (v : Value), IsI W v m → Calls Tryz.prog 35 #[v] W fun e w' => e = .returned (.tuple #[.int .i64 m, .int .i64 0]) ∧ Below W.heap.size W w') := Lib.hid (fun W v hv => by
        have h := r2word_any v m W hv
        have hwd : wd m = true := by unfold wd; simp; omega
        have e1 : tw m = m := by unfold tw; rw [if_pos hwd]
        have e2 : te m = 0 := by unfold te; rw [if_pos hwd]
        rw [e1, e2] at h
        exact h)
      have HM : Hid (m = L.getD i 0) := Lib.hid (by rw [HLa.out i hin, hm, hd])
      clear hbo hd hFR hdz hn0 hp hq x1 x2 x3 x4 x5 hu hsg hm hmb P0 k0 k1 hOI
      go_upto_region 7 with fail
      go_cut [14, 15] (fun s14 s15 wx => s14 = .int .i64 m ∧ s15 = .int .i64 0 ∧ Hid (FR wx))
      case first =>
        as_aux_lemma =>
        have B_0 : Hid (FR wk.drew) := Lib.hid (FRn.out _ _ HF.out (below_drw (Below.refl _ _) 1))
        have hnw : IntKind.u64.wrap (n : Int) = (n : Int) := by have := HD.out.2.1; rw [IntKind.wrap_u64]; omega
        refine wp_region_held_drew (S := fun V => V.cell? ⟨gO, i * 2, none⟩ = some (.bool bo) ∧ V.cell? ⟨gO, i * 2 + 1, none⟩ = some (.slice oo lo co) ∧ V.cell? ⟨T11, 0, none⟩ = some (.bool bq) ∧ V.cell? ⟨T11, 1, none⟩ = some (.slice o1q l1q c1q) ∧ V.cell? ⟨T11, 2, none⟩ = some (.slice o2q l2q c2q)) (by kernel_rfl) ?_ (fun hHeld => ?_)
        · exact KS.out _ B_0.out
        have hHd := hHeld
        generalize wk.drew = w_0 at *
        (refine wpAnyH_take (i := 0) (oi := ⟨some 33, _, _, _, _, _⟩) (v := ?v0_a1) rfl (by kernel_rfl) (by kernel_rfl) (by kernel_rfl) (fun _ _ _ h => h) (Or.inl ⟨by rfl, ?hy0_a1⟩) (by assumption) ?rest0_a1; (case hy0_a1 => ((intro w hSw); (try dsimp only at hSw); go_simp; first | done | (with_reducible rfl))))
        (try simp only [Act.put, List.setIfInBounds_toArray, List.set_cons_zero, List.set_cons_succ])
        (refine wpAnyH_take (i := 1) (oi := ⟨some 34, _, _, _, _, _⟩) (v := ?v1_a2) rfl (by kernel_rfl) (by kernel_rfl) (by kernel_rfl) (fun _ _ _ h => h) (Or.inl ⟨by rfl, ?hy1_a2⟩) (by assumption) ?rest1_a2; (case hy1_a2 => ((intro w hSw); (try dsimp only at hSw); go_simp; first | done | (with_reducible rfl))))
        (try simp only [Act.put, List.setIfInBounds_toArray, List.set_cons_zero, List.set_cons_succ])
        (refine wpAnyH_take (i := 2) (oi := ⟨some 35, _, _, _, _, _⟩) (v := ?v2_a3) rfl (by kernel_rfl) (by kernel_rfl) (by kernel_rfl) (fun _ _ _ h => h) (Or.inl ⟨by rfl, ?hy2_a3⟩) (by assumption) ?rest2_a3; (case hy2_a3 => ((intro w hSw); (try dsimp only at hSw); go_simp; first | done | (with_reducible rfl))))
        (try simp only [Act.put, List.setIfInBounds_toArray, List.set_cons_zero, List.set_cons_succ])
        (refine wpAnyH_take (i := 3) (oi := ⟨some 36, _, _, _, _, _⟩) (v := ?v3_a4) rfl (by kernel_rfl) (by kernel_rfl) (by kernel_rfl) (fun _ _ _ h => h) (Or.inl ⟨by rfl, ?hy3_a4⟩) (by assumption) ?rest3_a4; (case hy3_a4 => ((intro w hSw); (try dsimp only at hSw); go_simp; first | done | (with_reducible rfl))))
        (try simp only [Act.put, List.setIfInBounds_toArray, List.set_cons_zero, List.set_cons_succ])
        (refine wpAnyH_take (i := 4) (oi := ⟨some 37, _, _, _, _, _⟩) (v := ?v4_a5) rfl (by kernel_rfl) (by kernel_rfl) (by kernel_rfl) (fun _ _ _ h => h) (Or.inl ⟨by rfl, ?hy4_a5⟩) (by assumption) ?rest4_a5; (case hy4_a5 => ((intro w hSw); (try dsimp only at hSw); go_simp; first | done | (with_reducible rfl))))
        (try simp only [Act.put, List.setIfInBounds_toArray, List.set_cons_zero, List.set_cons_succ])
        (refine wpAnyH_take (i := 5) (oi := ⟨some 38, _, _, _, _, _⟩) (v := ?v5_a6) rfl (by kernel_rfl) (by kernel_rfl) (by kernel_rfl) (fun _ _ _ h => h) (Or.inl ⟨by rfl, ?hy5_a6⟩) (by assumption) ?rest5_a6; (case hy5_a6 => ((intro w hSw); (try dsimp only at hSw); go_simp; first | done | (with_reducible rfl))))
        (try simp only [Act.put, List.setIfInBounds_toArray, List.set_cons_zero, List.set_cons_succ])
        (refine wpAnyH_take (i := 6) (oi := ⟨some 39, _, _, _, _, _⟩) (v := .int .u64 (n : Nat)) rfl (by kernel_rfl) (by kernel_rfl) (by kernel_rfl) (fun _ _ _ h => h) (Or.inl ⟨by rfl, ?hy6_a7⟩) (by assumption) ?rest6_a7; (case hy6_a7 => ((intro w hSw); (try dsimp only at hSw); go_simp; first | done | (with_reducible rfl))))
        (try simp only [Act.put, List.setIfInBounds_toArray, List.set_cons_zero, List.set_cons_succ])
        (refine wpAnyH_take (i := 9) (oi := ⟨some 42, _, _, _, _, _⟩) (v := ?v9_a8) rfl (by kernel_rfl) (by kernel_rfl) (by kernel_rfl) (fun _ _ _ h => h) (Or.inl ⟨by rfl, ?hy9_a8⟩) (by assumption) ?rest9_a8; (case hy9_a8 => ((intro w hSw); (try dsimp only at hSw); go_simp; first | done | (with_reducible rfl))))
        (try simp only [Act.put, List.setIfInBounds_toArray, List.set_cons_zero, List.set_cons_succ])
        refine wpAnyH_ready (rs := [7]) (by kernel_rfl) (by simp) ?_
        refine AllReadyH.cons (o := ⟨some 40, _, _, _, _, _⟩) rfl (fun K hK => ?_) (AllReadyH.nil)
        go_simp
        (go_at_call 38; (with_reducible refine (KNO.out _).mono ?_); rintro e w_1 ⟨vn, rfl, hN, hb⟩; have B_1 := Lib.hid (FRn.out _ _ B_0.out hb); have N_1 := Lib.hid hN; clear hb hN)
        refine hK.out _ _ ?_ (fun hHeld => ?_)
        · (try dsimp only)
          exact KS.out _ B_1.out
        clear hK K
        (try simp only [Act.put, List.setIfInBounds_toArray, List.set_cons_zero, List.set_cons_succ])
        refine wpAnyH_ready (rs := [8]) (by kernel_rfl) (by simp) ?_
        refine AllReadyH.cons (o := ⟨some 41, _, _, _, _, _⟩) rfl (fun K hK => ?_) (AllReadyH.nil)
        go_simp
        (go_at_call 37; (with_reducible refine (KMK.out _ _ _ (KOF.out _ B_1.out) N_1.out).mono ?_); rintro e w_2 ⟨bm, o1m, l1m, c1m, o2m, l2m, c2m, rfl, hv, hb⟩; have B_2 := Lib.hid (FRn.out _ _ B_1.out hb); have M_2 := Lib.hid (IsR.mk hv); clear hb hv)
        refine hK.out _ _ ?_ (fun hHeld => ?_)
        · (try dsimp only)
          exact KS.out _ B_2.out
        clear hK K
        (try simp only [Act.put, List.setIfInBounds_toArray, List.set_cons_zero, List.set_cons_succ])
        refine wpAnyH_ready (rs := [10]) (by kernel_rfl) (by simp) ?_
        refine AllReadyH.cons (o := ⟨some 43, _, _, _, _, _⟩) rfl (fun K hK => ?_) (AllReadyH.nil)
        go_simp
        (go_at_call 36; (with_reducible refine (KOV.out _ _ _ M_2.out (KQR.out _ B_2.out)).mono ?_); rintro e w_3 ⟨vx, rfl, hI, hb⟩; obtain ⟨bx, ox, lx, cx, rfl, H0⟩ := hI.open; have B_3 := Lib.hid (FRn.out _ _ B_2.out hb); have X_3 := Lib.hid (IsI.mk H0.out.1 H0.out.2.1); clear hb hI H0)
        refine hK.out _ _ ?_ (fun hHeld => ?_)
        · (try dsimp only)
          exact KS.out _ B_3.out
        clear hK K
        (try simp only [Act.put, List.setIfInBounds_toArray, List.set_cons_zero, List.set_cons_succ])
        refine wpAnyH_ready (rs := [11]) (by kernel_rfl) (by simp) ?_
        refine AllReadyH.cons (o := ⟨some 44, _, _, _, _, _⟩) rfl (fun K hK => ?_) (AllReadyH.nil)
        go_simp
        (go_at_call 35; (with_reducible refine (KWD.out _ _ X_3.out).mono ?_); rintro e w_4 ⟨rfl, hb⟩; have B_4 := Lib.hid (FRn.out _ _ B_3.out hb); clear hb)
        refine hK.out _ _ ?_ (fun hHeld => ?_)
        · (try dsimp only)
          exact KS.out _ B_4.out
        clear hK K
        (try simp only [Act.put, List.setIfInBounds_toArray, List.set_cons_zero, List.set_cons_succ])
        (refine wpAnyH_take (i := 12) (oi := ⟨some 32, _, _, _, _, _⟩) (v := ?v12_a9) rfl (by kernel_rfl) (by kernel_rfl) (by kernel_rfl) (fun _ _ _ h => h) (Or.inl ⟨by rfl, ?hy12_a9⟩) (by assumption) ?rest12_a9; (case hy12_a9 => ((intro w hSw); (try dsimp only at hSw); go_simp; first | done | (with_reducible rfl))))
        (try simp only [Act.put, List.setIfInBounds_toArray, List.set_cons_zero, List.set_cons_succ])
        (refine wpAnyH_take (i := 13) (oi := ⟨some 45, _, _, _, _, _⟩) (v := ?v13_a10) rfl (by kernel_rfl) (by kernel_rfl) (by kernel_rfl) (fun _ _ _ h => h) (Or.inl ⟨by rfl, ?hy13_a10⟩) (by assumption) ?rest13_a10; (case hy13_a10 => ((intro w hSw); (try dsimp only at hSw); go_simp; first | done | (with_reducible rfl))))
        (try simp only [Act.put, List.setIfInBounds_toArray, List.set_cons_zero, List.set_cons_succ])
        (refine wpAnyH_take (i := 14) (oi := ⟨some 46, _, _, _, _, _⟩) (v := ?v14_a11) rfl (by kernel_rfl) (by kernel_rfl) (by kernel_rfl) (fun _ _ _ h => h) (Or.inl ⟨by rfl, ?hy14_a11⟩) (by assumption) ?rest14_a11; (case hy14_a11 => ((intro w hSw); (try dsimp only at hSw); go_simp; first | done | (with_reducible rfl))))
        (try simp only [Act.put, List.setIfInBounds_toArray, List.set_cons_zero, List.set_cons_succ])
        (refine wpAnyH_take (i := 15) (oi := ⟨some 14, _, _, _, _, _⟩) (v := ?v15_a12) rfl (by kernel_rfl) (by kernel_rfl) (by kernel_rfl) (fun _ _ _ h => h) (Or.inl ⟨by rfl, ?hy15_a12⟩) (by assumption) ?rest15_a12; (case hy15_a12 => ((intro w hSw); (try dsimp only at hSw); go_simp; first | done | (with_reducible rfl))))
        (try simp only [Act.put, List.setIfInBounds_toArray, List.set_cons_zero, List.set_cons_succ])
        (refine wpAnyH_take (i := 16) (oi := ⟨some 15, _, _, _, _, _⟩) (v := ?v16_a13) rfl (by kernel_rfl) (by kernel_rfl) (by kernel_rfl) (fun _ _ _ h => h) (Or.inl ⟨by rfl, ?hy16_a13⟩) (by assumption) ?rest16_a13; (case hy16_a13 => ((intro w hSw); (try dsimp only at hSw); go_simp; first | done | (with_reducible rfl))))
        (try simp only [Act.put, List.setIfInBounds_toArray, List.set_cons_zero, List.set_cons_succ])
        refine wpAnyH_done (by kernel_rfl) ?_ _
        go_wp2
        go_meet
        exact ⟨rfl, rfl, B_4⟩
      case rest =>
        as_aux_lemma =>
        obtain ⟨rfl, rfl, HF2⟩ := hcut
        obtain ⟨w7, hw7⟩ : ∃ v, v = wc := ⟨_, rfl⟩
        rw [← hw7] at HF2 ⊢
        have HB7 := Lib.hid (FRb.out _ HF2.out)
        clear hw7 HF HF2 KS FRb FRn KOF KQR KNO KMK KOV KWD
        have hn4 := HD.out.2.1
        obtain ⟨i0, hi0, hz0, hz1, hz2⟩ := info_parts infoI64
        go_wp2_with (at_builtin; refine wpList_append_lies _ rfl _ _ 24 rfl w2.heap.size 2 i0 (.int .i64 0) 1 8 Tryz.underlying24 hi0 hz0 hz1 hz2 rfl (by decide) _ i (ints (L.take i)) rfl (row_bel HB7.out.2 (al_below0 _)) ⟨w7.heap.size, 0, none⟩ 1 1 [.int .i64 m] rfl rfl (World.news_of_block (Blk.new w7 _ #[.int .i64 m])) (by simp [Value.oneCell']) (by decide) (by unfold maxLen; omega) (by omega) ?b1 _ rfl ?_)
        case b1 => (have h1 := HB7.out.1.size; (first | omega | (simp; omega)))
        intro g9 cp9 w9 hown hgrow hat _
        have hB9 : Hid (Below w2.heap.size w2 w9) := Lib.hid ((HB7.out.1.alloc HB7.out.1.size _).grown hgrow (by have := HB7.out.1.size; simp; omega) (fun k hk => (HB7.out.2.lt k hk).1))
        have et : ints (L.take (i + 1)) = ints (L.take i) ++ [.int .i64 m] := by
          rw [take_snoc (by have := HLn.out; omega), ← HM.out]
          simp [ints]
        have HO9 := Lib.hid hown
        rw [← et] at HO9
        clear hown hgrow hat et
        go_wp2
        refine ⟨⟨i + 1, by omega, by go_num, hB9.out, HO9.out⟩, by simp [intOf]; omega⟩
    · as_aux_lemma =>
      have hin2 : i = n := by omega
      have hown : wk.ownsRow w.heap.size 2 1 u12 L.length (ints L) := by
        have h := row_low HI.out.2 B2.out.size
        rw [hin2, List.take_of_length_le (by have := HLn.out; omega)] at h
        rw [HLn.out]; exact h
      rw [HL2.out] at hown
      obtain ⟨o, c, hu⟩ := row_form hown
      go_wp2
      refine bodyPost_ret (v := .tuple #[u12, .int .i64 0]) (by simp [results, Tryz.results19, go_sem]) rfl ?_
      exact ⟨o, c, by rw [hu], by rw [← hu]; exact hown, B2.out.trans (HI.out.1.mono B2.out.size)⟩
end Go.Proofs.YtldchepfcgbpiaaGreat
namespace Go.Proofs.YtldchepfcgbpiaaGreat

end Go.Proofs.YtldchepfcgbpiaaGreat
namespace Go.Proofs.YtldchepfcgbpiaaGreat
open Go.RowKit

/-- Words in new memory. -/
def SomeWd (w : World) (ls : List Int) (e : Ending) (w' : World) : Prop := ∃ o c, e = .returned (.slice o ls.length c) ∧ w'.ownsRow w.heap.size 2 1 (.slice o ls.length c) ls.length (ints ls) ∧ Ld w' (.slice o ls.length c) ls ∧ Below w.heap.size w w'
end Go.Proofs.YtldchepfcgbpiaaGreat
namespace Go.Proofs.YtldchepfcgbpiaaGreat
open Go.RowKit


end Go.Proofs.YtldchepfcgbpiaaGreat
namespace Go.Proofs.YtldchepfcgbpiaaGreat
open Go.RowKit



end Go.Proofs.YtldchepfcgbpiaaGreat
namespace Go.Proofs.YtldchepfcgbpiaaGreat
open Go.RowKit


theorem own_len {w : World} {base n : Nat} {e : TypeId} {v : Value} {xs : List Value} (h : w.ownsRow base e 1 v n xs) : ∃ o c, v = .slice o n c := by
  rcases h.2 with ⟨rfl, rfl⟩ | ⟨g, cap, cur, rfl, _⟩
  · exact ⟨_, _, rfl⟩
  · exact ⟨_, _, rfl⟩
theorem own_put2 {w : World} {base g c i n : Nat} {ls : List Int} {e : TypeId} (h : w.ownsRow base e 1 (.slice (some ⟨g, 0, none⟩) n c) n (ints ls)) (hl : ls.length = n) (hi : i < n) (v : Int) : (w.setCell ⟨g, i, none⟩ (.int .i64 v)).ownsRow base e 1 (.slice (some ⟨g, 0, none⟩) n c) n (ints (ls.set i v)) := by
  subst hl
  have := own_put h hi v
  rwa [List.length_set] at this

set_option maxRecDepth 100000 in
set_option maxHeartbeats 4000000 in
theorem numberso_any (base : Nat) (v : Value) (ls : List Int) (w : World) (h : w.ownsRow base 3 1 v ls.length (ints ls)) (hb : base ≤ w.heap.size) (hl : ls.length ≤ 65536) :
    Calls Tryz.prog 46 #[v] w fun e w' => e = .returned (.tuple #[]) ∧ w.grownBy w' v.ownBlock := by
  obtain ⟨i0, hi0, hz0, hz1, hz2⟩ := info_parts infoI
  obtain ⟨n, hn⟩ : ∃ n, n = ls.length := ⟨_, rfl⟩
  have HLN := Lib.hid hn
  rw [← hn] at h hl
  clear hn
  obtain ⟨o, c, rfl⟩ := own_len h
  have H0 : Hid (w.ownsRow base 3 1 (.slice o n c) n (ints ls)) := h
  have HF := Lib.hid (fun (h0 : 0 < n) => own_some h h0)
  clear h
  go_enter Tryz.func46, Tryz.ntmps46
  go_wp2
  go_loopw [2] (fun s2 wr => ∃ (k : Nat) (L : List Int), k ≤ n ∧ s2 = .int .i64 k ∧ Hid (L.length = n) ∧ Hid (wr.ownsRow base 3 1 (.slice o n c) n (ints L)) ∧ Hid (w.grownBy wr (Value.slice o n c).ownBlock)) (fun s2 _ => n - (intOf s2).toNat)
  case atStart => exact ⟨0, ls, Nat.zero_le _, rfl, HLN.out.symm, H0.out, World.grownBy.refl _ _⟩
  case round =>
    obtain ⟨k, L, hk, rfl, HL, HO, HG⟩ := hrel
    by_cases hlt : k < n
    · obtain ⟨g, rfl⟩ := HF.out (by omega)
      have kc : wr.cell? ⟨g, k, none⟩ = some (.int .i64 (L.getD k 0)) := by
        have h1 := HO.out
        rw [← HL.out] at h1
        exact own_cell h1 (by have := HL.out; omega)
      have kf := own_frozen HO.out k
      generalize L.getD k 0 = x at kc
      go_wp2
      refine ⟨⟨k + 1, L.set k (-99), by omega, by go_num, by have := HL.out; simpa [Hid] using this, own_put2 HO.out HL.out hlt _, grown_put HG.out _⟩, by simp [intOf]; omega⟩
    · go_wp2_with (at_builtin; refine wpList_append_own _ rfl _ _ 23 rfl base 3 i0 (.int .i64 0) 1 8 Tryz.underlying23 hi0 hz0 hz1 hz2 rfl (by decide) _ n (ints L) rfl (HO.out.alloc _) ⟨wr.heap.size, 0, none⟩ 1 1 [.int .i64 5] rfl rfl ?c1 ?c2 ?c3 ?c4 ?c5 ?_)
      case c1 => exact (cell_one_new _ _ _)
      case c2 => simp [Value.oneCell']
      case c3 => unfold maxLen; omega
      case c4 => omega
      case c5 => have := HG.out.size; simp; omega
      intro v' w9 _ hgrow _
      have h1 := HG.out
      have h2 : w.grownBy w9 (Value.slice o n c).ownBlock := ⟨hgrow.os.trans h1.os, hgrow.tape.trans h1.tape, hgrow.output.trans h1.output, Nat.le_trans h1.size (Nat.le_trans (by simp) hgrow.size), fun j hj hne => (hgrow.block j (by have := h1.size; simp; omega) hne).trans ((Below.heap_alloc _ _ _ (by have := h1.size; omega)).trans (h1.block j hj hne))⟩
      have H2 := Lib.hid h2
      clear h1 h2 hgrow
      go_wp2
      refine bodyPost_end (results_none rfl _ _ _) rfl ?_
      exact ⟨rfl, H2.out⟩




end Go.Proofs.YtldchepfcgbpiaaGreat
namespace Go.Proofs.YtldchepfcgbpiaaGreat
open Go.RowKit

set_option maxRecDepth 100000 in
set_option maxHeartbeats 4000000 in
theorem wordso_any (base : Nat) (v : Value) (ls : List Int) (w : World) (h : w.ownsRow base 2 1 v ls.length (ints ls)) (hb : base ≤ w.heap.size) (hl : ls.length ≤ 65536) :
    Calls Tryz.prog 47 #[v] w fun e w' => e = .returned (.tuple #[]) ∧ w.grownBy w' v.ownBlock := by
  obtain ⟨i0, hi0, hz0, hz1, hz2⟩ := info_parts infoW
  obtain ⟨n, hn⟩ : ∃ n, n = ls.length := ⟨_, rfl⟩
  have HLN := Lib.hid hn
  rw [← hn] at h hl
  clear hn
  obtain ⟨o, c, rfl⟩ := own_len h
  have H0 : Hid (w.ownsRow base 2 1 (.slice o n c) n (ints ls)) := h
  have HF := Lib.hid (fun (h0 : 0 < n) => own_some h h0)
  clear h
  go_enter Tryz.func47, Tryz.ntmps47
  go_wp2
  go_loopw [2] (fun s2 wr => ∃ (k : Nat) (L : List Int), k ≤ n ∧ s2 = .int .i64 k ∧ Hid (L.length = n) ∧ Hid (wr.ownsRow base 2 1 (.slice o n c) n (ints L)) ∧ Hid (w.grownBy wr (Value.slice o n c).ownBlock)) (fun s2 _ => n - (intOf s2).toNat)
  case atStart => exact ⟨0, ls, Nat.zero_le _, rfl, HLN.out.symm, H0.out, World.grownBy.refl _ _⟩
  case round =>
    obtain ⟨k, L, hk, rfl, HL, HO, HG⟩ := hrel
    by_cases hlt : k < n
    · obtain ⟨g, rfl⟩ := HF.out (by omega)
      have kc : wr.cell? ⟨g, k, none⟩ = some (.int .i64 (L.getD k 0)) := by
        have h1 := HO.out
        rw [← HL.out] at h1
        exact own_cell h1 (by have := HL.out; omega)
      have kf := own_frozen HO.out k
      generalize L.getD k 0 = x at kc
      go_wp2
      refine ⟨⟨k + 1, L.set k (-9999), by omega, by go_num, by have := HL.out; simpa [Hid] using this, own_put2 HO.out HL.out hlt _, grown_put HG.out _⟩, by simp [intOf]; omega⟩
    · go_wp2_with (at_builtin; refine wpList_append_own _ rfl _ _ 24 rfl base 2 i0 (.int .i64 0) 1 8 Tryz.underlying24 hi0 hz0 hz1 hz2 rfl (by decide) _ n (ints L) rfl (HO.out.alloc _) ⟨wr.heap.size, 0, none⟩ 1 1 [.int .i64 5] rfl rfl ?c1 ?c2 ?c3 ?c4 ?c5 ?_)
      case c1 => exact (cell_one_new _ _ _)
      case c2 => simp [Value.oneCell']
      case c3 => unfold maxLen; omega
      case c4 => omega
      case c5 => have := HG.out.size; simp; omega
      intro v' w9 _ hgrow _
      have h1 := HG.out
      have h2 : w.grownBy w9 (Value.slice o n c).ownBlock := ⟨hgrow.os.trans h1.os, hgrow.tape.trans h1.tape, hgrow.output.trans h1.output, Nat.le_trans h1.size (Nat.le_trans (by simp) hgrow.size), fun j hj hne => (hgrow.block j (by have := h1.size; simp; omega) hne).trans ((Below.heap_alloc _ _ _ (by have := h1.size; omega)).trans (h1.block j hj hne))⟩
      have H2 := Lib.hid h2
      clear h1 h2 hgrow
      go_wp2
      refine bodyPost_end (results_none rfl _ _ _) rfl ?_
      exact ⟨rfl, H2.out⟩

set_option maxRecDepth 100000 in
set_option maxHeartbeats 4000000 in
theorem copywords_any (v : Value) (ls : List Int) (w : World) (h : Ld w v ls) (ll : ls.length ≤ 17592186044000) :
    Calls Tryz.prog 20 #[v] w (SomeWd w ls) := by
  obtain ⟨i0, hi0, hz0, hz1, hz2⟩ := info_parts infoW
  obtain ⟨o, c, rfl, _, hx⟩ := h
  have HX := Lib.hid hx
  clear hx
  go_enter Tryz.func20, Tryz.ntmps20
  go_wp2
  go_loopw [3, 4] (fun s3 s4 wr => ∃ k : Nat, k ≤ ls.length ∧ s4 = .int .i64 k ∧ Hid (wr.ownsRow w.heap.size 2 1 s3 k (ints (ls.take k))) ∧ Below w.heap.size w wr) (fun _ s4 _ => ls.length - (intOf s4).toNat)
  case atStart => exact ⟨0, Nat.zero_le _, rfl, World.ownsRow_nil _ _ _ _, Below.refl _ _⟩
  case round =>
    obtain ⟨k, hk, rfl, HO, hB⟩ := hrel
    have hBs := hB.size
    by_cases hlt : k < ls.length
    · obtain ⟨b, f, rfl, hb, hc⟩ := HX.out k hlt
      have hc' : wr.cell? ⟨b, f + k, none⟩ = some (.int .i64 (ls.getD k 0)) := (hB.cell (p := ⟨b, f + k, none⟩) hb).trans hc
      have E : Hid (ints (ls.take (k + 1)) = ints (ls.take k) ++ [.int .i64 (ls.getD k 0)]) := by
        unfold Hid ints
        rw [List.take_succ_eq_append_getElem hlt, List.map_append]
        simp [List.getD, List.getElem?_eq_getElem hlt]
      clear hc
      generalize ls.getD k 0 = x at *
      go_wp2_with (at_builtin; refine wpList_append_own _ rfl _ _ 24 rfl w.heap.size 2 i0 (.int .i64 0) 1 8 Tryz.underlying24 hi0 hz0 hz1 hz2 rfl (by decide) _ k (ints (ls.take k)) rfl (HO.out.alloc _) ⟨wr.heap.size, 0, none⟩ 1 1 [.int .i64 x] rfl rfl ?c1 ?c2 ?c3 ?c4 ?c5 ?_)
      case c1 => exact (cell_one_new _ _ _)
      case c2 => simp [Value.oneCell']
      case c3 => unfold maxLen; omega
      case c4 => omega
      case c5 => simp; omega
      intro v' w9 hown1 hgrow _
      have hB9 : Below w.heap.size w w9 := (hB.alloc hBs _).grown hgrow (by simp; omega) (fun j hj => (HO.out.lt j hj).1)
      have h1 : Hid (w9.ownsRow w.heap.size 2 1 v' (k + 1) (ints (ls.take (k + 1)))) := by
        rw [Hid, E.out]; exact hown1
      clear hown1 hgrow
      go_wp2
      exact ⟨⟨k + 1, by omega, by go_num, h1, hB9⟩, by simp [intOf]; omega⟩
    · obtain rfl : k = ls.length := by omega
      have h1 := HO.out
      rw [List.take_length] at h1
      obtain ⟨o2, c2, rfl, hld⟩ := Ld.of_owns h1
      have H1 := Lib.hid (And.intro h1 hld)
      clear h1 hld HO
      go_wp2
      go_ret
      exact ⟨o2, c2, rfl, H1.out.1, H1.out.2, hB⟩

end Go.Proofs.YtldchepfcgbpiaaGreat
namespace Go.Proofs.YtldchepfcgbpiaaGreat
open Go.RowKit Go.Shelf

set_option maxRecDepth 100000 in
set_option maxHeartbeats 4000000 in
theorem eqtensor_same (va vb ua ub : Value) (a b : List Int) (w : World) (ha : Ld w va a) (hb : Ld w vb b) (hc : Ld w ua a) (hd : Ld w ub b) (l1 : a.length ≤ 17592186044416) (l2 : b.length ≤ 17592186044416) :
    Calls Tryz.prog 12 #[.agg #[va, vb], .agg #[ua, ub]] w fun e w' => e = .returned (.bool true) ∧ Below w.heap.size w w' := by
  have hB0 : Below w.heap.size w ((w.alloc (.cells #[va, vb] 26)).alloc (.cells #[ua, ub] 26)) := ((Below.refl _ _).alloc (Nat.le_refl _) _).alloc (by simp) _
  have X0 := Lib.hid ((Blk.new w 26 #[va, vb]).alloc (.cells #[ua, ub] 26))
  have X1 := Lib.hid (blk_new1 w (.cells #[va, vb] 26) 26 #[ua, ub])
  have C1 : Hid (∀ n, ((w.alloc (.cells #[va, vb] 26)).alloc (.cells #[ua, ub] 26)).heap.size = n → Calls Tryz.prog 30 #[va, ua] ((w.alloc (.cells #[va, vb] 26)).alloc (.cells #[ua, ub] 26)) fun e w' => e = .returned (.bool true) ∧ Below n ((w.alloc (.cells #[va, vb] 26)).alloc (.cells #[ua, ub] 26)) w') := fun n hn => by
    subst hn
    have := eqn_any va ua a a _ (ha.below hB0) (hc.below hB0) l1 l1
    rwa [show decide (a = a) = true by simp] at this
  have C2 : Hid (∀ W, Below w.heap.size w W → Calls Tryz.prog 31 #[vb, ub] W fun e w' => e = .returned (.bool true) ∧ Below W.heap.size W w') := fun W hW => by
    have := eqw_any vb ub b b _ (hb.below hW) (hd.below hW) l2 l2
    rwa [show decide (b = b) = true by simp] at this
  replace C1 := Lib.hid (C1.out (w.heap.size + 2) (by simp))
  obtain ⟨o1, n1, rfl, _, _⟩ := ha
  obtain ⟨o2, n2, rfl, _, _⟩ := hb
  obtain ⟨o3, n3, rfl, _, _⟩ := hc
  obtain ⟨o4, n4, rfl, _, _⟩ := hd
  have HB0 := Lib.hid hB0
  clear hB0
  go_enter Tryz.func12, Tryz.ntmps12
  go_wp2_with (first
    | (go_at_call 30; (with_reducible refine C1.out.mono ?_); rintro e w2 ⟨rfl, hb2⟩; have b2 := HB0.out.trans (hb2.mono (by omega)); have Z0 := Lib.hid (X0.out.below hb2 (by omega)); have Z1 := Lib.hid (X1.out.below hb2 (by omega)); obtain ⟨c0, c1, _⟩ := blk2 Z0.out; obtain ⟨d0, d1, _⟩ := blk2 Z1.out; clear hb2)
    | (go_at_call 31; (with_reducible refine (C2.out _ b2).mono ?_); rintro e w3 ⟨rfl, hb3⟩; have b3 := b2.trans (hb3.mono b2.size); clear hb3))
  go_ret
  exact ⟨rfl, b3⟩

end Go.Proofs.YtldchepfcgbpiaaGreat
namespace Go.Proofs.YtldchepfcgbpiaaGreat
open Go Go.RowKit Go.Shelf

theorem own_two {X : World} {b base n : Nat} {e : TypeId} {v : Value} {xs : List Value} {cs : Array Value} (hO : X.ownsRow base e 1 v n xs) (hb : Blk X b 26 cs) (hne : e ≠ 26) (u1 u2 : Value) :
    ((X.setCell ⟨b, 0, none⟩ u1).setCell ⟨b, 1, none⟩ u2).ownsRow base e 1 v n xs := by
  have h1 := hO.kept (grown_set X ⟨b, 0, none⟩ u1) (.inr (tens_not_row hO hb hne))
  exact h1.kept (grown_set _ ⟨b, 1, none⟩ u2) (.inr (tens_not_row h1 (hb.set_ 0 u1) hne))
end Go.Proofs.YtldchepfcgbpiaaGreat
namespace Go.Proofs.YtldchepfcgbpiaaGreat
open Go Go.RowKit Go.Shelf

theorem own_tset {W : World} {T base n i : Nat} {t : TypeId} {v z : Value} {xs : List Value} {cs : Array Value} (h : W.ownsRow base t 1 v n xs) (hb : Blk W T 26 cs) (hne : t ≠ 26) : (W.setCell ⟨T, i, none⟩ z).ownsRow base t 1 v n xs :=
  h.kept (grown_set W ⟨T, i, none⟩ z) (.inr (tens_not_row h hb hne))
/-- A tensor in new memory. -/
def SomeCT (w : World) (sh ds : List Int) (e : Ending) (w' : World) : Prop := ∃ os cs od cd, e = .returned (.agg #[.slice os sh.length cs, .slice od ds.length cd]) ∧ w'.ownsRow w.heap.size 3 1 (.slice os sh.length cs) sh.length (ints sh) ∧ w'.ownsRow w.heap.size 2 1 (.slice od ds.length cd) ds.length (ints ds) ∧ Below w.heap.size w w'
set_option maxRecDepth 100000 in
set_option maxHeartbeats 8000000 in
theorem copytens_any (vs vd : Value) (sh ds : List Int) (w : World) (hs : Ld w vs sh) (hd : Ld w vd ds) (l1 : sh.length ≤ 17592186044000) (l2 : ds.length ≤ 17592186044000) :
    Calls Tryz.prog 9 #[.agg #[vs, vd]] w (SomeCT w sh ds) := by
  obtain ⟨w3, hw3⟩ : ∃ w3, w3 = ((w.alloc (.cells #[vs, vd] 26)).alloc (.cells #[.slice none 0 0, .slice none 0 0] 26)).alloc (.cells #[vs, vd] 26) := ⟨_, rfl⟩
  have hsz : w3.heap.size = w.heap.size + 3 := by rw [hw3]; simp
  have B3 : Below w.heap.size w w3 := by rw [hw3]; exact (((Below.refl _ _).alloc (Nat.le_refl _) _).alloc (by simp) _).alloc (by simp; omega) _
  have K0 : Hid (Blk w3 w.heap.size 26 #[vs, vd]) := by rw [hw3]; exact ((Blk.new w _ _).alloc _).alloc _
  have K1 : Hid (Blk w3 (w.heap.size + 1) 26 #[.slice none 0 0, .slice none 0 0]) := by rw [hw3]; exact (blk_new1 w _ _ _).alloc _
  have K2 : Hid (Blk w3 (w.heap.size + 2) 26 #[vs, vd]) := by
    rw [hw3]
    have q := Blk.new ((w.alloc (.cells #[vs, vd] 26)).alloc (.cells #[.slice none 0 0, .slice none 0 0] 26)) 26 #[vs, vd]
    rwa [World.size_alloc, World.size_alloc] at q
  have C1 : Hid (∀ n, w3.heap.size = n → Calls Tryz.prog 18 #[vs] w3 fun e w' => ∃ o c, e = .returned (.slice o sh.length c) ∧ w'.ownsRow n 3 1 (.slice o sh.length c) sh.length (ints sh) ∧ Ld w' (.slice o sh.length c) sh ∧ Below n w3 w') := fun n hn => by
    subst hn
    exact copy_any vs sh w3 (hs.below B3) l1
  replace C1 := Lib.hid (C1.out (w.heap.size + 3) hsz)
  have C2 := Lib.hid (fun (W : World) (hW : Below w.heap.size w W) => copywords_any vd ds W (hd.below hW) l2)
  obtain ⟨o1, n1, rfl, _, _⟩ := hs
  obtain ⟨o2, n2, rfl, _, _⟩ := hd
  have HW := Lib.hid hw3
  rw [hw3] at C1
  clear hw3
  go_enter Tryz.func9, Tryz.ntmps9
  go_wp2_with (first
    | (go_at_call 18; (with_reducible refine C1.out.mono ?_); rintro e w2 ⟨o5, c5, rfl, ho5, _, hb2⟩; rw [← HW.out] at hb2; have b2 := B3.trans (hb2.mono (by omega)); replace K0 := Lib.hid (K0.out.below hb2 (by omega)); replace K1 := Lib.hid (K1.out.below hb2 (by omega)); replace K2 := Lib.hid (K2.out.below hb2 (by omega)); obtain ⟨c0, c1, _⟩ := blk2 K0.out; obtain ⟨x0, x1, g0, g1⟩ := blk2 K2.out; have s2 := Nat.le_trans (Nat.le_of_eq hsz.symm) hb2.size; have O2 := Lib.hid (own_tset (i := 0) (z := .slice o5 sh.length c5) ho5 K2.out (by decide)); clear ho5 hb2)
    | (go_at_call 20; (with_reducible refine Go.Calls.mono (C2.out _ ?_) ?_); (· exact b2.setCell (by show w.heap.size ≤ w.heap.size + 2; omega) _); rintro e w4 ⟨o6, c6, rfl, ho6, _, hb4⟩; have b4 := (b2.setCell (p := ⟨w.heap.size + 2, 0, none⟩) (by show w.heap.size ≤ w.heap.size + 2; omega) (.slice o5 sh.length c5)).trans (hb4.mono (by simp; omega)); have s4 := hb4.size; have Q2 := Lib.hid ((K2.out.set_ 0 (.slice o5 sh.length c5)).below hb4 (by simp; omega)); have Q1 := Lib.hid ((K1.out.far (p := ⟨w.heap.size + 2, 0, none⟩) (by show w.heap.size + 1 ≠ w.heap.size + 2; omega) (.slice o5 sh.length c5)).below hb4 (by simp; omega)); obtain ⟨x0, x1, g0, g1⟩ := blk2 Q2.out; obtain ⟨d0, d1, f0, f1⟩ := blk2 Q1.out; have O4 := Lib.hid (Below.keepOwn O2.out hb4 (Nat.le_refl _)); have O6 := Lib.hid ho6; clear ho6 hb4))
  have e2 : w.heap.size + 1 + 1 = w.heap.size + 2 := rfl
  have R1 := Lib.hid (Q1.out.far (p := ⟨w.heap.size + 2, 1, none⟩) (by show w.heap.size + 1 ≠ w.heap.size + 2; omega) (.slice o6 ds.length c6))
  have R2 := Lib.hid ((R1.out.set_ 0 (.slice o5 sh.length c5)).set_ 1 (.slice o6 ds.length c6))
  have r0 := R2.out.cell 0
  have r1 := R2.out.cell 1
  refine bodyPost_ret (v := .agg #[.slice o5 sh.length c5, .slice o6 ds.length c6]) (by simp [results, Tryz.results9, go_sem, r0, r1]) rfl ?_
  have p5 := own_two (own_tset (i := 1) (z := .slice o6 ds.length c6) O4.out Q2.out (by decide)) R1.out (by decide) (.slice o5 sh.length c5) (.slice o6 ds.length c6)
  have p6 := own_two (own_tset (i := 1) (z := .slice o6 ds.length c6) O6.out Q2.out (by decide)) R1.out (by decide) (.slice o5 sh.length c5) (.slice o6 ds.length c6)
  refine ⟨_, _, _, _, rfl, own_base p5 ?_, own_base p6 ?_, ((b4.setCell (p := ⟨w.heap.size + 2, 1, none⟩) (by show w.heap.size ≤ w.heap.size + 2; omega) _).setCell (p := ⟨w.heap.size + 1, 0, none⟩) (by show w.heap.size ≤ w.heap.size + 1; omega) _).setCell (p := ⟨w.heap.size + 1, 1, none⟩) (by show w.heap.size ≤ w.heap.size + 1; omega) _⟩
  · omega
  · simp; omega
end Go.Proofs.YtldchepfcgbpiaaGreat
namespace Go.Proofs.YtldchepfcgbpiaaGreat
open Go Go.RowKit Go.Shelf
attribute [local go_sem] Oper.semAt_some

theorem ldg1 {W : World} {T i : Nat} {v u : Value} {ls : List Int} (h : Ld W v ls) (hn : ∀ x : Int, W.cell? ⟨T, i, none⟩ ≠ some (.int .i64 x)) : Ld (W.setCell ⟨T, i, none⟩ u) v ls := by
  obtain ⟨o, c, rfl, hc, hx⟩ := h
  refine ⟨o, c, rfl, hc, fun j hj => ?_⟩
  obtain ⟨b, f, e, hb, hcell⟩ := hx j hj
  refine ⟨b, f, e, by simpa using hb, ?_⟩
  by_cases q : b = T ∧ f + j = i
  · obtain ⟨rfl, rfl⟩ := q
    exact absurd hcell (hn _)
  · rw [← hcell]
    exact World.cell?_setCell_other _ _ _ _ (fun e => q (by simp only [Addr.mk.injEq, and_true] at e; exact ⟨e.1.symm, e.2.symm⟩))
theorem ldg2 {W : World} {T : Nat} {x v z : Value} {ls : List Int} {o1 o2 : Option Addr} {n1 n2 c1 c2 : Nat} (hb : Blk W T 26 #[.slice o1 n1 c1, .slice o2 n2 c2]) (h : Ld W v ls) : Ld ((W.setCell ⟨T, 0, none⟩ x).setCell ⟨T, 1, none⟩ z) v ls :=
  ldg1 (ldg1 h (fun y => by rw [hb.cell 0]; simp)) (fun y => by rw [(hb.set_ 0 x).cell 1]; simp)
theorem numg_any (x : Int) (w : World) : Calls Tryz.prog 28 #[.int .i64 x] w fun e w' => e = .returned (.int .i64 x) ∧ w = w' := by
  go_enter Tryz.func28, Tryz.ntmps28
  go_wp2
  go_ret
  exact ⟨rfl, rfl⟩
set_option maxRecDepth 100000 in
set_option maxHeartbeats 4000000 in
/-- Two own rows are spoilt; boxes of tensors are kept. -/
theorem spoilg_any (base : Nat) (vs vd : Value) (sh ds : List Int) (w : World) (h1 : w.ownsRow base 3 1 vs sh.length (ints sh)) (h2 : w.ownsRow base 2 1 vd ds.length (ints ds)) (hb : base ≤ w.heap.size) (l1 : sh.length ≤ 65536) (l2 : ds.length ≤ 65536) :
    Calls Tryz.prog 29 #[.agg #[vs, vd]] w fun e w' => e = .returned (.tuple #[]) ∧ Below base w w' ∧ ∀ (B : Nat) (cs : Array Value), Blk w B 26 cs → Blk w' B 26 cs := by
  have hap : ∀ g, vs.ownBlock = some g → ¬ vd.ownBlock = some g := fun g e1 e2 => by
    rcases h1.2 with ⟨rfl, _⟩ | ⟨g1, _, _, rfl, _, hh1, _⟩
    · simp [Value.ownBlock] at e1
    · rcases h2.2 with ⟨rfl, _⟩ | ⟨g2, _, _, rfl, _, hh2, _⟩
      · simp [Value.ownBlock] at e2
      · simp only [Value.ownBlock, Option.some.injEq] at e1 e2
        subst e1; subst e2
        have := hh1.symm.trans hh2
        simp at this
  have C1 := Lib.hid (numberso_any base vs sh (w.alloc (.cells #[vs, vd] 26)) (h1.alloc _) (by simp; omega) l1)
  have C2 := Lib.hid (fun (W : World) (hg : (w.alloc (.cells #[vs, vd] 26)).grownBy W vs.ownBlock) => wordso_any base vd ds W ((h2.alloc _).kept hg (by
    cases e : vd.ownBlock with
    | none => exact .inl rfl
    | some g => exact .inr (fun e2 => hap g (e2 ▸ rfl) e))) (Nat.le_trans (by simp; omega) hg.size) l2)
  have HX := Lib.hid (Blk.new w 26 #[vs, vd])
  have H1 := Lib.hid (And.intro h1 h2)
  have HAP := Lib.hid hap
  clear h1 h2 hap
  go_enter Tryz.func29, Tryz.ntmps29
  go_wp2_with (first | (go_at_call 46; (with_reducible refine C1.out.mono ?_); rintro e w2 ⟨rfl, hg2⟩; obtain ⟨c0, c1, _⟩ := blk2 (HX.out.kept hg2 (fun e => tens_not_row (H1.out.1.alloc _) HX.out (by decide) e.symm)); replace hg2 := Lib.hid hg2) | (go_at_call 47; (with_reducible refine (C2.out _ hg2.out).mono ?_); rintro e w3 ⟨rfl, hg3⟩; replace hg3 := Lib.hid hg3))
  refine bodyPost_end (results_none rfl _ _ _) rfl ?_
  have b1 : Below base w (w.alloc (.cells #[vs, vd] 26)) := (Below.refl _ _).alloc hb _
  have b2 := b1.grown hg2.out (by simp; omega) (fun k e => (H1.out.1.lt k e).1)
  refine ⟨rfl, b2.grown hg3.out (by have := b2.size; omega) (fun k e => (H1.out.2.lt k e).1), fun B cs hB => ?_⟩
  have k2 : World.ownsRow w2 base 2 1 vd ds.length (ints ds) := (H1.out.2.alloc (.cells #[vs, vd] 26)).kept hg2.out (by
    cases e : vd.ownBlock with
    | none => exact .inl rfl
    | some g => exact .inr (fun e2 => HAP.out g (e2 ▸ rfl) e))
  have q2 : Blk w2 B 26 cs := (hB.alloc (.cells #[vs, vd] 26)).kept hg2.out (fun e => tens_not_row (H1.out.1.alloc (.cells #[vs, vd] 26)) (hB.alloc (.cells #[vs, vd] 26)) (by decide) e.symm)
  exact q2.kept hg3.out (fun e => tens_not_row k2 q2 (by decide) e.symm)
set_option maxRecDepth 100000 in
set_option maxHeartbeats 4000000 in
/-- Is: the answer is the page's own; it is spoilt behind it. -/
theorem is8_any (base : Nat) (vs vd us ud : Value) (sh ds : List Int) (E : Int) (w : World) (h1 : w.ownsRow base 3 1 vs sh.length (ints sh)) (h2 : w.ownsRow base 2 1 vd ds.length (ints ds)) (hb : base ≤ w.heap.size) (l1 : sh.length ≤ 65536) (l2 : ds.length ≤ 65536) (hu : ∃ o n c, us = .slice o n c) (hv : ∃ o n c, ud = .slice o n c) (hw : E = 0 → Ld w us sh ∧ Ld w ud ds) (he : E ≠ 0 → sh = [] ∧ ds = []) :
    Calls Tryz.prog 11 #[.agg #[vs, vd], .int .i64 E, .agg #[us, ud], .int .i64 E] w fun e w' => e = .returned (.bool true) ∧ Below base w w' ∧ ∀ (B : Nat) (cs : Array Value), Blk w B 26 cs → Blk w' B 26 cs := by
  obtain ⟨o1, c1, e1⟩ := own_form1 h1
  obtain ⟨o2, c2, e2⟩ := own_form1 h2
  subst e1; subst e2
  obtain ⟨o3, n3, c3, rfl⟩ := hu
  obtain ⟨o4, n4, c4, rfl⟩ := hv
  obtain ⟨w2, hw2⟩ : ∃ w2, w2 = (w.alloc (.cells #[.slice o1 sh.length c1, .slice o2 ds.length c2] 26)).alloc (.cells #[.slice o3 n3 c3, .slice o4 n4 c4] 26) := ⟨_, rfl⟩
  have B2 : Hid (Below w.heap.size w w2) := Lib.hid (by rw [hw2]; exact ((Below.refl _ _).alloc (Nat.le_refl _) _).alloc (by simp) _)
  have K0 : Hid (Blk w2 w.heap.size 26 #[.slice o1 sh.length c1, .slice o2 ds.length c2]) := Lib.hid (by rw [hw2]; exact (Blk.new w _ _).alloc _)
  have K1 : Hid (Blk w2 (w.heap.size + 1) 26 #[.slice o3 n3 c3, .slice o4 n4 c4]) := Lib.hid (by rw [hw2]; exact blk_new1 w _ _ _)
  have HS := Lib.hid hb
  have HR := Lib.hid (And.intro h1 h2)
  have hL1 := own_ld h1 rfl
  have hL2 := own_ld h2 rfl
  have SP := Lib.hid (fun (W : World) (hW : Below w.heap.size w W) => spoilg_any base _ _ sh ds W (Below.keepOwn h1 hW (Nat.le_refl _)) (Below.keepOwn h2 hW (Nat.le_refl _)) (Nat.le_trans hb hW.size) l1 l2)
  by_cases h0 : E = 0
  · subst h0
    have EQ := Lib.hid (fun (W : World) (hW : Below w.heap.size w W) => eqtensor_same _ _ _ _ sh ds W (hL1.below hW) (hL2.below hW) ((hw rfl).1.below hW) ((hw rfl).2.below hW) (by omega) (by omega))
    have HW := Lib.hid hw2
    have EQ2 : Hid (Calls Tryz.prog 12 #[.agg #[.slice o1 sh.length c1, .slice o2 ds.length c2], .agg #[.slice o3 n3 c3, .slice o4 n4 c4]] w2 fun e w' => e = .returned (.bool true) ∧ Below w2.heap.size w2 w') := Lib.hid (EQ.out w2 B2.out)
    rw [hw2] at EQ2
    clear hw2 hw he h1 h2 hb hL1 hL2 EQ
    go_enter Tryz.func11, Tryz.ntmps11
    go_wp2_with (first
      | (go_at_call 28; (with_reducible refine (numg_any _ _).mono ?_); rintro e w' ⟨rfl, rfl⟩)
      | (go_at_call 12; (with_reducible refine EQ2.out.mono ?_); rintro e w4 ⟨rfl, hb4⟩; rw [← HW.out] at hb4; have B4 := Lib.hid (B2.out.trans (hb4.mono B2.out.size)); have K4 := Lib.hid (K0.out.below hb4 K0.out.lt); obtain ⟨t0, t1, _⟩ := blk2 K4.out; clear hb4)
      | (go_at_call 29; (with_reducible refine (SP.out _ B4.out).mono ?_); rintro e w5 ⟨rfl, hb5, hk5⟩; have B5 := Lib.hid hb5; have HK5 := Lib.hid hk5; clear hb5 hk5))
    go_ret
    exact ⟨rfl, (B4.out.mono (by have := HS.out; omega)).trans B5.out, fun B cs hB => HK5.out B cs (hB.below B4.out hB.lt)⟩
  · obtain ⟨rfl, rfl⟩ := he h0
    have d0 : (E != 0) = true := bne_iff_ne.2 h0
    have d1 : (E == E) = true := beq_iff_eq.2 rfl
    have EQ2 : Hid (Calls Tryz.prog 12 #[.agg #[.slice o1 0 c1, .slice o2 0 c2], .agg #[.slice none 0 0, .slice none 0 0]] w2 fun e w' => e = .returned (.bool true) ∧ Below w2.heap.size w2 w') := Lib.hid (eqtensor_same _ _ _ _ [] [] w2 (hL1.below B2.out) (hL2.below B2.out) (Ld.nil _) (Ld.nil _) (by simp) (by simp))
    have hw3 : w2 = (w.alloc (.cells #[.slice o1 0 c1, .slice o2 0 c2] 26)).alloc (.cells #[.slice o3 n3 c3, .slice o4 n4 c4] 26) := hw2
    have HW := Lib.hid hw3
    rw [hw3] at EQ2
    clear hw2 hw3 hw he h1 h2 hb hL1 hL2 h0 SP
    go_enter Tryz.func11, Tryz.ntmps11
    go_wp2_with (first
      | (go_at_call 28; (with_reducible refine (numg_any _ _).mono ?_); rintro e w' ⟨rfl, rfl⟩)
      | (go_at_call 12; (with_reducible refine EQ2.out.mono ?_); rintro e w4 ⟨rfl, hb4⟩; rw [← HW.out] at hb4; have B4 := Lib.hid (B2.out.trans (hb4.mono B2.out.size)); clear hb4))
    go_ret
    exact ⟨rfl, B4.out.mono HS.out, fun B cs hB => hB.below B4.out hB.lt⟩
end Go.Proofs.YtldchepfcgbpiaaGreat
