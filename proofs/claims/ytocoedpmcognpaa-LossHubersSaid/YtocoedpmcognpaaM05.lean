/-
  package loss: pairs of tensors: their parts' mean, Square and Huber.
-/
import Derived.Test.YtocoedpmcognpaaM01
import Derived.Test.YtocoedpmcognpaaM02
import Derived.Test.YtocoedpmcognpaaM03
import Derived.Test.YtocoedpmcognpaaM04
namespace Go.Proofs.Ytocoedpmcognpaa
open Go Go.RowKit Go.Shelf
attribute [local go_sem] Oper.semAt_some

/-- A told word, in new memory, or an error and none. -/
def LsV (b : Nat) (W : World) (V : Int) (o : Option Addr) (n c : Nat) (E : Int) : Prop := E = te V ∧ (E ≠ 0 → o = none ∧ n = 0 ∧ c = 0) ∧ (E = 0 → ∃ g, o = some ⟨g, 0, none⟩ ∧ n = 1 ∧ c = 1 ∧ b ≤ g ∧ Blk W g 2 #[.int .i64 V])
theorem LsV.below {b : Nat} {W W' : World} {V : Int} {o : Option Addr} {n c : Nat} {E : Int} (h : LsV b W V o n c E) (hb : Below W.heap.size W W') : LsV b W' V o n c E :=
  ⟨h.1, h.2.1, fun e => by obtain ⟨g, h1, h2, h3, h4, h5⟩ := h.2.2 e; exact ⟨g, h1, h2, h3, h4, h5.below hb h5.lt⟩⟩
theorem LsV.low {b b' : Nat} {W : World} {V : Int} {o : Option Addr} {n c : Nat} {E : Int} (h : LsV b W V o n c E) (hb : b' ≤ b) : LsV b' W V o n c E :=
  ⟨h.1, h.2.1, fun e => by obtain ⟨g, h1, h2, h3, h4, h5⟩ := h.2.2 e; exact ⟨g, h1, h2, h3, Nat.le_trans hb h4, h5⟩⟩
theorem LsV.put {b C : Nat} {W : World} {V : Int} {o : Option Addr} {n c : Nat} {E : Int} (h : LsV b W V o n c E) (hb : C < b) (x z : Value) : LsV b ((W.setCell ⟨C, 0, none⟩ x).setCell ⟨C, 1, none⟩ z) V o n c E :=
  ⟨h.1, h.2.1, fun e => by obtain ⟨g, h1, h2, h3, h4, h5⟩ := h.2.2 e; exact ⟨g, h1, h2, h3, h4, (h5.far (p := ⟨C, 0, none⟩) (show ¬ g = C by omega) x).far (p := ⟨C, 1, none⟩) (show ¬ g = C by omega) z⟩⟩
def LsT (w : World) (V : Int) (e : Ending) (w' : World) : Prop := ∃ o n c E, e = .returned (.tuple #[.agg #[.slice none 0 0, .slice o n c], .int .i64 E]) ∧ LsV w.heap.size w' V o n c E ∧ Below w.heap.size w w'
theorem blkz {W : World} {b : Nat} {t : TypeId} {x y : Value} (h : Blk W b t #[x, y]) : W.cell? ⟨b, 0, none⟩ = some x ∧ W.cell? ⟨b, 1, none⟩ = some y ∧ W.frozen? ⟨b, 0, none⟩ = false ∧ W.frozen? ⟨b, 1, none⟩ = false := ⟨h.cell 0, h.cell 1, h.frozen 0, h.frozen 1⟩
theorem ld_pos {W : World} {o : Option Addr} {n c : Nat} {ls : List Int} (h : Ld W (.slice o n c) ls) (hk : 1 ≤ ls.length) : ∃ g f, o = some ⟨g, f, none⟩ := by
  obtain ⟨o', c', e, _, hx⟩ := h
  obtain ⟨g, f, e2, _, _⟩ := hx 0 (by omega)
  simp only [Value.slice.injEq] at e
  exact ⟨g, f, by rw [e.1, e2]⟩
theorem ld_celq {W : World} {g f n c k : Nat} {ls : List Int} (h : Ld W (.slice (some ⟨g, f, none⟩) n c) ls) (hk : k < ls.length) : W.cell? ⟨g, f + k, none⟩ = some (.int .i64 (ls.getD k 0)) := by
  obtain ⟨o, c', e, _, hx⟩ := h
  obtain ⟨g', f', e2, _, hcell⟩ := hx k hk
  simp only [Value.slice.injEq] at e
  rw [← e.1] at e2
  simp only [Option.some.injEq, Addr.mk.injEq] at e2
  obtain ⟨rfl, rfl, _⟩ := e2
  exact hcell
theorem wr64q {x : Int} (h : -9223372036854775808 ≤ x ∧ x ≤ 9223372036854775807) : wrap64 x = x ∧ IntKind.i64.wrap x = x := ⟨IntWalk.wrap64_in _ h, IntWalk.i64_in _ h⟩
set_option maxRecDepth 100000 in
set_option maxHeartbeats 4000000 in
theorem arepair_any (va vd vb ve : Value) (sa da sb db : List Int) (f : Int) (w : World) (ha : Ld w va sa) (hd : Ld w vd da) (hb : Ld w vb sb) (he : Ld w ve db) (l1 : sa.length ≤ 17592186044416) (l2 : da.length ≤ 17592186044416) (l3 : sb.length ≤ 17592186044416) (l4 : db.length ≤ 17592186044416) :
    Calls Try.prog 17 #[.agg #[va, vd], .agg #[vb, ve], .int .i64 f] w fun e w' => e = .returned (.bool (tnb sa da && tnb sb db && fb f)) ∧ Below w.heap.size w w' := by
  have KA := Lib.hid (fun (W : World) (hW : Below w.heap.size w W) => echeck_any va vd sa da W (ha.below hW) (hd.below hW) l1 l2)
  have KB := Lib.hid (fun (W : World) (hW : Below w.heap.size w W) => echeck_any vb ve sb db W (hb.below hW) (he.below hW) l3 l4)
  have KF := Lib.hid (fun (W : World) => checkf_any f W)
  obtain ⟨TA, hTA⟩ : ∃ b, b = tnb sa da := ⟨_, rfl⟩
  obtain ⟨TB, hTB⟩ : ∃ b, b = tnb sb db := ⟨_, rfl⟩
  obtain ⟨FB, hFB⟩ : ∃ b, b = fb f := ⟨_, rfl⟩
  rw [← hTA] at KA ⊢
  rw [← hTB] at KB ⊢
  rw [← hFB] at KF ⊢
  clear hTA hTB hFB
  obtain ⟨oa, ca, rfl, _, _⟩ := ha
  obtain ⟨od, cd, rfl, _, _⟩ := hd
  obtain ⟨ob, cb, rfl, _, _⟩ := hb
  obtain ⟨oe, ce, rfl, _, _⟩ := he
  obtain ⟨w2, hw2⟩ : ∃ v, v = (w.alloc (.cells #[.slice oa sa.length ca, .slice od da.length cd] 26)).alloc (.cells #[.slice ob sb.length cb, .slice oe db.length ce] 26) := ⟨_, rfl⟩
  have B2 : Hid (Below w.heap.size w w2) := Lib.hid (by rw [hw2]; exact ((Below.refl _ _).alloc (Nat.le_refl _) _).alloc (by simp) _)
  have K0 : Hid (Blk w2 w.heap.size 26 #[.slice oa sa.length ca, .slice od da.length cd]) := Lib.hid (by rw [hw2]; exact (Blk.new w _ _).alloc _)
  have K1 : Hid (Blk w2 (w.heap.size + 1) 26 #[.slice ob sb.length cb, .slice oe db.length ce]) := Lib.hid (by rw [hw2]; exact blk_new1 w _ _ _)
  have HW := Lib.hid hw2
  clear hw2
  go_enter Try.func17, Try.ntmps17
  go_upto_region 1 with fail
  rw [← HW.out]
  clear HW
  obtain ⟨x0, x1, _⟩ := blkz K0.out
  cases TA with
  | false =>
    go_wp2_with (go_at_call 25; (with_reducible refine (KA.out _ B2.out).mono ?_); rintro e w3 ⟨rfl, hb⟩; have B3 := Lib.hid (B2.out.trans (hb.mono B2.out.size)); clear hb)
    go_ret
    exact ⟨rfl, B3.out⟩
  | true =>
    cases TB with
    | false =>
      go_wp2_with (first | (go_at_call 25; (with_reducible refine (KA.out _ B2.out).mono ?_); rintro e w3 ⟨rfl, hb⟩; have B3 := Lib.hid (B2.out.trans (hb.mono B2.out.size)); obtain ⟨y0, y1, _⟩ := blkz (K1.out.below hb K1.out.lt); clear hb) | (go_at_call 25; (with_reducible refine (KB.out _ B3.out).mono ?_); rintro e w4 ⟨rfl, hb⟩; have B4 := Lib.hid (B3.out.trans (hb.mono B3.out.size)); clear hb))
      go_ret
      exact ⟨rfl, B4.out⟩
    | true =>
      cases FB with
      | false =>
        go_wp2_with (first | (go_at_call 25; (with_reducible refine (KA.out _ B2.out).mono ?_); rintro e w3 ⟨rfl, hb⟩; have B3 := Lib.hid (B2.out.trans (hb.mono B2.out.size)); obtain ⟨y0, y1, _⟩ := blkz (K1.out.below hb K1.out.lt); clear hb) | (go_at_call 25; (with_reducible refine (KB.out _ B3.out).mono ?_); rintro e w4 ⟨rfl, hb⟩; have B4 := Lib.hid (B3.out.trans (hb.mono B3.out.size)); clear hb) | (go_at_call 26; (with_reducible refine (KF.out _).mono ?_); rintro e w' ⟨rfl, rfl⟩))
        go_ret
        exact ⟨rfl, B4.out⟩
      | true =>
        go_wp2_with (first | (go_at_call 25; (with_reducible refine (KA.out _ B2.out).mono ?_); rintro e w3 ⟨rfl, hb⟩; have B3 := Lib.hid (B2.out.trans (hb.mono B2.out.size)); obtain ⟨y0, y1, _⟩ := blkz (K1.out.below hb K1.out.lt); clear hb) | (go_at_call 25; (with_reducible refine (KB.out _ B3.out).mono ?_); rintro e w4 ⟨rfl, hb⟩; have B4 := Lib.hid (B3.out.trans (hb.mono B3.out.size)); clear hb) | (go_at_call 26; (with_reducible refine (KF.out _).mono ?_); rintro e w' ⟨rfl, rfl⟩))
        go_ret
        exact ⟨rfl, B4.out⟩
set_option maxHeartbeats 2000000 in
theorem lsq1_any (u : Int) (w : World) (h0 : 0 ≤ u) (h1 : u ≤ 281474976710654) : Calls Try.prog 19 #[.int .i64 u] w fun e w' => e = .returned (.agg #[.int .i64 (hi (hsq u)), .int .u64 (lo (hsq u))]) ∧ Below w.heap.size w w' := by
  have KM := Lib.hid (fun W : World => mul_any u u W (by omega) (by omega) (by omega) (by omega))
  clear h0 h1
  go_enter Try.func19, Try.ntmps19
  go_wp2_with (go_at_call 20; (with_reducible refine (KM.out _).mono ?_); rintro e w' ⟨rfl, rfl⟩)
  refine bodyPost_ret (v := Wv (u * u)) (by simp [results, Try.results19, go_sem]) rfl ⟨rfl, ?_⟩
  exact ((Below.refl _ _).alloc (Nat.le_refl _) _).alloc (by simp) _
set_option maxHeartbeats 2000000 in
theorem lhu1_any (B : Nat) (d u : Int) (w : World) (hB : Blk w B 2 #[.int .i64 d]) (d0 : 0 < d) (d1 : d ≤ 281474976710654) (h0 : 0 ≤ u) (h1 : u ≤ 281474976710654) : Calls Try.prog 22 #[.int .i64 u, .pointer (some ⟨B, 0, none⟩)] w fun e w' => e = .returned (.agg #[.int .i64 (hi (hhu d u)), .int .u64 (lo (hhu d u))]) ∧ Below w.heap.size w w' := by
  have x0 := (hB.alloc (.cells #[.int .i64 0, .int .u64 0] 49)).cell 0
  by_cases g : d < u
  · have HH : Hid (hhu d u = d * (2 * u - d)) := Lib.hid (if_pos g)
    have KM := Lib.hid (fun W : World => mul_any d (2 * u - d) W (by omega) (by omega) (by omega) (by omega))
    obtain ⟨e1, e2⟩ := wr64q (x := 2 * u) (by omega)
    obtain ⟨e3, e4⟩ := wr64q (x := 2 * u - d) (by omega)
    rw [HH.out]
    clear h0 h1 d0 d1 hB
    go_enter Try.func22, Try.ntmps22
    go_wp2_with (go_at_call 20; (with_reducible refine (KM.out _).mono ?_); rintro e w' ⟨rfl, rfl⟩)
    refine bodyPost_ret (v := Wv (d * (2 * u - d))) (by simp [results, Try.results22, go_sem]) rfl ⟨rfl, ?_⟩
    exact ((Below.refl _ _).alloc (Nat.le_refl _) _).alloc (by simp) _
  · have HH : Hid (hhu d u = u * u) := Lib.hid (if_neg g)
    have KM := Lib.hid (fun W : World => mul_any u u W (by omega) (by omega) (by omega) (by omega))
    rw [HH.out]
    clear h0 h1 d0 d1 hB
    go_enter Try.func22, Try.ntmps22
    go_wp2_with (go_at_call 20; (with_reducible refine (KM.out _).mono ?_); rintro e w' ⟨rfl, rfl⟩)
    refine bodyPost_ret (v := Wv (u * u)) (by simp [results, Try.results22, go_sem]) rfl ⟨rfl, ?_⟩
    exact ((Below.refl _ _).alloc (Nat.le_refl _) _).alloc (by simp) _
set_option maxRecDepth 100000 in
set_option maxHeartbeats 4000000 in
theorem ltold_any (V : Int) (w : World) (hV : R V) : Calls Try.prog 31 #[.agg #[.int .i64 (hi V), .int .u64 (lo V)]] w (LsT w V) := by
  have KC : Hid (∀ W : World, Calls Try.prog 44 #[.agg #[.int .i64 (hi V), .int .u64 (lo V)], .int .i64 0] W fun e w' => e = .returned (.tuple #[.int .i64 (tw V), .int .i64 (te V)]) ∧ Below W.heap.size W w') := Lib.hid (fun W => by
    have h := close_any V 0 W hV (by decide)
    rwa [show rd V (2 ^ 0) = V from rd_by1 V] at h)
  obtain ⟨w2, hw2⟩ : ∃ v, v = (w.alloc (.cells #[.int .i64 (hi V), .int .u64 (lo V)] 49)).alloc (.cells #[.slice none 0 0, .slice none 0 0] 26) := ⟨_, rfl⟩
  have B2 : Hid (Below w.heap.size w w2) := Lib.hid (by rw [hw2]; exact ((Below.refl _ _).alloc (Nat.le_refl _) _).alloc (by simp) _)
  have K0 : Hid (Blk w2 w.heap.size 49 #[.int .i64 (hi V), .int .u64 (lo V)]) := Lib.hid (by rw [hw2]; exact (Blk.new w _ _).alloc _)
  have K1 : Hid (Blk w2 (w.heap.size + 1) 26 #[.slice none 0 0, .slice none 0 0]) := Lib.hid (by rw [hw2]; exact blk_new1 w _ _ _)
  have HW := Lib.hid hw2
  have HS : Hid (w.heap.size + 2 ≤ w2.heap.size) := Lib.hid (by rw [hw2]; simp)
  clear hw2 hV
  cases hw : wd V with
  | true =>
    have e1 : te V = 0 := te_in hw
    have HE := Lib.hid e1
    rw [tw_in hw, e1] at KC
    clear e1 hw
    go_enter Try.func31, Try.ntmps31
    go_upto_region 1 with fail
    rw [← HW.out]
    obtain ⟨x0, x1, _⟩ := blkz K0.out
    go_upto_region 4 with (go_at_call 44; (with_reducible refine (KC.out _).mono ?_); rintro e w3 ⟨rfl, hb⟩; have B3 := Lib.hid hb; clear hb)
    clear x0 x1
    have B4 : Hid (Below w2.heap.size w2 (w3.alloc (.cells #[.int .i64 V] 2))) := Lib.hid (B3.out.alloc B3.out.size _)
    have X4 := Lib.hid (Blk.new w3 2 #[.int .i64 V])
    have K14 := Lib.hid (K1.out.below B4.out K1.out.lt)
    obtain ⟨p0, p1, pf0, pf1⟩ := blkz K14.out
    have HG : Hid (w.heap.size + 2 ≤ w3.heap.size) := Lib.hid (Nat.le_trans HS.out B3.out.size)
    go_wp2
    refine bodyPost_ret (v := .tuple #[.agg #[.slice none 0 0, .slice (some ⟨w3.heap.size, 0, none⟩) 1 1], .int .i64 0]) (by simp [results, Try.results31, go_sem, p0, p1]) rfl ?_
    have hg := HG.out
    exact ⟨_, 1, 1, 0, rfl, LsV.put ⟨HE.out.symm, fun h => absurd rfl h, fun _ => ⟨_, rfl, rfl, rfl, show w.heap.size + 2 ≤ w3.heap.size from hg, X4.out⟩⟩ (by omega) _ _ |>.low (by omega), ((B2.out.trans (B4.out.mono B2.out.size)).setCell (p := ⟨w.heap.size + 1, 0, none⟩) (Nat.le_succ _) _).setCell (p := ⟨w.heap.size + 1, 1, none⟩) (Nat.le_succ _) _⟩
  | false =>
    have e1 : te V = 3 := te_out hw
    have HE := Lib.hid e1
    rw [tw_out hw, e1] at KC
    clear e1 hw
    go_enter Try.func31, Try.ntmps31
    go_upto_region 1 with fail
    rw [← HW.out]
    obtain ⟨x0, x1, _⟩ := blkz K0.out
    go_upto_region 3 with (go_at_call 44; (with_reducible refine (KC.out _).mono ?_); rintro e w3 ⟨rfl, hb⟩; have B3 := Lib.hid hb; clear hb)
    clear x0 x1
    have K14 := Lib.hid (K1.out.below B3.out K1.out.lt)
    obtain ⟨p0, p1, pf0, pf1⟩ := blkz K14.out
    go_wp2
    refine bodyPost_ret (v := .tuple #[.agg #[.slice none 0 0, .slice none 0 0], .int .i64 3]) (by simp [results, Try.results31, go_sem, p0, p1]) rfl ?_
    exact ⟨none, 0, 0, 3, rfl, ⟨HE.out.symm, fun _ => ⟨rfl, rfl, rfl⟩, fun h => absurd h (by decide)⟩, ((B2.out.trans (B3.out.mono B2.out.size)).setCell (p := ⟨w.heap.size + 1, 0, none⟩) (Nat.le_succ _) _).setCell (p := ⟨w.heap.size + 1, 1, none⟩) (Nat.le_succ _) _⟩
set_option maxRecDepth 100000 in
set_option maxHeartbeats 8000000 in
theorem lmeanS_any (va vd vb ve : Value) (sa da db : List Int) (D : Int) (w : World) (ha : Ld w va sa) (hd : Ld w vd da) (hb : Ld w vb sa) (he : Ld w ve db) (hl : da.length = db.length) (hl1 : 1 ≤ da.length) (hl6 : da.length ≤ 65536) (ls : sa.length ≤ 65536) (wa : wds da = true) (wb : wds db = true) (hD0 : 1 ≤ D) (hD1 : D ≤ 8589934592) :
    Calls Try.prog 18 #[.agg #[va, vd], .agg #[vb, ve], .int .i64 D, .func (.func 19) #[] #[]] w (LsT w (rd (lsp hsq da db da.length) (D * da.length))) := by
  have KEq := Lib.hid (fun (W : World) (hW : Below w.heap.size w W) => equal_any va vb sa sa W (ha.below hW) (hb.below hW) (by omega) (by omega))
  have hp : Prt hsq := prt_sq
  have hDL : 1 ≤ D * da.length ∧ D * da.length ≤ 562949953421312 := by
    have a1 := Int.mul_le_mul hD1 (show (da.length : Int) ≤ 65536 by omega) (by omega) (by decide)
    have a2 := Int.mul_le_mul hD0 (show (1 : Int) ≤ da.length by omega) (by omega) (by omega)
    omega
  have hR := fun k (hk : k ≤ da.length) => lsp_R (n := k) hp wa wb hk (by omega) (by omega)
  have hVR := rdl_R (n := da.length) (D := D * da.length) hp wa wb (Nat.le_refl _) (by omega) hl6 (by omega)
  have KFr := Lib.hid (fun (W : World) => from_any (D * da.length) W (by omega) (by omega))
  have KRd : Hid (∀ W : World, Calls Try.prog 29 #[.agg #[.int .i64 (hi (lsp hsq da db da.length)), .int .u64 (lo (lsp hsq da db da.length))], .agg #[.int .i64 (hi (D * da.length)), .int .u64 (lo (D * da.length))]] W fun e w' => e = .returned (.tuple #[.agg #[.int .i64 (hi (rd (lsp hsq da db da.length) (D * da.length))), .int .u64 (lo (rd (lsp hsq da db da.length) (D * da.length)))], .int .i64 0]) ∧ Below W.heap.size W w') := Lib.hid (fun W => by
    have h := round_any (lsp hsq da db da.length) (D * da.length) W (hR _ (Nat.le_refl _)).2 (by rw [R_iff]; omega) (by omega)
    rwa [told_in hVR, over_in hVR] at h)
  have KTo := Lib.hid (fun W : World => ltold_any (rd (lsp hsq da db da.length) (D * da.length)) W hVR)
  have KAd : Hid (∀ (k : Nat), k < da.length → ∀ (W : World), Calls Try.prog 28 #[.agg #[.int .i64 (hi (lsp hsq da db k)), .int .u64 (lo (lsp hsq da db k))], .agg #[.int .i64 (hi (hsq (apt da db k))), .int .u64 (lo (hsq (apt da db k)))]] W fun e w' => e = .returned (.tuple #[.agg #[.int .i64 (hi (lsp hsq da db (k + 1))), .int .u64 (lo (lsp hsq da db (k + 1)))], .int .i64 0]) ∧ Below W.heap.size W w') := Lib.hid (fun k hk W => by
    have q := hp _ (apt_nn da db k) (apt_bd wa wb hk (by omega))
    have h := add_any (lsp hsq da db k) (hsq (apt da db k)) W (hR k (by omega)).2 (by rw [R_iff]; omega)
    rw [show lsp hsq da db k + hsq (apt da db k) = lsp hsq da db (k + 1) from rfl, told_in (hR (k + 1) (by omega)).2, over_in (hR (k + 1) (by omega)).2] at h
    exact h)
  have KPt : Hid (∀ (k : Nat), k < da.length → ∀ (W : World), Below w.heap.size w W → Calls Try.prog 19 #[.int .i64 (apt da db k)] W fun e w' => e = .returned (.agg #[.int .i64 (hi (hsq (apt da db k))), .int .u64 (lo (hsq (apt da db k)))]) ∧ Below W.heap.size W w') := Lib.hid (fun k hk W _ => lsq1_any _ W (apt_nn da db k) (apt_bd wa wb hk (by omega)))
  have HX : Hid (∀ k, k < da.length → -281474976710654 ≤ da.getD k 0 - db.getD k 0 ∧ da.getD k 0 - db.getD k 0 ≤ 281474976710654) := Lib.hid (fun k hk => by
    have := wds_at wa hk
    have := wds_at wb (k := k) (by omega)
    omega)
  obtain ⟨e5, e6⟩ := wr64q (x := D * da.length) (by omega)
  have E56 := Lib.hid (And.intro e5 e6)
  clear e5 e6 hDL hR hVR hp wa wb hD0 hD1
  obtain ⟨oa, ca, rfl, _, _⟩ := ha
  obtain ⟨od, cd, rfl, _, _⟩ := id hd
  obtain ⟨ob, cb, rfl, _, _⟩ := hb
  obtain ⟨oe, ce, rfl, _, _⟩ := id he
  obtain ⟨gA, fA, rfl⟩ := ld_pos hd hl1
  obtain ⟨gB, fB, rfl⟩ := ld_pos he (by omega)
  have HDA := Lib.hid hd
  have HDB := Lib.hid he
  clear hd he
  rw [← hl] at HDB ⊢
  have HL := Lib.hid (And.intro hl (And.intro hl1 hl6))
  clear hl hl1 ls
  obtain ⟨w2, hw2⟩ : ∃ v, v = ((w.alloc (.cells #[.slice oa sa.length ca, .slice (some ⟨gA, fA, none⟩) da.length cd] 26)).alloc (.cells #[.slice ob sa.length cb, .slice (some ⟨gB, fB, none⟩) da.length ce] 26)).alloc (.cells #[.slice none 0 0, .slice none 0 0] 26) := ⟨_, rfl⟩
  have B2 : Hid (Below w.heap.size w w2) := Lib.hid (by rw [hw2]; exact (((Below.refl _ _).alloc (Nat.le_refl _) _).alloc (by simp) _).alloc (by simp; omega) _)
  have K0 : Hid (Blk w2 w.heap.size 26 #[.slice oa sa.length ca, .slice (some ⟨gA, fA, none⟩) da.length cd]) := Lib.hid (by rw [hw2]; exact ((Blk.new w _ _).alloc _).alloc _)
  have K1 : Hid (Blk w2 (w.heap.size + 1) 26 #[.slice ob sa.length cb, .slice (some ⟨gB, fB, none⟩) da.length ce]) := Lib.hid (by rw [hw2]; exact (blk_new1 w _ _ _).alloc _)
  have K2 : Hid (Blk w2 (w.heap.size + 2) 26 #[.slice none 0 0, .slice none 0 0]) := Lib.hid (by
    rw [hw2]
    have q := Blk.new ((w.alloc (.cells #[.slice oa sa.length ca, .slice (some ⟨gA, fA, none⟩) da.length cd] 26)).alloc (.cells #[.slice ob sa.length cb, .slice (some ⟨gB, fB, none⟩) da.length ce] 26)) 26 #[.slice none 0 0, .slice none 0 0]
    rwa [World.size_alloc, World.size_alloc] at q)
  have HW := Lib.hid hw2
  have HSZ : Hid (w2.heap.size = w.heap.size + 3) := Lib.hid (by rw [hw2]; simp)
  clear hw2
  go_enter Try.func18, Try.ntmps18
  go_upto_region 1 with fail
  rw [← HW.out]
  clear HW
  obtain ⟨x0, x1, _⟩ := blkz K0.out
  obtain ⟨y0, y1, _⟩ := blkz K1.out
  have ee : decide (sa = sa) = true := by simp
  rw [ee] at KEq
  clear ee
  go_upto_region 3 with (go_at_call 27; (with_reducible refine (KEq.out _ B2.out).mono ?_); rintro e w3 ⟨rfl, hb⟩; have B3 := Lib.hid hb; clear hb)
  clear x0 x1 y0 y1 KEq
  obtain ⟨w4, hw4⟩ : ∃ v, v = w3.alloc (.cells #[.int .i64 0, .int .u64 0] 49) := ⟨_, rfl⟩
  obtain ⟨T10, hT10⟩ : ∃ T, T = w3.heap.size := ⟨_, rfl⟩
  have B24 : Hid (Below w2.heap.size w2 w4) := Lib.hid (by rw [hw4]; exact B3.out.alloc B3.out.size _)
  have HT10 : Hid (w2.heap.size ≤ T10) := Lib.hid (by rw [hT10]; exact B3.out.size)
  have KT0 : Hid (Blk w4 T10 49 #[.int .i64 (hi (lsp hsq da db 0)), .int .u64 (lo (lsp hsq da db 0))]) := Lib.hid (by rw [hw4, hT10]; exact Blk.new _ _ _)
  have HW4 := Lib.hid hw4
  have HTQ := Lib.hid hT10
  clear hw4 hT10
  have KG : Hid (∀ W, Below T10 w4 W → Below w.heap.size w W ∧ Blk W w.heap.size 26 #[.slice oa sa.length ca, .slice (some ⟨gA, fA, none⟩) da.length cd] ∧ Blk W (w.heap.size + 1) 26 #[.slice ob sa.length cb, .slice (some ⟨gB, fB, none⟩) da.length ce] ∧ Blk W (w.heap.size + 2) 26 #[.slice none 0 0, .slice none 0 0]) := Lib.hid (fun W hW => by
    have u := B24.out.trans (hW.mono HT10.out)
    exact ⟨B2.out.trans (u.mono B2.out.size), K0.out.below u K0.out.lt, K1.out.below u K1.out.lt, K2.out.below u K2.out.lt⟩)
  go_upto_region 4 with fail
  rw [← HTQ.out, ← HW4.out]
  obtain ⟨x0, x1, _⟩ := blkz (KG.out w4 (Below.refl _ _)).2.1
  go_wp2
  clear x0 x1 K0 K1 K2 B24 B3 HW4 HTQ
  go_loopw [26] (fun s26 wx => ∃ k : Nat, k ≤ da.length ∧ s26 = .int .i64 k ∧ Hid (Blk wx T10 49 #[.int .i64 (hi (lsp hsq da db k)), .int .u64 (lo (lsp hsq da db k))]) ∧ Hid (Below T10 w4 wx)) (fun s26 _ => da.length - (intOf s26).toNat)
  case atStart => exact ⟨0, Nat.zero_le _, rfl, KT0, Lib.hid (Below.refl _ _)⟩
  case round =>
    obtain ⟨k, hk, rfl, KT, KB⟩ := hrel
    obtain ⟨w9, hw9⟩ : ∃ v, v = wr := ⟨_, rfl⟩
    rw [← hw9] at KT KB ⊢
    clear hw9
    by_cases hlt : k < da.length
    · as_aux_lemma =>
      have xa := ld_celq (HDA.out.below (KG.out _ KB.out).1) hlt
      have xb := ld_celq (k := k) (HDB.out.below (KG.out _ KB.out).1) (by have := HL.out.1; omega)
      have KA := Lib.hid (KAd.out k hlt)
      have KPk := Lib.hid (fun (W : World) (hW : Below w9.heap.size w9 W) => KPt.out k hlt W ((KG.out _ KB.out).1.trans (hW.mono (KG.out _ KB.out).1.size)))
      have HXk := Lib.hid (HX.out k hlt)
      have hapt : apt da db k = ((da.getD k 0 - db.getD k 0).natAbs : Int) := rfl
      obtain ⟨hN, hhN⟩ : ∃ x, x = hi (lsp hsq da db (k + 1)) := ⟨_, rfl⟩
      obtain ⟨lN, hlN⟩ : ∃ x, x = lo (lsp hsq da db (k + 1)) := ⟨_, rfl⟩
      rw [← hhN, ← hlN] at KA
      have HHN := Lib.hid (And.intro hhN hlN)
      clear hhN hlN
      generalize da.getD k 0 = x at *
      generalize db.getD k 0 = y at *
      obtain ⟨X, hX⟩ : ∃ X, X = x - y := ⟨_, rfl⟩
      have HXX := Lib.hid hX
      rw [← hX] at HXk hapt
      obtain ⟨P, hP⟩ : ∃ P, P = apt da db k := ⟨_, rfl⟩
      rw [← hP] at KA KPk hapt
      clear hP
      obtain ⟨hiP, hhiP⟩ : ∃ z, z = hi (hsq P) := ⟨_, rfl⟩
      obtain ⟨loP, hloP⟩ : ∃ z, z = lo (hsq P) := ⟨_, rfl⟩
      rw [← hhiP, ← hloP] at KA KPk
      clear hhiP hloP
      obtain ⟨hiS, hhiS⟩ : ∃ z, z = hi (lsp hsq da db k) := ⟨_, rfl⟩
      obtain ⟨loS, hloS⟩ : ∃ z, z = lo (lsp hsq da db k) := ⟨_, rfl⟩
      rw [← hhiS, ← hloS] at KA KT
      clear hhiS hloS
      have hltI : (k : Int) < (da.length : Int) := by omega
      obtain ⟨y0, y1, _⟩ := blkz (KG.out _ KB.out).2.2.1
      have W1 := Lib.hid (wr64q (x := x - y) (by have := HXk.out; omega))
      have W2 := Lib.hid (wr64q (x := -X) (by have := HXk.out; omega))
      rw [hX] at W2
      obtain ⟨e1, e2⟩ := W1.out
      clear hX
      go_upto_region 8 with fail
      clear e1 e2 xa xb y0 y1 hltI
      rw [← HXX.out]
      rw [← HXX.out] at W2
      have KP := KPk
      clear KPk KPt KAd
      obtain ⟨e1, e2⟩ := W2.out
      have B_0 : Hid (Below w9.heap.size w9 w9.drew) := Lib.hid (below_drw (Below.refl _ _) 1)
      have em : max X (-X) = P := by rw [hapt]; omega
      clear hapt
      refine wp_region_held_drew (S := fun _ => True) (by kernel_rfl) trivial (fun hHeld => ?_)
      have hHd := hHeld
      generalize w9.drew = w_0 at *
      (refine wpAnyH_take (i := 1) (oi := ⟨some 40, _, _, _, _, _⟩) (v := ?v1_pS1) rfl (by kernel_rfl) (by kernel_rfl) (by kernel_rfl) (fun _ _ _ h => h) (Or.inl ⟨by rfl, ?hy1_pS1⟩) (by assumption) ?rest1_pS1; (case hy1_pS1 => ((intro w hSw); (try dsimp only at hSw); go_simp; first | done | (with_reducible rfl))))
      (try simp only [Act.put, List.setIfInBounds_toArray, List.set_cons_zero, List.set_cons_succ])
      (refine wpAnyH_take (i := 2) (oi := ⟨some 41, _, _, _, _, _⟩) (v := ?v2_pS2) rfl (by kernel_rfl) (by kernel_rfl) (by kernel_rfl) (fun _ _ _ h => h) (Or.inl ⟨by rfl, ?hy2_pS2⟩) (by assumption) ?rest2_pS2; (case hy2_pS2 => ((intro w hSw); (try dsimp only at hSw); go_simp; first | done | (with_reducible rfl))))
      (try simp only [Act.put, List.setIfInBounds_toArray, List.set_cons_zero, List.set_cons_succ])
      (refine wpAnyH_take (i := 3) (oi := ⟨some 42, _, _, _, _, _⟩) (v := ?v3_pS3) rfl (by kernel_rfl) (by kernel_rfl) (by kernel_rfl) (fun _ _ _ h => h) (Or.inl ⟨by rfl, ?hy3_pS3⟩) (by assumption) ?rest3_pS3; (case hy3_pS3 => ((intro w hSw); (try dsimp only at hSw); go_simp; first | done | (with_reducible rfl))))
      (try simp only [Act.put, List.setIfInBounds_toArray, List.set_cons_zero, List.set_cons_succ])
      (refine wpAnyH_take (i := 4) (oi := ⟨some 43, _, _, _, _, _⟩) (v := ?v4_pS4) rfl (by kernel_rfl) (by kernel_rfl) (by kernel_rfl) (fun _ _ _ h => h) (Or.inl ⟨by rfl, ?hy4_pS4⟩) (by assumption) ?rest4_pS4; (case hy4_pS4 => ((intro w hSw); (try dsimp only at hSw); go_simp; first | done | (with_reducible rfl))))
      (try simp only [Act.put, List.setIfInBounds_toArray, List.set_cons_zero, List.set_cons_succ])
      (refine wpAnyH_take (i := 5) (oi := ⟨some 44, _, _, _, _, _⟩) (v := ?v5_pS5) rfl (by kernel_rfl) (by kernel_rfl) (by kernel_rfl) (fun _ _ _ h => h) (Or.inl ⟨by rfl, ?hy5_pS5⟩) (by assumption) ?rest5_pS5; (case hy5_pS5 => ((intro w hSw); (try dsimp only at hSw); go_simp; first | done | (with_reducible rfl))))
      (try simp only [Act.put, List.setIfInBounds_toArray, List.set_cons_zero, List.set_cons_succ])
      refine wpAnyH_ready (rs := [0, 6]) (by kernel_rfl) (by simp) ?_
      refine AllReadyH.cons (o := ⟨some 39, _, _, _, _, _⟩) rfl (fun K hK => ?_) (AllReadyH.cons (o := ⟨some 45, _, _, _, _, _⟩) rfl (fun K hK => ?_) (AllReadyH.nil))
      · (try clear p0 p1 pf0 pf1)
        obtain ⟨p0, p1, pf0, pf1⟩ := blkz (KT.out.below B_0.out KT.out.lt)
        go_simp
        refine hK.out _ _ ?_ (fun hHeld => ?_)
        · (try dsimp only)
          skip
        clear hK K
        (try simp only [Act.put, List.setIfInBounds_toArray, List.set_cons_zero, List.set_cons_succ])
        refine wpAnyH_ready (rs := [6]) (by kernel_rfl) (by simp) ?_
        refine AllReadyH.cons (o := ⟨some 45, _, _, _, _, _⟩) rfl (fun K hK => ?_) (AllReadyH.nil)
        go_simp
        (go_at_call 19; (with_reducible refine (KP.out _ B_0.out).mono ?_); rintro e w_1 ⟨rfl, hb⟩; have B_1 := Lib.hid (B_0.out.trans (hb.mono B_0.out.size)); clear hb)
        refine hK.out _ _ ?_ (fun hHeld => ?_)
        · (try dsimp only)
          skip
        clear hK K
        (try simp only [Act.put, List.setIfInBounds_toArray, List.set_cons_zero, List.set_cons_succ])
        refine wpAnyH_ready (rs := [7]) (by kernel_rfl) (by simp) ?_
        refine AllReadyH.cons (o := ⟨some 46, _, _, _, _, _⟩) rfl (fun K hK => ?_) (AllReadyH.nil)
        go_simp
        (go_at_call 28; (with_reducible refine (KA.out _).mono ?_); rintro e w_2 ⟨rfl, hb⟩; have B_2 := Lib.hid (B_1.out.trans (hb.mono B_1.out.size)); clear hb)
        refine hK.out _ _ ?_ (fun hHeld => ?_)
        · (try dsimp only)
          skip
        clear hK K
        (try simp only [Act.put, List.setIfInBounds_toArray, List.set_cons_zero, List.set_cons_succ])
        (refine wpAnyH_take (i := 8) (oi := ⟨some 38, _, _, _, _, _⟩) (v := ?v8_pS6) rfl (by kernel_rfl) (by kernel_rfl) (by kernel_rfl) (fun _ _ _ h => h) (Or.inl ⟨by rfl, ?hy8_pS6⟩) (by assumption) ?rest8_pS6; (case hy8_pS6 => ((intro w hSw); (try dsimp only at hSw); go_simp; first | done | (with_reducible rfl))))
        (try simp only [Act.put, List.setIfInBounds_toArray, List.set_cons_zero, List.set_cons_succ])
        (refine wpAnyH_take (i := 9) (oi := ⟨some 47, _, _, _, _, _⟩) (v := ?v9_pS7) rfl (by kernel_rfl) (by kernel_rfl) (by kernel_rfl) (fun _ _ _ h => h) (Or.inl ⟨by rfl, ?hy9_pS7⟩) (by assumption) ?rest9_pS7; (case hy9_pS7 => ((intro w hSw); (try dsimp only at hSw); go_simp; first | done | (with_reducible rfl))))
        (try simp only [Act.put, List.setIfInBounds_toArray, List.set_cons_zero, List.set_cons_succ])
        (refine wpAnyH_take (i := 10) (oi := ⟨some 48, _, _, _, _, _⟩) (v := ?v10_pS8) rfl (by kernel_rfl) (by kernel_rfl) (by kernel_rfl) (fun _ _ _ h => h) (Or.inl ⟨by rfl, ?hy10_pS8⟩) (by assumption) ?rest10_pS8; (case hy10_pS8 => ((intro w hSw); (try dsimp only at hSw); go_simp; first | done | (with_reducible rfl))))
        (try simp only [Act.put, List.setIfInBounds_toArray, List.set_cons_zero, List.set_cons_succ])
        refine wpAnyH_ready (rs := [11]) (by kernel_rfl) (by simp) ?_
        refine AllReadyH.cons (o := ⟨none, _, _, _, _, _⟩) rfl (fun K hK => ?_) (AllReadyH.nil)
        (try clear p0 p1 pf0 pf1)
        have Z9 := Lib.hid (KT.out.below B_2.out KT.out.lt)
        obtain ⟨p0, p1, pf0, pf1⟩ := blkz Z9.out
        have Z1 := Lib.hid (Z9.out.set_ 0 (.int .i64 hN))
        have ZF := Lib.hid (Z1.out.set_ 1 (.int .u64 lN))
        have BF := Lib.hid (((KB.out.trans (B_2.out.mono (by have := KB.out.size; have := KT.out.lt; omega))).setCell (p := ⟨T10, 0, none⟩) (Nat.le_refl _) (.int .i64 hN)).setCell (p := ⟨T10, 1, none⟩) (Nat.le_refl _) (.int .u64 lN))
        go_simp
        refine hK.out _ _ ?_ (fun hHeld => ?_)
        · (try dsimp only)
          skip
        clear hK K
        (try simp only [Act.put, List.setIfInBounds_toArray, List.set_cons_zero, List.set_cons_succ])
        refine wpAnyH_done (by kernel_rfl) ?_ _
        (try clear p0 p1 pf0 pf1)
        have ZG : Hid (Blk _ T10 49 #[.int .i64 (hi (lsp hsq da db (k + 1))), .int .u64 (lo (lsp hsq da db (k + 1)))]) := Lib.hid (by rw [← HHN.out.1, ← HHN.out.2]; exact ZF.out)
        clear e1 e2 em
        go_wp2
        exact ⟨⟨k + 1, by omega, by go_num, ZG, BF⟩, by simp [intOf]; omega⟩
      · go_simp
        (go_at_call 19; (with_reducible refine (KP.out _ B_0.out).mono ?_); rintro e w_3 ⟨rfl, hb⟩; have B_3 := Lib.hid (B_0.out.trans (hb.mono B_0.out.size)); clear hb)
        refine hK.out _ _ ?_ (fun hHeld => ?_)
        · (try dsimp only)
          skip
        clear hK K
        (try simp only [Act.put, List.setIfInBounds_toArray, List.set_cons_zero, List.set_cons_succ])
        refine wpAnyH_ready (rs := [0]) (by kernel_rfl) (by simp) ?_
        refine AllReadyH.cons (o := ⟨some 39, _, _, _, _, _⟩) rfl (fun K hK => ?_) (AllReadyH.nil)
        (try clear p0 p1 pf0 pf1)
        obtain ⟨p0, p1, pf0, pf1⟩ := blkz (KT.out.below B_3.out KT.out.lt)
        go_simp
        refine hK.out _ _ ?_ (fun hHeld => ?_)
        · (try dsimp only)
          skip
        clear hK K
        (try simp only [Act.put, List.setIfInBounds_toArray, List.set_cons_zero, List.set_cons_succ])
        refine wpAnyH_ready (rs := [7]) (by kernel_rfl) (by simp) ?_
        refine AllReadyH.cons (o := ⟨some 46, _, _, _, _, _⟩) rfl (fun K hK => ?_) (AllReadyH.nil)
        go_simp
        (go_at_call 28; (with_reducible refine (KA.out _).mono ?_); rintro e w_4 ⟨rfl, hb⟩; have B_4 := Lib.hid (B_3.out.trans (hb.mono B_3.out.size)); clear hb)
        refine hK.out _ _ ?_ (fun hHeld => ?_)
        · (try dsimp only)
          skip
        clear hK K
        (try simp only [Act.put, List.setIfInBounds_toArray, List.set_cons_zero, List.set_cons_succ])
        (refine wpAnyH_take (i := 8) (oi := ⟨some 38, _, _, _, _, _⟩) (v := ?v8_pS9) rfl (by kernel_rfl) (by kernel_rfl) (by kernel_rfl) (fun _ _ _ h => h) (Or.inl ⟨by rfl, ?hy8_pS9⟩) (by assumption) ?rest8_pS9; (case hy8_pS9 => ((intro w hSw); (try dsimp only at hSw); go_simp; first | done | (with_reducible rfl))))
        (try simp only [Act.put, List.setIfInBounds_toArray, List.set_cons_zero, List.set_cons_succ])
        (refine wpAnyH_take (i := 9) (oi := ⟨some 47, _, _, _, _, _⟩) (v := ?v9_pS10) rfl (by kernel_rfl) (by kernel_rfl) (by kernel_rfl) (fun _ _ _ h => h) (Or.inl ⟨by rfl, ?hy9_pS10⟩) (by assumption) ?rest9_pS10; (case hy9_pS10 => ((intro w hSw); (try dsimp only at hSw); go_simp; first | done | (with_reducible rfl))))
        (try simp only [Act.put, List.setIfInBounds_toArray, List.set_cons_zero, List.set_cons_succ])
        (refine wpAnyH_take (i := 10) (oi := ⟨some 48, _, _, _, _, _⟩) (v := ?v10_pS11) rfl (by kernel_rfl) (by kernel_rfl) (by kernel_rfl) (fun _ _ _ h => h) (Or.inl ⟨by rfl, ?hy10_pS11⟩) (by assumption) ?rest10_pS11; (case hy10_pS11 => ((intro w hSw); (try dsimp only at hSw); go_simp; first | done | (with_reducible rfl))))
        (try simp only [Act.put, List.setIfInBounds_toArray, List.set_cons_zero, List.set_cons_succ])
        refine wpAnyH_ready (rs := [11]) (by kernel_rfl) (by simp) ?_
        refine AllReadyH.cons (o := ⟨none, _, _, _, _, _⟩) rfl (fun K hK => ?_) (AllReadyH.nil)
        (try clear p0 p1 pf0 pf1)
        have Z9 := Lib.hid (KT.out.below B_4.out KT.out.lt)
        obtain ⟨p0, p1, pf0, pf1⟩ := blkz Z9.out
        have Z1 := Lib.hid (Z9.out.set_ 0 (.int .i64 hN))
        have ZF := Lib.hid (Z1.out.set_ 1 (.int .u64 lN))
        have BF := Lib.hid (((KB.out.trans (B_4.out.mono (by have := KB.out.size; have := KT.out.lt; omega))).setCell (p := ⟨T10, 0, none⟩) (Nat.le_refl _) (.int .i64 hN)).setCell (p := ⟨T10, 1, none⟩) (Nat.le_refl _) (.int .u64 lN))
        go_simp
        refine hK.out _ _ ?_ (fun hHeld => ?_)
        · (try dsimp only)
          skip
        clear hK K
        (try simp only [Act.put, List.setIfInBounds_toArray, List.set_cons_zero, List.set_cons_succ])
        refine wpAnyH_done (by kernel_rfl) ?_ _
        (try clear p0 p1 pf0 pf1)
        have ZG : Hid (Blk _ T10 49 #[.int .i64 (hi (lsp hsq da db (k + 1))), .int .u64 (lo (lsp hsq da db (k + 1)))]) := Lib.hid (by rw [← HHN.out.1, ← HHN.out.2]; exact ZF.out)
        clear e1 e2 em
        go_wp2
        exact ⟨⟨k + 1, by omega, by go_num, ZG, BF⟩, by simp [intOf]; omega⟩
    · as_aux_lemma =>
      obtain rfl : k = da.length := by omega
      obtain ⟨SS, hSS⟩ : ∃ s, s = lsp hsq da db da.length := ⟨_, rfl⟩
      obtain ⟨V, hV⟩ : ∃ s, s = rd SS (D * da.length) := ⟨_, rfl⟩
      rw [← hSS] at KT KRd KTo
      rw [← hV] at KRd KTo
      have HVV : Hid (rd (lsp hsq da db da.length) (D * da.length) = V) := Lib.hid (by rw [hV, hSS])
      clear hSS hV
      have KS : Hid (∀ W, Below w9.heap.size w9 W → W.cell? ⟨w.heap.size, 1, none⟩ = some (.slice (some ⟨gA, fA, none⟩) da.length cd) ∧ W.cell? ⟨T10, 0, none⟩ = some (.int .i64 (hi SS)) ∧ W.cell? ⟨T10, 1, none⟩ = some (.int .u64 (lo SS))) := Lib.hid (fun W hW => by
        have q := (KG.out _ (KB.out.trans (hW.mono (Nat.le_of_lt KT.out.lt)))).2.1
        have r := KT.out.below hW KT.out.lt
        exact ⟨q.cell 1, r.cell 0, r.cell 1⟩)
      have KR : Hid (∀ W, Below w9.heap.size w9 W → Blk W (w.heap.size + 2) 26 #[.slice none 0 0, .slice none 0 0]) := Lib.hid (fun W hW => (KG.out _ (KB.out.trans (hW.mono (Nat.le_of_lt KT.out.lt)))).2.2.2)
      have KB0 : Hid (∀ W, Below w9.heap.size w9 W → Below w.heap.size w W) := Lib.hid (fun W hW => (KG.out _ (KB.out.trans (hW.mono (Nat.le_of_lt KT.out.lt)))).1)
      have HSZ9 : Hid (w.heap.size + 2 < w9.heap.size) := Lib.hid (by have := KT.out.lt; have := HT10.out; have := HSZ.out; omega)
      go_upto_region 10 with fail
      have B_0 : Hid (Below w9.heap.size w9 w9.drew) := Lib.hid (below_drw (Below.refl _ _) 1)
      obtain ⟨e5, e6⟩ := E56.out
      refine wp_region_held_drew (S := fun W => W.cell? ⟨w.heap.size, 1, none⟩ = some (.slice (some ⟨gA, fA, none⟩) da.length cd) ∧ W.cell? ⟨T10, 0, none⟩ = some (.int .i64 (hi SS)) ∧ W.cell? ⟨T10, 1, none⟩ = some (.int .u64 (lo SS))) (by kernel_rfl) ?_ (fun hHeld => ?_)
      · exact KS.out _ B_0.out
      have hHd := hHeld
      generalize w9.drew = w_0 at *
      (refine wpAnyH_take (i := 0) (oi := ⟨some 51, _, _, _, _, _⟩) (v := ?v0_rS1) rfl (by kernel_rfl) (by kernel_rfl) (by kernel_rfl) (fun _ _ _ h => h) (Or.inl ⟨by rfl, ?hy0_rS1⟩) (by assumption) ?rest0_rS1; (case hy0_rS1 => ((intro w hSw); (try dsimp only at hSw); go_simp; first | done | (with_reducible rfl))))
      (try simp only [Act.put, List.setIfInBounds_toArray, List.set_cons_zero, List.set_cons_succ])
      (refine wpAnyH_take (i := 1) (oi := ⟨some 52, _, _, _, _, _⟩) (v := ?v1_rS2) rfl (by kernel_rfl) (by kernel_rfl) (by kernel_rfl) (fun _ _ _ h => h) (Or.inl ⟨by rfl, ?hy1_rS2⟩) (by assumption) ?rest1_rS2; (case hy1_rS2 => ((intro w hSw); (try dsimp only at hSw); go_simp; first | done | (with_reducible rfl))))
      (try simp only [Act.put, List.setIfInBounds_toArray, List.set_cons_zero, List.set_cons_succ])
      (refine wpAnyH_take (i := 2) (oi := ⟨some 53, _, _, _, _, _⟩) (v := ?v2_rS3) rfl (by kernel_rfl) (by kernel_rfl) (by kernel_rfl) (fun _ _ _ h => h) (Or.inl ⟨by rfl, ?hy2_rS3⟩) (by assumption) ?rest2_rS3; (case hy2_rS3 => ((intro w hSw); (try dsimp only at hSw); go_simp; first | done | (with_reducible rfl))))
      (try simp only [Act.put, List.setIfInBounds_toArray, List.set_cons_zero, List.set_cons_succ])
      (refine wpAnyH_take (i := 3) (oi := ⟨some 54, _, _, _, _, _⟩) (v := ?v3_rS4) rfl (by kernel_rfl) (by kernel_rfl) (by kernel_rfl) (fun _ _ _ h => h) (Or.inl ⟨by rfl, ?hy3_rS4⟩) (by assumption) ?rest3_rS4; (case hy3_rS4 => ((intro w hSw); (try dsimp only at hSw); go_simp; first | done | (with_reducible rfl))))
      (try simp only [Act.put, List.setIfInBounds_toArray, List.set_cons_zero, List.set_cons_succ])
      (refine wpAnyH_take (i := 4) (oi := ⟨some 55, _, _, _, _, _⟩) (v := ?v4_rS5) rfl (by kernel_rfl) (by kernel_rfl) (by kernel_rfl) (fun _ _ _ h => h) (Or.inl ⟨by rfl, ?hy4_rS5⟩) (by assumption) ?rest4_rS5; (case hy4_rS5 => ((intro w hSw); (try dsimp only at hSw); go_simp; first | done | (with_reducible rfl))))
      (try simp only [Act.put, List.setIfInBounds_toArray, List.set_cons_zero, List.set_cons_succ])
      (refine wpAnyH_take (i := 5) (oi := ⟨some 56, _, _, _, _, _⟩) (v := ?v5_rS6) rfl (by kernel_rfl) (by kernel_rfl) (by kernel_rfl) (fun _ _ _ h => h) (Or.inl ⟨by rfl, ?hy5_rS6⟩) (by assumption) ?rest5_rS6; (case hy5_rS6 => ((intro w hSw); (try dsimp only at hSw); go_simp; first | done | (with_reducible rfl))))
      (try simp only [Act.put, List.setIfInBounds_toArray, List.set_cons_zero, List.set_cons_succ])
      refine wpAnyH_ready (rs := [6, 11]) (by kernel_rfl) (by simp) ?_
      refine AllReadyH.cons (o := ⟨some 57, _, _, _, _, _⟩) rfl (fun K hK => ?_) (AllReadyH.cons (o := ⟨some 14, _, _, _, _, _⟩) rfl (fun K hK => ?_) (AllReadyH.nil))
      · go_simp
        (go_at_call 30; (with_reducible refine (KFr.out _).mono ?_); rintro e w_5 ⟨rfl, hb⟩; have B_5 := Lib.hid (B_0.out.trans (hb.mono B_0.out.size)); clear hb)
        refine hK.out _ _ ?_ (fun hHeld => ?_)
        · (try dsimp only)
          exact KS.out _ B_5.out
        clear hK K
        (try simp only [Act.put, List.setIfInBounds_toArray, List.set_cons_zero, List.set_cons_succ])
        refine wpAnyH_ready (rs := [7, 11]) (by kernel_rfl) (by simp) ?_
        refine AllReadyH.cons (o := ⟨some 58, _, _, _, _, _⟩) rfl (fun K hK => ?_) (AllReadyH.cons (o := ⟨some 14, _, _, _, _, _⟩) rfl (fun K hK => ?_) (AllReadyH.nil))
        · go_simp
          (go_at_call 29; (with_reducible refine (KRd.out _).mono ?_); rintro e w_6 ⟨rfl, hb⟩; have B_6 := Lib.hid (B_5.out.trans (hb.mono B_5.out.size)); clear hb)
          refine hK.out _ _ ?_ (fun hHeld => ?_)
          · (try dsimp only)
            exact KS.out _ B_6.out
          clear hK K
          (try simp only [Act.put, List.setIfInBounds_toArray, List.set_cons_zero, List.set_cons_succ])
          (refine wpAnyH_take (i := 8) (oi := ⟨some 50, _, _, _, _, _⟩) (v := ?v8_rS7) rfl (by kernel_rfl) (by kernel_rfl) (by kernel_rfl) (fun _ _ _ h => h) (Or.inl ⟨by rfl, ?hy8_rS7⟩) (by assumption) ?rest8_rS7; (case hy8_rS7 => ((intro w hSw); (try dsimp only at hSw); go_simp; first | done | (with_reducible rfl))))
          (try simp only [Act.put, List.setIfInBounds_toArray, List.set_cons_zero, List.set_cons_succ])
          (refine wpAnyH_take (i := 9) (oi := ⟨some 59, _, _, _, _, _⟩) (v := ?v9_rS8) rfl (by kernel_rfl) (by kernel_rfl) (by kernel_rfl) (fun _ _ _ h => h) (Or.inl ⟨by rfl, ?hy9_rS8⟩) (by assumption) ?rest9_rS8; (case hy9_rS8 => ((intro w hSw); (try dsimp only at hSw); go_simp; first | done | (with_reducible rfl))))
          (try simp only [Act.put, List.setIfInBounds_toArray, List.set_cons_zero, List.set_cons_succ])
          (refine wpAnyH_take (i := 10) (oi := ⟨some 60, _, _, _, _, _⟩) (v := ?v10_rS9) rfl (by kernel_rfl) (by kernel_rfl) (by kernel_rfl) (fun _ _ _ h => h) (Or.inl ⟨by rfl, ?hy10_rS9⟩) (by assumption) ?rest10_rS9; (case hy10_rS9 => ((intro w hSw); (try dsimp only at hSw); go_simp; first | done | (with_reducible rfl))))
          (try simp only [Act.put, List.setIfInBounds_toArray, List.set_cons_zero, List.set_cons_succ])
          refine wpAnyH_ready (rs := [11]) (by kernel_rfl) (by simp) ?_
          refine AllReadyH.cons (o := ⟨some 14, _, _, _, _, _⟩) rfl (fun K hK => ?_) (AllReadyH.nil)
          go_simp
          have X_7 := Lib.hid (Blk.new w_6 49 #[.int .i64 0, .int .u64 0])
          have B_7 := Lib.hid (B_6.out.alloc B_6.out.size (.cells #[.int .i64 0, .int .u64 0] 49))
          have A_7 := Lib.hid (show w9.heap.size ≤ w_6.heap.size from B_6.out.size)
          obtain ⟨A7, hA7⟩ : ∃ x, x = w_6.heap.size := ⟨_, rfl⟩
          rw [← hA7] at X_7 A_7 ⊢
          clear hA7
          refine hK.out _ _ ?_ (fun hHeld => ?_)
          · (try dsimp only)
            exact KS.out _ B_7.out
          clear hK K
          generalize w_6.alloc (.cells #[.int .i64 0, .int .u64 0] 49) = w_7 at *
          (try simp only [Act.put, List.setIfInBounds_toArray, List.set_cons_zero, List.set_cons_succ])
          refine wpAnyH_ready (rs := [12]) (by kernel_rfl) (by simp) ?_
          refine AllReadyH.cons (o := ⟨none, _, _, _, _, _⟩) rfl (fun K hK => ?_) (AllReadyH.nil)
          (try clear p0 p1 pf0 pf1)
          obtain ⟨p0, p1, pf0, pf1⟩ := blkz X_7.out
          have Z1 := Lib.hid (X_7.out.set_ 0 (.int .i64 (hi V)))
          have ZF := Lib.hid (Z1.out.set_ 1 (.int .u64 (lo V)))
          have BF := Lib.hid ((B_7.out.setCell (p := ⟨A7, 0, none⟩) A_7.out (.int .i64 (hi V))).setCell (p := ⟨A7, 1, none⟩) A_7.out (.int .u64 (lo V)))
          go_simp
          refine hK.out _ _ ?_ (fun hHeld => ?_)
          · (try dsimp only)
            exact KS.out _ BF.out
          clear hK K
          (try simp only [Act.put, List.setIfInBounds_toArray, List.set_cons_zero, List.set_cons_succ])
          (refine wpAnyH_take (i := 13) (oi := ⟨some 15, _, _, _, _, _⟩) (v := ?v13_rS10) rfl (by kernel_rfl) (by kernel_rfl) (by kernel_rfl) (fun _ _ _ h => h) (Or.inl ⟨by rfl, ?hy13_rS10⟩) (by assumption) ?rest13_rS10; (case hy13_rS10 => ((intro w hSw); (try dsimp only at hSw); go_simp; first | done | (with_reducible rfl))))
          (try simp only [Act.put, List.setIfInBounds_toArray, List.set_cons_zero, List.set_cons_succ])
          refine wpAnyH_done (by kernel_rfl) ?_ _
          (try clear p0 p1 pf0 pf1)
          obtain ⟨vf, hvf⟩ : ∃ v, v = (w_7.setCell ⟨A7, 0, none⟩ (.int .i64 (hi V))).setCell ⟨A7, 1, none⟩ (.int .u64 (lo V)) := ⟨_, rfl⟩
          rw [← hvf] at ZF BF ⊢
          clear hvf
          obtain ⟨z0, z1, _⟩ := blkz ZF.out
          clear e5 e6
          go_wp2_with (go_at_call 31; (with_reducible refine (KTo.out _).mono ?_); rintro e wt ⟨o, n, c, E, rfl, hL, hb⟩; have BT := Lib.hid (BF.out.trans (hb.mono BF.out.size)); have LT := Lib.hid (hL.low BF.out.size); obtain ⟨r0, r1, rf0, rf1⟩ := blkz (KR.out _ BT.out); clear hb hL)
          refine bodyPost_ret (v := .tuple #[.agg #[.slice none 0 0, .slice o n c], .int .i64 E]) (by simp [results, Try.results18, go_sem, r0, r1]) rfl ?_
          rw [HVV.out]
          exact ⟨o, n, c, E, rfl, (LsV.put LT.out HSZ9.out _ _).low (Nat.le_of_lt (Nat.lt_of_le_of_lt (Nat.le_add_right _ 2) HSZ9.out)), ((KB0.out _ BT.out).setCell (p := ⟨w.heap.size + 2, 0, none⟩) (by show w.heap.size ≤ w.heap.size + 2; omega) _).setCell (p := ⟨w.heap.size + 2, 1, none⟩) (by show w.heap.size ≤ w.heap.size + 2; omega) _⟩
        · go_simp
          have X_8 := Lib.hid (Blk.new w_5 49 #[.int .i64 0, .int .u64 0])
          have B_8 := Lib.hid (B_5.out.alloc B_5.out.size (.cells #[.int .i64 0, .int .u64 0] 49))
          have A_8 := Lib.hid (show w9.heap.size ≤ w_5.heap.size from B_5.out.size)
          obtain ⟨A8, hA8⟩ : ∃ x, x = w_5.heap.size := ⟨_, rfl⟩
          rw [← hA8] at X_8 A_8 ⊢
          clear hA8
          refine hK.out _ _ ?_ (fun hHeld => ?_)
          · (try dsimp only)
            exact KS.out _ B_8.out
          clear hK K
          generalize w_5.alloc (.cells #[.int .i64 0, .int .u64 0] 49) = w_8 at *
          (try simp only [Act.put, List.setIfInBounds_toArray, List.set_cons_zero, List.set_cons_succ])
          refine wpAnyH_ready (rs := [7]) (by kernel_rfl) (by simp) ?_
          refine AllReadyH.cons (o := ⟨some 58, _, _, _, _, _⟩) rfl (fun K hK => ?_) (AllReadyH.nil)
          go_simp
          (go_at_call 29; (with_reducible refine (KRd.out _).mono ?_); rintro e w_9 ⟨rfl, hb⟩; have B_9 := Lib.hid (B_8.out.trans (hb.mono B_8.out.size)); have X_9 := Lib.hid (X_8.out.below hb X_8.out.lt); clear hb)
          refine hK.out _ _ ?_ (fun hHeld => ?_)
          · (try dsimp only)
            exact KS.out _ B_9.out
          clear hK K
          (try simp only [Act.put, List.setIfInBounds_toArray, List.set_cons_zero, List.set_cons_succ])
          (refine wpAnyH_take (i := 8) (oi := ⟨some 50, _, _, _, _, _⟩) (v := ?v8_rS11) rfl (by kernel_rfl) (by kernel_rfl) (by kernel_rfl) (fun _ _ _ h => h) (Or.inl ⟨by rfl, ?hy8_rS11⟩) (by assumption) ?rest8_rS11; (case hy8_rS11 => ((intro w hSw); (try dsimp only at hSw); go_simp; first | done | (with_reducible rfl))))
          (try simp only [Act.put, List.setIfInBounds_toArray, List.set_cons_zero, List.set_cons_succ])
          (refine wpAnyH_take (i := 9) (oi := ⟨some 59, _, _, _, _, _⟩) (v := ?v9_rS12) rfl (by kernel_rfl) (by kernel_rfl) (by kernel_rfl) (fun _ _ _ h => h) (Or.inl ⟨by rfl, ?hy9_rS12⟩) (by assumption) ?rest9_rS12; (case hy9_rS12 => ((intro w hSw); (try dsimp only at hSw); go_simp; first | done | (with_reducible rfl))))
          (try simp only [Act.put, List.setIfInBounds_toArray, List.set_cons_zero, List.set_cons_succ])
          (refine wpAnyH_take (i := 10) (oi := ⟨some 60, _, _, _, _, _⟩) (v := ?v10_rS13) rfl (by kernel_rfl) (by kernel_rfl) (by kernel_rfl) (fun _ _ _ h => h) (Or.inl ⟨by rfl, ?hy10_rS13⟩) (by assumption) ?rest10_rS13; (case hy10_rS13 => ((intro w hSw); (try dsimp only at hSw); go_simp; first | done | (with_reducible rfl))))
          (try simp only [Act.put, List.setIfInBounds_toArray, List.set_cons_zero, List.set_cons_succ])
          refine wpAnyH_ready (rs := [12]) (by kernel_rfl) (by simp) ?_
          refine AllReadyH.cons (o := ⟨none, _, _, _, _, _⟩) rfl (fun K hK => ?_) (AllReadyH.nil)
          (try clear p0 p1 pf0 pf1)
          obtain ⟨p0, p1, pf0, pf1⟩ := blkz X_9.out
          have Z1 := Lib.hid (X_9.out.set_ 0 (.int .i64 (hi V)))
          have ZF := Lib.hid (Z1.out.set_ 1 (.int .u64 (lo V)))
          have BF := Lib.hid ((B_9.out.setCell (p := ⟨A8, 0, none⟩) A_8.out (.int .i64 (hi V))).setCell (p := ⟨A8, 1, none⟩) A_8.out (.int .u64 (lo V)))
          go_simp
          refine hK.out _ _ ?_ (fun hHeld => ?_)
          · (try dsimp only)
            exact KS.out _ BF.out
          clear hK K
          (try simp only [Act.put, List.setIfInBounds_toArray, List.set_cons_zero, List.set_cons_succ])
          (refine wpAnyH_take (i := 13) (oi := ⟨some 15, _, _, _, _, _⟩) (v := ?v13_rS14) rfl (by kernel_rfl) (by kernel_rfl) (by kernel_rfl) (fun _ _ _ h => h) (Or.inl ⟨by rfl, ?hy13_rS14⟩) (by assumption) ?rest13_rS14; (case hy13_rS14 => ((intro w hSw); (try dsimp only at hSw); go_simp; first | done | (with_reducible rfl))))
          (try simp only [Act.put, List.setIfInBounds_toArray, List.set_cons_zero, List.set_cons_succ])
          refine wpAnyH_done (by kernel_rfl) ?_ _
          (try clear p0 p1 pf0 pf1)
          obtain ⟨vf, hvf⟩ : ∃ v, v = (w_9.setCell ⟨A8, 0, none⟩ (.int .i64 (hi V))).setCell ⟨A8, 1, none⟩ (.int .u64 (lo V)) := ⟨_, rfl⟩
          rw [← hvf] at ZF BF ⊢
          clear hvf
          obtain ⟨z0, z1, _⟩ := blkz ZF.out
          clear e5 e6
          go_wp2_with (go_at_call 31; (with_reducible refine (KTo.out _).mono ?_); rintro e wt ⟨o, n, c, E, rfl, hL, hb⟩; have BT := Lib.hid (BF.out.trans (hb.mono BF.out.size)); have LT := Lib.hid (hL.low BF.out.size); obtain ⟨r0, r1, rf0, rf1⟩ := blkz (KR.out _ BT.out); clear hb hL)
          refine bodyPost_ret (v := .tuple #[.agg #[.slice none 0 0, .slice o n c], .int .i64 E]) (by simp [results, Try.results18, go_sem, r0, r1]) rfl ?_
          rw [HVV.out]
          exact ⟨o, n, c, E, rfl, (LsV.put LT.out HSZ9.out _ _).low (Nat.le_of_lt (Nat.lt_of_le_of_lt (Nat.le_add_right _ 2) HSZ9.out)), ((KB0.out _ BT.out).setCell (p := ⟨w.heap.size + 2, 0, none⟩) (by show w.heap.size ≤ w.heap.size + 2; omega) _).setCell (p := ⟨w.heap.size + 2, 1, none⟩) (by show w.heap.size ≤ w.heap.size + 2; omega) _⟩
      · go_simp
        have X_10 := Lib.hid (Blk.new w_0 49 #[.int .i64 0, .int .u64 0])
        have B_10 := Lib.hid (B_0.out.alloc B_0.out.size (.cells #[.int .i64 0, .int .u64 0] 49))
        have A_10 := Lib.hid (show w9.heap.size ≤ w_0.heap.size from B_0.out.size)
        obtain ⟨A10, hA10⟩ : ∃ x, x = w_0.heap.size := ⟨_, rfl⟩
        rw [← hA10] at X_10 A_10 ⊢
        clear hA10
        refine hK.out _ _ ?_ (fun hHeld => ?_)
        · (try dsimp only)
          exact KS.out _ B_10.out
        clear hK K
        generalize w_0.alloc (.cells #[.int .i64 0, .int .u64 0] 49) = w_10 at *
        (try simp only [Act.put, List.setIfInBounds_toArray, List.set_cons_zero, List.set_cons_succ])
        refine wpAnyH_ready (rs := [6]) (by kernel_rfl) (by simp) ?_
        refine AllReadyH.cons (o := ⟨some 57, _, _, _, _, _⟩) rfl (fun K hK => ?_) (AllReadyH.nil)
        go_simp
        (go_at_call 30; (with_reducible refine (KFr.out _).mono ?_); rintro e w_11 ⟨rfl, hb⟩; have B_11 := Lib.hid (B_10.out.trans (hb.mono B_10.out.size)); have X_11 := Lib.hid (X_10.out.below hb X_10.out.lt); clear hb)
        refine hK.out _ _ ?_ (fun hHeld => ?_)
        · (try dsimp only)
          exact KS.out _ B_11.out
        clear hK K
        (try simp only [Act.put, List.setIfInBounds_toArray, List.set_cons_zero, List.set_cons_succ])
        refine wpAnyH_ready (rs := [7]) (by kernel_rfl) (by simp) ?_
        refine AllReadyH.cons (o := ⟨some 58, _, _, _, _, _⟩) rfl (fun K hK => ?_) (AllReadyH.nil)
        go_simp
        (go_at_call 29; (with_reducible refine (KRd.out _).mono ?_); rintro e w_12 ⟨rfl, hb⟩; have B_12 := Lib.hid (B_11.out.trans (hb.mono B_11.out.size)); have X_12 := Lib.hid (X_11.out.below hb X_11.out.lt); clear hb)
        refine hK.out _ _ ?_ (fun hHeld => ?_)
        · (try dsimp only)
          exact KS.out _ B_12.out
        clear hK K
        (try simp only [Act.put, List.setIfInBounds_toArray, List.set_cons_zero, List.set_cons_succ])
        (refine wpAnyH_take (i := 8) (oi := ⟨some 50, _, _, _, _, _⟩) (v := ?v8_rS15) rfl (by kernel_rfl) (by kernel_rfl) (by kernel_rfl) (fun _ _ _ h => h) (Or.inl ⟨by rfl, ?hy8_rS15⟩) (by assumption) ?rest8_rS15; (case hy8_rS15 => ((intro w hSw); (try dsimp only at hSw); go_simp; first | done | (with_reducible rfl))))
        (try simp only [Act.put, List.setIfInBounds_toArray, List.set_cons_zero, List.set_cons_succ])
        (refine wpAnyH_take (i := 9) (oi := ⟨some 59, _, _, _, _, _⟩) (v := ?v9_rS16) rfl (by kernel_rfl) (by kernel_rfl) (by kernel_rfl) (fun _ _ _ h => h) (Or.inl ⟨by rfl, ?hy9_rS16⟩) (by assumption) ?rest9_rS16; (case hy9_rS16 => ((intro w hSw); (try dsimp only at hSw); go_simp; first | done | (with_reducible rfl))))
        (try simp only [Act.put, List.setIfInBounds_toArray, List.set_cons_zero, List.set_cons_succ])
        (refine wpAnyH_take (i := 10) (oi := ⟨some 60, _, _, _, _, _⟩) (v := ?v10_rS17) rfl (by kernel_rfl) (by kernel_rfl) (by kernel_rfl) (fun _ _ _ h => h) (Or.inl ⟨by rfl, ?hy10_rS17⟩) (by assumption) ?rest10_rS17; (case hy10_rS17 => ((intro w hSw); (try dsimp only at hSw); go_simp; first | done | (with_reducible rfl))))
        (try simp only [Act.put, List.setIfInBounds_toArray, List.set_cons_zero, List.set_cons_succ])
        refine wpAnyH_ready (rs := [12]) (by kernel_rfl) (by simp) ?_
        refine AllReadyH.cons (o := ⟨none, _, _, _, _, _⟩) rfl (fun K hK => ?_) (AllReadyH.nil)
        (try clear p0 p1 pf0 pf1)
        obtain ⟨p0, p1, pf0, pf1⟩ := blkz X_12.out
        have Z1 := Lib.hid (X_12.out.set_ 0 (.int .i64 (hi V)))
        have ZF := Lib.hid (Z1.out.set_ 1 (.int .u64 (lo V)))
        have BF := Lib.hid ((B_12.out.setCell (p := ⟨A10, 0, none⟩) A_10.out (.int .i64 (hi V))).setCell (p := ⟨A10, 1, none⟩) A_10.out (.int .u64 (lo V)))
        go_simp
        refine hK.out _ _ ?_ (fun hHeld => ?_)
        · (try dsimp only)
          exact KS.out _ BF.out
        clear hK K
        (try simp only [Act.put, List.setIfInBounds_toArray, List.set_cons_zero, List.set_cons_succ])
        (refine wpAnyH_take (i := 13) (oi := ⟨some 15, _, _, _, _, _⟩) (v := ?v13_rS18) rfl (by kernel_rfl) (by kernel_rfl) (by kernel_rfl) (fun _ _ _ h => h) (Or.inl ⟨by rfl, ?hy13_rS18⟩) (by assumption) ?rest13_rS18; (case hy13_rS18 => ((intro w hSw); (try dsimp only at hSw); go_simp; first | done | (with_reducible rfl))))
        (try simp only [Act.put, List.setIfInBounds_toArray, List.set_cons_zero, List.set_cons_succ])
        refine wpAnyH_done (by kernel_rfl) ?_ _
        (try clear p0 p1 pf0 pf1)
        obtain ⟨vf, hvf⟩ : ∃ v, v = (w_12.setCell ⟨A10, 0, none⟩ (.int .i64 (hi V))).setCell ⟨A10, 1, none⟩ (.int .u64 (lo V)) := ⟨_, rfl⟩
        rw [← hvf] at ZF BF ⊢
        clear hvf
        obtain ⟨z0, z1, _⟩ := blkz ZF.out
        clear e5 e6
        go_wp2_with (go_at_call 31; (with_reducible refine (KTo.out _).mono ?_); rintro e wt ⟨o, n, c, E, rfl, hL, hb⟩; have BT := Lib.hid (BF.out.trans (hb.mono BF.out.size)); have LT := Lib.hid (hL.low BF.out.size); obtain ⟨r0, r1, rf0, rf1⟩ := blkz (KR.out _ BT.out); clear hb hL)
        refine bodyPost_ret (v := .tuple #[.agg #[.slice none 0 0, .slice o n c], .int .i64 E]) (by simp [results, Try.results18, go_sem, r0, r1]) rfl ?_
        rw [HVV.out]
        exact ⟨o, n, c, E, rfl, (LsV.put LT.out HSZ9.out _ _).low (Nat.le_of_lt (Nat.lt_of_le_of_lt (Nat.le_add_right _ 2) HSZ9.out)), ((KB0.out _ BT.out).setCell (p := ⟨w.heap.size + 2, 0, none⟩) (by show w.heap.size ≤ w.heap.size + 2; omega) _).setCell (p := ⟨w.heap.size + 2, 1, none⟩) (by show w.heap.size ≤ w.heap.size + 2; omega) _⟩
set_option maxRecDepth 100000 in
set_option maxHeartbeats 8000000 in
theorem lmeanH_any (va vd vb ve : Value) (sa da db : List Int) (D : Int) (C : Nat) (d : Int) (w : World) (ha : Ld w va sa) (hd : Ld w vd da) (hb : Ld w vb sa) (he : Ld w ve db) (hl : da.length = db.length) (hl1 : 1 ≤ da.length) (hl6 : da.length ≤ 65536) (ls : sa.length ≤ 65536) (wa : wds da = true) (wb : wds db = true) (hD0 : 1 ≤ D) (hD1 : D ≤ 8589934592) (hC : Blk w C 2 #[.int .i64 d]) (hd0 : 0 < d) (hd1 : d ≤ 281474976710654) :
    Calls Try.prog 18 #[.agg #[va, vd], .agg #[vb, ve], .int .i64 D, .func (.func 22) #[] #[.pointer (some ⟨C, 0, none⟩)]] w (LsT w (rd (lsp (hhu d) da db da.length) (D * da.length))) := by
  have KEq := Lib.hid (fun (W : World) (hW : Below w.heap.size w W) => equal_any va vb sa sa W (ha.below hW) (hb.below hW) (by omega) (by omega))
  have hp : Prt (hhu d) := prt_hu hd0
  have hDL : 1 ≤ D * da.length ∧ D * da.length ≤ 562949953421312 := by
    have a1 := Int.mul_le_mul hD1 (show (da.length : Int) ≤ 65536 by omega) (by omega) (by decide)
    have a2 := Int.mul_le_mul hD0 (show (1 : Int) ≤ da.length by omega) (by omega) (by omega)
    omega
  have hR := fun k (hk : k ≤ da.length) => lsp_R (n := k) hp wa wb hk (by omega) (by omega)
  have hVR := rdl_R (n := da.length) (D := D * da.length) hp wa wb (Nat.le_refl _) (by omega) hl6 (by omega)
  have KFr := Lib.hid (fun (W : World) => from_any (D * da.length) W (by omega) (by omega))
  have KRd : Hid (∀ W : World, Calls Try.prog 29 #[.agg #[.int .i64 (hi (lsp (hhu d) da db da.length)), .int .u64 (lo (lsp (hhu d) da db da.length))], .agg #[.int .i64 (hi (D * da.length)), .int .u64 (lo (D * da.length))]] W fun e w' => e = .returned (.tuple #[.agg #[.int .i64 (hi (rd (lsp (hhu d) da db da.length) (D * da.length))), .int .u64 (lo (rd (lsp (hhu d) da db da.length) (D * da.length)))], .int .i64 0]) ∧ Below W.heap.size W w') := Lib.hid (fun W => by
    have h := round_any (lsp (hhu d) da db da.length) (D * da.length) W (hR _ (Nat.le_refl _)).2 (by rw [R_iff]; omega) (by omega)
    rwa [told_in hVR, over_in hVR] at h)
  have KTo := Lib.hid (fun W : World => ltold_any (rd (lsp (hhu d) da db da.length) (D * da.length)) W hVR)
  have KAd : Hid (∀ (k : Nat), k < da.length → ∀ (W : World), Calls Try.prog 28 #[.agg #[.int .i64 (hi (lsp (hhu d) da db k)), .int .u64 (lo (lsp (hhu d) da db k))], .agg #[.int .i64 (hi ((hhu d) (apt da db k))), .int .u64 (lo ((hhu d) (apt da db k)))]] W fun e w' => e = .returned (.tuple #[.agg #[.int .i64 (hi (lsp (hhu d) da db (k + 1))), .int .u64 (lo (lsp (hhu d) da db (k + 1)))], .int .i64 0]) ∧ Below W.heap.size W w') := Lib.hid (fun k hk W => by
    have q := hp _ (apt_nn da db k) (apt_bd wa wb hk (by omega))
    have h := add_any (lsp (hhu d) da db k) ((hhu d) (apt da db k)) W (hR k (by omega)).2 (by rw [R_iff]; omega)
    rw [show lsp (hhu d) da db k + (hhu d) (apt da db k) = lsp (hhu d) da db (k + 1) from rfl, told_in (hR (k + 1) (by omega)).2, over_in (hR (k + 1) (by omega)).2] at h
    exact h)
  have KPt : Hid (∀ (k : Nat), k < da.length → ∀ (W : World), Below w.heap.size w W → Calls Try.prog 22 #[.int .i64 (apt da db k), .pointer (some ⟨C, 0, none⟩)] W fun e w' => e = .returned (.agg #[.int .i64 (hi ((hhu d) (apt da db k))), .int .u64 (lo ((hhu d) (apt da db k)))]) ∧ Below W.heap.size W w') := Lib.hid (fun k hk W hW => lhu1_any C d _ W (hC.below hW hC.lt) hd0 hd1 (apt_nn da db k) (apt_bd wa wb hk (by omega)))
  clear hC hd0 hd1
  have HX : Hid (∀ k, k < da.length → -281474976710654 ≤ da.getD k 0 - db.getD k 0 ∧ da.getD k 0 - db.getD k 0 ≤ 281474976710654) := Lib.hid (fun k hk => by
    have := wds_at wa hk
    have := wds_at wb (k := k) (by omega)
    omega)
  obtain ⟨e5, e6⟩ := wr64q (x := D * da.length) (by omega)
  have E56 := Lib.hid (And.intro e5 e6)
  clear e5 e6 hDL hR hVR hp wa wb hD0 hD1
  obtain ⟨oa, ca, rfl, _, _⟩ := ha
  obtain ⟨od, cd, rfl, _, _⟩ := id hd
  obtain ⟨ob, cb, rfl, _, _⟩ := hb
  obtain ⟨oe, ce, rfl, _, _⟩ := id he
  obtain ⟨gA, fA, rfl⟩ := ld_pos hd hl1
  obtain ⟨gB, fB, rfl⟩ := ld_pos he (by omega)
  have HDA := Lib.hid hd
  have HDB := Lib.hid he
  clear hd he
  rw [← hl] at HDB ⊢
  have HL := Lib.hid (And.intro hl (And.intro hl1 hl6))
  clear hl hl1 ls
  obtain ⟨w2, hw2⟩ : ∃ v, v = ((w.alloc (.cells #[.slice oa sa.length ca, .slice (some ⟨gA, fA, none⟩) da.length cd] 26)).alloc (.cells #[.slice ob sa.length cb, .slice (some ⟨gB, fB, none⟩) da.length ce] 26)).alloc (.cells #[.slice none 0 0, .slice none 0 0] 26) := ⟨_, rfl⟩
  have B2 : Hid (Below w.heap.size w w2) := Lib.hid (by rw [hw2]; exact (((Below.refl _ _).alloc (Nat.le_refl _) _).alloc (by simp) _).alloc (by simp; omega) _)
  have K0 : Hid (Blk w2 w.heap.size 26 #[.slice oa sa.length ca, .slice (some ⟨gA, fA, none⟩) da.length cd]) := Lib.hid (by rw [hw2]; exact ((Blk.new w _ _).alloc _).alloc _)
  have K1 : Hid (Blk w2 (w.heap.size + 1) 26 #[.slice ob sa.length cb, .slice (some ⟨gB, fB, none⟩) da.length ce]) := Lib.hid (by rw [hw2]; exact (blk_new1 w _ _ _).alloc _)
  have K2 : Hid (Blk w2 (w.heap.size + 2) 26 #[.slice none 0 0, .slice none 0 0]) := Lib.hid (by
    rw [hw2]
    have q := Blk.new ((w.alloc (.cells #[.slice oa sa.length ca, .slice (some ⟨gA, fA, none⟩) da.length cd] 26)).alloc (.cells #[.slice ob sa.length cb, .slice (some ⟨gB, fB, none⟩) da.length ce] 26)) 26 #[.slice none 0 0, .slice none 0 0]
    rwa [World.size_alloc, World.size_alloc] at q)
  have HW := Lib.hid hw2
  have HSZ : Hid (w2.heap.size = w.heap.size + 3) := Lib.hid (by rw [hw2]; simp)
  clear hw2
  go_enter Try.func18, Try.ntmps18
  go_upto_region 1 with fail
  rw [← HW.out]
  clear HW
  obtain ⟨x0, x1, _⟩ := blkz K0.out
  obtain ⟨y0, y1, _⟩ := blkz K1.out
  have ee : decide (sa = sa) = true := by simp
  rw [ee] at KEq
  clear ee
  go_upto_region 3 with (go_at_call 27; (with_reducible refine (KEq.out _ B2.out).mono ?_); rintro e w3 ⟨rfl, hb⟩; have B3 := Lib.hid hb; clear hb)
  clear x0 x1 y0 y1 KEq
  obtain ⟨w4, hw4⟩ : ∃ v, v = w3.alloc (.cells #[.int .i64 0, .int .u64 0] 49) := ⟨_, rfl⟩
  obtain ⟨T10, hT10⟩ : ∃ T, T = w3.heap.size := ⟨_, rfl⟩
  have B24 : Hid (Below w2.heap.size w2 w4) := Lib.hid (by rw [hw4]; exact B3.out.alloc B3.out.size _)
  have HT10 : Hid (w2.heap.size ≤ T10) := Lib.hid (by rw [hT10]; exact B3.out.size)
  have KT0 : Hid (Blk w4 T10 49 #[.int .i64 (hi (lsp (hhu d) da db 0)), .int .u64 (lo (lsp (hhu d) da db 0))]) := Lib.hid (by rw [hw4, hT10]; exact Blk.new _ _ _)
  have HW4 := Lib.hid hw4
  have HTQ := Lib.hid hT10
  clear hw4 hT10
  have KG : Hid (∀ W, Below T10 w4 W → Below w.heap.size w W ∧ Blk W w.heap.size 26 #[.slice oa sa.length ca, .slice (some ⟨gA, fA, none⟩) da.length cd] ∧ Blk W (w.heap.size + 1) 26 #[.slice ob sa.length cb, .slice (some ⟨gB, fB, none⟩) da.length ce] ∧ Blk W (w.heap.size + 2) 26 #[.slice none 0 0, .slice none 0 0]) := Lib.hid (fun W hW => by
    have u := B24.out.trans (hW.mono HT10.out)
    exact ⟨B2.out.trans (u.mono B2.out.size), K0.out.below u K0.out.lt, K1.out.below u K1.out.lt, K2.out.below u K2.out.lt⟩)
  go_upto_region 4 with fail
  rw [← HTQ.out, ← HW4.out]
  obtain ⟨x0, x1, _⟩ := blkz (KG.out w4 (Below.refl _ _)).2.1
  go_wp2
  clear x0 x1 K0 K1 K2 B24 B3 HW4 HTQ
  go_loopw [26] (fun s26 wx => ∃ k : Nat, k ≤ da.length ∧ s26 = .int .i64 k ∧ Hid (Blk wx T10 49 #[.int .i64 (hi (lsp (hhu d) da db k)), .int .u64 (lo (lsp (hhu d) da db k))]) ∧ Hid (Below T10 w4 wx)) (fun s26 _ => da.length - (intOf s26).toNat)
  case atStart => exact ⟨0, Nat.zero_le _, rfl, KT0, Lib.hid (Below.refl _ _)⟩
  case round =>
    obtain ⟨k, hk, rfl, KT, KB⟩ := hrel
    obtain ⟨w9, hw9⟩ : ∃ v, v = wr := ⟨_, rfl⟩
    rw [← hw9] at KT KB ⊢
    clear hw9
    by_cases hlt : k < da.length
    · as_aux_lemma =>
      have xa := ld_celq (HDA.out.below (KG.out _ KB.out).1) hlt
      have xb := ld_celq (k := k) (HDB.out.below (KG.out _ KB.out).1) (by have := HL.out.1; omega)
      have KA := Lib.hid (KAd.out k hlt)
      have KPk := Lib.hid (fun (W : World) (hW : Below w9.heap.size w9 W) => KPt.out k hlt W ((KG.out _ KB.out).1.trans (hW.mono (KG.out _ KB.out).1.size)))
      have HXk := Lib.hid (HX.out k hlt)
      have hapt : apt da db k = ((da.getD k 0 - db.getD k 0).natAbs : Int) := rfl
      obtain ⟨hN, hhN⟩ : ∃ x, x = hi (lsp (hhu d) da db (k + 1)) := ⟨_, rfl⟩
      obtain ⟨lN, hlN⟩ : ∃ x, x = lo (lsp (hhu d) da db (k + 1)) := ⟨_, rfl⟩
      rw [← hhN, ← hlN] at KA
      have HHN := Lib.hid (And.intro hhN hlN)
      clear hhN hlN
      generalize da.getD k 0 = x at *
      generalize db.getD k 0 = y at *
      obtain ⟨X, hX⟩ : ∃ X, X = x - y := ⟨_, rfl⟩
      have HXX := Lib.hid hX
      rw [← hX] at HXk hapt
      obtain ⟨P, hP⟩ : ∃ P, P = apt da db k := ⟨_, rfl⟩
      rw [← hP] at KA KPk hapt
      clear hP
      obtain ⟨hiP, hhiP⟩ : ∃ z, z = hi ((hhu d) P) := ⟨_, rfl⟩
      obtain ⟨loP, hloP⟩ : ∃ z, z = lo ((hhu d) P) := ⟨_, rfl⟩
      rw [← hhiP, ← hloP] at KA KPk
      clear hhiP hloP
      obtain ⟨hiS, hhiS⟩ : ∃ z, z = hi (lsp (hhu d) da db k) := ⟨_, rfl⟩
      obtain ⟨loS, hloS⟩ : ∃ z, z = lo (lsp (hhu d) da db k) := ⟨_, rfl⟩
      rw [← hhiS, ← hloS] at KA KT
      clear hhiS hloS
      have hltI : (k : Int) < (da.length : Int) := by omega
      obtain ⟨y0, y1, _⟩ := blkz (KG.out _ KB.out).2.2.1
      have W1 := Lib.hid (wr64q (x := x - y) (by have := HXk.out; omega))
      have W2 := Lib.hid (wr64q (x := -X) (by have := HXk.out; omega))
      rw [hX] at W2
      obtain ⟨e1, e2⟩ := W1.out
      clear hX
      go_upto_region 8 with fail
      clear e1 e2 xa xb y0 y1 hltI
      rw [← HXX.out]
      rw [← HXX.out] at W2
      have KP := KPk
      clear KPk KPt KAd
      obtain ⟨e1, e2⟩ := W2.out
      have B_0 : Hid (Below w9.heap.size w9 w9.drew) := Lib.hid (below_drw (Below.refl _ _) 1)
      have em : max X (-X) = P := by rw [hapt]; omega
      clear hapt
      refine wp_region_held_drew (S := fun _ => True) (by kernel_rfl) trivial (fun hHeld => ?_)
      have hHd := hHeld
      generalize w9.drew = w_0 at *
      (refine wpAnyH_take (i := 1) (oi := ⟨some 40, _, _, _, _, _⟩) (v := ?v1_pH1) rfl (by kernel_rfl) (by kernel_rfl) (by kernel_rfl) (fun _ _ _ h => h) (Or.inl ⟨by rfl, ?hy1_pH1⟩) (by assumption) ?rest1_pH1; (case hy1_pH1 => ((intro w hSw); (try dsimp only at hSw); go_simp; first | done | (with_reducible rfl))))
      (try simp only [Act.put, List.setIfInBounds_toArray, List.set_cons_zero, List.set_cons_succ])
      (refine wpAnyH_take (i := 2) (oi := ⟨some 41, _, _, _, _, _⟩) (v := ?v2_pH2) rfl (by kernel_rfl) (by kernel_rfl) (by kernel_rfl) (fun _ _ _ h => h) (Or.inl ⟨by rfl, ?hy2_pH2⟩) (by assumption) ?rest2_pH2; (case hy2_pH2 => ((intro w hSw); (try dsimp only at hSw); go_simp; first | done | (with_reducible rfl))))
      (try simp only [Act.put, List.setIfInBounds_toArray, List.set_cons_zero, List.set_cons_succ])
      (refine wpAnyH_take (i := 3) (oi := ⟨some 42, _, _, _, _, _⟩) (v := ?v3_pH3) rfl (by kernel_rfl) (by kernel_rfl) (by kernel_rfl) (fun _ _ _ h => h) (Or.inl ⟨by rfl, ?hy3_pH3⟩) (by assumption) ?rest3_pH3; (case hy3_pH3 => ((intro w hSw); (try dsimp only at hSw); go_simp; first | done | (with_reducible rfl))))
      (try simp only [Act.put, List.setIfInBounds_toArray, List.set_cons_zero, List.set_cons_succ])
      (refine wpAnyH_take (i := 4) (oi := ⟨some 43, _, _, _, _, _⟩) (v := ?v4_pH4) rfl (by kernel_rfl) (by kernel_rfl) (by kernel_rfl) (fun _ _ _ h => h) (Or.inl ⟨by rfl, ?hy4_pH4⟩) (by assumption) ?rest4_pH4; (case hy4_pH4 => ((intro w hSw); (try dsimp only at hSw); go_simp; first | done | (with_reducible rfl))))
      (try simp only [Act.put, List.setIfInBounds_toArray, List.set_cons_zero, List.set_cons_succ])
      (refine wpAnyH_take (i := 5) (oi := ⟨some 44, _, _, _, _, _⟩) (v := ?v5_pH5) rfl (by kernel_rfl) (by kernel_rfl) (by kernel_rfl) (fun _ _ _ h => h) (Or.inl ⟨by rfl, ?hy5_pH5⟩) (by assumption) ?rest5_pH5; (case hy5_pH5 => ((intro w hSw); (try dsimp only at hSw); go_simp; first | done | (with_reducible rfl))))
      (try simp only [Act.put, List.setIfInBounds_toArray, List.set_cons_zero, List.set_cons_succ])
      refine wpAnyH_ready (rs := [0, 6]) (by kernel_rfl) (by simp) ?_
      refine AllReadyH.cons (o := ⟨some 39, _, _, _, _, _⟩) rfl (fun K hK => ?_) (AllReadyH.cons (o := ⟨some 45, _, _, _, _, _⟩) rfl (fun K hK => ?_) (AllReadyH.nil))
      · (try clear p0 p1 pf0 pf1)
        obtain ⟨p0, p1, pf0, pf1⟩ := blkz (KT.out.below B_0.out KT.out.lt)
        go_simp
        refine hK.out _ _ ?_ (fun hHeld => ?_)
        · (try dsimp only)
          skip
        clear hK K
        (try simp only [Act.put, List.setIfInBounds_toArray, List.set_cons_zero, List.set_cons_succ])
        refine wpAnyH_ready (rs := [6]) (by kernel_rfl) (by simp) ?_
        refine AllReadyH.cons (o := ⟨some 45, _, _, _, _, _⟩) rfl (fun K hK => ?_) (AllReadyH.nil)
        go_simp
        (go_at_call 22; (with_reducible refine (KP.out _ B_0.out).mono ?_); rintro e w_13 ⟨rfl, hb⟩; have B_13 := Lib.hid (B_0.out.trans (hb.mono B_0.out.size)); clear hb)
        refine hK.out _ _ ?_ (fun hHeld => ?_)
        · (try dsimp only)
          skip
        clear hK K
        (try simp only [Act.put, List.setIfInBounds_toArray, List.set_cons_zero, List.set_cons_succ])
        refine wpAnyH_ready (rs := [7]) (by kernel_rfl) (by simp) ?_
        refine AllReadyH.cons (o := ⟨some 46, _, _, _, _, _⟩) rfl (fun K hK => ?_) (AllReadyH.nil)
        go_simp
        (go_at_call 28; (with_reducible refine (KA.out _).mono ?_); rintro e w_14 ⟨rfl, hb⟩; have B_14 := Lib.hid (B_13.out.trans (hb.mono B_13.out.size)); clear hb)
        refine hK.out _ _ ?_ (fun hHeld => ?_)
        · (try dsimp only)
          skip
        clear hK K
        (try simp only [Act.put, List.setIfInBounds_toArray, List.set_cons_zero, List.set_cons_succ])
        (refine wpAnyH_take (i := 8) (oi := ⟨some 38, _, _, _, _, _⟩) (v := ?v8_pH6) rfl (by kernel_rfl) (by kernel_rfl) (by kernel_rfl) (fun _ _ _ h => h) (Or.inl ⟨by rfl, ?hy8_pH6⟩) (by assumption) ?rest8_pH6; (case hy8_pH6 => ((intro w hSw); (try dsimp only at hSw); go_simp; first | done | (with_reducible rfl))))
        (try simp only [Act.put, List.setIfInBounds_toArray, List.set_cons_zero, List.set_cons_succ])
        (refine wpAnyH_take (i := 9) (oi := ⟨some 47, _, _, _, _, _⟩) (v := ?v9_pH7) rfl (by kernel_rfl) (by kernel_rfl) (by kernel_rfl) (fun _ _ _ h => h) (Or.inl ⟨by rfl, ?hy9_pH7⟩) (by assumption) ?rest9_pH7; (case hy9_pH7 => ((intro w hSw); (try dsimp only at hSw); go_simp; first | done | (with_reducible rfl))))
        (try simp only [Act.put, List.setIfInBounds_toArray, List.set_cons_zero, List.set_cons_succ])
        (refine wpAnyH_take (i := 10) (oi := ⟨some 48, _, _, _, _, _⟩) (v := ?v10_pH8) rfl (by kernel_rfl) (by kernel_rfl) (by kernel_rfl) (fun _ _ _ h => h) (Or.inl ⟨by rfl, ?hy10_pH8⟩) (by assumption) ?rest10_pH8; (case hy10_pH8 => ((intro w hSw); (try dsimp only at hSw); go_simp; first | done | (with_reducible rfl))))
        (try simp only [Act.put, List.setIfInBounds_toArray, List.set_cons_zero, List.set_cons_succ])
        refine wpAnyH_ready (rs := [11]) (by kernel_rfl) (by simp) ?_
        refine AllReadyH.cons (o := ⟨none, _, _, _, _, _⟩) rfl (fun K hK => ?_) (AllReadyH.nil)
        (try clear p0 p1 pf0 pf1)
        have Z9 := Lib.hid (KT.out.below B_14.out KT.out.lt)
        obtain ⟨p0, p1, pf0, pf1⟩ := blkz Z9.out
        have Z1 := Lib.hid (Z9.out.set_ 0 (.int .i64 hN))
        have ZF := Lib.hid (Z1.out.set_ 1 (.int .u64 lN))
        have BF := Lib.hid (((KB.out.trans (B_14.out.mono (by have := KB.out.size; have := KT.out.lt; omega))).setCell (p := ⟨T10, 0, none⟩) (Nat.le_refl _) (.int .i64 hN)).setCell (p := ⟨T10, 1, none⟩) (Nat.le_refl _) (.int .u64 lN))
        go_simp
        refine hK.out _ _ ?_ (fun hHeld => ?_)
        · (try dsimp only)
          skip
        clear hK K
        (try simp only [Act.put, List.setIfInBounds_toArray, List.set_cons_zero, List.set_cons_succ])
        refine wpAnyH_done (by kernel_rfl) ?_ _
        (try clear p0 p1 pf0 pf1)
        have ZG : Hid (Blk _ T10 49 #[.int .i64 (hi (lsp (hhu d) da db (k + 1))), .int .u64 (lo (lsp (hhu d) da db (k + 1)))]) := Lib.hid (by rw [← HHN.out.1, ← HHN.out.2]; exact ZF.out)
        clear e1 e2 em
        go_wp2
        exact ⟨⟨k + 1, by omega, by go_num, ZG, BF⟩, by simp [intOf]; omega⟩
      · go_simp
        (go_at_call 22; (with_reducible refine (KP.out _ B_0.out).mono ?_); rintro e w_15 ⟨rfl, hb⟩; have B_15 := Lib.hid (B_0.out.trans (hb.mono B_0.out.size)); clear hb)
        refine hK.out _ _ ?_ (fun hHeld => ?_)
        · (try dsimp only)
          skip
        clear hK K
        (try simp only [Act.put, List.setIfInBounds_toArray, List.set_cons_zero, List.set_cons_succ])
        refine wpAnyH_ready (rs := [0]) (by kernel_rfl) (by simp) ?_
        refine AllReadyH.cons (o := ⟨some 39, _, _, _, _, _⟩) rfl (fun K hK => ?_) (AllReadyH.nil)
        (try clear p0 p1 pf0 pf1)
        obtain ⟨p0, p1, pf0, pf1⟩ := blkz (KT.out.below B_15.out KT.out.lt)
        go_simp
        refine hK.out _ _ ?_ (fun hHeld => ?_)
        · (try dsimp only)
          skip
        clear hK K
        (try simp only [Act.put, List.setIfInBounds_toArray, List.set_cons_zero, List.set_cons_succ])
        refine wpAnyH_ready (rs := [7]) (by kernel_rfl) (by simp) ?_
        refine AllReadyH.cons (o := ⟨some 46, _, _, _, _, _⟩) rfl (fun K hK => ?_) (AllReadyH.nil)
        go_simp
        (go_at_call 28; (with_reducible refine (KA.out _).mono ?_); rintro e w_16 ⟨rfl, hb⟩; have B_16 := Lib.hid (B_15.out.trans (hb.mono B_15.out.size)); clear hb)
        refine hK.out _ _ ?_ (fun hHeld => ?_)
        · (try dsimp only)
          skip
        clear hK K
        (try simp only [Act.put, List.setIfInBounds_toArray, List.set_cons_zero, List.set_cons_succ])
        (refine wpAnyH_take (i := 8) (oi := ⟨some 38, _, _, _, _, _⟩) (v := ?v8_pH9) rfl (by kernel_rfl) (by kernel_rfl) (by kernel_rfl) (fun _ _ _ h => h) (Or.inl ⟨by rfl, ?hy8_pH9⟩) (by assumption) ?rest8_pH9; (case hy8_pH9 => ((intro w hSw); (try dsimp only at hSw); go_simp; first | done | (with_reducible rfl))))
        (try simp only [Act.put, List.setIfInBounds_toArray, List.set_cons_zero, List.set_cons_succ])
        (refine wpAnyH_take (i := 9) (oi := ⟨some 47, _, _, _, _, _⟩) (v := ?v9_pH10) rfl (by kernel_rfl) (by kernel_rfl) (by kernel_rfl) (fun _ _ _ h => h) (Or.inl ⟨by rfl, ?hy9_pH10⟩) (by assumption) ?rest9_pH10; (case hy9_pH10 => ((intro w hSw); (try dsimp only at hSw); go_simp; first | done | (with_reducible rfl))))
        (try simp only [Act.put, List.setIfInBounds_toArray, List.set_cons_zero, List.set_cons_succ])
        (refine wpAnyH_take (i := 10) (oi := ⟨some 48, _, _, _, _, _⟩) (v := ?v10_pH11) rfl (by kernel_rfl) (by kernel_rfl) (by kernel_rfl) (fun _ _ _ h => h) (Or.inl ⟨by rfl, ?hy10_pH11⟩) (by assumption) ?rest10_pH11; (case hy10_pH11 => ((intro w hSw); (try dsimp only at hSw); go_simp; first | done | (with_reducible rfl))))
        (try simp only [Act.put, List.setIfInBounds_toArray, List.set_cons_zero, List.set_cons_succ])
        refine wpAnyH_ready (rs := [11]) (by kernel_rfl) (by simp) ?_
        refine AllReadyH.cons (o := ⟨none, _, _, _, _, _⟩) rfl (fun K hK => ?_) (AllReadyH.nil)
        (try clear p0 p1 pf0 pf1)
        have Z9 := Lib.hid (KT.out.below B_16.out KT.out.lt)
        obtain ⟨p0, p1, pf0, pf1⟩ := blkz Z9.out
        have Z1 := Lib.hid (Z9.out.set_ 0 (.int .i64 hN))
        have ZF := Lib.hid (Z1.out.set_ 1 (.int .u64 lN))
        have BF := Lib.hid (((KB.out.trans (B_16.out.mono (by have := KB.out.size; have := KT.out.lt; omega))).setCell (p := ⟨T10, 0, none⟩) (Nat.le_refl _) (.int .i64 hN)).setCell (p := ⟨T10, 1, none⟩) (Nat.le_refl _) (.int .u64 lN))
        go_simp
        refine hK.out _ _ ?_ (fun hHeld => ?_)
        · (try dsimp only)
          skip
        clear hK K
        (try simp only [Act.put, List.setIfInBounds_toArray, List.set_cons_zero, List.set_cons_succ])
        refine wpAnyH_done (by kernel_rfl) ?_ _
        (try clear p0 p1 pf0 pf1)
        have ZG : Hid (Blk _ T10 49 #[.int .i64 (hi (lsp (hhu d) da db (k + 1))), .int .u64 (lo (lsp (hhu d) da db (k + 1)))]) := Lib.hid (by rw [← HHN.out.1, ← HHN.out.2]; exact ZF.out)
        clear e1 e2 em
        go_wp2
        exact ⟨⟨k + 1, by omega, by go_num, ZG, BF⟩, by simp [intOf]; omega⟩
    · as_aux_lemma =>
      obtain rfl : k = da.length := by omega
      obtain ⟨SS, hSS⟩ : ∃ s, s = lsp (hhu d) da db da.length := ⟨_, rfl⟩
      obtain ⟨V, hV⟩ : ∃ s, s = rd SS (D * da.length) := ⟨_, rfl⟩
      rw [← hSS] at KT KRd KTo
      rw [← hV] at KRd KTo
      have HVV : Hid (rd (lsp (hhu d) da db da.length) (D * da.length) = V) := Lib.hid (by rw [hV, hSS])
      clear hSS hV
      have KS : Hid (∀ W, Below w9.heap.size w9 W → W.cell? ⟨w.heap.size, 1, none⟩ = some (.slice (some ⟨gA, fA, none⟩) da.length cd) ∧ W.cell? ⟨T10, 0, none⟩ = some (.int .i64 (hi SS)) ∧ W.cell? ⟨T10, 1, none⟩ = some (.int .u64 (lo SS))) := Lib.hid (fun W hW => by
        have q := (KG.out _ (KB.out.trans (hW.mono (Nat.le_of_lt KT.out.lt)))).2.1
        have r := KT.out.below hW KT.out.lt
        exact ⟨q.cell 1, r.cell 0, r.cell 1⟩)
      have KR : Hid (∀ W, Below w9.heap.size w9 W → Blk W (w.heap.size + 2) 26 #[.slice none 0 0, .slice none 0 0]) := Lib.hid (fun W hW => (KG.out _ (KB.out.trans (hW.mono (Nat.le_of_lt KT.out.lt)))).2.2.2)
      have KB0 : Hid (∀ W, Below w9.heap.size w9 W → Below w.heap.size w W) := Lib.hid (fun W hW => (KG.out _ (KB.out.trans (hW.mono (Nat.le_of_lt KT.out.lt)))).1)
      have HSZ9 : Hid (w.heap.size + 2 < w9.heap.size) := Lib.hid (by have := KT.out.lt; have := HT10.out; have := HSZ.out; omega)
      go_upto_region 10 with fail
      have B_0 : Hid (Below w9.heap.size w9 w9.drew) := Lib.hid (below_drw (Below.refl _ _) 1)
      obtain ⟨e5, e6⟩ := E56.out
      refine wp_region_held_drew (S := fun W => W.cell? ⟨w.heap.size, 1, none⟩ = some (.slice (some ⟨gA, fA, none⟩) da.length cd) ∧ W.cell? ⟨T10, 0, none⟩ = some (.int .i64 (hi SS)) ∧ W.cell? ⟨T10, 1, none⟩ = some (.int .u64 (lo SS))) (by kernel_rfl) ?_ (fun hHeld => ?_)
      · exact KS.out _ B_0.out
      have hHd := hHeld
      generalize w9.drew = w_0 at *
      (refine wpAnyH_take (i := 0) (oi := ⟨some 51, _, _, _, _, _⟩) (v := ?v0_rH1) rfl (by kernel_rfl) (by kernel_rfl) (by kernel_rfl) (fun _ _ _ h => h) (Or.inl ⟨by rfl, ?hy0_rH1⟩) (by assumption) ?rest0_rH1; (case hy0_rH1 => ((intro w hSw); (try dsimp only at hSw); go_simp; first | done | (with_reducible rfl))))
      (try simp only [Act.put, List.setIfInBounds_toArray, List.set_cons_zero, List.set_cons_succ])
      (refine wpAnyH_take (i := 1) (oi := ⟨some 52, _, _, _, _, _⟩) (v := ?v1_rH2) rfl (by kernel_rfl) (by kernel_rfl) (by kernel_rfl) (fun _ _ _ h => h) (Or.inl ⟨by rfl, ?hy1_rH2⟩) (by assumption) ?rest1_rH2; (case hy1_rH2 => ((intro w hSw); (try dsimp only at hSw); go_simp; first | done | (with_reducible rfl))))
      (try simp only [Act.put, List.setIfInBounds_toArray, List.set_cons_zero, List.set_cons_succ])
      (refine wpAnyH_take (i := 2) (oi := ⟨some 53, _, _, _, _, _⟩) (v := ?v2_rH3) rfl (by kernel_rfl) (by kernel_rfl) (by kernel_rfl) (fun _ _ _ h => h) (Or.inl ⟨by rfl, ?hy2_rH3⟩) (by assumption) ?rest2_rH3; (case hy2_rH3 => ((intro w hSw); (try dsimp only at hSw); go_simp; first | done | (with_reducible rfl))))
      (try simp only [Act.put, List.setIfInBounds_toArray, List.set_cons_zero, List.set_cons_succ])
      (refine wpAnyH_take (i := 3) (oi := ⟨some 54, _, _, _, _, _⟩) (v := ?v3_rH4) rfl (by kernel_rfl) (by kernel_rfl) (by kernel_rfl) (fun _ _ _ h => h) (Or.inl ⟨by rfl, ?hy3_rH4⟩) (by assumption) ?rest3_rH4; (case hy3_rH4 => ((intro w hSw); (try dsimp only at hSw); go_simp; first | done | (with_reducible rfl))))
      (try simp only [Act.put, List.setIfInBounds_toArray, List.set_cons_zero, List.set_cons_succ])
      (refine wpAnyH_take (i := 4) (oi := ⟨some 55, _, _, _, _, _⟩) (v := ?v4_rH5) rfl (by kernel_rfl) (by kernel_rfl) (by kernel_rfl) (fun _ _ _ h => h) (Or.inl ⟨by rfl, ?hy4_rH5⟩) (by assumption) ?rest4_rH5; (case hy4_rH5 => ((intro w hSw); (try dsimp only at hSw); go_simp; first | done | (with_reducible rfl))))
      (try simp only [Act.put, List.setIfInBounds_toArray, List.set_cons_zero, List.set_cons_succ])
      (refine wpAnyH_take (i := 5) (oi := ⟨some 56, _, _, _, _, _⟩) (v := ?v5_rH6) rfl (by kernel_rfl) (by kernel_rfl) (by kernel_rfl) (fun _ _ _ h => h) (Or.inl ⟨by rfl, ?hy5_rH6⟩) (by assumption) ?rest5_rH6; (case hy5_rH6 => ((intro w hSw); (try dsimp only at hSw); go_simp; first | done | (with_reducible rfl))))
      (try simp only [Act.put, List.setIfInBounds_toArray, List.set_cons_zero, List.set_cons_succ])
      refine wpAnyH_ready (rs := [6, 11]) (by kernel_rfl) (by simp) ?_
      refine AllReadyH.cons (o := ⟨some 57, _, _, _, _, _⟩) rfl (fun K hK => ?_) (AllReadyH.cons (o := ⟨some 14, _, _, _, _, _⟩) rfl (fun K hK => ?_) (AllReadyH.nil))
      · go_simp
        (go_at_call 30; (with_reducible refine (KFr.out _).mono ?_); rintro e w_17 ⟨rfl, hb⟩; have B_17 := Lib.hid (B_0.out.trans (hb.mono B_0.out.size)); clear hb)
        refine hK.out _ _ ?_ (fun hHeld => ?_)
        · (try dsimp only)
          exact KS.out _ B_17.out
        clear hK K
        (try simp only [Act.put, List.setIfInBounds_toArray, List.set_cons_zero, List.set_cons_succ])
        refine wpAnyH_ready (rs := [7, 11]) (by kernel_rfl) (by simp) ?_
        refine AllReadyH.cons (o := ⟨some 58, _, _, _, _, _⟩) rfl (fun K hK => ?_) (AllReadyH.cons (o := ⟨some 14, _, _, _, _, _⟩) rfl (fun K hK => ?_) (AllReadyH.nil))
        · go_simp
          (go_at_call 29; (with_reducible refine (KRd.out _).mono ?_); rintro e w_18 ⟨rfl, hb⟩; have B_18 := Lib.hid (B_17.out.trans (hb.mono B_17.out.size)); clear hb)
          refine hK.out _ _ ?_ (fun hHeld => ?_)
          · (try dsimp only)
            exact KS.out _ B_18.out
          clear hK K
          (try simp only [Act.put, List.setIfInBounds_toArray, List.set_cons_zero, List.set_cons_succ])
          (refine wpAnyH_take (i := 8) (oi := ⟨some 50, _, _, _, _, _⟩) (v := ?v8_rH7) rfl (by kernel_rfl) (by kernel_rfl) (by kernel_rfl) (fun _ _ _ h => h) (Or.inl ⟨by rfl, ?hy8_rH7⟩) (by assumption) ?rest8_rH7; (case hy8_rH7 => ((intro w hSw); (try dsimp only at hSw); go_simp; first | done | (with_reducible rfl))))
          (try simp only [Act.put, List.setIfInBounds_toArray, List.set_cons_zero, List.set_cons_succ])
          (refine wpAnyH_take (i := 9) (oi := ⟨some 59, _, _, _, _, _⟩) (v := ?v9_rH8) rfl (by kernel_rfl) (by kernel_rfl) (by kernel_rfl) (fun _ _ _ h => h) (Or.inl ⟨by rfl, ?hy9_rH8⟩) (by assumption) ?rest9_rH8; (case hy9_rH8 => ((intro w hSw); (try dsimp only at hSw); go_simp; first | done | (with_reducible rfl))))
          (try simp only [Act.put, List.setIfInBounds_toArray, List.set_cons_zero, List.set_cons_succ])
          (refine wpAnyH_take (i := 10) (oi := ⟨some 60, _, _, _, _, _⟩) (v := ?v10_rH9) rfl (by kernel_rfl) (by kernel_rfl) (by kernel_rfl) (fun _ _ _ h => h) (Or.inl ⟨by rfl, ?hy10_rH9⟩) (by assumption) ?rest10_rH9; (case hy10_rH9 => ((intro w hSw); (try dsimp only at hSw); go_simp; first | done | (with_reducible rfl))))
          (try simp only [Act.put, List.setIfInBounds_toArray, List.set_cons_zero, List.set_cons_succ])
          refine wpAnyH_ready (rs := [11]) (by kernel_rfl) (by simp) ?_
          refine AllReadyH.cons (o := ⟨some 14, _, _, _, _, _⟩) rfl (fun K hK => ?_) (AllReadyH.nil)
          go_simp
          have X_19 := Lib.hid (Blk.new w_18 49 #[.int .i64 0, .int .u64 0])
          have B_19 := Lib.hid (B_18.out.alloc B_18.out.size (.cells #[.int .i64 0, .int .u64 0] 49))
          have A_19 := Lib.hid (show w9.heap.size ≤ w_18.heap.size from B_18.out.size)
          obtain ⟨A19, hA19⟩ : ∃ x, x = w_18.heap.size := ⟨_, rfl⟩
          rw [← hA19] at X_19 A_19 ⊢
          clear hA19
          refine hK.out _ _ ?_ (fun hHeld => ?_)
          · (try dsimp only)
            exact KS.out _ B_19.out
          clear hK K
          generalize w_18.alloc (.cells #[.int .i64 0, .int .u64 0] 49) = w_19 at *
          (try simp only [Act.put, List.setIfInBounds_toArray, List.set_cons_zero, List.set_cons_succ])
          refine wpAnyH_ready (rs := [12]) (by kernel_rfl) (by simp) ?_
          refine AllReadyH.cons (o := ⟨none, _, _, _, _, _⟩) rfl (fun K hK => ?_) (AllReadyH.nil)
          (try clear p0 p1 pf0 pf1)
          obtain ⟨p0, p1, pf0, pf1⟩ := blkz X_19.out
          have Z1 := Lib.hid (X_19.out.set_ 0 (.int .i64 (hi V)))
          have ZF := Lib.hid (Z1.out.set_ 1 (.int .u64 (lo V)))
          have BF := Lib.hid ((B_19.out.setCell (p := ⟨A19, 0, none⟩) A_19.out (.int .i64 (hi V))).setCell (p := ⟨A19, 1, none⟩) A_19.out (.int .u64 (lo V)))
          go_simp
          refine hK.out _ _ ?_ (fun hHeld => ?_)
          · (try dsimp only)
            exact KS.out _ BF.out
          clear hK K
          (try simp only [Act.put, List.setIfInBounds_toArray, List.set_cons_zero, List.set_cons_succ])
          (refine wpAnyH_take (i := 13) (oi := ⟨some 15, _, _, _, _, _⟩) (v := ?v13_rH10) rfl (by kernel_rfl) (by kernel_rfl) (by kernel_rfl) (fun _ _ _ h => h) (Or.inl ⟨by rfl, ?hy13_rH10⟩) (by assumption) ?rest13_rH10; (case hy13_rH10 => ((intro w hSw); (try dsimp only at hSw); go_simp; first | done | (with_reducible rfl))))
          (try simp only [Act.put, List.setIfInBounds_toArray, List.set_cons_zero, List.set_cons_succ])
          refine wpAnyH_done (by kernel_rfl) ?_ _
          (try clear p0 p1 pf0 pf1)
          obtain ⟨vf, hvf⟩ : ∃ v, v = (w_19.setCell ⟨A19, 0, none⟩ (.int .i64 (hi V))).setCell ⟨A19, 1, none⟩ (.int .u64 (lo V)) := ⟨_, rfl⟩
          rw [← hvf] at ZF BF ⊢
          clear hvf
          obtain ⟨z0, z1, _⟩ := blkz ZF.out
          clear e5 e6
          go_wp2_with (go_at_call 31; (with_reducible refine (KTo.out _).mono ?_); rintro e wt ⟨o, n, c, E, rfl, hL, hb⟩; have BT := Lib.hid (BF.out.trans (hb.mono BF.out.size)); have LT := Lib.hid (hL.low BF.out.size); obtain ⟨r0, r1, rf0, rf1⟩ := blkz (KR.out _ BT.out); clear hb hL)
          refine bodyPost_ret (v := .tuple #[.agg #[.slice none 0 0, .slice o n c], .int .i64 E]) (by simp [results, Try.results18, go_sem, r0, r1]) rfl ?_
          rw [HVV.out]
          exact ⟨o, n, c, E, rfl, (LsV.put LT.out HSZ9.out _ _).low (Nat.le_of_lt (Nat.lt_of_le_of_lt (Nat.le_add_right _ 2) HSZ9.out)), ((KB0.out _ BT.out).setCell (p := ⟨w.heap.size + 2, 0, none⟩) (by show w.heap.size ≤ w.heap.size + 2; omega) _).setCell (p := ⟨w.heap.size + 2, 1, none⟩) (by show w.heap.size ≤ w.heap.size + 2; omega) _⟩
        · go_simp
          have X_20 := Lib.hid (Blk.new w_17 49 #[.int .i64 0, .int .u64 0])
          have B_20 := Lib.hid (B_17.out.alloc B_17.out.size (.cells #[.int .i64 0, .int .u64 0] 49))
          have A_20 := Lib.hid (show w9.heap.size ≤ w_17.heap.size from B_17.out.size)
          obtain ⟨A20, hA20⟩ : ∃ x, x = w_17.heap.size := ⟨_, rfl⟩
          rw [← hA20] at X_20 A_20 ⊢
          clear hA20
          refine hK.out _ _ ?_ (fun hHeld => ?_)
          · (try dsimp only)
            exact KS.out _ B_20.out
          clear hK K
          generalize w_17.alloc (.cells #[.int .i64 0, .int .u64 0] 49) = w_20 at *
          (try simp only [Act.put, List.setIfInBounds_toArray, List.set_cons_zero, List.set_cons_succ])
          refine wpAnyH_ready (rs := [7]) (by kernel_rfl) (by simp) ?_
          refine AllReadyH.cons (o := ⟨some 58, _, _, _, _, _⟩) rfl (fun K hK => ?_) (AllReadyH.nil)
          go_simp
          (go_at_call 29; (with_reducible refine (KRd.out _).mono ?_); rintro e w_21 ⟨rfl, hb⟩; have B_21 := Lib.hid (B_20.out.trans (hb.mono B_20.out.size)); have X_21 := Lib.hid (X_20.out.below hb X_20.out.lt); clear hb)
          refine hK.out _ _ ?_ (fun hHeld => ?_)
          · (try dsimp only)
            exact KS.out _ B_21.out
          clear hK K
          (try simp only [Act.put, List.setIfInBounds_toArray, List.set_cons_zero, List.set_cons_succ])
          (refine wpAnyH_take (i := 8) (oi := ⟨some 50, _, _, _, _, _⟩) (v := ?v8_rH11) rfl (by kernel_rfl) (by kernel_rfl) (by kernel_rfl) (fun _ _ _ h => h) (Or.inl ⟨by rfl, ?hy8_rH11⟩) (by assumption) ?rest8_rH11; (case hy8_rH11 => ((intro w hSw); (try dsimp only at hSw); go_simp; first | done | (with_reducible rfl))))
          (try simp only [Act.put, List.setIfInBounds_toArray, List.set_cons_zero, List.set_cons_succ])
          (refine wpAnyH_take (i := 9) (oi := ⟨some 59, _, _, _, _, _⟩) (v := ?v9_rH12) rfl (by kernel_rfl) (by kernel_rfl) (by kernel_rfl) (fun _ _ _ h => h) (Or.inl ⟨by rfl, ?hy9_rH12⟩) (by assumption) ?rest9_rH12; (case hy9_rH12 => ((intro w hSw); (try dsimp only at hSw); go_simp; first | done | (with_reducible rfl))))
          (try simp only [Act.put, List.setIfInBounds_toArray, List.set_cons_zero, List.set_cons_succ])
          (refine wpAnyH_take (i := 10) (oi := ⟨some 60, _, _, _, _, _⟩) (v := ?v10_rH13) rfl (by kernel_rfl) (by kernel_rfl) (by kernel_rfl) (fun _ _ _ h => h) (Or.inl ⟨by rfl, ?hy10_rH13⟩) (by assumption) ?rest10_rH13; (case hy10_rH13 => ((intro w hSw); (try dsimp only at hSw); go_simp; first | done | (with_reducible rfl))))
          (try simp only [Act.put, List.setIfInBounds_toArray, List.set_cons_zero, List.set_cons_succ])
          refine wpAnyH_ready (rs := [12]) (by kernel_rfl) (by simp) ?_
          refine AllReadyH.cons (o := ⟨none, _, _, _, _, _⟩) rfl (fun K hK => ?_) (AllReadyH.nil)
          (try clear p0 p1 pf0 pf1)
          obtain ⟨p0, p1, pf0, pf1⟩ := blkz X_21.out
          have Z1 := Lib.hid (X_21.out.set_ 0 (.int .i64 (hi V)))
          have ZF := Lib.hid (Z1.out.set_ 1 (.int .u64 (lo V)))
          have BF := Lib.hid ((B_21.out.setCell (p := ⟨A20, 0, none⟩) A_20.out (.int .i64 (hi V))).setCell (p := ⟨A20, 1, none⟩) A_20.out (.int .u64 (lo V)))
          go_simp
          refine hK.out _ _ ?_ (fun hHeld => ?_)
          · (try dsimp only)
            exact KS.out _ BF.out
          clear hK K
          (try simp only [Act.put, List.setIfInBounds_toArray, List.set_cons_zero, List.set_cons_succ])
          (refine wpAnyH_take (i := 13) (oi := ⟨some 15, _, _, _, _, _⟩) (v := ?v13_rH14) rfl (by kernel_rfl) (by kernel_rfl) (by kernel_rfl) (fun _ _ _ h => h) (Or.inl ⟨by rfl, ?hy13_rH14⟩) (by assumption) ?rest13_rH14; (case hy13_rH14 => ((intro w hSw); (try dsimp only at hSw); go_simp; first | done | (with_reducible rfl))))
          (try simp only [Act.put, List.setIfInBounds_toArray, List.set_cons_zero, List.set_cons_succ])
          refine wpAnyH_done (by kernel_rfl) ?_ _
          (try clear p0 p1 pf0 pf1)
          obtain ⟨vf, hvf⟩ : ∃ v, v = (w_21.setCell ⟨A20, 0, none⟩ (.int .i64 (hi V))).setCell ⟨A20, 1, none⟩ (.int .u64 (lo V)) := ⟨_, rfl⟩
          rw [← hvf] at ZF BF ⊢
          clear hvf
          obtain ⟨z0, z1, _⟩ := blkz ZF.out
          clear e5 e6
          go_wp2_with (go_at_call 31; (with_reducible refine (KTo.out _).mono ?_); rintro e wt ⟨o, n, c, E, rfl, hL, hb⟩; have BT := Lib.hid (BF.out.trans (hb.mono BF.out.size)); have LT := Lib.hid (hL.low BF.out.size); obtain ⟨r0, r1, rf0, rf1⟩ := blkz (KR.out _ BT.out); clear hb hL)
          refine bodyPost_ret (v := .tuple #[.agg #[.slice none 0 0, .slice o n c], .int .i64 E]) (by simp [results, Try.results18, go_sem, r0, r1]) rfl ?_
          rw [HVV.out]
          exact ⟨o, n, c, E, rfl, (LsV.put LT.out HSZ9.out _ _).low (Nat.le_of_lt (Nat.lt_of_le_of_lt (Nat.le_add_right _ 2) HSZ9.out)), ((KB0.out _ BT.out).setCell (p := ⟨w.heap.size + 2, 0, none⟩) (by show w.heap.size ≤ w.heap.size + 2; omega) _).setCell (p := ⟨w.heap.size + 2, 1, none⟩) (by show w.heap.size ≤ w.heap.size + 2; omega) _⟩
      · go_simp
        have X_22 := Lib.hid (Blk.new w_0 49 #[.int .i64 0, .int .u64 0])
        have B_22 := Lib.hid (B_0.out.alloc B_0.out.size (.cells #[.int .i64 0, .int .u64 0] 49))
        have A_22 := Lib.hid (show w9.heap.size ≤ w_0.heap.size from B_0.out.size)
        obtain ⟨A22, hA22⟩ : ∃ x, x = w_0.heap.size := ⟨_, rfl⟩
        rw [← hA22] at X_22 A_22 ⊢
        clear hA22
        refine hK.out _ _ ?_ (fun hHeld => ?_)
        · (try dsimp only)
          exact KS.out _ B_22.out
        clear hK K
        generalize w_0.alloc (.cells #[.int .i64 0, .int .u64 0] 49) = w_22 at *
        (try simp only [Act.put, List.setIfInBounds_toArray, List.set_cons_zero, List.set_cons_succ])
        refine wpAnyH_ready (rs := [6]) (by kernel_rfl) (by simp) ?_
        refine AllReadyH.cons (o := ⟨some 57, _, _, _, _, _⟩) rfl (fun K hK => ?_) (AllReadyH.nil)
        go_simp
        (go_at_call 30; (with_reducible refine (KFr.out _).mono ?_); rintro e w_23 ⟨rfl, hb⟩; have B_23 := Lib.hid (B_22.out.trans (hb.mono B_22.out.size)); have X_23 := Lib.hid (X_22.out.below hb X_22.out.lt); clear hb)
        refine hK.out _ _ ?_ (fun hHeld => ?_)
        · (try dsimp only)
          exact KS.out _ B_23.out
        clear hK K
        (try simp only [Act.put, List.setIfInBounds_toArray, List.set_cons_zero, List.set_cons_succ])
        refine wpAnyH_ready (rs := [7]) (by kernel_rfl) (by simp) ?_
        refine AllReadyH.cons (o := ⟨some 58, _, _, _, _, _⟩) rfl (fun K hK => ?_) (AllReadyH.nil)
        go_simp
        (go_at_call 29; (with_reducible refine (KRd.out _).mono ?_); rintro e w_24 ⟨rfl, hb⟩; have B_24 := Lib.hid (B_23.out.trans (hb.mono B_23.out.size)); have X_24 := Lib.hid (X_23.out.below hb X_23.out.lt); clear hb)
        refine hK.out _ _ ?_ (fun hHeld => ?_)
        · (try dsimp only)
          exact KS.out _ B_24.out
        clear hK K
        (try simp only [Act.put, List.setIfInBounds_toArray, List.set_cons_zero, List.set_cons_succ])
        (refine wpAnyH_take (i := 8) (oi := ⟨some 50, _, _, _, _, _⟩) (v := ?v8_rH15) rfl (by kernel_rfl) (by kernel_rfl) (by kernel_rfl) (fun _ _ _ h => h) (Or.inl ⟨by rfl, ?hy8_rH15⟩) (by assumption) ?rest8_rH15; (case hy8_rH15 => ((intro w hSw); (try dsimp only at hSw); go_simp; first | done | (with_reducible rfl))))
        (try simp only [Act.put, List.setIfInBounds_toArray, List.set_cons_zero, List.set_cons_succ])
        (refine wpAnyH_take (i := 9) (oi := ⟨some 59, _, _, _, _, _⟩) (v := ?v9_rH16) rfl (by kernel_rfl) (by kernel_rfl) (by kernel_rfl) (fun _ _ _ h => h) (Or.inl ⟨by rfl, ?hy9_rH16⟩) (by assumption) ?rest9_rH16; (case hy9_rH16 => ((intro w hSw); (try dsimp only at hSw); go_simp; first | done | (with_reducible rfl))))
        (try simp only [Act.put, List.setIfInBounds_toArray, List.set_cons_zero, List.set_cons_succ])
        (refine wpAnyH_take (i := 10) (oi := ⟨some 60, _, _, _, _, _⟩) (v := ?v10_rH17) rfl (by kernel_rfl) (by kernel_rfl) (by kernel_rfl) (fun _ _ _ h => h) (Or.inl ⟨by rfl, ?hy10_rH17⟩) (by assumption) ?rest10_rH17; (case hy10_rH17 => ((intro w hSw); (try dsimp only at hSw); go_simp; first | done | (with_reducible rfl))))
        (try simp only [Act.put, List.setIfInBounds_toArray, List.set_cons_zero, List.set_cons_succ])
        refine wpAnyH_ready (rs := [12]) (by kernel_rfl) (by simp) ?_
        refine AllReadyH.cons (o := ⟨none, _, _, _, _, _⟩) rfl (fun K hK => ?_) (AllReadyH.nil)
        (try clear p0 p1 pf0 pf1)
        obtain ⟨p0, p1, pf0, pf1⟩ := blkz X_24.out
        have Z1 := Lib.hid (X_24.out.set_ 0 (.int .i64 (hi V)))
        have ZF := Lib.hid (Z1.out.set_ 1 (.int .u64 (lo V)))
        have BF := Lib.hid ((B_24.out.setCell (p := ⟨A22, 0, none⟩) A_22.out (.int .i64 (hi V))).setCell (p := ⟨A22, 1, none⟩) A_22.out (.int .u64 (lo V)))
        go_simp
        refine hK.out _ _ ?_ (fun hHeld => ?_)
        · (try dsimp only)
          exact KS.out _ BF.out
        clear hK K
        (try simp only [Act.put, List.setIfInBounds_toArray, List.set_cons_zero, List.set_cons_succ])
        (refine wpAnyH_take (i := 13) (oi := ⟨some 15, _, _, _, _, _⟩) (v := ?v13_rH18) rfl (by kernel_rfl) (by kernel_rfl) (by kernel_rfl) (fun _ _ _ h => h) (Or.inl ⟨by rfl, ?hy13_rH18⟩) (by assumption) ?rest13_rH18; (case hy13_rH18 => ((intro w hSw); (try dsimp only at hSw); go_simp; first | done | (with_reducible rfl))))
        (try simp only [Act.put, List.setIfInBounds_toArray, List.set_cons_zero, List.set_cons_succ])
        refine wpAnyH_done (by kernel_rfl) ?_ _
        (try clear p0 p1 pf0 pf1)
        obtain ⟨vf, hvf⟩ : ∃ v, v = (w_24.setCell ⟨A22, 0, none⟩ (.int .i64 (hi V))).setCell ⟨A22, 1, none⟩ (.int .u64 (lo V)) := ⟨_, rfl⟩
        rw [← hvf] at ZF BF ⊢
        clear hvf
        obtain ⟨z0, z1, _⟩ := blkz ZF.out
        clear e5 e6
        go_wp2_with (go_at_call 31; (with_reducible refine (KTo.out _).mono ?_); rintro e wt ⟨o, n, c, E, rfl, hL, hb⟩; have BT := Lib.hid (BF.out.trans (hb.mono BF.out.size)); have LT := Lib.hid (hL.low BF.out.size); obtain ⟨r0, r1, rf0, rf1⟩ := blkz (KR.out _ BT.out); clear hb hL)
        refine bodyPost_ret (v := .tuple #[.agg #[.slice none 0 0, .slice o n c], .int .i64 E]) (by simp [results, Try.results18, go_sem, r0, r1]) rfl ?_
        rw [HVV.out]
        exact ⟨o, n, c, E, rfl, (LsV.put LT.out HSZ9.out _ _).low (Nat.le_of_lt (Nat.lt_of_le_of_lt (Nat.le_add_right _ 2) HSZ9.out)), ((KB0.out _ BT.out).setCell (p := ⟨w.heap.size + 2, 0, none⟩) (by show w.heap.size ≤ w.heap.size + 2; omega) _).setCell (p := ⟨w.heap.size + 2, 1, none⟩) (by show w.heap.size ≤ w.heap.size + 2; omega) _⟩
end Go.Proofs.Ytocoedpmcognpaa
