/-
  package window: the iterator of a line's taps at a place.
  package window: what meets what at a place, as a list; what a round of the iterator keeps.
  package conv: a tensor of noughts.
  Whole structs loaded and stored at once.
-/
import Derived.Deep.MidRow
import Derived.Laws.ResultCell
import Derived.Test.YtnlfljekbknaaaaM01
import Derived.Test.YtnlfljekbknaaaaM05
namespace Go.Proofs.Ytnlfljekbknaaaa
open Go Go.RowKit Go.Shelf
attribute [local go_sem] Oper.semAt_some

/-- Where the x-th tap stands; is it within? -/
def tpp (s p d P : Int) (x : Nat) : Int := P * s + (x : Int) * d - p
def tpw (l s p d P : Int) (x : Nat) : Bool := decide (0 ≤ tpp s p d P x) && decide (tpp s p d P x < l)
/-- The tap that the body is told. -/
def ptp {K : Nat} (l s p d P : Int) (x : Fin K) : Array Value := #[.agg #[.int .i64 (tpp s p d P x.1), .int .i64 (x.1 : Nat), .bool (tpw l s p d P x.1)]]
theorem tap_facts {s p d P : Int} {x : Nat} (hs : 1 ≤ s ∧ s ≤ 4096) (hp : 0 ≤ p ∧ p ≤ 4096) (hd : 1 ≤ d ∧ d ≤ 4096) (hP : 0 ≤ P ∧ P ≤ 12288) (hx : x ≤ 4096) :
    ∃ a1 a2 a3 a4 : Int, wrap64 (P * s) = a1 ∧ wrap64 ((x : Int) * d) = a2 ∧ wrap64 (a1 + a2) = a3 ∧ wrap64 (a3 - p) = a4 ∧ Hid (a4 = tpp s p d P x) := by
  have h1 := Int.mul_le_mul hP.2 hs.2 (by omega) (by decide)
  have h2 : 0 ≤ P * s := Int.mul_nonneg hP.1 (by omega)
  have h3 := Int.mul_le_mul (show (x : Int) ≤ 4096 by omega) hd.2 (by omega) (by decide)
  have h4 : 0 ≤ (x : Int) * d := Int.mul_nonneg (by omega) (by omega)
  refine ⟨P * s, (x : Int) * d, P * s + (x : Int) * d, P * s + (x : Int) * d - p, ?_, ?_, ?_, ?_, Lib.hid rfl⟩
  all_goals
    generalize P * s = a at *
    generalize (x : Int) * d = b at *
    exact IntWalk.wrap64_in _ (by omega)
set_option maxRecDepth 100000 in
set_option maxHeartbeats 4000000 in
theorem at1_in (F : Fence) (m : Nat) (hfn : F.fn 153) (hro : F.round = none) (hm : 1 ≤ m) (y BL BP K : Nat) (l s p d n P : Int) (hs : 1 ≤ s ∧ s ≤ 4096) (hp : 0 ≤ p ∧ p ≤ 4096) (hd : 1 ≤ d ∧ d ≤ 4096) (hP : 0 ≤ P ∧ P ≤ 12288) (hK : K ≤ 4096) (J Jx : List (Fin K) → World → Prop)
    (hY : ∀ pre x W, J pre W → pre.length < K → YieldAt F (m - 1) Try.prog y (ptp l s p d P x) W fun e W' =>
      (e = .returned (.bool true) ∧ J (pre ++ [x]) W' ∧ Kp2 BL BP W W') ∨ (e = .returned (.bool false) ∧ Jx (pre ++ [x]) W'))
    (W : World) (h1 : Blk W BL 84 #[.int .i64 l, .int .i64 n, .int .i64 (K : Nat), .int .i64 s, .int .i64 p, .int .i64 d]) (h2 : Blk W BP 3 #[.int .i64 P]) (h0 : J [] W) :
    CallsIn F m Try.prog 153 #[.func (.yield y) #[] #[], .pointer (some ⟨BL, 0, none⟩), .pointer (some ⟨BP, 0, none⟩)] W fun e W' => (∃ v, e = .returned v) ∧
      ((∃ ys, ys = cks K (Nat.le_refl K) ∧ J ys W') ∨ (∃ pre, (∃ (j : Nat) (hj : j ≤ K), pre = cks j hj) ∧ Jx pre W')) := by
  have HB := Lib.hid (And.intro hs (And.intro hp (And.intro hd hP)))
  clear hs hp hd hP
  refine callsIn_of_wp Try.func153 rfl hfn ?_ hro
  simp only [Try.ntmps153, List.size_toArray, List.length_cons, List.length_nil, Nat.reduceAdd, Nat.reduceSub, Array.replicate_succ, Array.replicate_zero, List.push_toArray, List.append_toArray, List.nil_append, List.cons_append]
  have HC := Lib.hid (And.intro h1 h2)
  obtain ⟨⟨c0, c1, c2, c3, c4, c5⟩, _⟩ := blk6l h1
  clear h1 h2
  gi_wp2
  clear c0 c1 c2 c3 c4 c5
  gi_loopw [8] (fun s8 wQ => ∃ (j : Nat) (hj : j ≤ K), s8 = .int .i64 (j : Nat) ∧ J (cks j hj) wQ ∧ Hid (Blk wQ BL 84 #[.int .i64 l, .int .i64 n, .int .i64 (K : Nat), .int .i64 s, .int .i64 p, .int .i64 d] ∧ Blk wQ BP 3 #[.int .i64 P])) (fun s8 _ => K - (intOf s8).toNat)
  case atStart => exact ⟨0, Nat.zero_le _, rfl, h0, HC⟩
  case round =>
    obtain ⟨j, hj, rfl, hJs, hK2⟩ := hrel
    obtain ⟨⟨c0, c1, c2, c3, c4, c5⟩, _⟩ := blk6l hK2.out.1
    have q0 := hK2.out.2.cell 0
    by_cases hlt : j < K
    · obtain ⟨a1, a2, a3, a4, e1, e2, e3, e4, he⟩ := tap_facts (x := j) HB.out.1 HB.out.2.1 HB.out.2.2.1 HB.out.2.2.2 (by omega)
      have hy0 := hY (cks j hj) ⟨j, hlt⟩ wr hJs (by rw [cks_len]; exact hlt)
      have hpt : ptp l s p d P (⟨j, hlt⟩ : Fin K) = #[.agg #[.int .i64 a4, .int .i64 (j : Nat), .bool (decide (0 ≤ a4) && decide (a4 < l))]] := by
        unfold ptp tpw; rw [← he.out]
      rw [hpt] at hy0
      have HY := Lib.hid hy0
      clear hy0 hpt he
      by_cases g1 : 0 ≤ a4
      · by_cases g2 : a4 < l
        · have hy1 := HY.out
          rw [decide_eq_true g1, decide_eq_true g2, Bool.true_and] at hy1
          obtain ⟨fn, tmps, assign, body, hy, hR⟩ := hy1
          have g1' : decide (0 ≤ a4) = true := decide_eq_true g1
          have g2' : decide (a4 < l) = true := decide_eq_true g2
          clear HY
          gi_wp2
          clear e1 e2 e3 e4
          refine hR.mono ?_
          rintro e W3 (⟨rfl, hJ3, hk3⟩ | ⟨rfl, hJx3⟩)
          · have HC3 := Lib.hid (And.intro (hk3.1.trans hK2.out.1 : Blk W3 BL _ _) (hk3.2.trans hK2.out.2 : Blk W3 BP _ _))
            gi_wp2
            go_roundw
            case rel => exact ⟨j + 1, hlt, by go_num, hJ3, HC3⟩
            case measure => simp [intOf]; omega
          · gi_wp2
            refine bodyPost_ret (results_none rfl _ _ _) rfl ?_
            exact ⟨⟨_, rfl⟩, .inr ⟨cks (j + 1) hlt, ⟨_, _, rfl⟩, hJx3⟩⟩
        · have hy1 := HY.out
          rw [decide_eq_true g1, decide_eq_false g2, Bool.true_and] at hy1
          obtain ⟨fn, tmps, assign, body, hy, hR⟩ := hy1
          have g1' : decide (0 ≤ a4) = true := decide_eq_true g1
          have g2' : decide (a4 < l) = false := decide_eq_false g2
          clear HY
          gi_wp2
          clear e1 e2 e3 e4
          refine hR.mono ?_
          rintro e W3 (⟨rfl, hJ3, hk3⟩ | ⟨rfl, hJx3⟩)
          · have HC3 := Lib.hid (And.intro (hk3.1.trans hK2.out.1 : Blk W3 BL _ _) (hk3.2.trans hK2.out.2 : Blk W3 BP _ _))
            gi_wp2
            go_roundw
            case rel => exact ⟨j + 1, hlt, by go_num, hJ3, HC3⟩
            case measure => simp [intOf]; omega
          · gi_wp2
            refine bodyPost_ret (results_none rfl _ _ _) rfl ?_
            exact ⟨⟨_, rfl⟩, .inr ⟨cks (j + 1) hlt, ⟨_, _, rfl⟩, hJx3⟩⟩
      · have hy1 := HY.out
        rw [decide_eq_false g1, Bool.false_and] at hy1
        obtain ⟨fn, tmps, assign, body, hy, hR⟩ := hy1
        have g1' : decide (0 ≤ a4) = false := decide_eq_false g1
        clear HY
        gi_wp2
        clear e1 e2 e3 e4
        refine hR.mono ?_
        rintro e W3 (⟨rfl, hJ3, hk3⟩ | ⟨rfl, hJx3⟩)
        · have HC3 := Lib.hid (And.intro (hk3.1.trans hK2.out.1 : Blk W3 BL _ _) (hk3.2.trans hK2.out.2 : Blk W3 BP _ _))
          gi_wp2
          go_roundw
          case rel => exact ⟨j + 1, hlt, by go_num, hJ3, HC3⟩
          case measure => simp [intOf]; omega
        · gi_wp2
          refine bodyPost_ret (results_none rfl _ _ _) rfl ?_
          exact ⟨⟨_, rfl⟩, .inr ⟨cks (j + 1) hlt, ⟨_, _, rfl⟩, hJx3⟩⟩
    · obtain rfl : j = K := by omega
      gi_wp2
      go_end0
      exact ⟨⟨_, rfl⟩, .inl ⟨_, rfl, hJs⟩⟩
/-- The iterator's contract. -/
theorem at_stops (F : Fence) (m : Nat) (hfn : F.fn 153) (hro : F.round = none) (hm : 1 ≤ m) (BL BP K : Nat) (l s p d n P : Int) (hs : 1 ≤ s ∧ s ≤ 4096) (hp : 0 ≤ p ∧ p ≤ 4096) (hd : 1 ≤ d ∧ d ≤ 4096) (hP : 0 ≤ P ∧ P ≤ 12288) (hK : K ≤ 4096) (w : World) (h1 : Blk w BL 84 #[.int .i64 l, .int .i64 n, .int .i64 (K : Nat), .int .i64 s, .int .i64 p, .int .i64 d]) (h2 : Blk w BP 3 #[.int .i64 P]) :
    SeqStopsK F m Try.prog 153 #[.pointer (some ⟨BL, 0, none⟩), .pointer (some ⟨BP, 0, none⟩)] (ptp (K := K) l s p d P) (Kp2 BL BP) (fun ys => ys = cks K (Nat.le_refl K)) (fun pre => ∃ (j : Nat) (hj : j ≤ K), pre = cks j hj) K w := fun y J Jx W hW _ _ hY h0 =>
  at1_in F m hfn hro hm y BL BP K l s p d n P hs hp hd hP hK J Jx hY W (h1.below hW h1.lt) (h2.below hW h2.lt) h0
set_option maxRecDepth 100000 in
set_option maxHeartbeats 2000000 in
theorem at_any (l k s p d n P : Int) (w : World) : Calls Try.prog 136 #[Lnv l k s p d n, .int .i64 P] w fun e w' =>
    e = .returned (.func (.func 153) #[] #[.pointer (some ⟨w.heap.size, 0, none⟩), .pointer (some ⟨w.heap.size + 1, 0, none⟩)]) ∧ w' = (w.alloc (.cells #[.int .i64 l, .int .i64 n, .int .i64 k, .int .i64 s, .int .i64 p, .int .i64 d] 84)).alloc (.cells #[.int .i64 P] 3) := by
  unfold Lnv
  go_enter Try.func136, Try.ntmps136
  go_wp2
  go_ret
  exact ⟨rfl, rfl⟩
end Go.Proofs.Ytnlfljekbknaaaa
namespace Go.Proofs.Ytnlfljekbknaaaa
open Go Go.RowKit Go.Shelf

/-- A line: its length, places, taps, stride, pad, dilation. -/
abbrev Ln := Int × Int × Int × Int × Int × Int
def lat (L : Ln) (P : Int) (x : Nat) : Int := tpp L.2.2.2.1 L.2.2.2.2.1 L.2.2.2.2.2 P x
def lin (L : Ln) (P : Int) (x : Nat) : Bool := tpw L.1 L.2.2.2.1 L.2.2.2.2.1 L.2.2.2.2.2 P x
theorem lin_bd {L : Ln} {P : Int} {x : Nat} (h : lin L P x = true) : 0 ≤ lat L P x ∧ lat L P x < L.1 := by
  unfold lin tpw at h
  simp only [Bool.and_eq_true, decide_eq_true_eq] at h
  exact h
/-- A meeting: a row tap and a column tap, both within. -/
abbrev Mt (R C : Ln) (Pr Pc : Int) (K0 K1 : Nat) := { p : Fin K0 × Fin K1 // lin R Pr p.1.1 = true ∧ lin C Pc p.2.1 = true }
section
variable {R C : Ln} {Pr Pc : Int} {K0 K1 : Nat}
def mwd (x : Mt R C Pr Pc K0 K1) : Int := lat R Pr x.1.1.1 * C.1 + lat C Pc x.1.2.1
def mtp (x : Mt R C Pr Pc K0 K1) : Int := (x.1.1.1 : Int) * C.2.2.1 + (x.1.2.1 : Int)
/-- The pair that is told. -/
def mpq (x : Mt R C Pr Pc K0 K1) : Array Value := #[.int .i64 (mwd x), .int .i64 (mtp x)]
variable (R C Pr Pc)
def mone (x : Fin K0) (y : Fin K1) : List (Mt R C Pr Pc K0 K1) := if h : lin R Pr x.1 = true ∧ lin C Pc y.1 = true then [⟨(x, y), h⟩] else []
def mrow (x : Fin K0) (l : List (Fin K1)) : List (Mt R C Pr Pc K0 K1) := l.flatMap (mone R C Pr Pc x)
def mall (l : List (Fin K0)) : List (Mt R C Pr Pc K0 K1) := l.flatMap (fun x => mrow R C Pr Pc x (cks K1 (Nat.le_refl K1)))
/-- All that meets at a place, in order. -/
def mts (K0 K1 : Nat) : List (Mt R C Pr Pc K0 K1) := mall R C Pr Pc (cks K0 (Nat.le_refl K0))
variable {R C Pr Pc}
theorem mrow_no {x : Fin K0} (h : lin R Pr x.1 = false) (l : List (Fin K1)) : mrow R C Pr Pc x l = [] := by
  unfold mrow
  rw [List.flatMap_eq_nil_iff]
  intro y _
  simp [mone, h]
theorem mrow_snoc (x : Fin K0) (l : List (Fin K1)) (y : Fin K1) : mrow R C Pr Pc x (l ++ [y]) = mrow R C Pr Pc x l ++ mone R C Pr Pc x y := by simp [mrow]
theorem mall_snoc (l : List (Fin K0)) (x : Fin K0) : mall R C Pr Pc (l ++ [x]) = mall R C Pr Pc l ++ mrow R C Pr Pc x (cks K1 (Nat.le_refl K1)) := by simp [mall]
theorem mone_no {x : Fin K0} {y : Fin K1} (h : lin C Pc y.1 = false) : mone R C Pr Pc x y = [] := by simp [mone, h]
theorem mone_yes {x : Fin K0} {y : Fin K1} (h : lin R Pr x.1 = true) (k : lin C Pc y.1 = true) : mone R C Pr Pc x y = [⟨(x, y), ⟨h, k⟩⟩] := dif_pos ⟨h, k⟩
theorem mone_len (x : Fin K0) (y : Fin K1) : (mone R C Pr Pc x y).length ≤ 1 := by unfold mone; split <;> simp
theorem mrow_len (x : Fin K0) : ∀ l : List (Fin K1), (mrow R C Pr Pc x l).length ≤ l.length
  | [] => by simp [mrow]
  | y :: l => by
    have h1 := mone_len (R := R) (C := C) (Pr := Pr) (Pc := Pc) x y
    have h2 := mrow_len x l
    unfold mrow at h2 ⊢
    rw [List.flatMap_cons, List.length_append, List.length_cons]
    omega
theorem mall_len : ∀ l : List (Fin K0), (mall R C Pr Pc (K1 := K1) l).length ≤ l.length * K1
  | [] => by simp [mall]
  | x :: l => by
    have h1 := mrow_len (R := R) (C := C) (Pr := Pr) (Pc := Pc) x (cks K1 (Nat.le_refl K1))
    rw [cks_len] at h1
    have h2 := mall_len l
    unfold mall at h2 ⊢
    rw [List.flatMap_cons, List.length_append, List.length_cons, Nat.add_mul, Nat.one_mul]
    omega
theorem told_lt {l : List (Fin K0)} {x : Fin K0} {m : List (Fin K1)} (h : l.length < K0) (k : m.length < K1) : (mall R C Pr Pc l ++ mrow R C Pr Pc x m).length < K0 * K1 := by
  have h1 := mall_len (R := R) (C := C) (Pr := Pr) (Pc := Pc) (K1 := K1) l
  have h2 := mrow_len (R := R) (C := C) (Pr := Pr) (Pc := Pc) x m
  have h3 : (l.length + 1) * K1 ≤ K0 * K1 := Nat.mul_le_mul_right K1 h
  rw [Nat.add_mul, Nat.one_mul] at h3
  rw [List.length_append]
  omega
end

/-- What a round of a loop over meetings must keep. -/
def KW (W W' : World) : Prop := ∀ (k : Nat) (cs : Array Value) (t : TypeId) (fz : Nat × Nat), W.heap[k]? = some (Obj.cells cs t fz) → (t = 3 ∨ t = 84 ∨ t = 86 ∨ t = 191 ∨ t = 155) → W'.heap[k]? = W.heap[k]?
theorem KW.refl (W : World) : KW W W := fun _ _ _ _ _ _ => rfl
theorem KW.trans {a b c : World} (h : KW a b) (k : KW b c) : KW a c := fun i cs t fz e ht => (k i cs t fz ((h i cs t fz e ht).trans e) ht).trans (h i cs t fz e ht)
theorem KW.put (W : World) (l : Nat) (o o' : Obj) (hl : W.heap[l]? = some o) (hc : o.isCells = false) : KW W (W.putObj l o') := fun k cs t fz e _ => World.putObj_heap_other (fun e2 => by subst e2; rw [hl] at e; cases e; cases hc)
theorem KW.below {W W' : World} (h : Below W.heap.size W W') : KW W W' := fun k _ _ _ e _ => h.block k (Array.getElem?_eq_some_iff.1 e).1
theorem KW.blk {W W' : World} (h : KW W W') {b : Nat} {t : TypeId} {cs : Array Value} (hb : Blk W b t cs) (ht : t = 3 ∨ t = 84 ∨ t = 86 ∨ t = 191 ∨ t = 155) : Blk W' b t cs := (h b _ _ _ hb ht).trans hb
theorem KW.kp2 {W W' : World} (h : KW W W') {b c : Nat} {cs ds : Array Value} (hb : Blk W b 84 cs) (hc : Blk W c 3 ds) : Kp2 b c W W' := ⟨h b _ _ _ hb (.inr (.inl rfl)), h c _ _ _ hc (.inl rfl)⟩
theorem keeps_below {W W' : World} (B : Nat) (h : Below W.heap.size W W') : KeepsFrom B W W' := ⟨h.size, fun k _o _ e _ => (h.block k (Array.getElem?_eq_some_iff.1 e).1).trans e⟩
theorem keeps_up {B B' : Nat} {W W' : World} (h : KeepsFrom B W W') (hb : B ≤ B') : KeepsFrom B' W W' := ⟨h.size, fun k o hk e ho => h.same k o (Nat.le_trans hb hk) e ho⟩
theorem own_below {β : Type} {B : Nat} {J : β → World → Prop} (hJ : OwnFrom B J) {s : β} {W W' : World} (h : J s W) (hb : Below W.heap.size W W') : J s W' :=
  hJ s W W' none h ⟨hb.os, hb.tape, hb.output, hb.size, fun k hk _ => hb.block k hk⟩ (fun r e => by cases e)
/-- At a fence without a depth a round's contract is one at any, two loops deep. -/
theorem oround_any2 {m m' : Nat} {P : Program} {l l2 l3 : Nat} {f : FuncId} {tmps : Array Value} {assign body : Code} {w : World} {R : Ending → World → Prop}
    (h : RoundIn Fence.wide m P l f tmps assign body w R) : RoundIn ((Fence.wide.inRound l2).inRound l3) m' P l f tmps assign body w R := ⟨h.1, fun c cs _ => h.2 c cs (room_wide _)⟩
/-- A place by its row and its column. -/
theorem place_facts {Pl n : Int} (h0 : 0 ≤ Pl) (h1 : Pl ≤ 200000000) (hn : 1 ≤ n) : ∃ a b : Int, Pl.tdiv n = a ∧ Pl.tmod n = b ∧ wrap64 a = a ∧ wrap64 b = b ∧ IntKind.i64.wrap a = a ∧ IntKind.i64.wrap b = b ∧ Hid (a = Pl / n ∧ b = Pl % n) := by
  have e1 : Pl.tdiv n = Pl / n := Int.tdiv_eq_ediv_of_nonneg h0
  have e2 : Pl.tmod n = Pl % n := Int.tmod_eq_emod_of_nonneg h0
  have q1 : 0 ≤ Pl / n := Int.ediv_nonneg h0 (by omega)
  have q2 : Pl / n ≤ Pl := Int.ediv_le_self _ h0
  have q3 : 0 ≤ Pl % n := Int.emod_nonneg _ (by omega)
  have q4 : Pl % n < n := Int.emod_lt_of_pos _ (by omega)
  have q5 : Pl % n ≤ Pl := by
    have := Int.mul_ediv_add_emod Pl n
    have := Int.mul_nonneg (show 0 ≤ n by omega) q1
    omega
  exact ⟨Pl / n, Pl % n, e1, e2, IntWalk.wrap64_in _ (by omega), IntWalk.wrap64_in _ (by omega), IntWalk.i64_in _ (by omega), IntWalk.i64_in _ (by omega), Lib.hid ⟨rfl, rfl⟩⟩
/-- A meeting's numbers. -/
theorem meet_facts {l k rp cp : Int} {n m : Nat} (hl : 1 ≤ l ∧ l ≤ 4096) (hk : 1 ≤ k ∧ k ≤ 4096) (hr : 0 ≤ rp ∧ rp < 4096) (hc : 0 ≤ cp ∧ cp < 4096) (hn : n ≤ 4096) (hm : m ≤ 4096) :
    ∃ a1 a2 a3 a4 : Int, wrap64 (rp * l) = a1 ∧ wrap64 (a1 + cp) = a2 ∧ wrap64 ((n : Int) * k) = a3 ∧ wrap64 (a3 + (m : Int)) = a4 ∧ Hid (a2 = rp * l + cp ∧ a4 = (n : Int) * k + (m : Int)) := by
  have h1 := Int.mul_le_mul (show rp ≤ 4096 by omega) hl.2 (by omega) (by decide)
  have h2 : 0 ≤ rp * l := Int.mul_nonneg hr.1 (by omega)
  have h3 := Int.mul_le_mul (show (n : Int) ≤ 4096 by omega) hk.2 (by omega) (by decide)
  have h4 : 0 ≤ (n : Int) * k := Int.mul_nonneg (by omega) (by omega)
  refine ⟨rp * l, rp * l + cp, (n : Int) * k, (n : Int) * k + (m : Int), ?_, ?_, ?_, ?_, Lib.hid ⟨rfl, rfl⟩⟩
  all_goals
    generalize rp * l = a at *
    generalize (n : Int) * k = b at *
    exact IntWalk.wrap64_in _ (by omega)
/-- The boxes of the window, the place and the body. -/
def Wi (BW BP By : Nat) (cs : Array Value) (Pl : Int) (yv : Value) (X : World) : Prop := Blk X BW 86 cs ∧ Blk X BP 3 #[.int .i64 Pl] ∧ Blk X By 155 #[yv]
theorem wi_own {β : Type} (BW BP By : Nat) (cs : Array Value) (Pl : Int) (yv : Value) : Own (fun (_ : β) X => Wi BW BP By cs Pl yv X) := fun s X Y row hs hg hr =>
  ⟨blk_own (β := β) _ _ (fun _ => _) s X Y row hs.1 hg hr, blk_own (β := β) _ _ (fun _ => _) s X Y row hs.2.1 hg hr, blk_own (β := β) _ _ (fun _ => _) s X Y row hs.2.2 hg hr⟩
theorem wi_kw {BW BP By : Nat} {cs : Array Value} {Pl : Int} {yv : Value} {X Y : World} (h : Wi BW BP By cs Pl yv X) (k : KW X Y) : Wi BW BP By cs Pl yv Y :=
  ⟨k.blk h.1 (.inr (.inr (.inl rfl))), k.blk h.2.1 (.inl rfl), k.blk h.2.2 (.inr (.inr (.inr (.inr rfl))))⟩
end Go.Proofs.Ytnlfljekbknaaaa
namespace Go.Proofs.Ytnlfljekbknaaaa
open Go Go.RowKit Go.Shelf
attribute [local go_sem] Oper.semAt_some

theorem noughts_end {w W : World} {N g c : Nat} {o : Option Addr} {s : List Int} (hO : W.ownsRow w.heap.size 3 1 (.slice o s.length c) s.length (ints s)) (hD : Blk W g 2 (ints (List.replicate N 0)).toArray) (hg : w.heap.size ≤ g) (hB : Below w.heap.size w W) (hN : N ≤ 65536) :
    SomeT w 0 s (List.replicate N 0) (.returned (.tuple #[.agg #[.slice o s.length c, .slice (some ⟨g, 0, none⟩) N N], .int .i64 0])) W := by
  have q := Blk.owns (base := w.heap.size) hD hg (by rw [List.length_replicate]; exact hN)
  refine ⟨o, c, some ⟨g, 0, none⟩, N, by rw [List.length_replicate], hO, ?_, hB⟩
  rw [List.length_replicate] at q ⊢
  exact q
set_option maxRecDepth 100000 in
set_option maxHeartbeats 4000000 in
theorem noughts_no (v : Value) (s : List Int) (w : World) (h : Ld w v s) (hm : may s = false) :
    Calls Try.prog 55 #[v] w fun e w' => e = .returned (.tuple #[.agg #[.slice none 0 0, .slice none 0 0], .int .i64 5]) ∧ Below w.heap.size w w' := by
  obtain ⟨w2, hw2⟩ : ∃ w2, w2 = w.alloc (.cells #[.slice none 0 0, .slice none 0 0] 26) := ⟨_, rfl⟩
  have B2 := Lib.hid ((Below.refl w.heap.size w).alloc (Nat.le_refl _) (.cells #[.slice none 0 0, .slice none 0 0] 26))
  have C1 := Lib.hid (count_no v s w2 (h.below (by rw [hw2]; exact B2.out)) hm)
  rw [hw2] at C1
  have T2 := Lib.hid (Blk.new w 26 #[.slice none 0 0, .slice none 0 0])
  obtain ⟨p0, p1, _⟩ := blk2 T2.out
  have f0 := T2.out.frozen 0
  have f1 := T2.out.frozen 1
  have TT := Lib.hid ((T2.out.set_ 0 (.slice none 0 0)).set_ 1 (.slice none 0 0))
  obtain ⟨q0, q1, _⟩ := blk2 TT.out
  obtain ⟨o, c, rfl, _, _⟩ := h
  clear hw2 hm
  go_enter Try.func55, Try.ntmps55
  go_wp2_with (go_at_call 95; (with_reducible refine C1.out.mono ?_); rintro e w' ⟨rfl, rfl⟩)
  refine bodyPost_ret (v := .tuple #[.agg #[.slice none 0 0, .slice none 0 0], .int .i64 5]) (by simp [results, Try.results55, go_sem]) rfl ?_
  exact ⟨rfl, B2.out⟩
set_option maxRecDepth 100000 in
set_option maxHeartbeats 6000000 in
theorem noughts_ok (v : Value) (s : List Int) (N : Nat) (w : World) (h : Ld w v s) (hm : may s = true) (hN : prod s = (N : Int)) :
    Calls Try.prog 55 #[v] w (SomeT w 0 s (List.replicate N 0)) := by
  obtain ⟨i1, hi1, hy0, hy1, hy2⟩ := info_parts infoW
  have hl := may_len hm
  have hp := may_prod hm
  have HN : Hid (N ≤ 65536) := Lib.hid (by omega)
  have mk : ∀ W : World, (Instr.makeSlice 24 (.int .i64 (N : Int)) (.int .i64 (N : Int))).run Try.prog W = .ok (.slice (some ⟨W.heap.size, 0, none⟩) N N) (W.alloc (.cells (ints (List.replicate N 0)).toArray 2)) := fun W => by
    have := run_make (w := W) 24 2 i1 (.int .i64 0) Try.underlying24 hi1 hy0 .i64 .i64 N N (by omega) (by omega) (by rw [hy2]; omega) (by omega)
    rw [this, hy1, ← made_ints]; simp [Value.cells]
  have CL := Lib.hid (fun (W : World) (hW : Below w.heap.size w W) => cloned_any v s W (h.below hW) (by omega))
  obtain ⟨w2, hw2⟩ : ∃ w2, w2 = w.alloc (.cells #[.slice none 0 0, .slice none 0 0] 26) := ⟨_, rfl⟩
  have B2 : Hid (Below w.heap.size w w2) := Lib.hid (by rw [hw2]; exact (Below.refl w.heap.size w).alloc (Nat.le_refl _) (.cells #[.slice none 0 0, .slice none 0 0] 26))
  have C1 := Lib.hid (count_ok v s w2 (h.below B2.out) hm)
  rw [hN] at C1
  have T2 : Hid (Blk w2 w.heap.size 26 #[.slice none 0 0, .slice none 0 0]) := Lib.hid (by rw [hw2]; exact Blk.new w 26 #[.slice none 0 0, .slice none 0 0])
  have HW := Lib.hid hw2
  rw [hw2] at C1
  obtain ⟨o, c, rfl, _, _⟩ := h
  clear hw2 hm hl hp hN
  go_enter Try.func55, Try.ntmps55
  go_upto_region 4 with (go_at_call 95; (with_reducible refine C1.out.mono ?_); rintro e w' ⟨rfl, rfl⟩)
  rw [← HW.out]
  have B0 : Hid (Below w.heap.size w w2.drew) := Lib.hid (below_drw B2.out 1)
  have T0 : Hid (Blk w2.drew w.heap.size 26 #[.slice none 0 0, .slice none 0 0]) := Lib.hid T2.out
  refine wp_region_held_drew (S := fun _ => True) (by kernel_rfl) trivial (fun hHeld => ?_)
  have hHd := hHeld
  generalize w2.drew = wd at *
  (refine wpAnyH_take (i := 0) (oi := ⟨some 14, _, _, _, _, _⟩) (v := ?v0_n1) rfl (by kernel_rfl) (by kernel_rfl) (by kernel_rfl) (fun _ _ _ h => h) (Or.inl ⟨by rfl, ?hy0_n1⟩) (by assumption) ?rest0_n1; (case hy0_n1 => ((intro w hSw); (try dsimp only at hSw); go_simp; first | done | (with_reducible rfl))))
  (try simp only [Act.put, List.setIfInBounds_toArray, List.set_cons_zero, List.set_cons_succ])
  (refine wpAnyH_take (i := 2) (oi := ⟨some 16, _, _, _, _, _⟩) (v := ?v2_n2) rfl (by kernel_rfl) (by kernel_rfl) (by kernel_rfl) (fun _ _ _ h => h) (Or.inl ⟨by rfl, ?hy2_n2⟩) (by assumption) ?rest2_n2; (case hy2_n2 => ((intro w hSw); (try dsimp only at hSw); go_simp; first | done | (with_reducible rfl))))
  (try simp only [Act.put, List.setIfInBounds_toArray, List.set_cons_zero, List.set_cons_succ])
  refine wpAnyH_ready (rs := [1, 3]) (by kernel_rfl) (by simp) ?_
  refine AllReadyH.cons (o := ⟨some 15, _, _, _, _, _⟩) rfl (fun K hK => ?_) (AllReadyH.cons (o := ⟨some 17, _, _, _, _, _⟩) rfl (fun K hK => ?_) (AllReadyH.nil))
  · go_simp
    (go_at_call 90; (with_reducible refine Go.Calls.mono (CL.out _ B0.out) ?_); rintro e w5 ⟨o5, c5, rfl, ho5, _, hb5⟩; have b5 := Lib.hid (B0.out.trans (hb5.mono B0.out.size)); have O5 := Lib.hid (own_base (base' := w.heap.size) ho5 B0.out.size); have T5 := Lib.hid (T0.out.below hb5 T0.out.lt); clear ho5 hb5)
    refine hK.out _ _ ?_ (fun hHeld => ?_)
    · (try dsimp only)
      all_goals trivial
    clear hK K
    (try simp only [Act.put, List.setIfInBounds_toArray, List.set_cons_zero, List.set_cons_succ])
    refine wpAnyH_ready (rs := [3]) (by kernel_rfl) (by simp) ?_
    refine AllReadyH.cons (o := ⟨some 17, _, _, _, _, _⟩) rfl (fun K hK => ?_) (AllReadyH.nil)
    go_simp
    have bM := Lib.hid (b5.out.alloc b5.out.size (.cells (ints (List.replicate N 0)).toArray 2))
    have TM := Lib.hid (T5.out.alloc (.cells (ints (List.replicate N 0)).toArray 2))
    have DM := Lib.hid (Blk.new w5 2 (ints (List.replicate N 0)).toArray)
    obtain ⟨gD, hgD⟩ : ∃ g, g = w5.heap.size := ⟨_, rfl⟩
    rw [← hgD] at DM
    have GD : Hid (w.heap.size ≤ gD ∧ w.heap.size < gD) := Lib.hid (by have := T5.out.lt; have := b5.out.size; omega)
    have OM := Lib.hid (O5.out.alloc (.cells (ints (List.replicate N 0)).toArray 2))
    try rw [← hgD]
    clear hgD
    refine hK.out _ _ ?_ (fun hHeld => ?_)
    · (try dsimp only)
      all_goals trivial
    clear hK K
    generalize w5.alloc (.cells (ints (List.replicate N 0)).toArray 2) = wM at *
    (try simp only [Act.put, List.setIfInBounds_toArray, List.set_cons_zero, List.set_cons_succ])
    (refine wpAnyH_take (i := 4) (oi := ⟨some 18, _, _, _, _, _⟩) (v := ?v4_n3) rfl (by kernel_rfl) (by kernel_rfl) (by kernel_rfl) (fun _ _ _ h => h) (Or.inl ⟨by rfl, ?hy4_n3⟩) (by assumption) ?rest4_n3; (case hy4_n3 => ((intro w hSw); (try dsimp only at hSw); go_simp; first | done | (with_reducible rfl))))
    (try simp only [Act.put, List.setIfInBounds_toArray, List.set_cons_zero, List.set_cons_succ])
    refine wpAnyH_ready (rs := [5]) (by kernel_rfl) (by simp) ?_
    refine AllReadyH.cons (o := ⟨none, _, _, _, _, _⟩) rfl (fun K hK => ?_) (AllReadyH.nil)
    obtain ⟨p0, p1, _⟩ := blk2 TM.out
    have f0 := TM.out.frozen 0
    have f1 := TM.out.frozen 1
    go_simp
    refine hK.out _ _ ?_ (fun hHeld => ?_)
    · (try dsimp only)
      all_goals trivial
    clear hK K
    (try simp only [Act.put, List.setIfInBounds_toArray, List.set_cons_zero, List.set_cons_succ])
    (refine wpAnyH_take (i := 6) (oi := ⟨some 3, _, _, _, _, _⟩) (v := .int .i64 0) rfl (by kernel_rfl) (by kernel_rfl) (by kernel_rfl) (fun _ _ _ h => h) (Or.inl ⟨by rfl, ?hy6_n4⟩) (by assumption) ?rest6_n4; (case hy6_n4 => ((intro w hSw); (try dsimp only at hSw); go_simp; first | done | (with_reducible rfl))))
    (try simp only [Act.put, List.setIfInBounds_toArray, List.set_cons_zero, List.set_cons_succ])
    refine wpAnyH_done (by kernel_rfl) ?_ _
    have TT := Lib.hid ((TM.out.set_ 0 (.slice o5 s.length c5)).set_ 1 (.slice (some ⟨gD, 0, none⟩) N N))
    have OT := Lib.hid (own_two OM.out TM.out (by decide) (.slice o5 s.length c5) (.slice (some ⟨gD, 0, none⟩) N N))
    have DT := Lib.hid ((DM.out.far (p := ⟨w.heap.size, 0, none⟩) (by have := GD.out; show gD ≠ w.heap.size; omega) (.slice o5 s.length c5)).far (p := ⟨w.heap.size, 1, none⟩) (by have := GD.out; show gD ≠ w.heap.size; omega) (.slice (some ⟨gD, 0, none⟩) N N))
    have BT := Lib.hid ((bM.out.setCell (p := ⟨w.heap.size, 0, none⟩) (Nat.le_refl _) (.slice o5 s.length c5)).setCell (p := ⟨w.heap.size, 1, none⟩) (Nat.le_refl _) (.slice (some ⟨gD, 0, none⟩) N N))
    obtain ⟨q0, q1, _⟩ := blk2 TT.out
    go_wp2
    refine bodyPost_ret (v := .tuple #[.agg #[.slice o5 s.length c5, .slice (some ⟨gD, 0, none⟩) N N], .int .i64 0]) (by simp [results, Try.results55, go_sem, q0, q1]) rfl ?_
    exact noughts_end OT.out DT.out GD.out.1 BT.out HN.out
  · go_simp
    have bM := Lib.hid (B0.out.alloc B0.out.size (.cells (ints (List.replicate N 0)).toArray 2))
    have TM := Lib.hid (T0.out.alloc (.cells (ints (List.replicate N 0)).toArray 2))
    have DM := Lib.hid (Blk.new wd 2 (ints (List.replicate N 0)).toArray)
    obtain ⟨gD, hgD⟩ : ∃ g, g = wd.heap.size := ⟨_, rfl⟩
    rw [← hgD] at DM
    have GD : Hid (w.heap.size ≤ gD ∧ w.heap.size < gD) := Lib.hid (by have := T0.out.lt; have := B0.out.size; omega)
    try rw [← hgD]
    clear hgD
    refine hK.out _ _ ?_ (fun hHeld => ?_)
    · (try dsimp only)
      all_goals trivial
    clear hK K
    generalize wd.alloc (.cells (ints (List.replicate N 0)).toArray 2) = wM at *
    (try simp only [Act.put, List.setIfInBounds_toArray, List.set_cons_zero, List.set_cons_succ])
    refine wpAnyH_ready (rs := [1]) (by kernel_rfl) (by simp) ?_
    refine AllReadyH.cons (o := ⟨some 15, _, _, _, _, _⟩) rfl (fun K hK => ?_) (AllReadyH.nil)
    go_simp
    (go_at_call 90; (with_reducible refine Go.Calls.mono (CL.out _ bM.out) ?_); rintro e w5 ⟨o5, c5, rfl, ho5, _, hb5⟩; have b5 := Lib.hid (bM.out.trans (hb5.mono bM.out.size)); have O5 := Lib.hid (own_base (base' := w.heap.size) ho5 bM.out.size); have T5 := Lib.hid (TM.out.below hb5 TM.out.lt); have D5 := Lib.hid (DM.out.below hb5 DM.out.lt); clear ho5 hb5)
    refine hK.out _ _ ?_ (fun hHeld => ?_)
    · (try dsimp only)
      all_goals trivial
    clear hK K
    (try simp only [Act.put, List.setIfInBounds_toArray, List.set_cons_zero, List.set_cons_succ])
    (refine wpAnyH_take (i := 4) (oi := ⟨some 18, _, _, _, _, _⟩) (v := ?v4_n5) rfl (by kernel_rfl) (by kernel_rfl) (by kernel_rfl) (fun _ _ _ h => h) (Or.inl ⟨by rfl, ?hy4_n5⟩) (by assumption) ?rest4_n5; (case hy4_n5 => ((intro w hSw); (try dsimp only at hSw); go_simp; first | done | (with_reducible rfl))))
    (try simp only [Act.put, List.setIfInBounds_toArray, List.set_cons_zero, List.set_cons_succ])
    refine wpAnyH_ready (rs := [5]) (by kernel_rfl) (by simp) ?_
    refine AllReadyH.cons (o := ⟨none, _, _, _, _, _⟩) rfl (fun K hK => ?_) (AllReadyH.nil)
    obtain ⟨p0, p1, _⟩ := blk2 T5.out
    have f0 := T5.out.frozen 0
    have f1 := T5.out.frozen 1
    go_simp
    refine hK.out _ _ ?_ (fun hHeld => ?_)
    · (try dsimp only)
      all_goals trivial
    clear hK K
    (try simp only [Act.put, List.setIfInBounds_toArray, List.set_cons_zero, List.set_cons_succ])
    (refine wpAnyH_take (i := 6) (oi := ⟨some 3, _, _, _, _, _⟩) (v := .int .i64 0) rfl (by kernel_rfl) (by kernel_rfl) (by kernel_rfl) (fun _ _ _ h => h) (Or.inl ⟨by rfl, ?hy6_n6⟩) (by assumption) ?rest6_n6; (case hy6_n6 => ((intro w hSw); (try dsimp only at hSw); go_simp; first | done | (with_reducible rfl))))
    (try simp only [Act.put, List.setIfInBounds_toArray, List.set_cons_zero, List.set_cons_succ])
    refine wpAnyH_done (by kernel_rfl) ?_ _
    have TT := Lib.hid ((T5.out.set_ 0 (.slice o5 s.length c5)).set_ 1 (.slice (some ⟨gD, 0, none⟩) N N))
    have OT := Lib.hid (own_two O5.out T5.out (by decide) (.slice o5 s.length c5) (.slice (some ⟨gD, 0, none⟩) N N))
    have DT := Lib.hid ((D5.out.far (p := ⟨w.heap.size, 0, none⟩) (by have := GD.out; show gD ≠ w.heap.size; omega) (.slice o5 s.length c5)).far (p := ⟨w.heap.size, 1, none⟩) (by have := GD.out; show gD ≠ w.heap.size; omega) (.slice (some ⟨gD, 0, none⟩) N N))
    have BT := Lib.hid ((b5.out.setCell (p := ⟨w.heap.size, 0, none⟩) (Nat.le_refl _) (.slice o5 s.length c5)).setCell (p := ⟨w.heap.size, 1, none⟩) (Nat.le_refl _) (.slice (some ⟨gD, 0, none⟩) N N))
    obtain ⟨q0, q1, _⟩ := blk2 TT.out
    go_wp2
    refine bodyPost_ret (v := .tuple #[.agg #[.slice o5 s.length c5, .slice (some ⟨gD, 0, none⟩) N N], .int .i64 0]) (by simp [results, Try.results55, go_sem, q0, q1]) rfl ?_
    exact noughts_end OT.out DT.out GD.out.1 BT.out HN.out
end Go.Proofs.Ytnlfljekbknaaaa
namespace Go.Proofs.Ytnlfljekbknaaaa
open Go Go.RowKit Go.Shelf

theorem setrow_grown (W : World) (g : Nat) (cs : Array Value) : W.grownBy (W.setRow g cs) (some g) :=
  ⟨rfl, rfl, rfl, by simp [World.setRow], fun j _ hne => setRow_other W g j cs (fun e => hne (by rw [e]))⟩
theorem setrow_blk {W : World} {g : Nat} {t : TypeId} {old : Array Value} (h : Blk W g t old) (cs : Array Value) : Blk (W.setRow g cs) g t cs := setRow_heap W g old cs t (0, 0) h
theorem setrow_below {w W : World} {m g : Nat} (h : Below m w W) (hm : m ≤ g) (hs : m ≤ w.heap.size) (cs : Array Value) : Below m w (W.setRow g cs) :=
  h.grown (setrow_grown W g cs) (Nat.le_trans hs h.size) (fun k e => by cases e; exact hm)
theorem there_of {W : World} {b o n : Nat} {t : TypeId} {cs : Array Value} (h : Blk W b t cs) (hn : o + n ≤ cs.size) : W.there b o n := fun j hj => by
  have e : W.cell? ⟨b, o + j, none⟩ = cs[o + j]? := h.cell (o + j)
  refine ⟨?_, h.frozen (o + j)⟩
  rw [e, Array.getElem?_eq_getElem (by omega)]; rfl
theorem range_of {W : World} {b o : Nat} {t : TypeId} {cs : Array Value} {vs : List Value} (h : Blk W b t cs) (e : (cs.toList.drop o).take vs.length = vs) : W.rangeAt b o vs := fun j v hj => by
  have hc : W.cell? ⟨b, o + j, none⟩ = cs[o + j]? := h.cell (o + j)
  rw [hc]
  rw [← e, List.getElem?_take] at hj
  split at hj
  · rw [List.getElem?_drop] at hj
    simpa using hj
  · simp at hj
theorem yields_row {P : Program} {ops : Array Oper} {S : World → Prop} {op : Oper} {a : Act} (hw : Region.wanted op (yielded ops a.tmps) = true) (ty : TypeId) (x : Operand) (ho : op.op = .load ty x)
    (g : Nat) (hx : a.eval x = .pointer (some ⟨g, 0, none⟩)) (t : TypeId) (cs : Array Value) (d : TypeDesc) (hS : ∀ w, S w → Blk w g t cs)
    (hu : P.underlying ty = some d) (hd : (match d with | .struct _ | .array _ _ => true | _ => false) = true) (hi : (P.info? ty).map (·.size) = some cs.size) : YieldsIf P ops S op (.agg cs) a :=
  .inl ⟨hw, fun w hw' => by
    unfold execOp
    simp only [ho, hx, Instr.loadAt, Instr.sureAddr, Sem.run_bind, Sem.run_pure, Result.andThen_ok, run_loadVar_row w g t ty cs _ d (hS w hw') hu hd hi]⟩
theorem result_row {fn : Func} {p u : Tmp} {ty t : TypeId} {P : Program} {W : World} {g : Nat} {cs : Array Value} {d : TypeDesc} (tmps : Array Value) (v : Value) (h : fn.results = #[.cell p ty, .tmp u])
    (hp : tmps.getD p undef = .pointer (some ⟨g, 0, none⟩)) (hv : tmps.getD u undef = v) (hb : Blk W g t cs)
    (hd : d.isRow = true) (hu : P.underlying ty = some d) (hi : (P.info? ty).map (·.size) = some cs.size) :
    (results fn tmps).run P W = .ok (.tuple #[.agg cs, v]) W := by
  rw [results_cell_tmp h, hp, hv]
  have hl := run_loadVar_row (P := P) W g t ty cs (0, 0) d hb hu (by cases d <;> simp_all [TypeDesc.isRow]) hi
  simp [asAddr, Result.andThen, hl]
/-- What an array reads as when cells from o on were written over. -/
def setsA (cs : Array Value) : Nat → List Value → Array Value
  | _, [] => cs
  | o, v :: vs => setsA (cs.setIfInBounds o v) (o + 1) vs
theorem sets_blk {b : Nat} {t : TypeId} : ∀ (vs : List Value) {W : World} {o : Nat} {cs : Array Value}, Blk W b t cs → Blk (W.setCells b o vs) b t (setsA cs o vs)
  | [], _, _, _, h => h
  | v :: vs, _, o, _, h => sets_blk vs (h.set_ o v)
theorem sets_far {b B : Nat} {t : TypeId} {cs : Array Value} (hne : B ≠ b) : ∀ (vs : List Value) {W : World} {o : Nat}, Blk W B t cs → Blk (W.setCells b o vs) B t cs
  | [], _, _, h => h
  | v :: vs, _, o, h => sets_far hne vs (h.far (p := ⟨b, o, none⟩) hne v)
theorem sets_below {w : World} {b m : Nat} (hm : m ≤ b) : ∀ (vs : List Value) {W : World} {o : Nat}, Below m w W → Below m w (W.setCells b o vs)
  | [], _, _, h => h
  | v :: vs, _, o, h => sets_below hm vs (h.setCell (p := ⟨b, o, none⟩) hm v)
theorem sets_own {b base n : Nat} {t e : TypeId} {us : Value} {xs : List Value} (ht : e ≠ t) : ∀ (vs : List Value) {W : World} {o : Nat} {cs : Array Value}, Blk W b t cs → W.ownsRow base e 1 us n xs → (W.setCells b o vs).ownsRow base e 1 us n xs
  | [], _, _, _, _, h => h
  | v :: vs, _, o, _, hb, h => sets_own ht vs (hb.set_ o v) (own_setx h hb ht)
theorem sets_size (b : Nat) : ∀ (vs : List Value) (W : World) (o : Nat), (W.setCells b o vs).heap.size = W.heap.size
  | [], _, _ => rfl
  | v :: vs, W, o => by
    show ((W.setCell ⟨b, o, none⟩ v).setCells b (o + 1) vs).heap.size = _
    rw [sets_size b vs]; simp
theorem setsA_12_0 (c0 c1 c2 c3 c4 c5 c6 c7 c8 c9 c10 c11 v0 v1 v2 v3 v4 v5 : Value) : setsA #[c0, c1, c2, c3, c4, c5, c6, c7, c8, c9, c10, c11] 0 [v0, v1, v2, v3, v4, v5] = #[v0, v1, v2, v3, v4, v5, c6, c7, c8, c9, c10, c11] := rfl
theorem setsA_12_6 (c0 c1 c2 c3 c4 c5 c6 c7 c8 c9 c10 c11 v0 v1 v2 v3 v4 v5 : Value) : setsA #[c0, c1, c2, c3, c4, c5, c6, c7, c8, c9, c10, c11] 6 [v0, v1, v2, v3, v4, v5] = #[c0, c1, c2, c3, c4, c5, v0, v1, v2, v3, v4, v5] := rfl
theorem setsA_16_4 (c0 c1 c2 c3 c4 c5 c6 c7 c8 c9 c10 c11 c12 c13 c14 c15 v0 v1 v2 v3 v4 v5 : Value) : setsA #[c0, c1, c2, c3, c4, c5, c6, c7, c8, c9, c10, c11, c12, c13, c14, c15] 4 [v0, v1, v2, v3, v4, v5] = #[c0, c1, c2, c3, v0, v1, v2, v3, v4, v5, c10, c11, c12, c13, c14, c15] := rfl
theorem setsA_16_10 (c0 c1 c2 c3 c4 c5 c6 c7 c8 c9 c10 c11 c12 c13 c14 c15 v0 v1 v2 v3 v4 v5 : Value) : setsA #[c0, c1, c2, c3, c4, c5, c6, c7, c8, c9, c10, c11, c12, c13, c14, c15] 10 [v0, v1, v2, v3, v4, v5] = #[c0, c1, c2, c3, c4, c5, c6, c7, c8, c9, v0, v1, v2, v3, v4, v5] := rfl
end Go.Proofs.Ytnlfljekbknaaaa
