/-
  ShapeAll's count of what All tells.
-/
import Derived.Test.YteplhlmdaabpaaaShA
import Derived.Test.YteplhlmdaabpaaaSm
import Derived.Test.YteplhlmdaabpaaaSq
namespace Go.Proofs.Yteplhlmdaabpaaa
open Go.RowKit Go.Shelf
attribute [local go_sem] Oper.semAt_some

/-- A contract within a round. -/
theorem in_round {n l : Nat} {P : Program} {f : FuncId} {args : Array Value} {w : World} {R : Ending → World → Prop} (h : Calls P f args w R) : CallsIn (Fence.wide.inRound l) n P f args w R := (callsIn_wide (n := n)).2 h

theorem keeps_below {B : Nat} {W W' : World} (h : Below W.heap.size W W') : KeepsFrom B W W' := ⟨h.size, fun k _o _ hk _ => (h.block k (Array.getElem?_eq_some_iff.1 hk).1).trans hk⟩
theorem keeps_blk {B g : Nat} {W W' : World} {t : TypeId} {cs : Array Value} (h : W.grownBy W' (some g)) (hb : Blk W g t cs) : KeepsFrom B W W' :=
  ⟨h.size, fun k o _ hk ho => by
    by_cases e : k = g
    · subst e
      rw [show W.heap[k]? = _ from hb] at hk
      cases hk
      cases ho
    · exact (h.block k (Array.getElem?_eq_some_iff.1 hk).1 (by intro e2; cases e2; exact e rfl)).trans hk⟩
theorem keepA_blk {n1 n0 g : Nat} {W W' : World} (h : W.grownBy W' (some g)) (hg : n0 ≤ g) (hn : n0 ≤ W.heap.size) : KeepA n1 n0 W W' := fun k _ hk => h.block k (by omega) (by intro e; cases e; omega)
theorem keepA_set {n1 n0 : Nat} {W : World} {p : Addr} (u : Value) (hp : p.block < n1) : KeepA n1 n0 W (W.setCell p u) := fun k hk _ => Below.heap_setCell W p u k (by omega)
theorem run_equalIn_fn_nil {P : Program} (w : World) (d : Nat) (t : TypeId) (f : Fn) (xs ys : Array Value) (h : ∃ a b c, P.underlying t = some (.func a b c)) : (Op.equalIn (d + 1) t (.func f xs ys) .nilFunc).run P w = .ok false w := by
  obtain ⟨a, b, c, h⟩ := h
  simp [Op.equalIn, run_underlying h]
theorem run_eql_fn_nil {P : Program} (w : World) (t : TypeId) (f : Fn) (xs ys : Array Value) (h : ∃ a b c, P.underlying t = some (.func a b c)) : (binOp .eql t (.func f xs ys) .nilFunc).run P w = .ok (.bool false) w := by
  simp only [binOp]
  simp [Op.equal, Op.maxDepth, run_equalIn_fn_nil w 9999 t f xs ys h]

/-- gone's own variables: the shape, the bound, the answer, how many. -/
def Vars (W : World) (B : Nat) (v : Value) (m a n : Int) : Prop := Boxed W B 23 v ∧ Boxed W (B + 1) 3 (.int .i64 m) ∧ Boxed W (B + 2) 3 (.int .i64 a) ∧ Boxed W (B + 3) 3 (.int .i64 n)
theorem Vars.grown {W W' : World} {B g : Nat} {v : Value} {m a n : Int} (h : Vars W B v m a n) (hg : W.grownBy W' (some g)) (hB : B + 3 < g) : Vars W' B v m a n :=
  ⟨h.1.kept hg (by intro e; cases e; omega), h.2.1.kept hg (by intro e; cases e; omega), h.2.2.1.kept hg (by intro e; cases e; omega), h.2.2.2.kept hg (by intro e; cases e; omega)⟩
theorem Vars.put {W : World} {B : Nat} {v : Value} {m a n : Int} (h : Vars W B v m a n) (n' : Int) : Vars (W.setCell ⟨B + 3, 0, none⟩ (.int .i64 n')) B v m a n' :=
  ⟨h.1.other (by omega) _, h.2.1.other (by omega) _, h.2.2.1.other (by omega) _, h.2.2.2.set _⟩
theorem vars_own {β : Type} (B : Nat) (v : Value) (m a : Int) (f : β → Int) : Own (fun s W => Vars W B v m a (f s)) := fun s X Y row hs hg hr =>
  ⟨boxed_own B _ (fun _ => v) s X Y row hs.1 hg hr, boxed_own (B + 1) _ (fun _ => .int .i64 m) s X Y row hs.2.1 hg hr, boxed_own (B + 2) _ (fun _ => .int .i64 a) s X Y row hs.2.2.1 hg hr, boxed_own (B + 3) _ (fun s => .int .i64 (f s)) s X Y row hs.2.2.2 hg hr⟩
theorem Vars.on {W W' : World} {B : Nat} {v : Value} {m a n : Int} (h : Vars W B v m a n) (hb : Below W.heap.size W W') : Vars W' B v m a n :=
  ⟨box_on h.1 hb, box_on h.2.1 hb, box_on h.2.2.1 hb, box_on h.2.2.2 hb⟩

set_option maxRecDepth 100000 in
set_option maxHeartbeats 8000000 in
theorem gone_any (v : Value) (ls : List Int) (m : Nat) (w : World) (hv : Ld w v ls) (ll : ls.length ≤ 12) (hm : m ≤ 65537) (N : Nat) (hN : N = (if may ls then (prod ls).toNat else 0)) :
    Calls Try.prog 31 #[v, .int .i64 m] w fun e w' => e = .returned (.int .i64 ((min m N : Nat) : Int)) ∧ Below w.heap.size w w' := by
  have hNm : 0 < N → may ls = true ∧ prod ls = N := by
    intro h
    cases hmay : may ls with
    | false => rw [hmay] at hN; simp at hN; omega
    | true => rw [hmay] at hN; have := may_prod hmay; simp at hN; exact ⟨rfl, by omega⟩
  have hN6 : N ≤ 65536 := by
    rcases Nat.eq_zero_or_pos N with h | h
    · omega
    · obtain ⟨a, b⟩ := hNm h; have := may_prod a; omega
  have b4 : ∀ o1 o2 o3 o4 : Obj, Below w.heap.size w ((((w.alloc o1).alloc o2).alloc o3).alloc o4) := fun o1 o2 o3 o4 => ((((Below.refl _ _).alloc (Nat.le_refl _) _).alloc (by simp) _).alloc (by simp; omega) _).alloc (by simp; omega) _
  have KP := Lib.hid (fun (o1 o2 o3 o4 : Obj) => copy_any v ls _ (hv.below (b4 o1 o2 o3 o4)) (by omega))
  have B4 := Lib.hid b4
  clear b4
  have KA : Hid (∀ (W : World) (o : Option Addr) (c base : Nat), W.ownsRow base 3 1 (.slice o ls.length c) ls.length (ints ls) → Ld W (.slice o ls.length c) ls → Calls Try.prog 39 #[.slice o ls.length c] W (SomeAll W N ls)) := fun W o c base h1 h2 => by
    have := all_any o c base ls W h1 h2 (by omega)
    rw [hN]
    cases hmay : may ls with
    | false => rw [hmay] at this; simpa using this
    | true =>
      rw [hmay] at this
      have hp := may_prod hmay
      have e : ((prod ls).toNat : Int) = prod ls := by omega
      simpa [e] using this
  have HV := Lib.hid hv
  have HNM := Lib.hid hNm
  have HNN := Lib.hid hN
  obtain ⟨o, c, rfl, _, _⟩ := id hv
  clear hv hNm hN
  have EF : ∀ (W : World) (xs ys : Array Value), (binOp .eql 57 (.func (.func 42) xs ys) .nilFunc).run Try.prog W = .ok (.bool false) W := fun W xs ys => run_eql_fn_nil W _ _ xs ys ⟨_, _, _, Try.underlying57⟩
  refine (callsIn_wide (n := 9)).1 ?_
  refine callsIn_of_wp_marks Try.func31 rfl trivial ?_
  simp only [Try.ntmps31, List.size_toArray, List.length_cons, List.length_nil, Nat.reduceAdd, Nat.reduceSub, Array.replicate_succ, Array.replicate_zero, List.push_toArray, List.append_toArray, List.nil_append, List.cons_append]
  refine wpIn_wide.2 ?_
  go_wp2_with (first | (go_at_call 15; (with_reducible refine (KP.out _ _ _ _).mono ?_); rintro e w2 ⟨o2, c2, rfl, ho2, hl2, hb2⟩; replace ho2 := Lib.hid ho2; replace hl2 := Lib.hid hl2) | (go_at_call 39; (with_reducible refine (KA.out _ _ _ _ ho2.out hl2.out).mono ?_); rintro e w3 ⟨B1, B2, o3, c3, rfl, hbox, hB1, hB2, hin, hb3⟩))
  have V4 : Vars ((((w.alloc (.cells #[.slice o ls.length c] 23)).alloc (.cells #[.int .i64 m] 3)).alloc (.cells #[.int .i64 0] 3)).alloc (.cells #[.int .i64 0] 3)) w.heap.size (.slice o ls.length c) m 0 0 := by
    refine ⟨(((Boxed.new w _ _).alloc _).alloc _).alloc _, ?_, ?_, ?_⟩
    · have := ((Boxed.new (w.alloc (.cells #[.slice o ls.length c] 23)) 3 (.int .i64 m)).alloc (.cells #[.int .i64 0] 3)).alloc (.cells #[.int .i64 0] 3)
      rwa [World.size_alloc] at this
    · have := (Boxed.new ((w.alloc (.cells #[.slice o ls.length c] 23)).alloc (.cells #[.int .i64 m] 3)) 3 (.int .i64 0)).alloc (.cells #[.int .i64 0] 3)
      rwa [World.size_alloc, World.size_alloc] at this
    · have := Boxed.new (((w.alloc (.cells #[.slice o ls.length c] 23)).alloc (.cells #[.int .i64 m] 3)).alloc (.cells #[.int .i64 0] 3)) 3 (.int .i64 0)
      rwa [World.size_alloc, World.size_alloc, World.size_alloc] at this
  have V3 := (V4.on hb2).on hb3
  have hs2 := hb2.size
  have hs3 := hb3.size
  rw [World.size_alloc, World.size_alloc, World.size_alloc, World.size_alloc] at hs2
  have BW3 : Below w.heap.size w w3 := ((B4.out _ _ _ _).trans (hb2.mono (by simp; omega))).trans (hb3.mono (by omega))
  have lb1 := hbox.1.lt
  have lb2 := hbox.2.1.lt
  have hld3 := hbox.2.2
  have TO := Lib.hid (all_told B1 B2 (w.heap.size + 4) w3.heap.size N o3 c3 ls hN6 HNM.out w3 hbox lb1 lb2 (by omega) (Nat.le_refl _) (fun i hi => by
    obtain ⟨b, f, e1, e2⟩ := hin i hi
    obtain ⟨o', c', e3, _, hx⟩ := hld3
    obtain ⟨b', f', e4, e5, _⟩ := hx i hi
    simp only [Value.slice.injEq] at e3
    obtain ⟨rfl, _, rfl⟩ := e3
    rw [e1] at e4
    simp only [Option.some.injEq, Addr.mk.injEq, and_true] at e4
    exact ⟨b, f, e1, by omega, by omega⟩))
  clear hbox hld3 hin V4 hb2 hb3 ho2 hl2 KP KA B4
  refine (wpIn_wide (n := 9)).1 ?_
  refine wpIn_rangeFunc_told (F := Fence.wide) (n := 9) rfl (by decide) (gf := 42) (lb := #[.pointer (some ⟨B1, 0, none⟩), .pointer (some ⟨B2, 0, none⟩)]) rfl trivial (enters_of Try.func42 (by kernel_rfl) rfl)
    TO.out KeepA.trans (KeepA.put (Nat.le_refl _)) (fun _ => rfl)
    (fun pre W => Vars W w.heap.size (.slice o ls.length c) m 0 (pre.length : Nat) ∧ pre.length ≤ m ∧ w3.heap.size ≤ W.heap.size ∧ Below w.heap.size w W)
    (fun cd pre W => cd = .exit 0 ∧ Vars W w.heap.size (.slice o ls.length c) m 0 m ∧ pre.length = m + 1 ∧ Below w.heap.size w W)
    ?ownI ?ownX ?ownT ⟨V3, Nat.zero_le _, Nat.le_refl _, BW3⟩ ?a1 ?assign ?body ?done ?stop
  case ownI => exact OwnFrom.and (Own.from (vars_own _ _ _ _ (fun pre : List (Nat × Nat) => ((pre.length : Nat) : Int))) _) (OwnFrom.and (fun _ _ _ _ h _ _ => h) (OwnFrom.and (fun _ _ _ _ h hg _ => Nat.le_trans h hg.size) (ownFrom_below (Nat.le_refl _) (by omega))))
  case ownX => exact fun cd => OwnFrom.and (fun _ _ _ _ h _ _ => h) (OwnFrom.and (Own.from (vars_own _ _ _ _ (fun _ => (m : Int))) _) (OwnFrom.and (fun _ _ _ _ h _ _ => h) (ownFrom_below (Nat.le_refl _) (by omega))))
  case ownT => exact fun pre x => OwnFrom.and (fun _ _ _ _ h _ _ => h) (OwnFrom.and (fun _ _ _ _ h _ _ => h) (Own.from (blk_own _ _ (fun _ => _)) _))
  case assign =>
    intro l x W K hK
    unfold apr
    gi_wp2
    exact hK
  case body =>
    rintro l pre x W ⟨hv, hpm, hsz, hBW⟩ hlt ⟨hx1, hx3, hx2⟩
    obtain ⟨xn, xg⟩ := x
    simp only at hx1 hx2 hx3
    subst hx1
    have c0 := hv.1.cell
    have c1 := hv.2.1.cell
    have c3 := hv.2.2.2.cell
    have f3 := hv.2.2.2.frozen
    have hle : pre.length ≤ 65536 := by omega
    by_cases g : pre.length = m
    · have VV0 := hv
      rw [g] at VV0
      have VV := Lib.hid VV0
      have HP2 : Hid ((pre ++ [(pre.length, xg)]).length = m + 1) := by rw [Hid]; simp [g]
      have g' : ((pre.length : Int) == (m : Int)) = true := by rw [beq_iff_eq]; omega
      clear hx2 hx3 g VV0 hv
      gi_wp2
      exact ⟨KeepsFrom.refl _ _, rfl, VV.out, HP2.out, hBW⟩
    · have g' : ((pre.length : Int) == (m : Int)) = false := by rw [beq_eq_false_iff_ne]; omega
      obtain ⟨hm1, hm2⟩ := HNM.out (by omega)
      have hldW := HV.out.below hBW
      have hp1 := may_prod hm1
      have KM := Lib.hid (rmay_any _ ls W hldW (by omega))
      rw [hm1] at KM
      have KQ := Lib.hid (rat_any _ ls (pre.length : Nat) W hldW hm1 (by omega) (by omega))
      have BX := Lib.hid hx2
      have VV := Lib.hid hv
      have HQ := Lib.hid g
      clear hx2 hv g hldW
      gi_wp2
      refine ⟨trivial, (in_round KM.out).mono ?_⟩
      rintro e w' ⟨rfl, rfl⟩
      gi_wp2
      refine ⟨trivial, (in_round KQ.out).mono ?_⟩
      rintro e w5 ⟨v5, rfl, hv5, hb5⟩
      have BX5 := Lib.hid (BX.out.on hb5)
      have KE := Lib.hid (eqn_any _ v5 _ _ w5 (ld_len BX5.out (atl_len _ _)) hv5 (by rw [atl_len]; omega) (by rw [atl_len]; omega))
      rw [show decide (atl ls (pre.length : Nat) = atl ls (pre.length : Nat)) = true by simp] at KE
      clear c0 c1 c3 f3 hv5
      gi_wp2
      refine ⟨trivial, (in_round KE.out).mono ?_⟩
      rintro e w6 ⟨rfl, hb6⟩
      have BX6 := Lib.hid (BX5.out.on hb6)
      have KN := Lib.hid (numbers_len BX6.out (atl_len _ _) (by omega))
      gi_wp2
      refine ⟨trivial, (in_round KN.out).mono ?_⟩
      rintro e w7 ⟨rfl, hb7⟩
      have V6 := (VV.out.on hb5).on hb6
      have V7 := V6.grown hb7 (by omega)
      have c7 := V7.2.2.2.cell
      have f7 := V7.2.2.2.frozen
      have hs5 := hb5.size
      have hs6 := hb6.size
      have hs7 := hb7.size
      have V8 := Lib.hid (V7.put ((pre.length : Int) + 1))
      have B56 := hb5.trans (hb6.mono hs5)
      have K8 := Lib.hid ((((keeps_below B56).trans (keeps_blk hb7 BX6.out)).trans ((KeepsOthers.setCell w7 ⟨w.heap.size + 3, 0, none⟩ (.int .i64 ((pre.length : Int) + 1))).from w3.heap.size)))
      have A8 := Lib.hid (((KeepA.below (n1 := w.heap.size + 4) (n0 := w3.heap.size) B56 hsz).trans (keepA_blk hb7 hx3 (by omega))).trans (keepA_set (W := w7) (p := ⟨w.heap.size + 3, 0, none⟩) (.int .i64 ((pre.length : Int) + 1)) (by show w.heap.size + 3 < _; omega)))
      have W8 := Lib.hid ((((hBW.trans (B56.mono hBW.size)).grown hb7 (by omega) (fun k e => by cases e; omega)).setCell (p := ⟨w.heap.size + 3, 0, none⟩) (by show w.heap.size ≤ w.heap.size + 3; omega) (.int .i64 ((pre.length : Int) + 1))))
      clear V6 V7 hb5 hb6 hb7 B56
      gi_wp2
      refine ⟨K8.out, A8.out, ?_, ?_, ?_, W8.out⟩
      · have := V8.out; simpa using this
      · have := HQ.out; simp; omega
      · simp; omega
  case done =>
    rintro D ys W hD hys ⟨hv, hpm, hsz, hBW⟩ hK
    have c3 := hv.2.2.2.cell
    have c2 := hv.2.2.1.cell
    have f2 := hv.2.2.1.frozen
    have HYS := Lib.hid hys
    have hK2 : (W.setCell ⟨w.heap.size + 2, 0, none⟩ (.int .i64 (ys.length : Nat))).heap[D]? = some (.deferred (some [])) := (Below.heap_setCell _ _ _ _ (by show D ≠ w.heap.size + 2; omega)).trans hK
    have hc := ((hv.2.2.1.set (.int .i64 (ys.length : Nat))).kept (grownBy_putObj' _ D (.deferred none)) (by intro e; cases e; omega)).cell
    have hfin := (hBW.setCell (p := ⟨w.heap.size + 2, 0, none⟩) (by show w.heap.size ≤ w.heap.size + 2; omega) (.int .i64 (ys.length : Nat))).trans (belowK_b (w := w) (Nat.le_refl _) _ D _ (.deferred none) (by omega) hK2 rfl rfl)
    clear hys
    go_wp2
    refine ⟨by simp, .inl ⟨_, _, rfl, run_takeDeferred hK2, ?_⟩⟩
    refine ⟨.int .i64 (ys.length : Nat), by simp [results, Try.results31, go_sem, hc], ?_, hfin⟩
    have : min m N = ys.length := by have := HYS.out; omega
    rw [this]
  case stop =>
    rintro D cd pre W hD hpre ⟨rfl, hv, hpm, hBW⟩ hK
    have c3 := hv.2.2.2.cell
    have c2 := hv.2.2.1.cell
    have f2 := hv.2.2.1.frozen
    have hK2 : (W.setCell ⟨w.heap.size + 2, 0, none⟩ (.int .i64 (m : Nat))).heap[D]? = some (.deferred (some [])) := (Below.heap_setCell _ _ _ _ (by show D ≠ w.heap.size + 2; omega)).trans hK
    have hc := ((hv.2.2.1.set (.int .i64 (m : Nat))).kept (grownBy_putObj' _ D (.deferred none)) (by intro e; cases e; omega)).cell
    have hfin := (hBW.setCell (p := ⟨w.heap.size + 2, 0, none⟩) (by show w.heap.size ≤ w.heap.size + 2; omega) (.int .i64 (m : Nat))).trans (belowK_b (w := w) (Nat.le_refl _) _ D _ (.deferred none) (by omega) hK2 rfl rfl)
    have HMN : Hid (min m N = m) := by rw [Hid]; omega
    clear hpm
    gi_wp2
    go_wp2
    refine ⟨by simp, .inl ⟨_, _, rfl, run_takeDeferred hK2, ?_⟩⟩
    refine ⟨.int .i64 (m : Nat), by simp [results, Try.results31, go_sem, hc], ?_, hfin⟩
    rw [HMN.out]
end Go.Proofs.Yteplhlmdaabpaaa
