/-
  shape.All: the copy, the function value.
-/
import Derived.Test.YteplhlmdaabpaaaSk
import Derived.Test.YteplhlmdaabpaaaSd
import Derived.Test.YteplhlmdaabpaaaShRt
import Derived.WalkSpells
import Derived.Lib.SliceRun
namespace Go.Proofs.Yteplhlmdaabpaaa
open Go.RowKit Go.Shelf
attribute [local go_sem] Oper.semAt_some

set_option maxRecDepth 100000 in
set_option maxHeartbeats 4000000 in
theorem clone_any (o : Option Addr) (c base : Nat) (ls : List Int) (w : World) (h : w.ownsRow base 3 1 (.slice o ls.length c) ls.length (ints ls)) (ll : ls.length ≤ 65536) :
    Calls Try.prog 41 #[.slice o ls.length c] w (SomeC w ls) := by
  obtain ⟨i0, hi0, hz0, hz1, hz2⟩ := info_parts infoI
  rcases h.2 with ⟨hv, h0⟩ | ⟨g, cap, cur, hv, _, hh, hc, _, _, _⟩
  · simp only [Value.slice.injEq] at hv
    obtain ⟨rfl, h1, rfl⟩ := hv
    obtain rfl : ls = [] := List.eq_nil_of_length_eq_zero h1
    simp only [List.length_nil] at *
    clear h h0
    have en : (binOp .eql 23 (.slice none 0 0) (.slice none 0 0)).run Try.prog w = .ok (.bool true) w := Lib.run_eql_slice_nil w 23 3 none 0 0 0 0 Try.underlying23
    go_enter Try.func41, Try.ntmps41
    go_wp2
    go_ret
    exact ⟨none, 0, rfl, World.ownsRow_nil _ _ _ _, Ld.nil _, Below.refl _ _⟩
  · simp only [Value.slice.injEq, true_and] at hv
    obtain ⟨rfl, rfl⟩ := hv
    have en : (binOp .eql 23 (.slice (some ⟨g, 0, none⟩) ls.length c) (.slice none 0 0)).run Try.prog w = .ok (.bool false) w := Lib.run_eql_slice_nil w 23 3 (some ⟨g, 0, none⟩) ls.length c 0 0 Try.underlying23
    go_enter Try.func41, Try.ntmps41
    have hg : g < w.heap.size := (Array.getElem?_eq_some_iff.1 hh).1
    have H := Lib.hid h
    have HB := Lib.hid (Blk.owns (ls := []) (base := w.heap.size) (Blk.new w 3 _) (Nat.le_refl _) (by decide))
    clear h hh
    go_wp2_with (at_builtin; refine wpList_append_own _ rfl _ _ 23 rfl w.heap.size 3 i0 (.int .i64 0) 1 8 Try.underlying23 hi0 hz0 hz1 hz2 rfl (by decide) _ 0 [] rfl HB.out ⟨g, 0, none⟩ ls.length c (ints ls) rfl ?c0 ?c1 ?c2 ?c3 ?c4 ?c5 ?_)
    case c0 => simp [ints]
    case c1 =>
      intro j u hu
      rw [World.cell?_alloc_lt w _ _ (by rw [show ((⟨g, 0, none⟩ : Addr).add j).block = g by unfold Addr.add; split <;> rfl]; exact hg)]
      exact H.out.cells (g := g) rfl j u hu
    case c2 => simp [ints, Value.oneCell']
    case c3 => unfold maxLen; omega
    case c4 => omega
    case c5 => simp
    intro v' w9 hown1 hgrow _
    have hown1 : w9.ownsRow w.heap.size 3 1 v' ls.length (ints ls) := by simpa using hown1
    have hB9 : Below w.heap.size w w9 := ((Below.refl _ _).alloc (Nat.le_refl _) _).grown hgrow (by simp) (fun k e => by simp [Value.ownBlock] at e; omega)
    obtain ⟨o2, c2, rfl, hld⟩ := Ld.of_owns hown1
    have H1 := Lib.hid (And.intro hown1 (And.intro hld hB9))
    clear hown1 hld hgrow hB9 H HB
    go_wp2
    go_ret
    exact ⟨o2, c2, rfl, H1.out.1, H1.out.2.1, H1.out.2.2⟩

theorem box_on {w w' : World} {B : Nat} {t : TypeId} {v : Value} (h : Boxed w B t v) (hb : Below w.heap.size w w') : Boxed w' B t v := (hb.block B h.lt).trans h
/-- What All's function value holds: how many, the copy. -/
def AllBox (w : World) (B1 B2 : Nat) (N : Int) (o : Option Addr) (c : Nat) (ls : List Int) : Prop := Boxed w B1 3 (.int .i64 N) ∧ Boxed w B2 23 (.slice o ls.length c) ∧ Ld w (.slice o ls.length c) ls
def SomeAll (w : World) (N : Int) (ls : List Int) (e : Ending) (w' : World) : Prop := ∃ B1 B2 o c, e = .returned (.func (.func 42) #[] #[.pointer (some ⟨B1, 0, none⟩), .pointer (some ⟨B2, 0, none⟩)]) ∧ AllBox w' B1 B2 N o c ls ∧ w.heap.size ≤ B1 ∧ w.heap.size ≤ B2 ∧ (∀ i, i < ls.length → ∃ b f, o = some ⟨b, f, none⟩ ∧ w.heap.size ≤ b) ∧ Below w.heap.size w w'

set_option maxRecDepth 100000 in
set_option maxHeartbeats 4000000 in
theorem all_any (o : Option Addr) (c base : Nat) (ls : List Int) (w : World) (h : w.ownsRow base 3 1 (.slice o ls.length c) ls.length (ints ls)) (hl : Ld w (.slice o ls.length c) ls) (ll : ls.length ≤ 65536) :
    Calls Try.prog 39 #[.slice o ls.length c] w (SomeAll w (if may ls then prod ls else 0) ls) := by
  have CL := Lib.hid (fun (W : World) (hb : w.grownBy W none) => clone_any o c base ls W (by
    refine ⟨h.1, ?_⟩
    rcases h.2 with a | ⟨g, cap, cur, e1, e2, e3, rest⟩
    · exact .inl a
    · exact .inr ⟨g, cap, cur, e1, e2, (hb.block g (Array.getElem?_eq_some_iff.1 e3).1 (by simp)).trans e3, rest⟩) ll)
  have CN : Hid (∃ y : Int, Calls Try.prog 10 #[.slice o ls.length c] w fun e w' => e = .returned (.tuple #[.int .i64 (if may ls then prod ls else 0), .int .i64 y]) ∧ w = w') := by
    cases hm : may ls with
    | true => exact ⟨0, count_ok _ ls w hl hm⟩
    | false => exact ⟨1, count_no _ ls w hl hm⟩
  obtain ⟨y, CN⟩ := CN.out
  have CN := Lib.hid CN
  generalize (if may ls then prod ls else 0) = N at *
  clear h hl
  go_enter Try.func39, Try.ntmps39
  go_wp2_with (first | (go_at_call 10; (with_reducible refine CN.out.mono ?_); rintro e w' ⟨rfl, rfl⟩) | (go_at_call 41; (with_reducible refine (CL.out _ (World.grownBy_alloc w _ none)).mono ?_); rintro e w2 ⟨o2, c2, rfl, ho2, hl2, hb2⟩; replace ho2 := Lib.hid ho2))
  refine bodyPost_ret (results_tmp rfl _ _ _) rfl ?_
  have b1 := (box_on (Boxed.new w 3 (.int .i64 N)) hb2).alloc (.cells #[.slice o2 ls.length c2] 23)
  have hs := hb2.size
  rw [World.size_alloc] at hs
  exact ⟨w.heap.size, w2.heap.size, o2, c2, rfl, ⟨b1, Boxed.new _ _ _, hl2.below ((Below.refl _ _).alloc (Nat.le_refl _) _)⟩, Nat.le_refl _, by omega, (fun i hi => by
    rcases ho2.out.2 with ⟨_, h0⟩ | ⟨g, cap, cur, e1, e2, _⟩
    · omega
    · simp only [Value.slice.injEq, true_and] at e1
      exact ⟨g, 0, e1.1, by simp at e2; omega⟩), (((Below.refl _ _).alloc (Nat.le_refl _) _).trans (hb2.mono (by simp))).alloc (by omega) _⟩

/-- What All's iterator tells: the n-th place, and where its index lies. -/
def apr (ls : List Int) (x : Nat × Nat) : Array Value := #[.int .i64 (x.1 : Nat), .slice (some ⟨x.2, 0, none⟩) ls.length ls.length]
/-- What is known of it. -/
def Tol (ls : List Int) (n0 : Nat) (pre : List (Nat × Nat)) (x : Nat × Nat) (W : World) : Prop := x.1 = pre.length ∧ n0 ≤ x.2 ∧ Blk W x.2 3 (ints (atl ls (x.1 : Nat))).toArray
/-- What a round must keep: what lay there ahead, and the two boxes and the copy. -/
def KeepA (n1 n0 : Nat) (W W' : World) : Prop := ∀ k, n1 ≤ k → k < n0 → W'.heap[k]? = W.heap[k]?
theorem KeepA.refl (n1 n0 : Nat) (W : World) : KeepA n1 n0 W W := fun _ _ _ => rfl
theorem KeepA.trans {n1 n0 : Nat} {a b c : World} (h : KeepA n1 n0 a b) (k : KeepA n1 n0 b c) : KeepA n1 n0 a c := fun i h1 hi => (k i h1 hi).trans (h i h1 hi)
theorem KeepA.cell {n1 n0 b i : Nat} {W W' : World} (h : KeepA n1 n0 W W') (ha : n1 ≤ b) (hb : b < n0) : W'.cell? ⟨b, i, none⟩ = W.cell? ⟨b, i, none⟩ := by simp [World.cell?, h b ha hb]
theorem KeepA.below {n1 n0 : Nat} {W W' : World} (h : Below W.heap.size W W') (hn : n0 ≤ W.heap.size) : KeepA n1 n0 W W' := fun k _ hk => h.block k (by omega)
theorem KeepA.put {n1 n0 : Nat} {w : World} (hn : n0 ≤ w.heap.size) (W : World) (l : Nat) (o o' : Obj) (hl : w.heap.size ≤ l) (_ : W.heap[l]? = some o) (_ : o.isCells = false) (_ : o.isWalk = false) : KeepA n1 n0 W (W.putObj l o') := fun k _ h2 => World.putObj_heap_other (by omega)
theorem KeepA.size {n1 n0 : Nat} {W W' : World} (h : KeepA n1 n0 W W') (hlt : n1 < n0) (hn : n0 ≤ W.heap.size) : n0 ≤ W'.heap.size := by
  have h1 := h (n0 - 1) (by omega) (by omega)
  rw [Array.getElem?_eq_getElem (show n0 - 1 < W.heap.size by omega)] at h1
  have := (Array.getElem?_eq_some_iff.1 h1).1
  omega
theorem KeepA.ld {n1 n0 : Nat} {W W' : World} {v : Value} {ls : List Int} (h : KeepA n1 n0 W W') (hl : Ld W v ls) (hn : ∀ i, i < ls.length → ∃ o c b f, v = .slice o ls.length c ∧ o = some ⟨b, f, none⟩ ∧ n1 ≤ b ∧ b < n0) (hs : n0 ≤ W'.heap.size) : Ld W' v ls := by
  obtain ⟨o, c, rfl, hc, hx⟩ := hl
  refine ⟨o, c, rfl, hc, fun i hi => ?_⟩
  obtain ⟨b, f, e, _, hcell⟩ := hx i hi
  obtain ⟨o2, c2, b2, f2, e1, e2, e4, e3⟩ := hn i hi
  simp only [Value.slice.injEq] at e1
  obtain ⟨rfl, _, rfl⟩ := e1
  rw [e] at e2
  simp only [Option.some.injEq, Addr.mk.injEq, and_true] at e2
  obtain ⟨rfl, rfl⟩ := e2
  exact ⟨b, f, e, by omega, (h.cell e4 e3).trans hcell⟩

set_option maxRecDepth 100000 in
set_option maxHeartbeats 4000000 in
theorem all1_in (F : Fence) (n : Nat) (hfn : F.fn 42) (_hfi : F.fn 33) (hro : F.round = none) (hn : 2 ≤ n) (hix : ∀ v ls m w, Ld w v ls → may ls = true → 0 ≤ m → m < prod ls → CallsIn F (n - 1) Try.prog 33 #[v, .int .i64 m] w fun e w' => e = .returned (.slice (some ⟨w.heap.size + 1, 0, none⟩) ls.length ls.length) ∧ Blk w' (w.heap.size + 1) 3 (ints (atl ls m)).toArray ∧ Below w.heap.size w w')
    (l B1 B2 n1 n0 N : Nat) (o : Option Addr) (c : Nat) (ls : List Int) (hN : N ≤ 65536) (hm : 0 < N → may ls = true ∧ prod ls = N) (J Jx : List (Nat × Nat) → World → Prop) (W : World) (hJ : AbidesFrom W.heap.size J)
    (hY : ∀ pre x W, J pre W → pre.length < N → Tol ls n0 pre x W → YieldAt F (n - 1) Try.prog l (apr ls x) W fun e W' =>
      (e = .returned (.bool true) ∧ J (pre ++ [x]) W' ∧ KeepA n1 n0 W W') ∨ (e = .returned (.bool false) ∧ Jx (pre ++ [x]) W'))
    (h0 : W.cell? ⟨B1, 0, none⟩ = some (.int .i64 N)) (h1 : W.cell? ⟨B2, 0, none⟩ = some (.slice o ls.length c)) (k2 : B2 < n0) (k3 : n1 ≤ B2) (kn : n0 ≤ W.heap.size) (hx : Ld W (.slice o ls.length c) ls) (kx : ∀ i, i < ls.length → ∃ b f, o = some ⟨b, f, none⟩ ∧ n1 ≤ b ∧ b < n0) (hj : J [] W) :
    CallsIn F n Try.prog 42 #[.func (.yield l) #[] #[], .pointer (some ⟨B1, 0, none⟩), .pointer (some ⟨B2, 0, none⟩)] W fun e W' => (∃ v, e = .returned v) ∧
      ((∃ ys : List (Nat × Nat), ys.length = N ∧ J ys W') ∨ (∃ pre : List (Nat × Nat), pre.length ≤ N ∧ Jx pre W')) := by
  have hn1 : 1 ≤ n := by omega
  refine callsIn_of_wp Try.func42 rfl hfn ?_ hro
  simp only [Try.ntmps42, List.size_toArray, List.length_cons, List.length_nil, Nat.reduceAdd, Nat.reduceSub, Array.replicate_succ, Array.replicate_zero, List.push_toArray, List.append_toArray, List.nil_append, List.cons_append]
  gi_wp2
  gi_loopw [6] (fun s6 wr => ∃ pre : List (Nat × Nat), pre.length ≤ N ∧ s6 = .int .i64 (pre.length : Nat) ∧ J pre wr ∧ KeepA n1 n0 W wr ∧ n0 ≤ wr.heap.size) (fun s6 _ => N - (intOf s6).toNat)
  case atStart => exact ⟨[], Nat.zero_le _, rfl, hj, KeepA.refl _ _ _, kn⟩
  case round =>
    obtain ⟨pre, hpl, rfl, hJs, hK, hsz⟩ := hrel
    have c1 : wr.cell? ⟨B2, 0, none⟩ = some (.slice o ls.length c) := (hK.cell k3 k2).trans h1
    by_cases hlt : pre.length < N
    · obtain ⟨hm1, hm2⟩ := hm (by omega)
      have hld : Ld wr (.slice o ls.length c) ls := hK.ld hx (fun i hi => by
        obtain ⟨b, f, e1, e2⟩ := kx i hi
        exact ⟨o, c, b, f, rfl, e1, e2.1, e2.2⟩) hsz
      have HI := Lib.hid (hix (.slice o ls.length c) ls (pre.length : Nat) wr hld hm1 (by omega) (by omega))
      have HY : Hid (∀ w2, Blk w2 (wr.heap.size + 1) 3 (ints (atl ls (pre.length : Nat))).toArray → Below wr.heap.size wr w2 → YieldAt F (n - 1) Try.prog l #[.int .i64 (pre.length : Nat), .slice (some ⟨wr.heap.size + 1, 0, none⟩) ls.length ls.length] w2 fun e W' =>
          (e = .returned (.bool true) ∧ J (pre ++ [(pre.length, wr.heap.size + 1)]) W' ∧ KeepA n1 n0 wr W' ∧ n0 ≤ W'.heap.size) ∨ (e = .returned (.bool false) ∧ Jx (pre ++ [(pre.length, wr.heap.size + 1)]) W')) := by
        intro w2 hb hB
        have hJ2 := hJ pre wr w2 none hJs ⟨hB.os, hB.tape, hB.output, hB.size, fun k hk _ => hB.block k hk⟩ (fun r e => by cases e)
        obtain ⟨fn, tmps, assign, body, hy, hR⟩ := hY pre (pre.length, wr.heap.size + 1) w2 hJ2 hlt ⟨rfl, (by show n0 ≤ wr.heap.size + 1; omega), hb⟩
        refine ⟨fn, tmps, assign, body, hy, hR.mono ?_⟩
        rintro e W' (⟨rfl, h2, h3⟩ | h2)
        · exact .inl ⟨rfl, h2, (KeepA.below hB hsz).trans h3, h3.size (by omega) (Nat.le_trans hsz hB.size)⟩
        · exact .inr h2
      generalize hq : pre.length = q at *
      have HQ := Lib.hid hq
      clear hq hm hx kx hm1 hm2 hld
      gi_wp2
      refine HI.out.mono ?_
      rintro e w2 ⟨rfl, hb2, hB2⟩
      obtain ⟨fn, tmps, assign, body, hy, hR⟩ := HY.out w2 hb2 hB2
      gi_wp2
      refine hR.mono ?_
      rintro e W3 (⟨rfl, hJ3, hk3, hs3⟩ | ⟨rfl, hJx3⟩)
      · gi_wp2
        go_roundw
        case rel => exact ⟨pre ++ [(q, wr.heap.size + 1)], by simp [HQ.out]; omega, by simp [HQ.out], hJ3, hK.trans hk3, hs3⟩
        case measure => simp [intOf]; omega
      · gi_wp2
        refine bodyPost_ret (results_none rfl _ _ _) rfl ?_
        exact ⟨⟨_, rfl⟩, .inr ⟨pre ++ [(q, wr.heap.size + 1)], by simp [HQ.out]; omega, hJx3⟩⟩
    · gi_wp2
      go_end0
      exact ⟨⟨_, rfl⟩, .inl ⟨pre, by omega, hJs⟩⟩
/-- The iterator's contract. -/
theorem all_told (B1 B2 n1 n0 N : Nat) (o : Option Addr) (c : Nat) (ls : List Int) (hN : N ≤ 65536) (hm : 0 < N → may ls = true ∧ prod ls = N) (w : World) (hbox : AllBox w B1 B2 N o c ls) (k1 : B1 < n0) (k2 : B2 < n0) (k3 : n1 ≤ B2) (kn : n0 ≤ w.heap.size) (kx : ∀ i, i < ls.length → ∃ b f, o = some ⟨b, f, none⟩ ∧ n1 ≤ b ∧ b < n0) :
    SeqTold Fence.wide 8 Try.prog 42 #[.pointer (some ⟨B1, 0, none⟩), .pointer (some ⟨B2, 0, none⟩)] (apr ls) (KeepA n1 n0) (Tol ls n0) (fun ys => ys.length = N) (fun pre => pre.length ≤ N) N w := fun l J Jx W hW hJ _ hY h0 =>
  all1_in Fence.wide 8 trivial trivial rfl (by decide) (fun v ls m w h1 h2 h3 h4 => callsIn_wide.2 (index_any v ls m w h1 h2 h3 h4)) l B1 B2 n1 n0 N o c ls hN hm J Jx W hJ hY
    ((hW.cell (p := ⟨B1, 0, none⟩) (by show B1 < _; omega)).trans hbox.1.cell) ((hW.cell (p := ⟨B2, 0, none⟩) (by show B2 < _; omega)).trans hbox.2.1.cell) k2 k3 (Nat.le_trans kn hW.size) (hbox.2.2.below hW) kx h0
end Go.Proofs.Yteplhlmdaabpaaa
