/-
  The reference's shapes: counts, what may be, strides, places, indexes.
  The reference's shapes: places and indexes, spread shapes.
  The reference's shapes: spread shapes, what stands under an index.
  view.Widen.
  view.Copy.
  package elem: Check.
  package reduce: are these axes? what words go where.
  package reduce: where the words of a tensor go (reduced), and the place under an index.
  package reduce: sums by where words go.
  elem.each: the words of a shape's places in order, whatever is asked of each; the first one's error.
  FxLaws' arithmetic: whole quotients; a quotient's half, a product's half over a power of 2, in lowest terms.
  package reduce: sums, closed.
  package reduce: Sum, Mean.
  Quotients and signs of rational numbers, the reference's.
-/
import Derived.Deep.QuietTactic
import Derived.BigQuiet
import Derived.IntWalk
import Derived.Deep.AppendLies
import Derived.Deep.RegionHeld3
import Derived.Deep.DeepCutAuto
import Derived.OwnWalkIn
import Derived.Test.YtldchepfcgbpiaaGreatM03
import Derived.Test.YtldchepfcgbpiaaGreatM10
import Derived.Test.YtldchepfcgbpiaaGreatM13
import Derived.Test.YtldchepfcgbpiaaGreatM15
import Derived.Test.YtldchepfcgbpiaaGreatM16
import Derived.Test.YtldchepfcgbpiaaGreatM17
namespace Go.Proofs.YtldchepfcgbpiaaGreat
open Go.RowKit

/-- The reference's count. -/
def rct (ls : List Int) : Int := if cnt 1 ls = 0 then 65537 else cnt 1 ls
theorem may_rct {ls : List Int} (h4 : ls.length ≤ 4) : decide (rct ls ≤ 65536) = may ls := by
  unfold rct
  rcases cnt_cases ls 1 (by decide) (by decide) with h | ⟨h1, h2, _, _⟩
  · rw [if_pos h, may_not h]; rfl
  · rw [if_neg (by omega), may_yes h4 (by omega)]; simpa using h2
theorem rct_may {ls : List Int} (h : may ls = true) : rct ls = prod ls := by
  unfold rct
  rw [may_cnt h, if_neg (by have := may_prod h; omega)]

set_option maxRecDepth 100000 in
set_option maxHeartbeats 4000000 in
theorem rcount_any (v : Value) (ls : List Int) (w : World) (h : Ld w v ls) (hd : dms ls) (l4 : ls.length ≤ 1073741824) :
    Calls Tryz.prog 15 #[v] w fun e w' => e = .returned (.int .i64 (rct ls)) ∧ w = w' := by
  obtain ⟨o, c, rfl, _, hx⟩ := h
  have HX := Lib.hid hx
  have HD := Lib.hid hd
  clear hx hd
  go_enter Tryz.func15, Tryz.ntmps15
  go_wp2
  go_loop [3, 4] (fun s3 s4 => ∃ (k : Nat) (m : Int), k ≤ ls.length ∧ 1 ≤ m ∧ m ≤ 65536 ∧ s4 = .int .i64 k ∧ s3 = .int .i64 m ∧ Hid (cnt m (ls.drop k) = cnt 1 ls)) (fun _ s4 => ls.length - (intOf s4).toNat)
  case atStart => exact ⟨0, 1, Nat.zero_le _, by decide, by decide, rfl, rfl, rfl⟩
  case round =>
    obtain ⟨k, m, hk, m0, m1, rfl, rfl, HM⟩ := hrel
    by_cases hlt : k < ls.length
    · obtain ⟨b, f, rfl, hb, hc⟩ := HX.out k hlt
      have st := cnt_step hlt m
      rw [HM.out] at st
      have dd := HD.out _ (getD_mem hlt)
      obtain ⟨d, hd⟩ : ∃ d, d = ls.getD k 0 := ⟨_, rfl⟩
      rw [← hd] at st hc dd
      obtain ⟨d1, d2⟩ := dd
      have dn : ¬ 65536 < d := by omega
      have md : m * d ≤ 65536 * 4096 := Int.mul_le_mul m1 d2 (by omega) (by decide)
      have m2 : 1 ≤ m * d := by have := Int.mul_le_mul m0 d1 (by decide) (by omega); omega
      by_cases g : m * d ≤ 65536
      · rw [if_pos ⟨d1, d2, by rw [Int.mul_comm]; exact g⟩] at st
        have ST := Lib.hid st
        have g' : ¬ 65536 < m * d := by omega
        clear st hd md
        go_wp2
        refine ⟨⟨k + 1, m * d, by omega, m2, g, by go_num, rfl, by unfold Hid; rw [← ST.out]⟩, by simp [intOf]; omega⟩
      · rw [if_neg (by rw [Int.mul_comm]; omega)] at st
        have E : Hid (rct ls = 65537) := by unfold rct; rw [if_pos st]; exact Lib.hid rfl
        have g' : 65536 < m * d := by omega
        clear st hd
        go_wp2
        go_ret
        exact ⟨by rw [E.out]; rfl, rfl⟩
    · have E : Hid (m = rct ls) := by
        have := HM.out
        rw [List.drop_eq_nil_of_le (by omega)] at this
        unfold rct
        rw [← this, if_neg (by show cnt m [] ≠ 0; simp [cnt]; omega)]
        exact Lib.hid rfl
      go_wp2
      go_ret
      exact ⟨by rw [← E.out]; rfl, rfl⟩

set_option maxRecDepth 100000 in
set_option maxHeartbeats 4000000 in
theorem rmay_any (v : Value) (ls : List Int) (w : World) (h : Ld w v ls) (l4 : ls.length ≤ 1073741824) :
    Calls Tryz.prog 14 #[v] w fun e w' => e = .returned (.bool (may ls)) ∧ w = w' := by
  by_cases h4 : 4 < ls.length
  · have E : Hid (may ls = false) := may_long h4
    obtain ⟨o, c, rfl, _, _⟩ := h
    go_enter Tryz.func14, Tryz.ntmps14
    go_wp2
    go_ret
    exact ⟨by rw [E.out]; rfl, rfl⟩
  have C := Lib.hid (fun hd => rcount_any v ls w h hd (by omega))
  obtain ⟨o, c, rfl, _, hx⟩ := h
  have HX := Lib.hid hx
  have HR : Hid (decide (rct ls ≤ 65536) = may ls) := may_rct (by omega)
  clear hx
  go_enter Tryz.func14, Tryz.ntmps14
  go_wp2
  go_loop [3] (fun s3 => ∃ k : Nat, k ≤ ls.length ∧ s3 = .int .i64 k ∧ Hid (∀ j, j < k → 1 ≤ ls.getD j 0 ∧ ls.getD j 0 ≤ 4096)) (fun s3 => ls.length - (intOf s3).toNat)
  case atStart => exact ⟨0, Nat.zero_le _, rfl, fun j hj => absurd hj (Nat.not_lt_zero _)⟩
  case round =>
    obtain ⟨k, hk, rfl, HK⟩ := hrel
    by_cases hlt : k < ls.length
    · obtain ⟨b, f, rfl, hb, hc⟩ := HX.out k hlt
      have HN : Hid (¬ (1 ≤ ls.getD k 0 ∧ ls.getD k 0 ≤ 4096) → may ls = false) := fun g => by
        cases h : may ls with
        | false => rfl
        | true => exact absurd (may_dim h hlt) g
      have HG : Hid (1 ≤ ls.getD k 0 ∧ ls.getD k 0 ≤ 4096 → ∀ j, j < k + 1 → 1 ≤ ls.getD j 0 ∧ ls.getD j 0 ≤ 4096) := fun g j hj => by
        by_cases e : j = k
        · subst e; exact g
        · exact HK.out j (by omega)
      generalize ls.getD k 0 = d at *
      by_cases g1 : d < 1
      · have R := Lib.hid (HN.out (by omega))
        go_wp2
        go_ret
        exact ⟨by rw [R.out]; rfl, rfl⟩
      by_cases g2 : 4096 < d
      · have R := Lib.hid (HN.out (by omega))
        go_wp2
        go_ret
        exact ⟨by rw [R.out]; rfl, rfl⟩
      have R := Lib.hid (HG.out (by omega))
      go_wp2
      refine ⟨⟨k + 1, by omega, by go_num, R⟩, by simp [intOf]; omega⟩
    · have hd : dms ls := by
        intro d hm
        obtain ⟨i, hi, rfl⟩ := List.mem_iff_getElem.1 hm
        have := HK.out i (by omega)
        simpa [List.getD, List.getElem?_eq_getElem hi] using this
      have C1 := Lib.hid (C.out hd)
      clear hd
      generalize rct ls = r at *
      go_wp2_with (go_at_call 15; (with_reducible refine C1.out.mono ?_); rintro e w' ⟨rfl, rfl⟩)
      go_ret
      exact ⟨by rw [← HR.out]; rfl, rfl⟩

end Go.Proofs.YtldchepfcgbpiaaGreat
namespace Go.Proofs.YtldchepfcgbpiaaGreat
open Go.RowKit



end Go.Proofs.YtldchepfcgbpiaaGreat
namespace Go.Proofs.YtldchepfcgbpiaaGreat
open Go.RowKit

end Go.Proofs.YtldchepfcgbpiaaGreat
namespace Go.Proofs.YtldchepfcgbpiaaGreat
open Go.RowKit
attribute [local go_sem ↓] Go.wp_at_zero Go.wp_at_succ

theorem grown_put {w W : World} {g k : Nat} (h : w.grownBy W (some g)) (v : Value) : w.grownBy (W.setCell ⟨g, k, none⟩ v) (some g) :=
  ⟨h.os, h.tape, h.output, by simpa using h.size, fun j hj hne => (Below.heap_setCell _ _ _ j (fun e => hne (by rw [e]))).trans (h.block j hj hne)⟩
theorem blk_new1 (w : World) (o : Obj) (t : TypeId) (cs : Array Value) : Blk ((w.alloc o).alloc (.cells cs t)) (w.heap.size + 1) t cs := by
  have := Blk.new (w.alloc o) t cs
  rwa [World.size_alloc] at this
end Go.Proofs.YtldchepfcgbpiaaGreat
namespace Go.Proofs.YtldchepfcgbpiaaGreat
open Go.RowKit Go.Shelf
attribute [local go_sem] Oper.semAt_some

theorem blk2 {W : World} {b : Nat} {t : TypeId} {x y : Value} (h : Blk W b t #[x, y]) : W.cell? ⟨b, 0, none⟩ = some x ∧ W.cell? ⟨b, 1, none⟩ = some y ∧ W.frozen? ⟨b, 0, none⟩ = false ∧ W.frozen? ⟨b, 1, none⟩ = false :=
  ⟨h.cell 0, h.cell 1, h.frozen 0, h.frozen 1⟩
/-- A tensor in new memory, and an error. -/
def SomeT (w : World) (er : Int) (sh ds : List Int) (e : Ending) (w' : World) : Prop := ∃ os cs od cd, e = .returned (.tuple #[.agg #[.slice os sh.length cs, .slice od ds.length cd], .int .i64 er]) ∧ w'.ownsRow w.heap.size 3 1 (.slice os sh.length cs) sh.length (ints sh) ∧ w'.ownsRow w.heap.size 2 1 (.slice od ds.length cd) ds.length (ints ds) ∧ Below w.heap.size w w'
theorem infoW : (Tryz.prog.info? 2).map (fun i => (i.zero, i.size, i.bytes)) = some (some (.int .i64 0), 1, 8) := by kernel_rfl


theorem tens_not_row {w : World} {base n b : Nat} {v : Value} {xs : List Value} {cs : Array Value} {t u : TypeId} (h : w.ownsRow base t 1 v n xs) (hb : Blk w b u cs) (hne : t ≠ u) : ¬ v.ownBlock = some b := by
  intro e
  rcases h.2 with ⟨rfl, _⟩ | ⟨g, cap, cur, rfl, _, hh, _⟩
  · simp [Value.ownBlock] at e
  · simp only [Value.ownBlock, Option.some.injEq] at e
    subst e
    have := hh.symm.trans hb
    simp only [Option.some.injEq, Obj.cells.injEq] at this
    exact hne this.2.1
end Go.Proofs.YtldchepfcgbpiaaGreat
namespace Go.Proofs.YtldchepfcgbpiaaGreat
open Go Go.RowKit Go.Shelf

theorem tnb_parts {sh ds : List Int} (h : tnb sh ds = true) : may sh = true ∧ (ds.length : Int) = prod sh ∧ wds ds = true := by
  unfold tnb at h
  simp only [Bool.and_eq_true, decide_eq_true_eq] at h
  exact ⟨h.1.1, h.1.2, h.2⟩
set_option maxRecDepth 100000 in
set_option maxHeartbeats 4000000 in
theorem echeck_any (vs vd : Value) (sh ds : List Int) (w : World) (hs : Ld w vs sh) (hd : Ld w vd ds) (_ls : sh.length ≤ 17592186044416) (ld : ds.length ≤ 17592186044416) :
    Calls Tryz.prog 21 #[.agg #[vs, vd]] w fun e w' => e = .returned (.int .i64 (if tnb sh ds = true then 0 else 1)) ∧ Below w.heap.size w w' := by
  obtain ⟨RR, hRR⟩ : ∃ RR : Int, RR = if tnb sh ds = true then 0 else 1 := ⟨_, rfl⟩
  rw [← hRR]
  have HRR := Lib.hid hRR
  clear hRR
  have B0 := Lib.hid ((Below.refl w.heap.size w).alloc (Nat.le_refl _) (.cells #[vs, vd] 26))
  obtain ⟨op, cp, rfl, _, _⟩ := id hs
  obtain ⟨od, cd, rfl, _, hx⟩ := id hd
  have HX := Lib.hid hx
  have WC := Lib.hid (fun (v : Int) (W : World) => check_any v W)
  cases hm : may sh with
  | false =>
    have C := Lib.hid (count_no _ sh _ (hs.below B0.out) hm)
    have E : Hid (tnb sh ds = false) := by unfold tnb; rw [hm]; exact Lib.hid (by simp)
    clear hs hd hm hx
    go_enter Tryz.func21, Tryz.ntmps21
    go_wp2_with (go_at_call 39; (with_reducible refine C.out.mono ?_); rintro e w' ⟨rfl, rfl⟩)
    go_ret
    exact ⟨by rw [HRR.out, E.out]; rfl, B0.out⟩
  | true =>
    have C := Lib.hid (count_ok _ sh _ (hs.below B0.out) hm)
    have E : Hid (tnb sh ds = (decide ((ds.length : Int) = prod sh) && wds ds)) := by unfold tnb; rw [hm]; exact Lib.hid (by simp)
    clear hs hd hm hx
    generalize prod sh = n at *
    by_cases q : (ds.length : Int) = n
    · have b1 : ((ds.length : Int) != n) = false := by simpa using q
      have E2 : Hid (tnb sh ds = wds ds) := by rw [Hid, E.out, decide_eq_true q, Bool.true_and]
      clear q E
      go_enter Tryz.func21, Tryz.ntmps21
      go_wp2_with (go_at_call 39; (with_reducible refine C.out.mono ?_); rintro e w' ⟨rfl, rfl⟩)
      go_loopw [25] (fun s25 wr => ∃ k : Nat, k ≤ ds.length ∧ s25 = .int .i64 k ∧ Hid (∀ j, j < k → wd (ds.getD j 0) = true) ∧ Hid (Below w.heap.size w wr)) (fun s25 _ => ds.length - (intOf s25).toNat)
      case atStart => exact ⟨0, Nat.zero_le _, rfl, fun j hj => absurd hj (Nat.not_lt_zero _), B0⟩
      case round =>
        obtain ⟨k, hk, rfl, HK, HB⟩ := hrel
        by_cases hlt : k < ds.length
        · obtain ⟨b, f, rfl, h1, c1⟩ := HX.out k hlt
          have c2 : wr.cell? ⟨b, f + k, none⟩ = some (.int .i64 (ds.getD k 0)) := (HB.out.cell (p := ⟨b, f + k, none⟩) h1).trans c1
          clear c1
          cases g : wd (ds.getD k 0) with
          | true =>
            have HG : Hid (∀ j, j < k + 1 → wd (ds.getD j 0) = true) := fun j hj => by
              by_cases e : j = k
              · rw [e]; exact g
              · exact HK.out j (by omega)
            have W1 := WC.out (ds.getD k 0)
            rw [g, if_pos rfl] at W1
            replace W1 := Lib.hid W1
            clear g
            generalize ds.getD k 0 = x at *
            go_wp2_with (go_at_call 22; (with_reducible refine (W1.out _).mono ?_); rintro e w' ⟨rfl, rfl⟩)
            exact ⟨⟨k + 1, by omega, by go_num, HG, HB⟩, by simp [intOf]; omega⟩
          | false =>
            have HG : Hid (wds ds = false) := wds_no hlt (fun h => by rw [wd_mk h] at g; cases g)
            have W1 := WC.out (ds.getD k 0)
            rw [g, if_neg (by decide)] at W1
            replace W1 := Lib.hid W1
            clear g
            generalize ds.getD k 0 = x at *
            go_wp2_with (go_at_call 22; (with_reducible refine (W1.out _).mono ?_); rintro e w' ⟨rfl, rfl⟩)
            go_ret
            exact ⟨by rw [HRR.out, E2.out, HG.out]; rfl, HB.out⟩
        · have HG : Hid (wds ds = true) := wds_yes (fun j hj => wd_bd (HK.out j (by omega)))
          go_wp2
          go_ret
          exact ⟨by rw [HRR.out, E2.out, HG.out]; rfl, HB.out⟩
    · have b1 : ((ds.length : Int) != n) = true := by simpa using q
      have E2 : Hid (tnb sh ds = false) := by rw [Hid, E.out, decide_eq_false q, Bool.false_and]
      clear q E
      go_enter Tryz.func21, Tryz.ntmps21
      go_wp2_with (go_at_call 39; (with_reducible refine C.out.mono ?_); rintro e w' ⟨rfl, rfl⟩)
      go_ret
      exact ⟨by rw [HRR.out, E2.out]; rfl, B0.out⟩
end Go.Proofs.YtldchepfcgbpiaaGreat
namespace Go.Proofs.YtldchepfcgbpiaaGreat
open Go Go.RowKit Go.Shelf

end Go.Proofs.YtldchepfcgbpiaaGreat
namespace Go.Proofs.YtldchepfcgbpiaaGreat
open Go Go.RowKit Go.Shelf

theorem own_ld {W : World} {base n c : Nat} {o : Option Addr} {e : TypeId} {ls : List Int} (h : W.ownsRow base e 1 (.slice o n c) n (ints ls)) (hn : ls.length = n) : Ld W (.slice o n c) ls := by
  subst hn
  obtain ⟨_, _, e1, h3⟩ := Ld.of_owns h
  simp only [Value.slice.injEq] at e1
  obtain ⟨rfl, _, rfl⟩ := e1
  exact h3
theorem own_form1 {w : World} {base n : Nat} {e : TypeId} {v : Value} {xs : List Value} (h : w.ownsRow base e 1 v n xs) : ∃ o c, v = .slice o n c := by
  rcases h.2 with ⟨rfl, h0⟩ | ⟨g, cap, cur, rfl, _⟩
  · exact ⟨none, 0, by rw [h0]⟩
  · exact ⟨_, _, rfl⟩
theorem own_setx {W : World} {T base n i : Nat} {t u : TypeId} {v z : Value} {xs : List Value} {cs : Array Value} (h : W.ownsRow base t 1 v n xs) (hb : Blk W T u cs) (hne : t ≠ u) : (W.setCell ⟨T, i, none⟩ z).ownsRow base t 1 v n xs :=
  h.kept (grown_set W ⟨T, i, none⟩ z) (.inr (tens_not_row h hb hne))
end Go.Proofs.YtldchepfcgbpiaaGreat
namespace Go.Proofs.YtldchepfcgbpiaaGreat
open Go Go.RowKit Go.Shelf
attribute [local go_sem] Oper.semAt_some

end Go.Proofs.YtldchepfcgbpiaaGreat
namespace Go.Proofs.YtldchepfcgbpiaaGreat
open Go Go.RowKit Go.Shelf
attribute [local go_sem] Oper.semAt_some

end Go.Proofs.YtldchepfcgbpiaaGreat
namespace Go.Proofs.YtldchepfcgbpiaaGreat
open Go.RowKit

end Go.Proofs.YtldchepfcgbpiaaGreat
namespace Go.Proofs.YtldchepfcgbpiaaGreat
open Go Go.RowKit Go.Shelf

end Go.Proofs.YtldchepfcgbpiaaGreat
namespace Go.Proofs.YtldchepfcgbpiaaGreat
open Go Go.RowKit Go.Shelf

theorem al_below0 {W : World} (o : Obj) : Below W.heap.size W (W.alloc o) := (Below.refl _ _).alloc (Nat.le_refl _) o
end Go.Proofs.YtldchepfcgbpiaaGreat
namespace Go.Proofs.YtldchepfcgbpiaaGreat
open Go Go.RowKit Go.Shelf
attribute [local go_sem] Oper.semAt_some

set_option maxRecDepth 100000 in
set_option maxHeartbeats 8000000 in
theorem rover_any (x y : Value) (p r m : Int) (q s d : Nat) (a : Int) (c : Nat) (w : World) (h : IsR w x p q) (k : IsR w y r s) (r0 : 0 < r) (gp : p.natAbs < BIG) (gr : r.natAbs < BIG) (gq : q < BIG) (gs : s < BIG) (hm : m = p * s) (hd : d = q * r.natAbs) (gm : m.natAbs < MID) (gd : d < MID) (d0 : d ≠ 0) (ha : a = m.tdiv (Nat.gcd m.natAbs d : Nat)) (hc : c = d / Nat.gcd m.natAbs d) : Calls Tryz.prog 56 #[x, y] w (SomeR w a c) := by
  obtain ⟨ba, oa1, la1, ca1, oa2, la2, ca2, rfl, Ha⟩ := h
  obtain ⟨bd, od1, ld1, cd1, od2, ld2, cd2, rfl, Hd⟩ := k
  obtain rfl : bd = false := by rw [Hd.out.1]; exact decide_eq_false (by omega)
  have DN0 : Hid (∀ (W : World), Below w.heap.size w W → Calls Tryz.prog 81 #[Rv false (.slice od1 ld1 cd1) (.slice od2 ld2 cd2)] W (SomeI W (s : Int))) := Lib.hid (fun W hW => den_any _ r s W ((IsR.mk Hd).below hW))
  have TM : Hid (∀ (W : World) (u v : Value), IsI W u p → IsI W v (s : Int) → Calls Tryz.prog 51 #[u, v] W (SomeI W m)) := Lib.hid (fun W u v hu hv => by rw [hm]; exact itimes_any u v p s W hu hv gp (by rw [Int.natAbs_natCast]; exact gs))
  have TN : Hid (∀ (W : World) (u v : Value), IsN W u q → IsN W v r.natAbs → Calls Tryz.prog 79 #[u, v] W (SomeN W d)) := Lib.hid (fun W u v hu hv => by rw [hd]; exact ntimes_any u v q r.natAbs W hu hv gq gr)
  have MK : Hid (∀ (W : World) (x v : Value), IsI W x m → IsN W v d → Calls Tryz.prog 37 #[x, v] W (SomeR W a c)) := Lib.hid (fun W x v h k => by rw [ha, hc]; exact make_any x v m d W h k gm gd d0)
  obtain ⟨FR, hFR⟩ : ∃ FR : World → Prop, FR = fun W => Below w.heap.size w W ∧ Blk W w.heap.size 76 #[.bool ba, .slice oa1 la1 ca1, .slice oa2 la2 ca2] ∧ Blk W (w.heap.size + 1) 76 #[.bool false, .slice od1 ld1 cd1, .slice od2 ld2 cd2] ∧ Blk W (w.heap.size + 1 + 1) 76 #[.bool false, .slice none 0 0, .slice none 0 0] := ⟨_, rfl⟩
  have FRb : Hid (∀ W, FR W → Below w.heap.size w W) := Lib.hid (fun W h => by rw [hFR] at h; exact h.1)
  have FRn : Hid (∀ W W', FR W → Below W.heap.size W W' → FR W') := Lib.hid (fun W W' h hb => by rw [hFR] at h ⊢; exact ⟨h.1.trans (hb.mono h.1.size), h.2.1.below hb h.2.1.lt, h.2.2.1.below hb h.2.2.1.lt, h.2.2.2.below hb h.2.2.2.lt⟩)
  have FRl : Hid (∀ W, FR W → w.heap.size + 2 < W.heap.size) := Lib.hid (fun W h => by rw [hFR] at h; exact h.2.2.2.lt)
  have FRs : Hid (∀ (W : World) (B : Nat), w.heap.size + 2 < B → ∀ (i : Nat) (v : Value), FR W → FR (W.setCell ⟨B, i, none⟩ v)) := Lib.hid (fun W B hB i v h => by rw [hFR] at h ⊢; exact ⟨h.1.setCell (p := ⟨B, i, none⟩) (by show w.heap.size ≤ B; omega) _, h.2.1.far (p := ⟨B, i, none⟩) (by show ¬ w.heap.size = B; omega) _, h.2.2.1.far (p := ⟨B, i, none⟩) (by show ¬ w.heap.size + 1 = B; omega) _, h.2.2.2.far (p := ⟨B, i, none⟩) (by show ¬ w.heap.size + 1 + 1 = B; omega) _⟩)
  have FRr : Hid (∀ W, FR W → Blk W (w.heap.size + 1 + 1) 76 #[.bool false, .slice none 0 0, .slice none 0 0]) := Lib.hid (fun W h => by rw [hFR] at h; exact h.2.2.2)
  have KS : Hid (∀ V, FR V → V.cell? ⟨w.heap.size, 0, none⟩ = some (.bool ba) ∧ V.cell? ⟨w.heap.size, 1, none⟩ = some (.slice oa1 la1 ca1) ∧ V.cell? ⟨w.heap.size, 2, none⟩ = some (.slice oa2 la2 ca2) ∧ V.cell? ⟨w.heap.size + 1, 0, none⟩ = some (.bool false) ∧ V.cell? ⟨w.heap.size + 1, 1, none⟩ = some (.slice od1 ld1 cd1) ∧ V.cell? ⟨w.heap.size + 1, 2, none⟩ = some (.slice od2 ld2 cd2)) := Lib.hid (fun V h => by rw [hFR] at h; exact ⟨h.2.1.cell 0, h.2.1.cell 1, h.2.1.cell 2, h.2.2.1.cell 0, h.2.2.1.cell 1, h.2.2.1.cell 2⟩)
  have NA : Hid (∀ V, FR V → IsI V (Iv ba (.slice oa1 la1 ca1)) p) := Lib.hid (fun V h => (IsI.mk Ha.out.1 Ha.out.2.1).below (FRb.out _ h))
  have NQ : Hid (∀ V, FR V → IsN V (.slice oa2 la2 ca2) q) := Lib.hid (fun V h => Ha.out.2.2.below (FRb.out _ h))
  have NR : Hid (∀ V, FR V → IsN V (.slice od1 ld1 cd1) r.natAbs) := Lib.hid (fun V h => Hd.out.2.1.below (FRb.out _ h))
  have DN : Hid (∀ (W : World), FR W → Calls Tryz.prog 81 #[Rv false (.slice od1 ld1 cd1) (.slice od2 ld2 cd2)] W (SomeI W (s : Int))) := Lib.hid (fun W hW => DN0.out W (FRb.out _ hW))
  have F3 : Hid (FR (((w.alloc (.cells #[.bool ba, .slice oa1 la1 ca1, .slice oa2 la2 ca2] 76)).alloc (.cells #[.bool false, .slice od1 ld1 cd1, .slice od2 ld2 cd2] 76)).alloc (.cells #[.bool false, .slice none 0 0, .slice none 0 0] 76))) := Lib.hid (by
    rw [hFR]
    refine ⟨(((Below.refl _ _).alloc (Nat.le_refl _) _).alloc (by simp) _).alloc (by simp; omega) _, ((Blk.new w _ _).alloc _).alloc _, ?_, ?_⟩
    · have q := Blk.new (w.alloc (.cells #[.bool ba, .slice oa1 la1 ca1, .slice oa2 la2 ca2] 76)) 76 #[.bool false, .slice od1 ld1 cd1, .slice od2 ld2 cd2]
      rw [World.size_alloc] at q
      exact q.alloc _
    · have q := Blk.new ((w.alloc (.cells #[.bool ba, .slice oa1 la1 ca1, .slice oa2 la2 ca2] 76)).alloc (.cells #[.bool false, .slice od1 ld1 cd1, .slice od2 ld2 cd2] 76)) 76 #[.bool false, .slice none 0 0, .slice none 0 0]
      rw [World.size_alloc, World.size_alloc] at q
      exact q)
  have HFR := Lib.hid hFR
  clear hFR gp gr gq gs hm hd gm gd d0 ha hc DN0
  go_enter Tryz.func56, Tryz.ntmps56
  go_upto_region 1 with fail
  obtain ⟨w3, hw3⟩ : ∃ v, v = ((w.alloc (.cells #[.bool ba, .slice oa1 la1 ca1, .slice oa2 la2 ca2] 76)).alloc (.cells #[.bool false, .slice od1 ld1 cd1, .slice od2 ld2 cd2] 76)).alloc (.cells #[.bool false, .slice none 0 0, .slice none 0 0] 76) := ⟨_, rfl⟩
  rw [← hw3] at F3 ⊢
  clear hw3
  go_cut [5] (fun s5 wx => ∃ (T5 : Nat) (bm : Bool) (om : Option Addr) (lm cm : Nat), s5 = .pointer (some ⟨T5, 0, none⟩) ∧ Hid (Blk wx T5 71 #[.bool bm, .slice om lm cm]) ∧ Hid (IsI wx (Iv bm (.slice om lm cm)) m) ∧ Hid (FR wx))
  case first =>
    as_aux_lemma =>
    have B_0 : Hid (FR w3.drew) := Lib.hid (FRn.out _ _ F3.out (below_drw (Below.refl _ _) 1))
    refine wp_region_held_drew (S := fun V => V.cell? ⟨w.heap.size, 0, none⟩ = some (.bool ba) ∧ V.cell? ⟨w.heap.size, 1, none⟩ = some (.slice oa1 la1 ca1) ∧ V.cell? ⟨w.heap.size, 2, none⟩ = some (.slice oa2 la2 ca2) ∧ V.cell? ⟨w.heap.size + 1, 0, none⟩ = some (.bool false) ∧ V.cell? ⟨w.heap.size + 1, 1, none⟩ = some (.slice od1 ld1 cd1) ∧ V.cell? ⟨w.heap.size + 1, 2, none⟩ = some (.slice od2 ld2 cd2)) (by kernel_rfl) ?_ (fun hHeld => ?_)
    · exact KS.out _ B_0.out
    have hHd := hHeld
    generalize w3.drew = w_0 at *
    (refine wpAnyH_take (i := 0) (oi := ⟨some 6, _, _, _, _, _⟩) (v := ?v0_a1) rfl (by kernel_rfl) (by kernel_rfl) (by kernel_rfl) (fun _ _ _ h => h) (Or.inl ⟨by rfl, ?hy0_a1⟩) (by assumption) ?rest0_a1; (case hy0_a1 => ((intro w hSw); (try dsimp only at hSw); go_simp; first | done | (with_reducible rfl))))
    (try simp only [Act.put, List.setIfInBounds_toArray, List.set_cons_zero, List.set_cons_succ])
    (refine wpAnyH_take (i := 1) (oi := ⟨some 7, _, _, _, _, _⟩) (v := ?v1_a2) rfl (by kernel_rfl) (by kernel_rfl) (by kernel_rfl) (fun _ _ _ h => h) (Or.inl ⟨by rfl, ?hy1_a2⟩) (by assumption) ?rest1_a2; (case hy1_a2 => ((intro w hSw); (try dsimp only at hSw); go_simp; first | done | (with_reducible rfl))))
    (try simp only [Act.put, List.setIfInBounds_toArray, List.set_cons_zero, List.set_cons_succ])
    (refine wpAnyH_take (i := 2) (oi := ⟨some 8, _, _, _, _, _⟩) (v := ?v2_a3) rfl (by kernel_rfl) (by kernel_rfl) (by kernel_rfl) (fun _ _ _ h => h) (Or.inl ⟨by rfl, ?hy2_a3⟩) (by assumption) ?rest2_a3; (case hy2_a3 => ((intro w hSw); (try dsimp only at hSw); go_simp; first | done | (with_reducible rfl))))
    (try simp only [Act.put, List.setIfInBounds_toArray, List.set_cons_zero, List.set_cons_succ])
    refine wpAnyH_ready (rs := [3, 5]) (by kernel_rfl) (by simp) ?_
    refine AllReadyH.cons (o := ⟨some 9, _, _, _, _, _⟩) rfl (fun K hK => ?_) (AllReadyH.cons (o := ⟨some 5, _, _, _, _, _⟩) rfl (fun K hK => ?_) (AllReadyH.nil))
    · go_simp
      (go_at_call 81; (with_reducible refine (DN.out _ B_0.out).mono ?_); rintro e w_1 ⟨vd1, rfl, hI, hb⟩; obtain ⟨bdx, odx, ldx, cdx, rfl, H0⟩ := hI.open; have B_1 := Lib.hid (FRn.out _ _ B_0.out hb); have D_1 := Lib.hid (IsI.mk H0.out.1 H0.out.2.1); clear hb hI H0)
      refine hK.out _ _ ?_ (fun hHeld => ?_)
      · (try dsimp only)
        exact KS.out _ B_1.out
      clear hK K
      (try simp only [Act.put, List.setIfInBounds_toArray, List.set_cons_zero, List.set_cons_succ])
      refine wpAnyH_ready (rs := [4, 5]) (by kernel_rfl) (by simp) ?_
      refine AllReadyH.cons (o := ⟨some 10, _, _, _, _, _⟩) rfl (fun K hK => ?_) (AllReadyH.cons (o := ⟨some 5, _, _, _, _, _⟩) rfl (fun K hK => ?_) (AllReadyH.nil))
      · go_simp
        (go_at_call 51; (with_reducible refine (TM.out _ _ _ (NA.out _ B_1.out) D_1.out).mono ?_); rintro e w_2 ⟨vm2, rfl, hI, hb⟩; obtain ⟨bmx, omx, lmx, cmx, rfl, H0⟩ := hI.open; have B_2 := Lib.hid (FRn.out _ _ B_1.out hb); have M_2 := Lib.hid (IsI.mk H0.out.1 H0.out.2.1); clear hb hI H0)
        refine hK.out _ _ ?_ (fun hHeld => ?_)
        · (try dsimp only)
          exact KS.out _ B_2.out
        clear hK K
        (try simp only [Act.put, List.setIfInBounds_toArray, List.set_cons_zero, List.set_cons_succ])
        refine wpAnyH_ready (rs := [5]) (by kernel_rfl) (by simp) ?_
        refine AllReadyH.cons (o := ⟨some 5, _, _, _, _, _⟩) rfl (fun K hK => ?_) (AllReadyH.nil)
        go_simp
        have Z_3 := Lib.hid (Blk.new w_2 71 #[.bool false, .slice none 0 0])
        have B_3 := Lib.hid (FRn.out _ _ B_2.out (al_below0 (.cells #[.bool false, .slice none 0 0] 71)))
        have T_3 := Lib.hid (FRl.out _ B_2.out)
        have D_3 := Lib.hid (D_1.out.below (al_below0 (.cells #[.bool false, .slice none 0 0] 71)))
        have M_3 := Lib.hid (M_2.out.below (al_below0 (.cells #[.bool false, .slice none 0 0] 71)))
        refine hK.out _ _ ?_ (fun hHeld => ?_)
        · (try dsimp only)
          exact KS.out _ B_3.out
        clear hK K
        generalize w_2.alloc (.cells #[.bool false, .slice none 0 0] 71) = w_3 at *
        (try simp only [Act.put, List.setIfInBounds_toArray, List.set_cons_zero, List.set_cons_succ])
        refine wpAnyH_ready (rs := [6]) (by kernel_rfl) (by simp) ?_
        refine AllReadyH.cons (o := ⟨none, _, _, _, _, _⟩) rfl (fun K hK => ?_) (AllReadyH.nil)
        have c0 := Z_3.out.cell 0
        have c1 := Z_3.out.cell 1
        have f0 := Z_3.out.frozen 0
        have f1 := Z_3.out.frozen 1
        have ZF := Lib.hid ((Z_3.out.set_ 0 (.bool bmx)).set_ 1 (.slice omx lmx cmx))
        have BF := Lib.hid (FRs.out _ _ T_3.out 1 (.slice omx lmx cmx) (FRs.out _ _ T_3.out 0 (.bool bmx) B_3.out))
        have MF := Lib.hid (IsI.put M_3.out c0 (by intro x; simp) c1 (by intro x; simp) : IsI ((w_3.setCell ⟨w_2.heap.size, 0, none⟩ (.bool bmx)).setCell ⟨w_2.heap.size, 1, none⟩ (.slice omx lmx cmx)) _ m)
        unfold Iv
        go_simp
        refine hK.out _ _ ?_ (fun hHeld => ?_)
        · (try dsimp only)
          exact KS.out _ BF.out
        clear hK K
        generalize (w_3.setCell ⟨w_2.heap.size, 0, none⟩ (.bool bmx)).setCell ⟨w_2.heap.size, 1, none⟩ (.slice omx lmx cmx) = w_9 at *
        (try simp only [Act.put, List.setIfInBounds_toArray, List.set_cons_zero, List.set_cons_succ])
        refine wpAnyH_done (by kernel_rfl) ?_ _
        (try clear c0 c1 f0 f1)
        go_wp2
        go_meet
        exact ⟨_, bmx, omx, lmx, cmx, rfl, ZF, MF, BF⟩
      · go_simp
        have Z_4 := Lib.hid (Blk.new w_1 71 #[.bool false, .slice none 0 0])
        have B_4 := Lib.hid (FRn.out _ _ B_1.out (al_below0 (.cells #[.bool false, .slice none 0 0] 71)))
        have T_4 := Lib.hid (FRl.out _ B_1.out)
        have D_4 := Lib.hid (D_1.out.below (al_below0 (.cells #[.bool false, .slice none 0 0] 71)))
        refine hK.out _ _ ?_ (fun hHeld => ?_)
        · (try dsimp only)
          exact KS.out _ B_4.out
        clear hK K
        generalize w_1.alloc (.cells #[.bool false, .slice none 0 0] 71) = w_4 at *
        (try simp only [Act.put, List.setIfInBounds_toArray, List.set_cons_zero, List.set_cons_succ])
        refine wpAnyH_ready (rs := [4]) (by kernel_rfl) (by simp) ?_
        refine AllReadyH.cons (o := ⟨some 10, _, _, _, _, _⟩) rfl (fun K hK => ?_) (AllReadyH.nil)
        go_simp
        (go_at_call 51; (with_reducible refine (TM.out _ _ _ (NA.out _ B_4.out) D_4.out).mono ?_); rintro e w_5 ⟨vm5, rfl, hI, hb⟩; obtain ⟨bmx, omx, lmx, cmx, rfl, H0⟩ := hI.open; have B_5 := Lib.hid (FRn.out _ _ B_4.out hb); have M_5 := Lib.hid (IsI.mk H0.out.1 H0.out.2.1); have Z_5 := Lib.hid (Z_4.out.below hb Z_4.out.lt); clear hb hI H0)
        refine hK.out _ _ ?_ (fun hHeld => ?_)
        · (try dsimp only)
          exact KS.out _ B_5.out
        clear hK K
        (try simp only [Act.put, List.setIfInBounds_toArray, List.set_cons_zero, List.set_cons_succ])
        refine wpAnyH_ready (rs := [6]) (by kernel_rfl) (by simp) ?_
        refine AllReadyH.cons (o := ⟨none, _, _, _, _, _⟩) rfl (fun K hK => ?_) (AllReadyH.nil)
        have c0 := Z_5.out.cell 0
        have c1 := Z_5.out.cell 1
        have f0 := Z_5.out.frozen 0
        have f1 := Z_5.out.frozen 1
        have ZF := Lib.hid ((Z_5.out.set_ 0 (.bool bmx)).set_ 1 (.slice omx lmx cmx))
        have BF := Lib.hid (FRs.out _ _ T_4.out 1 (.slice omx lmx cmx) (FRs.out _ _ T_4.out 0 (.bool bmx) B_5.out))
        have MF := Lib.hid (IsI.put M_5.out c0 (by intro x; simp) c1 (by intro x; simp) : IsI ((w_5.setCell ⟨w_1.heap.size, 0, none⟩ (.bool bmx)).setCell ⟨w_1.heap.size, 1, none⟩ (.slice omx lmx cmx)) _ m)
        unfold Iv
        go_simp
        refine hK.out _ _ ?_ (fun hHeld => ?_)
        · (try dsimp only)
          exact KS.out _ BF.out
        clear hK K
        generalize (w_5.setCell ⟨w_1.heap.size, 0, none⟩ (.bool bmx)).setCell ⟨w_1.heap.size, 1, none⟩ (.slice omx lmx cmx) = w_9 at *
        (try simp only [Act.put, List.setIfInBounds_toArray, List.set_cons_zero, List.set_cons_succ])
        refine wpAnyH_done (by kernel_rfl) ?_ _
        (try clear c0 c1 f0 f1)
        go_wp2
        go_meet
        exact ⟨_, bmx, omx, lmx, cmx, rfl, ZF, MF, BF⟩
    · go_simp
      have Z_6 := Lib.hid (Blk.new w_0 71 #[.bool false, .slice none 0 0])
      have B_6 := Lib.hid (FRn.out _ _ B_0.out (al_below0 (.cells #[.bool false, .slice none 0 0] 71)))
      have T_6 := Lib.hid (FRl.out _ B_0.out)
      refine hK.out _ _ ?_ (fun hHeld => ?_)
      · (try dsimp only)
        exact KS.out _ B_6.out
      clear hK K
      generalize w_0.alloc (.cells #[.bool false, .slice none 0 0] 71) = w_6 at *
      (try simp only [Act.put, List.setIfInBounds_toArray, List.set_cons_zero, List.set_cons_succ])
      refine wpAnyH_ready (rs := [3]) (by kernel_rfl) (by simp) ?_
      refine AllReadyH.cons (o := ⟨some 9, _, _, _, _, _⟩) rfl (fun K hK => ?_) (AllReadyH.nil)
      go_simp
      (go_at_call 81; (with_reducible refine (DN.out _ B_6.out).mono ?_); rintro e w_7 ⟨vd7, rfl, hI, hb⟩; obtain ⟨bdx, odx, ldx, cdx, rfl, H0⟩ := hI.open; have B_7 := Lib.hid (FRn.out _ _ B_6.out hb); have D_7 := Lib.hid (IsI.mk H0.out.1 H0.out.2.1); have Z_7 := Lib.hid (Z_6.out.below hb Z_6.out.lt); clear hb hI H0)
      refine hK.out _ _ ?_ (fun hHeld => ?_)
      · (try dsimp only)
        exact KS.out _ B_7.out
      clear hK K
      (try simp only [Act.put, List.setIfInBounds_toArray, List.set_cons_zero, List.set_cons_succ])
      refine wpAnyH_ready (rs := [4]) (by kernel_rfl) (by simp) ?_
      refine AllReadyH.cons (o := ⟨some 10, _, _, _, _, _⟩) rfl (fun K hK => ?_) (AllReadyH.nil)
      go_simp
      (go_at_call 51; (with_reducible refine (TM.out _ _ _ (NA.out _ B_7.out) D_7.out).mono ?_); rintro e w_8 ⟨vm8, rfl, hI, hb⟩; obtain ⟨bmx, omx, lmx, cmx, rfl, H0⟩ := hI.open; have B_8 := Lib.hid (FRn.out _ _ B_7.out hb); have M_8 := Lib.hid (IsI.mk H0.out.1 H0.out.2.1); have Z_8 := Lib.hid (Z_7.out.below hb Z_7.out.lt); clear hb hI H0)
      refine hK.out _ _ ?_ (fun hHeld => ?_)
      · (try dsimp only)
        exact KS.out _ B_8.out
      clear hK K
      (try simp only [Act.put, List.setIfInBounds_toArray, List.set_cons_zero, List.set_cons_succ])
      refine wpAnyH_ready (rs := [6]) (by kernel_rfl) (by simp) ?_
      refine AllReadyH.cons (o := ⟨none, _, _, _, _, _⟩) rfl (fun K hK => ?_) (AllReadyH.nil)
      have c0 := Z_8.out.cell 0
      have c1 := Z_8.out.cell 1
      have f0 := Z_8.out.frozen 0
      have f1 := Z_8.out.frozen 1
      have ZF := Lib.hid ((Z_8.out.set_ 0 (.bool bmx)).set_ 1 (.slice omx lmx cmx))
      have BF := Lib.hid (FRs.out _ _ T_6.out 1 (.slice omx lmx cmx) (FRs.out _ _ T_6.out 0 (.bool bmx) B_8.out))
      have MF := Lib.hid (IsI.put M_8.out c0 (by intro x; simp) c1 (by intro x; simp) : IsI ((w_8.setCell ⟨w_0.heap.size, 0, none⟩ (.bool bmx)).setCell ⟨w_0.heap.size, 1, none⟩ (.slice omx lmx cmx)) _ m)
      unfold Iv
      go_simp
      refine hK.out _ _ ?_ (fun hHeld => ?_)
      · (try dsimp only)
        exact KS.out _ BF.out
      clear hK K
      generalize (w_8.setCell ⟨w_0.heap.size, 0, none⟩ (.bool bmx)).setCell ⟨w_0.heap.size, 1, none⟩ (.slice omx lmx cmx) = w_9 at *
      (try simp only [Act.put, List.setIfInBounds_toArray, List.set_cons_zero, List.set_cons_succ])
      refine wpAnyH_done (by kernel_rfl) ?_ _
      (try clear c0 c1 f0 f1)
      go_wp2
      go_meet
      exact ⟨_, bmx, omx, lmx, cmx, rfl, ZF, MF, BF⟩
  case rest =>
    as_aux_lemma =>
    obtain ⟨T5, bm, om, lm, cm, rfl, ZG, MG, BG⟩ := hcut
    obtain ⟨w4, hw4⟩ : ∃ v, v = wc := ⟨_, rfl⟩
    rw [← hw4] at ZG MG BG ⊢
    clear hw4
    obtain ⟨x0, x1, x2, x3, x4, x5⟩ := KS.out _ BG.out
    go_upto_region 4 with fail
    clear x0 x1 x2 x3 x4 x5
    have KS4 : Hid (∀ V, Below w4.heap.size w4 V → V.cell? ⟨w.heap.size, 0, none⟩ = some (.bool ba) ∧ V.cell? ⟨w.heap.size, 1, none⟩ = some (.slice oa1 la1 ca1) ∧ V.cell? ⟨w.heap.size, 2, none⟩ = some (.slice oa2 la2 ca2) ∧ V.cell? ⟨w.heap.size + 1, 0, none⟩ = some (.bool false) ∧ V.cell? ⟨w.heap.size + 1, 1, none⟩ = some (.slice od1 ld1 cd1) ∧ V.cell? ⟨w.heap.size + 1, 2, none⟩ = some (.slice od2 ld2 cd2) ∧ V.cell? ⟨T5, 0, none⟩ = some (.bool bm) ∧ V.cell? ⟨T5, 1, none⟩ = some (.slice om lm cm)) := Lib.hid (fun V hV => by
      obtain ⟨x0, x1, x2, x3, x4, x5⟩ := KS.out _ (FRn.out _ _ BG.out hV)
      have z := ZG.out.below hV ZG.out.lt
      exact ⟨x0, x1, x2, x3, x4, x5, z.cell 0, z.cell 1⟩)
    have KS5 : Hid (∀ (V : World) (u0 u1 u2 : Value), Below w4.heap.size w4 V → (fun V : World => V.cell? ⟨w.heap.size, 0, none⟩ = some (.bool ba) ∧ V.cell? ⟨w.heap.size, 1, none⟩ = some (.slice oa1 la1 ca1) ∧ V.cell? ⟨w.heap.size, 2, none⟩ = some (.slice oa2 la2 ca2) ∧ V.cell? ⟨w.heap.size + 1, 0, none⟩ = some (.bool false) ∧ V.cell? ⟨w.heap.size + 1, 1, none⟩ = some (.slice od1 ld1 cd1) ∧ V.cell? ⟨w.heap.size + 1, 2, none⟩ = some (.slice od2 ld2 cd2) ∧ V.cell? ⟨T5, 0, none⟩ = some (.bool bm) ∧ V.cell? ⟨T5, 1, none⟩ = some (.slice om lm cm)) (((V.setCell ⟨w.heap.size + 1 + 1, 0, none⟩ u0).setCell ⟨w.heap.size + 1 + 1, 1, none⟩ u1).setCell ⟨w.heap.size + 1 + 1, 2, none⟩ u2)) := Lib.hid (fun V u0 u1 u2 hV => by
      have f := FRn.out _ _ BG.out hV
      rw [HFR.out] at f
      have z := ZG.out.below hV ZG.out.lt
      have hT : ¬ T5 = w.heap.size + 1 + 1 := fun e => by
        have g := FRr.out _ BG.out
        rw [← e] at g
        have := (show w4.heap[T5]? = _ from ZG.out).symm.trans (show w4.heap[T5]? = _ from g)
        simp at this
      have e0 : ¬ w.heap.size = w.heap.size + 1 + 1 := by omega
      have e1 : ¬ w.heap.size + 1 = w.heap.size + 1 + 1 := by omega
      have a := ((f.2.1.far (p := ⟨w.heap.size + 1 + 1, 0, none⟩) e0 u0).far (p := ⟨w.heap.size + 1 + 1, 1, none⟩) e0 u1).far (p := ⟨w.heap.size + 1 + 1, 2, none⟩) e0 u2
      have b := ((f.2.2.1.far (p := ⟨w.heap.size + 1 + 1, 0, none⟩) e1 u0).far (p := ⟨w.heap.size + 1 + 1, 1, none⟩) e1 u1).far (p := ⟨w.heap.size + 1 + 1, 2, none⟩) e1 u2
      have t := ((z.far (p := ⟨w.heap.size + 1 + 1, 0, none⟩) hT u0).far (p := ⟨w.heap.size + 1 + 1, 1, none⟩) hT u1).far (p := ⟨w.heap.size + 1 + 1, 2, none⟩) hT u2
      exact ⟨a.cell 0, a.cell 1, a.cell 2, b.cell 0, b.cell 1, b.cell 2, t.cell 0, t.cell 1⟩)
    have Y_0 : Hid (Below w4.heap.size w4 w4.drew) := Lib.hid (below_drw (Below.refl _ _) 1)
    refine wp_region_held_drew (S := fun V => V.cell? ⟨w.heap.size, 0, none⟩ = some (.bool ba) ∧ V.cell? ⟨w.heap.size, 1, none⟩ = some (.slice oa1 la1 ca1) ∧ V.cell? ⟨w.heap.size, 2, none⟩ = some (.slice oa2 la2 ca2) ∧ V.cell? ⟨w.heap.size + 1, 0, none⟩ = some (.bool false) ∧ V.cell? ⟨w.heap.size + 1, 1, none⟩ = some (.slice od1 ld1 cd1) ∧ V.cell? ⟨w.heap.size + 1, 2, none⟩ = some (.slice od2 ld2 cd2) ∧ V.cell? ⟨T5, 0, none⟩ = some (.bool bm) ∧ V.cell? ⟨T5, 1, none⟩ = some (.slice om lm cm)) (by kernel_rfl) ?_ (fun hHeld => ?_)
    · exact KS4.out _ Y_0.out
    have hHd := hHeld
    generalize w4.drew = y_0 at *
    (refine wpAnyH_take (i := 0) (oi := ⟨some 16, _, _, _, _, _⟩) (v := ?v0_b1) rfl (by kernel_rfl) (by kernel_rfl) (by kernel_rfl) (fun _ _ _ h => h) (Or.inl ⟨by rfl, ?hy0_b1⟩) (by assumption) ?rest0_b1; (case hy0_b1 => ((intro w hSw); (try dsimp only at hSw); go_simp; first | done | (with_reducible rfl))))
    (try simp only [Act.put, List.setIfInBounds_toArray, List.set_cons_zero, List.set_cons_succ])
    (refine wpAnyH_take (i := 1) (oi := ⟨some 17, _, _, _, _, _⟩) (v := ?v1_b2) rfl (by kernel_rfl) (by kernel_rfl) (by kernel_rfl) (fun _ _ _ h => h) (Or.inl ⟨by rfl, ?hy1_b2⟩) (by assumption) ?rest1_b2; (case hy1_b2 => ((intro w hSw); (try dsimp only at hSw); go_simp; first | done | (with_reducible rfl))))
    (try simp only [Act.put, List.setIfInBounds_toArray, List.set_cons_zero, List.set_cons_succ])
    (refine wpAnyH_take (i := 2) (oi := ⟨some 18, _, _, _, _, _⟩) (v := ?v2_b3) rfl (by kernel_rfl) (by kernel_rfl) (by kernel_rfl) (fun _ _ _ h => h) (Or.inl ⟨by rfl, ?hy2_b3⟩) (by assumption) ?rest2_b3; (case hy2_b3 => ((intro w hSw); (try dsimp only at hSw); go_simp; first | done | (with_reducible rfl))))
    (try simp only [Act.put, List.setIfInBounds_toArray, List.set_cons_zero, List.set_cons_succ])
    (refine wpAnyH_take (i := 3) (oi := ⟨some 19, _, _, _, _, _⟩) (v := ?v3_b4) rfl (by kernel_rfl) (by kernel_rfl) (by kernel_rfl) (fun _ _ _ h => h) (Or.inl ⟨by rfl, ?hy3_b4⟩) (by assumption) ?rest3_b4; (case hy3_b4 => ((intro w hSw); (try dsimp only at hSw); go_simp; first | done | (with_reducible rfl))))
    (try simp only [Act.put, List.setIfInBounds_toArray, List.set_cons_zero, List.set_cons_succ])
    (refine wpAnyH_take (i := 4) (oi := ⟨some 20, _, _, _, _, _⟩) (v := ?v4_b5) rfl (by kernel_rfl) (by kernel_rfl) (by kernel_rfl) (fun _ _ _ h => h) (Or.inl ⟨by rfl, ?hy4_b5⟩) (by assumption) ?rest4_b5; (case hy4_b5 => ((intro w hSw); (try dsimp only at hSw); go_simp; first | done | (with_reducible rfl))))
    (try simp only [Act.put, List.setIfInBounds_toArray, List.set_cons_zero, List.set_cons_succ])
    (refine wpAnyH_take (i := 5) (oi := ⟨some 21, _, _, _, _, _⟩) (v := ?v5_b6) rfl (by kernel_rfl) (by kernel_rfl) (by kernel_rfl) (fun _ _ _ h => h) (Or.inl ⟨by rfl, ?hy5_b6⟩) (by assumption) ?rest5_b6; (case hy5_b6 => ((intro w hSw); (try dsimp only at hSw); go_simp; first | done | (with_reducible rfl))))
    (try simp only [Act.put, List.setIfInBounds_toArray, List.set_cons_zero, List.set_cons_succ])
    refine wpAnyH_ready (rs := [6]) (by kernel_rfl) (by simp) ?_
    refine AllReadyH.cons (o := ⟨some 22, _, _, _, _, _⟩) rfl (fun K hK => ?_) (AllReadyH.nil)
    go_simp
    (go_at_call 79; (with_reducible refine (TN.out _ _ _ (NQ.out _ (FRn.out _ _ BG.out Y_0.out)) (NR.out _ (FRn.out _ _ BG.out Y_0.out))).mono ?_); rintro e y_1 ⟨vn, rfl, hN, hb⟩; have Y_1 := Lib.hid (Y_0.out.trans (hb.mono Y_0.out.size)); have HN := Lib.hid hN; clear hN hb)
    refine hK.out _ _ ?_ (fun hHeld => ?_)
    · (try dsimp only)
      exact KS4.out _ Y_1.out
    clear hK K
    (try simp only [Act.put, List.setIfInBounds_toArray, List.set_cons_zero, List.set_cons_succ])
    refine wpAnyH_ready (rs := [7]) (by kernel_rfl) (by simp) ?_
    refine AllReadyH.cons (o := ⟨some 23, _, _, _, _, _⟩) rfl (fun K hK => ?_) (AllReadyH.nil)
    go_simp
    (go_at_call 37; (with_reducible refine (MK.out _ _ _ (MG.out.below Y_1.out) HN.out).mono ?_); rintro e y_2 ⟨bv, o1, l1, c1, o2, l2, c2, rfl, hv, hb⟩; have Y_2 := Lib.hid (Y_1.out.trans (hb.mono Y_1.out.size)); have HV := Lib.hid hv.out; clear hv hb)
    refine hK.out _ _ ?_ (fun hHeld => ?_)
    · (try dsimp only)
      exact KS4.out _ Y_2.out
    clear hK K
    (try simp only [Act.put, List.setIfInBounds_toArray, List.set_cons_zero, List.set_cons_succ])
    refine wpAnyH_ready (rs := [8]) (by kernel_rfl) (by simp) ?_
    refine AllReadyH.cons (o := ⟨none, _, _, _, _, _⟩) rfl (fun K hK => ?_) (AllReadyH.nil)
    have b2 := FRr.out _ (FRn.out _ _ BG.out Y_2.out)
    have r0 := b2.cell 0
    have r1 := b2.cell 1
    have r2 := b2.cell 2
    have f0 := b2.frozen 0
    have f1 := b2.frozen 1
    have f2 := b2.frozen 2
    have Q1 := Lib.hid (((b2.set_ 0 (.bool bv)).set_ 1 (.slice o1 l1 c1)).set_ 2 (.slice o2 l2 c2))
    have KT := Lib.hid (KS5.out _ (.bool bv) (.slice o1 l1 c1) (.slice o2 l2 c2) Y_2.out)
    have BE := Lib.hid (((((FRb.out _ (FRn.out _ _ BG.out Y_2.out)).setCell (p := ⟨w.heap.size + 1 + 1, 0, none⟩) (by show w.heap.size ≤ w.heap.size + 1 + 1; omega) (.bool bv)).setCell (p := ⟨w.heap.size + 1 + 1, 1, none⟩) (by show w.heap.size ≤ w.heap.size + 1 + 1; omega) (.slice o1 l1 c1)).setCell (p := ⟨w.heap.size + 1 + 1, 2, none⟩) (by show w.heap.size ≤ w.heap.size + 1 + 1; omega) (.slice o2 l2 c2)))
    have E1 := Lib.hid (IsN.store3 HV.out.2.1 r0 r1 r2 : IsN (((y_2.setCell ⟨w.heap.size + 1 + 1, 0, none⟩ (.bool bv)).setCell ⟨w.heap.size + 1 + 1, 1, none⟩ (.slice o1 l1 c1)).setCell ⟨w.heap.size + 1 + 1, 2, none⟩ (.slice o2 l2 c2)) _ _)
    have E2 := Lib.hid (IsN.store3 HV.out.2.2 r0 r1 r2 : IsN (((y_2.setCell ⟨w.heap.size + 1 + 1, 0, none⟩ (.bool bv)).setCell ⟨w.heap.size + 1 + 1, 1, none⟩ (.slice o1 l1 c1)).setCell ⟨w.heap.size + 1 + 1, 2, none⟩ (.slice o2 l2 c2)) _ _)
    (try unfold Rv)
    go_simp
    refine hK.out _ _ ?_ (fun hHeld => ?_)
    · (try dsimp only)
      exact KT.out
    clear hK K
    (try simp only [Act.put, List.setIfInBounds_toArray, List.set_cons_zero, List.set_cons_succ])
    refine wpAnyH_done (by kernel_rfl) ?_ _
    clear r0 r1 r2 f0 f1 f2 b2
    have r0 := Q1.out.cell 0
    have r1 := Q1.out.cell 1
    have r2 := Q1.out.cell 2
    go_wp2
    refine bodyPost_ret (v := .agg #[.bool bv, .slice o1 l1 c1, .slice o2 l2 c2]) (by simp [results, Tryz.results56, go_sem, r0, r1, r2]) rfl ⟨bv, o1, l1, c1, o2, l2, c2, rfl, ⟨HV.out.1, E1.out, E2.out⟩, BE.out⟩
set_option maxRecDepth 100000 in
set_option maxHeartbeats 4000000 in
theorem rsign_any (x : Value) (p : Int) (q : Nat) (w : World) (h : IsR w x p q) : Calls Tryz.prog 59 #[x] w fun e w' => e = .returned (.int .i64 (sg p 0)) ∧ Below w.heap.size w w' := by
  obtain ⟨ba, oa1, la1, ca1, oa2, la2, ca2, rfl, Ha⟩ := h
  have B1 := Lib.hid ((Below.refl w.heap.size w).alloc (Nat.le_refl _) (.cells #[.bool ba, .slice oa1 la1 ca1, .slice oa2 la2 ca2] 76))
  have hb := Blk.new w 76 #[.bool ba, .slice oa1 la1 ca1, .slice oa2 la2 ca2]
  have x0 := hb.cell 0
  have x1 := hb.cell 1
  have x2 := hb.cell 2
  clear hb
  have KI := Lib.hid (isign_any (Iv ba (.slice oa1 la1 ca1)) p _ ((IsI.mk Ha.out.1 Ha.out.2.1).below B1.out))
  go_enter Tryz.func59, Tryz.ntmps59
  go_wp2_with (go_at_call 87; (with_reducible refine KI.out.mono ?_); rintro e w2 ⟨rfl, hb2⟩; have B2 := Lib.hid (B1.out.trans (hb2.mono B1.out.size)); clear hb2)
  go_ret
  exact ⟨rfl, B2.out⟩
end Go.Proofs.YtldchepfcgbpiaaGreat
