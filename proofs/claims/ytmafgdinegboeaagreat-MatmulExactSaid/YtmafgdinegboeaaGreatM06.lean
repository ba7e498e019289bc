/-
  
  
  
  
  
-/
import Derived.Deep.RegionHeld3
import Derived.OrdersIn
import Derived.OwnWalkIn
import Derived.Deep.QuietTactic
import Derived.BigQuiet
import Derived.Test.YtmafgdinegboeaaGreatM01
import Derived.Test.YtmafgdinegboeaaGreatM02
import Derived.Test.YtmafgdinegboeaaGreatM04
import Derived.Test.YtmafgdinegboeaaGreatM05
namespace Go.Proofs.YtmafgdinegboeaaGreat
open Go Go.RowKit

def nodf : Op → Bool
  | .defer _ => false
  | _ => true
theorem rows_in {P : Program} {n l : Nat} {row : String} {args : Array Value} {w : World} {R : Value → World → Prop} (h : Rows P row args w R) : RowsIn (Fence.wide.inRound l) n P row args w R := fun c cs _ =>
  let ⟨v, w', r, s⟩ := h c cs
  ⟨v, w', r, stepsIn_wide.2 s⟩
theorem oper_in {P : Program} {n l : Nat} {o : Oper} {a : Act} {w : World} {K : Act → World → Prop} {Q : Exit → Act → World → Prop} (hd : nodf o.op = true) (h : o.wp P a w K Q) : o.wpIn (Fence.wide.inRound l) n P a w K Q := by
  refine ⟨fun _ _ => trivial, ?_⟩
  rw [Oper.semAt_plain _ _ _ (fun c hc => by rw [hc] at hd; cases hd)]
  unfold Oper.wp at h
  generalize (execOp a.eval o).run P w = r at *
  cases r with
  | ok x w' =>
    cases x <;> simp only [Oper.uponIn, Oper.upon] at h ⊢ <;>
      first
        | exact h
        | exact ⟨(fun h0 => by cases h0), callsIn_wide.2 h⟩
        | exact ⟨(fun h0 => by cases h0), rows_in h⟩
  | halt x w' => cases x <;> simp only [Oper.uponIn, Oper.upon] at h ⊢ <;> exact h
theorem any_in {P : Program} {n l : Nat} {md : Region.Mode} {ops : Array Oper} {Q : Exit → Act → World → Prop} (hd : (ops.toList.all fun o => nodf o.op) = true) (hQ : ¬ LetsOut Q) :
    ∀ (fuel : Nat) (listed : Array Bool) (a : Act) (w : World), wpAny P md ops Q fuel listed a w → wpAnyIn (Fence.wide.inRound l) n P md ops Q fuel listed a w
  | 0, _, _, _, h => h
  | fuel + 1, listed, a, w, h => by
    refine ⟨h.1, fun i hi => ?_⟩
    have h1 := h.2 i hi
    unfold wpOp at h1
    unfold wpOpIn
    cases e : ops[i]? with
    | none =>
      simp only [e] at h1 ⊢
      exact any_in hd hQ fuel _ _ _ h1
    | some o =>
      have ho : nodf o.op = true := by
        have := List.all_eq_true.1 hd o (by
          have h2 := Array.getElem?_eq_some_iff.1 e
          rw [← h2.2]; simp)
        simpa using this
      simp only [e] at h1 ⊢
      split
      · rename_i hw
        simp only [hw, if_true] at h1
        rcases h1 with h1 | ⟨_, h1⟩
        · exact Oper.wpIn_mono (fun a' w' h' => any_in hd hQ fuel _ _ _ h') (oper_in ho h1)
        · exact absurd h1 hQ
      · rename_i hw
        simp only [hw] at h1
        exact ⟨fun _ _ => trivial, any_in hd hQ fuel _ _ _ h1⟩
theorem region_in {P : Program} {n l id : Nat} {ops : Array Oper} {R : World → Prop} {S : World → Prop} {a : Act} {W : World} (hd : (ops.toList.all fun o => nodf o.op) = true) (hm : P.follows .mixedOrders = true) (hS : S W.drew)
    (h : S W.drew → wpAnyH P .any ops (fun e _ W2 => e = .normal ∧ R W2) S ops.size (Array.replicate ops.size false) a W.drew) : (Code.region id ops true).wpIn (Fence.wide.inRound l) n P (fun e _ W2 => e = .normal ∧ R W2) a W :=
  wpIn_region_any hm (any_in hd (fun ⟨_, _, h⟩ => by cases h.1) _ _ _ _ (wpAny_of_held _ _ _ _ (h hS)))
theorem region_inA {P : Program} {n l id : Nat} {ops : Array Oper} {R : Act → World → Prop} {S : World → Prop} {a : Act} {W : World} (hd : (ops.toList.all fun o => nodf o.op) = true) (hm : P.follows .mixedOrders = true) (hS : S W.drew)
    (h : S W.drew → wpAnyH P .any ops (fun e a2 W2 => e = .normal ∧ R a2 W2) S ops.size (Array.replicate ops.size false) a W.drew) : (Code.region id ops true).wpIn (Fence.wide.inRound l) n P (fun e a2 W2 => e = .normal ∧ R a2 W2) a W :=
  wpIn_region_any hm (any_in hd (fun ⟨_, _, h⟩ => by cases h.1) _ _ _ _ (wpAny_of_held _ _ _ _ (h hS)))
end Go.Proofs.YtmafgdinegboeaaGreat
namespace Go.Proofs.YtmafgdinegboeaaGreat
open Go.RowKit
attribute [local go_sem ↓] Go.wp_at_zero Go.wp_at_succ

def SomeW (w : World) (sh st : List Int) (off : Int) (e : Ending) (w' : World) : Prop := ∃ os cs ot ct, e = .returned (.agg #[.slice os sh.length cs, .slice ot st.length ct, .int .i64 off]) ∧ Ov w' w.heap.size (.slice os sh.length cs) (.slice ot st.length ct) sh st ∧ Below w.heap.size w w'
theorem someW_end {w W : World} {b : Nat} {os ot : Option Addr} {ns nt cs ct : Nat} {off : Int} {sh st : List Int} {x : Array Value} (hb : w.heap.size ≤ b) (hB : Below w.heap.size w W) (hx : Blk W b 168 x) (e1 : ns = sh.length) (e2 : nt = st.length)
    (ho : Ov W w.heap.size (.slice os ns cs) (.slice ot nt ct) sh st) :
    SomeW w sh st off (.returned (.agg #[.slice os ns cs, .slice ot nt ct, .int .i64 off])) (((W.setCell ⟨b, 0, none⟩ (.slice os ns cs)).setCell ⟨b, 1, none⟩ (.slice ot nt ct)).setCell ⟨b, 2, none⟩ (.int .i64 off)) := by
  obtain ⟨os, cs, ot, ct, e, h1, h2⟩ := someV_end (er := 0) (off := off) hb hB hx e1 e2 ho
  simp only [Ending.returned.injEq, Value.tuple.injEq] at e
  refine ⟨os, cs, ot, ct, ?_, h1, h2⟩
  simp only [Array.mk.injEq, List.cons.injEq, and_true] at e
  rw [e]

set_option maxRecDepth 100000 in
set_option maxHeartbeats 4000000 in
theorem rtranspose_any (vs vt va : Value) (sh st ax : List Int) (off : Int) (w : World) (hs : Ld w vs sh) (ht : Ld w vt st) (ha : Ld w va ax) (hlt0 : st.length = sh.length) (l4 : sh.length ≤ 4) (hax : axs ax sh.length = true) :
    Calls Tryz.prog 100 #[.agg #[vs, vt, .int .i64 off], va] w (SomeW w (trl sh ax) (trl st ax) off) := by
  obtain ⟨i0, hi0, hz0, hz1, hz2⟩ := info_parts infoI
  obtain ⟨w2, hw2⟩ : ∃ w2, w2 = (w.alloc (.cells #[vs, vt, .int .i64 off] 168)).alloc (.cells #[.slice none 0 0, .slice none 0 0, .int .i64 0] 168) := ⟨_, rfl⟩
  have hsz : w2.heap.size = w.heap.size + 2 := by rw [hw2]; simp
  have B2 : Hid (Below w.heap.size w w2) := by rw [hw2]; exact ((Below.refl _ _).alloc (Nat.le_refl _) _).alloc (by simp) _
  have Y0 : Hid (Blk w2 w.heap.size 168 #[vs, vt, .int .i64 off]) := by rw [hw2]; exact (Blk.new w _ _).alloc _
  have Y1 : Hid (Blk w2 (w.heap.size + 1) 168 #[.slice none 0 0, .slice none 0 0, .int .i64 0]) := by
    rw [hw2]
    have := Blk.new (w.alloc (.cells #[vs, vt, .int .i64 off] 168)) 168 #[.slice none 0 0, .slice none 0 0, .int .i64 0]
    rwa [World.size_alloc] at this
  obtain ⟨os, cs, rfl, _, hxs⟩ := hs
  obtain ⟨ot, ct, rfl, _, hxt⟩ := ht
  obtain ⟨oa, ca, rfl, _, hxa⟩ := ha
  have HS := Lib.hid hxs
  have HT := Lib.hid hxt
  have HA := Lib.hid hxa
  clear hxs hxt hxa
  have lsx := Lib.hid (axs_len hax)
  have HV := Lib.hid (And.intro hlt0 hax)
  have HW := Lib.hid (And.intro hw2 hsz)
  have l5 : ax.length ≤ 4 := by have := lsx.out; omega
  clear hlt0 hax hw2 hsz
  go_enter Tryz.func100, Tryz.ntmps100
  go_wp2
  go_loopw [6] (fun s6 wr => ∃ (k : Nat) (us ut : Value), k ≤ ax.length ∧ s6 = .int .i64 k ∧ Blk wr (w.heap.size + 2) 168 #[us, ut, .int .i64 off] ∧ Hid (wr.ownsRow (w.heap.size + 2) 3 1 us k (ints ((trl sh ax).take k)) ∧ wr.ownsRow (w.heap.size + 2) 3 1 ut k (ints ((trl st ax).take k)) ∧ (∀ g, us.ownBlock = some g → ¬ ut.ownBlock = some g)) ∧ Hid (Below (w.heap.size + 2) w2 wr)) (fun s6 _ => ax.length - (intOf s6).toNat)
  case atStart =>
    refine ⟨0, .slice none 0 0, .slice none 0 0, Nat.zero_le _, rfl, ?_, ⟨World.ownsRow_nil _ _ _ _, World.ownsRow_nil _ _ _ _, fun g h => by simp [Value.ownBlock] at h⟩, ?_⟩
    · have := Blk.new ((w.alloc (.cells #[.slice os sh.length cs, .slice ot st.length ct, .int .i64 off] 168)).alloc (.cells #[.slice none 0 0, .slice none 0 0, .int .i64 0] 168)) 168 #[.slice none 0 0, .slice none 0 0, .int .i64 off]
      simpa using this
    · rw [HW.out.1]
      exact (Below.refl _ _).alloc (by simp) _
  case round =>
    obtain ⟨k, us, ut, hk, rfl, hb, HO, HB⟩ := hrel
    by_cases hlt : k < ax.length
    · obtain ⟨a, ea, alt⟩ := axs_at HV.out.2 hlt
      obtain ⟨ba, fa, rfl, na, xa⟩ := HA.out k hlt
      obtain ⟨bs, fs, rfl, ns, xs⟩ := HS.out a alt
      obtain ⟨bt, ft, rfl, nt, xt⟩ := HT.out a (by have := HV.out.1; omega)
      have old2 : ∀ (p : Addr) (v : Value), p.block < w.heap.size → w.cell? p = some v → ∀ W, Below (w.heap.size + 2) w2 W → W.cell? p = some v := fun p v h1 h2 W hW => ((hW.cell (p := p) (by omega)).trans (B2.out.cell (p := p) h1)).trans h2
      have OLD := Lib.hid (fun (W : World) (hW : Below (w.heap.size + 2) w2 W) => And.intro (by have := old2 _ _ na xa W hW; rw [ea] at this; exact this) (And.intro (old2 _ _ ns xs W hW) (And.intro (old2 _ _ nt xt W hW) (blk3 (Y0.out.below hW (by omega))))))
      have EA : Hid ((trl sh ax).take (k + 1) = (trl sh ax).take k ++ [sh.getD a 0] ∧ (trl st ax).take (k + 1) = (trl st ax).take k ++ [st.getD a 0]) := ⟨trl_snoc hlt ea, trl_snoc hlt ea⟩
      have ZB := Lib.hid hb
      obtain ⟨xa', xs', xt', c0, c1, c2, _⟩ := OLD.out wr HB.out
      obtain ⟨t0, t1, t2, g0, g1, g2⟩ := blk3 hb
      have yw := hb.lt
      have AL : Hid (a < sh.length ∧ a < st.length) := ⟨alt, by have := HV.out.1; omega⟩
      have al1 := AL.out.1
      have al2 := AL.out.2
      clear xa xs xt hb ea old2
      generalize sh.getD a 0 = d at *
      generalize st.getD a 0 = s at *
      go_wp2
      go_cut [6] (fun s6 wx => s6 = .int .i64 k ∧ ∃ u1, Blk wx (w.heap.size + 2) 168 #[u1, ut, .int .i64 off] ∧ Hid (wx.ownsRow (w.heap.size + 2) 3 1 u1 (k + 1) (ints ((trl sh ax).take (k + 1))) ∧ wx.ownsRow (w.heap.size + 2) 3 1 ut k (ints ((trl st ax).take k)) ∧ (∀ g, u1.ownBlock = some g → ¬ ut.ownBlock = some g)) ∧ Hid (Below (w.heap.size + 2) w2 wx))
      case first =>
        refine wp_region_held_drew (S := (fun W => W.cell? ⟨w.heap.size, 0, none⟩ = some (.slice (some ⟨bs, fs, none⟩) sh.length cs) ∧ W.cell? ⟨bs, fs + a, none⟩ = some (.int .i64 d) ∧ W.cell? ⟨ba, fa + k, none⟩ = some (.int .i64 a))) (by kernel_rfl) ?_ (fun hHeld => ?_)
        · (try dsimp only)
          first | assumption | go_keep | exact ⟨(e9.out _).2.2.2.1, (e9.out _).2.1, (e9.out _).1⟩
        have hHd := hHeld
        (refine tk (i := 0) (oi := ⟨some 16, _, _, _, _, _⟩) (v := ?v0_16) rfl ?hy0_16 ?rest0_16; (case hy0_16 => intro w hSw; (try dsimp only at hSw); go_simp; first | done | with_reducible rfl))
        (try simp only [Act.put, pq])
        (refine tk (i := 2) (oi := ⟨some 18, _, _, _, _, _⟩) (v := ?v2_16) rfl ?hy2_16 ?rest2_16; (case hy2_16 => intro w hSw; (try dsimp only at hSw); go_simp; first | done | with_reducible rfl))
        (try simp only [Act.put, pq])
        (refine tk (i := 3) (oi := ⟨some 19, _, _, _, _, _⟩) (v := ?v3_16) rfl ?hy3_16 ?rest3_16; (case hy3_16 => intro w hSw; (try dsimp only at hSw); go_simp; first | done | with_reducible rfl))
        (try simp only [Act.put, pq])
        (refine tk (i := 4) (oi := ⟨some 20, _, _, _, _, _⟩) (v := ?v4_16) rfl ?hy4_16 ?rest4_16; (case hy4_16 => intro w hSw; (try dsimp only at hSw); go_simp; first | done | with_reducible rfl))
        (try simp only [Act.put, pq])
        (refine tk (i := 5) (oi := ⟨some 21, _, _, _, _, _⟩) (v := ?v5_16) rfl ?hy5_16 ?rest5_16; (case hy5_16 => intro w hSw; (try dsimp only at hSw); go_simp; first | done | with_reducible rfl))
        (try simp only [Act.put, pq])
        (refine tk (i := 6) (oi := ⟨some 22, _, _, _, _, _⟩) (v := ?v6_16) rfl ?hy6_16 ?rest6_16; (case hy6_16 => intro w hSw; (try dsimp only at hSw); go_simp; first | done | with_reducible rfl))
        (try simp only [Act.put, pq])
        (refine tk (i := 7) (oi := ⟨some 23, _, _, _, _, _⟩) (v := ?v7_16) rfl ?hy7_16 ?rest7_16; (case hy7_16 => intro w hSw; (try dsimp only at hSw); go_simp; first | done | with_reducible rfl))
        (try simp only [Act.put, pq])
        (refine tk (i := 8) (oi := ⟨some 24, _, _, _, _, _⟩) (v := ?v8_16) rfl ?hy8_16 ?rest8_16; (case hy8_16 => intro w hSw; (try dsimp only at hSw); go_simp; first | done | with_reducible rfl))
        (try simp only [Act.put, pq])
        (refine tk (i := 9) (oi := ⟨some 25, _, _, _, _, _⟩) (v := ?v9_16) rfl ?hy9_16 ?rest9_16; (case hy9_16 => intro w hSw; (try dsimp only at hSw); go_simp; first | done | with_reducible rfl))
        (try simp only [Act.put, pq])
        refine wpAnyH_ready (rs := [1, 10]) (by kernel_rfl) (by simp) ?_
        refine AllReadyH.cons (o := ⟨some 17, _, _, _, _, _⟩) rfl (fun K hK => ?_) (AllReadyH.cons (o := ⟨some 26, _, _, _, _, _⟩) rfl (fun K hK => ?_) AllReadyH.nil)
        · go_simp
          refine hK.out _ _ ?_ (fun hHeld => ?_)
          · (try dsimp only)
            first | assumption | go_keep | exact ⟨(e9.out _).2.2.2.1, (e9.out _).2.1, (e9.out _).1⟩
          clear hK K
          (try simp only [Act.put, pq])
          refine wpAnyH_ready (rs := [10]) (by kernel_rfl) (by simp) ?_
          refine AllReadyH.cons (o := ⟨some 26, _, _, _, _, _⟩) rfl (fun K hK => ?_) AllReadyH.nil
          go_simp
          refine hK.out _ _ ?_ (fun hHeld => ?_)
          · (try dsimp only)
            first | assumption | go_keep | exact ⟨(e9.out _).2.2.2.1, (e9.out _).2.1, (e9.out _).1⟩
          clear hK K
          (try simp only [Act.put, pq])
          refine wpAnyH_ready (rs := [11]) (by kernel_rfl) (by simp) ?_
          refine AllReadyH.cons (o := ⟨some 27, _, _, _, _, _⟩) rfl (fun K hK => ?_) AllReadyH.nil
          refine step_append_lies _ (by rfl) (.tmp 17) (.tmp 26) 23 (by rfl) (w.heap.size + 2) 3 i0 (.int .i64 0) 1 8 Tryz.underlying23 hi0 hz0 hz1 hz2 rfl (by decide) us k (ints ((trl sh ax).take k)) (by rfl) (HO.out.1.alloc _) ⟨wr.heap.size, 0, none⟩ 1 1 [.int .i64 d] (by rfl) rfl (cell_one_new _ _ _) (by simp [Value.oneCell']) (by decide) (by unfold maxLen; omega) (by omega) (by simp; omega) (wr.heap.size + 1) (by simp) ?_
          intro g9 cp9 w9 hown hgrow hat _
          have Q9 := Lib.hid (And.intro hown (tr_step ZB.out HO.out.1 HO.out.2.1 HO.out.2.2 HB.out hgrow hat))
          obtain ⟨p0, _, _, h0, _⟩ := blk3 Q9.out.2.1
          obtain ⟨q2, q1, _, q0, _⟩ := OLD.out w9 Q9.out.2.2.1
          have e9 := Lib.hid (fun (z : Value) => OLD.out _ (Q9.out.2.2.1.setCell (p := ⟨(w.heap.size + 2), 0, none⟩) (Nat.le_refl _) z))
          clear hown hgrow hat
          refine hK.out _ _ ?_ (fun hHeld => ?_)
          · (try dsimp only)
            first | assumption | go_keep | exact ⟨(e9.out _).2.2.2.1, (e9.out _).2.1, (e9.out _).1⟩
          clear hK K
          (try simp only [Act.put, pq])
          refine wpAnyH_ready (rs := [12]) (by kernel_rfl) (by simp) ?_
          refine AllReadyH.cons (o := ⟨some 28, _, _, _, _, _⟩) rfl (fun K hK => ?_) AllReadyH.nil
          go_simp
          refine hK.out _ _ ?_ (fun hHeld => ?_)
          · (try dsimp only)
            first | assumption | go_keep | exact ⟨(e9.out _).2.2.2.1, (e9.out _).2.1, (e9.out _).1⟩
          clear hK K
          (try simp only [Act.put, pq])
          refine wpAnyH_ready (rs := [13]) (by kernel_rfl) (by simp) ?_
          refine AllReadyH.cons (o := ⟨none, _, _, _, _, _⟩) rfl (fun K hK => ?_) AllReadyH.nil
          go_simp
          refine hK.out _ _ ?_ (fun hHeld => ?_)
          · (try dsimp only)
            first | assumption | go_keep | exact ⟨(e9.out _).2.2.2.1, (e9.out _).2.1, (e9.out _).1⟩
          clear hK K
          (try simp only [Act.put, pq])
          refine wpAnyH_done (by kernel_rfl) ?_ _
          go_wp2
          go_meet
          refine ⟨rfl, .slice (some ⟨g9, 0, none⟩) (k + 1) cp9, Q9.out.2.1.set_ 0 _, ⟨?_, own_set Q9.out.2.2.2.1 Q9.out.2.1, ?_⟩, Q9.out.2.2.1.setCell (Nat.le_refl _) _⟩
          · rw [EA.out.1, ints_snoc]; exact own_set Q9.out.1 Q9.out.2.1
          · intro g e; cases e; exact Q9.out.2.2.2.2
        · go_simp
          refine hK.out _ _ ?_ (fun hHeld => ?_)
          · (try dsimp only)
            first | assumption | go_keep | exact ⟨(e9.out _).2.2.2.1, (e9.out _).2.1, (e9.out _).1⟩
          clear hK K
          (try simp only [Act.put, pq])
          refine wpAnyH_ready (rs := [1]) (by kernel_rfl) (by simp) ?_
          refine AllReadyH.cons (o := ⟨some 17, _, _, _, _, _⟩) rfl (fun K hK => ?_) AllReadyH.nil
          go_simp
          refine hK.out _ _ ?_ (fun hHeld => ?_)
          · (try dsimp only)
            first | assumption | go_keep | exact ⟨(e9.out _).2.2.2.1, (e9.out _).2.1, (e9.out _).1⟩
          clear hK K
          (try simp only [Act.put, pq])
          refine wpAnyH_ready (rs := [11]) (by kernel_rfl) (by simp) ?_
          refine AllReadyH.cons (o := ⟨some 27, _, _, _, _, _⟩) rfl (fun K hK => ?_) AllReadyH.nil
          refine step_append_lies _ (by rfl) (.tmp 17) (.tmp 26) 23 (by rfl) (w.heap.size + 2) 3 i0 (.int .i64 0) 1 8 Tryz.underlying23 hi0 hz0 hz1 hz2 rfl (by decide) us k (ints ((trl sh ax).take k)) (by rfl) (HO.out.1.alloc _) ⟨wr.heap.size, 0, none⟩ 1 1 [.int .i64 d] (by rfl) rfl (cell_one_new _ _ _) (by simp [Value.oneCell']) (by decide) (by unfold maxLen; omega) (by omega) (by simp; omega) (wr.heap.size + 1) (by simp) ?_
          intro g9 cp9 w9 hown hgrow hat _
          have Q9 := Lib.hid (And.intro hown (tr_step ZB.out HO.out.1 HO.out.2.1 HO.out.2.2 HB.out hgrow hat))
          obtain ⟨p0, _, _, h0, _⟩ := blk3 Q9.out.2.1
          obtain ⟨q2, q1, _, q0, _⟩ := OLD.out w9 Q9.out.2.2.1
          have e9 := Lib.hid (fun (z : Value) => OLD.out _ (Q9.out.2.2.1.setCell (p := ⟨(w.heap.size + 2), 0, none⟩) (Nat.le_refl _) z))
          clear hown hgrow hat
          refine hK.out _ _ ?_ (fun hHeld => ?_)
          · (try dsimp only)
            first | assumption | go_keep | exact ⟨(e9.out _).2.2.2.1, (e9.out _).2.1, (e9.out _).1⟩
          clear hK K
          (try simp only [Act.put, pq])
          refine wpAnyH_ready (rs := [12]) (by kernel_rfl) (by simp) ?_
          refine AllReadyH.cons (o := ⟨some 28, _, _, _, _, _⟩) rfl (fun K hK => ?_) AllReadyH.nil
          go_simp
          refine hK.out _ _ ?_ (fun hHeld => ?_)
          · (try dsimp only)
            first | assumption | go_keep | exact ⟨(e9.out _).2.2.2.1, (e9.out _).2.1, (e9.out _).1⟩
          clear hK K
          (try simp only [Act.put, pq])
          refine wpAnyH_ready (rs := [13]) (by kernel_rfl) (by simp) ?_
          refine AllReadyH.cons (o := ⟨none, _, _, _, _, _⟩) rfl (fun K hK => ?_) AllReadyH.nil
          go_simp
          refine hK.out _ _ ?_ (fun hHeld => ?_)
          · (try dsimp only)
            first | assumption | go_keep | exact ⟨(e9.out _).2.2.2.1, (e9.out _).2.1, (e9.out _).1⟩
          clear hK K
          (try simp only [Act.put, pq])
          refine wpAnyH_done (by kernel_rfl) ?_ _
          go_wp2
          go_meet
          refine ⟨rfl, .slice (some ⟨g9, 0, none⟩) (k + 1) cp9, Q9.out.2.1.set_ 0 _, ⟨?_, own_set Q9.out.2.2.2.1 Q9.out.2.1, ?_⟩, Q9.out.2.2.1.setCell (Nat.le_refl _) _⟩
          · rw [EA.out.1, ints_snoc]; exact own_set Q9.out.1 Q9.out.2.1
          · intro g e; cases e; exact Q9.out.2.2.2.2
      case rest =>
        obtain ⟨rfl, u1, hb, HO1, HB1⟩ := hcut
        have ZB1 := Lib.hid hb
        obtain ⟨t0, t1, t2, g0, g1, g2⟩ := blk3 hb
        have yw1 := hb.lt
        obtain ⟨xa', xs', xt', c0, c1, c2, _⟩ := OLD.out wc HB1.out
        clear hb
        go_wp2
        refine wp_region_held_drew (S := (fun W => W.cell? ⟨w.heap.size, 1, none⟩ = some (.slice (some ⟨bt, ft, none⟩) st.length ct) ∧ W.cell? ⟨bt, ft + a, none⟩ = some (.int .i64 s) ∧ W.cell? ⟨ba, fa + k, none⟩ = some (.int .i64 a))) (by kernel_rfl) ?_ (fun hHeld => ?_)
        · (try dsimp only)
          first | assumption | go_keep | exact ⟨(e9.out _).2.2.2.2.1, (e9.out _).2.2.1, (e9.out _).1⟩
        have hHd := hHeld
        (refine tk (i := 0) (oi := ⟨some 29, _, _, _, _, _⟩) (v := ?v0_29) rfl ?hy0_29 ?rest0_29; (case hy0_29 => intro w hSw; (try dsimp only at hSw); go_simp; first | done | with_reducible rfl))
        (try simp only [Act.put, pq])
        (refine tk (i := 2) (oi := ⟨some 31, _, _, _, _, _⟩) (v := ?v2_29) rfl ?hy2_29 ?rest2_29; (case hy2_29 => intro w hSw; (try dsimp only at hSw); go_simp; first | done | with_reducible rfl))
        (try simp only [Act.put, pq])
        (refine tk (i := 3) (oi := ⟨some 32, _, _, _, _, _⟩) (v := ?v3_29) rfl ?hy3_29 ?rest3_29; (case hy3_29 => intro w hSw; (try dsimp only at hSw); go_simp; first | done | with_reducible rfl))
        (try simp only [Act.put, pq])
        (refine tk (i := 4) (oi := ⟨some 33, _, _, _, _, _⟩) (v := ?v4_29) rfl ?hy4_29 ?rest4_29; (case hy4_29 => intro w hSw; (try dsimp only at hSw); go_simp; first | done | with_reducible rfl))
        (try simp only [Act.put, pq])
        (refine tk (i := 5) (oi := ⟨some 34, _, _, _, _, _⟩) (v := ?v5_29) rfl ?hy5_29 ?rest5_29; (case hy5_29 => intro w hSw; (try dsimp only at hSw); go_simp; first | done | with_reducible rfl))
        (try simp only [Act.put, pq])
        (refine tk (i := 6) (oi := ⟨some 35, _, _, _, _, _⟩) (v := ?v6_29) rfl ?hy6_29 ?rest6_29; (case hy6_29 => intro w hSw; (try dsimp only at hSw); go_simp; first | done | with_reducible rfl))
        (try simp only [Act.put, pq])
        (refine tk (i := 7) (oi := ⟨some 36, _, _, _, _, _⟩) (v := ?v7_29) rfl ?hy7_29 ?rest7_29; (case hy7_29 => intro w hSw; (try dsimp only at hSw); go_simp; first | done | with_reducible rfl))
        (try simp only [Act.put, pq])
        (refine tk (i := 8) (oi := ⟨some 37, _, _, _, _, _⟩) (v := ?v8_29) rfl ?hy8_29 ?rest8_29; (case hy8_29 => intro w hSw; (try dsimp only at hSw); go_simp; first | done | with_reducible rfl))
        (try simp only [Act.put, pq])
        (refine tk (i := 9) (oi := ⟨some 38, _, _, _, _, _⟩) (v := ?v9_29) rfl ?hy9_29 ?rest9_29; (case hy9_29 => intro w hSw; (try dsimp only at hSw); go_simp; first | done | with_reducible rfl))
        (try simp only [Act.put, pq])
        refine wpAnyH_ready (rs := [1, 10]) (by kernel_rfl) (by simp) ?_
        refine AllReadyH.cons (o := ⟨some 30, _, _, _, _, _⟩) rfl (fun K hK => ?_) (AllReadyH.cons (o := ⟨some 39, _, _, _, _, _⟩) rfl (fun K hK => ?_) AllReadyH.nil)
        · go_simp
          refine hK.out _ _ ?_ (fun hHeld => ?_)
          · (try dsimp only)
            first | assumption | go_keep | exact ⟨(e9.out _).2.2.2.2.1, (e9.out _).2.2.1, (e9.out _).1⟩
          clear hK K
          (try simp only [Act.put, pq])
          refine wpAnyH_ready (rs := [10]) (by kernel_rfl) (by simp) ?_
          refine AllReadyH.cons (o := ⟨some 39, _, _, _, _, _⟩) rfl (fun K hK => ?_) AllReadyH.nil
          go_simp
          refine hK.out _ _ ?_ (fun hHeld => ?_)
          · (try dsimp only)
            first | assumption | go_keep | exact ⟨(e9.out _).2.2.2.2.1, (e9.out _).2.2.1, (e9.out _).1⟩
          clear hK K
          (try simp only [Act.put, pq])
          refine wpAnyH_ready (rs := [11]) (by kernel_rfl) (by simp) ?_
          refine AllReadyH.cons (o := ⟨some 40, _, _, _, _, _⟩) rfl (fun K hK => ?_) AllReadyH.nil
          refine step_append_lies _ (by rfl) (.tmp 30) (.tmp 39) 23 (by rfl) (w.heap.size + 2) 3 i0 (.int .i64 0) 1 8 Tryz.underlying23 hi0 hz0 hz1 hz2 rfl (by decide) ut k (ints ((trl st ax).take k)) (by rfl) (HO1.out.2.1.alloc _) ⟨wc.heap.size, 0, none⟩ 1 1 [.int .i64 s] (by rfl) rfl (cell_one_new _ _ _) (by simp [Value.oneCell']) (by decide) (by unfold maxLen; omega) (by omega) (by simp; omega) (wc.heap.size + 1) (by simp) ?_
          intro g9 cp9 w9 hown hgrow hat _
          have Q9 := Lib.hid (And.intro hown (tr_step ZB1.out HO1.out.2.1 HO1.out.1 (fun g a b => HO1.out.2.2 g b a) HB1.out hgrow hat))
          obtain ⟨_, p0, _, _, h0, _⟩ := blk3 Q9.out.2.1
          obtain ⟨q2, _, q1, _, q0, _⟩ := OLD.out w9 Q9.out.2.2.1
          have e9 := Lib.hid (fun (z : Value) => OLD.out _ (Q9.out.2.2.1.setCell (p := ⟨(w.heap.size + 2), 1, none⟩) (Nat.le_refl _) z))
          clear hown hgrow hat
          refine hK.out _ _ ?_ (fun hHeld => ?_)
          · (try dsimp only)
            first | assumption | go_keep | exact ⟨(e9.out _).2.2.2.2.1, (e9.out _).2.2.1, (e9.out _).1⟩
          clear hK K
          (try simp only [Act.put, pq])
          refine wpAnyH_ready (rs := [12]) (by kernel_rfl) (by simp) ?_
          refine AllReadyH.cons (o := ⟨some 41, _, _, _, _, _⟩) rfl (fun K hK => ?_) AllReadyH.nil
          go_simp
          refine hK.out _ _ ?_ (fun hHeld => ?_)
          · (try dsimp only)
            first | assumption | go_keep | exact ⟨(e9.out _).2.2.2.2.1, (e9.out _).2.2.1, (e9.out _).1⟩
          clear hK K
          (try simp only [Act.put, pq])
          refine wpAnyH_ready (rs := [13]) (by kernel_rfl) (by simp) ?_
          refine AllReadyH.cons (o := ⟨none, _, _, _, _, _⟩) rfl (fun K hK => ?_) AllReadyH.nil
          go_simp
          refine hK.out _ _ ?_ (fun hHeld => ?_)
          · (try dsimp only)
            first | assumption | go_keep | exact ⟨(e9.out _).2.2.2.2.1, (e9.out _).2.2.1, (e9.out _).1⟩
          clear hK K
          (try simp only [Act.put, pq])
          refine wpAnyH_done (by kernel_rfl) ?_ _
          go_wp2
          refine ⟨⟨k + 1, u1, .slice (some ⟨g9, 0, none⟩) (k + 1) cp9, by omega, by go_num, Q9.out.2.1.set_ 1 _, ⟨own_set Q9.out.2.2.2.1 Q9.out.2.1, ?_, ?_⟩, Q9.out.2.2.1.setCell (Nat.le_refl _) _⟩, by simp [intOf]; omega⟩
          · rw [EA.out.2, ints_snoc]; exact own_set Q9.out.1 Q9.out.2.1
          · intro g e e2; cases e2; exact Q9.out.2.2.2.2 e
        · go_simp
          refine hK.out _ _ ?_ (fun hHeld => ?_)
          · (try dsimp only)
            first | assumption | go_keep | exact ⟨(e9.out _).2.2.2.2.1, (e9.out _).2.2.1, (e9.out _).1⟩
          clear hK K
          (try simp only [Act.put, pq])
          refine wpAnyH_ready (rs := [1]) (by kernel_rfl) (by simp) ?_
          refine AllReadyH.cons (o := ⟨some 30, _, _, _, _, _⟩) rfl (fun K hK => ?_) AllReadyH.nil
          go_simp
          refine hK.out _ _ ?_ (fun hHeld => ?_)
          · (try dsimp only)
            first | assumption | go_keep | exact ⟨(e9.out _).2.2.2.2.1, (e9.out _).2.2.1, (e9.out _).1⟩
          clear hK K
          (try simp only [Act.put, pq])
          refine wpAnyH_ready (rs := [11]) (by kernel_rfl) (by simp) ?_
          refine AllReadyH.cons (o := ⟨some 40, _, _, _, _, _⟩) rfl (fun K hK => ?_) AllReadyH.nil
          refine step_append_lies _ (by rfl) (.tmp 30) (.tmp 39) 23 (by rfl) (w.heap.size + 2) 3 i0 (.int .i64 0) 1 8 Tryz.underlying23 hi0 hz0 hz1 hz2 rfl (by decide) ut k (ints ((trl st ax).take k)) (by rfl) (HO1.out.2.1.alloc _) ⟨wc.heap.size, 0, none⟩ 1 1 [.int .i64 s] (by rfl) rfl (cell_one_new _ _ _) (by simp [Value.oneCell']) (by decide) (by unfold maxLen; omega) (by omega) (by simp; omega) (wc.heap.size + 1) (by simp) ?_
          intro g9 cp9 w9 hown hgrow hat _
          have Q9 := Lib.hid (And.intro hown (tr_step ZB1.out HO1.out.2.1 HO1.out.1 (fun g a b => HO1.out.2.2 g b a) HB1.out hgrow hat))
          obtain ⟨_, p0, _, _, h0, _⟩ := blk3 Q9.out.2.1
          obtain ⟨q2, _, q1, _, q0, _⟩ := OLD.out w9 Q9.out.2.2.1
          have e9 := Lib.hid (fun (z : Value) => OLD.out _ (Q9.out.2.2.1.setCell (p := ⟨(w.heap.size + 2), 1, none⟩) (Nat.le_refl _) z))
          clear hown hgrow hat
          refine hK.out _ _ ?_ (fun hHeld => ?_)
          · (try dsimp only)
            first | assumption | go_keep | exact ⟨(e9.out _).2.2.2.2.1, (e9.out _).2.2.1, (e9.out _).1⟩
          clear hK K
          (try simp only [Act.put, pq])
          refine wpAnyH_ready (rs := [12]) (by kernel_rfl) (by simp) ?_
          refine AllReadyH.cons (o := ⟨some 41, _, _, _, _, _⟩) rfl (fun K hK => ?_) AllReadyH.nil
          go_simp
          refine hK.out _ _ ?_ (fun hHeld => ?_)
          · (try dsimp only)
            first | assumption | go_keep | exact ⟨(e9.out _).2.2.2.2.1, (e9.out _).2.2.1, (e9.out _).1⟩
          clear hK K
          (try simp only [Act.put, pq])
          refine wpAnyH_ready (rs := [13]) (by kernel_rfl) (by simp) ?_
          refine AllReadyH.cons (o := ⟨none, _, _, _, _, _⟩) rfl (fun K hK => ?_) AllReadyH.nil
          go_simp
          refine hK.out _ _ ?_ (fun hHeld => ?_)
          · (try dsimp only)
            first | assumption | go_keep | exact ⟨(e9.out _).2.2.2.2.1, (e9.out _).2.2.1, (e9.out _).1⟩
          clear hK K
          (try simp only [Act.put, pq])
          refine wpAnyH_done (by kernel_rfl) ?_ _
          go_wp2
          refine ⟨⟨k + 1, u1, .slice (some ⟨g9, 0, none⟩) (k + 1) cp9, by omega, by go_num, Q9.out.2.1.set_ 1 _, ⟨own_set Q9.out.2.2.2.1 Q9.out.2.1, ?_, ?_⟩, Q9.out.2.2.1.setCell (Nat.le_refl _) _⟩, by simp [intOf]; omega⟩
          · rw [EA.out.2, ints_snoc]; exact own_set Q9.out.1 Q9.out.2.1
          · intro g e e2; cases e2; exact Q9.out.2.2.2.2 e
    · obtain rfl : k = ax.length := by omega
      have h1 := HO.out.1
      have h2 := HO.out.2.1
      rw [List.take_of_length_le (by rw [trl_len]; exact Nat.le_refl _)] at h1 h2
      have hn1 := trl_len sh ax
      have hn2 := trl_len st ax
      rw [← hn1] at h1
      obtain ⟨o1, c1', e1, _⟩ := Ld.of_owns h1
      rw [← hn2] at h2
      obtain ⟨o2, c2', e2, _⟩ := Ld.of_owns h2
      subst e1 e2
      have HN := Lib.hid (And.intro hn1 hn2)
      have HF := Lib.hid (And.intro h1 h2)
      have ap := Lib.hid HO.out.2.2
      have ZF := Lib.hid (Y1.out.below HB.out (by omega))
      obtain ⟨d0, d1, d2, f0, f1, f2⟩ := blk3 ZF.out
      obtain ⟨t0, t1, t2, _⟩ := blk3 hb
      clear hn1 hn2 h1 h2 HO
      go_wp2
      refine bodyPost_ret (v := .agg #[.slice o1 (trl sh ax).length c1', .slice o2 (trl st ax).length c2', .int .i64 off]) (by simp [results, Tryz.results100, go_sem, d0, d1, d2]) rfl ?_
      have sz := HW.out.2
      exact someW_end (Nat.le_succ _) (B2.out.trans (HB.out.mono (by omega))) ZF.out rfl rfl (Ov.base ⟨HF.out.1, HF.out.2, ap.out⟩ (by omega))
end Go.Proofs.YtmafgdinegboeaaGreat
namespace Go.Proofs.YtmafgdinegboeaaGreat
open Go.RowKit
attribute [local go_sem ↓] Go.wp_at_zero Go.wp_at_succ

theorem own_some {w : World} {base n c : Nat} {e : TypeId} {o : Option Addr} {xs : List Value} (h : w.ownsRow base e 1 (.slice o n c) n xs) (h0 : 0 < n) : ∃ g, o = some ⟨g, 0, none⟩ := by
  rcases h.2 with ⟨_, h1⟩ | ⟨g, cap, cur, hv, _⟩
  · omega
  · simp only [Value.slice.injEq, true_and] at hv; exact ⟨g, hv.1⟩
theorem own_cell {w : World} {base g c i : Nat} {ls : List Int} {e : TypeId} (h : w.ownsRow base e 1 (.slice (some ⟨g, 0, none⟩) ls.length c) ls.length (ints ls)) (hi : i < ls.length) : w.cell? ⟨g, i, none⟩ = some (.int .i64 (ls.getD i 0)) := by
  rw [h.cellAt i (by omega)]; simpa using ints_at hi
theorem own_frozen {w : World} {base g n c : Nat} {xs : List Value} {e : TypeId} (h : w.ownsRow base e 1 (.slice (some ⟨g, 0, none⟩) n c) n xs) (i : Nat) : w.frozen? ⟨g, i, none⟩ = false := h.frozenAt i
theorem own_put {w : World} {base g c i : Nat} {ls : List Int} {e : TypeId} (h : w.ownsRow base e 1 (.slice (some ⟨g, 0, none⟩) ls.length c) ls.length (ints ls)) (_hi : i < ls.length) (v : Int) : (w.setCell ⟨g, i, none⟩ (.int .i64 v)).ownsRow base e 1 (.slice (some ⟨g, 0, none⟩) ls.length c) (ls.set i v).length (ints (ls.set i v)) := by
  rcases h.2 with ⟨hv, _⟩ | ⟨g', cap, cur, hv, hb, hh, hc, hm, hsz, ht⟩
  · cases hv
  · simp only [Value.slice.injEq, true_and, Option.some.injEq, Addr.mk.injEq, and_true] at hv
    obtain ⟨rfl, rfl⟩ := hv
    have hp : Blk (w.setCell ⟨g, i, none⟩ (.int .i64 v)) g e (cur.setIfInBounds i (.int .i64 v)) := Blk.set_ (show Blk w g e cur from hh) i _
    refine ⟨by simp [ints], .inr ⟨g, c, cur.setIfInBounds i (.int .i64 v), by rw [List.length_set], hb, hp, by rw [List.length_set]; exact hc, hm, by simpa using hsz, ?_⟩⟩
    rw [List.length_set, Nat.mul_one]
    rw [Nat.mul_one] at ht
    have : (cur.setIfInBounds i (.int .i64 v)).toList = cur.toList.set i (.int .i64 v) := by simp
    rw [this, List.take_set, ht]
    simp [ints, List.map_set]
end Go.Proofs.YtmafgdinegboeaaGreat
namespace Go.Proofs.YtmafgdinegboeaaGreat
open Go.RowKit
attribute [local go_sem ↓] Go.wp_at_zero Go.wp_at_succ

end Go.Proofs.YtmafgdinegboeaaGreat
namespace Go.Proofs.YtmafgdinegboeaaGreat
open Go.RowKit

def rct (ls : List Int) : Int := if cnt 1 ls = 0 then 65537 else cnt 1 ls
theorem may_rct {ls : List Int} (h4 : ls.length ≤ 4) : decide (rct ls ≤ 65536) = may ls := by
  unfold rct
  rcases cnt_cases ls 1 (by decide) (by decide) with h | ⟨h1, h2, _, _⟩
  · rw [if_pos h, may_not h]; rfl
  · rw [if_neg (by omega), may_yes h4 (by omega)]; simpa using h2
theorem rct_may {ls : List Int} (h : may ls = true) : rct ls = prod ls := by
  unfold rct
  rw [may_cnt h, if_neg (by have := may_prod h; omega)]

set_option maxRecDepth 100000 in
set_option maxHeartbeats 4000000 in
theorem rcount_any (v : Value) (ls : List Int) (w : World) (h : Ld w v ls) (hd : dms ls) (l4 : ls.length ≤ 1073741824) :
    Calls Tryz.prog 46 #[v] w fun e w' => e = .returned (.int .i64 (rct ls)) ∧ w = w' := by
  obtain ⟨o, c, rfl, _, hx⟩ := h
  have HX := Lib.hid hx
  have HD := Lib.hid hd
  clear hx hd
  go_enter Tryz.func46, Tryz.ntmps46
  go_wp2
  go_loop [3, 4] (fun s3 s4 => ∃ (k : Nat) (m : Int), k ≤ ls.length ∧ 1 ≤ m ∧ m ≤ 65536 ∧ s4 = .int .i64 k ∧ s3 = .int .i64 m ∧ Hid (cnt m (ls.drop k) = cnt 1 ls)) (fun _ s4 => ls.length - (intOf s4).toNat)
  case atStart => exact ⟨0, 1, Nat.zero_le _, by decide, by decide, rfl, rfl, rfl⟩
  case round =>
    obtain ⟨k, m, hk, m0, m1, rfl, rfl, HM⟩ := hrel
    by_cases hlt : k < ls.length
    · obtain ⟨b, f, rfl, hb, hc⟩ := HX.out k hlt
      have st := cnt_step hlt m
      rw [HM.out] at st
      have dd := HD.out _ (getD_mem hlt)
      obtain ⟨d, hd⟩ : ∃ d, d = ls.getD k 0 := ⟨_, rfl⟩
      rw [← hd] at st hc dd
      obtain ⟨d1, d2⟩ := dd
      have dn : ¬ 65536 < d := by omega
      have md : m * d ≤ 65536 * 4096 := Int.mul_le_mul m1 d2 (by omega) (by decide)
      have m2 : 1 ≤ m * d := by have := Int.mul_le_mul m0 d1 (by decide) (by omega); omega
      by_cases g : m * d ≤ 65536
      · rw [if_pos ⟨d1, d2, by rw [Int.mul_comm]; exact g⟩] at st
        have ST := Lib.hid st
        have g' : ¬ 65536 < m * d := by omega
        clear st hd md
        go_wp2
        refine ⟨⟨k + 1, m * d, by omega, m2, g, by go_num, rfl, by unfold Hid; rw [← ST.out]⟩, by simp [intOf]; omega⟩
      · rw [if_neg (by rw [Int.mul_comm]; omega)] at st
        have E : Hid (rct ls = 65537) := by unfold rct; rw [if_pos st]; exact Lib.hid rfl
        have g' : 65536 < m * d := by omega
        clear st hd
        go_wp2
        go_ret
        exact ⟨by rw [E.out]; rfl, rfl⟩
    · have E : Hid (m = rct ls) := by
        have := HM.out
        rw [List.drop_eq_nil_of_le (by omega)] at this
        unfold rct
        rw [← this, if_neg (by show cnt m [] ≠ 0; simp [cnt]; omega)]
        exact Lib.hid rfl
      go_wp2
      go_ret
      exact ⟨by rw [← E.out]; rfl, rfl⟩

set_option maxRecDepth 100000 in
set_option maxHeartbeats 4000000 in
theorem rmay_any (v : Value) (ls : List Int) (w : World) (h : Ld w v ls) (l4 : ls.length ≤ 1073741824) :
    Calls Tryz.prog 45 #[v] w fun e w' => e = .returned (.bool (may ls)) ∧ w = w' := by
  by_cases h4 : 4 < ls.length
  · have E : Hid (may ls = false) := may_long h4
    obtain ⟨o, c, rfl, _, _⟩ := h
    go_enter Tryz.func45, Tryz.ntmps45
    go_wp2
    go_ret
    exact ⟨by rw [E.out]; rfl, rfl⟩
  have C := Lib.hid (fun hd => rcount_any v ls w h hd (by omega))
  obtain ⟨o, c, rfl, _, hx⟩ := h
  have HX := Lib.hid hx
  have HR : Hid (decide (rct ls ≤ 65536) = may ls) := may_rct (by omega)
  clear hx
  go_enter Tryz.func45, Tryz.ntmps45
  go_wp2
  go_loop [3] (fun s3 => ∃ k : Nat, k ≤ ls.length ∧ s3 = .int .i64 k ∧ Hid (∀ j, j < k → 1 ≤ ls.getD j 0 ∧ ls.getD j 0 ≤ 4096)) (fun s3 => ls.length - (intOf s3).toNat)
  case atStart => exact ⟨0, Nat.zero_le _, rfl, fun j hj => absurd hj (Nat.not_lt_zero _)⟩
  case round =>
    obtain ⟨k, hk, rfl, HK⟩ := hrel
    by_cases hlt : k < ls.length
    · obtain ⟨b, f, rfl, hb, hc⟩ := HX.out k hlt
      have HN : Hid (¬ (1 ≤ ls.getD k 0 ∧ ls.getD k 0 ≤ 4096) → may ls = false) := fun g => by
        cases h : may ls with
        | false => rfl
        | true => exact absurd (may_dim h hlt) g
      have HG : Hid (1 ≤ ls.getD k 0 ∧ ls.getD k 0 ≤ 4096 → ∀ j, j < k + 1 → 1 ≤ ls.getD j 0 ∧ ls.getD j 0 ≤ 4096) := fun g j hj => by
        by_cases e : j = k
        · subst e; exact g
        · exact HK.out j (by omega)
      generalize ls.getD k 0 = d at *
      by_cases g1 : d < 1
      · have R := Lib.hid (HN.out (by omega))
        go_wp2
        go_ret
        exact ⟨by rw [R.out]; rfl, rfl⟩
      by_cases g2 : 4096 < d
      · have R := Lib.hid (HN.out (by omega))
        go_wp2
        go_ret
        exact ⟨by rw [R.out]; rfl, rfl⟩
      have R := Lib.hid (HG.out (by omega))
      go_wp2
      refine ⟨⟨k + 1, by omega, by go_num, R⟩, by simp [intOf]; omega⟩
    · have hd : dms ls := by
        intro d hm
        obtain ⟨i, hi, rfl⟩ := List.mem_iff_getElem.1 hm
        have := HK.out i (by omega)
        simpa [List.getD, List.getElem?_eq_getElem hi] using this
      have C1 := Lib.hid (C.out hd)
      clear hd
      generalize rct ls = r at *
      go_wp2_with (go_at_call 46; (with_reducible refine C1.out.mono ?_); rintro e w' ⟨rfl, rfl⟩)
      go_ret
      exact ⟨by rw [← HR.out]; rfl, rfl⟩

set_option maxRecDepth 100000 in
set_option maxHeartbeats 4000000 in
theorem rstrides_any (v : Value) (ls : List Int) (w : World) (h : Ld w v ls) (hm : may ls = true) :
    Calls Tryz.prog 111 #[v] w fun e w' => e = .returned (.slice (some ⟨w.heap.size, 0, none⟩) ls.length ls.length) ∧ Blk w' w.heap.size 3 (ints (stl ls)).toArray ∧ Below w.heap.size w w' := by
  obtain ⟨i0, hi0, hz0, hz1, hz2⟩ := info_parts infoI
  obtain ⟨o, c, rfl, _, hx⟩ := h
  have HX := Lib.hid hx
  have l4 := may_len hm
  have HD : Hid (∀ k, k < ls.length → 1 ≤ ls.getD k 0 ∧ ls.getD k 0 ≤ 4096) := fun k hk => may_dim hm hk
  have HP : Hid (∀ k, 1 ≤ prod (ls.drop k) ∧ prod (ls.drop k) ≤ 65536) := may_drop hm
  have mk : (Instr.makeSlice 23 (.int .i64 (ls.length : Int)) (.int .i64 (ls.length : Int))).run Tryz.prog w = .ok (.slice (some ⟨w.heap.size, 0, none⟩) ls.length ls.length) (w.alloc (.cells (madeCells #[.int .i64 0] ls.length) 3)) := by
    have := run_make (w := w) 23 3 i0 (.int .i64 0) Tryz.underlying23 hi0 hz0 .i64 .i64 ls.length ls.length (by omega) (by omega) (by rw [hz2]; omega) (by omega)
    rw [this, hz1]; simp [Value.cells]
  rw [made_ints] at mk
  clear hx hm
  go_enter Tryz.func111, Tryz.ntmps111
  go_wp2
  clear mk
  go_loopw [4, 5] (fun s4 s5 wr => ∃ (k : Nat) (m : Int) (L : List Int), k ≤ ls.length ∧ s5 = .int .i64 ((k : Int) - 1) ∧ s4 = .int .i64 m ∧ Blk wr w.heap.size 3 (ints L).toArray ∧ Hid (L.length = ls.length ∧ m = prod (ls.drop k) ∧ ∀ i, k ≤ i → i < ls.length → L.getD i 0 = prod (ls.drop (i + 1))) ∧ Below w.heap.size w wr) (fun _ s5 _ => (intOf s5 + 1).toNat)
  case atStart => exact ⟨ls.length, 1, List.replicate ls.length 0, Nat.le_refl _, rfl, rfl, Blk.new _ _ _, ⟨by simp, by simp [prod], fun i h1 h2 => by omega⟩, (Below.refl _ _).alloc (Nat.le_refl _) _⟩
  case round =>
    obtain ⟨k, m, L, hk, rfl, rfl, hblk, HL, hB⟩ := hrel
    have hBs := hB.size
    cases k with
    | zero =>
      have E : L = stl ls := by
        refine ext_getD (by rw [stl_len]; exact HL.out.1) fun i hi => ?_
        have := HL.out.1
        rw [stl_getD _ _ (by omega)]
        exact HL.out.2.2 i (Nat.zero_le _) (by omega)
      subst E
      go_wp2
      go_ret
      exact ⟨rfl, hblk, hB⟩
    | succ k =>
      obtain ⟨b, f, rfl, hb, hc⟩ := HX.out k (by omega)
      have hc' : wr.cell? ⟨b, f + k, none⟩ = some (.int .i64 (ls.getD k 0)) := (hB.cell (p := ⟨b, f + k, none⟩) hb).trans hc
      have kc := hblk.cell k
      have hL := HL.out.1
      rw [ints_at (by omega)] at kc
      have kf := hblk.frozen k
      generalize L.getD k 0 = l0 at kc
      have dd := HD.out k (by omega)
      have p0 := HP.out (k + 1)
      have p1 := HP.out k
      have pd := prod_drop (ls := ls) (k := k) (by omega)
      have em := HL.out.2.1
      have R : Hid ((L.set k m).length = ls.length ∧ m * ls.getD k 0 = prod (ls.drop k) ∧ ∀ i, k ≤ i → i < ls.length → (L.set k m).getD i 0 = prod (ls.drop (i + 1))) := by
        refine ⟨by simpa using hL, by rw [em, pd, Int.mul_comm], fun i h1 h2 => ?_⟩
        by_cases e : k = i
        · subst e; rw [set_getD_self (by omega), em]
        · rw [set_getD_ne e]; exact HL.out.2.2 i (by omega) h2
      rw [← em] at p0
      rw [← R.out.2.1] at p1
      have ej : ((k + 1 : Nat) : Int) - 1 = (k : Int) := by omega
      rw [ej]
      have HL2 := Lib.hid hL
      clear em pd hc hL HL
      generalize ls.getD k 0 = d at *
      obtain ⟨p1, p2⟩ := p1
      go_wp2
      refine ⟨⟨k, m * d, L.set k m, by omega, by go_num, rfl, hblk.put k m, R, hB.setCell (Nat.le_refl _) _⟩, by simp [intOf]; try omega⟩
end Go.Proofs.YtmafgdinegboeaaGreat
