/-
  
  
  
-/
import Derived.BigQuiet
import Derived.Deep.DeepBigQuietO
import Derived.Deep.RegionHeld3
import Derived.Test.YtmafgdinegboeaaGreatM01
import Derived.Test.YtmafgdinegboeaaGreatM07
import Derived.Test.YtmafgdinegboeaaGreatM11
import Derived.Test.YtmafgdinegboeaaGreatM16
namespace Go.Proofs.YtmafgdinegboeaaGreat
open Go.RowKit

set_option maxRecDepth 100000 in
set_option maxHeartbeats 4000000 in
theorem wordso_any (base : Nat) (v : Value) (ls : List Int) (w : World) (h : w.ownsRow base 2 1 v ls.length (ints ls)) (hb : base ≤ w.heap.size) (hl : ls.length ≤ 65536) :
    Calls Tryz.prog 131 #[v] w fun e w' => e = .returned (.tuple #[]) ∧ w.grownBy w' v.ownBlock := by
  obtain ⟨i0, hi0, hz0, hz1, hz2⟩ := info_parts infoW
  obtain ⟨n, hn⟩ : ∃ n, n = ls.length := ⟨_, rfl⟩
  have HLN := Lib.hid hn
  rw [← hn] at h hl
  clear hn
  obtain ⟨o, c, rfl⟩ := own_len h
  have H0 : Hid (w.ownsRow base 2 1 (.slice o n c) n (ints ls)) := h
  have HF := Lib.hid (fun (h0 : 0 < n) => own_some h h0)
  clear h
  go_enter Tryz.func131, Tryz.ntmps131
  go_wp2
  go_loopw [2] (fun s2 wr => ∃ (k : Nat) (L : List Int), k ≤ n ∧ s2 = .int .i64 k ∧ Hid (L.length = n) ∧ Hid (wr.ownsRow base 2 1 (.slice o n c) n (ints L)) ∧ Hid (w.grownBy wr (Value.slice o n c).ownBlock)) (fun s2 _ => n - (intOf s2).toNat)
  case atStart => exact ⟨0, ls, Nat.zero_le _, rfl, HLN.out.symm, H0.out, World.grownBy.refl _ _⟩
  case round =>
    obtain ⟨k, L, hk, rfl, HL, HO, HG⟩ := hrel
    by_cases hlt : k < n
    · obtain ⟨g, rfl⟩ := HF.out (by omega)
      have kc : wr.cell? ⟨g, k, none⟩ = some (.int .i64 (L.getD k 0)) := by
        have h1 := HO.out
        rw [← HL.out] at h1
        exact own_cell h1 (by have := HL.out; omega)
      have kf := own_frozen HO.out k
      generalize L.getD k 0 = x at kc
      go_wp2
      refine ⟨⟨k + 1, L.set k (-9999), by omega, by go_num, by have := HL.out; simpa [Hid] using this, own_put2 HO.out HL.out hlt _, grown_put HG.out _⟩, by simp [intOf]; omega⟩
    · go_wp2_with (at_builtin; refine wpList_append_own _ rfl _ _ 24 rfl base 2 i0 (.int .i64 0) 1 8 Tryz.underlying24 hi0 hz0 hz1 hz2 rfl (by decide) _ n (ints L) rfl (HO.out.alloc _) ⟨wr.heap.size, 0, none⟩ 1 1 [.int .i64 5] rfl rfl ?c1 ?c2 ?c3 ?c4 ?c5 ?_)
      case c1 => exact (cell_one_new _ _ _)
      case c2 => simp [Value.oneCell']
      case c3 => unfold maxLen; omega
      case c4 => omega
      case c5 => have := HG.out.size; simp; omega
      intro v' w9 _ hgrow _
      have h1 := HG.out
      have h2 : w.grownBy w9 (Value.slice o n c).ownBlock := ⟨hgrow.os.trans h1.os, hgrow.tape.trans h1.tape, hgrow.output.trans h1.output, Nat.le_trans h1.size (Nat.le_trans (by simp) hgrow.size), fun j hj hne => (hgrow.block j (by have := h1.size; simp; omega) hne).trans ((Below.heap_alloc _ _ _ (by have := h1.size; omega)).trans (h1.block j hj hne))⟩
      have H2 := Lib.hid h2
      clear h1 h2 hgrow
      go_wp2
      refine bodyPost_end (results_none rfl _ _ _) rfl ?_
      exact ⟨rfl, H2.out⟩

set_option maxRecDepth 100000 in
set_option maxHeartbeats 4000000 in
theorem copywords_any (v : Value) (ls : List Int) (w : World) (h : Ld w v ls) (ll : ls.length ≤ 17592186044000) :
    Calls Tryz.prog 59 #[v] w (SomeWd w ls) := by
  obtain ⟨i0, hi0, hz0, hz1, hz2⟩ := info_parts infoW
  obtain ⟨o, c, rfl, _, hx⟩ := h
  have HX := Lib.hid hx
  clear hx
  go_enter Tryz.func59, Tryz.ntmps59
  go_wp2
  go_loopw [3, 4] (fun s3 s4 wr => ∃ k : Nat, k ≤ ls.length ∧ s4 = .int .i64 k ∧ Hid (wr.ownsRow w.heap.size 2 1 s3 k (ints (ls.take k))) ∧ Below w.heap.size w wr) (fun _ s4 _ => ls.length - (intOf s4).toNat)
  case atStart => exact ⟨0, Nat.zero_le _, rfl, World.ownsRow_nil _ _ _ _, Below.refl _ _⟩
  case round =>
    obtain ⟨k, hk, rfl, HO, hB⟩ := hrel
    have hBs := hB.size
    by_cases hlt : k < ls.length
    · obtain ⟨b, f, rfl, hb, hc⟩ := HX.out k hlt
      have hc' : wr.cell? ⟨b, f + k, none⟩ = some (.int .i64 (ls.getD k 0)) := (hB.cell (p := ⟨b, f + k, none⟩) hb).trans hc
      have E : Hid (ints (ls.take (k + 1)) = ints (ls.take k) ++ [.int .i64 (ls.getD k 0)]) := by
        unfold Hid ints
        rw [List.take_succ_eq_append_getElem hlt, List.map_append]
        simp [List.getD, List.getElem?_eq_getElem hlt]
      clear hc
      generalize ls.getD k 0 = x at *
      go_wp2_with (at_builtin; refine wpList_append_own _ rfl _ _ 24 rfl w.heap.size 2 i0 (.int .i64 0) 1 8 Tryz.underlying24 hi0 hz0 hz1 hz2 rfl (by decide) _ k (ints (ls.take k)) rfl (HO.out.alloc _) ⟨wr.heap.size, 0, none⟩ 1 1 [.int .i64 x] rfl rfl ?c1 ?c2 ?c3 ?c4 ?c5 ?_)
      case c1 => exact (cell_one_new _ _ _)
      case c2 => simp [Value.oneCell']
      case c3 => unfold maxLen; omega
      case c4 => omega
      case c5 => simp; omega
      intro v' w9 hown1 hgrow _
      have hB9 : Below w.heap.size w w9 := (hB.alloc hBs _).grown hgrow (by simp; omega) (fun j hj => (HO.out.lt j hj).1)
      have h1 : Hid (w9.ownsRow w.heap.size 2 1 v' (k + 1) (ints (ls.take (k + 1)))) := by
        rw [Hid, E.out]; exact hown1
      clear hown1 hgrow
      go_wp2
      exact ⟨⟨k + 1, by omega, by go_num, h1, hB9⟩, by simp [intOf]; omega⟩
    · obtain rfl : k = ls.length := by omega
      have h1 := HO.out
      rw [List.take_length] at h1
      obtain ⟨o2, c2, rfl, hld⟩ := Ld.of_owns h1
      have H1 := Lib.hid (And.intro h1 hld)
      clear h1 hld HO
      go_wp2
      go_ret
      exact ⟨o2, c2, rfl, H1.out.1, H1.out.2, hB⟩

set_option maxRecDepth 100000 in
set_option maxHeartbeats 4000000 in
theorem rplace_any (vs vt vi : Value) (st ix : List Int) (off : Int) (w : World) (ht : Ld w vt st) (hi : Ld w vi ix) (hl : st.length = ix.length) (l4 : st.length ≤ 4) (hst : sts st) (hnn : ∀ x ∈ ix, 0 ≤ x) (h0 : 0 ≤ off) (hT : off + dot st ix ≤ 65536) :
    Calls Tryz.prog 162 #[.agg #[vs, vt, .int .i64 off], vi] w fun e w' => e = .returned (.int .i64 (off + dot st ix)) ∧ Below w.heap.size w w' := by
  have B0 : Below w.heap.size w (w.alloc (.cells #[vs, vt, .int .i64 off] 168)) := (Below.refl _ _).alloc (Nat.le_refl _) _
  have K0 := Lib.hid (Blk.new w 168 #[vs, vt, .int .i64 off])
  obtain ⟨T, hTe⟩ : ∃ T, T = off + dot st ix := ⟨_, rfl⟩
  have hd0 := dot_nn (st := st) (i := ix) (fun s hs => (hst s hs).1) hnn
  have DS : Hid (Dt st ix T off 0) := ⟨Nat.zero_le _, h0, by simpa using hTe.symm⟩
  have hT2 : 0 ≤ T ∧ T ≤ 65536 := by omega
  have hoff : off ≤ 65536 := by omega
  rw [← hTe]
  have HD := Lib.hid (And.intro hst (And.intro hnn hl))
  have HB := Lib.hid B0
  obtain ⟨o1, c1, rfl, _, hx1⟩ := ht
  obtain ⟨o2, c2, rfl, _, hx2⟩ := hi
  have HX := Lib.hid (And.intro hx1 hx2)
  rw [← hl]
  clear hx1 hx2 hst hnn hd0 hTe hT hl B0
  go_enter Tryz.func162, Tryz.ntmps162
  go_wp2
  go_loopw [5, 6] (fun s5 s6 wr => ∃ (k : Nat) (p : Int), k ≤ st.length ∧ 0 ≤ p ∧ p ≤ 65536 ∧ s6 = .int .i64 k ∧ s5 = .int .i64 p ∧ Hid (Dt st ix T p k) ∧ Hid (Below w.heap.size w wr ∧ Blk wr w.heap.size 168 #[vs, .slice o1 st.length c1, .int .i64 off])) (fun _ s6 _ => st.length - (intOf s6).toNat)
  case atStart => exact ⟨0, off, Nat.zero_le _, h0, hoff, rfl, rfl, DS, HB.out, K0.out⟩
  case round =>
    obtain ⟨k, p, hk, p0, p1, rfl, rfl, HK, HW⟩ := hrel
    have hBW : Hid (Below w.heap.size w wr) := HW.out.1
    have KW : Hid (Blk wr w.heap.size 168 #[vs, .slice o1 st.length c1, .int .i64 off]) := HW.out.2
    have hmx : Tryz.prog.follows .mixedOrders = true := by kernel_rfl
    obtain ⟨_, x1, _⟩ := blk3 KW.out
    by_cases hlt : k < st.length
    · obtain ⟨b1, f1, rfl, hb1, hc1⟩ := HX.out.1 k hlt
      obtain ⟨b2, f2, rfl, hb2, hc2⟩ := HX.out.2 k (by have := HD.out.2.2; omega)
      have y1 := (hBW.out.cell (p := ⟨b1, f1 + k, none⟩) hb1).trans hc1
      have y2 := (hBW.out.cell (p := ⟨b2, f2 + k, none⟩) hb2).trans hc2
      obtain ⟨st1, t0, t1, t2, t3⟩ := dt_step HK.out HD.out.2.2 (fun s hs => (HD.out.1 s hs).1) HD.out.2.1 hlt
      have ST := Lib.hid st1
      clear st1 hc1 hc2
      generalize ix.getD k 0 = y at *
      generalize st.getD k 0 = s at *
      have q1 : y * s ≤ 65536 := by omega
      have q2 : p + y * s ≤ 65536 := by omega
      clear HX HD HK hb1 hb2
      go_wp2
      go_big_quiet_o (fail)
      go_wp2
      refine ⟨⟨k + 1, p + y * s, by omega, t3, q2, by go_num, by go_num, ST, below_drw HW.out.1 _, HW.out.2⟩, by simp [intOf]; omega⟩
    · obtain rfl : k = st.length := by omega
      obtain rfl := dt_end HK.out HD.out.2.2
      clear hlt
      go_wp2
      go_ret
      exact ⟨rfl, hBW.out⟩
end Go.Proofs.YtmafgdinegboeaaGreat
namespace Go.Proofs.YtmafgdinegboeaaGreat
open Go.RowKit Go.Shelf

def RefT (w : World) (sh ds : List Int) (e : Ending) (w' : World) : Prop := ∃ os cs od cd, e = .returned (.agg #[.slice os sh.length cs, .slice od ds.length cd]) ∧ Ld w' (.slice os sh.length cs) sh ∧ Ld w' (.slice od ds.length cd) ds ∧ Below w.heap.size w w'
set_option maxRecDepth 100000 in
set_option maxHeartbeats 20000000 in
theorem rcopyt_any (vs vt vd : Value) (sh st ls : List Int) (off : Int) (N : Nat) (w : World) (hs : Ld w vs sh) (ht : Ld w vt st) (hd : Ld w vd ls) (hv : Vw sh st off ls.length) (hN : (N : Int) = prod sh) :
    Calls Tryz.prog 99 #[.agg #[vs, vt, .int .i64 off], vd] w (RefT w sh (cps sh st off ls N)) := by
  obtain ⟨i0, hi0, hz0, hz1, hz2⟩ := info_parts infoW
  have hN6 : 1 ≤ N ∧ N ≤ 65536 := by have := may_prod hv.1; omega
  have l4 := may_len hv.1
  have HS := Lib.hid (And.intro hs (And.intro ht (And.intro hd (And.intro hv hN))))
  obtain ⟨w3, hw3⟩ : ∃ w3, w3 = (w.alloc (.cells #[vs, vt, .int .i64 off] 168)).alloc (.cells #[.slice none 0 0, .slice none 0 0] 26) := ⟨_, rfl⟩
  have hsz : w3.heap.size = w.heap.size + 2 := by rw [hw3]; simp
  have B3 : Below w.heap.size w w3 := by rw [hw3]; exact ((Below.refl _ _).alloc (Nat.le_refl _) _).alloc (by simp) _
  have K0 : Hid (Blk w3 w.heap.size 168 #[vs, vt, .int .i64 off]) := by rw [hw3]; exact (Blk.new w _ _).alloc _
  have K1 : Hid (Blk w3 (w.heap.size + 1) 26 #[.slice none 0 0, .slice none 0 0]) := by rw [hw3]; exact blk_new1 w _ _ _
  have C1 : Hid (∀ n, w3.heap.size = n → Calls Tryz.prog 58 #[vs] w3 fun e w' => ∃ o c, e = .returned (.slice o sh.length c) ∧ w'.ownsRow n 3 1 (.slice o sh.length c) sh.length (ints sh) ∧ Below n w3 w') := fun n hn => by
    subst hn
    exact (copy_any vs sh w3 (hs.below B3) (by omega)).mono (by rintro e w' ⟨o, c, rfl, h2, _, h3⟩; exact ⟨o, c, rfl, h2, h3⟩)
  replace C1 := Lib.hid (C1.out (w.heap.size + 2) hsz)
  have HW3 := Lib.hid hw3
  rw [hw3] at C1
  obtain ⟨o1, c1, rfl, _, _⟩ := hs
  obtain ⟨o2, c2, rfl, _, _⟩ := ht
  obtain ⟨o3, c3, rfl, _, _⟩ := id hd
  have HB3 := Lib.hid B3
  obtain ⟨z0, z1, z2, _⟩ := blk3 (show Blk w3 w.heap.size 168 #[.slice o1 sh.length c1, .slice o2 st.length c2, .int .i64 off] from K0.out)
  rw [hw3] at z0 z1 z2
  clear hv hN hd hw3 B3
  go_enter Tryz.func99, Tryz.ntmps99
  go_wp2_with (go_at_call 58; (with_reducible refine C1.out.mono ?_); rintro e w5 ⟨oS, cS, rfl, h1, h3⟩; rw [← HW3.out] at h3; have SV := Lib.hid h1; have B35 := Lib.hid (show Below w3.heap.size w3 w5 by rw [hsz]; exact h3); clear h1 h3)
  obtain ⟨T, hTT⟩ : ∃ T, T = w5.heap.size := ⟨_, rfl⟩
  have s5 : w.heap.size + 2 ≤ T := by rw [hTT, ← hsz]; exact B35.out.size
  have B5 := Lib.hid (HB3.out.trans (B35.out.mono (by omega)))
  have K05 := Lib.hid (K0.out.below B35.out (by omega))
  have K15 := Lib.hid (K1.out.below B35.out (by omega))
  clear z0 z1 z2
  go_loopw [6] (fun s6 wr => ∃ k : Nat, k ≤ N ∧ s6 = .int .i64 k ∧ Hid (Below w.heap.size w wr) ∧ Hid (CpI w5.heap.size (T + 1) w5 (.slice oS sh.length cS) (cps sh st off ls N) k wr)) (fun s6 _ => N - (intOf s6).toNat)
  case atStart =>
    refine ⟨0, Nat.zero_le _, rfl, B5.out.alloc B5.out.size _, .slice none 0 0, Blk.new w5 _ _, ⟨rfl, .inl ⟨rfl, rfl⟩⟩, (Below.refl _ _).alloc (Nat.le_refl _) _, by rw [hTT]; simp⟩
  case round =>
    obtain ⟨k, hk, rfl, HW, HC⟩ := hrel
    obtain ⟨dv, hT1, hO1, hZ1, hXs⟩ := id HC.out
    rw [← hTT] at hT1 hZ1
    have HT := Lib.hid hT1
    have HO := Lib.hid hO1
    have HZ := Lib.hid hZ1
    clear hT1 hO1 hZ1
    have OLD0 : Hid (∀ W, Below T w5 W → Blk W w.heap.size 168 #[.slice o1 sh.length c1, .slice o2 st.length c2, .int .i64 off] ∧ Blk W (w.heap.size + 1) 26 #[.slice none 0 0, .slice none 0 0] ∧ Below w.heap.size w W) := Lib.hid (fun W hW => ⟨K05.out.below hW (by omega), K15.out.below hW (by omega), B5.out.trans (hW.mono (by omega))⟩)
    obtain ⟨x0, x1, x2, _⟩ := blk3 (OLD0.out _ HZ.out).1
    have wl : w.heap.size < wr.heap.size := by omega
    have KC : Hid (Calls Tryz.prog 46 #[.slice o1 sh.length c1] wr fun e w' => e = .returned (.int .i64 (N : Int)) ∧ wr = w') := Lib.hid (by
      have h := rcount_any _ sh wr (HS.out.1.below HW.out) (may_dms HS.out.2.2.2.1.1) (by omega)
      rwa [rct_may HS.out.2.2.2.1.1, ← HS.out.2.2.2.2] at h)
    by_cases hlt : k < N
    · have KA := Lib.hid (fun (W : World) (hW : Below w.heap.size w W) => rat_any _ sh (k : Nat) W (HS.out.1.below hW) HS.out.2.2.2.1.1 (by omega) (by have := HS.out.2.2.2.2; omega))
      obtain ⟨hm, hl, hst, h0, h5, h6, h7⟩ := HS.out.2.2.2.1
      have hp := may_pos hm
      have hNN := HS.out.2.2.2.2
      have hat := vw_at HS.out.2.2.2.1 (atl_inx sh (k : Nat) hp (by omega) (by omega))
      obtain ⟨P, hP⟩ := Int.eq_ofNat_of_zero_le hat.1
      have EA := Lib.hid (cps_snoc (ls := ls) (k := k) (N := N) hlt hP)
      rw [hP] at hat
      have hPl : P < ls.length := by omega
      have KP : Hid (∀ (W : World) (v : Value), Ld W v (atl sh (k : Nat)) → Below w.heap.size w W → Calls Tryz.prog 162 #[.agg #[.slice o1 sh.length c1, .slice o2 st.length c2, .int .i64 off], v] W fun e w' => e = .returned (.int .i64 (P : Int)) ∧ Below W.heap.size W w') := Lib.hid (fun W v h hW => by
        have := rplace_any (.slice o1 sh.length c1) (.slice o2 st.length c2) v st (atl sh (k : Nat)) off W (HS.out.2.1.below hW) h (by rw [atl_len]; exact hl) (by omega) hst (atl_nn hp (by omega) (by omega)) h0 (by rw [hP]; omega)
        rwa [hP] at this)
      obtain ⟨o3', c3', e3, _, hx3⟩ := HS.out.2.2.1
      simp only [Value.slice.injEq] at e3
      obtain ⟨rfl, _, rfl⟩ := e3
      obtain ⟨b3, f3, rfl, hb3, hc3⟩ := hx3 P hPl
      have kD := (HW.out.cell (p := ⟨b3, f3 + P, none⟩) hb3).trans hc3
      have KY := Lib.hid (fun (W : World) (hW : Below wr.heap.size wr W) => (hW.cell (p := ⟨b3, f3 + P, none⟩) (Nat.lt_trans hb3 wl)).trans kD)
      have KQ := Lib.hid (fun (W : World) (hW : Below wr.heap.size wr W) => And.intro (blk3 ((OLD0.out _ HZ.out).1.below hW wl)) (blk2 (HT.out.below hW HT.out.lt)))
      have OLD := Lib.hid (fun (W : World) (hW : Below T w5 W) => And.intro (blk3 (OLD0.out W hW).1).1 (And.intro (blk3 (OLD0.out W hW).1).2.1 (And.intro (blk3 (OLD0.out W hW).1).2.2.1 (((OLD0.out W hW).2.2.cell (p := ⟨b3, f3 + P, none⟩) hb3).trans hc3))))
      have BD : Hid (Below w.heap.size w wr.drew) := below_drw HW.out 1
      have BR : Hid (Below wr.heap.size wr wr.drew) := below_drw (Below.refl _ _) 1
      obtain ⟨_, sc, _, sf⟩ := blk2 HT.out
      have hPi : (P : Int) < (ls.length : Int) := by omega
      have hP0 : (0 : Int) ≤ (P : Int) := by omega
      clear hm hl hst h0 h5 h6 h7 hp hNN hat hP hx3
      generalize hy : ls.getD P 0 = y at *
      clear hy
      subst hTT
      go_upto_region 5 with (first | (go_at_call 46; (with_reducible refine KC.out.mono ?_); rintro e w' ⟨rfl, rfl⟩))
      refine wp_region_held_drew (S := (fun W => W.cell? ⟨w.heap.size, 0, none⟩ = some (.slice o1 sh.length c1) ∧ W.cell? ⟨w.heap.size, 1, none⟩ = some (.slice o2 st.length c2) ∧ W.cell? ⟨w.heap.size, 2, none⟩ = some (.int .i64 off) ∧ W.cell? ⟨b3, f3 + P, none⟩ = some (.int .i64 y))) (by kernel_rfl) ?_ (fun hHeld => ?_)
      · exact ⟨x0, x1, x2, kD⟩
      have hHd := hHeld
      (refine tk (i := 0) (oi := ⟨some 18, _, _, _, _, _⟩) (v := ?v0_1) rfl ?hy0_1 ?rest0_1; (case hy0_1 => intro w hSw; (try dsimp only at hSw); go_simp; first | done | with_reducible rfl))
      (try simp only [Act.put, pq])
      (refine tk (i := 2) (oi := ⟨some 20, _, _, _, _, _⟩) (v := ?v2_2) rfl ?hy2_2 ?rest2_2; (case hy2_2 => intro w hSw; (try dsimp only at hSw); go_simp; first | done | with_reducible rfl))
      (try simp only [Act.put, pq])
      (refine tk (i := 3) (oi := ⟨some 21, _, _, _, _, _⟩) (v := ?v3_3) rfl ?hy3_3 ?rest3_3; (case hy3_3 => intro w hSw; (try dsimp only at hSw); go_simp; first | done | with_reducible rfl))
      (try simp only [Act.put, pq])
      (refine tk (i := 4) (oi := ⟨some 22, _, _, _, _, _⟩) (v := ?v4_4) rfl ?hy4_4 ?rest4_4; (case hy4_4 => intro w hSw; (try dsimp only at hSw); go_simp; first | done | with_reducible rfl))
      (try simp only [Act.put, pq])
      (refine tk (i := 5) (oi := ⟨some 23, _, _, _, _, _⟩) (v := ?v5_5) rfl ?hy5_5 ?rest5_5; (case hy5_5 => intro w hSw; (try dsimp only at hSw); go_simp; first | done | with_reducible rfl))
      (try simp only [Act.put, pq])
      (refine tk (i := 6) (oi := ⟨some 24, _, _, _, _, _⟩) (v := ?v6_6) rfl ?hy6_6 ?rest6_6; (case hy6_6 => intro w hSw; (try dsimp only at hSw); go_simp; first | done | with_reducible rfl))
      (try simp only [Act.put, pq])
      refine wpAnyH_ready (rs := [1, 7]) (by kernel_rfl) (by simp) ?_
      refine AllReadyH.cons (o := ⟨some 19, _, _, _, _, _⟩) rfl (fun K hK => ?_) (AllReadyH.cons (o := ⟨some 25, _, _, _, _, _⟩) rfl (fun K hK => ?_) AllReadyH.nil)
      · go_simp
        refine hK.out _ _ ?_ (fun hHeld => ?_)
        · (try dsimp only)
          first | assumption | exact ⟨x0, x1, x2, kD⟩ | exact ⟨y0, y1, y2, y3⟩ | exact ⟨v0, v1, v2, v3⟩ | (simp [go_sem, *]; done) | (simp [go_sem, World.cell?_alloc_some, *]; done) | exact e9.out _
        clear hK K
        (try simp only [Act.put, pq])
        refine wpAnyH_ready (rs := [7]) (by kernel_rfl) (by simp) ?_
        refine AllReadyH.cons (o := ⟨some 25, _, _, _, _, _⟩) rfl (fun K hK => ?_) AllReadyH.nil
        go_simp
        (go_at_call 50; (with_reducible refine (KA.out _ BD.out).mono ?_); rintro e w3 ⟨vi, rfl, hvi, hb3⟩; have B3 := Lib.hid (BD.out.trans (hb3.mono BD.out.size)); have R3 := Lib.hid (BR.out.trans (hb3.mono BR.out.size)); have V3 := Lib.hid hvi; obtain ⟨⟨y0, y1, y2, _⟩, _, tc, _, tf⟩ := KQ.out _ R3.out; have y3 := KY.out _ R3.out; clear hb3 hvi)
        refine hK.out _ _ ?_ (fun hHeld => ?_)
        · (try dsimp only)
          first | assumption | exact ⟨x0, x1, x2, kD⟩ | exact ⟨y0, y1, y2, y3⟩ | exact ⟨v0, v1, v2, v3⟩ | (simp [go_sem, *]; done) | (simp [go_sem, World.cell?_alloc_some, *]; done) | exact e9.out _
        clear hK K
        (try simp only [Act.put, pq])
        refine wpAnyH_ready (rs := [8]) (by kernel_rfl) (by simp) ?_
        refine AllReadyH.cons (o := ⟨some 26, _, _, _, _, _⟩) rfl (fun K hK => ?_) AllReadyH.nil
        go_simp
        (go_at_call 162; (with_reducible refine (KP.out _ _ V3.out B3.out).mono ?_); rintro e w4 ⟨rfl, hb4⟩; have B4 := Lib.hid (B3.out.trans (hb4.mono B3.out.size)); have R4 := Lib.hid (R3.out.trans (hb4.mono R3.out.size)); obtain ⟨⟨v0, v1, v2, _⟩, _, uc, _, uf⟩ := KQ.out _ R4.out; have v3 := KY.out _ R4.out; have ca := fun (o : Obj) => Lib.cell?_alloc_some o uc; have O4 := Lib.hid (Below.keepOwn HO.out R4.out (Nat.le_refl _)); have T4 := Lib.hid (HT.out.below R4.out HT.out.lt); have Z4 := Lib.hid (HZ.out.trans (R4.out.mono HZ.out.size)); have z4 : w5.heap.size + 1 ≤ w4.heap.size := Nat.le_trans hXs R4.out.size; clear hb4)
        refine hK.out _ _ ?_ (fun hHeld => ?_)
        · (try dsimp only)
          first | assumption | exact ⟨x0, x1, x2, kD⟩ | exact ⟨y0, y1, y2, y3⟩ | exact ⟨v0, v1, v2, v3⟩ | (simp [go_sem, *]; done) | (simp [go_sem, World.cell?_alloc_some, *]; done) | exact e9.out _
        clear hK K
        (try simp only [Act.put, pq])
        (refine tk (i := 9) (oi := ⟨some 27, _, _, _, _, _⟩) (v := ?v9_7) rfl ?hy9_7 ?rest9_7; (case hy9_7 => intro w hSw; (try dsimp only at hSw); go_simp; first | done | with_reducible rfl))
        (try simp only [Act.put, pq])
        (refine tk (i := 10) (oi := ⟨some 28, _, _, _, _, _⟩) (v := ?v10_8) rfl ?hy10_8 ?rest10_8; (case hy10_8 => intro w hSw; (try dsimp only at hSw); go_simp; first | done | with_reducible rfl))
        (try simp only [Act.put, pq])
        refine wpAnyH_ready (rs := [11]) (by kernel_rfl) (by simp) ?_
        refine AllReadyH.cons (o := ⟨some 29, _, _, _, _, _⟩) rfl (fun K hK => ?_) AllReadyH.nil
        go_simp
        refine hK.out _ _ ?_ (fun hHeld => ?_)
        · (try dsimp only)
          first | assumption | exact ⟨x0, x1, x2, kD⟩ | exact ⟨y0, y1, y2, y3⟩ | exact ⟨v0, v1, v2, v3⟩ | (simp [go_sem, *]; done) | (simp [go_sem, World.cell?_alloc_some, *]; done) | exact e9.out _
        clear hK K
        (try simp only [Act.put, pq])
        refine wpAnyH_ready (rs := [12]) (by kernel_rfl) (by simp) ?_
        refine AllReadyH.cons (o := ⟨some 30, _, _, _, _, _⟩) rfl (fun K hK => ?_) AllReadyH.nil
        refine step_append_lies _ (by rfl) (.tmp 19) (.tmp 29) 24 (by rfl) (w5.heap.size + 1) 2 i0 (.int .i64 0) 1 8 Tryz.underlying24 hi0 hz0 hz1 hz2 rfl (by decide) dv k (ints ((cps sh st off ls N).take k)) (by rfl) (O4.out.alloc _) ⟨w4.heap.size, 0, none⟩ 1 1 [.int .i64 y] (by rfl) rfl (cell_one_new _ _ _) (by simp [Value.oneCell']) (by decide) (by unfold maxLen; omega) (by omega) (by simp; omega) (w4.heap.size + 1) (by simp) ?_
        intro g9 cp9 w9 hown hgrow0 hat _
        have hgrow : (w4.alloc (.cells #[.int .i64 y] 2)).drew.grownBy w9 dv.ownBlock := ⟨hgrow0.os, hgrow0.tape, hgrow0.output, hgrow0.size, hgrow0.block⟩
        have Q9 := Lib.hid (And.intro hown (cp_step T4.out O4.out Z4.out hgrow hat (Nat.lt_succ_self w5.heap.size) z4))
        obtain ⟨_, p0, h0, h1⟩ := blk2 Q9.out.2.1
        have e9 := Lib.hid (fun (z : Value) => OLD.out _ (Q9.out.2.2.setCell (p := ⟨w5.heap.size, 1, none⟩) (Nat.le_refl _) z))
        obtain ⟨q0, q1, q2, q3⟩ := OLD.out w9 Q9.out.2.2
        have R9 := Lib.hid (cp_done Q9.out.1 Q9.out.2.1 Q9.out.2.2 T4.out O4.out hgrow EA.out (Nat.lt_succ_self w5.heap.size) z4)
        have G9 := Lib.hid ((B4.out.alloc B4.out.size _).grown hgrow0 (by have := B4.out.size; simp; omega) (fun j hj => by have := (O4.out.lt j hj).1; omega))
        clear hown hgrow hgrow0 hat
        refine hK.out _ _ ?_ (fun hHeld => ?_)
        · (try dsimp only)
          first | assumption | exact ⟨x0, x1, x2, kD⟩ | exact ⟨y0, y1, y2, y3⟩ | exact ⟨v0, v1, v2, v3⟩ | (simp [go_sem, *]; done) | (simp [go_sem, World.cell?_alloc_some, *]; done) | exact e9.out _
        clear hK K
        (try simp only [Act.put, pq])
        refine wpAnyH_ready (rs := [13]) (by kernel_rfl) (by simp) ?_
        refine AllReadyH.cons (o := ⟨some 31, _, _, _, _, _⟩) rfl (fun K hK => ?_) AllReadyH.nil
        go_simp
        refine hK.out _ _ ?_ (fun hHeld => ?_)
        · (try dsimp only)
          first | assumption | exact ⟨x0, x1, x2, kD⟩ | exact ⟨y0, y1, y2, y3⟩ | exact ⟨v0, v1, v2, v3⟩ | (simp [go_sem, *]; done) | (simp [go_sem, World.cell?_alloc_some, *]; done) | exact e9.out _
        clear hK K
        (try simp only [Act.put, pq])
        refine wpAnyH_ready (rs := [14]) (by kernel_rfl) (by simp) ?_
        refine AllReadyH.cons (o := ⟨none, _, _, _, _, _⟩) rfl (fun K hK => ?_) AllReadyH.nil
        go_simp
        refine hK.out _ _ ?_ (fun hHeld => ?_)
        · (try dsimp only)
          first | assumption | exact ⟨x0, x1, x2, kD⟩ | exact ⟨y0, y1, y2, y3⟩ | exact ⟨v0, v1, v2, v3⟩ | (simp [go_sem, *]; done) | (simp [go_sem, World.cell?_alloc_some, *]; done) | exact e9.out _
        clear hK K
        (try simp only [Act.put, pq])
        refine wpAnyH_done (by kernel_rfl) ?_ _
        go_wp2
        exact ⟨⟨k + 1, by omega, by go_num, G9.out.setCell (p := ⟨w5.heap.size, 1, none⟩) (by show w.heap.size ≤ w5.heap.size; omega) _, R9.out.2.2⟩, by simp [intOf]; omega⟩
      · go_simp
        (go_at_call 50; (with_reducible refine (KA.out _ BD.out).mono ?_); rintro e w3 ⟨vi, rfl, hvi, hb3⟩; have B3 := Lib.hid (BD.out.trans (hb3.mono BD.out.size)); have R3 := Lib.hid (BR.out.trans (hb3.mono BR.out.size)); have V3 := Lib.hid hvi; obtain ⟨⟨y0, y1, y2, _⟩, _, tc, _, tf⟩ := KQ.out _ R3.out; have y3 := KY.out _ R3.out; clear hb3 hvi)
        refine hK.out _ _ ?_ (fun hHeld => ?_)
        · (try dsimp only)
          first | assumption | exact ⟨x0, x1, x2, kD⟩ | exact ⟨y0, y1, y2, y3⟩ | exact ⟨v0, v1, v2, v3⟩ | (simp [go_sem, *]; done) | (simp [go_sem, World.cell?_alloc_some, *]; done) | exact e9.out _
        clear hK K
        (try simp only [Act.put, pq])
        refine wpAnyH_ready (rs := [1, 8]) (by kernel_rfl) (by simp) ?_
        refine AllReadyH.cons (o := ⟨some 19, _, _, _, _, _⟩) rfl (fun K hK => ?_) (AllReadyH.cons (o := ⟨some 26, _, _, _, _, _⟩) rfl (fun K hK => ?_) AllReadyH.nil)
        · go_simp
          refine hK.out _ _ ?_ (fun hHeld => ?_)
          · (try dsimp only)
            first | assumption | exact ⟨x0, x1, x2, kD⟩ | exact ⟨y0, y1, y2, y3⟩ | exact ⟨v0, v1, v2, v3⟩ | (simp [go_sem, *]; done) | (simp [go_sem, World.cell?_alloc_some, *]; done) | exact e9.out _
          clear hK K
          (try simp only [Act.put, pq])
          refine wpAnyH_ready (rs := [8]) (by kernel_rfl) (by simp) ?_
          refine AllReadyH.cons (o := ⟨some 26, _, _, _, _, _⟩) rfl (fun K hK => ?_) AllReadyH.nil
          go_simp
          (go_at_call 162; (with_reducible refine (KP.out _ _ V3.out B3.out).mono ?_); rintro e w4 ⟨rfl, hb4⟩; have B4 := Lib.hid (B3.out.trans (hb4.mono B3.out.size)); have R4 := Lib.hid (R3.out.trans (hb4.mono R3.out.size)); obtain ⟨⟨v0, v1, v2, _⟩, _, uc, _, uf⟩ := KQ.out _ R4.out; have v3 := KY.out _ R4.out; have ca := fun (o : Obj) => Lib.cell?_alloc_some o uc; have O4 := Lib.hid (Below.keepOwn HO.out R4.out (Nat.le_refl _)); have T4 := Lib.hid (HT.out.below R4.out HT.out.lt); have Z4 := Lib.hid (HZ.out.trans (R4.out.mono HZ.out.size)); have z4 : w5.heap.size + 1 ≤ w4.heap.size := Nat.le_trans hXs R4.out.size; clear hb4)
          refine hK.out _ _ ?_ (fun hHeld => ?_)
          · (try dsimp only)
            first | assumption | exact ⟨x0, x1, x2, kD⟩ | exact ⟨y0, y1, y2, y3⟩ | exact ⟨v0, v1, v2, v3⟩ | (simp [go_sem, *]; done) | (simp [go_sem, World.cell?_alloc_some, *]; done) | exact e9.out _
          clear hK K
          (try simp only [Act.put, pq])
          (refine tk (i := 9) (oi := ⟨some 27, _, _, _, _, _⟩) (v := ?v9_9) rfl ?hy9_9 ?rest9_9; (case hy9_9 => intro w hSw; (try dsimp only at hSw); go_simp; first | done | with_reducible rfl))
          (try simp only [Act.put, pq])
          (refine tk (i := 10) (oi := ⟨some 28, _, _, _, _, _⟩) (v := ?v10_10) rfl ?hy10_10 ?rest10_10; (case hy10_10 => intro w hSw; (try dsimp only at hSw); go_simp; first | done | with_reducible rfl))
          (try simp only [Act.put, pq])
          refine wpAnyH_ready (rs := [11]) (by kernel_rfl) (by simp) ?_
          refine AllReadyH.cons (o := ⟨some 29, _, _, _, _, _⟩) rfl (fun K hK => ?_) AllReadyH.nil
          go_simp
          refine hK.out _ _ ?_ (fun hHeld => ?_)
          · (try dsimp only)
            first | assumption | exact ⟨x0, x1, x2, kD⟩ | exact ⟨y0, y1, y2, y3⟩ | exact ⟨v0, v1, v2, v3⟩ | (simp [go_sem, *]; done) | (simp [go_sem, World.cell?_alloc_some, *]; done) | exact e9.out _
          clear hK K
          (try simp only [Act.put, pq])
          refine wpAnyH_ready (rs := [12]) (by kernel_rfl) (by simp) ?_
          refine AllReadyH.cons (o := ⟨some 30, _, _, _, _, _⟩) rfl (fun K hK => ?_) AllReadyH.nil
          refine step_append_lies _ (by rfl) (.tmp 19) (.tmp 29) 24 (by rfl) (w5.heap.size + 1) 2 i0 (.int .i64 0) 1 8 Tryz.underlying24 hi0 hz0 hz1 hz2 rfl (by decide) dv k (ints ((cps sh st off ls N).take k)) (by rfl) (O4.out.alloc _) ⟨w4.heap.size, 0, none⟩ 1 1 [.int .i64 y] (by rfl) rfl (cell_one_new _ _ _) (by simp [Value.oneCell']) (by decide) (by unfold maxLen; omega) (by omega) (by simp; omega) (w4.heap.size + 1) (by simp) ?_
          intro g9 cp9 w9 hown hgrow0 hat _
          have hgrow : (w4.alloc (.cells #[.int .i64 y] 2)).drew.grownBy w9 dv.ownBlock := ⟨hgrow0.os, hgrow0.tape, hgrow0.output, hgrow0.size, hgrow0.block⟩
          have Q9 := Lib.hid (And.intro hown (cp_step T4.out O4.out Z4.out hgrow hat (Nat.lt_succ_self w5.heap.size) z4))
          obtain ⟨_, p0, h0, h1⟩ := blk2 Q9.out.2.1
          have e9 := Lib.hid (fun (z : Value) => OLD.out _ (Q9.out.2.2.setCell (p := ⟨w5.heap.size, 1, none⟩) (Nat.le_refl _) z))
          obtain ⟨q0, q1, q2, q3⟩ := OLD.out w9 Q9.out.2.2
          have R9 := Lib.hid (cp_done Q9.out.1 Q9.out.2.1 Q9.out.2.2 T4.out O4.out hgrow EA.out (Nat.lt_succ_self w5.heap.size) z4)
          have G9 := Lib.hid ((B4.out.alloc B4.out.size _).grown hgrow0 (by have := B4.out.size; simp; omega) (fun j hj => by have := (O4.out.lt j hj).1; omega))
          clear hown hgrow hgrow0 hat
          refine hK.out _ _ ?_ (fun hHeld => ?_)
          · (try dsimp only)
            first | assumption | exact ⟨x0, x1, x2, kD⟩ | exact ⟨y0, y1, y2, y3⟩ | exact ⟨v0, v1, v2, v3⟩ | (simp [go_sem, *]; done) | (simp [go_sem, World.cell?_alloc_some, *]; done) | exact e9.out _
          clear hK K
          (try simp only [Act.put, pq])
          refine wpAnyH_ready (rs := [13]) (by kernel_rfl) (by simp) ?_
          refine AllReadyH.cons (o := ⟨some 31, _, _, _, _, _⟩) rfl (fun K hK => ?_) AllReadyH.nil
          go_simp
          refine hK.out _ _ ?_ (fun hHeld => ?_)
          · (try dsimp only)
            first | assumption | exact ⟨x0, x1, x2, kD⟩ | exact ⟨y0, y1, y2, y3⟩ | exact ⟨v0, v1, v2, v3⟩ | (simp [go_sem, *]; done) | (simp [go_sem, World.cell?_alloc_some, *]; done) | exact e9.out _
          clear hK K
          (try simp only [Act.put, pq])
          refine wpAnyH_ready (rs := [14]) (by kernel_rfl) (by simp) ?_
          refine AllReadyH.cons (o := ⟨none, _, _, _, _, _⟩) rfl (fun K hK => ?_) AllReadyH.nil
          go_simp
          refine hK.out _ _ ?_ (fun hHeld => ?_)
          · (try dsimp only)
            first | assumption | exact ⟨x0, x1, x2, kD⟩ | exact ⟨y0, y1, y2, y3⟩ | exact ⟨v0, v1, v2, v3⟩ | (simp [go_sem, *]; done) | (simp [go_sem, World.cell?_alloc_some, *]; done) | exact e9.out _
          clear hK K
          (try simp only [Act.put, pq])
          refine wpAnyH_done (by kernel_rfl) ?_ _
          go_wp2
          exact ⟨⟨k + 1, by omega, by go_num, G9.out.setCell (p := ⟨w5.heap.size, 1, none⟩) (by show w.heap.size ≤ w5.heap.size; omega) _, R9.out.2.2⟩, by simp [intOf]; omega⟩
        · go_simp
          (go_at_call 162; (with_reducible refine (KP.out _ _ V3.out B3.out).mono ?_); rintro e w4 ⟨rfl, hb4⟩; have B4 := Lib.hid (B3.out.trans (hb4.mono B3.out.size)); have R4 := Lib.hid (R3.out.trans (hb4.mono R3.out.size)); obtain ⟨⟨v0, v1, v2, _⟩, _, uc, _, uf⟩ := KQ.out _ R4.out; have v3 := KY.out _ R4.out; have ca := fun (o : Obj) => Lib.cell?_alloc_some o uc; have O4 := Lib.hid (Below.keepOwn HO.out R4.out (Nat.le_refl _)); have T4 := Lib.hid (HT.out.below R4.out HT.out.lt); have Z4 := Lib.hid (HZ.out.trans (R4.out.mono HZ.out.size)); have z4 : w5.heap.size + 1 ≤ w4.heap.size := Nat.le_trans hXs R4.out.size; clear hb4)
          refine hK.out _ _ ?_ (fun hHeld => ?_)
          · (try dsimp only)
            first | assumption | exact ⟨x0, x1, x2, kD⟩ | exact ⟨y0, y1, y2, y3⟩ | exact ⟨v0, v1, v2, v3⟩ | (simp [go_sem, *]; done) | (simp [go_sem, World.cell?_alloc_some, *]; done) | exact e9.out _
          clear hK K
          (try simp only [Act.put, pq])
          (refine tk (i := 9) (oi := ⟨some 27, _, _, _, _, _⟩) (v := ?v9_11) rfl ?hy9_11 ?rest9_11; (case hy9_11 => intro w hSw; (try dsimp only at hSw); go_simp; first | done | with_reducible rfl))
          (try simp only [Act.put, pq])
          (refine tk (i := 10) (oi := ⟨some 28, _, _, _, _, _⟩) (v := ?v10_12) rfl ?hy10_12 ?rest10_12; (case hy10_12 => intro w hSw; (try dsimp only at hSw); go_simp; first | done | with_reducible rfl))
          (try simp only [Act.put, pq])
          refine wpAnyH_ready (rs := [1, 11]) (by kernel_rfl) (by simp) ?_
          refine AllReadyH.cons (o := ⟨some 19, _, _, _, _, _⟩) rfl (fun K hK => ?_) (AllReadyH.cons (o := ⟨some 29, _, _, _, _, _⟩) rfl (fun K hK => ?_) AllReadyH.nil)
          · go_simp
            refine hK.out _ _ ?_ (fun hHeld => ?_)
            · (try dsimp only)
              first | assumption | exact ⟨x0, x1, x2, kD⟩ | exact ⟨y0, y1, y2, y3⟩ | exact ⟨v0, v1, v2, v3⟩ | (simp [go_sem, *]; done) | (simp [go_sem, World.cell?_alloc_some, *]; done) | exact e9.out _
            clear hK K
            (try simp only [Act.put, pq])
            refine wpAnyH_ready (rs := [11]) (by kernel_rfl) (by simp) ?_
            refine AllReadyH.cons (o := ⟨some 29, _, _, _, _, _⟩) rfl (fun K hK => ?_) AllReadyH.nil
            go_simp
            refine hK.out _ _ ?_ (fun hHeld => ?_)
            · (try dsimp only)
              first | assumption | exact ⟨x0, x1, x2, kD⟩ | exact ⟨y0, y1, y2, y3⟩ | exact ⟨v0, v1, v2, v3⟩ | (simp [go_sem, *]; done) | (simp [go_sem, World.cell?_alloc_some, *]; done) | exact e9.out _
            clear hK K
            (try simp only [Act.put, pq])
            refine wpAnyH_ready (rs := [12]) (by kernel_rfl) (by simp) ?_
            refine AllReadyH.cons (o := ⟨some 30, _, _, _, _, _⟩) rfl (fun K hK => ?_) AllReadyH.nil
            refine step_append_lies _ (by rfl) (.tmp 19) (.tmp 29) 24 (by rfl) (w5.heap.size + 1) 2 i0 (.int .i64 0) 1 8 Tryz.underlying24 hi0 hz0 hz1 hz2 rfl (by decide) dv k (ints ((cps sh st off ls N).take k)) (by rfl) (O4.out.alloc _) ⟨w4.heap.size, 0, none⟩ 1 1 [.int .i64 y] (by rfl) rfl (cell_one_new _ _ _) (by simp [Value.oneCell']) (by decide) (by unfold maxLen; omega) (by omega) (by simp; omega) (w4.heap.size + 1) (by simp) ?_
            intro g9 cp9 w9 hown hgrow0 hat _
            have hgrow : (w4.alloc (.cells #[.int .i64 y] 2)).drew.grownBy w9 dv.ownBlock := ⟨hgrow0.os, hgrow0.tape, hgrow0.output, hgrow0.size, hgrow0.block⟩
            have Q9 := Lib.hid (And.intro hown (cp_step T4.out O4.out Z4.out hgrow hat (Nat.lt_succ_self w5.heap.size) z4))
            obtain ⟨_, p0, h0, h1⟩ := blk2 Q9.out.2.1
            have e9 := Lib.hid (fun (z : Value) => OLD.out _ (Q9.out.2.2.setCell (p := ⟨w5.heap.size, 1, none⟩) (Nat.le_refl _) z))
            obtain ⟨q0, q1, q2, q3⟩ := OLD.out w9 Q9.out.2.2
            have R9 := Lib.hid (cp_done Q9.out.1 Q9.out.2.1 Q9.out.2.2 T4.out O4.out hgrow EA.out (Nat.lt_succ_self w5.heap.size) z4)
            have G9 := Lib.hid ((B4.out.alloc B4.out.size _).grown hgrow0 (by have := B4.out.size; simp; omega) (fun j hj => by have := (O4.out.lt j hj).1; omega))
            clear hown hgrow hgrow0 hat
            refine hK.out _ _ ?_ (fun hHeld => ?_)
            · (try dsimp only)
              first | assumption | exact ⟨x0, x1, x2, kD⟩ | exact ⟨y0, y1, y2, y3⟩ | exact ⟨v0, v1, v2, v3⟩ | (simp [go_sem, *]; done) | (simp [go_sem, World.cell?_alloc_some, *]; done) | exact e9.out _
            clear hK K
            (try simp only [Act.put, pq])
            refine wpAnyH_ready (rs := [13]) (by kernel_rfl) (by simp) ?_
            refine AllReadyH.cons (o := ⟨some 31, _, _, _, _, _⟩) rfl (fun K hK => ?_) AllReadyH.nil
            go_simp
            refine hK.out _ _ ?_ (fun hHeld => ?_)
            · (try dsimp only)
              first | assumption | exact ⟨x0, x1, x2, kD⟩ | exact ⟨y0, y1, y2, y3⟩ | exact ⟨v0, v1, v2, v3⟩ | (simp [go_sem, *]; done) | (simp [go_sem, World.cell?_alloc_some, *]; done) | exact e9.out _
            clear hK K
            (try simp only [Act.put, pq])
            refine wpAnyH_ready (rs := [14]) (by kernel_rfl) (by simp) ?_
            refine AllReadyH.cons (o := ⟨none, _, _, _, _, _⟩) rfl (fun K hK => ?_) AllReadyH.nil
            go_simp
            refine hK.out _ _ ?_ (fun hHeld => ?_)
            · (try dsimp only)
              first | assumption | exact ⟨x0, x1, x2, kD⟩ | exact ⟨y0, y1, y2, y3⟩ | exact ⟨v0, v1, v2, v3⟩ | (simp [go_sem, *]; done) | (simp [go_sem, World.cell?_alloc_some, *]; done) | exact e9.out _
            clear hK K
            (try simp only [Act.put, pq])
            refine wpAnyH_done (by kernel_rfl) ?_ _
            go_wp2
            exact ⟨⟨k + 1, by omega, by go_num, G9.out.setCell (p := ⟨w5.heap.size, 1, none⟩) (by show w.heap.size ≤ w5.heap.size; omega) _, R9.out.2.2⟩, by simp [intOf]; omega⟩
          · go_simp
            refine hK.out _ _ ?_ (fun hHeld => ?_)
            · (try dsimp only)
              first | assumption | exact ⟨x0, x1, x2, kD⟩ | exact ⟨y0, y1, y2, y3⟩ | exact ⟨v0, v1, v2, v3⟩ | (simp [go_sem, *]; done) | (simp [go_sem, World.cell?_alloc_some, *]; done) | exact e9.out _
            clear hK K
            (try simp only [Act.put, pq])
            refine wpAnyH_ready (rs := [1]) (by kernel_rfl) (by simp) ?_
            refine AllReadyH.cons (o := ⟨some 19, _, _, _, _, _⟩) rfl (fun K hK => ?_) AllReadyH.nil
            go_simp
            refine hK.out _ _ ?_ (fun hHeld => ?_)
            · (try dsimp only)
              first | assumption | exact ⟨x0, x1, x2, kD⟩ | exact ⟨y0, y1, y2, y3⟩ | exact ⟨v0, v1, v2, v3⟩ | (simp [go_sem, *]; done) | (simp [go_sem, World.cell?_alloc_some, *]; done) | exact e9.out _
            clear hK K
            (try simp only [Act.put, pq])
            refine wpAnyH_ready (rs := [12]) (by kernel_rfl) (by simp) ?_
            refine AllReadyH.cons (o := ⟨some 30, _, _, _, _, _⟩) rfl (fun K hK => ?_) AllReadyH.nil
            refine step_append_lies _ (by rfl) (.tmp 19) (.tmp 29) 24 (by rfl) (w5.heap.size + 1) 2 i0 (.int .i64 0) 1 8 Tryz.underlying24 hi0 hz0 hz1 hz2 rfl (by decide) dv k (ints ((cps sh st off ls N).take k)) (by rfl) (O4.out.alloc _) ⟨w4.heap.size, 0, none⟩ 1 1 [.int .i64 y] (by rfl) rfl (cell_one_new _ _ _) (by simp [Value.oneCell']) (by decide) (by unfold maxLen; omega) (by omega) (by simp; omega) (w4.heap.size + 1) (by simp) ?_
            intro g9 cp9 w9 hown hgrow0 hat _
            have hgrow : (w4.alloc (.cells #[.int .i64 y] 2)).drew.grownBy w9 dv.ownBlock := ⟨hgrow0.os, hgrow0.tape, hgrow0.output, hgrow0.size, hgrow0.block⟩
            have Q9 := Lib.hid (And.intro hown (cp_step T4.out O4.out Z4.out hgrow hat (Nat.lt_succ_self w5.heap.size) z4))
            obtain ⟨_, p0, h0, h1⟩ := blk2 Q9.out.2.1
            have e9 := Lib.hid (fun (z : Value) => OLD.out _ (Q9.out.2.2.setCell (p := ⟨w5.heap.size, 1, none⟩) (Nat.le_refl _) z))
            obtain ⟨q0, q1, q2, q3⟩ := OLD.out w9 Q9.out.2.2
            have R9 := Lib.hid (cp_done Q9.out.1 Q9.out.2.1 Q9.out.2.2 T4.out O4.out hgrow EA.out (Nat.lt_succ_self w5.heap.size) z4)
            have G9 := Lib.hid ((B4.out.alloc B4.out.size _).grown hgrow0 (by have := B4.out.size; simp; omega) (fun j hj => by have := (O4.out.lt j hj).1; omega))
            clear hown hgrow hgrow0 hat
            refine hK.out _ _ ?_ (fun hHeld => ?_)
            · (try dsimp only)
              first | assumption | exact ⟨x0, x1, x2, kD⟩ | exact ⟨y0, y1, y2, y3⟩ | exact ⟨v0, v1, v2, v3⟩ | (simp [go_sem, *]; done) | (simp [go_sem, World.cell?_alloc_some, *]; done) | exact e9.out _
            clear hK K
            (try simp only [Act.put, pq])
            refine wpAnyH_ready (rs := [13]) (by kernel_rfl) (by simp) ?_
            refine AllReadyH.cons (o := ⟨some 31, _, _, _, _, _⟩) rfl (fun K hK => ?_) AllReadyH.nil
            go_simp
            refine hK.out _ _ ?_ (fun hHeld => ?_)
            · (try dsimp only)
              first | assumption | exact ⟨x0, x1, x2, kD⟩ | exact ⟨y0, y1, y2, y3⟩ | exact ⟨v0, v1, v2, v3⟩ | (simp [go_sem, *]; done) | (simp [go_sem, World.cell?_alloc_some, *]; done) | exact e9.out _
            clear hK K
            (try simp only [Act.put, pq])
            refine wpAnyH_ready (rs := [14]) (by kernel_rfl) (by simp) ?_
            refine AllReadyH.cons (o := ⟨none, _, _, _, _, _⟩) rfl (fun K hK => ?_) AllReadyH.nil
            go_simp
            refine hK.out _ _ ?_ (fun hHeld => ?_)
            · (try dsimp only)
              first | assumption | exact ⟨x0, x1, x2, kD⟩ | exact ⟨y0, y1, y2, y3⟩ | exact ⟨v0, v1, v2, v3⟩ | (simp [go_sem, *]; done) | (simp [go_sem, World.cell?_alloc_some, *]; done) | exact e9.out _
            clear hK K
            (try simp only [Act.put, pq])
            refine wpAnyH_done (by kernel_rfl) ?_ _
            go_wp2
            exact ⟨⟨k + 1, by omega, by go_num, G9.out.setCell (p := ⟨w5.heap.size, 1, none⟩) (by show w.heap.size ≤ w5.heap.size; omega) _, R9.out.2.2⟩, by simp [intOf]; omega⟩
    · obtain rfl : k = N := by omega
      obtain ⟨od, cd, rfl⟩ := own_len HO.out
      have hO : wr.ownsRow (T + 1) 2 1 (.slice od k cd) k (ints (cps sh st off ls k)) := by
        have h := HO.out
        rwa [List.take_of_length_le (by rw [cps_len]; exact Nat.le_refl _)] at h
      have hB := (OLD0.out _ HZ.out).2.1
      have hS := Below.keepOwn SV.out HZ.out (by rw [hTT]; exact Nat.le_refl _)
      obtain ⟨t0, t1, _⟩ := blk2 HT.out
      obtain ⟨r0, r1, rf0, rf1⟩ := blk2 hB
      have step : ∀ {n : Nat} {base : Nat} {v : Value} {xs : List Value} {e : TypeId} (x y : Value), 26 ≠ e → wr.ownsRow base e 1 v n xs → ((wr.setCell ⟨w.heap.size + 1, 0, none⟩ x).setCell ⟨w.heap.size + 1, 1, none⟩ y).ownsRow base e 1 v n xs := fun {n base v xs e} x y hne h => by
        have h1 := h.kept (grown_set wr ⟨w.heap.size + 1, 0, none⟩ x) (.inr (tens_not_row h hB (Ne.symm hne)))
        exact h1.kept (grown_set _ ⟨w.heap.size + 1, 1, none⟩ y) (.inr (tens_not_row h1 (hB.set_ 0 x) (Ne.symm hne)))
      have e1 := step (.slice oS sh.length cS) (.slice od k cd) (by decide) hS
      have e2 := step (.slice oS sh.length cS) (.slice od k cd) (by decide) hO
      have e3 := (HW.out.setCell (p := ⟨w.heap.size + 1, 0, none⟩) (by show w.heap.size ≤ w.heap.size + 1; omega) (.slice oS sh.length cS)).setCell (p := ⟨w.heap.size + 1, 1, none⟩) (by show w.heap.size ≤ w.heap.size + 1; omega) (.slice od k cd)
      obtain ⟨p0, p1, _⟩ := blk2 ((hB.set_ 0 (.slice oS sh.length cS)).set_ 1 (.slice od k cd))
      have EN := Lib.hid (And.intro e1 (And.intro e2 e3))
      have PP := Lib.hid (And.intro p0 p1)
      clear e1 e2 e3 p0 p1 hO hS hB step hlt
      subst hTT
      go_wp2_with (go_at_call 46; (with_reducible refine KC.out.mono ?_); rintro e w' ⟨rfl, rfl⟩)
      have p0 := PP.out.1
      have p1 := PP.out.2
      refine bodyPost_ret (v := .agg #[.slice oS sh.length cS, .slice od k cd]) (by simp [results, Tryz.results99, go_sem, p0, p1]) rfl ?_
      obtain ⟨_, _, g1, l1⟩ := Ld.of_owns EN.out.1
      simp only [Value.slice.injEq] at g1
      obtain ⟨rfl, _, rfl⟩ := g1
      have e2 := EN.out.2.1
      rw [← cps_len sh st off ls k] at e2
      obtain ⟨_, _, g2, l2⟩ := Ld.of_owns (ls := cps sh st off ls k) (by rw [cps_len] at e2 ⊢; exact e2)
      simp only [Value.slice.injEq] at g2
      obtain ⟨rfl, _, rfl⟩ := g2
      exact ⟨_, _, _, _, by rw [cps_len], l1, l2, EN.out.2.2⟩
end Go.Proofs.YtmafgdinegboeaaGreat
namespace Go.Proofs.YtmafgdinegboeaaGreat

theorem atl_two {a b i k : Nat} (_hi : i < a) (hk : k < b) : atl [(a : Int), (b : Int)] ((i * b + k : Nat) : Int) = [(i : Int), (k : Int)] := by
  have e1 : ((i * b + k : Nat) : Int) / (b : Int) = (i : Int) := by
    rw [← Int.natCast_ediv, Nat.add_comm, Nat.add_mul_div_right _ _ (by omega), Nat.div_eq_of_lt hk, Nat.zero_add]
  have e2 : ((i * b + k : Nat) : Int) % (b : Int) = (k : Int) := by
    rw [← Int.natCast_emod, Nat.add_comm, Nat.add_mul_mod_self_right, Nat.mod_eq_of_lt hk]
  show [((i * b + k : Nat) : Int) / ((b : Int) * 1), ((i * b + k : Nat) : Int) % ((b : Int) * 1) / 1] = _
  rw [Int.mul_one, e1, e2, Int.ediv_one]
theorem row_lt {A B i k : Nat} (hi : i < B) (hk : k < A) : i * A + k < B * A := by
  have : (i + 1) * A ≤ B * A := Nat.mul_le_mul_right A hi
  rw [Nat.add_mul, Nat.one_mul] at this; omega
end Go.Proofs.YtmafgdinegboeaaGreat
