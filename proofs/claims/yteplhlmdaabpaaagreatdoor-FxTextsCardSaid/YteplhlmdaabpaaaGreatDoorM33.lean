/-
  The reference's reading of a text, whole.
-/
import Derived.Test.YteplhlmdaabpaaaGreatDoorM29
import Derived.Test.YteplhlmdaabpaaaGreatDoorM30
import Derived.Test.YteplhlmdaabpaaaGreatDoorM31
import Derived.Test.YteplhlmdaabpaaaGreatDoorM32
namespace Go.Proofs.YteplhlmdaabpaaaGreatDoor
open Go.RowKit

theorem byte_at {s : ByteArray} {i : Nat} {x : UInt8} (h : s.data.toList[i]? = some x) : ∃ hi : i < s.size, s[i] = x := by
  have hi : i < s.size := by
    have := (List.getElem?_eq_some_iff.1 h).1
    rw [Array.length_toList] at this
    exact this
  refine ⟨hi, ?_⟩
  have := at_data hi
  rw [h] at this
  exact (Option.some.inj this).symm
theorem wval_rd (m : Bool) (A C : List Nat) (f n b : Nat) (hn : n = dv A * 10 ^ C.length + dv C) (hb : b = C.length) : wval m A C f = rd ((if m = true then -((n : Nat) : Int) else ((n : Nat) : Int)) * 2 ^ f) (10 ^ b) := by
  subst hn hb
  have h0 : (10 : Int) ^ C.length ≠ 0 := by have : (0 : Int) < 10 ^ C.length := Int.pow_pos (by decide); omega
  have e1 : ((((dv A * 10 ^ C.length + dv C) * 2 ^ f : Nat)) : Int) = ((dv A * 10 ^ C.length + dv C : Nat) : Int) * 2 ^ f := by rw [Int.natCast_mul]; congr 1
  have e2 : ((10 ^ C.length : Nat) : Int) = 10 ^ C.length := by rw [Int.natCast_pow]; rfl
  unfold wval
  rw [e1, e2]
  cases m with
  | true =>
    simp only [if_true]
    rw [Int.neg_mul, rd_neg _ _ h0]
  | false => simp only [Bool.false_eq_true, if_false]
theorem pres_none {l : List UInt8} (f : Nat) (h : pform l = none) : pres l f = (0, 1) := by unfold pres; rw [h]
theorem pres_some {l a c : List UInt8} {m : Bool} (f : Nat) (h : pform l = some (m, a, c)) : pres l f = (tw (wval m (ds a) (ds c) f), te (wval m (ds a) (ds c) f)) := by unfold pres; rw [h]
theorem drop_byte {l D u : List UInt8} {n : Nat} {x : UInt8} (h : l.drop n = D ++ x :: u) : l[n + D.length]? = some x := by
  rw [← List.getElem?_drop, h]
  simp
theorem drop_next {l D u : List UInt8} {n : Nat} {x : UInt8} (h : l.drop n = D ++ x :: u) : l.drop (n + D.length + 1) = u := by
  have e : n + D.length + 1 = n + (D.length + 1) := by omega
  rw [e, ← List.drop_drop, h]
  simp
theorem ds_len (l : List UInt8) : (ds l).length = l.length := by unfold ds; exact List.length_map _
theorem dg_more {E t : List UInt8} {x : UInt8} (h : isD8 x = false) : dg (E ++ x :: t) = false := dg_no h
theorem u46 {x : UInt8} (h : x ≠ 46) : ((x.toNat : Int) == 46) = false := by
  rw [beq_eq_false_iff_ne]
  intro k
  exact h (UInt8.toNat_inj.1 (by show x.toNat = 46; omega))
theorem u45 {x : UInt8} (h : x ≠ 45) : ((x.toNat : Int) == 45) = false := by
  rw [beq_eq_false_iff_ne]
  intro k
  exact h (UInt8.toNat_inj.1 (by show x.toNat = 45; omega))
set_option maxRecDepth 100000 in
set_option maxHeartbeats 8000000 in
theorem rp_long (s : ByteArray) (f : Nat) (w : World) (hs : 64 < s.size) : Calls Tryz.prog 10 #[.string s, .int .i64 f] w fun e w' => e = .returned (.tuple #[.int .i64 0, .int .i64 1]) ∧ Below w.heap.size w w' := by
  go_enter Tryz.func10, Tryz.ntmps10
  go_wp2
  go_ret2
  exact ⟨rfl, Below.refl _ _⟩
set_option maxRecDepth 100000 in
set_option maxHeartbeats 8000000 in
theorem rp_empty (s : ByteArray) (f : Nat) (w : World) (hs : s.size = 0) (RD : Hid (∀ W : World, Calls Tryz.prog 28 #[.string s, .int .i64 0] W fun e w' => e = .returned (.int .i64 0) ∧ W = w')) : Calls Tryz.prog 10 #[.string s, .int .i64 f] w fun e w' => e = .returned (.tuple #[.int .i64 0, .int .i64 1]) ∧ Below w.heap.size w w' := by
  go_enter Tryz.func10, Tryz.ntmps10
  go_wp2_with (first | (go_at_call 28; (with_reducible refine (RD.out _).mono ?_); rintro e w' ⟨rfl, rfl⟩) | fail)
  go_ret2
  exact ⟨rfl, Below.refl _ _⟩
theorem rparse_m (s : ByteArray) (f : Nat) (w : World) (hs : s.size ≤ 64) (hf : f ≤ 32) (z0 : 0 < s.size) (hb0 : s[0] = 45) (hm : Lib.hasPrefix s.data.toList [45] = true) : Calls Tryz.prog 10 #[.string s, .int .i64 f] w fun e w' => e = .returned (.tuple #[.int .i64 (pres s.data.toList f).1, .int .i64 (pres s.data.toList f).2]) ∧ Below w.heap.size w w' := by
  have hsz : s.data.toList.length = s.size := by rw [Array.length_toList]; rfl
  have hr0 := pre_drop s.data.toList
  rw [hm] at hr0
  simp only [if_true] at hr0
  have RD0 := fun W : World => rdigits_any s 1 W (by omega) (by omega)
  obtain ⟨r, hr⟩ : ∃ r, s.data.toList.drop 1 = r := ⟨_, rfl⟩
  rw [hr] at hr0
  have hrl : r.length + 1 = s.size := by rw [← hr, List.length_drop, hsz]; omega
  obtain ⟨D, t, h1, h2, h3, h4⟩ := tw_split r
  have RD : Hid (∀ W : World, Calls Tryz.prog 28 #[.string s, .int .i64 1] W fun e w' => e = .returned (.int .i64 D.length) ∧ W = w') := by
    refine Lib.hid fun W => ?_
    have := RD0 W
    rw [hr, h3] at this
    exact this
  clear RD0
  have hDl : D.length ≤ 64 := by have : r.length = D.length + t.length := by rw [h1, List.length_append]
                                 omega
  have hl64 : s.data.toList.length ≤ 64 := by omega
  rcases h4 with rfl | ⟨x, u, rfl, hx⟩
  · rw [List.append_nil] at h1
    subst h1
    have he : s.size = 1 + r.length := by omega
    have hp := pform_end hl64 hr0 h2
    by_cases e : r = []
    · rw [if_pos e] at hp
      rw [pres_none f hp]
      exact rp_none_m s f r.length w hs z0 hb0 hDl RD (by rw [e]; rfl) he
    · rw [if_neg e, hm] at hp
      rw [pres_some f hp]
      have k0 : 0 < r.length := List.length_pos_iff.2 e
      exact rp_end_m s f r.length w hs z0 hb0 RD k0 he r hr (fun x hx => .inr (List.all_eq_true.1 h2 x hx)) hf _ (by
        have := wval_rd true (ds r) (ds []) f (nv r r.length) 0 (by rw [(nv_all h2 (c := []) rfl).2]; simp [ds, dv]) rfl
        simpa only [if_true] using this)
  · rw [h1] at hr hr0 hrl
    have hlen : D.length + (u.length + 1) + 1 = s.size := by rw [← hrl, List.length_append, List.length_cons]
    have hxb := drop_byte hr
    
    obtain ⟨hx1, hx2⟩ := byte_at hxb
    by_cases h46 : x = 46
    · rw [h46] at hr hr0 hx2
      have hp := pform_point hl64 hr0 h2
      have hu := drop_next hr
      
      obtain ⟨E, t2, g1, g2, g3, g4⟩ := tw_split u
      have RE : Hid (∀ W : World, Calls Tryz.prog 28 #[.string s, .int .i64 (1 + (D.length : Int) + 1)] W fun e w' => e = .returned (.int .i64 E.length) ∧ W = w') := by
        refine Lib.hid fun W => ?_
        have := rdigits_any s (1 + D.length + 1) W (by omega) (by omega)
        rw [hu, g3] at this
        have e9 : (((1 + D.length + 1 : Nat)) : Int) = (1 + (D.length : Int) + 1) := by omega
        rw [e9] at this
        exact this
      have hul : u.length = E.length + t2.length := by rw [g1, List.length_append]
      by_cases eE : E = []
      · have hd : dg u = false := by
          rw [g1, eE]
          rcases g4 with rfl | ⟨y, v, rfl, hy⟩
          · rfl
          · exact dg_no (D := []) hy
        rw [hd, Bool.and_false, if_neg (by decide)] at hp
        rw [pres_none f hp]
        rw [eE] at RE
        exact rp_pt0_m s f D.length w hs z0 hb0 hDl RD hx1 hx2 RE
      · have b0 : 0 < E.length := List.length_pos_iff.2 eE
        by_cases eD : D = []
        · rw [if_neg (by simp [eD])] at hp
          rw [pres_none f hp]
          exact rp_ptn_m s f D.length w hs z0 hb0 hDl RD hx1 hx2 E.length (by omega) RE b0 (by rw [eD]; rfl)
        · have k0 : 0 < D.length := List.length_pos_iff.2 eD
          rcases g4 with rfl | ⟨y, v, rfl, hy⟩
          · rw [List.append_nil] at g1
            subst g1
            rw [if_pos (by rw [dg_of g2]; simp [eD, eE]), hm] at hp
            rw [pres_some f hp]
            exact rp_pt_m s f D.length w hs z0 hb0 RD k0 hx1 hx2 u.length (by omega) RE b0 (by omega) (D ++ 46 :: u) hr (fun x hx => by
              rcases List.mem_append.1 hx with q | q
              · exact .inr (List.all_eq_true.1 h2 x q)
              · rcases List.mem_cons.1 q with q | q
                · exact .inl q
                · exact .inr (List.all_eq_true.1 g2 x q)) hf _ (by
              have := wval_rd true (ds D) (ds u) f (nv (D ++ 46 :: u) (D ++ 46 :: u).length) u.length (nv_all h2 g2).1 (ds_len u).symm
              simpa only [if_true] using this)
          · have hd : dg u = false := by rw [g1]; exact dg_no hy
            rw [hd, Bool.and_false, if_neg (by decide)] at hp
            rw [pres_none f hp]
            exact rp_ptm_m s f D.length w hs z0 hb0 hDl RD hx1 hx2 E.length (by omega) RE b0 k0 (by rw [List.length_cons] at hul; omega)
    · rw [pres_none f (pform_else hl64 hr0 h2 hx h46)]
      exact rp_else_m s f D.length w hs z0 hb0 hDl RD x hx1 hx2 (u46 h46)
theorem rparse_p (s : ByteArray) (f : Nat) (w : World) (hs : s.size ≤ 64) (hf : f ≤ 32) (z0 : 0 < s.size) (x0 : UInt8) (hb0 : s[0] = x0) (n45 : ((x0.toNat : Int) == 45) = false) (hm : Lib.hasPrefix s.data.toList [45] = false) : Calls Tryz.prog 10 #[.string s, .int .i64 f] w fun e w' => e = .returned (.tuple #[.int .i64 (pres s.data.toList f).1, .int .i64 (pres s.data.toList f).2]) ∧ Below w.heap.size w w' := by
  have hsz : s.data.toList.length = s.size := by rw [Array.length_toList]; rfl
  have hr0 := pre_drop s.data.toList
  rw [hm] at hr0
  simp only [Bool.false_eq_true, if_false] at hr0
  have RD0 := fun W : World => rdigits_any s 0 W (by omega) (by omega)
  obtain ⟨r, hr⟩ : ∃ r, s.data.toList.drop 0 = r := ⟨_, rfl⟩
  rw [hr] at hr0
  have hrl : r.length + 0 = s.size := by rw [← hr, List.length_drop, hsz]; omega
  obtain ⟨D, t, h1, h2, h3, h4⟩ := tw_split r
  have RD : Hid (∀ W : World, Calls Tryz.prog 28 #[.string s, .int .i64 0] W fun e w' => e = .returned (.int .i64 D.length) ∧ W = w') := by
    refine Lib.hid fun W => ?_
    have := RD0 W
    rw [hr, h3] at this
    exact this
  clear RD0
  have hDl : D.length ≤ 64 := by have : r.length = D.length + t.length := by rw [h1, List.length_append]
                                 omega
  have hl64 : s.data.toList.length ≤ 64 := by omega
  rcases h4 with rfl | ⟨x, u, rfl, hx⟩
  · rw [List.append_nil] at h1
    subst h1
    have he : s.size = r.length := by omega
    have hp := pform_end hl64 hr0 h2
    by_cases e : r = []
    · rw [if_pos e] at hp
      rw [pres_none f hp]
      exact rp_none_p s f r.length w hs z0 _ hb0 n45 hDl RD (by rw [e]; rfl) he
    · rw [if_neg e, hm] at hp
      rw [pres_some f hp]
      have k0 : 0 < r.length := List.length_pos_iff.2 e
      exact rp_end_p s f r.length w hs z0 _ hb0 n45 RD k0 he r hr (fun x hx => .inr (List.all_eq_true.1 h2 x hx)) hf _ (by
        have := wval_rd false (ds r) (ds []) f (nv r r.length) 0 (by rw [(nv_all h2 (c := []) rfl).2]; simp [ds, dv]) rfl
        simpa only [Bool.false_eq_true, if_false] using this)
  · rw [h1] at hr hr0 hrl
    have hlen : D.length + (u.length + 1) + 0 = s.size := by rw [← hrl, List.length_append, List.length_cons]
    have hxb := drop_byte hr
    rw [Nat.zero_add] at hxb
    obtain ⟨hx1, hx2⟩ := byte_at hxb
    by_cases h46 : x = 46
    · rw [h46] at hr hr0 hx2
      have hp := pform_point hl64 hr0 h2
      have hu := drop_next hr
      rw [Nat.zero_add] at hu
      obtain ⟨E, t2, g1, g2, g3, g4⟩ := tw_split u
      have RE : Hid (∀ W : World, Calls Tryz.prog 28 #[.string s, .int .i64 ((D.length : Int) + 1)] W fun e w' => e = .returned (.int .i64 E.length) ∧ W = w') := by
        refine Lib.hid fun W => ?_
        have := rdigits_any s (D.length + 1) W (by omega) (by omega)
        rw [hu, g3] at this
        have e9 : (((D.length + 1 : Nat)) : Int) = ((D.length : Int) + 1) := by omega
        rw [e9] at this
        exact this
      have hul : u.length = E.length + t2.length := by rw [g1, List.length_append]
      by_cases eE : E = []
      · have hd : dg u = false := by
          rw [g1, eE]
          rcases g4 with rfl | ⟨y, v, rfl, hy⟩
          · rfl
          · exact dg_no (D := []) hy
        rw [hd, Bool.and_false, if_neg (by decide)] at hp
        rw [pres_none f hp]
        rw [eE] at RE
        exact rp_pt0_p s f D.length w hs z0 _ hb0 n45 hDl RD hx1 hx2 RE
      · have b0 : 0 < E.length := List.length_pos_iff.2 eE
        by_cases eD : D = []
        · rw [if_neg (by simp [eD])] at hp
          rw [pres_none f hp]
          exact rp_ptn_p s f D.length w hs z0 _ hb0 n45 hDl RD hx1 hx2 E.length (by omega) RE b0 (by rw [eD]; rfl)
        · have k0 : 0 < D.length := List.length_pos_iff.2 eD
          rcases g4 with rfl | ⟨y, v, rfl, hy⟩
          · rw [List.append_nil] at g1
            subst g1
            rw [if_pos (by rw [dg_of g2]; simp [eD, eE]), hm] at hp
            rw [pres_some f hp]
            exact rp_pt_p s f D.length w hs z0 _ hb0 n45 RD k0 hx1 hx2 u.length (by omega) RE b0 (by omega) (D ++ 46 :: u) hr (fun x hx => by
              rcases List.mem_append.1 hx with q | q
              · exact .inr (List.all_eq_true.1 h2 x q)
              · rcases List.mem_cons.1 q with q | q
                · exact .inl q
                · exact .inr (List.all_eq_true.1 g2 x q)) hf _ (by
              have := wval_rd false (ds D) (ds u) f (nv (D ++ 46 :: u) (D ++ 46 :: u).length) u.length (nv_all h2 g2).1 (ds_len u).symm
              simpa only [Bool.false_eq_true, if_false] using this)
          · have hd : dg u = false := by rw [g1]; exact dg_no hy
            rw [hd, Bool.and_false, if_neg (by decide)] at hp
            rw [pres_none f hp]
            exact rp_ptm_p s f D.length w hs z0 _ hb0 n45 hDl RD hx1 hx2 E.length (by omega) RE b0 k0 (by rw [List.length_cons] at hul; omega)
    · rw [pres_none f (pform_else hl64 hr0 h2 hx h46)]
      exact rp_else_p s f D.length w hs z0 _ hb0 n45 hDl RD x hx1 hx2 (u46 h46)
/-- The reference's Parse. -/
theorem rparse_any (s : ByteArray) (f : Nat) (w : World) (hf : f ≤ 32) : Calls Tryz.prog 10 #[.string s, .int .i64 f] w fun e w' => e = .returned (.tuple #[.int .i64 (pres s.data.toList f).1, .int .i64 (pres s.data.toList f).2]) ∧ Below w.heap.size w w' := by
  have hsz : s.data.toList.length = s.size := by rw [Array.length_toList]; rfl
  by_cases long : 64 < s.size
  · have e : pres s.data.toList f = (0, 1) := by unfold pres pform; rw [if_pos (by omega)]
    rw [e]
    exact rp_long s f w long
  · by_cases z : s.size = 0
    · have hl : s.data.toList = [] := List.length_eq_zero_iff.1 (by omega)
      have e : pres s.data.toList f = (0, 1) := by rw [hl]; rfl
      rw [e]
      refine rp_empty s f w z (Lib.hid fun W => ?_)
      have := rdigits_any s 0 W (by omega) (by omega)
      rw [hl] at this
      exact this
    · have z0 : 0 < s.size := by omega
      have h0 := at_data z0
      by_cases h45 : s[0] = 45
      · exact rparse_m s f w (by omega) hf z0 h45 ((has_45 _).2 (by rw [h0, h45]))
      · refine rparse_p s f w (by omega) hf z0 s[0] rfl (u45 h45) ?_
        cases g : Lib.hasPrefix s.data.toList [45] with
        | false => rfl
        | true =>
          have := (has_45 _).1 g
          rw [h0] at this
          exact absurd (Option.some.inj this) h45
end Go.Proofs.YteplhlmdaabpaaaGreatDoor
