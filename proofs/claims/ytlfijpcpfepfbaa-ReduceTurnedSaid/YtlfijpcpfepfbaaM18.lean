/-
  What ReduceTwice says, in numbers: sums by two axes, by none; greatest words.
  The reference's Left and Into: what is left of a shape, and where a place goes.
-/
import Derived.Test.YtlfijpcpfepfbaaM04
import Derived.Test.YtlfijpcpfepfbaaM07
import Derived.Test.YtlfijpcpfepfbaaM15
import Derived.Test.YtlfijpcpfepfbaaM17
namespace Go.Proofs.Ytlfijpcpfepfbaa

theorem fer_zero {er : Nat → Int} : ∀ {n : Nat}, fer er n = 0 → ∀ k, k < n → er k = 0
  | 0, _, k, hk => absurd hk (Nat.not_lt_zero _)
  | n + 1, h, k, hk => by
    unfold fer at h
    by_cases e : fer er n = 0
    · rw [if_pos e] at h
      by_cases ek : k = n
      · subst ek; exact h
      · exact fer_zero e k (by omega)
    · rw [if_neg e] at h; exact absurd h e
theorem fer_eq {a b : Nat → Int} : ∀ {n : Nat}, (∀ k, k < n → a k = b k) → fer a n = fer b n
  | 0, _ => rfl
  | n + 1, h => by
    unfold fer
    rw [fer_eq (n := n) (fun k hk => h k (by omega)), h n (by omega)]
theorem vls_eq {a b : Nat → Int} {n : Nat} (h : ∀ k, k < n → a k = b k) : vls a n = vls b n := by
  unfold vls
  exact List.map_congr_left (fun k hk => h k (List.mem_range.1 hk))
theorem te_wd {v : Int} (h : te v = 0) : wd v = true := by
  cases g : wd v with
  | true => rfl
  | false => rw [te_out g] at h; exact absurd h (by decide)
theorem vls_getD {va : Nat → Int} {n k : Nat} (h : k < n) : (vls va n).getD k 0 = va k := map_getD h
theorem cva_one {f : Nat → Int} {k : Nat} (h : cer f 1 k = 0) : cva f 1 k = f k ∧ wd (f k) = true := by
  unfold cer at h
  rw [rd_by1] at h
  have hw := te_wd h
  exact ⟨by unfold cva; rw [rd_by1, tw_in hw], hw⟩
theorem twice_num {sh ds : List Int} {lo hi M1 M2 : Nat} (ht : tnb sh ds = true) (hl : lo < hi) (_hh : hi < sh.length) (h1 : (M1 : Int) = prod (lf sh [(hi : Int)] 0))
    (f : rde sh ds [(hi : Int)] 1 M1 = 0) (g : rde sh ds [(lo : Int), (hi : Int)] 1 M2 = 0) :
    tnb (lf sh [(hi : Int)] 0) (rdv sh ds [(hi : Int)] 1 M1) = true ∧ rde (lf sh [(hi : Int)] 0) (rdv sh ds [(hi : Int)] 1 M1) [(lo : Int)] 1 M2 = 0 ∧
    rdv (lf sh [(hi : Int)] 0) (rdv sh ds [(hi : Int)] 1 M1) [(lo : Int)] 1 M2 = rdv sh ds [(lo : Int), (hi : Int)] 1 M2 ∧ lf (lf sh [(hi : Int)] 0) [(lo : Int)] 0 = lf sh [(lo : Int), (hi : Int)] 0 := by
  obtain ⟨hm, hdl, _⟩ := tnb_parts ht
  have hp := may_pos hm
  have f1 := fer_zero f
  have hlen : (rdv sh ds [(hi : Int)] 1 M1).length = M1 := vls_len _ _
  have hget : ∀ k, k < M1 → (rdv sh ds [(hi : Int)] 1 M1).getD k 0 = sms sh [(hi : Int)] ds ds.length k := fun k hk => by
    show (vls _ M1).getD k 0 = _
    rw [vls_getD hk, (cva_one (f1 k hk)).1]
  have hsm : ∀ m, sms (lf sh [(hi : Int)] 0) [(lo : Int)] (rdv sh ds [(hi : Int)] 1 M1) (rdv sh ds [(hi : Int)] 1 M1).length m = sms sh [(lo : Int), (hi : Int)] ds ds.length m := fun m => by
    rw [hlen]
    unfold sms
    have e1 := smN_twice (into sh [(hi : Int)]) (into (lf sh [(hi : Int)] 0) [(lo : Int)]) (fun k => ds.getD k 0) (m : Int) M1 ds.length (fun n hn => by
      have := (into_bd (ax := [(hi : Int)]) (n := n) hp (by omega)).2
      omega)
    rw [← smN_same (key := fun n => into (lf sh [(hi : Int)] 0) [(lo : Int)] (into sh [(hi : Int)] n).toNat) (d := fun k => ds.getD k 0) (fun n hn => ⟨into_two hp (by omega) hl, rfl⟩), ← e1]
    exact smN_same (fun k hk => ⟨rfl, hget k hk⟩)
  refine ⟨?_, ?_, ?_, lf_twice sh hl⟩
  · unfold tnb
    rw [lf_may _ hm, hlen, decide_eq_true h1]
    have : wds (rdv sh ds [(hi : Int)] 1 M1) = true := wds_yes (fun k hk => by
      rw [hlen] at hk
      rw [hget k hk]
      exact wd_bd (cva_one (f1 k hk)).2)
    rw [this]; rfl
  · unfold rde at g ⊢
    rw [← g]
    exact fer_eq (fun k _ => by unfold cer; rw [hsm])
  · unfold rdv
    exact vls_eq (fun k _ => by unfold cva; rw [← hsm]; rfl)
theorem smN_id (d : Nat → Int) (m : Nat) : ∀ n : Nat, smN (fun k => (k : Int)) d (m : Int) n = if m < n then d m else 0
  | 0 => rfl
  | n + 1 => by
    show smN _ d _ n + (if ((n : Int)) = (m : Int) then d n else 0) = _
    rw [smN_id d m n]
    by_cases e : n = m
    · subst e; rw [if_neg (by omega), if_pos rfl, if_pos (by omega)]; omega
    · rw [if_neg (show ¬ ((n : Int) = (m : Int)) by omega)]
      by_cases g : m < n
      · rw [if_pos g, if_pos (by omega)]; omega
      · rw [if_neg g, if_neg (by omega)]; omega
theorem none_num {sh ds : List Int} (ht : tnb sh ds = true) : rde sh ds [] 1 ds.length = 0 ∧ rdv sh ds [] 1 ds.length = ds ∧ lf sh [] 0 = sh ∧ (ds.length : Int) = prod (lf sh [] 0) := by
  obtain ⟨hm, hdl, hw⟩ := tnb_parts ht
  have hp := may_pos hm
  have hs : ∀ m, m < ds.length → sms sh [] ds ds.length m = ds.getD m 0 := fun m hk => by
    unfold sms
    rw [smN_same (key' := fun k => (k : Int)) (d' := fun k => ds.getD k 0) (fun k hk => ⟨into_none hp (by omega), rfl⟩), smN_id, if_pos hk]
  have hww : ∀ k, k < ds.length → wd (ds.getD k 0) = true := fun k hk => wds_wd hw hk
  refine ⟨fer_no (fun k hk => ?_), ?_, lf_none sh, by rw [lf_none]; exact hdl⟩
  · unfold cer; rw [rd_by1, hs k hk, te_in (hww k hk)]
  · refine ext_getD (vls_len _ _) (fun k hk => ?_)
    have hk2 : k < ds.length := by rwa [show (rdv sh ds [] 1 ds.length).length = ds.length from vls_len _ _] at hk
    show (vls _ _).getD k 0 = _
    rw [vls_getD hk2]
    unfold cva
    rw [rd_by1, hs k hk2, tw_in (hww k hk2)]
/-- A word, the greatest one where it goes, and where that stands. -/
theorem top_num {sh ds : List Int} {a M k : Nat} (ht : tnb sh ds = true) (ha : a < sh.length) (hM : (M : Int) = prod (lf sh [(a : Int)] 0)) (hk : k < ds.length) :
    ∃ q : Nat, into sh [(a : Int)] k = (q : Int) ∧ q < M ∧ ¬ (mxl sh ds a ds.length M).getD q 0 < ds.getD k 0 ∧ (stx sh a k < (mpl sh ds a ds.length M).getD q 0 → ds.getD k 0 < (mxl sh ds a ds.length M).getD q 0) ∧ (stx sh a k = (mpl sh ds a ds.length M).getD q 0 → ds.getD k 0 = (mxl sh ds a ds.length M).getD q 0) := by
  obtain ⟨hm, hdl, _⟩ := tnb_parts ht
  have hp := may_pos hm
  have hb := (into_bd (ax := [(a : Int)]) (n := k) hp (by omega)).2
  refine ⟨(into sh [(a : Int)] k).toNat, by omega, by omega, ?_⟩
  have hs := ((mx_spec (d := fun k => ds.getD k 0) (ord_axis hp ha hdl) ds.length (Nat.le_refl _)).1 k hk)
  have hq : ((into sh [(a : Int)] k).toNat : Int) = into sh [(a : Int)] k := by omega
  rw [mxl_getD (by omega), mpl_getD (by omega), hq]
  exact ⟨by have := hs.1; exact Int.not_lt.2 this, hs.2.1, hs.2.2⟩
end Go.Proofs.Ytlfijpcpfepfbaa
namespace Go.Proofs.Ytlfijpcpfepfbaa
open Go.RowKit Go.Shelf

set_option maxRecDepth 100000 in
set_option maxHeartbeats 4000000 in
theorem rleft_any (vs va : Value) (s ax : List Int) (w : World) (hs : Ld w vs s) (ha : Ld w va ax) (ls : s.length ≤ 4) (la : ax.length ≤ 17592186044416) :
    Calls Try.prog 13 #[vs, va] w fun e w' => ∃ v, e = .returned v ∧ Ld w' v (lf s ax 0) ∧ Below w.heap.size w w' := by
  obtain ⟨i0, hi0, hz0, hz1, hz2⟩ := info_parts infoI
  have CI := Lib.hid (fun (W : World) (hW : Below w.heap.size w W) (x : Int) => rin_any va ax x W (ha.below hW) la)
  obtain ⟨os, cs, rfl, _, hxs⟩ := hs
  obtain ⟨oa, ca, rfl, _, _⟩ := ha
  have HS := Lib.hid hxs
  clear hxs
  go_enter Try.func13, Try.ntmps13
  go_wp2
  go_loopw [5, 6] (fun s5 s6 wQ => ∃ k : Nat, k ≤ s.length ∧ s6 = .int .i64 k ∧ Hid (wQ.ownsRow w.heap.size 3 1 s5 (lf (s.take k) ax 0).length (ints (lf (s.take k) ax 0))) ∧ Hid (Below w.heap.size w wQ)) (fun _ s6 _ => s.length - (intOf s6).toNat)
  case atStart => exact ⟨0, Nat.zero_le _, rfl, Lib.hid (World.ownsRow_nil _ _ _ _), Lib.hid (Below.refl _ _)⟩
  case round =>
    obtain ⟨k, hk, rfl, HO, HB⟩ := hrel
    have hbs := HB.out.size
    by_cases hlt : k < s.length
    · obtain ⟨b, f, rfl, h1, h2⟩ := HS.out k hlt
      have c1 : wr.cell? ⟨b, f + k, none⟩ = some (.int .i64 (s.getD k 0)) := (HB.out.cell (p := ⟨b, f + k, none⟩) h1).trans h2
      have ST := Lib.hid (lf_step (ax := ax) hlt)
      have C := Lib.hid (CI.out wr HB.out k)
      have hL : (lf (s.take k) ax 0).length ≤ 4 := by have := lf_len_le ax (s.take k) 0; have := List.length_take_le k s; omega
      clear h1 h2
      generalize s.getD k 0 = d at *
      by_cases g : (k : Int) ∈ ax
      · as_aux_lemma =>
        have R : Hid (lf (s.take (k + 1)) ax 0 = lf (s.take k) ax 0) := by rw [Hid, ST.out, if_pos g, List.append_nil]
        rw [decide_eq_true g] at C
        clear g ST
        go_wp2_with (go_at_call 37; (with_reducible refine C.out.mono ?_); rintro e w' ⟨rfl, rfl⟩)
        exact ⟨⟨k + 1, by omega, by go_num, by rw [R.out]; exact HO, HB⟩, by simp [intOf]; omega⟩
      · as_aux_lemma =>
        have R : Hid (lf (s.take (k + 1)) ax 0 = lf (s.take k) ax 0 ++ [d]) := by rw [Hid, ST.out, if_neg g]
        rw [decide_eq_false g] at C
        clear g ST
        have EA : Hid (ints (lf (s.take (k + 1)) ax 0) = ints (lf (s.take k) ax 0) ++ [.int .i64 d] ∧ (lf (s.take (k + 1)) ax 0).length = (lf (s.take k) ax 0).length + 1) := Lib.hid (by rw [R.out, ints_snoc]; exact ⟨rfl, by simp⟩)
        obtain ⟨L2, hL2⟩ : ∃ L2, lf (s.take (k + 1)) ax 0 = L2 := ⟨_, rfl⟩
        rw [hL2] at EA R
        have HG := Lib.hid hL2
        clear hL2
        generalize lf (s.take k) ax 0 = L at *
        have hl0 : (0 : Int) ≤ (L.length : Int) := by omega
        go_wp2_with (first
          | (go_at_call 37; (with_reducible refine C.out.mono ?_); rintro e w' ⟨rfl, rfl⟩)
          | (at_builtin; refine wpList_append_own _ rfl _ _ 23 rfl w.heap.size 3 i0 (.int .i64 0) 1 8 Try.underlying23 hi0 hz0 hz1 hz2 rfl (by decide) _ L.length (ints L) rfl (HO.out.alloc _) ⟨wr.heap.size, 0, none⟩ 1 1 [.int .i64 d] rfl rfl ?c1 ?c2 ?c3 ?c4 ?c5 ?_))
        case c1 => exact (cell_one_new _ _ _)
        case c2 => simp [Value.oneCell']
        case c3 => unfold maxLen; omega
        case c4 => omega
        case c5 => simp; omega
        intro u9 w9 hown1 hgrow _
        have HB9 := Lib.hid ((HB.out.alloc hbs (.cells #[.int .i64 d] 3)).grown hgrow (by simp; omega) (fun q e => (HO.out.lt q e).1))
        have HO9 : Hid (w9.ownsRow w.heap.size 3 1 u9 L2.length (ints L2)) := Lib.hid (by rw [EA.out.1, EA.out.2]; exact hown1)
        clear hown1 hgrow
        go_wp2
        exact ⟨⟨k + 1, by omega, by go_num, by rw [HG.out]; exact HO9, HB9⟩, by simp [intOf]; omega⟩
    · as_aux_lemma =>
      obtain rfl : k = s.length := by omega
      rw [List.take_length] at HO
      obtain ⟨o5, c5, rfl⟩ := own_form1 HO.out
      have LM := Lib.hid (own_ld HO.out rfl)
      go_wp2
      go_ret
      exact ⟨_, rfl, LM.out, HB.out⟩
set_option maxRecDepth 100000 in
set_option maxHeartbeats 4000000 in
theorem rinto_any (vs va : Value) (s ax : List Int) (n : Nat) (w : World) (hs : Ld w vs s) (ha : Ld w va ax) (hm : may s = true) (hn : (n : Int) < prod s) (la : ax.length ≤ 17592186044416) :
    Calls Try.prog 14 #[vs, va, .int .i64 n] w fun e w' => e = .returned (.int .i64 (into s ax n)) ∧ Below w.heap.size w w' := by
  have hp := may_pos hm
  have C1 := Lib.hid (fun (W : World) (hW : Below w.heap.size w W) => rleft_any vs va s ax W (hs.below hW) (ha.below hW) (may_len hm) la)
  have C2 := Lib.hid (fun (W : World) (hW : Below w.heap.size w W) => rat_any vs s n W (hs.below hW) hm (by omega) hn)
  have C3 := Lib.hid (fun (W : World) (v : Value) (hW : Below w.heap.size w W) (hv : Ld W v (atl s n)) => rleft_any v va (atl s n) ax W hv (ha.below hW) (by rw [atl_len]; exact may_len hm) la)
  have C4 := Lib.hid (fun (W : World) (v u : Value) (hv : Ld W v (lf s ax 0)) (hu : Ld W u (lf (atl s n) ax 0)) => rindex_any v u (lf s ax 0) (lf (atl s n) ax 0) W hv hu (lf_may ax hm) (into_bd ax hp hn).1)
  obtain ⟨os, cs, rfl, _, _⟩ := hs
  obtain ⟨oa, ca, rfl, _, _⟩ := ha
  clear hm hn hp
  go_enter Try.func14, Try.ntmps14
  go_wp2_with (first
    | (go_at_call 13; (with_reducible refine (C1.out _ (Below.refl _ _)).mono ?_); clear C1; rintro e w1 ⟨v1, rfl, h1, hb1⟩; obtain ⟨o1, c1, rfl, _, _⟩ := id h1; have H1 := Lib.hid h1; have B1 := Lib.hid hb1; clear h1 hb1)
    | (go_at_call 15; (with_reducible refine (C2.out _ B1.out).mono ?_); rintro e w2 ⟨v2, rfl, h2, hb2⟩; obtain ⟨o2, c2, rfl, _, _⟩ := id h2; have H2 := Lib.hid h2; replace H1 := Lib.hid (H1.out.below hb2); replace B1 := Lib.hid (B1.out.trans (hb2.mono B1.out.size)); clear h2 hb2)
    | (go_at_call 13; (with_reducible refine (C3.out _ _ B1.out H2.out).mono ?_); clear C3; rintro e w3 ⟨v3, rfl, h3, hb3⟩; obtain ⟨o3, c3, rfl, _, _⟩ := id h3; have H3 := Lib.hid h3; replace H1 := Lib.hid (H1.out.below hb3); replace B1 := Lib.hid (B1.out.trans (hb3.mono B1.out.size)); clear h3 hb3)
    | (go_at_call 38; (with_reducible refine (C4.out _ _ _ H1.out H3.out).mono ?_); rintro e w4 ⟨rfl, hb4⟩; replace B1 := Lib.hid (B1.out.trans (hb4.mono B1.out.size)); clear hb4))
  go_ret
  exact ⟨rfl, B1.out⟩
end Go.Proofs.Ytlfijpcpfepfbaa
