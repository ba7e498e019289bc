/-
  Texts of whole numbers: the references' and package wide's.
  fx.Text: a word's decimal.
-/
import Derived.Lib.ItoaNum
import Derived.Test.YteplhlmdaabpaaaGreatDoorM05
import Derived.Test.YteplhlmdaabpaaaGreatDoorM08
import Derived.Test.YteplhlmdaabpaaaGreatDoorM09
import Derived.Test.YteplhlmdaabpaaaGreatDoorM14
import Derived.Test.YteplhlmdaabpaaaGreatDoorM19
namespace Go.Proofs.YteplhlmdaabpaaaGreatDoor
open Go.RowKit Go.Lib

theorem cat_toArray (a b : List UInt8) : ((⟨a.toArray⟩ : ByteArray) ++ ⟨b.toArray⟩) = ⟨(a ++ b).toArray⟩ := by
  apply ByteArray.ext
  simp
theorem ten45 : (2 : Nat) ^ 128 < 10 ^ (9 * 5) := by decide
set_option maxRecDepth 100000 in
set_option maxHeartbeats 8000000 in
theorem ntext_zero (v : Value) (w : World) (h : IsN w v 0) : Calls Tryz.prog 49 #[v] w fun e w' => e = .returned (.string ⟨(decDigits 0).toArray⟩) ∧ Below w.heap.size w w' := by
  have H := Lib.hid h
  have B0 : Hid (0 < BIG ∧ True) := ⟨big_of (k := 1) (by decide) (by decide), trivial⟩
  have E : Hid (decDigits 0 = [48]) := by unfold Hid; rw [dec_small (by decide)]; rfl
  clear h
  go_enter Tryz.func49, Tryz.ntmps49
  go_wp2_with (go_at_call 67; (with_reducible refine (halves_num v 0 _ H.out B0.out.1).mono ?_); rintro e w1 ⟨vx, rfl, hx, hb1⟩; obtain ⟨ox, lx, cx, rfl, fx⟩ := hx.form; have hl1 : lx = 0 := fx.2 rfl; subst hl1; clear fx hx)
  go_ret
  exact ⟨by rw [E.out] <;> rfl, hb1⟩
theorem ntext_wide (v : Value) (n : Nat) (w : World) (h : IsN w v n) (hn : n < 2 ^ 128) : Calls Tryz.prog 49 #[v] w fun e w' => e = .returned (.string ⟨(decDigits n).toArray⟩) ∧ Below w.heap.size w w' := by
  rcases Nat.eq_zero_or_pos n with g | g
  · subst g; exact ntext_zero v w h
  · exact ntext_any v n 5 w h g (big_of hn (by decide)) (Nat.lt_trans hn ten45) (by decide) (by decide)
set_option maxRecDepth 100000 in
set_option maxHeartbeats 8000000 in
theorem itext_any (x : Value) (z : Int) (w : World) (h : IsI w x z) (hz : z.natAbs < 2 ^ 128) : Calls Tryz.prog 25 #[x] w fun e w' => e = .returned (.string ⟨(itoa z).toArray⟩) ∧ Below w.heap.size w w' := by
  obtain ⟨bn, on, ln, cn, rfl, Hn⟩ := h.open
  have NT := Lib.hid (fun W h => ntext_wide (.slice on ln cn) z.natAbs W h hz)
  have hl : (decDigits z.natAbs).length ≤ 45 := (pad_dec 45 z.natAbs (by decide) (Nat.lt_trans hz ten45)).1
  clear h hz
  cases g : bn with
  | true =>
    have hz : z < 0 := by have := Hn.out.1; rw [g] at this; simpa using this.symm
    have E : Hid (itoa z = 45 :: decDigits z.natAbs) := by unfold itoa; rw [if_pos hz]; exact Lib.hid rfl
    clear hz
    subst g
    generalize decDigits z.natAbs = D at *
    have hl2 : ¬ 9223372036854775807 < 1 + D.length := by omega
    go_enter Tryz.func25, Tryz.ntmps25
    go_wp2_with (go_at_call 49; (with_reducible refine (NT.out _ (Hn.out.2.1.below ((Below.refl _ _).alloc (Nat.le_refl _) _))).mono ?_); rintro e w1 ⟨rfl, hb1⟩)
    go_ret
    exact ⟨by rw [E.out, cat_toArray] <;> rfl, ((Below.refl _ _).alloc (Nat.le_refl _) _).trans (hb1.mono (by simp))⟩
  | false =>
    have hz : ¬ z < 0 := by have := Hn.out.1; rw [g] at this; simpa using this.symm
    have E : Hid (itoa z = decDigits z.natAbs) := by unfold itoa; rw [if_neg hz, show z.toNat = z.natAbs by omega]; exact Lib.hid rfl
    clear hz
    subst g
    generalize decDigits z.natAbs = D at *
    have hl2 : ¬ 9223372036854775807 < 1 + D.length := by omega
    go_enter Tryz.func25, Tryz.ntmps25
    go_wp2_with (go_at_call 49; (with_reducible refine (NT.out _ (Hn.out.2.1.below ((Below.refl _ _).alloc (Nat.le_refl _) _))).mono ?_); rintro e w1 ⟨rfl, hb1⟩)
    go_ret
    exact ⟨by rw [E.out] <;> rfl, ((Below.refl _ _).alloc (Nat.le_refl _) _).trans (hb1.mono (by simp))⟩
end Go.Proofs.YteplhlmdaabpaaaGreatDoor
namespace Go.Proofs.YteplhlmdaabpaaaGreatDoor
open Go.RowKit Go.Shelf Go.Lib
attribute [local go_sem] Oper.semAt_some

/-- A word's decimal. -/
def ftx (a : Int) (f : Nat) : List UInt8 := (if a < 0 then [45] else []) ++ decDigits (a.natAbs / 2 ^ f) ++ (if a.natAbs % 2 ^ f = 0 then [] else 46 :: frs f (a.natAbs % 2 ^ f))
theorem info8b : (Tryz.prog.info? 5).map (fun i => (i.zero, i.size, i.bytes)) = some (some (.int .u8 0), 1, 1) := by kernel_rfl

theorem row_form {w : World} {base : Nat} {e : TypeId} {v : Value} {xs : List Value} (h : ByteRow w base e v xs) : ∃ g cap, v = .slice (some ⟨g, 0, none⟩) xs.length cap ∧ xs.length ≤ cap := by
  obtain ⟨g, cap, cur, lo, hi, rfl, hb, hg, _, h1, _⟩ := h
  exact ⟨g, cap, rfl, h1⟩
theorem row_bytes {w : World} {base : Nat} {e : TypeId} {g n c : Nat} {l r : List UInt8} (h : ByteRow w base e (.slice (some ⟨g, 0, none⟩) n c) ((l ++ r).map b8)) : ∀ j (hj : j < l.length), w.cell? ((⟨g, 0, none⟩ : Addr).add j) = some (.int .u8 (l[j].toNat : Int)) := by
  intro j hj
  rw [add_plain, Nat.zero_add]
  refine h.cells j _ ?_
  rw [List.map_append, List.getElem?_append_left (by simpa using hj), List.getElem?_map, List.getElem?_eq_getElem hj]
  rfl
set_option maxRecDepth 100000 in
set_option maxHeartbeats 8000000 in
theorem ftext_any (a : Int) (f : Nat) (w : World) (ga : wd a = true) (f0 : 8 ≤ f) (f1 : f ≤ 32) (htab : Lib.TabIs Tryz.prog w "internal/strconv.uint64pow10" .u64 Lib.pow10Tab) :
    Calls Tryz.prog 5 #[.int .i64 a, .int .i64 f] w fun e w' => e = .returned (.tuple #[.string ⟨(ftx a f).toArray⟩, .int .i64 0]) ∧ Below w.heap.size w w' := by
  obtain ⟨a0, a1⟩ := wd_bd ga
  obtain ⟨i0, hi0, hz0, hz1, hz2⟩ := info_parts info8b
  have CK : Hid (∀ W : World, Calls Tryz.prog 14 #[.int .i64 a] W fun e w' => e = .returned (.int .i64 0) ∧ W = w') := fun W => by have := check_any a W; rwa [if_pos ga] at this
  have CF : Hid (∀ W : World, Calls Tryz.prog 15 #[.int .i64 f] W fun e w' => e = .returned (.int .i64 0) ∧ W = w') := fun W => by have := checkf_any f W; rwa [if_pos (fb_mk ⟨by omega, by omega⟩)] at this
  obtain ⟨S, hS⟩ : ∃ S, S = a.natAbs := ⟨_, rfl⟩
  obtain ⟨q, hq⟩ : ∃ q, q = S / 2 ^ f := ⟨_, rfl⟩
  have hq2 : q ≤ S := by rw [hq]; exact Nat.div_le_self _ _
  have eq1 : (S : Int) / 2 ^ f = (q : Int) := by rw [hq]; simp
  have FU := Lib.hid (fun (W : World) (h : Below w.heap.size w W) => fu_any q (by omega) W (Lib.tabBelow_of_tabIs htab _ h))
  have LQ : (decDigits q).length ≤ 20 := by
    have := (pad_dec 20 q (by decide) (by omega)).1
    exact this
  have hs47 : S < 140737488355328 := by omega
  have FL := frs_len_f f (S % 2 ^ f)
  have FT : Hid (ftx a f = (if a < 0 then [45] else []) ++ decDigits q ++ (if S % 2 ^ f = 0 then [] else 46 :: frs f (S % 2 ^ f))) := by unfold ftx; rw [← hS, ← hq]; exact Lib.hid rfl
  have FZ : Hid (S % 2 ^ f = 0 ∧ frs f (S % 2 ^ f) = [] ∨ S % 2 ^ f ≠ 0 ∧ 0 < (frs f (S % 2 ^ f)).length) := by
    rcases Nat.eq_zero_or_pos (S % 2 ^ f) with h | h
    · exact .inl ⟨h, by rw [h, frs_zero]⟩
    · exact .inr ⟨by omega, by rw [frs_next (by omega) (Nat.mod_lt _ (Nat.pow_pos (by decide)))]; simp⟩
  have DC := Lib.hid (fun W : World => decs_any S f f1 W)
  have DS := Lib.hid (fun (B : Nat) (W : World) (hB : B + 2 < W.heap.size) => dec_stops Fence.wide 8 trivial rfl (by decide) B S f f1 (by omega) W hB)
  generalize hFR : frs f (S % 2 ^ f) = FR at *
  generalize S % 2 ^ f = SM at *
  by_cases hn : a < 0
  · obtain rfl : a = -(S : Int) := by omega
    have FT : Hid (ftx (-(S : Int)) f = [45] ++ decDigits q ++ (if SM = 0 then [] else 46 :: FR)) := by have := FT.out; rwa [if_pos hn] at this
    obtain ⟨PB, hPB⟩ : ∃ PB, PB = [45] ++ decDigits q := ⟨_, rfl⟩
    have FT2 := FT.out
    rw [← hPB] at FT2
    have FTP := Lib.hid FT2
    clear FT2
    obtain ⟨Z, hZ⟩ : ∃ Z : ByteArray × Unit, Z.1 = ⟨PB.toArray⟩ := ⟨(_, ()), rfl⟩
    have hPL : PB.length = 1 + (decDigits q).length := by rw [hPB]; simp; omega
    have hZ3 : Z.1.size = PB.length := by rw [hZ]; show PB.toArray.size = _; simp
    have HZ : Hid (Z.1.size ≤ 65536 ∧ (Z.1.data.toList.map fun b => Value.int .u8 (b.toNat : Int)) = PB.map b8) := ⟨by omega, by rw [hZ]; rfl⟩
    have hZ2 : (ByteArray.mk #[45] ++ ⟨(decDigits q).toArray⟩) = Z.1 := by rw [hZ, hPB]; exact cat_toArray [45] _
    rw [hPL] at hZ3
    clear hS hq hZ htab ga hPB
    generalize decDigits q = Dq at *
    have s1 : ¬ 9223372036854775807 < 1 + Dq.length := by omega
    refine (callsIn_wide (n := 9)).1 ?_
    refine callsIn_of_wp_marks Tryz.func5 rfl trivial ?_
    simp only [Tryz.ntmps5, List.size_toArray, List.length_cons, List.length_nil, Nat.reduceAdd, Nat.reduceSub, Array.replicate_succ, Array.replicate_zero, List.push_toArray, List.append_toArray, List.nil_append, List.cons_append]
    refine wpIn_wide.2 ?_
    go_wp2_with (first | (go_at_call 14; (with_reducible refine (CK.out _).mono ?_); rintro e w' ⟨rfl, rfl⟩) | (go_at_call 15; (with_reducible refine (CF.out _).mono ?_); rintro e w' ⟨rfl, rfl⟩) | (go_at_call 16; (with_reducible refine (FU.out _ (by repeat (first | exact Below.refl _ _ | assumption | apply Below.drew | refine Below.setCell ?_ (by first | omega | (simp; done) | (simp; omega)) _ | refine Below.alloc ?_ (by first | omega | (simp; done) | (simp; omega)) _))).mono ?_); rintro e w1 ⟨rfl, hb1⟩; have q1 := hb1.size; (try simp at q1); obtain ⟨cv0, cv1, cv2⟩ := byteRow_of_string w1 5 Z.1 HZ.out.1 w.heap.size q1; rw [hZ3] at cv0; have cv := Lib.run_convert_string_bytes (P := Tryz.prog) w1 9 44 5 Z.1 Tryz.underlying9 Tryz.underlying44 Tryz.underlying5) | (at_builtin; refine wpList_append_byte _ rfl _ _ 44 rfl w.heap.size 5 i0 (.int .u8 0) Tryz.underlying44 hi0 hz0 hz1 hz2 rfl _ _ rfl ((cv0.alloc _).alloc _) (1 + Dq.length) 1 ⟨w1.heap.size + 1 + 1, 0, none⟩ (.int .u8 46) ?c1 rfl ?c2 rfl rfl ?c3 ?c4 ?_) | fail)
    case c1 => rw [List.length_map, Array.length_toList]; exact hZ3.symm
    case c2 =>
      have := (Boxed.new ((bytesWorld w1 5 Z.1).alloc (Obj.cells #[Value.slice (some ⟨w1.heap.size, 0, none⟩) (1 + Dq.length) (grownCap w1 (1 + Dq.length) 0 5)] 44)) 5 (.int .u8 46)).cell
      rw [World.size_alloc, cv2] at this
      exact this
    case c3 => rw [List.length_map, Array.length_toList]; show Z.1.size + 1 ≤ _; omega
    case c4 => simp; omega
    intro g2 cap2 w2 hown2 hgr2
    have hb2 := ((Boxed.new (bytesWorld w1 5 Z.1) 44 (.slice (some ⟨w1.heap.size, 0, none⟩) (1 + Dq.length) (grownCap w1 (1 + Dq.length) 0 5))).alloc (Obj.cells #[Value.int .u8 46] 5)).kept hgr2 (by rw [cv2]; simp [Value.ownBlock])
    have hBW := ((hb1.trans (cv1.mono q1)).alloc (by rw [cv2]; omega) _).alloc (by rw [World.size_alloc, cv2]; omega) _ |>.grown hgr2 (by rw [World.size_alloc, World.size_alloc, cv2]; omega) (fun k e => by cases e; exact q1)
    rw [cv2] at hb2
    rw [HZ.out.2] at hown2
    have hc2 := hb2.cell
    have hf2 := hb2.frozen
    have bx2 := hb2.set (.slice (some ⟨g2, 0, none⟩) (1 + Dq.length + 1) cap2)
    have rw2 := hown2.set (u' := .slice (some ⟨g2, 0, none⟩) (1 + Dq.length + 1) cap2) hb2 (by decide)
    have bw2 := hBW.setCell (p := ⟨w1.heap.size + 1, 0, none⟩) (by show w.heap.size ≤ w1.heap.size + 1; omega) (.slice (some ⟨g2, 0, none⟩) (1 + Dq.length + 1) cap2)
    clear hown2 hgr2 hBW cv0 cv1 cv2 cv
    go_wp2_with (first | (go_at_call 17; (with_reducible refine (DC.out _).mono ?_); rintro e w3 ⟨rfl, hd0, hd1, hd2, hsz3, hb3⟩) | fail)
    simp only [World.size_setCell] at hd0 hd1 hd2 hsz3
    have bx3 := box_below bx2 hb3
    have rw3 := rw2.below hb3
    have bw3 := bw2.trans (hb3.mono (bw2.size))
    have b12 := hb2.lt
    clear FT hb3 bx2 rw2 bw2 hb2 hc2 hf2 FU hZ2 HZ hZ3 CK CF hs47 DC eq1 hq2 hb1
    have HPL := Lib.hid hPL
    clear hPL
    refine (wpIn_wide (n := 9)).1 ?_
    refine wpIn_rangeFunc_ownG (F := Fence.wide) (n := 9) rfl (by decide) (gf := 36) (lb := #[.pointer (some ⟨w2.heap.size, 0, none⟩), .pointer (some ⟨w2.heap.size + 2, 0, none⟩), .pointer (some ⟨w2.heap.size + 1, 0, none⟩)]) rfl trivial (enters_of Tryz.func36 (by kernel_rfl) rfl)
      (DS.out w2.heap.size w3 (by omega) hd0.cell hd1.cell hd2.cell) Keep3.trans (Keep3.put (by omega)) (Below.refl _ _) (fun _ => rfl)
      (fun pre W => (∃ v, Boxed W (w1.heap.size + 1) 44 v ∧ ByteRow W w.heap.size 5 v (PB.map b8 ++ [Value.int IntKind.u8 46] ++ pre.map b8)) ∧ (Boxed W w2.heap.size 43 (.int .u64 S) ∧ Boxed W (w2.heap.size + 1) 3 (.int .i64 f) ∧ Boxed W (w2.heap.size + 2) 43 (.int .u64 ((2 ^ f - 1 : Nat) : Int))) ∧ Below w.heap.size w W)
      (fun _ _ _ => False)
      (OwnFrom.and (Own.from (byteRow_own w.heap.size (w1.heap.size + 1) 44 5 (fun pre : List UInt8 => PB.map b8 ++ [Value.int IntKind.u8 46] ++ pre.map b8)) _) (OwnFrom.and (OwnFrom.and (Own.from (boxed_own _ _ (fun _ => _)) _) (OwnFrom.and (Own.from (boxed_own _ _ (fun _ => _)) _) (Own.from (boxed_own _ _ (fun _ => _)) _))) (ownFrom_below (Nat.le_refl _) bw3.size)))
      (fun _ _ _ _ _ hs _ _ => hs)
      ⟨⟨_, bx3, by simpa using rw3⟩, ⟨hd0, hd1, hd2⟩, bw3⟩
      (fun x : UInt8 => { tmps := #[Value.int IntKind.i64 (-(S : Int)), Value.int IntKind.i64 f, undef, undef, Value.string { data := #[] }, Value.int IntKind.i64 0, Value.string { data := #[45] }, Value.int IntKind.u64 S, Value.pointer (some { block := w1.heap.size + 1, off := 0 }), Value.int IntKind.i64 (1 + (Dq.length : Int)), Value.int IntKind.u8 (x.toNat : Int), Value.int IntKind.i64 (-(S : Int)), Value.int IntKind.i64 0, Value.bool false, Value.bool false, Value.int IntKind.i64 f, Value.int IntKind.i64 0, Value.bool false, Value.bool false, Value.int IntKind.i64 (-(S : Int)), Value.int IntKind.u64 (IntKind.u64.wrap (-(S : Int))), Value.int IntKind.i64 (-(S : Int)), Value.bool true, Value.int IntKind.i64 (-(S : Int)), Value.int IntKind.i64 S, Value.int IntKind.u64 S, Value.string { data := #[45] }, Value.int IntKind.u64 S, Value.int IntKind.i64 f, Value.int IntKind.u64 q, Value.string { data := Dq.toArray }, Value.string Z.1, Value.slice (some { block := w1.heap.size, off := 0 }) (1 + Dq.length) (grownCap w1 (1 + Dq.length) 0 5), Value.slice (some { block := w1.heap.size, off := 0 }) (1 + Dq.length) (grownCap w1 (1 + Dq.length) 0 5), Value.int IntKind.i64 (1 + (Dq.length : Int)), Value.slice (some { block := w1.heap.size, off := 0 }) (1 + Dq.length) (grownCap w1 (1 + Dq.length) 0 5), Value.slice (some { block := w1.heap.size + 1 + 1, off := 0 }) 1 1, Value.slice (some { block := g2, off := 0 }) (1 + Dq.length + 1) cap2, Value.int IntKind.u64 S, Value.int IntKind.i64 f, Value.func (Fn.func 36) #[] #[Value.pointer (some { block := w2.heap.size, off := 0 }), Value.pointer (some { block := w2.heap.size + 2, off := 0 }), Value.pointer (some { block := w2.heap.size + 1, off := 0 })], Value.int IntKind.u8 (x.toNat : Int), undef, undef, undef, undef, undef, undef, undef, undef, undef, undef, undef, undef, undef, undef, undef], defers := [] }) ?assign ?body ?done ?stop
    case assign =>
      intro l x W K hK
      gi_wp2
      exact hK
    case stop =>
      rintro D c pre W _ _ h _
      exact h.elim
    case body =>
      rintro l pre x W ⟨⟨v, hv, hrow⟩, ⟨bB0, bB1, bB2⟩, hB⟩ hlt
      obtain ⟨g, cap, rfl, _⟩ := row_form hrow
      have hlen : (PB.map b8 ++ [Value.int IntKind.u8 46] ++ pre.map b8).length = 1 + Dq.length + 1 + pre.length := by simp [HPL.out]; omega
      rw [hlen] at hv hrow
      have hc := hv.cell
      have hBs := hB.size
      gi_wp2_with (gi_at_builtin; refine wpListIn_append_byte _ rfl _ _ 44 rfl w.heap.size 5 i0 (.int .u8 0) Tryz.underlying44 hi0 hz0 hz1 hz2 rfl _ _ rfl (hrow.alloc _) (1 + Dq.length + 1 + pre.length) 1 ⟨W.heap.size, 0, none⟩ (.int .u8 (x.toNat : Int)) hlen.symm rfl (Boxed.new W _ _).cell rfl rfl (by rw [hlen]; omega) (by simp; omega) ?_; intro g' cap' w4 hown' hgrow; obtain ⟨hv1, hv2, hr2, hk2, hb4⟩ := box_appended hv (by decide) hrow hBs (by omega) hown' hgrow; have hc1 := hv1.cell; have hf1 := hv1.frozen)
      have k0 := ((bB0.alloc _).kept hgrow (hrow.not_box bB0 (by decide))).other (B' := w1.heap.size + 1) (by omega) (.slice (some ⟨g', 0, none⟩) (1 + Dq.length + 1 + pre.length + 1) cap')
      have k1 := ((bB1.alloc _).kept hgrow (hrow.not_box bB1 (by decide))).other (B' := w1.heap.size + 1) (by omega) (.slice (some ⟨g', 0, none⟩) (1 + Dq.length + 1 + pre.length + 1) cap')
      have k2 := ((bB2.alloc _).kept hgrow (hrow.not_box bB2 (by decide))).other (B' := w1.heap.size + 1) (by omega) (.slice (some ⟨g', 0, none⟩) (1 + Dq.length + 1 + pre.length + 1) cap')
      exact ⟨hk2.from _, Keep3.of_boxes bB0 bB1 bB2 k0 k1 k2, ⟨_, hv2, by rw [List.map_append, ← List.append_assoc]; exact hr2⟩, ⟨k0, k1, k2⟩, hB.trans hb4⟩
    case done =>
      rintro D ys W hD rfl ⟨⟨v, hv, hrow⟩, _, hB⟩ hK
      obtain ⟨g, cap, rfl, hcap⟩ := row_form hrow
      have hlen : (PB.map b8 ++ [Value.int IntKind.u8 46] ++ ys.map b8).length = 1 + Dq.length + 1 + ys.length := by simp [HPL.out]; omega
      rw [hlen] at hv hrow hcap
      have hc := hv.cell
      have hBs := bw3.size
      have hfin := hB.trans (belowK_b (w := w) (Nat.le_refl _) W D _ (.deferred none) (by omega) hK rfl rfl)
      have FT2 := FTP.out
      rcases FZ.out with ⟨z1, z2⟩ | ⟨z1, z2⟩
      · subst z2
        rw [if_pos z1, List.append_nil] at FT2
        have hcv : (convert 44 9 (.slice (some ⟨g, 0, none⟩) (1 + Dq.length) cap)).run Tryz.prog W = .ok (.string ⟨PB.toArray⟩) W := by
          have h := run_convert_bytes_back (P := Tryz.prog) W 44 9 5 ⟨g, 0, none⟩ cap PB Tryz.underlying44 Tryz.underlying5 Tryz.underlying9 (row_bytes (l := PB) (r := [46]) (by simpa [b8] using hrow))
          rw [HPL.out] at h
          exact h
        simp only [List.length_nil, Nat.add_zero] at hcap hc
        have FT3 := Lib.hid FT2
        clear FT2 FTP hrow hv hlen z1 FZ FL
        go_wp2
        refine ⟨by simp, .inl ⟨_, _, rfl, run_takeDeferred hK, ?_⟩⟩
        exact ⟨_, results_tmp2 rfl _ _ _, by show Ending.returned (Value.tuple #[Value.string ⟨PB.toArray⟩, Value.int .i64 0]) = _; rw [FT3.out], hfin⟩
      · rw [if_neg z1] at FT2
        obtain ⟨k, hk⟩ : ∃ k, ys.length = k + 1 := ⟨ys.length - 1, by omega⟩
        have hcv : (convert 44 9 (.slice (some ⟨g, 0, none⟩) (1 + Dq.length + 1 + (k + 1)) cap)).run Tryz.prog W = .ok (.string ⟨(PB ++ 46 :: ys).toArray⟩) W := by
          have h := run_convert_bytes_back (P := Tryz.prog) W 44 9 5 ⟨g, 0, none⟩ cap (PB ++ 46 :: ys) Tryz.underlying44 Tryz.underlying5 Tryz.underlying9 (row_bytes (l := PB ++ 46 :: ys) (r := []) (by simpa [b8] using hrow))
          rw [show (PB ++ 46 :: ys).length = 1 + Dq.length + 1 + (k + 1) by simp [HPL.out]; omega] at h
          exact h
        rw [hk] at hcap hc
        have hk32 : k ≤ 32 := by omega
        have FT3 := Lib.hid FT2
        clear FT2 FTP hrow hv hlen z1 z2 FZ FL hk
        go_wp2
        refine ⟨by simp, .inl ⟨_, _, rfl, run_takeDeferred hK, ?_⟩⟩
        exact ⟨_, results_tmp2 rfl _ _ _, by show Ending.returned (Value.tuple #[Value.string ⟨(PB ++ 46 :: ys).toArray⟩, Value.int .i64 0]) = _; rw [FT3.out], hfin⟩
  · obtain rfl : a = (S : Int) := by omega
    have FT : Hid (ftx (S : Int) f = [] ++ decDigits q ++ (if SM = 0 then [] else 46 :: FR)) := by have := FT.out; rwa [if_neg hn] at this
    obtain ⟨PB, hPB⟩ : ∃ PB, PB = [] ++ decDigits q := ⟨_, rfl⟩
    have FT2 := FT.out
    rw [← hPB] at FT2
    have FTP := Lib.hid FT2
    clear FT2
    obtain ⟨Z, hZ⟩ : ∃ Z : ByteArray × Unit, Z.1 = ⟨PB.toArray⟩ := ⟨(_, ()), rfl⟩
    have hPL : PB.length = (decDigits q).length := by rw [hPB]; simp
    have hZ3 : Z.1.size = PB.length := by rw [hZ]; show PB.toArray.size = _; simp
    have HZ : Hid (Z.1.size ≤ 65536 ∧ (Z.1.data.toList.map fun b => Value.int .u8 (b.toNat : Int)) = PB.map b8) := ⟨by omega, by rw [hZ]; rfl⟩
    have hZ2 : (ByteArray.mk #[] ++ ⟨(decDigits q).toArray⟩) = Z.1 := by rw [hZ, hPB]; exact cat_toArray [] _
    rw [hPL] at hZ3
    clear hS hq hZ htab ga hPB a1
    generalize decDigits q = Dq at *
    have s1 : ¬ 9223372036854775807 < Dq.length := by omega
    refine (callsIn_wide (n := 9)).1 ?_
    refine callsIn_of_wp_marks Tryz.func5 rfl trivial ?_
    simp only [Tryz.ntmps5, List.size_toArray, List.length_cons, List.length_nil, Nat.reduceAdd, Nat.reduceSub, Array.replicate_succ, Array.replicate_zero, List.push_toArray, List.append_toArray, List.nil_append, List.cons_append]
    refine wpIn_wide.2 ?_
    go_wp2_with (first | (go_at_call 14; (with_reducible refine (CK.out _).mono ?_); rintro e w' ⟨rfl, rfl⟩) | (go_at_call 15; (with_reducible refine (CF.out _).mono ?_); rintro e w' ⟨rfl, rfl⟩) | (go_at_call 16; (with_reducible refine (FU.out _ (by repeat (first | exact Below.refl _ _ | assumption | apply Below.drew | refine Below.setCell ?_ (by first | omega | (simp; done) | (simp; omega)) _ | refine Below.alloc ?_ (by first | omega | (simp; done) | (simp; omega)) _))).mono ?_); rintro e w1 ⟨rfl, hb1⟩; have q1 := hb1.size; (try simp at q1); obtain ⟨cv0, cv1, cv2⟩ := byteRow_of_string w1 5 Z.1 HZ.out.1 w.heap.size q1; rw [hZ3] at cv0; have cv := Lib.run_convert_string_bytes (P := Tryz.prog) w1 9 44 5 Z.1 Tryz.underlying9 Tryz.underlying44 Tryz.underlying5) | (at_builtin; refine wpList_append_byte _ rfl _ _ 44 rfl w.heap.size 5 i0 (.int .u8 0) Tryz.underlying44 hi0 hz0 hz1 hz2 rfl _ _ rfl ((cv0.alloc _).alloc _) (Dq.length) 1 ⟨w1.heap.size + 1 + 1, 0, none⟩ (.int .u8 46) ?c1 rfl ?c2 rfl rfl ?c3 ?c4 ?_) | fail)
    case c1 => rw [List.length_map, Array.length_toList]; exact hZ3.symm
    case c2 =>
      have := (Boxed.new ((bytesWorld w1 5 Z.1).alloc (Obj.cells #[Value.slice (some ⟨w1.heap.size, 0, none⟩) (Dq.length) (grownCap w1 (Dq.length) 0 5)] 44)) 5 (.int .u8 46)).cell
      rw [World.size_alloc, cv2] at this
      exact this
    case c3 => rw [List.length_map, Array.length_toList]; show Z.1.size + 1 ≤ _; omega
    case c4 => simp; omega
    intro g2 cap2 w2 hown2 hgr2
    have hb2 := ((Boxed.new (bytesWorld w1 5 Z.1) 44 (.slice (some ⟨w1.heap.size, 0, none⟩) (Dq.length) (grownCap w1 (Dq.length) 0 5))).alloc (Obj.cells #[Value.int .u8 46] 5)).kept hgr2 (by rw [cv2]; simp [Value.ownBlock])
    have hBW := ((hb1.trans (cv1.mono q1)).alloc (by rw [cv2]; omega) _).alloc (by rw [World.size_alloc, cv2]; omega) _ |>.grown hgr2 (by rw [World.size_alloc, World.size_alloc, cv2]; omega) (fun k e => by cases e; exact q1)
    rw [cv2] at hb2
    rw [HZ.out.2] at hown2
    have hc2 := hb2.cell
    have hf2 := hb2.frozen
    have bx2 := hb2.set (.slice (some ⟨g2, 0, none⟩) (Dq.length + 1) cap2)
    have rw2 := hown2.set (u' := .slice (some ⟨g2, 0, none⟩) (Dq.length + 1) cap2) hb2 (by decide)
    have bw2 := hBW.setCell (p := ⟨w1.heap.size + 1, 0, none⟩) (by show w.heap.size ≤ w1.heap.size + 1; omega) (.slice (some ⟨g2, 0, none⟩) (Dq.length + 1) cap2)
    clear hown2 hgr2 hBW cv0 cv1 cv2 cv
    go_wp2_with (first | (go_at_call 17; (with_reducible refine (DC.out _).mono ?_); rintro e w3 ⟨rfl, hd0, hd1, hd2, hsz3, hb3⟩) | fail)
    simp only [World.size_setCell] at hd0 hd1 hd2 hsz3
    have bx3 := box_below bx2 hb3
    have rw3 := rw2.below hb3
    have bw3 := bw2.trans (hb3.mono (bw2.size))
    have b12 := hb2.lt
    clear FT hb3 bx2 rw2 bw2 hb2 hc2 hf2 FU hZ2 HZ hZ3 CK CF hs47 DC eq1 hq2 hb1
    have HPL := Lib.hid hPL
    clear hPL
    refine (wpIn_wide (n := 9)).1 ?_
    refine wpIn_rangeFunc_ownG (F := Fence.wide) (n := 9) rfl (by decide) (gf := 36) (lb := #[.pointer (some ⟨w2.heap.size, 0, none⟩), .pointer (some ⟨w2.heap.size + 2, 0, none⟩), .pointer (some ⟨w2.heap.size + 1, 0, none⟩)]) rfl trivial (enters_of Tryz.func36 (by kernel_rfl) rfl)
      (DS.out w2.heap.size w3 (by omega) hd0.cell hd1.cell hd2.cell) Keep3.trans (Keep3.put (by omega)) (Below.refl _ _) (fun _ => rfl)
      (fun pre W => (∃ v, Boxed W (w1.heap.size + 1) 44 v ∧ ByteRow W w.heap.size 5 v (PB.map b8 ++ [Value.int IntKind.u8 46] ++ pre.map b8)) ∧ (Boxed W w2.heap.size 43 (.int .u64 S) ∧ Boxed W (w2.heap.size + 1) 3 (.int .i64 f) ∧ Boxed W (w2.heap.size + 2) 43 (.int .u64 ((2 ^ f - 1 : Nat) : Int))) ∧ Below w.heap.size w W)
      (fun _ _ _ => False)
      (OwnFrom.and (Own.from (byteRow_own w.heap.size (w1.heap.size + 1) 44 5 (fun pre : List UInt8 => PB.map b8 ++ [Value.int IntKind.u8 46] ++ pre.map b8)) _) (OwnFrom.and (OwnFrom.and (Own.from (boxed_own _ _ (fun _ => _)) _) (OwnFrom.and (Own.from (boxed_own _ _ (fun _ => _)) _) (Own.from (boxed_own _ _ (fun _ => _)) _))) (ownFrom_below (Nat.le_refl _) bw3.size)))
      (fun _ _ _ _ _ hs _ _ => hs)
      ⟨⟨_, bx3, by simpa using rw3⟩, ⟨hd0, hd1, hd2⟩, bw3⟩
      (fun x : UInt8 => { tmps := #[Value.int IntKind.i64 (S : Int), Value.int IntKind.i64 f, undef, undef, Value.string { data := #[] }, Value.int IntKind.i64 0, Value.string { data := #[] }, Value.int IntKind.u64 S, Value.pointer (some { block := w1.heap.size + 1, off := 0 }), Value.int IntKind.i64 (Dq.length : Int), Value.int IntKind.u8 (x.toNat : Int), Value.int IntKind.i64 (S : Int), Value.int IntKind.i64 0, Value.bool false, Value.bool false, Value.int IntKind.i64 f, Value.int IntKind.i64 0, Value.bool false, Value.bool false, Value.int IntKind.i64 (S : Int), Value.int IntKind.u64 S, Value.int IntKind.i64 (S : Int), Value.bool false, undef, undef, undef, Value.string { data := #[] }, Value.int IntKind.u64 S, Value.int IntKind.i64 f, Value.int IntKind.u64 q, Value.string { data := Dq.toArray }, Value.string Z.1, Value.slice (some { block := w1.heap.size, off := 0 }) (Dq.length) (grownCap w1 (Dq.length) 0 5), Value.slice (some { block := w1.heap.size, off := 0 }) (Dq.length) (grownCap w1 (Dq.length) 0 5), Value.int IntKind.i64 (Dq.length : Int), Value.slice (some { block := w1.heap.size, off := 0 }) (Dq.length) (grownCap w1 (Dq.length) 0 5), Value.slice (some { block := w1.heap.size + 1 + 1, off := 0 }) 1 1, Value.slice (some { block := g2, off := 0 }) (Dq.length + 1) cap2, Value.int IntKind.u64 S, Value.int IntKind.i64 f, Value.func (Fn.func 36) #[] #[Value.pointer (some { block := w2.heap.size, off := 0 }), Value.pointer (some { block := w2.heap.size + 2, off := 0 }), Value.pointer (some { block := w2.heap.size + 1, off := 0 })], Value.int IntKind.u8 (x.toNat : Int), undef, undef, undef, undef, undef, undef, undef, undef, undef, undef, undef, undef, undef, undef, undef], defers := [] }) ?assign ?body ?done ?stop
    case assign =>
      intro l x W K hK
      gi_wp2
      exact hK
    case stop =>
      rintro D c pre W _ _ h _
      exact h.elim
    case body =>
      rintro l pre x W ⟨⟨v, hv, hrow⟩, ⟨bB0, bB1, bB2⟩, hB⟩ hlt
      obtain ⟨g, cap, rfl, _⟩ := row_form hrow
      have hlen : (PB.map b8 ++ [Value.int IntKind.u8 46] ++ pre.map b8).length = Dq.length + 1 + pre.length := by simp [HPL.out]; omega
      rw [hlen] at hv hrow
      have hc := hv.cell
      have hBs := hB.size
      gi_wp2_with (gi_at_builtin; refine wpListIn_append_byte _ rfl _ _ 44 rfl w.heap.size 5 i0 (.int .u8 0) Tryz.underlying44 hi0 hz0 hz1 hz2 rfl _ _ rfl (hrow.alloc _) (Dq.length + 1 + pre.length) 1 ⟨W.heap.size, 0, none⟩ (.int .u8 (x.toNat : Int)) hlen.symm rfl (Boxed.new W _ _).cell rfl rfl (by rw [hlen]; omega) (by simp; omega) ?_; intro g' cap' w4 hown' hgrow; obtain ⟨hv1, hv2, hr2, hk2, hb4⟩ := box_appended hv (by decide) hrow hBs (by omega) hown' hgrow; have hc1 := hv1.cell; have hf1 := hv1.frozen)
      have k0 := ((bB0.alloc _).kept hgrow (hrow.not_box bB0 (by decide))).other (B' := w1.heap.size + 1) (by omega) (.slice (some ⟨g', 0, none⟩) (Dq.length + 1 + pre.length + 1) cap')
      have k1 := ((bB1.alloc _).kept hgrow (hrow.not_box bB1 (by decide))).other (B' := w1.heap.size + 1) (by omega) (.slice (some ⟨g', 0, none⟩) (Dq.length + 1 + pre.length + 1) cap')
      have k2 := ((bB2.alloc _).kept hgrow (hrow.not_box bB2 (by decide))).other (B' := w1.heap.size + 1) (by omega) (.slice (some ⟨g', 0, none⟩) (Dq.length + 1 + pre.length + 1) cap')
      exact ⟨hk2.from _, Keep3.of_boxes bB0 bB1 bB2 k0 k1 k2, ⟨_, hv2, by rw [List.map_append, ← List.append_assoc]; exact hr2⟩, ⟨k0, k1, k2⟩, hB.trans hb4⟩
    case done =>
      rintro D ys W hD rfl ⟨⟨v, hv, hrow⟩, _, hB⟩ hK
      obtain ⟨g, cap, rfl, hcap⟩ := row_form hrow
      have hlen : (PB.map b8 ++ [Value.int IntKind.u8 46] ++ ys.map b8).length = Dq.length + 1 + ys.length := by simp [HPL.out]; omega
      rw [hlen] at hv hrow hcap
      have hc := hv.cell
      have hBs := bw3.size
      have hfin := hB.trans (belowK_b (w := w) (Nat.le_refl _) W D _ (.deferred none) (by omega) hK rfl rfl)
      have FT2 := FTP.out
      rcases FZ.out with ⟨z1, z2⟩ | ⟨z1, z2⟩
      · subst z2
        rw [if_pos z1, List.append_nil] at FT2
        have hcv : (convert 44 9 (.slice (some ⟨g, 0, none⟩) (Dq.length) cap)).run Tryz.prog W = .ok (.string ⟨PB.toArray⟩) W := by
          have h := run_convert_bytes_back (P := Tryz.prog) W 44 9 5 ⟨g, 0, none⟩ cap PB Tryz.underlying44 Tryz.underlying5 Tryz.underlying9 (row_bytes (l := PB) (r := [46]) (by simpa [b8] using hrow))
          rw [HPL.out] at h
          exact h
        simp only [List.length_nil, Nat.add_zero] at hcap hc
        have FT3 := Lib.hid FT2
        clear FT2 FTP hrow hv hlen z1 FZ FL
        go_wp2
        refine ⟨by simp, .inl ⟨_, _, rfl, run_takeDeferred hK, ?_⟩⟩
        exact ⟨_, results_tmp2 rfl _ _ _, by show Ending.returned (Value.tuple #[Value.string ⟨PB.toArray⟩, Value.int .i64 0]) = _; rw [FT3.out], hfin⟩
      · rw [if_neg z1] at FT2
        obtain ⟨k, hk⟩ : ∃ k, ys.length = k + 1 := ⟨ys.length - 1, by omega⟩
        have hcv : (convert 44 9 (.slice (some ⟨g, 0, none⟩) (Dq.length + 1 + (k + 1)) cap)).run Tryz.prog W = .ok (.string ⟨(PB ++ 46 :: ys).toArray⟩) W := by
          have h := run_convert_bytes_back (P := Tryz.prog) W 44 9 5 ⟨g, 0, none⟩ cap (PB ++ 46 :: ys) Tryz.underlying44 Tryz.underlying5 Tryz.underlying9 (row_bytes (l := PB ++ 46 :: ys) (r := []) (by simpa [b8] using hrow))
          rw [show (PB ++ 46 :: ys).length = Dq.length + 1 + (k + 1) by simp [HPL.out]; omega] at h
          exact h
        rw [hk] at hcap hc
        have hk32 : k ≤ 32 := by omega
        have FT3 := Lib.hid FT2
        clear FT2 FTP hrow hv hlen z1 z2 FZ FL hk
        go_wp2
        refine ⟨by simp, .inl ⟨_, _, rfl, run_takeDeferred hK, ?_⟩⟩
        exact ⟨_, results_tmp2 rfl _ _ _, by show Ending.returned (Value.tuple #[Value.string ⟨(PB ++ 46 :: ys).toArray⟩, Value.int .i64 0]) = _; rw [FT3.out], hfin⟩
end Go.Proofs.YteplhlmdaabpaaaGreatDoor
