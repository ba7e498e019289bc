/-
  The references' whole numbers: sums.
-/
import Derived.Test.YtkpkejccphpkpaaNatD
namespace Go.Proofs.Ytkpkejccphpkpaa
open Go.RowKit

theorem Rd.form {k : IntKind} {w : World} {v : Value} {ls : List Nat} (h : Rd k w v ls) : ∃ o cap, v = .slice o ls.length cap ∧ ∀ i, i < ls.length → ∃ b off, o = some ⟨b, off, none⟩ ∧ b < w.heap.size ∧ w.cell? ⟨b, off + i, none⟩ = some (.int k (ls.getD i 0 : Nat)) := by
  rcases h with ⟨rfl, rfl⟩ | ⟨b, off, cap, rfl, _, hl, h⟩
  · exact ⟨none, 0, rfl, fun i hi => by simp at hi⟩
  · exact ⟨_, cap, rfl, fun i hi => ⟨b, off, rfl, hl, h i hi⟩⟩
theorem getD_lt {ls : List Nat} {B : Nat} (hB : 0 < B) (h : ∀ x ∈ ls, x < B) (i : Nat) : ls.getD i 0 < B := by
  by_cases hi : i < ls.length
  · simp only [List.getD, List.getElem?_eq_getElem hi, Option.getD_some]; exact h _ (List.getElem_mem hi)
  · simp only [List.getD, List.getElem?_eq_none (by omega : ls.length ≤ i), Option.getD_none]; exact hB
theorem lval_take_succ (B : Nat) (ls : List Nat) (i : Nat) : lval B (ls.take (i + 1)) = lval B (ls.take i) + B ^ i * ls.getD i 0 := by
  by_cases hi : i < ls.length
  · rw [take_snoc_getD ls i hi, lval_append, List.length_take, Nat.min_eq_left (by omega)]; simp [lval]
  · rw [List.take_of_length_le (by omega), List.take_of_length_le (by omega)]
    simp [List.getD, List.getElem?_eq_none (by omega : ls.length ≤ i)]
/-- What holds at each round of a sum: the digits told, and the carry. -/
def PInv (xs ys ds : List Nat) (i c : Nat) : Prop := ds.length = i ∧ (∀ x ∈ ds, x < 4294967296) ∧ c ≤ 1 ∧ lval 4294967296 (xs.take i) + lval 4294967296 (ys.take i) = lval 4294967296 ds + 4294967296 ^ i * c
theorem pinv_step {xs ys ds : List Nat} {i c s : Nat} (h : PInv xs ys ds i c) (hx : ∀ x ∈ xs, x < 4294967296) (hy : ∀ x ∈ ys, x < 4294967296) (hs : s = c + xs.getD i 0 + ys.getD i 0) : PInv xs ys (ds ++ [s % 4294967296]) (i + 1) (s / 4294967296) := by
  obtain ⟨h1, h2, h3, h4⟩ := h
  have gx := getD_lt (by decide) hx i
  have gy := getD_lt (by decide) hy i
  refine ⟨by simp [h1], ?_, by omega, ?_⟩
  · intro x hxm
    rw [List.mem_append] at hxm
    rcases hxm with hm | hm
    · exact h2 x hm
    · simp at hm; omega
  · rw [lval_take_succ, lval_take_succ, lval_append, h1, Nat.pow_succ]
    simp only [lval, Nat.mul_zero, Nat.add_zero]
    have e : s % 4294967296 + 4294967296 * (s / 4294967296) = s := Nat.mod_add_div _ _
    have e2 : 4294967296 ^ i * (s % 4294967296) + 4294967296 ^ i * 4294967296 * (s / 4294967296) = 4294967296 ^ i * s := by
      rw [Nat.mul_assoc, ← Nat.mul_add, e]
    have e3 : 4294967296 ^ i * s = 4294967296 ^ i * c + 4294967296 ^ i * xs.getD i 0 + 4294967296 ^ i * ys.getD i 0 := by rw [hs, Nat.mul_add, Nat.mul_add]
    omega
theorem pinv_end {xs ys ds : List Nat} {i c : Nat} (h : PInv xs ys ds i c) (hx : xs.length ≤ i) (hy : ys.length ≤ i) : lval 4294967296 (ds ++ [c]) = lval 4294967296 xs + lval 4294967296 ys ∧ ∀ x ∈ ds ++ [c], x < 4294967296 := by
  obtain ⟨h1, h2, h3, h4⟩ := h
  rw [List.take_of_length_le hx, List.take_of_length_le hy] at h4
  refine ⟨by rw [lval_append, h1]; simp [lval]; omega, ?_⟩
  intro x hxm
  rw [List.mem_append] at hxm
  rcases hxm with hm | hm
  · exact h2 x hm
  · simp at hm; omega

set_option maxRecDepth 100000 in
set_option maxHeartbeats 8000000 in
/-- NPlus -/
theorem nplus_any (va vb : Value) (a b : Nat) (w : World) (ha : IsN w va a) (hb : IsN w vb b) (la : a < BIG) (lb : b < BIG) : Calls Try.prog 99 #[va, vb] w (SomeN w (a + b)) := by
  obtain ⟨i0, hi0, hz0, hz1, hz2⟩ := info_parts info32
  have HA := Lib.hid (And.intro ha (And.intro hb (And.intro la lb)))
  clear ha hb la lb
  go_enter Try.func99, Try.ntmps99
  go_wp2_with (first | (go_at_call 115; (with_reducible refine (halves_num va a _ HA.out.1 HA.out.2.2.1).mono ?_); rintro e w1 ⟨vx, rfl, hvx, hb1⟩) | (go_at_call 115; (with_reducible refine (halves_num vb b _ (HA.out.2.1.below hb1) HA.out.2.2.2).mono ?_); rintro e w2 ⟨vy, rfl, hvy, hb2⟩))
  obtain ⟨xs, rx, x1, x2, x3⟩ := hvx.below hb2
  obtain ⟨ys, ry, y1, y2, y3⟩ := hvy
  have lx := len_d x3 (by rw [x2]; exact HA.out.2.2.1)
  have ly := len_d y3 (by rw [y2]; exact HA.out.2.2.2)
  obtain ⟨ox, cx, rfl, hcx⟩ := rx.form
  obtain ⟨oy, cy, rfl, hcy⟩ := ry.form
  have HX := Lib.hid (And.intro hcx (And.intro hcy (And.intro x1 (And.intro y1 (And.intro x2 y2)))))
  clear rx ry hcx hcy x1 y1 x2 y2 x3 y3 hvx
  have M := Lib.hid (Nat.le_max_left xs.length ys.length)
  have M2 := Lib.hid (Nat.le_max_right xs.length ys.length)
  go_loopw [7, 8, 9] (fun s7 s8 s9 wr => ∃ (i : Nat) (ds : List Nat) (c : Nat), (i ≤ xs.length ∨ i ≤ ys.length) ∧ i ≤ 524289 ∧ s8 = .int .u64 c ∧ s9 = .int .i64 i ∧ Hid (PInv xs ys ds i c) ∧ Hid (wr.ownsRow w2.heap.size 138 1 s7 ds.length (ds.map fun x => Value.int .u32 (x : Nat))) ∧ Below w2.heap.size w2 wr) (fun _ _ s9 _ => xs.length + ys.length - (intOf s9).toNat)
  case atStart => exact ⟨0, [], 0, .inl (Nat.zero_le _), by omega, rfl, rfl, ⟨rfl, by simp, by omega, by simp [lval]⟩, World.ownsRow_nil _ _ _ _, Below.refl _ _⟩
  case round =>
    obtain ⟨i, ds, c, him, hi2, rfl, rfl, HI, hown, hB⟩ := hrel
    have hBs := hB.size
    have cl : c ≤ 1 := HI.out.2.2.1
    by_cases hx : i < xs.length
    · by_cases hy : i < ys.length
      · skip
        obtain ⟨bx, fx, rfl, hbx, hcellx⟩ := HX.out.1 i hx
        have hcx : wr.cell? ⟨bx, fx + i, none⟩ = some (.int .u32 (xs.getD i 0 : Nat)) := (hB.cell (p := ⟨bx, fx + i, none⟩) hbx).trans hcellx
        obtain ⟨xi, exi⟩ : ∃ xi, xi = xs.getD i 0 := ⟨_, rfl⟩
        have xl : xi < 4294967296 := by rw [exi]; exact getD_lt (by decide) HX.out.2.2.1 i
        rw [← exi] at hcx
        clear hcellx
        obtain ⟨by', fy, rfl, hby, hcelly⟩ := HX.out.2.1 i hy
        have hcy : wr.cell? ⟨by', fy + i, none⟩ = some (.int .u32 (ys.getD i 0 : Nat)) := (hB.cell (p := ⟨by', fy + i, none⟩) hby).trans hcelly
        obtain ⟨yi, eyi⟩ : ∃ yi, yi = ys.getD i 0 := ⟨_, rfl⟩
        have yl : yi < 4294967296 := by rw [eyi]; exact getD_lt (by decide) HX.out.2.2.2.1 i
        rw [← eyi] at hcy
        clear hcelly
        obtain ⟨s, hs⟩ : ∃ s : Nat, s = c + xi + yi := ⟨_, rfl⟩
        have st := pinv_step (s := s) HI.out HX.out.2.2.1 HX.out.2.2.2.1 (by rw [← exi, ← eyi, hs])
        obtain ⟨d, hd⟩ : ∃ d, d = s % 4294967296 := ⟨_, rfl⟩
        obtain ⟨c2, hc2⟩ : ∃ c2, c2 = s / 4294967296 := ⟨_, rfl⟩
        rw [← hd, ← hc2] at st
        have e1 : IntKind.u32.wrap ((c : Int) + (xi : Int) + (yi : Int)) = (d : Int) := by rw [IntKind.wrap_u32]; omega
        have e2 : ((c : Int) + (xi : Int) + (yi : Int)) / 4294967296 = (c2 : Int) := by omega
        have ST := Lib.hid st
        have dl : ds.length ≤ 524289 := by have := HI.out.1; omega
        clear st hs hd hc2 exi eyi
        have HO := hown
        clear hown
        go_wp2_with (at_builtin; refine wpList_append_own _ rfl _ _ 136 rfl w2.heap.size 138 i0 (.int .u32 0) 1 4 Try.underlying136 hi0 hz0 hz1 hz2 rfl (by decide) _ ds.length (ds.map fun x => Value.int .u32 (x : Nat)) rfl (HO.out.alloc _) ⟨wr.heap.size, 0, none⟩ 1 1 [.int .u32 (d : Nat)] rfl rfl ?c1 ?c2 ?c3 ?c4 ?c5 ?_)
        case c1 => exact (cell_one_new _ _ _)
        case c2 => simp [Value.oneCell']
        case c3 => unfold maxLen; omega
        case c4 => omega
        case c5 => simp; omega
        intro v' w9 hown1 hgrow _
        go_wp2
        refine ⟨⟨i + 1, ds ++ [d], c2, by omega, by omega, rfl, by go_num, ST.out, ?_, ?_⟩, by simp [intOf]; omega⟩
        · have h1 := hown1
          simpa [Hid] using h1
        · exact (hB.alloc hBs _).grown hgrow (by simp; omega) (fun k hk => (HO.out.lt k hk).1)
      · skip
        obtain ⟨bx, fx, rfl, hbx, hcellx⟩ := HX.out.1 i hx
        have hcx : wr.cell? ⟨bx, fx + i, none⟩ = some (.int .u32 (xs.getD i 0 : Nat)) := (hB.cell (p := ⟨bx, fx + i, none⟩) hbx).trans hcellx
        obtain ⟨xi, exi⟩ : ∃ xi, xi = xs.getD i 0 := ⟨_, rfl⟩
        have xl : xi < 4294967296 := by rw [exi]; exact getD_lt (by decide) HX.out.2.2.1 i
        rw [← exi] at hcx
        clear hcellx
        have zy : ys.getD i 0 = 0 := by simp [List.getD, List.getElem?_eq_none (by omega : ys.length ≤ i)]
        obtain ⟨s, hs⟩ : ∃ s : Nat, s = c + xi := ⟨_, rfl⟩
        have st := pinv_step (s := s) HI.out HX.out.2.2.1 HX.out.2.2.2.1 (by rw [← exi, zy, hs]; omega)
        obtain ⟨d, hd⟩ : ∃ d, d = s % 4294967296 := ⟨_, rfl⟩
        obtain ⟨c2, hc2⟩ : ∃ c2, c2 = s / 4294967296 := ⟨_, rfl⟩
        rw [← hd, ← hc2] at st
        have e1 : IntKind.u32.wrap ((c : Int) + (xi : Int)) = (d : Int) := by rw [IntKind.wrap_u32]; omega
        have e2 : ((c : Int) + (xi : Int)) / 4294967296 = (c2 : Int) := by omega
        have ST := Lib.hid st
        have dl : ds.length ≤ 524289 := by have := HI.out.1; omega
        clear st hs hd hc2 exi zy
        have HO := hown
        clear hown
        go_wp2_with (at_builtin; refine wpList_append_own _ rfl _ _ 136 rfl w2.heap.size 138 i0 (.int .u32 0) 1 4 Try.underlying136 hi0 hz0 hz1 hz2 rfl (by decide) _ ds.length (ds.map fun x => Value.int .u32 (x : Nat)) rfl (HO.out.alloc _) ⟨wr.heap.size, 0, none⟩ 1 1 [.int .u32 (d : Nat)] rfl rfl ?c1 ?c2 ?c3 ?c4 ?c5 ?_)
        case c1 => exact (cell_one_new _ _ _)
        case c2 => simp [Value.oneCell']
        case c3 => unfold maxLen; omega
        case c4 => omega
        case c5 => simp; omega
        intro v' w9 hown1 hgrow _
        go_wp2
        refine ⟨⟨i + 1, ds ++ [d], c2, by omega, by omega, rfl, by go_num, ST.out, ?_, ?_⟩, by simp [intOf]; omega⟩
        · have h1 := hown1
          simpa [Hid] using h1
        · exact (hB.alloc hBs _).grown hgrow (by simp; omega) (fun k hk => (HO.out.lt k hk).1)
    · by_cases hy : i < ys.length
      · skip
        obtain ⟨by', fy, rfl, hby, hcelly⟩ := HX.out.2.1 i hy
        have hcy : wr.cell? ⟨by', fy + i, none⟩ = some (.int .u32 (ys.getD i 0 : Nat)) := (hB.cell (p := ⟨by', fy + i, none⟩) hby).trans hcelly
        obtain ⟨yi, eyi⟩ : ∃ yi, yi = ys.getD i 0 := ⟨_, rfl⟩
        have yl : yi < 4294967296 := by rw [eyi]; exact getD_lt (by decide) HX.out.2.2.2.1 i
        rw [← eyi] at hcy
        clear hcelly
        have zx : xs.getD i 0 = 0 := by simp [List.getD, List.getElem?_eq_none (by omega : xs.length ≤ i)]
        obtain ⟨s, hs⟩ : ∃ s : Nat, s = c + yi := ⟨_, rfl⟩
        have st := pinv_step (s := s) HI.out HX.out.2.2.1 HX.out.2.2.2.1 (by rw [zx, ← eyi, hs]; omega)
        obtain ⟨d, hd⟩ : ∃ d, d = s % 4294967296 := ⟨_, rfl⟩
        obtain ⟨c2, hc2⟩ : ∃ c2, c2 = s / 4294967296 := ⟨_, rfl⟩
        rw [← hd, ← hc2] at st
        have e1 : IntKind.u32.wrap ((c : Int) + (yi : Int)) = (d : Int) := by rw [IntKind.wrap_u32]; omega
        have e2 : ((c : Int) + (yi : Int)) / 4294967296 = (c2 : Int) := by omega
        have ST := Lib.hid st
        have dl : ds.length ≤ 524289 := by have := HI.out.1; omega
        clear st hs hd hc2 zx eyi
        have HO := hown
        clear hown
        go_wp2_with (at_builtin; refine wpList_append_own _ rfl _ _ 136 rfl w2.heap.size 138 i0 (.int .u32 0) 1 4 Try.underlying136 hi0 hz0 hz1 hz2 rfl (by decide) _ ds.length (ds.map fun x => Value.int .u32 (x : Nat)) rfl (HO.out.alloc _) ⟨wr.heap.size, 0, none⟩ 1 1 [.int .u32 (d : Nat)] rfl rfl ?c1 ?c2 ?c3 ?c4 ?c5 ?_)
        case c1 => exact (cell_one_new _ _ _)
        case c2 => simp [Value.oneCell']
        case c3 => unfold maxLen; omega
        case c4 => omega
        case c5 => simp; omega
        intro v' w9 hown1 hgrow _
        go_wp2
        refine ⟨⟨i + 1, ds ++ [d], c2, by omega, by omega, rfl, by go_num, ST.out, ?_, ?_⟩, by simp [intOf]; omega⟩
        · have h1 := hown1
          simpa [Hid] using h1
        · exact (hB.alloc hBs _).grown hgrow (by simp; omega) (fun k hk => (HO.out.lt k hk).1)
      · skip
        obtain ⟨p1, p2⟩ := pinv_end HI.out (by omega) (by omega)
        have P1 := Lib.hid p1
        have P2 := Lib.hid p2
        have dl : ds.length ≤ 524289 := by have := HI.out.1; omega
        have e1 : IntKind.u32.wrap (c : Int) = (c : Int) := by rw [IntKind.wrap_u32]; omega
        have HO := hown
        clear hown p1 p2
        go_wp2_with (at_builtin; refine wpList_append_own _ rfl _ _ 136 rfl w2.heap.size 138 i0 (.int .u32 0) 1 4 Try.underlying136 hi0 hz0 hz1 hz2 rfl (by decide) _ ds.length (ds.map fun x => Value.int .u32 (x : Nat)) rfl (HO.out.alloc _) ⟨wr.heap.size, 0, none⟩ 1 1 [.int .u32 (c : Nat)] rfl rfl ?c1 ?c2 ?c3 ?c4 ?c5 ?_)
        case c1 => exact (cell_one_new _ _ _)
        case c2 => simp [Value.oneCell']
        case c3 => unfold maxLen; omega
        case c4 => omega
        case c5 => simp; omega
        intro v' w9 hown1 hgrow _
        obtain ⟨L, hL⟩ : ∃ L, L = ds ++ [c] := ⟨_, rfl⟩
        have RD : Hid (Rd .u32 w9 v' L) := by
          rw [hL]
          refine own_rd (base := w2.heap.size) (e := 138) ?_
          have h1 := hown1
          simpa using h1
        have ll : L.length ≤ 1048578 := by rw [hL]; simp; omega
        rw [← hL] at P1 P2
        have hB9 : Below w2.heap.size w2 w9 := (hB.alloc hBs _).grown hgrow (by simp; omega) (fun k hk => (HO.out.lt k hk).1)
        have TK : Hid (Rd .u32 w9 (cutv v' (trimLen L)) (L.take (trimLen L))) := RD.out.cut _ (trimLen_le _)
        have TL : Hid ((∀ x ∈ L.take (trimLen L), x < 4294967296) ∧ (L.take (trimLen L)).length ≤ 2199023255552) := ⟨fun x hx => P2.out x (List.mem_of_mem_take hx), by simp; omega⟩
        have TV : Hid (lval 4294967296 (L.take (trimLen L)) = a + b) := by unfold Hid; rw [lval_trim, P1.out]; rw [HX.out.2.2.2.2.1, HX.out.2.2.2.2.2]
        clear hL hown1 hgrow
        have CT := Lib.hid (cutd_any v' L w9 (by omega) RD.out)
        generalize L.take (trimLen L) = TT at *
        generalize trimLen L = tn at *
        go_wp2_with (first | (go_at_call 117; (with_reducible refine (CT.out).mono ?_); rintro e w' ⟨rfl, rfl⟩) | (go_at_call 116; (with_reducible refine (whole_num _ TT _ TK.out TL.out.1 TL.out.2).mono ?_); rintro e w10 ⟨u, rfl, hN, hb10⟩))
        go_ret
        refine ⟨_, rfl, by rw [← TV.out]; exact hN, ?_⟩
        exact (hb1.trans (hb2.mono hb1.size)).trans ((hB9.mono (Nat.le_trans hb1.size hb2.size)).trans (hb10.mono (Nat.le_trans (Nat.le_trans hb1.size hb2.size) hB9.size)))
end Go.Proofs.Ytkpkejccphpkpaa
