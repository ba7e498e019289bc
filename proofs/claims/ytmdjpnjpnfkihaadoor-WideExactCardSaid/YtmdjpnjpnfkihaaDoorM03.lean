/-
  The references' whole numbers: sums.
  The references' whole numbers: differences.
  The references' whole numbers: which is the lower one.
  The references' whole numbers: products.
  The references' whole numbers: times a power of two.
  The references' whole numbers: how many bits they have; halved.
  The references' whole numbers: over a power of two.
  The references' whole numbers: over a digit.
  Decimal digits: of a number in two parts, and the lowest first.
-/
import Derived.Laws.MakeOwn
import Derived.Deep.DeepCutAuto
import Derived.Lib.ItoaNum
import Derived.Test.YtmdjpnjpnfkihaaDoorM01
import Derived.Test.YtmdjpnjpnfkihaaDoorM02
namespace Go.Proofs.YtmdjpnjpnfkihaaDoor
open Go.RowKit

theorem Rd.form {k : IntKind} {w : World} {v : Value} {ls : List Nat} (h : Rd k w v ls) : ∃ o cap, v = .slice o ls.length cap ∧ ∀ i, i < ls.length → ∃ b off, o = some ⟨b, off, none⟩ ∧ b < w.heap.size ∧ w.cell? ⟨b, off + i, none⟩ = some (.int k (ls.getD i 0 : Nat)) := by
  rcases h with ⟨rfl, rfl⟩ | ⟨b, off, cap, rfl, _, hl, h⟩
  · exact ⟨none, 0, rfl, fun i hi => by simp at hi⟩
  · exact ⟨_, cap, rfl, fun i hi => ⟨b, off, rfl, hl, h i hi⟩⟩
theorem getD_lt {ls : List Nat} {B : Nat} (hB : 0 < B) (h : ∀ x ∈ ls, x < B) (i : Nat) : ls.getD i 0 < B := by
  by_cases hi : i < ls.length
  · simp only [List.getD, List.getElem?_eq_getElem hi, Option.getD_some]; exact h _ (List.getElem_mem hi)
  · simp only [List.getD, List.getElem?_eq_none (by omega : ls.length ≤ i), Option.getD_none]; exact hB
theorem lval_take_succ (B : Nat) (ls : List Nat) (i : Nat) : lval B (ls.take (i + 1)) = lval B (ls.take i) + B ^ i * ls.getD i 0 := by
  by_cases hi : i < ls.length
  · rw [take_snoc_getD ls i hi, lval_append, List.length_take, Nat.min_eq_left (by omega)]; simp [lval]
  · rw [List.take_of_length_le (by omega), List.take_of_length_le (by omega)]
    simp [List.getD, List.getElem?_eq_none (by omega : ls.length ≤ i)]
/-- What holds at each round of a sum: the digits told, and the carry. -/
def PInv (xs ys ds : List Nat) (i c : Nat) : Prop := ds.length = i ∧ (∀ x ∈ ds, x < 4294967296) ∧ c ≤ 1 ∧ lval 4294967296 (xs.take i) + lval 4294967296 (ys.take i) = lval 4294967296 ds + 4294967296 ^ i * c
theorem pinv_step {xs ys ds : List Nat} {i c s : Nat} (h : PInv xs ys ds i c) (hx : ∀ x ∈ xs, x < 4294967296) (hy : ∀ x ∈ ys, x < 4294967296) (hs : s = c + xs.getD i 0 + ys.getD i 0) : PInv xs ys (ds ++ [s % 4294967296]) (i + 1) (s / 4294967296) := by
  obtain ⟨h1, h2, h3, h4⟩ := h
  have gx := getD_lt (by decide) hx i
  have gy := getD_lt (by decide) hy i
  refine ⟨by simp [h1], ?_, by omega, ?_⟩
  · intro x hxm
    rw [List.mem_append] at hxm
    rcases hxm with hm | hm
    · exact h2 x hm
    · simp at hm; omega
  · rw [lval_take_succ, lval_take_succ, lval_append, h1, Nat.pow_succ]
    simp only [lval, Nat.mul_zero, Nat.add_zero]
    have e : s % 4294967296 + 4294967296 * (s / 4294967296) = s := Nat.mod_add_div _ _
    have e2 : 4294967296 ^ i * (s % 4294967296) + 4294967296 ^ i * 4294967296 * (s / 4294967296) = 4294967296 ^ i * s := by
      rw [Nat.mul_assoc, ← Nat.mul_add, e]
    have e3 : 4294967296 ^ i * s = 4294967296 ^ i * c + 4294967296 ^ i * xs.getD i 0 + 4294967296 ^ i * ys.getD i 0 := by rw [hs, Nat.mul_add, Nat.mul_add]
    omega
theorem pinv_end {xs ys ds : List Nat} {i c : Nat} (h : PInv xs ys ds i c) (hx : xs.length ≤ i) (hy : ys.length ≤ i) : lval 4294967296 (ds ++ [c]) = lval 4294967296 xs + lval 4294967296 ys ∧ ∀ x ∈ ds ++ [c], x < 4294967296 := by
  obtain ⟨h1, h2, h3, h4⟩ := h
  rw [List.take_of_length_le hx, List.take_of_length_le hy] at h4
  refine ⟨by rw [lval_append, h1]; simp [lval]; omega, ?_⟩
  intro x hxm
  rw [List.mem_append] at hxm
  rcases hxm with hm | hm
  · exact h2 x hm
  · simp at hm; omega

set_option maxRecDepth 100000 in
set_option maxHeartbeats 8000000 in
/-- NPlus -/
theorem nplus_any (va vb : Value) (a b : Nat) (w : World) (ha : IsN w va a) (hb : IsN w vb b) (la : a < BIG) (lb : b < BIG) : Calls Tryd.prog 43 #[va, vb] w (SomeN w (a + b)) := by
  obtain ⟨i0, hi0, hz0, hz1, hz2⟩ := info_parts info32
  have HA := Lib.hid (And.intro ha (And.intro hb (And.intro la lb)))
  clear ha hb la lb
  go_enter Tryd.func43, Tryd.ntmps43
  go_wp2_with (first | (go_at_call 68; (with_reducible refine (halves_num va a _ HA.out.1 HA.out.2.2.1).mono ?_); rintro e w1 ⟨vx, rfl, hvx, hb1⟩) | (go_at_call 68; (with_reducible refine (halves_num vb b _ (HA.out.2.1.below hb1) HA.out.2.2.2).mono ?_); rintro e w2 ⟨vy, rfl, hvy, hb2⟩))
  obtain ⟨xs, rx, x1, x2, x3⟩ := hvx.below hb2
  obtain ⟨ys, ry, y1, y2, y3⟩ := hvy
  have lx := len_d x3 (by rw [x2]; exact HA.out.2.2.1)
  have ly := len_d y3 (by rw [y2]; exact HA.out.2.2.2)
  obtain ⟨ox, cx, rfl, hcx⟩ := rx.form
  obtain ⟨oy, cy, rfl, hcy⟩ := ry.form
  have HX := Lib.hid (And.intro hcx (And.intro hcy (And.intro x1 (And.intro y1 (And.intro x2 y2)))))
  clear rx ry hcx hcy x1 y1 x2 y2 x3 y3 hvx
  have M := Lib.hid (Nat.le_max_left xs.length ys.length)
  have M2 := Lib.hid (Nat.le_max_right xs.length ys.length)
  go_loopw [7, 8, 9] (fun s7 s8 s9 wr => ∃ (i : Nat) (ds : List Nat) (c : Nat), (i ≤ xs.length ∨ i ≤ ys.length) ∧ i ≤ 524289 ∧ s8 = .int .u64 c ∧ s9 = .int .i64 i ∧ Hid (PInv xs ys ds i c) ∧ Hid (wr.ownsRow w2.heap.size 103 1 s7 ds.length (ds.map fun x => Value.int .u32 (x : Nat))) ∧ Below w2.heap.size w2 wr) (fun _ _ s9 _ => xs.length + ys.length - (intOf s9).toNat)
  case atStart => exact ⟨0, [], 0, .inl (Nat.zero_le _), by omega, rfl, rfl, ⟨rfl, by simp, by omega, by simp [lval]⟩, World.ownsRow_nil _ _ _ _, Below.refl _ _⟩
  case round =>
    obtain ⟨i, ds, c, him, hi2, rfl, rfl, HI, hown, hB⟩ := hrel
    have hBs := hB.size
    have cl : c ≤ 1 := HI.out.2.2.1
    by_cases hx : i < xs.length
    · by_cases hy : i < ys.length
      · skip
        obtain ⟨bx, fx, rfl, hbx, hcellx⟩ := HX.out.1 i hx
        have hcx : wr.cell? ⟨bx, fx + i, none⟩ = some (.int .u32 (xs.getD i 0 : Nat)) := (hB.cell (p := ⟨bx, fx + i, none⟩) hbx).trans hcellx
        obtain ⟨xi, exi⟩ : ∃ xi, xi = xs.getD i 0 := ⟨_, rfl⟩
        have xl : xi < 4294967296 := by rw [exi]; exact getD_lt (by decide) HX.out.2.2.1 i
        rw [← exi] at hcx
        clear hcellx
        obtain ⟨by', fy, rfl, hby, hcelly⟩ := HX.out.2.1 i hy
        have hcy : wr.cell? ⟨by', fy + i, none⟩ = some (.int .u32 (ys.getD i 0 : Nat)) := (hB.cell (p := ⟨by', fy + i, none⟩) hby).trans hcelly
        obtain ⟨yi, eyi⟩ : ∃ yi, yi = ys.getD i 0 := ⟨_, rfl⟩
        have yl : yi < 4294967296 := by rw [eyi]; exact getD_lt (by decide) HX.out.2.2.2.1 i
        rw [← eyi] at hcy
        clear hcelly
        obtain ⟨s, hs⟩ : ∃ s : Nat, s = c + xi + yi := ⟨_, rfl⟩
        have st := pinv_step (s := s) HI.out HX.out.2.2.1 HX.out.2.2.2.1 (by rw [← exi, ← eyi, hs])
        obtain ⟨d, hd⟩ : ∃ d, d = s % 4294967296 := ⟨_, rfl⟩
        obtain ⟨c2, hc2⟩ : ∃ c2, c2 = s / 4294967296 := ⟨_, rfl⟩
        rw [← hd, ← hc2] at st
        have e1 : IntKind.u32.wrap ((c : Int) + (xi : Int) + (yi : Int)) = (d : Int) := by rw [IntKind.wrap_u32]; omega
        have e2 : ((c : Int) + (xi : Int) + (yi : Int)) / 4294967296 = (c2 : Int) := by omega
        have ST := Lib.hid st
        have dl : ds.length ≤ 524289 := by have := HI.out.1; omega
        clear st hs hd hc2 exi eyi
        have HO := hown
        clear hown
        go_wp2_with (at_builtin; refine wpList_append_own _ rfl _ _ 101 rfl w2.heap.size 103 i0 (.int .u32 0) 1 4 Tryd.underlying101 hi0 hz0 hz1 hz2 rfl (by decide) _ ds.length (ds.map fun x => Value.int .u32 (x : Nat)) rfl (HO.out.alloc _) ⟨wr.heap.size, 0, none⟩ 1 1 [.int .u32 (d : Nat)] rfl rfl ?c1 ?c2 ?c3 ?c4 ?c5 ?_)
        case c1 => exact (cell_one_new _ _ _)
        case c2 => simp [Value.oneCell']
        case c3 => unfold maxLen; omega
        case c4 => omega
        case c5 => simp; omega
        intro v' w9 hown1 hgrow _
        go_wp2
        refine ⟨⟨i + 1, ds ++ [d], c2, by omega, by omega, rfl, by go_num, ST.out, ?_, ?_⟩, by simp [intOf]; omega⟩
        · have h1 := hown1
          simpa [Hid] using h1
        · exact (hB.alloc hBs _).grown hgrow (by simp; omega) (fun k hk => (HO.out.lt k hk).1)
      · skip
        obtain ⟨bx, fx, rfl, hbx, hcellx⟩ := HX.out.1 i hx
        have hcx : wr.cell? ⟨bx, fx + i, none⟩ = some (.int .u32 (xs.getD i 0 : Nat)) := (hB.cell (p := ⟨bx, fx + i, none⟩) hbx).trans hcellx
        obtain ⟨xi, exi⟩ : ∃ xi, xi = xs.getD i 0 := ⟨_, rfl⟩
        have xl : xi < 4294967296 := by rw [exi]; exact getD_lt (by decide) HX.out.2.2.1 i
        rw [← exi] at hcx
        clear hcellx
        have zy : ys.getD i 0 = 0 := by simp [List.getD, List.getElem?_eq_none (by omega : ys.length ≤ i)]
        obtain ⟨s, hs⟩ : ∃ s : Nat, s = c + xi := ⟨_, rfl⟩
        have st := pinv_step (s := s) HI.out HX.out.2.2.1 HX.out.2.2.2.1 (by rw [← exi, zy, hs]; omega)
        obtain ⟨d, hd⟩ : ∃ d, d = s % 4294967296 := ⟨_, rfl⟩
        obtain ⟨c2, hc2⟩ : ∃ c2, c2 = s / 4294967296 := ⟨_, rfl⟩
        rw [← hd, ← hc2] at st
        have e1 : IntKind.u32.wrap ((c : Int) + (xi : Int)) = (d : Int) := by rw [IntKind.wrap_u32]; omega
        have e2 : ((c : Int) + (xi : Int)) / 4294967296 = (c2 : Int) := by omega
        have ST := Lib.hid st
        have dl : ds.length ≤ 524289 := by have := HI.out.1; omega
        clear st hs hd hc2 exi zy
        have HO := hown
        clear hown
        go_wp2_with (at_builtin; refine wpList_append_own _ rfl _ _ 101 rfl w2.heap.size 103 i0 (.int .u32 0) 1 4 Tryd.underlying101 hi0 hz0 hz1 hz2 rfl (by decide) _ ds.length (ds.map fun x => Value.int .u32 (x : Nat)) rfl (HO.out.alloc _) ⟨wr.heap.size, 0, none⟩ 1 1 [.int .u32 (d : Nat)] rfl rfl ?c1 ?c2 ?c3 ?c4 ?c5 ?_)
        case c1 => exact (cell_one_new _ _ _)
        case c2 => simp [Value.oneCell']
        case c3 => unfold maxLen; omega
        case c4 => omega
        case c5 => simp; omega
        intro v' w9 hown1 hgrow _
        go_wp2
        refine ⟨⟨i + 1, ds ++ [d], c2, by omega, by omega, rfl, by go_num, ST.out, ?_, ?_⟩, by simp [intOf]; omega⟩
        · have h1 := hown1
          simpa [Hid] using h1
        · exact (hB.alloc hBs _).grown hgrow (by simp; omega) (fun k hk => (HO.out.lt k hk).1)
    · by_cases hy : i < ys.length
      · skip
        obtain ⟨by', fy, rfl, hby, hcelly⟩ := HX.out.2.1 i hy
        have hcy : wr.cell? ⟨by', fy + i, none⟩ = some (.int .u32 (ys.getD i 0 : Nat)) := (hB.cell (p := ⟨by', fy + i, none⟩) hby).trans hcelly
        obtain ⟨yi, eyi⟩ : ∃ yi, yi = ys.getD i 0 := ⟨_, rfl⟩
        have yl : yi < 4294967296 := by rw [eyi]; exact getD_lt (by decide) HX.out.2.2.2.1 i
        rw [← eyi] at hcy
        clear hcelly
        have zx : xs.getD i 0 = 0 := by simp [List.getD, List.getElem?_eq_none (by omega : xs.length ≤ i)]
        obtain ⟨s, hs⟩ : ∃ s : Nat, s = c + yi := ⟨_, rfl⟩
        have st := pinv_step (s := s) HI.out HX.out.2.2.1 HX.out.2.2.2.1 (by rw [zx, ← eyi, hs]; omega)
        obtain ⟨d, hd⟩ : ∃ d, d = s % 4294967296 := ⟨_, rfl⟩
        obtain ⟨c2, hc2⟩ : ∃ c2, c2 = s / 4294967296 := ⟨_, rfl⟩
        rw [← hd, ← hc2] at st
        have e1 : IntKind.u32.wrap ((c : Int) + (yi : Int)) = (d : Int) := by rw [IntKind.wrap_u32]; omega
        have e2 : ((c : Int) + (yi : Int)) / 4294967296 = (c2 : Int) := by omega
        have ST := Lib.hid st
        have dl : ds.length ≤ 524289 := by have := HI.out.1; omega
        clear st hs hd hc2 zx eyi
        have HO := hown
        clear hown
        go_wp2_with (at_builtin; refine wpList_append_own _ rfl _ _ 101 rfl w2.heap.size 103 i0 (.int .u32 0) 1 4 Tryd.underlying101 hi0 hz0 hz1 hz2 rfl (by decide) _ ds.length (ds.map fun x => Value.int .u32 (x : Nat)) rfl (HO.out.alloc _) ⟨wr.heap.size, 0, none⟩ 1 1 [.int .u32 (d : Nat)] rfl rfl ?c1 ?c2 ?c3 ?c4 ?c5 ?_)
        case c1 => exact (cell_one_new _ _ _)
        case c2 => simp [Value.oneCell']
        case c3 => unfold maxLen; omega
        case c4 => omega
        case c5 => simp; omega
        intro v' w9 hown1 hgrow _
        go_wp2
        refine ⟨⟨i + 1, ds ++ [d], c2, by omega, by omega, rfl, by go_num, ST.out, ?_, ?_⟩, by simp [intOf]; omega⟩
        · have h1 := hown1
          simpa [Hid] using h1
        · exact (hB.alloc hBs _).grown hgrow (by simp; omega) (fun k hk => (HO.out.lt k hk).1)
      · skip
        obtain ⟨p1, p2⟩ := pinv_end HI.out (by omega) (by omega)
        have P1 := Lib.hid p1
        have P2 := Lib.hid p2
        have dl : ds.length ≤ 524289 := by have := HI.out.1; omega
        have e1 : IntKind.u32.wrap (c : Int) = (c : Int) := by rw [IntKind.wrap_u32]; omega
        have HO := hown
        clear hown p1 p2
        go_wp2_with (at_builtin; refine wpList_append_own _ rfl _ _ 101 rfl w2.heap.size 103 i0 (.int .u32 0) 1 4 Tryd.underlying101 hi0 hz0 hz1 hz2 rfl (by decide) _ ds.length (ds.map fun x => Value.int .u32 (x : Nat)) rfl (HO.out.alloc _) ⟨wr.heap.size, 0, none⟩ 1 1 [.int .u32 (c : Nat)] rfl rfl ?c1 ?c2 ?c3 ?c4 ?c5 ?_)
        case c1 => exact (cell_one_new _ _ _)
        case c2 => simp [Value.oneCell']
        case c3 => unfold maxLen; omega
        case c4 => omega
        case c5 => simp; omega
        intro v' w9 hown1 hgrow _
        obtain ⟨L, hL⟩ : ∃ L, L = ds ++ [c] := ⟨_, rfl⟩
        have RD : Hid (Rd .u32 w9 v' L) := by
          rw [hL]
          refine own_rd (base := w2.heap.size) (e := 103) ?_
          have h1 := hown1
          simpa using h1
        have ll : L.length ≤ 1048578 := by rw [hL]; simp; omega
        rw [← hL] at P1 P2
        have hB9 : Below w2.heap.size w2 w9 := (hB.alloc hBs _).grown hgrow (by simp; omega) (fun k hk => (HO.out.lt k hk).1)
        have TK : Hid (Rd .u32 w9 (cutv v' (trimLen L)) (L.take (trimLen L))) := RD.out.cut _ (trimLen_le _)
        have TL : Hid ((∀ x ∈ L.take (trimLen L), x < 4294967296) ∧ (L.take (trimLen L)).length ≤ 2199023255552) := ⟨fun x hx => P2.out x (List.mem_of_mem_take hx), by simp; omega⟩
        have TV : Hid (lval 4294967296 (L.take (trimLen L)) = a + b) := by unfold Hid; rw [lval_trim, P1.out]; rw [HX.out.2.2.2.2.1, HX.out.2.2.2.2.2]
        clear hL hown1 hgrow
        have CT := Lib.hid (cutd_any v' L w9 (by omega) RD.out)
        generalize L.take (trimLen L) = TT at *
        generalize trimLen L = tn at *
        go_wp2_with (first | (go_at_call 70; (with_reducible refine (CT.out).mono ?_); rintro e w' ⟨rfl, rfl⟩) | (go_at_call 69; (with_reducible refine (whole_num _ TT _ TK.out TL.out.1 TL.out.2).mono ?_); rintro e w10 ⟨u, rfl, hN, hb10⟩))
        go_ret
        refine ⟨_, rfl, by rw [← TV.out]; exact hN, ?_⟩
        exact (hb1.trans (hb2.mono hb1.size)).trans ((hB9.mono (Nat.le_trans hb1.size hb2.size)).trans (hb10.mono (Nat.le_trans (Nat.le_trans hb1.size hb2.size) hB9.size)))
end Go.Proofs.YtmdjpnjpnfkihaaDoor
namespace Go.Proofs.YtmdjpnjpnfkihaaDoor
open Go.RowKit

theorem len_mono {B : Nat} (hB : 0 < B) {xs ys : List Nat} (hx : ∀ x ∈ xs, x < B) (ty : trimLen ys = ys.length) (h : lval B ys ≤ lval B xs) : ys.length ≤ xs.length := by
  rcases Nat.lt_or_ge xs.length ys.length with h1 | h1
  · exfalso
    have h0 : ys ≠ [] := by intro e; rw [e] at h1; simp at h1
    have a1 := lval_lt B hB xs hx
    have a2 := lval_ge B ys ty h0
    have a3 : B ^ xs.length ≤ B ^ (ys.length - 1) := Nat.pow_le_pow_right hB (by omega)
    omega
  · exact h1
/-- What holds at each round of a difference. -/
def LInv (xs ys ds : List Nat) (i : Nat) (c : Int) : Prop := ds.length = i ∧ (∀ x ∈ ds, x < 4294967296) ∧ -1 ≤ c ∧ c ≤ 0 ∧ (lval 4294967296 (xs.take i) : Int) - lval 4294967296 (ys.take i) = lval 4294967296 ds + ((4294967296 ^ i : Nat) : Int) * c
theorem linv_alg {P X Y D x y d : Nat} {c s : Int} (h4 : (X : Int) - Y = D + (P : Int) * c) (hs : s = c + (x : Nat) - (y : Nat)) (hd : (d : Int) = s % 4294967296) :
    ((X + P * x : Nat) : Int) - ((Y + P * y : Nat) : Int) = ((D + P * d : Nat) : Int) + ((P * 4294967296 : Nat) : Int) * (s / 4294967296) := by
  have e : s % 4294967296 + 4294967296 * (s / 4294967296) = s := Int.emod_add_mul_ediv s _
  have e2 : (P : Int) * (d : Int) + (P : Int) * 4294967296 * (s / 4294967296) = (P : Int) * c + (P : Int) * (x : Int) - (P : Int) * (y : Int) := by
    rw [hd, Int.mul_assoc, ← Int.mul_add, e, hs, Int.mul_sub, Int.mul_add]
  simp only [Int.natCast_add, Int.natCast_mul]
  have e3 : ((4294967296 : Nat) : Int) = 4294967296 := rfl
  rw [e3]
  generalize (P : Int) * (d : Int) = a1 at *
  generalize (P : Int) * 4294967296 * (s / 4294967296) = a2 at *
  generalize (P : Int) * c = a3 at *
  generalize (P : Int) * (x : Int) = a4 at *
  generalize (P : Int) * (y : Int) = a5 at *
  omega
theorem linv_step {xs ys ds : List Nat} {i : Nat} {c s : Int} {d : Nat} (h : LInv xs ys ds i c) (hx : ∀ x ∈ xs, x < 4294967296) (hy : ∀ x ∈ ys, x < 4294967296) (hs : s = c + (xs.getD i 0 : Nat) - (ys.getD i 0 : Nat)) (hd : (d : Int) = s % 4294967296) : LInv xs ys (ds ++ [d]) (i + 1) (s / 4294967296) := by
  obtain ⟨h1, h2, h3, h3', h4⟩ := h
  have gx := getD_lt (by decide) hx i
  have gy := getD_lt (by decide) hy i
  refine ⟨by simp [h1], ?_, by omega, by omega, ?_⟩
  · intro x hxm
    rw [List.mem_append] at hxm
    rcases hxm with hm | hm
    · exact h2 x hm
    · simp at hm; omega
  · rw [lval_take_succ, lval_take_succ, lval_append, h1, Nat.pow_succ]
    simp only [lval, Nat.mul_zero, Nat.add_zero]
    exact linv_alg h4 hs hd
theorem linv_end {xs ys ds : List Nat} {c : Int} (h : LInv xs ys ds xs.length c) (hy : ys.length ≤ xs.length) (hle : lval 4294967296 ys ≤ lval 4294967296 xs) : lval 4294967296 ds = lval 4294967296 xs - lval 4294967296 ys ∧ ∀ x ∈ ds, x < 4294967296 := by
  obtain ⟨h1, h2, h3, h3', h4⟩ := h
  rw [List.take_of_length_le (Nat.le_refl _), List.take_of_length_le hy] at h4
  have hl := lval_lt 4294967296 (by decide) ds h2
  rw [h1] at hl
  refine ⟨?_, h2⟩
  generalize 4294967296 ^ xs.length = P at *
  have hc : c = 0 := by
    rcases Int.lt_or_le c 0 with h | h
    · have : c = -1 := by omega
      subst this
      omega
    · omega
  subst hc
  omega

set_option maxRecDepth 100000 in
set_option maxHeartbeats 8000000 in
/-- NLess -/
theorem nless_far (va vb : Value) (a b : Nat) (w : World) (ha : IsN w va a) (hb : IsN w vb b) (la : a < BIG) (hab : b ≤ a) : Calls Tryd.prog 45 #[va, vb] w (SomeNF w (a - b)) := by
  obtain ⟨i0, hi0, hz0, hz1, hz2⟩ := info_parts info32
  have HA := Lib.hid (And.intro ha (And.intro hb (And.intro la (And.intro (show b < BIG by omega) hab))))
  clear ha hb la hab
  go_enter Tryd.func45, Tryd.ntmps45
  go_wp2_with (first | (go_at_call 68; (with_reducible refine (halves_num va a _ HA.out.1 HA.out.2.2.1).mono ?_); rintro e w1 ⟨vx, rfl, hvx, hb1⟩) | (go_at_call 68; (with_reducible refine (halves_num vb b _ (HA.out.2.1.below hb1) HA.out.2.2.2.1).mono ?_); rintro e w2 ⟨vy, rfl, hvy, hb2⟩))
  obtain ⟨xs, rx, x1, x2, x3⟩ := hvx.below hb2
  obtain ⟨ys, ry, y1, y2, y3⟩ := hvy
  have lx := len_d x3 (by rw [x2]; exact HA.out.2.2.1)
  have ly := len_mono (by decide) x1 y3 (by rw [x2, y2]; exact HA.out.2.2.2.2)
  obtain ⟨ox, cx, rfl, hcx⟩ := rx.form
  obtain ⟨oy, cy, rfl, hcy⟩ := ry.form
  have HX := Lib.hid (And.intro hcx (And.intro hcy (And.intro x1 (And.intro y1 (And.intro x2 y2)))))
  clear rx ry hcx hcy x1 y1 x2 y2 x3 y3 hvx
  go_loopw [7, 8, 9] (fun s7 s8 s9 wr => ∃ (i : Nat) (ds : List Nat) (c : Int), i ≤ xs.length ∧ s8 = .int .i64 c ∧ s9 = .int .i64 i ∧ Hid (LInv xs ys ds i c) ∧ Hid (wr.ownsRow w2.heap.size 103 1 s7 ds.length (ds.map fun x => Value.int .u32 (x : Nat))) ∧ Below w2.heap.size w2 wr) (fun _ _ s9 _ => xs.length - (intOf s9).toNat)
  case atStart => exact ⟨0, [], 0, Nat.zero_le _, rfl, rfl, ⟨rfl, by simp, by omega, by omega, by simp only [List.take_zero, lval]; omega⟩, World.ownsRow_nil _ _ _ _, Below.refl _ _⟩
  case round =>
    obtain ⟨i, ds, c, him, rfl, rfl, HI, hown, hB⟩ := hrel
    have hBs := hB.size
    have cl : c ≤ 0 := HI.out.2.2.2.1
    have cl' : -1 ≤ c := HI.out.2.2.1
    by_cases hx : i < xs.length
    · by_cases hy : i < ys.length
      · skip
        obtain ⟨bx, fx, rfl, hbx, hcellx⟩ := HX.out.1 i hx
        have hcx : wr.cell? ⟨bx, fx + i, none⟩ = some (.int .u32 (xs.getD i 0 : Nat)) := (hB.cell (p := ⟨bx, fx + i, none⟩) hbx).trans hcellx
        obtain ⟨xi, exi⟩ : ∃ xi, xi = xs.getD i 0 := ⟨_, rfl⟩
        have xl : xi < 4294967296 := by rw [exi]; exact getD_lt (by decide) HX.out.2.2.1 i
        rw [← exi] at hcx
        clear hcellx
        obtain ⟨by', fy, rfl, hby, hcelly⟩ := HX.out.2.1 i hy
        have hcy : wr.cell? ⟨by', fy + i, none⟩ = some (.int .u32 (ys.getD i 0 : Nat)) := (hB.cell (p := ⟨by', fy + i, none⟩) hby).trans hcelly
        obtain ⟨yi, eyi⟩ : ∃ yi, yi = ys.getD i 0 := ⟨_, rfl⟩
        have yl : yi < 4294967296 := by rw [eyi]; exact getD_lt (by decide) HX.out.2.2.2.1 i
        rw [← eyi] at hcy
        clear hcelly
        obtain ⟨s, hs⟩ : ∃ s : Int, s = c + (xi : Int) - (yi : Int) := ⟨_, rfl⟩
        obtain ⟨d, hd⟩ := Int.eq_ofNat_of_zero_le (show 0 ≤ s % 4294967296 by omega)
        have st := linv_step (s := s) (d := d) HI.out HX.out.2.2.1 HX.out.2.2.2.1 (by rw [← exi, ← eyi, hs]) hd.symm
        obtain ⟨c2, hc2⟩ : ∃ c2, c2 = s / 4294967296 := ⟨_, rfl⟩
        rw [← hc2] at st
        have e1 : IntKind.u32.wrap (IntKind.u64.wrap (c + (xi : Int) - (yi : Int))) = (d : Int) := by rw [IntKind.wrap_u32, IntKind.wrap_u64]; omega
        have e2 : (c + (xi : Int) - (yi : Int)) / 4294967296 = c2 := by omega
        have ST := Lib.hid st
        have dl : ds.length ≤ 524289 := by have := HI.out.1; omega
        clear st hs hd hc2 exi eyi
        have HO := hown
        clear hown
        go_wp2_with (at_builtin; refine wpList_append_own _ rfl _ _ 101 rfl w2.heap.size 103 i0 (.int .u32 0) 1 4 Tryd.underlying101 hi0 hz0 hz1 hz2 rfl (by decide) _ ds.length (ds.map fun x => Value.int .u32 (x : Nat)) rfl (HO.out.alloc _) ⟨wr.heap.size, 0, none⟩ 1 1 [.int .u32 (d : Nat)] rfl rfl ?c1 ?c2 ?c3 ?c4 ?c5 ?_)
        case c1 => exact (cell_one_new _ _ _)
        case c2 => simp [Value.oneCell']
        case c3 => unfold maxLen; omega
        case c4 => omega
        case c5 => simp; omega
        intro v' w9 hown1 hgrow _
        go_wp2
        refine ⟨⟨i + 1, ds ++ [d], c2, by omega, rfl, by go_num, ST.out, ?_, ?_⟩, by simp [intOf]; omega⟩
        · have h1 := hown1
          simpa [Hid] using h1
        · exact (hB.alloc hBs _).grown hgrow (by simp; omega) (fun k hk => (HO.out.lt k hk).1)
      · skip
        obtain ⟨bx, fx, rfl, hbx, hcellx⟩ := HX.out.1 i hx
        have hcx : wr.cell? ⟨bx, fx + i, none⟩ = some (.int .u32 (xs.getD i 0 : Nat)) := (hB.cell (p := ⟨bx, fx + i, none⟩) hbx).trans hcellx
        obtain ⟨xi, exi⟩ : ∃ xi, xi = xs.getD i 0 := ⟨_, rfl⟩
        have xl : xi < 4294967296 := by rw [exi]; exact getD_lt (by decide) HX.out.2.2.1 i
        rw [← exi] at hcx
        clear hcellx
        have zy : ys.getD i 0 = 0 := by simp [List.getD, List.getElem?_eq_none (by omega : ys.length ≤ i)]
        obtain ⟨s, hs⟩ : ∃ s : Int, s = c + (xi : Int) := ⟨_, rfl⟩
        obtain ⟨d, hd⟩ := Int.eq_ofNat_of_zero_le (show 0 ≤ s % 4294967296 by omega)
        have st := linv_step (s := s) (d := d) HI.out HX.out.2.2.1 HX.out.2.2.2.1 (by rw [← exi, zy, hs]; simp) hd.symm
        obtain ⟨c2, hc2⟩ : ∃ c2, c2 = s / 4294967296 := ⟨_, rfl⟩
        rw [← hc2] at st
        have e1 : IntKind.u32.wrap (IntKind.u64.wrap (c + (xi : Int))) = (d : Int) := by rw [IntKind.wrap_u32, IntKind.wrap_u64]; omega
        have e2 : (c + (xi : Int)) / 4294967296 = c2 := by omega
        have ST := Lib.hid st
        have dl : ds.length ≤ 524289 := by have := HI.out.1; omega
        clear st hs hd hc2 exi zy
        have HO := hown
        clear hown
        go_wp2_with (at_builtin; refine wpList_append_own _ rfl _ _ 101 rfl w2.heap.size 103 i0 (.int .u32 0) 1 4 Tryd.underlying101 hi0 hz0 hz1 hz2 rfl (by decide) _ ds.length (ds.map fun x => Value.int .u32 (x : Nat)) rfl (HO.out.alloc _) ⟨wr.heap.size, 0, none⟩ 1 1 [.int .u32 (d : Nat)] rfl rfl ?c1 ?c2 ?c3 ?c4 ?c5 ?_)
        case c1 => exact (cell_one_new _ _ _)
        case c2 => simp [Value.oneCell']
        case c3 => unfold maxLen; omega
        case c4 => omega
        case c5 => simp; omega
        intro v' w9 hown1 hgrow _
        go_wp2
        refine ⟨⟨i + 1, ds ++ [d], c2, by omega, rfl, by go_num, ST.out, ?_, ?_⟩, by simp [intOf]; omega⟩
        · have h1 := hown1
          simpa [Hid] using h1
        · exact (hB.alloc hBs _).grown hgrow (by simp; omega) (fun k hk => (HO.out.lt k hk).1)
    · have he : i = xs.length := by omega
      subst he
      obtain ⟨p1, p2⟩ := linv_end HI.out ly (by rw [HX.out.2.2.2.2.1, HX.out.2.2.2.2.2]; exact HA.out.2.2.2.2)
      have P2 := Lib.hid p2
      have dl : ds.length ≤ 524289 := by have := HI.out.1; omega
      have RD := Lib.hid (own_rd hown.out)
      have TK : Hid (Rd .u32 wr (cutv u7 (trimLen ds)) (ds.take (trimLen ds))) := RD.out.cut _ (trimLen_le _)
      have TL : Hid ((∀ x ∈ ds.take (trimLen ds), x < 4294967296) ∧ (ds.take (trimLen ds)).length ≤ 2199023255552) := ⟨fun x hx => P2.out x (List.mem_of_mem_take hx), by simp; omega⟩
      have TV : Hid (lval 4294967296 (ds.take (trimLen ds)) = a - b) := by unfold Hid; rw [lval_trim, p1, HX.out.2.2.2.2.1, HX.out.2.2.2.2.2]
      have CT := Lib.hid (cutd_any u7 ds wr (by omega) RD.out)
      clear hown p1 p2 hx
      generalize ds.take (trimLen ds) = TT at *
      generalize trimLen ds = tn at *
      go_wp2_with (first | (go_at_call 70; (with_reducible refine (CT.out).mono ?_); rintro e w' ⟨rfl, rfl⟩) | (go_at_call 69; (with_reducible refine (whole_far _ TT _ TK.out TL.out.1 TL.out.2).mono ?_); rintro e w10 ⟨u, rfl, hN, hb10, far⟩))
      go_ret
      refine ⟨_, rfl, by rw [← TV.out]; exact hN, ?_, fun b' hb' => far b' (by have h1 := hb1.size; have h2 := hb2.size; omega)⟩
      exact (hb1.trans (hb2.mono hb1.size)).trans ((hB.mono (Nat.le_trans hb1.size hb2.size)).trans (hb10.mono (Nat.le_trans (Nat.le_trans hb1.size hb2.size) hBs)))
theorem nless_any (va vb : Value) (a b : Nat) (w : World) (ha : IsN w va a) (hb : IsN w vb b) (la : a < BIG) (hab : b ≤ a) : Calls Tryd.prog 45 #[va, vb] w (SomeN w (a - b)) :=
  (nless_far va vb a b w ha hb la hab).mono fun _ _ h => h.some
end Go.Proofs.YtmdjpnjpnfkihaaDoor
namespace Go.Proofs.YtmdjpnjpnfkihaaDoor
open Go.RowKit

theorem len_less {B : Nat} (hB : 0 < B) {xs ys : List Nat} (hx : ∀ x ∈ xs, x < B) (ty : trimLen ys = ys.length) (h : xs.length < ys.length) : lval B xs < lval B ys := by
  rcases Nat.lt_or_ge (lval B xs) (lval B ys) with h1 | h1
  · exact h1
  · have := len_mono hB hx ty h1; omega
theorem top_less {B : Nat} (hB : 0 < B) {xs ys : List Nat} {m : Nat} (hx : ∀ x ∈ xs, x < B) (hl : xs.length = ys.length) (hm : m < xs.length) (hd : xs.drop (m + 1) = ys.drop (m + 1)) (h : xs.getD m 0 < ys.getD m 0) : lval B xs < lval B ys := by
  have e1 := lval_split B xs m (by omega)
  have e2 := lval_split B ys m (by omega)
  have hmy : m < ys.length := by omega
  have d1 : xs.drop m = xs.getD m 0 :: xs.drop (m + 1) := by rw [List.drop_eq_getElem_cons hm]; simp [List.getD, hm]
  have d2 : ys.drop m = ys.getD m 0 :: ys.drop (m + 1) := by rw [List.drop_eq_getElem_cons hmy]; simp [List.getD, hmy]
  rw [d1, hd] at e1
  rw [d2] at e2
  simp only [lval] at e1 e2
  have l1 := lval_lt B hB (xs.take m) (fun x hxm => hx x (List.mem_of_mem_take hxm))
  rw [List.length_take, Nat.min_eq_left (by omega)] at l1
  have m1 := Nat.mul_le_mul_left (B ^ m) (show xs.getD m 0 + B * lval B (ys.drop (m + 1)) + 1 ≤ ys.getD m 0 + B * lval B (ys.drop (m + 1)) by omega)
  rw [Nat.mul_add, Nat.mul_one] at m1
  omega

set_option maxRecDepth 100000 in
set_option maxHeartbeats 8000000 in
/-- NCmp -/
theorem ncmp_any (va vb : Value) (a b : Nat) (w : World) (ha : IsN w va a) (hb : IsN w vb b) (la : a < BIG) (lb : b < BIG) : Calls Tryd.prog 44 #[va, vb] w fun e w' => e = .returned (.int .i64 (sg a b)) ∧ Below w.heap.size w w' := by
  obtain ⟨xs, rx, x1, x2, x3⟩ := ha
  obtain ⟨ys, ry, y1, y2, y3⟩ := hb
  have lx := len_n x3 (by rw [x2]; exact la)
  have ly := len_n y3 (by rw [y2]; exact lb)
  obtain ⟨ox, cx, rfl, hcx⟩ := rx.form
  obtain ⟨oy, cy, rfl, hcy⟩ := ry.form
  have HX := Lib.hid (And.intro hcx (And.intro hcy (And.intro x1 (And.intro y1 (And.intro x2 y2)))))
  clear la lb
  rcases Nat.lt_trichotomy xs.length ys.length with hl | hl | hl
  · have E := Lib.hid (sg_lt (show (a : Int) < b by have := len_less (by decide) x1 y3 hl; omega))
    have hl' : (xs.length : Int) < ys.length := by omega
    have hn : ((xs.length : Int) == ys.length) = false := by simp; omega
    clear rx ry hcx hcy x1 y1 x2 y2 x3 y3 hl
    go_enter Tryd.func44, Tryd.ntmps44
    go_wp2
    go_ret
    exact ⟨by rw [E.out]; rfl, Below.refl _ _⟩
  · obtain ⟨n, hn⟩ : ∃ n, n = ys.length := ⟨_, rfl⟩
    have EQ := Lib.hid hl
    have L : Hid (xs.length = n ∧ ys.length = n) := ⟨by rw [hn]; exact hl, hn.symm⟩
    rw [hl, ← hn] 
    rw [← hn] at ly
    clear rx ry hcx hcy x1 y1 x2 y2 x3 y3 hl lx hn
    go_enter Tryd.func44, Tryd.ntmps44
    go_wp2
    go_loopw [5] (fun s5 wr => ∃ z : Int, s5 = .int .i64 z ∧ -1 ≤ z ∧ z < n ∧ Hid (xs.drop (z + 1).toNat = ys.drop (z + 1).toNat) ∧ Below w.heap.size w wr) (fun s5 _ => (intOf s5 + 1).toNat)
    case atStart => exact ⟨_, rfl, by omega, by omega, by unfold Hid; rw [List.drop_eq_nil_of_le (by have := L.out.1; omega), List.drop_eq_nil_of_le (by have := L.out.2; omega)], Below.refl _ _⟩
    case round =>
      obtain ⟨z, rfl, z0, z1, hd, hB⟩ := hrel
      have hBs := hB.size
      by_cases hz : z < 0
      · have E : Hid (sg (a : Int) b = 0) := by
          have e : xs = ys := by have := hd.out; rw [show (z + 1).toNat = 0 by omega] at this; simpa using this
          have : a = b := by rw [← HX.out.2.2.2.2.1, ← HX.out.2.2.2.2.2, e]
          rw [this]; exact sg_eq _
        go_wp2
        go_ret
        exact ⟨by rw [E.out]; rfl, hB⟩
      · obtain ⟨m, rfl⟩ := Int.eq_ofNat_of_zero_le (show 0 ≤ z by omega)
        have hm : m < n := by omega
        obtain ⟨bx, fx, rfl, hbx, hcellx⟩ := HX.out.1 m (by rw [L.out.1]; exact hm)
        obtain ⟨by', fy, rfl, hby, hcelly⟩ := HX.out.2.1 m (by rw [L.out.2]; exact hm)
        have hcx : wr.cell? ⟨bx, fx + m, none⟩ = some (.int .u64 (xs.getD m 0 : Nat)) := (hB.cell (p := ⟨bx, fx + m, none⟩) hbx).trans hcellx
        have hcy : wr.cell? ⟨by', fy + m, none⟩ = some (.int .u64 (ys.getD m 0 : Nat)) := (hB.cell (p := ⟨by', fy + m, none⟩) hby).trans hcelly
        obtain ⟨x, ex⟩ : ∃ x, x = xs.getD m 0 := ⟨_, rfl⟩
        obtain ⟨y, ey⟩ : ∃ y, y = ys.getD m 0 := ⟨_, rfl⟩
        rw [← ex] at hcx
        rw [← ey] at hcy
        clear hcellx hcelly
        have hdm : Hid (xs.drop (m + 1) = ys.drop (m + 1)) := by have := hd.out; rwa [show ((m : Int) + 1).toNat = m + 1 by omega] at this
        have EX := Lib.hid (And.intro ex ey)
        clear ex ey hd
        have hlen : Hid (xs.length = ys.length ∧ m < xs.length) := ⟨by rw [L.out.1, L.out.2], by rw [L.out.1]; exact hm⟩
        rcases Nat.lt_trichotomy x y with h | h | h
        · have E : Hid (sg (a : Int) b = -1) := sg_lt (by have := top_less (by decide) HX.out.2.2.1 hlen.out.1 hlen.out.2 hdm.out (by rw [← EX.out.1, ← EX.out.2]; exact h); rw [HX.out.2.2.2.2.1, HX.out.2.2.2.2.2] at this; omega)
          have h' : (x : Int) < y := by omega
          go_wp2
          go_region_held3 (fun w' => w'.cell? ⟨bx, fx + m, none⟩ = some (.int .u64 (x : Nat)) ∧ w'.cell? ⟨by', fy + m, none⟩ = some (.int .u64 (y : Nat))) (simp [go_sem, *]) (fail)
          go_wp2
          go_ret
          exact ⟨by rw [E.out]; rfl, by repeat (first | assumption | apply Below.drew)⟩
        · subst h
          have hN : Hid (xs.drop m = ys.drop m) := by
            unfold Hid
            have hmx : m < xs.length := hlen.out.2
            have hmy : m < ys.length := by rw [← hlen.out.1]; exact hmx
            rw [List.drop_eq_getElem_cons hmx, List.drop_eq_getElem_cons hmy, hdm.out]
            congr 1
            have e1 := EX.out.1
            have e2 := EX.out.2
            simp only [List.getD, List.getElem?_eq_getElem hlen.out.2, Option.getD_some] at e1
            simp only [List.getD, List.getElem?_eq_getElem (show m < ys.length by rw [← hlen.out.1]; exact hlen.out.2), Option.getD_some] at e2
            rw [← e1, ← e2]
          go_wp2
          go_region_held3 (fun w' => w'.cell? ⟨bx, fx + m, none⟩ = some (.int .u64 (x : Nat)) ∧ w'.cell? ⟨by', fy + m, none⟩ = some (.int .u64 (x : Nat))) (simp [go_sem, *]) (fail)
          go_wp2
          go_region_held3 (fun w' => w'.cell? ⟨bx, fx + m, none⟩ = some (.int .u64 (x : Nat)) ∧ w'.cell? ⟨by', fy + m, none⟩ = some (.int .u64 (x : Nat))) (simp [go_sem, *]) (fail)
          go_wp2
          refine ⟨⟨(m : Int) - 1, rfl, by omega, by omega, ?_, ?_⟩, by simp [intOf]⟩
          · rw [show ((m : Int) - 1 + 1).toNat = m by omega]; exact hN
          · repeat (first | assumption | apply Below.drew)
        · have E : Hid (sg (a : Int) b = 1) := sg_gt (by have := top_less (by decide) HX.out.2.2.2.1 hlen.out.1.symm (by rw [← hlen.out.1]; exact hlen.out.2) hdm.out.symm (by rw [← EX.out.1, ← EX.out.2]; exact h); rw [HX.out.2.2.2.2.1, HX.out.2.2.2.2.2] at this; omega)
          have h' : (y : Int) < x := by omega
          go_wp2
          go_region_held3 (fun w' => w'.cell? ⟨bx, fx + m, none⟩ = some (.int .u64 (x : Nat)) ∧ w'.cell? ⟨by', fy + m, none⟩ = some (.int .u64 (y : Nat))) (simp [go_sem, *]) (fail)
          go_wp2
          go_region_held3 (fun w' => w'.cell? ⟨bx, fx + m, none⟩ = some (.int .u64 (x : Nat)) ∧ w'.cell? ⟨by', fy + m, none⟩ = some (.int .u64 (y : Nat))) (simp [go_sem, *]) (fail)
          go_wp2
          go_ret
          exact ⟨by rw [E.out]; rfl, by repeat (first | assumption | apply Below.drew)⟩
  · have E := Lib.hid (sg_gt (show (b : Int) < a by have := len_less (by decide) y1 x3 hl; omega))
    have hl' : (ys.length : Int) < xs.length := by omega
    have hn : ((xs.length : Int) == ys.length) = false := by simp; omega
    clear rx ry hcx hcy x1 y1 x2 y2 x3 y3 hl
    go_enter Tryd.func44, Tryd.ntmps44
    go_wp2
    go_ret
    exact ⟨by rw [E.out]; rfl, Below.refl _ _⟩
end Go.Proofs.YtmdjpnjpnfkihaaDoor
namespace Go.Proofs.YtmdjpnjpnfkihaaDoor
open Go.RowKit

theorem lval_set (B : Nat) : ∀ (es : List Nat) (j v : Nat), j < es.length → lval B (es.set j v) + B ^ j * es.getD j 0 = lval B es + B ^ j * v
  | x :: es, 0, v, _ => by simp [lval]; omega
  | x :: es, j + 1, v, h => by
    have ih := lval_set B es j v (by simpa using h)
    simp only [List.set_cons_succ, lval, List.getD_cons_succ, Nat.pow_succ]
    have e : ∀ z : Nat, B ^ j * B * z = B * (B ^ j * z) := fun z => by rw [Nat.mul_comm (B ^ j) B, Nat.mul_assoc]
    rw [e, e]
    have := congrArg (B * ·) ih
    simp only [Nat.mul_add] at this
    omega
theorem getD_set (es : List Nat) (j m v : Nat) (hj : j < es.length) : (es.set j v).getD m 0 = if m = j then v else es.getD m 0 := by
  simp only [List.getD_eq_getElem?_getD, List.getElem?_set]
  by_cases h : j = m
  · subst h; simp [hj]
  · rw [if_neg h, if_neg (fun e => h e.symm)]
/-- What holds at each round of a product. -/
def OInv (xs ys ds : List Nat) (i : Nat) : Prop := ds.length = xs.length + ys.length ∧ (∀ j, ds.getD j 0 < 4294967296) ∧ (∀ j, i + ys.length ≤ j → ds.getD j 0 = 0) ∧ lval 4294967296 ds = lval 4294967296 (xs.take i) * lval 4294967296 ys
def KInv (xs ys ds es : List Nat) (i k c : Nat) : Prop := es.length = xs.length + ys.length ∧ (∀ j, es.getD j 0 < 4294967296) ∧ (∀ j, i + ys.length ≤ j → es.getD j 0 = 0) ∧ c < 4294967296 ∧
  lval 4294967296 es + 4294967296 ^ (i + k) * c = lval 4294967296 ds + 4294967296 ^ i * xs.getD i 0 * lval 4294967296 (ys.take k)
theorem kinv_start {xs ys ds : List Nat} {i : Nat} (h : OInv xs ys ds i) : KInv xs ys ds ds i 0 0 := ⟨h.1, h.2.1, h.2.2.1, by decide, by simp [lval]⟩
theorem kinv_step {xs ys ds es : List Nat} {i k c t : Nat} (h : KInv xs ys ds es i k c) (hi : i < xs.length) (hk : k < ys.length) (hx : xs.getD i 0 < 4294967296) (hy : ys.getD k 0 < 4294967296) (ht : t = c + es.getD (i + k) 0 + xs.getD i 0 * ys.getD k 0) :
    t < 18446744073709551616 ∧ KInv xs ys ds (es.set (i + k) (t % 4294967296)) i (k + 1) (t / 4294967296) := by
  obtain ⟨h1, h2, h3, h4, h5⟩ := h
  have he := h2 (i + k)
  have hm : xs.getD i 0 * ys.getD k 0 ≤ 4294967295 * 4294967295 := Nat.mul_le_mul (by omega) (by omega)
  have hlt : i + k < es.length := by omega
  refine ⟨by omega, by simp [h1], fun j => ?_, fun j hj => ?_, by omega, ?_⟩
  · rw [getD_set _ _ _ _ hlt]; split
    · omega
    · exact h2 j
  · rw [getD_set _ _ _ _ hlt, if_neg (by omega)]; exact h3 j hj
  · have s := lval_set 4294967296 es (i + k) (t % 4294967296) hlt
    rw [lval_take_succ]
    have e : t % 4294967296 + 4294967296 * (t / 4294967296) = t := Nat.mod_add_div _ _
    rw [show i + (k + 1) = (i + k) + 1 by omega, Nat.pow_succ]
    have e1 : 4294967296 ^ (i + k) * (t % 4294967296) + 4294967296 ^ (i + k) * 4294967296 * (t / 4294967296) = 4294967296 ^ (i + k) * t := by rw [Nat.mul_assoc, ← Nat.mul_add, e]
    have e2 : 4294967296 ^ (i + k) * t = 4294967296 ^ (i + k) * c + 4294967296 ^ (i + k) * es.getD (i + k) 0 + 4294967296 ^ (i + k) * (xs.getD i 0 * ys.getD k 0) := by rw [ht, Nat.mul_add, Nat.mul_add]
    have e3 : 4294967296 ^ (i + k) * (xs.getD i 0 * ys.getD k 0) = 4294967296 ^ i * xs.getD i 0 * (4294967296 ^ k * ys.getD k 0) := by
      rw [Nat.pow_add]; simp only [Nat.mul_assoc, Nat.mul_left_comm]
    rw [Nat.mul_add (4294967296 ^ i * xs.getD i 0)]
    omega
theorem oinv_step {xs ys ds es : List Nat} {i c : Nat} (ho : OInv xs ys ds i) (h : KInv xs ys ds es i ys.length c) (hi : i < xs.length) : OInv xs ys (es.set (i + ys.length) c) (i + 1) := by
  obtain ⟨h1, h2, h3, h4, h5⟩ := h
  obtain ⟨o1, o2, o3, o4⟩ := ho
  have hlt : i + ys.length < es.length := by omega
  refine ⟨by simp [h1], fun j => ?_, fun j hj => ?_, ?_⟩
  · rw [getD_set _ _ _ _ hlt]; split
    · exact h4
    · exact h2 j
  · rw [getD_set _ _ _ _ hlt, if_neg (by omega)]; exact h3 j (by omega)
  · have s := lval_set 4294967296 es (i + ys.length) c hlt
    rw [h3 _ (Nat.le_refl _), Nat.mul_zero, Nat.add_zero] at s
    rw [s, h5, List.take_of_length_le (Nat.le_refl _), o4, lval_take_succ, Nat.add_mul]
theorem oinv_start (xs ys : List Nat) : OInv xs ys (List.replicate (xs.length + ys.length) 0) 0 := by
  have g : ∀ n j, (List.replicate n 0).getD j 0 = 0 := fun n j => by simp only [List.getD_eq_getElem?_getD, List.getElem?_replicate]; split <;> rfl
  have l : ∀ n, lval 4294967296 (List.replicate n 0) = 0 := fun n => by
    induction n with
    | zero => rfl
    | succ n ih => simp [List.replicate_succ, lval, ih]
  refine ⟨by simp, fun j => by rw [g]; decide, fun j _ => g _ _, by rw [l]; simp [lval]⟩

/-- The block g holds the digits es. -/
def CellsAt (W : World) (g : Nat) (es : List Nat) : Prop := g < W.heap.size ∧ ∀ j, j < es.length → W.cell? ⟨g, j, none⟩ = some (.int .u32 (es.getD j 0 : Nat)) ∧ W.frozen? ⟨g, j, none⟩ = false
theorem CellsAt.set {W : World} {g : Nat} {es : List Nat} (h : CellsAt W g es) (j v : Nat) (hj : j < es.length) : CellsAt (W.setCell ⟨g, j, none⟩ (.int .u32 (v : Nat))) g (es.set j v) := by
  refine ⟨by simpa [World.setCell] using h.1, fun m hm => ?_⟩
  rw [List.length_set] at hm
  obtain ⟨h1, h2⟩ := h.2 m hm
  refine ⟨?_, by rw [World.frozen?_setCell]; exact h2⟩
  rw [getD_set _ _ _ _ hj]
  by_cases e : m = j
  · subst e; rw [if_pos rfl]; simp [go_sem, h1]
  · rw [if_neg e]
    have : ¬ j = m := fun h => e h.symm
    simp [go_sem, h1]
theorem CellsAt.drew {W : World} {g : Nat} {es : List Nat} (h : CellsAt W g es) : CellsAt W.drew g es := h
theorem CellsAt.rd {W : World} {g cap : Nat} {es : List Nat} (h : CellsAt W g es) (hc : es.length ≤ cap) : Rd .u32 W (.slice (some ⟨g, 0, none⟩) es.length cap) es :=
  .inr ⟨g, 0, cap, rfl, hc, h.1, fun i hi => by rw [Nat.zero_add]; exact (h.2 i hi).1⟩
theorem cells_made (w : World) (n : Nat) : CellsAt (w.alloc (.cells (madeCells #[.int .u32 0] n) 103)) w.heap.size (List.replicate n 0) := by
  refine ⟨by simp, fun j hj => ?_⟩
  simp at hj
  have g : (List.replicate n 0).getD j 0 = 0 := by simp only [List.getD_eq_getElem?_getD, List.getElem?_replicate]; split <;> rfl
  rw [g]
  refine ⟨?_, by simp [go_sem]⟩
  rw [World.cell?_alloc_new]
  simp [madeCells, hj, Nat.mod_one]

set_option maxRecDepth 100000 in
set_option maxHeartbeats 8000000 in
/-- NTimes -/
theorem ntimes_any (va vb : Value) (a b : Nat) (w : World) (ha : IsN w va a) (hb : IsN w vb b) (la : a < BIG) (lb : b < BIG) : Calls Tryd.prog 56 #[va, vb] w (SomeN w (a * b)) := by
  obtain ⟨i0, hi0, hz0, hz1, hz2⟩ := info_parts info32
  have HA := Lib.hid (And.intro ha (And.intro hb (And.intro la lb)))
  clear ha hb la lb
  have hmk : Hid (∀ (n : Nat) (W : World), n ≤ 1048578 → (Instr.makeSlice 101 (.int .i64 (n : Int)) (.int .i64 (n : Int))).run Tryd.prog W = .ok (.slice (some ⟨W.heap.size, 0, none⟩) n n) (W.alloc (.cells (madeCells #[.int .u32 0] n) 103))) := by
    intro n W hn
    have := run_make (w := W) 101 103 i0 (.int .u32 0) Tryd.underlying101 hi0 hz0 .i64 .i64 n n (by omega) (by omega) (by rw [hz2]; omega) (by omega)
    rw [this, hz1]; simp [Value.cells]
  go_enter Tryd.func56, Tryd.ntmps56
  go_upto_region 3 with (first | (go_at_call 68; (with_reducible refine (halves_num va a _ HA.out.1 HA.out.2.2.1).mono ?_); rintro e w1 ⟨vx, rfl, hvx, hb1⟩) | (go_at_call 68; (with_reducible refine (halves_num vb b _ (HA.out.2.1.below hb1) HA.out.2.2.2).mono ?_); rintro e w2 ⟨vy, rfl, hvy, hb2⟩))
  obtain ⟨xs, rx, x1, x2, x3⟩ := hvx.below hb2
  obtain ⟨ys, ry, y1, y2, y3⟩ := hvy
  have lx := len_d x3 (by rw [x2]; exact HA.out.2.2.1)
  have ly := len_d y3 (by rw [y2]; exact HA.out.2.2.2)
  obtain ⟨ox, cx, rfl, hcx⟩ := rx.form
  obtain ⟨oy, cy, rfl, hcy⟩ := ry.form
  have HX := Lib.hid (And.intro hcx (And.intro hcy (And.intro x1 (And.intro y1 (And.intro x2 y2)))))
  clear rx ry hcx hcy x1 y1 x2 y2 x3 y3 hvx
  have mk := hmk.out (xs.length + ys.length) w2 (by omega)
  simp only [Int.natCast_add] at mk
  go_wp2
  obtain ⟨nx, hnx⟩ : ∃ n, n = xs.length := ⟨_, rfl⟩
  obtain ⟨ny, hny⟩ : ∃ n, n = ys.length := ⟨_, rfl⟩
  have NX := Lib.hid (And.intro hnx hny)
  rw [← hnx] at lx
  rw [← hny] at ly
  rw [← hnx, ← hny]
  have hC0 : Hid (CellsAt (w2.alloc (.cells (madeCells #[.int .u32 0] (nx + ny)) 103)) w2.heap.size (List.replicate (nx + ny) 0)) := cells_made _ _
  have hO0 : Hid (OInv xs ys (List.replicate (nx + ny) 0) 0) := by rw [hnx, hny]; exact oinv_start xs ys
  clear hnx hny mk
  go_loopw [8] (fun s8 wr => ∃ (i : Nat) (ds : List Nat), i ≤ nx ∧ s8 = .int .i64 i ∧ Hid (OInv xs ys ds i) ∧ Hid (CellsAt wr w2.heap.size ds) ∧ Below w2.heap.size w2 wr) (fun s8 _ => nx - (intOf s8).toNat)
  case atStart => exact ⟨0, _, Nat.zero_le _, rfl, hO0, hC0, (Below.refl _ _).alloc (Nat.le_refl _) _⟩
  case round =>
    obtain ⟨i, ds, hi, rfl, HO, HC, hB⟩ := hrel
    obtain ⟨wo, hwo⟩ : ∃ wo : World, wo = wr := ⟨_, rfl⟩
    subst hwo
    by_cases hlt : i < nx
    · go_wp2
      go_loopw [9, 10] (fun s9 s10 wi => ∃ (k c : Nat) (es : List Nat), k ≤ ny ∧ s9 = .int .u64 c ∧ s10 = .int .i64 k ∧ Hid (KInv xs ys ds es i k c) ∧ Hid (CellsAt wi w2.heap.size es) ∧ Below w2.heap.size w2 wi) (fun _ s10 _ => ny - (intOf s10).toNat)
      case atStart => exact ⟨0, 0, ds, Nat.zero_le _, rfl, rfl, kinv_start HO.out, HC, hB⟩
      case round =>
        obtain ⟨k, c, es, hk, rfl, rfl, HK, HE, hBi⟩ := hrel
        by_cases hkl : k < ny
        · skip
          have hix : i < xs.length := by rw [← NX.out.1]; exact hlt
          have hky : k < ys.length := by rw [← NX.out.2]; exact hkl
          obtain ⟨bx, fx, rfl, hbx, hcellx⟩ := HX.out.1 i hix
          obtain ⟨by', fy, rfl, hby, hcelly⟩ := HX.out.2.1 k hky
          have hcx : wr.cell? ⟨bx, fx + i, none⟩ = some (.int .u32 (xs.getD i 0 : Nat)) := (hBi.cell (p := ⟨bx, fx + i, none⟩) hbx).trans hcellx
          have hcy : wr.cell? ⟨by', fy + k, none⟩ = some (.int .u32 (ys.getD k 0 : Nat)) := (hBi.cell (p := ⟨by', fy + k, none⟩) hby).trans hcelly
          have hlen : i + k < es.length := by have := HK.out.1; omega
          obtain ⟨hce, hfe⟩ := HE.out.2 (i + k) hlen
          have gx := getD_lt (by decide) HX.out.2.2.1 i
          have gy := getD_lt (by decide) HX.out.2.2.2.1 k
          have ge := HK.out.2.1 (i + k)
          have hc4 := HK.out.2.2.2.1
          obtain ⟨t, ht⟩ : ∃ t, t = c + es.getD (i + k) 0 + xs.getD i 0 * ys.getD k 0 := ⟨_, rfl⟩
          obtain ⟨t1, st⟩ := kinv_step HK.out hix hky gx gy ht
          obtain ⟨d, hd⟩ : ∃ d, d = t % 4294967296 := ⟨_, rfl⟩
          obtain ⟨c2, hc2⟩ : ∃ c2, c2 = t / 4294967296 := ⟨_, rfl⟩
          rw [← hd, ← hc2] at st
          have hm : xs.getD i 0 * ys.getD k 0 ≤ 4294967295 * 4294967295 := Nat.mul_le_mul (by omega) (by omega)
          have hS := HE.out.set (i + k) d hlen
          obtain ⟨x, ex⟩ : ∃ x, x = xs.getD i 0 := ⟨_, rfl⟩
          obtain ⟨y, ey⟩ : ∃ y, y = ys.getD k 0 := ⟨_, rfl⟩
          obtain ⟨z, ez⟩ : ∃ z, z = es.getD (i + k) 0 := ⟨_, rfl⟩
          rw [← ex] at hcx ht gx hm
          rw [← ey] at hcy ht gy hm
          rw [← ez] at hce ht ge
          obtain ⟨m, em⟩ : ∃ m, m = x * y := ⟨_, rfl⟩
          have emI : (x : Int) * (y : Int) = (m : Int) := by rw [em, Int.natCast_mul]
          rw [← em] at ht hm
          have w1 : IntKind.u64.wrap ((c : Int) + (z : Int)) = (c : Int) + (z : Int) := by rw [IntKind.wrap_u64]; omega
          have w2' : IntKind.u64.wrap (m : Int) = (m : Int) := by rw [IntKind.wrap_u64]; omega
          have w3 : IntKind.u64.wrap ((c : Int) + (z : Int) + (m : Int)) = (t : Int) := by rw [IntKind.wrap_u64]; omega
          have w4 : IntKind.i64.wrap ((i : Int) + (k : Int)) = (i : Int) + (k : Int) := IntWalk.i64_in _ ⟨by omega, by omega⟩
          have w5 : ((i : Int) + (k : Int)).toNat = i + k := by omega
          have w6 : (0 : Int) ≤ (i : Int) + (k : Int) := by omega
          have w7 : (i : Int) + (k : Int) < (nx : Int) + (ny : Int) := by omega
          have v1 : IntKind.u32.wrap (t : Int) = (d : Int) := by rw [IntKind.wrap_u32]; omega
          have v2 : (t : Int) / 4294967296 = (c2 : Int) := by omega
          have ST := Lib.hid (And.intro st hS)
          have WW : Hid (IntKind.u64.wrap ((x : Int) * (y : Int)) = (m : Int) ∧ IntKind.u64.wrap (m : Int) = (m : Int) ∧ IntKind.u64.wrap ((c : Int) + (z : Int) + (m : Int)) = (t : Int) ∧ (t : Int) % 4294967296 = (d : Int) ∧ (t : Int) / 4294967296 = (c2 : Int)) := ⟨by rw [emI]; exact w2', w2', w3, by omega, v2⟩
          clear st hS ht hd hc2 ex ey ez em hcellx hcelly hm t1
          go_wp2
          go_region_held3 (fun w' => w'.cell? ⟨bx, fx + i, none⟩ = some (.int .u32 (x : Nat)) ∧ w'.cell? ⟨by', fy + k, none⟩ = some (.int .u32 (y : Nat)) ∧ w'.cell? ⟨w2.heap.size, i + k, none⟩ = some (.int .u32 (z : Nat))) (simp [go_sem, *]) (fail)
          clear w1 w2' w3 w4 w5
          go_wp2
          simp only [WW.out.1, WW.out.2.1, WW.out.2.2.1, WW.out.2.2.2.1, WW.out.2.2.2.2]
          refine ⟨⟨k + 1, c2, es.set (i + k) d, by omega, rfl, by go_num, ST.out.1, ST.out.2.drew, ?_⟩, by simp [intOf]; omega⟩
          repeat (first | assumption | exact hBi | apply Below.drew | refine Below.setCell ?_ (by first | omega | (simp; done) | (simp; omega)) _)
        · have hk2 : k = ny := by omega
          subst hk2
          have hix : i < xs.length := by rw [← NX.out.1]; exact hlt
          have hlen : i + k < es.length := by have := HK.out.1; rw [← NX.out.1, ← NX.out.2] at this; omega
          obtain ⟨hce, hfe⟩ := HE.out.2 (i + k) hlen
          have hc4 := HK.out.2.2.2.1
          have st := oinv_step HO.out (by have := HK.out; rw [NX.out.2] at this; exact this) hix
          rw [← NX.out.2] at st
          have hS := HE.out.set (i + k) c hlen
          have v1 : IntKind.u32.wrap (c : Int) = (c : Int) := by rw [IntKind.wrap_u32]; omega
          have ST := Lib.hid (And.intro st hS)
          have w6 : (0 : Int) ≤ (i : Int) + (k : Int) := by omega
          have w7 : (i : Int) + (k : Int) < (nx : Int) + (k : Int) := by omega
          clear st hS
          go_wp2
          refine ⟨⟨i + 1, es.set (i + k) c, by omega, by go_num, ST.out.1, ST.out.2, ?_⟩, by simp [intOf]; omega⟩
          repeat (first | assumption | exact hBi | apply Below.drew | refine Below.setCell ?_ (by first | omega | (simp; done) | (simp; omega)) _)
    · have he : i = nx := by omega
      subst he
      obtain ⟨o1, o2, o3, o4⟩ := HO.out
      rw [NX.out.1, List.take_of_length_le (Nat.le_refl _)] at o4
      have dl : ds.length = i + ny := by rw [o1, ← NX.out.1, ← NX.out.2]
      have lt2 : ∀ x ∈ ds, x < 4294967296 := fun x hx => by
        obtain ⟨j, hj, rfl⟩ := List.mem_iff_getElem.1 hx
        have := o2 j
        simpa [List.getD, hj] using this
      have RD : Hid (Rd .u32 wo (.slice (some ⟨w2.heap.size, 0, none⟩) (i + ny) (i + ny)) ds) := by rw [← dl]; exact HC.out.rd (Nat.le_refl _)
      have TK : Hid (Rd .u32 wo (cutv (.slice (some ⟨w2.heap.size, 0, none⟩) (i + ny) (i + ny)) (trimLen ds)) (ds.take (trimLen ds))) := RD.out.cut _ (trimLen_le _)
      have TL : Hid ((∀ x ∈ ds.take (trimLen ds), x < 4294967296) ∧ (ds.take (trimLen ds)).length ≤ 2199023255552) := ⟨fun x hx => lt2 x (List.mem_of_mem_take hx), by simp; omega⟩
      have TV : Hid (lval 4294967296 (ds.take (trimLen ds)) = a * b) := by unfold Hid; rw [lval_trim, o4, HX.out.2.2.2.2.1, HX.out.2.2.2.2.2]
      have CT := Lib.hid (cutd_any _ ds wo (by omega) RD.out)
      have hBs := hB.size
      clear o1 o2 o3 o4 dl lt2 hlt
      generalize ds.take (trimLen ds) = TT at *
      generalize trimLen ds = tn at *
      go_wp2_with (first | (go_at_call 70; (with_reducible refine (CT.out).mono ?_); rintro e w' ⟨rfl, rfl⟩) | (go_at_call 69; (with_reducible refine (whole_num _ TT _ TK.out TL.out.1 TL.out.2).mono ?_); rintro e w10 ⟨u, rfl, hN, hb10⟩))
      go_ret
      refine ⟨_, rfl, by rw [← TV.out]; exact hN, ?_⟩
      exact (hb1.trans (hb2.mono hb1.size)).trans ((hB.mono (Nat.le_trans hb1.size hb2.size)).trans (hb10.mono (Nat.le_trans (Nat.le_trans hb1.size hb2.size) hBs)))
end Go.Proofs.YtmdjpnjpnfkihaaDoor
namespace Go.Proofs.YtmdjpnjpnfkihaaDoor
open Go.RowKit

theorem shl_or (x s c : Nat) (hx : x < 18446744073709551616) (hs : s < 64) (hc : c < 2 ^ s) :
    bits BinOp.or IntKind.u64 (IntKind.u64.wrap ((x : Int) * 2 ^ s)) (c : Int) = (((x * 2 ^ s) % 18446744073709551616 + c : Nat) : Int) ∧ (x * 2 ^ s) % 18446744073709551616 + c < 18446744073709551616 ∧
    x * 2 ^ s + c = ((x * 2 ^ s) % 18446744073709551616 + c) + 18446744073709551616 * (x / 2 ^ (64 - s)) ∧ x / 2 ^ (64 - s) < 2 ^ s := by
  have hp : (0 : Nat) < 2 ^ s := Nat.two_pow_pos s
  have hq : (0 : Nat) < 2 ^ (64 - s) := Nat.two_pow_pos _
  have hpq : (2 : Nat) ^ s * 2 ^ (64 - s) = 18446744073709551616 := by rw [← Nat.pow_add, Nat.add_sub_cancel' (by omega)]
  have e1 : x * 2 ^ s % 18446744073709551616 = 2 ^ s * (x % 2 ^ (64 - s)) := by rw [← hpq, Nat.mul_comm x, Nat.mul_mod_mul_left]
  have m := Nat.mod_lt x hq
  have m2 := Nat.mul_le_mul_left (2 ^ s) (show x % 2 ^ (64 - s) + 1 ≤ 2 ^ (64 - s) from m)
  rw [Nat.mul_add, Nat.mul_one, hpq] at m2
  have e2 : x * 2 ^ s / 18446744073709551616 = x / 2 ^ (64 - s) := by rw [← hpq, Nat.mul_comm x, Nat.mul_div_mul_left _ _ hp]
  have e3 := Nat.mod_add_div (x * 2 ^ s) 18446744073709551616
  rw [e2] at e3
  refine ⟨?_, by rw [e1]; omega, by omega, ?_⟩
  · have w : IntKind.u64.wrap ((x : Int) * 2 ^ s) = ((x * 2 ^ s % 18446744073709551616 : Nat) : Int) := by
      rw [IntKind.wrap_u64]; simp
    rw [w, e1, u64_or_nat _ _ (by omega) (by omega)]
    congr 1
    exact (Nat.two_pow_add_eq_or_of_lt hc _).symm
  · rw [Nat.div_lt_iff_lt_mul hq, hpq]; exact hx
def UInv (ls es : List Nat) (q s i c : Nat) : Prop := es.length = q + i ∧ (∀ x ∈ es, x < 18446744073709551616) ∧ c < 2 ^ s ∧ lval 18446744073709551616 es + 18446744073709551616 ^ (q + i) * c = 18446744073709551616 ^ q * (2 ^ s * lval 18446744073709551616 (ls.take i))
theorem uinv_step {ls es : List Nat} {q s i c : Nat} (h : UInv ls es q s i c) (hx : ls.getD i 0 < 18446744073709551616) (hs : s < 64) :
    UInv ls (es ++ [(ls.getD i 0 * 2 ^ s) % 18446744073709551616 + c]) q s (i + 1) (ls.getD i 0 / 2 ^ (64 - s)) := by
  obtain ⟨h1, h2, h3, h4⟩ := h
  obtain ⟨_, b1, b2, b3⟩ := shl_or _ s c hx hs h3
  refine ⟨by simp [h1]; omega, ?_, b3, ?_⟩
  · intro x hxm
    rw [List.mem_append] at hxm
    rcases hxm with hm | hm
    · exact h2 x hm
    · rw [List.mem_singleton] at hm; rw [hm]; exact b1
  · rw [lval_append, h1, lval_take_succ, show q + (i + 1) = (q + i) + 1 by omega, Nat.pow_succ]
    simp only [lval, Nat.mul_zero, Nat.add_zero]
    have e1 : 18446744073709551616 ^ (q + i) * 18446744073709551616 * (ls.getD i 0 / 2 ^ (64 - s)) = 18446744073709551616 ^ (q + i) * (18446744073709551616 * (ls.getD i 0 / 2 ^ (64 - s))) := Nat.mul_assoc _ _ _
    have e2 : 18446744073709551616 ^ (q + i) * ((ls.getD i 0 * 2 ^ s) % 18446744073709551616 + c) + 18446744073709551616 ^ (q + i) * (18446744073709551616 * (ls.getD i 0 / 2 ^ (64 - s))) = 18446744073709551616 ^ (q + i) * (ls.getD i 0 * 2 ^ s) + 18446744073709551616 ^ (q + i) * c := by
      rw [← Nat.mul_add, ← b2, Nat.mul_add]
    have e3 : 18446744073709551616 ^ q * (2 ^ s * (lval 18446744073709551616 (ls.take i) + 18446744073709551616 ^ i * ls.getD i 0)) = 18446744073709551616 ^ q * (2 ^ s * lval 18446744073709551616 (ls.take i)) + 18446744073709551616 ^ (q + i) * (ls.getD i 0 * 2 ^ s) := by
      rw [Nat.mul_add, Nat.mul_add, Nat.pow_add]; simp only [Nat.mul_assoc, Nat.mul_comm, Nat.mul_left_comm]
    rw [e1, e3]
    omega
theorem uinv_end {ls es : List Nat} {q s c : Nat} (h : UInv ls es q s ls.length c) (hs : s < 64) : lval 18446744073709551616 (es ++ [c]) = lval 18446744073709551616 ls * 2 ^ (64 * q + s) ∧ ∀ x ∈ es ++ [c], x < 18446744073709551616 := by
  obtain ⟨h1, h2, h3, h4⟩ := h
  rw [List.take_of_length_le (Nat.le_refl _)] at h4
  have hp : (2 : Nat) ^ s < 18446744073709551616 := by
    have := Nat.pow_lt_pow_right (a := 2) (by decide) hs
    have e : (2 : Nat) ^ 64 = 18446744073709551616 := by decide
    omega
  refine ⟨?_, ?_⟩
  · rw [lval_append, h1]
    simp only [lval, Nat.mul_zero, Nat.add_zero]
    have e : (2 : Nat) ^ 64 = 18446744073709551616 := by decide
    rw [h4, Nat.pow_add, Nat.pow_mul, e]
    simp only [Nat.mul_assoc, Nat.mul_comm, Nat.mul_left_comm]
  · intro x hxm
    rw [List.mem_append] at hxm
    rcases hxm with hm | hm
    · exact h2 x hm
    · simp at hm; omega

theorem isN_trim {w : World} {v : Value} {L : List Nat} (h : Rd .u64 w v L) (hx : ∀ x ∈ L, x < 18446744073709551616) : IsN w (cutv v (trimLen L)) (lval 18446744073709551616 L) :=
  ⟨L.take (trimLen L), h.cut _ (trimLen_le _), fun x hm => hx x (List.mem_of_mem_take hm), lval_trim _ _, trim_take _⟩
theorem owns_zeros (w : World) (q : Nat) (hq : q ≤ maxLen) : (w.alloc (.cells (madeCells #[.int .u64 0] q) 23)).ownsRow w.heap.size 23 1 (.slice (some ⟨w.heap.size, 0, none⟩) q q) q ((List.replicate q 0).map fun x => Value.int .u64 (x : Nat)) := by
  refine ⟨by simp, .inr ⟨w.heap.size, q, madeCells #[.int .u64 0] q, rfl, Nat.le_refl _, heap_alloc_new w _, Nat.le_refl _, hq, by simp [madeCells], ?_⟩⟩
  apply List.ext_getElem
  · simp [madeCells]
  · intro i h1 h2
    simp [madeCells, Nat.mod_one]
theorem uinv_start (ls : List Nat) (q s : Nat) : UInv ls (List.replicate q 0) q s 0 0 := by
  have l : ∀ n, lval 18446744073709551616 (List.replicate n 0) = 0 := fun n => by
    induction n with
    | zero => rfl
    | succ n ih => simp [List.replicate_succ, lval, ih]
  refine ⟨by simp, ?_, Nat.two_pow_pos s, by rw [l]; simp [lval]⟩
  intro x hx
  rw [(List.mem_replicate.1 hx).2]; decide

set_option maxRecDepth 100000 in
set_option maxHeartbeats 8000000 in
/-- Up2 -/
theorem up2_far (va : Value) (a n : Nat) (w : World) (ha : IsN w va a) (la : a < BIG) (hn : n ≤ 1048576) : Calls Tryd.prog 51 #[va, .int .i64 n] w (SomeNF w (a * 2 ^ n)) := by
  obtain ⟨i0, hi0, hz0, hz1, hz2⟩ := info_parts info64
  obtain ⟨xs, rx, x1, x2, x3⟩ := ha
  have lx := len_n x3 (by rw [x2]; exact la)
  obtain ⟨ox, cx, rfl, hcx⟩ := rx.form
  obtain ⟨q, hq⟩ : ∃ q, q = n / 64 := ⟨_, rfl⟩
  obtain ⟨s, hs⟩ : ∃ s, s = n % 64 := ⟨_, rfl⟩
  have eq1 : (n : Int) / 64 = (q : Int) := by omega
  have es1 : (n : Int) % 64 = (s : Int) := by omega
  have en : n = 64 * q + s := by omega
  have hs64 : s < 64 := by omega
  have hq2 : q ≤ 16384 := by omega
  have HX := Lib.hid (And.intro hcx (And.intro x1 (And.intro x2 en)))
  clear rx hcx x1 x2 x3 la hq hs
  by_cases h0 : xs.length = 0
  · have E : Hid (a * 2 ^ n = 0) := by
      have : xs = [] := List.eq_nil_of_length_eq_zero h0
      have h := HX.out.2.2.1
      rw [this] at h
      unfold Hid; rw [← h]; simp [lval]
    rw [h0]
    clear h0 en
    go_enter Tryd.func51, Tryd.ntmps51
    go_wp2
    go_ret
    exact ⟨_, rfl, ⟨[], .inl ⟨rfl, rfl⟩, by simp, by rw [E.out]; rfl, rfl⟩, Below.refl _ _, fun _ _ => by simp [Value.ownBlock]⟩
  · have h0' : ((xs.length : Int) == 0) = false := by rw [beq_eq_false_iff_ne]; omega
    have mk : (Instr.makeSlice 29 (.int .i64 (q : Int)) (.int .i64 (q : Int))).run Tryd.prog w = .ok (.slice (some ⟨w.heap.size, 0, none⟩) q q) (w.alloc (.cells (madeCells #[.int .u64 0] q) 23)) := by
      have := run_make (w := w) 29 23 i0 (.int .u64 0) Tryd.underlying29 hi0 hz0 .i64 .i64 q q (by omega) (by omega) (by rw [hz2]; omega) (by omega)
      rw [this, hz1]; simp [Value.cells]
    clear h0 en
    go_enter Tryd.func51, Tryd.ntmps51
    go_wp2
    clear es1 eq1 mk
    go_loopw [5, 7, 8] (fun s5 s7 s8 wr => ∃ (i : Nat) (es : List Nat) (c : Nat), i ≤ xs.length ∧ s7 = .int .u64 c ∧ s8 = .int .i64 i ∧ Hid (UInv xs es q s i c) ∧ Hid (wr.ownsRow w.heap.size 23 1 s5 es.length (es.map fun x => Value.int .u64 (x : Nat))) ∧ Below w.heap.size w wr) (fun _ _ s8 _ => xs.length - (intOf s8).toNat)
    case atStart => exact ⟨0, List.replicate q 0, 0, Nat.zero_le _, rfl, rfl, uinv_start _ _ _, by simpa [Hid] using owns_zeros w q (by unfold maxLen; omega), (Below.refl _ _).alloc (Nat.le_refl _) _⟩
    case round =>
      obtain ⟨i, es, c, hi, rfl, rfl, HI, hown, hB⟩ := hrel
      have hBs := hB.size
      have esl : es.length ≤ 16384 + xs.length := by have := HI.out.1; omega
      by_cases hlt : i < xs.length
      · skip
        obtain ⟨bx, fx, rfl, hbx, hcellx⟩ := HX.out.1 i hlt
        have hcx : wr.cell? ⟨bx, fx + i, none⟩ = some (.int .u64 (xs.getD i 0 : Nat)) := (hB.cell (p := ⟨bx, fx + i, none⟩) hbx).trans hcellx
        have gx := getD_lt (by decide) HX.out.2.1 i
        have st := uinv_step HI.out gx hs64
        obtain ⟨b0, b1, _, _⟩ := shl_or _ s c gx hs64 HI.out.2.2.1
        obtain ⟨x, ex⟩ : ∃ x, x = xs.getD i 0 := ⟨_, rfl⟩
        rw [← ex] at hcx gx st b0 b1
        obtain ⟨d, hd⟩ : ∃ d, d = x * 2 ^ s % 18446744073709551616 + c := ⟨_, rfl⟩
        rw [← hd] at st b0 b1
        obtain ⟨c2, hc2⟩ : ∃ c2, c2 = x / 2 ^ (64 - s) := ⟨_, rfl⟩
        rw [← hc2] at st
        have ST := Lib.hid st
        clear st hd ex hcellx
        have HO := hown
        clear hown
        go_wp2_with (at_builtin; refine wpList_append_own _ rfl _ _ 29 rfl w.heap.size 23 i0 (.int .u64 0) 1 8 Tryd.underlying29 hi0 hz0 hz1 hz2 rfl (by decide) _ es.length (es.map fun x => Value.int .u64 (x : Nat)) rfl (HO.out.alloc _) ⟨wr.heap.size, 0, none⟩ 1 1 [.int .u64 (d : Nat)] rfl rfl ?c1 ?c2 ?c3 ?c4 ?c5 ?_)
        case c1 => exact (cell_one_new _ _ _)
        case c2 => simp [Value.oneCell']
        case c3 => unfold maxLen; omega
        case c4 => omega
        case c5 => simp; omega
        intro v' w9 hown1 hgrow _
        have hB9 : Below w.heap.size w w9 := (hB.alloc hBs _).grown hgrow (by simp; omega) (fun k hk => (HO.out.lt k hk).1)
        have hc9 : w9.cell? ⟨bx, fx + i, none⟩ = some (.int .u64 (x : Nat)) := (hB9.cell (p := ⟨bx, fx + i, none⟩) hbx).trans ((hB.cell (p := ⟨bx, fx + i, none⟩) hbx).symm.trans hcx)
        have h1 : Hid (w9.ownsRow w.heap.size 23 1 v' (es ++ [d]).length ((es ++ [d]).map fun x => Value.int .u64 (x : Nat))) := by
          have h1 := hown1
          simpa [Hid] using h1
        clear hown1 hgrow
        by_cases hs0 : s = 0
        · skip
          have hc0 : c2 = 0 := by rw [hc2, hs0]; exact Nat.div_eq_of_lt gx
          rw [hc0] at ST
          clear hc2 hc0
          go_wp2
          exact ⟨⟨i + 1, es ++ [d], 0, by omega, rfl, by go_num, ST.out, h1, hB9⟩, by simp [intOf]; omega⟩
        · skip
          have hcI : (x : Int) / 2 ^ (64 - s) = (c2 : Int) := by rw [hc2]; simp
          clear hc2
          go_wp2
          exact ⟨⟨i + 1, es ++ [d], c2, by omega, rfl, by go_num, ST.out, h1, hB9⟩, by simp [intOf]; omega⟩
      · skip
        have hie : i = xs.length := by omega
        subst hie
        obtain ⟨p1, p2⟩ := uinv_end HI.out hs64
        have P1 := Lib.hid p1
        have P2 := Lib.hid p2
        have HO := hown
        clear hown p1 p2
        go_wp2_with (first | (at_builtin; refine wpList_append_own _ rfl _ _ 29 rfl w.heap.size 23 i0 (.int .u64 0) 1 8 Tryd.underlying29 hi0 hz0 hz1 hz2 rfl (by decide) _ es.length (es.map fun x => Value.int .u64 (x : Nat)) rfl (HO.out.alloc _) ⟨wr.heap.size, 0, none⟩ 1 1 [.int .u64 (c : Nat)] rfl rfl ?c1 ?c2 ?c3 ?c4 ?c5 ?_) | fail)
        case c1 => exact (cell_one_new _ _ _)
        case c2 => simp [Value.oneCell']
        case c3 => unfold maxLen; omega
        case c4 => omega
        case c5 => simp; omega
        intro v' w9 hown1 hgrow _
        obtain ⟨L, hL⟩ : ∃ L, L = es ++ [c] := ⟨_, rfl⟩
        have RD : Hid (Rd .u64 w9 v' L) := by
          rw [hL]
          refine own_rd (base := w.heap.size) (e := 23) ?_
          have h1 := hown1
          simpa using h1
        have ll : L.length ≤ 1048578 := by rw [hL]; simp; omega
        rw [← hL] at P1 P2
        have hB9 : Below w.heap.size w w9 := (hB.alloc hBs _).grown hgrow (by simp; omega) (fun k hk => (HO.out.lt k hk).1)
        have HN : Hid (IsN w9 (cutv v' (trimLen L)) (a * 2 ^ n)) := by
          have h := isN_trim RD.out P2.out
          rw [P1.out, HX.out.2.2.1, ← HX.out.2.2.2] at h
          exact h
        have FR := Lib.hid (fun b' (hb' : b' < w.heap.size) => own_far hown1 hb')
        clear hL hown1 hgrow
        go_wp2_with (first | (go_at_call 66; (with_reducible refine (trim_any v' L _ (by omega) RD.out).mono ?_); rintro e w' ⟨rfl, rfl⟩) | fail)
        go_ret
        exact ⟨_, rfl, HN.out, hB9, fun b' hb' => cutv_far (FR.out b' hb')⟩
theorem up2_any (va : Value) (a n : Nat) (w : World) (ha : IsN w va a) (la : a < BIG) (hn : n ≤ 1048576) : Calls Tryd.prog 51 #[va, .int .i64 n] w (SomeN w (a * 2 ^ n)) :=
  (up2_far va a n w ha la hn).mono fun _ _ h => h.some
end Go.Proofs.YtmdjpnjpnfkihaaDoor
namespace Go.Proofs.YtmdjpnjpnfkihaaDoor
open Go.RowKit

/-- How many bits a number has. -/
def bn (n : Nat) : Nat := if n = 0 then 0 else n.log2 + 1
theorem bn_is {n k : Nat} (h : n < 2 ^ k) (h1 : k = 0 ∨ 2 ^ (k - 1) ≤ n) : bn n = k := by
  unfold bn
  by_cases hn : n = 0
  · rw [if_pos hn]
    rcases h1 with h1 | h1
    · exact h1.symm
    · have := Nat.two_pow_pos (k - 1); omega
  · rw [if_neg hn]
    have a := (Nat.log2_lt hn).2 h
    rcases h1 with h1 | h1
    · subst h1; simp at h; omega
    · have b := (Nat.le_log2 hn).2 h1
      omega
theorem bn_lt (n : Nat) : n < 2 ^ bn n := by
  unfold bn
  by_cases hn : n = 0
  · rw [if_pos hn]; omega
  · rw [if_neg hn]; exact Nat.lt_log2_self
theorem bn_ge {n : Nat} (hn : n ≠ 0) : 2 ^ (bn n - 1) ≤ n := by
  unfold bn
  rw [if_neg hn, Nat.add_sub_cancel]
  exact (Nat.le_log2 hn).1 (Nat.le_refl _)
theorem bn_le {n k : Nat} (h : n < 2 ^ k) : bn n ≤ k := by
  unfold bn
  by_cases hn : n = 0
  · rw [if_pos hn]; omega
  · rw [if_neg hn]; exact (Nat.log2_lt hn).2 h
theorem bn_zero : bn 0 = 0 := rfl
theorem b64 : (18446744073709551616 : Nat) = 2 ^ 64 := by decide
/-- The bits of limbs: those of the top one, and 64 for each below. -/
theorem bn_limbs {ls : List Nat} {L j : Nat} (hl : ls.length = L + 1) (hx : ∀ x ∈ ls, x < 18446744073709551616) (h1 : ls.getD L 0 < 2 ^ j) (h2 : j = 0 ∨ 2 ^ (j - 1) ≤ ls.getD L 0) (h3 : ls.getD L 0 ≠ 0) : bn (lval 18446744073709551616 ls) = 64 * L + j := by
  have e := lval_take_succ 18446744073709551616 ls L
  rw [List.take_of_length_le (by omega)] at e
  have lt := lval_lt 18446744073709551616 (by decide) (ls.take L) (fun x h => hx x (List.mem_of_mem_take h))
  rw [List.length_take, Nat.min_eq_left (by omega)] at lt
  have pw : (18446744073709551616 : Nat) ^ L = 2 ^ (64 * L) := by rw [b64, ← Nat.pow_mul]
  rw [e]
  generalize ls.getD L 0 = t at *
  generalize lval 18446744073709551616 (ls.take L) = lw at *
  rw [pw] at lt ⊢
  apply bn_is
  · have := Nat.mul_le_mul_left (2 ^ (64 * L)) (show t + 1 ≤ 2 ^ j from h1)
    rw [← Nat.pow_add, Nat.mul_add, Nat.mul_one] at this
    omega
  · right
    rcases h2 with h2 | h2
    · subst h2; simp at h1; omega
    · have hj : 1 ≤ j := by
        rcases Nat.eq_zero_or_pos j with h | h
        · subst h; simp at h1; omega
        · exact h
      rw [show 64 * L + j - 1 = 64 * L + (j - 1) by omega, Nat.pow_add]
      have := Nat.mul_le_mul_left (2 ^ (64 * L)) h2
      omega

set_option maxRecDepth 100000 in
set_option maxHeartbeats 4000000 in
/-- NLen -/
theorem nlen_any (v : Value) (n : Nat) (w : World) (h : IsN w v n) (hb : n < BIG) : Calls Tryd.prog 105 #[v] w fun e w' => e = .returned (.int .i64 (bn n : Nat)) ∧ w = w' := by
  obtain ⟨xs, rx, x1, x2, x3⟩ := h
  have lx := len_n x3 (by rw [x2]; exact hb)
  obtain ⟨ox, cx, rfl, hcx⟩ := rx.form
  rcases Nat.eq_zero_or_pos xs.length with h0 | h0
  · have E : Hid (n = 0) := by
      have e : xs = [] := List.eq_nil_of_length_eq_zero h0
      unfold Hid; rw [← x2, e]; rfl
    rw [h0]
    clear h0 rx hcx x1 x2 x3 hb lx
    go_enter Tryd.func105, Tryd.ntmps105
    go_wp2
    go_ret
    exact ⟨by rw [E.out]; rfl, rfl⟩
  · obtain ⟨L, hL⟩ : ∃ L, xs.length = L + 1 := ⟨xs.length - 1, by omega⟩
    obtain ⟨bx, fx, rfl, hbx, hcell⟩ := hcx L (by omega)
    have top : xs.getD L 0 ≠ 0 := by
      rcases trim_last xs with h | h
      · omega
      · rw [x3, hL] at h; exact h
    have tl := getD_lt (by decide) x1 L
    have BL : Hid (∀ j, xs.getD L 0 < 2 ^ j → (j = 0 ∨ 2 ^ (j - 1) ≤ xs.getD L 0) → bn n = 64 * L + j) := fun j h1 h2 => by rw [← x2]; exact bn_limbs hL x1 h1 h2 top
    rw [hL] at lx ⊢
    obtain ⟨x, ex⟩ : ∃ x, x = xs.getD L 0 := ⟨_, rfl⟩
    rw [← ex] at BL hcell top tl
    clear h0 rx hcx x1 x2 x3 hb ex hL
    have hne : ¬ (((L : Int) + 1) = 0) := by omega
    go_enter Tryd.func105, Tryd.ntmps105
    go_wp2
    clear hne
    go_loop [3, 4] (fun s3 s4 => ∃ (j y : Nat), j ≤ 64 ∧ s3 = .int .i64 (64 * (L : Int) + j) ∧ s4 = .int .u64 (y : Nat) ∧ Hid (y = x / 2 ^ j) ∧ Hid (j = 0 ∨ 2 ^ (j - 1) ≤ x)) (fun _ s4 => (intOf s4).toNat)
    case atStart => exact ⟨0, x, by omega, by simp, rfl, by simp [Hid], .inl rfl⟩
    case round =>
      obtain ⟨j, y, hj, rfl, rfl, HY, HJ⟩ := hrel
      by_cases hy : y = 0
      · have E : Hid (bn n = 64 * L + j) := BL.out j (by
          have h := HY.out
          rw [hy] at h
          rcases Nat.lt_or_ge x (2 ^ j) with h1 | h1
          · exact h1
          · have := Nat.div_pos h1 (Nat.two_pow_pos j); omega) HJ.out
        subst hy
        simp only [Int.natCast_zero]
        go_wp2
        go_ret
        exact ⟨by rw [E.out]; rfl, rfl⟩
      · have hy' : ((y : Int) == 0) = false := by simpa using hy
        have ge : 2 ^ j ≤ x := by
          rcases Nat.lt_or_ge x (2 ^ j) with h1 | h1
          · have := Nat.div_eq_of_lt h1
            have := HY.out
            omega
          · exact h1
        have j63 : j < 64 := by
          rcases Nat.lt_or_ge j 64 with h | h
          · exact h
          · have := Nat.pow_le_pow_right (show 0 < 2 by decide) h
            rw [← b64] at this
            omega
        have GE := Lib.hid ge
        have YN := Lib.hid (Nat.pos_of_ne_zero hy)
        clear ge hy
        go_wp2
        have e2 : ((y : Int) / 2) = ((y / 2 : Nat) : Int) := by omega
        rw [e2]
        have yp := YN.out
        refine ⟨⟨j + 1, y / 2, by omega, by go_num, rfl, ?_, .inr (by rw [Nat.add_sub_cancel]; exact GE.out)⟩, by simp [intOf]; omega⟩
        unfold Hid
        rw [HY.out, Nat.div_div_eq_div_mul, Nat.pow_succ]
end Go.Proofs.YtmdjpnjpnfkihaaDoor
namespace Go.Proofs.YtmdjpnjpnfkihaaDoor
open Go.RowKit

/-- The limb at a place, of the number itself. -/
theorem limb_at {ls : List Nat} (hx : ∀ x ∈ ls, x < 18446744073709551616) (i : Nat) : lval 18446744073709551616 ls / 18446744073709551616 ^ i % 18446744073709551616 = ls.getD i 0 := by
  by_cases hi : i < ls.length
  · have e := lval_split 18446744073709551616 ls i (by omega)
    have lt := lval_lt 18446744073709551616 (by decide) (ls.take i) (fun x h => hx x (List.mem_of_mem_take h))
    rw [List.length_take, Nat.min_eq_left (by omega)] at lt
    have p : (0 : Nat) < 18446744073709551616 ^ i := Nat.pow_pos (by decide)
    rw [e, Nat.add_mul_div_left _ _ p, Nat.div_eq_of_lt lt, Nat.zero_add]
    have d : ls.drop i = ls[i] :: ls.drop (i + 1) := List.drop_eq_getElem_cons hi
    rw [d]
    simp only [lval, Nat.add_mul_mod_self_left]
    rw [Nat.mod_eq_of_lt (hx _ (List.getElem_mem hi))]
    simp [List.getD, List.getElem?_eq_getElem hi]
  · have lt := lval_lt 18446744073709551616 (by decide) ls hx
    have := Nat.pow_le_pow_right (show 0 < 18446744073709551616 by decide) (show ls.length ≤ i by omega)
    rw [Nat.div_eq_of_lt (by omega)]
    simp [List.getD, List.getElem?_eq_none (by omega : ls.length ≤ i)]
theorem two_part {s : Nat} (hs : s ≤ 64) : (2 : Nat) ^ s * 2 ^ (64 - s) = 18446744073709551616 := by rw [← Nat.pow_add, Nat.add_sub_cancel' hs]
/-- A limb of a number over 2^s, out of two limbs of the number. -/
theorem limb_shift (A s : Nat) (hs : s ≤ 64) : A / 2 ^ s % 18446744073709551616 = A % 18446744073709551616 / 2 ^ s + (A / 18446744073709551616 % 18446744073709551616 * 2 ^ (64 - s)) % 18446744073709551616 ∧ A % 18446744073709551616 / 2 ^ s < 2 ^ (64 - s) := by
  have hpq := two_part hs
  have hp : (0 : Nat) < 2 ^ s := Nat.two_pow_pos s
  have hq : (0 : Nat) < 2 ^ (64 - s) := Nat.two_pow_pos _
  have eA : A = A % 18446744073709551616 + 18446744073709551616 * (A / 18446744073709551616) := (Nat.mod_add_div A 18446744073709551616).symm
  have xl : A % 18446744073709551616 / 2 ^ s < 2 ^ (64 - s) := by rw [Nat.div_lt_iff_lt_mul hp, Nat.mul_comm, hpq]; exact Nat.mod_lt _ (by decide)
  refine ⟨?_, xl⟩
  have e1 : A / 2 ^ s = A % 18446744073709551616 / 2 ^ s + 2 ^ (64 - s) * (A / 18446744073709551616) := by
    have h : A = A % 18446744073709551616 + 2 ^ s * (2 ^ (64 - s) * (A / 18446744073709551616)) := by rw [← Nat.mul_assoc, hpq]; exact eA
    have h2 := Nat.add_mul_div_left (A % 18446744073709551616) (2 ^ (64 - s) * (A / 18446744073709551616)) hp
    rw [← h] at h2
    exact h2
  rw [e1]
  generalize A / 18446744073709551616 = Y
  generalize A % 18446744073709551616 / 2 ^ s = x at *
  have e2 : Y % 18446744073709551616 * 2 ^ (64 - s) % 18446744073709551616 = 2 ^ (64 - s) * (Y % 2 ^ s) := by
    have : Y % 18446744073709551616 * 2 ^ (64 - s) % 18446744073709551616 = 2 ^ (64 - s) * Y % 18446744073709551616 := by rw [Nat.mul_comm (2 ^ (64 - s)) Y, Nat.mod_mul_mod]
    rw [this]
    have h := Nat.mul_mod_mul_left (2 ^ (64 - s)) Y (2 ^ s)
    rw [Nat.mul_comm (2 ^ (64 - s)) (2 ^ s), hpq] at h
    exact h
  have e3 : (x + 2 ^ (64 - s) * Y) % 18446744073709551616 = x + 2 ^ (64 - s) * (Y % 2 ^ s) := by
    have m := Nat.mod_lt Y hp
    have m2 := Nat.mul_le_mul_left (2 ^ (64 - s)) (show Y % 2 ^ s + 1 ≤ 2 ^ s from m)
    rw [Nat.mul_add, Nat.mul_one, Nat.mul_comm (2 ^ (64 - s)) (2 ^ s), hpq] at m2
    have h : x + 2 ^ (64 - s) * Y = (x + 2 ^ (64 - s) * (Y % 2 ^ s)) + 18446744073709551616 * (Y / 2 ^ s) := by
      have := Nat.mod_add_div Y (2 ^ s)
      have e : 2 ^ (64 - s) * Y = 2 ^ (64 - s) * (Y % 2 ^ s) + 2 ^ (64 - s) * (2 ^ s * (Y / 2 ^ s)) := by rw [← Nat.mul_add, this]
      rw [e, ← Nat.mul_assoc (2 ^ (64 - s)) (2 ^ s), Nat.mul_comm (2 ^ (64 - s)) (2 ^ s), hpq, Nat.add_assoc]
    rw [h, Nat.add_mul_mod_self_left, Nat.mod_eq_of_lt (by omega)]
  rw [e2, e3]
theorem or_high (x y s : Nat) (hs : s ≤ 64) (hx : x < 2 ^ (64 - s)) : bits BinOp.or IntKind.u64 (x : Int) (IntKind.u64.wrap ((y : Int) * 2 ^ (64 - s))) = ((x + y * 2 ^ (64 - s) % 18446744073709551616 : Nat) : Int) := by
  have hpq := two_part hs
  have hq : (0 : Nat) < 2 ^ (64 - s) := Nat.two_pow_pos _
  have w : IntKind.u64.wrap ((y : Int) * 2 ^ (64 - s)) = ((y * 2 ^ (64 - s) % 18446744073709551616 : Nat) : Int) := by
    rw [IntKind.wrap_u64]; simp
  have e1 : y * 2 ^ (64 - s) % 18446744073709551616 = 2 ^ (64 - s) * (y % 2 ^ s) := by
    have h := Nat.mul_mod_mul_left (2 ^ (64 - s)) y (2 ^ s)
    rw [Nat.mul_comm (2 ^ (64 - s)) (2 ^ s), hpq, Nat.mul_comm (2 ^ (64 - s)) y] at h
    exact h
  have l1 : 2 ^ (64 - s) ≤ 18446744073709551616 := by
    have := Nat.mul_le_mul_right (2 ^ (64 - s)) (show 1 ≤ 2 ^ s from Nat.two_pow_pos s)
    omega
  rw [w, u64_or_nat _ _ (by omega) (Nat.mod_lt _ (by decide)), e1]
  congr 1
  rw [Nat.add_comm, Nat.two_pow_add_eq_or_of_lt hx, Nat.or_comm]
/-- What holds at each round: the limbs of the number over 2^n told so far. -/
def ShInv (m k : Nat) (es : List Nat) : Prop := es.length = k ∧ (∀ x ∈ es, x < 18446744073709551616) ∧ lval 18446744073709551616 es = m % 18446744073709551616 ^ k
theorem shinv_step {m k : Nat} {es : List Nat} (h : ShInv m k es) : ShInv m (k + 1) (es ++ [m / 18446744073709551616 ^ k % 18446744073709551616]) := by
  obtain ⟨h1, h2, h3⟩ := h
  refine ⟨by simp [h1], ?_, ?_⟩
  · intro x hxm
    rw [List.mem_append] at hxm
    rcases hxm with hm | hm
    · exact h2 x hm
    · simp at hm; rw [hm]; exact Nat.mod_lt _ (by decide)
  · rw [lval_append, h1, h3, Nat.mod_pow_succ]
    simp [lval]

set_option maxRecDepth 100000 in
set_option maxHeartbeats 8000000 in
/-- Down2 -/
theorem down2_far (va : Value) (a n : Nat) (w : World) (ha : IsN w va a) (la : a < BIG) (hn : n ≤ 4611686018427387904) : Calls Tryd.prog 91 #[va, .int .i64 n] w (SomeNF w (a / 2 ^ n)) := by
  obtain ⟨i0, hi0, hz0, hz1, hz2⟩ := info_parts info64
  have NL := Lib.hid (fun W h => nlen_any va a W h la)
  obtain ⟨xs, rx, x1, x2, x3⟩ := id ha
  have HA := Lib.hid ha
  have lx := len_n x3 (by rw [x2]; exact la)
  obtain ⟨ox, cx, rfl, hcx⟩ := rx.form
  by_cases g : bn a ≤ n
  · have E : Hid (a / 2 ^ n = 0) := by
      have h1 := bn_lt a
      have h2 := Nat.pow_le_pow_right (show 0 < 2 by decide) g
      exact Nat.div_eq_of_lt (by omega)
    have g' : (bn a : Int) ≤ n := by omega
    clear g rx hcx x1 x2 x3 la ha
    go_enter Tryd.func91, Tryd.ntmps91
    go_wp2_with (go_at_call 105; (with_reducible refine (NL.out _ HA.out).mono ?_); rintro e w' ⟨rfl, rfl⟩)
    go_ret
    exact ⟨_, rfl, ⟨[], .inl ⟨rfl, rfl⟩, by simp, by rw [E.out]; rfl, rfl⟩, Below.refl _ _, fun _ _ => by simp [Value.ownBlock]⟩
  · have g' : ¬ (bn a : Int) ≤ n := by omega
    have bl : bn a ≤ 64 * xs.length := by
      apply bn_le
      have := lval_lt 18446744073709551616 (by decide) xs x1
      rw [x2, b64, ← Nat.pow_mul] at this
      exact this
    obtain ⟨q, hq⟩ : ∃ q, q = n / 64 := ⟨_, rfl⟩
    obtain ⟨s, hs⟩ : ∃ s, s = n % 64 := ⟨_, rfl⟩
    have eq1 : (n : Int) / 64 = (q : Int) := by omega
    have es1 : (n : Int) % 64 = (s : Int) := by omega
    have en : n = 64 * q + s := by omega
    have hs64 : s < 64 := by omega
    have hq2 : q < xs.length := by omega
    have MK : Hid (∀ k, a / 2 ^ n / 18446744073709551616 ^ k = a / 18446744073709551616 ^ (q + k) / 2 ^ s) := fun k => by
      rw [Nat.div_div_eq_div_mul, Nat.div_div_eq_div_mul, en, b64, ← Nat.pow_mul, ← Nat.pow_mul, ← Nat.pow_add, ← Nat.pow_add]
      congr 2; omega
    have ME : Hid (a / 2 ^ n < 18446744073709551616 ^ (xs.length - q)) := by
      have h := lval_lt 18446744073709551616 (by decide) xs x1
      rw [x2] at h
      have p : (0 : Nat) < 2 ^ n := Nat.two_pow_pos n
      unfold Hid
      rw [Nat.div_lt_iff_lt_mul p]
      refine Nat.lt_of_lt_of_le h ?_
      rw [b64, ← Nat.pow_mul, ← Nat.pow_mul, ← Nat.pow_add]
      exact Nat.pow_le_pow_right (by decide) (by omega)
    have LA : Hid (∀ i, a / 18446744073709551616 ^ i % 18446744073709551616 = xs.getD i 0) := fun i => by rw [← x2]; exact limb_at x1 i
    have HX := Lib.hid (And.intro hcx x1)
    clear g rx hcx x1 x2 x3 la ha hq hs bl en
    go_enter Tryd.func91, Tryd.ntmps91
    go_wp2_with (go_at_call 105; (with_reducible refine (NL.out _ HA.out).mono ?_); rintro e w' ⟨rfl, rfl⟩)
    have gD : decide (bn a ≤ n) = false := by rw [decide_eq_false_iff_not]; omega
    simp only [gD]
    clear g' eq1 es1 gD
    obtain ⟨nx, hnx⟩ : ∃ n, n = xs.length := ⟨_, rfl⟩
    rw [← hnx] at lx hq2 ME
    rw [← hnx]
    have NX := Lib.hid hnx
    clear hnx
    go_loopw [6, 7] (fun s6 s7 wr => ∃ (k : Nat) (es : List Nat), q + k ≤ nx ∧ s7 = .int .i64 ((q + k : Nat) : Int) ∧ Hid (ShInv (a / 2 ^ n) k es) ∧ Hid (wr.ownsRow w.heap.size 23 1 s6 es.length (es.map fun x => Value.int .u64 (x : Nat))) ∧ Below w.heap.size w wr) (fun _ s7 _ => nx - (intOf s7).toNat)
    case atStart => exact ⟨0, [], by omega, rfl, ⟨rfl, by simp, by simp [lval, Nat.mod_one]⟩, World.ownsRow_nil _ _ _ _, Below.refl _ _⟩
    case round =>
      obtain ⟨k, es, hk, rfl, HI, hown, hB⟩ := hrel
      have hBs := hB.size
      obtain ⟨i, hi⟩ : ∃ i, i = q + k := ⟨_, rfl⟩
      have esl : es.length ≤ nx := by have := HI.out.1; omega
      rw [← hi] at hk
      rw [← hi]
      by_cases hlt : i < nx
      · obtain ⟨bx, fx, rfl, hbx, hcellx⟩ := HX.out.1 i (by rw [← NX.out]; exact hlt)
        have hcx : wr.cell? ⟨bx, fx + i, none⟩ = some (.int .u64 (xs.getD i 0 : Nat)) := (hB.cell (p := ⟨bx, fx + i, none⟩) hbx).trans hcellx
        obtain ⟨b1, b2⟩ := limb_shift (a / 18446744073709551616 ^ i) s (by omega)
        have st := shinv_step HI.out
        rw [MK.out k, ← hi, b1, Nat.div_div_eq_div_mul _ (18446744073709551616 ^ i), ← Nat.pow_succ, LA.out, LA.out] at st
        rw [LA.out] at b2
        have gx := getD_lt (by decide) HX.out.2 i
        have gy := getD_lt (by decide) HX.out.2 (i + 1)
        obtain ⟨x, ex⟩ : ∃ x, x = xs.getD i 0 := ⟨_, rfl⟩
        obtain ⟨y, ey⟩ : ∃ y, y = xs.getD (i + 1) 0 := ⟨_, rfl⟩
        rw [← ex] at hcx st b2 gx
        rw [← ey] at st gy
        have OR := or_high (x / 2 ^ s) y s (by omega) b2
        obtain ⟨x1, hx1⟩ : ∃ x1, x1 = x / 2 ^ s := ⟨_, rfl⟩
        rw [← hx1] at st b2 OR
        obtain ⟨d, hd⟩ : ∃ d, d = x1 + y * 2 ^ (64 - s) % 18446744073709551616 := ⟨_, rfl⟩
        rw [← hd] at st OR
        have hxI : (x : Int) / 2 ^ s = (x1 : Int) := by rw [hx1]; simp
        have ST := Lib.hid st
        have HO := hown
        have HIQ := Lib.hid hi
        clear hown st b1 hcellx hi
        by_cases hs0 : s = 0
        · have e0 : d = x := by
            rw [hd, hx1, hs0, show 64 - 0 = 64 by rfl, ← b64, Nat.mul_mod_left]; simp
          rw [e0] at ST
          have ex1 : x1 = x := by rw [hx1, hs0]; simp
          rw [ex1] at hxI
          have hs1 : ¬ (0 : Int) < (s : Int) := by omega
          clear hd hx1 OR b2 e0 ex1 ex ey hs0
          go_wp2_with (at_builtin; refine wpList_append_own _ rfl _ _ 29 rfl w.heap.size 23 i0 (.int .u64 0) 1 8 Tryd.underlying29 hi0 hz0 hz1 hz2 rfl (by decide) _ es.length (es.map fun x => Value.int .u64 (x : Nat)) rfl (HO.out.alloc _) ⟨wr.heap.size, 0, none⟩ 1 1 [.int .u64 (x : Nat)] rfl rfl ?c1 ?c2 ?c3 ?c4 ?c5 ?_)
          any_goals (first | exact cell_one_new _ _ _ | (show _ ≤ _; first | (unfold maxLen; omega) | omega | (simp; omega)) | (show Value.oneCell' _ = true; rfl) | (show ∀ u ∈ _, Value.oneCell' u = true; simp [Value.oneCell']))
          intro v' w9 hown1 hgrow _
          have hB9 : Below w.heap.size w w9 := (hB.alloc hBs _).grown hgrow (by simp; omega) (fun k hk => (HO.out.lt k hk).1)
          have h1 : Hid (w9.ownsRow w.heap.size 23 1 v' (es ++ [x]).length ((es ++ [x]).map fun x => Value.int .u64 (x : Nat))) := by
            have h1 := hown1
            simpa [Hid] using h1
          clear hown1 hgrow
          go_wp2
          exact ⟨⟨k + 1, es ++ [x], by have := HIQ.out; omega, by have := HIQ.out; congr 1; omega, ST.out, h1, hB9⟩, by simp [intOf]; omega⟩
        · by_cases hy : i + 1 < nx
          · obtain ⟨_, _, he, _, hcelly⟩ := HX.out.1 (i + 1) (by rw [← NX.out]; exact hy)
            simp only [Option.some.injEq, Addr.mk.injEq, and_true] at he
            obtain ⟨rfl, rfl⟩ := he
            have hcy : wr.cell? ⟨bx, fx + (i + 1), none⟩ = some (.int .u64 (y : Nat)) := by
              have h := (hB.cell (p := ⟨bx, fx + (i + 1), none⟩) hbx).trans hcelly
              rw [← ey] at h
              exact h
            clear hd hx1 hcelly ex ey
            go_wp2_with (at_builtin; refine wpList_append_own _ rfl _ _ 29 rfl w.heap.size 23 i0 (.int .u64 0) 1 8 Tryd.underlying29 hi0 hz0 hz1 hz2 rfl (by decide) _ es.length (es.map fun x => Value.int .u64 (x : Nat)) rfl (HO.out.alloc _) ⟨wr.heap.size, 0, none⟩ 1 1 [.int .u64 (d : Nat)] rfl rfl ?d1 ?d2 ?d3 ?d4 ?d5 ?_)
            any_goals (first | exact cell_one_new _ _ _ | (show _ ≤ _; first | (unfold maxLen; omega) | omega | (simp; omega)) | (show Value.oneCell' _ = true; rfl) | (show ∀ u ∈ _, Value.oneCell' u = true; simp [Value.oneCell']))
            intro v' w9 hown1 hgrow _
            have hB9 : Below w.heap.size w w9 := (hB.alloc hBs _).grown hgrow (by simp; omega) (fun k hk => (HO.out.lt k hk).1)
            have h1 : Hid (w9.ownsRow w.heap.size 23 1 v' (es ++ [d]).length ((es ++ [d]).map fun x => Value.int .u64 (x : Nat))) := by
              have h1 := hown1
              simpa [Hid] using h1
            clear hown1 hgrow
            go_wp2
            exact ⟨⟨k + 1, es ++ [d], by have := HIQ.out; omega, by have := HIQ.out; congr 1; omega, ST.out, h1, hB9⟩, by simp [intOf]; omega⟩
          · have hy0 : y = 0 := by rw [ey]; simp [List.getD, List.getElem?_eq_none (by rw [← NX.out]; omega : xs.length ≤ i + 1)]
            have e0 : d = x1 := by rw [hd, hy0]; simp
            rw [e0] at ST
            clear hd hx1 OR e0 ex ey hy0
            go_wp2_with (at_builtin; refine wpList_append_own _ rfl _ _ 29 rfl w.heap.size 23 i0 (.int .u64 0) 1 8 Tryd.underlying29 hi0 hz0 hz1 hz2 rfl (by decide) _ es.length (es.map fun x => Value.int .u64 (x : Nat)) rfl (HO.out.alloc _) ⟨wr.heap.size, 0, none⟩ 1 1 [.int .u64 (x1 : Nat)] rfl rfl ?e1 ?e2 ?e3 ?e4 ?e5 ?_)
            any_goals (first | exact cell_one_new _ _ _ | (show _ ≤ _; first | (unfold maxLen; omega) | omega | (simp; omega)) | (show Value.oneCell' _ = true; rfl) | (show ∀ u ∈ _, Value.oneCell' u = true; simp [Value.oneCell']))
            intro v' w9 hown1 hgrow _
            have hB9 : Below w.heap.size w w9 := (hB.alloc hBs _).grown hgrow (by simp; omega) (fun k hk => (HO.out.lt k hk).1)
            have h1 : Hid (w9.ownsRow w.heap.size 23 1 v' (es ++ [x1]).length ((es ++ [x1]).map fun x => Value.int .u64 (x : Nat))) := by
              have h1 := hown1
              simpa [Hid] using h1
            clear hown1 hgrow
            go_wp2
            exact ⟨⟨k + 1, es ++ [x1], by have := HIQ.out; omega, by have := HIQ.out; congr 1; omega, ST.out, h1, hB9⟩, by simp [intOf]; omega⟩
      · have hie : i = nx := by omega
        have hkk : Hid (lval 18446744073709551616 es = a / 2 ^ n ∧ ∀ x ∈ es, x < 18446744073709551616) := by
          obtain ⟨h1, h2, h3⟩ := HI.out
          refine ⟨?_, h2⟩
          rw [h3, Nat.mod_eq_of_lt]
          have := ME.out
          rwa [show nx - q = k by omega] at this
        have RD : Hid (Rd .u64 wr u6 es) := own_rd (base := w.heap.size) (e := 23) hown.out
        have HN : Hid (IsN wr (cutv u6 (trimLen es)) (a / 2 ^ n)) := by
          have h := isN_trim RD.out hkk.out.2
          rw [hkk.out.1] at h
          exact h
        have TR := Lib.hid (fun h => trim_any u6 es wr h RD.out)
        have FR := Lib.hid (fun b' (hb' : b' < w.heap.size) => own_far hown.out hb')
        clear hi hie hown HI
        go_wp2_with (first | (go_at_call 66; (with_reducible refine (TR.out (by omega)).mono ?_); rintro e w' ⟨rfl, rfl⟩) | fail)
        go_ret
        exact ⟨_, rfl, HN.out, hB, fun b' hb' => cutv_far (FR.out b' hb')⟩
theorem down2_any (va : Value) (a n : Nat) (w : World) (ha : IsN w va a) (la : a < BIG) (hn : n ≤ 4611686018427387904) : Calls Tryd.prog 91 #[va, .int .i64 n] w (SomeN w (a / 2 ^ n)) :=
  (down2_far va a n w ha la hn).mono fun _ _ h => h.some
end Go.Proofs.YtmdjpnjpnfkihaaDoor
namespace Go.Proofs.YtmdjpnjpnfkihaaDoor
open Go.RowKit

theorem drop_cons {ls : List Nat} {m : Nat} (h : m < ls.length) : ls.drop m = ls.getD m 0 :: ls.drop (m + 1) := by
  rw [List.drop_eq_getElem_cons h]
  simp [List.getD, List.getElem?_eq_getElem h]
/-- What holds at each round of a division by a digit: from the j-th digit on, and the rest. -/
def SInv (xs es : List Nat) (d j r : Nat) : Prop := es.length = xs.length ∧ (∀ m, es.getD m 0 < 4294967296) ∧ r < d ∧ lval 4294967296 (xs.drop j) = d * lval 4294967296 (es.drop j) + r
theorem sinv_start (xs : List Nat) {d : Nat} (hd : 0 < d) : SInv xs (List.replicate xs.length 0) d xs.length 0 := by
  refine ⟨by simp, fun m => ?_, hd, ?_⟩
  · simp only [List.getD_eq_getElem?_getD, List.getElem?_replicate]; split <;> simp
  · rw [List.drop_of_length_le (Nat.le_refl _), List.drop_of_length_le (by simp)]; simp [lval]
theorem sinv_step {xs es : List Nat} {d m r t : Nat} (h : SInv xs es d (m + 1) r) (hm : m < xs.length) (hd : d < 4294967296) (hx : xs.getD m 0 < 4294967296) (ht : t = r * 4294967296 + xs.getD m 0) :
    t / d < 4294967296 ∧ t < 18446744073709551616 ∧ SInv xs (es.set m (t / d)) d m (t % d) := by
  obtain ⟨h1, h2, h3, h4⟩ := h
  have hd0 : 0 < d := by omega
  have q : t / d < 4294967296 := by
    rw [Nat.div_lt_iff_lt_mul hd0]
    have := Nat.mul_le_mul_left 4294967296 (show r + 1 ≤ d from h3)
    omega
  refine ⟨q, by omega, by simp [h1], fun j => ?_, Nat.mod_lt _ hd0, ?_⟩
  · rw [getD_set _ _ _ _ (by omega)]
    split
    · exact q
    · exact h2 j
  · rw [drop_cons hm, drop_cons (show m < (es.set m (t / d)).length by simp; omega), List.drop_set_of_lt (by omega), getD_set _ _ _ _ (by omega), if_pos rfl]
    simp only [lval]
    rw [h4, Nat.mul_add 4294967296, Nat.mul_add d]
    have e := Nat.mod_add_div t d
    have e2 : 4294967296 * (d * lval 4294967296 (es.drop (m + 1))) = d * (4294967296 * lval 4294967296 (es.drop (m + 1))) := by rw [← Nat.mul_assoc, Nat.mul_comm 4294967296 d, Nat.mul_assoc]
    rw [e2]
    generalize d * (4294967296 * lval 4294967296 (es.drop (m + 1))) = A at *
    generalize d * (t / d) = C at *
    omega
theorem sinv_end {xs es : List Nat} {d r : Nat} (h : SInv xs es d 0 r) : lval 4294967296 es = lval 4294967296 xs / d ∧ r = lval 4294967296 xs % d ∧ ∀ x ∈ es, x < 4294967296 := by
  obtain ⟨h1, h2, h3, h4⟩ := h
  rw [List.drop_zero, List.drop_zero] at h4
  refine ⟨?_, ?_, ?_⟩
  · rw [h4, Nat.mul_add_div (by omega), Nat.div_eq_of_lt h3, Nat.add_zero]
  · rw [h4, Nat.mul_add_mod, Nat.mod_eq_of_lt h3]
  · intro x hx
    obtain ⟨j, hj, rfl⟩ := List.mem_iff_getElem.1 hx
    have := h2 j
    simpa [List.getD, hj] using this
theorem or_low (x r : Nat) (hx : x < 4294967296) (hr : r < 4294967296) : bits BinOp.or IntKind.u64 ((r : Int) * 4294967296) (x : Int) = ((r * 4294967296 + x : Nat) : Int) := by
  have w : (r : Int) * 4294967296 = ((r * 4294967296 : Nat) : Int) := by omega
  rw [w, u64_or_nat _ _ (by omega) (by omega)]
  congr 1
  have := Nat.two_pow_add_eq_or_of_lt (i := 32) (b := x) (by simpa using hx) r
  rw [show (2 : Nat) ^ 32 = 4294967296 by decide] at this
  rw [Nat.mul_comm r, ← this]

set_option maxRecDepth 100000 in
set_option maxHeartbeats 8000000 in
/-- short -/
theorem short_far (v : Value) (n d : Nat) (w : World) (h : IsD w v n) (hb : n < BIG) (d0 : 0 < d) (d1 : d < 4294967296) : Calls Tryd.prog 80 #[v, .int .u32 d] w fun e w' => ∃ q, e = .returned (.tuple #[q, .int .u32 (n % d : Nat)]) ∧ IsD w' q (n / d) ∧ Below w.heap.size w w' ∧ (q = .slice none 0 0 ∨ ∃ l c, q = .slice (some ⟨w.heap.size, 0, none⟩) l c) := by
  obtain ⟨i0, hi0, hz0, hz1, hz2⟩ := info_parts info32
  obtain ⟨xs, rx, x1, x2, x3⟩ := h
  have lx := len_d x3 (by rw [x2]; exact hb)
  obtain ⟨ox, cx, rfl, hcx⟩ := rx.form
  have hmk : (Instr.makeSlice 101 (.int .i64 (xs.length : Int)) (.int .i64 (xs.length : Int))).run Tryd.prog w = .ok (.slice (some ⟨w.heap.size, 0, none⟩) xs.length xs.length) (w.alloc (.cells (madeCells #[.int .u32 0] xs.length) 103)) := by
    have := run_make (w := w) 101 103 i0 (.int .u32 0) Tryd.underlying101 hi0 hz0 .i64 .i64 xs.length xs.length (by omega) (by omega) (by rw [hz2]; omega) (by omega)
    rw [this, hz1]; simp [Value.cells]
  obtain ⟨nx, hnx⟩ : ∃ n, n = xs.length := ⟨_, rfl⟩
  have hC0 : Hid (CellsAt (w.alloc (.cells (madeCells #[.int .u32 0] nx) 103)) w.heap.size (List.replicate nx 0)) := cells_made _ _
  have hO0 : Hid (SInv xs (List.replicate nx 0) d nx 0) := by rw [hnx]; exact sinv_start xs d0
  rw [← hnx] at hmk lx
  rw [← hnx]
  have HX := Lib.hid (And.intro hcx (And.intro x1 (And.intro x2 hnx)))
  clear rx hcx x1 x2 x3 hb hnx
  go_enter Tryd.func80, Tryd.ntmps80
  go_wp2
  clear hmk
  go_loopw [7, 8] (fun s7 s8 wr => ∃ (j r : Nat) (es : List Nat), j ≤ nx ∧ s7 = .int .u64 r ∧ s8 = .int .i64 ((j : Int) - 1) ∧ Hid (SInv xs es d j r) ∧ Hid (CellsAt wr w.heap.size es) ∧ Below w.heap.size w wr) (fun _ s8 _ => (intOf s8 + 1).toNat)
  case atStart => exact ⟨nx, 0, _, Nat.le_refl _, rfl, rfl, hO0, hC0, (Below.refl _ _).alloc (Nat.le_refl _) _⟩
  case round =>
    obtain ⟨j, r, es, hj, rfl, rfl, HS, HC, hB⟩ := hrel
    have hBs := hB.size
    by_cases h0 : j = 0
    · subst h0
      obtain ⟨p1, p2, p3⟩ := sinv_end HS.out
      rw [HX.out.2.2.1] at p1 p2
      have dl : es.length = nx := by rw [HS.out.1, ← HX.out.2.2.2]
      have RD : Hid (Rd .u32 wr (.slice (some ⟨w.heap.size, 0, none⟩) nx nx) es) := by rw [← dl]; exact HC.out.rd (Nat.le_refl _)
      have CT := Lib.hid (fun h => cutd_any _ es wr h RD.out)
      have ID : Hid (IsD wr (cutv (.slice (some ⟨w.heap.size, 0, none⟩) nx nx) (trimLen es)) (n / d)) :=
        ⟨es.take (trimLen es), RD.out.cut _ (trimLen_le _), fun x hx => p3 x (List.mem_of_mem_take hx), by rw [lval_trim, p1], trim_take _⟩
      have FM : Hid (cutv (.slice (some ⟨w.heap.size, 0, none⟩) nx nx) (trimLen es) = .slice none 0 0 ∨ ∃ l c, cutv (.slice (some ⟨w.heap.size, 0, none⟩) nx nx) (trimLen es) = .slice (some ⟨w.heap.size, 0, none⟩) l c) := .inr ⟨_, _, rfl⟩
      have rl : r < d := HS.out.2.2.1
      have er : IntKind.u32.wrap (r : Int) = (r : Int) := by rw [IntKind.wrap_u32]; omega
      have P2 := Lib.hid p2
      have lt2 : es.length ≤ 4611686018427387904 := by omega
      clear p1 p2 p3 dl
      simp only [Int.natCast_zero]
      go_wp2_with (first | (go_at_call 70; (with_reducible refine (CT.out lt2).mono ?_); rintro e w' ⟨rfl, rfl⟩) | fail)
      go_ret2
      exact ⟨_, by rw [← P2.out]; rfl, ID.out, hB, FM.out⟩
    · obtain ⟨m, rfl⟩ : ∃ m, j = m + 1 := ⟨j - 1, by omega⟩
      have em : ((m + 1 : Nat) : Int) - 1 = (m : Int) := by omega
      rw [em]
      have hmx : m < xs.length := by rw [← HX.out.2.2.2]; omega
      obtain ⟨bx, fx, rfl, hbx, hcellx⟩ := HX.out.1 m hmx
      have hcx : wr.cell? ⟨bx, fx + m, none⟩ = some (.int .u32 (xs.getD m 0 : Nat)) := (hB.cell (p := ⟨bx, fx + m, none⟩) hbx).trans hcellx
      have hlen : m < es.length := by have := HS.out.1; omega
      obtain ⟨hce, hfe⟩ := HC.out.2 m hlen
      have gx := getD_lt (by decide) HX.out.2.1 m
      have rl : r < 4294967296 := by have := HS.out.2.2.1; omega
      obtain ⟨t, ht⟩ : ∃ t, t = r * 4294967296 + xs.getD m 0 := ⟨_, rfl⟩
      obtain ⟨q1, q2, st⟩ := sinv_step HS.out hmx d1 gx ht
      have hS := HC.out.set m (t / d) hlen
      obtain ⟨x, ex⟩ : ∃ x, x = xs.getD m 0 := ⟨_, rfl⟩
      rw [← ex] at hcx ht gx
      have OR := or_low x r gx rl
      rw [← ht] at OR
      obtain ⟨qd, hqd⟩ : ∃ qd, qd = t / d := ⟨_, rfl⟩
      obtain ⟨r2, hr2⟩ : ∃ r2, r2 = t % d := ⟨_, rfl⟩
      rw [← hqd] at q1 st hS
      rw [← hr2] at st
      have dI : ¬ (d : Int) = 0 := by omega
      have eq2 : (t : Int).tdiv (d : Int) = (qd : Int) := by rw [Int.tdiv_eq_ediv_of_nonneg (by omega), hqd]; simp
      have er2 : (t : Int).tmod (d : Int) = (r2 : Int) := by rw [Int.tmod_eq_emod_of_nonneg (by omega), hr2]; simp
      have v1 : IntKind.u32.wrap (qd : Int) = (qd : Int) := by rw [IntKind.wrap_u32]; omega
      have ST := Lib.hid (And.intro st hS)
      have r2l : r2 < d := st.2.2.1
      clear st hS hqd hr2 ht ex hcellx em
      go_wp2
      have w1 : IntKind.u64.wrap (qd : Int) = (qd : Int) := by rw [IntKind.wrap_u64]; omega
      have w2 : (qd : Int) % 4294967296 = (qd : Int) := by omega
      (try simp only [OR, eq2, er2, w1, w2])
      refine ⟨⟨m, r2, es.set m qd, by omega, rfl, rfl, ST.out.1, ST.out.2, ?_⟩, by simp [intOf]⟩
      repeat (first | assumption | exact hB | apply Below.drew | refine Below.setCell ?_ (by first | omega | (simp; done) | (simp; omega)) _)
theorem short_any (v : Value) (n d : Nat) (w : World) (h : IsD w v n) (hb : n < BIG) (d0 : 0 < d) (d1 : d < 4294967296) : Calls Tryd.prog 80 #[v, .int .u32 d] w fun e w' => ∃ q, e = .returned (.tuple #[q, .int .u32 (n % d : Nat)]) ∧ IsD w' q (n / d) ∧ Below w.heap.size w w' := (short_far v n d w h hb d0 d1).mono fun _ _ ⟨q, a, b, c, _⟩ => ⟨q, a, b, c⟩
end Go.Proofs.YtmdjpnjpnfkihaaDoor
namespace Go.Proofs.YtmdjpnjpnfkihaaDoor
open Go.Lib

/-- A digit's byte. -/
def dg8 (d : Nat) : UInt8 := UInt8.ofNat (48 + d)
/-- The last k digits, the highest first. -/
def padD : Nat → Nat → List UInt8
  | 0, _ => []
  | k + 1, l => padD k (l / 10) ++ [dg8 (l % 10)]
/-- The last k digits, the lowest first. -/
def digs : Nat → Nat → List UInt8
  | 0, _ => []
  | k + 1, l => dg8 (l % 10) :: digs k (l / 10)
theorem dec_small {u : Nat} (h : u < 10) : decDigits u = [dg8 u] := by rw [decDigits, dif_pos h]; rfl
theorem dec_big {u : Nat} (h : ¬ u < 10) : decDigits u = decDigits (u / 10) ++ [dg8 (u % 10)] := by rw [decDigits, dif_neg h]; rfl
theorem dec_split : ∀ (k h l : Nat), 0 < h → l < 10 ^ k → decDigits (h * 10 ^ k + l) = decDigits h ++ padD k l
  | 0, h, l, _, hl => by
    have : l = 0 := by simpa using hl
    subst this
    simp [padD]
  | k + 1, h, l, h0, hl => by
    have e : h * 10 ^ (k + 1) + l = 10 * (h * 10 ^ k) + l := by rw [Nat.pow_succ, ← Nat.mul_assoc]; omega
    have p := Nat.mul_le_mul h0 (Nat.one_le_pow k 10 (by decide))
    rw [Nat.pow_succ] at hl
    rw [e, dec_big (by omega), show (10 * (h * 10 ^ k) + l) / 10 = h * 10 ^ k + l / 10 by omega, show (10 * (h * 10 ^ k) + l) % 10 = l % 10 by omega, dec_split k h (l / 10) h0 (by omega), padD, List.append_assoc]
theorem pad_zero : ∀ k, padD k 0 = List.replicate k 48
  | 0 => rfl
  | k + 1 => by rw [padD, show 0 / 10 = 0 from rfl, pad_zero k, List.replicate_succ']; rfl
theorem dec_len (u : Nat) : (decDigits u).length = nDigits u := decDigits_length u
theorem dec_pos (u : Nat) : 0 < (decDigits u).length := by
  by_cases h : u < 10
  · rw [dec_small h]; exact Nat.zero_lt_one
  · rw [dec_big h]; simp
theorem pad_dec : ∀ (k l : Nat), 0 < k → l < 10 ^ k → (decDigits l).length ≤ k ∧ padD k l = List.replicate (k - (decDigits l).length) 48 ++ decDigits l
  | 0, _, h, _ => absurd h (by decide)
  | k + 1, l, _, hl => by
    by_cases h : l < 10
    · rw [dec_small h, padD, show l / 10 = 0 by omega, pad_zero, show l % 10 = l by omega]
      simp
    · have hk : 0 < k := by
        rcases Nat.eq_zero_or_pos k with g | g
        · subst g; simp at hl; omega
        · exact g
      rw [Nat.pow_succ] at hl
      obtain ⟨a, b⟩ := pad_dec k (l / 10) hk (by omega)
      rw [dec_big h, padD, b]
      simp only [List.length_append, List.length_singleton]
      exact ⟨by omega, by rw [show k + 1 - ((decDigits (l / 10)).length + 1) = k - (decDigits (l / 10)).length by omega, List.append_assoc]⟩
theorem digs_len : ∀ k l, (digs k l).length = k
  | 0, _ => rfl
  | k + 1, l => by rw [digs, List.length_cons, digs_len k]
theorem digs_add : ∀ (k m l : Nat), digs (k + m) l = digs k l ++ digs m (l / 10 ^ k)
  | 0, m, l => by simp [digs]
  | k + 1, m, l => by rw [show k + 1 + m = (k + m) + 1 by omega, digs, digs_add k m, digs, Nat.pow_succ, Nat.div_div_eq_div_mul, Nat.mul_comm 10]; rfl
theorem digs_pad : ∀ k l, (digs k l).reverse = padD k l
  | 0, _ => rfl
  | k + 1, l => by rw [digs, List.reverse_cons, digs_pad k, padD]
theorem dg8_ne {d : Nat} (h0 : 0 < d) (h : d < 10) : dg8 d ≠ 48 := by
  unfold dg8
  intro e
  have := congrArg UInt8.toNat e
  simp at this
  omega
theorem dg8_nat {d : Nat} (h : d < 10) : (dg8 d).toNat = 48 + d := by
  unfold dg8
  simp
  omega
/-- No number above 0 begins with a nought. -/
theorem dec_head : ∀ (n : Nat), 0 < n → (decDigits n).head? ≠ some 48 := by
  intro n
  induction n using Nat.strongRecOn with
  | _ n ih =>
    intro h0
    by_cases h : n < 10
    · rw [dec_small h]
      simp only [List.head?_cons, ne_eq, Option.some.injEq]
      exact dg8_ne h0 h
    · rw [dec_big h]
      have := ih (n / 10) (by omega) (by omega)
      have p := dec_pos (n / 10)
      cases hd : decDigits (n / 10) with
      | nil => rw [hd] at p; exact absurd p (by decide)
      | cons a t => rw [hd] at this; simpa using this
theorem digs_snoc (k l : Nat) : digs (k + 1) l = digs k l ++ [dg8 (l / 10 ^ k % 10)] := by
  rw [digs_add k 1 l]; rfl
theorem digs_mod : ∀ (k l : Nat), digs k (l % 10 ^ k) = digs k l
  | 0, _ => rfl
  | k + 1, l => by
    have h1 : l % 10 ^ (k + 1) % 10 = l % 10 := by rw [Nat.pow_succ, Nat.mul_comm, Nat.mod_mul_right_mod]
    have h2 : l % 10 ^ (k + 1) / 10 = l / 10 % 10 ^ k := by rw [Nat.pow_succ, Nat.mul_comm, Nat.mod_mul_right_div_self]
    rw [digs, digs, h1, h2, digs_mod k]
theorem digs_next (j n : Nat) : digs (9 * (j + 1)) n = digs (9 * j) n ++ digs 9 (n / 10 ^ (9 * j) % 1000000000) := by
  rw [show 9 * (j + 1) = 9 * j + 9 by omega, digs_add]
  congr 1
  exact (digs_mod 9 _).symm
theorem quo_next (j n : Nat) : n / 10 ^ (9 * j) / 1000000000 = n / 10 ^ (9 * (j + 1)) := by
  rw [Nat.div_div_eq_div_mul, show 9 * (j + 1) = 9 * j + 9 by omega, Nat.pow_add]
/-- All digits, the lowest first: those of the numeral, then noughts. -/
theorem digs_dec {K n : Nat} (hK : 0 < K) (h : n < 10 ^ K) : (decDigits n).length ≤ K ∧ digs K n = (decDigits n).reverse ++ List.replicate (K - (decDigits n).length) 48 := by
  obtain ⟨a, b⟩ := pad_dec K n hK h
  refine ⟨a, ?_⟩
  have := congrArg List.reverse (digs_pad K n)
  rw [List.reverse_reverse, b, List.reverse_append, List.reverse_replicate] at this
  exact this
/-- The byte at i of all digits. -/
def dgAt (K n i : Nat) : UInt8 := (digs K n).getD i 0
theorem dgAt_high {K n i : Nat} (hK : 0 < K) (h : n < 10 ^ K) (h1 : (decDigits n).length ≤ i) (h2 : i < K) : dgAt K n i = 48 := by
  obtain ⟨a, b⟩ := digs_dec hK h
  unfold dgAt
  rw [b, List.getD_eq_getElem?_getD, List.getElem?_append_right (by simpa using h1), List.getElem?_replicate, if_pos (by simp; omega)]
  rfl
theorem dgAt_low {K n i : Nat} (hK : 0 < K) (h : n < 10 ^ K) (h1 : i < (decDigits n).length) : dgAt K n i = (decDigits n).getD ((decDigits n).length - 1 - i) 0 := by
  obtain ⟨a, b⟩ := digs_dec hK h
  unfold dgAt
  rw [b, List.getD_eq_getElem?_getD, List.getElem?_append_left (by simpa using h1), List.getElem?_reverse h1, List.getD_eq_getElem?_getD]
theorem dgAt_first {K n : Nat} (hK : 0 < K) (h : n < 10 ^ K) (h0 : 0 < n) : dgAt K n ((decDigits n).length - 1) ≠ 48 := by
  have p := dec_pos n
  rw [dgAt_low hK h (by omega), show (decDigits n).length - 1 - ((decDigits n).length - 1) = 0 by omega]
  have hd := dec_head n h0
  cases hl : decDigits n with
  | nil => rw [hl] at p; exact absurd p (by decide)
  | cons a t => rw [hl] at hd; simpa using hd
end Go.Proofs.YtmdjpnjpnfkihaaDoor
