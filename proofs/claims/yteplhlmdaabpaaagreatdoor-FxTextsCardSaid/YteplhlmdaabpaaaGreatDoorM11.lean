/-
  The references' whole numbers: differences.
  The references' whole numbers: which is the lower one.
-/
import Derived.Test.YteplhlmdaabpaaaGreatDoorM10
namespace Go.Proofs.YteplhlmdaabpaaaGreatDoor
open Go.RowKit

theorem len_mono {B : Nat} (hB : 0 < B) {xs ys : List Nat} (hx : ∀ x ∈ xs, x < B) (ty : trimLen ys = ys.length) (h : lval B ys ≤ lval B xs) : ys.length ≤ xs.length := by
  rcases Nat.lt_or_ge xs.length ys.length with h1 | h1
  · exfalso
    have h0 : ys ≠ [] := by intro e; rw [e] at h1; simp at h1
    have a1 := lval_lt B hB xs hx
    have a2 := lval_ge B ys ty h0
    have a3 : B ^ xs.length ≤ B ^ (ys.length - 1) := Nat.pow_le_pow_right hB (by omega)
    omega
  · exact h1
/-- What holds at each round of a difference. -/
def LInv (xs ys ds : List Nat) (i : Nat) (c : Int) : Prop := ds.length = i ∧ (∀ x ∈ ds, x < 4294967296) ∧ -1 ≤ c ∧ c ≤ 0 ∧ (lval 4294967296 (xs.take i) : Int) - lval 4294967296 (ys.take i) = lval 4294967296 ds + ((4294967296 ^ i : Nat) : Int) * c
theorem linv_alg {P X Y D x y d : Nat} {c s : Int} (h4 : (X : Int) - Y = D + (P : Int) * c) (hs : s = c + (x : Nat) - (y : Nat)) (hd : (d : Int) = s % 4294967296) :
    ((X + P * x : Nat) : Int) - ((Y + P * y : Nat) : Int) = ((D + P * d : Nat) : Int) + ((P * 4294967296 : Nat) : Int) * (s / 4294967296) := by
  have e : s % 4294967296 + 4294967296 * (s / 4294967296) = s := Int.emod_add_mul_ediv s _
  have e2 : (P : Int) * (d : Int) + (P : Int) * 4294967296 * (s / 4294967296) = (P : Int) * c + (P : Int) * (x : Int) - (P : Int) * (y : Int) := by
    rw [hd, Int.mul_assoc, ← Int.mul_add, e, hs, Int.mul_sub, Int.mul_add]
  simp only [Int.natCast_add, Int.natCast_mul]
  have e3 : ((4294967296 : Nat) : Int) = 4294967296 := rfl
  rw [e3]
  generalize (P : Int) * (d : Int) = a1 at *
  generalize (P : Int) * 4294967296 * (s / 4294967296) = a2 at *
  generalize (P : Int) * c = a3 at *
  generalize (P : Int) * (x : Int) = a4 at *
  generalize (P : Int) * (y : Int) = a5 at *
  omega
theorem linv_step {xs ys ds : List Nat} {i : Nat} {c s : Int} {d : Nat} (h : LInv xs ys ds i c) (hx : ∀ x ∈ xs, x < 4294967296) (hy : ∀ x ∈ ys, x < 4294967296) (hs : s = c + (xs.getD i 0 : Nat) - (ys.getD i 0 : Nat)) (hd : (d : Int) = s % 4294967296) : LInv xs ys (ds ++ [d]) (i + 1) (s / 4294967296) := by
  obtain ⟨h1, h2, h3, h3', h4⟩ := h
  have gx := getD_lt (by decide) hx i
  have gy := getD_lt (by decide) hy i
  refine ⟨by simp [h1], ?_, by omega, by omega, ?_⟩
  · intro x hxm
    rw [List.mem_append] at hxm
    rcases hxm with hm | hm
    · exact h2 x hm
    · simp at hm; omega
  · rw [lval_take_succ, lval_take_succ, lval_append, h1, Nat.pow_succ]
    simp only [lval, Nat.mul_zero, Nat.add_zero]
    exact linv_alg h4 hs hd
theorem linv_end {xs ys ds : List Nat} {c : Int} (h : LInv xs ys ds xs.length c) (hy : ys.length ≤ xs.length) (hle : lval 4294967296 ys ≤ lval 4294967296 xs) : lval 4294967296 ds = lval 4294967296 xs - lval 4294967296 ys ∧ ∀ x ∈ ds, x < 4294967296 := by
  obtain ⟨h1, h2, h3, h3', h4⟩ := h
  rw [List.take_of_length_le (Nat.le_refl _), List.take_of_length_le hy] at h4
  have hl := lval_lt 4294967296 (by decide) ds h2
  rw [h1] at hl
  refine ⟨?_, h2⟩
  generalize 4294967296 ^ xs.length = P at *
  have hc : c = 0 := by
    rcases Int.lt_or_le c 0 with h | h
    · have : c = -1 := by omega
      subst this
      omega
    · omega
  subst hc
  omega

set_option maxRecDepth 100000 in
set_option maxHeartbeats 8000000 in
/-- NLess -/
theorem nless_far (va vb : Value) (a b : Nat) (w : World) (ha : IsN w va a) (hb : IsN w vb b) (la : a < BIG) (hab : b ≤ a) : Calls Tryz.prog 51 #[va, vb] w (SomeNF w (a - b)) := by
  obtain ⟨i0, hi0, hz0, hz1, hz2⟩ := info_parts info32
  have HA := Lib.hid (And.intro ha (And.intro hb (And.intro la (And.intro (show b < BIG by omega) hab))))
  clear ha hb la hab
  go_enter Tryz.func51, Tryz.ntmps51
  go_wp2_with (first | (go_at_call 67; (with_reducible refine (halves_num va a _ HA.out.1 HA.out.2.2.1).mono ?_); rintro e w1 ⟨vx, rfl, hvx, hb1⟩) | (go_at_call 67; (with_reducible refine (halves_num vb b _ (HA.out.2.1.below hb1) HA.out.2.2.2.1).mono ?_); rintro e w2 ⟨vy, rfl, hvy, hb2⟩))
  obtain ⟨xs, rx, x1, x2, x3⟩ := hvx.below hb2
  obtain ⟨ys, ry, y1, y2, y3⟩ := hvy
  have lx := len_d x3 (by rw [x2]; exact HA.out.2.2.1)
  have ly := len_mono (by decide) x1 y3 (by rw [x2, y2]; exact HA.out.2.2.2.2)
  obtain ⟨ox, cx, rfl, hcx⟩ := rx.form
  obtain ⟨oy, cy, rfl, hcy⟩ := ry.form
  have HX := Lib.hid (And.intro hcx (And.intro hcy (And.intro x1 (And.intro y1 (And.intro x2 y2)))))
  clear rx ry hcx hcy x1 y1 x2 y2 x3 y3 hvx
  go_loopw [7, 8, 9] (fun s7 s8 s9 wr => ∃ (i : Nat) (ds : List Nat) (c : Int), i ≤ xs.length ∧ s8 = .int .i64 c ∧ s9 = .int .i64 i ∧ Hid (LInv xs ys ds i c) ∧ Hid (wr.ownsRow w2.heap.size 104 1 s7 ds.length (ds.map fun x => Value.int .u32 (x : Nat))) ∧ Below w2.heap.size w2 wr) (fun _ _ s9 _ => xs.length - (intOf s9).toNat)
  case atStart => exact ⟨0, [], 0, Nat.zero_le _, rfl, rfl, ⟨rfl, by simp, by omega, by omega, by simp only [List.take_zero, lval]; omega⟩, World.ownsRow_nil _ _ _ _, Below.refl _ _⟩
  case round =>
    obtain ⟨i, ds, c, him, rfl, rfl, HI, hown, hB⟩ := hrel
    have hBs := hB.size
    have cl : c ≤ 0 := HI.out.2.2.2.1
    have cl' : -1 ≤ c := HI.out.2.2.1
    by_cases hx : i < xs.length
    · by_cases hy : i < ys.length
      · skip
        obtain ⟨bx, fx, rfl, hbx, hcellx⟩ := HX.out.1 i hx
        have hcx : wr.cell? ⟨bx, fx + i, none⟩ = some (.int .u32 (xs.getD i 0 : Nat)) := (hB.cell (p := ⟨bx, fx + i, none⟩) hbx).trans hcellx
        obtain ⟨xi, exi⟩ : ∃ xi, xi = xs.getD i 0 := ⟨_, rfl⟩
        have xl : xi < 4294967296 := by rw [exi]; exact getD_lt (by decide) HX.out.2.2.1 i
        rw [← exi] at hcx
        clear hcellx
        obtain ⟨by', fy, rfl, hby, hcelly⟩ := HX.out.2.1 i hy
        have hcy : wr.cell? ⟨by', fy + i, none⟩ = some (.int .u32 (ys.getD i 0 : Nat)) := (hB.cell (p := ⟨by', fy + i, none⟩) hby).trans hcelly
        obtain ⟨yi, eyi⟩ : ∃ yi, yi = ys.getD i 0 := ⟨_, rfl⟩
        have yl : yi < 4294967296 := by rw [eyi]; exact getD_lt (by decide) HX.out.2.2.2.1 i
        rw [← eyi] at hcy
        clear hcelly
        obtain ⟨s, hs⟩ : ∃ s : Int, s = c + (xi : Int) - (yi : Int) := ⟨_, rfl⟩
        obtain ⟨d, hd⟩ := Int.eq_ofNat_of_zero_le (show 0 ≤ s % 4294967296 by omega)
        have st := linv_step (s := s) (d := d) HI.out HX.out.2.2.1 HX.out.2.2.2.1 (by rw [← exi, ← eyi, hs]) hd.symm
        obtain ⟨c2, hc2⟩ : ∃ c2, c2 = s / 4294967296 := ⟨_, rfl⟩
        rw [← hc2] at st
        have e1 : IntKind.u32.wrap (IntKind.u64.wrap (c + (xi : Int) - (yi : Int))) = (d : Int) := by rw [IntKind.wrap_u32, IntKind.wrap_u64]; omega
        have e2 : (c + (xi : Int) - (yi : Int)) / 4294967296 = c2 := by omega
        have ST := Lib.hid st
        have dl : ds.length ≤ 524289 := by have := HI.out.1; omega
        clear st hs hd hc2 exi eyi
        have HO := hown
        clear hown
        go_wp2_with (at_builtin; refine wpList_append_own _ rfl _ _ 102 rfl w2.heap.size 104 i0 (.int .u32 0) 1 4 Tryz.underlying102 hi0 hz0 hz1 hz2 rfl (by decide) _ ds.length (ds.map fun x => Value.int .u32 (x : Nat)) rfl (HO.out.alloc _) ⟨wr.heap.size, 0, none⟩ 1 1 [.int .u32 (d : Nat)] rfl rfl ?c1 ?c2 ?c3 ?c4 ?c5 ?_)
        case c1 => exact (cell_one_new _ _ _)
        case c2 => simp [Value.oneCell']
        case c3 => unfold maxLen; omega
        case c4 => omega
        case c5 => simp; omega
        intro v' w9 hown1 hgrow _
        go_wp2
        refine ⟨⟨i + 1, ds ++ [d], c2, by omega, rfl, by go_num, ST.out, ?_, ?_⟩, by simp [intOf]; omega⟩
        · have h1 := hown1
          simpa [Hid] using h1
        · exact (hB.alloc hBs _).grown hgrow (by simp; omega) (fun k hk => (HO.out.lt k hk).1)
      · skip
        obtain ⟨bx, fx, rfl, hbx, hcellx⟩ := HX.out.1 i hx
        have hcx : wr.cell? ⟨bx, fx + i, none⟩ = some (.int .u32 (xs.getD i 0 : Nat)) := (hB.cell (p := ⟨bx, fx + i, none⟩) hbx).trans hcellx
        obtain ⟨xi, exi⟩ : ∃ xi, xi = xs.getD i 0 := ⟨_, rfl⟩
        have xl : xi < 4294967296 := by rw [exi]; exact getD_lt (by decide) HX.out.2.2.1 i
        rw [← exi] at hcx
        clear hcellx
        have zy : ys.getD i 0 = 0 := by simp [List.getD, List.getElem?_eq_none (by omega : ys.length ≤ i)]
        obtain ⟨s, hs⟩ : ∃ s : Int, s = c + (xi : Int) := ⟨_, rfl⟩
        obtain ⟨d, hd⟩ := Int.eq_ofNat_of_zero_le (show 0 ≤ s % 4294967296 by omega)
        have st := linv_step (s := s) (d := d) HI.out HX.out.2.2.1 HX.out.2.2.2.1 (by rw [← exi, zy, hs]; simp) hd.symm
        obtain ⟨c2, hc2⟩ : ∃ c2, c2 = s / 4294967296 := ⟨_, rfl⟩
        rw [← hc2] at st
        have e1 : IntKind.u32.wrap (IntKind.u64.wrap (c + (xi : Int))) = (d : Int) := by rw [IntKind.wrap_u32, IntKind.wrap_u64]; omega
        have e2 : (c + (xi : Int)) / 4294967296 = c2 := by omega
        have ST := Lib.hid st
        have dl : ds.length ≤ 524289 := by have := HI.out.1; omega
        clear st hs hd hc2 exi zy
        have HO := hown
        clear hown
        go_wp2_with (at_builtin; refine wpList_append_own _ rfl _ _ 102 rfl w2.heap.size 104 i0 (.int .u32 0) 1 4 Tryz.underlying102 hi0 hz0 hz1 hz2 rfl (by decide) _ ds.length (ds.map fun x => Value.int .u32 (x : Nat)) rfl (HO.out.alloc _) ⟨wr.heap.size, 0, none⟩ 1 1 [.int .u32 (d : Nat)] rfl rfl ?c1 ?c2 ?c3 ?c4 ?c5 ?_)
        case c1 => exact (cell_one_new _ _ _)
        case c2 => simp [Value.oneCell']
        case c3 => unfold maxLen; omega
        case c4 => omega
        case c5 => simp; omega
        intro v' w9 hown1 hgrow _
        go_wp2
        refine ⟨⟨i + 1, ds ++ [d], c2, by omega, rfl, by go_num, ST.out, ?_, ?_⟩, by simp [intOf]; omega⟩
        · have h1 := hown1
          simpa [Hid] using h1
        · exact (hB.alloc hBs _).grown hgrow (by simp; omega) (fun k hk => (HO.out.lt k hk).1)
    · have he : i = xs.length := by omega
      subst he
      obtain ⟨p1, p2⟩ := linv_end HI.out ly (by rw [HX.out.2.2.2.2.1, HX.out.2.2.2.2.2]; exact HA.out.2.2.2.2)
      have P2 := Lib.hid p2
      have dl : ds.length ≤ 524289 := by have := HI.out.1; omega
      have RD := Lib.hid (own_rd hown.out)
      have TK : Hid (Rd .u32 wr (cutv u7 (trimLen ds)) (ds.take (trimLen ds))) := RD.out.cut _ (trimLen_le _)
      have TL : Hid ((∀ x ∈ ds.take (trimLen ds), x < 4294967296) ∧ (ds.take (trimLen ds)).length ≤ 2199023255552) := ⟨fun x hx => P2.out x (List.mem_of_mem_take hx), by simp; omega⟩
      have TV : Hid (lval 4294967296 (ds.take (trimLen ds)) = a - b) := by unfold Hid; rw [lval_trim, p1, HX.out.2.2.2.2.1, HX.out.2.2.2.2.2]
      have CT := Lib.hid (cutd_any u7 ds wr (by omega) RD.out)
      clear hown p1 p2 hx
      generalize ds.take (trimLen ds) = TT at *
      generalize trimLen ds = tn at *
      go_wp2_with (first | (go_at_call 69; (with_reducible refine (CT.out).mono ?_); rintro e w' ⟨rfl, rfl⟩) | (go_at_call 68; (with_reducible refine (whole_far _ TT _ TK.out TL.out.1 TL.out.2).mono ?_); rintro e w10 ⟨u, rfl, hN, hb10, far⟩))
      go_ret
      refine ⟨_, rfl, by rw [← TV.out]; exact hN, ?_, fun b' hb' => far b' (by have h1 := hb1.size; have h2 := hb2.size; omega)⟩
      exact (hb1.trans (hb2.mono hb1.size)).trans ((hB.mono (Nat.le_trans hb1.size hb2.size)).trans (hb10.mono (Nat.le_trans (Nat.le_trans hb1.size hb2.size) hBs)))
theorem nless_any (va vb : Value) (a b : Nat) (w : World) (ha : IsN w va a) (hb : IsN w vb b) (la : a < BIG) (hab : b ≤ a) : Calls Tryz.prog 51 #[va, vb] w (SomeN w (a - b)) :=
  (nless_far va vb a b w ha hb la hab).mono fun _ _ h => h.some
end Go.Proofs.YteplhlmdaabpaaaGreatDoor
namespace Go.Proofs.YteplhlmdaabpaaaGreatDoor
open Go.RowKit

theorem len_less {B : Nat} (hB : 0 < B) {xs ys : List Nat} (hx : ∀ x ∈ xs, x < B) (ty : trimLen ys = ys.length) (h : xs.length < ys.length) : lval B xs < lval B ys := by
  rcases Nat.lt_or_ge (lval B xs) (lval B ys) with h1 | h1
  · exact h1
  · have := len_mono hB hx ty h1; omega
theorem top_less {B : Nat} (hB : 0 < B) {xs ys : List Nat} {m : Nat} (hx : ∀ x ∈ xs, x < B) (hl : xs.length = ys.length) (hm : m < xs.length) (hd : xs.drop (m + 1) = ys.drop (m + 1)) (h : xs.getD m 0 < ys.getD m 0) : lval B xs < lval B ys := by
  have e1 := lval_split B xs m (by omega)
  have e2 := lval_split B ys m (by omega)
  have hmy : m < ys.length := by omega
  have d1 : xs.drop m = xs.getD m 0 :: xs.drop (m + 1) := by rw [List.drop_eq_getElem_cons hm]; simp [List.getD, hm]
  have d2 : ys.drop m = ys.getD m 0 :: ys.drop (m + 1) := by rw [List.drop_eq_getElem_cons hmy]; simp [List.getD, hmy]
  rw [d1, hd] at e1
  rw [d2] at e2
  simp only [lval] at e1 e2
  have l1 := lval_lt B hB (xs.take m) (fun x hxm => hx x (List.mem_of_mem_take hxm))
  rw [List.length_take, Nat.min_eq_left (by omega)] at l1
  have m1 := Nat.mul_le_mul_left (B ^ m) (show xs.getD m 0 + B * lval B (ys.drop (m + 1)) + 1 ≤ ys.getD m 0 + B * lval B (ys.drop (m + 1)) by omega)
  rw [Nat.mul_add, Nat.mul_one] at m1
  omega

set_option maxRecDepth 100000 in
set_option maxHeartbeats 8000000 in
/-- NCmp -/
theorem ncmp_any (va vb : Value) (a b : Nat) (w : World) (ha : IsN w va a) (hb : IsN w vb b) (la : a < BIG) (lb : b < BIG) : Calls Tryz.prog 46 #[va, vb] w fun e w' => e = .returned (.int .i64 (sg a b)) ∧ Below w.heap.size w w' := by
  obtain ⟨xs, rx, x1, x2, x3⟩ := ha
  obtain ⟨ys, ry, y1, y2, y3⟩ := hb
  have lx := len_n x3 (by rw [x2]; exact la)
  have ly := len_n y3 (by rw [y2]; exact lb)
  obtain ⟨ox, cx, rfl, hcx⟩ := rx.form
  obtain ⟨oy, cy, rfl, hcy⟩ := ry.form
  have HX := Lib.hid (And.intro hcx (And.intro hcy (And.intro x1 (And.intro y1 (And.intro x2 y2)))))
  clear la lb
  rcases Nat.lt_trichotomy xs.length ys.length with hl | hl | hl
  · have E := Lib.hid (sg_lt (show (a : Int) < b by have := len_less (by decide) x1 y3 hl; omega))
    have hl' : (xs.length : Int) < ys.length := by omega
    have hn : ((xs.length : Int) == ys.length) = false := by simp; omega
    clear rx ry hcx hcy x1 y1 x2 y2 x3 y3 hl
    go_enter Tryz.func46, Tryz.ntmps46
    go_wp2
    go_ret
    exact ⟨by rw [E.out]; rfl, Below.refl _ _⟩
  · obtain ⟨n, hn⟩ : ∃ n, n = ys.length := ⟨_, rfl⟩
    have EQ := Lib.hid hl
    have L : Hid (xs.length = n ∧ ys.length = n) := ⟨by rw [hn]; exact hl, hn.symm⟩
    rw [hl, ← hn] 
    rw [← hn] at ly
    clear rx ry hcx hcy x1 y1 x2 y2 x3 y3 hl lx hn
    go_enter Tryz.func46, Tryz.ntmps46
    go_wp2
    go_loopw [5] (fun s5 wr => ∃ z : Int, s5 = .int .i64 z ∧ -1 ≤ z ∧ z < n ∧ Hid (xs.drop (z + 1).toNat = ys.drop (z + 1).toNat) ∧ Below w.heap.size w wr) (fun s5 _ => (intOf s5 + 1).toNat)
    case atStart => exact ⟨_, rfl, by omega, by omega, by unfold Hid; rw [List.drop_eq_nil_of_le (by have := L.out.1; omega), List.drop_eq_nil_of_le (by have := L.out.2; omega)], Below.refl _ _⟩
    case round =>
      obtain ⟨z, rfl, z0, z1, hd, hB⟩ := hrel
      have hBs := hB.size
      by_cases hz : z < 0
      · have E : Hid (sg (a : Int) b = 0) := by
          have e : xs = ys := by have := hd.out; rw [show (z + 1).toNat = 0 by omega] at this; simpa using this
          have : a = b := by rw [← HX.out.2.2.2.2.1, ← HX.out.2.2.2.2.2, e]
          rw [this]; exact sg_eq _
        go_wp2
        go_ret
        exact ⟨by rw [E.out]; rfl, hB⟩
      · obtain ⟨m, rfl⟩ := Int.eq_ofNat_of_zero_le (show 0 ≤ z by omega)
        have hm : m < n := by omega
        obtain ⟨bx, fx, rfl, hbx, hcellx⟩ := HX.out.1 m (by rw [L.out.1]; exact hm)
        obtain ⟨by', fy, rfl, hby, hcelly⟩ := HX.out.2.1 m (by rw [L.out.2]; exact hm)
        have hcx : wr.cell? ⟨bx, fx + m, none⟩ = some (.int .u64 (xs.getD m 0 : Nat)) := (hB.cell (p := ⟨bx, fx + m, none⟩) hbx).trans hcellx
        have hcy : wr.cell? ⟨by', fy + m, none⟩ = some (.int .u64 (ys.getD m 0 : Nat)) := (hB.cell (p := ⟨by', fy + m, none⟩) hby).trans hcelly
        obtain ⟨x, ex⟩ : ∃ x, x = xs.getD m 0 := ⟨_, rfl⟩
        obtain ⟨y, ey⟩ : ∃ y, y = ys.getD m 0 := ⟨_, rfl⟩
        rw [← ex] at hcx
        rw [← ey] at hcy
        clear hcellx hcelly
        have hdm : Hid (xs.drop (m + 1) = ys.drop (m + 1)) := by have := hd.out; rwa [show ((m : Int) + 1).toNat = m + 1 by omega] at this
        have EX := Lib.hid (And.intro ex ey)
        clear ex ey hd
        have hlen : Hid (xs.length = ys.length ∧ m < xs.length) := ⟨by rw [L.out.1, L.out.2], by rw [L.out.1]; exact hm⟩
        rcases Nat.lt_trichotomy x y with h | h | h
        · have E : Hid (sg (a : Int) b = -1) := sg_lt (by have := top_less (by decide) HX.out.2.2.1 hlen.out.1 hlen.out.2 hdm.out (by rw [← EX.out.1, ← EX.out.2]; exact h); rw [HX.out.2.2.2.2.1, HX.out.2.2.2.2.2] at this; omega)
          have h' : (x : Int) < y := by omega
          go_wp2
          go_region_held3 (fun w' => w'.cell? ⟨bx, fx + m, none⟩ = some (.int .u64 (x : Nat)) ∧ w'.cell? ⟨by', fy + m, none⟩ = some (.int .u64 (y : Nat))) (simp [go_sem, *]) (fail)
          go_wp2
          go_ret
          exact ⟨by rw [E.out]; rfl, by repeat (first | assumption | apply Below.drew)⟩
        · subst h
          have hN : Hid (xs.drop m = ys.drop m) := by
            unfold Hid
            have hmx : m < xs.length := hlen.out.2
            have hmy : m < ys.length := by rw [← hlen.out.1]; exact hmx
            rw [List.drop_eq_getElem_cons hmx, List.drop_eq_getElem_cons hmy, hdm.out]
            congr 1
            have e1 := EX.out.1
            have e2 := EX.out.2
            simp only [List.getD, List.getElem?_eq_getElem hlen.out.2, Option.getD_some] at e1
            simp only [List.getD, List.getElem?_eq_getElem (show m < ys.length by rw [← hlen.out.1]; exact hlen.out.2), Option.getD_some] at e2
            rw [← e1, ← e2]
          go_wp2
          go_region_held3 (fun w' => w'.cell? ⟨bx, fx + m, none⟩ = some (.int .u64 (x : Nat)) ∧ w'.cell? ⟨by', fy + m, none⟩ = some (.int .u64 (x : Nat))) (simp [go_sem, *]) (fail)
          go_wp2
          go_region_held3 (fun w' => w'.cell? ⟨bx, fx + m, none⟩ = some (.int .u64 (x : Nat)) ∧ w'.cell? ⟨by', fy + m, none⟩ = some (.int .u64 (x : Nat))) (simp [go_sem, *]) (fail)
          go_wp2
          refine ⟨⟨(m : Int) - 1, rfl, by omega, by omega, ?_, ?_⟩, by simp [intOf]⟩
          · rw [show ((m : Int) - 1 + 1).toNat = m by omega]; exact hN
          · repeat (first | assumption | apply Below.drew)
        · have E : Hid (sg (a : Int) b = 1) := sg_gt (by have := top_less (by decide) HX.out.2.2.2.1 hlen.out.1.symm (by rw [← hlen.out.1]; exact hlen.out.2) hdm.out.symm (by rw [← EX.out.1, ← EX.out.2]; exact h); rw [HX.out.2.2.2.2.1, HX.out.2.2.2.2.2] at this; omega)
          have h' : (y : Int) < x := by omega
          go_wp2
          go_region_held3 (fun w' => w'.cell? ⟨bx, fx + m, none⟩ = some (.int .u64 (x : Nat)) ∧ w'.cell? ⟨by', fy + m, none⟩ = some (.int .u64 (y : Nat))) (simp [go_sem, *]) (fail)
          go_wp2
          go_region_held3 (fun w' => w'.cell? ⟨bx, fx + m, none⟩ = some (.int .u64 (x : Nat)) ∧ w'.cell? ⟨by', fy + m, none⟩ = some (.int .u64 (y : Nat))) (simp [go_sem, *]) (fail)
          go_wp2
          go_ret
          exact ⟨by rw [E.out]; rfl, by repeat (first | assumption | apply Below.drew)⟩
  · have E := Lib.hid (sg_gt (show (b : Int) < a by have := len_less (by decide) y1 x3 hl; omega))
    have hl' : (ys.length : Int) < xs.length := by omega
    have hn : ((xs.length : Int) == ys.length) = false := by simp; omega
    clear rx ry hcx hcy x1 y1 x2 y2 x3 y3 hl
    go_enter Tryz.func46, Tryz.ntmps46
    go_wp2
    go_ret
    exact ⟨by rw [E.out]; rfl, Below.refl _ _⟩
end Go.Proofs.YteplhlmdaabpaaaGreatDoor
