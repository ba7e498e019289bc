/-
  The references' whole numbers: differences.
  The references' whole numbers: which is the lower one.
  The references' whole numbers: products.
  Sizes (whole numbers of 128 bits without a sign): their halves behind a shift, their lengths.
  What the calls of package wide do, said of whole numbers: sums, differences, small numbers.
  Sizes: a bit set, a sign laid on, a whole number's size.
-/
import Derived.Laws.MakeOwn
import Derived.Deep.DeepCutAuto
import Derived.Laws.BitsAllLaws
import Derived.Lib.BitFns
import Derived.Lib.ItoaNum
import Derived.Test.YtldchepfcgbpiaaGreatM01
namespace Go.Proofs.YtldchepfcgbpiaaGreat
open Go.RowKit

theorem len_mono {B : Nat} (hB : 0 < B) {xs ys : List Nat} (hx : ∀ x ∈ xs, x < B) (ty : trimLen ys = ys.length) (h : lval B ys ≤ lval B xs) : ys.length ≤ xs.length := by
  rcases Nat.lt_or_ge xs.length ys.length with h1 | h1
  · exfalso
    have h0 : ys ≠ [] := by intro e; rw [e] at h1; simp at h1
    have a1 := lval_lt B hB xs hx
    have a2 := lval_ge B ys ty h0
    have a3 : B ^ xs.length ≤ B ^ (ys.length - 1) := Nat.pow_le_pow_right hB (by omega)
    omega
  · exact h1
/-- What holds at each round of a difference. -/
def LInv (xs ys ds : List Nat) (i : Nat) (c : Int) : Prop := ds.length = i ∧ (∀ x ∈ ds, x < 4294967296) ∧ -1 ≤ c ∧ c ≤ 0 ∧ (lval 4294967296 (xs.take i) : Int) - lval 4294967296 (ys.take i) = lval 4294967296 ds + ((4294967296 ^ i : Nat) : Int) * c
theorem linv_alg {P X Y D x y d : Nat} {c s : Int} (h4 : (X : Int) - Y = D + (P : Int) * c) (hs : s = c + (x : Nat) - (y : Nat)) (hd : (d : Int) = s % 4294967296) :
    ((X + P * x : Nat) : Int) - ((Y + P * y : Nat) : Int) = ((D + P * d : Nat) : Int) + ((P * 4294967296 : Nat) : Int) * (s / 4294967296) := by
  have e : s % 4294967296 + 4294967296 * (s / 4294967296) = s := Int.emod_add_mul_ediv s _
  have e2 : (P : Int) * (d : Int) + (P : Int) * 4294967296 * (s / 4294967296) = (P : Int) * c + (P : Int) * (x : Int) - (P : Int) * (y : Int) := by
    rw [hd, Int.mul_assoc, ← Int.mul_add, e, hs, Int.mul_sub, Int.mul_add]
  simp only [Int.natCast_add, Int.natCast_mul]
  have e3 : ((4294967296 : Nat) : Int) = 4294967296 := rfl
  rw [e3]
  generalize (P : Int) * (d : Int) = a1 at *
  generalize (P : Int) * 4294967296 * (s / 4294967296) = a2 at *
  generalize (P : Int) * c = a3 at *
  generalize (P : Int) * (x : Int) = a4 at *
  generalize (P : Int) * (y : Int) = a5 at *
  omega
theorem linv_step {xs ys ds : List Nat} {i : Nat} {c s : Int} {d : Nat} (h : LInv xs ys ds i c) (hx : ∀ x ∈ xs, x < 4294967296) (hy : ∀ x ∈ ys, x < 4294967296) (hs : s = c + (xs.getD i 0 : Nat) - (ys.getD i 0 : Nat)) (hd : (d : Int) = s % 4294967296) : LInv xs ys (ds ++ [d]) (i + 1) (s / 4294967296) := by
  obtain ⟨h1, h2, h3, h3', h4⟩ := h
  have gx := getD_lt (by decide) hx i
  have gy := getD_lt (by decide) hy i
  refine ⟨by simp [h1], ?_, by omega, by omega, ?_⟩
  · intro x hxm
    rw [List.mem_append] at hxm
    rcases hxm with hm | hm
    · exact h2 x hm
    · simp at hm; omega
  · rw [lval_take_succ, lval_take_succ, lval_append, h1, Nat.pow_succ]
    simp only [lval, Nat.mul_zero, Nat.add_zero]
    exact linv_alg h4 hs hd
theorem linv_end {xs ys ds : List Nat} {c : Int} (h : LInv xs ys ds xs.length c) (hy : ys.length ≤ xs.length) (hle : lval 4294967296 ys ≤ lval 4294967296 xs) : lval 4294967296 ds = lval 4294967296 xs - lval 4294967296 ys ∧ ∀ x ∈ ds, x < 4294967296 := by
  obtain ⟨h1, h2, h3, h3', h4⟩ := h
  rw [List.take_of_length_le (Nat.le_refl _), List.take_of_length_le hy] at h4
  have hl := lval_lt 4294967296 (by decide) ds h2
  rw [h1] at hl
  refine ⟨?_, h2⟩
  generalize 4294967296 ^ xs.length = P at *
  have hc : c = 0 := by
    rcases Int.lt_or_le c 0 with h | h
    · have : c = -1 := by omega
      subst this
      omega
    · omega
  subst hc
  omega

set_option maxRecDepth 100000 in
set_option maxHeartbeats 8000000 in
/-- NLess -/
theorem nless_far (va vb : Value) (a b : Nat) (w : World) (ha : IsN w va a) (hb : IsN w vb b) (la : a < BIG) (hab : b ≤ a) : Calls Tryz.prog 78 #[va, vb] w (SomeNF w (a - b)) := by
  obtain ⟨i0, hi0, hz0, hz1, hz2⟩ := info_parts info32
  have HA := Lib.hid (And.intro ha (And.intro hb (And.intro la (And.intro (show b < BIG by omega) hab))))
  clear ha hb la hab
  go_enter Tryz.func78, Tryz.ntmps78
  go_wp2_with (first | (go_at_call 88; (with_reducible refine (halves_num va a _ HA.out.1 HA.out.2.2.1).mono ?_); rintro e w1 ⟨vx, rfl, hvx, hb1⟩) | (go_at_call 88; (with_reducible refine (halves_num vb b _ (HA.out.2.1.below hb1) HA.out.2.2.2.1).mono ?_); rintro e w2 ⟨vy, rfl, hvy, hb2⟩))
  obtain ⟨xs, rx, x1, x2, x3⟩ := hvx.below hb2
  obtain ⟨ys, ry, y1, y2, y3⟩ := hvy
  have lx := len_d x3 (by rw [x2]; exact HA.out.2.2.1)
  have ly := len_mono (by decide) x1 y3 (by rw [x2, y2]; exact HA.out.2.2.2.2)
  obtain ⟨ox, cx, rfl, hcx⟩ := rx.form
  obtain ⟨oy, cy, rfl, hcy⟩ := ry.form
  have HX := Lib.hid (And.intro hcx (And.intro hcy (And.intro x1 (And.intro y1 (And.intro x2 y2)))))
  clear rx ry hcx hcy x1 y1 x2 y2 x3 y3 hvx
  go_loopw [7, 8, 9] (fun s7 s8 s9 wr => ∃ (i : Nat) (ds : List Nat) (c : Int), i ≤ xs.length ∧ s8 = .int .i64 c ∧ s9 = .int .i64 i ∧ Hid (LInv xs ys ds i c) ∧ Hid (wr.ownsRow w2.heap.size 129 1 s7 ds.length (ds.map fun x => Value.int .u32 (x : Nat))) ∧ Below w2.heap.size w2 wr) (fun _ _ s9 _ => xs.length - (intOf s9).toNat)
  case atStart => exact ⟨0, [], 0, Nat.zero_le _, rfl, rfl, ⟨rfl, by simp, by omega, by omega, by simp only [List.take_zero, lval]; omega⟩, World.ownsRow_nil _ _ _ _, Below.refl _ _⟩
  case round =>
    obtain ⟨i, ds, c, him, rfl, rfl, HI, hown, hB⟩ := hrel
    have hBs := hB.size
    have cl : c ≤ 0 := HI.out.2.2.2.1
    have cl' : -1 ≤ c := HI.out.2.2.1
    by_cases hx : i < xs.length
    · by_cases hy : i < ys.length
      · skip
        obtain ⟨bx, fx, rfl, hbx, hcellx⟩ := HX.out.1 i hx
        have hcx : wr.cell? ⟨bx, fx + i, none⟩ = some (.int .u32 (xs.getD i 0 : Nat)) := (hB.cell (p := ⟨bx, fx + i, none⟩) hbx).trans hcellx
        obtain ⟨xi, exi⟩ : ∃ xi, xi = xs.getD i 0 := ⟨_, rfl⟩
        have xl : xi < 4294967296 := by rw [exi]; exact getD_lt (by decide) HX.out.2.2.1 i
        rw [← exi] at hcx
        clear hcellx
        obtain ⟨by', fy, rfl, hby, hcelly⟩ := HX.out.2.1 i hy
        have hcy : wr.cell? ⟨by', fy + i, none⟩ = some (.int .u32 (ys.getD i 0 : Nat)) := (hB.cell (p := ⟨by', fy + i, none⟩) hby).trans hcelly
        obtain ⟨yi, eyi⟩ : ∃ yi, yi = ys.getD i 0 := ⟨_, rfl⟩
        have yl : yi < 4294967296 := by rw [eyi]; exact getD_lt (by decide) HX.out.2.2.2.1 i
        rw [← eyi] at hcy
        clear hcelly
        obtain ⟨s, hs⟩ : ∃ s : Int, s = c + (xi : Int) - (yi : Int) := ⟨_, rfl⟩
        obtain ⟨d, hd⟩ := Int.eq_ofNat_of_zero_le (show 0 ≤ s % 4294967296 by omega)
        have st := linv_step (s := s) (d := d) HI.out HX.out.2.2.1 HX.out.2.2.2.1 (by rw [← exi, ← eyi, hs]) hd.symm
        obtain ⟨c2, hc2⟩ : ∃ c2, c2 = s / 4294967296 := ⟨_, rfl⟩
        rw [← hc2] at st
        have e1 : IntKind.u32.wrap (IntKind.u64.wrap (c + (xi : Int) - (yi : Int))) = (d : Int) := by rw [IntKind.wrap_u32, IntKind.wrap_u64]; omega
        have e2 : (c + (xi : Int) - (yi : Int)) / 4294967296 = c2 := by omega
        have ST := Lib.hid st
        have dl : ds.length ≤ 524289 := by have := HI.out.1; omega
        clear st hs hd hc2 exi eyi
        have HO := hown
        clear hown
        go_wp2_with (at_builtin; refine wpList_append_own _ rfl _ _ 127 rfl w2.heap.size 129 i0 (.int .u32 0) 1 4 Tryz.underlying127 hi0 hz0 hz1 hz2 rfl (by decide) _ ds.length (ds.map fun x => Value.int .u32 (x : Nat)) rfl (HO.out.alloc _) ⟨wr.heap.size, 0, none⟩ 1 1 [.int .u32 (d : Nat)] rfl rfl ?c1 ?c2 ?c3 ?c4 ?c5 ?_)
        case c1 => exact (cell_one_new _ _ _)
        case c2 => simp [Value.oneCell']
        case c3 => unfold maxLen; omega
        case c4 => omega
        case c5 => simp; omega
        intro v' w9 hown1 hgrow _
        go_wp2
        refine ⟨⟨i + 1, ds ++ [d], c2, by omega, rfl, by go_num, ST.out, ?_, ?_⟩, by simp [intOf]; omega⟩
        · have h1 := hown1
          simpa [Hid] using h1
        · exact (hB.alloc hBs _).grown hgrow (by simp; omega) (fun k hk => (HO.out.lt k hk).1)
      · skip
        obtain ⟨bx, fx, rfl, hbx, hcellx⟩ := HX.out.1 i hx
        have hcx : wr.cell? ⟨bx, fx + i, none⟩ = some (.int .u32 (xs.getD i 0 : Nat)) := (hB.cell (p := ⟨bx, fx + i, none⟩) hbx).trans hcellx
        obtain ⟨xi, exi⟩ : ∃ xi, xi = xs.getD i 0 := ⟨_, rfl⟩
        have xl : xi < 4294967296 := by rw [exi]; exact getD_lt (by decide) HX.out.2.2.1 i
        rw [← exi] at hcx
        clear hcellx
        have zy : ys.getD i 0 = 0 := by simp [List.getD, List.getElem?_eq_none (by omega : ys.length ≤ i)]
        obtain ⟨s, hs⟩ : ∃ s : Int, s = c + (xi : Int) := ⟨_, rfl⟩
        obtain ⟨d, hd⟩ := Int.eq_ofNat_of_zero_le (show 0 ≤ s % 4294967296 by omega)
        have st := linv_step (s := s) (d := d) HI.out HX.out.2.2.1 HX.out.2.2.2.1 (by rw [← exi, zy, hs]; simp) hd.symm
        obtain ⟨c2, hc2⟩ : ∃ c2, c2 = s / 4294967296 := ⟨_, rfl⟩
        rw [← hc2] at st
        have e1 : IntKind.u32.wrap (IntKind.u64.wrap (c + (xi : Int))) = (d : Int) := by rw [IntKind.wrap_u32, IntKind.wrap_u64]; omega
        have e2 : (c + (xi : Int)) / 4294967296 = c2 := by omega
        have ST := Lib.hid st
        have dl : ds.length ≤ 524289 := by have := HI.out.1; omega
        clear st hs hd hc2 exi zy
        have HO := hown
        clear hown
        go_wp2_with (at_builtin; refine wpList_append_own _ rfl _ _ 127 rfl w2.heap.size 129 i0 (.int .u32 0) 1 4 Tryz.underlying127 hi0 hz0 hz1 hz2 rfl (by decide) _ ds.length (ds.map fun x => Value.int .u32 (x : Nat)) rfl (HO.out.alloc _) ⟨wr.heap.size, 0, none⟩ 1 1 [.int .u32 (d : Nat)] rfl rfl ?c1 ?c2 ?c3 ?c4 ?c5 ?_)
        case c1 => exact (cell_one_new _ _ _)
        case c2 => simp [Value.oneCell']
        case c3 => unfold maxLen; omega
        case c4 => omega
        case c5 => simp; omega
        intro v' w9 hown1 hgrow _
        go_wp2
        refine ⟨⟨i + 1, ds ++ [d], c2, by omega, rfl, by go_num, ST.out, ?_, ?_⟩, by simp [intOf]; omega⟩
        · have h1 := hown1
          simpa [Hid] using h1
        · exact (hB.alloc hBs _).grown hgrow (by simp; omega) (fun k hk => (HO.out.lt k hk).1)
    · have he : i = xs.length := by omega
      subst he
      obtain ⟨p1, p2⟩ := linv_end HI.out ly (by rw [HX.out.2.2.2.2.1, HX.out.2.2.2.2.2]; exact HA.out.2.2.2.2)
      have P2 := Lib.hid p2
      have dl : ds.length ≤ 524289 := by have := HI.out.1; omega
      have RD := Lib.hid (own_rd hown.out)
      have TK : Hid (Rd .u32 wr (cutv u7 (trimLen ds)) (ds.take (trimLen ds))) := RD.out.cut _ (trimLen_le _)
      have TL : Hid ((∀ x ∈ ds.take (trimLen ds), x < 4294967296) ∧ (ds.take (trimLen ds)).length ≤ 2199023255552) := ⟨fun x hx => P2.out x (List.mem_of_mem_take hx), by simp; omega⟩
      have TV : Hid (lval 4294967296 (ds.take (trimLen ds)) = a - b) := by unfold Hid; rw [lval_trim, p1, HX.out.2.2.2.2.1, HX.out.2.2.2.2.2]
      have CT := Lib.hid (cutd_any u7 ds wr (by omega) RD.out)
      clear hown p1 p2 hx
      generalize ds.take (trimLen ds) = TT at *
      generalize trimLen ds = tn at *
      go_wp2_with (first | (go_at_call 98; (with_reducible refine (CT.out).mono ?_); rintro e w' ⟨rfl, rfl⟩) | (go_at_call 90; (with_reducible refine (whole_far _ TT _ TK.out TL.out.1 TL.out.2).mono ?_); rintro e w10 ⟨u, rfl, hN, hb10, far⟩))
      go_ret
      refine ⟨_, rfl, by rw [← TV.out]; exact hN, ?_, fun b' hb' => far b' (by have h1 := hb1.size; have h2 := hb2.size; omega)⟩
      exact (hb1.trans (hb2.mono hb1.size)).trans ((hB.mono (Nat.le_trans hb1.size hb2.size)).trans (hb10.mono (Nat.le_trans (Nat.le_trans hb1.size hb2.size) hBs)))
theorem nless_any (va vb : Value) (a b : Nat) (w : World) (ha : IsN w va a) (hb : IsN w vb b) (la : a < BIG) (hab : b ≤ a) : Calls Tryz.prog 78 #[va, vb] w (SomeN w (a - b)) :=
  (nless_far va vb a b w ha hb la hab).mono fun _ _ h => h.some
end Go.Proofs.YtldchepfcgbpiaaGreat
namespace Go.Proofs.YtldchepfcgbpiaaGreat
open Go.RowKit

theorem len_less {B : Nat} (hB : 0 < B) {xs ys : List Nat} (hx : ∀ x ∈ xs, x < B) (ty : trimLen ys = ys.length) (h : xs.length < ys.length) : lval B xs < lval B ys := by
  rcases Nat.lt_or_ge (lval B xs) (lval B ys) with h1 | h1
  · exact h1
  · have := len_mono hB hx ty h1; omega
theorem top_less {B : Nat} (hB : 0 < B) {xs ys : List Nat} {m : Nat} (hx : ∀ x ∈ xs, x < B) (hl : xs.length = ys.length) (hm : m < xs.length) (hd : xs.drop (m + 1) = ys.drop (m + 1)) (h : xs.getD m 0 < ys.getD m 0) : lval B xs < lval B ys := by
  have e1 := lval_split B xs m (by omega)
  have e2 := lval_split B ys m (by omega)
  have hmy : m < ys.length := by omega
  have d1 : xs.drop m = xs.getD m 0 :: xs.drop (m + 1) := by rw [List.drop_eq_getElem_cons hm]; simp [List.getD, hm]
  have d2 : ys.drop m = ys.getD m 0 :: ys.drop (m + 1) := by rw [List.drop_eq_getElem_cons hmy]; simp [List.getD, hmy]
  rw [d1, hd] at e1
  rw [d2] at e2
  simp only [lval] at e1 e2
  have l1 := lval_lt B hB (xs.take m) (fun x hxm => hx x (List.mem_of_mem_take hxm))
  rw [List.length_take, Nat.min_eq_left (by omega)] at l1
  have m1 := Nat.mul_le_mul_left (B ^ m) (show xs.getD m 0 + B * lval B (ys.drop (m + 1)) + 1 ≤ ys.getD m 0 + B * lval B (ys.drop (m + 1)) by omega)
  rw [Nat.mul_add, Nat.mul_one] at m1
  omega

set_option maxRecDepth 100000 in
set_option maxHeartbeats 8000000 in
/-- NCmp -/
theorem ncmp_any (va vb : Value) (a b : Nat) (w : World) (ha : IsN w va a) (hb : IsN w vb b) (la : a < BIG) (lb : b < BIG) : Calls Tryz.prog 77 #[va, vb] w fun e w' => e = .returned (.int .i64 (sg a b)) ∧ Below w.heap.size w w' := by
  obtain ⟨xs, rx, x1, x2, x3⟩ := ha
  obtain ⟨ys, ry, y1, y2, y3⟩ := hb
  have lx := len_n x3 (by rw [x2]; exact la)
  have ly := len_n y3 (by rw [y2]; exact lb)
  obtain ⟨ox, cx, rfl, hcx⟩ := rx.form
  obtain ⟨oy, cy, rfl, hcy⟩ := ry.form
  have HX := Lib.hid (And.intro hcx (And.intro hcy (And.intro x1 (And.intro y1 (And.intro x2 y2)))))
  clear la lb
  rcases Nat.lt_trichotomy xs.length ys.length with hl | hl | hl
  · have E := Lib.hid (sg_lt (show (a : Int) < b by have := len_less (by decide) x1 y3 hl; omega))
    have hl' : (xs.length : Int) < ys.length := by omega
    have hn : ((xs.length : Int) == ys.length) = false := by simp; omega
    clear rx ry hcx hcy x1 y1 x2 y2 x3 y3 hl
    go_enter Tryz.func77, Tryz.ntmps77
    go_wp2
    go_ret
    exact ⟨by rw [E.out]; rfl, Below.refl _ _⟩
  · obtain ⟨n, hn⟩ : ∃ n, n = ys.length := ⟨_, rfl⟩
    have EQ := Lib.hid hl
    have L : Hid (xs.length = n ∧ ys.length = n) := ⟨by rw [hn]; exact hl, hn.symm⟩
    rw [hl, ← hn] 
    rw [← hn] at ly
    clear rx ry hcx hcy x1 y1 x2 y2 x3 y3 hl lx hn
    go_enter Tryz.func77, Tryz.ntmps77
    go_wp2
    go_loopw [5] (fun s5 wr => ∃ z : Int, s5 = .int .i64 z ∧ -1 ≤ z ∧ z < n ∧ Hid (xs.drop (z + 1).toNat = ys.drop (z + 1).toNat) ∧ Below w.heap.size w wr) (fun s5 _ => (intOf s5 + 1).toNat)
    case atStart => exact ⟨_, rfl, by omega, by omega, by unfold Hid; rw [List.drop_eq_nil_of_le (by have := L.out.1; omega), List.drop_eq_nil_of_le (by have := L.out.2; omega)], Below.refl _ _⟩
    case round =>
      obtain ⟨z, rfl, z0, z1, hd, hB⟩ := hrel
      have hBs := hB.size
      by_cases hz : z < 0
      · have E : Hid (sg (a : Int) b = 0) := by
          have e : xs = ys := by have := hd.out; rw [show (z + 1).toNat = 0 by omega] at this; simpa using this
          have : a = b := by rw [← HX.out.2.2.2.2.1, ← HX.out.2.2.2.2.2, e]
          rw [this]; exact sg_eq _
        go_wp2
        go_ret
        exact ⟨by rw [E.out]; rfl, hB⟩
      · obtain ⟨m, rfl⟩ := Int.eq_ofNat_of_zero_le (show 0 ≤ z by omega)
        have hm : m < n := by omega
        obtain ⟨bx, fx, rfl, hbx, hcellx⟩ := HX.out.1 m (by rw [L.out.1]; exact hm)
        obtain ⟨by', fy, rfl, hby, hcelly⟩ := HX.out.2.1 m (by rw [L.out.2]; exact hm)
        have hcx : wr.cell? ⟨bx, fx + m, none⟩ = some (.int .u64 (xs.getD m 0 : Nat)) := (hB.cell (p := ⟨bx, fx + m, none⟩) hbx).trans hcellx
        have hcy : wr.cell? ⟨by', fy + m, none⟩ = some (.int .u64 (ys.getD m 0 : Nat)) := (hB.cell (p := ⟨by', fy + m, none⟩) hby).trans hcelly
        obtain ⟨x, ex⟩ : ∃ x, x = xs.getD m 0 := ⟨_, rfl⟩
        obtain ⟨y, ey⟩ : ∃ y, y = ys.getD m 0 := ⟨_, rfl⟩
        rw [← ex] at hcx
        rw [← ey] at hcy
        clear hcellx hcelly
        have hdm : Hid (xs.drop (m + 1) = ys.drop (m + 1)) := by have := hd.out; rwa [show ((m : Int) + 1).toNat = m + 1 by omega] at this
        have EX := Lib.hid (And.intro ex ey)
        clear ex ey hd
        have hlen : Hid (xs.length = ys.length ∧ m < xs.length) := ⟨by rw [L.out.1, L.out.2], by rw [L.out.1]; exact hm⟩
        rcases Nat.lt_trichotomy x y with h | h | h
        · have E : Hid (sg (a : Int) b = -1) := sg_lt (by have := top_less (by decide) HX.out.2.2.1 hlen.out.1 hlen.out.2 hdm.out (by rw [← EX.out.1, ← EX.out.2]; exact h); rw [HX.out.2.2.2.2.1, HX.out.2.2.2.2.2] at this; omega)
          have h' : (x : Int) < y := by omega
          go_wp2
          go_region_held3 (fun w' => w'.cell? ⟨bx, fx + m, none⟩ = some (.int .u64 (x : Nat)) ∧ w'.cell? ⟨by', fy + m, none⟩ = some (.int .u64 (y : Nat))) (simp [go_sem, *]) (fail)
          go_wp2
          go_ret
          exact ⟨by rw [E.out]; rfl, by repeat (first | assumption | apply Below.drew)⟩
        · subst h
          have hN : Hid (xs.drop m = ys.drop m) := by
            unfold Hid
            have hmx : m < xs.length := hlen.out.2
            have hmy : m < ys.length := by rw [← hlen.out.1]; exact hmx
            rw [List.drop_eq_getElem_cons hmx, List.drop_eq_getElem_cons hmy, hdm.out]
            congr 1
            have e1 := EX.out.1
            have e2 := EX.out.2
            simp only [List.getD, List.getElem?_eq_getElem hlen.out.2, Option.getD_some] at e1
            simp only [List.getD, List.getElem?_eq_getElem (show m < ys.length by rw [← hlen.out.1]; exact hlen.out.2), Option.getD_some] at e2
            rw [← e1, ← e2]
          go_wp2
          go_region_held3 (fun w' => w'.cell? ⟨bx, fx + m, none⟩ = some (.int .u64 (x : Nat)) ∧ w'.cell? ⟨by', fy + m, none⟩ = some (.int .u64 (x : Nat))) (simp [go_sem, *]) (fail)
          go_wp2
          go_region_held3 (fun w' => w'.cell? ⟨bx, fx + m, none⟩ = some (.int .u64 (x : Nat)) ∧ w'.cell? ⟨by', fy + m, none⟩ = some (.int .u64 (x : Nat))) (simp [go_sem, *]) (fail)
          go_wp2
          refine ⟨⟨(m : Int) - 1, rfl, by omega, by omega, ?_, ?_⟩, by simp [intOf]⟩
          · rw [show ((m : Int) - 1 + 1).toNat = m by omega]; exact hN
          · repeat (first | assumption | apply Below.drew)
        · have E : Hid (sg (a : Int) b = 1) := sg_gt (by have := top_less (by decide) HX.out.2.2.2.1 hlen.out.1.symm (by rw [← hlen.out.1]; exact hlen.out.2) hdm.out.symm (by rw [← EX.out.1, ← EX.out.2]; exact h); rw [HX.out.2.2.2.2.1, HX.out.2.2.2.2.2] at this; omega)
          have h' : (y : Int) < x := by omega
          go_wp2
          go_region_held3 (fun w' => w'.cell? ⟨bx, fx + m, none⟩ = some (.int .u64 (x : Nat)) ∧ w'.cell? ⟨by', fy + m, none⟩ = some (.int .u64 (y : Nat))) (simp [go_sem, *]) (fail)
          go_wp2
          go_region_held3 (fun w' => w'.cell? ⟨bx, fx + m, none⟩ = some (.int .u64 (x : Nat)) ∧ w'.cell? ⟨by', fy + m, none⟩ = some (.int .u64 (y : Nat))) (simp [go_sem, *]) (fail)
          go_wp2
          go_ret
          exact ⟨by rw [E.out]; rfl, by repeat (first | assumption | apply Below.drew)⟩
  · have E := Lib.hid (sg_gt (show (b : Int) < a by have := len_less (by decide) y1 x3 hl; omega))
    have hl' : (ys.length : Int) < xs.length := by omega
    have hn : ((xs.length : Int) == ys.length) = false := by simp; omega
    clear rx ry hcx hcy x1 y1 x2 y2 x3 y3 hl
    go_enter Tryz.func77, Tryz.ntmps77
    go_wp2
    go_ret
    exact ⟨by rw [E.out]; rfl, Below.refl _ _⟩
end Go.Proofs.YtldchepfcgbpiaaGreat
namespace Go.Proofs.YtldchepfcgbpiaaGreat
open Go.RowKit

theorem lval_set (B : Nat) : ∀ (es : List Nat) (j v : Nat), j < es.length → lval B (es.set j v) + B ^ j * es.getD j 0 = lval B es + B ^ j * v
  | x :: es, 0, v, _ => by simp [lval]; omega
  | x :: es, j + 1, v, h => by
    have ih := lval_set B es j v (by simpa using h)
    simp only [List.set_cons_succ, lval, List.getD_cons_succ, Nat.pow_succ]
    have e : ∀ z : Nat, B ^ j * B * z = B * (B ^ j * z) := fun z => by rw [Nat.mul_comm (B ^ j) B, Nat.mul_assoc]
    rw [e, e]
    have := congrArg (B * ·) ih
    simp only [Nat.mul_add] at this
    omega
theorem getD_set (es : List Nat) (j m v : Nat) (hj : j < es.length) : (es.set j v).getD m 0 = if m = j then v else es.getD m 0 := by
  simp only [List.getD_eq_getElem?_getD, List.getElem?_set]
  by_cases h : j = m
  · subst h; simp [hj]
  · rw [if_neg h, if_neg (fun e => h e.symm)]
/-- What holds at each round of a product. -/
def OInv (xs ys ds : List Nat) (i : Nat) : Prop := ds.length = xs.length + ys.length ∧ (∀ j, ds.getD j 0 < 4294967296) ∧ (∀ j, i + ys.length ≤ j → ds.getD j 0 = 0) ∧ lval 4294967296 ds = lval 4294967296 (xs.take i) * lval 4294967296 ys
def KInv (xs ys ds es : List Nat) (i k c : Nat) : Prop := es.length = xs.length + ys.length ∧ (∀ j, es.getD j 0 < 4294967296) ∧ (∀ j, i + ys.length ≤ j → es.getD j 0 = 0) ∧ c < 4294967296 ∧
  lval 4294967296 es + 4294967296 ^ (i + k) * c = lval 4294967296 ds + 4294967296 ^ i * xs.getD i 0 * lval 4294967296 (ys.take k)
theorem kinv_start {xs ys ds : List Nat} {i : Nat} (h : OInv xs ys ds i) : KInv xs ys ds ds i 0 0 := ⟨h.1, h.2.1, h.2.2.1, by decide, by simp [lval]⟩
theorem kinv_step {xs ys ds es : List Nat} {i k c t : Nat} (h : KInv xs ys ds es i k c) (hi : i < xs.length) (hk : k < ys.length) (hx : xs.getD i 0 < 4294967296) (hy : ys.getD k 0 < 4294967296) (ht : t = c + es.getD (i + k) 0 + xs.getD i 0 * ys.getD k 0) :
    t < 18446744073709551616 ∧ KInv xs ys ds (es.set (i + k) (t % 4294967296)) i (k + 1) (t / 4294967296) := by
  obtain ⟨h1, h2, h3, h4, h5⟩ := h
  have he := h2 (i + k)
  have hm : xs.getD i 0 * ys.getD k 0 ≤ 4294967295 * 4294967295 := Nat.mul_le_mul (by omega) (by omega)
  have hlt : i + k < es.length := by omega
  refine ⟨by omega, by simp [h1], fun j => ?_, fun j hj => ?_, by omega, ?_⟩
  · rw [getD_set _ _ _ _ hlt]; split
    · omega
    · exact h2 j
  · rw [getD_set _ _ _ _ hlt, if_neg (by omega)]; exact h3 j hj
  · have s := lval_set 4294967296 es (i + k) (t % 4294967296) hlt
    rw [lval_take_succ]
    have e : t % 4294967296 + 4294967296 * (t / 4294967296) = t := Nat.mod_add_div _ _
    rw [show i + (k + 1) = (i + k) + 1 by omega, Nat.pow_succ]
    have e1 : 4294967296 ^ (i + k) * (t % 4294967296) + 4294967296 ^ (i + k) * 4294967296 * (t / 4294967296) = 4294967296 ^ (i + k) * t := by rw [Nat.mul_assoc, ← Nat.mul_add, e]
    have e2 : 4294967296 ^ (i + k) * t = 4294967296 ^ (i + k) * c + 4294967296 ^ (i + k) * es.getD (i + k) 0 + 4294967296 ^ (i + k) * (xs.getD i 0 * ys.getD k 0) := by rw [ht, Nat.mul_add, Nat.mul_add]
    have e3 : 4294967296 ^ (i + k) * (xs.getD i 0 * ys.getD k 0) = 4294967296 ^ i * xs.getD i 0 * (4294967296 ^ k * ys.getD k 0) := by
      rw [Nat.pow_add]; simp only [Nat.mul_assoc, Nat.mul_left_comm]
    rw [Nat.mul_add (4294967296 ^ i * xs.getD i 0)]
    omega
theorem oinv_step {xs ys ds es : List Nat} {i c : Nat} (ho : OInv xs ys ds i) (h : KInv xs ys ds es i ys.length c) (hi : i < xs.length) : OInv xs ys (es.set (i + ys.length) c) (i + 1) := by
  obtain ⟨h1, h2, h3, h4, h5⟩ := h
  obtain ⟨o1, o2, o3, o4⟩ := ho
  have hlt : i + ys.length < es.length := by omega
  refine ⟨by simp [h1], fun j => ?_, fun j hj => ?_, ?_⟩
  · rw [getD_set _ _ _ _ hlt]; split
    · exact h4
    · exact h2 j
  · rw [getD_set _ _ _ _ hlt, if_neg (by omega)]; exact h3 j (by omega)
  · have s := lval_set 4294967296 es (i + ys.length) c hlt
    rw [h3 _ (Nat.le_refl _), Nat.mul_zero, Nat.add_zero] at s
    rw [s, h5, List.take_of_length_le (Nat.le_refl _), o4, lval_take_succ, Nat.add_mul]
theorem oinv_start (xs ys : List Nat) : OInv xs ys (List.replicate (xs.length + ys.length) 0) 0 := by
  have g : ∀ n j, (List.replicate n 0).getD j 0 = 0 := fun n j => by simp only [List.getD_eq_getElem?_getD, List.getElem?_replicate]; split <;> rfl
  have l : ∀ n, lval 4294967296 (List.replicate n 0) = 0 := fun n => by
    induction n with
    | zero => rfl
    | succ n ih => simp [List.replicate_succ, lval, ih]
  refine ⟨by simp, fun j => by rw [g]; decide, fun j _ => g _ _, by rw [l]; simp [lval]⟩

/-- The block g holds the digits es. -/
def CellsAt (W : World) (g : Nat) (es : List Nat) : Prop := g < W.heap.size ∧ ∀ j, j < es.length → W.cell? ⟨g, j, none⟩ = some (.int .u32 (es.getD j 0 : Nat)) ∧ W.frozen? ⟨g, j, none⟩ = false
theorem CellsAt.set {W : World} {g : Nat} {es : List Nat} (h : CellsAt W g es) (j v : Nat) (hj : j < es.length) : CellsAt (W.setCell ⟨g, j, none⟩ (.int .u32 (v : Nat))) g (es.set j v) := by
  refine ⟨by simpa [World.setCell] using h.1, fun m hm => ?_⟩
  rw [List.length_set] at hm
  obtain ⟨h1, h2⟩ := h.2 m hm
  refine ⟨?_, by rw [World.frozen?_setCell]; exact h2⟩
  rw [getD_set _ _ _ _ hj]
  by_cases e : m = j
  · subst e; rw [if_pos rfl]; simp [go_sem, h1]
  · rw [if_neg e]
    have : ¬ j = m := fun h => e h.symm
    simp [go_sem, h1]
theorem CellsAt.drew {W : World} {g : Nat} {es : List Nat} (h : CellsAt W g es) : CellsAt W.drew g es := h
theorem CellsAt.rd {W : World} {g cap : Nat} {es : List Nat} (h : CellsAt W g es) (hc : es.length ≤ cap) : Rd .u32 W (.slice (some ⟨g, 0, none⟩) es.length cap) es :=
  .inr ⟨g, 0, cap, rfl, hc, h.1, fun i hi => by rw [Nat.zero_add]; exact (h.2 i hi).1⟩
theorem cells_made (w : World) (n : Nat) : CellsAt (w.alloc (.cells (madeCells #[.int .u32 0] n) 129)) w.heap.size (List.replicate n 0) := by
  refine ⟨by simp, fun j hj => ?_⟩
  simp at hj
  have g : (List.replicate n 0).getD j 0 = 0 := by simp only [List.getD_eq_getElem?_getD, List.getElem?_replicate]; split <;> rfl
  rw [g]
  refine ⟨?_, by simp [go_sem]⟩
  rw [World.cell?_alloc_new]
  simp [madeCells, hj, Nat.mod_one]

set_option maxRecDepth 100000 in
set_option maxHeartbeats 8000000 in
/-- NTimes -/
theorem ntimes_any (va vb : Value) (a b : Nat) (w : World) (ha : IsN w va a) (hb : IsN w vb b) (la : a < BIG) (lb : b < BIG) : Calls Tryz.prog 79 #[va, vb] w (SomeN w (a * b)) := by
  obtain ⟨i0, hi0, hz0, hz1, hz2⟩ := info_parts info32
  have HA := Lib.hid (And.intro ha (And.intro hb (And.intro la lb)))
  clear ha hb la lb
  have hmk : Hid (∀ (n : Nat) (W : World), n ≤ 1048578 → (Instr.makeSlice 127 (.int .i64 (n : Int)) (.int .i64 (n : Int))).run Tryz.prog W = .ok (.slice (some ⟨W.heap.size, 0, none⟩) n n) (W.alloc (.cells (madeCells #[.int .u32 0] n) 129))) := by
    intro n W hn
    have := run_make (w := W) 127 129 i0 (.int .u32 0) Tryz.underlying127 hi0 hz0 .i64 .i64 n n (by omega) (by omega) (by rw [hz2]; omega) (by omega)
    rw [this, hz1]; simp [Value.cells]
  go_enter Tryz.func79, Tryz.ntmps79
  go_upto_region 3 with (first | (go_at_call 88; (with_reducible refine (halves_num va a _ HA.out.1 HA.out.2.2.1).mono ?_); rintro e w1 ⟨vx, rfl, hvx, hb1⟩) | (go_at_call 88; (with_reducible refine (halves_num vb b _ (HA.out.2.1.below hb1) HA.out.2.2.2).mono ?_); rintro e w2 ⟨vy, rfl, hvy, hb2⟩))
  obtain ⟨xs, rx, x1, x2, x3⟩ := hvx.below hb2
  obtain ⟨ys, ry, y1, y2, y3⟩ := hvy
  have lx := len_d x3 (by rw [x2]; exact HA.out.2.2.1)
  have ly := len_d y3 (by rw [y2]; exact HA.out.2.2.2)
  obtain ⟨ox, cx, rfl, hcx⟩ := rx.form
  obtain ⟨oy, cy, rfl, hcy⟩ := ry.form
  have HX := Lib.hid (And.intro hcx (And.intro hcy (And.intro x1 (And.intro y1 (And.intro x2 y2)))))
  clear rx ry hcx hcy x1 y1 x2 y2 x3 y3 hvx
  have mk := hmk.out (xs.length + ys.length) w2 (by omega)
  simp only [Int.natCast_add] at mk
  go_wp2
  obtain ⟨nx, hnx⟩ : ∃ n, n = xs.length := ⟨_, rfl⟩
  obtain ⟨ny, hny⟩ : ∃ n, n = ys.length := ⟨_, rfl⟩
  have NX := Lib.hid (And.intro hnx hny)
  rw [← hnx] at lx
  rw [← hny] at ly
  rw [← hnx, ← hny]
  have hC0 : Hid (CellsAt (w2.alloc (.cells (madeCells #[.int .u32 0] (nx + ny)) 129)) w2.heap.size (List.replicate (nx + ny) 0)) := cells_made _ _
  have hO0 : Hid (OInv xs ys (List.replicate (nx + ny) 0) 0) := by rw [hnx, hny]; exact oinv_start xs ys
  clear hnx hny mk
  go_loopw [8] (fun s8 wr => ∃ (i : Nat) (ds : List Nat), i ≤ nx ∧ s8 = .int .i64 i ∧ Hid (OInv xs ys ds i) ∧ Hid (CellsAt wr w2.heap.size ds) ∧ Below w2.heap.size w2 wr) (fun s8 _ => nx - (intOf s8).toNat)
  case atStart => exact ⟨0, _, Nat.zero_le _, rfl, hO0, hC0, (Below.refl _ _).alloc (Nat.le_refl _) _⟩
  case round =>
    obtain ⟨i, ds, hi, rfl, HO, HC, hB⟩ := hrel
    obtain ⟨wo, hwo⟩ : ∃ wo : World, wo = wr := ⟨_, rfl⟩
    subst hwo
    by_cases hlt : i < nx
    · go_wp2
      go_loopw [9, 10] (fun s9 s10 wi => ∃ (k c : Nat) (es : List Nat), k ≤ ny ∧ s9 = .int .u64 c ∧ s10 = .int .i64 k ∧ Hid (KInv xs ys ds es i k c) ∧ Hid (CellsAt wi w2.heap.size es) ∧ Below w2.heap.size w2 wi) (fun _ s10 _ => ny - (intOf s10).toNat)
      case atStart => exact ⟨0, 0, ds, Nat.zero_le _, rfl, rfl, kinv_start HO.out, HC, hB⟩
      case round =>
        obtain ⟨k, c, es, hk, rfl, rfl, HK, HE, hBi⟩ := hrel
        by_cases hkl : k < ny
        · skip
          have hix : i < xs.length := by rw [← NX.out.1]; exact hlt
          have hky : k < ys.length := by rw [← NX.out.2]; exact hkl
          obtain ⟨bx, fx, rfl, hbx, hcellx⟩ := HX.out.1 i hix
          obtain ⟨by', fy, rfl, hby, hcelly⟩ := HX.out.2.1 k hky
          have hcx : wr.cell? ⟨bx, fx + i, none⟩ = some (.int .u32 (xs.getD i 0 : Nat)) := (hBi.cell (p := ⟨bx, fx + i, none⟩) hbx).trans hcellx
          have hcy : wr.cell? ⟨by', fy + k, none⟩ = some (.int .u32 (ys.getD k 0 : Nat)) := (hBi.cell (p := ⟨by', fy + k, none⟩) hby).trans hcelly
          have hlen : i + k < es.length := by have := HK.out.1; omega
          obtain ⟨hce, hfe⟩ := HE.out.2 (i + k) hlen
          have gx := getD_lt (by decide) HX.out.2.2.1 i
          have gy := getD_lt (by decide) HX.out.2.2.2.1 k
          have ge := HK.out.2.1 (i + k)
          have hc4 := HK.out.2.2.2.1
          obtain ⟨t, ht⟩ : ∃ t, t = c + es.getD (i + k) 0 + xs.getD i 0 * ys.getD k 0 := ⟨_, rfl⟩
          obtain ⟨t1, st⟩ := kinv_step HK.out hix hky gx gy ht
          obtain ⟨d, hd⟩ : ∃ d, d = t % 4294967296 := ⟨_, rfl⟩
          obtain ⟨c2, hc2⟩ : ∃ c2, c2 = t / 4294967296 := ⟨_, rfl⟩
          rw [← hd, ← hc2] at st
          have hm : xs.getD i 0 * ys.getD k 0 ≤ 4294967295 * 4294967295 := Nat.mul_le_mul (by omega) (by omega)
          have hS := HE.out.set (i + k) d hlen
          obtain ⟨x, ex⟩ : ∃ x, x = xs.getD i 0 := ⟨_, rfl⟩
          obtain ⟨y, ey⟩ : ∃ y, y = ys.getD k 0 := ⟨_, rfl⟩
          obtain ⟨z, ez⟩ : ∃ z, z = es.getD (i + k) 0 := ⟨_, rfl⟩
          rw [← ex] at hcx ht gx hm
          rw [← ey] at hcy ht gy hm
          rw [← ez] at hce ht ge
          obtain ⟨m, em⟩ : ∃ m, m = x * y := ⟨_, rfl⟩
          have emI : (x : Int) * (y : Int) = (m : Int) := by rw [em, Int.natCast_mul]
          rw [← em] at ht hm
          have w1 : IntKind.u64.wrap ((c : Int) + (z : Int)) = (c : Int) + (z : Int) := by rw [IntKind.wrap_u64]; omega
          have w2' : IntKind.u64.wrap (m : Int) = (m : Int) := by rw [IntKind.wrap_u64]; omega
          have w3 : IntKind.u64.wrap ((c : Int) + (z : Int) + (m : Int)) = (t : Int) := by rw [IntKind.wrap_u64]; omega
          have w4 : IntKind.i64.wrap ((i : Int) + (k : Int)) = (i : Int) + (k : Int) := IntWalk.i64_in _ ⟨by omega, by omega⟩
          have w5 : ((i : Int) + (k : Int)).toNat = i + k := by omega
          have w6 : (0 : Int) ≤ (i : Int) + (k : Int) := by omega
          have w7 : (i : Int) + (k : Int) < (nx : Int) + (ny : Int) := by omega
          have v1 : IntKind.u32.wrap (t : Int) = (d : Int) := by rw [IntKind.wrap_u32]; omega
          have v2 : (t : Int) / 4294967296 = (c2 : Int) := by omega
          have ST := Lib.hid (And.intro st hS)
          have WW : Hid (IntKind.u64.wrap ((x : Int) * (y : Int)) = (m : Int) ∧ IntKind.u64.wrap (m : Int) = (m : Int) ∧ IntKind.u64.wrap ((c : Int) + (z : Int) + (m : Int)) = (t : Int) ∧ (t : Int) % 4294967296 = (d : Int) ∧ (t : Int) / 4294967296 = (c2 : Int)) := ⟨by rw [emI]; exact w2', w2', w3, by omega, v2⟩
          clear st hS ht hd hc2 ex ey ez em hcellx hcelly hm t1
          go_wp2
          go_region_held3 (fun w' => w'.cell? ⟨bx, fx + i, none⟩ = some (.int .u32 (x : Nat)) ∧ w'.cell? ⟨by', fy + k, none⟩ = some (.int .u32 (y : Nat)) ∧ w'.cell? ⟨w2.heap.size, i + k, none⟩ = some (.int .u32 (z : Nat))) (simp [go_sem, *]) (fail)
          clear w1 w2' w3 w4 w5
          go_wp2
          simp only [WW.out.1, WW.out.2.1, WW.out.2.2.1, WW.out.2.2.2.1, WW.out.2.2.2.2]
          refine ⟨⟨k + 1, c2, es.set (i + k) d, by omega, rfl, by go_num, ST.out.1, ST.out.2.drew, ?_⟩, by simp [intOf]; omega⟩
          repeat (first | assumption | exact hBi | apply Below.drew | refine Below.setCell ?_ (by first | omega | (simp; done) | (simp; omega)) _)
        · have hk2 : k = ny := by omega
          subst hk2
          have hix : i < xs.length := by rw [← NX.out.1]; exact hlt
          have hlen : i + k < es.length := by have := HK.out.1; rw [← NX.out.1, ← NX.out.2] at this; omega
          obtain ⟨hce, hfe⟩ := HE.out.2 (i + k) hlen
          have hc4 := HK.out.2.2.2.1
          have st := oinv_step HO.out (by have := HK.out; rw [NX.out.2] at this; exact this) hix
          rw [← NX.out.2] at st
          have hS := HE.out.set (i + k) c hlen
          have v1 : IntKind.u32.wrap (c : Int) = (c : Int) := by rw [IntKind.wrap_u32]; omega
          have ST := Lib.hid (And.intro st hS)
          have w6 : (0 : Int) ≤ (i : Int) + (k : Int) := by omega
          have w7 : (i : Int) + (k : Int) < (nx : Int) + (k : Int) := by omega
          clear st hS
          go_wp2
          refine ⟨⟨i + 1, es.set (i + k) c, by omega, by go_num, ST.out.1, ST.out.2, ?_⟩, by simp [intOf]; omega⟩
          repeat (first | assumption | exact hBi | apply Below.drew | refine Below.setCell ?_ (by first | omega | (simp; done) | (simp; omega)) _)
    · have he : i = nx := by omega
      subst he
      obtain ⟨o1, o2, o3, o4⟩ := HO.out
      rw [NX.out.1, List.take_of_length_le (Nat.le_refl _)] at o4
      have dl : ds.length = i + ny := by rw [o1, ← NX.out.1, ← NX.out.2]
      have lt2 : ∀ x ∈ ds, x < 4294967296 := fun x hx => by
        obtain ⟨j, hj, rfl⟩ := List.mem_iff_getElem.1 hx
        have := o2 j
        simpa [List.getD, hj] using this
      have RD : Hid (Rd .u32 wo (.slice (some ⟨w2.heap.size, 0, none⟩) (i + ny) (i + ny)) ds) := by rw [← dl]; exact HC.out.rd (Nat.le_refl _)
      have TK : Hid (Rd .u32 wo (cutv (.slice (some ⟨w2.heap.size, 0, none⟩) (i + ny) (i + ny)) (trimLen ds)) (ds.take (trimLen ds))) := RD.out.cut _ (trimLen_le _)
      have TL : Hid ((∀ x ∈ ds.take (trimLen ds), x < 4294967296) ∧ (ds.take (trimLen ds)).length ≤ 2199023255552) := ⟨fun x hx => lt2 x (List.mem_of_mem_take hx), by simp; omega⟩
      have TV : Hid (lval 4294967296 (ds.take (trimLen ds)) = a * b) := by unfold Hid; rw [lval_trim, o4, HX.out.2.2.2.2.1, HX.out.2.2.2.2.2]
      have CT := Lib.hid (cutd_any _ ds wo (by omega) RD.out)
      have hBs := hB.size
      clear o1 o2 o3 o4 dl lt2 hlt
      generalize ds.take (trimLen ds) = TT at *
      generalize trimLen ds = tn at *
      go_wp2_with (first | (go_at_call 98; (with_reducible refine (CT.out).mono ?_); rintro e w' ⟨rfl, rfl⟩) | (go_at_call 90; (with_reducible refine (whole_num _ TT _ TK.out TL.out.1 TL.out.2).mono ?_); rintro e w10 ⟨u, rfl, hN, hb10⟩))
      go_ret
      refine ⟨_, rfl, by rw [← TV.out]; exact hN, ?_⟩
      exact (hb1.trans (hb2.mono hb1.size)).trans ((hB.mono (Nat.le_trans hb1.size hb2.size)).trans (hb10.mono (Nat.le_trans (Nat.le_trans hb1.size hb2.size) hBs)))
end Go.Proofs.YtldchepfcgbpiaaGreat
namespace Go.Proofs.YtldchepfcgbpiaaGreat

/-- s is a size. -/
def U (s : Int) : Prop := 0 ≤ hi s ∧ hi s ≤ 18446744073709551615
instance (s : Int) : Decidable (U s) := inferInstanceAs (Decidable (_ ∧ _))
theorem U_iff (s : Int) : U s ↔ 0 ≤ s ∧ s ≤ 340282366920938463463374607431768211455 := by unfold U hi; omega
/-- A size, wrapped. -/
def ws (x : Int) : Int := x % 340282366920938463463374607431768211456
theorem U_ws (x : Int) : U (ws x) := by rw [U_iff]; unfold ws; omega
theorem ws_in {x : Int} (h : U x) : ws x = x := by rw [U_iff] at h; unfold ws; omega
theorem ws_hi (x : Int) : hi (ws x) = hi x % 18446744073709551616 := by unfold ws hi; omega
theorem ws_lo (x : Int) : lo (ws x) = lo x := by unfold ws lo; omega
theorem lo_mul (s p : Int) : lo (s * p) = lo s * p % 18446744073709551616 := by
  unfold lo; rw [Int.mul_emod s p, Int.mul_emod (s % 18446744073709551616) p, Int.emod_emod]
theorem hi_mul64 (x : Int) : hi (x * 18446744073709551616) = x := by unfold hi; omega
theorem lo_mul64 (x : Int) : lo (x * 18446744073709551616) = 0 := by unfold lo; omega

theorem pow_split {n : Nat} (h : 64 ≤ n) : (2 : Int) ^ n = 2 ^ (n - 64) * 18446744073709551616 := by
  obtain ⟨k, rfl⟩ := Nat.exists_eq_add_of_le h
  rw [Nat.add_sub_cancel_left, Int.pow_add, Int.mul_comm]; rfl
theorem left64_hi (s : Int) (n : Nat) (h : 64 ≤ n) : IntKind.u64.wrap (lo s * 2 ^ (n - 64)) = hi (ws (s * 2 ^ n)) := by
  rw [IntKind.wrap_u64, ws_hi, pow_split h, ← Int.mul_assoc, hi_mul64]
  exact (lo_mul s (2 ^ (n - 64))).symm
theorem left64_lo (s : Int) (n : Nat) (h : 64 ≤ n) : 0 = lo (ws (s * 2 ^ n)) := by
  rw [ws_lo, pow_split h, ← Int.mul_assoc, lo_mul64]
theorem left_lo (s : Int) (n : Nat) : IntKind.u64.wrap (lo s * 2 ^ n) = lo (ws (s * 2 ^ n)) := by
  rw [IntKind.wrap_u64, ws_lo, lo_mul]
theorem pow_both {n : Nat} (h : n ≤ 64) : (2 : Int) ^ n * 2 ^ (64 - n) = 18446744073709551616 := by
  rw [← Int.pow_add, Nat.add_sub_cancel' h]; rfl
theorem hi_mul (s p q : Int) (hp : 0 < p) (hpq : p * q = 18446744073709551616) : hi (s * p) = hi s * p + lo s / q := by
  have e : s * p = hi s * p * 18446744073709551616 + lo s * p := by
    conv => lhs; rw [hi_lo s]
    rw [Int.add_mul]; congr 1
    rw [Int.mul_assoc, Int.mul_comm 18446744073709551616 p, ← Int.mul_assoc]
  have f : lo s * p / 18446744073709551616 = lo s / q := by
    rw [← hpq, Int.mul_comm p q]; exact Int.mul_ediv_mul_of_pos_left _ _ hp
  rw [e, ← f]; unfold hi; omega
theorem left_hi (s : Int) (n : Nat) (h : n ≤ 63) (_hs : 0 ≤ hi s) : bits BinOp.or IntKind.u64 (IntKind.u64.wrap (hi s * 2 ^ n)) (lo s / 2 ^ (64 - n)) = hi (ws (s * 2 ^ n)) := by
  have hpq := pow_both (n := n) (by omega)
  have hp : (0 : Int) < 2 ^ n := Int.pow_pos (by decide)
  have hq : (0 : Int) < 2 ^ (64 - n) := Int.pow_pos (by decide)
  rw [ws_hi, hi_mul s _ _ hp hpq]
  have hl := lo_bd s
  -- the parts as natural numbers
  have eP : (2 : Int) ^ n = ((2 ^ n : Nat) : Int) := by simp
  have a0 := Int.emod_nonneg (hi s) (show (2 : Int) ^ (64 - n) ≠ 0 by omega)
  have a1 := Int.emod_lt_of_pos (hi s) hq
  have eA : hi s * 2 ^ n % 18446744073709551616 = 2 ^ n * (hi s % 2 ^ (64 - n)) := by
    rw [← hpq, Int.mul_comm (hi s)]; exact Int.mul_emod_mul_of_pos _ _ hp
  have b0 : 0 ≤ lo s / 2 ^ (64 - n) := Int.ediv_nonneg hl.1 (by omega)
  have b1 : lo s / 2 ^ (64 - n) < 2 ^ n := Int.ediv_lt_of_lt_mul hq (by omega)
  have m1 : 2 ^ n * (hi s % 2 ^ (64 - n)) + 2 ^ n ≤ 18446744073709551616 := by
    have : (2 : Int) ^ n * (hi s % 2 ^ (64 - n) + 1) ≤ 2 ^ n * 2 ^ (64 - n) := Int.mul_le_mul_of_nonneg_left (by omega) (by omega)
    rw [hpq, Int.mul_add, Int.mul_one] at this
    exact this
  have m0 : 0 ≤ 2 ^ n * (hi s % 2 ^ (64 - n)) := Int.mul_nonneg (by omega) a0
  rw [IntKind.wrap_u64, eA]
  generalize hA : hi s % 2 ^ (64 - n) = A at *
  generalize hB : lo s / 2 ^ (64 - n) = B at *
  obtain ⟨A, rfl⟩ := Int.eq_ofNat_of_zero_le a0
  obtain ⟨B, rfl⟩ := Int.eq_ofNat_of_zero_le b0
  have r : (hi s * 2 ^ n + (B : Int)) % 18446744073709551616 = 2 ^ n * (A : Int) + B := by
    generalize hi s * 2 ^ n = X at eA
    generalize (2 : Int) ^ n * (A : Int) = Y at *
    generalize (2 : Int) ^ n = P at *
    omega
  rw [r, eP, ← Int.natCast_mul, u64_or_nat _ _ (by rw [eP, ← Int.natCast_mul] at m1; omega) (by rw [eP] at b1 m1; rw [← Int.natCast_mul] at m1; omega)]
  rw [← Int.natCast_add]
  congr 1
  have bn : B < 2 ^ n := by rw [eP] at b1; omega
  exact (Nat.two_pow_add_eq_or_of_lt bn A).symm

/-- How many bits a size has. -/
def bl (s : Int) : Nat := Lib.bitLenAux 128 s.toNat
theorem bl_zero : bl 0 = 0 := rfl
theorem bl_bd {s : Int} (h : U s) (h0 : s ≠ 0) : 1 ≤ bl s ∧ (2 : Int) ^ (bl s - 1) ≤ s ∧ s < 2 ^ bl s := by
  rw [U_iff] at h
  obtain ⟨x, rfl⟩ := Int.eq_ofNat_of_zero_le h.1
  have := Lib.bitLenAux_bounds 128 x (by have : (2 : Nat) ^ 128 = 340282366920938463463374607431768211456 := by decide
                                         omega) (by omega)
  obtain ⟨a, b, c⟩ := this
  refine ⟨a, ?_, ?_⟩
  · have : ((2 ^ (Lib.bitLenAux 128 x - 1) : Nat) : Int) ≤ (x : Int) := by omega
    simpa [bl] using this
  · have : (x : Int) < ((2 ^ (Lib.bitLenAux 128 x) : Nat) : Int) := by omega
    simpa [bl] using this
theorem bitLenAux_up : ∀ (k f x : Nat), 2 ^ k ≤ x → Lib.bitLenAux (k + f) x = k + Lib.bitLenAux f (x / 2 ^ k)
  | 0, f, x, _ => by simp
  | k + 1, f, x, h => by
    have h2 : 2 ^ k ≤ x / 2 := by rw [Nat.pow_succ] at h; omega
    have hx : x ≠ 0 := by have := Nat.two_pow_pos (k + 1); omega
    have e : x / 2 / 2 ^ k = x / 2 ^ (k + 1) := by rw [Nat.div_div_eq_div_mul, Nat.pow_succ, Nat.mul_comm 2]
    rw [show k + 1 + f = (k + f) + 1 by omega]
    simp only [Lib.bitLenAux, if_neg hx]
    rw [bitLenAux_up k f (x / 2) h2, e]
    omega
theorem bl_low {s : Int} (h : hi s = 0) : Lib.bitLen (lo s).toNat = bl s := by
  have e : s = lo s := by have := hi_lo s; omega
  have b := lo_bd s
  unfold bl Lib.bitLen
  rw [← e]
  exact (Lib.bitLenAux_fuel 64 s.toNat (by have : (2 : Nat) ^ 64 = 18446744073709551616 := by decide
                                           omega) 128 (by omega)).symm
theorem bl_high {s : Int} (h : U s) (g : hi s ≠ 0) : 64 + Lib.bitLen (hi s).toNat = bl s := by
  obtain ⟨h0, h1⟩ := h
  have b := lo_bd s
  have hs := hi_lo s
  have e : (hi s).toNat = s.toNat / 2 ^ 64 := by
    have : (2 : Nat) ^ 64 = 18446744073709551616 := by decide
    omega
  unfold bl Lib.bitLen
  rw [e]
  exact (bitLenAux_up 64 64 s.toNat (by have : (2 : Nat) ^ 64 = 18446744073709551616 := by decide
                                        omega)).symm
theorem bl_le {s : Int} (h : U s) : bl s ≤ 128 := by
  by_cases h0 : s = 0
  · subst h0; decide
  · rw [U_iff] at h
    refine Lib.bitLenAux_le 128 s.toNat 128 ?_
    have : (2 : Nat) ^ 128 = 340282366920938463463374607431768211456 := by decide
    omega
theorem bitLen_64 (x : Int) (h0 : 0 ≤ x) (h1 : x ≤ 18446744073709551615) : Lib.bitLen x.toNat ≤ 64 :=
  Lib.bitLen_le _ 64 (Nat.le_refl _) (by have : (2 : Nat) ^ 64 = 18446744073709551616 := by decide
                                         omega)
end Go.Proofs.YtldchepfcgbpiaaGreat
namespace Go.Proofs.YtldchepfcgbpiaaGreat
open Go.RowKit

theorem add64 (x y c : Int) (hx : 0 ≤ x) (hy : 0 ≤ y) (hc0 : 0 ≤ c) (hc : c ≤ 1) (w : World) : (callFunc 71 #[.int .u64 x, .int .u64 y, .int .u64 c]).run Tryz.prog w =
    .ok (.value (.tuple #[.int .u64 ((x + y + c) % 18446744073709551616), .int .u64 ((x + y + c) / 18446744073709551616)])) w := by
  rw [run_callFunc_extern Tryz.func71 (by kernel_rfl) (by kernel_rfl) (by kernel_rfl) (e := add64Entry) (by kernel_rfl), run_add64 x y c hx hy hc0 hc]
  rfl
theorem sub64 (x y b : Int) (hx : 0 ≤ x) (hy : 0 ≤ y) (hy' : y < 18446744073709551616) (hb0 : 0 ≤ b) (hb : b ≤ 1) (w : World) : (callFunc 103 #[.int .u64 x, .int .u64 y, .int .u64 b]).run Tryz.prog w =
    .ok (.value (.tuple #[.int .u64 ((x - y - b) % 18446744073709551616), .int .u64 (if x < y + b then 1 else 0)])) w := by
  obtain ⟨x, rfl⟩ := Int.eq_ofNat_of_zero_le hx
  obtain ⟨y, rfl⟩ := Int.eq_ofNat_of_zero_le hy
  obtain ⟨b, rfl⟩ := Int.eq_ofNat_of_zero_le hb0
  have e1 : (((x + 18446744073709551616 - y - b) % 18446744073709551616 : Nat) : Int) = ((x : Int) - y - b) % 18446744073709551616 := by omega
  have e2 : ((if x < y + b then 1 else 0 : Nat) : Int) = if (x : Int) < y + b then 1 else 0 := by split <;> split <;> omega
  rw [← e1, ← e2, run_callFunc_extern Tryz.func103 (by kernel_rfl) (by kernel_rfl) (by kernel_rfl) (e := sub64Entry) (by kernel_rfl), run_sub64 x y b (by omega)]
  rfl
theorem add64_0 (x y : Int) (hx : 0 ≤ x) (hy : 0 ≤ y) (w : World) : (callFunc 71 #[.int .u64 x, .int .u64 y, .int .u64 0]).run Tryz.prog w =
    .ok (.value (.tuple #[.int .u64 ((x + y) % 18446744073709551616), .int .u64 ((x + y) / 18446744073709551616)])) w := by
  simpa using add64 x y 0 hx hy (Int.le_refl 0) (by decide) w
def bor (x y : Int) : Int := if x < y then 1 else 0
theorem bor_bd (x y : Int) : 0 ≤ bor x y ∧ bor x y ≤ 1 := by unfold bor; split <;> decide
theorem sub64_b (x y b : Int) (hx : 0 ≤ x) (hy : 0 ≤ y) (hy' : y < 18446744073709551616) (hb0 : 0 ≤ b) (hb : b ≤ 1) (w : World) : (callFunc 103 #[.int .u64 x, .int .u64 y, .int .u64 b]).run Tryz.prog w =
    .ok (.value (.tuple #[.int .u64 ((x - y - b) % 18446744073709551616), .int .u64 (bor x (y + b))])) w := sub64 x y b hx hy hy' hb0 hb w
theorem sub64_0 (x y : Int) (hx : 0 ≤ x) (hy : 0 ≤ y) (hy' : y < 18446744073709551616) (w : World) : (callFunc 103 #[.int .u64 x, .int .u64 y, .int .u64 0]).run Tryz.prog w =
    .ok (.value (.tuple #[.int .u64 ((x - y) % 18446744073709551616), .int .u64 (bor x y)])) w := by
  simpa using sub64_b x y 0 hx hy hy' (Int.le_refl 0) (by decide) w


/-- What two halves added without a look at the sign hold: the sum, wrapped. -/
def wr (x : Int) : Int := (x + 170141183460469231731687303715884105728) % 340282366920938463463374607431768211456 - 170141183460469231731687303715884105728
theorem R_iff (a : Int) : R a ↔ -170141183460469231731687303715884105728 ≤ a ∧ a ≤ 170141183460469231731687303715884105727 := by unfold R hi; omega
theorem wr_in {a : Int} (h : R a) : wr a = a := by rw [R_iff] at h; unfold wr; omega
theorem wrap_hi (x : Int) : hi (wr x) = wrap64 (hi x) := by unfold wr hi wrap64; omega
theorem wr_lo (x : Int) : lo (wr x) = lo x := by unfold wr lo; omega
theorem u64_nn (x : Int) : 0 ≤ IntKind.u64.wrap x := by rw [IntKind.wrap_u64]; omega
theorem u64_lt (x : Int) : IntKind.u64.wrap x < 18446744073709551616 := by rw [IntKind.wrap_u64]; omega
theorem add_lo (a b : Int) : (lo a + lo b) % 18446744073709551616 = lo (wr (a + b)) := by rw [wr_lo]; unfold lo; omega
theorem add_hi (a b : Int) : wrap64 ((IntKind.u64.wrap (hi a) + IntKind.u64.wrap (hi b) + (lo a + lo b) / 18446744073709551616) % 18446744073709551616) = hi (wr (a + b)) := by
  rw [wrap_hi, IntKind.wrap_u64, IntKind.wrap_u64]; unfold hi lo wrap64; omega
/-- What a sum, a difference, a rounded quotient is told as: the number, or 0 with ErrOver. -/
def told (x : Int) : Int := if R x then x else 0
def over (x : Int) : Int := if R x then 0 else 3
theorem told_in {x : Int} (h : R x) : told x = x := if_pos h
theorem over_in {x : Int} (h : R x) : over x = 0 := if_pos h
theorem told_out {x : Int} (h : ¬ R x) : told x = 0 := if_neg h
theorem over_out {x : Int} (h : ¬ R x) : over x = 3 := if_neg h
theorem add_apart {a b : Int} (ha : R a) (hb : R b) (h : (ng a == ng b) = false) : R (a + b) := by
  rw [R_iff] at *; unfold ng at h; by_cases x : a < 0 <;> by_cases y : b < 0 <;> simp [x, y] at h <;> omega
theorem add_turned {a b : Int} (h : (ng a == ng b) = true) (k : (ng (wr (a + b)) == ng a) = false) : ¬ R (a + b) := by
  intro hr; rw [wr_in hr] at k; unfold ng at h k; by_cases x : a < 0 <;> by_cases y : b < 0 <;> simp [x, y] at h k <;> omega
theorem add_kept {a b : Int} (ha : R a) (hb : R b) (h : (ng a == ng b) = true) (k : (ng (wr (a + b)) == ng a) = true) : R (a + b) := by
  rw [R_iff] at *; unfold ng wr at *; by_cases x : a < 0 <;> by_cases y : b < 0 <;> simp [x, y] at h k <;> omega
set_option maxHeartbeats 2000000 in
/-- ratchet/wide.Add -/
theorem add_any (a b : Int) (w : World) (ha : R a) (hb : R b) : Calls Tryz.prog 43 #[Wv a, Wv b] w fun e w' => e = .returned (.tuple #[Wv (told (a + b)), .int .i64 (over (a + b))]) ∧ Below w.heap.size w w' := by
  obtain ⟨a0, a1⟩ := lo_bd a
  obtain ⟨b0, b1⟩ := lo_bd b
  have k0 : 0 ≤ (lo a + lo b) / 18446744073709551616 := by omega
  have k1 : (lo a + lo b) / 18446744073709551616 ≤ 1 := by omega
  have el := add_lo a b
  have eh := add_hi a b
  rcases (by cases (ng a == ng b) <;> cases (ng (wr (a + b)) == ng a) <;> simp : (ng a == ng b) = false ∨ ((ng a == ng b) = true ∧ (ng (wr (a + b)) == ng a) = false) ∨ ((ng a == ng b) = true ∧ (ng (wr (a + b)) == ng a) = true)) with g1 | ⟨g1, g2⟩ | ⟨g1, g2⟩
  · have r := Lib.hid (And.intro ((told_in (add_apart ha hb g1)).trans (wr_in (add_apart ha hb g1)).symm) (over_in (add_apart ha hb g1)))
    clear ha hb
    generalize wr (a + b) = S at *
    go_enter Tryz.func43, Tryz.ntmps43
    go_wp2_with (first | simp only [add64_0 (lo a) (lo b) a0 b0] | simp only [add64 _ _ _ (u64_nn _) (u64_nn _) k0 k1])
    go_region_with (go_at_call 69; (with_reducible refine (below_any _ _).mono ?_); rintro e w' ⟨rfl, rfl⟩)
    all_goals
      go_wp2
      refine bodyPost_ret (v := .tuple #[.agg #[.int .i64 (hi S), .int .u64 (lo S)], .int .i64 0]) (by simp [results, Tryz.results43, go_sem]) rfl ⟨by rw [r.out.1, r.out.2] <;> rfl, ?_⟩
      repeat (first | exact Below.refl _ _ | apply Below.drew | refine Below.setCell ?_ (by simp) _ | refine Below.alloc ?_ (by simp; omega) _ | refine Below.alloc ?_ (by simp) _)
  · have r := Lib.hid (And.intro (told_out (add_turned g1 g2)) (over_out (add_turned g1 g2)))
    clear ha hb
    generalize wr (a + b) = S at *
    go_enter Tryz.func43, Tryz.ntmps43
    go_wp2_with (first | simp only [add64_0 (lo a) (lo b) a0 b0] | simp only [add64 _ _ _ (u64_nn _) (u64_nn _) k0 k1])
    first
    | go_region_held3 (fun w' => w'.cell? ⟨w.heap.size, 0, none⟩ = some (.int .i64 (hi a)) ∧ w'.cell? ⟨w.heap.size, 1, none⟩ = some (.int .u64 (lo a)) ∧ w'.cell? ⟨w.heap.size + 1, 0, none⟩ = some (.int .i64 (hi b)) ∧ w'.cell? ⟨w.heap.size + 1, 1, none⟩ = some (.int .u64 (lo b))
       ∧ w'.cell? ⟨w.heap.size + 3, 0, none⟩ = some (.int .i64 (hi S)) ∧ w'.cell? ⟨w.heap.size + 3, 1, none⟩ = some (.int .u64 (lo S))) (simp [go_sem])
      (first
      | (go_at_call 69; refine (below_any _ _).mono ?_; rintro e w' ⟨rfl, rfl⟩))
    | fail
    all_goals
      go_wp2
      refine bodyPost_ret (v := .tuple #[.agg #[.int .i64 0, .int .u64 0], .int .i64 3]) (by simp [results, Tryz.results43, go_sem]) rfl ⟨by rw [r.out.1, r.out.2] <;> rfl, ?_⟩
      repeat (first | exact Below.refl _ _ | apply Below.drew | refine Below.setCell ?_ (by simp) _ | refine Below.alloc ?_ (by simp; omega) _ | refine Below.alloc ?_ (by simp) _)
  · have r := Lib.hid (And.intro ((told_in (add_kept ha hb g1 g2)).trans (wr_in (add_kept ha hb g1 g2)).symm) (over_in (add_kept ha hb g1 g2)))
    clear ha hb
    generalize wr (a + b) = S at *
    go_enter Tryz.func43, Tryz.ntmps43
    go_wp2_with (first | simp only [add64_0 (lo a) (lo b) a0 b0] | simp only [add64 _ _ _ (u64_nn _) (u64_nn _) k0 k1])
    first
    | go_region_held3 (fun w' => w'.cell? ⟨w.heap.size, 0, none⟩ = some (.int .i64 (hi a)) ∧ w'.cell? ⟨w.heap.size, 1, none⟩ = some (.int .u64 (lo a)) ∧ w'.cell? ⟨w.heap.size + 1, 0, none⟩ = some (.int .i64 (hi b)) ∧ w'.cell? ⟨w.heap.size + 1, 1, none⟩ = some (.int .u64 (lo b))
       ∧ w'.cell? ⟨w.heap.size + 3, 0, none⟩ = some (.int .i64 (hi S)) ∧ w'.cell? ⟨w.heap.size + 3, 1, none⟩ = some (.int .u64 (lo S))) (simp [go_sem])
      (first
      | (go_at_call 69; refine (below_any _ _).mono ?_; rintro e w' ⟨rfl, rfl⟩))
    | fail
    all_goals
      go_wp2
      refine bodyPost_ret (v := .tuple #[.agg #[.int .i64 (hi S), .int .u64 (lo S)], .int .i64 0]) (by simp [results, Tryz.results43, go_sem]) rfl ⟨by rw [r.out.1, r.out.2] <;> rfl, ?_⟩
      repeat (first | exact Below.refl _ _ | apply Below.drew | refine Below.setCell ?_ (by simp) _ | refine Below.alloc ?_ (by simp; omega) _ | refine Below.alloc ?_ (by simp) _)
end Go.Proofs.YtldchepfcgbpiaaGreat
namespace Go.Proofs.YtldchepfcgbpiaaGreat
open Go.RowKit

/-- A whole number's size. -/
def ab (a : Int) : Int := (a.natAbs : Int)
theorem U_ab {a : Int} (h : R a) : U (ab a) := by rw [R_iff] at h; rw [U_iff]; unfold ab; omega
theorem ab_of_neg {a : Int} (ha : R a) (h : ng a = true) : ws (-ws a) = ab a := by
  rw [R_iff] at ha; unfold ng at h; have := of_decide_eq_true h; unfold ws ab; omega
theorem ab_of_pos {a : Int} (ha : R a) (h : ng a = false) : ws a = ab a := by
  rw [R_iff] at ha; unfold ng at h; have := of_decide_eq_false h; unfold ws ab; omega
theorem u64_hi_ws (a : Int) : IntKind.u64.wrap (hi a) = hi (ws a) := by rw [ws_hi, IntKind.wrap_u64]
theorem lo_ws (a : Int) : lo a = lo (ws a) := (ws_lo a).symm

/-- A sign laid on a size. -/
def sd (neg : Bool) (s : Int) : Int := if neg then -s else s
theorem neg_high {s : Int} (h : (0 : Int) < sg s 170141183460469231731687303715884105728) : ¬ R (-s) := by
  rw [R_iff]; unfold sg at h; split at h
  · omega
  · split at h <;> omega
theorem neg_low {s : Int} (hU : U s) (h : ¬ (0 : Int) < sg s 170141183460469231731687303715884105728) : R (-s) ∧ wrap64 (hi (ws (-s))) = hi (-s) ∧ lo (ws (-s)) = lo (-s) := by
  rw [U_iff] at hU
  have hs : s ≤ 170141183460469231731687303715884105728 := by
    unfold sg at h; split at h
    · omega
    · split at h <;> omega
  refine ⟨by rw [R_iff]; omega, ?_, ?_⟩
  · rw [ws_hi]; unfold hi wrap64; omega
  · rw [ws_lo]
theorem pos_high {s : Int} (h : 9223372036854775808 ≤ hi s) : ¬ R s := by intro r; have := r.2; omega
theorem pos_low {s : Int} (hU : U s) (h : hi s < 9223372036854775808) : R s ∧ wrap64 (hi s) = hi s := by
  have := hU.1
  exact ⟨⟨by omega, by omega⟩, by unfold wrap64; omega⟩
end Go.Proofs.YtldchepfcgbpiaaGreat
