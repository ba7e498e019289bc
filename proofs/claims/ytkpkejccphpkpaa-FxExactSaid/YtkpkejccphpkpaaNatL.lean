/-
  The references' whole numbers: differences.
-/
import Derived.Test.YtkpkejccphpkpaaNatP
namespace Go.Proofs.Ytkpkejccphpkpaa
open Go.RowKit

theorem len_mono {B : Nat} (hB : 0 < B) {xs ys : List Nat} (hx : ∀ x ∈ xs, x < B) (ty : trimLen ys = ys.length) (h : lval B ys ≤ lval B xs) : ys.length ≤ xs.length := by
  rcases Nat.lt_or_ge xs.length ys.length with h1 | h1
  · exfalso
    have h0 : ys ≠ [] := by intro e; rw [e] at h1; simp at h1
    have a1 := lval_lt B hB xs hx
    have a2 := lval_ge B ys ty h0
    have a3 : B ^ xs.length ≤ B ^ (ys.length - 1) := Nat.pow_le_pow_right hB (by omega)
    omega
  · exact h1
/-- What holds at each round of a difference. -/
def LInv (xs ys ds : List Nat) (i : Nat) (c : Int) : Prop := ds.length = i ∧ (∀ x ∈ ds, x < 4294967296) ∧ -1 ≤ c ∧ c ≤ 0 ∧ (lval 4294967296 (xs.take i) : Int) - lval 4294967296 (ys.take i) = lval 4294967296 ds + ((4294967296 ^ i : Nat) : Int) * c
theorem linv_alg {P X Y D x y d : Nat} {c s : Int} (h4 : (X : Int) - Y = D + (P : Int) * c) (hs : s = c + (x : Nat) - (y : Nat)) (hd : (d : Int) = s % 4294967296) :
    ((X + P * x : Nat) : Int) - ((Y + P * y : Nat) : Int) = ((D + P * d : Nat) : Int) + ((P * 4294967296 : Nat) : Int) * (s / 4294967296) := by
  have e : s % 4294967296 + 4294967296 * (s / 4294967296) = s := Int.emod_add_mul_ediv s _
  have e2 : (P : Int) * (d : Int) + (P : Int) * 4294967296 * (s / 4294967296) = (P : Int) * c + (P : Int) * (x : Int) - (P : Int) * (y : Int) := by
    rw [hd, Int.mul_assoc, ← Int.mul_add, e, hs, Int.mul_sub, Int.mul_add]
  simp only [Int.natCast_add, Int.natCast_mul]
  have e3 : ((4294967296 : Nat) : Int) = 4294967296 := rfl
  rw [e3]
  generalize (P : Int) * (d : Int) = a1 at *
  generalize (P : Int) * 4294967296 * (s / 4294967296) = a2 at *
  generalize (P : Int) * c = a3 at *
  generalize (P : Int) * (x : Int) = a4 at *
  generalize (P : Int) * (y : Int) = a5 at *
  omega
theorem linv_step {xs ys ds : List Nat} {i : Nat} {c s : Int} {d : Nat} (h : LInv xs ys ds i c) (hx : ∀ x ∈ xs, x < 4294967296) (hy : ∀ x ∈ ys, x < 4294967296) (hs : s = c + (xs.getD i 0 : Nat) - (ys.getD i 0 : Nat)) (hd : (d : Int) = s % 4294967296) : LInv xs ys (ds ++ [d]) (i + 1) (s / 4294967296) := by
  obtain ⟨h1, h2, h3, h3', h4⟩ := h
  have gx := getD_lt (by decide) hx i
  have gy := getD_lt (by decide) hy i
  refine ⟨by simp [h1], ?_, by omega, by omega, ?_⟩
  · intro x hxm
    rw [List.mem_append] at hxm
    rcases hxm with hm | hm
    · exact h2 x hm
    · simp at hm; omega
  · rw [lval_take_succ, lval_take_succ, lval_append, h1, Nat.pow_succ]
    simp only [lval, Nat.mul_zero, Nat.add_zero]
    exact linv_alg h4 hs hd
theorem linv_end {xs ys ds : List Nat} {c : Int} (h : LInv xs ys ds xs.length c) (hy : ys.length ≤ xs.length) (hle : lval 4294967296 ys ≤ lval 4294967296 xs) : lval 4294967296 ds = lval 4294967296 xs - lval 4294967296 ys ∧ ∀ x ∈ ds, x < 4294967296 := by
  obtain ⟨h1, h2, h3, h3', h4⟩ := h
  rw [List.take_of_length_le (Nat.le_refl _), List.take_of_length_le hy] at h4
  have hl := lval_lt 4294967296 (by decide) ds h2
  rw [h1] at hl
  refine ⟨?_, h2⟩
  generalize 4294967296 ^ xs.length = P at *
  have hc : c = 0 := by
    rcases Int.lt_or_le c 0 with h | h
    · have : c = -1 := by omega
      subst this
      omega
    · omega
  subst hc
  omega

set_option maxRecDepth 100000 in
set_option maxHeartbeats 8000000 in
/-- NLess -/
theorem nless_far (va vb : Value) (a b : Nat) (w : World) (ha : IsN w va a) (hb : IsN w vb b) (la : a < BIG) (hab : b ≤ a) : Calls Try.prog 101 #[va, vb] w (SomeNF w (a - b)) := by
  obtain ⟨i0, hi0, hz0, hz1, hz2⟩ := info_parts info32
  have HA := Lib.hid (And.intro ha (And.intro hb (And.intro la (And.intro (show b < BIG by omega) hab))))
  clear ha hb la hab
  go_enter Try.func101, Try.ntmps101
  go_wp2_with (first | (go_at_call 115; (with_reducible refine (halves_num va a _ HA.out.1 HA.out.2.2.1).mono ?_); rintro e w1 ⟨vx, rfl, hvx, hb1⟩) | (go_at_call 115; (with_reducible refine (halves_num vb b _ (HA.out.2.1.below hb1) HA.out.2.2.2.1).mono ?_); rintro e w2 ⟨vy, rfl, hvy, hb2⟩))
  obtain ⟨xs, rx, x1, x2, x3⟩ := hvx.below hb2
  obtain ⟨ys, ry, y1, y2, y3⟩ := hvy
  have lx := len_d x3 (by rw [x2]; exact HA.out.2.2.1)
  have ly := len_mono (by decide) x1 y3 (by rw [x2, y2]; exact HA.out.2.2.2.2)
  obtain ⟨ox, cx, rfl, hcx⟩ := rx.form
  obtain ⟨oy, cy, rfl, hcy⟩ := ry.form
  have HX := Lib.hid (And.intro hcx (And.intro hcy (And.intro x1 (And.intro y1 (And.intro x2 y2)))))
  clear rx ry hcx hcy x1 y1 x2 y2 x3 y3 hvx
  go_loopw [7, 8, 9] (fun s7 s8 s9 wr => ∃ (i : Nat) (ds : List Nat) (c : Int), i ≤ xs.length ∧ s8 = .int .i64 c ∧ s9 = .int .i64 i ∧ Hid (LInv xs ys ds i c) ∧ Hid (wr.ownsRow w2.heap.size 138 1 s7 ds.length (ds.map fun x => Value.int .u32 (x : Nat))) ∧ Below w2.heap.size w2 wr) (fun _ _ s9 _ => xs.length - (intOf s9).toNat)
  case atStart => exact ⟨0, [], 0, Nat.zero_le _, rfl, rfl, ⟨rfl, by simp, by omega, by omega, by simp only [List.take_zero, lval]; omega⟩, World.ownsRow_nil _ _ _ _, Below.refl _ _⟩
  case round =>
    obtain ⟨i, ds, c, him, rfl, rfl, HI, hown, hB⟩ := hrel
    have hBs := hB.size
    have cl : c ≤ 0 := HI.out.2.2.2.1
    have cl' : -1 ≤ c := HI.out.2.2.1
    by_cases hx : i < xs.length
    · by_cases hy : i < ys.length
      · skip
        obtain ⟨bx, fx, rfl, hbx, hcellx⟩ := HX.out.1 i hx
        have hcx : wr.cell? ⟨bx, fx + i, none⟩ = some (.int .u32 (xs.getD i 0 : Nat)) := (hB.cell (p := ⟨bx, fx + i, none⟩) hbx).trans hcellx
        obtain ⟨xi, exi⟩ : ∃ xi, xi = xs.getD i 0 := ⟨_, rfl⟩
        have xl : xi < 4294967296 := by rw [exi]; exact getD_lt (by decide) HX.out.2.2.1 i
        rw [← exi] at hcx
        clear hcellx
        obtain ⟨by', fy, rfl, hby, hcelly⟩ := HX.out.2.1 i hy
        have hcy : wr.cell? ⟨by', fy + i, none⟩ = some (.int .u32 (ys.getD i 0 : Nat)) := (hB.cell (p := ⟨by', fy + i, none⟩) hby).trans hcelly
        obtain ⟨yi, eyi⟩ : ∃ yi, yi = ys.getD i 0 := ⟨_, rfl⟩
        have yl : yi < 4294967296 := by rw [eyi]; exact getD_lt (by decide) HX.out.2.2.2.1 i
        rw [← eyi] at hcy
        clear hcelly
        obtain ⟨s, hs⟩ : ∃ s : Int, s = c + (xi : Int) - (yi : Int) := ⟨_, rfl⟩
        obtain ⟨d, hd⟩ := Int.eq_ofNat_of_zero_le (show 0 ≤ s % 4294967296 by omega)
        have st := linv_step (s := s) (d := d) HI.out HX.out.2.2.1 HX.out.2.2.2.1 (by rw [← exi, ← eyi, hs]) hd.symm
        obtain ⟨c2, hc2⟩ : ∃ c2, c2 = s / 4294967296 := ⟨_, rfl⟩
        rw [← hc2] at st
        have e1 : IntKind.u32.wrap (IntKind.u64.wrap (c + (xi : Int) - (yi : Int))) = (d : Int) := by rw [IntKind.wrap_u32, IntKind.wrap_u64]; omega
        have e2 : (c + (xi : Int) - (yi : Int)) / 4294967296 = c2 := by omega
        have ST := Lib.hid st
        have dl : ds.length ≤ 524289 := by have := HI.out.1; omega
        clear st hs hd hc2 exi eyi
        have HO := hown
        clear hown
        go_wp2_with (at_builtin; refine wpList_append_own _ rfl _ _ 136 rfl w2.heap.size 138 i0 (.int .u32 0) 1 4 Try.underlying136 hi0 hz0 hz1 hz2 rfl (by decide) _ ds.length (ds.map fun x => Value.int .u32 (x : Nat)) rfl (HO.out.alloc _) ⟨wr.heap.size, 0, none⟩ 1 1 [.int .u32 (d : Nat)] rfl rfl ?c1 ?c2 ?c3 ?c4 ?c5 ?_)
        case c1 => exact (cell_one_new _ _ _)
        case c2 => simp [Value.oneCell']
        case c3 => unfold maxLen; omega
        case c4 => omega
        case c5 => simp; omega
        intro v' w9 hown1 hgrow _
        go_wp2
        refine ⟨⟨i + 1, ds ++ [d], c2, by omega, rfl, by go_num, ST.out, ?_, ?_⟩, by simp [intOf]; omega⟩
        · have h1 := hown1
          simpa [Hid] using h1
        · exact (hB.alloc hBs _).grown hgrow (by simp; omega) (fun k hk => (HO.out.lt k hk).1)
      · skip
        obtain ⟨bx, fx, rfl, hbx, hcellx⟩ := HX.out.1 i hx
        have hcx : wr.cell? ⟨bx, fx + i, none⟩ = some (.int .u32 (xs.getD i 0 : Nat)) := (hB.cell (p := ⟨bx, fx + i, none⟩) hbx).trans hcellx
        obtain ⟨xi, exi⟩ : ∃ xi, xi = xs.getD i 0 := ⟨_, rfl⟩
        have xl : xi < 4294967296 := by rw [exi]; exact getD_lt (by decide) HX.out.2.2.1 i
        rw [← exi] at hcx
        clear hcellx
        have zy : ys.getD i 0 = 0 := by simp [List.getD, List.getElem?_eq_none (by omega : ys.length ≤ i)]
        obtain ⟨s, hs⟩ : ∃ s : Int, s = c + (xi : Int) := ⟨_, rfl⟩
        obtain ⟨d, hd⟩ := Int.eq_ofNat_of_zero_le (show 0 ≤ s % 4294967296 by omega)
        have st := linv_step (s := s) (d := d) HI.out HX.out.2.2.1 HX.out.2.2.2.1 (by rw [← exi, zy, hs]; simp) hd.symm
        obtain ⟨c2, hc2⟩ : ∃ c2, c2 = s / 4294967296 := ⟨_, rfl⟩
        rw [← hc2] at st
        have e1 : IntKind.u32.wrap (IntKind.u64.wrap (c + (xi : Int))) = (d : Int) := by rw [IntKind.wrap_u32, IntKind.wrap_u64]; omega
        have e2 : (c + (xi : Int)) / 4294967296 = c2 := by omega
        have ST := Lib.hid st
        have dl : ds.length ≤ 524289 := by have := HI.out.1; omega
        clear st hs hd hc2 exi zy
        have HO := hown
        clear hown
        go_wp2_with (at_builtin; refine wpList_append_own _ rfl _ _ 136 rfl w2.heap.size 138 i0 (.int .u32 0) 1 4 Try.underlying136 hi0 hz0 hz1 hz2 rfl (by decide) _ ds.length (ds.map fun x => Value.int .u32 (x : Nat)) rfl (HO.out.alloc _) ⟨wr.heap.size, 0, none⟩ 1 1 [.int .u32 (d : Nat)] rfl rfl ?c1 ?c2 ?c3 ?c4 ?c5 ?_)
        case c1 => exact (cell_one_new _ _ _)
        case c2 => simp [Value.oneCell']
        case c3 => unfold maxLen; omega
        case c4 => omega
        case c5 => simp; omega
        intro v' w9 hown1 hgrow _
        go_wp2
        refine ⟨⟨i + 1, ds ++ [d], c2, by omega, rfl, by go_num, ST.out, ?_, ?_⟩, by simp [intOf]; omega⟩
        · have h1 := hown1
          simpa [Hid] using h1
        · exact (hB.alloc hBs _).grown hgrow (by simp; omega) (fun k hk => (HO.out.lt k hk).1)
    · have he : i = xs.length := by omega
      subst he
      obtain ⟨p1, p2⟩ := linv_end HI.out ly (by rw [HX.out.2.2.2.2.1, HX.out.2.2.2.2.2]; exact HA.out.2.2.2.2)
      have P2 := Lib.hid p2
      have dl : ds.length ≤ 524289 := by have := HI.out.1; omega
      have RD := Lib.hid (own_rd hown.out)
      have TK : Hid (Rd .u32 wr (cutv u7 (trimLen ds)) (ds.take (trimLen ds))) := RD.out.cut _ (trimLen_le _)
      have TL : Hid ((∀ x ∈ ds.take (trimLen ds), x < 4294967296) ∧ (ds.take (trimLen ds)).length ≤ 2199023255552) := ⟨fun x hx => P2.out x (List.mem_of_mem_take hx), by simp; omega⟩
      have TV : Hid (lval 4294967296 (ds.take (trimLen ds)) = a - b) := by unfold Hid; rw [lval_trim, p1, HX.out.2.2.2.2.1, HX.out.2.2.2.2.2]
      have CT := Lib.hid (cutd_any u7 ds wr (by omega) RD.out)
      clear hown p1 p2 hx
      generalize ds.take (trimLen ds) = TT at *
      generalize trimLen ds = tn at *
      go_wp2_with (first | (go_at_call 117; (with_reducible refine (CT.out).mono ?_); rintro e w' ⟨rfl, rfl⟩) | (go_at_call 116; (with_reducible refine (whole_far _ TT _ TK.out TL.out.1 TL.out.2).mono ?_); rintro e w10 ⟨u, rfl, hN, hb10, far⟩))
      go_ret
      refine ⟨_, rfl, by rw [← TV.out]; exact hN, ?_, fun b' hb' => far b' (by have h1 := hb1.size; have h2 := hb2.size; omega)⟩
      exact (hb1.trans (hb2.mono hb1.size)).trans ((hB.mono (Nat.le_trans hb1.size hb2.size)).trans (hb10.mono (Nat.le_trans (Nat.le_trans hb1.size hb2.size) hBs)))
theorem nless_any (va vb : Value) (a b : Nat) (w : World) (ha : IsN w va a) (hb : IsN w vb b) (la : a < BIG) (hab : b ≤ a) : Calls Try.prog 101 #[va, vb] w (SomeN w (a - b)) :=
  (nless_far va vb a b w ha hb la hab).mono fun _ _ h => h.some
end Go.Proofs.Ytkpkejccphpkpaa
