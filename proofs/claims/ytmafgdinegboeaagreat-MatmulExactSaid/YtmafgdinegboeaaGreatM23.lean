/-
  
  
  
  
-/
import Derived.Laws.MakeOwn
import Derived.Deep.DeepCutAuto
import Derived.Test.YtmafgdinegboeaaGreatM09
import Derived.Test.YtmafgdinegboeaaGreatM22
namespace Go.Proofs.YtmafgdinegboeaaGreat
open Go.RowKit

theorem len_less {B : Nat} (hB : 0 < B) {xs ys : List Nat} (hx : ∀ x ∈ xs, x < B) (ty : trimLen ys = ys.length) (h : xs.length < ys.length) : lval B xs < lval B ys := by
  rcases Nat.lt_or_ge (lval B xs) (lval B ys) with h1 | h1
  · exact h1
  · have := len_mono hB hx ty h1; omega
theorem top_less {B : Nat} (hB : 0 < B) {xs ys : List Nat} {m : Nat} (hx : ∀ x ∈ xs, x < B) (hl : xs.length = ys.length) (hm : m < xs.length) (hd : xs.drop (m + 1) = ys.drop (m + 1)) (h : xs.getD m 0 < ys.getD m 0) : lval B xs < lval B ys := by
  have e1 := lval_split B xs m (by omega)
  have e2 := lval_split B ys m (by omega)
  have hmy : m < ys.length := by omega
  have d1 : xs.drop m = xs.getD m 0 :: xs.drop (m + 1) := by rw [List.drop_eq_getElem_cons hm]; simp [List.getD, hm]
  have d2 : ys.drop m = ys.getD m 0 :: ys.drop (m + 1) := by rw [List.drop_eq_getElem_cons hmy]; simp [List.getD, hmy]
  rw [d1, hd] at e1
  rw [d2] at e2
  simp only [lval] at e1 e2
  have l1 := lval_lt B hB (xs.take m) (fun x hxm => hx x (List.mem_of_mem_take hxm))
  rw [List.length_take, Nat.min_eq_left (by omega)] at l1
  have m1 := Nat.mul_le_mul_left (B ^ m) (show xs.getD m 0 + B * lval B (ys.drop (m + 1)) + 1 ≤ ys.getD m 0 + B * lval B (ys.drop (m + 1)) by omega)
  rw [Nat.mul_add, Nat.mul_one] at m1
  omega

set_option maxRecDepth 100000 in
set_option maxHeartbeats 8000000 in
theorem ncmp_any (va vb : Value) (a b : Nat) (w : World) (ha : IsN w va a) (hb : IsN w vb b) (la : a < BIG) (lb : b < BIG) : Calls Tryz.prog 115 #[va, vb] w fun e w' => e = .returned (.int .i64 (sg a b)) ∧ Below w.heap.size w w' := by
  obtain ⟨xs, rx, x1, x2, x3⟩ := ha
  obtain ⟨ys, ry, y1, y2, y3⟩ := hb
  have lx := len_n x3 (by rw [x2]; exact la)
  have ly := len_n y3 (by rw [y2]; exact lb)
  obtain ⟨ox, cx, rfl, hcx⟩ := rx.form
  obtain ⟨oy, cy, rfl, hcy⟩ := ry.form
  have HX := Lib.hid (And.intro hcx (And.intro hcy (And.intro x1 (And.intro y1 (And.intro x2 y2)))))
  clear la lb
  rcases Nat.lt_trichotomy xs.length ys.length with hl | hl | hl
  · have E := Lib.hid (sg_lt (show (a : Int) < b by have := len_less (by decide) x1 y3 hl; omega))
    have hl' : (xs.length : Int) < ys.length := by omega
    have hn : ((xs.length : Int) == ys.length) = false := by simp; omega
    clear rx ry hcx hcy x1 y1 x2 y2 x3 y3 hl
    go_enter Tryz.func115, Tryz.ntmps115
    go_wp2
    go_ret
    exact ⟨by rw [E.out]; rfl, Below.refl _ _⟩
  · obtain ⟨n, hn⟩ : ∃ n, n = ys.length := ⟨_, rfl⟩
    have EQ := Lib.hid hl
    have L : Hid (xs.length = n ∧ ys.length = n) := ⟨by rw [hn]; exact hl, hn.symm⟩
    rw [hl, ← hn] 
    rw [← hn] at ly
    clear rx ry hcx hcy x1 y1 x2 y2 x3 y3 hl lx hn
    go_enter Tryz.func115, Tryz.ntmps115
    go_wp2
    go_loopw [5] (fun s5 wr => ∃ z : Int, s5 = .int .i64 z ∧ -1 ≤ z ∧ z < n ∧ Hid (xs.drop (z + 1).toNat = ys.drop (z + 1).toNat) ∧ Below w.heap.size w wr) (fun s5 _ => (intOf s5 + 1).toNat)
    case atStart => exact ⟨_, rfl, by omega, by omega, by unfold Hid; rw [List.drop_eq_nil_of_le (by have := L.out.1; omega), List.drop_eq_nil_of_le (by have := L.out.2; omega)], Below.refl _ _⟩
    case round =>
      obtain ⟨z, rfl, z0, z1, hd, hB⟩ := hrel
      have hBs := hB.size
      by_cases hz : z < 0
      · have E : Hid (sg (a : Int) b = 0) := by
          have e : xs = ys := by have := hd.out; rw [show (z + 1).toNat = 0 by omega] at this; simpa using this
          have : a = b := by rw [← HX.out.2.2.2.2.1, ← HX.out.2.2.2.2.2, e]
          rw [this]; exact sg_eq _
        go_wp2
        go_ret
        exact ⟨by rw [E.out]; rfl, hB⟩
      · obtain ⟨m, rfl⟩ := Int.eq_ofNat_of_zero_le (show 0 ≤ z by omega)
        have hm : m < n := by omega
        obtain ⟨bx, fx, rfl, hbx, hcellx⟩ := HX.out.1 m (by rw [L.out.1]; exact hm)
        obtain ⟨by', fy, rfl, hby, hcelly⟩ := HX.out.2.1 m (by rw [L.out.2]; exact hm)
        have hcx : wr.cell? ⟨bx, fx + m, none⟩ = some (.int .u64 (xs.getD m 0 : Nat)) := (hB.cell (p := ⟨bx, fx + m, none⟩) hbx).trans hcellx
        have hcy : wr.cell? ⟨by', fy + m, none⟩ = some (.int .u64 (ys.getD m 0 : Nat)) := (hB.cell (p := ⟨by', fy + m, none⟩) hby).trans hcelly
        obtain ⟨x, ex⟩ : ∃ x, x = xs.getD m 0 := ⟨_, rfl⟩
        obtain ⟨y, ey⟩ : ∃ y, y = ys.getD m 0 := ⟨_, rfl⟩
        rw [← ex] at hcx
        rw [← ey] at hcy
        clear hcellx hcelly
        have hdm : Hid (xs.drop (m + 1) = ys.drop (m + 1)) := by have := hd.out; rwa [show ((m : Int) + 1).toNat = m + 1 by omega] at this
        have EX := Lib.hid (And.intro ex ey)
        clear ex ey hd
        have hlen : Hid (xs.length = ys.length ∧ m < xs.length) := ⟨by rw [L.out.1, L.out.2], by rw [L.out.1]; exact hm⟩
        rcases Nat.lt_trichotomy x y with h | h | h
        · have E : Hid (sg (a : Int) b = -1) := sg_lt (by have := top_less (by decide) HX.out.2.2.1 hlen.out.1 hlen.out.2 hdm.out (by rw [← EX.out.1, ← EX.out.2]; exact h); rw [HX.out.2.2.2.2.1, HX.out.2.2.2.2.2] at this; omega)
          have h' : (x : Int) < y := by omega
          go_wp2
          go_region_held3 (fun w' => w'.cell? ⟨bx, fx + m, none⟩ = some (.int .u64 (x : Nat)) ∧ w'.cell? ⟨by', fy + m, none⟩ = some (.int .u64 (y : Nat))) (simp [go_sem, *]) (fail)
          go_wp2
          go_ret
          exact ⟨by rw [E.out]; rfl, by repeat (first | assumption | apply Below.drew)⟩
        · subst h
          have hN : Hid (xs.drop m = ys.drop m) := by
            unfold Hid
            have hmx : m < xs.length := hlen.out.2
            have hmy : m < ys.length := by rw [← hlen.out.1]; exact hmx
            rw [List.drop_eq_getElem_cons hmx, List.drop_eq_getElem_cons hmy, hdm.out]
            congr 1
            have e1 := EX.out.1
            have e2 := EX.out.2
            simp only [List.getD, List.getElem?_eq_getElem hlen.out.2, Option.getD_some] at e1
            simp only [List.getD, List.getElem?_eq_getElem (show m < ys.length by rw [← hlen.out.1]; exact hlen.out.2), Option.getD_some] at e2
            rw [← e1, ← e2]
          go_wp2
          go_region_held3 (fun w' => w'.cell? ⟨bx, fx + m, none⟩ = some (.int .u64 (x : Nat)) ∧ w'.cell? ⟨by', fy + m, none⟩ = some (.int .u64 (x : Nat))) (simp [go_sem, *]) (fail)
          go_wp2
          go_region_held3 (fun w' => w'.cell? ⟨bx, fx + m, none⟩ = some (.int .u64 (x : Nat)) ∧ w'.cell? ⟨by', fy + m, none⟩ = some (.int .u64 (x : Nat))) (simp [go_sem, *]) (fail)
          go_wp2
          refine ⟨⟨(m : Int) - 1, rfl, by omega, by omega, ?_, ?_⟩, by simp [intOf]⟩
          · rw [show ((m : Int) - 1 + 1).toNat = m by omega]; exact hN
          · repeat (first | assumption | apply Below.drew)
        · have E : Hid (sg (a : Int) b = 1) := sg_gt (by have := top_less (by decide) HX.out.2.2.2.1 hlen.out.1.symm (by rw [← hlen.out.1]; exact hlen.out.2) hdm.out.symm (by rw [← EX.out.1, ← EX.out.2]; exact h); rw [HX.out.2.2.2.2.1, HX.out.2.2.2.2.2] at this; omega)
          have h' : (y : Int) < x := by omega
          go_wp2
          go_region_held3 (fun w' => w'.cell? ⟨bx, fx + m, none⟩ = some (.int .u64 (x : Nat)) ∧ w'.cell? ⟨by', fy + m, none⟩ = some (.int .u64 (y : Nat))) (simp [go_sem, *]) (fail)
          go_wp2
          go_region_held3 (fun w' => w'.cell? ⟨bx, fx + m, none⟩ = some (.int .u64 (x : Nat)) ∧ w'.cell? ⟨by', fy + m, none⟩ = some (.int .u64 (y : Nat))) (simp [go_sem, *]) (fail)
          go_wp2
          go_ret
          exact ⟨by rw [E.out]; rfl, by repeat (first | assumption | apply Below.drew)⟩
  · have E := Lib.hid (sg_gt (show (b : Int) < a by have := len_less (by decide) y1 x3 hl; omega))
    have hl' : (ys.length : Int) < xs.length := by omega
    have hn : ((xs.length : Int) == ys.length) = false := by simp; omega
    clear rx ry hcx hcy x1 y1 x2 y2 x3 y3 hl
    go_enter Tryz.func115, Tryz.ntmps115
    go_wp2
    go_ret
    exact ⟨by rw [E.out]; rfl, Below.refl _ _⟩
end Go.Proofs.YtmafgdinegboeaaGreat
namespace Go.Proofs.YtmafgdinegboeaaGreat
open Go.RowKit

theorem lval_set (B : Nat) : ∀ (es : List Nat) (j v : Nat), j < es.length → lval B (es.set j v) + B ^ j * es.getD j 0 = lval B es + B ^ j * v
  | x :: es, 0, v, _ => by simp [lval]; omega
  | x :: es, j + 1, v, h => by
    have ih := lval_set B es j v (by simpa using h)
    simp only [List.set_cons_succ, lval, List.getD_cons_succ, Nat.pow_succ]
    have e : ∀ z : Nat, B ^ j * B * z = B * (B ^ j * z) := fun z => by rw [Nat.mul_comm (B ^ j) B, Nat.mul_assoc]
    rw [e, e]
    have := congrArg (B * ·) ih
    simp only [Nat.mul_add] at this
    omega
theorem getD_set (es : List Nat) (j m v : Nat) (hj : j < es.length) : (es.set j v).getD m 0 = if m = j then v else es.getD m 0 := by
  simp only [List.getD_eq_getElem?_getD, List.getElem?_set]
  by_cases h : j = m
  · subst h; simp [hj]
  · rw [if_neg h, if_neg (fun e => h e.symm)]
def OInv (xs ys ds : List Nat) (i : Nat) : Prop := ds.length = xs.length + ys.length ∧ (∀ j, ds.getD j 0 < 4294967296) ∧ (∀ j, i + ys.length ≤ j → ds.getD j 0 = 0) ∧ lval 4294967296 ds = lval 4294967296 (xs.take i) * lval 4294967296 ys
def KInv (xs ys ds es : List Nat) (i k c : Nat) : Prop := es.length = xs.length + ys.length ∧ (∀ j, es.getD j 0 < 4294967296) ∧ (∀ j, i + ys.length ≤ j → es.getD j 0 = 0) ∧ c < 4294967296 ∧
  lval 4294967296 es + 4294967296 ^ (i + k) * c = lval 4294967296 ds + 4294967296 ^ i * xs.getD i 0 * lval 4294967296 (ys.take k)
theorem kinv_start {xs ys ds : List Nat} {i : Nat} (h : OInv xs ys ds i) : KInv xs ys ds ds i 0 0 := ⟨h.1, h.2.1, h.2.2.1, by decide, by simp [lval]⟩
theorem kinv_step {xs ys ds es : List Nat} {i k c t : Nat} (h : KInv xs ys ds es i k c) (hi : i < xs.length) (hk : k < ys.length) (hx : xs.getD i 0 < 4294967296) (hy : ys.getD k 0 < 4294967296) (ht : t = c + es.getD (i + k) 0 + xs.getD i 0 * ys.getD k 0) :
    t < 18446744073709551616 ∧ KInv xs ys ds (es.set (i + k) (t % 4294967296)) i (k + 1) (t / 4294967296) := by
  obtain ⟨h1, h2, h3, h4, h5⟩ := h
  have he := h2 (i + k)
  have hm : xs.getD i 0 * ys.getD k 0 ≤ 4294967295 * 4294967295 := Nat.mul_le_mul (by omega) (by omega)
  have hlt : i + k < es.length := by omega
  refine ⟨by omega, by simp [h1], fun j => ?_, fun j hj => ?_, by omega, ?_⟩
  · rw [getD_set _ _ _ _ hlt]; split
    · omega
    · exact h2 j
  · rw [getD_set _ _ _ _ hlt, if_neg (by omega)]; exact h3 j hj
  · have s := lval_set 4294967296 es (i + k) (t % 4294967296) hlt
    rw [lval_take_succ]
    have e : t % 4294967296 + 4294967296 * (t / 4294967296) = t := Nat.mod_add_div _ _
    rw [show i + (k + 1) = (i + k) + 1 by omega, Nat.pow_succ]
    have e1 : 4294967296 ^ (i + k) * (t % 4294967296) + 4294967296 ^ (i + k) * 4294967296 * (t / 4294967296) = 4294967296 ^ (i + k) * t := by rw [Nat.mul_assoc, ← Nat.mul_add, e]
    have e2 : 4294967296 ^ (i + k) * t = 4294967296 ^ (i + k) * c + 4294967296 ^ (i + k) * es.getD (i + k) 0 + 4294967296 ^ (i + k) * (xs.getD i 0 * ys.getD k 0) := by rw [ht, Nat.mul_add, Nat.mul_add]
    have e3 : 4294967296 ^ (i + k) * (xs.getD i 0 * ys.getD k 0) = 4294967296 ^ i * xs.getD i 0 * (4294967296 ^ k * ys.getD k 0) := by
      rw [Nat.pow_add]; simp only [Nat.mul_assoc, Nat.mul_left_comm]
    rw [Nat.mul_add (4294967296 ^ i * xs.getD i 0)]
    omega
theorem oinv_step {xs ys ds es : List Nat} {i c : Nat} (ho : OInv xs ys ds i) (h : KInv xs ys ds es i ys.length c) (hi : i < xs.length) : OInv xs ys (es.set (i + ys.length) c) (i + 1) := by
  obtain ⟨h1, h2, h3, h4, h5⟩ := h
  obtain ⟨o1, o2, o3, o4⟩ := ho
  have hlt : i + ys.length < es.length := by omega
  refine ⟨by simp [h1], fun j => ?_, fun j hj => ?_, ?_⟩
  · rw [getD_set _ _ _ _ hlt]; split
    · exact h4
    · exact h2 j
  · rw [getD_set _ _ _ _ hlt, if_neg (by omega)]; exact h3 j (by omega)
  · have s := lval_set 4294967296 es (i + ys.length) c hlt
    rw [h3 _ (Nat.le_refl _), Nat.mul_zero, Nat.add_zero] at s
    rw [s, h5, List.take_of_length_le (Nat.le_refl _), o4, lval_take_succ, Nat.add_mul]
theorem oinv_start (xs ys : List Nat) : OInv xs ys (List.replicate (xs.length + ys.length) 0) 0 := by
  have g : ∀ n j, (List.replicate n 0).getD j 0 = 0 := fun n j => by simp only [List.getD_eq_getElem?_getD, List.getElem?_replicate]; split <;> rfl
  have l : ∀ n, lval 4294967296 (List.replicate n 0) = 0 := fun n => by
    induction n with
    | zero => rfl
    | succ n ih => simp [List.replicate_succ, lval, ih]
  refine ⟨by simp, fun j => by rw [g]; decide, fun j _ => g _ _, by rw [l]; simp [lval]⟩

def CellsAt (W : World) (g : Nat) (es : List Nat) : Prop := g < W.heap.size ∧ ∀ j, j < es.length → W.cell? ⟨g, j, none⟩ = some (.int .u32 (es.getD j 0 : Nat)) ∧ W.frozen? ⟨g, j, none⟩ = false
theorem CellsAt.set {W : World} {g : Nat} {es : List Nat} (h : CellsAt W g es) (j v : Nat) (hj : j < es.length) : CellsAt (W.setCell ⟨g, j, none⟩ (.int .u32 (v : Nat))) g (es.set j v) := by
  refine ⟨by simpa [World.setCell] using h.1, fun m hm => ?_⟩
  rw [List.length_set] at hm
  obtain ⟨h1, h2⟩ := h.2 m hm
  refine ⟨?_, by rw [World.frozen?_setCell]; exact h2⟩
  rw [getD_set _ _ _ _ hj]
  by_cases e : m = j
  · subst e; rw [if_pos rfl]; simp [go_sem, h1]
  · rw [if_neg e]
    have : ¬ j = m := fun h => e h.symm
    simp [go_sem, h1]
theorem CellsAt.drew {W : World} {g : Nat} {es : List Nat} (h : CellsAt W g es) : CellsAt W.drew g es := h
theorem CellsAt.rd {W : World} {g cap : Nat} {es : List Nat} (h : CellsAt W g es) (hc : es.length ≤ cap) : Rd .u32 W (.slice (some ⟨g, 0, none⟩) es.length cap) es :=
  .inr ⟨g, 0, cap, rfl, hc, h.1, fun i hi => by rw [Nat.zero_add]; exact (h.2 i hi).1⟩
theorem cells_made (w : World) (n : Nat) : CellsAt (w.alloc (.cells (madeCells #[.int .u32 0] n) 239)) w.heap.size (List.replicate n 0) := by
  refine ⟨by simp, fun j hj => ?_⟩
  simp at hj
  have g : (List.replicate n 0).getD j 0 = 0 := by simp only [List.getD_eq_getElem?_getD, List.getElem?_replicate]; split <;> rfl
  rw [g]
  refine ⟨?_, by simp [go_sem]⟩
  rw [World.cell?_alloc_new]
  simp [madeCells, hj, Nat.mod_one]

set_option maxRecDepth 100000 in
set_option maxHeartbeats 8000000 in
theorem ntimes_any (va vb : Value) (a b : Nat) (w : World) (ha : IsN w va a) (hb : IsN w vb b) (la : a < BIG) (lb : b < BIG) : Calls Tryz.prog 152 #[va, vb] w (SomeN w (a * b)) := by
  obtain ⟨i0, hi0, hz0, hz1, hz2⟩ := info_parts info32
  have HA := Lib.hid (And.intro ha (And.intro hb (And.intro la lb)))
  clear ha hb la lb
  have hmk : Hid (∀ (n : Nat) (W : World), n ≤ 1048578 → (Instr.makeSlice 237 (.int .i64 (n : Int)) (.int .i64 (n : Int))).run Tryz.prog W = .ok (.slice (some ⟨W.heap.size, 0, none⟩) n n) (W.alloc (.cells (madeCells #[.int .u32 0] n) 239))) := by
    intro n W hn
    have := run_make (w := W) 237 239 i0 (.int .u32 0) Tryz.underlying237 hi0 hz0 .i64 .i64 n n (by omega) (by omega) (by rw [hz2]; omega) (by omega)
    rw [this, hz1]; simp [Value.cells]
  go_enter Tryz.func152, Tryz.ntmps152
  go_upto_region 3 with (first | (go_at_call 169; (with_reducible refine (halves_num va a _ HA.out.1 HA.out.2.2.1).mono ?_); rintro e w1 ⟨vx, rfl, hvx, hb1⟩) | (go_at_call 169; (with_reducible refine (halves_num vb b _ (HA.out.2.1.below hb1) HA.out.2.2.2).mono ?_); rintro e w2 ⟨vy, rfl, hvy, hb2⟩))
  obtain ⟨xs, rx, x1, x2, x3⟩ := hvx.below hb2
  obtain ⟨ys, ry, y1, y2, y3⟩ := hvy
  have lx := len_d x3 (by rw [x2]; exact HA.out.2.2.1)
  have ly := len_d y3 (by rw [y2]; exact HA.out.2.2.2)
  obtain ⟨ox, cx, rfl, hcx⟩ := rx.form
  obtain ⟨oy, cy, rfl, hcy⟩ := ry.form
  have HX := Lib.hid (And.intro hcx (And.intro hcy (And.intro x1 (And.intro y1 (And.intro x2 y2)))))
  clear rx ry hcx hcy x1 y1 x2 y2 x3 y3 hvx
  have mk := hmk.out (xs.length + ys.length) w2 (by omega)
  simp only [Int.natCast_add] at mk
  go_wp2
  obtain ⟨nx, hnx⟩ : ∃ n, n = xs.length := ⟨_, rfl⟩
  obtain ⟨ny, hny⟩ : ∃ n, n = ys.length := ⟨_, rfl⟩
  have NX := Lib.hid (And.intro hnx hny)
  rw [← hnx] at lx
  rw [← hny] at ly
  rw [← hnx, ← hny]
  have hC0 : Hid (CellsAt (w2.alloc (.cells (madeCells #[.int .u32 0] (nx + ny)) 239)) w2.heap.size (List.replicate (nx + ny) 0)) := cells_made _ _
  have hO0 : Hid (OInv xs ys (List.replicate (nx + ny) 0) 0) := by rw [hnx, hny]; exact oinv_start xs ys
  clear hnx hny mk
  go_loopw [8] (fun s8 wr => ∃ (i : Nat) (ds : List Nat), i ≤ nx ∧ s8 = .int .i64 i ∧ Hid (OInv xs ys ds i) ∧ Hid (CellsAt wr w2.heap.size ds) ∧ Below w2.heap.size w2 wr) (fun s8 _ => nx - (intOf s8).toNat)
  case atStart => exact ⟨0, _, Nat.zero_le _, rfl, hO0, hC0, (Below.refl _ _).alloc (Nat.le_refl _) _⟩
  case round =>
    obtain ⟨i, ds, hi, rfl, HO, HC, hB⟩ := hrel
    obtain ⟨wo, hwo⟩ : ∃ wo : World, wo = wr := ⟨_, rfl⟩
    subst hwo
    by_cases hlt : i < nx
    · go_wp2
      go_loopw [9, 10] (fun s9 s10 wi => ∃ (k c : Nat) (es : List Nat), k ≤ ny ∧ s9 = .int .u64 c ∧ s10 = .int .i64 k ∧ Hid (KInv xs ys ds es i k c) ∧ Hid (CellsAt wi w2.heap.size es) ∧ Below w2.heap.size w2 wi) (fun _ s10 _ => ny - (intOf s10).toNat)
      case atStart => exact ⟨0, 0, ds, Nat.zero_le _, rfl, rfl, kinv_start HO.out, HC, hB⟩
      case round =>
        obtain ⟨k, c, es, hk, rfl, rfl, HK, HE, hBi⟩ := hrel
        by_cases hkl : k < ny
        · skip
          have hix : i < xs.length := by rw [← NX.out.1]; exact hlt
          have hky : k < ys.length := by rw [← NX.out.2]; exact hkl
          obtain ⟨bx, fx, rfl, hbx, hcellx⟩ := HX.out.1 i hix
          obtain ⟨by', fy, rfl, hby, hcelly⟩ := HX.out.2.1 k hky
          have hcx : wr.cell? ⟨bx, fx + i, none⟩ = some (.int .u32 (xs.getD i 0 : Nat)) := (hBi.cell (p := ⟨bx, fx + i, none⟩) hbx).trans hcellx
          have hcy : wr.cell? ⟨by', fy + k, none⟩ = some (.int .u32 (ys.getD k 0 : Nat)) := (hBi.cell (p := ⟨by', fy + k, none⟩) hby).trans hcelly
          have hlen : i + k < es.length := by have := HK.out.1; omega
          obtain ⟨hce, hfe⟩ := HE.out.2 (i + k) hlen
          have gx := getD_lt (by decide) HX.out.2.2.1 i
          have gy := getD_lt (by decide) HX.out.2.2.2.1 k
          have ge := HK.out.2.1 (i + k)
          have hc4 := HK.out.2.2.2.1
          obtain ⟨t, ht⟩ : ∃ t, t = c + es.getD (i + k) 0 + xs.getD i 0 * ys.getD k 0 := ⟨_, rfl⟩
          obtain ⟨t1, st⟩ := kinv_step HK.out hix hky gx gy ht
          obtain ⟨d, hd⟩ : ∃ d, d = t % 4294967296 := ⟨_, rfl⟩
          obtain ⟨c2, hc2⟩ : ∃ c2, c2 = t / 4294967296 := ⟨_, rfl⟩
          rw [← hd, ← hc2] at st
          have hm : xs.getD i 0 * ys.getD k 0 ≤ 4294967295 * 4294967295 := Nat.mul_le_mul (by omega) (by omega)
          have hS := HE.out.set (i + k) d hlen
          obtain ⟨x, ex⟩ : ∃ x, x = xs.getD i 0 := ⟨_, rfl⟩
          obtain ⟨y, ey⟩ : ∃ y, y = ys.getD k 0 := ⟨_, rfl⟩
          obtain ⟨z, ez⟩ : ∃ z, z = es.getD (i + k) 0 := ⟨_, rfl⟩
          rw [← ex] at hcx ht gx hm
          rw [← ey] at hcy ht gy hm
          rw [← ez] at hce ht ge
          obtain ⟨m, em⟩ : ∃ m, m = x * y := ⟨_, rfl⟩
          have emI : (x : Int) * (y : Int) = (m : Int) := by rw [em, Int.natCast_mul]
          rw [← em] at ht hm
          have w1 : IntKind.u64.wrap ((c : Int) + (z : Int)) = (c : Int) + (z : Int) := by rw [IntKind.wrap_u64]; omega
          have w2' : IntKind.u64.wrap (m : Int) = (m : Int) := by rw [IntKind.wrap_u64]; omega
          have w3 : IntKind.u64.wrap ((c : Int) + (z : Int) + (m : Int)) = (t : Int) := by rw [IntKind.wrap_u64]; omega
          have w4 : IntKind.i64.wrap ((i : Int) + (k : Int)) = (i : Int) + (k : Int) := IntWalk.i64_in _ ⟨by omega, by omega⟩
          have w5 : ((i : Int) + (k : Int)).toNat = i + k := by omega
          have w6 : (0 : Int) ≤ (i : Int) + (k : Int) := by omega
          have w7 : (i : Int) + (k : Int) < (nx : Int) + (ny : Int) := by omega
          have v1 : IntKind.u32.wrap (t : Int) = (d : Int) := by rw [IntKind.wrap_u32]; omega
          have v2 : (t : Int) / 4294967296 = (c2 : Int) := by omega
          have ST := Lib.hid (And.intro st hS)
          have WW : Hid (IntKind.u64.wrap ((x : Int) * (y : Int)) = (m : Int) ∧ IntKind.u64.wrap (m : Int) = (m : Int) ∧ IntKind.u64.wrap ((c : Int) + (z : Int) + (m : Int)) = (t : Int) ∧ (t : Int) % 4294967296 = (d : Int) ∧ (t : Int) / 4294967296 = (c2 : Int)) := ⟨by rw [emI]; exact w2', w2', w3, by omega, v2⟩
          clear st hS ht hd hc2 ex ey ez em hcellx hcelly hm t1
          go_wp2
          go_region_held3 (fun w' => w'.cell? ⟨bx, fx + i, none⟩ = some (.int .u32 (x : Nat)) ∧ w'.cell? ⟨by', fy + k, none⟩ = some (.int .u32 (y : Nat)) ∧ w'.cell? ⟨w2.heap.size, i + k, none⟩ = some (.int .u32 (z : Nat))) (simp [go_sem, *]) (fail)
          clear w1 w2' w3 w4 w5
          go_wp2
          simp only [WW.out.1, WW.out.2.1, WW.out.2.2.1, WW.out.2.2.2.1, WW.out.2.2.2.2]
          refine ⟨⟨k + 1, c2, es.set (i + k) d, by omega, rfl, by go_num, ST.out.1, ST.out.2.drew, ?_⟩, by simp [intOf]; omega⟩
          repeat (first | assumption | exact hBi | apply Below.drew | refine Below.setCell ?_ (by first | omega | (simp; done) | (simp; omega)) _)
        · have hk2 : k = ny := by omega
          subst hk2
          have hix : i < xs.length := by rw [← NX.out.1]; exact hlt
          have hlen : i + k < es.length := by have := HK.out.1; rw [← NX.out.1, ← NX.out.2] at this; omega
          obtain ⟨hce, hfe⟩ := HE.out.2 (i + k) hlen
          have hc4 := HK.out.2.2.2.1
          have st := oinv_step HO.out (by have := HK.out; rw [NX.out.2] at this; exact this) hix
          rw [← NX.out.2] at st
          have hS := HE.out.set (i + k) c hlen
          have v1 : IntKind.u32.wrap (c : Int) = (c : Int) := by rw [IntKind.wrap_u32]; omega
          have ST := Lib.hid (And.intro st hS)
          have w6 : (0 : Int) ≤ (i : Int) + (k : Int) := by omega
          have w7 : (i : Int) + (k : Int) < (nx : Int) + (k : Int) := by omega
          clear st hS
          go_wp2
          refine ⟨⟨i + 1, es.set (i + k) c, by omega, by go_num, ST.out.1, ST.out.2, ?_⟩, by simp [intOf]; omega⟩
          repeat (first | assumption | exact hBi | apply Below.drew | refine Below.setCell ?_ (by first | omega | (simp; done) | (simp; omega)) _)
    · have he : i = nx := by omega
      subst he
      obtain ⟨o1, o2, o3, o4⟩ := HO.out
      rw [NX.out.1, List.take_of_length_le (Nat.le_refl _)] at o4
      have dl : ds.length = i + ny := by rw [o1, ← NX.out.1, ← NX.out.2]
      have lt2 : ∀ x ∈ ds, x < 4294967296 := fun x hx => by
        obtain ⟨j, hj, rfl⟩ := List.mem_iff_getElem.1 hx
        have := o2 j
        simpa [List.getD, hj] using this
      have RD : Hid (Rd .u32 wo (.slice (some ⟨w2.heap.size, 0, none⟩) (i + ny) (i + ny)) ds) := by rw [← dl]; exact HC.out.rd (Nat.le_refl _)
      have TK : Hid (Rd .u32 wo (cutv (.slice (some ⟨w2.heap.size, 0, none⟩) (i + ny) (i + ny)) (trimLen ds)) (ds.take (trimLen ds))) := RD.out.cut _ (trimLen_le _)
      have TL : Hid ((∀ x ∈ ds.take (trimLen ds), x < 4294967296) ∧ (ds.take (trimLen ds)).length ≤ 2199023255552) := ⟨fun x hx => lt2 x (List.mem_of_mem_take hx), by simp; omega⟩
      have TV : Hid (lval 4294967296 (ds.take (trimLen ds)) = a * b) := by unfold Hid; rw [lval_trim, o4, HX.out.2.2.2.2.1, HX.out.2.2.2.2.2]
      have CT := Lib.hid (cutd_any _ ds wo (by omega) RD.out)
      have hBs := hB.size
      clear o1 o2 o3 o4 dl lt2 hlt
      generalize ds.take (trimLen ds) = TT at *
      generalize trimLen ds = tn at *
      go_wp2_with (first | (go_at_call 171; (with_reducible refine (CT.out).mono ?_); rintro e w' ⟨rfl, rfl⟩) | (go_at_call 170; (with_reducible refine (whole_num _ TT _ TK.out TL.out.1 TL.out.2).mono ?_); rintro e w10 ⟨u, rfl, hN, hb10⟩))
      go_ret
      refine ⟨_, rfl, by rw [← TV.out]; exact hN, ?_⟩
      exact (hb1.trans (hb2.mono hb1.size)).trans ((hB.mono (Nat.le_trans hb1.size hb2.size)).trans (hb10.mono (Nat.le_trans (Nat.le_trans hb1.size hb2.size) hBs)))
end Go.Proofs.YtmafgdinegboeaaGreat
namespace Go.Proofs.YtmafgdinegboeaaGreat
open Go.RowKit

theorem shl_or (x s c : Nat) (hx : x < 18446744073709551616) (hs : s < 64) (hc : c < 2 ^ s) :
    bits BinOp.or IntKind.u64 (IntKind.u64.wrap ((x : Int) * 2 ^ s)) (c : Int) = (((x * 2 ^ s) % 18446744073709551616 + c : Nat) : Int) ∧ (x * 2 ^ s) % 18446744073709551616 + c < 18446744073709551616 ∧
    x * 2 ^ s + c = ((x * 2 ^ s) % 18446744073709551616 + c) + 18446744073709551616 * (x / 2 ^ (64 - s)) ∧ x / 2 ^ (64 - s) < 2 ^ s := by
  have hp : (0 : Nat) < 2 ^ s := Nat.two_pow_pos s
  have hq : (0 : Nat) < 2 ^ (64 - s) := Nat.two_pow_pos _
  have hpq : (2 : Nat) ^ s * 2 ^ (64 - s) = 18446744073709551616 := by rw [← Nat.pow_add, Nat.add_sub_cancel' (by omega)]
  have e1 : x * 2 ^ s % 18446744073709551616 = 2 ^ s * (x % 2 ^ (64 - s)) := by rw [← hpq, Nat.mul_comm x, Nat.mul_mod_mul_left]
  have m := Nat.mod_lt x hq
  have m2 := Nat.mul_le_mul_left (2 ^ s) (show x % 2 ^ (64 - s) + 1 ≤ 2 ^ (64 - s) from m)
  rw [Nat.mul_add, Nat.mul_one, hpq] at m2
  have e2 : x * 2 ^ s / 18446744073709551616 = x / 2 ^ (64 - s) := by rw [← hpq, Nat.mul_comm x, Nat.mul_div_mul_left _ _ hp]
  have e3 := Nat.mod_add_div (x * 2 ^ s) 18446744073709551616
  rw [e2] at e3
  refine ⟨?_, by rw [e1]; omega, by omega, ?_⟩
  · have w : IntKind.u64.wrap ((x : Int) * 2 ^ s) = ((x * 2 ^ s % 18446744073709551616 : Nat) : Int) := by
      rw [IntKind.wrap_u64]; simp
    rw [w, e1, u64_or_nat _ _ (by omega) (by omega)]
    congr 1
    exact (Nat.two_pow_add_eq_or_of_lt hc _).symm
  · rw [Nat.div_lt_iff_lt_mul hq, hpq]; exact hx
def UInv (ls es : List Nat) (q s i c : Nat) : Prop := es.length = q + i ∧ (∀ x ∈ es, x < 18446744073709551616) ∧ c < 2 ^ s ∧ lval 18446744073709551616 es + 18446744073709551616 ^ (q + i) * c = 18446744073709551616 ^ q * (2 ^ s * lval 18446744073709551616 (ls.take i))
theorem uinv_step {ls es : List Nat} {q s i c : Nat} (h : UInv ls es q s i c) (hx : ls.getD i 0 < 18446744073709551616) (hs : s < 64) :
    UInv ls (es ++ [(ls.getD i 0 * 2 ^ s) % 18446744073709551616 + c]) q s (i + 1) (ls.getD i 0 / 2 ^ (64 - s)) := by
  obtain ⟨h1, h2, h3, h4⟩ := h
  obtain ⟨_, b1, b2, b3⟩ := shl_or _ s c hx hs h3
  refine ⟨by simp [h1]; omega, ?_, b3, ?_⟩
  · intro x hxm
    rw [List.mem_append] at hxm
    rcases hxm with hm | hm
    · exact h2 x hm
    · rw [List.mem_singleton] at hm; rw [hm]; exact b1
  · rw [lval_append, h1, lval_take_succ, show q + (i + 1) = (q + i) + 1 by omega, Nat.pow_succ]
    simp only [lval, Nat.mul_zero, Nat.add_zero]
    have e1 : 18446744073709551616 ^ (q + i) * 18446744073709551616 * (ls.getD i 0 / 2 ^ (64 - s)) = 18446744073709551616 ^ (q + i) * (18446744073709551616 * (ls.getD i 0 / 2 ^ (64 - s))) := Nat.mul_assoc _ _ _
    have e2 : 18446744073709551616 ^ (q + i) * ((ls.getD i 0 * 2 ^ s) % 18446744073709551616 + c) + 18446744073709551616 ^ (q + i) * (18446744073709551616 * (ls.getD i 0 / 2 ^ (64 - s))) = 18446744073709551616 ^ (q + i) * (ls.getD i 0 * 2 ^ s) + 18446744073709551616 ^ (q + i) * c := by
      rw [← Nat.mul_add, ← b2, Nat.mul_add]
    have e3 : 18446744073709551616 ^ q * (2 ^ s * (lval 18446744073709551616 (ls.take i) + 18446744073709551616 ^ i * ls.getD i 0)) = 18446744073709551616 ^ q * (2 ^ s * lval 18446744073709551616 (ls.take i)) + 18446744073709551616 ^ (q + i) * (ls.getD i 0 * 2 ^ s) := by
      rw [Nat.mul_add, Nat.mul_add, Nat.pow_add]; simp only [Nat.mul_assoc, Nat.mul_comm, Nat.mul_left_comm]
    rw [e1, e3]
    omega
theorem uinv_end {ls es : List Nat} {q s c : Nat} (h : UInv ls es q s ls.length c) (hs : s < 64) : lval 18446744073709551616 (es ++ [c]) = lval 18446744073709551616 ls * 2 ^ (64 * q + s) ∧ ∀ x ∈ es ++ [c], x < 18446744073709551616 := by
  obtain ⟨h1, h2, h3, h4⟩ := h
  rw [List.take_of_length_le (Nat.le_refl _)] at h4
  have hp : (2 : Nat) ^ s < 18446744073709551616 := by
    have := Nat.pow_lt_pow_right (a := 2) (by decide) hs
    have e : (2 : Nat) ^ 64 = 18446744073709551616 := by decide
    omega
  refine ⟨?_, ?_⟩
  · rw [lval_append, h1]
    simp only [lval, Nat.mul_zero, Nat.add_zero]
    have e : (2 : Nat) ^ 64 = 18446744073709551616 := by decide
    rw [h4, Nat.pow_add, Nat.pow_mul, e]
    simp only [Nat.mul_assoc, Nat.mul_comm, Nat.mul_left_comm]
  · intro x hxm
    rw [List.mem_append] at hxm
    rcases hxm with hm | hm
    · exact h2 x hm
    · simp at hm; omega

theorem isN_trim {w : World} {v : Value} {L : List Nat} (h : Rd .u64 w v L) (hx : ∀ x ∈ L, x < 18446744073709551616) : IsN w (cutv v (trimLen L)) (lval 18446744073709551616 L) :=
  ⟨L.take (trimLen L), h.cut _ (trimLen_le _), fun x hm => hx x (List.mem_of_mem_take hm), lval_trim _ _, trim_take _⟩
theorem owns_zeros (w : World) (q : Nat) (hq : q ≤ maxLen) : (w.alloc (.cells (madeCells #[.int .u64 0] q) 104)).ownsRow w.heap.size 104 1 (.slice (some ⟨w.heap.size, 0, none⟩) q q) q ((List.replicate q 0).map fun x => Value.int .u64 (x : Nat)) := by
  refine ⟨by simp, .inr ⟨w.heap.size, q, madeCells #[.int .u64 0] q, rfl, Nat.le_refl _, heap_alloc_new w _, Nat.le_refl _, hq, by simp [madeCells], ?_⟩⟩
  apply List.ext_getElem
  · simp [madeCells]
  · intro i h1 h2
    simp [madeCells, Nat.mod_one]
theorem uinv_start (ls : List Nat) (q s : Nat) : UInv ls (List.replicate q 0) q s 0 0 := by
  have l : ∀ n, lval 18446744073709551616 (List.replicate n 0) = 0 := fun n => by
    induction n with
    | zero => rfl
    | succ n ih => simp [List.replicate_succ, lval, ih]
  refine ⟨by simp, ?_, Nat.two_pow_pos s, by rw [l]; simp [lval]⟩
  intro x hx
  rw [(List.mem_replicate.1 hx).2]; decide

set_option maxRecDepth 100000 in
set_option maxHeartbeats 8000000 in
theorem up2_far (va : Value) (a n : Nat) (w : World) (ha : IsN w va a) (la : a < BIG) (hn : n ≤ 1048576) : Calls Tryz.prog 82 #[va, .int .i64 n] w (SomeNF w (a * 2 ^ n)) := by
  obtain ⟨i0, hi0, hz0, hz1, hz2⟩ := info_parts info64
  obtain ⟨xs, rx, x1, x2, x3⟩ := ha
  have lx := len_n x3 (by rw [x2]; exact la)
  obtain ⟨ox, cx, rfl, hcx⟩ := rx.form
  obtain ⟨q, hq⟩ : ∃ q, q = n / 64 := ⟨_, rfl⟩
  obtain ⟨s, hs⟩ : ∃ s, s = n % 64 := ⟨_, rfl⟩
  have eq1 : (n : Int) / 64 = (q : Int) := by omega
  have es1 : (n : Int) % 64 = (s : Int) := by omega
  have en : n = 64 * q + s := by omega
  have hs64 : s < 64 := by omega
  have hq2 : q ≤ 16384 := by omega
  have HX := Lib.hid (And.intro hcx (And.intro x1 (And.intro x2 en)))
  clear rx hcx x1 x2 x3 la hq hs
  by_cases h0 : xs.length = 0
  · have E : Hid (a * 2 ^ n = 0) := by
      have : xs = [] := List.eq_nil_of_length_eq_zero h0
      have h := HX.out.2.2.1
      rw [this] at h
      unfold Hid; rw [← h]; simp [lval]
    rw [h0]
    clear h0 en
    go_enter Tryz.func82, Tryz.ntmps82
    go_wp2
    go_ret
    exact ⟨_, rfl, ⟨[], .inl ⟨rfl, rfl⟩, by simp, by rw [E.out]; rfl, rfl⟩, Below.refl _ _, fun _ _ => by simp [Value.ownBlock]⟩
  · have h0' : ((xs.length : Int) == 0) = false := by rw [beq_eq_false_iff_ne]; omega
    have mk : (Instr.makeSlice 93 (.int .i64 (q : Int)) (.int .i64 (q : Int))).run Tryz.prog w = .ok (.slice (some ⟨w.heap.size, 0, none⟩) q q) (w.alloc (.cells (madeCells #[.int .u64 0] q) 104)) := by
      have := run_make (w := w) 93 104 i0 (.int .u64 0) Tryz.underlying93 hi0 hz0 .i64 .i64 q q (by omega) (by omega) (by rw [hz2]; omega) (by omega)
      rw [this, hz1]; simp [Value.cells]
    clear h0 en
    go_enter Tryz.func82, Tryz.ntmps82
    go_wp2
    clear es1 eq1 mk
    go_loopw [5, 7, 8] (fun s5 s7 s8 wr => ∃ (i : Nat) (es : List Nat) (c : Nat), i ≤ xs.length ∧ s7 = .int .u64 c ∧ s8 = .int .i64 i ∧ Hid (UInv xs es q s i c) ∧ Hid (wr.ownsRow w.heap.size 104 1 s5 es.length (es.map fun x => Value.int .u64 (x : Nat))) ∧ Below w.heap.size w wr) (fun _ _ s8 _ => xs.length - (intOf s8).toNat)
    case atStart => exact ⟨0, List.replicate q 0, 0, Nat.zero_le _, rfl, rfl, uinv_start _ _ _, by simpa [Hid] using owns_zeros w q (by unfold maxLen; omega), (Below.refl _ _).alloc (Nat.le_refl _) _⟩
    case round =>
      obtain ⟨i, es, c, hi, rfl, rfl, HI, hown, hB⟩ := hrel
      have hBs := hB.size
      have esl : es.length ≤ 16384 + xs.length := by have := HI.out.1; omega
      by_cases hlt : i < xs.length
      · skip
        obtain ⟨bx, fx, rfl, hbx, hcellx⟩ := HX.out.1 i hlt
        have hcx : wr.cell? ⟨bx, fx + i, none⟩ = some (.int .u64 (xs.getD i 0 : Nat)) := (hB.cell (p := ⟨bx, fx + i, none⟩) hbx).trans hcellx
        have gx := getD_lt (by decide) HX.out.2.1 i
        have st := uinv_step HI.out gx hs64
        obtain ⟨b0, b1, _, _⟩ := shl_or _ s c gx hs64 HI.out.2.2.1
        obtain ⟨x, ex⟩ : ∃ x, x = xs.getD i 0 := ⟨_, rfl⟩
        rw [← ex] at hcx gx st b0 b1
        obtain ⟨d, hd⟩ : ∃ d, d = x * 2 ^ s % 18446744073709551616 + c := ⟨_, rfl⟩
        rw [← hd] at st b0 b1
        obtain ⟨c2, hc2⟩ : ∃ c2, c2 = x / 2 ^ (64 - s) := ⟨_, rfl⟩
        rw [← hc2] at st
        have ST := Lib.hid st
        clear st hd ex hcellx
        have HO := hown
        clear hown
        go_wp2_with (at_builtin; refine wpList_append_own _ rfl _ _ 93 rfl w.heap.size 104 i0 (.int .u64 0) 1 8 Tryz.underlying93 hi0 hz0 hz1 hz2 rfl (by decide) _ es.length (es.map fun x => Value.int .u64 (x : Nat)) rfl (HO.out.alloc _) ⟨wr.heap.size, 0, none⟩ 1 1 [.int .u64 (d : Nat)] rfl rfl ?c1 ?c2 ?c3 ?c4 ?c5 ?_)
        case c1 => exact (cell_one_new _ _ _)
        case c2 => simp [Value.oneCell']
        case c3 => unfold maxLen; omega
        case c4 => omega
        case c5 => simp; omega
        intro v' w9 hown1 hgrow _
        have hB9 : Below w.heap.size w w9 := (hB.alloc hBs _).grown hgrow (by simp; omega) (fun k hk => (HO.out.lt k hk).1)
        have hc9 : w9.cell? ⟨bx, fx + i, none⟩ = some (.int .u64 (x : Nat)) := (hB9.cell (p := ⟨bx, fx + i, none⟩) hbx).trans ((hB.cell (p := ⟨bx, fx + i, none⟩) hbx).symm.trans hcx)
        have h1 : Hid (w9.ownsRow w.heap.size 104 1 v' (es ++ [d]).length ((es ++ [d]).map fun x => Value.int .u64 (x : Nat))) := by
          have h1 := hown1
          simpa [Hid] using h1
        clear hown1 hgrow
        by_cases hs0 : s = 0
        · skip
          have hc0 : c2 = 0 := by rw [hc2, hs0]; exact Nat.div_eq_of_lt gx
          rw [hc0] at ST
          clear hc2 hc0
          go_wp2
          exact ⟨⟨i + 1, es ++ [d], 0, by omega, rfl, by go_num, ST.out, h1, hB9⟩, by simp [intOf]; omega⟩
        · skip
          have hcI : (x : Int) / 2 ^ (64 - s) = (c2 : Int) := by rw [hc2]; simp
          clear hc2
          go_wp2
          exact ⟨⟨i + 1, es ++ [d], c2, by omega, rfl, by go_num, ST.out, h1, hB9⟩, by simp [intOf]; omega⟩
      · skip
        have hie : i = xs.length := by omega
        subst hie
        obtain ⟨p1, p2⟩ := uinv_end HI.out hs64
        have P1 := Lib.hid p1
        have P2 := Lib.hid p2
        have HO := hown
        clear hown p1 p2
        go_wp2_with (first | (at_builtin; refine wpList_append_own _ rfl _ _ 93 rfl w.heap.size 104 i0 (.int .u64 0) 1 8 Tryz.underlying93 hi0 hz0 hz1 hz2 rfl (by decide) _ es.length (es.map fun x => Value.int .u64 (x : Nat)) rfl (HO.out.alloc _) ⟨wr.heap.size, 0, none⟩ 1 1 [.int .u64 (c : Nat)] rfl rfl ?c1 ?c2 ?c3 ?c4 ?c5 ?_) | fail)
        case c1 => exact (cell_one_new _ _ _)
        case c2 => simp [Value.oneCell']
        case c3 => unfold maxLen; omega
        case c4 => omega
        case c5 => simp; omega
        intro v' w9 hown1 hgrow _
        obtain ⟨L, hL⟩ : ∃ L, L = es ++ [c] := ⟨_, rfl⟩
        have RD : Hid (Rd .u64 w9 v' L) := by
          rw [hL]
          refine own_rd (base := w.heap.size) (e := 104) ?_
          have h1 := hown1
          simpa using h1
        have ll : L.length ≤ 1048578 := by rw [hL]; simp; omega
        rw [← hL] at P1 P2
        have hB9 : Below w.heap.size w w9 := (hB.alloc hBs _).grown hgrow (by simp; omega) (fun k hk => (HO.out.lt k hk).1)
        have HN : Hid (IsN w9 (cutv v' (trimLen L)) (a * 2 ^ n)) := by
          have h := isN_trim RD.out P2.out
          rw [P1.out, HX.out.2.2.1, ← HX.out.2.2.2] at h
          exact h
        have FR := Lib.hid (fun b' (hb' : b' < w.heap.size) => own_far hown1 hb')
        clear hL hown1 hgrow
        go_wp2_with (first | (go_at_call 121; (with_reducible refine (trim_any v' L _ (by omega) RD.out).mono ?_); rintro e w' ⟨rfl, rfl⟩) | fail)
        go_ret
        exact ⟨_, rfl, HN.out, hB9, fun b' hb' => cutv_far (FR.out b' hb')⟩
theorem up2_any (va : Value) (a n : Nat) (w : World) (ha : IsN w va a) (la : a < BIG) (hn : n ≤ 1048576) : Calls Tryz.prog 82 #[va, .int .i64 n] w (SomeN w (a * 2 ^ n)) :=
  (up2_far va a n w ha la hn).mono fun _ _ h => h.some
end Go.Proofs.YtmafgdinegboeaaGreat
namespace Go.Proofs.YtmafgdinegboeaaGreat
open Go.RowKit

def bn (n : Nat) : Nat := if n = 0 then 0 else n.log2 + 1
theorem bn_is {n k : Nat} (h : n < 2 ^ k) (h1 : k = 0 ∨ 2 ^ (k - 1) ≤ n) : bn n = k := by
  unfold bn
  by_cases hn : n = 0
  · rw [if_pos hn]
    rcases h1 with h1 | h1
    · exact h1.symm
    · have := Nat.two_pow_pos (k - 1); omega
  · rw [if_neg hn]
    have a := (Nat.log2_lt hn).2 h
    rcases h1 with h1 | h1
    · subst h1; simp at h; omega
    · have b := (Nat.le_log2 hn).2 h1
      omega
theorem bn_lt (n : Nat) : n < 2 ^ bn n := by
  unfold bn
  by_cases hn : n = 0
  · rw [if_pos hn]; omega
  · rw [if_neg hn]; exact Nat.lt_log2_self
theorem bn_ge {n : Nat} (hn : n ≠ 0) : 2 ^ (bn n - 1) ≤ n := by
  unfold bn
  rw [if_neg hn, Nat.add_sub_cancel]
  exact (Nat.le_log2 hn).1 (Nat.le_refl _)
theorem bn_le {n k : Nat} (h : n < 2 ^ k) : bn n ≤ k := by
  unfold bn
  by_cases hn : n = 0
  · rw [if_pos hn]; omega
  · rw [if_neg hn]; exact (Nat.log2_lt hn).2 h
theorem b64 : (18446744073709551616 : Nat) = 2 ^ 64 := by decide
theorem bn_limbs {ls : List Nat} {L j : Nat} (hl : ls.length = L + 1) (hx : ∀ x ∈ ls, x < 18446744073709551616) (h1 : ls.getD L 0 < 2 ^ j) (h2 : j = 0 ∨ 2 ^ (j - 1) ≤ ls.getD L 0) (h3 : ls.getD L 0 ≠ 0) : bn (lval 18446744073709551616 ls) = 64 * L + j := by
  have e := lval_take_succ 18446744073709551616 ls L
  rw [List.take_of_length_le (by omega)] at e
  have lt := lval_lt 18446744073709551616 (by decide) (ls.take L) (fun x h => hx x (List.mem_of_mem_take h))
  rw [List.length_take, Nat.min_eq_left (by omega)] at lt
  have pw : (18446744073709551616 : Nat) ^ L = 2 ^ (64 * L) := by rw [b64, ← Nat.pow_mul]
  rw [e]
  generalize ls.getD L 0 = t at *
  generalize lval 18446744073709551616 (ls.take L) = lw at *
  rw [pw] at lt ⊢
  apply bn_is
  · have := Nat.mul_le_mul_left (2 ^ (64 * L)) (show t + 1 ≤ 2 ^ j from h1)
    rw [← Nat.pow_add, Nat.mul_add, Nat.mul_one] at this
    omega
  · right
    rcases h2 with h2 | h2
    · subst h2; simp at h1; omega
    · have hj : 1 ≤ j := by
        rcases Nat.eq_zero_or_pos j with h | h
        · subst h; simp at h1; omega
        · exact h
      rw [show 64 * L + j - 1 = 64 * L + (j - 1) by omega, Nat.pow_add]
      have := Nat.mul_le_mul_left (2 ^ (64 * L)) h2
      omega

set_option maxRecDepth 100000 in
set_option maxHeartbeats 4000000 in
theorem nlen_any (v : Value) (n : Nat) (w : World) (h : IsN w v n) (hb : n < BIG) : Calls Tryz.prog 179 #[v] w fun e w' => e = .returned (.int .i64 (bn n : Nat)) ∧ w = w' := by
  obtain ⟨xs, rx, x1, x2, x3⟩ := h
  have lx := len_n x3 (by rw [x2]; exact hb)
  obtain ⟨ox, cx, rfl, hcx⟩ := rx.form
  rcases Nat.eq_zero_or_pos xs.length with h0 | h0
  · have E : Hid (n = 0) := by
      have e : xs = [] := List.eq_nil_of_length_eq_zero h0
      unfold Hid; rw [← x2, e]; rfl
    rw [h0]
    clear h0 rx hcx x1 x2 x3 hb lx
    go_enter Tryz.func179, Tryz.ntmps179
    go_wp2
    go_ret
    exact ⟨by rw [E.out]; rfl, rfl⟩
  · obtain ⟨L, hL⟩ : ∃ L, xs.length = L + 1 := ⟨xs.length - 1, by omega⟩
    obtain ⟨bx, fx, rfl, hbx, hcell⟩ := hcx L (by omega)
    have top : xs.getD L 0 ≠ 0 := by
      rcases trim_last xs with h | h
      · omega
      · rw [x3, hL] at h; exact h
    have tl := getD_lt (by decide) x1 L
    have BL : Hid (∀ j, xs.getD L 0 < 2 ^ j → (j = 0 ∨ 2 ^ (j - 1) ≤ xs.getD L 0) → bn n = 64 * L + j) := fun j h1 h2 => by rw [← x2]; exact bn_limbs hL x1 h1 h2 top
    rw [hL] at lx ⊢
    obtain ⟨x, ex⟩ : ∃ x, x = xs.getD L 0 := ⟨_, rfl⟩
    rw [← ex] at BL hcell top tl
    clear h0 rx hcx x1 x2 x3 hb ex hL
    have hne : ¬ (((L : Int) + 1) = 0) := by omega
    go_enter Tryz.func179, Tryz.ntmps179
    go_wp2
    clear hne
    go_loop [3, 4] (fun s3 s4 => ∃ (j y : Nat), j ≤ 64 ∧ s3 = .int .i64 (64 * (L : Int) + j) ∧ s4 = .int .u64 (y : Nat) ∧ Hid (y = x / 2 ^ j) ∧ Hid (j = 0 ∨ 2 ^ (j - 1) ≤ x)) (fun _ s4 => (intOf s4).toNat)
    case atStart => exact ⟨0, x, by omega, by simp, rfl, by simp [Hid], .inl rfl⟩
    case round =>
      obtain ⟨j, y, hj, rfl, rfl, HY, HJ⟩ := hrel
      by_cases hy : y = 0
      · have E : Hid (bn n = 64 * L + j) := BL.out j (by
          have h := HY.out
          rw [hy] at h
          rcases Nat.lt_or_ge x (2 ^ j) with h1 | h1
          · exact h1
          · have := Nat.div_pos h1 (Nat.two_pow_pos j); omega) HJ.out
        subst hy
        simp only [Int.natCast_zero]
        go_wp2
        go_ret
        exact ⟨by rw [E.out]; rfl, rfl⟩
      · have hy' : ((y : Int) == 0) = false := by simpa using hy
        have ge : 2 ^ j ≤ x := by
          rcases Nat.lt_or_ge x (2 ^ j) with h1 | h1
          · have := Nat.div_eq_of_lt h1
            have := HY.out
            omega
          · exact h1
        have j63 : j < 64 := by
          rcases Nat.lt_or_ge j 64 with h | h
          · exact h
          · have := Nat.pow_le_pow_right (show 0 < 2 by decide) h
            rw [← b64] at this
            omega
        have GE := Lib.hid ge
        have YN := Lib.hid (Nat.pos_of_ne_zero hy)
        clear ge hy
        go_wp2
        have e2 : ((y : Int) / 2) = ((y / 2 : Nat) : Int) := by omega
        rw [e2]
        have yp := YN.out
        refine ⟨⟨j + 1, y / 2, by omega, by go_num, rfl, ?_, .inr (by rw [Nat.add_sub_cancel]; exact GE.out)⟩, by simp [intOf]; omega⟩
        unfold Hid
        rw [HY.out, Nat.div_div_eq_div_mul, Nat.pow_succ]
end Go.Proofs.YtmafgdinegboeaaGreat
