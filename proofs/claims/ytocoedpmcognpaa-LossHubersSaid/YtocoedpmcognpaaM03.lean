/-
  The long division of sizes, bit by bit: what holds at each round's head.
  The long division of sizes.
  Rounded quotients, said of whole numbers.
  Rounded quotients of wide numbers.
  Quotients of wide numbers, rounded down.
-/
import Derived.WalkMore
import Derived.Deep.LoopGhost
import Derived.LoopTactic
import Derived.Deep.DeepCutAuto
import Derived.Deep.CutBlock
import Derived.Test.YtocoedpmcognpaaM02
namespace Go.Proofs.Ytocoedpmcognpaa

def DInv (n d a q r : Int) : Prop :=
  -200 ≤ a ∧ a ≤ 127 ∧ 0 ≤ q ∧ 0 ≤ r ∧ n = q * d + r ∧ r < d * 2 ^ (a + 1).toNat ∧ q % 2 ^ (a + 1).toNat = 0 ∧ (0 ≤ a → d * 2 ^ a.toNat ≤ 340282366920938463463374607431768211455)

theorem pow128 : (2 : Int) ^ 128 = 340282366920938463463374607431768211456 := by decide
theorem pow_mono {m n : Nat} (h : m ≤ n) : (2 : Int) ^ m ≤ 2 ^ n := by
  obtain ⟨k, rfl⟩ := Nat.exists_eq_add_of_le h
  rw [Int.pow_add]
  have h1 : (0 : Int) < 2 ^ m := Int.pow_pos (by decide)
  have h2 : (0 : Int) < 2 ^ k := Int.pow_pos (by decide)
  have := Int.mul_le_mul_of_nonneg_left (show (1 : Int) ≤ 2 ^ k by omega) (show (0 : Int) ≤ 2 ^ m by omega)
  omega
theorem dinv_start {n d : Int} (h : U n) (k : U d) (h0 : d ≠ 0) : DInv n d (bl n - bl d) 0 n := by
  have hn := (U_iff n).1 h
  have hd := (U_iff d).1 k
  have ln := bl_le h
  have ld := bl_le k
  obtain ⟨d1, d2, d3⟩ := bl_bd k h0
  by_cases z : n = 0
  · subst z
    rw [bl_zero]
    have e : (((0 : Nat) : Int) - bl d + 1).toNat = 0 := by omega
    refine ⟨by omega, by omega, by decide, by decide, by omega, ?_, ?_, fun h => by omega⟩
    · rw [e]; simp; omega
    · rw [e]; simp
  · obtain ⟨n1, n2, n3⟩ := bl_bd h z
    refine ⟨by omega, by omega, by decide, by omega, by omega, ?_, by simp, ?_⟩
    · have m := pow_mono (show bl n ≤ (bl d - 1) + ((bl n : Int) - bl d + 1).toNat by omega)
      rw [Int.pow_add] at m
      have := Int.mul_le_mul_of_nonneg_right d2 (show (0 : Int) ≤ 2 ^ ((bl n : Int) - bl d + 1).toNat from Int.le_of_lt (Int.pow_pos (by decide)))
      omega
    · intro hge
      have m := pow_mono (show bl d + ((bl n : Int) - bl d).toNat ≤ 128 by omega)
      rw [Int.pow_add, pow128] at m
      have hp : (0 : Int) < 2 ^ ((bl n : Int) - bl d).toNat := Int.pow_pos (by decide)
      have := Int.mul_le_mul_of_nonneg_right (show d + 1 ≤ 2 ^ bl d by omega) (Int.le_of_lt hp)
      rw [Int.add_mul] at this
      omega
theorem dinv_sizes {n d a q r : Int} (h : DInv n d a q r) (hn : U n) (h0 : 0 < d) : U q ∧ U r := by
  obtain ⟨_, _, q0, r0, e, _, _, _⟩ := h
  simp only [U_iff] at *
  have : q * 1 ≤ q * d := Int.mul_le_mul_of_nonneg_left (by omega) q0
  omega
theorem dinv_step {n d q r : Int} {k : Nat} (h : DInv n d k q r) (h0 : 0 < d) : k ≤ 127 ∧ ws (d * 2 ^ k) = d * 2 ^ k ∧ q % 2 ^ (k + 1) = 0 := by
  obtain ⟨_, k1, _, _, _, _, m, s⟩ := h
  have s' := s (by omega)
  rw [Int.toNat_natCast] at s'
  rw [show ((k : Int) + 1).toNat = k + 1 by omega] at m
  have : (0 : Int) < d * 2 ^ k := Int.mul_pos h0 (Int.pow_pos (by decide))
  exact ⟨by omega, ws_in ((U_iff _).2 ⟨by omega, s'⟩), m⟩
theorem dinv_end {n d a q r : Int} (h : DInv n d a q r) (ha : a < 0) (h0 : 0 < d) : q = n / d ∧ r = n % d := by
  obtain ⟨_, _, q0, r0, e, l, _, _⟩ := h
  rw [show (a + 1).toNat = 0 by omega, Int.pow_zero, Int.mul_one] at l
  have := (Int.ediv_emod_unique h0 (a := n) (r := r) (q := q)).2 ⟨by rw [e, Int.mul_comm d q]; omega, r0, l⟩
  exact ⟨this.1.symm, this.2.symm⟩
theorem dinv_hit {n d q r : Int} {k : Nat} (h : DInv n d k q r) (he : r = d * 2 ^ k) (h0 : 0 < d) : q + 2 ^ k = n / d ∧ 0 = n % d := by
  obtain ⟨_, _, q0, r0, e, l, _, _⟩ := h
  have := (Int.ediv_emod_unique h0 (a := n) (r := 0) (q := q + 2 ^ k)).2 ⟨by rw [e, he, Int.mul_comm q d, ← Int.mul_add]; omega, by omega, h0⟩
  exact ⟨this.1.symm, this.2.symm⟩
theorem dinv_up {n d q r : Int} {k : Nat} (h : DInv n d k q r) (hg : d * 2 ^ k < r) (hn : U n) (h0 : 0 < d) : ws (r - d * 2 ^ k) = r - d * 2 ^ k ∧ DInv n d (k - 1) (q + 2 ^ k) (r - d * 2 ^ k) := by
  have hU := (dinv_sizes h hn h0).2
  obtain ⟨a0, a1, q0, r0, e, l, m, s⟩ := h
  have hp : (0 : Int) < 2 ^ k := Int.pow_pos (by decide)
  have hdp : (0 : Int) < d * 2 ^ k := Int.mul_pos h0 hp
  rw [show ((k : Int) + 1).toNat = k + 1 by omega] at l m
  rw [Int.pow_succ] at l m
  refine ⟨ws_in (by rw [U_iff] at *; omega), by omega, by omega, by omega, by omega, ?_, ?_, ?_, ?_⟩
  · rw [Int.add_mul, Int.mul_comm (2 ^ k) d, e]; omega
  · rw [show ((k : Int) - 1 + 1).toNat = k by omega]
    rw [← Int.mul_assoc] at l; omega
  · rw [show ((k : Int) - 1 + 1).toNat = k by omega]
    have : q % 2 ^ k = 0 := Int.emod_eq_zero_of_dvd (Int.dvd_trans (Int.dvd_mul_right _ _) (Int.dvd_of_emod_eq_zero m))
    rw [Int.add_emod, this, Int.emod_self]; simp
  · intro hk
    have s' := s (by omega)
    rw [Int.toNat_natCast] at s'
    obtain ⟨j, rfl⟩ : ∃ j, k = j + 1 := ⟨k - 1, by omega⟩
    rw [show (((j + 1 : Nat) : Int) - 1).toNat = j by omega]
    rw [Int.pow_succ, ← Int.mul_assoc] at s'
    have : (0 : Int) < d * 2 ^ j := Int.mul_pos h0 (Int.pow_pos (by decide))
    omega
theorem dinv_down {n d q r : Int} {k : Nat} (h : DInv n d k q r) (hg : r < d * 2 ^ k) (h0 : 0 < d) : DInv n d (k - 1) q r := by
  obtain ⟨a0, a1, q0, r0, e, l, m, s⟩ := h
  have hp : (0 : Int) < 2 ^ k := Int.pow_pos (by decide)
  rw [show ((k : Int) + 1).toNat = k + 1 by omega] at l m
  rw [Int.pow_succ] at l m
  refine ⟨by omega, by omega, q0, r0, e, ?_, ?_, ?_⟩
  · rw [show ((k : Int) - 1 + 1).toNat = k by omega]; exact hg
  · rw [show ((k : Int) - 1 + 1).toNat = k by omega]
    exact Int.emod_eq_zero_of_dvd (Int.dvd_trans (Int.dvd_mul_right _ _) (Int.dvd_of_emod_eq_zero m))
  · intro hk
    have s' := s (by omega)
    rw [Int.toNat_natCast] at s'
    obtain ⟨j, rfl⟩ : ∃ j, k = j + 1 := ⟨k - 1, by omega⟩
    rw [show (((j + 1 : Nat) : Int) - 1).toNat = j by omega]
    rw [Int.pow_succ, ← Int.mul_assoc] at s'
    have : (0 : Int) < d * 2 ^ j := Int.mul_pos h0 (Int.pow_pos (by decide))
    omega
end Go.Proofs.Ytocoedpmcognpaa
namespace Go.Proofs.Ytocoedpmcognpaa
open Go.RowKit
/-- The four variables of divide. -/
def DivAt (w0 : World) (n d q r : Int) (w : World) : Prop :=
  w.cell? ⟨w0.heap.size, 0, none⟩ = some (.int .u64 (hi n)) ∧ w.cell? ⟨w0.heap.size, 1, none⟩ = some (.int .u64 (lo n)) ∧
  w.cell? ⟨w0.heap.size + 1, 0, none⟩ = some (.int .u64 (hi d)) ∧ w.cell? ⟨w0.heap.size + 1, 1, none⟩ = some (.int .u64 (lo d)) ∧
  w.cell? ⟨w0.heap.size + 1 + 1, 0, none⟩ = some (.int .u64 (hi q)) ∧ w.cell? ⟨w0.heap.size + 1 + 1, 1, none⟩ = some (.int .u64 (lo q)) ∧
  w.cell? ⟨w0.heap.size + 1 + 1 + 1, 0, none⟩ = some (.int .u64 (hi r)) ∧ w.cell? ⟨w0.heap.size + 1 + 1 + 1, 1, none⟩ = some (.int .u64 (lo r)) ∧
  w.frozen? ⟨w0.heap.size + 1 + 1, 0, none⟩ = false ∧ w.frozen? ⟨w0.heap.size + 1 + 1, 1, none⟩ = false ∧
  w.frozen? ⟨w0.heap.size + 1 + 1 + 1, 0, none⟩ = false ∧ w.frozen? ⟨w0.heap.size + 1 + 1 + 1, 1, none⟩ = false ∧
  Below w0.heap.size w0 w ∧ w0.heap.size + 1 + 1 + 1 < w.heap.size
theorem cell_on {W W' : World} (hb : Below W.heap.size W W') {p : Addr} {v : Value} (h : W.cell? p = some v) : W'.cell? p = some v := (hb.cell (World.block_lt_of_cell? W _ h)).trans h
theorem frozen_on {W W' : World} (hb : Below W.heap.size W W') {p : Addr} {v : Value} (h : W.cell? p = some v) {b : Bool} (hf : W.frozen? p = b) : W'.frozen? p = b := (hb.frozen (World.block_lt_of_cell? W _ h)).trans hf
theorem drew_on {W : World} {p : Addr} {v : Value} (h : W.cell? p = some v) : W.drew.cell? p = some v := h
theorem DivAt.below {w0 : World} {n d q r : Int} {W W' : World} (h : DivAt w0 n d q r W) (hb : Below W.heap.size W W') : DivAt w0 n d q r W' := by
  obtain ⟨c1, c2, c3, c4, c5, c6, c7, c8, f1, f2, f3, f4, b, z⟩ := h
  obtain ⟨hc, hf⟩ := bcell hb
  refine ⟨?_, ?_, ?_, ?_, ?_, ?_, ?_, ?_, ?_, ?_, ?_, ?_, b.trans (hb.mono (by omega)), bsz hb z⟩
  all_goals first | (rw [hc _ _ (by omega)]; assumption) | (rw [hf _ _ (by omega)]; assumption)
theorem DivAt.alloc {w0 : World} {n d q r : Int} {W : World} (h : DivAt w0 n d q r W) (o : Obj) : DivAt w0 n d q r (W.alloc o) :=
  h.below ((Below.refl _ _).alloc (Nat.le_refl _) o)
theorem DivAt.drew {w0 : World} {n d q r : Int} {W : World} (h : DivAt w0 n d q r W) : DivAt w0 n d q r W.drew := by
  obtain ⟨c1, c2, c3, c4, c5, c6, c7, c8, f1, f2, f3, f4, b, z⟩ := h
  exact ⟨c1, c2, c3, c4, c5, c6, c7, c8, f1, f2, f3, f4, b.drew, z⟩
theorem DivAt.put {w0 : World} {n d q r : Int} {W : World} (h : DivAt w0 n d q r W) (q' r' : Int) :
    DivAt w0 n d q' r' ((((W.setCell ⟨w0.heap.size + 1 + 1, 0, none⟩ (.int .u64 (hi q'))).setCell ⟨w0.heap.size + 1 + 1, 1, none⟩ (.int .u64 (lo q'))).setCell ⟨w0.heap.size + 1 + 1 + 1, 0, none⟩ (.int .u64 (hi r'))).setCell ⟨w0.heap.size + 1 + 1 + 1, 1, none⟩ (.int .u64 (lo r'))) := by
  obtain ⟨c1, c2, c3, c4, c5, c6, c7, c8, f1, f2, f3, f4, b, z⟩ := h
  refine ⟨by simp [go_sem, *], by simp [go_sem, *], by simp [go_sem, *], by simp [go_sem, *], by simp [go_sem, *], by simp [go_sem, *], by simp [go_sem, *], by simp [go_sem, *], by simp [go_sem, *], by simp [go_sem, *], by simp [go_sem, *], by simp [go_sem, *], ?_, by simp [go_sem, *]⟩
  exact (((b.setCell (by simp; omega) _).setCell (by simp; omega) _).setCell (by simp; omega) _).setCell (by simp; omega) _
set_option maxHeartbeats 4000000 in
theorem divide_any (n d : Int) (w : World) (h : U n) (k : U d) (h0 : d ≠ 0) : Calls Try.prog 38 #[Sv n, Sv d] w fun e w' => e = .returned (.tuple #[Sv (n / d), Sv (n % d)]) ∧ Below w.heap.size w w' := by
  have bn := bl_le h
  have bd := bl_le k
  have H := Lib.hid (And.intro h k)
  have S0 := Lib.hid (dinv_start h k h0)
  have d0 : 0 < d := by rw [U_iff] at k; omega
  have D0 := Lib.hid d0
  clear h k h0 d0
  go_enter Try.func38, Try.ntmps38
  go_wp2
  go_step3
  go_wp2
  go_step3
  go_wp2
  go_upto_region 2 with fail
  go_cut [6] (fun s6 wx => s6 = .int .i64 (bl n - bl d) ∧ DivAt w n d 0 n wx)
  case first =>
    go_region_held3 (fun w' => w'.cell? ⟨w.heap.size, 0, none⟩ = some (.int .u64 (hi n)) ∧ w'.cell? ⟨w.heap.size, 1, none⟩ = some (.int .u64 (lo n)) ∧ w'.cell? ⟨w.heap.size + 1, 0, none⟩ = some (.int .u64 (hi d)) ∧ w'.cell? ⟨w.heap.size + 1, 1, none⟩ = some (.int .u64 (lo d))) (simp [go_sem])
        (first
        | (go_at_call 47; (with_reducible refine (length_any n _ H.out.1).mono ?_); rintro e w' ⟨rfl, rfl⟩)
        | (go_at_call 47; (with_reducible refine (length_any d _ H.out.2).mono ?_); rintro e w' ⟨rfl, rfl⟩))
    all_goals
      go_wp2_with fail
      go_meet
      have e64 : IntKind.i64.wrap ((bl n : Int) - bl d) = (bl n : Int) - bl d := by have := IntWalk.i64_in ((bl n : Int) - bl d) ⟨by omega, by omega⟩; exact this
      refine ⟨by rw [e64], ?_⟩
      refine ⟨by simp [go_sem], by simp [go_sem], by simp [go_sem], by simp [go_sem], by simp [go_sem] <;> rfl, by simp [go_sem] <;> rfl, by simp [go_sem], by simp [go_sem], by simp [go_sem], by simp [go_sem], by simp [go_sem], by simp [go_sem], ?_, ?_⟩
      · repeat (first | exact Below.refl _ _ | apply Below.drew | refine Below.alloc ?_ (by first | (simp; done) | (simp; omega) | omega) _)
      · simp
  case rest =>
    obtain ⟨rfl, hD⟩ := hcut
    go_upto_block 0 with fail
    go_cut [] (fun wx => DivAt w n d (n / d) (n % d) wx)
    case rest =>
      clear hD
      obtain ⟨c1, c2, c3, c4, c5, c6, c7, c8, f1, f2, f3, f4, hbw, hz0⟩ := hcut
      go_wp2
      go_region
      go_wp2
      try rw [Exit.noGoto_ret]
      refine bodyPost_ret (v := .tuple #[Sv (n / d), Sv (n % d)]) (by simp [results, Try.results38, go_sem, c5, c6, c7, c8]) rfl ⟨rfl, ?_⟩
      repeat (first | exact Below.refl _ _ | assumption | apply Below.drew | refine Below.setCell ?_ (by first | (simp; done) | (simp; omega) | omega) _ | refine Below.alloc ?_ (by first | (simp; done) | (simp; omega) | omega) _)
    case first =>
    go_wp2_with fail
    go_loopw [6] (fun s6 wr => ∃ a q r : Int, s6 = .int .i64 a ∧ DInv n d a q r ∧ DivAt w n d q r wr) (fun s6 _ => (intOf s6 + 1).toNat)
    case atStart => exact ⟨_, 0, n, rfl, S0.out, hD⟩
    case round =>
      obtain ⟨a, q, r, rfl, hI, hD⟩ := hrel
      have hD0 := hD
      obtain ⟨c1, c2, c3, c4, c5, c6, c7, c8, f1, f2, f3, f4, hbw, hz0⟩ := hD
      have HD := Lib.hid hD0
      clear hD0
      have hy2 : w.heap.size + 1 + 1 < wr.heap.size := by omega
      have hy1 : w.heap.size + 1 < wr.heap.size := by omega
      have hy0 : w.heap.size < wr.heap.size := by omega
      have I := Lib.hid hI
      have a0 : -200 ≤ a := hI.1
      have a1 : a ≤ 127 := hI.2.1
      clear hI
      by_cases ha : a < 0
      · go_wp2
        go_meet
        rw [← (dinv_end I.out ha D0.out).1, ← (dinv_end I.out ha D0.out).2]
        exact HD.out
      · obtain ⟨k, rfl⟩ := Int.eq_ofNat_of_zero_le (show 0 ≤ a by omega)
        have st1 := dinv_step I.out D0.out
        obtain ⟨st, est⟩ : ∃ st, st = d * 2 ^ k := ⟨_, rfl⟩
        have ST := Lib.hid (And.intro st1 est)
        have LC := Lib.hid (fun W => (show ws (d * 2 ^ k) = st by rw [st1.2.1, est]) ▸ left_any d k W H.out.2 st1.1)
        have hq := dinv_sizes I.out H.out.1 D0.out
        have BC := Lib.hid (fun W => withBit_any q k W hq.1 st1.1 st1.2.2)
        have UR := Lib.hid hq.2
        clear st1 est hq ha
        rcases Int.lt_trichotomy r st with g | g | g
        · have e1 := sg_lt g
          have G := Lib.hid g
          clear g
          go_wp2_with (first | (go_at_call 39; (with_reducible refine (LC.out _).mono ?_); rintro e w1 ⟨rfl, hb1⟩; obtain ⟨hc1, hf1⟩ := bcell hb1; have hz1 : w.heap.size < w1.heap.size := bsz hb1 (by first | omega | (simp; done) | (simp; omega)); have hz1b : w.heap.size + 1 < w1.heap.size := bsz hb1 (by first | omega | (simp; done) | (simp; omega)); have hz1c : w.heap.size + 1 + 1 < w1.heap.size := bsz hb1 (by first | omega | (simp; done) | (simp; omega)); have hz1d : w.heap.size + 1 + 1 + 1 < w1.heap.size := bsz hb1 (by first | omega | (simp; done) | (simp; omega))) | (go_at_call 40; (with_reducible refine (compare_any r st _).mono ?_); rintro e w2 ⟨rfl, hb2⟩; obtain ⟨hc2, hf2⟩ := bcell hb2; have hz2 : w.heap.size < w2.heap.size := bsz hb2 (by first | omega | (simp; done) | (simp; omega)); have hz2b : w.heap.size + 1 < w2.heap.size := bsz hb2 (by first | omega | (simp; done) | (simp; omega)); have hz2c : w.heap.size + 1 + 1 < w2.heap.size := bsz hb2 (by first | omega | (simp; done) | (simp; omega)); have hz2d : w.heap.size + 1 + 1 + 1 < w2.heap.size := bsz hb2 (by first | omega | (simp; done) | (simp; omega))))
          refine ⟨⟨(k : Int) - 1, q, r, rfl, dinv_down I.out (by rw [← ST.out.2]; exact G.out) D0.out, ((HD.out.below hb1).alloc _).below hb2⟩, by simp [intOf]⟩
        · have e1 : sg r st = 0 := g ▸ sg_eq r
          have G := Lib.hid g
          clear g
          obtain ⟨t, et⟩ : ∃ t, t = q + 2 ^ k := ⟨_, rfl⟩
          rw [← et] at BC
          have ET := Lib.hid et
          clear et
          go_wp2_with (first | (go_at_call 39; (with_reducible refine (LC.out _).mono ?_); rintro e w1 ⟨rfl, hb1⟩; obtain ⟨hc1, hf1⟩ := bcell hb1; have hz1 : w.heap.size < w1.heap.size := bsz hb1 (by first | omega | (simp; done) | (simp; omega)); have hz1b : w.heap.size + 1 < w1.heap.size := bsz hb1 (by first | omega | (simp; done) | (simp; omega)); have hz1c : w.heap.size + 1 + 1 < w1.heap.size := bsz hb1 (by first | omega | (simp; done) | (simp; omega)); have hz1d : w.heap.size + 1 + 1 + 1 < w1.heap.size := bsz hb1 (by first | omega | (simp; done) | (simp; omega))) | (go_at_call 40; (with_reducible refine (compare_any r st _).mono ?_); rintro e w2 ⟨rfl, hb2⟩; obtain ⟨hc2, hf2⟩ := bcell hb2; have hz2 : w.heap.size < w2.heap.size := bsz hb2 (by first | omega | (simp; done) | (simp; omega)); have hz2b : w.heap.size + 1 < w2.heap.size := bsz hb2 (by first | omega | (simp; done) | (simp; omega)); have hz2c : w.heap.size + 1 + 1 < w2.heap.size := bsz hb2 (by first | omega | (simp; done) | (simp; omega)); have hz2d : w.heap.size + 1 + 1 + 1 < w2.heap.size := bsz hb2 (by first | omega | (simp; done) | (simp; omega))) | (go_at_call 48; (with_reducible refine (BC.out _).mono ?_); rintro e w3 ⟨rfl, hb3⟩; obtain ⟨hc3, hf3⟩ := bcell hb3; have hz3 : w.heap.size < w3.heap.size := bsz hb3 (by first | omega | (simp; done) | (simp; omega)); have hz3b : w.heap.size + 1 < w3.heap.size := bsz hb3 (by first | omega | (simp; done) | (simp; omega)); have hz3c : w.heap.size + 1 + 1 < w3.heap.size := bsz hb3 (by first | omega | (simp; done) | (simp; omega)); have hz3d : w.heap.size + 1 + 1 + 1 < w3.heap.size := bsz hb3 (by first | omega | (simp; done) | (simp; omega))))
          go_meet
          rw [← (dinv_hit I.out (G.out.trans ST.out.2) D0.out).1, ← (dinv_hit I.out (G.out.trans ST.out.2) D0.out).2, ← ET.out]
          exact ((((HD.out.below hb1).alloc _).below hb2).below hb3).put t 0
        · have e1 := sg_gt g
          have G := Lib.hid g
          clear g
          obtain ⟨t, et⟩ : ∃ t, t = q + 2 ^ k := ⟨_, rfl⟩
          rw [← et] at BC
          obtain ⟨v, ev⟩ : ∃ v, v = r - st := ⟨_, rfl⟩
          have up := dinv_up I.out (by rw [← ST.out.2]; exact G.out) H.out.1 D0.out
          rw [← ST.out.2, ← ev, ← et] at up
          have US : U st := by rw [ST.out.2, ← ST.out.1.2.1]; exact U_ws _
          have hv : ws (r - st) = v := by rw [ev]; exact ws_in (by have := UR.out; have g := G.out; simp only [U_iff] at *; omega)
          have SC := Lib.hid (fun W => hv ▸ less_any r st W UR.out US)
          have UP := Lib.hid up
          clear up et ev US hv
          go_wp2_with (first | (go_at_call 39; (with_reducible refine (LC.out _).mono ?_); rintro e w1 ⟨rfl, hb1⟩; obtain ⟨hc1, hf1⟩ := bcell hb1; have hz1 : w.heap.size < w1.heap.size := bsz hb1 (by first | omega | (simp; done) | (simp; omega)); have hz1b : w.heap.size + 1 < w1.heap.size := bsz hb1 (by first | omega | (simp; done) | (simp; omega)); have hz1c : w.heap.size + 1 + 1 < w1.heap.size := bsz hb1 (by first | omega | (simp; done) | (simp; omega)); have hz1d : w.heap.size + 1 + 1 + 1 < w1.heap.size := bsz hb1 (by first | omega | (simp; done) | (simp; omega))) | (go_at_call 40; (with_reducible refine (compare_any r st _).mono ?_); rintro e w2 ⟨rfl, hb2⟩; obtain ⟨hc2, hf2⟩ := bcell hb2; have hz2 : w.heap.size < w2.heap.size := bsz hb2 (by first | omega | (simp; done) | (simp; omega)); have hz2b : w.heap.size + 1 < w2.heap.size := bsz hb2 (by first | omega | (simp; done) | (simp; omega)); have hz2c : w.heap.size + 1 + 1 < w2.heap.size := bsz hb2 (by first | omega | (simp; done) | (simp; omega)); have hz2d : w.heap.size + 1 + 1 + 1 < w2.heap.size := bsz hb2 (by first | omega | (simp; done) | (simp; omega))))
          have HD2 := ((HD.out.below hb1).alloc (.cells #[.int .u64 (hi st), .int .u64 (lo st)] 69)).below hb2
          have s0 : w2.cell? ⟨w1.heap.size, 0, none⟩ = some (.int .u64 (hi st)) := cell_on hb2 (World.cell?_alloc_new _ _ _ _)
          have s1 : w2.cell? ⟨w1.heap.size, 1, none⟩ = some (.int .u64 (lo st)) := cell_on hb2 (World.cell?_alloc_new _ _ _ _)
          have HD3 := Lib.hid HD2
          obtain ⟨x1, x2, x3, x4, x5, x6, x7, x8, y1, y2, y3, y4, hbx, hx0⟩ := HD2
          clear c1 c2 c3 c4 c5 c6 c7 c8 f1 f2 f3 f4 hc1 hf1 hc2 hf2
          go_region_with (first | (go_at_call 48; (with_reducible refine (BC.out _).mono ?_); rintro e w3 ⟨rfl, hb3⟩; (first | have D3 := Lib.hid (HD3.out.drew.below hb3) | have D3 := Lib.hid (D4.out.below hb3)); (first | have t0 := cell_on hb3 (drew_on s0) | have t0 := cell_on hb3 r0); (first | have t1 := cell_on hb3 (drew_on s1) | have t1 := cell_on hb3 r1); obtain ⟨z1, z2, z3, z4, z5, z6, z7, z8, v1, v2, v3, v4, hbz, hz0⟩ := D3.out) | (go_at_call 46; (with_reducible refine (SC.out _).mono ?_); rintro e w4 ⟨rfl, hb4⟩; (first | have D4 := Lib.hid (HD3.out.drew.below hb4) | have D4 := Lib.hid (D3.out.below hb4)); (first | have r0 := cell_on hb4 (drew_on s0) | have r0 := cell_on hb4 t0); (first | have r1 := cell_on hb4 (drew_on s1) | have r1 := cell_on hb4 t1); obtain ⟨m1, m2, m3, m4, m5, m6, m7, m8, l1, l2, l3, l4, hbm, hm0⟩ := D4.out))
          all_goals
            go_wp2
            refine ⟨⟨(k : Int) - 1, t, v, rfl, UP.out.2, ?_⟩, by simp [intOf]⟩
            first | (with_reducible exact D3.out.put t v) | (with_reducible exact D4.out.put t v) | (with_reducible exact DivAt.drew (D3.out.put t v)) | (with_reducible exact DivAt.drew (D4.out.put t v))
end Go.Proofs.Ytocoedpmcognpaa
namespace Go.Proofs.Ytocoedpmcognpaa
open Go.RowKit

/-- Is the quotient of the sizes raised by 1? -/
def up (n d : Int) : Bool := decide (0 < sg (2 * (ab n % ab d)) (ab d)) || (decide (sg (2 * (ab n % ab d)) (ab d) = 0) && (ab n / ab d % 2 == 1))
/-- The nearest whole number to n / d, halves to even. -/
def rd (n d : Int) : Int := sd (ng n != ng d) (if up n d = true then ab n / ab d + 1 else ab n / ab d)
/-- n / d rounded down. -/
def dn (n d : Int) : Int := sd (ng n != ng d) (if ((ng n != ng d) && !(ab n % ab d == 0)) = true then ab n / ab d + 1 else ab n / ab d)

theorem ab_ne {d : Int} (h : d ≠ 0) : ab d ≠ 0 := by unfold ab; omega
theorem ab_bd {a : Int} (h : R a) : 0 ≤ ab a ∧ ab a ≤ 170141183460469231731687303715884105728 := by rw [R_iff] at h; unfold ab; omega
theorem quo_sizes {n d : Int} (hn : R n) (hd : R d) (h0 : d ≠ 0) : U (ab n / ab d) ∧ U (ab n / ab d + 1) ∧ U (ab n % ab d) ∧ U (2 * (ab n % ab d)) := by
  obtain ⟨n0, n1⟩ := ab_bd hn
  obtain ⟨d0, d1⟩ := ab_bd hd
  have dp : 0 < ab d := by have := ab_ne h0; omega
  have q0 : 0 ≤ ab n / ab d := Int.ediv_nonneg n0 d0
  have q1 : ab n / ab d ≤ ab n := Int.ediv_le_self _ n0
  have r0 := Int.emod_nonneg (ab n) (show ab d ≠ 0 by omega)
  have r1 := Int.emod_lt_of_pos (ab n) dp
  simp only [U_iff]
  omega
end Go.Proofs.Ytocoedpmcognpaa
namespace Go.Proofs.Ytocoedpmcognpaa
open Go.RowKit

theorem keeps {W W' : World} (hb : Below W.heap.size W W') : ∀ p v, W.cell? p = some v → W'.cell? p = some v := fun _ _ h => cell_on hb h
/-- What Round's variables hold behind the division. -/
def RndAt (w0 : World) (n d q r : Int) (p6 p7 p8 : Nat) (w : World) : Prop :=
  w.cell? ⟨w0.heap.size, 0, none⟩ = some (.int .i64 (hi n)) ∧ w.cell? ⟨w0.heap.size, 1, none⟩ = some (.int .u64 (lo n)) ∧
  w.cell? ⟨w0.heap.size + 1, 0, none⟩ = some (.int .i64 (hi d)) ∧ w.cell? ⟨w0.heap.size + 1, 1, none⟩ = some (.int .u64 (lo d)) ∧
  w.cell? ⟨w0.heap.size + 1 + 1, 0, none⟩ = some (.int .i64 0) ∧ w.cell? ⟨w0.heap.size + 1 + 1, 1, none⟩ = some (.int .u64 0) ∧
  w.cell? ⟨p6, 0, none⟩ = some (.int .u64 (hi (ab d))) ∧ w.cell? ⟨p6, 1, none⟩ = some (.int .u64 (lo (ab d))) ∧
  w.cell? ⟨p7, 0, none⟩ = some (.int .u64 (hi q)) ∧ w.cell? ⟨p7, 1, none⟩ = some (.int .u64 (lo q)) ∧
  w.cell? ⟨p8, 0, none⟩ = some (.int .u64 (hi r)) ∧ w.cell? ⟨p8, 1, none⟩ = some (.int .u64 (lo r)) ∧
  w.frozen? ⟨w0.heap.size + 1 + 1, 0, none⟩ = false ∧ w.frozen? ⟨w0.heap.size + 1 + 1, 1, none⟩ = false ∧
  w.frozen? ⟨p7, 0, none⟩ = false ∧ w.frozen? ⟨p7, 1, none⟩ = false ∧
  Below w0.heap.size w0 w ∧ w0.heap.size + 1 + 1 < p7
theorem RndAt.below {w0 : World} {n d q r : Int} {p6 p7 p8 : Nat} {W W' : World} (h : RndAt w0 n d q r p6 p7 p8 W) (hb : Below W.heap.size W W') : RndAt w0 n d q r p6 p7 p8 W' := by
  obtain ⟨c1, c2, c3, c4, c5, c6, c7, c8, c9, ca, cb, cc, f1, f2, f3, f4, b, z⟩ := h
  have hz : w0.heap.size < W.heap.size := World.block_lt_of_cell? W _ c1
  exact ⟨cell_on hb c1, cell_on hb c2, cell_on hb c3, cell_on hb c4, cell_on hb c5, cell_on hb c6, cell_on hb c7, cell_on hb c8, cell_on hb c9, cell_on hb ca, cell_on hb cb, cell_on hb cc, frozen_on hb c5 f1, frozen_on hb c6 f2, frozen_on hb c9 f3, frozen_on hb ca f4, b.trans (hb.mono (by omega)), z⟩
theorem RndAt.drew {w0 : World} {n d q r : Int} {p6 p7 p8 : Nat} {W : World} (h : RndAt w0 n d q r p6 p7 p8 W) : RndAt w0 n d q r p6 p7 p8 W.drew := by
  obtain ⟨c1, c2, c3, c4, c5, c6, c7, c8, c9, ca, cb, cc, f1, f2, f3, f4, b, z⟩ := h
  exact ⟨c1, c2, c3, c4, c5, c6, c7, c8, c9, ca, cb, cc, f1, f2, f3, f4, b.drew, z⟩
theorem RndAt.put {w0 : World} {n d q r : Int} {p6 p7 p8 : Nat} {W : World} (h : RndAt w0 n d q r p6 p7 p8 W) (q' : Int) :
    (let V := (W.setCell ⟨p7, 0, none⟩ (.int .u64 (hi q'))).setCell ⟨p7, 1, none⟩ (.int .u64 (lo q'))
     V.cell? ⟨w0.heap.size, 0, none⟩ = some (.int .i64 (hi n)) ∧ V.cell? ⟨w0.heap.size, 1, none⟩ = some (.int .u64 (lo n)) ∧
     V.cell? ⟨w0.heap.size + 1, 0, none⟩ = some (.int .i64 (hi d)) ∧ V.cell? ⟨w0.heap.size + 1, 1, none⟩ = some (.int .u64 (lo d)) ∧
     V.cell? ⟨w0.heap.size + 1 + 1, 0, none⟩ = some (.int .i64 0) ∧ V.cell? ⟨w0.heap.size + 1 + 1, 1, none⟩ = some (.int .u64 0) ∧
     V.cell? ⟨p7, 0, none⟩ = some (.int .u64 (hi q')) ∧ V.cell? ⟨p7, 1, none⟩ = some (.int .u64 (lo q')) ∧
     V.frozen? ⟨w0.heap.size + 1 + 1, 0, none⟩ = false ∧ V.frozen? ⟨w0.heap.size + 1 + 1, 1, none⟩ = false ∧ Below w0.heap.size w0 V ∧ w0.heap.size + 1 + 1 < V.heap.size) := by
  obtain ⟨c1, c2, c3, c4, c5, c6, c7, c8, c9, ca, cb, cc, f1, f2, f3, f4, b, z⟩ := h
  have hs : w0.heap.size + 1 + 1 < W.heap.size := World.block_lt_of_cell? W _ c5
  have n0 : ¬ p7 = w0.heap.size := by omega
  have n1 : ¬ p7 = w0.heap.size + 1 := by omega
  have n2 : ¬ p7 = w0.heap.size + 1 + 1 := by omega
  have m0 : ¬ w0.heap.size = p7 := by omega
  have m1 : ¬ w0.heap.size + 1 = p7 := by omega
  have m2 : ¬ w0.heap.size + 1 + 1 = p7 := by omega
  refine ⟨by simp [go_sem, *], by simp [go_sem, *], by simp [go_sem, *], by simp [go_sem, *], by simp [go_sem, *], by simp [go_sem, *], by simp [go_sem, *], by simp [go_sem, *], by simp [go_sem, *], by simp [go_sem, *], ?_, by simp [go_sem, *]⟩
  exact (b.setCell (by simp; omega) _).setCell (by simp; omega) _
theorem rnd_mk {w0 w2 W : World} {n d q r : Int} {p6 p7 p8 : Nat} (B2 : Below w0.heap.size w0 w2) (y : w0.heap.size + 1 + 1 < w2.heap.size)
    (n0 : w2.cell? ⟨w0.heap.size, 0, none⟩ = some (.int .i64 (hi n))) (n1 : w2.cell? ⟨w0.heap.size, 1, none⟩ = some (.int .u64 (lo n)))
    (d0 : w2.cell? ⟨w0.heap.size + 1, 0, none⟩ = some (.int .i64 (hi d))) (d1 : w2.cell? ⟨w0.heap.size + 1, 1, none⟩ = some (.int .u64 (lo d)))
    (z0 : w2.cell? ⟨w0.heap.size + 1 + 1, 0, none⟩ = some (.int .i64 0)) (z1 : w2.cell? ⟨w0.heap.size + 1 + 1, 1, none⟩ = some (.int .u64 0))
    (zf0 : w2.frozen? ⟨w0.heap.size + 1 + 1, 0, none⟩ = false) (zf1 : w2.frozen? ⟨w0.heap.size + 1 + 1, 1, none⟩ = false)
    (BB : Below w2.heap.size w2 W)
    (a0 : W.cell? ⟨p6, 0, none⟩ = some (.int .u64 (hi (ab d)))) (a1 : W.cell? ⟨p6, 1, none⟩ = some (.int .u64 (lo (ab d))))
    (b0 : W.cell? ⟨p7, 0, none⟩ = some (.int .u64 (hi q))) (b1 : W.cell? ⟨p7, 1, none⟩ = some (.int .u64 (lo q)))
    (c0 : W.cell? ⟨p8, 0, none⟩ = some (.int .u64 (hi r))) (c1 : W.cell? ⟨p8, 1, none⟩ = some (.int .u64 (lo r)))
    (f0 : W.frozen? ⟨p7, 0, none⟩ = false) (f1 : W.frozen? ⟨p7, 1, none⟩ = false) (hp : w0.heap.size + 1 + 1 < p7) : RndAt w0 n d q r p6 p7 p8 W := by
  obtain ⟨hc, hf⟩ := bcell BB
  refine ⟨?_, ?_, ?_, ?_, ?_, ?_, a0, a1, b0, b1, c0, c1, ?_, ?_, f0, f1, B2.trans (BB.mono (by omega)), hp⟩
  all_goals first | (rw [hc _ _ (by omega)]; assumption) | (rw [hf _ _ (by omega)]; assumption)
set_option maxHeartbeats 4000000 in
/-- wide.Round -/
theorem round_any (n d : Int) (w : World) (hn : R n) (hd : R d) (h0 : d ≠ 0) : Calls Try.prog 29 #[Wv n, Wv d] w fun e w' => e = .returned (.tuple #[Wv (told (rd n d)), .int .i64 (over (rd n d))]) ∧ Below w.heap.size w w' := by
  have e0 : (sg d 0 == 0) = false := by unfold sg; split <;> (try split) <;> first | rfl | omega
  have H := Lib.hid (And.intro hn (And.intro hd h0))
  have QS := Lib.hid (quo_sizes hn hd h0)
  clear hn hd h0
  go_enter Try.func29, Try.ntmps29
  go_upto_region 4 with (first | (go_at_call 36; (with_reducible refine (sign_any d _).mono ?_); rintro e w1 ⟨rfl, hb⟩; have hk := keeps hb; obtain ⟨hc, hf⟩ := bcell hb; have hz1 : w.heap.size + 1 + 1 < w1.heap.size := bsz hb (by first | (simp; done) | (simp; omega) | omega)) | (go_at_call 37; (with_reducible refine (sizeOf_any d _ H.out.2.1).mono ?_); rintro e w2 ⟨rfl, hb2⟩; have hk2 := keeps hb2; obtain ⟨hc2, hf2⟩ := bcell hb2; have hz2 : w.heap.size + 1 + 1 < w2.heap.size := bsz hb2 (by first | (simp; done) | (simp; omega) | omega)))
  have n0 : w2.cell? ⟨w.heap.size, 0, none⟩ = some (.int .i64 (hi n)) := hk2 _ _ (hk _ _ (by simp [go_sem]))
  have n1 : w2.cell? ⟨w.heap.size, 1, none⟩ = some (.int .u64 (lo n)) := hk2 _ _ (hk _ _ (by simp [go_sem]))
  have d0 : w2.cell? ⟨w.heap.size + 1, 0, none⟩ = some (.int .i64 (hi d)) := hk2 _ _ (hk _ _ (by simp [go_sem]))
  have d1 : w2.cell? ⟨w.heap.size + 1, 1, none⟩ = some (.int .u64 (lo d)) := hk2 _ _ (hk _ _ (by simp [go_sem]))
  have z0 : w2.cell? ⟨w.heap.size + 1 + 1, 0, none⟩ = some (.int .i64 0) := hk2 _ _ (hk _ _ (by simp [go_sem]))
  have z1 : w2.cell? ⟨w.heap.size + 1 + 1, 1, none⟩ = some (.int .u64 0) := hk2 _ _ (hk _ _ (by simp [go_sem]))
  have zf0 : w2.frozen? ⟨w.heap.size + 1 + 1, 0, none⟩ = false := by rw [hf2 _ _ (by omega), hf _ _ (by simp)]; simp [go_sem]
  have zf1 : w2.frozen? ⟨w.heap.size + 1 + 1, 1, none⟩ = false := by rw [hf2 _ _ (by omega), hf _ _ (by simp)]; simp [go_sem]
  have B2 : Below w.heap.size w w2 := by
    repeat (first | exact Below.refl _ _ | assumption | apply Below.drew | refine Below.setCell ?_ (by first | (simp; done) | (simp; omega) | omega) _ | refine Below.alloc ?_ (by first | (simp; done) | (simp; omega) | omega) _ | refine Below.trans ?_ (hb2.mono (by first | (simp; done) | (simp; omega) | omega)) | refine Below.trans ?_ (hb.mono (by first | (simp; done) | (simp; omega) | omega)))
  have y1 : w.heap.size + 1 < w2.heap.size := by omega
  have y0 : w.heap.size < w2.heap.size := by omega
  have yl0 : w.heap.size < w2.heap.size + 1 := by omega
  have yl1 : w.heap.size < w2.heap.size + 1 + 1 := by omega
  clear hc hf hc2 hf2 hk hk2 hb hb2
  go_cut [7, 8] (fun s7 s8 wx => ∃ p7 p8 : Nat, s7 = .pointer (some ⟨p7, 0, none⟩) ∧ s8 = .pointer (some ⟨p8, 0, none⟩) ∧ RndAt w n d (ab n / ab d) (ab n % ab d) w2.heap.size p7 p8 wx)
  case first =>
    go_region_held3 (fun w' => w'.cell? ⟨w.heap.size, 0, none⟩ = some (.int .i64 (hi n)) ∧ w'.cell? ⟨w.heap.size, 1, none⟩ = some (.int .u64 (lo n)) ∧ w'.cell? ⟨w2.heap.size, 0, none⟩ = some (.int .u64 (hi (ab d))) ∧ w'.cell? ⟨w2.heap.size, 1, none⟩ = some (.int .u64 (lo (ab d)))) (simp [go_sem, *])
      (first
      | (go_at_call 37; (with_reducible refine (sizeOf_any n _ H.out.1).mono ?_); rintro e w3 ⟨rfl, hb3⟩; obtain ⟨hc3, hf3⟩ := bcell hb3; have hz30 : w.heap.size < w3.heap.size := bsz hb3 (by first | omega | (simp; done) | (simp; omega)); have hz31 : w.heap.size + 1 < w3.heap.size := bsz hb3 (by first | omega | (simp; done) | (simp; omega)); have hz32 : w.heap.size + 1 + 1 < w3.heap.size := bsz hb3 (by first | omega | (simp; done) | (simp; omega)); have hz33 : w2.heap.size < w3.heap.size := bsz hb3 (by first | omega | (simp; done) | (simp; omega)); have hl30 : w.heap.size < w3.heap.size + 1 := Nat.lt_succ_of_lt hz30; have hm30 : w.heap.size < w3.heap.size + 1 + 1 := Nat.lt_succ_of_lt hl30; have hl31 : w.heap.size + 1 < w3.heap.size + 1 := Nat.lt_succ_of_lt hz31; have hm31 : w.heap.size + 1 < w3.heap.size + 1 + 1 := Nat.lt_succ_of_lt hl31; have hl32 : w.heap.size + 1 + 1 < w3.heap.size + 1 := Nat.lt_succ_of_lt hz32; have hm32 : w.heap.size + 1 + 1 < w3.heap.size + 1 + 1 := Nat.lt_succ_of_lt hl32; have hl33 : w2.heap.size < w3.heap.size + 1 := Nat.lt_succ_of_lt hz33; have hm33 : w2.heap.size < w3.heap.size + 1 + 1 := Nat.lt_succ_of_lt hl33; have g30 : w3.cell? ⟨w.heap.size, 0, none⟩ = some (.int .i64 (hi n)) := (hc3 _ _ (by first | omega | (simp; done) | (simp; omega))).trans (by first | (simp [go_sem, *]; done) | fail); have g31 : w3.cell? ⟨w.heap.size, 1, none⟩ = some (.int .u64 (lo n)) := (hc3 _ _ (by first | omega | (simp; done) | (simp; omega))).trans (by first | (simp [go_sem, *]; done) | fail); have g32 : w3.cell? ⟨w2.heap.size, 0, none⟩ = some (.int .u64 (hi (ab d))) := (hc3 _ _ (by first | omega | (simp; done) | (simp; omega))).trans (by first | (simp [go_sem, *]; done) | fail); have g33 : w3.cell? ⟨w2.heap.size, 1, none⟩ = some (.int .u64 (lo (ab d))) := (hc3 _ _ (by first | omega | (simp; done) | (simp; omega))).trans (by first | (simp [go_sem, *]; done) | fail); (first | (have hy30 : w2.heap.size + 1 < w3.heap.size := bsz hb3 (by first | omega | (simp; done) | (simp; omega))) | skip); (first | (have hy31 : w2.heap.size + 1 + 1 < w3.heap.size := bsz hb3 (by first | omega | (simp; done) | (simp; omega))) | skip); (first | (have hn30 : w2.heap.size + 1 < w3.heap.size + 1 := Nat.lt_succ_of_lt hy30) | skip); (first | (have hn31 : w2.heap.size + 1 + 1 < w3.heap.size + 1 := Nat.lt_succ_of_lt hy31) | skip); (first | (have o30 : w3.cell? ⟨w2.heap.size + 1, 0, none⟩ = some (.int .u64 0) := (hc3 _ _ (by first | omega | (simp; done) | (simp; omega))).trans (by first | (simp [go_sem, *]; done) | fail)) | skip); (first | (have q30 : w3.frozen? ⟨w2.heap.size + 1, 0, none⟩ = false := (hf3 _ _ (by first | omega | (simp; done) | (simp; omega))).trans (by first | (simp [go_sem, *]; done) | fail)) | skip); (first | (have o31 : w3.cell? ⟨w2.heap.size + 1, 1, none⟩ = some (.int .u64 0) := (hc3 _ _ (by first | omega | (simp; done) | (simp; omega))).trans (by first | (simp [go_sem, *]; done) | fail)) | skip); (first | (have q31 : w3.frozen? ⟨w2.heap.size + 1, 1, none⟩ = false := (hf3 _ _ (by first | omega | (simp; done) | (simp; omega))).trans (by first | (simp [go_sem, *]; done) | fail)) | skip); (first | (have o32 : w3.cell? ⟨w2.heap.size + 1 + 1, 0, none⟩ = some (.int .u64 0) := (hc3 _ _ (by first | omega | (simp; done) | (simp; omega))).trans (by first | (simp [go_sem, *]; done) | fail)) | skip); (first | (have q32 : w3.frozen? ⟨w2.heap.size + 1 + 1, 0, none⟩ = false := (hf3 _ _ (by first | omega | (simp; done) | (simp; omega))).trans (by first | (simp [go_sem, *]; done) | fail)) | skip); (first | (have o33 : w3.cell? ⟨w2.heap.size + 1 + 1, 1, none⟩ = some (.int .u64 0) := (hc3 _ _ (by first | omega | (simp; done) | (simp; omega))).trans (by first | (simp [go_sem, *]; done) | fail)) | skip); (first | (have q33 : w3.frozen? ⟨w2.heap.size + 1 + 1, 1, none⟩ = false := (hf3 _ _ (by first | omega | (simp; done) | (simp; omega))).trans (by first | (simp [go_sem, *]; done) | fail)) | skip); clear hc3 hf3)
      | (go_at_call 38; (with_reducible refine (divide_any (ab n) (ab d) _ (U_ab H.out.1) (U_ab H.out.2.1) (ab_ne H.out.2.2)).mono ?_); rintro e w4 ⟨rfl, hb4⟩; obtain ⟨hc4, hf4⟩ := bcell hb4; have hz40 : w.heap.size < w4.heap.size := bsz hb4 (by first | omega | (simp; done) | (simp; omega)); have hz41 : w.heap.size + 1 < w4.heap.size := bsz hb4 (by first | omega | (simp; done) | (simp; omega)); have hz42 : w.heap.size + 1 + 1 < w4.heap.size := bsz hb4 (by first | omega | (simp; done) | (simp; omega)); have hz43 : w2.heap.size < w4.heap.size := bsz hb4 (by first | omega | (simp; done) | (simp; omega)); have hl40 : w.heap.size < w4.heap.size + 1 := Nat.lt_succ_of_lt hz40; have hm40 : w.heap.size < w4.heap.size + 1 + 1 := Nat.lt_succ_of_lt hl40; have hl41 : w.heap.size + 1 < w4.heap.size + 1 := Nat.lt_succ_of_lt hz41; have hm41 : w.heap.size + 1 < w4.heap.size + 1 + 1 := Nat.lt_succ_of_lt hl41; have hl42 : w.heap.size + 1 + 1 < w4.heap.size + 1 := Nat.lt_succ_of_lt hz42; have hm42 : w.heap.size + 1 + 1 < w4.heap.size + 1 + 1 := Nat.lt_succ_of_lt hl42; have hl43 : w2.heap.size < w4.heap.size + 1 := Nat.lt_succ_of_lt hz43; have hm43 : w2.heap.size < w4.heap.size + 1 + 1 := Nat.lt_succ_of_lt hl43; have g40 : w4.cell? ⟨w.heap.size, 0, none⟩ = some (.int .i64 (hi n)) := (hc4 _ _ (by first | omega | (simp; done) | (simp; omega))).trans (by first | (simp [go_sem, *]; done) | fail); have g41 : w4.cell? ⟨w.heap.size, 1, none⟩ = some (.int .u64 (lo n)) := (hc4 _ _ (by first | omega | (simp; done) | (simp; omega))).trans (by first | (simp [go_sem, *]; done) | fail); have g42 : w4.cell? ⟨w2.heap.size, 0, none⟩ = some (.int .u64 (hi (ab d))) := (hc4 _ _ (by first | omega | (simp; done) | (simp; omega))).trans (by first | (simp [go_sem, *]; done) | fail); have g43 : w4.cell? ⟨w2.heap.size, 1, none⟩ = some (.int .u64 (lo (ab d))) := (hc4 _ _ (by first | omega | (simp; done) | (simp; omega))).trans (by first | (simp [go_sem, *]; done) | fail); (first | (have hy40 : w2.heap.size + 1 < w4.heap.size := bsz hb4 (by first | omega | (simp; done) | (simp; omega))) | skip); (first | (have hy41 : w2.heap.size + 1 + 1 < w4.heap.size := bsz hb4 (by first | omega | (simp; done) | (simp; omega))) | skip); (first | (have hy42 : w3.heap.size < w4.heap.size := bsz hb4 (by first | omega | (simp; done) | (simp; omega))) | skip); (first | (have hy43 : w3.heap.size + 1 < w4.heap.size := bsz hb4 (by first | omega | (simp; done) | (simp; omega))) | skip); (first | (have hn40 : w2.heap.size + 1 < w4.heap.size + 1 := Nat.lt_succ_of_lt hy40) | skip); (first | (have hn41 : w2.heap.size + 1 + 1 < w4.heap.size + 1 := Nat.lt_succ_of_lt hy41) | skip); (first | (have hn42 : w3.heap.size < w4.heap.size + 1 := Nat.lt_succ_of_lt hy42) | skip); (first | (have hn43 : w3.heap.size + 1 < w4.heap.size + 1 := Nat.lt_succ_of_lt hy43) | skip); (first | (have o40 : w4.cell? ⟨w2.heap.size + 1, 0, none⟩ = some (.int .u64 0) := (hc4 _ _ (by first | omega | (simp; done) | (simp; omega))).trans (by first | (simp [go_sem, *]; done) | fail)) | skip); (first | (have q40 : w4.frozen? ⟨w2.heap.size + 1, 0, none⟩ = false := (hf4 _ _ (by first | omega | (simp; done) | (simp; omega))).trans (by first | (simp [go_sem, *]; done) | fail)) | skip); (first | (have o41 : w4.cell? ⟨w2.heap.size + 1, 1, none⟩ = some (.int .u64 0) := (hc4 _ _ (by first | omega | (simp; done) | (simp; omega))).trans (by first | (simp [go_sem, *]; done) | fail)) | skip); (first | (have q41 : w4.frozen? ⟨w2.heap.size + 1, 1, none⟩ = false := (hf4 _ _ (by first | omega | (simp; done) | (simp; omega))).trans (by first | (simp [go_sem, *]; done) | fail)) | skip); (first | (have o42 : w4.cell? ⟨w2.heap.size + 1 + 1, 0, none⟩ = some (.int .u64 0) := (hc4 _ _ (by first | omega | (simp; done) | (simp; omega))).trans (by first | (simp [go_sem, *]; done) | fail)) | skip); (first | (have q42 : w4.frozen? ⟨w2.heap.size + 1 + 1, 0, none⟩ = false := (hf4 _ _ (by first | omega | (simp; done) | (simp; omega))).trans (by first | (simp [go_sem, *]; done) | fail)) | skip); (first | (have o43 : w4.cell? ⟨w2.heap.size + 1 + 1, 1, none⟩ = some (.int .u64 0) := (hc4 _ _ (by first | omega | (simp; done) | (simp; omega))).trans (by first | (simp [go_sem, *]; done) | fail)) | skip); (first | (have q43 : w4.frozen? ⟨w2.heap.size + 1 + 1, 1, none⟩ = false := (hf4 _ _ (by first | omega | (simp; done) | (simp; omega))).trans (by first | (simp [go_sem, *]; done) | fail)) | skip); (first | (have o44 : w4.cell? ⟨w3.heap.size, 0, none⟩ = some (.int .u64 0) := (hc4 _ _ (by first | omega | (simp; done) | (simp; omega))).trans (by first | (simp [go_sem, *]; done) | fail)) | skip); (first | (have q44 : w4.frozen? ⟨w3.heap.size, 0, none⟩ = false := (hf4 _ _ (by first | omega | (simp; done) | (simp; omega))).trans (by first | (simp [go_sem, *]; done) | fail)) | skip); (first | (have o45 : w4.cell? ⟨w3.heap.size, 1, none⟩ = some (.int .u64 0) := (hc4 _ _ (by first | omega | (simp; done) | (simp; omega))).trans (by first | (simp [go_sem, *]; done) | fail)) | skip); (first | (have q45 : w4.frozen? ⟨w3.heap.size, 1, none⟩ = false := (hf4 _ _ (by first | omega | (simp; done) | (simp; omega))).trans (by first | (simp [go_sem, *]; done) | fail)) | skip); (first | (have o46 : w4.cell? ⟨w3.heap.size + 1, 0, none⟩ = some (.int .u64 0) := (hc4 _ _ (by first | omega | (simp; done) | (simp; omega))).trans (by first | (simp [go_sem, *]; done) | fail)) | skip); (first | (have q46 : w4.frozen? ⟨w3.heap.size + 1, 0, none⟩ = false := (hf4 _ _ (by first | omega | (simp; done) | (simp; omega))).trans (by first | (simp [go_sem, *]; done) | fail)) | skip); (first | (have o47 : w4.cell? ⟨w3.heap.size + 1, 1, none⟩ = some (.int .u64 0) := (hc4 _ _ (by first | omega | (simp; done) | (simp; omega))).trans (by first | (simp [go_sem, *]; done) | fail)) | skip); (first | (have q47 : w4.frozen? ⟨w3.heap.size + 1, 1, none⟩ = false := (hf4 _ _ (by first | omega | (simp; done) | (simp; omega))).trans (by first | (simp [go_sem, *]; done) | fail)) | skip); clear hc4 hf4))
    all_goals
      go_wp2_with fail
      go_meet
      refine ⟨_, _, rfl, rfl, rnd_mk B2 hz2 n0 n1 d0 d1 z0 z1 zf0 zf1 ?_ (by simp [go_sem, *]) (by simp [go_sem, *]) (by simp [go_sem, *]) (by simp [go_sem, *]) (by simp [go_sem, *]) (by simp [go_sem, *]) (by simp [go_sem, *]) (by simp [go_sem, *]) (by first | omega | (simp; done) | (simp; omega))⟩
      repeat (first | exact Below.refl _ _ | assumption | apply Below.drew | refine Below.setCell ?_ (by first | omega | (simp; done) | (simp; omega)) _ | refine Below.alloc ?_ (by first | omega | (simp; done) | (simp; omega)) _ | refine Below.trans ?_ (hb4.mono (by first | omega | (simp; done) | (simp; omega))) | refine Below.trans ?_ (hb3.mono (by first | omega | (simp; done) | (simp; omega))))
  case rest =>
    obtain ⟨p7, p8, rfl, rfl, hR⟩ := hcut
    generalize w2.heap.size = p6 at *
    obtain ⟨q, hq⟩ : ∃ q, q = ab n / ab d := ⟨_, rfl⟩
    obtain ⟨r, hr⟩ : ∃ r, r = ab n % ab d := ⟨_, rfl⟩
    have HQ := Lib.hid (And.intro hq hr)
    rw [← hq, ← hr] at hR QS
    have hU := QS.out
    have e2 : ws (r * 2 ^ 1) = r * 2 := by
      have e3 : (r * 2 ^ 1 : Int) = 2 * r := by omega
      rw [e3, ws_in hU.2.2.2]; omega
    have LC : Hid (∀ W : World, Calls Try.prog 39 #[Sv r, .int .i64 1] W fun e w' => e = .returned (Sv (r * 2)) ∧ Below W.heap.size W w') := fun W : World => e2 ▸ left_any r 1 W hU.2.2.1 (by decide)
    clear hq hr hU e2
    have HR := Lib.hid hR
    obtain ⟨c1, c2, c3, c4, c5, c6, c7, c8, c9, ca, cb, cc, f1, f2, f3, f4, hbw, hp⟩ := hR
    go_wp2_with fail
    go_cut [9] (fun s9 wx => s9 = .int .i64 (sg (r * 2) (ab d)) ∧ RndAt w n d q r p6 p7 p8 wx)
    case first =>
      go_region_held3 (fun w' => w'.cell? ⟨p8, 0, none⟩ = some (.int .u64 (hi r)) ∧ w'.cell? ⟨p8, 1, none⟩ = some (.int .u64 (lo r)) ∧ w'.cell? ⟨p6, 0, none⟩ = some (.int .u64 (hi (ab d))) ∧ w'.cell? ⟨p6, 1, none⟩ = some (.int .u64 (lo (ab d)))) (simp [go_sem, *])
        (first
        | (go_at_call 39; (with_reducible refine (LC.out _).mono ?_); rintro e w5 ⟨rfl, hb5⟩; have e50 : w5.cell? ⟨p8, 0, none⟩ = some (.int .u64 (hi r)) := cell_on hb5 (by first | assumption | exact drew_on (by assumption)); have e51 : w5.cell? ⟨p8, 1, none⟩ = some (.int .u64 (lo r)) := cell_on hb5 (by first | assumption | exact drew_on (by assumption)); have e52 : w5.cell? ⟨p6, 0, none⟩ = some (.int .u64 (hi (ab d))) := cell_on hb5 (by first | assumption | exact drew_on (by assumption)); have e53 : w5.cell? ⟨p6, 1, none⟩ = some (.int .u64 (lo (ab d))) := cell_on hb5 (by first | assumption | exact drew_on (by assumption)))
        | (go_at_call 40; (with_reducible refine (compare_any (r * 2) (ab d) _).mono ?_); rintro e w6 ⟨rfl, hb6⟩; have e60 : w6.cell? ⟨p8, 0, none⟩ = some (.int .u64 (hi r)) := cell_on hb6 (by first | assumption | exact drew_on (by assumption)); have e61 : w6.cell? ⟨p8, 1, none⟩ = some (.int .u64 (lo r)) := cell_on hb6 (by first | assumption | exact drew_on (by assumption)); have e62 : w6.cell? ⟨p6, 0, none⟩ = some (.int .u64 (hi (ab d))) := cell_on hb6 (by first | assumption | exact drew_on (by assumption)); have e63 : w6.cell? ⟨p6, 1, none⟩ = some (.int .u64 (lo (ab d))) := cell_on hb6 (by first | assumption | exact drew_on (by assumption))))
      all_goals
        go_wp2_with fail
        go_meet
        refine ⟨rfl, ?_⟩
        first | exact (HR.out.drew.below hb5).below hb6
    case rest =>
      obtain ⟨rfl, hR⟩ := hcut
      have HR3 := Lib.hid hR
      clear HR hR
      have UP : up n d = (decide (0 < sg (r * 2) (ab d)) || (decide (sg (r * 2) (ab d) = 0) && (q % 2 == 1))) := by unfold up; rw [← HQ.out.1, ← HQ.out.2, Int.mul_comm 2 r]
      have HS : sg (r * 2) (ab d) = 1 ∨ sg (r * 2) (ab d) = 0 ∨ sg (r * 2) (ab d) = -1 := by unfold sg; split <;> (try split) <;> simp
      go_upto_region 6 with fail
      go_cut [36] (fun s36 wx => s36 = .bool (up n d) ∧ RndAt w n d q r p6 p7 p8 wx)
      case first =>
        obtain ⟨c1, c2, c3, c4, c5, c6, c7, c8, c9, ca, cb, cc, f1, f2, f3, f4, hbw, hp⟩ := HR3.out
        have HUP := Lib.hid UP
        clear UP
        rcases HS with hs | hs | hs
        · generalize sg (r * 2) (ab d) = h at *
          subst hs
          go_wp2_with fail
          go_meet
          exact ⟨by rw [HUP.out]; rfl, HR3.out⟩
        · generalize sg (r * 2) (ab d) = h at *
          subst hs
          go_wp2_with (go_at_call 41; (with_reducible refine (odd_any q _).mono ?_); rintro e w7 ⟨rfl, hb7⟩)
          go_meet
          refine ⟨?_, HR3.out.below hb7⟩
          rw [HUP.out]; rfl
        · generalize sg (r * 2) (ab d) = h at *
          subst hs
          go_wp2_with fail
          go_meet
          exact ⟨by rw [HUP.out]; rfl, HR3.out⟩
      case rest =>
        obtain ⟨rfl, hR⟩ := hcut
        trace "@@7"
        clear UP HS
        have HR4 := Lib.hid hR
        clear hR HR3
        obtain ⟨c1, c2, c3, c4, c5, c6, c7, c8, c9, ca, cb, cc, f1, f2, f3, f4, hbw, hp⟩ := HR4.out
        have hU := QS.out
        have BN := Lib.hid (fun W : World => below_any n W)
        have BD := Lib.hid (fun W : World => below_any d W)
        cases hup : up n d with
        | true =>
          have NC := Lib.hid (fun W : World => next_any q W hU.2.1)
          go_upto_region 8 with (go_at_call 42; (with_reducible refine (NC.out _).mono ?_); rintro e w8 ⟨rfl, hb8⟩; obtain ⟨x1, x2, x3, x4, x5, x6, x7, x8, x9, xa, xb, xc, g1, g2, g3, g4, hbx, hpx⟩ := HR4.out.below hb8)
          clear x1 x2 x3 x4 x5 x6 x7 x8 x9 xa xb xc g1 g2 g3 g4 hbx hpx c1 c2 c3 c4 c5 c6 c7 c8 c9 ca cb cc f1 f2 f3 f4 hbw hp
          obtain ⟨x1, x2, x3, x4, x5, x6, x9, xa, g1, g2, hbx, hsz⟩ := (HR4.out.below hb8).put (q + 1)
          generalize (w8.setCell ⟨p7, 0, none⟩ (.int .u64 (hi (q + 1)))).setCell ⟨p7, 1, none⟩ (.int .u64 (lo (q + 1))) = wv at *
          have RD := Lib.hid (show rd n d = sd (!(ng n == ng d)) (q + 1) by unfold rd; rw [if_pos hup, HQ.out.1]; rfl)
          have SU := Lib.hid (hU.2.1)
          clear hU hup
          generalize ng n = sn at *
          generalize ng d = sdd at *
          go_region_held3 (fun w' => w'.cell? ⟨p7, 0, none⟩ = some (.int .u64 (hi (q + 1))) ∧ w'.cell? ⟨p7, 1, none⟩ = some (.int .u64 (lo (q + 1))) ∧ w'.cell? ⟨w.heap.size, 0, none⟩ = some (.int .i64 (hi n)) ∧ w'.cell? ⟨w.heap.size, 1, none⟩ = some (.int .u64 (lo n)) ∧ w'.cell? ⟨w.heap.size + 1, 0, none⟩ = some (.int .i64 (hi d)) ∧ w'.cell? ⟨w.heap.size + 1, 1, none⟩ = some (.int .u64 (lo d))) (first | (simp [go_sem, *]; done) | (simp [go_sem, World.cell?_alloc_some, *]; done))
            (first
            | (go_at_call 35; (with_reducible refine (BN.out _).mono ?_); rintro e w' ⟨rfl, rfl⟩)
            | (go_at_call 35; (with_reducible refine (BD.out _).mono ?_); rintro e w' ⟨rfl, rfl⟩)
            | (go_at_call 43; (with_reducible refine (signed_any (q + 1) _ _ SU.out).mono ?_); rintro e w9 ⟨rfl, hb9⟩; have e90 : w9.cell? ⟨p7, 0, none⟩ = some (.int .u64 (hi (q + 1))) := cell_on hb9 (by first | (simp [go_sem, *]; done) | (simp [go_sem, World.cell?_alloc_some, *]; done) | fail); have e91 : w9.cell? ⟨p7, 1, none⟩ = some (.int .u64 (lo (q + 1))) := cell_on hb9 (by first | (simp [go_sem, *]; done) | (simp [go_sem, World.cell?_alloc_some, *]; done) | fail); have e92 : w9.cell? ⟨w.heap.size, 0, none⟩ = some (.int .i64 (hi n)) := cell_on hb9 (by first | (simp [go_sem, *]; done) | (simp [go_sem, World.cell?_alloc_some, *]; done) | fail); have e93 : w9.cell? ⟨w.heap.size, 1, none⟩ = some (.int .u64 (lo n)) := cell_on hb9 (by first | (simp [go_sem, *]; done) | (simp [go_sem, World.cell?_alloc_some, *]; done) | fail); have e94 : w9.cell? ⟨w.heap.size + 1, 0, none⟩ = some (.int .i64 (hi d)) := cell_on hb9 (by first | (simp [go_sem, *]; done) | (simp [go_sem, World.cell?_alloc_some, *]; done) | fail); have e95 : w9.cell? ⟨w.heap.size + 1, 1, none⟩ = some (.int .u64 (lo d)) := cell_on hb9 (by first | (simp [go_sem, *]; done) | (simp [go_sem, World.cell?_alloc_some, *]; done) | fail); have e96 : w9.cell? ⟨w.heap.size + 1 + 1, 0, none⟩ = some (.int .i64 0) := cell_on hb9 (by first | (simp [go_sem, *]; done) | (simp [go_sem, World.cell?_alloc_some, *]; done) | fail); have e97 : w9.cell? ⟨w.heap.size + 1 + 1, 1, none⟩ = some (.int .u64 0) := cell_on hb9 (by first | (simp [go_sem, *]; done) | (simp [go_sem, World.cell?_alloc_some, *]; done) | fail); have s90 : p7 < w9.heap.size := World.block_lt_of_cell? _ _ e90; have t90 : p7 < w9.heap.size + 1 := Nat.lt_succ_of_lt s90; have s92 : w.heap.size < w9.heap.size := World.block_lt_of_cell? _ _ e92; have t92 : w.heap.size < w9.heap.size + 1 := Nat.lt_succ_of_lt s92; have s94 : w.heap.size + 1 < w9.heap.size := World.block_lt_of_cell? _ _ e94; have t94 : w.heap.size + 1 < w9.heap.size + 1 := Nat.lt_succ_of_lt s94; have s96 : w.heap.size + 1 + 1 < w9.heap.size := World.block_lt_of_cell? _ _ e96; have t96 : w.heap.size + 1 + 1 < w9.heap.size + 1 := Nat.lt_succ_of_lt s96; have y96 : w9.frozen? ⟨w.heap.size + 1 + 1, 0, none⟩ = false := frozen_on hb9 (v := .int .i64 0) (by first | (simp [go_sem, *]; done) | (simp [go_sem, World.cell?_alloc_some, *]; done) | fail) (by first | (simp [go_sem, *]; done) | (simp [go_sem, frozen?_alloc_cells, *]; done) | fail); have y97 : w9.frozen? ⟨w.heap.size + 1 + 1, 1, none⟩ = false := frozen_on hb9 (v := .int .u64 0) (by first | (simp [go_sem, *]; done) | (simp [go_sem, World.cell?_alloc_some, *]; done) | fail) (by first | (simp [go_sem, *]; done) | (simp [go_sem, frozen?_alloc_cells, *]; done) | fail)))
          all_goals
            go_wp2_with fail
            refine bodyPost_ret (v := .tuple #[Wv (told (sd (!(sn == sdd)) (q + 1))), .int .i64 (over (sd (!(sn == sdd)) (q + 1)))]) (by simp [results, Try.results29, go_sem, *]) rfl ⟨by rw [RD.out], ?_⟩
            repeat (first | exact Below.refl _ _ | assumption | apply Below.drew | refine Below.setCell ?_ (by first | omega | (simp; done) | (simp; omega)) _ | refine Below.alloc ?_ (by first | omega | (simp; done) | (simp; omega)) _ | refine Below.trans ?_ (hb9.mono (by first | omega | (simp; done) | (simp; omega))))
        | false =>
          have hsz : w.heap.size + 1 + 1 < _ := World.block_lt_of_cell? _ _ c5
          go_upto_region 8 with fail
          have RD := Lib.hid (show rd n d = sd (!(ng n == ng d)) q by unfold rd; rw [if_neg (by rw [hup]; simp), HQ.out.1]; rfl)
          have SU := Lib.hid (hU.1)
          clear hU hup
          generalize ng n = sn at *
          generalize ng d = sdd at *
          go_region_held3 (fun w' => w'.cell? ⟨p7, 0, none⟩ = some (.int .u64 (hi (q))) ∧ w'.cell? ⟨p7, 1, none⟩ = some (.int .u64 (lo (q))) ∧ w'.cell? ⟨w.heap.size, 0, none⟩ = some (.int .i64 (hi n)) ∧ w'.cell? ⟨w.heap.size, 1, none⟩ = some (.int .u64 (lo n)) ∧ w'.cell? ⟨w.heap.size + 1, 0, none⟩ = some (.int .i64 (hi d)) ∧ w'.cell? ⟨w.heap.size + 1, 1, none⟩ = some (.int .u64 (lo d))) (first | (simp [go_sem, *]; done) | (simp [go_sem, World.cell?_alloc_some, *]; done))
            (first
            | (go_at_call 35; (with_reducible refine (BN.out _).mono ?_); rintro e w' ⟨rfl, rfl⟩)
            | (go_at_call 35; (with_reducible refine (BD.out _).mono ?_); rintro e w' ⟨rfl, rfl⟩)
            | (go_at_call 43; (with_reducible refine (signed_any (q) _ _ SU.out).mono ?_); rintro e w9 ⟨rfl, hb9⟩; have e90 : w9.cell? ⟨p7, 0, none⟩ = some (.int .u64 (hi (q))) := cell_on hb9 (by first | (simp [go_sem, *]; done) | (simp [go_sem, World.cell?_alloc_some, *]; done) | fail); have e91 : w9.cell? ⟨p7, 1, none⟩ = some (.int .u64 (lo (q))) := cell_on hb9 (by first | (simp [go_sem, *]; done) | (simp [go_sem, World.cell?_alloc_some, *]; done) | fail); have e92 : w9.cell? ⟨w.heap.size, 0, none⟩ = some (.int .i64 (hi n)) := cell_on hb9 (by first | (simp [go_sem, *]; done) | (simp [go_sem, World.cell?_alloc_some, *]; done) | fail); have e93 : w9.cell? ⟨w.heap.size, 1, none⟩ = some (.int .u64 (lo n)) := cell_on hb9 (by first | (simp [go_sem, *]; done) | (simp [go_sem, World.cell?_alloc_some, *]; done) | fail); have e94 : w9.cell? ⟨w.heap.size + 1, 0, none⟩ = some (.int .i64 (hi d)) := cell_on hb9 (by first | (simp [go_sem, *]; done) | (simp [go_sem, World.cell?_alloc_some, *]; done) | fail); have e95 : w9.cell? ⟨w.heap.size + 1, 1, none⟩ = some (.int .u64 (lo d)) := cell_on hb9 (by first | (simp [go_sem, *]; done) | (simp [go_sem, World.cell?_alloc_some, *]; done) | fail); have e96 : w9.cell? ⟨w.heap.size + 1 + 1, 0, none⟩ = some (.int .i64 0) := cell_on hb9 (by first | (simp [go_sem, *]; done) | (simp [go_sem, World.cell?_alloc_some, *]; done) | fail); have e97 : w9.cell? ⟨w.heap.size + 1 + 1, 1, none⟩ = some (.int .u64 0) := cell_on hb9 (by first | (simp [go_sem, *]; done) | (simp [go_sem, World.cell?_alloc_some, *]; done) | fail); have s90 : p7 < w9.heap.size := World.block_lt_of_cell? _ _ e90; have t90 : p7 < w9.heap.size + 1 := Nat.lt_succ_of_lt s90; have s92 : w.heap.size < w9.heap.size := World.block_lt_of_cell? _ _ e92; have t92 : w.heap.size < w9.heap.size + 1 := Nat.lt_succ_of_lt s92; have s94 : w.heap.size + 1 < w9.heap.size := World.block_lt_of_cell? _ _ e94; have t94 : w.heap.size + 1 < w9.heap.size + 1 := Nat.lt_succ_of_lt s94; have s96 : w.heap.size + 1 + 1 < w9.heap.size := World.block_lt_of_cell? _ _ e96; have t96 : w.heap.size + 1 + 1 < w9.heap.size + 1 := Nat.lt_succ_of_lt s96; have y96 : w9.frozen? ⟨w.heap.size + 1 + 1, 0, none⟩ = false := frozen_on hb9 (v := .int .i64 0) (by first | (simp [go_sem, *]; done) | (simp [go_sem, World.cell?_alloc_some, *]; done) | fail) (by first | (simp [go_sem, *]; done) | (simp [go_sem, frozen?_alloc_cells, *]; done) | fail); have y97 : w9.frozen? ⟨w.heap.size + 1 + 1, 1, none⟩ = false := frozen_on hb9 (v := .int .u64 0) (by first | (simp [go_sem, *]; done) | (simp [go_sem, World.cell?_alloc_some, *]; done) | fail) (by first | (simp [go_sem, *]; done) | (simp [go_sem, frozen?_alloc_cells, *]; done) | fail)))
          all_goals
            go_wp2_with fail
            refine bodyPost_ret (v := .tuple #[Wv (told (sd (!(sn == sdd)) (q))), .int .i64 (over (sd (!(sn == sdd)) (q)))]) (by simp [results, Try.results29, go_sem, *]) rfl ⟨by rw [RD.out], ?_⟩
            repeat (first | exact Below.refl _ _ | assumption | apply Below.drew | refine Below.setCell ?_ (by first | omega | (simp; done) | (simp; omega)) _ | refine Below.alloc ?_ (by first | omega | (simp; done) | (simp; omega)) _ | refine Below.trans ?_ (hb9.mono (by first | omega | (simp; done) | (simp; omega))))
end Go.Proofs.Ytocoedpmcognpaa
namespace Go.Proofs.Ytocoedpmcognpaa
open Go.RowKit


/-- What Down's variables hold behind the division. -/
def DwnAt (w0 : World) (n d q r : Int) (p6 p7 : Nat) (w : World) : Prop :=
  w.cell? ⟨w0.heap.size, 0, none⟩ = some (.int .i64 (hi n)) ∧ w.cell? ⟨w0.heap.size, 1, none⟩ = some (.int .u64 (lo n)) ∧
  w.cell? ⟨w0.heap.size + 1, 0, none⟩ = some (.int .i64 (hi d)) ∧ w.cell? ⟨w0.heap.size + 1, 1, none⟩ = some (.int .u64 (lo d)) ∧
  w.cell? ⟨w0.heap.size + 1 + 1, 0, none⟩ = some (.int .i64 0) ∧ w.cell? ⟨w0.heap.size + 1 + 1, 1, none⟩ = some (.int .u64 0) ∧
  w.cell? ⟨p6, 0, none⟩ = some (.int .u64 (hi q)) ∧ w.cell? ⟨p6, 1, none⟩ = some (.int .u64 (lo q)) ∧
  w.cell? ⟨p7, 0, none⟩ = some (.int .u64 (hi r)) ∧ w.cell? ⟨p7, 1, none⟩ = some (.int .u64 (lo r)) ∧
  w.frozen? ⟨w0.heap.size + 1 + 1, 0, none⟩ = false ∧ w.frozen? ⟨w0.heap.size + 1 + 1, 1, none⟩ = false ∧
  w.frozen? ⟨p6, 0, none⟩ = false ∧ w.frozen? ⟨p6, 1, none⟩ = false ∧
  Below w0.heap.size w0 w ∧ w0.heap.size + 1 + 1 < p6
theorem DwnAt.below {w0 : World} {n d q r : Int} {p6 p7 : Nat} {W W' : World} (h : DwnAt w0 n d q r p6 p7 W) (hb : Below W.heap.size W W') : DwnAt w0 n d q r p6 p7 W' := by
  obtain ⟨c1, c2, c3, c4, c5, c6, c7, c8, c9, ca, f1, f2, f3, f4, b, z⟩ := h
  have hz : w0.heap.size < W.heap.size := World.block_lt_of_cell? W _ c1
  exact ⟨cell_on hb c1, cell_on hb c2, cell_on hb c3, cell_on hb c4, cell_on hb c5, cell_on hb c6, cell_on hb c7, cell_on hb c8, cell_on hb c9, cell_on hb ca, frozen_on hb c5 f1, frozen_on hb c6 f2, frozen_on hb c7 f3, frozen_on hb c8 f4, b.trans (hb.mono (by omega)), z⟩

end Go.Proofs.Ytocoedpmcognpaa
