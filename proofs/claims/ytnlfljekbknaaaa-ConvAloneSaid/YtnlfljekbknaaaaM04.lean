/-
  Rounded quotients of wide numbers.
  Quotients of wide numbers, rounded down.
  Shifts and products of whole numbers.
  Shifts and products of wide numbers; a rounding that every statement asks for.
-/
import Derived.Test.YtnlfljekbknaaaaM03
namespace Go.Proofs.Ytnlfljekbknaaaa
open Go.RowKit

theorem bc {W w1 : World} (hb : Below W.heap.size W w1) : (∀ b o, b < W.heap.size → w1.cell? ⟨b, o, none⟩ = W.cell? ⟨b, o, none⟩) ∧ (∀ b o, b < W.heap.size → w1.frozen? ⟨b, o, none⟩ = W.frozen? ⟨b, o, none⟩) ∧ (∀ k, k < W.heap.size → k < w1.heap.size) :=
  ⟨fun b o h => hb.cell (p := ⟨b, o, none⟩) h, fun b o h => hb.frozen (p := ⟨b, o, none⟩) h, fun _ h => Nat.lt_of_lt_of_le h hb.size⟩
theorem keeps {W W' : World} (hb : Below W.heap.size W W') : ∀ p v, W.cell? p = some v → W'.cell? p = some v := fun _ _ h => cell_on hb h
/-- What Round's variables hold behind the division. -/
def RndAt (w0 : World) (n d q r : Int) (p6 p7 p8 : Nat) (w : World) : Prop :=
  w.cell? ⟨w0.heap.size, 0, none⟩ = some (.int .i64 (hi n)) ∧ w.cell? ⟨w0.heap.size, 1, none⟩ = some (.int .u64 (lo n)) ∧
  w.cell? ⟨w0.heap.size + 1, 0, none⟩ = some (.int .i64 (hi d)) ∧ w.cell? ⟨w0.heap.size + 1, 1, none⟩ = some (.int .u64 (lo d)) ∧
  w.cell? ⟨w0.heap.size + 1 + 1, 0, none⟩ = some (.int .i64 0) ∧ w.cell? ⟨w0.heap.size + 1 + 1, 1, none⟩ = some (.int .u64 0) ∧
  w.cell? ⟨p6, 0, none⟩ = some (.int .u64 (hi (ab d))) ∧ w.cell? ⟨p6, 1, none⟩ = some (.int .u64 (lo (ab d))) ∧
  w.cell? ⟨p7, 0, none⟩ = some (.int .u64 (hi q)) ∧ w.cell? ⟨p7, 1, none⟩ = some (.int .u64 (lo q)) ∧
  w.cell? ⟨p8, 0, none⟩ = some (.int .u64 (hi r)) ∧ w.cell? ⟨p8, 1, none⟩ = some (.int .u64 (lo r)) ∧
  w.frozen? ⟨w0.heap.size + 1 + 1, 0, none⟩ = false ∧ w.frozen? ⟨w0.heap.size + 1 + 1, 1, none⟩ = false ∧
  w.frozen? ⟨p7, 0, none⟩ = false ∧ w.frozen? ⟨p7, 1, none⟩ = false ∧
  Below w0.heap.size w0 w ∧ w0.heap.size + 1 + 1 < p7
theorem RndAt.below {w0 : World} {n d q r : Int} {p6 p7 p8 : Nat} {W W' : World} (h : RndAt w0 n d q r p6 p7 p8 W) (hb : Below W.heap.size W W') : RndAt w0 n d q r p6 p7 p8 W' := by
  obtain ⟨c1, c2, c3, c4, c5, c6, c7, c8, c9, ca, cb, cc, f1, f2, f3, f4, b, z⟩ := h
  have hz : w0.heap.size < W.heap.size := World.block_lt_of_cell? W _ c1
  exact ⟨cell_on hb c1, cell_on hb c2, cell_on hb c3, cell_on hb c4, cell_on hb c5, cell_on hb c6, cell_on hb c7, cell_on hb c8, cell_on hb c9, cell_on hb ca, cell_on hb cb, cell_on hb cc, frozen_on hb c5 f1, frozen_on hb c6 f2, frozen_on hb c9 f3, frozen_on hb ca f4, b.trans (hb.mono (by omega)), z⟩
theorem RndAt.drew {w0 : World} {n d q r : Int} {p6 p7 p8 : Nat} {W : World} (h : RndAt w0 n d q r p6 p7 p8 W) : RndAt w0 n d q r p6 p7 p8 W.drew := by
  obtain ⟨c1, c2, c3, c4, c5, c6, c7, c8, c9, ca, cb, cc, f1, f2, f3, f4, b, z⟩ := h
  exact ⟨c1, c2, c3, c4, c5, c6, c7, c8, c9, ca, cb, cc, f1, f2, f3, f4, b.drew, z⟩
theorem RndAt.put {w0 : World} {n d q r : Int} {p6 p7 p8 : Nat} {W : World} (h : RndAt w0 n d q r p6 p7 p8 W) (q' : Int) :
    (let V := (W.setCell ⟨p7, 0, none⟩ (.int .u64 (hi q'))).setCell ⟨p7, 1, none⟩ (.int .u64 (lo q'))
     V.cell? ⟨w0.heap.size, 0, none⟩ = some (.int .i64 (hi n)) ∧ V.cell? ⟨w0.heap.size, 1, none⟩ = some (.int .u64 (lo n)) ∧
     V.cell? ⟨w0.heap.size + 1, 0, none⟩ = some (.int .i64 (hi d)) ∧ V.cell? ⟨w0.heap.size + 1, 1, none⟩ = some (.int .u64 (lo d)) ∧
     V.cell? ⟨w0.heap.size + 1 + 1, 0, none⟩ = some (.int .i64 0) ∧ V.cell? ⟨w0.heap.size + 1 + 1, 1, none⟩ = some (.int .u64 0) ∧
     V.cell? ⟨p7, 0, none⟩ = some (.int .u64 (hi q')) ∧ V.cell? ⟨p7, 1, none⟩ = some (.int .u64 (lo q')) ∧
     V.frozen? ⟨w0.heap.size + 1 + 1, 0, none⟩ = false ∧ V.frozen? ⟨w0.heap.size + 1 + 1, 1, none⟩ = false ∧ Below w0.heap.size w0 V ∧ w0.heap.size + 1 + 1 < V.heap.size) := by
  obtain ⟨c1, c2, c3, c4, c5, c6, c7, c8, c9, ca, cb, cc, f1, f2, f3, f4, b, z⟩ := h
  have hs : w0.heap.size + 1 + 1 < W.heap.size := World.block_lt_of_cell? W _ c5
  have n0 : ¬ p7 = w0.heap.size := by omega
  have n1 : ¬ p7 = w0.heap.size + 1 := by omega
  have n2 : ¬ p7 = w0.heap.size + 1 + 1 := by omega
  have m0 : ¬ w0.heap.size = p7 := by omega
  have m1 : ¬ w0.heap.size + 1 = p7 := by omega
  have m2 : ¬ w0.heap.size + 1 + 1 = p7 := by omega
  refine ⟨by simp [go_sem, *], by simp [go_sem, *], by simp [go_sem, *], by simp [go_sem, *], by simp [go_sem, *], by simp [go_sem, *], by simp [go_sem, *], by simp [go_sem, *], by simp [go_sem, *], by simp [go_sem, *], ?_, by simp [go_sem, *]⟩
  exact (b.setCell (by simp; omega) _).setCell (by simp; omega) _
theorem rnd_mk {w0 w2 W : World} {n d q r : Int} {p6 p7 p8 : Nat} (B2 : Below w0.heap.size w0 w2) (y : w0.heap.size + 1 + 1 < w2.heap.size)
    (n0 : w2.cell? ⟨w0.heap.size, 0, none⟩ = some (.int .i64 (hi n))) (n1 : w2.cell? ⟨w0.heap.size, 1, none⟩ = some (.int .u64 (lo n)))
    (d0 : w2.cell? ⟨w0.heap.size + 1, 0, none⟩ = some (.int .i64 (hi d))) (d1 : w2.cell? ⟨w0.heap.size + 1, 1, none⟩ = some (.int .u64 (lo d)))
    (z0 : w2.cell? ⟨w0.heap.size + 1 + 1, 0, none⟩ = some (.int .i64 0)) (z1 : w2.cell? ⟨w0.heap.size + 1 + 1, 1, none⟩ = some (.int .u64 0))
    (zf0 : w2.frozen? ⟨w0.heap.size + 1 + 1, 0, none⟩ = false) (zf1 : w2.frozen? ⟨w0.heap.size + 1 + 1, 1, none⟩ = false)
    (BB : Below w2.heap.size w2 W)
    (a0 : W.cell? ⟨p6, 0, none⟩ = some (.int .u64 (hi (ab d)))) (a1 : W.cell? ⟨p6, 1, none⟩ = some (.int .u64 (lo (ab d))))
    (b0 : W.cell? ⟨p7, 0, none⟩ = some (.int .u64 (hi q))) (b1 : W.cell? ⟨p7, 1, none⟩ = some (.int .u64 (lo q)))
    (c0 : W.cell? ⟨p8, 0, none⟩ = some (.int .u64 (hi r))) (c1 : W.cell? ⟨p8, 1, none⟩ = some (.int .u64 (lo r)))
    (f0 : W.frozen? ⟨p7, 0, none⟩ = false) (f1 : W.frozen? ⟨p7, 1, none⟩ = false) (hp : w0.heap.size + 1 + 1 < p7) : RndAt w0 n d q r p6 p7 p8 W := by
  obtain ⟨hc, hf⟩ := bcell BB
  refine ⟨?_, ?_, ?_, ?_, ?_, ?_, a0, a1, b0, b1, c0, c1, ?_, ?_, f0, f1, B2.trans (BB.mono (by omega)), hp⟩
  all_goals first | (rw [hc _ _ (by omega)]; assumption) | (rw [hf _ _ (by omega)]; assumption)
set_option maxHeartbeats 4000000 in
/-- wide.Round -/
theorem round_any (n d : Int) (w : World) (hn : R n) (hd : R d) (h0 : d ≠ 0) : Calls Try.prog 87 #[Wv n, Wv d] w fun e w' => e = .returned (.tuple #[Wv (told (rd n d)), .int .i64 (over (rd n d))]) ∧ Below w.heap.size w w' := by
  have e0 : (sg d 0 == 0) = false := by unfold sg; split <;> (try split) <;> first | rfl | omega
  have H := Lib.hid (And.intro hn (And.intro hd h0))
  have QS := Lib.hid (quo_sizes hn hd h0)
  clear hn hd h0
  go_enter Try.func87, Try.ntmps87
  go_upto_region 4 with (first | (go_at_call 124; (with_reducible refine (sign_any d _).mono ?_); rintro e w1 ⟨rfl, hb⟩; have hk := keeps hb; obtain ⟨hc, hf⟩ := bcell hb; have hz1 : w.heap.size + 1 + 1 < w1.heap.size := bsz hb (by first | (simp; done) | (simp; omega) | omega)) | (go_at_call 125; (with_reducible refine (sizeOf_any d _ H.out.2.1).mono ?_); rintro e w2 ⟨rfl, hb2⟩; have hk2 := keeps hb2; obtain ⟨hc2, hf2⟩ := bcell hb2; have hz2 : w.heap.size + 1 + 1 < w2.heap.size := bsz hb2 (by first | (simp; done) | (simp; omega) | omega)))
  have n0 : w2.cell? ⟨w.heap.size, 0, none⟩ = some (.int .i64 (hi n)) := hk2 _ _ (hk _ _ (by simp [go_sem]))
  have n1 : w2.cell? ⟨w.heap.size, 1, none⟩ = some (.int .u64 (lo n)) := hk2 _ _ (hk _ _ (by simp [go_sem]))
  have d0 : w2.cell? ⟨w.heap.size + 1, 0, none⟩ = some (.int .i64 (hi d)) := hk2 _ _ (hk _ _ (by simp [go_sem]))
  have d1 : w2.cell? ⟨w.heap.size + 1, 1, none⟩ = some (.int .u64 (lo d)) := hk2 _ _ (hk _ _ (by simp [go_sem]))
  have z0 : w2.cell? ⟨w.heap.size + 1 + 1, 0, none⟩ = some (.int .i64 0) := hk2 _ _ (hk _ _ (by simp [go_sem]))
  have z1 : w2.cell? ⟨w.heap.size + 1 + 1, 1, none⟩ = some (.int .u64 0) := hk2 _ _ (hk _ _ (by simp [go_sem]))
  have zf0 : w2.frozen? ⟨w.heap.size + 1 + 1, 0, none⟩ = false := by rw [hf2 _ _ (by omega), hf _ _ (by simp)]; simp [go_sem]
  have zf1 : w2.frozen? ⟨w.heap.size + 1 + 1, 1, none⟩ = false := by rw [hf2 _ _ (by omega), hf _ _ (by simp)]; simp [go_sem]
  have B2 : Below w.heap.size w w2 := by
    repeat (first | exact Below.refl _ _ | assumption | apply Below.drew | refine Below.setCell ?_ (by first | (simp; done) | (simp; omega) | omega) _ | refine Below.alloc ?_ (by first | (simp; done) | (simp; omega) | omega) _ | refine Below.trans ?_ (hb2.mono (by first | (simp; done) | (simp; omega) | omega)) | refine Below.trans ?_ (hb.mono (by first | (simp; done) | (simp; omega) | omega)))
  have y1 : w.heap.size + 1 < w2.heap.size := by omega
  have y0 : w.heap.size < w2.heap.size := by omega
  have yl0 : w.heap.size < w2.heap.size + 1 := by omega
  have yl1 : w.heap.size < w2.heap.size + 1 + 1 := by omega
  clear hc hf hc2 hf2 hk hk2 hb hb2
  go_cut [7, 8] (fun s7 s8 wx => ∃ p7 p8 : Nat, s7 = .pointer (some ⟨p7, 0, none⟩) ∧ s8 = .pointer (some ⟨p8, 0, none⟩) ∧ RndAt w n d (ab n / ab d) (ab n % ab d) w2.heap.size p7 p8 wx)
  case first =>
    go_region_held3 (fun w' => w'.cell? ⟨w.heap.size, 0, none⟩ = some (.int .i64 (hi n)) ∧ w'.cell? ⟨w.heap.size, 1, none⟩ = some (.int .u64 (lo n)) ∧ w'.cell? ⟨w2.heap.size, 0, none⟩ = some (.int .u64 (hi (ab d))) ∧ w'.cell? ⟨w2.heap.size, 1, none⟩ = some (.int .u64 (lo (ab d)))) (simp [go_sem, *])
      (first
      | (go_at_call 125; (with_reducible refine (sizeOf_any n _ H.out.1).mono ?_); rintro e w3 ⟨rfl, hb3⟩; obtain ⟨hc3, hf3⟩ := bcell hb3; have hz30 : w.heap.size < w3.heap.size := bsz hb3 (by first | omega | (simp; done) | (simp; omega)); have hz31 : w.heap.size + 1 < w3.heap.size := bsz hb3 (by first | omega | (simp; done) | (simp; omega)); have hz32 : w.heap.size + 1 + 1 < w3.heap.size := bsz hb3 (by first | omega | (simp; done) | (simp; omega)); have hz33 : w2.heap.size < w3.heap.size := bsz hb3 (by first | omega | (simp; done) | (simp; omega)); have hl30 : w.heap.size < w3.heap.size + 1 := Nat.lt_succ_of_lt hz30; have hm30 : w.heap.size < w3.heap.size + 1 + 1 := Nat.lt_succ_of_lt hl30; have hl31 : w.heap.size + 1 < w3.heap.size + 1 := Nat.lt_succ_of_lt hz31; have hm31 : w.heap.size + 1 < w3.heap.size + 1 + 1 := Nat.lt_succ_of_lt hl31; have hl32 : w.heap.size + 1 + 1 < w3.heap.size + 1 := Nat.lt_succ_of_lt hz32; have hm32 : w.heap.size + 1 + 1 < w3.heap.size + 1 + 1 := Nat.lt_succ_of_lt hl32; have hl33 : w2.heap.size < w3.heap.size + 1 := Nat.lt_succ_of_lt hz33; have hm33 : w2.heap.size < w3.heap.size + 1 + 1 := Nat.lt_succ_of_lt hl33; have g30 : w3.cell? ⟨w.heap.size, 0, none⟩ = some (.int .i64 (hi n)) := (hc3 _ _ (by first | omega | (simp; done) | (simp; omega))).trans (by first | (simp [go_sem, *]; done) | fail); have g31 : w3.cell? ⟨w.heap.size, 1, none⟩ = some (.int .u64 (lo n)) := (hc3 _ _ (by first | omega | (simp; done) | (simp; omega))).trans (by first | (simp [go_sem, *]; done) | fail); have g32 : w3.cell? ⟨w2.heap.size, 0, none⟩ = some (.int .u64 (hi (ab d))) := (hc3 _ _ (by first | omega | (simp; done) | (simp; omega))).trans (by first | (simp [go_sem, *]; done) | fail); have g33 : w3.cell? ⟨w2.heap.size, 1, none⟩ = some (.int .u64 (lo (ab d))) := (hc3 _ _ (by first | omega | (simp; done) | (simp; omega))).trans (by first | (simp [go_sem, *]; done) | fail); (first | (have hy30 : w2.heap.size + 1 < w3.heap.size := bsz hb3 (by first | omega | (simp; done) | (simp; omega))) | skip); (first | (have hy31 : w2.heap.size + 1 + 1 < w3.heap.size := bsz hb3 (by first | omega | (simp; done) | (simp; omega))) | skip); (first | (have hn30 : w2.heap.size + 1 < w3.heap.size + 1 := Nat.lt_succ_of_lt hy30) | skip); (first | (have hn31 : w2.heap.size + 1 + 1 < w3.heap.size + 1 := Nat.lt_succ_of_lt hy31) | skip); (first | (have o30 : w3.cell? ⟨w2.heap.size + 1, 0, none⟩ = some (.int .u64 0) := (hc3 _ _ (by first | omega | (simp; done) | (simp; omega))).trans (by first | (simp [go_sem, *]; done) | fail)) | skip); (first | (have q30 : w3.frozen? ⟨w2.heap.size + 1, 0, none⟩ = false := (hf3 _ _ (by first | omega | (simp; done) | (simp; omega))).trans (by first | (simp [go_sem, *]; done) | fail)) | skip); (first | (have o31 : w3.cell? ⟨w2.heap.size + 1, 1, none⟩ = some (.int .u64 0) := (hc3 _ _ (by first | omega | (simp; done) | (simp; omega))).trans (by first | (simp [go_sem, *]; done) | fail)) | skip); (first | (have q31 : w3.frozen? ⟨w2.heap.size + 1, 1, none⟩ = false := (hf3 _ _ (by first | omega | (simp; done) | (simp; omega))).trans (by first | (simp [go_sem, *]; done) | fail)) | skip); (first | (have o32 : w3.cell? ⟨w2.heap.size + 1 + 1, 0, none⟩ = some (.int .u64 0) := (hc3 _ _ (by first | omega | (simp; done) | (simp; omega))).trans (by first | (simp [go_sem, *]; done) | fail)) | skip); (first | (have q32 : w3.frozen? ⟨w2.heap.size + 1 + 1, 0, none⟩ = false := (hf3 _ _ (by first | omega | (simp; done) | (simp; omega))).trans (by first | (simp [go_sem, *]; done) | fail)) | skip); (first | (have o33 : w3.cell? ⟨w2.heap.size + 1 + 1, 1, none⟩ = some (.int .u64 0) := (hc3 _ _ (by first | omega | (simp; done) | (simp; omega))).trans (by first | (simp [go_sem, *]; done) | fail)) | skip); (first | (have q33 : w3.frozen? ⟨w2.heap.size + 1 + 1, 1, none⟩ = false := (hf3 _ _ (by first | omega | (simp; done) | (simp; omega))).trans (by first | (simp [go_sem, *]; done) | fail)) | skip); clear hc3 hf3)
      | (go_at_call 126; (with_reducible refine (divide_any (ab n) (ab d) _ (U_ab H.out.1) (U_ab H.out.2.1) (ab_ne H.out.2.2)).mono ?_); rintro e w4 ⟨rfl, hb4⟩; obtain ⟨hc4, hf4⟩ := bcell hb4; have hz40 : w.heap.size < w4.heap.size := bsz hb4 (by first | omega | (simp; done) | (simp; omega)); have hz41 : w.heap.size + 1 < w4.heap.size := bsz hb4 (by first | omega | (simp; done) | (simp; omega)); have hz42 : w.heap.size + 1 + 1 < w4.heap.size := bsz hb4 (by first | omega | (simp; done) | (simp; omega)); have hz43 : w2.heap.size < w4.heap.size := bsz hb4 (by first | omega | (simp; done) | (simp; omega)); have hl40 : w.heap.size < w4.heap.size + 1 := Nat.lt_succ_of_lt hz40; have hm40 : w.heap.size < w4.heap.size + 1 + 1 := Nat.lt_succ_of_lt hl40; have hl41 : w.heap.size + 1 < w4.heap.size + 1 := Nat.lt_succ_of_lt hz41; have hm41 : w.heap.size + 1 < w4.heap.size + 1 + 1 := Nat.lt_succ_of_lt hl41; have hl42 : w.heap.size + 1 + 1 < w4.heap.size + 1 := Nat.lt_succ_of_lt hz42; have hm42 : w.heap.size + 1 + 1 < w4.heap.size + 1 + 1 := Nat.lt_succ_of_lt hl42; have hl43 : w2.heap.size < w4.heap.size + 1 := Nat.lt_succ_of_lt hz43; have hm43 : w2.heap.size < w4.heap.size + 1 + 1 := Nat.lt_succ_of_lt hl43; have g40 : w4.cell? ⟨w.heap.size, 0, none⟩ = some (.int .i64 (hi n)) := (hc4 _ _ (by first | omega | (simp; done) | (simp; omega))).trans (by first | (simp [go_sem, *]; done) | fail); have g41 : w4.cell? ⟨w.heap.size, 1, none⟩ = some (.int .u64 (lo n)) := (hc4 _ _ (by first | omega | (simp; done) | (simp; omega))).trans (by first | (simp [go_sem, *]; done) | fail); have g42 : w4.cell? ⟨w2.heap.size, 0, none⟩ = some (.int .u64 (hi (ab d))) := (hc4 _ _ (by first | omega | (simp; done) | (simp; omega))).trans (by first | (simp [go_sem, *]; done) | fail); have g43 : w4.cell? ⟨w2.heap.size, 1, none⟩ = some (.int .u64 (lo (ab d))) := (hc4 _ _ (by first | omega | (simp; done) | (simp; omega))).trans (by first | (simp [go_sem, *]; done) | fail); (first | (have hy40 : w2.heap.size + 1 < w4.heap.size := bsz hb4 (by first | omega | (simp; done) | (simp; omega))) | skip); (first | (have hy41 : w2.heap.size + 1 + 1 < w4.heap.size := bsz hb4 (by first | omega | (simp; done) | (simp; omega))) | skip); (first | (have hy42 : w3.heap.size < w4.heap.size := bsz hb4 (by first | omega | (simp; done) | (simp; omega))) | skip); (first | (have hy43 : w3.heap.size + 1 < w4.heap.size := bsz hb4 (by first | omega | (simp; done) | (simp; omega))) | skip); (first | (have hn40 : w2.heap.size + 1 < w4.heap.size + 1 := Nat.lt_succ_of_lt hy40) | skip); (first | (have hn41 : w2.heap.size + 1 + 1 < w4.heap.size + 1 := Nat.lt_succ_of_lt hy41) | skip); (first | (have hn42 : w3.heap.size < w4.heap.size + 1 := Nat.lt_succ_of_lt hy42) | skip); (first | (have hn43 : w3.heap.size + 1 < w4.heap.size + 1 := Nat.lt_succ_of_lt hy43) | skip); (first | (have o40 : w4.cell? ⟨w2.heap.size + 1, 0, none⟩ = some (.int .u64 0) := (hc4 _ _ (by first | omega | (simp; done) | (simp; omega))).trans (by first | (simp [go_sem, *]; done) | fail)) | skip); (first | (have q40 : w4.frozen? ⟨w2.heap.size + 1, 0, none⟩ = false := (hf4 _ _ (by first | omega | (simp; done) | (simp; omega))).trans (by first | (simp [go_sem, *]; done) | fail)) | skip); (first | (have o41 : w4.cell? ⟨w2.heap.size + 1, 1, none⟩ = some (.int .u64 0) := (hc4 _ _ (by first | omega | (simp; done) | (simp; omega))).trans (by first | (simp [go_sem, *]; done) | fail)) | skip); (first | (have q41 : w4.frozen? ⟨w2.heap.size + 1, 1, none⟩ = false := (hf4 _ _ (by first | omega | (simp; done) | (simp; omega))).trans (by first | (simp [go_sem, *]; done) | fail)) | skip); (first | (have o42 : w4.cell? ⟨w2.heap.size + 1 + 1, 0, none⟩ = some (.int .u64 0) := (hc4 _ _ (by first | omega | (simp; done) | (simp; omega))).trans (by first | (simp [go_sem, *]; done) | fail)) | skip); (first | (have q42 : w4.frozen? ⟨w2.heap.size + 1 + 1, 0, none⟩ = false := (hf4 _ _ (by first | omega | (simp; done) | (simp; omega))).trans (by first | (simp [go_sem, *]; done) | fail)) | skip); (first | (have o43 : w4.cell? ⟨w2.heap.size + 1 + 1, 1, none⟩ = some (.int .u64 0) := (hc4 _ _ (by first | omega | (simp; done) | (simp; omega))).trans (by first | (simp [go_sem, *]; done) | fail)) | skip); (first | (have q43 : w4.frozen? ⟨w2.heap.size + 1 + 1, 1, none⟩ = false := (hf4 _ _ (by first | omega | (simp; done) | (simp; omega))).trans (by first | (simp [go_sem, *]; done) | fail)) | skip); (first | (have o44 : w4.cell? ⟨w3.heap.size, 0, none⟩ = some (.int .u64 0) := (hc4 _ _ (by first | omega | (simp; done) | (simp; omega))).trans (by first | (simp [go_sem, *]; done) | fail)) | skip); (first | (have q44 : w4.frozen? ⟨w3.heap.size, 0, none⟩ = false := (hf4 _ _ (by first | omega | (simp; done) | (simp; omega))).trans (by first | (simp [go_sem, *]; done) | fail)) | skip); (first | (have o45 : w4.cell? ⟨w3.heap.size, 1, none⟩ = some (.int .u64 0) := (hc4 _ _ (by first | omega | (simp; done) | (simp; omega))).trans (by first | (simp [go_sem, *]; done) | fail)) | skip); (first | (have q45 : w4.frozen? ⟨w3.heap.size, 1, none⟩ = false := (hf4 _ _ (by first | omega | (simp; done) | (simp; omega))).trans (by first | (simp [go_sem, *]; done) | fail)) | skip); (first | (have o46 : w4.cell? ⟨w3.heap.size + 1, 0, none⟩ = some (.int .u64 0) := (hc4 _ _ (by first | omega | (simp; done) | (simp; omega))).trans (by first | (simp [go_sem, *]; done) | fail)) | skip); (first | (have q46 : w4.frozen? ⟨w3.heap.size + 1, 0, none⟩ = false := (hf4 _ _ (by first | omega | (simp; done) | (simp; omega))).trans (by first | (simp [go_sem, *]; done) | fail)) | skip); (first | (have o47 : w4.cell? ⟨w3.heap.size + 1, 1, none⟩ = some (.int .u64 0) := (hc4 _ _ (by first | omega | (simp; done) | (simp; omega))).trans (by first | (simp [go_sem, *]; done) | fail)) | skip); (first | (have q47 : w4.frozen? ⟨w3.heap.size + 1, 1, none⟩ = false := (hf4 _ _ (by first | omega | (simp; done) | (simp; omega))).trans (by first | (simp [go_sem, *]; done) | fail)) | skip); clear hc4 hf4))
    all_goals
      go_wp2_with fail
      go_meet
      refine ⟨_, _, rfl, rfl, rnd_mk B2 hz2 n0 n1 d0 d1 z0 z1 zf0 zf1 ?_ (by simp [go_sem, *]) (by simp [go_sem, *]) (by simp [go_sem, *]) (by simp [go_sem, *]) (by simp [go_sem, *]) (by simp [go_sem, *]) (by simp [go_sem, *]) (by simp [go_sem, *]) (by first | omega | (simp; done) | (simp; omega))⟩
      repeat (first | exact Below.refl _ _ | assumption | apply Below.drew | refine Below.setCell ?_ (by first | omega | (simp; done) | (simp; omega)) _ | refine Below.alloc ?_ (by first | omega | (simp; done) | (simp; omega)) _ | refine Below.trans ?_ (hb4.mono (by first | omega | (simp; done) | (simp; omega))) | refine Below.trans ?_ (hb3.mono (by first | omega | (simp; done) | (simp; omega))))
  case rest =>
    obtain ⟨p7, p8, rfl, rfl, hR⟩ := hcut
    generalize w2.heap.size = p6 at *
    obtain ⟨q, hq⟩ : ∃ q, q = ab n / ab d := ⟨_, rfl⟩
    obtain ⟨r, hr⟩ : ∃ r, r = ab n % ab d := ⟨_, rfl⟩
    have HQ := Lib.hid (And.intro hq hr)
    rw [← hq, ← hr] at hR QS
    have hU := QS.out
    have e2 : ws (r * 2 ^ 1) = r * 2 := by
      have e3 : (r * 2 ^ 1 : Int) = 2 * r := by omega
      rw [e3, ws_in hU.2.2.2]; omega
    have LC : Hid (∀ W : World, Calls Try.prog 127 #[Sv r, .int .i64 1] W fun e w' => e = .returned (Sv (r * 2)) ∧ Below W.heap.size W w') := fun W : World => e2 ▸ left_any r 1 W hU.2.2.1 (by decide)
    clear hq hr hU e2
    have HR := Lib.hid hR
    obtain ⟨c1, c2, c3, c4, c5, c6, c7, c8, c9, ca, cb, cc, f1, f2, f3, f4, hbw, hp⟩ := hR
    go_wp2_with fail
    go_cut [9] (fun s9 wx => s9 = .int .i64 (sg (r * 2) (ab d)) ∧ RndAt w n d q r p6 p7 p8 wx)
    case first =>
      go_region_held3 (fun w' => w'.cell? ⟨p8, 0, none⟩ = some (.int .u64 (hi r)) ∧ w'.cell? ⟨p8, 1, none⟩ = some (.int .u64 (lo r)) ∧ w'.cell? ⟨p6, 0, none⟩ = some (.int .u64 (hi (ab d))) ∧ w'.cell? ⟨p6, 1, none⟩ = some (.int .u64 (lo (ab d)))) (simp [go_sem, *])
        (first
        | (go_at_call 127; (with_reducible refine (LC.out _).mono ?_); rintro e w5 ⟨rfl, hb5⟩; have e50 : w5.cell? ⟨p8, 0, none⟩ = some (.int .u64 (hi r)) := cell_on hb5 (by first | assumption | exact drew_on (by assumption)); have e51 : w5.cell? ⟨p8, 1, none⟩ = some (.int .u64 (lo r)) := cell_on hb5 (by first | assumption | exact drew_on (by assumption)); have e52 : w5.cell? ⟨p6, 0, none⟩ = some (.int .u64 (hi (ab d))) := cell_on hb5 (by first | assumption | exact drew_on (by assumption)); have e53 : w5.cell? ⟨p6, 1, none⟩ = some (.int .u64 (lo (ab d))) := cell_on hb5 (by first | assumption | exact drew_on (by assumption)))
        | (go_at_call 128; (with_reducible refine (compare_any (r * 2) (ab d) _).mono ?_); rintro e w6 ⟨rfl, hb6⟩; have e60 : w6.cell? ⟨p8, 0, none⟩ = some (.int .u64 (hi r)) := cell_on hb6 (by first | assumption | exact drew_on (by assumption)); have e61 : w6.cell? ⟨p8, 1, none⟩ = some (.int .u64 (lo r)) := cell_on hb6 (by first | assumption | exact drew_on (by assumption)); have e62 : w6.cell? ⟨p6, 0, none⟩ = some (.int .u64 (hi (ab d))) := cell_on hb6 (by first | assumption | exact drew_on (by assumption)); have e63 : w6.cell? ⟨p6, 1, none⟩ = some (.int .u64 (lo (ab d))) := cell_on hb6 (by first | assumption | exact drew_on (by assumption))))
      all_goals
        go_wp2_with fail
        go_meet
        refine ⟨rfl, ?_⟩
        first | exact (HR.out.drew.below hb5).below hb6
    case rest =>
      obtain ⟨rfl, hR⟩ := hcut
      have HR3 := Lib.hid hR
      clear HR hR
      have UP : up n d = (decide (0 < sg (r * 2) (ab d)) || (decide (sg (r * 2) (ab d) = 0) && (q % 2 == 1))) := by unfold up; rw [← HQ.out.1, ← HQ.out.2, Int.mul_comm 2 r]
      have HS : sg (r * 2) (ab d) = 1 ∨ sg (r * 2) (ab d) = 0 ∨ sg (r * 2) (ab d) = -1 := by unfold sg; split <;> (try split) <;> simp
      go_upto_region 6 with fail
      go_cut [36] (fun s36 wx => s36 = .bool (up n d) ∧ RndAt w n d q r p6 p7 p8 wx)
      case first =>
        obtain ⟨c1, c2, c3, c4, c5, c6, c7, c8, c9, ca, cb, cc, f1, f2, f3, f4, hbw, hp⟩ := HR3.out
        have HUP := Lib.hid UP
        clear UP
        rcases HS with hs | hs | hs
        · generalize sg (r * 2) (ab d) = h at *
          subst hs
          go_wp2_with fail
          go_meet
          exact ⟨by rw [HUP.out]; rfl, HR3.out⟩
        · generalize sg (r * 2) (ab d) = h at *
          subst hs
          go_wp2_with (go_at_call 129; (with_reducible refine (odd_any q _).mono ?_); rintro e w7 ⟨rfl, hb7⟩)
          go_meet
          refine ⟨?_, HR3.out.below hb7⟩
          rw [HUP.out]; rfl
        · generalize sg (r * 2) (ab d) = h at *
          subst hs
          go_wp2_with fail
          go_meet
          exact ⟨by rw [HUP.out]; rfl, HR3.out⟩
      case rest =>
        obtain ⟨rfl, hR⟩ := hcut
        trace "@@7"
        clear UP HS
        have HR4 := Lib.hid hR
        clear hR HR3
        obtain ⟨c1, c2, c3, c4, c5, c6, c7, c8, c9, ca, cb, cc, f1, f2, f3, f4, hbw, hp⟩ := HR4.out
        have hU := QS.out
        have BN := Lib.hid (fun W : World => below_any n W)
        have BD := Lib.hid (fun W : World => below_any d W)
        cases hup : up n d with
        | true =>
          have NC := Lib.hid (fun W : World => next_any q W hU.2.1)
          go_upto_region 8 with (go_at_call 130; (with_reducible refine (NC.out _).mono ?_); rintro e w8 ⟨rfl, hb8⟩; obtain ⟨x1, x2, x3, x4, x5, x6, x7, x8, x9, xa, xb, xc, g1, g2, g3, g4, hbx, hpx⟩ := HR4.out.below hb8)
          clear x1 x2 x3 x4 x5 x6 x7 x8 x9 xa xb xc g1 g2 g3 g4 hbx hpx c1 c2 c3 c4 c5 c6 c7 c8 c9 ca cb cc f1 f2 f3 f4 hbw hp
          obtain ⟨x1, x2, x3, x4, x5, x6, x9, xa, g1, g2, hbx, hsz⟩ := (HR4.out.below hb8).put (q + 1)
          generalize (w8.setCell ⟨p7, 0, none⟩ (.int .u64 (hi (q + 1)))).setCell ⟨p7, 1, none⟩ (.int .u64 (lo (q + 1))) = wv at *
          have RD := Lib.hid (show rd n d = sd (!(ng n == ng d)) (q + 1) by unfold rd; rw [if_pos hup, HQ.out.1]; rfl)
          have SU := Lib.hid (hU.2.1)
          clear hU hup
          generalize ng n = sn at *
          generalize ng d = sdd at *
          go_region_held3 (fun w' => w'.cell? ⟨p7, 0, none⟩ = some (.int .u64 (hi (q + 1))) ∧ w'.cell? ⟨p7, 1, none⟩ = some (.int .u64 (lo (q + 1))) ∧ w'.cell? ⟨w.heap.size, 0, none⟩ = some (.int .i64 (hi n)) ∧ w'.cell? ⟨w.heap.size, 1, none⟩ = some (.int .u64 (lo n)) ∧ w'.cell? ⟨w.heap.size + 1, 0, none⟩ = some (.int .i64 (hi d)) ∧ w'.cell? ⟨w.heap.size + 1, 1, none⟩ = some (.int .u64 (lo d))) (first | (simp [go_sem, *]; done) | (simp [go_sem, World.cell?_alloc_some, *]; done))
            (first
            | (go_at_call 132; (with_reducible refine (BN.out _).mono ?_); rintro e w' ⟨rfl, rfl⟩)
            | (go_at_call 132; (with_reducible refine (BD.out _).mono ?_); rintro e w' ⟨rfl, rfl⟩)
            | (go_at_call 131; (with_reducible refine (signed_any (q + 1) _ _ SU.out).mono ?_); rintro e w9 ⟨rfl, hb9⟩; have e90 : w9.cell? ⟨p7, 0, none⟩ = some (.int .u64 (hi (q + 1))) := cell_on hb9 (by first | (simp [go_sem, *]; done) | (simp [go_sem, World.cell?_alloc_some, *]; done) | fail); have e91 : w9.cell? ⟨p7, 1, none⟩ = some (.int .u64 (lo (q + 1))) := cell_on hb9 (by first | (simp [go_sem, *]; done) | (simp [go_sem, World.cell?_alloc_some, *]; done) | fail); have e92 : w9.cell? ⟨w.heap.size, 0, none⟩ = some (.int .i64 (hi n)) := cell_on hb9 (by first | (simp [go_sem, *]; done) | (simp [go_sem, World.cell?_alloc_some, *]; done) | fail); have e93 : w9.cell? ⟨w.heap.size, 1, none⟩ = some (.int .u64 (lo n)) := cell_on hb9 (by first | (simp [go_sem, *]; done) | (simp [go_sem, World.cell?_alloc_some, *]; done) | fail); have e94 : w9.cell? ⟨w.heap.size + 1, 0, none⟩ = some (.int .i64 (hi d)) := cell_on hb9 (by first | (simp [go_sem, *]; done) | (simp [go_sem, World.cell?_alloc_some, *]; done) | fail); have e95 : w9.cell? ⟨w.heap.size + 1, 1, none⟩ = some (.int .u64 (lo d)) := cell_on hb9 (by first | (simp [go_sem, *]; done) | (simp [go_sem, World.cell?_alloc_some, *]; done) | fail); have e96 : w9.cell? ⟨w.heap.size + 1 + 1, 0, none⟩ = some (.int .i64 0) := cell_on hb9 (by first | (simp [go_sem, *]; done) | (simp [go_sem, World.cell?_alloc_some, *]; done) | fail); have e97 : w9.cell? ⟨w.heap.size + 1 + 1, 1, none⟩ = some (.int .u64 0) := cell_on hb9 (by first | (simp [go_sem, *]; done) | (simp [go_sem, World.cell?_alloc_some, *]; done) | fail); have s90 : p7 < w9.heap.size := World.block_lt_of_cell? _ _ e90; have t90 : p7 < w9.heap.size + 1 := Nat.lt_succ_of_lt s90; have s92 : w.heap.size < w9.heap.size := World.block_lt_of_cell? _ _ e92; have t92 : w.heap.size < w9.heap.size + 1 := Nat.lt_succ_of_lt s92; have s94 : w.heap.size + 1 < w9.heap.size := World.block_lt_of_cell? _ _ e94; have t94 : w.heap.size + 1 < w9.heap.size + 1 := Nat.lt_succ_of_lt s94; have s96 : w.heap.size + 1 + 1 < w9.heap.size := World.block_lt_of_cell? _ _ e96; have t96 : w.heap.size + 1 + 1 < w9.heap.size + 1 := Nat.lt_succ_of_lt s96; have y96 : w9.frozen? ⟨w.heap.size + 1 + 1, 0, none⟩ = false := frozen_on hb9 (v := .int .i64 0) (by first | (simp [go_sem, *]; done) | (simp [go_sem, World.cell?_alloc_some, *]; done) | fail) (by first | (simp [go_sem, *]; done) | (simp [go_sem, frozen?_alloc_cells, *]; done) | fail); have y97 : w9.frozen? ⟨w.heap.size + 1 + 1, 1, none⟩ = false := frozen_on hb9 (v := .int .u64 0) (by first | (simp [go_sem, *]; done) | (simp [go_sem, World.cell?_alloc_some, *]; done) | fail) (by first | (simp [go_sem, *]; done) | (simp [go_sem, frozen?_alloc_cells, *]; done) | fail)))
          all_goals
            go_wp2_with fail
            refine bodyPost_ret (v := .tuple #[Wv (told (sd (!(sn == sdd)) (q + 1))), .int .i64 (over (sd (!(sn == sdd)) (q + 1)))]) (by simp [results, Try.results87, go_sem, *]) rfl ⟨by rw [RD.out], ?_⟩
            repeat (first | exact Below.refl _ _ | assumption | apply Below.drew | refine Below.setCell ?_ (by first | omega | (simp; done) | (simp; omega)) _ | refine Below.alloc ?_ (by first | omega | (simp; done) | (simp; omega)) _ | refine Below.trans ?_ (hb9.mono (by first | omega | (simp; done) | (simp; omega))))
        | false =>
          have hsz : w.heap.size + 1 + 1 < _ := World.block_lt_of_cell? _ _ c5
          go_upto_region 8 with fail
          have RD := Lib.hid (show rd n d = sd (!(ng n == ng d)) q by unfold rd; rw [if_neg (by rw [hup]; simp), HQ.out.1]; rfl)
          have SU := Lib.hid (hU.1)
          clear hU hup
          generalize ng n = sn at *
          generalize ng d = sdd at *
          go_region_held3 (fun w' => w'.cell? ⟨p7, 0, none⟩ = some (.int .u64 (hi (q))) ∧ w'.cell? ⟨p7, 1, none⟩ = some (.int .u64 (lo (q))) ∧ w'.cell? ⟨w.heap.size, 0, none⟩ = some (.int .i64 (hi n)) ∧ w'.cell? ⟨w.heap.size, 1, none⟩ = some (.int .u64 (lo n)) ∧ w'.cell? ⟨w.heap.size + 1, 0, none⟩ = some (.int .i64 (hi d)) ∧ w'.cell? ⟨w.heap.size + 1, 1, none⟩ = some (.int .u64 (lo d))) (first | (simp [go_sem, *]; done) | (simp [go_sem, World.cell?_alloc_some, *]; done))
            (first
            | (go_at_call 132; (with_reducible refine (BN.out _).mono ?_); rintro e w' ⟨rfl, rfl⟩)
            | (go_at_call 132; (with_reducible refine (BD.out _).mono ?_); rintro e w' ⟨rfl, rfl⟩)
            | (go_at_call 131; (with_reducible refine (signed_any (q) _ _ SU.out).mono ?_); rintro e w9 ⟨rfl, hb9⟩; have e90 : w9.cell? ⟨p7, 0, none⟩ = some (.int .u64 (hi (q))) := cell_on hb9 (by first | (simp [go_sem, *]; done) | (simp [go_sem, World.cell?_alloc_some, *]; done) | fail); have e91 : w9.cell? ⟨p7, 1, none⟩ = some (.int .u64 (lo (q))) := cell_on hb9 (by first | (simp [go_sem, *]; done) | (simp [go_sem, World.cell?_alloc_some, *]; done) | fail); have e92 : w9.cell? ⟨w.heap.size, 0, none⟩ = some (.int .i64 (hi n)) := cell_on hb9 (by first | (simp [go_sem, *]; done) | (simp [go_sem, World.cell?_alloc_some, *]; done) | fail); have e93 : w9.cell? ⟨w.heap.size, 1, none⟩ = some (.int .u64 (lo n)) := cell_on hb9 (by first | (simp [go_sem, *]; done) | (simp [go_sem, World.cell?_alloc_some, *]; done) | fail); have e94 : w9.cell? ⟨w.heap.size + 1, 0, none⟩ = some (.int .i64 (hi d)) := cell_on hb9 (by first | (simp [go_sem, *]; done) | (simp [go_sem, World.cell?_alloc_some, *]; done) | fail); have e95 : w9.cell? ⟨w.heap.size + 1, 1, none⟩ = some (.int .u64 (lo d)) := cell_on hb9 (by first | (simp [go_sem, *]; done) | (simp [go_sem, World.cell?_alloc_some, *]; done) | fail); have e96 : w9.cell? ⟨w.heap.size + 1 + 1, 0, none⟩ = some (.int .i64 0) := cell_on hb9 (by first | (simp [go_sem, *]; done) | (simp [go_sem, World.cell?_alloc_some, *]; done) | fail); have e97 : w9.cell? ⟨w.heap.size + 1 + 1, 1, none⟩ = some (.int .u64 0) := cell_on hb9 (by first | (simp [go_sem, *]; done) | (simp [go_sem, World.cell?_alloc_some, *]; done) | fail); have s90 : p7 < w9.heap.size := World.block_lt_of_cell? _ _ e90; have t90 : p7 < w9.heap.size + 1 := Nat.lt_succ_of_lt s90; have s92 : w.heap.size < w9.heap.size := World.block_lt_of_cell? _ _ e92; have t92 : w.heap.size < w9.heap.size + 1 := Nat.lt_succ_of_lt s92; have s94 : w.heap.size + 1 < w9.heap.size := World.block_lt_of_cell? _ _ e94; have t94 : w.heap.size + 1 < w9.heap.size + 1 := Nat.lt_succ_of_lt s94; have s96 : w.heap.size + 1 + 1 < w9.heap.size := World.block_lt_of_cell? _ _ e96; have t96 : w.heap.size + 1 + 1 < w9.heap.size + 1 := Nat.lt_succ_of_lt s96; have y96 : w9.frozen? ⟨w.heap.size + 1 + 1, 0, none⟩ = false := frozen_on hb9 (v := .int .i64 0) (by first | (simp [go_sem, *]; done) | (simp [go_sem, World.cell?_alloc_some, *]; done) | fail) (by first | (simp [go_sem, *]; done) | (simp [go_sem, frozen?_alloc_cells, *]; done) | fail); have y97 : w9.frozen? ⟨w.heap.size + 1 + 1, 1, none⟩ = false := frozen_on hb9 (v := .int .u64 0) (by first | (simp [go_sem, *]; done) | (simp [go_sem, World.cell?_alloc_some, *]; done) | fail) (by first | (simp [go_sem, *]; done) | (simp [go_sem, frozen?_alloc_cells, *]; done) | fail)))
          all_goals
            go_wp2_with fail
            refine bodyPost_ret (v := .tuple #[Wv (told (sd (!(sn == sdd)) (q))), .int .i64 (over (sd (!(sn == sdd)) (q)))]) (by simp [results, Try.results87, go_sem, *]) rfl ⟨by rw [RD.out], ?_⟩
            repeat (first | exact Below.refl _ _ | assumption | apply Below.drew | refine Below.setCell ?_ (by first | omega | (simp; done) | (simp; omega)) _ | refine Below.alloc ?_ (by first | omega | (simp; done) | (simp; omega)) _ | refine Below.trans ?_ (hb9.mono (by first | omega | (simp; done) | (simp; omega))))
end Go.Proofs.Ytnlfljekbknaaaa
namespace Go.Proofs.Ytnlfljekbknaaaa
open Go.RowKit


/-- What Down's variables hold behind the division. -/
def DwnAt (w0 : World) (n d q r : Int) (p6 p7 : Nat) (w : World) : Prop :=
  w.cell? ⟨w0.heap.size, 0, none⟩ = some (.int .i64 (hi n)) ∧ w.cell? ⟨w0.heap.size, 1, none⟩ = some (.int .u64 (lo n)) ∧
  w.cell? ⟨w0.heap.size + 1, 0, none⟩ = some (.int .i64 (hi d)) ∧ w.cell? ⟨w0.heap.size + 1, 1, none⟩ = some (.int .u64 (lo d)) ∧
  w.cell? ⟨w0.heap.size + 1 + 1, 0, none⟩ = some (.int .i64 0) ∧ w.cell? ⟨w0.heap.size + 1 + 1, 1, none⟩ = some (.int .u64 0) ∧
  w.cell? ⟨p6, 0, none⟩ = some (.int .u64 (hi q)) ∧ w.cell? ⟨p6, 1, none⟩ = some (.int .u64 (lo q)) ∧
  w.cell? ⟨p7, 0, none⟩ = some (.int .u64 (hi r)) ∧ w.cell? ⟨p7, 1, none⟩ = some (.int .u64 (lo r)) ∧
  w.frozen? ⟨w0.heap.size + 1 + 1, 0, none⟩ = false ∧ w.frozen? ⟨w0.heap.size + 1 + 1, 1, none⟩ = false ∧
  w.frozen? ⟨p6, 0, none⟩ = false ∧ w.frozen? ⟨p6, 1, none⟩ = false ∧
  Below w0.heap.size w0 w ∧ w0.heap.size + 1 + 1 < p6
theorem DwnAt.below {w0 : World} {n d q r : Int} {p6 p7 : Nat} {W W' : World} (h : DwnAt w0 n d q r p6 p7 W) (hb : Below W.heap.size W W') : DwnAt w0 n d q r p6 p7 W' := by
  obtain ⟨c1, c2, c3, c4, c5, c6, c7, c8, c9, ca, f1, f2, f3, f4, b, z⟩ := h
  have hz : w0.heap.size < W.heap.size := World.block_lt_of_cell? W _ c1
  exact ⟨cell_on hb c1, cell_on hb c2, cell_on hb c3, cell_on hb c4, cell_on hb c5, cell_on hb c6, cell_on hb c7, cell_on hb c8, cell_on hb c9, cell_on hb ca, frozen_on hb c5 f1, frozen_on hb c6 f2, frozen_on hb c7 f3, frozen_on hb c8 f4, b.trans (hb.mono (by omega)), z⟩

end Go.Proofs.Ytnlfljekbknaaaa
namespace Go.Proofs.Ytnlfljekbknaaaa
open Go.RowKit

theorem sd_ab (a : Int) (p : Int) : sd (ng a) (ab a * p) = a * p := by
  unfold sd ng ab
  by_cases h : a < 0
  · have : ((a.natAbs : Nat) : Int) = -a := by omega
    simp only [h, decide_true, if_true, this]
    rw [Int.neg_mul, Int.neg_neg]
  · have : ((a.natAbs : Nat) : Int) = a := by omega
    simp only [h, decide_false, this]; rfl
theorem left_far {a : Int} (ha : R a) (n : Nat) (h1 : n ≤ 126) (h : 128 < bl (ab a) + n) : ¬ R (a * 2 ^ n) := by
  have hU := U_ab ha
  have h0 : ab a ≠ 0 := by intro e; rw [e, bl_zero] at h; omega
  obtain ⟨b1, b2, b3⟩ := bl_bd hU h0
  have m := pow_mono (show 128 ≤ (bl (ab a) - 1) + n by omega)
  rw [Int.pow_add, pow128] at m
  have := Int.mul_le_mul_of_nonneg_right b2 (show (0 : Int) ≤ 2 ^ n from Int.le_of_lt (Int.pow_pos (by decide)))
  have e := sd_ab a (2 ^ n)
  intro hr
  rw [← e, R_iff] at hr
  unfold sd at hr
  split at hr <;> omega
theorem left_near {a : Int} (ha : R a) (n : Nat) (h : bl (ab a) + n ≤ 128) : ws (ab a * 2 ^ n) = ab a * 2 ^ n := by
  have hU := U_ab ha
  have hb := ab_bd ha
  by_cases h0 : ab a = 0
  · rw [h0, Int.zero_mul]; rfl
  obtain ⟨b1, b2, b3⟩ := bl_bd hU h0
  have m := pow_mono (show bl (ab a) + n ≤ 128 from h)
  rw [Int.pow_add, pow128] at m
  have hp : (0 : Int) < 2 ^ n := Int.pow_pos (by decide)
  have := Int.mul_le_mul_of_nonneg_right (show ab a + 1 ≤ 2 ^ bl (ab a) by omega) (Int.le_of_lt hp)
  rw [Int.add_mul] at this
  have p0 : 0 ≤ ab a * 2 ^ n := Int.mul_nonneg hb.1 (Int.le_of_lt hp)
  exact ws_in (by rw [U_iff]; omega)

theorem mul_bd {a b : Int} (a0 : -9223372036854775808 ≤ a) (a1 : a ≤ 9223372036854775807) (b0 : -9223372036854775808 ≤ b) (b1 : b ≤ 9223372036854775807) :
    -85070591730234615865843651857942052864 ≤ a * b ∧ a * b ≤ 85070591730234615865843651857942052864 := by
  have h : (a * b).natAbs ≤ 9223372036854775808 * 9223372036854775808 := by
    rw [Int.natAbs_mul]; exact Nat.mul_le_mul (by omega) (by omega)
  omega
/-- The product's high half, as it is mended for the signs. -/
def mh (a b h : Int) : Int :=
  let h1 := if a < 0 then IntKind.u64.wrap (h - IntKind.u64.wrap b) else h
  if b < 0 then IntKind.u64.wrap (h1 - IntKind.u64.wrap a) else h1
theorem mul_halves {a b : Int} (a0 : -9223372036854775808 ≤ a) (a1 : a ≤ 9223372036854775807) (b0 : -9223372036854775808 ≤ b) (b1 : b ≤ 9223372036854775807) {X : Int}
    (hX : X = IntKind.u64.wrap a * IntKind.u64.wrap b) : wrap64 (mh a b (X / 18446744073709551616)) = hi (a * b) ∧ X % 18446744073709551616 = lo (a * b) := by
  have bd := mul_bd a0 a1 b0 b1
  have key : X = a * b + (if a < 0 then 18446744073709551616 * b else 0) + (if b < 0 then 18446744073709551616 * a else 0) + (if a < 0 ∧ b < 0 then 340282366920938463463374607431768211456 else 0) := by
    rw [hX, IntKind.wrap_u64, IntKind.wrap_u64]
    by_cases ha : a < 0
    · have ea : a % 18446744073709551616 = a + 18446744073709551616 := by omega
      by_cases hb : b < 0
      · have eb : b % 18446744073709551616 = b + 18446744073709551616 := by omega
        rw [ea, eb, Int.add_mul, Int.mul_add, Int.mul_add]; simp only [ha, hb, if_true, and_self]; omega
      · have eb : b % 18446744073709551616 = b := by omega
        rw [ea, eb, Int.add_mul]; simp only [ha, hb, if_true, if_false, and_false]; omega
    · have ea : a % 18446744073709551616 = a := by omega
      by_cases hb : b < 0
      · have eb : b % 18446744073709551616 = b + 18446744073709551616 := by omega
        rw [ea, eb, Int.mul_add]; simp only [ha, hb, if_true, if_false, false_and]; omega
      · have eb : b % 18446744073709551616 = b := by omega
        rw [ea, eb]; simp only [ha, hb, if_false, and_self]; omega
  clear hX
  generalize a * b = P at *
  unfold mh hi lo wrap64
  simp only [IntKind.wrap_u64]
  by_cases ha : a < 0 <;> by_cases hb : b < 0 <;> simp only [ha, hb, if_true, if_false, and_self, and_false, false_and] at key ⊢ <;> omega
end Go.Proofs.Ytnlfljekbknaaaa
namespace Go.Proofs.Ytnlfljekbknaaaa
open Go.RowKit

set_option maxHeartbeats 8000000 in
/-- wide.Left -/
theorem shl_any (a : Int) (n : Nat) (w : World) (ha : R a) (h1 : n ≤ 126) : Calls Try.prog 100 #[Wv a, .int .i64 n] w fun e w' => e = .returned (.tuple #[Wv (told (a * 2 ^ n)), .int .i64 (over (a * 2 ^ n))]) ∧ Below w.heap.size w w' := by
  have lb := bl_le (U_ab ha)
  have SZ := Lib.hid (fun W : World => sizeOf_any a W ha)
  have LN := Lib.hid (fun W : World => length_any (ab a) W (U_ab ha))
  have BN := Lib.hid (fun W : World => below_any a W)
  by_cases g : 128 < bl (ab a) + n
  · have r := Lib.hid (And.intro (told_out (left_far ha n h1 g)) (over_out (left_far ha n h1 g)))
    have g' : (128 : Int) < (bl (ab a) : Int) + n := by omega
    clear ha g
    generalize ab a = s at *
    go_enter Try.func100, Try.ntmps100
    go_wp2_with (first | (go_at_call 125; (with_reducible refine (SZ.out _).mono ?_); rintro e w1 ⟨rfl, hb1⟩; have e10 : w1.cell? ⟨w.heap.size, 0, none⟩ = some (.int .i64 (hi a)) := cell_on hb1 (by first | (simp [go_sem, *]; done) | (simp [go_sem, World.cell?_alloc_some, *]; done) | fail); have e11 : w1.cell? ⟨w.heap.size, 1, none⟩ = some (.int .u64 (lo a)) := cell_on hb1 (by first | (simp [go_sem, *]; done) | (simp [go_sem, World.cell?_alloc_some, *]; done) | fail); have e12 : w1.cell? ⟨w.heap.size + 1, 0, none⟩ = some (.int .i64 0) := cell_on hb1 (by first | (simp [go_sem, *]; done) | (simp [go_sem, World.cell?_alloc_some, *]; done) | fail); have e13 : w1.cell? ⟨w.heap.size + 1, 1, none⟩ = some (.int .u64 0) := cell_on hb1 (by first | (simp [go_sem, *]; done) | (simp [go_sem, World.cell?_alloc_some, *]; done) | fail); have s10 : w.heap.size < w1.heap.size := World.block_lt_of_cell? _ _ e10; have t10 : w.heap.size < w1.heap.size + 1 := Nat.lt_succ_of_lt s10; have s12 : w.heap.size + 1 < w1.heap.size := World.block_lt_of_cell? _ _ e12; have t12 : w.heap.size + 1 < w1.heap.size + 1 := Nat.lt_succ_of_lt s12; have y12 : w1.frozen? ⟨w.heap.size + 1, 0, none⟩ = false := frozen_on hb1 (v := .int .i64 0) (by first | (simp [go_sem, *]; done) | (simp [go_sem, World.cell?_alloc_some, *]; done) | fail) (by first | (simp [go_sem, *]; done) | (simp [go_sem, frozen?_alloc_cells, *]; done) | fail); have y13 : w1.frozen? ⟨w.heap.size + 1, 1, none⟩ = false := frozen_on hb1 (v := .int .u64 0) (by first | (simp [go_sem, *]; done) | (simp [go_sem, World.cell?_alloc_some, *]; done) | fail) (by first | (simp [go_sem, *]; done) | (simp [go_sem, frozen?_alloc_cells, *]; done) | fail)) | (go_at_call 137; (with_reducible refine (LN.out _).mono ?_); rintro e w2 ⟨rfl, rfl⟩))
    refine bodyPost_ret (v := .tuple #[.agg #[.int .i64 0, .int .u64 0], .int .i64 3]) (by simp [results, Try.results100, go_sem, *]) rfl ⟨by rw [r.out.1, r.out.2] <;> rfl, ?_⟩
    repeat (first | exact Below.refl _ _ | assumption | apply Below.drew | refine Below.setCell ?_ (by first | omega | (simp; done) | (simp; omega)) _ | refine Below.alloc ?_ (by first | omega | (simp; done) | (simp; omega)) _ | refine Below.trans ?_ (hb1.mono (by first | omega | (simp; done) | (simp; omega))))
  · have e1 := left_near ha n (by omega)
    have LC := Lib.hid (fun W : World => left_any (ab a) n W (U_ab ha) (by omega))
    have UT : U (ab a * 2 ^ n) := by rw [← e1]; exact U_ws _
    rw [e1] at LC
    have SI := Lib.hid (fun W : World => signed_any (ab a * 2 ^ n) (ng a) W UT)
    have r := Lib.hid (sd_ab a (2 ^ n))
    have g' : ¬ (128 : Int) < (bl (ab a) : Int) + n := by omega
    clear ha g e1 UT
    generalize ab a = s at *
    generalize s * 2 ^ n = t at *
    go_enter Try.func100, Try.ntmps100
    go_wp2_with (first | (go_at_call 125; (with_reducible refine (SZ.out _).mono ?_); rintro e w1 ⟨rfl, hb1⟩; have e10 : w1.cell? ⟨w.heap.size, 0, none⟩ = some (.int .i64 (hi a)) := cell_on hb1 (by first | (simp [go_sem, *]; done) | (simp [go_sem, World.cell?_alloc_some, *]; done) | fail); have e11 : w1.cell? ⟨w.heap.size, 1, none⟩ = some (.int .u64 (lo a)) := cell_on hb1 (by first | (simp [go_sem, *]; done) | (simp [go_sem, World.cell?_alloc_some, *]; done) | fail); have e12 : w1.cell? ⟨w.heap.size + 1, 0, none⟩ = some (.int .i64 0) := cell_on hb1 (by first | (simp [go_sem, *]; done) | (simp [go_sem, World.cell?_alloc_some, *]; done) | fail); have e13 : w1.cell? ⟨w.heap.size + 1, 1, none⟩ = some (.int .u64 0) := cell_on hb1 (by first | (simp [go_sem, *]; done) | (simp [go_sem, World.cell?_alloc_some, *]; done) | fail); have s10 : w.heap.size < w1.heap.size := World.block_lt_of_cell? _ _ e10; have t10 : w.heap.size < w1.heap.size + 1 := Nat.lt_succ_of_lt s10; have s12 : w.heap.size + 1 < w1.heap.size := World.block_lt_of_cell? _ _ e12; have t12 : w.heap.size + 1 < w1.heap.size + 1 := Nat.lt_succ_of_lt s12; have y12 : w1.frozen? ⟨w.heap.size + 1, 0, none⟩ = false := frozen_on hb1 (v := .int .i64 0) (by first | (simp [go_sem, *]; done) | (simp [go_sem, World.cell?_alloc_some, *]; done) | fail) (by first | (simp [go_sem, *]; done) | (simp [go_sem, frozen?_alloc_cells, *]; done) | fail); have y13 : w1.frozen? ⟨w.heap.size + 1, 1, none⟩ = false := frozen_on hb1 (v := .int .u64 0) (by first | (simp [go_sem, *]; done) | (simp [go_sem, World.cell?_alloc_some, *]; done) | fail) (by first | (simp [go_sem, *]; done) | (simp [go_sem, frozen?_alloc_cells, *]; done) | fail)) | (go_at_call 137; (with_reducible refine (LN.out _).mono ?_); rintro e w2 ⟨rfl, rfl⟩))
    go_region_held3 (fun w' => w'.cell? ⟨w.heap.size, 0, none⟩ = some (.int .i64 (hi a)) ∧ w'.cell? ⟨w.heap.size, 1, none⟩ = some (.int .u64 (lo a)) ∧ w'.cell? ⟨w1.heap.size, 0, none⟩ = some (.int .u64 (hi s)) ∧ w'.cell? ⟨w1.heap.size, 1, none⟩ = some (.int .u64 (lo s))) (first | (simp [go_sem, *]; done) | (simp [go_sem, World.cell?_alloc_some, *]; done))
      (first
      | (go_at_call 127; (with_reducible refine (LC.out _).mono ?_); rintro e w3 ⟨rfl, hb3⟩; have e30 : w3.cell? ⟨w.heap.size, 0, none⟩ = some (.int .i64 (hi a)) := cell_on hb3 (by first | (simp [go_sem, *]; done) | (simp [go_sem, World.cell?_alloc_some, *]; done) | fail); have e31 : w3.cell? ⟨w.heap.size, 1, none⟩ = some (.int .u64 (lo a)) := cell_on hb3 (by first | (simp [go_sem, *]; done) | (simp [go_sem, World.cell?_alloc_some, *]; done) | fail); have e32 : w3.cell? ⟨w.heap.size + 1, 0, none⟩ = some (.int .i64 0) := cell_on hb3 (by first | (simp [go_sem, *]; done) | (simp [go_sem, World.cell?_alloc_some, *]; done) | fail); have e33 : w3.cell? ⟨w.heap.size + 1, 1, none⟩ = some (.int .u64 0) := cell_on hb3 (by first | (simp [go_sem, *]; done) | (simp [go_sem, World.cell?_alloc_some, *]; done) | fail); have e34 : w3.cell? ⟨w1.heap.size, 0, none⟩ = some (.int .u64 (hi s)) := cell_on hb3 (by first | (simp [go_sem, *]; done) | (simp [go_sem, World.cell?_alloc_some, *]; done) | fail); have e35 : w3.cell? ⟨w1.heap.size, 1, none⟩ = some (.int .u64 (lo s)) := cell_on hb3 (by first | (simp [go_sem, *]; done) | (simp [go_sem, World.cell?_alloc_some, *]; done) | fail); have s30 : w.heap.size < w3.heap.size := World.block_lt_of_cell? _ _ e30; have t30 : w.heap.size < w3.heap.size + 1 := Nat.lt_succ_of_lt s30; have s32 : w.heap.size + 1 < w3.heap.size := World.block_lt_of_cell? _ _ e32; have t32 : w.heap.size + 1 < w3.heap.size + 1 := Nat.lt_succ_of_lt s32; have s34 : w1.heap.size < w3.heap.size := World.block_lt_of_cell? _ _ e34; have t34 : w1.heap.size < w3.heap.size + 1 := Nat.lt_succ_of_lt s34; have y32 : w3.frozen? ⟨w.heap.size + 1, 0, none⟩ = false := frozen_on hb3 (v := .int .i64 0) (by first | (simp [go_sem, *]; done) | (simp [go_sem, World.cell?_alloc_some, *]; done) | fail) (by first | (simp [go_sem, *]; done) | (simp [go_sem, frozen?_alloc_cells, *]; done) | fail); have y33 : w3.frozen? ⟨w.heap.size + 1, 1, none⟩ = false := frozen_on hb3 (v := .int .u64 0) (by first | (simp [go_sem, *]; done) | (simp [go_sem, World.cell?_alloc_some, *]; done) | fail) (by first | (simp [go_sem, *]; done) | (simp [go_sem, frozen?_alloc_cells, *]; done) | fail))
      | (go_at_call 132; (with_reducible refine (BN.out _).mono ?_); rintro e w' ⟨rfl, rfl⟩)
      | (go_at_call 131; (with_reducible refine (SI.out _).mono ?_); rintro e w4 ⟨rfl, hb4⟩; have e40 : w4.cell? ⟨w.heap.size, 0, none⟩ = some (.int .i64 (hi a)) := cell_on hb4 (by first | (simp [go_sem, *]; done) | (simp [go_sem, World.cell?_alloc_some, *]; done) | fail); have e41 : w4.cell? ⟨w.heap.size, 1, none⟩ = some (.int .u64 (lo a)) := cell_on hb4 (by first | (simp [go_sem, *]; done) | (simp [go_sem, World.cell?_alloc_some, *]; done) | fail); have e42 : w4.cell? ⟨w.heap.size + 1, 0, none⟩ = some (.int .i64 0) := cell_on hb4 (by first | (simp [go_sem, *]; done) | (simp [go_sem, World.cell?_alloc_some, *]; done) | fail); have e43 : w4.cell? ⟨w.heap.size + 1, 1, none⟩ = some (.int .u64 0) := cell_on hb4 (by first | (simp [go_sem, *]; done) | (simp [go_sem, World.cell?_alloc_some, *]; done) | fail); have e44 : w4.cell? ⟨w1.heap.size, 0, none⟩ = some (.int .u64 (hi s)) := cell_on hb4 (by first | (simp [go_sem, *]; done) | (simp [go_sem, World.cell?_alloc_some, *]; done) | fail); have e45 : w4.cell? ⟨w1.heap.size, 1, none⟩ = some (.int .u64 (lo s)) := cell_on hb4 (by first | (simp [go_sem, *]; done) | (simp [go_sem, World.cell?_alloc_some, *]; done) | fail); have s40 : w.heap.size < w4.heap.size := World.block_lt_of_cell? _ _ e40; have t40 : w.heap.size < w4.heap.size + 1 := Nat.lt_succ_of_lt s40; have s42 : w.heap.size + 1 < w4.heap.size := World.block_lt_of_cell? _ _ e42; have t42 : w.heap.size + 1 < w4.heap.size + 1 := Nat.lt_succ_of_lt s42; have s44 : w1.heap.size < w4.heap.size := World.block_lt_of_cell? _ _ e44; have t44 : w1.heap.size < w4.heap.size + 1 := Nat.lt_succ_of_lt s44; have y42 : w4.frozen? ⟨w.heap.size + 1, 0, none⟩ = false := frozen_on hb4 (v := .int .i64 0) (by first | (simp [go_sem, *]; done) | (simp [go_sem, World.cell?_alloc_some, *]; done) | fail) (by first | (simp [go_sem, *]; done) | (simp [go_sem, frozen?_alloc_cells, *]; done) | fail); have y43 : w4.frozen? ⟨w.heap.size + 1, 1, none⟩ = false := frozen_on hb4 (v := .int .u64 0) (by first | (simp [go_sem, *]; done) | (simp [go_sem, World.cell?_alloc_some, *]; done) | fail) (by first | (simp [go_sem, *]; done) | (simp [go_sem, frozen?_alloc_cells, *]; done) | fail)))
    all_goals
      go_wp2_with fail
      refine bodyPost_ret (v := .tuple #[Wv (told (sd (ng a) t)), .int .i64 (over (sd (ng a) t))]) (by simp [results, Try.results100, go_sem, *]) rfl ⟨by rw [r.out], ?_⟩
      have hs4 : w.heap.size + 1 < w4.heap.size := World.block_lt_of_cell? _ _ e42
      have hs3 : w.heap.size + 1 < w3.heap.size := World.block_lt_of_cell? _ _ e32
      have hs1 : w.heap.size + 1 < w1.heap.size := World.block_lt_of_cell? _ _ e12
      repeat (first | exact Below.refl _ _ | assumption | apply Below.drew | refine Below.setCell ?_ (by first | omega | (simp; done) | (simp; omega)) _ | refine Below.alloc ?_ (by first | omega | (simp; done) | (simp; omega)) _ | refine Below.trans ?_ (hb4.mono (by first | omega | (simp; done) | (simp; omega))) | refine Below.trans ?_ (hb3.mono (by first | omega | (simp; done) | (simp; omega))) | refine Below.trans ?_ (hb1.mono (by first | omega | (simp; done) | (simp; omega))))

set_option maxHeartbeats 4000000 in
/-- wide.Mul -/
theorem mul_any (a b : Int) (w : World) (a0 : -9223372036854775808 ≤ a) (a1 : a ≤ 9223372036854775807) (b0 : -9223372036854775808 ≤ b) (b1 : b ≤ 9223372036854775807) :
    Calls Try.prog 103 #[.int .i64 a, .int .i64 b] w fun e w' => e = .returned (Wv (a * b)) ∧ w.alloc (.cells #[.int .i64 (hi (a * b)), .int .u64 (lo (a * b))] 99) = w' := by
  obtain ⟨x, hx⟩ := Int.eq_ofNat_of_zero_le (u64_nn a)
  obtain ⟨y, hy⟩ := Int.eq_ofNat_of_zero_le (u64_nn b)
  have x1 : x < 18446744073709551616 := by have := u64_lt a; omega
  have y1 : y < 18446744073709551616 := by have := u64_lt b; omega
  have MC := Lib.hid (fun W : World => Try.bits_Mul64 x y x1 y1 W)
  obtain ⟨k1, k2⟩ := mul_halves a0 a1 b0 b1 (X := ((x * y : Nat) : Int)) (by rw [hx, hy, Int.natCast_mul])
  unfold mh at k1
  rw [hx, hy] at k1
  push_cast at k1 k2
  clear x1 y1 a0 a1 b0 b1
  generalize a * b = t at *
  by_cases ga : a < 0 <;> by_cases gb : b < 0
  all_goals
    have k3 := k1
    simp only [ga, gb, if_true, if_false] at k3
    have K := Lib.hid (And.intro k3 k2)
    clear k1 k2 k3
    go_enter Try.func103, Try.ntmps103
    go_wp2_with (go_at_call 140; (with_reducible refine (MC.out _).mono ?_); rintro e w' ⟨rfl, rfl⟩)
    have K1 := K.out.1
    have K2 := K.out.2
    refine bodyPost_ret (v := Wv t) (by simp [results, Try.results103, go_sem, K1, K2]) rfl ⟨rfl, ?_⟩
    simp [K1, K2]

end Go.Proofs.Ytnlfljekbknaaaa
