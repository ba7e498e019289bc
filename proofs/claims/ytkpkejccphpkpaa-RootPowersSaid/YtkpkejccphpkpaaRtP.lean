/-
  RootPowers' loop.
-/
import Derived.Test.YtkpkejccphpkpaaRtW
namespace Go.Proofs.Ytkpkejccphpkpaa
open Go.RowKit
theorem powers_facts (c t : Nat) (hc : c < 4000) (ht : t < 25) : wrap64 ((c : Int) * c) = (c : Int) * c ∧ wrap64 ((c : Int) * c * 2 ^ t) = (c : Int) * c * 2 ^ t ∧ wrap64 ((c : Int) * 2 ^ (t + 4)) = (c : Int) * 2 ^ (t + 4) ∧ 0 ≤ (c : Int) * c * 2 ^ t ∧ Nr ((c : Int) * c * 2 ^ t * 2 ^ (8 + t + 2)) ((c : Int) * 2 ^ (t + 4)) := by
  have p0 : (0 : Int) < 2 ^ t := Int.pow_pos (by decide)
  have p1 : (2 : Int) ^ t ≤ 2 ^ 24 := by have := Nat.pow_le_pow_right (show 0 < 2 by decide) (show t ≤ 24 by omega); exact_mod_cast this
  have e4 : (2 : Int) ^ (t + 4) = 2 ^ t * 16 := by rw [Int.pow_add]; rfl
  have e10 : (2 : Int) ^ (8 + t + 2) = 2 ^ t * 1024 := by rw [show 8 + t + 2 = t + 10 by omega, Int.pow_add]; rfl
  have c0 : (0 : Int) ≤ c := by omega
  have k0 : 0 ≤ (c : Int) * c := Int.mul_nonneg c0 c0
  have k1 : (c : Int) * c ≤ 4000 * 4000 := Int.mul_le_mul (by omega) (by omega) c0 (by decide)
  have m0 : 0 ≤ (c : Int) * c * 2 ^ t := Int.mul_nonneg k0 (by omega)
  have m1 : (c : Int) * c * 2 ^ t ≤ 4000 * 4000 * 2 ^ 24 := Int.mul_le_mul k1 p1 (by omega) (by decide)
  have v0 : 0 ≤ (c : Int) * 2 ^ (t + 4) := Int.mul_nonneg c0 (by omega)
  have v1 : (c : Int) * 2 ^ t ≤ 4000 * 2 ^ 24 := Int.mul_le_mul (by omega) p1 (by omega) (by decide)
  have ev : (c : Int) * 2 ^ (t + 4) = 16 * ((c : Int) * 2 ^ t) := by rw [e4, ← Int.mul_assoc]; omega
  refine ⟨IntWalk.wrap64_in _ ⟨by omega, by omega⟩, IntWalk.wrap64_in _ ⟨by omega, by omega⟩, IntWalk.wrap64_in _ ⟨by omega, by omega⟩, m0, ?_⟩
  have q := nr_square v0
  have e : 4 * ((c : Int) * 2 ^ (t + 4) * (c * 2 ^ (t + 4))) = c * c * 2 ^ t * 2 ^ (8 + t + 2) := by
    rw [e4, e10]
    generalize (2 : Int) ^ t = P
    have a1 : (c : Int) * (P * 16) = 16 * (c * P) := by rw [← Int.mul_assoc]; omega
    have a2 : (c : Int) * c * P * (P * 1024) = 1024 * ((c * P) * (c * P)) := by
      rw [show (c : Int) * P * (c * P) = c * c * P * P by simp only [Int.mul_assoc, Int.mul_left_comm P], ← Int.mul_assoc]; omega
    rw [a1, a2]
    have a3 : 16 * ((c : Int) * P) * (16 * (c * P)) = 256 * ((c * P) * (c * P)) := by
      generalize (c : Int) * P = x
      rw [Int.mul_assoc, Int.mul_left_comm x 16 x]; omega
    omega
  rw [e] at q
  exact q
theorem powers_ex (c t : Nat) (hc : c < 4000) (ht : t < 25) : ∃ K M V : Int, wrap64 ((c : Int) * c) = K ∧ wrap64 (K * 2 ^ t) = M ∧ wrap64 ((c : Int) * 2 ^ (t + 4)) = V ∧ 0 ≤ M ∧ Nr (M * 2 ^ (8 + t + 2)) V := ⟨_, _, _, powers_facts c t hc ht⟩

set_option maxRecDepth 100000 in
set_option maxHeartbeats 8000000 in
theorem powers_any (b off len cap : Nat) (es : Nat → Rl) (w : World) (_hl : len ≤ 9223372036854775807) (hb : b < w.heap.size) (hT : ∀ i, i < len → RlAt w b (off + i * 2) (es i)) (hok : ∀ i, i < len → (es i).ok) :
    Calls Try.prog 9 #[.slice (some ⟨b, off, none⟩) len cap] w fun e w' => e = .returned (.bool true) ∧ Below w.heap.size w w' := by
  have HT := Lib.hid (And.intro hT hok)
  clear hT hok
  go_enter Try.func9, Try.ntmps9
  go_wp2
  go_loopw [3] (fun s3 wr => ∃ k : Nat, k ≤ len ∧ s3 = .int .i64 k ∧ Below w.heap.size w wr) (fun s3 _ => len - (intOf s3).toNat)
  case atStart => exact ⟨0, Nat.zero_le _, rfl, Below.refl _ _⟩
  case round =>
    obtain ⟨k, hk, rfl, hB⟩ := hrel
    have hBs := hB.size
    by_cases g : k < len ∧ k < 25
    · obtain ⟨g1, g2⟩ := g
      obtain ⟨t1, t2⟩ := (HT.out.1 k (by omega)).below hB hb
      have HO := Lib.hid (HT.out.2 k (by omega))
      generalize es k = p at *
      have FF := fun W : World => ff_any p.f W
      obtain ⟨t, ht⟩ : ∃ t : Nat, (t : Int) = p.f % 18446744073709551616 % 25 := ⟨(p.f % 18446744073709551616 % 25).toNat, by omega⟩
      obtain ⟨c, hc⟩ : ∃ c : Nat, (c : Int) = p.a % 18446744073709551616 % 4000 := ⟨(p.a % 18446744073709551616 % 4000).toNat, by omega⟩
      obtain ⟨d, hd⟩ : ∃ d : Int, d = p.a % 18446744073709551616 % 17592186044416 := ⟨_, rfl⟩
      have tb : t < 25 := by omega
      have m1 := tmod_64 p.a 4000 (by decide) (by decide)
      have m2 := tmod_64 p.a 17592186044416 (by decide) (by decide)
      rw [← hc] at m1
      rw [← hd] at m2
      rw [← ht] at FF
      have FF := Lib.hid FF
      have cb : c < 4000 := by omega
      have d0 : 0 ≤ d := by omega
      have d1 : d < 17592186044416 := by omega
      clear ht hc hd
      have e5 : (8 : Int) + (t : Int) - 8 = (t : Int) := by omega
      have e6 : (8 : Int) + (t : Int) - 4 = ((t + 4 : Nat) : Int) := by omega
      have t4 : (0 : Int) ≤ ((t + 4 : Nat) : Int) := by omega
      obtain ⟨K, M, V, p1, p2, p3, p4⟩ := powers_ex c t cb tb
      have gf : fb ((8 + t : Nat) : Int) = true := fb_mk (by omega)
      have cf : ((8 + t : Nat) : Int) = 8 + (t : Int) := by omega
      have S1 : ∃ (v z : Int), (wd M = true → v = V ∧ z = 0) ∧ ∀ W : World, Calls Try.prog 58 #[.int .i64 M, .int .i64 (8 + (t : Int))] W fun e w' => e = .returned (.tuple #[.int .i64 v, .int .i64 z]) ∧ Below W.heap.size W w' := by
        rw [← cf]
        cases g : wd M with
        | true => exact ⟨V, 0, fun _ => ⟨rfl, rfl⟩, fun W => sqrt_any M V (8 + t) W gf p4.1 g p4.2⟩
        | false => exact ⟨0, 1, fun h => absurd h (by decide), fun W => sqrt_form M _ W (by rw [g]; simp)⟩
      obtain ⟨v, z, vz, S1⟩ := S1
      obtain ⟨x, hx⟩ := nr_ex (n := d * 2 ^ (8 + t + 2)) (Int.mul_nonneg d0 (Int.le_of_lt (Int.pow_pos (by decide))))
      obtain ⟨y, hy⟩ := nr_ex (n := 4 * d * 2 ^ (8 + t + 2)) (Int.mul_nonneg (by omega) (Int.le_of_lt (Int.pow_pos (by decide))))
      have S2 := fun W : World => sqrt_any d x (8 + t) W gf d0 (wd_mk (by omega)) hx
      have S3 := fun W : World => sqrt_any (4 * d) y (8 + t) W gf (by omega) (wd_mk (by omega)) hy
      have bx := wd_bd (sqrt_wd gf d0 (wd_mk (by omega)) hx)
      have by' := wd_bd (sqrt_wd gf (by omega) (wd_mk (by omega)) hy)
      rw [Int.mul_assoc] at hy
      have tw := nr_twice hx hy
      rw [cf] at S2 S3
      have S1 := Lib.hid S1
      have S2 := Lib.hid S2
      have S3 := Lib.hid S3
      have n1 : ¬ 1 < y - 2 * x := by omega
      have n2 : ¬ 1 < 2 * x - y := by omega
      have e1 : wrap64 (2 * x) = 2 * x := IntWalk.wrap64_in _ ⟨by omega, by omega⟩
      have e2 : wrap64 (y - 2 * x) = y - 2 * x := IntWalk.wrap64_in _ ⟨by omega, by omega⟩
      have e3 : wrap64 (2 * x - y) = 2 * x - y := IntWalk.wrap64_in _ ⟨by omega, by omega⟩
      have e4 : wrap64 (4 * d) = 4 * d := IntWalk.wrap64_in _ ⟨by omega, by omega⟩
      have MB := Lib.hid p4.1
      clear p4 hx hy tw bx by' d0 d1 cb gf cf
      by_cases gM : M < 140737488355328
      · obtain ⟨rfl, rfl⟩ := vz (wd_mk ⟨by have := MB.out; omega, gM⟩)
        clear vz
        go_wp2_with (first | (go_at_call 38; (with_reducible refine (FF.out _).mono ?_); rintro e w' ⟨rfl, rfl⟩) | (go_at_call 54; (with_reducible refine (num3_any _ _).mono ?_); rintro e w' ⟨rfl, rfl⟩) | (go_at_call 58; (try simp only [m1, m2, p1, p2, e4]); (with_reducible refine (S1.out _).mono ?_); rintro e w1 ⟨rfl, hb1⟩; have q1 := hb1.size; (try simp at q1); have x11 := (hb1.cell (p := ⟨b, off + k * 2, none⟩) (Nat.lt_of_lt_of_le hb (by omega))).trans t1; have x12 := (hb1.cell (p := ⟨b, off + k * 2 + 1, none⟩) (Nat.lt_of_lt_of_le hb (by omega))).trans t2) | (go_at_call 58; (try simp only [m1, m2, p1, p2, e4]); (with_reducible refine (S2.out _).mono ?_); rintro e w2 ⟨rfl, hb2⟩; have q2 := hb2.size; (try simp at q2); have x21 := (hb2.cell (p := ⟨b, off + k * 2, none⟩) (Nat.lt_of_lt_of_le hb (by omega))).trans x11; have x22 := (hb2.cell (p := ⟨b, off + k * 2 + 1, none⟩) (Nat.lt_of_lt_of_le hb (by omega))).trans x12) | (go_at_call 58; (try simp only [m1, m2, p1, p2, e4]); (with_reducible refine (S3.out _).mono ?_); rintro e w3 ⟨rfl, hb3⟩; have q3 := hb3.size; (try simp at q3); have x31 := (hb3.cell (p := ⟨b, off + k * 2, none⟩) (Nat.lt_of_lt_of_le hb (by omega))).trans x21; have x32 := (hb3.cell (p := ⟨b, off + k * 2 + 1, none⟩) (Nat.lt_of_lt_of_le hb (by omega))).trans x22))
        refine ⟨⟨k + 1, by omega, by go_num, ?_⟩, by simp [intOf]; omega⟩
        repeat (first | exact Below.refl _ _ | assumption | apply Below.drew | refine Below.setCell ?_ (by first | omega | (simp; done) | (simp; omega)) _ | refine Below.alloc ?_ (by first | omega | (simp; done) | (simp; omega)) _ | refine Below.trans ?_ (hb3.mono (by first | omega | (simp; done) | (simp; omega))) | refine Below.trans ?_ (hb2.mono (by first | omega | (simp; done) | (simp; omega))) | refine Below.trans ?_ (hb1.mono (by first | omega | (simp; done) | (simp; omega))) | refine Below.trans ?_ (hB.mono (by first | omega | (simp; done) | (simp; omega))))
      · clear vz
        go_wp2_with (first | (go_at_call 38; (with_reducible refine (FF.out _).mono ?_); rintro e w' ⟨rfl, rfl⟩) | (go_at_call 54; (with_reducible refine (num3_any _ _).mono ?_); rintro e w' ⟨rfl, rfl⟩) | (go_at_call 58; (try simp only [m1, m2, p1, p2, e4]); (with_reducible refine (S1.out _).mono ?_); rintro e w1 ⟨rfl, hb1⟩; have q1 := hb1.size; (try simp at q1); have x11 := (hb1.cell (p := ⟨b, off + k * 2, none⟩) (Nat.lt_of_lt_of_le hb (by omega))).trans t1; have x12 := (hb1.cell (p := ⟨b, off + k * 2 + 1, none⟩) (Nat.lt_of_lt_of_le hb (by omega))).trans t2) | (go_at_call 58; (try simp only [m1, m2, p1, p2, e4]); (with_reducible refine (S2.out _).mono ?_); rintro e w2 ⟨rfl, hb2⟩; have q2 := hb2.size; (try simp at q2); have x21 := (hb2.cell (p := ⟨b, off + k * 2, none⟩) (Nat.lt_of_lt_of_le hb (by omega))).trans x11; have x22 := (hb2.cell (p := ⟨b, off + k * 2 + 1, none⟩) (Nat.lt_of_lt_of_le hb (by omega))).trans x12) | (go_at_call 58; (try simp only [m1, m2, p1, p2, e4]); (with_reducible refine (S3.out _).mono ?_); rintro e w3 ⟨rfl, hb3⟩; have q3 := hb3.size; (try simp at q3); have x31 := (hb3.cell (p := ⟨b, off + k * 2, none⟩) (Nat.lt_of_lt_of_le hb (by omega))).trans x21; have x32 := (hb3.cell (p := ⟨b, off + k * 2 + 1, none⟩) (Nat.lt_of_lt_of_le hb (by omega))).trans x22))
        refine ⟨⟨k + 1, by omega, by go_num, ?_⟩, by simp [intOf]; omega⟩
        repeat (first | exact Below.refl _ _ | assumption | apply Below.drew | refine Below.setCell ?_ (by first | omega | (simp; done) | (simp; omega)) _ | refine Below.alloc ?_ (by first | omega | (simp; done) | (simp; omega)) _ | refine Below.trans ?_ (hb3.mono (by first | omega | (simp; done) | (simp; omega))) | refine Below.trans ?_ (hb2.mono (by first | omega | (simp; done) | (simp; omega))) | refine Below.trans ?_ (hb1.mono (by first | omega | (simp; done) | (simp; omega))) | refine Below.trans ?_ (hB.mono (by first | omega | (simp; done) | (simp; omega))))

    · by_cases g1 : k < len
      · have g2 : 25 ≤ k := by omega
        clear g
        go_wp2_with (go_at_call 55; (with_reducible refine (rwakes_any _).mono ?_); rintro e w9 ⟨rfl, hb9⟩)
        go_ret
        exact ⟨rfl, hB.trans (hb9.mono hBs)⟩
      · have g2 : len ≤ k := by omega
        clear g g1
        go_wp2_with (go_at_call 55; (with_reducible refine (rwakes_any _).mono ?_); rintro e w9 ⟨rfl, hb9⟩)
        go_ret
        exact ⟨rfl, hB.trans (hb9.mono hBs)⟩
end Go.Proofs.Ytkpkejccphpkpaa
