/-
  package conv: the sum over all channels of what meets at a place.
-/
import Derived.Test.YtnlfljekbknaaaaM05
import Derived.Test.YtnlfljekbknaaaaM07
namespace Go.Proofs.Ytnlfljekbknaaaa
open Go Go.RowKit Go.Shelf
attribute [local go_sem] Oper.semAt_some

/-- The i-th meeting's product in channel c. -/
def ch1 (av bv : List Int) (ms : List (Nat × Nat)) (Wd Tp c i : Nat) : Int := av.getD (c * Wd + (ms.getD i (0, 0)).1) 0 * bv.getD (c * Tp + (ms.getD i (0, 0)).2) 0
/-- c channels whole, and of the next one k meetings. -/
def csm (av bv : List Int) (ms : List (Nat × Nat)) (Wd Tp c k : Nat) : Int := smA (fun c => smA (ch1 av bv ms Wd Tp c) ms.length) c + smA (ch1 av bv ms Wd Tp c) k
theorem csm_step (av bv : List Int) (ms : List (Nat × Nat)) (Wd Tp c k : Nat) : csm av bv ms Wd Tp c (k + 1) = csm av bv ms Wd Tp c k + ch1 av bv ms Wd Tp c k := by simp [csm, smA, Int.add_assoc]
theorem csm_next (av bv : List Int) (ms : List (Nat × Nat)) (Wd Tp c : Nat) : csm av bv ms Wd Tp c ms.length = csm av bv ms Wd Tp (c + 1) 0 := by simp [csm, smA]
theorem csm_zero (av bv : List Int) (ms : List (Nat × Nat)) (Wd Tp : Nat) : csm av bv ms Wd Tp 0 0 = 0 := by simp [csm, smA]
theorem ch_at {n c W x : Nat} (hc : c < n) (hx : x < W) : c * W + x < n * W := by
  have : (c + 1) * W ≤ n * W := Nat.mul_le_mul_right W hc
  rw [Nat.add_mul, Nat.one_mul] at this; omega
theorem ch1_bd {av bv : List Int} {ms : List (Nat × Nat)} {Wd Tp c i n : Nat} (hc : c < n) (hi : i < ms.length) (la : av.length = n * Wd) (lb : bv.length = n * Tp) (hm : ∀ i, i < ms.length → (ms.getD i (0, 0)).1 < Wd ∧ (ms.getD i (0, 0)).2 < Tp) (wa : wds av = true) (wb : wds bv = true) :
    -19807040628566084398385987584 ≤ ch1 av bv ms Wd Tp c i ∧ ch1 av bv ms Wd Tp c i ≤ 19807040628566084398385987584 :=
  word_mul (wds_wd wa (by rw [la]; exact ch_at hc (hm i hi).1)) (wds_wd wb (by rw [lb]; exact ch_at hc (hm i hi).2))
theorem csm_R {av bv : List Int} {ms : List (Nat × Nat)} {Wd Tp c k n : Nat} (hc : c < n ∨ c = n ∧ k = 0) (hk : k ≤ ms.length) (la : av.length = n * Wd) (lb : bv.length = n * Tp) (hm : ∀ i, i < ms.length → (ms.getD i (0, 0)).1 < Wd ∧ (ms.getD i (0, 0)).2 < Tp) (wa : wds av = true) (wb : wds bv = true) (hn : n * ms.length ≤ 65536) : R (csm av bv ms Wd Tp c k) := by
  have h1 : ∀ d, d < c → -(19807040628566084398385987584 * (ms.length : Int)) ≤ smA (ch1 av bv ms Wd Tp d) ms.length ∧ smA (ch1 av bv ms Wd Tp d) ms.length ≤ 19807040628566084398385987584 * (ms.length : Int) := fun d hd => smA_bd (by decide) (fun i hi => ch1_bd (n := n) (by omega) hi la lb hm wa wb)
  have h2 := smA_bd (n := c) (Int.mul_nonneg (by decide) (Int.natCast_nonneg ms.length)) h1
  have h3 : -(19807040628566084398385987584 * (k : Int)) ≤ smA (ch1 av bv ms Wd Tp c) k ∧ smA (ch1 av bv ms Wd Tp c) k ≤ 19807040628566084398385987584 * (k : Int) := by
    rcases hc with hc | ⟨_, rfl⟩
    · exact smA_bd (by decide) (fun i hi => ch1_bd (n := n) hc (by omega) la lb hm wa wb)
    · simp [smA]
  have h4 : c * ms.length + k ≤ n * ms.length := by
    rcases hc with hc | ⟨rfl, rfl⟩
    · have : (c + 1) * ms.length ≤ n * ms.length := Nat.mul_le_mul_right _ hc
      rw [Nat.add_mul, Nat.one_mul] at this; omega
    · omega
  have h5 : 19807040628566084398385987584 * (ms.length : Int) * (c : Int) = 19807040628566084398385987584 * ((c * ms.length : Nat) : Int) := by push_cast; rw [Int.mul_assoc, Int.mul_comm (ms.length : Int)]
  rw [h5] at h2
  rw [R_iff]
  unfold csm
  generalize c * ms.length = q at *
  omega
/-- A slice from n on, where it may end there. -/
theorem run_rest {P : Program} {t e : TypeId} {i : TypeInfo} (hu : P.underlying t = some (.slice e)) (hi : P.info? e = some i) (hs : i.size = 1) (g f L c n : Nat) (h : n ≤ L) (hc : n ≤ c) :
    ∃ o q, (n < c → o = some ⟨g, f + n, none⟩ ∧ q = c - n) ∧ ∀ wx : World, (Instr.slice t (.slice (some ⟨g, f, none⟩) L c) (some (.int .i64 (n : Int))) none none).run P wx = .ok (.slice o (L - n) q) wx := by
  by_cases e : n < c
  · exact ⟨_, _, fun _ => ⟨rfl, rfl⟩, fun wx => run_on hu hi hs g f L c n h e wx⟩
  · obtain rfl : n = c := by omega
    refine ⟨some ⟨g, f, none⟩, 0, fun e2 => absurd e2 e, fun wx => ?_⟩
    have a1 : (0 : Int) ≤ (n : Int) ∧ (n : Int) ≤ (L : Int) := by omega
    simp [Instr.slice, run_underlying hu, Instr.sliceBounds, Instr.sliceBound, asIntOf, sizeOf, typeInfo, hi, hs, a1.1, Addr.add]
    intro q; omega
set_option maxRecDepth 100000 in
set_option maxHeartbeats 8000000 in
theorem csum_any (v : Value) (C : Int) (r k : Int × Int × Int × Int × Int × Int) (om oa ob : Option Addr) (cm ca cb la lb n Wd Tp : Nat) (ms : List (Nat × Nat)) (av bv : List Int) (w : World)
    (hm : ∀ i, i < ms.length → ∃ b, om = some ⟨b, 0, none⟩ ∧ b < w.heap.size ∧ w.cell? ⟨b, i * 2, none⟩ = some (.int .i64 ((ms.getD i (0, 0)).1 : Nat)) ∧ w.cell? ⟨b, i * 2 + 1, none⟩ = some (.int .i64 ((ms.getD i (0, 0)).2 : Nat)))
    (hmt : ∀ i, i < ms.length → (ms.getD i (0, 0)).1 < Wd ∧ (ms.getD i (0, 0)).2 < Tp) (ha : Ld w (.slice oa la ca) av) (hb : Ld w (.slice ob lb cb) bv) (hla : av.length = n * Wd) (hlb : bv.length = n * Tp) (hn : 1 ≤ n) (hW : 1 ≤ Wd ∧ n * Wd ≤ 65536) (hT : 1 ≤ Tp ∧ n * Tp ≤ 65536) (hml : ms.length ≤ Tp) (wa : wds av = true) (wb : wds bv = true) :
    Calls Try.prog 59 #[Wnv v C (Tp : Nat) (Wd : Nat) r k, .slice om ms.length cm, .slice oa la ca, .slice ob lb cb] w fun e w' => e = .returned (Wv (csm av bv ms Wd Tp n 0)) ∧ Below w.heap.size w w' := by
  obtain ⟨i1, hi1, hy0, hy1, hy2⟩ := info_parts infoW
  obtain ⟨oa2, ca2, e2, hca, hxa⟩ := ha
  obtain ⟨ob2, cb2, e3, hcb, hxb⟩ := hb
  simp only [Value.slice.injEq] at e2 e3
  obtain ⟨rfl, rfl, rfl⟩ := e2
  obtain ⟨rfl, rfl, rfl⟩ := e3
  have hW1 : 1 ≤ n * Wd := Nat.mul_le_mul hn hW.1
  have hT1 : 1 ≤ n * Tp := Nat.mul_le_mul hn hT.1
  obtain ⟨ba, fa, rfl, hba, _⟩ := hxa 0 (by omega)
  obtain ⟨bb, fb, rfl, hbb, _⟩ := hxb 0 (by omega)
  have HXA : Hid (∀ i, i < av.length → w.cell? ⟨ba, fa + i, none⟩ = some (.int .i64 (av.getD i 0))) := Lib.hid (fun i hi => by
    obtain ⟨b, f, e, h1, h2⟩ := hxa i hi
    simp only [Option.some.injEq, Addr.mk.injEq, and_true] at e
    obtain ⟨rfl, rfl⟩ := e
    exact h2)
  have HXB : Hid (∀ i, i < bv.length → w.cell? ⟨bb, fb + i, none⟩ = some (.int .i64 (bv.getD i 0))) := Lib.hid (fun i hi => by
    obtain ⟨b, f, e, h1, h2⟩ := hxb i hi
    simp only [Option.some.injEq, Addr.mk.injEq, and_true] at e
    obtain ⟨rfl, rfl⟩ := e
    exact h2)
  have HRR : Hid (∀ c k, (c < n ∨ c = n ∧ k = 0) → k ≤ ms.length → R (csm av bv ms Wd Tp c k)) := Lib.hid (fun c k h1 h2 => csm_R h1 h2 hla hlb hmt wa wb (Nat.le_trans (Nat.mul_le_mul_left n hml) hT.2))
  have HL := Lib.hid (And.intro hla (And.intro hlb (And.intro hca (And.intro hcb (And.intro hba (And.intro hbb (And.intro wa wb)))))))
  have HM := Lib.hid hm
  have HMT := Lib.hid hmt
  have HB := Lib.hid (And.intro hn (And.intro hW (And.intro hT hml)))
  have hmb : ms.length ≤ 65536 := by have := Nat.mul_le_mul hn (Nat.le_refl Tp); omega
  rw [hla, hlb]
  obtain ⟨w3, hw3⟩ : ∃ W, W = ((w.alloc (.cells #[v, .int .i64 C, .int .i64 (Tp : Nat), .int .i64 (Wd : Nat), .int .i64 r.1, .int .i64 r.2.1, .int .i64 r.2.2.1, .int .i64 r.2.2.2.1, .int .i64 r.2.2.2.2.1, .int .i64 r.2.2.2.2.2, .int .i64 k.1, .int .i64 k.2.1, .int .i64 k.2.2.1, .int .i64 k.2.2.2.1, .int .i64 k.2.2.2.2.1, .int .i64 k.2.2.2.2.2] 86)).alloc (.cells #[.int .i64 0, .int .u64 0] 99)).alloc (.cells #[.int .i64 0, .int .u64 0] 99) := ⟨_, rfl⟩
  have B3 : Hid (Below w.heap.size w w3) := Lib.hid (by rw [hw3]; exact (((Below.refl _ _).alloc (Nat.le_refl _) _).alloc (by simp) _).alloc (by simp; omega) _)
  have S3 : Hid (w3.heap.size = w.heap.size + 3) := Lib.hid (by rw [hw3]; simp)
  have Q0 : Hid (Blk w3 w.heap.size 86 #[v, .int .i64 C, .int .i64 (Tp : Nat), .int .i64 (Wd : Nat), .int .i64 r.1, .int .i64 r.2.1, .int .i64 r.2.2.1, .int .i64 r.2.2.2.1, .int .i64 r.2.2.2.2.1, .int .i64 r.2.2.2.2.2, .int .i64 k.1, .int .i64 k.2.1, .int .i64 k.2.2.1, .int .i64 k.2.2.2.1, .int .i64 k.2.2.2.2.1, .int .i64 k.2.2.2.2.2]) := Lib.hid (by rw [hw3]; exact ((Blk.new w _ _).alloc _).alloc _)
  have Q1 : Hid (Blk w3 (w.heap.size + 1) 99 #[.int .i64 0, .int .u64 0]) := Lib.hid (by rw [hw3]; exact (blk_new1 w _ _ _).alloc _)
  have Q2 : Hid (Blk w3 (w.heap.size + 2) 99 #[.int .i64 (hi (csm av bv ms Wd Tp 0 0)), .int .u64 (lo (csm av bv ms Wd Tp 0 0))]) := Lib.hid (by
    rw [hw3, csm_zero]
    have q := Blk.new ((w.alloc (.cells #[v, .int .i64 C, .int .i64 (Tp : Nat), .int .i64 (Wd : Nat), .int .i64 r.1, .int .i64 r.2.1, .int .i64 r.2.2.1, .int .i64 r.2.2.2.1, .int .i64 r.2.2.2.2.1, .int .i64 r.2.2.2.2.2, .int .i64 k.1, .int .i64 k.2.1, .int .i64 k.2.2.1, .int .i64 k.2.2.2.1, .int .i64 k.2.2.2.2.1, .int .i64 k.2.2.2.2.2] 86)).alloc (.cells #[.int .i64 0, .int .u64 0] 99)) 99 #[.int .i64 0, .int .u64 0]
    rw [World.size_alloc, World.size_alloc] at q
    exact q)
  have HW3 := Lib.hid hw3
  unfold Wnv
  clear hw3 hxa hxb hla hlb hca hcb hba hbb wa wb hm hmt hn hW hT hml hW1 hT1
  go_enter Try.func59, Try.ntmps59
  go_wp2
  rw [← HW3.out]
  go_loopw [2, 3] (fun s2 s3 wr => ∃ (c : Nat) (o2 o3 : Option Addr) (q2 q3 L1 L2 : Nat), c ≤ n ∧ s2 = .slice o2 L1 q2 ∧ s3 = .slice o3 L2 q3 ∧ Hid (L1 = (n - c) * Wd ∧ L2 = (n - c) * Tp ∧ (c < n → o2 = some ⟨ba, fa + c * Wd, none⟩ ∧ q2 + c * Wd = ca ∧ o3 = some ⟨bb, fb + c * Tp, none⟩ ∧ q3 + c * Tp = cb)) ∧ Hid (Blk wr (w.heap.size + 2) 99 #[.int .i64 (hi (csm av bv ms Wd Tp c 0)), .int .u64 (lo (csm av bv ms Wd Tp c 0))]) ∧ Hid (Below (w.heap.size + 2) w3 wr)) (fun s2 _ _ => match s2 with | .slice _ l _ => l | _ => 0)
  case atStart => exact ⟨0, _, _, _, _, _, _, Nat.zero_le _, rfl, rfl, Lib.hid ⟨by simp, by simp, fun _ => ⟨by simp, by simp, by simp, by simp⟩⟩, Q2, Lib.hid (Below.refl _ _)⟩
  case round =>
    obtain ⟨c, o2, o3, q2, q3, L1, L2, hc, rfl, rfl, HS, HA, HW⟩ := hrel
    obtain ⟨w1, hw1⟩ : ∃ w1, w1 = wr := ⟨_, rfl⟩
    subst hw1
    have QW := Lib.hid (Q0.out.below HW.out (by omega))
    by_cases hlt : c < n
    · have hcW : (n - c) * Wd = n * Wd - c * Wd := Nat.sub_mul _ _ _
      have hcT : (n - c) * Tp = n * Tp - c * Tp := Nat.sub_mul _ _ _
      have hW2 : c * Wd + Wd ≤ n * Wd := by
        have : (c + 1) * Wd ≤ n * Wd := Nat.mul_le_mul_right Wd hlt
        rwa [Nat.add_mul, Nat.one_mul] at this
      have hT2 : c * Tp + Tp ≤ n * Tp := by
        have : (c + 1) * Tp ≤ n * Tp := Nat.mul_le_mul_right Tp hlt
        rwa [Nat.add_mul, Nat.one_mul] at this
      obtain ⟨rfl, hq2, rfl, hq3⟩ := HS.out.2.2 hlt
      have hL1 : L1 = n * Wd - c * Wd := by rw [HS.out.1, hcW]
      have hL2 : L2 = n * Tp - c * Tp := by rw [HS.out.2.1, hcT]
      have hbW := HB.out.2.1
      have hbT := HB.out.2.2.1
      have hLa := HL.out.1
      have hLb := HL.out.2.1
      have hLc := HL.out.2.2.1
      have hLd := HL.out.2.2.2.1
      obtain ⟨o4, q4, hr1, hs1⟩ := run_rest (P := Try.prog) (t := 24) Try.underlying24 hi1 hy1 ba (fa + c * Wd) L1 q2 Wd (by omega) (by omega)
      obtain ⟨o5, q5, hr2, hs2⟩ := run_rest (P := Try.prog) (t := 24) Try.underlying24 hi1 hy1 bb (fb + c * Tp) L2 q3 Tp (by omega) (by omega)
      have HNX : Hid (L1 - Wd = (n - (c + 1)) * Wd ∧ L2 - Tp = (n - (c + 1)) * Tp ∧ (c + 1 < n → o4 = some ⟨ba, fa + (c + 1) * Wd, none⟩ ∧ q4 + (c + 1) * Wd = ca ∧ o5 = some ⟨bb, fb + (c + 1) * Tp, none⟩ ∧ q5 + (c + 1) * Tp = cb)) := Lib.hid (by
        have a1 : (n - (c + 1)) * Wd = n * Wd - (c + 1) * Wd := Nat.sub_mul _ _ _
        have a2 : (n - (c + 1)) * Tp = n * Tp - (c + 1) * Tp := Nat.sub_mul _ _ _
        have a3 : (c + 1) * Wd = c * Wd + Wd := by rw [Nat.add_mul, Nat.one_mul]
        have a4 : (c + 1) * Tp = c * Tp + Tp := by rw [Nat.add_mul, Nat.one_mul]
        refine ⟨by omega, by omega, fun h => ?_⟩
        have b1 : (c + 1) * Wd + Wd ≤ n * Wd := by
          have : (c + 1 + 1) * Wd ≤ n * Wd := Nat.mul_le_mul_right Wd h
          rwa [Nat.add_mul (c + 1) 1, Nat.one_mul] at this
        have b2 : (c + 1) * Tp + Tp ≤ n * Tp := by
          have : (c + 1 + 1) * Tp ≤ n * Tp := Nat.mul_le_mul_right Tp h
          rwa [Nat.add_mul (c + 1) 1, Nat.one_mul] at this
        obtain ⟨rfl, rfl⟩ := hr1 (by omega)
        obtain ⟨rfl, rfl⟩ := hr2 (by omega)
        exact ⟨by rw [Nat.add_assoc, ← a3], by omega, by rw [Nat.add_assoc, ← a4], by omega⟩)
      have HC1 : Hid (c * Wd + Wd ≤ n * Wd ∧ c * Tp + Tp ≤ n * Tp ∧ L1 = n * Wd - c * Wd ∧ L2 = n * Tp - c * Tp) := Lib.hid ⟨hW2, hT2, hL1, hL2⟩
      have hl1 : 0 < L1 := by omega
      have hl2 : L1 ≤ 65536 := by omega
      have hl3 : L2 ≤ 65536 := by omega
      have hl4 : Wd ≤ L1 := by omega
      have hl5 : Tp ≤ L2 := by omega
      have HLL := Lib.hid (And.intro hl1 (And.intro hl4 hl5))
      obtain ⟨cW, hcW2⟩ : ∃ x, x = fa + c * Wd := ⟨_, rfl⟩
      obtain ⟨cT, hcT2⟩ : ∃ x, x = fb + c * Tp := ⟨_, rfl⟩
      rw [← hcW2] at hs1 ⊢
      rw [← hcT2] at hs2 ⊢
      have HCC := Lib.hid (And.intro hcW2 hcT2)
      have HS1 := Lib.hid hs1
      have HS2 := Lib.hid hs2
      clear hcW hcT hW2 hT2 hq2 hq3 hL1 hL2 hbW hbT hLa hLb hLc hLd hr1 hr2 hs1 hs2 hcW2 hcT2
      go_wp2
      go_loopw [17] (fun s17 wQ => ∃ i : Nat, i ≤ ms.length ∧ s17 = .int .i64 i ∧ Hid (Blk wQ (w.heap.size + 2) 99 #[.int .i64 (hi (csm av bv ms Wd Tp c i)), .int .u64 (lo (csm av bv ms Wd Tp c i))]) ∧ Hid (Below (w.heap.size + 2) w3 wQ)) (fun s17 _ => ms.length - (intOf s17).toNat)
      case atStart => exact ⟨0, Nat.zero_le _, rfl, HA, HW⟩
      case round =>
        obtain ⟨i, hik, rfl, HJ, HJB⟩ := hrel
        by_cases hil : i < ms.length
        · obtain ⟨bm, rfl, hbm, m0, m1⟩ := HM.out i hil
          have BJ := Lib.hid (B3.out.trans (HJB.out.mono (by omega)))
          have x0 : wr.cell? ⟨bm, i * 2, none⟩ = some (.int .i64 ((ms.getD i (0, 0)).1 : Nat)) := (BJ.out.cell (p := ⟨bm, i * 2, none⟩) hbm).trans m0
          have x1 : wr.cell? ⟨bm, i * 2 + 1, none⟩ = some (.int .i64 ((ms.getD i (0, 0)).2 : Nat)) := (BJ.out.cell (p := ⟨bm, i * 2 + 1, none⟩) hbm).trans m1
          obtain ⟨hm1, hm2⟩ := HMT.out i hil
          have hst := csm_step av bv ms Wd Tp c i
          have hR1 := HRR.out c i (.inl hlt) hik
          have hR2 := HRR.out c (i + 1) (.inl hlt) hil
          have a0 : w.cell? ⟨ba, fa + (c * Wd + (ms.getD i (0, 0)).1), none⟩ = some (.int .i64 (av.getD (c * Wd + (ms.getD i (0, 0)).1) 0)) := HXA.out _ (by rw [HL.out.1]; exact ch_at hlt hm1)
          have a1 : w.cell? ⟨bb, fb + (c * Tp + (ms.getD i (0, 0)).2), none⟩ = some (.int .i64 (bv.getD (c * Tp + (ms.getD i (0, 0)).2) 0)) := HXB.out _ (by rw [HL.out.2.1]; exact ch_at hlt hm2)
          have hwx := wds_wd HL.out.2.2.2.2.2.2.1 (show c * Wd + (ms.getD i (0, 0)).1 < av.length by rw [HL.out.1]; exact ch_at hlt hm1)
          have hwy := wds_wd HL.out.2.2.2.2.2.2.2 (show c * Tp + (ms.getD i (0, 0)).2 < bv.length by rw [HL.out.2.1]; exact ch_at hlt hm2)
          unfold ch1 at hst
          rw [← Nat.add_assoc, ← HCC.out.1] at a0
          rw [← Nat.add_assoc, ← HCC.out.2] at a1
          have hxl : (ms.getD i (0, 0)).1 < L1 := by have := HLL.out; omega
          have hyl : (ms.getD i (0, 0)).2 < L2 := by have := HLL.out; omega
          clear m0 m1 hm1 hm2
          generalize hx : av.getD (c * Wd + (ms.getD i (0, 0)).1) 0 = x at *
          generalize hy : bv.getD (c * Tp + (ms.getD i (0, 0)).2) 0 = y at *
          generalize (ms.getD i (0, 0)).1 = mx at *
          generalize (ms.getD i (0, 0)).2 = my at *
          obtain ⟨ps, hps⟩ : ∃ ps, ps = csm av bv ms Wd Tp c i := ⟨_, rfl⟩
          obtain ⟨pn, hpn⟩ : ∃ ps, ps = csm av bv ms Wd Tp c (i + 1) := ⟨_, rfl⟩
          rw [← hps] at HJ hR1 hst
          rw [← hpn] at hR2 hst
          rw [hst] at hR2
          have KM := Lib.hid (fun (W : World) => mulb_any x y W hwx hwy)
          have KA : Hid (∀ W : World, Calls Try.prog 102 #[Wv ps, Wv (x * y)] W fun e w' => e = .returned (.tuple #[Wv pn, .int .i64 0]) ∧ Below W.heap.size W w') := Lib.hid (fun W => by
            have h := add_any ps (x * y) W hR1 (by have := word_mul hwx hwy; rw [R_iff]; omega)
            rwa [told_in hR2, over_in hR2, ← hst] at h)
          have HQ := Lib.hid hpn
          have hbb : ba < w.heap.size ∧ bb < w.heap.size := ⟨HL.out.2.2.2.2.1, HL.out.2.2.2.2.2.1⟩
          have A0 : Hid (wr.cell? ⟨ba, cW + mx, none⟩ = some (.int .i64 x)) := Lib.hid ((BJ.out.cell (p := ⟨ba, cW + mx, none⟩) hbb.1).trans a0)
          have A1 : Hid (wr.cell? ⟨bb, cT + my, none⟩ = some (.int .i64 y)) := Lib.hid ((BJ.out.cell (p := ⟨bb, cT + my, none⟩) hbb.2).trans a1)
          have HBB := Lib.hid (And.intro hbb (show w.heap.size + 3 ≤ wr.heap.size by have := HJB.out.size; have := S3.out; omega))
          clear hst hR1 hR2 hwx hwy hx hy hps hpn a0 a1 hbb hbm
          go_upto_region 6 with fail
          obtain ⟨N, hN⟩ : ∃ N, N = wr.heap.size := ⟨_, rfl⟩
          rw [← hN]
          obtain ⟨wb, hwb⟩ : ∃ W, W = wr.alloc (.cells #[.int .i64 (mx : Nat), .int .i64 (my : Nat)] 150) := ⟨_, rfl⟩
          rw [← hwb]
          have Bb : Hid (Below wr.heap.size wr wb) := Lib.hid (by rw [hwb]; exact (Below.refl _ _).alloc (Nat.le_refl _) _)
          have XB : Hid (Blk wb N 150 #[.int .i64 (mx : Nat), .int .i64 (my : Nat)]) := Lib.hid (by rw [hwb, hN]; exact Blk.new _ _ _)
          have HN := Lib.hid hN
          clear hN hwb x0 x1
          have KB : Hid (∀ X : World, Below wb.heap.size wb X → Below wr.heap.size wr X) := Lib.hid (fun X hX => Bb.out.trans (hX.mono Bb.out.size))
          have KS : Hid (∀ X : World, Below wb.heap.size wb X → X.cell? ⟨N, 0, none⟩ = some (.int .i64 (mx : Nat)) ∧ X.cell? ⟨N, 1, none⟩ = some (.int .i64 (my : Nat)) ∧ X.cell? ⟨ba, cW + mx, none⟩ = some (.int .i64 x) ∧ X.cell? ⟨bb, cT + my, none⟩ = some (.int .i64 y)) := Lib.hid (fun X hX => by
            have k := KB.out X hX
            have z := HBB.out
            have q := XB.out.below hX XB.out.lt
            exact ⟨q.cell 0, q.cell 1, (k.cell (p := ⟨ba, cW + mx, none⟩) (by show ba < wr.heap.size; omega)).trans A0.out, (k.cell (p := ⟨bb, cT + my, none⟩) (by show bb < wr.heap.size; omega)).trans A1.out⟩)
          have KT : Hid (∀ X : World, Below wb.heap.size wb X → ∀ u1 u2 : Value, ((X.setCell ⟨w.heap.size + 2, 0, none⟩ u1).setCell ⟨w.heap.size + 2, 1, none⟩ u2).cell? ⟨N, 0, none⟩ = some (.int .i64 (mx : Nat)) ∧ ((X.setCell ⟨w.heap.size + 2, 0, none⟩ u1).setCell ⟨w.heap.size + 2, 1, none⟩ u2).cell? ⟨N, 1, none⟩ = some (.int .i64 (my : Nat)) ∧ ((X.setCell ⟨w.heap.size + 2, 0, none⟩ u1).setCell ⟨w.heap.size + 2, 1, none⟩ u2).cell? ⟨ba, cW + mx, none⟩ = some (.int .i64 x) ∧ ((X.setCell ⟨w.heap.size + 2, 0, none⟩ u1).setCell ⟨w.heap.size + 2, 1, none⟩ u2).cell? ⟨bb, cT + my, none⟩ = some (.int .i64 y)) := Lib.hid (fun X hX u1 u2 => by
            obtain ⟨k1, k2, k3, k4⟩ := KS.out X hX
            have z := HBB.out
            have hn := HN.out
            have go : ∀ (p : Addr) (u : Value), p.block ≠ w.heap.size + 2 → X.cell? p = some u → ((X.setCell ⟨w.heap.size + 2, 0, none⟩ u1).setCell ⟨w.heap.size + 2, 1, none⟩ u2).cell? p = some u := fun p u hp hc => by
              rw [World.cell?_setCell_other _ _ _ _ (by intro e; subst e; exact hp rfl), World.cell?_setCell_other _ _ _ _ (by intro e; subst e; exact hp rfl)]; exact hc
            exact ⟨go _ _ (by show N ≠ _; omega) k1, go _ _ (by show N ≠ _; omega) k2, go _ _ (by show ba ≠ _; omega) k3, go _ _ (by show bb ≠ _; omega) k4⟩)
          have CL : Hid (∀ X : World, Below wb.heap.size wb X → Blk X (w.heap.size + 2) 99 #[.int .i64 (hi ps), .int .u64 (lo ps)]) := Lib.hid (fun X hX => HJ.out.below (KB.out X hX) HJ.out.lt)
          have FIN : Hid (∀ X, Below wb.heap.size wb X → Hid (Blk ((X.setCell ⟨w.heap.size + 2, 0, none⟩ (.int .i64 (hi pn))).setCell ⟨w.heap.size + 2, 1, none⟩ (.int .u64 (lo pn))) (w.heap.size + 2) 99 #[.int .i64 (hi (csm av bv ms Wd Tp c (i + 1))), .int .u64 (lo (csm av bv ms Wd Tp c (i + 1)))])) := Lib.hid (fun X hX => Lib.hid (by
            rw [← HQ.out]
            exact ((CL.out X hX).set_ 0 (.int .i64 (hi pn))).set_ 1 (.int .u64 (lo pn))))
          have FIB : Hid (∀ X, Below wb.heap.size wb X → Hid (Below (w.heap.size + 2) w3 ((X.setCell ⟨w.heap.size + 2, 0, none⟩ (.int .i64 (hi pn))).setCell ⟨w.heap.size + 2, 1, none⟩ (.int .u64 (lo pn))))) := Lib.hid (fun X hX => Lib.hid (((HJB.out.trans ((KB.out X hX).mono (by have := HBB.out; omega))).setCell (p := ⟨w.heap.size + 2, 0, none⟩) (Nat.le_refl _) _).setCell (p := ⟨w.heap.size + 2, 1, none⟩) (Nat.le_refl _) _))
          have B0 : Hid (Below wb.heap.size wb wb.drew) := Lib.hid (below_drw (Below.refl _ _) 1)
          refine wp_region_held_drew (S := fun X => X.cell? ⟨N, 0, none⟩ = some (.int .i64 (mx : Nat)) ∧ X.cell? ⟨N, 1, none⟩ = some (.int .i64 (my : Nat)) ∧ X.cell? ⟨ba, cW + mx, none⟩ = some (.int .i64 x) ∧ X.cell? ⟨bb, cT + my, none⟩ = some (.int .i64 y)) (by kernel_rfl) ?_ (fun hHeld => ?_)
          · exact KS.out _ B0.out
          have hHd := hHeld
          generalize wb.drew = w_0 at *
          (refine wpAnyH_take (i := 1) (oi := ⟨some 23, _, _, _, _, _⟩) (v := ?v1_s1) rfl (by kernel_rfl) (by kernel_rfl) (by kernel_rfl) (fun _ _ _ h => h) (Or.inl ⟨by rfl, ?hy1_s1⟩) (by assumption) ?rest1_s1; (case hy1_s1 => ((intro w hSw); (try dsimp only at hSw); go_simp; first | done | (with_reducible rfl))))
          (try simp only [Act.put, List.setIfInBounds_toArray, List.set_cons_zero, List.set_cons_succ])
          (refine wpAnyH_take (i := 2) (oi := ⟨some 24, _, _, _, _, _⟩) (v := ?v2_s2) rfl (by kernel_rfl) (by kernel_rfl) (by kernel_rfl) (fun _ _ _ h => h) (Or.inl ⟨by rfl, ?hy2_s2⟩) (by assumption) ?rest2_s2; (case hy2_s2 => ((intro w hSw); (try dsimp only at hSw); go_simp; first | done | (with_reducible rfl))))
          (try simp only [Act.put, List.setIfInBounds_toArray, List.set_cons_zero, List.set_cons_succ])
          (refine wpAnyH_take (i := 3) (oi := ⟨some 25, _, _, _, _, _⟩) (v := ?v3_s3) rfl (by kernel_rfl) (by kernel_rfl) (by kernel_rfl) (fun _ _ _ h => h) (Or.inl ⟨by rfl, ?hy3_s3⟩) (by assumption) ?rest3_s3; (case hy3_s3 => ((intro w hSw); (try dsimp only at hSw); go_simp; first | done | (with_reducible rfl))))
          (try simp only [Act.put, List.setIfInBounds_toArray, List.set_cons_zero, List.set_cons_succ])
          (refine wpAnyH_take (i := 4) (oi := ⟨some 26, _, _, _, _, _⟩) (v := ?v4_s4) rfl (by kernel_rfl) (by kernel_rfl) (by kernel_rfl) (fun _ _ _ h => h) (Or.inl ⟨by rfl, ?hy4_s4⟩) (by assumption) ?rest4_s4; (case hy4_s4 => ((intro w hSw); (try dsimp only at hSw); go_simp; first | done | (with_reducible rfl))))
          (try simp only [Act.put, List.setIfInBounds_toArray, List.set_cons_zero, List.set_cons_succ])
          (refine wpAnyH_take (i := 5) (oi := ⟨some 27, _, _, _, _, _⟩) (v := ?v5_s5) rfl (by kernel_rfl) (by kernel_rfl) (by kernel_rfl) (fun _ _ _ h => h) (Or.inl ⟨by rfl, ?hy5_s5⟩) (by assumption) ?rest5_s5; (case hy5_s5 => ((intro w hSw); (try dsimp only at hSw); go_simp; first | done | (with_reducible rfl))))
          (try simp only [Act.put, List.setIfInBounds_toArray, List.set_cons_zero, List.set_cons_succ])
          (refine wpAnyH_take (i := 6) (oi := ⟨some 28, _, _, _, _, _⟩) (v := ?v6_s6) rfl (by kernel_rfl) (by kernel_rfl) (by kernel_rfl) (fun _ _ _ h => h) (Or.inl ⟨by rfl, ?hy6_s6⟩) (by assumption) ?rest6_s6; (case hy6_s6 => ((intro w hSw); (try dsimp only at hSw); go_simp; first | done | (with_reducible rfl))))
          (try simp only [Act.put, List.setIfInBounds_toArray, List.set_cons_zero, List.set_cons_succ])
          (refine wpAnyH_take (i := 7) (oi := ⟨some 29, _, _, _, _, _⟩) (v := ?v7_s7) rfl (by kernel_rfl) (by kernel_rfl) (by kernel_rfl) (fun _ _ _ h => h) (Or.inl ⟨by rfl, ?hy7_s7⟩) (by assumption) ?rest7_s7; (case hy7_s7 => ((intro w hSw); (try dsimp only at hSw); go_simp; first | done | (with_reducible rfl))))
          (try simp only [Act.put, List.setIfInBounds_toArray, List.set_cons_zero, List.set_cons_succ])
          (refine wpAnyH_take (i := 8) (oi := ⟨some 30, _, _, _, _, _⟩) (v := ?v8_s8) rfl (by kernel_rfl) (by kernel_rfl) (by kernel_rfl) (fun _ _ _ h => h) (Or.inl ⟨by rfl, ?hy8_s8⟩) (by assumption) ?rest8_s8; (case hy8_s8 => ((intro w hSw); (try dsimp only at hSw); go_simp; first | done | (with_reducible rfl))))
          (try simp only [Act.put, List.setIfInBounds_toArray, List.set_cons_zero, List.set_cons_succ])
          (refine wpAnyH_take (i := 9) (oi := ⟨some 31, _, _, _, _, _⟩) (v := ?v9_s9) rfl (by kernel_rfl) (by kernel_rfl) (by kernel_rfl) (fun _ _ _ h => h) (Or.inl ⟨by rfl, ?hy9_s9⟩) (by assumption) ?rest9_s9; (case hy9_s9 => ((intro w hSw); (try dsimp only at hSw); go_simp; first | done | (with_reducible rfl))))
          (try simp only [Act.put, List.setIfInBounds_toArray, List.set_cons_zero, List.set_cons_succ])
          (refine wpAnyH_take (i := 10) (oi := ⟨some 32, _, _, _, _, _⟩) (v := ?v10_s10) rfl (by kernel_rfl) (by kernel_rfl) (by kernel_rfl) (fun _ _ _ h => h) (Or.inl ⟨by rfl, ?hy10_s10⟩) (by assumption) ?rest10_s10; (case hy10_s10 => ((intro w hSw); (try dsimp only at hSw); go_simp; first | done | (with_reducible rfl))))
          (try simp only [Act.put, List.setIfInBounds_toArray, List.set_cons_zero, List.set_cons_succ])
          refine wpAnyH_ready (rs := [0, 11]) (by kernel_rfl) (by simp) ?_
          refine AllReadyH.cons (o := ⟨some 22, _, _, _, _, _⟩) rfl (fun K hK => ?_) (AllReadyH.cons (o := ⟨some 33, _, _, _, _, _⟩) rfl (fun K hK => ?_) (AllReadyH.nil))
          · obtain ⟨l0, l1, _⟩ := blk2 (CL.out _ B0.out)
            go_simp
            refine hK.out _ _ ?_ (fun hHeld => ?_)
            · (try dsimp only)
              exact KS.out _ B0.out
            clear hK K
            (try simp only [Act.put, List.setIfInBounds_toArray, List.set_cons_zero, List.set_cons_succ])
            refine wpAnyH_ready (rs := [11]) (by kernel_rfl) (by simp) ?_
            refine AllReadyH.cons (o := ⟨some 33, _, _, _, _, _⟩) rfl (fun K hK => ?_) (AllReadyH.nil)
            go_simp
            (go_at_call 103; (with_reducible refine (KM.out _).mono ?_); rintro e w11 ⟨rfl, hb⟩; have b11 := Lib.hid (B0.out.trans (hb.mono B0.out.size)); clear hb)
            refine hK.out _ _ ?_ (fun hHeld => ?_)
            · (try dsimp only)
              exact KS.out _ b11.out
            clear hK K
            (try simp only [Act.put, List.setIfInBounds_toArray, List.set_cons_zero, List.set_cons_succ])
            refine wpAnyH_ready (rs := [12]) (by kernel_rfl) (by simp) ?_
            refine AllReadyH.cons (o := ⟨some 34, _, _, _, _, _⟩) rfl (fun K hK => ?_) (AllReadyH.nil)
            go_simp
            (go_at_call 102; (with_reducible refine (KA.out _).mono ?_); rintro e w12 ⟨rfl, hb⟩; have b12 := Lib.hid (b11.out.trans (hb.mono b11.out.size)); clear hb)
            refine hK.out _ _ ?_ (fun hHeld => ?_)
            · (try dsimp only)
              exact KS.out _ b12.out
            clear hK K
            (try simp only [Act.put, List.setIfInBounds_toArray, List.set_cons_zero, List.set_cons_succ])
            (refine wpAnyH_take (i := 13) (oi := ⟨some 21, _, _, _, _, _⟩) (v := ?v13_s11) rfl (by kernel_rfl) (by kernel_rfl) (by kernel_rfl) (fun _ _ _ h => h) (Or.inl ⟨by rfl, ?hy13_s11⟩) (by assumption) ?rest13_s11; (case hy13_s11 => ((intro w hSw); (try dsimp only at hSw); go_simp; first | done | (with_reducible rfl))))
            (try simp only [Act.put, List.setIfInBounds_toArray, List.set_cons_zero, List.set_cons_succ])
            (refine wpAnyH_take (i := 14) (oi := ⟨some 35, _, _, _, _, _⟩) (v := ?v14_s12) rfl (by kernel_rfl) (by kernel_rfl) (by kernel_rfl) (fun _ _ _ h => h) (Or.inl ⟨by rfl, ?hy14_s12⟩) (by assumption) ?rest14_s12; (case hy14_s12 => ((intro w hSw); (try dsimp only at hSw); go_simp; first | done | (with_reducible rfl))))
            (try simp only [Act.put, List.setIfInBounds_toArray, List.set_cons_zero, List.set_cons_succ])
            (refine wpAnyH_take (i := 15) (oi := ⟨some 36, _, _, _, _, _⟩) (v := ?v15_s13) rfl (by kernel_rfl) (by kernel_rfl) (by kernel_rfl) (fun _ _ _ h => h) (Or.inl ⟨by rfl, ?hy15_s13⟩) (by assumption) ?rest15_s13; (case hy15_s13 => ((intro w hSw); (try dsimp only at hSw); go_simp; first | done | (with_reducible rfl))))
            (try simp only [Act.put, List.setIfInBounds_toArray, List.set_cons_zero, List.set_cons_succ])
            refine wpAnyH_ready (rs := [16]) (by kernel_rfl) (by simp) ?_
            refine AllReadyH.cons (o := ⟨none, _, _, _, _, _⟩) rfl (fun K hK => ?_) (AllReadyH.nil)
            obtain ⟨l0, l1, f0, f1⟩ := blk2 (CL.out _ b12.out)
            go_simp
            refine hK.out _ _ ?_ (fun hHeld => ?_)
            · (try dsimp only)
              exact KT.out _ b12.out _ _
            clear hK K
            (try simp only [Act.put, List.setIfInBounds_toArray, List.set_cons_zero, List.set_cons_succ])
            refine wpAnyH_done (by kernel_rfl) ?_ _
            go_wp2
            exact ⟨⟨i + 1, by omega, by go_num, FIN.out _ b12.out, FIB.out _ b12.out⟩, by simp [intOf]; omega⟩
          · go_simp
            (go_at_call 103; (with_reducible refine (KM.out _).mono ?_); rintro e w11 ⟨rfl, hb⟩; have b11 := Lib.hid (B0.out.trans (hb.mono B0.out.size)); clear hb)
            refine hK.out _ _ ?_ (fun hHeld => ?_)
            · (try dsimp only)
              exact KS.out _ b11.out
            clear hK K
            (try simp only [Act.put, List.setIfInBounds_toArray, List.set_cons_zero, List.set_cons_succ])
            refine wpAnyH_ready (rs := [0]) (by kernel_rfl) (by simp) ?_
            refine AllReadyH.cons (o := ⟨some 22, _, _, _, _, _⟩) rfl (fun K hK => ?_) (AllReadyH.nil)
            obtain ⟨l0, l1, _⟩ := blk2 (CL.out _ b11.out)
            go_simp
            refine hK.out _ _ ?_ (fun hHeld => ?_)
            · (try dsimp only)
              exact KS.out _ b11.out
            clear hK K
            (try simp only [Act.put, List.setIfInBounds_toArray, List.set_cons_zero, List.set_cons_succ])
            refine wpAnyH_ready (rs := [12]) (by kernel_rfl) (by simp) ?_
            refine AllReadyH.cons (o := ⟨some 34, _, _, _, _, _⟩) rfl (fun K hK => ?_) (AllReadyH.nil)
            go_simp
            (go_at_call 102; (with_reducible refine (KA.out _).mono ?_); rintro e w12 ⟨rfl, hb⟩; have b12 := Lib.hid (b11.out.trans (hb.mono b11.out.size)); clear hb)
            refine hK.out _ _ ?_ (fun hHeld => ?_)
            · (try dsimp only)
              exact KS.out _ b12.out
            clear hK K
            (try simp only [Act.put, List.setIfInBounds_toArray, List.set_cons_zero, List.set_cons_succ])
            (refine wpAnyH_take (i := 13) (oi := ⟨some 21, _, _, _, _, _⟩) (v := ?v13_s14) rfl (by kernel_rfl) (by kernel_rfl) (by kernel_rfl) (fun _ _ _ h => h) (Or.inl ⟨by rfl, ?hy13_s14⟩) (by assumption) ?rest13_s14; (case hy13_s14 => ((intro w hSw); (try dsimp only at hSw); go_simp; first | done | (with_reducible rfl))))
            (try simp only [Act.put, List.setIfInBounds_toArray, List.set_cons_zero, List.set_cons_succ])
            (refine wpAnyH_take (i := 14) (oi := ⟨some 35, _, _, _, _, _⟩) (v := ?v14_s15) rfl (by kernel_rfl) (by kernel_rfl) (by kernel_rfl) (fun _ _ _ h => h) (Or.inl ⟨by rfl, ?hy14_s15⟩) (by assumption) ?rest14_s15; (case hy14_s15 => ((intro w hSw); (try dsimp only at hSw); go_simp; first | done | (with_reducible rfl))))
            (try simp only [Act.put, List.setIfInBounds_toArray, List.set_cons_zero, List.set_cons_succ])
            (refine wpAnyH_take (i := 15) (oi := ⟨some 36, _, _, _, _, _⟩) (v := ?v15_s16) rfl (by kernel_rfl) (by kernel_rfl) (by kernel_rfl) (fun _ _ _ h => h) (Or.inl ⟨by rfl, ?hy15_s16⟩) (by assumption) ?rest15_s16; (case hy15_s16 => ((intro w hSw); (try dsimp only at hSw); go_simp; first | done | (with_reducible rfl))))
            (try simp only [Act.put, List.setIfInBounds_toArray, List.set_cons_zero, List.set_cons_succ])
            refine wpAnyH_ready (rs := [16]) (by kernel_rfl) (by simp) ?_
            refine AllReadyH.cons (o := ⟨none, _, _, _, _, _⟩) rfl (fun K hK => ?_) (AllReadyH.nil)
            obtain ⟨l0, l1, f0, f1⟩ := blk2 (CL.out _ b12.out)
            go_simp
            refine hK.out _ _ ?_ (fun hHeld => ?_)
            · (try dsimp only)
              exact KT.out _ b12.out _ _
            clear hK K
            (try simp only [Act.put, List.setIfInBounds_toArray, List.set_cons_zero, List.set_cons_succ])
            refine wpAnyH_done (by kernel_rfl) ?_ _
            go_wp2
            exact ⟨⟨i + 1, by omega, by go_num, FIN.out _ b12.out, FIB.out _ b12.out⟩, by simp [intOf]; omega⟩
        · obtain rfl : i = ms.length := by omega
          have hnx := csm_next av bv ms Wd Tp c
          have HE : Hid (Blk wr (w.heap.size + 2) 99 #[.int .i64 (hi (csm av bv ms Wd Tp (c + 1) 0)), .int .u64 (lo (csm av bv ms Wd Tp (c + 1) 0))]) := Lib.hid (by rw [← hnx]; exact HJ.out)
          clear hnx
          have QWr := Lib.hid (Q0.out.below HJB.out (by omega))
          have y2 : wr.cell? ⟨w.heap.size, 2, none⟩ = some (.int .i64 (Tp : Nat)) := QWr.out.cell 2
          have y3 : wr.cell? ⟨w.heap.size, 3, none⟩ = some (.int .i64 (Wd : Nat)) := QWr.out.cell 3
          have hs1 := HS1.out
          have hs2 := HS2.out
          go_upto_region 8 with fail
          go_quiet (fail)
          clear hs1 hs2 y2 y3
          have bd := Lib.hid (below_drw (Below.refl wr.heap.size wr) nq)
          have HE2 : Hid (Blk (wr.drewN nq) (w.heap.size + 2) 99 #[.int .i64 (hi (csm av bv ms Wd Tp (c + 1) 0)), .int .u64 (lo (csm av bv ms Wd Tp (c + 1) 0))]) := Lib.hid (HE.out.below bd.out HE.out.lt)
          have HW2 : Hid (Below (w.heap.size + 2) w3 (wr.drewN nq)) := Lib.hid (HJB.out.trans (bd.out.mono (by have := HJB.out.size; have := S3.out; omega)))
          go_wp2
          exact ⟨⟨c + 1, o4, o5, q4, q5, L1 - Wd, L2 - Tp, hlt, rfl, rfl, HNX, HE2, HW2⟩, by show L1 - Wd < L1; have := HLL.out; have := HB.out.2.1.1; omega⟩
    · obtain rfl : c = n := by omega
      obtain rfl : L1 = 0 := by have := HS.out.1; rw [Nat.sub_self, Nat.zero_mul] at this; exact this
      obtain ⟨z0, z1, f0, f1⟩ := blk2 HA.out
      have QR := Lib.hid (Q1.out.below HW.out (by omega))
      obtain ⟨_, _, g0, g1⟩ := blk2 QR.out
      have BE := Lib.hid (((B3.out.trans (HW.out.mono (by omega))).setCell (p := ⟨w.heap.size + 1, 0, none⟩) (Nat.le_succ _) (.int .i64 (hi (csm av bv ms Wd Tp c 0)))).setCell (p := ⟨w.heap.size + 1, 1, none⟩) (Nat.le_succ _) (.int .u64 (lo (csm av bv ms Wd Tp c 0))))
      have QE := Lib.hid ((QR.out.set_ 0 (.int .i64 (hi (csm av bv ms Wd Tp c 0)))).set_ 1 (.int .u64 (lo (csm av bv ms Wd Tp c 0))))
      go_wp2
      obtain ⟨e0, e1, _⟩ := blk2 QE.out
      refine bodyPost_ret (v := Wv (csm av bv ms Wd Tp c 0)) (by simp [results, Try.results59, go_sem, Wv, e0, e1]) rfl ⟨rfl, BE.out⟩
end Go.Proofs.Ytnlfljekbknaaaa
