/-
  The statements' loops over a list of pairs: what an element's cells hold; WideDowns.
-/
import Derived.Test.YtdbegagkanaohaaWideJ
import Derived.Test.YtdbegagkanaohaaNumG
import Derived.LoopTactic
namespace Go.Proofs.Ytdbegagkanaohaa
open Go.RowKit

/-- An element of the list: two wide numbers, two words, a count. -/
structure El where
  a : Int
  b : Int
  x : Int
  y : Int
  n : Int
def El.ok (e : El) : Prop := R e.a ∧ R e.b ∧ (-9223372036854775808 ≤ e.x ∧ e.x ≤ 9223372036854775807) ∧ (-9223372036854775808 ≤ e.y ∧ e.y ≤ 9223372036854775807) ∧ (-9223372036854775808 ≤ e.n ∧ e.n ≤ 9223372036854775807)
/-- Its seven cells. -/
def TwoAt (w : World) (b o : Nat) (e : El) : Prop :=
  w.cell? ⟨b, o, none⟩ = some (.int .i64 (hi e.a)) ∧ w.cell? ⟨b, o + 1, none⟩ = some (.int .u64 (lo e.a)) ∧
  w.cell? ⟨b, o + 2, none⟩ = some (.int .i64 (hi e.b)) ∧ w.cell? ⟨b, o + 3, none⟩ = some (.int .u64 (lo e.b)) ∧
  w.cell? ⟨b, o + 4, none⟩ = some (.int .i64 e.x) ∧ w.cell? ⟨b, o + 5, none⟩ = some (.int .i64 e.y) ∧ w.cell? ⟨b, o + 6, none⟩ = some (.int .i64 e.n)
theorem TwoAt.below {w w' : World} {B b o : Nat} {e : El} (h : TwoAt w b o e) (hb : Below B w w') (hB : b < B) : TwoAt w' b o e := by
  obtain ⟨h1, h2, h3, h4, h5, h6, h7⟩ := h
  exact ⟨(hb.cell (p := ⟨b, o, none⟩) hB).trans h1, (hb.cell (p := ⟨b, o + 1, none⟩) hB).trans h2, (hb.cell (p := ⟨b, o + 2, none⟩) hB).trans h3, (hb.cell (p := ⟨b, o + 3, none⟩) hB).trans h4, (hb.cell (p := ⟨b, o + 4, none⟩) hB).trans h5, (hb.cell (p := ⟨b, o + 5, none⟩) hB).trans h6, (hb.cell (p := ⟨b, o + 6, none⟩) hB).trans h7⟩

set_option maxRecDepth 100000 in
set_option maxHeartbeats 8000000 in
theorem downs_any (b off len cap : Nat) (es : Nat → El) (w : World) (_hl : len ≤ 9223372036854775807) (hb : b < w.heap.size) (hT : ∀ i, i < len → TwoAt w b (off + i * 7) (es i)) (hok : ∀ i, i < len → (es i).ok) :
    Calls Try.prog 8 #[.slice (some ⟨b, off, none⟩) len cap] w fun e w' => e = .returned (.bool true) ∧ Below w.heap.size w w' := by
  have HT := Lib.hid (And.intro hT hok)
  clear hT hok
  go_enter Try.func8, Try.ntmps8
  go_wp2
  go_loopw [3] (fun s3 wr => ∃ k : Nat, k ≤ len ∧ s3 = .int .i64 k ∧ Below w.heap.size w wr) (fun s3 _ => len - (intOf s3).toNat)
  case atStart => exact ⟨0, Nat.zero_le _, rfl, Below.refl _ _⟩
  case round =>
    obtain ⟨k, hk, rfl, hB⟩ := hrel
    have hBs := hB.size
    by_cases g : k < len ∧ k < 30
    · obtain ⟨g1, g2⟩ := g
      obtain ⟨t1, t2, t3, t4, t5, t6, t7⟩ := (HT.out.1 k g1).below hB hb
      have HO := Lib.hid (HT.out.2 k g1)
      generalize es k = p at *
      by_cases gd : p.y / 2 ≤ 0
      · go_wp2
        refine ⟨⟨k + 1, by omega, by go_num, ?_⟩, by simp [intOf]; omega⟩
        repeat (first | exact Below.refl _ _ | assumption | apply Below.drew | refine Below.setCell ?_ (by first | omega | (simp; done) | (simp; omega)) _ | refine Below.alloc ?_ (by first | omega | (simp; done) | (simp; omega)) _)
      · obtain ⟨d, hd⟩ : ∃ d, d = p.y / 2 := ⟨_, rfl⟩
        rw [← hd] at gd
        have hdp : 0 < d := by omega
        have hd1 : d ≤ 9223372036854775807 := by have := HO.out.2.2.2.1; omega
        obtain ⟨m1, m2, m3, m4, m5⟩ := downs_math (n := p.a) HO.out.1 hdp
        have Rd : R d := R_small (by omega) hd1
        have FC := Lib.hid (fun W : World => from_at d W (by omega) hd1)
        have DC := fun W : World => down_any p.a d W HO.out.1 Rd (by omega)
        have EC := fun W : World => round_any p.a d W HO.out.1 Rd (by omega)
        rw [told_in m1, over_in m1] at DC
        rw [told_in m2, over_in m2] at EC
        generalize dn p.a d = D at *
        generalize rd p.a d = E at *
        have SC := fun W : World => sub_any E D W m2 m1
        rw [told_in m3, over_in m3] at SC
        obtain ⟨c, hc⟩ : ∃ c, c = E - D := ⟨_, rfl⟩
        rw [← hc] at SC m4 m5
        have KC := fun W : World => small_any c W
        have iS : isS c = true := isS_mk (by omega)
        rw [iS, show sm c = c from if_pos iS] at KC
        have DC := Lib.hid DC
        have EC := Lib.hid EC
        have SC := Lib.hid SC
        have KC := Lib.hid KC
        have HD := Lib.hid hd
        have ed := hd.symm
        clear hd hc m1 m2 m3 Rd iS hd1
        go_upto_region 7 with fail
        go_cut [6, 7] (fun s6 s7 wx => ∃ p6 : Nat, s6 = .pointer (some ⟨p6, 0, none⟩) ∧ s7 = .int .i64 0 ∧ wx.cell? ⟨wr.heap.size, 0, none⟩ = some (.int .i64 (hi p.a)) ∧ wx.cell? ⟨wr.heap.size, 1, none⟩ = some (.int .u64 (lo p.a)) ∧ wx.cell? ⟨wr.heap.size, 2, none⟩ = some (.int .i64 (hi p.b)) ∧ wx.cell? ⟨wr.heap.size, 3, none⟩ = some (.int .u64 (lo p.b)) ∧ wx.cell? ⟨wr.heap.size, 4, none⟩ = some (.int .i64 p.x) ∧ wx.cell? ⟨wr.heap.size, 5, none⟩ = some (.int .i64 p.y) ∧ wx.cell? ⟨wr.heap.size, 6, none⟩ = some (.int .i64 p.n) ∧ wx.cell? ⟨p6, 0, none⟩ = some (.int .i64 (hi D)) ∧ wx.cell? ⟨p6, 1, none⟩ = some (.int .u64 (lo D)) ∧ Below w.heap.size w wx)
        case first =>
          go_region_held3 (fun w' => w'.cell? ⟨wr.heap.size, 0, none⟩ = some (.int .i64 (hi p.a)) ∧ w'.cell? ⟨wr.heap.size, 1, none⟩ = some (.int .u64 (lo p.a)) ∧ w'.cell? ⟨wr.heap.size, 2, none⟩ = some (.int .i64 (hi p.b)) ∧ w'.cell? ⟨wr.heap.size, 3, none⟩ = some (.int .u64 (lo p.b)) ∧ w'.cell? ⟨wr.heap.size, 4, none⟩ = some (.int .i64 p.x) ∧ w'.cell? ⟨wr.heap.size, 5, none⟩ = some (.int .i64 p.y) ∧ w'.cell? ⟨wr.heap.size, 6, none⟩ = some (.int .i64 p.n)) (simp [go_sem, *])
            (first
            | (go_at_call 16; (with_reducible refine (FC.out _).mono ?_); rintro e w' ⟨rfl, rfl⟩)
            | (go_at_call 24; (with_reducible refine (DC.out _).mono ?_); rintro e w3 ⟨rfl, hb3⟩; obtain ⟨hc3, hf3⟩ := bcell hb3; have hz30 : wr.heap.size < w3.heap.size := bsz hb3 (by first | omega | (simp; done) | (simp; omega)); have hl30 : wr.heap.size < w3.heap.size + 1 := Nat.lt_succ_of_lt hz30; have hm30 : wr.heap.size < w3.heap.size + 1 + 1 := Nat.lt_succ_of_lt hl30; have g30 : w3.cell? ⟨wr.heap.size, 0, none⟩ = some (.int .i64 (hi p.a)) := (hc3 _ _ (by first | omega | (simp; done) | (simp; omega))).trans (by first | (simp [go_sem, *]; done) | fail); have g31 : w3.cell? ⟨wr.heap.size, 1, none⟩ = some (.int .u64 (lo p.a)) := (hc3 _ _ (by first | omega | (simp; done) | (simp; omega))).trans (by first | (simp [go_sem, *]; done) | fail); have g32 : w3.cell? ⟨wr.heap.size, 2, none⟩ = some (.int .i64 (hi p.b)) := (hc3 _ _ (by first | omega | (simp; done) | (simp; omega))).trans (by first | (simp [go_sem, *]; done) | fail); have g33 : w3.cell? ⟨wr.heap.size, 3, none⟩ = some (.int .u64 (lo p.b)) := (hc3 _ _ (by first | omega | (simp; done) | (simp; omega))).trans (by first | (simp [go_sem, *]; done) | fail); have g34 : w3.cell? ⟨wr.heap.size, 4, none⟩ = some (.int .i64 p.x) := (hc3 _ _ (by first | omega | (simp; done) | (simp; omega))).trans (by first | (simp [go_sem, *]; done) | fail); have g35 : w3.cell? ⟨wr.heap.size, 5, none⟩ = some (.int .i64 p.y) := (hc3 _ _ (by first | omega | (simp; done) | (simp; omega))).trans (by first | (simp [go_sem, *]; done) | fail); have g36 : w3.cell? ⟨wr.heap.size, 6, none⟩ = some (.int .i64 p.n) := (hc3 _ _ (by first | omega | (simp; done) | (simp; omega))).trans (by first | (simp [go_sem, *]; done) | fail); (first | (have hy30 : wr.heap.size + 1 < w3.heap.size := bsz hb3 (by first | omega | (simp; done) | (simp; omega))) | skip); (first | (have hy31 : wr.heap.size + 1 + 1 < w3.heap.size := bsz hb3 (by first | omega | (simp; done) | (simp; omega))) | skip); (first | (have hn30 : wr.heap.size + 1 < w3.heap.size + 1 := Nat.lt_succ_of_lt hy30) | skip); (first | (have hn31 : wr.heap.size + 1 + 1 < w3.heap.size + 1 := Nat.lt_succ_of_lt hy31) | skip); (first | (have o30 : w3.cell? ⟨wr.heap.size + 1, 0, none⟩ = some (.int .i64 0) := (hc3 _ _ (by first | omega | (simp; done) | (simp; omega))).trans (by first | (simp [go_sem, *]; done) | fail)) | skip); (first | (have q30 : w3.frozen? ⟨wr.heap.size + 1, 0, none⟩ = false := (hf3 _ _ (by first | omega | (simp; done) | (simp; omega))).trans (by first | (simp [go_sem, *]; done) | fail)) | skip); (first | (have o31 : w3.cell? ⟨wr.heap.size + 1, 1, none⟩ = some (.int .u64 0) := (hc3 _ _ (by first | omega | (simp; done) | (simp; omega))).trans (by first | (simp [go_sem, *]; done) | fail)) | skip); (first | (have q31 : w3.frozen? ⟨wr.heap.size + 1, 1, none⟩ = false := (hf3 _ _ (by first | omega | (simp; done) | (simp; omega))).trans (by first | (simp [go_sem, *]; done) | fail)) | skip); (first | (have o32 : w3.cell? ⟨wr.heap.size + 1 + 1, 0, none⟩ = some (.int .i64 0) := (hc3 _ _ (by first | omega | (simp; done) | (simp; omega))).trans (by first | (simp [go_sem, *]; done) | fail)) | skip); (first | (have q32 : w3.frozen? ⟨wr.heap.size + 1 + 1, 0, none⟩ = false := (hf3 _ _ (by first | omega | (simp; done) | (simp; omega))).trans (by first | (simp [go_sem, *]; done) | fail)) | skip); (first | (have o33 : w3.cell? ⟨wr.heap.size + 1 + 1, 1, none⟩ = some (.int .u64 0) := (hc3 _ _ (by first | omega | (simp; done) | (simp; omega))).trans (by first | (simp [go_sem, *]; done) | fail)) | skip); (first | (have q33 : w3.frozen? ⟨wr.heap.size + 1 + 1, 1, none⟩ = false := (hf3 _ _ (by first | omega | (simp; done) | (simp; omega))).trans (by first | (simp [go_sem, *]; done) | fail)) | skip); clear hc3 hf3))
          all_goals
            go_wp2_with fail
            go_meet
            refine ⟨_, rfl, rfl, by simp [go_sem, *], by simp [go_sem, *], by simp [go_sem, *], by simp [go_sem, *], by simp [go_sem, *], by simp [go_sem, *], by simp [go_sem, *], by simp [go_sem, *], by simp [go_sem, *], ?_⟩
            repeat (first | exact Below.refl _ _ | assumption | apply Below.drew | refine Below.setCell ?_ (by first | omega | (simp; done) | (simp; omega)) _ | refine Below.alloc ?_ (by first | omega | (simp; done) | (simp; omega)) _ | refine Below.trans ?_ (hb3.mono (by first | omega | (simp; done) | (simp; omega))))
        case rest =>
          clear t1 t2 t3 t4 t5 t6 t7 FC DC hBs
          obtain ⟨p6, rfl, rfl, t1, t2, t3, t4, t5, t6, t7, v1, v2, hB2⟩ := hcut
          have hs1 : wr.heap.size < _ := World.block_lt_of_cell? _ _ t1
          have hs2 : p6 < _ := World.block_lt_of_cell? _ _ v1
          generalize wr.heap.size = P at *
          have FC := Lib.hid (fun W : World => from_at d W (by omega) (by have := HO.out.2.2.2.1; have := HD.out; omega))
          go_upto_region 8 with fail
          go_cut [8, 9] (fun s8 s9 wx => ∃ p8 : Nat, s8 = .pointer (some ⟨p8, 0, none⟩) ∧ s9 = .int .i64 0 ∧ wx.cell? ⟨P, 0, none⟩ = some (.int .i64 (hi p.a)) ∧ wx.cell? ⟨P, 1, none⟩ = some (.int .u64 (lo p.a)) ∧ wx.cell? ⟨P, 2, none⟩ = some (.int .i64 (hi p.b)) ∧ wx.cell? ⟨P, 3, none⟩ = some (.int .u64 (lo p.b)) ∧ wx.cell? ⟨P, 4, none⟩ = some (.int .i64 p.x) ∧ wx.cell? ⟨P, 5, none⟩ = some (.int .i64 p.y) ∧ wx.cell? ⟨P, 6, none⟩ = some (.int .i64 p.n) ∧ wx.cell? ⟨p6, 0, none⟩ = some (.int .i64 (hi D)) ∧ wx.cell? ⟨p6, 1, none⟩ = some (.int .u64 (lo D)) ∧ wx.cell? ⟨p8, 0, none⟩ = some (.int .i64 (hi E)) ∧ wx.cell? ⟨p8, 1, none⟩ = some (.int .u64 (lo E)) ∧ Below w.heap.size w wx)
          case first =>
            have hBs := hB2.size
            go_region_held3 (fun w' => w'.cell? ⟨P, 0, none⟩ = some (.int .i64 (hi p.a)) ∧ w'.cell? ⟨P, 1, none⟩ = some (.int .u64 (lo p.a)) ∧ w'.cell? ⟨P, 2, none⟩ = some (.int .i64 (hi p.b)) ∧ w'.cell? ⟨P, 3, none⟩ = some (.int .u64 (lo p.b)) ∧ w'.cell? ⟨P, 4, none⟩ = some (.int .i64 p.x) ∧ w'.cell? ⟨P, 5, none⟩ = some (.int .i64 p.y) ∧ w'.cell? ⟨P, 6, none⟩ = some (.int .i64 p.n) ∧ w'.cell? ⟨p6, 0, none⟩ = some (.int .i64 (hi D)) ∧ w'.cell? ⟨p6, 1, none⟩ = some (.int .u64 (lo D))) (simp [go_sem, *])
              (first
              | (go_at_call 16; (with_reducible refine (FC.out _).mono ?_); rintro e w' ⟨rfl, rfl⟩)
              | (go_at_call 23; (with_reducible refine (EC.out _).mono ?_); rintro e w4 ⟨rfl, hb4⟩; obtain ⟨hc4, hf4⟩ := bcell hb4; have hz40 : p6 < w4.heap.size := bsz hb4 (by first | omega | (simp; done) | (simp; omega)); have hz41 : P < w4.heap.size := bsz hb4 (by first | omega | (simp; done) | (simp; omega)); have hl40 : p6 < w4.heap.size + 1 := Nat.lt_succ_of_lt hz40; have hm40 : p6 < w4.heap.size + 1 + 1 := Nat.lt_succ_of_lt hl40; have hl41 : P < w4.heap.size + 1 := Nat.lt_succ_of_lt hz41; have hm41 : P < w4.heap.size + 1 + 1 := Nat.lt_succ_of_lt hl41; have g40 : w4.cell? ⟨P, 0, none⟩ = some (.int .i64 (hi p.a)) := (hc4 _ _ (by first | omega | (simp; done) | (simp; omega))).trans (by first | (simp [go_sem, *]; done) | fail); have g41 : w4.cell? ⟨P, 1, none⟩ = some (.int .u64 (lo p.a)) := (hc4 _ _ (by first | omega | (simp; done) | (simp; omega))).trans (by first | (simp [go_sem, *]; done) | fail); have g42 : w4.cell? ⟨P, 2, none⟩ = some (.int .i64 (hi p.b)) := (hc4 _ _ (by first | omega | (simp; done) | (simp; omega))).trans (by first | (simp [go_sem, *]; done) | fail); have g43 : w4.cell? ⟨P, 3, none⟩ = some (.int .u64 (lo p.b)) := (hc4 _ _ (by first | omega | (simp; done) | (simp; omega))).trans (by first | (simp [go_sem, *]; done) | fail); have g44 : w4.cell? ⟨P, 4, none⟩ = some (.int .i64 p.x) := (hc4 _ _ (by first | omega | (simp; done) | (simp; omega))).trans (by first | (simp [go_sem, *]; done) | fail); have g45 : w4.cell? ⟨P, 5, none⟩ = some (.int .i64 p.y) := (hc4 _ _ (by first | omega | (simp; done) | (simp; omega))).trans (by first | (simp [go_sem, *]; done) | fail); have g46 : w4.cell? ⟨P, 6, none⟩ = some (.int .i64 p.n) := (hc4 _ _ (by first | omega | (simp; done) | (simp; omega))).trans (by first | (simp [go_sem, *]; done) | fail); have g47 : w4.cell? ⟨p6, 0, none⟩ = some (.int .i64 (hi D)) := (hc4 _ _ (by first | omega | (simp; done) | (simp; omega))).trans (by first | (simp [go_sem, *]; done) | fail); have g48 : w4.cell? ⟨p6, 1, none⟩ = some (.int .u64 (lo D)) := (hc4 _ _ (by first | omega | (simp; done) | (simp; omega))).trans (by first | (simp [go_sem, *]; done) | fail); (first | (have hy40 : wc.heap.size < w4.heap.size := bsz hb4 (by first | omega | (simp; done) | (simp; omega))) | skip); (first | (have hy41 : wc.heap.size + 1 < w4.heap.size := bsz hb4 (by first | omega | (simp; done) | (simp; omega))) | skip); (first | (have hn40 : wc.heap.size < w4.heap.size + 1 := Nat.lt_succ_of_lt hy40) | skip); (first | (have hn41 : wc.heap.size + 1 < w4.heap.size + 1 := Nat.lt_succ_of_lt hy41) | skip); (first | (have o40 : w4.cell? ⟨wc.heap.size, 0, none⟩ = some (.int .i64 0) := (hc4 _ _ (by first | omega | (simp; done) | (simp; omega))).trans (by first | (simp [go_sem, *]; done) | fail)) | skip); (first | (have q40 : w4.frozen? ⟨wc.heap.size, 0, none⟩ = false := (hf4 _ _ (by first | omega | (simp; done) | (simp; omega))).trans (by first | (simp [go_sem, *]; done) | fail)) | skip); (first | (have o41 : w4.cell? ⟨wc.heap.size, 1, none⟩ = some (.int .u64 0) := (hc4 _ _ (by first | omega | (simp; done) | (simp; omega))).trans (by first | (simp [go_sem, *]; done) | fail)) | skip); (first | (have q41 : w4.frozen? ⟨wc.heap.size, 1, none⟩ = false := (hf4 _ _ (by first | omega | (simp; done) | (simp; omega))).trans (by first | (simp [go_sem, *]; done) | fail)) | skip); (first | (have o42 : w4.cell? ⟨wc.heap.size + 1, 0, none⟩ = some (.int .i64 0) := (hc4 _ _ (by first | omega | (simp; done) | (simp; omega))).trans (by first | (simp [go_sem, *]; done) | fail)) | skip); (first | (have q42 : w4.frozen? ⟨wc.heap.size + 1, 0, none⟩ = false := (hf4 _ _ (by first | omega | (simp; done) | (simp; omega))).trans (by first | (simp [go_sem, *]; done) | fail)) | skip); (first | (have o43 : w4.cell? ⟨wc.heap.size + 1, 1, none⟩ = some (.int .u64 0) := (hc4 _ _ (by first | omega | (simp; done) | (simp; omega))).trans (by first | (simp [go_sem, *]; done) | fail)) | skip); (first | (have q43 : w4.frozen? ⟨wc.heap.size + 1, 1, none⟩ = false := (hf4 _ _ (by first | omega | (simp; done) | (simp; omega))).trans (by first | (simp [go_sem, *]; done) | fail)) | skip); clear hc4 hf4))
            all_goals
              go_wp2_with fail
              go_meet
              refine ⟨_, rfl, rfl, by simp [go_sem, *], by simp [go_sem, *], by simp [go_sem, *], by simp [go_sem, *], by simp [go_sem, *], by simp [go_sem, *], by simp [go_sem, *], by simp [go_sem, *], by simp [go_sem, *], by simp [go_sem, *], by simp [go_sem, *], ?_⟩
              repeat (first | exact Below.refl _ _ | assumption | apply Below.drew | refine Below.setCell ?_ (by first | omega | (simp; done) | (simp; omega)) _ | refine Below.alloc ?_ (by first | omega | (simp; done) | (simp; omega)) _ | refine Below.trans ?_ (hb4.mono (by first | omega | (simp; done) | (simp; omega))))
          case rest =>
            clear t1 t2 t3 t4 t5 t6 t7 v1 v2 hB2 hs1 hs2
            obtain ⟨p8, rfl, rfl, t1, t2, t3, t4, t5, t6, t7, v1, v2, x1, x2, hB2⟩ := hcut
            go_wp2_with (first | (go_at_call 11; (with_reducible refine (num_any 0 _).mono ?_); rintro e w' ⟨rfl, rfl⟩) | (go_at_call 10; (with_reducible refine (SC.out _).mono ?_); rintro e w5 ⟨rfl, hb5⟩; have e50 : w5.cell? ⟨P, 0, none⟩ = some (.int .i64 (hi p.a)) := cell_on hb5 (by first | (simp [go_sem, *]; done) | (simp [go_sem, World.cell?_alloc_some, *]; done) | fail); have e51 : w5.cell? ⟨P, 1, none⟩ = some (.int .u64 (lo p.a)) := cell_on hb5 (by first | (simp [go_sem, *]; done) | (simp [go_sem, World.cell?_alloc_some, *]; done) | fail); have e52 : w5.cell? ⟨P, 2, none⟩ = some (.int .i64 (hi p.b)) := cell_on hb5 (by first | (simp [go_sem, *]; done) | (simp [go_sem, World.cell?_alloc_some, *]; done) | fail); have e53 : w5.cell? ⟨P, 3, none⟩ = some (.int .u64 (lo p.b)) := cell_on hb5 (by first | (simp [go_sem, *]; done) | (simp [go_sem, World.cell?_alloc_some, *]; done) | fail); have e54 : w5.cell? ⟨P, 4, none⟩ = some (.int .i64 p.x) := cell_on hb5 (by first | (simp [go_sem, *]; done) | (simp [go_sem, World.cell?_alloc_some, *]; done) | fail); have e55 : w5.cell? ⟨P, 5, none⟩ = some (.int .i64 p.y) := cell_on hb5 (by first | (simp [go_sem, *]; done) | (simp [go_sem, World.cell?_alloc_some, *]; done) | fail); have e56 : w5.cell? ⟨P, 6, none⟩ = some (.int .i64 p.n) := cell_on hb5 (by first | (simp [go_sem, *]; done) | (simp [go_sem, World.cell?_alloc_some, *]; done) | fail); have e57 : w5.cell? ⟨p6, 0, none⟩ = some (.int .i64 (hi D)) := cell_on hb5 (by first | (simp [go_sem, *]; done) | (simp [go_sem, World.cell?_alloc_some, *]; done) | fail); have e58 : w5.cell? ⟨p6, 1, none⟩ = some (.int .u64 (lo D)) := cell_on hb5 (by first | (simp [go_sem, *]; done) | (simp [go_sem, World.cell?_alloc_some, *]; done) | fail); have e59 : w5.cell? ⟨p8, 0, none⟩ = some (.int .i64 (hi E)) := cell_on hb5 (by first | (simp [go_sem, *]; done) | (simp [go_sem, World.cell?_alloc_some, *]; done) | fail); have e510 : w5.cell? ⟨p8, 1, none⟩ = some (.int .u64 (lo E)) := cell_on hb5 (by first | (simp [go_sem, *]; done) | (simp [go_sem, World.cell?_alloc_some, *]; done) | fail); have s50 : P < w5.heap.size := World.block_lt_of_cell? _ _ e50; have t50 : P < w5.heap.size + 1 := Nat.lt_succ_of_lt s50; have s57 : p6 < w5.heap.size := World.block_lt_of_cell? _ _ e57; have t57 : p6 < w5.heap.size + 1 := Nat.lt_succ_of_lt s57; have s59 : p8 < w5.heap.size := World.block_lt_of_cell? _ _ e59; have t59 : p8 < w5.heap.size + 1 := Nat.lt_succ_of_lt s59) | (go_at_call 15; (with_reducible refine (KC.out _).mono ?_); rintro e w6 ⟨rfl, hb6⟩; have e60 : w6.cell? ⟨P, 0, none⟩ = some (.int .i64 (hi p.a)) := cell_on hb6 (by first | (simp [go_sem, *]; done) | (simp [go_sem, World.cell?_alloc_some, *]; done) | fail); have e61 : w6.cell? ⟨P, 1, none⟩ = some (.int .u64 (lo p.a)) := cell_on hb6 (by first | (simp [go_sem, *]; done) | (simp [go_sem, World.cell?_alloc_some, *]; done) | fail); have e62 : w6.cell? ⟨P, 2, none⟩ = some (.int .i64 (hi p.b)) := cell_on hb6 (by first | (simp [go_sem, *]; done) | (simp [go_sem, World.cell?_alloc_some, *]; done) | fail); have e63 : w6.cell? ⟨P, 3, none⟩ = some (.int .u64 (lo p.b)) := cell_on hb6 (by first | (simp [go_sem, *]; done) | (simp [go_sem, World.cell?_alloc_some, *]; done) | fail); have e64 : w6.cell? ⟨P, 4, none⟩ = some (.int .i64 p.x) := cell_on hb6 (by first | (simp [go_sem, *]; done) | (simp [go_sem, World.cell?_alloc_some, *]; done) | fail); have e65 : w6.cell? ⟨P, 5, none⟩ = some (.int .i64 p.y) := cell_on hb6 (by first | (simp [go_sem, *]; done) | (simp [go_sem, World.cell?_alloc_some, *]; done) | fail); have e66 : w6.cell? ⟨P, 6, none⟩ = some (.int .i64 p.n) := cell_on hb6 (by first | (simp [go_sem, *]; done) | (simp [go_sem, World.cell?_alloc_some, *]; done) | fail); have e67 : w6.cell? ⟨p6, 0, none⟩ = some (.int .i64 (hi D)) := cell_on hb6 (by first | (simp [go_sem, *]; done) | (simp [go_sem, World.cell?_alloc_some, *]; done) | fail); have e68 : w6.cell? ⟨p6, 1, none⟩ = some (.int .u64 (lo D)) := cell_on hb6 (by first | (simp [go_sem, *]; done) | (simp [go_sem, World.cell?_alloc_some, *]; done) | fail); have e69 : w6.cell? ⟨p8, 0, none⟩ = some (.int .i64 (hi E)) := cell_on hb6 (by first | (simp [go_sem, *]; done) | (simp [go_sem, World.cell?_alloc_some, *]; done) | fail); have e610 : w6.cell? ⟨p8, 1, none⟩ = some (.int .u64 (lo E)) := cell_on hb6 (by first | (simp [go_sem, *]; done) | (simp [go_sem, World.cell?_alloc_some, *]; done) | fail); have s60 : P < w6.heap.size := World.block_lt_of_cell? _ _ e60; have t60 : P < w6.heap.size + 1 := Nat.lt_succ_of_lt s60; have s67 : p6 < w6.heap.size := World.block_lt_of_cell? _ _ e67; have t67 : p6 < w6.heap.size + 1 := Nat.lt_succ_of_lt s67; have s69 : p8 < w6.heap.size := World.block_lt_of_cell? _ _ e69; have t69 : p8 < w6.heap.size + 1 := Nat.lt_succ_of_lt s69))
            have hBs := hB2.size
            have hs5 := hb5.size
            refine ⟨⟨k + 1, by omega, by go_num, ?_⟩, by simp [intOf]; omega⟩
            repeat (first | exact Below.refl _ _ | assumption | apply Below.drew | refine Below.setCell ?_ (by first | omega | (simp; done) | (simp; omega)) _ | refine Below.alloc ?_ (by first | omega | (simp; done) | (simp; omega)) _ | refine Below.trans ?_ (hb6.mono (by first | omega | (simp; done) | (simp; omega))) | refine Below.trans ?_ (hb5.mono (by first | omega | (simp; done) | (simp; omega))))
    · by_cases g1 : k < len
      · have g2 : 30 ≤ k := by omega
        clear g
        go_wp2_with (go_at_call 18; (with_reducible refine (wakes_any _).mono ?_); rintro e w9 ⟨rfl, hb9⟩)
        go_ret
        exact ⟨rfl, hB.trans (hb9.mono hBs)⟩
      · have g2 : len ≤ k := by omega
        clear g g1
        go_wp2_with (go_at_call 18; (with_reducible refine (wakes_any _).mono ?_); rintro e w9 ⟨rfl, hb9⟩)
        go_ret
        exact ⟨rfl, hB.trans (hb9.mono hBs)⟩
end Go.Proofs.Ytdbegagkanaohaa
