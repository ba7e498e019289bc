/-
  The references' decimals: rows of bytes beside a number's limbs.
-/
import Derived.Lib.ItoaMem
import Derived.Test.YteplhlmdaabpaaaGreatDoorM09
import Derived.Test.YteplhlmdaabpaaaGreatDoorM12
import Derived.Test.YteplhlmdaabpaaaGreatDoorM13
namespace Go.Proofs.YteplhlmdaabpaaaGreatDoor
open Go.RowKit Go.Lib

theorem info8 : (Tryz.prog.info? 5).map (fun i => (i.zero, i.size, i.bytes)) = some (some (.int .u8 0), 1, 1) := by kernel_rfl
def b8 (x : UInt8) : Value := .int .u8 (x.toNat : Int)
theorem b8_dg {d : Nat} (h : d < 10) : b8 (dg8 d) = .int .u8 (48 + (d : Int)) := by unfold b8; rw [dg8_nat h]; simp
/-- The limbs v reads as n, and lie apart from the row r. -/
def Ap (w : World) (v r : Value) (n : Nat) : Prop := IsD w v n ∧ (v = .slice none 0 0 ∨ ∃ b l c, v = .slice (some ⟨b, 0, none⟩) l c ∧ r.ownBlock ≠ some b ∧ b < w.heap.size)
theorem Ap.below {w w' : World} {v r : Value} {n : Nat} (h : Ap w v r n) (hb : Below w.heap.size w w') : Ap w' v r n := by
  refine ⟨h.1.below hb, ?_⟩
  rcases h.2 with g | ⟨b, l, c, e, g, hl⟩
  · exact .inl g
  · exact .inr ⟨b, l, c, e, g, Nat.lt_of_lt_of_le hl hb.size⟩
/-- Behind an append to the row the limbs read as they did. -/
theorem Ap.grown {w w' : World} {base m n : Nat} {v r r' : Value} {xs : List UInt8} {u : UInt8} (h : Ap w v r n) (hg : w.grownBy w' r.ownBlock) (ho : w'.ownsRow base 5 1 r' m ((xs ++ [u]).map b8)) : Ap w' v r' n ∨ (n = 0 ∧ IsD w' v 0) := by
  obtain ⟨⟨ls, hr, h1, h2, h3⟩, hf⟩ := h
  rcases hf with rfl | ⟨b, l, c, rfl, hne, hbl⟩
  · have hls : ls = [] := by
      rcases hr with ⟨_, e⟩ | ⟨_, _, _, e, _⟩
      · exact e
      · simp at e
    subst hls
    exact .inl ⟨⟨[], .inl ⟨rfl, rfl⟩, h1, h2, h3⟩, .inl rfl⟩
  · have hs := hg.size
    rcases hr with ⟨e, _⟩ | ⟨b', off, cap, e, hc, hl, hcell⟩
    · simp at e
    · simp only [Value.slice.injEq, Option.some.injEq, Addr.mk.injEq, and_true] at e
      obtain ⟨⟨rfl, rfl⟩, rfl, rfl⟩ := e
      have hcell' : ∀ i, i < ls.length → w'.cell? ⟨b, 0 + i, none⟩ = some (.int .u32 (ls.getD i 0 : Nat)) := fun i hi => hg.cell (hcell i hi) (fun e => hne e.symm)
      have HD : IsD w' (.slice (some ⟨b, 0, none⟩) ls.length c) n := ⟨ls, .inr ⟨b, 0, c, rfl, hc, Nat.lt_of_lt_of_le hbl hs, hcell'⟩, h1, h2, h3⟩
      by_cases h0 : ls = []
      · subst h0
        have : n = 0 := by rw [← h2]; rfl
        subst this
        exact .inr ⟨rfl, HD⟩
      · refine .inl ⟨HD, .inr ⟨b, _, c, rfl, fun e => ?_, Nat.lt_of_lt_of_le hbl hs⟩⟩
        have p : 0 < ls.length := by cases ls with | nil => exact absurd rfl h0 | cons a t => simp
        have c0 := hcell' 0 p
        have q : 0 < ((xs ++ [u]).map b8).length := by simp
        have c1 := ho.cells e 0 _ (List.getElem?_eq_getElem q)
        rw [show (⟨b, 0, none⟩ : Addr).add 0 = ⟨b, 0 + 0, none⟩ from add_plain b 0 0, c0] at c1
        simp only [List.getElem_map, Option.some.injEq] at c1
        unfold b8 at c1
        simp at c1
theorem IsD.form {w : World} {v : Value} {n : Nat} (h : IsD w v n) : ∃ o l c, v = .slice o l c ∧ (l = 0 ↔ n = 0) := by
  obtain ⟨ls, hr, h1, h2, h3⟩ := h
  obtain ⟨o, c, e, _⟩ := hr.form
  refine ⟨o, _, c, e, ?_⟩
  constructor
  · intro g
    have : ls = [] := List.eq_nil_of_length_eq_zero g
    subst this
    rw [← h2]; rfl
  · intro g
    by_cases h0 : ls = []
    · subst h0; rfl
    · have := lval_ge 4294967296 ls h3 h0
      have p : 0 < 4294967296 ^ (ls.length - 1) := Nat.pow_pos (by decide)
      omega
theorem IsD.zero {w w' : World} {v : Value} (h : IsD w v 0) (hs : w.heap.size ≤ w'.heap.size) : IsD w' v 0 := by
  obtain ⟨ls, hr, h1, h2, h3⟩ := h
  have h0 : ls = [] := by
    by_cases h0 : ls = []
    · exact h0
    · have := lval_ge 4294967296 ls h3 h0
      have p : 0 < 4294967296 ^ (ls.length - 1) := Nat.pow_pos (by decide)
      omega
  subst h0
  refine ⟨[], ?_, h1, h2, h3⟩
  rcases hr with h | ⟨b, off, cap, e, hc, hl, _⟩
  · exact .inl h
  · exact .inr ⟨b, off, cap, e, hc, Nat.lt_of_lt_of_le hl hs, fun i hi => by simp at hi⟩
def Ap2 (w : World) (v r : Value) (n : Nat) : Prop := Ap w v r n ∨ (n = 0 ∧ IsD w v 0)
theorem Ap2.below {w w' : World} {v r : Value} {n : Nat} (h : Ap2 w v r n) (hb : Below w.heap.size w w') : Ap2 w' v r n := by
  rcases h with h | ⟨a, b⟩
  · exact .inl (h.below hb)
  · exact .inr ⟨a, b.below hb⟩
theorem Ap2.isD {w : World} {v r : Value} {n : Nat} (h : Ap2 w v r n) : IsD w v n := by
  rcases h with h | ⟨rfl, b⟩
  · exact h.1
  · exact b
theorem Ap2.grown {w w' : World} {base m n : Nat} {v r r' : Value} {xs : List UInt8} {u : UInt8} (h : Ap2 w v r n) (hg : w.grownBy w' r.ownBlock) (ho : w'.ownsRow base 5 1 r' m ((xs ++ [u]).map b8)) : Ap2 w' v r' n := by
  rcases h with h | ⟨a, b⟩
  · exact h.grown hg ho
  · exact .inr ⟨a, b.zero hg.size⟩
noncomputable def lenV : Value → Nat
  | .slice _ l _ => l
  | _ => 0
theorem own_len {w : World} {base n : Nat} {v : Value} {xs : List Value} (h : w.ownsRow base 5 1 v n xs) : lenV v = n := by
  rcases h.2 with ⟨rfl, rfl⟩ | ⟨g, cap, cur, rfl, _⟩ <;> rfl
theorem ap_start {w w' : World} {base n m : Nat} {q r : Value} {xs : List Value} (h : IsD w' q n) (hf : q = .slice none 0 0 ∨ ∃ l c, q = .slice (some ⟨w.heap.size, 0, none⟩) l c) (_hb : Below w.heap.size w w') (hlt : ∀ l c, q = .slice (some ⟨w.heap.size, 0, none⟩) l c → w.heap.size < w'.heap.size) (ho : w.ownsRow base 5 1 r m xs) : Ap w' q r n := by
  refine ⟨h, ?_⟩
  rcases hf with g | ⟨l, c, e⟩
  · exact .inl g
  · exact .inr ⟨_, l, c, e, fun e2 => by have := (ho.lt _ e2).2; omega, hlt l c e⟩
theorem rd_lt {w : World} {b : Nat} {o l c : Nat} {n : Nat} (h : IsD w (.slice (some ⟨b, o, none⟩) l c) n) : b < w.heap.size := by
  obtain ⟨ls, hr, _⟩ := h
  rcases hr with ⟨e, _⟩ | ⟨b', off, cap, e, _, hl, _⟩
  · simp at e
  · simp only [Value.slice.injEq, Option.some.injEq, Addr.mk.injEq, and_true] at e
    obtain ⟨⟨rfl, _⟩, _⟩ := e
    exact hl
theorem short_e9 (v : Value) (n : Nat) (w : World) (h : IsD w v n) (hb : n < BIG) : Calls Tryz.prog 70 #[v, .int .u32 1000000000] w fun e w' => ∃ q, e = .returned (.tuple #[q, .int .u32 (n % 1000000000 : Nat)]) ∧ IsD w' q (n / 1000000000) ∧ Below w.heap.size w w' ∧ (q = .slice none 0 0 ∨ ∃ l c, q = .slice (some ⟨w.heap.size, 0, none⟩) l c) := short_far v n 1000000000 w h hb (by decide) (by decide)
theorem own_form {w : World} {base n : Nat} {v : Value} {xs : List UInt8} (h : w.ownsRow base 5 1 v n (xs.map b8)) (h0 : 0 < n) : ∃ g cap, v = .slice (some ⟨g, 0, none⟩) n cap ∧ base ≤ g ∧ g < w.heap.size ∧ n ≤ cap ∧ ∀ i, i < n → w.cell? ⟨g, i, none⟩ = some (b8 (xs.getD i 0)) := by
  have hl : xs.length = n := by have := h.1; simpa using this
  have hl2 := h.lt
  have hc := fun g (e : v.ownBlock = some g) => h.cells e
  rcases h.2 with ⟨rfl, rfl⟩ | ⟨g, cap, cur, rfl, hb, hg, hnc, _⟩
  · exact absurd h0 (by decide)
  · refine ⟨g, cap, rfl, hb, (hl2 g rfl).2, hnc, fun i hi => ?_⟩
    have := hc g rfl i (b8 (xs.getD i 0)) (by rw [List.getElem?_map, List.getD_eq_getElem?_getD, List.getElem?_eq_getElem (by omega)]; rfl)
    rw [add_plain, Nat.zero_add] at this
    exact this
theorem own_below {w w' : World} {base n : Nat} {e : TypeId} {v : Value} {xs : List Value} (h : w.ownsRow base e 1 v n xs) (hb : Below w.heap.size w w') : w'.ownsRow base e 1 v n xs := by
  refine ⟨h.1, ?_⟩
  rcases h.2 with hn | ⟨g, cap, cur, rfl, hg0, hgg, rest⟩
  · exact .inl hn
  · exact .inr ⟨g, cap, cur, rfl, hg0, (hb.block g (Array.getElem?_eq_some_iff.1 hgg).1).trans hgg, rest⟩
theorem byte_dg {R d : Nat} (hd : d = R % 10) (_hR : R < 4294967296) : IntKind.u8.wrap (IntKind.u32.wrap (48 + (R : Int) % 10)) = 48 + (d : Int) := by
  rw [IntKind.wrap_u8, IntKind.wrap_u32]; omega
set_option maxRecDepth 100000 in
set_option maxHeartbeats 8000000 in
theorem ntext_any (v : Value) (n J : Nat) (w : World) (h : IsN w v n) (h0 : 0 < n) (hb : n < BIG) (hJ : n < 10 ^ (9 * J)) (J0 : 0 < J) (hJ2 : J ≤ 1000) : Calls Tryz.prog 49 #[v] w fun e w' => e = .returned (.string ⟨(decDigits n).toArray⟩) ∧ Below w.heap.size w w' := by
  obtain ⟨i0, hi0, hz0, hz1, hz2⟩ := info_parts info8
  have H : Hid (IsN w v n ∧ 0 < n ∧ n < BIG ∧ n < 10 ^ (9 * J)) := ⟨h, h0, hb, hJ⟩
  clear h h0 hb hJ
  go_enter Tryz.func49, Tryz.ntmps49
  go_wp2_with (go_at_call 67; (with_reducible refine (halves_num v n _ H.out.1 H.out.2.2.1).mono ?_); rintro e w1 ⟨vx, rfl, hx, hb1⟩; obtain ⟨ox, lx, cx, rfl, fx⟩ := hx.form; have hl1 : 0 < lx := (by have := H.out.2.1; omega); have hl2 : ((lx : Int) == 0) = false := (by rw [beq_eq_false_iff_ne]; omega); have HX := Lib.hid hx; have q1 := hb1.size; clear fx hx)
  go_loopw [3, 4] (fun s3 s4 wr => ∃ (j : Nat) (ox : Option Addr) (lx cx : Nat), j ≤ J ∧ s3 = .slice ox lx cx ∧ Hid (IsD wr (.slice ox lx cx) (n / 10 ^ (9 * j))) ∧ Hid (wr.ownsRow w1.heap.size 5 1 s4 (9 * j) ((digs (9 * j) n).map b8)) ∧ Below w.heap.size w wr ∧ w1.heap.size ≤ wr.heap.size) (fun _ s4 _ => 9 * J - lenV s4)
  case atStart => exact ⟨0, ox, lx, cx, Nat.zero_le _, rfl, by rw [Nat.mul_zero, Nat.pow_zero, Nat.div_one]; exact HX, World.ownsRow_nil _ _ _ _, hb1, Nat.le_refl _⟩
  case round =>
    clear HX hl1 hl2
    obtain ⟨j, ox, lx, cx, hj, rfl, HX, HO, hB, hL⟩ := hrel
    obtain ⟨x, hx⟩ : ∃ x, x = n / 10 ^ (9 * j) := ⟨_, rfl⟩
    rw [← hx] at HX
    have fx : lx = 0 ↔ x = 0 := by obtain ⟨o, l, c, e, f⟩ := HX.out.form; simp only [Value.slice.injEq] at e; obtain ⟨_, rfl, _⟩ := e; exact f
    have hBs := hB.size
    by_cases hz : x = 0
    · have hl0 : lx = 0 := fx.2 hz
      subst hl0
      have hk : n < 10 ^ (9 * j) := by
        have p : 0 < 10 ^ (9 * j) := Nat.pow_pos (by decide)
        rw [hz] at hx
        rcases Nat.lt_or_ge n (10 ^ (9 * j)) with g | g
        · exact g
        · have := Nat.div_pos g p; omega
      have j0 : 0 < j := by
        rcases Nat.eq_zero_or_pos j with g | g
        · subst g; simp at hk; have := H.out.2.1; omega
        · exact g
      have K := Lib.hid hk
      clear hz hx fx hk
      obtain ⟨K9, hK9⟩ : ∃ K, K = 9 * j := ⟨_, rfl⟩
      have KJ : K9 ≤ 9000 := by omega
      have K0 : 0 < K9 := by omega
      rw [← hK9] at K HO
      clear hK9
      obtain ⟨g, cap, rfl, hg1, hg2, hg3, hcell⟩ := own_form HO.out K0
      have DA : Hid (∀ i, i < K9 → wr.cell? ⟨g, i, none⟩ = some (b8 (dgAt K9 n i))) := hcell
      have K0' := K0
      clear hcell
      obtain ⟨L, hL0⟩ : ∃ L, L = (decDigits n).length := ⟨_, rfl⟩
      have LD := (digs_dec K0 K.out).1
      have LP := dec_pos n
      rw [← hL0] at LD LP
      have HF := Lib.hid (dgAt_first K0 K.out H.out.2.1)
      have HH := Lib.hid (fun i (a : L ≤ i) (b : i < K9) => dgAt_high (n := n) K0 K.out (by omega) b)
      have HW := Lib.hid (fun i (a : i < L) => dgAt_low (i := i) K0 K.out (by omega))
      have HLL := Lib.hid hL0
      clear hL0
      go_wp2
      go_loop [8] (fun s8 => ∃ m : Nat, L ≤ m ∧ m ≤ K9 ∧ s8 = .int .i64 m) (fun s8 => (RowKit.intOf s8).toNat)
      case atStart => exact ⟨K9, LD, Nat.le_refl _, rfl⟩
      case round =>
        obtain ⟨m, m1, m2, rfl⟩ := hrel
        obtain ⟨i, rfl⟩ : ∃ i, m = i + 1 := ⟨m - 1, by omega⟩
        have hc := DA.out i (by omega)
        by_cases e : i + 1 = L
        · have hne : dgAt K9 n i ≠ 48 := by have := HF.out; rw [← HLL.out, ← e] at this; simpa using this
          have hne2 : (((dgAt K9 n i).toNat : Int) == 48) = false := by
            rw [beq_eq_false_iff_ne]
            intro q
            exact hne (UInt8.toNat_inj.1 (by have : (48 : UInt8).toNat = 48 := rfl; omega))
          unfold b8 at hc
          generalize dgAt K9 n i = c at hc hne2
          clear hne
          subst e
          go_wp2
          obtain ⟨B0, hB0⟩ : ∃ B0, B0 = wr.heap.size := ⟨_, rfl⟩
          have b0 : B0 ≤ wr.heap.size := by omega
          have HB0 := Lib.hid hB0
          clear hB0
          go_loopw [9, 10] (fun s9 s10 wl => ∃ t : Nat, t ≤ i + 1 ∧ s10 = .int .i64 ((i : Int) - t) ∧ Hid (wl.ownsRow B0 5 1 s9 t (((decDigits n).take t).map b8)) ∧ Below wr.heap.size wr wl) (fun _ s10 _ => (RowKit.intOf s10 + 1).toNat)
          case atStart => exact ⟨0, Nat.zero_le _, by simp, World.ownsRow_nil _ _ _ _, Below.refl _ _⟩
          case round =>
            obtain ⟨t, ht, rfl, HT, hBl⟩ := hrel
            have hBls := hBl.size
            by_cases ht2 : t < i + 1
            · obtain ⟨r, hr⟩ : ∃ r : Nat, (i : Int) - t = (r : Int) := ⟨i - t, by omega⟩
              have ri : r ≤ i := by omega
              rw [hr]
              have tr : t = i - r := by omega
              have hc3 := (hBl.cell (p := ⟨g, r, none⟩) hg2).trans (DA.out r (by omega))
              have hv : dgAt K9 n r = (decDigits n).getD t 0 := by rw [HW.out r (by omega), ← HLL.out, tr]; simp
              rw [hv] at hc3
              have TK : Hid ((decDigits n).take (t + 1) = (decDigits n).take t ++ [(decDigits n).getD t 0]) := by
                have lt : t < (decDigits n).length := by rw [← HLL.out]; exact ht2
                unfold Hid
                rw [List.take_succ_eq_append_getElem lt, List.getD_eq_getElem?_getD, List.getElem?_eq_getElem lt]; rfl
              unfold b8 at hc3
              generalize (decDigits n).getD t 0 = u at *
              have HR2 := Lib.hid hr
              clear hv hr tr hc
              go_wp2_with (at_builtin; refine wpList_append_own _ rfl _ _ 44 rfl B0 5 i0 (.int .u8 0) 1 1 Tryz.underlying44 hi0 hz0 hz1 hz2 rfl (by decide) _ t _ rfl (HT.out.alloc _) ⟨wr.heap.size, 0, none⟩ 1 1 [.int .u8 (u.toNat : Int)] rfl rfl ?d1 ?d2 ?d3 ?d4 ?d5 ?_)
              case d1 => exact (cell_one_new _ _ _)
              case d2 => simp [Value.oneCell']
              case d3 => unfold maxLen; omega
              case d4 => omega
              case d5 => simp; omega
              intro v' w3 hown3 hgrow _
              have HO4 : Hid (w3.ownsRow B0 5 1 v' (t + 1) (((decDigits n).take (t + 1)).map b8)) := by
                unfold Hid
                rw [TK.out, List.map_append, List.map_singleton, List.map_take]
                exact hown3
              have HB4 := (hBl.alloc hBls _).grown hgrow (by simp; omega) (fun k hk => by have := (HT.out.lt k hk).1; rw [← HB0.out]; exact this)
              clear hown3 hgrow
              go_wp2
              have := HR2.out
              exact ⟨⟨t + 1, by omega, congrArg _ (by omega), HO4, HB4⟩, by simp [RowKit.intOf]⟩
            · have te : t = i + 1 := by omega
              subst te
              have e1 : (i : Int) - ((i + 1 : Nat) : Int) = -1 := by omega
              rw [e1]
              obtain ⟨g2, cap2, rfl, _, _, hcap2, hcell2⟩ := own_form HT.out (by omega)
              have hcv : (convert 44 9 (.slice (some ⟨g2, 0, none⟩) (i + 1) cap2)).run Tryz.prog wr = .ok (.string ⟨(decDigits n).toArray⟩) wr := by
                have h := run_convert_bytes_back (P := Tryz.prog) wr 44 9 5 ⟨g2, 0, none⟩ cap2 (decDigits n) Tryz.underlying44 Tryz.underlying5 Tryz.underlying9 (fun j hj => by
                  have := hcell2 j (by rw [HLL.out]; exact hj)
                  rw [add_plain, Nat.zero_add, this, List.take_of_length_le (by rw [← HLL.out]; exact Nat.le_refl _), List.getD_eq_getElem?_getD, List.getElem?_eq_getElem hj]; rfl)
                rw [← HLL.out] at h
                exact h
              clear hcell2 hc e1
              go_wp2
              go_ret
              exact ⟨rfl, hB.trans (hBl.mono hBs)⟩
        · have he : dgAt K9 n i = 48 := HH.out i (by omega) (by omega)
          rw [he] at hc
          have hc2 : wr.cell? ⟨g, i, none⟩ = some (.int .u8 48) := hc
          clear he hc
          go_wp2
          refine ⟨⟨i, by omega, by omega, rfl⟩, by simp [RowKit.intOf]⟩
    · have hl1 : 0 < lx := by omega
      have jJ : j < J := by
        rcases Nat.lt_or_ge j J with g | g
        · exact g
        · have : j = J := by omega
          subst this
          rw [Nat.div_eq_of_lt H.out.2.2.2] at hx
          exact absurd hx hz
      have xb : x < BIG := by rw [hx]; exact Nat.lt_of_le_of_lt (Nat.div_le_self _ _) H.out.2.2.1
      have XB : Hid (x < BIG ∧ True) := ⟨xb, trivial⟩
      have HE := Lib.hid hx
      clear xb hx hz fx
      obtain ⟨r0, hr0⟩ : ∃ r, r = x % 1000000000 := ⟨_, rfl⟩
      have rb : r0 < 1000000000 := by omega
      have HR := Lib.hid hr0
      clear hr0
      go_wp2_with (go_at_call 70; (with_reducible refine (short_e9 _ x _ HX.out XB.out.1).mono ?_); rintro e w2 ⟨q, rfl, hq, hb2, hf⟩; rw [← HR.out]; have HQ := Lib.hid hq; have HF := Lib.hid hf; have q2 := hb2.size; clear hq hf)
      obtain ⟨oq, lq, cq, rfl, _⟩ := HQ.out.form
      obtain ⟨y, hy⟩ : ∃ y, y = x / 1000000000 := ⟨_, rfl⟩
      rw [← hy] at HQ
      have HA := Lib.hid (show Ap2 w2 (.slice oq lq cq) _ y from .inl (ap_start (w := wr) HQ.out HF.out hb2 (fun l c e => rd_lt (by rw [← e]; exact HQ.out)) HO.out))
      have HO2 := Lib.hid (own_below HO.out hb2)
      have ML := Lib.hid (own_len HO.out)
      have HY := Lib.hid hy
      have hB2 : Below w.heap.size w w2 := hB.trans (hb2.mono hBs)
      clear hy HQ HF HX
      go_loopw [4, 6, 7] (fun s4 s6 s7 wi => ∃ k : Nat, k ≤ 9 ∧ s7 = .int .i64 k ∧ s6 = .int .u32 ((r0 / 10 ^ k : Nat) : Int) ∧ Hid (wi.ownsRow w1.heap.size 5 1 s4 (9 * j + k) ((digs (9 * j) n ++ digs k r0).map b8)) ∧ Hid (Ap2 wi (.slice oq lq cq) s4 y) ∧ Below w.heap.size w wi ∧ w1.heap.size ≤ wi.heap.size) (fun _ _ s7 _ => 9 - (RowKit.intOf s7).toNat)
      case atStart => exact ⟨0, by decide, rfl, by simp, by rw [digs, List.append_nil]; exact HO2, HA, hB2, by omega⟩
      case round =>
        clear HA HO2 HO hB2
        obtain ⟨k, hk, rfl, rfl, HO2, HA, hB2, hL2⟩ := hrel
        have hBs2 := hB2.size
        by_cases hk9 : k < 9
        · obtain ⟨R, hR⟩ : ∃ R, R = r0 / 10 ^ k := ⟨_, rfl⟩
          obtain ⟨d, hd⟩ : ∃ d, d = R % 10 := ⟨_, rfl⟩
          have Rb : R < 4294967296 := by have := Nat.div_le_self r0 (10 ^ k); omega
          have d10 : d < 10 := by omega
          have E1 : Hid (digs (k + 1) r0 = digs k r0 ++ [dg8 d]) := by rw [hd, hR]; exact digs_snoc k r0
          have E2 : Hid (r0 / 10 ^ (k + 1) = R / 10) := by rw [hR, Nat.pow_succ, Nat.div_div_eq_div_mul]; exact Lib.hid rfl
          rw [← hR]
          have RB := Lib.hid (byte_dg hd Rb)
          have HD := Lib.hid hd
          clear hR hd
          have ev : b8 (dg8 d) = .int .u8 (48 + (R : Int) % 10) := by rw [b8_dg d10, HD.out]; simp
          have EV := Lib.hid ev
          clear ev
          go_wp2_with (at_builtin; refine wpList_append_own _ rfl _ _ 44 rfl w1.heap.size 5 i0 (.int .u8 0) 1 1 Tryz.underlying44 hi0 hz0 hz1 hz2 rfl (by decide) _ (9 * j + k) _ rfl (HO2.out.alloc _) ⟨wr.heap.size, 0, none⟩ 1 1 [.int .u8 (48 + (R : Int) % 10)] rfl rfl ?c1 ?c2 ?c3 ?c4 ?c5 ?_)
          case c1 => exact (cell_one_new _ _ _)
          case c2 => simp [Value.oneCell']
          case c3 => unfold maxLen; omega
          case c4 => omega
          case c5 => simp; omega
          intro v' w3 hown3 hgrow _
          have HO4 : Hid (w3.ownsRow w1.heap.size 5 1 v' (9 * j + (k + 1)) (((digs (9 * j) n ++ digs k r0) ++ [dg8 d]).map b8)) := by
            unfold Hid
            rw [List.map_append, List.map_append, List.map_singleton, EV.out, List.append_assoc]
            exact hown3
          have HA4 := Lib.hid ((HA.out.below ((Below.refl _ _).alloc (Nat.le_refl _) _)).grown hgrow HO4.out)
          have HB4 : Below w.heap.size w w3 := (hB2.alloc hBs2 _).grown hgrow (by simp; omega) (fun k hk => Nat.le_trans q1 (HO2.out.lt k hk).1)
          have HS4 := hgrow.size
          simp only [World.size_alloc] at HS4
          clear hown3 hgrow
          go_wp2
          refine ⟨⟨k + 1, by omega, by go_num, by rw [E2.out]; simp, ?_, HA4, HB4, by omega⟩, by simp [RowKit.intOf]; omega⟩
          rw [E1.out, ← List.append_assoc]
          exact HO4
        · have e9 : k = 9 := by omega
          subst e9
          have DN : Hid (digs (9 * (j + 1)) n = digs (9 * j) n ++ digs 9 r0) := by rw [HR.out, HE.out]; exact digs_next j n
          have QN : Hid (y = n / 10 ^ (9 * (j + 1))) := by rw [HY.out, HE.out]; exact quo_next j n
          have ML2 := Lib.hid (own_len HO2.out)
          go_wp2
          refine ⟨⟨j + 1, oq, lq, cq, by omega, rfl, by rw [← QN.out]; exact HA.out.isD, ?_, hB2, hL2⟩, ?_⟩
          · rw [DN.out]
            exact HO2
          · rw [ML2.out, ML.out]
            omega
end Go.Proofs.YteplhlmdaabpaaaGreatDoor
