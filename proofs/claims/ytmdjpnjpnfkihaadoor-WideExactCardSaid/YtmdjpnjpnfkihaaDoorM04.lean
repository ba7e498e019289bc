/-
  The references' decimals: rows of bytes beside a number's limbs.
  strconv.FormatUint to the base 10: the decimal digits.
  The references' whole numbers: quotient and rest.
-/
import Derived.Lib.ItoaMem
import Derived.Lib.Walk
import Derived.Lib.AppendIntMem
import Derived.WalkKit
import Derived.BigCall
import Derived.BigGuard
import Derived.Lib.Hide
import Derived.Test.YtmdjpnjpnfkihaaDoorShelf
import Derived.Test.YtmdjpnjpnfkihaaDoorM01
import Derived.Test.YtmdjpnjpnfkihaaDoorM03
namespace Go.Proofs.YtmdjpnjpnfkihaaDoor
open Go.RowKit Go.Lib

theorem info8 : (Tryd.prog.info? 5).map (fun i => (i.zero, i.size, i.bytes)) = some (some (.int .u8 0), 1, 1) := by kernel_rfl
def b8 (x : UInt8) : Value := .int .u8 (x.toNat : Int)
theorem b8_dg {d : Nat} (h : d < 10) : b8 (dg8 d) = .int .u8 (48 + (d : Int)) := by unfold b8; rw [dg8_nat h]; simp
/-- The limbs v reads as n, and lie apart from the row r. -/
def Ap (w : World) (v r : Value) (n : Nat) : Prop := IsD w v n ∧ (v = .slice none 0 0 ∨ ∃ b l c, v = .slice (some ⟨b, 0, none⟩) l c ∧ r.ownBlock ≠ some b ∧ b < w.heap.size)
theorem Ap.below {w w' : World} {v r : Value} {n : Nat} (h : Ap w v r n) (hb : Below w.heap.size w w') : Ap w' v r n := by
  refine ⟨h.1.below hb, ?_⟩
  rcases h.2 with g | ⟨b, l, c, e, g, hl⟩
  · exact .inl g
  · exact .inr ⟨b, l, c, e, g, Nat.lt_of_lt_of_le hl hb.size⟩
/-- Behind an append to the row the limbs read as they did. -/
theorem Ap.grown {w w' : World} {base m n : Nat} {v r r' : Value} {xs : List UInt8} {u : UInt8} (h : Ap w v r n) (hg : w.grownBy w' r.ownBlock) (ho : w'.ownsRow base 5 1 r' m ((xs ++ [u]).map b8)) : Ap w' v r' n ∨ (n = 0 ∧ IsD w' v 0) := by
  obtain ⟨⟨ls, hr, h1, h2, h3⟩, hf⟩ := h
  rcases hf with rfl | ⟨b, l, c, rfl, hne, hbl⟩
  · have hls : ls = [] := by
      rcases hr with ⟨_, e⟩ | ⟨_, _, _, e, _⟩
      · exact e
      · simp at e
    subst hls
    exact .inl ⟨⟨[], .inl ⟨rfl, rfl⟩, h1, h2, h3⟩, .inl rfl⟩
  · have hs := hg.size
    rcases hr with ⟨e, _⟩ | ⟨b', off, cap, e, hc, hl, hcell⟩
    · simp at e
    · simp only [Value.slice.injEq, Option.some.injEq, Addr.mk.injEq, and_true] at e
      obtain ⟨⟨rfl, rfl⟩, rfl, rfl⟩ := e
      have hcell' : ∀ i, i < ls.length → w'.cell? ⟨b, 0 + i, none⟩ = some (.int .u32 (ls.getD i 0 : Nat)) := fun i hi => hg.cell (hcell i hi) (fun e => hne e.symm)
      have HD : IsD w' (.slice (some ⟨b, 0, none⟩) ls.length c) n := ⟨ls, .inr ⟨b, 0, c, rfl, hc, Nat.lt_of_lt_of_le hbl hs, hcell'⟩, h1, h2, h3⟩
      by_cases h0 : ls = []
      · subst h0
        have : n = 0 := by rw [← h2]; rfl
        subst this
        exact .inr ⟨rfl, HD⟩
      · refine .inl ⟨HD, .inr ⟨b, _, c, rfl, fun e => ?_, Nat.lt_of_lt_of_le hbl hs⟩⟩
        have p : 0 < ls.length := by cases ls with | nil => exact absurd rfl h0 | cons a t => simp
        have c0 := hcell' 0 p
        have q : 0 < ((xs ++ [u]).map b8).length := by simp
        have c1 := ho.cells e 0 _ (List.getElem?_eq_getElem q)
        rw [show (⟨b, 0, none⟩ : Addr).add 0 = ⟨b, 0 + 0, none⟩ from add_plain b 0 0, c0] at c1
        simp only [List.getElem_map, Option.some.injEq] at c1
        unfold b8 at c1
        simp at c1
theorem IsD.form {w : World} {v : Value} {n : Nat} (h : IsD w v n) : ∃ o l c, v = .slice o l c ∧ (l = 0 ↔ n = 0) := by
  obtain ⟨ls, hr, h1, h2, h3⟩ := h
  obtain ⟨o, c, e, _⟩ := hr.form
  refine ⟨o, _, c, e, ?_⟩
  constructor
  · intro g
    have : ls = [] := List.eq_nil_of_length_eq_zero g
    subst this
    rw [← h2]; rfl
  · intro g
    by_cases h0 : ls = []
    · subst h0; rfl
    · have := lval_ge 4294967296 ls h3 h0
      have p : 0 < 4294967296 ^ (ls.length - 1) := Nat.pow_pos (by decide)
      omega
theorem IsD.zero {w w' : World} {v : Value} (h : IsD w v 0) (hs : w.heap.size ≤ w'.heap.size) : IsD w' v 0 := by
  obtain ⟨ls, hr, h1, h2, h3⟩ := h
  have h0 : ls = [] := by
    by_cases h0 : ls = []
    · exact h0
    · have := lval_ge 4294967296 ls h3 h0
      have p : 0 < 4294967296 ^ (ls.length - 1) := Nat.pow_pos (by decide)
      omega
  subst h0
  refine ⟨[], ?_, h1, h2, h3⟩
  rcases hr with h | ⟨b, off, cap, e, hc, hl, _⟩
  · exact .inl h
  · exact .inr ⟨b, off, cap, e, hc, Nat.lt_of_lt_of_le hl hs, fun i hi => by simp at hi⟩
def Ap2 (w : World) (v r : Value) (n : Nat) : Prop := Ap w v r n ∨ (n = 0 ∧ IsD w v 0)
theorem Ap2.below {w w' : World} {v r : Value} {n : Nat} (h : Ap2 w v r n) (hb : Below w.heap.size w w') : Ap2 w' v r n := by
  rcases h with h | ⟨a, b⟩
  · exact .inl (h.below hb)
  · exact .inr ⟨a, b.below hb⟩
theorem Ap2.isD {w : World} {v r : Value} {n : Nat} (h : Ap2 w v r n) : IsD w v n := by
  rcases h with h | ⟨rfl, b⟩
  · exact h.1
  · exact b
theorem Ap2.grown {w w' : World} {base m n : Nat} {v r r' : Value} {xs : List UInt8} {u : UInt8} (h : Ap2 w v r n) (hg : w.grownBy w' r.ownBlock) (ho : w'.ownsRow base 5 1 r' m ((xs ++ [u]).map b8)) : Ap2 w' v r' n := by
  rcases h with h | ⟨a, b⟩
  · exact h.grown hg ho
  · exact .inr ⟨a, b.zero hg.size⟩
noncomputable def lenV : Value → Nat
  | .slice _ l _ => l
  | _ => 0
theorem own_len {w : World} {base n : Nat} {v : Value} {xs : List Value} (h : w.ownsRow base 5 1 v n xs) : lenV v = n := by
  rcases h.2 with ⟨rfl, rfl⟩ | ⟨g, cap, cur, rfl, _⟩ <;> rfl
theorem ap_start {w w' : World} {base n m : Nat} {q r : Value} {xs : List Value} (h : IsD w' q n) (hf : q = .slice none 0 0 ∨ ∃ l c, q = .slice (some ⟨w.heap.size, 0, none⟩) l c) (_hb : Below w.heap.size w w') (hlt : ∀ l c, q = .slice (some ⟨w.heap.size, 0, none⟩) l c → w.heap.size < w'.heap.size) (ho : w.ownsRow base 5 1 r m xs) : Ap w' q r n := by
  refine ⟨h, ?_⟩
  rcases hf with g | ⟨l, c, e⟩
  · exact .inl g
  · exact .inr ⟨_, l, c, e, fun e2 => by have := (ho.lt _ e2).2; omega, hlt l c e⟩
theorem rd_lt {w : World} {b : Nat} {o l c : Nat} {n : Nat} (h : IsD w (.slice (some ⟨b, o, none⟩) l c) n) : b < w.heap.size := by
  obtain ⟨ls, hr, _⟩ := h
  rcases hr with ⟨e, _⟩ | ⟨b', off, cap, e, _, hl, _⟩
  · simp at e
  · simp only [Value.slice.injEq, Option.some.injEq, Addr.mk.injEq, and_true] at e
    obtain ⟨⟨rfl, _⟩, _⟩ := e
    exact hl
theorem short_e9 (v : Value) (n : Nat) (w : World) (h : IsD w v n) (hb : n < BIG) : Calls Tryd.prog 80 #[v, .int .u32 1000000000] w fun e w' => ∃ q, e = .returned (.tuple #[q, .int .u32 (n % 1000000000 : Nat)]) ∧ IsD w' q (n / 1000000000) ∧ Below w.heap.size w w' ∧ (q = .slice none 0 0 ∨ ∃ l c, q = .slice (some ⟨w.heap.size, 0, none⟩) l c) := short_far v n 1000000000 w h hb (by decide) (by decide)
theorem own_form {w : World} {base n : Nat} {v : Value} {xs : List UInt8} (h : w.ownsRow base 5 1 v n (xs.map b8)) (h0 : 0 < n) : ∃ g cap, v = .slice (some ⟨g, 0, none⟩) n cap ∧ base ≤ g ∧ g < w.heap.size ∧ n ≤ cap ∧ ∀ i, i < n → w.cell? ⟨g, i, none⟩ = some (b8 (xs.getD i 0)) := by
  have hl : xs.length = n := by have := h.1; simpa using this
  have hl2 := h.lt
  have hc := fun g (e : v.ownBlock = some g) => h.cells e
  rcases h.2 with ⟨rfl, rfl⟩ | ⟨g, cap, cur, rfl, hb, hg, hnc, _⟩
  · exact absurd h0 (by decide)
  · refine ⟨g, cap, rfl, hb, (hl2 g rfl).2, hnc, fun i hi => ?_⟩
    have := hc g rfl i (b8 (xs.getD i 0)) (by rw [List.getElem?_map, List.getD_eq_getElem?_getD, List.getElem?_eq_getElem (by omega)]; rfl)
    rw [add_plain, Nat.zero_add] at this
    exact this
theorem own_below {w w' : World} {base n : Nat} {e : TypeId} {v : Value} {xs : List Value} (h : w.ownsRow base e 1 v n xs) (hb : Below w.heap.size w w') : w'.ownsRow base e 1 v n xs := by
  refine ⟨h.1, ?_⟩
  rcases h.2 with hn | ⟨g, cap, cur, rfl, hg0, hgg, rest⟩
  · exact .inl hn
  · exact .inr ⟨g, cap, cur, rfl, hg0, (hb.block g (Array.getElem?_eq_some_iff.1 hgg).1).trans hgg, rest⟩
theorem byte_dg {R d : Nat} (hd : d = R % 10) (_hR : R < 4294967296) : IntKind.u8.wrap (IntKind.u32.wrap (48 + (R : Int) % 10)) = 48 + (d : Int) := by
  rw [IntKind.wrap_u8, IntKind.wrap_u32]; omega
set_option maxRecDepth 100000 in
set_option maxHeartbeats 8000000 in
theorem ntext_any (v : Value) (n J : Nat) (w : World) (h : IsN w v n) (h0 : 0 < n) (hb : n < BIG) (hJ : n < 10 ^ (9 * J)) (J0 : 0 < J) (hJ2 : J ≤ 1000) : Calls Tryd.prog 50 #[v] w fun e w' => e = .returned (.string ⟨(decDigits n).toArray⟩) ∧ Below w.heap.size w w' := by
  obtain ⟨i0, hi0, hz0, hz1, hz2⟩ := info_parts info8
  have H : Hid (IsN w v n ∧ 0 < n ∧ n < BIG ∧ n < 10 ^ (9 * J)) := ⟨h, h0, hb, hJ⟩
  clear h h0 hb hJ
  go_enter Tryd.func50, Tryd.ntmps50
  go_wp2_with (go_at_call 68; (with_reducible refine (halves_num v n _ H.out.1 H.out.2.2.1).mono ?_); rintro e w1 ⟨vx, rfl, hx, hb1⟩; obtain ⟨ox, lx, cx, rfl, fx⟩ := hx.form; have hl1 : 0 < lx := (by have := H.out.2.1; omega); have hl2 : ((lx : Int) == 0) = false := (by rw [beq_eq_false_iff_ne]; omega); have HX := Lib.hid hx; have q1 := hb1.size; clear fx hx)
  go_loopw [3, 4] (fun s3 s4 wr => ∃ (j : Nat) (ox : Option Addr) (lx cx : Nat), j ≤ J ∧ s3 = .slice ox lx cx ∧ Hid (IsD wr (.slice ox lx cx) (n / 10 ^ (9 * j))) ∧ Hid (wr.ownsRow w1.heap.size 5 1 s4 (9 * j) ((digs (9 * j) n).map b8)) ∧ Below w.heap.size w wr ∧ w1.heap.size ≤ wr.heap.size) (fun _ s4 _ => 9 * J - lenV s4)
  case atStart => exact ⟨0, ox, lx, cx, Nat.zero_le _, rfl, by rw [Nat.mul_zero, Nat.pow_zero, Nat.div_one]; exact HX, World.ownsRow_nil _ _ _ _, hb1, Nat.le_refl _⟩
  case round =>
    clear HX hl1 hl2
    obtain ⟨j, ox, lx, cx, hj, rfl, HX, HO, hB, hL⟩ := hrel
    obtain ⟨x, hx⟩ : ∃ x, x = n / 10 ^ (9 * j) := ⟨_, rfl⟩
    rw [← hx] at HX
    have fx : lx = 0 ↔ x = 0 := by obtain ⟨o, l, c, e, f⟩ := HX.out.form; simp only [Value.slice.injEq] at e; obtain ⟨_, rfl, _⟩ := e; exact f
    have hBs := hB.size
    by_cases hz : x = 0
    · have hl0 : lx = 0 := fx.2 hz
      subst hl0
      have hk : n < 10 ^ (9 * j) := by
        have p : 0 < 10 ^ (9 * j) := Nat.pow_pos (by decide)
        rw [hz] at hx
        rcases Nat.lt_or_ge n (10 ^ (9 * j)) with g | g
        · exact g
        · have := Nat.div_pos g p; omega
      have j0 : 0 < j := by
        rcases Nat.eq_zero_or_pos j with g | g
        · subst g; simp at hk; have := H.out.2.1; omega
        · exact g
      have K := Lib.hid hk
      clear hz hx fx hk
      obtain ⟨K9, hK9⟩ : ∃ K, K = 9 * j := ⟨_, rfl⟩
      have KJ : K9 ≤ 9000 := by omega
      have K0 : 0 < K9 := by omega
      rw [← hK9] at K HO
      clear hK9
      obtain ⟨g, cap, rfl, hg1, hg2, hg3, hcell⟩ := own_form HO.out K0
      have DA : Hid (∀ i, i < K9 → wr.cell? ⟨g, i, none⟩ = some (b8 (dgAt K9 n i))) := hcell
      have K0' := K0
      clear hcell
      obtain ⟨L, hL0⟩ : ∃ L, L = (decDigits n).length := ⟨_, rfl⟩
      have LD := (digs_dec K0 K.out).1
      have LP := dec_pos n
      rw [← hL0] at LD LP
      have HF := Lib.hid (dgAt_first K0 K.out H.out.2.1)
      have HH := Lib.hid (fun i (a : L ≤ i) (b : i < K9) => dgAt_high (n := n) K0 K.out (by omega) b)
      have HW := Lib.hid (fun i (a : i < L) => dgAt_low (i := i) K0 K.out (by omega))
      have HLL := Lib.hid hL0
      clear hL0
      go_wp2
      go_loop [8] (fun s8 => ∃ m : Nat, L ≤ m ∧ m ≤ K9 ∧ s8 = .int .i64 m) (fun s8 => (RowKit.intOf s8).toNat)
      case atStart => exact ⟨K9, LD, Nat.le_refl _, rfl⟩
      case round =>
        obtain ⟨m, m1, m2, rfl⟩ := hrel
        obtain ⟨i, rfl⟩ : ∃ i, m = i + 1 := ⟨m - 1, by omega⟩
        have hc := DA.out i (by omega)
        by_cases e : i + 1 = L
        · have hne : dgAt K9 n i ≠ 48 := by have := HF.out; rw [← HLL.out, ← e] at this; simpa using this
          have hne2 : (((dgAt K9 n i).toNat : Int) == 48) = false := by
            rw [beq_eq_false_iff_ne]
            intro q
            exact hne (UInt8.toNat_inj.1 (by have : (48 : UInt8).toNat = 48 := rfl; omega))
          unfold b8 at hc
          generalize dgAt K9 n i = c at hc hne2
          clear hne
          subst e
          go_wp2
          obtain ⟨B0, hB0⟩ : ∃ B0, B0 = wr.heap.size := ⟨_, rfl⟩
          have b0 : B0 ≤ wr.heap.size := by omega
          have HB0 := Lib.hid hB0
          clear hB0
          go_loopw [9, 10] (fun s9 s10 wl => ∃ t : Nat, t ≤ i + 1 ∧ s10 = .int .i64 ((i : Int) - t) ∧ Hid (wl.ownsRow B0 5 1 s9 t (((decDigits n).take t).map b8)) ∧ Below wr.heap.size wr wl) (fun _ s10 _ => (RowKit.intOf s10 + 1).toNat)
          case atStart => exact ⟨0, Nat.zero_le _, by simp, World.ownsRow_nil _ _ _ _, Below.refl _ _⟩
          case round =>
            obtain ⟨t, ht, rfl, HT, hBl⟩ := hrel
            have hBls := hBl.size
            by_cases ht2 : t < i + 1
            · obtain ⟨r, hr⟩ : ∃ r : Nat, (i : Int) - t = (r : Int) := ⟨i - t, by omega⟩
              have ri : r ≤ i := by omega
              rw [hr]
              have tr : t = i - r := by omega
              have hc3 := (hBl.cell (p := ⟨g, r, none⟩) hg2).trans (DA.out r (by omega))
              have hv : dgAt K9 n r = (decDigits n).getD t 0 := by rw [HW.out r (by omega), ← HLL.out, tr]; simp
              rw [hv] at hc3
              have TK : Hid ((decDigits n).take (t + 1) = (decDigits n).take t ++ [(decDigits n).getD t 0]) := by
                have lt : t < (decDigits n).length := by rw [← HLL.out]; exact ht2
                unfold Hid
                rw [List.take_succ_eq_append_getElem lt, List.getD_eq_getElem?_getD, List.getElem?_eq_getElem lt]; rfl
              unfold b8 at hc3
              generalize (decDigits n).getD t 0 = u at *
              have HR2 := Lib.hid hr
              clear hv hr tr hc
              go_wp2_with (at_builtin; refine wpList_append_own _ rfl _ _ 96 rfl B0 5 i0 (.int .u8 0) 1 1 Tryd.underlying96 hi0 hz0 hz1 hz2 rfl (by decide) _ t _ rfl (HT.out.alloc _) ⟨wr.heap.size, 0, none⟩ 1 1 [.int .u8 (u.toNat : Int)] rfl rfl ?d1 ?d2 ?d3 ?d4 ?d5 ?_)
              case d1 => exact (cell_one_new _ _ _)
              case d2 => simp [Value.oneCell']
              case d3 => unfold maxLen; omega
              case d4 => omega
              case d5 => simp; omega
              intro v' w3 hown3 hgrow _
              have HO4 : Hid (w3.ownsRow B0 5 1 v' (t + 1) (((decDigits n).take (t + 1)).map b8)) := by
                unfold Hid
                rw [TK.out, List.map_append, List.map_singleton, List.map_take]
                exact hown3
              have HB4 := (hBl.alloc hBls _).grown hgrow (by simp; omega) (fun k hk => by have := (HT.out.lt k hk).1; rw [← HB0.out]; exact this)
              clear hown3 hgrow
              go_wp2
              have := HR2.out
              exact ⟨⟨t + 1, by omega, congrArg _ (by omega), HO4, HB4⟩, by simp [RowKit.intOf]⟩
            · have te : t = i + 1 := by omega
              subst te
              have e1 : (i : Int) - ((i + 1 : Nat) : Int) = -1 := by omega
              rw [e1]
              obtain ⟨g2, cap2, rfl, _, _, hcap2, hcell2⟩ := own_form HT.out (by omega)
              have hcv : (convert 96 9 (.slice (some ⟨g2, 0, none⟩) (i + 1) cap2)).run Tryd.prog wr = .ok (.string ⟨(decDigits n).toArray⟩) wr := by
                have h := run_convert_bytes_back (P := Tryd.prog) wr 96 9 5 ⟨g2, 0, none⟩ cap2 (decDigits n) Tryd.underlying96 Tryd.underlying5 Tryd.underlying9 (fun j hj => by
                  have := hcell2 j (by rw [HLL.out]; exact hj)
                  rw [add_plain, Nat.zero_add, this, List.take_of_length_le (by rw [← HLL.out]; exact Nat.le_refl _), List.getD_eq_getElem?_getD, List.getElem?_eq_getElem hj]; rfl)
                rw [← HLL.out] at h
                exact h
              clear hcell2 hc e1
              go_wp2
              go_ret
              exact ⟨rfl, hB.trans (hBl.mono hBs)⟩
        · have he : dgAt K9 n i = 48 := HH.out i (by omega) (by omega)
          rw [he] at hc
          have hc2 : wr.cell? ⟨g, i, none⟩ = some (.int .u8 48) := hc
          clear he hc
          go_wp2
          refine ⟨⟨i, by omega, by omega, rfl⟩, by simp [RowKit.intOf]⟩
    · have hl1 : 0 < lx := by omega
      have jJ : j < J := by
        rcases Nat.lt_or_ge j J with g | g
        · exact g
        · have : j = J := by omega
          subst this
          rw [Nat.div_eq_of_lt H.out.2.2.2] at hx
          exact absurd hx hz
      have xb : x < BIG := by rw [hx]; exact Nat.lt_of_le_of_lt (Nat.div_le_self _ _) H.out.2.2.1
      have XB : Hid (x < BIG ∧ True) := ⟨xb, trivial⟩
      have HE := Lib.hid hx
      clear xb hx hz fx
      obtain ⟨r0, hr0⟩ : ∃ r, r = x % 1000000000 := ⟨_, rfl⟩
      have rb : r0 < 1000000000 := by omega
      have HR := Lib.hid hr0
      clear hr0
      go_wp2_with (go_at_call 80; (with_reducible refine (short_e9 _ x _ HX.out XB.out.1).mono ?_); rintro e w2 ⟨q, rfl, hq, hb2, hf⟩; rw [← HR.out]; have HQ := Lib.hid hq; have HF := Lib.hid hf; have q2 := hb2.size; clear hq hf)
      obtain ⟨oq, lq, cq, rfl, _⟩ := HQ.out.form
      obtain ⟨y, hy⟩ : ∃ y, y = x / 1000000000 := ⟨_, rfl⟩
      rw [← hy] at HQ
      have HA := Lib.hid (show Ap2 w2 (.slice oq lq cq) _ y from .inl (ap_start (w := wr) HQ.out HF.out hb2 (fun l c e => rd_lt (by rw [← e]; exact HQ.out)) HO.out))
      have HO2 := Lib.hid (own_below HO.out hb2)
      have ML := Lib.hid (own_len HO.out)
      have HY := Lib.hid hy
      have hB2 : Below w.heap.size w w2 := hB.trans (hb2.mono hBs)
      clear hy HQ HF HX
      go_loopw [4, 6, 7] (fun s4 s6 s7 wi => ∃ k : Nat, k ≤ 9 ∧ s7 = .int .i64 k ∧ s6 = .int .u32 ((r0 / 10 ^ k : Nat) : Int) ∧ Hid (wi.ownsRow w1.heap.size 5 1 s4 (9 * j + k) ((digs (9 * j) n ++ digs k r0).map b8)) ∧ Hid (Ap2 wi (.slice oq lq cq) s4 y) ∧ Below w.heap.size w wi ∧ w1.heap.size ≤ wi.heap.size) (fun _ _ s7 _ => 9 - (RowKit.intOf s7).toNat)
      case atStart => exact ⟨0, by decide, rfl, by simp, by rw [digs, List.append_nil]; exact HO2, HA, hB2, by omega⟩
      case round =>
        clear HA HO2 HO hB2
        obtain ⟨k, hk, rfl, rfl, HO2, HA, hB2, hL2⟩ := hrel
        have hBs2 := hB2.size
        by_cases hk9 : k < 9
        · obtain ⟨R, hR⟩ : ∃ R, R = r0 / 10 ^ k := ⟨_, rfl⟩
          obtain ⟨d, hd⟩ : ∃ d, d = R % 10 := ⟨_, rfl⟩
          have Rb : R < 4294967296 := by have := Nat.div_le_self r0 (10 ^ k); omega
          have d10 : d < 10 := by omega
          have E1 : Hid (digs (k + 1) r0 = digs k r0 ++ [dg8 d]) := by rw [hd, hR]; exact digs_snoc k r0
          have E2 : Hid (r0 / 10 ^ (k + 1) = R / 10) := by rw [hR, Nat.pow_succ, Nat.div_div_eq_div_mul]; exact Lib.hid rfl
          rw [← hR]
          have RB := Lib.hid (byte_dg hd Rb)
          have HD := Lib.hid hd
          clear hR hd
          have ev : b8 (dg8 d) = .int .u8 (48 + (R : Int) % 10) := by rw [b8_dg d10, HD.out]; simp
          have EV := Lib.hid ev
          clear ev
          go_wp2_with (at_builtin; refine wpList_append_own _ rfl _ _ 96 rfl w1.heap.size 5 i0 (.int .u8 0) 1 1 Tryd.underlying96 hi0 hz0 hz1 hz2 rfl (by decide) _ (9 * j + k) _ rfl (HO2.out.alloc _) ⟨wr.heap.size, 0, none⟩ 1 1 [.int .u8 (48 + (R : Int) % 10)] rfl rfl ?c1 ?c2 ?c3 ?c4 ?c5 ?_)
          case c1 => exact (cell_one_new _ _ _)
          case c2 => simp [Value.oneCell']
          case c3 => unfold maxLen; omega
          case c4 => omega
          case c5 => simp; omega
          intro v' w3 hown3 hgrow _
          have HO4 : Hid (w3.ownsRow w1.heap.size 5 1 v' (9 * j + (k + 1)) (((digs (9 * j) n ++ digs k r0) ++ [dg8 d]).map b8)) := by
            unfold Hid
            rw [List.map_append, List.map_append, List.map_singleton, EV.out, List.append_assoc]
            exact hown3
          have HA4 := Lib.hid ((HA.out.below ((Below.refl _ _).alloc (Nat.le_refl _) _)).grown hgrow HO4.out)
          have HB4 : Below w.heap.size w w3 := (hB2.alloc hBs2 _).grown hgrow (by simp; omega) (fun k hk => Nat.le_trans q1 (HO2.out.lt k hk).1)
          have HS4 := hgrow.size
          simp only [World.size_alloc] at HS4
          clear hown3 hgrow
          go_wp2
          refine ⟨⟨k + 1, by omega, by go_num, by rw [E2.out]; simp, ?_, HA4, HB4, by omega⟩, by simp [RowKit.intOf]; omega⟩
          rw [E1.out, ← List.append_assoc]
          exact HO4
        · have e9 : k = 9 := by omega
          subst e9
          have DN : Hid (digs (9 * (j + 1)) n = digs (9 * j) n ++ digs 9 r0) := by rw [HR.out, HE.out]; exact digs_next j n
          have QN : Hid (y = n / 10 ^ (9 * (j + 1))) := by rw [HY.out, HE.out]; exact quo_next j n
          have ML2 := Lib.hid (own_len HO2.out)
          go_wp2
          refine ⟨⟨j + 1, oq, lq, cq, by omega, rfl, by rw [← QN.out]; exact HA.out.isD, ?_, hB2, hL2⟩, ?_⟩
          · rw [DN.out]
            exact HO2
          · rw [ML2.out, ML.out]
            omega
end Go.Proofs.YtmdjpnjpnfkihaaDoor
namespace Go.Proofs.YtmdjpnjpnfkihaaDoor
open Go.RowKit Go.Sort Go.Lib

theorem fin_pos0 (w : World) (o : Obj) (dk : Array UInt8) (k : Nat) : ∃ os, (putRow (fun (b : UInt8) => Value.int .u8 (b.toNat : Int)) (w.alloc o) w.heap.size 0 dk).drewN k = grow (w.drewN k) os := by
  rw [alloc_eq_grow]
  obtain ⟨os', _, e⟩ := putRow_grow_new (fun (b : UInt8) => Value.int .u8 (b.toNat : Int)) w #[o] w.heap.size 0 dk (Nat.le_refl _)
  exact ⟨os', by rw [e]; rfl⟩
set_option maxHeartbeats 6400000 in
set_option maxRecDepth 100000 in
theorem fu_in (u : Nat) (hu64 : u < 18446744073709551616) (w : World) (htab : Lib.TabIs Tryd.prog w "internal/strconv.uint64pow10" .u64 Lib.pow10Tab) :
    Calls Tryd.prog 73 #[.int .u64 u, .int .i64 10] w fun e w' => e = .returned (.string ⟨(Lib.decDigits u).toArray⟩) ∧ Below w.heap.size w w' := by
  by_cases hi : u < 100
  · go_enter Tryd.func73, Tryd.ntmps73
    go_wp2_with (go_at_call 92; refine (Tryd.internal_strconv_small u hi _).mono ?_; rintro e w' ⟨rfl, rfl⟩)
    go_ret
    exact ⟨rfl, Below.refl _ _⟩
  · have hu1 : 1 ≤ u := by omega
    have hnd20 : Lib.nDigits u ≤ 20 := by have := Lib.numDigits_eq u hu1 hu64; split at this <;> omega
    have hal : Tryd.prog.arrayLen 133 = 24 := by kernel_rfl
    have hsl1 : ∀ W, (Instr.sliceAt 133 (.pointer (some ⟨w.heap.size, 0, none⟩)) none (some (.int .i64 (Lib.nDigits u : Int))) none).run Tryd.prog W = .ok (.slice (some ⟨w.heap.size, 0, none⟩) (Lib.nDigits u) 24) W := fun W => by
      rw [run_sliceAt_array_h W 133 ⟨w.heap.size, 0, none⟩ (by kernel_rfl) .i64 (Lib.nDigits u : Int) (by omega) (by rw [hal]; omega)]
      go_simp
    have hH0 := holds_zero0 w 133 (Lib.nDigits u) (by omega)
    have hfmt := Tryd.internal_strconv_formatBase10 w.heap.size 0 24 u (Array.replicate (Lib.nDigits u) 0) (w.alloc (.cells Lib.zeros24 133)) hH0 (by rw [Array.size_replicate]; exact Lib.lt_pow_nDigits u) hu64 (by rw [Array.size_replicate]; omega)
    rw [Array.size_replicate] at hfmt
    have HH0 := Lib.hid hH0
    clear hH0 hal
    go_enter Tryd.func73, Tryd.ntmps73
    go_wp2_with (first
      | (go_at_call 93; refine (Tryd.internal_strconv_numDigits u hu1 hu64 _ (Lib.tabIs_alloc htab _)).mono ?_; rintro e w' ⟨rfl, rfl⟩))
    go_at_call 94
    refine hfmt.mono ?_
    rintro e w' ⟨rfl, k, v', dk, rfl, hF⟩
    have hcv : (convert 96 9 (.slice (some ⟨w.heap.size, 0, none⟩) (Lib.nDigits u) 24)).run Tryd.prog ((putRow (fun (b : UInt8) => Value.int .u8 (b.toNat : Int)) (w.alloc (.cells Lib.zeros24 133)) w.heap.size 0 dk).drewN k) = .ok (.string ⟨(Lib.decDigits u).toArray⟩) ((putRow (fun (b : UInt8) => Value.int .u8 (b.toNat : Int)) (w.alloc (.cells Lib.zeros24 133)) w.heap.size 0 dk).drewN k) := by
      have h := run_convert_bytes_back (P := Tryd.prog) ((putRow (fun (b : UInt8) => Value.int .u8 (b.toNat : Int)) (w.alloc (.cells Lib.zeros24 133)) w.heap.size 0 dk).drewN k) 96 9 5 ⟨w.heap.size, 0, none⟩ 24 (Lib.decDigits u) Tryd.underlying96 Tryd.underlying5 Tryd.underlying9 (fun j hj => by
        rw [Lib.row_is_numeral hF j hj, Lib.add_plain, World.cell?_drewN]
        exact cell?_putRow (fun (b : UInt8) => Value.int .u8 (b.toNat : Int)) _ w.heap.size 0 _ dk HH0.out (by rw [hF.size, Array.size_replicate]) j (by rw [hF.size]; rw [Lib.decDigits_length] at hj; exact hj))
      rw [Lib.decDigits_length] at h
      exact h
    go_wp2
    go_ret
    obtain ⟨os, eo⟩ := fin_pos0 w (.cells Lib.zeros24 133) dk k
    refine ⟨rfl, ?_⟩
    rw [eo]
    exact below_grow _ w (Nat.le_refl _) k os
set_option maxHeartbeats 6400000 in
theorem fu_any (u : Nat) (hu64 : u < 18446744073709551616) (w : World) (htab : Lib.TabIs Tryd.prog w "internal/strconv.uint64pow10" .u64 Lib.pow10Tab) :
    Calls Tryd.prog 48 #[.int .u64 u, .int .i64 10] w fun e w' => e = .returned (.string ⟨(Lib.decDigits u).toArray⟩) ∧ Below w.heap.size w w' := by
  have H := Lib.hid htab
  clear htab
  go_enter Tryd.func48, Tryd.ntmps48
  go_wp2_with (go_at_call 73; (with_reducible refine (fu_in u hu64 _ H.out).mono ?_); rintro e w' ⟨rfl, hb⟩)
  go_ret
  exact ⟨rfl, hb⟩
end Go.Proofs.YtmdjpnjpnfkihaaDoor
namespace Go.Proofs.YtmdjpnjpnfkihaaDoor
open Go.RowKit

/-- A row of limbs that the call has made: cells that may be written. -/
def Cells64 (W : World) (g : Nat) (es : List Nat) : Prop := g < W.heap.size ∧ ∀ j, j < es.length → W.cell? ⟨g, j, none⟩ = some (.int .u64 (es.getD j 0 : Nat)) ∧ W.frozen? ⟨g, j, none⟩ = false
theorem Cells64.set {W : World} {g : Nat} {es : List Nat} (h : Cells64 W g es) (j v : Nat) (hj : j < es.length) : Cells64 (W.setCell ⟨g, j, none⟩ (.int .u64 (v : Nat))) g (es.set j v) := by
  refine ⟨by simpa [World.setCell] using h.1, fun m hm => ?_⟩
  rw [List.length_set] at hm
  obtain ⟨h1, h2⟩ := h.2 m hm
  refine ⟨?_, by rw [World.frozen?_setCell]; exact h2⟩
  rw [getD_set _ _ _ _ hj]
  by_cases e : m = j
  · subst e; rw [if_pos rfl]; simp [go_sem, h1]
  · rw [if_neg e]
    have : ¬ j = m := fun h => e h.symm
    simp [go_sem, h1]
theorem Cells64.drew {W : World} {g : Nat} {es : List Nat} (h : Cells64 W g es) : Cells64 W.drew g es := h
theorem Cells64.below {W W' : World} {g : Nat} {es : List Nat} (h : Cells64 W g es) (hb : Below W.heap.size W W') : Cells64 W' g es := by
  refine ⟨Nat.lt_of_lt_of_le h.1 hb.size, fun m hm => ?_⟩
  obtain ⟨h1, h2⟩ := h.2 m hm
  exact ⟨(hb.cell (p := ⟨g, m, none⟩) h.1).trans h1, (hb.frozen (p := ⟨g, m, none⟩) h.1).trans h2⟩
theorem Cells64.rd {W : World} {g cap : Nat} {es : List Nat} (h : Cells64 W g es) (hc : es.length ≤ cap) : Rd .u64 W (.slice (some ⟨g, 0, none⟩) es.length cap) es :=
  .inr ⟨g, 0, cap, rfl, hc, h.1, fun i hi => by rw [Nat.zero_add]; exact (h.2 i hi).1⟩
theorem cells64_made (w : World) (n : Nat) : Cells64 (w.alloc (.cells (madeCells #[.int .u64 0] n) 23)) w.heap.size (List.replicate n 0) := by
  refine ⟨by simp, fun j hj => ?_⟩
  simp at hj
  have g : (List.replicate n 0).getD j 0 = 0 := by simp only [List.getD_eq_getElem?_getD, List.getElem?_replicate]; split <;> rfl
  rw [g]
  refine ⟨?_, by simp [go_sem]⟩
  rw [World.cell?_alloc_new]
  simp [madeCells, hj, Nat.mod_one]
/-- A write into a block that a number does not lie in. -/
theorem IsN.set_far {W : World} {v u : Value} {n g j : Nat} (h : IsN W v n) (hg : v.ownBlock ≠ some g) : IsN (W.setCell ⟨g, j, none⟩ u) v n := by
  obtain ⟨ls, r, h2⟩ := h
  refine ⟨ls, ?_, h2⟩
  rcases r with ⟨rfl, rfl⟩ | ⟨b, off, cap, rfl, hc, hl, hr⟩
  · exact .inl ⟨rfl, rfl⟩
  · have hne : b ≠ g := fun e => hg (by rw [e]; rfl)
    refine .inr ⟨b, off, cap, rfl, hc, by simpa [World.setCell] using hl, fun i hi => ?_⟩
    refine (World.cell?_setCell_other _ _ _ _ fun e => ?_).trans (hr i hi)
    simp only [Addr.mk.injEq] at e
    exact hne e.1.symm
theorem IsN.own_lt {W : World} {v : Value} {n b : Nat} (h : IsN W v n) (hv : v.ownBlock = some b) : b < W.heap.size := by
  obtain ⟨ls, r, _⟩ := h
  rcases r with ⟨rfl, rfl⟩ | ⟨b', off, cap, rfl, hc, hl, hr⟩
  · simp [Value.ownBlock] at hv
  · simp [Value.ownBlock] at hv; omega
theorem zeros_val (n : Nat) : lval 18446744073709551616 (List.replicate n 0) = 0 := by
  induction n with
  | zero => rfl
  | succ n ih => simp [List.replicate_succ, lval, ih]
/-- Beyond all numbers that are divided. -/
def MID : Nat := 2 ^ 65536
theorem mul_pow_lt {a b : Nat} (k m n : Nat) (ha : a ≤ 2 ^ k) (hb : b ≤ 2 ^ m) (h : k + m < n) : a * b < 2 ^ n := by
  have p := Nat.mul_le_mul ha hb
  rw [← Nat.pow_add] at p
  exact Nat.lt_of_le_of_lt p (Nat.pow_lt_pow_right (by decide) h)
theorem mid_of {n k : Nat} (h : n < 2 ^ k) (hk : k ≤ 65536) : n < MID := by
  unfold MID
  exact Nat.lt_of_lt_of_le h (pow2_mono k 65536 hk)
theorem mid_big {n : Nat} (h : n < MID) : n < BIG := by
  unfold MID at h
  exact big_of h (by decide)
theorem mid_bn {n : Nat} (h : n < MID) : bn n ≤ 65536 := by
  unfold MID at h
  exact bn_le h
/-- What holds at each round: the quotient so far, the rest, the divisor moved. -/
def QInv (a b q r d j : Nat) : Prop := a = q * b + r ∧ r < b * 2 ^ j ∧ q % 2 ^ j = 0 ∧ d = b * 2 ^ j / 2
theorem qinv_start {a b : Nat} (hb : b ≠ 0) {n : Nat} (hn : bn a = n + bn b) : QInv a b 0 a (b * 2 ^ n) (n + 1) := by
  have h1 := bn_lt a
  have h2 := bn_ge hb
  have hb1 : 1 ≤ bn b := by
    rcases Nat.eq_zero_or_pos (bn b) with h | h
    · have := bn_lt b; rw [h] at this; simp at this; omega
    · exact h
  refine ⟨by omega, ?_, by simp, ?_⟩
  · refine Nat.lt_of_lt_of_le h1 ?_
    have := Nat.mul_le_mul_right (2 ^ (n + 1)) h2
    rw [← Nat.pow_add, show bn b - 1 + (n + 1) = bn a by omega] at this
    exact this
  · rw [Nat.pow_succ, ← Nat.mul_assoc, Nat.mul_div_cancel _ (by decide)]
theorem qinv_more {a b q r d j : Nat} (h : QInv a b q r d (j + 1)) (hd : d ≤ r) : QInv a b (q + 2 ^ j) (r - d) (d / 2) j := by
  obtain ⟨h1, h2, h3, h4⟩ := h
  have e : d = b * 2 ^ j := by rw [h4, Nat.pow_succ, ← Nat.mul_assoc, Nat.mul_div_cancel _ (by decide)]
  rw [Nat.pow_succ, ← Nat.mul_assoc] at h2
  refine ⟨?_, by omega, ?_, by rw [e]⟩
  · rw [Nat.add_mul, Nat.mul_comm (2 ^ j), ← e]; omega
  · have hd : 2 ^ j ∣ q := Nat.dvd_trans (Nat.pow_dvd_pow 2 (Nat.le_succ j)) (Nat.dvd_of_mod_eq_zero h3)
    exact Nat.mod_eq_zero_of_dvd (Nat.dvd_add hd (Nat.dvd_refl _))
theorem qinv_less {a b q r d j : Nat} (h : QInv a b q r d (j + 1)) (hd : r < d) : QInv a b q r (d / 2) j := by
  obtain ⟨h1, h2, h3, h4⟩ := h
  have e : d = b * 2 ^ j := by rw [h4, Nat.pow_succ, ← Nat.mul_assoc, Nat.mul_div_cancel _ (by decide)]
  refine ⟨h1, by omega, ?_, by rw [e]⟩
  exact Nat.mod_eq_zero_of_dvd (Nat.dvd_trans (Nat.pow_dvd_pow 2 (Nat.le_succ j)) (Nat.dvd_of_mod_eq_zero h3))
theorem qinv_end {a b q r d : Nat} (h : QInv a b q r d 0) : q = a / b ∧ r = a % b := by
  obtain ⟨h1, h2, _, _⟩ := h
  rw [Nat.pow_zero, Nat.mul_one] at h2
  have hb : 0 < b := by omega
  rw [h1]
  refine ⟨?_, ?_⟩
  · rw [Nat.mul_comm q b, Nat.mul_add_div hb, Nat.div_eq_of_lt h2, Nat.add_zero]
  · rw [Nat.mul_comm q b, Nat.mul_add_mod, Nat.mod_eq_of_lt h2]
/-- The next bit of the quotient, put into its limb. -/
theorem bit_put {es : List Nat} {q j k s : Nat} (hx : ∀ x ∈ es, x < 18446744073709551616) (hv : lval 18446744073709551616 es = q) (hq : q % 2 ^ (j + 1) = 0) (hj : j = 64 * k + s) (hs : s < 64) (hk : k < es.length) :
    bits BinOp.or IntKind.u64 (es.getD k 0 : Nat) ((2 ^ s : Nat) : Int) = ((es.getD k 0 + 2 ^ s : Nat) : Int) ∧ es.getD k 0 + 2 ^ s < 18446744073709551616 ∧ lval 18446744073709551616 (es.set k (es.getD k 0 + 2 ^ s)) = q + 2 ^ j ∧ ∀ x ∈ es.set k (es.getD k 0 + 2 ^ s), x < 18446744073709551616 := by
  have hl := limb_at hx k
  rw [hv] at hl
  obtain ⟨M, hM⟩ := Nat.dvd_of_mod_eq_zero hq
  have pk : (18446744073709551616 : Nat) ^ k = 2 ^ (64 * k) := by rw [b64, ← Nat.pow_mul]
  have e1 : q / 18446744073709551616 ^ k = 2 ^ (s + 1) * M := by
    rw [hM, pk, hj, show 64 * k + s + 1 = 64 * k + (s + 1) by omega, Nat.pow_add, Nat.mul_assoc, Nat.mul_div_cancel_left _ (Nat.two_pow_pos _)]
  have e2 : (2 : Nat) ^ (s + 1) * 2 ^ (63 - s) = 18446744073709551616 := by rw [← Nat.pow_add, show s + 1 + (63 - s) = 64 by omega]
  have e3 : 2 ^ (s + 1) * M % 18446744073709551616 = 2 ^ (s + 1) * (M % 2 ^ (63 - s)) := by
    have h := Nat.mul_mod_mul_left (2 ^ (s + 1)) M (2 ^ (63 - s))
    rw [e2] at h
    exact h
  rw [e1, e3] at hl
  have m := Nat.mod_lt M (Nat.two_pow_pos (63 - s))
  have m2 := Nat.mul_le_mul_left (2 ^ (s + 1)) (show M % 2 ^ (63 - s) + 1 ≤ 2 ^ (63 - s) from m)
  rw [Nat.mul_add, Nat.mul_one, e2, hl] at m2
  have ps : (2 : Nat) ^ (s + 1) = 2 * 2 ^ s := by rw [Nat.pow_succ, Nat.mul_comm]
  have pp : (0 : Nat) < 2 ^ s := Nat.two_pow_pos s
  have lt : es.getD k 0 + 2 ^ s < 18446744073709551616 := by omega
  refine ⟨?_, lt, ?_, ?_⟩
  · rw [u64_or_nat _ _ (by omega) (by omega)]
    congr 1
    rw [← hl]
    exact (Nat.two_pow_add_eq_or_of_lt (i := s + 1) (b := 2 ^ s) (by omega) _).symm
  · have h := lval_set 18446744073709551616 es k (es.getD k 0 + 2 ^ s) hk
    rw [hv, Nat.mul_add] at h
    have e4 : 18446744073709551616 ^ k * 2 ^ s = 2 ^ j := by rw [pk, ← Nat.pow_add, hj]
    omega
  · intro x hxm
    rcases List.mem_or_eq_of_mem_set hxm with h | h
    · exact hx x h
    · rw [h]; exact lt

theorem bn_less {a b : Nat} (h : bn a < bn b) : a < b := by
  have h1 := bn_lt a
  have hb : b ≠ 0 := fun e => by rw [e] at h; simp [bn] at h
  have h2 := bn_ge hb
  have := Nat.pow_le_pow_right (show 0 < 2 by decide) (show bn a ≤ bn b - 1 by omega)
  omega
theorem dig_many {ls : List Nat} (h2 : ∀ x ∈ ls, x < 4294967296) (h : 4294967296 ≤ lval 4294967296 ls) : ((ls.length : Int) == 1) = false := by
  rw [beq_eq_false_iff_ne]
  intro e
  have e1 : ls.length = 1 := by omega
  match ls, e1 with
  | [y], _ =>
    have := h2 y (by simp)
    simp [lval] at h
    omega
theorem dig_one {ls : List Nat} (_h2 : ∀ x ∈ ls, x < 4294967296) (h3 : trimLen ls = ls.length) (h : lval 4294967296 ls < 4294967296) (h0 : lval 4294967296 ls ≠ 0) : ∃ y, ls = [y] ∧ y = lval 4294967296 ls := by
  match ls, h3, h, h0 with
  | [], _, _, h0 => exact absurd rfl h0
  | [y], _, _, _ => exact ⟨y, rfl, by simp [lval]⟩
  | x :: y :: zs, h3, h, _ =>
    have := lval_ge 4294967296 (x :: y :: zs) h3 (by simp)
    have p := Nat.pow_le_pow_right (show 0 < 4294967296 by decide) (show 1 ≤ (x :: y :: zs).length - 1 by simp)
    rw [Nat.pow_one] at p
    omega
theorem lval_one (B x : Nat) : lval B [x] = x := by simp [lval]
theorem down2_1 (va : Value) (a : Nat) (w : World) (ha : IsN w va a) (la : a < BIG) : Calls Tryd.prog 91 #[va, .int .i64 1] w (SomeNF w (a / 2)) := by
  have h := down2_far va a 1 w ha la (by decide)
  rw [Nat.pow_one] at h
  exact h
/-- whole, of digits that are a number -/
theorem whole_isd (v : Value) (n : Nat) (w : World) (h : IsD w v n) (hb : n < BIG) : Calls Tryd.prog 69 #[v] w (SomeN w n) := by
  obtain ⟨ls, r, h1, h2, h3⟩ := h
  have := len_d h3 (by rw [h2]; exact hb)
  rw [← h2]
  exact whole_num v ls w r h1 (by omega)
/-- What a division answers. -/
def SomeQR (w : World) (q r : Nat) (e : Ending) (w' : World) : Prop := ∃ u v, e = .returned (.tuple #[u, v]) ∧ IsN w' u q ∧ IsN w' v r ∧ Below w.heap.size w w'

end Go.Proofs.YtmdjpnjpnfkihaaDoor
