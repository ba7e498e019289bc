/-
  fx's texts split: digits, the sign, the point.
  fx.Parse: a text as a word.
  The reference's digits of a text from a place on.
-/
import Derived.Test.YteplhlmdaabpaaaGreatDoorShelf
import Derived.Shelf.Strings.SlTrimAscii
import Derived.Test.YteplhlmdaabpaaaGreatDoorM22
namespace Go.Proofs.YteplhlmdaabpaaaGreatDoor
open Go.RowKit Go.Shelf

def isD8 (b : UInt8) : Bool := [48, 49, 50, 51, 52, 53, 54, 55, 56, 57].contains b
def cs10 : ByteArray := ⟨#[48, 49, 50, 51, 52, 53, 54, 55, 56, 57]⟩
theorem dw_nil (p : UInt8 → Bool) : ∀ l : List UInt8, l.dropWhile p = [] ↔ l.all p = true
  | [] => by simp
  | a :: t => by
    have := dw_nil p t
    by_cases h : p a = true
    · simp [List.dropWhile, h, this]
    · simp [List.dropWhile, h]
theorem dw_all (p : UInt8 → Bool) : ∀ l : List UInt8, (l.dropWhile p).all p = l.all p
  | [] => rfl
  | a :: t => by
    have := dw_all p t
    by_cases h : p a = true
    · simp [List.dropWhile, h, this]
    · simp [List.dropWhile, h]
theorem strim_nil (l cs : List UInt8) : Lib.trimS l cs = [] ↔ l.all (cs.contains ·) = true := by
  unfold Lib.trimS Lib.trimLeftS Lib.trimRightS
  rw [dw_nil, List.all_reverse, dw_all, List.all_reverse]
theorem all_digits {l : List UInt8} (h : l.all isD8 = true) : ∃ D : List Nat, (∀ d ∈ D, d ≤ 9) ∧ l = D.map (fun d => UInt8.ofNat (48 + d)) := by
  induction l with
  | nil => exact ⟨[], by simp, rfl⟩
  | cons a t ih =>
    simp only [List.all_cons, Bool.and_eq_true] at h
    obtain ⟨D, h1, h2⟩ := ih h.2
    have ha : 48 ≤ a.toNat ∧ a.toNat ≤ 57 := by
      have := h.1
      unfold isD8 at this
      simp only [List.contains_cons, List.contains_nil, Bool.or_false, Bool.or_eq_true, beq_iff_eq] at this
      rcases this with h | h | h | h | h | h | h | h | h | h <;> subst h <;> decide
    refine ⟨(a.toNat - 48) :: D, ?_, ?_⟩
    · intro d hd
      simp only [List.mem_cons] at hd
      rcases hd with rfl | hd
      · omega
      · exact h1 d hd
    · rw [List.map_cons, ← h2, show 48 + (a.toNat - 48) = a.toNat by omega]
      simp
theorem info116 : (Tryz.prog.info? 127).map (fun i => (i.zero, i.size)) = some (some (.agg (Array.replicate 256 (.bool false))), 256) := by kernel_rfl
theorem strim_any (s : ByteArray) (w : World) (hs : s.size ≤ 65536) : Calls Tryz.prog 62 #[.string s, .string cs10] w fun e w' => e = .returned (.string ⟨(Lib.trimS s.data.toList cs10.data.toList).toArray⟩) ∧ Below w.heap.size w w' :=
  Any.strings_Trim_laid Tryz.lays160 info116 s cs10 w (by omega) (by decide) (ascii_of_all (by decide))

set_option maxRecDepth 100000 in
set_option maxHeartbeats 4000000 in
theorem digits_any (s : ByteArray) (w : World) (hs : s.size ≤ 65536) : Calls Tryz.prog 39 #[.string s] w fun e w' => e = .returned (.bool (!s.data.toList.isEmpty && s.data.toList.all isD8)) ∧ Below w.heap.size w w' := by
  have TR := Lib.hid (fun W : World => strim_any s W hs)
  have e1 : s.toList = s.data.toList := Lib.toList_data s
  have e2 : (⟨(Lib.trimS s.data.toList cs10.data.toList).toArray⟩ : ByteArray).toList.isEmpty = s.data.toList.all isD8 := by
    rw [Lib.toList_data]
    have h := strim_nil s.data.toList cs10.data.toList
    show (Lib.trimS s.data.toList cs10.data.toList).isEmpty = s.data.toList.all (cs10.data.toList.contains ·)
    cases g : s.data.toList.all (cs10.data.toList.contains ·) with
    | true => rw [h.2 g]; rfl
    | false =>
      cases k : Lib.trimS s.data.toList cs10.data.toList with
      | nil => rw [h.1 k] at g; cases g
      | cons _ _ => rfl
  generalize (⟨(Lib.trimS s.data.toList cs10.data.toList).toArray⟩ : ByteArray) = Z at *
  rw [← e1] at e2 ⊢
  unfold cs10 at TR
  have E2 := Lib.hid e2
  clear e1 e2
  by_cases h : s.toList = []
  · go_enter Tryz.func39, Tryz.ntmps39
    go_wp2_with fail
    go_ret
    exact ⟨by rw [h]; rfl, Below.refl _ _⟩
  · have h2 : s.toList.isEmpty = false := by cases g : s.toList with | nil => exact absurd g h | cons _ _ => rfl
    go_enter Tryz.func39, Tryz.ntmps39
    go_wp2_with (first | (go_at_call 62; (with_reducible refine (TR.out _).mono ?_); rintro e w' ⟨rfl, hb⟩) | fail)
    go_ret
    exact ⟨by rw [← E2.out, h2]; rfl, hb⟩

theorem idx_cases : ∀ (l : List UInt8) (c : UInt8), (Lib.indexByte l c = -1 ∧ c ∉ l) ∨ ∃ a b, l = a ++ c :: b ∧ c ∉ a ∧ Lib.indexByte l c = (a.length : Int)
  | [], c => .inl ⟨rfl, by simp⟩
  | x :: t, c => by
    by_cases h : x = c
    · subst h
      exact .inr ⟨[], t, rfl, by simp, by simp [Lib.indexByte]⟩
    · have hb : (x == c) = false := by rw [beq_eq_false_iff_ne]; exact h
      rcases idx_cases t c with ⟨h1, h2⟩ | ⟨a, b, h1, h2, h3⟩
      · refine .inl ⟨by simp [Lib.indexByte, hb, h1], by simp [h2]; exact fun e => h e.symm⟩
      · refine .inr ⟨x :: a, b, by rw [h1]; rfl, by simp [h2]; exact fun e => h e.symm, ?_⟩
        have hn : ((a.length : Int) == -1) = false := by rw [beq_eq_false_iff_ne]; omega
        simp [Lib.indexByte, hb, h3, hn]
theorem ext_mid {s : ByteArray} {l m r : List UInt8} {i j : Nat} (h : s.data.toList = l ++ (m ++ r)) (hi : i = l.length) (hj : j = l.length + m.length) : s.extract i j = ⟨m.toArray⟩ := by
  subst hi hj
  apply ByteArray.ext
  rw [ByteArray.data_extract]
  apply Array.ext'
  rw [Array.toList_extract, h]
  simp [List.extract]
theorem first_at {c : UInt8} : ∀ {a a2 b b2 : List UInt8}, c ∉ a2 → c ∉ a → a2 ++ c :: b2 = a ++ c :: b → a2 = a
  | [], [], _, _, _, _, _ => rfl
  | [], x :: t, _, _, h, _, e => by simp at e; exact absurd (by rw [e.1]; simp) h
  | x :: t, [], _, _, _, h, e => by simp at e; exact absurd (by rw [← e.1]; simp) h
  | x :: t, y :: u, _, _, h, k, e => by
    simp only [List.cons_append, List.cons.injEq] at e
    rw [e.1, first_at (a := t) (a2 := u) (fun m => h (by simp [m])) (fun m => k (by simp [m])) e.2]
set_option maxRecDepth 100000 in
set_option maxHeartbeats 4000000 in
theorem scut_no (s : ByteArray) (c : UInt8) (w : World) (h : Lib.indexByte s.data.toList c = -1) : Calls Tryz.prog 61 #[.string s, .string ⟨#[c]⟩] w fun e w' => e = .returned (.tuple #[.string s, .string ⟨#[]⟩, .bool false]) ∧ Below w.heap.size w w' := by
  have IX := Lib.hid (fun W : World => Tryz.stringslite_Index_one s c W)
  rw [h] at IX
  clear h
  go_enter Tryz.func61, Tryz.ntmps61
  go_wp2_with (first | (go_at_call 82; (with_reducible refine (IX.out _).mono ?_); rintro e w' ⟨rfl, rfl⟩) | fail)
  go_ret3
  exact ⟨rfl, Below.refl _ _⟩
set_option maxRecDepth 100000 in
set_option maxHeartbeats 4000000 in
theorem scut_at (s : ByteArray) (c : UInt8) (a b : List UInt8) (w : World) (hs : s.size ≤ 65536) (hl : s.data.toList = a ++ c :: b) (h : Lib.indexByte s.data.toList c = (a.length : Int)) : Calls Tryz.prog 61 #[.string s, .string ⟨#[c]⟩] w fun e w' => e = .returned (.tuple #[.string ⟨a.toArray⟩, .string ⟨b.toArray⟩, .bool true]) ∧ Below w.heap.size w w' := by
  have IX := Lib.hid (fun W : World => Tryz.stringslite_Index_one s c W)
  rw [h] at IX
  have hsz : s.size = a.length + (b.length + 1) := by
    have : s.data.toList.length = s.size := by rw [Array.length_toList]; rfl
    rw [← this, hl]; simp
  have HL := Lib.hid hl
  clear h hl
  go_enter Tryz.func61, Tryz.ntmps61
  go_wp2_with (first | (go_at_call 82; (with_reducible refine (IX.out _).mono ?_); rintro e w' ⟨rfl, rfl⟩) | fail)
  go_region
  all_goals
    go_wp2
    go_ret3
    refine ⟨?_, Below.drew (Below.refl _ _)⟩
    show Ending.returned (Value.tuple #[Value.string (s.extract 0 a.length), Value.string (s.extract (a.length + 1) (a.length + (b.length + 1))), .bool true]) = _
    rw [ext_mid (l := []) (m := a) (r := c :: b) (i := 0) (j := a.length) HL.out rfl (by simp), ext_mid (l := a ++ [c]) (m := b) (r := []) (i := a.length + 1) (j := a.length + (b.length + 1)) (by rw [HL.out]; simp) (by simp) (by simp; omega)]

set_option maxRecDepth 100000 in
set_option maxHeartbeats 4000000 in
theorem cut_no (s : ByteArray) (c : UInt8) (w : World) (h : c ∉ s.data.toList) : Calls Tryz.prog 38 #[.string s, .string ⟨#[c]⟩] w fun e w' => e = .returned (.tuple #[.string s, .string ⟨#[]⟩, .bool false]) ∧ Below w.heap.size w w' := by
  have IX : Hid (∀ W : World, _) := fun W : World => scut_no s c W (by
    rcases idx_cases s.data.toList c with ⟨h1, _⟩ | ⟨a, b, h1, _⟩
    · exact h1
    · exact absurd (by rw [h1]; simp) h)
  go_enter Tryz.func38, Tryz.ntmps38
  go_wp2_with (first | (go_at_call 61; (with_reducible refine (IX.out _).mono ?_); rintro e w' ⟨rfl, hb⟩) | fail)
  go_ret3
  exact ⟨rfl, hb⟩
set_option maxRecDepth 100000 in
set_option maxHeartbeats 4000000 in
theorem cut_at (s : ByteArray) (c : UInt8) (a b : List UInt8) (w : World) (hs : s.size ≤ 65536) (hl : s.data.toList = a ++ c :: b) (ha : c ∉ a) : Calls Tryz.prog 38 #[.string s, .string ⟨#[c]⟩] w fun e w' => e = .returned (.tuple #[.string ⟨a.toArray⟩, .string ⟨b.toArray⟩, .bool true]) ∧ Below w.heap.size w w' := by
  have IX : Hid (∀ W : World, _) := fun W : World => scut_at s c a b W hs hl (by
    rcases idx_cases s.data.toList c with ⟨_, h2⟩ | ⟨a2, b2, h1, h2, h3⟩
    · exact absurd (by rw [hl]; simp) h2
    · have e : a2 = a := first_at h2 ha (h1.symm.trans hl)
      rw [h3, e])
  go_enter Tryz.func38, Tryz.ntmps38
  go_wp2_with (first | (go_at_call 61; (with_reducible refine (IX.out _).mono ?_); rintro e w' ⟨rfl, hb⟩) | fail)
  go_ret3
  exact ⟨rfl, hb⟩
end Go.Proofs.YteplhlmdaabpaaaGreatDoor
namespace Go.Proofs.YteplhlmdaabpaaaGreatDoor
open Go.RowKit Go.Shelf

def dg (l : List UInt8) : Bool := !l.isEmpty && l.all isD8
def ds (l : List UInt8) : List Nat := l.map (fun b => b.toNat - 48)
theorem ds_ok {l : List UInt8} (h : l.all isD8 = true) : (∀ d ∈ ds l, d ≤ 9) ∧ l = (ds l).map (fun d => UInt8.ofNat (48 + d)) := by
  obtain ⟨D, h1, h2⟩ := all_digits h
  have e : ds l = D := by
    rw [h2]
    unfold ds
    rw [List.map_map]
    conv => rhs; rw [← List.map_id D]
    refine List.map_congr_left fun d hd => ?_
    have := h1 d hd
    show (UInt8.ofNat (48 + d)).toNat - 48 = d
    have e2 : (UInt8.ofNat (48 + d)).toNat = (48 + d) % 256 := by simp
    rw [e2]
    omega
  rw [e]
  exact ⟨h1, h2⟩
theorem digits_dg (s : ByteArray) (w : World) (hs : s.size ≤ 65536) : Calls Tryz.prog 39 #[.string s] w fun e w' => e = .returned (.bool (dg s.data.toList)) ∧ Below w.heap.size w w' := digits_any s w hs
def zdec : Value := .agg #[.bool false, .string ⟨#[]⟩, .string ⟨#[]⟩]

/-- A box of three cells. -/
def Box3 (W : World) (B : Nat) (t : TypeId) (a b c : Value) : Prop := W.heap[B]? = some (.cells #[a, b, c] t (0, 0))
theorem Box3.new (w : World) (a b c : Value) (t : TypeId) : Box3 (w.alloc (.cells #[a, b, c] t)) w.heap.size t a b c := World.alloc_heap_new w _
theorem Box3.below {W W' : World} {B : Nat} {t : TypeId} {a b c : Value} (h : Box3 W B t a b c) (hb : Below W.heap.size W W') : Box3 W' B t a b c := (hb.block B (Array.getElem?_eq_some_iff.1 h).1).trans h
theorem Box3.all {W : World} {B : Nat} {t : TypeId} {a b c : Value} (h : Box3 W B t a b c) : W.cell? ⟨B, 0, none⟩ = some a ∧ W.cell? ⟨B, 1, none⟩ = some b ∧ W.cell? ⟨B, 2, none⟩ = some c ∧ W.frozen? ⟨B, 0, none⟩ = false ∧ W.frozen? ⟨B, 1, none⟩ = false ∧ W.frozen? ⟨B, 2, none⟩ = false := by
  have h' : W.heap[B]? = some (.cells #[a, b, c] t (0, 0)) := h
  refine ⟨?_, ?_, ?_, ?_, ?_, ?_⟩
  · unfold World.cell?; rw [h']; rfl
  · unfold World.cell?; rw [h']; rfl
  · unfold World.cell?; rw [h']; rfl
  · unfold World.frozen?; rw [h']; rfl
  · unfold World.frozen?; rw [h']; rfl
  · unfold World.frozen?; rw [h']; rfl
set_option maxRecDepth 100000 in
set_option maxHeartbeats 4000000 in
/-- split: no point -/
theorem split_no (s : ByteArray) (m : Bool) (r : List UInt8) (w : World) (hp : Lib.trimPrefix s.data.toList [45] = r) (hm : Lib.hasPrefix s.data.toList [45] = m) (hr : 46 ∉ r) (hrl : r.length ≤ 65536) :
    Calls Tryz.prog 18 #[.string s] w fun e w' => e = .returned (.tuple #[if dg r = true then .agg #[.bool m, .string ⟨r.toArray⟩, .string ⟨#[]⟩] else zdec, .bool (dg r)]) ∧ Below w.heap.size w w' := by
  have CP := Lib.hid (fun W : World => Tryz.strings_CutPrefix s ⟨#[45]⟩ W)
  simp only [hp, hm] at CP
  have CU := Lib.hid (fun W : World => cut_no ⟨r.toArray⟩ 46 W hr)
  have DG := Lib.hid (fun W : World => digits_dg ⟨r.toArray⟩ W (by show r.toArray.size ≤ _; simpa using hrl))
  simp only [] at DG
  have x0 := Box3.new w (.bool false) (.string ⟨#[]⟩) (.string ⟨#[]⟩) 50
  clear hp hm hr
  generalize dg r = b at *
  go_enter Tryz.func18, Tryz.ntmps18
  cases b with
  | true =>
    go_wp2_with (first | (go_at_call 37; (with_reducible refine (CP.out _).mono ?_); rintro e w' ⟨rfl, rfl⟩) | (go_at_call 38; (with_reducible refine (CU.out _).mono ?_); rintro e w2 ⟨rfl, hb2⟩; have x2 := x0.below hb2; obtain ⟨x20, x21, x22, y20, y21, y22⟩ := x2.all; have q2 := hb2.size; (try simp at q2)) | (go_at_call 39; (with_reducible refine (DG.out _).mono ?_); rintro e w3 ⟨rfl, hb3⟩; have x3 := x2.below hb3; obtain ⟨x30, x31, x32, y30, y31, y32⟩ := x3.all; have q3 := hb3.size; (try simp at q3)) | fail)
    refine bodyPost_ret (v := .tuple #[.agg #[.bool m, .string ⟨r.toArray⟩, .string ⟨#[]⟩], .bool true]) (by simp [results, Tryz.results18, go_sem, *]) rfl ⟨rfl, ?_⟩
    repeat (first | exact Below.refl _ _ | assumption | apply Below.drew | refine Below.setCell ?_ (by first | omega | (simp; done) | (simp; omega)) _ | refine Below.alloc ?_ (by first | omega | (simp; done) | (simp; omega)) _ | refine Below.trans ?_ (hb3.mono (by first | omega | (simp; done) | (simp; omega))) | refine Below.trans ?_ (hb2.mono (by first | omega | (simp; done) | (simp; omega))))
  | false =>
    go_wp2_with (first | (go_at_call 37; (with_reducible refine (CP.out _).mono ?_); rintro e w' ⟨rfl, rfl⟩) | (go_at_call 38; (with_reducible refine (CU.out _).mono ?_); rintro e w2 ⟨rfl, hb2⟩; have x2 := x0.below hb2; obtain ⟨x20, x21, x22, y20, y21, y22⟩ := x2.all; have q2 := hb2.size; (try simp at q2)) | (go_at_call 39; (with_reducible refine (DG.out _).mono ?_); rintro e w3 ⟨rfl, hb3⟩; have x3 := x2.below hb3; obtain ⟨x30, x31, x32, y30, y31, y32⟩ := x3.all; have q3 := hb3.size; (try simp at q3)) | fail)
    refine bodyPost_ret (v := .tuple #[.agg #[.bool false, .string ⟨#[]⟩, .string ⟨#[]⟩], .bool false]) (by simp [results, Tryz.results18, go_sem, *]) rfl ⟨rfl, ?_⟩
    repeat (first | exact Below.refl _ _ | assumption | apply Below.drew | refine Below.setCell ?_ (by first | omega | (simp; done) | (simp; omega)) _ | refine Below.alloc ?_ (by first | omega | (simp; done) | (simp; omega)) _ | refine Below.trans ?_ (hb3.mono (by first | omega | (simp; done) | (simp; omega))) | refine Below.trans ?_ (hb2.mono (by first | omega | (simp; done) | (simp; omega))))
set_option maxRecDepth 100000 in
set_option maxHeartbeats 4000000 in
/-- split: at the point -/
theorem split_at (s : ByteArray) (m : Bool) (r a c : List UInt8) (w : World) (hp : Lib.trimPrefix s.data.toList [45] = r) (hm : Lib.hasPrefix s.data.toList [45] = m) (hr : r = a ++ 46 :: c) (ha : 46 ∉ a) (hrl : r.length ≤ 65536) :
    Calls Tryz.prog 18 #[.string s] w fun e w' => e = .returned (.tuple #[if (dg a && dg c) = true then .agg #[.bool m, .string ⟨a.toArray⟩, .string ⟨c.toArray⟩] else zdec, .bool (dg a && dg c)]) ∧ Below w.heap.size w w' := by
  have CP := Lib.hid (fun W : World => Tryz.strings_CutPrefix s ⟨#[45]⟩ W)
  simp only [hp, hm] at CP
  have CU := Lib.hid (fun W : World => cut_at ⟨r.toArray⟩ 46 a c W (by show r.toArray.size ≤ _; simpa using hrl) hr ha)
  have hl : a.length + (c.length + 1) ≤ 65536 := by rw [hr] at hrl; simpa using hrl
  have DA := Lib.hid (fun W : World => digits_dg ⟨a.toArray⟩ W (by show a.toArray.size ≤ _; simp; omega))
  have DC := Lib.hid (fun W : World => digits_dg ⟨c.toArray⟩ W (by show c.toArray.size ≤ _; simp; omega))
  simp only [] at DA DC
  have x0 := Box3.new w (.bool false) (.string ⟨#[]⟩) (.string ⟨#[]⟩) 50
  clear hp hm hr ha hrl hl
  generalize dg a = b1 at *
  generalize dg c = b2 at *
  go_enter Tryz.func18, Tryz.ntmps18
  cases b1 with
  | false =>
    go_wp2_with (first | (go_at_call 37; (with_reducible refine (CP.out _).mono ?_); rintro e w' ⟨rfl, rfl⟩) | (go_at_call 38; (with_reducible refine (CU.out _).mono ?_); rintro e w2 ⟨rfl, hb2⟩; have x2 := x0.below hb2; obtain ⟨x20, x21, x22, y20, y21, y22⟩ := x2.all; have q2 := hb2.size; (try simp at q2)) | (go_at_call 39; (with_reducible refine (DA.out _).mono ?_); rintro e w3 ⟨rfl, hb3⟩; have x3 := x2.below hb3; obtain ⟨x30, x31, x32, y30, y31, y32⟩ := x3.all; have q3 := hb3.size; (try simp at q3)) | fail)
    refine bodyPost_ret (v := .tuple #[.agg #[.bool false, .string ⟨#[]⟩, .string ⟨#[]⟩], .bool false]) (by simp [results, Tryz.results18, go_sem, *]) rfl ⟨rfl, ?_⟩
    repeat (first | exact Below.refl _ _ | assumption | apply Below.drew | refine Below.setCell ?_ (by first | omega | (simp; done) | (simp; omega)) _ | refine Below.alloc ?_ (by first | omega | (simp; done) | (simp; omega)) _ | refine Below.trans ?_ (hb3.mono (by first | omega | (simp; done) | (simp; omega))) | refine Below.trans ?_ (hb2.mono (by first | omega | (simp; done) | (simp; omega))))
  | true =>
  cases b2 with
  | true =>
    go_wp2_with (first | (go_at_call 37; (with_reducible refine (CP.out _).mono ?_); rintro e w' ⟨rfl, rfl⟩) | (go_at_call 38; (with_reducible refine (CU.out _).mono ?_); rintro e w2 ⟨rfl, hb2⟩; have x2 := x0.below hb2; obtain ⟨x20, x21, x22, y20, y21, y22⟩ := x2.all; have q2 := hb2.size; (try simp at q2)) | (go_at_call 39; (with_reducible refine (DA.out _).mono ?_); rintro e w3 ⟨rfl, hb3⟩; have x3 := x2.below hb3; obtain ⟨x30, x31, x32, y30, y31, y32⟩ := x3.all; have q3 := hb3.size; (try simp at q3)) | (go_at_call 39; (with_reducible refine (DC.out _).mono ?_); rintro e w4 ⟨rfl, hb4⟩; have x4 := x3.below hb4; obtain ⟨x40, x41, x42, y40, y41, y42⟩ := x4.all; have q4 := hb4.size; (try simp at q4)) | fail)
    refine bodyPost_ret (v := .tuple #[.agg #[.bool m, .string ⟨a.toArray⟩, .string ⟨c.toArray⟩], .bool true]) (by simp [results, Tryz.results18, go_sem, *]) rfl ⟨rfl, ?_⟩
    repeat (first | exact Below.refl _ _ | assumption | apply Below.drew | refine Below.setCell ?_ (by first | omega | (simp; done) | (simp; omega)) _ | refine Below.alloc ?_ (by first | omega | (simp; done) | (simp; omega)) _ | refine Below.trans ?_ (hb4.mono (by first | omega | (simp; done) | (simp; omega))) | refine Below.trans ?_ (hb3.mono (by first | omega | (simp; done) | (simp; omega))) | refine Below.trans ?_ (hb2.mono (by first | omega | (simp; done) | (simp; omega))))
  | false =>
    go_wp2_with (first | (go_at_call 37; (with_reducible refine (CP.out _).mono ?_); rintro e w' ⟨rfl, rfl⟩) | (go_at_call 38; (with_reducible refine (CU.out _).mono ?_); rintro e w2 ⟨rfl, hb2⟩; have x2 := x0.below hb2; obtain ⟨x20, x21, x22, y20, y21, y22⟩ := x2.all; have q2 := hb2.size; (try simp at q2)) | (go_at_call 39; (with_reducible refine (DA.out _).mono ?_); rintro e w3 ⟨rfl, hb3⟩; have x3 := x2.below hb3; obtain ⟨x30, x31, x32, y30, y31, y32⟩ := x3.all; have q3 := hb3.size; (try simp at q3)) | (go_at_call 39; (with_reducible refine (DC.out _).mono ?_); rintro e w4 ⟨rfl, hb4⟩; have x4 := x3.below hb4; obtain ⟨x40, x41, x42, y40, y41, y42⟩ := x4.all; have q4 := hb4.size; (try simp at q4)) | fail)
    refine bodyPost_ret (v := .tuple #[.agg #[.bool false, .string ⟨#[]⟩, .string ⟨#[]⟩], .bool false]) (by simp [results, Tryz.results18, go_sem, *]) rfl ⟨rfl, ?_⟩
    repeat (first | exact Below.refl _ _ | assumption | apply Below.drew | refine Below.setCell ?_ (by first | omega | (simp; done) | (simp; omega)) _ | refine Below.alloc ?_ (by first | omega | (simp; done) | (simp; omega)) _ | refine Below.trans ?_ (hb4.mono (by first | omega | (simp; done) | (simp; omega))) | refine Below.trans ?_ (hb3.mono (by first | omega | (simp; done) | (simp; omega))) | refine Below.trans ?_ (hb2.mono (by first | omega | (simp; done) | (simp; omega))))
theorem pre_len : ∀ l : List UInt8, (Lib.trimPrefix l [45]).length ≤ l.length := by
  intro l
  unfold Lib.trimPrefix
  split
  · simp
  · exact Nat.le_refl _
theorem cut_form {r : List UInt8} (h : (46 : UInt8) ∈ r) : r = r.takeWhile (· != 46) ++ 46 :: (r.dropWhile (· != 46)).tail ∧ (46 : UInt8) ∉ r.takeWhile (· != 46) := by
  induction r with
  | nil => simp at h
  | cons a t ih =>
    by_cases e : a = 46
    · subst e; simp
    · have hb : (a != 46) = true := by rw [bne_iff_ne]; exact e
      have h2 : (46 : UInt8) ∈ t := by
        simp only [List.mem_cons] at h
        rcases h with h | h
        · exact absurd h.symm e
        · exact h
      obtain ⟨h3, h4⟩ := ih h2
      rw [List.takeWhile_cons_of_pos (p := fun x => x != 46) hb, List.dropWhile_cons_of_pos (p := fun x => x != 46) hb]
      refine ⟨by rw [List.cons_append, ← h3], ?_⟩
      simp only [List.mem_cons, not_or]
      exact ⟨fun k => e k.symm, h4⟩
/-- The forms of a word's text: the sign, what stands ahead of the point and behind it. -/
def pform (l : List UInt8) : Option (Bool × List UInt8 × List UInt8) :=
  if 64 < l.length then none else
  if (46 : UInt8) ∈ Lib.trimPrefix l [45] then
    if (dg ((Lib.trimPrefix l [45]).takeWhile (· != 46)) && dg ((Lib.trimPrefix l [45]).dropWhile (· != 46)).tail) = true then some (Lib.hasPrefix l [45], (Lib.trimPrefix l [45]).takeWhile (· != 46), ((Lib.trimPrefix l [45]).dropWhile (· != 46)).tail) else none
  else if dg (Lib.trimPrefix l [45]) = true then some (Lib.hasPrefix l [45], Lib.trimPrefix l [45], []) else none
/-- What a text is read as: the word, or 0 with an error. -/
def pres (l : List UInt8) (f : Nat) : Int × Int := match pform l with
  | none => (0, 1)
  | some (m, a, c) => (tw (wval m (ds a) (ds c) f), te (wval m (ds a) (ds c) f))
theorem dg_all {l : List UInt8} (h : dg l = true) : l.all isD8 = true := by unfold dg at h; simp only [Bool.and_eq_true] at h; exact h.2
theorem word_dg (m : Bool) (a c : List UInt8) (f : Nat) (w : World) (ha : a.all isD8 = true) (hc : c.all isD8 = true) (la : a.length ≤ 64) (lc : c.length ≤ 64) (hf : f ≤ 32) (hf8 : 8 ≤ f) :
    Calls Tryz.prog 19 #[.agg #[.bool m, .string ⟨a.toArray⟩, .string ⟨c.toArray⟩], .int .i64 f] w fun e w' => e = .returned (.tuple #[.int .i64 (tw (wval m (ds a) (ds c) f)), .int .i64 (te (wval m (ds a) (ds c) f))]) ∧ Below w.heap.size w w' :=
  word_any m ⟨a.toArray⟩ ⟨c.toArray⟩ (ds a) (ds c) f w (ds_ok ha).1 (ds_ok ha).2 (ds_ok hc).1 (ds_ok hc).2 (by unfold ds; simpa using la) (by unfold ds; simpa using lc) hf hf8

set_option maxRecDepth 100000 in
set_option maxHeartbeats 4000000 in
theorem parse_any (s : ByteArray) (f : Nat) (w : World) (hf : f ≤ 32) (hf8 : 8 ≤ f) : Calls Tryz.prog 8 #[.string s, .int .i64 f] w fun e w' => e = .returned (.tuple #[.int .i64 (pres s.data.toList f).1, .int .i64 (pres s.data.toList f).2]) ∧ Below w.heap.size w w' := by
  have hsz : s.data.toList.length = s.size := by rw [Array.length_toList]; rfl
  have CF : Hid (∀ W : World, Calls Tryz.prog 15 #[.int .i64 f] W fun e w' => e = .returned (.int .i64 0) ∧ W = w') := fun W => by have := checkf_any f W; rwa [if_pos (fb_mk ⟨by omega, by omega⟩)] at this
  by_cases long : 64 < s.size
  · have e : pres s.data.toList f = (0, 1) := by unfold pres pform; rw [if_pos (by omega)]
    rw [e]
    clear hsz e
    go_enter Tryz.func8, Tryz.ntmps8
    go_wp2_with (first | (go_at_call 15; (with_reducible refine (CF.out _).mono ?_); rintro e w' ⟨rfl, rfl⟩) | fail)
    go_ret2
    exact ⟨rfl, Below.refl _ _⟩
  · have hpl := pre_len s.data.toList
    obtain ⟨r, hr⟩ : ∃ r, Lib.trimPrefix s.data.toList [45] = r := ⟨_, rfl⟩
    obtain ⟨m, hm⟩ : ∃ m, Lib.hasPrefix s.data.toList [45] = m := ⟨_, rfl⟩
    have hpr : pres s.data.toList f = match (if (46 : UInt8) ∈ r then if (dg (r.takeWhile (· != 46)) && dg (r.dropWhile (· != 46)).tail) = true then some (m, r.takeWhile (· != 46), (r.dropWhile (· != 46)).tail) else none else if dg r = true then some (m, r, []) else none) with
      | none => ((0 : Int), (1 : Int))
      | some (m, a, c) => (tw (wval m (ds a) (ds c) f), te (wval m (ds a) (ds c) f)) := by
      unfold pres pform
      rw [if_neg (by omega), hr, hm]
    have hrl : r.length ≤ 64 := by rw [hr] at hpl; omega
    generalize pres s.data.toList f = pq at *
    by_cases h46 : (46 : UInt8) ∈ r
    · obtain ⟨h1, h2⟩ := cut_form h46
      rw [if_pos h46] at hpr
      generalize r.takeWhile (· != 46) = a at *
      generalize (r.dropWhile (· != 46)).tail = c at *
      have la : a.length + (c.length + 1) ≤ 64 := by rw [h1] at hrl; simpa using hrl
      have SP := Lib.hid (fun W : World => split_at s m r a c W hr hm h1 h2 (by omega))
      cases g : dg a && dg c with
      | true =>
        simp only [g, if_true] at hpr SP
        have g2 : dg a = true ∧ dg c = true := by simpa [Bool.and_eq_true] using g
        have WD := Lib.hid (fun W : World => word_dg m a c f W (dg_all g2.1) (dg_all g2.2) (by omega) (by omega) hf hf8)
        subst hpr
        clear h46 h1 h2 hr hm g g2 hpl hsz la hrl
        go_enter Tryz.func8, Tryz.ntmps8
        go_wp2_with (first | (go_at_call 15; (with_reducible refine (CF.out _).mono ?_); rintro e w' ⟨rfl, rfl⟩) | (go_at_call 18; (with_reducible refine (SP.out _).mono ?_); rintro e w2 ⟨rfl, hb2⟩; have q2 := hb2.size) | (go_at_call 19; (with_reducible refine (WD.out _).mono ?_); rintro e w3 ⟨rfl, hb3⟩; have q3 := hb3.size; (try simp at q3)) | fail)
        go_ret2
        refine ⟨rfl, ?_⟩
        repeat (first | exact Below.refl _ _ | assumption | apply Below.drew | refine Below.setCell ?_ (by first | omega | (simp; done) | (simp; omega)) _ | refine Below.alloc ?_ (by first | omega | (simp; done) | (simp; omega)) _ | refine Below.trans ?_ (hb3.mono (by first | omega | (simp; done) | (simp; omega))) | refine Below.trans ?_ (hb2.mono (by first | omega | (simp; done) | (simp; omega))))
      | false =>
        simp only [g, Bool.false_eq_true, if_false, zdec] at hpr SP
        subst hpr
        clear h46 h1 h2 hr hm g hpl hsz la hrl
        go_enter Tryz.func8, Tryz.ntmps8
        go_wp2_with (first | (go_at_call 15; (with_reducible refine (CF.out _).mono ?_); rintro e w' ⟨rfl, rfl⟩) | (go_at_call 18; (with_reducible refine (SP.out _).mono ?_); rintro e w2 ⟨rfl, hb2⟩; have q2 := hb2.size) | fail)
        go_ret2
        refine ⟨rfl, ?_⟩
        repeat (first | exact Below.refl _ _ | assumption | apply Below.drew | refine Below.setCell ?_ (by first | omega | (simp; done) | (simp; omega)) _ | refine Below.alloc ?_ (by first | omega | (simp; done) | (simp; omega)) _ | refine Below.trans ?_ (hb2.mono (by first | omega | (simp; done) | (simp; omega))))
    · rw [if_neg h46] at hpr
      have SP := Lib.hid (fun W : World => split_no s m r W hr hm h46 (by omega))
      cases g : dg r with
      | true =>
        simp only [g, if_true] at hpr SP
        have WD := Lib.hid (fun W : World => word_dg m r [] f W (dg_all g) rfl (by omega) (by simp) hf hf8)
        subst hpr
        clear h46 hr hm g hpl hsz hrl
        go_enter Tryz.func8, Tryz.ntmps8
        go_wp2_with (first | (go_at_call 15; (with_reducible refine (CF.out _).mono ?_); rintro e w' ⟨rfl, rfl⟩) | (go_at_call 18; (with_reducible refine (SP.out _).mono ?_); rintro e w2 ⟨rfl, hb2⟩; have q2 := hb2.size) | (go_at_call 19; (with_reducible refine (WD.out _).mono ?_); rintro e w3 ⟨rfl, hb3⟩; have q3 := hb3.size; (try simp at q3)) | fail)
        go_ret2
        refine ⟨rfl, ?_⟩
        repeat (first | exact Below.refl _ _ | assumption | apply Below.drew | refine Below.setCell ?_ (by first | omega | (simp; done) | (simp; omega)) _ | refine Below.alloc ?_ (by first | omega | (simp; done) | (simp; omega)) _ | refine Below.trans ?_ (hb3.mono (by first | omega | (simp; done) | (simp; omega))) | refine Below.trans ?_ (hb2.mono (by first | omega | (simp; done) | (simp; omega))))
      | false =>
        simp only [g, Bool.false_eq_true, if_false, zdec] at hpr SP
        subst hpr
        clear h46 hr hm g hpl hsz hrl
        go_enter Tryz.func8, Tryz.ntmps8
        go_wp2_with (first | (go_at_call 15; (with_reducible refine (CF.out _).mono ?_); rintro e w' ⟨rfl, rfl⟩) | (go_at_call 18; (with_reducible refine (SP.out _).mono ?_); rintro e w2 ⟨rfl, hb2⟩; have q2 := hb2.size) | fail)
        go_ret2
        refine ⟨rfl, ?_⟩
        repeat (first | exact Below.refl _ _ | assumption | apply Below.drew | refine Below.setCell ?_ (by first | omega | (simp; done) | (simp; omega)) _ | refine Below.alloc ?_ (by first | omega | (simp; done) | (simp; omega)) _ | refine Below.trans ?_ (hb2.mono (by first | omega | (simp; done) | (simp; omega))))
end Go.Proofs.YteplhlmdaabpaaaGreatDoor
namespace Go.Proofs.YteplhlmdaabpaaaGreatDoor
open Go.RowKit

theorem isD8_iff (b : UInt8) : isD8 b = true ↔ 48 ≤ b.toNat ∧ b.toNat ≤ 57 := by
  unfold isD8
  constructor
  · intro this
    simp only [List.contains_cons, List.contains_nil, Bool.or_false, Bool.or_eq_true, beq_iff_eq] at this
    rcases this with h | h | h | h | h | h | h | h | h | h <;> subst h <;> decide
  · rintro ⟨h1, h2⟩
    have h3 : ∀ n : Nat, 48 ≤ n → n ≤ 57 → isD8 (UInt8.ofNat n) = true := by
      intro n a c
      have : n = 48 ∨ n = 49 ∨ n = 50 ∨ n = 51 ∨ n = 52 ∨ n = 53 ∨ n = 54 ∨ n = 55 ∨ n = 56 ∨ n = 57 := by omega
      rcases this with h | h | h | h | h | h | h | h | h | h <;> subst h <;> rfl
    have := h3 b.toNat h1 h2
    simpa [isD8] using this
theorem tw_stop {p : UInt8 → Bool} : ∀ {l : List UInt8} {n : Nat}, n ≤ l.length → (l.take n).all p = true → (∀ b, l[n]? = some b → p b = false) → (l.takeWhile p).length = n
  | [], n, h, _, _ => by simp at h; simp [h]
  | a :: t, 0, _, _, h2 => by
    have := h2 a rfl
    simp [List.takeWhile, this]
  | a :: t, n + 1, h, h1, h2 => by
    simp only [List.take_succ_cons, List.all_cons, Bool.and_eq_true] at h1
    simp only [List.takeWhile, h1.1, List.length_cons]
    rw [tw_stop (l := t) (n := n) (by simpa using h) h1.2 (fun b hb => h2 b (by simpa using hb))]
theorem at_data {s : ByteArray} {i : Nat} (h : i < s.size) : s.data.toList[i]? = some s[i] := by
  have : i < s.data.toList.length := by rw [Array.length_toList]; exact h
  rw [List.getElem?_eq_getElem this]
  rfl
set_option maxRecDepth 100000 in
set_option maxHeartbeats 4000000 in
theorem rdigits_any (s : ByteArray) (p : Nat) (w : World) (hs : s.size ≤ 65536) (hp : p ≤ 65536) : Calls Tryz.prog 28 #[.string s, .int .i64 p] w fun e w' => e = .returned (.int .i64 (((s.data.toList.drop p).takeWhile isD8).length : Nat)) ∧ w = w' := by
  go_enter Tryz.func28, Tryz.ntmps28
  go_wp2
  go_loopw [5] (fun s5 wr => ∃ n : Nat, s5 = .int .i64 n ∧ n ≤ (s.data.toList.drop p).length ∧ ((s.data.toList.drop p).take n).all isD8 = true ∧ wr = w) (fun s5 _ => (s.data.toList.drop p).length - (RowKit.intOf s5).toNat)
  case atStart => exact ⟨0, rfl, Nat.zero_le _, by simp, rfl⟩
  case round =>
    obtain ⟨n, rfl, hn, ha, rfl⟩ := hrel
    have hsz : s.data.toList.length = s.size := by rw [Array.length_toList]; rfl
    have hdl : (s.data.toList.drop p).length = s.size - p := by rw [List.length_drop, hsz]
    by_cases g : p + n < s.size
    · have hn6 : n ≤ 65536 := by omega
      obtain ⟨b, hb⟩ : ∃ b, s[p + n] = b := ⟨_, rfl⟩
      have hat : (s.data.toList.drop p)[n]? = some b := by rw [List.getElem?_drop, at_data g, hb]
      cases gd : isD8 b with
      | true =>
        obtain ⟨d1, d2⟩ := (isD8_iff b).1 gd
        have HA : Hid (((s.data.toList.drop p).take (n + 1)).all isD8 = true) := by
          unfold Hid
          have hlt : n < (s.data.toList.drop p).length := by omega
          rw [List.getElem?_eq_getElem hlt, Option.some.injEq] at hat
          rw [List.take_succ_eq_append_getElem hlt, List.all_append, ha, hat]
          simp [gd]
        clear gd hat ha
        have hdl := Lib.hid hdl
        go_wp2
        refine ⟨⟨n + 1, by go_num, ?_, HA.out, by first | rfl | trivial⟩, ?_⟩
        · have := hdl.out; omega
        · have := hdl.out; simp only [RowKit.intOf]; omega
      | false =>
        have HT : Hid (((s.data.toList.drop p).takeWhile isD8).length = n) := tw_stop hn ha (fun x hx => by rw [hat] at hx; cases hx; exact gd)
        have hd : ¬ (48 ≤ b.toNat ∧ b.toNat ≤ 57) := fun h => by rw [(isD8_iff b).2 h] at gd; cases gd
        clear gd hat ha hdl hn
        by_cases d1 : 48 ≤ b.toNat
        · have d2 : 57 < b.toNat := by omega
          clear hd
          go_wp2
          go_ret
          exact ⟨by rw [HT.out]; rfl, rfl⟩
        · have d2 : b.toNat < 48 := by omega
          clear hd d1
          go_wp2
          go_ret
          exact ⟨by rw [HT.out]; rfl, rfl⟩
    · have HT : Hid (((s.data.toList.drop p).takeWhile isD8).length = n) := tw_stop hn ha (fun x hx => by
        have : n < (s.data.toList.drop p).length := (List.getElem?_eq_some_iff.1 hx).1
        omega)
      have g2 : s.size ≤ p + n := by omega
      have hn6 : n ≤ 65536 := by omega
      clear g hdl hn ha
      go_wp2
      go_ret
      exact ⟨by rw [HT.out]; rfl, rfl⟩
end Go.Proofs.YteplhlmdaabpaaaGreatDoor
