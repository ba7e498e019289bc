
import Derived.BigQuiet
import Derived.Deep.AppendLies
import Derived.Deep.RegionHeld3
import Derived.Test.YtmafgdinegboeaaGreatM01
import Derived.Test.YtmafgdinegboeaaGreatM02
import Derived.Test.YtmafgdinegboeaaGreatM06
import Derived.Test.YtmafgdinegboeaaGreatM19
namespace Go.Proofs.YtmafgdinegboeaaGreat
open Go Go.RowKit Go.Shelf

theorem nat_wrap_sub {a c : Nat} {k : Int} (h : (a : Int) = (c : Int) + k) (ha : a ≤ 65536) (hk : 0 ≤ k) : wrap64 ((a : Int) - k) = (c : Int) ∧ IntKind.i64.wrap ((a : Int) - k) = (c : Int) := by
  have e : (a : Int) - k = (c : Int) := by omega
  rw [e]
  exact ⟨IntWalk.wrap64_in _ (by omega), IntWalk.i64_in _ (by omega)⟩
def mse (a b : List Int) : Int := if mfit a b = true then (if may (msh a b) = true then 0 else 5) else 2
def SomeSh (w : World) (E : Int) (S : List Int) (e : Ending) (w' : World) : Prop := ∃ o c, e = .returned (.tuple #[.slice o S.length c, .int .i64 E]) ∧ Ld w' (.slice o S.length c) S ∧ Below w.heap.size w w'
theorem infoN : Tryz.prog.info? 3 = some ((Tryz.prog.info? 3).getD default) ∧ ((Tryz.prog.info? 3).getD default).size = 1 := by
  obtain ⟨i, h1, _, h2, _⟩ := info_parts infoI
  rw [h1]
  exact ⟨rfl, h2⟩
theorem run_fst {P : Program} {t e : TypeId} {i : TypeInfo} (hu : P.underlying t = some (.slice e)) (hi : P.info? e = some i) (hs : i.size = 1) (g f L c n : Nat) (hc : n ≤ c) (h0 : 1 ≤ n) (wx : World) :
    (Instr.slice t (.slice (some ⟨g, f, none⟩) L c) none (some (.int .i64 (n : Int))) none).run P wx = .ok (.slice (some ⟨g, f, none⟩) n c) wx := by
  have a3 : ¬ c = 0 := by omega
  simp [Instr.slice, run_underlying hu, Instr.sliceBounds, Instr.sliceBound, asIntOf, sizeOf, typeInfo, hi, hs, Addr.add, hc, a3]
theorem ld_fst {W : World} {g f L c n : Nat} {ls : List Int} (h : Ld W (.slice (some ⟨g, f, none⟩) L c) ls) (hl : n ≤ ls.length) : Ld W (.slice (some ⟨g, f, none⟩) n c) (ls.take n) := by
  have q := ld_part (lo := 0) (N := n) h (by omega)
  rwa [Nat.add_zero, Nat.sub_zero, List.drop_zero] at q
theorem someC_take {W W' : World} {ls : List Int} {n k : Nat} {e : Ending} (hl : (ls.take n).length = k) (h : SomeC W (ls.take n) e W') : ∃ o c, e = .returned (.slice o k c) ∧ W'.ownsRow W.heap.size 3 1 (.slice o k c) k (ints (ls.take n)) ∧ Below W.heap.size W W' := by
  obtain ⟨o, c, rfl, h1, _, h3⟩ := h
  rw [hl] at h1 ⊢
  exact ⟨o, c, rfl, h1, h3⟩
theorem take_same {a b : List Int} {n : Nat} (h1 : n ≤ a.length) (h2 : n ≤ b.length) (h : ∀ k, k < n → a.getD k 0 = b.getD k 0) : a.take n = b.take n :=
  ext_getD (by simp; omega) (fun k hk => by rw [List.length_take] at hk; rw [take_getD (by omega), take_getD (by omega)]; exact h k (by omega))
theorem own_msh {W : World} {base n : Nat} {v : Value} {ls : List Int} {x : Int} (h : W.ownsRow base 3 1 v n (ints ls ++ [.int .i64 x])) : W.ownsRow base 3 1 v n (ints (ls ++ [x])) := by
  rwa [ints_snoc]
set_option maxRecDepth 100000 in
set_option maxHeartbeats 6000000 in
theorem rmulshape_any (va vb : Value) (a b : List Int) (w : World) (ha : Ld w va a) (hb : Ld w vb b) (ma : may a = true) (mb : may b = true) :
    Calls Tryz.prog 97 #[va, vb] w (SomeSh w (mse a b) (unl (mse a b) (msh a b))) := by
  obtain ⟨i0, hi0, hz0, hz1, hz2⟩ := info_parts infoI
  obtain ⟨oa, ca, rfl, _, _⟩ := id ha
  obtain ⟨ob, cb, rfl, _, _⟩ := id hb
  by_cases h1 : 2 ≤ a.length
  · by_cases h2 : b.length = 2 ∨ b.length = a.length
    · have hb2 : 2 ≤ b.length := by omega
      obtain ⟨ga, fa, hoa, za⟩ := ld_at ha (k := a.length - 1) (by omega)
      obtain ⟨gb, fb, hob, zb⟩ := ld_at hb (k := b.length - 2) (by omega)
      subst hoa hob
      have la4 := may_len ma
      have lb4 := may_len mb
      obtain ⟨la1, hla1⟩ : ∃ m, m = a.length - 1 := ⟨_, rfl⟩
      obtain ⟨lb2, hlb2⟩ : ∃ m, m = b.length - 2 := ⟨_, rfl⟩
      have E12 := Lib.hid (And.intro (nat_wrap_sub (a := a.length) (k := 1) (c := la1) (by omega) (by omega) (by decide)) (nat_wrap_sub (a := b.length) (k := 2) (c := lb2) (by omega) (by omega) (by decide)))
      have i1 : (la1 : Int) < (a.length : Int) := by omega
      have i2 : (lb2 : Int) < (b.length : Int) := by omega
      have i3 : la1 < a.length := by omega
      have i4 : lb2 < b.length := by omega
      have g1 : ((a.length : Int) < 2) = False := by simp; omega
      have g1b : decide ((a.length : Int) < 2) = false := by simp; omega
      have g4 : decide ((b.length : Int) < 2) = false := by simp; omega
      by_cases h3 : a.getD (a.length - 1) 0 = b.getD (b.length - 2) 0
      · go_enter Tryz.func97, Tryz.ntmps97
        go_upto_region 2 with fail
        go_cut [42] (fun s42 wx => s42 = .bool false ∧ Hid (Below w.heap.size w wx))
        case first =>
          as_aux_lemma =>
          obtain ⟨x, hx⟩ : ∃ x, x = a.getD (a.length - 1) 0 := ⟨_, rfl⟩
          obtain ⟨y, hy⟩ : ∃ y, y = b.getD (b.length - 2) 0 := ⟨_, rfl⟩
          rw [← hx, ← hla1] at za
          rw [← hy, ← hlb2] at zb
          have xy : (x != y) = false := by rw [hx, hy, h3]; simp
          clear hx hy hla1 hlb2
          obtain ⟨⟨e1, e2⟩, ⟨e3, e4⟩⟩ := E12.out
          by_cases q : b.length = 2
          · have b2 : ((b.length : Int) != 2) = false := by simp [q]
            clear q
            refine wp_region_held_drew (S := fun W => W.cell? ⟨ga, fa + la1, none⟩ = some (.int .i64 x) ∧ W.cell? ⟨gb, fb + lb2, none⟩ = some (.int .i64 y)) (by kernel_rfl) ?_ (fun hHeld => ?_)
            · exact ⟨za, zb⟩
            have hHd := hHeld
            (refine tk (i := 0) (oi := ⟨some 11, _, _, _, _, _⟩) (v := ?v0_s11) rfl ?hy0_s11 ?rest0_s11; (case hy0_s11 => intro w hSw; (try dsimp only at hSw); go_simp; first | done | with_reducible rfl))
            (try simp only [Act.put, pq])
            (refine tk (i := 1) (oi := ⟨some 12, _, _, _, _, _⟩) (v := ?v1_s12) rfl ?hy1_s12 ?rest1_s12; (case hy1_s12 => intro w hSw; (try dsimp only at hSw); go_simp; first | done | with_reducible rfl))
            (try simp only [Act.put, pq])
            (refine tk (i := 2) (oi := ⟨some 13, _, _, _, _, _⟩) (v := .bool false) rfl ?hy2_s13 ?rest2_s13; (case hy2_s13 => intro w hSw; (try dsimp only at hSw); go_simp; first | done | with_reducible rfl))
            (try simp only [Act.put, pq])
            (refine tk (i := 3) (oi := ⟨some 14, _, _, _, _, _⟩) (v := ?v3_s14) rfl ?hy3_s14 ?rest3_s14; (case hy3_s14 => intro w hSw; (try dsimp only at hSw); go_simp; first | done | with_reducible rfl))
            (try simp only [Act.put, pq])
            (refine tk (i := 4) (oi := ⟨some 15, _, _, _, _, _⟩) (v := ?v4_s15) rfl ?hy4_s15 ?rest4_s15; (case hy4_s15 => intro w hSw; (try dsimp only at hSw); go_simp; first | done | with_reducible rfl))
            (try simp only [Act.put, pq])
            (refine tk (i := 5) (oi := ⟨some 16, _, _, _, _, _⟩) (v := ?v5_s16) rfl ?hy5_s16 ?rest5_s16; (case hy5_s16 => intro w hSw; (try dsimp only at hSw); go_simp; first | done | with_reducible rfl))
            (try simp only [Act.put, pq])
            (refine tk (i := 6) (oi := ⟨some 17, _, _, _, _, _⟩) (v := .bool false) rfl ?hy6_s17 ?rest6_s17; (case hy6_s17 => intro w hSw; (try dsimp only at hSw); go_simp; first | done | with_reducible rfl))
            (try simp only [Act.put, pq])
            (refine ts (i := 7) (oi := ⟨some 18, _, _, _, _, _⟩) rfl ?_)
            (try simp only [Act.put, pq])
            (refine ts (i := 8) (oi := ⟨some 19, _, _, _, _, _⟩) rfl ?_)
            (try simp only [Act.put, pq])
            (refine ts (i := 9) (oi := ⟨some 20, _, _, _, _, _⟩) rfl ?_)
            (try simp only [Act.put, pq])
            (refine ts (i := 10) (oi := ⟨some 21, _, _, _, _, _⟩) rfl ?_)
            (try simp only [Act.put, pq])
            (refine tk (i := 11) (oi := ⟨some 22, _, _, _, _, _⟩) (v := ?v11_s112) rfl ?hy11_s112 ?rest11_s112; (case hy11_s112 => intro w hSw; (try dsimp only at hSw); go_simp; first | done | with_reducible rfl))
            (try simp only [Act.put, pq])
            (refine tk (i := 12) (oi := ⟨some 23, _, _, _, _, _⟩) (v := ?v12_s113) rfl ?hy12_s113 ?rest12_s113; (case hy12_s113 => intro w hSw; (try dsimp only at hSw); go_simp; first | done | with_reducible rfl))
            (try simp only [Act.put, pq])
            (refine tk (i := 13) (oi := ⟨some 24, _, _, _, _, _⟩) (v := .bool false) rfl ?hy13_s114 ?rest13_s114; (case hy13_s114 => intro w hSw; (try dsimp only at hSw); go_simp; first | done | with_reducible rfl))
            (try simp only [Act.put, pq])
            (refine tk (i := 14) (oi := ⟨some 25, _, _, _, _, _⟩) (v := ?v14_s115) rfl ?hy14_s115 ?rest14_s115; (case hy14_s115 => intro w hSw; (try dsimp only at hSw); go_simp; first | done | with_reducible rfl))
            (try simp only [Act.put, pq])
            (refine tk (i := 15) (oi := ⟨some 26, _, _, _, _, _⟩) (v := ?v15_s116) rfl ?hy15_s116 ?rest15_s116; (case hy15_s116 => intro w hSw; (try dsimp only at hSw); go_simp; first | done | with_reducible rfl))
            (try simp only [Act.put, pq])
            (refine tk (i := 16) (oi := ⟨some 27, _, _, _, _, _⟩) (v := ?v16_s117) rfl ?hy16_s117 ?rest16_s117; (case hy16_s117 => intro w hSw; (try dsimp only at hSw); go_simp; first | done | with_reducible rfl))
            (try simp only [Act.put, pq])
            (refine tk (i := 17) (oi := ⟨some 28, _, _, _, _, _⟩) (v := ?v17_s118) rfl ?hy17_s118 ?rest17_s118; (case hy17_s118 => intro w hSw; (try dsimp only at hSw); go_simp; first | done | with_reducible rfl))
            (try simp only [Act.put, pq])
            (refine tk (i := 18) (oi := ⟨some 29, _, _, _, _, _⟩) (v := .bool false) rfl ?hy18_s119 ?rest18_s119; (case hy18_s119 => intro w hSw; (try dsimp only at hSw); go_simp; first | done | with_reducible rfl))
            (try simp only [Act.put, pq])
            (refine tk (i := 19) (oi := ⟨some 30, _, _, _, _, _⟩) (v := ?v19_s120) rfl ?hy19_s120 ?rest19_s120; (case hy19_s120 => intro w hSw; (try dsimp only at hSw); go_simp; first | done | with_reducible rfl))
            (try simp only [Act.put, pq])
            (refine tk (i := 20) (oi := ⟨some 31, _, _, _, _, _⟩) (v := ?v20_s121) rfl ?hy20_s121 ?rest20_s121; (case hy20_s121 => intro w hSw; (try dsimp only at hSw); go_simp; first | done | with_reducible rfl))
            (try simp only [Act.put, pq])
            (refine tk (i := 21) (oi := ⟨some 32, _, _, _, _, _⟩) (v := ?v21_s122) rfl ?hy21_s122 ?rest21_s122; (case hy21_s122 => intro w hSw; (try dsimp only at hSw); go_simp; first | done | with_reducible rfl))
            (try simp only [Act.put, pq])
            (refine tk (i := 22) (oi := ⟨some 33, _, _, _, _, _⟩) (v := ?v22_s123) rfl ?hy22_s123 ?rest22_s123; (case hy22_s123 => intro w hSw; (try dsimp only at hSw); go_simp; first | done | with_reducible rfl))
            (try simp only [Act.put, pq])
            (refine tk (i := 23) (oi := ⟨some 34, _, _, _, _, _⟩) (v := ?v23_s124) rfl ?hy23_s124 ?rest23_s124; (case hy23_s124 => intro w hSw; (try dsimp only at hSw); go_simp; first | done | with_reducible rfl))
            (try simp only [Act.put, pq])
            (refine tk (i := 24) (oi := ⟨some 35, _, _, _, _, _⟩) (v := ?v24_s125) rfl ?hy24_s125 ?rest24_s125; (case hy24_s125 => intro w hSw; (try dsimp only at hSw); go_simp; first | done | with_reducible rfl))
            (try simp only [Act.put, pq])
            (refine tk (i := 25) (oi := ⟨some 36, _, _, _, _, _⟩) (v := ?v25_s126) rfl ?hy25_s126 ?rest25_s126; (case hy25_s126 => intro w hSw; (try dsimp only at hSw); go_simp; first | done | with_reducible rfl))
            (try simp only [Act.put, pq])
            (refine tk (i := 26) (oi := ⟨some 37, _, _, _, _, _⟩) (v := ?v26_s127) rfl ?hy26_s127 ?rest26_s127; (case hy26_s127 => intro w hSw; (try dsimp only at hSw); go_simp; first | done | with_reducible rfl))
            (try simp only [Act.put, pq])
            (refine tk (i := 27) (oi := ⟨some 38, _, _, _, _, _⟩) (v := ?v27_s128) rfl ?hy27_s128 ?rest27_s128; (case hy27_s128 => intro w hSw; (try dsimp only at hSw); go_simp; first | done | with_reducible rfl))
            (try simp only [Act.put, pq])
            (refine tk (i := 28) (oi := ⟨some 39, _, _, _, _, _⟩) (v := ?v28_s129) rfl ?hy28_s129 ?rest28_s129; (case hy28_s129 => intro w hSw; (try dsimp only at hSw); go_simp; first | done | with_reducible rfl))
            (try simp only [Act.put, pq])
            (refine tk (i := 29) (oi := ⟨some 40, _, _, _, _, _⟩) (v := ?v29_s130) rfl ?hy29_s130 ?rest29_s130; (case hy29_s130 => intro w hSw; (try dsimp only at hSw); go_simp; first | done | with_reducible rfl))
            (try simp only [Act.put, pq])
            (refine tk (i := 30) (oi := ⟨some 41, _, _, _, _, _⟩) (v := ?v30_s131) rfl ?hy30_s131 ?rest30_s131; (case hy30_s131 => intro w hSw; (try dsimp only at hSw); go_simp; first | done | with_reducible rfl))
            (try simp only [Act.put, pq])
            (refine tk (i := 31) (oi := ⟨some 42, _, _, _, _, _⟩) (v := ?v31_s132) rfl ?hy31_s132 ?rest31_s132; (case hy31_s132 => intro w hSw; (try dsimp only at hSw); go_simp; first | done | with_reducible rfl))
            (try simp only [Act.put, pq])
            refine wpAnyH_done (by kernel_rfl) ?_ _
            go_wp2
            go_meet
            exact ⟨rfl, Lib.hid (below_drw (Below.refl _ _) _)⟩
          · have b2 : ((b.length : Int) != 2) = true := by rw [bne_iff_ne]; omega
            have q2 : b.length = a.length := by omega
            have b3 : ((b.length : Int) != (a.length : Int)) = false := by simp [q2]
            clear q q2
            refine wp_region_held_drew (S := fun W => W.cell? ⟨ga, fa + la1, none⟩ = some (.int .i64 x) ∧ W.cell? ⟨gb, fb + lb2, none⟩ = some (.int .i64 y)) (by kernel_rfl) ?_ (fun hHeld => ?_)
            · exact ⟨za, zb⟩
            have hHd := hHeld
            (refine tk (i := 0) (oi := ⟨some 11, _, _, _, _, _⟩) (v := ?v0_s21) rfl ?hy0_s21 ?rest0_s21; (case hy0_s21 => intro w hSw; (try dsimp only at hSw); go_simp; first | done | with_reducible rfl))
            (try simp only [Act.put, pq])
            (refine tk (i := 1) (oi := ⟨some 12, _, _, _, _, _⟩) (v := ?v1_s22) rfl ?hy1_s22 ?rest1_s22; (case hy1_s22 => intro w hSw; (try dsimp only at hSw); go_simp; first | done | with_reducible rfl))
            (try simp only [Act.put, pq])
            (refine tk (i := 2) (oi := ⟨some 13, _, _, _, _, _⟩) (v := .bool false) rfl ?hy2_s23 ?rest2_s23; (case hy2_s23 => intro w hSw; (try dsimp only at hSw); go_simp; first | done | with_reducible rfl))
            (try simp only [Act.put, pq])
            (refine tk (i := 3) (oi := ⟨some 14, _, _, _, _, _⟩) (v := ?v3_s24) rfl ?hy3_s24 ?rest3_s24; (case hy3_s24 => intro w hSw; (try dsimp only at hSw); go_simp; first | done | with_reducible rfl))
            (try simp only [Act.put, pq])
            (refine tk (i := 4) (oi := ⟨some 15, _, _, _, _, _⟩) (v := ?v4_s25) rfl ?hy4_s25 ?rest4_s25; (case hy4_s25 => intro w hSw; (try dsimp only at hSw); go_simp; first | done | with_reducible rfl))
            (try simp only [Act.put, pq])
            (refine tk (i := 5) (oi := ⟨some 16, _, _, _, _, _⟩) (v := ?v5_s26) rfl ?hy5_s26 ?rest5_s26; (case hy5_s26 => intro w hSw; (try dsimp only at hSw); go_simp; first | done | with_reducible rfl))
            (try simp only [Act.put, pq])
            (refine tk (i := 6) (oi := ⟨some 17, _, _, _, _, _⟩) (v := .bool true) rfl ?hy6_s27 ?rest6_s27; (case hy6_s27 => intro w hSw; (try dsimp only at hSw); go_simp; first | done | with_reducible rfl))
            (try simp only [Act.put, pq])
            (refine tk (i := 7) (oi := ⟨some 18, _, _, _, _, _⟩) (v := ?v7_s28) rfl ?hy7_s28 ?rest7_s28; (case hy7_s28 => intro w hSw; (try dsimp only at hSw); go_simp; first | done | with_reducible rfl))
            (try simp only [Act.put, pq])
            (refine tk (i := 8) (oi := ⟨some 19, _, _, _, _, _⟩) (v := ?v8_s29) rfl ?hy8_s29 ?rest8_s29; (case hy8_s29 => intro w hSw; (try dsimp only at hSw); go_simp; first | done | with_reducible rfl))
            (try simp only [Act.put, pq])
            (refine tk (i := 9) (oi := ⟨some 20, _, _, _, _, _⟩) (v := ?v9_s210) rfl ?hy9_s210 ?rest9_s210; (case hy9_s210 => intro w hSw; (try dsimp only at hSw); go_simp; first | done | with_reducible rfl))
            (try simp only [Act.put, pq])
            (refine tk (i := 10) (oi := ⟨some 21, _, _, _, _, _⟩) (v := ?v10_s211) rfl ?hy10_s211 ?rest10_s211; (case hy10_s211 => intro w hSw; (try dsimp only at hSw); go_simp; first | done | with_reducible rfl))
            (try simp only [Act.put, pq])
            (refine tk (i := 11) (oi := ⟨some 22, _, _, _, _, _⟩) (v := ?v11_s212) rfl ?hy11_s212 ?rest11_s212; (case hy11_s212 => intro w hSw; (try dsimp only at hSw); go_simp; first | done | with_reducible rfl))
            (try simp only [Act.put, pq])
            (refine tk (i := 12) (oi := ⟨some 23, _, _, _, _, _⟩) (v := ?v12_s213) rfl ?hy12_s213 ?rest12_s213; (case hy12_s213 => intro w hSw; (try dsimp only at hSw); go_simp; first | done | with_reducible rfl))
            (try simp only [Act.put, pq])
            (refine tk (i := 13) (oi := ⟨some 24, _, _, _, _, _⟩) (v := .bool false) rfl ?hy13_s214 ?rest13_s214; (case hy13_s214 => intro w hSw; (try dsimp only at hSw); go_simp; first | done | with_reducible rfl))
            (try simp only [Act.put, pq])
            (refine tk (i := 14) (oi := ⟨some 25, _, _, _, _, _⟩) (v := ?v14_s215) rfl ?hy14_s215 ?rest14_s215; (case hy14_s215 => intro w hSw; (try dsimp only at hSw); go_simp; first | done | with_reducible rfl))
            (try simp only [Act.put, pq])
            (refine tk (i := 15) (oi := ⟨some 26, _, _, _, _, _⟩) (v := ?v15_s216) rfl ?hy15_s216 ?rest15_s216; (case hy15_s216 => intro w hSw; (try dsimp only at hSw); go_simp; first | done | with_reducible rfl))
            (try simp only [Act.put, pq])
            (refine tk (i := 16) (oi := ⟨some 27, _, _, _, _, _⟩) (v := ?v16_s217) rfl ?hy16_s217 ?rest16_s217; (case hy16_s217 => intro w hSw; (try dsimp only at hSw); go_simp; first | done | with_reducible rfl))
            (try simp only [Act.put, pq])
            (refine tk (i := 17) (oi := ⟨some 28, _, _, _, _, _⟩) (v := ?v17_s218) rfl ?hy17_s218 ?rest17_s218; (case hy17_s218 => intro w hSw; (try dsimp only at hSw); go_simp; first | done | with_reducible rfl))
            (try simp only [Act.put, pq])
            (refine tk (i := 18) (oi := ⟨some 29, _, _, _, _, _⟩) (v := .bool false) rfl ?hy18_s219 ?rest18_s219; (case hy18_s219 => intro w hSw; (try dsimp only at hSw); go_simp; first | done | with_reducible rfl))
            (try simp only [Act.put, pq])
            (refine tk (i := 19) (oi := ⟨some 30, _, _, _, _, _⟩) (v := ?v19_s220) rfl ?hy19_s220 ?rest19_s220; (case hy19_s220 => intro w hSw; (try dsimp only at hSw); go_simp; first | done | with_reducible rfl))
            (try simp only [Act.put, pq])
            (refine tk (i := 20) (oi := ⟨some 31, _, _, _, _, _⟩) (v := ?v20_s221) rfl ?hy20_s221 ?rest20_s221; (case hy20_s221 => intro w hSw; (try dsimp only at hSw); go_simp; first | done | with_reducible rfl))
            (try simp only [Act.put, pq])
            (refine tk (i := 21) (oi := ⟨some 32, _, _, _, _, _⟩) (v := ?v21_s222) rfl ?hy21_s222 ?rest21_s222; (case hy21_s222 => intro w hSw; (try dsimp only at hSw); go_simp; first | done | with_reducible rfl))
            (try simp only [Act.put, pq])
            (refine tk (i := 22) (oi := ⟨some 33, _, _, _, _, _⟩) (v := ?v22_s223) rfl ?hy22_s223 ?rest22_s223; (case hy22_s223 => intro w hSw; (try dsimp only at hSw); go_simp; first | done | with_reducible rfl))
            (try simp only [Act.put, pq])
            (refine tk (i := 23) (oi := ⟨some 34, _, _, _, _, _⟩) (v := ?v23_s224) rfl ?hy23_s224 ?rest23_s224; (case hy23_s224 => intro w hSw; (try dsimp only at hSw); go_simp; first | done | with_reducible rfl))
            (try simp only [Act.put, pq])
            (refine tk (i := 24) (oi := ⟨some 35, _, _, _, _, _⟩) (v := ?v24_s225) rfl ?hy24_s225 ?rest24_s225; (case hy24_s225 => intro w hSw; (try dsimp only at hSw); go_simp; first | done | with_reducible rfl))
            (try simp only [Act.put, pq])
            (refine tk (i := 25) (oi := ⟨some 36, _, _, _, _, _⟩) (v := ?v25_s226) rfl ?hy25_s226 ?rest25_s226; (case hy25_s226 => intro w hSw; (try dsimp only at hSw); go_simp; first | done | with_reducible rfl))
            (try simp only [Act.put, pq])
            (refine tk (i := 26) (oi := ⟨some 37, _, _, _, _, _⟩) (v := ?v26_s227) rfl ?hy26_s227 ?rest26_s227; (case hy26_s227 => intro w hSw; (try dsimp only at hSw); go_simp; first | done | with_reducible rfl))
            (try simp only [Act.put, pq])
            (refine tk (i := 27) (oi := ⟨some 38, _, _, _, _, _⟩) (v := ?v27_s228) rfl ?hy27_s228 ?rest27_s228; (case hy27_s228 => intro w hSw; (try dsimp only at hSw); go_simp; first | done | with_reducible rfl))
            (try simp only [Act.put, pq])
            (refine tk (i := 28) (oi := ⟨some 39, _, _, _, _, _⟩) (v := ?v28_s229) rfl ?hy28_s229 ?rest28_s229; (case hy28_s229 => intro w hSw; (try dsimp only at hSw); go_simp; first | done | with_reducible rfl))
            (try simp only [Act.put, pq])
            (refine tk (i := 29) (oi := ⟨some 40, _, _, _, _, _⟩) (v := ?v29_s230) rfl ?hy29_s230 ?rest29_s230; (case hy29_s230 => intro w hSw; (try dsimp only at hSw); go_simp; first | done | with_reducible rfl))
            (try simp only [Act.put, pq])
            (refine tk (i := 30) (oi := ⟨some 41, _, _, _, _, _⟩) (v := ?v30_s231) rfl ?hy30_s231 ?rest30_s231; (case hy30_s231 => intro w hSw; (try dsimp only at hSw); go_simp; first | done | with_reducible rfl))
            (try simp only [Act.put, pq])
            (refine tk (i := 31) (oi := ⟨some 42, _, _, _, _, _⟩) (v := ?v31_s232) rfl ?hy31_s232 ?rest31_s232; (case hy31_s232 => intro w hSw; (try dsimp only at hSw); go_simp; first | done | with_reducible rfl))
            (try simp only [Act.put, pq])
            refine wpAnyH_done (by kernel_rfl) ?_ _
            go_wp2
            go_meet
            exact ⟨rfl, Lib.hid (below_drw (Below.refl _ _) _)⟩
        case rest =>
          obtain ⟨rfl, HB⟩ := hcut
          obtain ⟨x, hx⟩ : ∃ x, x = b.getD (b.length - 1) 0 := ⟨_, rfl⟩
          obtain ⟨lb1, hlb1⟩ : ∃ m, m = b.length - 1 := ⟨_, rfl⟩
          have i5 : lb1 < b.length := by omega
          have i6 : (lb1 : Int) < (b.length : Int) := by omega
          have HX : Hid (x = b.getD lb1 0) := Lib.hid (by rw [hx, hlb1])
          have E13 := Lib.hid (And.intro (nat_wrap_sub (a := a.length) (k := 1) (c := la1) (by omega) (by omega) (by decide)) (nat_wrap_sub (a := b.length) (k := 1) (c := lb1) (by omega) (by omega) (by decide)))
          have HMS : Hid (msh a b = a.take la1 ++ [x]) := Lib.hid (by rw [hx, hla1]; exact msh_is h1)
          have HCA : Hid (la1 ≤ ca ∧ 1 ≤ la1) := Lib.hid ⟨by have := ld_cap ha; omega, by omega⟩
          have HL1 : Hid (la1 + 1 = a.length) := Lib.hid (by omega)
          have HLA := Lib.hid ha
          have HLB := Lib.hid hb
          by_cases q : b.length = a.length
          · as_aux_lemma =>
            have c1 : ((b.length : Int) == (a.length : Int)) = true := by rw [q]; simp
            have HLE := Lib.hid q
            have HH := Lib.hid (And.intro h1 (And.intro h3 hb2))
            clear za zb ha hb hx hla1 hlb2 hlb1 h2 h3 q
            go_wp2
            go_loopw [7] (fun s7 wQ => ∃ j : Nat, j ≤ a.length ∧ s7 = .int .i64 j ∧ Hid (∀ k, k < j → k < a.length - 2 → a.getD k 0 = b.getD k 0) ∧ Hid (Below w.heap.size w wQ)) (fun s7 _ => a.length - (intOf s7).toNat)
            case atStart => exact ⟨0, Nat.zero_le _, rfl, Lib.hid (fun k hk => absurd hk (Nat.not_lt_zero _)), HB⟩
            case round =>
              obtain ⟨j, hj, rfl, HI, HBr⟩ := hrel
              by_cases hlt : j + 2 < a.length
              · have j1 : (j : Int) + 2 < (a.length : Int) := by omega
                have za := ld_cell (HLA.out.below HBr.out) (k := j) (by omega)
                have zb := ld_cell (HLB.out.below HBr.out) (k := j) (by have := HLE.out; omega)
                have j2 : (j : Int) < (a.length : Int) := by omega
                have j3 : (j : Int) < (b.length : Int) := by have := HLE.out; omega
                have j4 : j < a.length := by omega
                have j5 : j < b.length := by have := HLE.out; omega
                by_cases e : a.getD j 0 = b.getD j 0
                · as_aux_lemma =>
                  have HI2 : Hid (∀ k, k < j + 1 → k < a.length - 2 → a.getD k 0 = b.getD k 0) := Lib.hid (fun k hk h => by
                    by_cases r : k = j
                    · subst r; exact e
                    · exact HI.out k (by omega) h)
                  have exy : (a.getD j 0 != b.getD j 0) = false := by rw [e]; simp
                  clear e
                  generalize a.getD j 0 = p at *
                  generalize b.getD j 0 = q at *
                  go_wp2
                  go_quiet (fail)
                  go_wp2
                  exact ⟨⟨j + 1, by omega, by go_num, HI2, Lib.hid (below_drw HBr.out _)⟩, by simp [intOf]; omega⟩
                · as_aux_lemma =>
                  have R : Hid (mse a b = 2) := by
                    unfold mse
                    rw [if_neg]
                    · exact Lib.hid rfl
                    · intro hf
                      have h4 := (mfit_len hf).2.2.2.1
                      apply e
                      have q1 := take_getD (a := a) (k := j) (n := b.length - 2) (by have := HLE.out; omega)
                      have q2 := take_getD (a := b) (k := j) (n := b.length - 2) (by have := HLE.out; omega)
                      rw [← q1, ← q2, h4]
                  have exy : (a.getD j 0 != b.getD j 0) = true := by rw [bne_iff_ne]; exact e
                  clear e
                  generalize a.getD j 0 = p at *
                  generalize b.getD j 0 = q at *
                  go_wp2
                  go_quiet (fail)
                  go_wp2
                  go_ret2
                  rw [R.out]
                  exact ⟨none, 0, rfl, Ld.nil _, below_drw HBr.out _⟩
              · as_aux_lemma =>
                have j1 : ¬ (j : Int) + 2 < (a.length : Int) := by omega
                have HFT : Hid (mfit a b = true) := Lib.hid (by
                  have q := HLE.out
                  unfold mfit
                  rw [decide_eq_true HH.out.1, decide_eq_true q, decide_eq_true HH.out.2.1, decide_eq_true (take_same (by omega) (by omega) (fun k hk => HI.out k (by omega) (by omega)))]
                  simp)
                have HB := HBr
                clear HI HBr
                have hpl : (a.take la1).length = la1 := by rw [List.length_take]; omega
                have HTK := Lib.hid hpl
                clear hpl
                go_upto_region 10 with fail
                obtain ⟨v1, hv1⟩ : ∃ v, v = wr := ⟨_, rfl⟩
                rw [← hv1] at HB ⊢
                clear hv1
                obtain ⟨⟨e1, e2⟩, ⟨e3, e4⟩⟩ := E13.out
                have rp := fun (W : World) => run_fst Tryz.underlying23 infoN.1 infoN.2 ga fa a.length ca la1 HCA.out.1 HCA.out.2 W
                have KS : Hid (∀ W, Below w.heap.size w W → W.cell? ⟨gb, fb + lb1, none⟩ = some (.int .i64 x)) := Lib.hid (fun W h => (ld_cell (HLB.out.below h) i5).trans (by rw [HX.out]))
                have KC := Lib.hid (fun (W : World) (h : Below w.heap.size w W) => (copy_any (.slice (some ⟨ga, fa, none⟩) la1 ca) (a.take la1) W (by have q := ld_fst (HLA.out.below h) (n := la1) (by omega); exact q) (by rw [HTK.out]; omega)).mono (fun e w' hh => someC_take HTK.out hh))
                have B_0 : Hid (Below w.heap.size w v1.drew) := Lib.hid (below_drw HB.out 1)
                refine wp_region_held_drew (S := fun W => W.cell? ⟨gb, fb + lb1, none⟩ = some (.int .i64 x)) (by kernel_rfl) ?_ (fun hHeld => ?_)
                · exact KS.out _ B_0.out
                have hHd := hHeld
                generalize v1.drew = w_0 at *
                (refine tk (i := 0) (oi := ⟨some 62, _, _, _, _, _⟩) (v := ?v0_r1) rfl ?hy0_r1 ?rest0_r1; (case hy0_r1 => intro w hSw; (try dsimp only at hSw); go_simp; first | done | with_reducible rfl))
                (try simp only [Act.put, pq])
                (refine tk (i := 1) (oi := ⟨some 63, _, _, _, _, _⟩) (v := ?v1_r2) rfl ?hy1_r2 ?rest1_r2; (case hy1_r2 => intro w hSw; (try dsimp only at hSw); go_simp; first | done | with_reducible rfl))
                (try simp only [Act.put, pq])
                (refine tk (i := 2) (oi := ⟨some 64, _, _, _, _, _⟩) (v := ?v2_r3) rfl ?hy2_r3 ?rest2_r3; (case hy2_r3 => intro w hSw; (try dsimp only at hSw); go_simp; first | done | with_reducible rfl))
                (try simp only [Act.put, pq])
                (refine tk (i := 3) (oi := ⟨some 65, _, _, _, _, _⟩) (v := ?v3_r4) rfl ?hy3_r4 ?rest3_r4; (case hy3_r4 => intro w hSw; (try dsimp only at hSw); go_simp; first | done | with_reducible rfl))
                (try simp only [Act.put, pq])
                (refine tk (i := 5) (oi := ⟨some 67, _, _, _, _, _⟩) (v := ?v5_r5) rfl ?hy5_r5 ?rest5_r5; (case hy5_r5 => intro w hSw; (try dsimp only at hSw); go_simp; first | done | with_reducible rfl))
                (try simp only [Act.put, pq])
                (refine tk (i := 6) (oi := ⟨some 68, _, _, _, _, _⟩) (v := ?v6_r6) rfl ?hy6_r6 ?rest6_r6; (case hy6_r6 => intro w hSw; (try dsimp only at hSw); go_simp; first | done | with_reducible rfl))
                (try simp only [Act.put, pq])
                (refine tk (i := 7) (oi := ⟨some 69, _, _, _, _, _⟩) (v := ?v7_r7) rfl ?hy7_r7 ?rest7_r7; (case hy7_r7 => intro w hSw; (try dsimp only at hSw); go_simp; first | done | with_reducible rfl))
                (try simp only [Act.put, pq])
                (refine tk (i := 8) (oi := ⟨some 70, _, _, _, _, _⟩) (v := ?v8_r8) rfl ?hy8_r8 ?rest8_r8; (case hy8_r8 => intro w hSw; (try dsimp only at hSw); go_simp; first | done | with_reducible rfl))
                (try simp only [Act.put, pq])
                (refine tk (i := 9) (oi := ⟨some 71, _, _, _, _, _⟩) (v := ?v9_r9) rfl ?hy9_r9 ?rest9_r9; (case hy9_r9 => intro w hSw; (try dsimp only at hSw); go_simp; first | done | with_reducible rfl))
                (try simp only [Act.put, pq])
                (refine tk (i := 10) (oi := ⟨some 72, _, _, _, _, _⟩) (v := ?v10_r10) rfl ?hy10_r10 ?rest10_r10; (case hy10_r10 => intro w hSw; (try dsimp only at hSw); go_simp; first | done | with_reducible rfl))
                (try simp only [Act.put, pq])
                refine wpAnyH_ready (rs := [4, 11]) (by kernel_rfl) (by simp) ?_
                refine AllReadyH.cons (o := ⟨some 66, _, _, _, _, _⟩) rfl (fun K hK => ?_) (AllReadyH.cons (o := ⟨some 73, _, _, _, _, _⟩) rfl (fun K hK => ?_) (AllReadyH.nil))
                · go_simp
                  (go_at_call 58; (with_reducible refine (KC.out _ B_0.out).mono ?_); rintro e w_1 ⟨oc, cc, rfl, ho, hb⟩; have B_1 := Lib.hid (B_0.out.trans (hb.mono B_0.out.size)); have O_1 := Lib.hid (own_base (base' := w.heap.size) ho B_0.out.size); clear ho hb)
                  refine hK.out _ _ ?_ (fun hHeld => ?_)
                  · (try dsimp only)
                    exact KS.out _ B_1.out
                  clear hK K
                  (try simp only [Act.put, pq])
                  refine wpAnyH_ready (rs := [11]) (by kernel_rfl) (by simp) ?_
                  refine AllReadyH.cons (o := ⟨some 73, _, _, _, _, _⟩) rfl (fun K hK => ?_) (AllReadyH.nil)
                  go_simp
                  have X_2 := Lib.hid (Blk.new w_1 3 #[.int .i64 x])
                  have B_2 := Lib.hid (B_1.out.alloc B_1.out.size (.cells #[.int .i64 x] 3))
                  have O_2 := Lib.hid (O_1.out.alloc (.cells #[.int .i64 x] 3))
                  refine hK.out _ _ ?_ (fun hHeld => ?_)
                  · (try dsimp only)
                    exact KS.out _ B_2.out
                  clear hK K
                  generalize w_1.alloc (.cells #[.int .i64 x] 3) = w_2 at *
                  (try simp only [Act.put, pq])
                  refine wpAnyH_ready (rs := [12]) (by kernel_rfl) (by simp) ?_
                  refine AllReadyH.cons (o := ⟨some 74, _, _, _, _, _⟩) rfl (fun K hK => ?_) (AllReadyH.nil)
                  refine step_append_lies _ (by rfl) (.tmp 66) (.tmp 73) 23 (by rfl) w.heap.size 3 i0 (.int .i64 0) 1 8 Tryz.underlying23 hi0 hz0 hz1 hz2 rfl (by decide) (.slice oc la1 cc) la1 (ints (a.take la1)) (by rfl) O_2.out ⟨w_1.heap.size, 0, none⟩ 1 1 [.int .i64 x] (by rfl) rfl (World.news_of_block X_2.out) (by simp [Value.oneCell']) (by decide) (by unfold maxLen; omega) (by omega) B_2.out.size w_2.heap.size rfl ?_
                  intro g9 cp9 w9 hown hgrow hat _
                  have F9 := Lib.hid (own_msh hown)
                  have B9 := Lib.hid (B_2.out.grown hgrow B_2.out.size (fun k e => (O_2.out.lt k e).1))
                  clear hown hgrow hat
                  refine hK.out _ _ ?_ (fun hHeld => ?_)
                  · (try dsimp only)
                    exact KS.out _ B9.out
                  clear hK K
                  (try simp only [Act.put, pq])
                  (refine tk (i := 13) (oi := ⟨some 8, _, _, _, _, _⟩) (v := ?v13_r11) rfl ?hy13_r11 ?rest13_r11; (case hy13_r11 => intro w hSw; (try dsimp only at hSw); go_simp; first | done | with_reducible rfl))
                  (try simp only [Act.put, pq])
                  refine wpAnyH_done (by kernel_rfl) ?_ _
                  have HLd : Hid (Ld w9 (.slice (some ⟨g9, 0, none⟩) (la1 + 1) cp9) (msh a b)) := Lib.hid (by rw [HMS.out]; exact Ld.of_own' F9.out (by rw [List.length_append, HTK.out]; rfl))
                  have KM := Lib.hid (rmay_any _ (msh a b) w9 HLd.out (by rw [msh_len]; omega))
                  have HML : Hid (la1 + 1 = (msh a b).length) := Lib.hid (by rw [msh_len]; exact HL1.out)
                  cases hm : may (msh a b) with
                  | false =>
                    have R : Hid (mse a b = 5) := by unfold mse; rw [HFT.out, hm]; exact Lib.hid rfl
                    rw [hm] at KM
                    clear hm
                    go_wp2_with (go_at_call 45; (with_reducible refine KM.out.mono ?_); rintro e w' ⟨rfl, rfl⟩)
                    go_ret2
                    rw [R.out]
                    exact ⟨none, 0, rfl, Ld.nil _, B9.out⟩
                  | true =>
                    have R : Hid (mse a b = 0) := by unfold mse; rw [HFT.out, hm]; exact Lib.hid rfl
                    rw [hm] at KM
                    clear hm
                    go_wp2_with (go_at_call 45; (with_reducible refine KM.out.mono ?_); rintro e w' ⟨rfl, rfl⟩)
                    go_ret2
                    rw [R.out]
                    have h0 := HLd.out
                    rw [HML.out] at h0 ⊢
                    exact ⟨_, _, rfl, h0, B9.out⟩
                · go_simp
                  have X_4 := Lib.hid (Blk.new w_0 3 #[.int .i64 x])
                  have B_4 := Lib.hid (B_0.out.alloc B_0.out.size (.cells #[.int .i64 x] 3))
                  refine hK.out _ _ ?_ (fun hHeld => ?_)
                  · (try dsimp only)
                    exact KS.out _ B_4.out
                  clear hK K
                  generalize w_0.alloc (.cells #[.int .i64 x] 3) = w_4 at *
                  (try simp only [Act.put, pq])
                  refine wpAnyH_ready (rs := [4]) (by kernel_rfl) (by simp) ?_
                  refine AllReadyH.cons (o := ⟨some 66, _, _, _, _, _⟩) rfl (fun K hK => ?_) (AllReadyH.nil)
                  go_simp
                  (go_at_call 58; (with_reducible refine (KC.out _ B_4.out).mono ?_); rintro e w_5 ⟨oc, cc, rfl, ho, hb⟩; have B_5 := Lib.hid (B_4.out.trans (hb.mono B_4.out.size)); have O_5 := Lib.hid (own_base (base' := w.heap.size) ho B_4.out.size); have X_5 := Lib.hid (X_4.out.below hb X_4.out.lt); clear ho hb)
                  refine hK.out _ _ ?_ (fun hHeld => ?_)
                  · (try dsimp only)
                    exact KS.out _ B_5.out
                  clear hK K
                  (try simp only [Act.put, pq])
                  refine wpAnyH_ready (rs := [12]) (by kernel_rfl) (by simp) ?_
                  refine AllReadyH.cons (o := ⟨some 74, _, _, _, _, _⟩) rfl (fun K hK => ?_) (AllReadyH.nil)
                  refine step_append_lies _ (by rfl) (.tmp 66) (.tmp 73) 23 (by rfl) w.heap.size 3 i0 (.int .i64 0) 1 8 Tryz.underlying23 hi0 hz0 hz1 hz2 rfl (by decide) (.slice oc la1 cc) la1 (ints (a.take la1)) (by rfl) O_5.out ⟨w_0.heap.size, 0, none⟩ 1 1 [.int .i64 x] (by rfl) rfl (World.news_of_block X_5.out) (by simp [Value.oneCell']) (by decide) (by unfold maxLen; omega) (by omega) B_5.out.size w_5.heap.size rfl ?_
                  intro g9 cp9 w9 hown hgrow hat _
                  have F9 := Lib.hid (own_msh hown)
                  have B9 := Lib.hid (B_5.out.grown hgrow B_5.out.size (fun k e => (O_5.out.lt k e).1))
                  clear hown hgrow hat
                  refine hK.out _ _ ?_ (fun hHeld => ?_)
                  · (try dsimp only)
                    exact KS.out _ B9.out
                  clear hK K
                  (try simp only [Act.put, pq])
                  (refine tk (i := 13) (oi := ⟨some 8, _, _, _, _, _⟩) (v := ?v13_r12) rfl ?hy13_r12 ?rest13_r12; (case hy13_r12 => intro w hSw; (try dsimp only at hSw); go_simp; first | done | with_reducible rfl))
                  (try simp only [Act.put, pq])
                  refine wpAnyH_done (by kernel_rfl) ?_ _
                  have HLd : Hid (Ld w9 (.slice (some ⟨g9, 0, none⟩) (la1 + 1) cp9) (msh a b)) := Lib.hid (by rw [HMS.out]; exact Ld.of_own' F9.out (by rw [List.length_append, HTK.out]; rfl))
                  have KM := Lib.hid (rmay_any _ (msh a b) w9 HLd.out (by rw [msh_len]; omega))
                  have HML : Hid (la1 + 1 = (msh a b).length) := Lib.hid (by rw [msh_len]; exact HL1.out)
                  cases hm : may (msh a b) with
                  | false =>
                    have R : Hid (mse a b = 5) := by unfold mse; rw [HFT.out, hm]; exact Lib.hid rfl
                    rw [hm] at KM
                    clear hm
                    go_wp2_with (go_at_call 45; (with_reducible refine KM.out.mono ?_); rintro e w' ⟨rfl, rfl⟩)
                    go_ret2
                    rw [R.out]
                    exact ⟨none, 0, rfl, Ld.nil _, B9.out⟩
                  | true =>
                    have R : Hid (mse a b = 0) := by unfold mse; rw [HFT.out, hm]; exact Lib.hid rfl
                    rw [hm] at KM
                    clear hm
                    go_wp2_with (go_at_call 45; (with_reducible refine KM.out.mono ?_); rintro e w' ⟨rfl, rfl⟩)
                    go_ret2
                    rw [R.out]
                    have h0 := HLd.out
                    rw [HML.out] at h0 ⊢
                    exact ⟨_, _, rfl, h0, B9.out⟩
          · as_aux_lemma =>
            have c1 : ((b.length : Int) == (a.length : Int)) = false := by rw [beq_eq_false_iff_ne]; omega
            have HFT : Hid (mfit a b = true) := Lib.hid (by
              have q2 : b.length = 2 := by omega
              unfold mfit
              rw [decide_eq_true h1, decide_eq_true q2, decide_eq_true h3, q2]
              simp)
            clear za zb ha hb hx hla1 hlb2 hlb1 h2 h3 q
            have hpl : (a.take la1).length = la1 := by rw [List.length_take]; omega
            have HTK := Lib.hid hpl
            clear hpl
            go_upto_region 10 with fail
            obtain ⟨v1, hv1⟩ : ∃ v, v = wc := ⟨_, rfl⟩
            rw [← hv1] at HB ⊢
            clear hv1
            obtain ⟨⟨e1, e2⟩, ⟨e3, e4⟩⟩ := E13.out
            have rp := fun (W : World) => run_fst Tryz.underlying23 infoN.1 infoN.2 ga fa a.length ca la1 HCA.out.1 HCA.out.2 W
            have KS : Hid (∀ W, Below w.heap.size w W → W.cell? ⟨gb, fb + lb1, none⟩ = some (.int .i64 x)) := Lib.hid (fun W h => (ld_cell (HLB.out.below h) i5).trans (by rw [HX.out]))
            have KC := Lib.hid (fun (W : World) (h : Below w.heap.size w W) => (copy_any (.slice (some ⟨ga, fa, none⟩) la1 ca) (a.take la1) W (by have q := ld_fst (HLA.out.below h) (n := la1) (by omega); exact q) (by rw [HTK.out]; omega)).mono (fun e w' hh => someC_take HTK.out hh))
            have B_0 : Hid (Below w.heap.size w v1.drew) := Lib.hid (below_drw HB.out 1)
            refine wp_region_held_drew (S := fun W => W.cell? ⟨gb, fb + lb1, none⟩ = some (.int .i64 x)) (by kernel_rfl) ?_ (fun hHeld => ?_)
            · exact KS.out _ B_0.out
            have hHd := hHeld
            generalize v1.drew = w_0 at *
            (refine tk (i := 0) (oi := ⟨some 62, _, _, _, _, _⟩) (v := ?v0_rb1) rfl ?hy0_rb1 ?rest0_rb1; (case hy0_rb1 => intro w hSw; (try dsimp only at hSw); go_simp; first | done | with_reducible rfl))
            (try simp only [Act.put, pq])
            (refine tk (i := 1) (oi := ⟨some 63, _, _, _, _, _⟩) (v := ?v1_rb2) rfl ?hy1_rb2 ?rest1_rb2; (case hy1_rb2 => intro w hSw; (try dsimp only at hSw); go_simp; first | done | with_reducible rfl))
            (try simp only [Act.put, pq])
            (refine tk (i := 2) (oi := ⟨some 64, _, _, _, _, _⟩) (v := ?v2_rb3) rfl ?hy2_rb3 ?rest2_rb3; (case hy2_rb3 => intro w hSw; (try dsimp only at hSw); go_simp; first | done | with_reducible rfl))
            (try simp only [Act.put, pq])
            (refine tk (i := 3) (oi := ⟨some 65, _, _, _, _, _⟩) (v := ?v3_rb4) rfl ?hy3_rb4 ?rest3_rb4; (case hy3_rb4 => intro w hSw; (try dsimp only at hSw); go_simp; first | done | with_reducible rfl))
            (try simp only [Act.put, pq])
            (refine tk (i := 5) (oi := ⟨some 67, _, _, _, _, _⟩) (v := ?v5_rb5) rfl ?hy5_rb5 ?rest5_rb5; (case hy5_rb5 => intro w hSw; (try dsimp only at hSw); go_simp; first | done | with_reducible rfl))
            (try simp only [Act.put, pq])
            (refine tk (i := 6) (oi := ⟨some 68, _, _, _, _, _⟩) (v := ?v6_rb6) rfl ?hy6_rb6 ?rest6_rb6; (case hy6_rb6 => intro w hSw; (try dsimp only at hSw); go_simp; first | done | with_reducible rfl))
            (try simp only [Act.put, pq])
            (refine tk (i := 7) (oi := ⟨some 69, _, _, _, _, _⟩) (v := ?v7_rb7) rfl ?hy7_rb7 ?rest7_rb7; (case hy7_rb7 => intro w hSw; (try dsimp only at hSw); go_simp; first | done | with_reducible rfl))
            (try simp only [Act.put, pq])
            (refine tk (i := 8) (oi := ⟨some 70, _, _, _, _, _⟩) (v := ?v8_rb8) rfl ?hy8_rb8 ?rest8_rb8; (case hy8_rb8 => intro w hSw; (try dsimp only at hSw); go_simp; first | done | with_reducible rfl))
            (try simp only [Act.put, pq])
            (refine tk (i := 9) (oi := ⟨some 71, _, _, _, _, _⟩) (v := ?v9_rb9) rfl ?hy9_rb9 ?rest9_rb9; (case hy9_rb9 => intro w hSw; (try dsimp only at hSw); go_simp; first | done | with_reducible rfl))
            (try simp only [Act.put, pq])
            (refine tk (i := 10) (oi := ⟨some 72, _, _, _, _, _⟩) (v := ?v10_rb10) rfl ?hy10_rb10 ?rest10_rb10; (case hy10_rb10 => intro w hSw; (try dsimp only at hSw); go_simp; first | done | with_reducible rfl))
            (try simp only [Act.put, pq])
            refine wpAnyH_ready (rs := [4, 11]) (by kernel_rfl) (by simp) ?_
            refine AllReadyH.cons (o := ⟨some 66, _, _, _, _, _⟩) rfl (fun K hK => ?_) (AllReadyH.cons (o := ⟨some 73, _, _, _, _, _⟩) rfl (fun K hK => ?_) (AllReadyH.nil))
            · go_simp
              (go_at_call 58; (with_reducible refine (KC.out _ B_0.out).mono ?_); rintro e w_7 ⟨oc, cc, rfl, ho, hb⟩; have B_7 := Lib.hid (B_0.out.trans (hb.mono B_0.out.size)); have O_7 := Lib.hid (own_base (base' := w.heap.size) ho B_0.out.size); clear ho hb)
              refine hK.out _ _ ?_ (fun hHeld => ?_)
              · (try dsimp only)
                exact KS.out _ B_7.out
              clear hK K
              (try simp only [Act.put, pq])
              refine wpAnyH_ready (rs := [11]) (by kernel_rfl) (by simp) ?_
              refine AllReadyH.cons (o := ⟨some 73, _, _, _, _, _⟩) rfl (fun K hK => ?_) (AllReadyH.nil)
              go_simp
              have X_8 := Lib.hid (Blk.new w_7 3 #[.int .i64 x])
              have B_8 := Lib.hid (B_7.out.alloc B_7.out.size (.cells #[.int .i64 x] 3))
              have O_8 := Lib.hid (O_7.out.alloc (.cells #[.int .i64 x] 3))
              refine hK.out _ _ ?_ (fun hHeld => ?_)
              · (try dsimp only)
                exact KS.out _ B_8.out
              clear hK K
              generalize w_7.alloc (.cells #[.int .i64 x] 3) = w_8 at *
              (try simp only [Act.put, pq])
              refine wpAnyH_ready (rs := [12]) (by kernel_rfl) (by simp) ?_
              refine AllReadyH.cons (o := ⟨some 74, _, _, _, _, _⟩) rfl (fun K hK => ?_) (AllReadyH.nil)
              refine step_append_lies _ (by rfl) (.tmp 66) (.tmp 73) 23 (by rfl) w.heap.size 3 i0 (.int .i64 0) 1 8 Tryz.underlying23 hi0 hz0 hz1 hz2 rfl (by decide) (.slice oc la1 cc) la1 (ints (a.take la1)) (by rfl) O_8.out ⟨w_7.heap.size, 0, none⟩ 1 1 [.int .i64 x] (by rfl) rfl (World.news_of_block X_8.out) (by simp [Value.oneCell']) (by decide) (by unfold maxLen; omega) (by omega) B_8.out.size w_8.heap.size rfl ?_
              intro g9 cp9 w9 hown hgrow hat _
              have F9 := Lib.hid (own_msh hown)
              have B9 := Lib.hid (B_8.out.grown hgrow B_8.out.size (fun k e => (O_8.out.lt k e).1))
              clear hown hgrow hat
              refine hK.out _ _ ?_ (fun hHeld => ?_)
              · (try dsimp only)
                exact KS.out _ B9.out
              clear hK K
              (try simp only [Act.put, pq])
              (refine tk (i := 13) (oi := ⟨some 8, _, _, _, _, _⟩) (v := ?v13_rb11) rfl ?hy13_rb11 ?rest13_rb11; (case hy13_rb11 => intro w hSw; (try dsimp only at hSw); go_simp; first | done | with_reducible rfl))
              (try simp only [Act.put, pq])
              refine wpAnyH_done (by kernel_rfl) ?_ _
              have HLd : Hid (Ld w9 (.slice (some ⟨g9, 0, none⟩) (la1 + 1) cp9) (msh a b)) := Lib.hid (by rw [HMS.out]; exact Ld.of_own' F9.out (by rw [List.length_append, HTK.out]; rfl))
              have KM := Lib.hid (rmay_any _ (msh a b) w9 HLd.out (by rw [msh_len]; omega))
              have HML : Hid (la1 + 1 = (msh a b).length) := Lib.hid (by rw [msh_len]; exact HL1.out)
              cases hm : may (msh a b) with
              | false =>
                have R : Hid (mse a b = 5) := by unfold mse; rw [HFT.out, hm]; exact Lib.hid rfl
                rw [hm] at KM
                clear hm
                go_wp2_with (go_at_call 45; (with_reducible refine KM.out.mono ?_); rintro e w' ⟨rfl, rfl⟩)
                go_ret2
                rw [R.out]
                exact ⟨none, 0, rfl, Ld.nil _, B9.out⟩
              | true =>
                have R : Hid (mse a b = 0) := by unfold mse; rw [HFT.out, hm]; exact Lib.hid rfl
                rw [hm] at KM
                clear hm
                go_wp2_with (go_at_call 45; (with_reducible refine KM.out.mono ?_); rintro e w' ⟨rfl, rfl⟩)
                go_ret2
                rw [R.out]
                have h0 := HLd.out
                rw [HML.out] at h0 ⊢
                exact ⟨_, _, rfl, h0, B9.out⟩
            · go_simp
              have X_10 := Lib.hid (Blk.new w_0 3 #[.int .i64 x])
              have B_10 := Lib.hid (B_0.out.alloc B_0.out.size (.cells #[.int .i64 x] 3))
              refine hK.out _ _ ?_ (fun hHeld => ?_)
              · (try dsimp only)
                exact KS.out _ B_10.out
              clear hK K
              generalize w_0.alloc (.cells #[.int .i64 x] 3) = w_10 at *
              (try simp only [Act.put, pq])
              refine wpAnyH_ready (rs := [4]) (by kernel_rfl) (by simp) ?_
              refine AllReadyH.cons (o := ⟨some 66, _, _, _, _, _⟩) rfl (fun K hK => ?_) (AllReadyH.nil)
              go_simp
              (go_at_call 58; (with_reducible refine (KC.out _ B_10.out).mono ?_); rintro e w_11 ⟨oc, cc, rfl, ho, hb⟩; have B_11 := Lib.hid (B_10.out.trans (hb.mono B_10.out.size)); have O_11 := Lib.hid (own_base (base' := w.heap.size) ho B_10.out.size); have X_11 := Lib.hid (X_10.out.below hb X_10.out.lt); clear ho hb)
              refine hK.out _ _ ?_ (fun hHeld => ?_)
              · (try dsimp only)
                exact KS.out _ B_11.out
              clear hK K
              (try simp only [Act.put, pq])
              refine wpAnyH_ready (rs := [12]) (by kernel_rfl) (by simp) ?_
              refine AllReadyH.cons (o := ⟨some 74, _, _, _, _, _⟩) rfl (fun K hK => ?_) (AllReadyH.nil)
              refine step_append_lies _ (by rfl) (.tmp 66) (.tmp 73) 23 (by rfl) w.heap.size 3 i0 (.int .i64 0) 1 8 Tryz.underlying23 hi0 hz0 hz1 hz2 rfl (by decide) (.slice oc la1 cc) la1 (ints (a.take la1)) (by rfl) O_11.out ⟨w_0.heap.size, 0, none⟩ 1 1 [.int .i64 x] (by rfl) rfl (World.news_of_block X_11.out) (by simp [Value.oneCell']) (by decide) (by unfold maxLen; omega) (by omega) B_11.out.size w_11.heap.size rfl ?_
              intro g9 cp9 w9 hown hgrow hat _
              have F9 := Lib.hid (own_msh hown)
              have B9 := Lib.hid (B_11.out.grown hgrow B_11.out.size (fun k e => (O_11.out.lt k e).1))
              clear hown hgrow hat
              refine hK.out _ _ ?_ (fun hHeld => ?_)
              · (try dsimp only)
                exact KS.out _ B9.out
              clear hK K
              (try simp only [Act.put, pq])
              (refine tk (i := 13) (oi := ⟨some 8, _, _, _, _, _⟩) (v := ?v13_rb12) rfl ?hy13_rb12 ?rest13_rb12; (case hy13_rb12 => intro w hSw; (try dsimp only at hSw); go_simp; first | done | with_reducible rfl))
              (try simp only [Act.put, pq])
              refine wpAnyH_done (by kernel_rfl) ?_ _
              have HLd : Hid (Ld w9 (.slice (some ⟨g9, 0, none⟩) (la1 + 1) cp9) (msh a b)) := Lib.hid (by rw [HMS.out]; exact Ld.of_own' F9.out (by rw [List.length_append, HTK.out]; rfl))
              have KM := Lib.hid (rmay_any _ (msh a b) w9 HLd.out (by rw [msh_len]; omega))
              have HML : Hid (la1 + 1 = (msh a b).length) := Lib.hid (by rw [msh_len]; exact HL1.out)
              cases hm : may (msh a b) with
              | false =>
                have R : Hid (mse a b = 5) := by unfold mse; rw [HFT.out, hm]; exact Lib.hid rfl
                rw [hm] at KM
                clear hm
                go_wp2_with (go_at_call 45; (with_reducible refine KM.out.mono ?_); rintro e w' ⟨rfl, rfl⟩)
                go_ret2
                rw [R.out]
                exact ⟨none, 0, rfl, Ld.nil _, B9.out⟩
              | true =>
                have R : Hid (mse a b = 0) := by unfold mse; rw [HFT.out, hm]; exact Lib.hid rfl
                rw [hm] at KM
                clear hm
                go_wp2_with (go_at_call 45; (with_reducible refine KM.out.mono ?_); rintro e w' ⟨rfl, rfl⟩)
                go_ret2
                rw [R.out]
                have h0 := HLd.out
                rw [HML.out] at h0 ⊢
                exact ⟨_, _, rfl, h0, B9.out⟩
      · have R : Hid (mse a b = 2) := by
          unfold mse
          rw [if_neg]
          · exact Lib.hid rfl
          · intro hf; exact h3 (mfit_len hf).2.2.2.2
        go_enter Tryz.func97, Tryz.ntmps97
        go_upto_region 2 with fail
        go_cut [42] (fun s42 wx => s42 = .bool true ∧ Hid (Below w.heap.size w wx))
        case first =>
          as_aux_lemma =>
          obtain ⟨x, hx⟩ : ∃ x, x = a.getD (a.length - 1) 0 := ⟨_, rfl⟩
          obtain ⟨y, hy⟩ : ∃ y, y = b.getD (b.length - 2) 0 := ⟨_, rfl⟩
          rw [← hx, ← hla1] at za
          rw [← hy, ← hlb2] at zb
          have xy : (x != y) = true := by rw [bne_iff_ne, hx, hy]; exact h3
          clear hx hy hla1 hlb2
          obtain ⟨⟨e1, e2⟩, ⟨e3, e4⟩⟩ := E12.out
          by_cases q : b.length = 2
          · have b2 : ((b.length : Int) != 2) = false := by simp [q]
            clear q
            refine wp_region_held_drew (S := fun W => W.cell? ⟨ga, fa + la1, none⟩ = some (.int .i64 x) ∧ W.cell? ⟨gb, fb + lb2, none⟩ = some (.int .i64 y)) (by kernel_rfl) ?_ (fun hHeld => ?_)
            · exact ⟨za, zb⟩
            have hHd := hHeld
            (refine tk (i := 0) (oi := ⟨some 11, _, _, _, _, _⟩) (v := ?v0_s31) rfl ?hy0_s31 ?rest0_s31; (case hy0_s31 => intro w hSw; (try dsimp only at hSw); go_simp; first | done | with_reducible rfl))
            (try simp only [Act.put, pq])
            (refine tk (i := 1) (oi := ⟨some 12, _, _, _, _, _⟩) (v := ?v1_s32) rfl ?hy1_s32 ?rest1_s32; (case hy1_s32 => intro w hSw; (try dsimp only at hSw); go_simp; first | done | with_reducible rfl))
            (try simp only [Act.put, pq])
            (refine tk (i := 2) (oi := ⟨some 13, _, _, _, _, _⟩) (v := .bool false) rfl ?hy2_s33 ?rest2_s33; (case hy2_s33 => intro w hSw; (try dsimp only at hSw); go_simp; first | done | with_reducible rfl))
            (try simp only [Act.put, pq])
            (refine tk (i := 3) (oi := ⟨some 14, _, _, _, _, _⟩) (v := ?v3_s34) rfl ?hy3_s34 ?rest3_s34; (case hy3_s34 => intro w hSw; (try dsimp only at hSw); go_simp; first | done | with_reducible rfl))
            (try simp only [Act.put, pq])
            (refine tk (i := 4) (oi := ⟨some 15, _, _, _, _, _⟩) (v := ?v4_s35) rfl ?hy4_s35 ?rest4_s35; (case hy4_s35 => intro w hSw; (try dsimp only at hSw); go_simp; first | done | with_reducible rfl))
            (try simp only [Act.put, pq])
            (refine tk (i := 5) (oi := ⟨some 16, _, _, _, _, _⟩) (v := ?v5_s36) rfl ?hy5_s36 ?rest5_s36; (case hy5_s36 => intro w hSw; (try dsimp only at hSw); go_simp; first | done | with_reducible rfl))
            (try simp only [Act.put, pq])
            (refine tk (i := 6) (oi := ⟨some 17, _, _, _, _, _⟩) (v := .bool false) rfl ?hy6_s37 ?rest6_s37; (case hy6_s37 => intro w hSw; (try dsimp only at hSw); go_simp; first | done | with_reducible rfl))
            (try simp only [Act.put, pq])
            (refine ts (i := 7) (oi := ⟨some 18, _, _, _, _, _⟩) rfl ?_)
            (try simp only [Act.put, pq])
            (refine ts (i := 8) (oi := ⟨some 19, _, _, _, _, _⟩) rfl ?_)
            (try simp only [Act.put, pq])
            (refine ts (i := 9) (oi := ⟨some 20, _, _, _, _, _⟩) rfl ?_)
            (try simp only [Act.put, pq])
            (refine ts (i := 10) (oi := ⟨some 21, _, _, _, _, _⟩) rfl ?_)
            (try simp only [Act.put, pq])
            (refine tk (i := 11) (oi := ⟨some 22, _, _, _, _, _⟩) (v := ?v11_s312) rfl ?hy11_s312 ?rest11_s312; (case hy11_s312 => intro w hSw; (try dsimp only at hSw); go_simp; first | done | with_reducible rfl))
            (try simp only [Act.put, pq])
            (refine tk (i := 12) (oi := ⟨some 23, _, _, _, _, _⟩) (v := ?v12_s313) rfl ?hy12_s313 ?rest12_s313; (case hy12_s313 => intro w hSw; (try dsimp only at hSw); go_simp; first | done | with_reducible rfl))
            (try simp only [Act.put, pq])
            (refine tk (i := 13) (oi := ⟨some 24, _, _, _, _, _⟩) (v := .bool false) rfl ?hy13_s314 ?rest13_s314; (case hy13_s314 => intro w hSw; (try dsimp only at hSw); go_simp; first | done | with_reducible rfl))
            (try simp only [Act.put, pq])
            (refine tk (i := 14) (oi := ⟨some 25, _, _, _, _, _⟩) (v := ?v14_s315) rfl ?hy14_s315 ?rest14_s315; (case hy14_s315 => intro w hSw; (try dsimp only at hSw); go_simp; first | done | with_reducible rfl))
            (try simp only [Act.put, pq])
            (refine tk (i := 15) (oi := ⟨some 26, _, _, _, _, _⟩) (v := ?v15_s316) rfl ?hy15_s316 ?rest15_s316; (case hy15_s316 => intro w hSw; (try dsimp only at hSw); go_simp; first | done | with_reducible rfl))
            (try simp only [Act.put, pq])
            (refine tk (i := 16) (oi := ⟨some 27, _, _, _, _, _⟩) (v := ?v16_s317) rfl ?hy16_s317 ?rest16_s317; (case hy16_s317 => intro w hSw; (try dsimp only at hSw); go_simp; first | done | with_reducible rfl))
            (try simp only [Act.put, pq])
            (refine tk (i := 17) (oi := ⟨some 28, _, _, _, _, _⟩) (v := ?v17_s318) rfl ?hy17_s318 ?rest17_s318; (case hy17_s318 => intro w hSw; (try dsimp only at hSw); go_simp; first | done | with_reducible rfl))
            (try simp only [Act.put, pq])
            (refine tk (i := 18) (oi := ⟨some 29, _, _, _, _, _⟩) (v := .bool false) rfl ?hy18_s319 ?rest18_s319; (case hy18_s319 => intro w hSw; (try dsimp only at hSw); go_simp; first | done | with_reducible rfl))
            (try simp only [Act.put, pq])
            (refine tk (i := 19) (oi := ⟨some 30, _, _, _, _, _⟩) (v := ?v19_s320) rfl ?hy19_s320 ?rest19_s320; (case hy19_s320 => intro w hSw; (try dsimp only at hSw); go_simp; first | done | with_reducible rfl))
            (try simp only [Act.put, pq])
            (refine tk (i := 20) (oi := ⟨some 31, _, _, _, _, _⟩) (v := ?v20_s321) rfl ?hy20_s321 ?rest20_s321; (case hy20_s321 => intro w hSw; (try dsimp only at hSw); go_simp; first | done | with_reducible rfl))
            (try simp only [Act.put, pq])
            (refine tk (i := 21) (oi := ⟨some 32, _, _, _, _, _⟩) (v := ?v21_s322) rfl ?hy21_s322 ?rest21_s322; (case hy21_s322 => intro w hSw; (try dsimp only at hSw); go_simp; first | done | with_reducible rfl))
            (try simp only [Act.put, pq])
            (refine tk (i := 22) (oi := ⟨some 33, _, _, _, _, _⟩) (v := ?v22_s323) rfl ?hy22_s323 ?rest22_s323; (case hy22_s323 => intro w hSw; (try dsimp only at hSw); go_simp; first | done | with_reducible rfl))
            (try simp only [Act.put, pq])
            (refine tk (i := 23) (oi := ⟨some 34, _, _, _, _, _⟩) (v := ?v23_s324) rfl ?hy23_s324 ?rest23_s324; (case hy23_s324 => intro w hSw; (try dsimp only at hSw); go_simp; first | done | with_reducible rfl))
            (try simp only [Act.put, pq])
            (refine tk (i := 24) (oi := ⟨some 35, _, _, _, _, _⟩) (v := ?v24_s325) rfl ?hy24_s325 ?rest24_s325; (case hy24_s325 => intro w hSw; (try dsimp only at hSw); go_simp; first | done | with_reducible rfl))
            (try simp only [Act.put, pq])
            (refine tk (i := 25) (oi := ⟨some 36, _, _, _, _, _⟩) (v := ?v25_s326) rfl ?hy25_s326 ?rest25_s326; (case hy25_s326 => intro w hSw; (try dsimp only at hSw); go_simp; first | done | with_reducible rfl))
            (try simp only [Act.put, pq])
            (refine tk (i := 26) (oi := ⟨some 37, _, _, _, _, _⟩) (v := ?v26_s327) rfl ?hy26_s327 ?rest26_s327; (case hy26_s327 => intro w hSw; (try dsimp only at hSw); go_simp; first | done | with_reducible rfl))
            (try simp only [Act.put, pq])
            (refine tk (i := 27) (oi := ⟨some 38, _, _, _, _, _⟩) (v := ?v27_s328) rfl ?hy27_s328 ?rest27_s328; (case hy27_s328 => intro w hSw; (try dsimp only at hSw); go_simp; first | done | with_reducible rfl))
            (try simp only [Act.put, pq])
            (refine tk (i := 28) (oi := ⟨some 39, _, _, _, _, _⟩) (v := ?v28_s329) rfl ?hy28_s329 ?rest28_s329; (case hy28_s329 => intro w hSw; (try dsimp only at hSw); go_simp; first | done | with_reducible rfl))
            (try simp only [Act.put, pq])
            (refine tk (i := 29) (oi := ⟨some 40, _, _, _, _, _⟩) (v := ?v29_s330) rfl ?hy29_s330 ?rest29_s330; (case hy29_s330 => intro w hSw; (try dsimp only at hSw); go_simp; first | done | with_reducible rfl))
            (try simp only [Act.put, pq])
            (refine tk (i := 30) (oi := ⟨some 41, _, _, _, _, _⟩) (v := ?v30_s331) rfl ?hy30_s331 ?rest30_s331; (case hy30_s331 => intro w hSw; (try dsimp only at hSw); go_simp; first | done | with_reducible rfl))
            (try simp only [Act.put, pq])
            (refine tk (i := 31) (oi := ⟨some 42, _, _, _, _, _⟩) (v := ?v31_s332) rfl ?hy31_s332 ?rest31_s332; (case hy31_s332 => intro w hSw; (try dsimp only at hSw); go_simp; first | done | with_reducible rfl))
            (try simp only [Act.put, pq])
            refine wpAnyH_done (by kernel_rfl) ?_ _
            go_wp2
            go_meet
            exact ⟨rfl, Lib.hid (below_drw (Below.refl _ _) _)⟩
          · have b2 : ((b.length : Int) != 2) = true := by rw [bne_iff_ne]; omega
            have q2 : b.length = a.length := by omega
            have b3 : ((b.length : Int) != (a.length : Int)) = false := by simp [q2]
            clear q q2
            refine wp_region_held_drew (S := fun W => W.cell? ⟨ga, fa + la1, none⟩ = some (.int .i64 x) ∧ W.cell? ⟨gb, fb + lb2, none⟩ = some (.int .i64 y)) (by kernel_rfl) ?_ (fun hHeld => ?_)
            · exact ⟨za, zb⟩
            have hHd := hHeld
            (refine tk (i := 0) (oi := ⟨some 11, _, _, _, _, _⟩) (v := ?v0_s41) rfl ?hy0_s41 ?rest0_s41; (case hy0_s41 => intro w hSw; (try dsimp only at hSw); go_simp; first | done | with_reducible rfl))
            (try simp only [Act.put, pq])
            (refine tk (i := 1) (oi := ⟨some 12, _, _, _, _, _⟩) (v := ?v1_s42) rfl ?hy1_s42 ?rest1_s42; (case hy1_s42 => intro w hSw; (try dsimp only at hSw); go_simp; first | done | with_reducible rfl))
            (try simp only [Act.put, pq])
            (refine tk (i := 2) (oi := ⟨some 13, _, _, _, _, _⟩) (v := .bool false) rfl ?hy2_s43 ?rest2_s43; (case hy2_s43 => intro w hSw; (try dsimp only at hSw); go_simp; first | done | with_reducible rfl))
            (try simp only [Act.put, pq])
            (refine tk (i := 3) (oi := ⟨some 14, _, _, _, _, _⟩) (v := ?v3_s44) rfl ?hy3_s44 ?rest3_s44; (case hy3_s44 => intro w hSw; (try dsimp only at hSw); go_simp; first | done | with_reducible rfl))
            (try simp only [Act.put, pq])
            (refine tk (i := 4) (oi := ⟨some 15, _, _, _, _, _⟩) (v := ?v4_s45) rfl ?hy4_s45 ?rest4_s45; (case hy4_s45 => intro w hSw; (try dsimp only at hSw); go_simp; first | done | with_reducible rfl))
            (try simp only [Act.put, pq])
            (refine tk (i := 5) (oi := ⟨some 16, _, _, _, _, _⟩) (v := ?v5_s46) rfl ?hy5_s46 ?rest5_s46; (case hy5_s46 => intro w hSw; (try dsimp only at hSw); go_simp; first | done | with_reducible rfl))
            (try simp only [Act.put, pq])
            (refine tk (i := 6) (oi := ⟨some 17, _, _, _, _, _⟩) (v := .bool true) rfl ?hy6_s47 ?rest6_s47; (case hy6_s47 => intro w hSw; (try dsimp only at hSw); go_simp; first | done | with_reducible rfl))
            (try simp only [Act.put, pq])
            (refine tk (i := 7) (oi := ⟨some 18, _, _, _, _, _⟩) (v := ?v7_s48) rfl ?hy7_s48 ?rest7_s48; (case hy7_s48 => intro w hSw; (try dsimp only at hSw); go_simp; first | done | with_reducible rfl))
            (try simp only [Act.put, pq])
            (refine tk (i := 8) (oi := ⟨some 19, _, _, _, _, _⟩) (v := ?v8_s49) rfl ?hy8_s49 ?rest8_s49; (case hy8_s49 => intro w hSw; (try dsimp only at hSw); go_simp; first | done | with_reducible rfl))
            (try simp only [Act.put, pq])
            (refine tk (i := 9) (oi := ⟨some 20, _, _, _, _, _⟩) (v := ?v9_s410) rfl ?hy9_s410 ?rest9_s410; (case hy9_s410 => intro w hSw; (try dsimp only at hSw); go_simp; first | done | with_reducible rfl))
            (try simp only [Act.put, pq])
            (refine tk (i := 10) (oi := ⟨some 21, _, _, _, _, _⟩) (v := ?v10_s411) rfl ?hy10_s411 ?rest10_s411; (case hy10_s411 => intro w hSw; (try dsimp only at hSw); go_simp; first | done | with_reducible rfl))
            (try simp only [Act.put, pq])
            (refine tk (i := 11) (oi := ⟨some 22, _, _, _, _, _⟩) (v := ?v11_s412) rfl ?hy11_s412 ?rest11_s412; (case hy11_s412 => intro w hSw; (try dsimp only at hSw); go_simp; first | done | with_reducible rfl))
            (try simp only [Act.put, pq])
            (refine tk (i := 12) (oi := ⟨some 23, _, _, _, _, _⟩) (v := ?v12_s413) rfl ?hy12_s413 ?rest12_s413; (case hy12_s413 => intro w hSw; (try dsimp only at hSw); go_simp; first | done | with_reducible rfl))
            (try simp only [Act.put, pq])
            (refine tk (i := 13) (oi := ⟨some 24, _, _, _, _, _⟩) (v := .bool false) rfl ?hy13_s414 ?rest13_s414; (case hy13_s414 => intro w hSw; (try dsimp only at hSw); go_simp; first | done | with_reducible rfl))
            (try simp only [Act.put, pq])
            (refine tk (i := 14) (oi := ⟨some 25, _, _, _, _, _⟩) (v := ?v14_s415) rfl ?hy14_s415 ?rest14_s415; (case hy14_s415 => intro w hSw; (try dsimp only at hSw); go_simp; first | done | with_reducible rfl))
            (try simp only [Act.put, pq])
            (refine tk (i := 15) (oi := ⟨some 26, _, _, _, _, _⟩) (v := ?v15_s416) rfl ?hy15_s416 ?rest15_s416; (case hy15_s416 => intro w hSw; (try dsimp only at hSw); go_simp; first | done | with_reducible rfl))
            (try simp only [Act.put, pq])
            (refine tk (i := 16) (oi := ⟨some 27, _, _, _, _, _⟩) (v := ?v16_s417) rfl ?hy16_s417 ?rest16_s417; (case hy16_s417 => intro w hSw; (try dsimp only at hSw); go_simp; first | done | with_reducible rfl))
            (try simp only [Act.put, pq])
            (refine tk (i := 17) (oi := ⟨some 28, _, _, _, _, _⟩) (v := ?v17_s418) rfl ?hy17_s418 ?rest17_s418; (case hy17_s418 => intro w hSw; (try dsimp only at hSw); go_simp; first | done | with_reducible rfl))
            (try simp only [Act.put, pq])
            (refine tk (i := 18) (oi := ⟨some 29, _, _, _, _, _⟩) (v := .bool false) rfl ?hy18_s419 ?rest18_s419; (case hy18_s419 => intro w hSw; (try dsimp only at hSw); go_simp; first | done | with_reducible rfl))
            (try simp only [Act.put, pq])
            (refine tk (i := 19) (oi := ⟨some 30, _, _, _, _, _⟩) (v := ?v19_s420) rfl ?hy19_s420 ?rest19_s420; (case hy19_s420 => intro w hSw; (try dsimp only at hSw); go_simp; first | done | with_reducible rfl))
            (try simp only [Act.put, pq])
            (refine tk (i := 20) (oi := ⟨some 31, _, _, _, _, _⟩) (v := ?v20_s421) rfl ?hy20_s421 ?rest20_s421; (case hy20_s421 => intro w hSw; (try dsimp only at hSw); go_simp; first | done | with_reducible rfl))
            (try simp only [Act.put, pq])
            (refine tk (i := 21) (oi := ⟨some 32, _, _, _, _, _⟩) (v := ?v21_s422) rfl ?hy21_s422 ?rest21_s422; (case hy21_s422 => intro w hSw; (try dsimp only at hSw); go_simp; first | done | with_reducible rfl))
            (try simp only [Act.put, pq])
            (refine tk (i := 22) (oi := ⟨some 33, _, _, _, _, _⟩) (v := ?v22_s423) rfl ?hy22_s423 ?rest22_s423; (case hy22_s423 => intro w hSw; (try dsimp only at hSw); go_simp; first | done | with_reducible rfl))
            (try simp only [Act.put, pq])
            (refine tk (i := 23) (oi := ⟨some 34, _, _, _, _, _⟩) (v := ?v23_s424) rfl ?hy23_s424 ?rest23_s424; (case hy23_s424 => intro w hSw; (try dsimp only at hSw); go_simp; first | done | with_reducible rfl))
            (try simp only [Act.put, pq])
            (refine tk (i := 24) (oi := ⟨some 35, _, _, _, _, _⟩) (v := ?v24_s425) rfl ?hy24_s425 ?rest24_s425; (case hy24_s425 => intro w hSw; (try dsimp only at hSw); go_simp; first | done | with_reducible rfl))
            (try simp only [Act.put, pq])
            (refine tk (i := 25) (oi := ⟨some 36, _, _, _, _, _⟩) (v := ?v25_s426) rfl ?hy25_s426 ?rest25_s426; (case hy25_s426 => intro w hSw; (try dsimp only at hSw); go_simp; first | done | with_reducible rfl))
            (try simp only [Act.put, pq])
            (refine tk (i := 26) (oi := ⟨some 37, _, _, _, _, _⟩) (v := ?v26_s427) rfl ?hy26_s427 ?rest26_s427; (case hy26_s427 => intro w hSw; (try dsimp only at hSw); go_simp; first | done | with_reducible rfl))
            (try simp only [Act.put, pq])
            (refine tk (i := 27) (oi := ⟨some 38, _, _, _, _, _⟩) (v := ?v27_s428) rfl ?hy27_s428 ?rest27_s428; (case hy27_s428 => intro w hSw; (try dsimp only at hSw); go_simp; first | done | with_reducible rfl))
            (try simp only [Act.put, pq])
            (refine tk (i := 28) (oi := ⟨some 39, _, _, _, _, _⟩) (v := ?v28_s429) rfl ?hy28_s429 ?rest28_s429; (case hy28_s429 => intro w hSw; (try dsimp only at hSw); go_simp; first | done | with_reducible rfl))
            (try simp only [Act.put, pq])
            (refine tk (i := 29) (oi := ⟨some 40, _, _, _, _, _⟩) (v := ?v29_s430) rfl ?hy29_s430 ?rest29_s430; (case hy29_s430 => intro w hSw; (try dsimp only at hSw); go_simp; first | done | with_reducible rfl))
            (try simp only [Act.put, pq])
            (refine tk (i := 30) (oi := ⟨some 41, _, _, _, _, _⟩) (v := ?v30_s431) rfl ?hy30_s431 ?rest30_s431; (case hy30_s431 => intro w hSw; (try dsimp only at hSw); go_simp; first | done | with_reducible rfl))
            (try simp only [Act.put, pq])
            (refine tk (i := 31) (oi := ⟨some 42, _, _, _, _, _⟩) (v := ?v31_s432) rfl ?hy31_s432 ?rest31_s432; (case hy31_s432 => intro w hSw; (try dsimp only at hSw); go_simp; first | done | with_reducible rfl))
            (try simp only [Act.put, pq])
            refine wpAnyH_done (by kernel_rfl) ?_ _
            go_wp2
            go_meet
            exact ⟨rfl, Lib.hid (below_drw (Below.refl _ _) _)⟩
        case rest =>
          obtain ⟨rfl, HB⟩ := hcut
          go_wp2
          go_ret2
          rw [R.out]
          exact ⟨none, 0, rfl, Ld.nil _, HB.out⟩
    · have R : Hid (mse a b = 2) := by
        unfold mse
        rw [if_neg]
        · exact Lib.hid rfl
        · intro hf; exact h2 (mfit_len hf).2.2.1
      have g1b : decide ((a.length : Int) < 2) = false := by simp; omega
      have b2 : ((b.length : Int) != 2) = true := by rw [bne_iff_ne]; omega
      have b3 : ((b.length : Int) != (a.length : Int)) = true := by rw [bne_iff_ne]; omega
      go_enter Tryz.func97, Tryz.ntmps97
      go_upto_region 2 with fail
      go_cut [42] (fun s42 wx => s42 = .bool true ∧ Hid (Below w.heap.size w wx))
      case first =>
        as_aux_lemma =>
        refine wp_region_held_drew (S := fun W => True) (by kernel_rfl) ?_ (fun hHeld => ?_)
        · trivial
        have hHd := hHeld
        (refine tk (i := 0) (oi := ⟨some 11, _, _, _, _, _⟩) (v := ?v0_s51) rfl ?hy0_s51 ?rest0_s51; (case hy0_s51 => intro w hSw; (try dsimp only at hSw); go_simp; first | done | with_reducible rfl))
        (try simp only [Act.put, pq])
        (refine tk (i := 1) (oi := ⟨some 12, _, _, _, _, _⟩) (v := ?v1_s52) rfl ?hy1_s52 ?rest1_s52; (case hy1_s52 => intro w hSw; (try dsimp only at hSw); go_simp; first | done | with_reducible rfl))
        (try simp only [Act.put, pq])
        (refine tk (i := 2) (oi := ⟨some 13, _, _, _, _, _⟩) (v := .bool false) rfl ?hy2_s53 ?rest2_s53; (case hy2_s53 => intro w hSw; (try dsimp only at hSw); go_simp; first | done | with_reducible rfl))
        (try simp only [Act.put, pq])
        (refine tk (i := 3) (oi := ⟨some 14, _, _, _, _, _⟩) (v := ?v3_s54) rfl ?hy3_s54 ?rest3_s54; (case hy3_s54 => intro w hSw; (try dsimp only at hSw); go_simp; first | done | with_reducible rfl))
        (try simp only [Act.put, pq])
        (refine tk (i := 4) (oi := ⟨some 15, _, _, _, _, _⟩) (v := ?v4_s55) rfl ?hy4_s55 ?rest4_s55; (case hy4_s55 => intro w hSw; (try dsimp only at hSw); go_simp; first | done | with_reducible rfl))
        (try simp only [Act.put, pq])
        (refine tk (i := 5) (oi := ⟨some 16, _, _, _, _, _⟩) (v := ?v5_s56) rfl ?hy5_s56 ?rest5_s56; (case hy5_s56 => intro w hSw; (try dsimp only at hSw); go_simp; first | done | with_reducible rfl))
        (try simp only [Act.put, pq])
        (refine tk (i := 6) (oi := ⟨some 17, _, _, _, _, _⟩) (v := .bool true) rfl ?hy6_s57 ?rest6_s57; (case hy6_s57 => intro w hSw; (try dsimp only at hSw); go_simp; first | done | with_reducible rfl))
        (try simp only [Act.put, pq])
        (refine tk (i := 7) (oi := ⟨some 18, _, _, _, _, _⟩) (v := ?v7_s58) rfl ?hy7_s58 ?rest7_s58; (case hy7_s58 => intro w hSw; (try dsimp only at hSw); go_simp; first | done | with_reducible rfl))
        (try simp only [Act.put, pq])
        (refine tk (i := 8) (oi := ⟨some 19, _, _, _, _, _⟩) (v := ?v8_s59) rfl ?hy8_s59 ?rest8_s59; (case hy8_s59 => intro w hSw; (try dsimp only at hSw); go_simp; first | done | with_reducible rfl))
        (try simp only [Act.put, pq])
        (refine tk (i := 9) (oi := ⟨some 20, _, _, _, _, _⟩) (v := ?v9_s510) rfl ?hy9_s510 ?rest9_s510; (case hy9_s510 => intro w hSw; (try dsimp only at hSw); go_simp; first | done | with_reducible rfl))
        (try simp only [Act.put, pq])
        (refine tk (i := 10) (oi := ⟨some 21, _, _, _, _, _⟩) (v := ?v10_s511) rfl ?hy10_s511 ?rest10_s511; (case hy10_s511 => intro w hSw; (try dsimp only at hSw); go_simp; first | done | with_reducible rfl))
        (try simp only [Act.put, pq])
        (refine tk (i := 11) (oi := ⟨some 22, _, _, _, _, _⟩) (v := ?v11_s512) rfl ?hy11_s512 ?rest11_s512; (case hy11_s512 => intro w hSw; (try dsimp only at hSw); go_simp; first | done | with_reducible rfl))
        (try simp only [Act.put, pq])
        (refine tk (i := 12) (oi := ⟨some 23, _, _, _, _, _⟩) (v := ?v12_s513) rfl ?hy12_s513 ?rest12_s513; (case hy12_s513 => intro w hSw; (try dsimp only at hSw); go_simp; first | done | with_reducible rfl))
        (try simp only [Act.put, pq])
        (refine tk (i := 13) (oi := ⟨some 24, _, _, _, _, _⟩) (v := .bool true) rfl ?hy13_s514 ?rest13_s514; (case hy13_s514 => intro w hSw; (try dsimp only at hSw); go_simp; first | done | with_reducible rfl))
        (try simp only [Act.put, pq])
        (refine ts (i := 14) (oi := ⟨some 25, _, _, _, _, _⟩) rfl ?_)
        (try simp only [Act.put, pq])
        (refine ts (i := 15) (oi := ⟨some 26, _, _, _, _, _⟩) rfl ?_)
        (try simp only [Act.put, pq])
        (refine ts (i := 16) (oi := ⟨some 27, _, _, _, _, _⟩) rfl ?_)
        (try simp only [Act.put, pq])
        (refine tk (i := 17) (oi := ⟨some 28, _, _, _, _, _⟩) (v := ?v17_s518) rfl ?hy17_s518 ?rest17_s518; (case hy17_s518 => intro w hSw; (try dsimp only at hSw); go_simp; first | done | with_reducible rfl))
        (try simp only [Act.put, pq])
        (refine tk (i := 18) (oi := ⟨some 29, _, _, _, _, _⟩) (v := .bool true) rfl ?hy18_s519 ?rest18_s519; (case hy18_s519 => intro w hSw; (try dsimp only at hSw); go_simp; first | done | with_reducible rfl))
        (try simp only [Act.put, pq])
        (refine ts (i := 19) (oi := ⟨some 30, _, _, _, _, _⟩) rfl ?_)
        (try simp only [Act.put, pq])
        (refine ts (i := 20) (oi := ⟨some 31, _, _, _, _, _⟩) rfl ?_)
        (try simp only [Act.put, pq])
        (refine ts (i := 21) (oi := ⟨some 32, _, _, _, _, _⟩) rfl ?_)
        (try simp only [Act.put, pq])
        (refine ts (i := 22) (oi := ⟨some 33, _, _, _, _, _⟩) rfl ?_)
        (try simp only [Act.put, pq])
        (refine ts (i := 23) (oi := ⟨some 34, _, _, _, _, _⟩) rfl ?_)
        (try simp only [Act.put, pq])
        (refine ts (i := 24) (oi := ⟨some 35, _, _, _, _, _⟩) rfl ?_)
        (try simp only [Act.put, pq])
        (refine ts (i := 25) (oi := ⟨some 36, _, _, _, _, _⟩) rfl ?_)
        (try simp only [Act.put, pq])
        (refine ts (i := 26) (oi := ⟨some 37, _, _, _, _, _⟩) rfl ?_)
        (try simp only [Act.put, pq])
        (refine ts (i := 27) (oi := ⟨some 38, _, _, _, _, _⟩) rfl ?_)
        (try simp only [Act.put, pq])
        (refine ts (i := 28) (oi := ⟨some 39, _, _, _, _, _⟩) rfl ?_)
        (try simp only [Act.put, pq])
        (refine ts (i := 29) (oi := ⟨some 40, _, _, _, _, _⟩) rfl ?_)
        (try simp only [Act.put, pq])
        (refine ts (i := 30) (oi := ⟨some 41, _, _, _, _, _⟩) rfl ?_)
        (try simp only [Act.put, pq])
        (refine tk (i := 31) (oi := ⟨some 42, _, _, _, _, _⟩) (v := ?v31_s532) rfl ?hy31_s532 ?rest31_s532; (case hy31_s532 => intro w hSw; (try dsimp only at hSw); go_simp; first | done | with_reducible rfl))
        (try simp only [Act.put, pq])
        refine wpAnyH_done (by kernel_rfl) ?_ _
        go_wp2
        go_meet
        exact ⟨rfl, Lib.hid (below_drw (Below.refl _ _) _)⟩
      case rest =>
        obtain ⟨rfl, HB⟩ := hcut
        go_wp2
        go_ret2
        rw [R.out]
        exact ⟨none, 0, rfl, Ld.nil _, HB.out⟩
  · have R : Hid (mse a b = 2) := by
      unfold mse
      rw [if_neg]
      · exact Lib.hid rfl
      · intro hf; exact h1 (mfit_len hf).1
    have g1b : decide ((a.length : Int) < 2) = true := by simp; omega
    go_enter Tryz.func97, Tryz.ntmps97
    go_upto_region 2 with fail
    go_cut [42] (fun s42 wx => s42 = .bool true ∧ Hid (Below w.heap.size w wx))
    case first =>
      as_aux_lemma =>
      refine wp_region_held_drew (S := fun W => True) (by kernel_rfl) ?_ (fun hHeld => ?_)
      · trivial
      have hHd := hHeld
      (refine tk (i := 0) (oi := ⟨some 11, _, _, _, _, _⟩) (v := ?v0_s61) rfl ?hy0_s61 ?rest0_s61; (case hy0_s61 => intro w hSw; (try dsimp only at hSw); go_simp; first | done | with_reducible rfl))
      (try simp only [Act.put, pq])
      (refine tk (i := 1) (oi := ⟨some 12, _, _, _, _, _⟩) (v := ?v1_s62) rfl ?hy1_s62 ?rest1_s62; (case hy1_s62 => intro w hSw; (try dsimp only at hSw); go_simp; first | done | with_reducible rfl))
      (try simp only [Act.put, pq])
      (refine tk (i := 2) (oi := ⟨some 13, _, _, _, _, _⟩) (v := .bool true) rfl ?hy2_s63 ?rest2_s63; (case hy2_s63 => intro w hSw; (try dsimp only at hSw); go_simp; first | done | with_reducible rfl))
      (try simp only [Act.put, pq])
      (refine ts (i := 3) (oi := ⟨some 14, _, _, _, _, _⟩) rfl ?_)
      (try simp only [Act.put, pq])
      (refine ts (i := 4) (oi := ⟨some 15, _, _, _, _, _⟩) rfl ?_)
      (try simp only [Act.put, pq])
      (refine ts (i := 5) (oi := ⟨some 16, _, _, _, _, _⟩) rfl ?_)
      (try simp only [Act.put, pq])
      (refine ts (i := 6) (oi := ⟨some 17, _, _, _, _, _⟩) rfl ?_)
      (try simp only [Act.put, pq])
      (refine ts (i := 7) (oi := ⟨some 18, _, _, _, _, _⟩) rfl ?_)
      (try simp only [Act.put, pq])
      (refine ts (i := 8) (oi := ⟨some 19, _, _, _, _, _⟩) rfl ?_)
      (try simp only [Act.put, pq])
      (refine ts (i := 9) (oi := ⟨some 20, _, _, _, _, _⟩) rfl ?_)
      (try simp only [Act.put, pq])
      (refine ts (i := 10) (oi := ⟨some 21, _, _, _, _, _⟩) rfl ?_)
      (try simp only [Act.put, pq])
      (refine ts (i := 11) (oi := ⟨some 22, _, _, _, _, _⟩) rfl ?_)
      (try simp only [Act.put, pq])
      (refine tk (i := 12) (oi := ⟨some 23, _, _, _, _, _⟩) (v := ?v12_s613) rfl ?hy12_s613 ?rest12_s613; (case hy12_s613 => intro w hSw; (try dsimp only at hSw); go_simp; first | done | with_reducible rfl))
      (try simp only [Act.put, pq])
      (refine tk (i := 13) (oi := ⟨some 24, _, _, _, _, _⟩) (v := .bool true) rfl ?hy13_s614 ?rest13_s614; (case hy13_s614 => intro w hSw; (try dsimp only at hSw); go_simp; first | done | with_reducible rfl))
      (try simp only [Act.put, pq])
      (refine ts (i := 14) (oi := ⟨some 25, _, _, _, _, _⟩) rfl ?_)
      (try simp only [Act.put, pq])
      (refine ts (i := 15) (oi := ⟨some 26, _, _, _, _, _⟩) rfl ?_)
      (try simp only [Act.put, pq])
      (refine ts (i := 16) (oi := ⟨some 27, _, _, _, _, _⟩) rfl ?_)
      (try simp only [Act.put, pq])
      (refine tk (i := 17) (oi := ⟨some 28, _, _, _, _, _⟩) (v := ?v17_s618) rfl ?hy17_s618 ?rest17_s618; (case hy17_s618 => intro w hSw; (try dsimp only at hSw); go_simp; first | done | with_reducible rfl))
      (try simp only [Act.put, pq])
      (refine tk (i := 18) (oi := ⟨some 29, _, _, _, _, _⟩) (v := .bool true) rfl ?hy18_s619 ?rest18_s619; (case hy18_s619 => intro w hSw; (try dsimp only at hSw); go_simp; first | done | with_reducible rfl))
      (try simp only [Act.put, pq])
      (refine ts (i := 19) (oi := ⟨some 30, _, _, _, _, _⟩) rfl ?_)
      (try simp only [Act.put, pq])
      (refine ts (i := 20) (oi := ⟨some 31, _, _, _, _, _⟩) rfl ?_)
      (try simp only [Act.put, pq])
      (refine ts (i := 21) (oi := ⟨some 32, _, _, _, _, _⟩) rfl ?_)
      (try simp only [Act.put, pq])
      (refine ts (i := 22) (oi := ⟨some 33, _, _, _, _, _⟩) rfl ?_)
      (try simp only [Act.put, pq])
      (refine ts (i := 23) (oi := ⟨some 34, _, _, _, _, _⟩) rfl ?_)
      (try simp only [Act.put, pq])
      (refine ts (i := 24) (oi := ⟨some 35, _, _, _, _, _⟩) rfl ?_)
      (try simp only [Act.put, pq])
      (refine ts (i := 25) (oi := ⟨some 36, _, _, _, _, _⟩) rfl ?_)
      (try simp only [Act.put, pq])
      (refine ts (i := 26) (oi := ⟨some 37, _, _, _, _, _⟩) rfl ?_)
      (try simp only [Act.put, pq])
      (refine ts (i := 27) (oi := ⟨some 38, _, _, _, _, _⟩) rfl ?_)
      (try simp only [Act.put, pq])
      (refine ts (i := 28) (oi := ⟨some 39, _, _, _, _, _⟩) rfl ?_)
      (try simp only [Act.put, pq])
      (refine ts (i := 29) (oi := ⟨some 40, _, _, _, _, _⟩) rfl ?_)
      (try simp only [Act.put, pq])
      (refine ts (i := 30) (oi := ⟨some 41, _, _, _, _, _⟩) rfl ?_)
      (try simp only [Act.put, pq])
      (refine tk (i := 31) (oi := ⟨some 42, _, _, _, _, _⟩) (v := ?v31_s632) rfl ?hy31_s632 ?rest31_s632; (case hy31_s632 => intro w hSw; (try dsimp only at hSw); go_simp; first | done | with_reducible rfl))
      (try simp only [Act.put, pq])
      refine wpAnyH_done (by kernel_rfl) ?_ _
      go_wp2
      go_meet
      exact ⟨rfl, Lib.hid (below_drw (Below.refl _ _) _)⟩
    case rest =>
      obtain ⟨rfl, HB⟩ := hcut
      go_wp2
      go_ret2
      rw [R.out]
      exact ⟨none, 0, rfl, Ld.nil _, HB.out⟩
end Go.Proofs.YtmafgdinegboeaaGreat
