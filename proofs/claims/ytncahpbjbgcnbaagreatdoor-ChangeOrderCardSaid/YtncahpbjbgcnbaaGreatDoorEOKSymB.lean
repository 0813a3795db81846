/-
  WALK: the library's symMerge at objects where the other half has one object alone.
-/
import Derived.Test.YtncahpbjbgcnbaaGreatDoorEOKSymA
namespace Go.Proofs.YtncahpbjbgcnbaaGreatDoor.KX
open Go.RowKit HL
open IX (ptr El cellsK cellsK_at cellsK_inv OwnK RdK strK Kept)
open WX (obK hb)
open TX (Ext wp_region_ext ext_below ext_same)
set_option maxRecDepth 100000
set_option linter.unusedVariables false
set_option linter.unusedSimpArgs false

set_option maxHeartbeats 64000000 in
theorem sym_right (g cap n a m b : Nat) (P : List Tg) (z : Tg) (Z R : List Tg) (w : World) (hrow : Row w g (mapF (P ++ Z ++ z :: R))) (ha : P.length = a) (hm : a + Z.length = m) (hZ2 : Z.length ≠ 1) (hb : m + 1 = b) (hn : b + R.length = n) (hn2 : n ≤ 100000) (uZ : Up Z) (hA : ∀ y ∈ Z, y.2 < z.2) :
    Calls Tryz.prog 69 #[.slice (some ⟨g, 0, none⟩) n cap, .int .i64 a, .int .i64 m, .int .i64 b, cmpF] w fun e w' => e = .returned (.tuple #[]) ∧ (∃ S', (z :: Z).Perm S' ∧ Up S' ∧ Row w' g (mapF (P ++ S' ++ R))) ∧ Kept w w' (· ≠ g) := by
  obtain ⟨E, hE⟩ : ∃ E : World → Prop, E = fun w' => ∃ S', (z :: Z).Perm S' ∧ Up S' ∧ Row w' g (mapF (P ++ S' ++ R)) := ⟨_, rfl⟩
  have HE : Hid (∀ s W, Sr Z z s s → Row W g (mapF (P ++ Z.take s ++ z :: Z.drop s ++ R)) → E W) := Lib.hid (fun s W f r => by
    rw [hE]
    have := f.up uZ
    exact ⟨_, this.2, this.1, by simpa only [List.append_assoc, List.cons_append] using r⟩)
  have e2 : ∀ W, (∃ S', (z :: Z).Perm S' ∧ Up S' ∧ Row W g (mapF (P ++ S' ++ R))) = E W := fun W => by rw [hE]
  simp only [e2]
  clear e2 hE
  obtain ⟨lz, hlz⟩ : ∃ l, Z.length = l := ⟨_, rfl⟩
  have HLZ := Lib.hid hlz
  have HP := Lib.hid ha
  obtain ⟨L, hL⟩ : ∃ L, mapF (P ++ Z ++ [z] ++ R) = L := ⟨_, rfl⟩
  have hrow : Row w g L := by rw [← hL]; simpa [mapF] using hrow
  have GETZ : Hid (∀ c, (hc : c < Z.length) → L[a + c]? = some Z[c].1) := Lib.hid (fun c hc => by
    rw [← hL]
    have : (P ++ Z ++ [z] ++ R)[a + c]? = some Z[c] := by
      rw [List.append_assoc, List.append_assoc, List.getElem?_append_right (by omega), show a + c - P.length = c by omega, List.getElem?_append_left hc, List.getElem?_eq_getElem hc]
    simp only [mapF, List.getElem?_map, this, Option.map])
  have GET1 : L[m]? = some z.1 := by
    rw [← hL]
    have : (P ++ Z ++ [z] ++ R)[m]? = some z := by
      rw [List.append_assoc, List.append_assoc, ← List.append_assoc P, List.getElem?_append_right (by rw [List.length_append]; omega), show m - (P ++ Z).length = 0 by rw [List.length_append]; omega]; rfl
    simp only [mapF, List.getElem?_map, this, Option.map]
  have H0 : Hid (∀ W, Row W g L → Row W g (mapF (P ++ Z.take lz ++ z :: Z.drop lz ++ R))) := Lib.hid (fun W r => by
    rw [← hL] at r
    have e1 : Z.take lz = Z := List.take_of_length_le (by omega)
    have e2 : Z.drop lz = [] := List.drop_eq_nil_of_le (by omega)
    rw [e1, e2]
    simpa [mapF] using r)
  have HR0 := Lib.hid hrow
  have HALL : Hid (P.length + 1 + Z.length + R.length = n) := Lib.hid (by omega)
  have CC0 := Lib.hid (fun x y W => cmpO_any x y W)
  have HUZ := Lib.hid uZ
  have HA := Lib.hid hA
  rw [hlz] at hm
  have mn : m ≤ n := by omega
  have bn : b ≤ n := by omega
  have an : a ≤ n := by omega
  have HM := Lib.hid hm
  have HB := Lib.hid hb
  have q1 : ((m : Int) - (a : Int) == 1) = false := by simp; omega
  have q2 : ((b : Int) - (m : Int) == 1) = true := by simp; omega
  have hst : a ≤ m := by omega
  have HS0 : Hid (a + 0 = a) := Lib.hid rfl
  have HT0 : Hid (a + lz = m) := HM
  have k2 : (m : Int) < (n : Int) := by omega
  clear hrow hL uZ hA hm hb hn ha hlz hZ2
  go_enter Tryz.func69, Tryz.ntmps69
  go_wp2
  go_loopw [14, 15] (fun sv tv wr => ∃ s t S T : Nat, sv = .int .i64 S ∧ tv = .int .i64 T ∧ Hid (a + s = S) ∧ Hid (a + t = T) ∧ S ≤ T ∧ T ≤ n ∧ Hid (Sr Z z s t) ∧ Hid (Row wr g L) ∧ Hid (Kept w wr (· ≠ g))) (fun sv tv _ => (intOf tv).toNat - (intOf sv).toNat)
  case atStart => exact ⟨0, lz, a, m, rfl, rfl, HS0, HT0, hst, by omega, Lib.hid (by rw [← HLZ.out]; exact Sr.start Z z), HR0, Lib.hid (Kept.refl w _)⟩
  case round =>
    obtain ⟨s, t, S, T, rfl, rfl, HSS, HTT, hST, hTn, HFI, HR, KW⟩ := hrel
    by_cases hlt : S < T
    · have i1 : (S : Int) < (T : Int) := by omega
      have i1d : decide ((S : Int) < (T : Int)) = true := decide_eq_true i1
      obtain ⟨C, hC⟩ : ∃ C, (S + T) / 2 = C := ⟨_, rfl⟩
      have hCS : S ≤ C := by omega
      have hCT : C < T := by omega
      have hw1 : ((S : Int) + (T : Int)) / 2 = (C : Int) := by omega
      obtain ⟨c, hc⟩ : ∃ c, C - a = c := ⟨_, rfl⟩
      have hsc : s ≤ c := by have := HSS.out; omega
      have hct : c < t := by have := HTT.out; have := HSS.out; omega
      have hac : a + c = C := by have := HSS.out; omega
      have htx : t ≤ Z.length := HFI.out.le
      have hkc : C < n := by omega
      have k1 : (C : Int) < (n : Int) := by omega
      have hx : Z[c]? = some (Z[c]'(by omega)) := List.getElem?_eq_getElem (by omega)
      have hxq := GETZ.out c (by omega)
      rw [hac] at hxq
      have hmem := HA.out (Z[c]'(by omega)) (List.getElem_mem _)
      generalize Z[c]'(by omega) = y at *
      have HC := Lib.hid hac
      have HRO := HR
      obtain ⟨CL, hat, hbg⟩ := HR.out
      have hxp := GET1
      have CC := Lib.hid (fun W => CC0.out z.1 y.1 W)
      by_cases hl : hb z.1 < hb y.1
      · have hneg := (cmp_neg _ _).2 hl
        have HNX : Hid (Sr Z z s c) := Lib.hid (HFI.out.left HUZ.out hct hsc hx (.inl hl))
        generalize Lib.compareBytes (hb z.1) (hb y.1) = r at *
        have n1 : decide (r < 0) = true := decide_eq_true hneg
        clear hx hl HFI hc hC hac hsc hct htx hkc hmem GET1
        generalize z.1 = xp at *
        generalize y.1 = xq at *
        have az := fun y : Ext wr => row_cells14 (hat.then y.b) hbg hxp
        have a0 := fun y : Ext wr => (az y).1
        have a1 := fun y : Ext wr => (az y).2.1
        have a2 := fun y : Ext wr => (az y).2.2.1
        have a3 := fun y : Ext wr => (az y).2.2.2.1
        have a4 := fun y : Ext wr => (az y).2.2.2.2.1
        have a5 := fun y : Ext wr => (az y).2.2.2.2.2.1
        have a6 := fun y : Ext wr => (az y).2.2.2.2.2.2.1
        have a7 := fun y : Ext wr => (az y).2.2.2.2.2.2.2.1
        have a8 := fun y : Ext wr => (az y).2.2.2.2.2.2.2.2.1
        have a9 := fun y : Ext wr => (az y).2.2.2.2.2.2.2.2.2.1
        have a10 := fun y : Ext wr => (az y).2.2.2.2.2.2.2.2.2.2.1
        have a11 := fun y : Ext wr => (az y).2.2.2.2.2.2.2.2.2.2.2.1
        have a12 := fun y : Ext wr => (az y).2.2.2.2.2.2.2.2.2.2.2.2.1
        have a13 := fun y : Ext wr => (az y).2.2.2.2.2.2.2.2.2.2.2.2.2
        clear az
        have bz := fun y : Ext wr => row_cells14 (hat.then y.b) hbg hxq
        have b0 := fun y : Ext wr => (bz y).1
        have b1 := fun y : Ext wr => (bz y).2.1
        have b2 := fun y : Ext wr => (bz y).2.2.1
        have b3 := fun y : Ext wr => (bz y).2.2.2.1
        have b4 := fun y : Ext wr => (bz y).2.2.2.2.1
        have b5 := fun y : Ext wr => (bz y).2.2.2.2.2.1
        have b6 := fun y : Ext wr => (bz y).2.2.2.2.2.2.1
        have b7 := fun y : Ext wr => (bz y).2.2.2.2.2.2.2.1
        have b8 := fun y : Ext wr => (bz y).2.2.2.2.2.2.2.2.1
        have b9 := fun y : Ext wr => (bz y).2.2.2.2.2.2.2.2.2.1
        have b10 := fun y : Ext wr => (bz y).2.2.2.2.2.2.2.2.2.2.1
        have b11 := fun y : Ext wr => (bz y).2.2.2.2.2.2.2.2.2.2.2.1
        have b12 := fun y : Ext wr => (bz y).2.2.2.2.2.2.2.2.2.2.2.2.1
        have b13 := fun y : Ext wr => (bz y).2.2.2.2.2.2.2.2.2.2.2.2.2
        clear bz
        go_wp2_with fail
        refine wp_region_ext (by kernel_rfl) (by kernel_rfl) ?_
        repeat (go_big_quiet_step ((go_at_call 33; exact ext_below (CC.out _))))
        refine wpQuiet_nil ?_
        rintro _ ⟨y, rfl⟩
        clear a0 a1 a2 a3 a4 a5 a6 a7 a8 a9 a10 a11 a12 a13 b0 b1 b2 b3 b4 b5 b6 b7 b8 b9 b10 b11 b12 b13
        go_wp2
        go_roundw
        case rel => exact ⟨s, c, S, C, rfl, rfl, HSS, HC, hCS, by omega, HNX, Lib.hid (HRO.out.then y.b), Lib.hid (KW.out.then y.b)⟩
        case measure => simp [intOf]; omega
      · have hneg : ¬ Lib.compareBytes (hb z.1) (hb y.1) < 0 := fun k => hl ((cmp_neg _ _).1 k)
        have HNX : Hid (Sr Z z (c + 1) t) := Lib.hid (HFI.out.right HUZ.out hct hsc hx ((lex_front hmem).2 hl))
        generalize Lib.compareBytes (hb z.1) (hb y.1) = r at *
        have n1 : decide (r < 0) = false := decide_eq_false hneg
        clear hx hl HFI hc hC hac hsc hct htx hkc hmem GET1
        generalize z.1 = xp at *
        generalize y.1 = xq at *
        have az := fun y : Ext wr => row_cells14 (hat.then y.b) hbg hxp
        have a0 := fun y : Ext wr => (az y).1
        have a1 := fun y : Ext wr => (az y).2.1
        have a2 := fun y : Ext wr => (az y).2.2.1
        have a3 := fun y : Ext wr => (az y).2.2.2.1
        have a4 := fun y : Ext wr => (az y).2.2.2.2.1
        have a5 := fun y : Ext wr => (az y).2.2.2.2.2.1
        have a6 := fun y : Ext wr => (az y).2.2.2.2.2.2.1
        have a7 := fun y : Ext wr => (az y).2.2.2.2.2.2.2.1
        have a8 := fun y : Ext wr => (az y).2.2.2.2.2.2.2.2.1
        have a9 := fun y : Ext wr => (az y).2.2.2.2.2.2.2.2.2.1
        have a10 := fun y : Ext wr => (az y).2.2.2.2.2.2.2.2.2.2.1
        have a11 := fun y : Ext wr => (az y).2.2.2.2.2.2.2.2.2.2.2.1
        have a12 := fun y : Ext wr => (az y).2.2.2.2.2.2.2.2.2.2.2.2.1
        have a13 := fun y : Ext wr => (az y).2.2.2.2.2.2.2.2.2.2.2.2.2
        clear az
        have bz := fun y : Ext wr => row_cells14 (hat.then y.b) hbg hxq
        have b0 := fun y : Ext wr => (bz y).1
        have b1 := fun y : Ext wr => (bz y).2.1
        have b2 := fun y : Ext wr => (bz y).2.2.1
        have b3 := fun y : Ext wr => (bz y).2.2.2.1
        have b4 := fun y : Ext wr => (bz y).2.2.2.2.1
        have b5 := fun y : Ext wr => (bz y).2.2.2.2.2.1
        have b6 := fun y : Ext wr => (bz y).2.2.2.2.2.2.1
        have b7 := fun y : Ext wr => (bz y).2.2.2.2.2.2.2.1
        have b8 := fun y : Ext wr => (bz y).2.2.2.2.2.2.2.2.1
        have b9 := fun y : Ext wr => (bz y).2.2.2.2.2.2.2.2.2.1
        have b10 := fun y : Ext wr => (bz y).2.2.2.2.2.2.2.2.2.2.1
        have b11 := fun y : Ext wr => (bz y).2.2.2.2.2.2.2.2.2.2.2.1
        have b12 := fun y : Ext wr => (bz y).2.2.2.2.2.2.2.2.2.2.2.2.1
        have b13 := fun y : Ext wr => (bz y).2.2.2.2.2.2.2.2.2.2.2.2.2
        clear bz
        go_wp2_with fail
        refine wp_region_ext (by kernel_rfl) (by kernel_rfl) ?_
        repeat (go_big_quiet_step ((go_at_call 33; exact ext_below (CC.out _))))
        refine wpQuiet_nil ?_
        rintro _ ⟨y, rfl⟩
        clear a0 a1 a2 a3 a4 a5 a6 a7 a8 a9 a10 a11 a12 a13 b0 b1 b2 b3 b4 b5 b6 b7 b8 b9 b10 b11 b12 b13
        go_wp2
        go_roundw
        case rel => exact ⟨c + 1, t, C + 1, T, by first | rfl | go_num, rfl, Lib.hid (by have := HC.out; omega), HTT, by omega, hTn, HNX, Lib.hid (HRO.out.then y.b), Lib.hid (KW.out.then y.b)⟩
        case measure => simp [intOf]; omega
    · have i1 : ¬ (S : Int) < (T : Int) := by omega
      have i1d : decide ((S : Int) < (T : Int)) = false := decide_eq_false i1
      have est : s = t := by have := HSS.out; have := HTT.out; omega
      have HF : Hid (Sr Z z s s) := Lib.hid (by have f := HFI.out; rw [← est] at f; exact f)
      have hsz : s ≤ lz := by have := HF.out.le; have := HLZ.out; omega
      have HL0 := Lib.hid (H0.out _ HR.out)
      obtain ⟨w5, hw5⟩ : ∃ w5, wr = w5 := ⟨_, rfl⟩
      rw [hw5] at HL0 KW ⊢
      clear est HFI HR HR0 GET1 GETZ H0 hw5 HTT
      go_wp2
      go_loopw [17] (fun kv wr => ∃ c K : Nat, kv = .int .i64 K ∧ Hid (a + c = K) ∧ S ≤ K ∧ K ≤ m ∧ Hid (Row wr g (mapF (P ++ Z.take c ++ z :: Z.drop c ++ R))) ∧ Hid (Kept w wr (· ≠ g))) (fun kv _ => (intOf kv).toNat)
      case atStart => exact ⟨lz, m, rfl, HM, by have := HM.out; have := HSS.out; omega, Nat.le_refl _, HL0, KW⟩
      case round =>
        obtain ⟨c0, K, rfl, HK, hK, hKm, HRK, KW⟩ := hrel
        by_cases hlt : S < K
        · have j0 : (S : Int) < (K : Int) := by omega
          obtain ⟨c, rfl⟩ : ∃ c, c0 = c + 1 := ⟨c0 - 1, by have := HK.out; have := HSS.out; omega⟩
          have hcz : c < Z.length := by have := HK.out; have := HLZ.out; have := HM.out; omega
          obtain ⟨K1, hK1⟩ : ∃ K1, K - 1 = K1 := ⟨_, rfl⟩
          have hwK : IntKind.i64.wrap ((K : Int) - 1) = (K1 : Int) := by rw [IntWalk.i64_in _ (by omega)]; omega
          have hr := HRK.out
          rw [one_next _ _ _ _ _ hcz] at hr
          have HNX := Lib.hid (one_at P R Z z c hcz)
          have hlA : (mapF (P ++ Z.take c)).length = K1 := by have := HK.out; have := HP.out; simp [mapF]; omega
          have hlB : (mapF (P ++ Z.take c)).length + 1 + ([] : List Ob).length = K := by rw [hlA]; simp; omega
          have hall : (mapF (P ++ Z.take c) ++ Z[c].1 :: [] ++ z.1 :: mapF (Z.drop (c + 1) ++ R)).length = n := by have := HALL.out; simp [mapF]; omega
          have HSW := Lib.hid (swap_at' (mapF (P ++ Z.take c)) [] (mapF (Z.drop (c + 1) ++ R)) Z[c].1 z.1 K1 K hlA hlB)
          rw [← HNX.out] at HSW
          have hxq := get_1 (mapF (P ++ Z.take c)) [] (mapF (Z.drop (c + 1) ++ R)) Z[c].1 z.1 K1 hlA
          have hxp := get_2 (mapF (P ++ Z.take c)) [] (mapF (Z.drop (c + 1) ++ R)) Z[c].1 z.1 K hlB
          obtain ⟨C, hat, hbg⟩ := hr
          have hpq : K ≠ K1 := by omega
          have kp : K < n := by have := HALL.out; have := HLZ.out; have := HP.out; have := HM.out; omega
          have kq : K1 < n := by have := HALL.out; have := HLZ.out; have := HP.out; have := HM.out; omega
          have hpl : K < (mapF (P ++ Z.take c) ++ Z[c].1 :: [] ++ z.1 :: mapF (Z.drop (c + 1) ++ R)).length := by rw [hall]; exact kp
          have hql : K1 < (mapF (P ++ Z.take c) ++ Z[c].1 :: [] ++ z.1 :: mapF (Z.drop (c + 1) ++ R)).length := by rw [hall]; exact kq
          have j1 : (K : Int) < (n : Int) := by omega
          have j2 : (K1 : Int) < (n : Int) := by omega
          have HK1 := Lib.hid hK1
          clear hlA hlB hall hK1 HNX HRK HL0 kp kq
          generalize mapF (P ++ Z.take c) ++ Z[c].1 :: [] ++ z.1 :: mapF (Z.drop (c + 1) ++ R) = L9 at *
          generalize Z[c].1 = xq at *
          generalize z.1 = xp at *
          clear hcz
          obtain ⟨c0, c1, c2, c3, c4, c5, c6, c7, c8, c9, c10, c11, c12, c13⟩ := row_cells14 hat hbg hxp
          obtain ⟨d0, d1, d2, d3, d4, d5, d6, d7, d8, d9, d10, d11, d12, d13⟩ := row_cells14 hat hbg hxq
          obtain ⟨m0, m1, m2, m3⟩ := apart_cells hpq
          have hfz := hat.f
          have hlz := hat.lt
          have e1 : ∀ i, i < 14 → ∃ v, wr.cell? ⟨g, K * 14 + i, none⟩ = some v := fun i hi => by
            rw [hat.c, Array.getElem?_eq_getElem (by have := hbg.1; omega)]; exact ⟨_, rfl⟩
          have HR := Lib.hid (row_swap (x := xp) (y := xq) hat hbg hpl hql)
          have HK := Lib.hid (putC_kept (obCells xp).toList (K1 * 14) (putC_kept (obCells xq).toList (K * 14) KW.out))
          obtain ⟨w7, hw7⟩ : ∃ w7, putC (putC wr g (K * 14) (obCells xq).toList) g (K1 * 14) (obCells xp).toList = w7 := ⟨_, rfl⟩
          rw [hw7] at HR HK
          simp only [putC, Nat.add_assoc, Nat.reduceAdd] at hw7
          have HW7 := Lib.hid hw7
          clear hw7 e1 hat hbg hxp hxq hpl hql
          go_wp2
          go_region_law (fail)
          all_goals
            rw [HW7.out]
            have R7 := Lib.hid HR.out.drew
            have K7 := Lib.hid (kept_drew HK.out)
            generalize w7.drew = w9 at *
            clear HR HK HW7 KW c0 c1 c2 c3 c4 c5 c6 c7 c8 c9 c10 c11 c12 c13 d0 d1 d2 d3 d4 d5 d6 d7 d8 d9 d10 d11 d12 d13 m0 m1 m2 m3 hfz hlz
            go_wp2
            go_roundw
            case rel => exact ⟨c, K1, by first | rfl | go_num, Lib.hid (by have := HK.out; have := HK1.out; omega), by have := HK1.out; omega, by have := HK1.out; omega, Lib.hid (by rw [← HSW.out]; exact R7.out), K7⟩
            case measure => have := HK1.out; simp [intOf]; omega
        · have j0 : ¬ (S : Int) < (K : Int) := by omega
          have HFIN : Hid (E wr) := Lib.hid (by
            have e : c0 = s := by have := HSS.out; have := HK.out; omega
            subst e
            exact HE.out _ _ HF.out HRK.out)
          clear HRK HL0
          go_wp2
          refine bodyPost_ret (results_none rfl _ _ _) rfl ?_
          exact ⟨rfl, HFIN.out, KW.out⟩
end Go.Proofs.YtncahpbjbgcnbaaGreatDoor.KX
