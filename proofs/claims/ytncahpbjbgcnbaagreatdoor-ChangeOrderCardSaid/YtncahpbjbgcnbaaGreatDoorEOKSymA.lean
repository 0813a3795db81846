/-
  WALK: the library's symMerge at objects where one half has one object alone.
-/
import Derived.Test.YtncahpbjbgcnbaaGreatDoorEOKInsert
import Derived.Test.YtncahpbjbgcnbaaGreatDoorEO13
namespace Go.Proofs.YtncahpbjbgcnbaaGreatDoor.KX
open Go.RowKit HL
open IX (ptr El cellsK cellsK_at cellsK_inv OwnK RdK strK Kept)
open WX (obK hb)
open TX (Ext wp_region_ext ext_below ext_same)
set_option maxRecDepth 100000
set_option linter.unusedVariables false
set_option linter.unusedSimpArgs false

/-- The search in a sorted row for the place of z. -/
structure Sr (Z : List Tg) (z : Tg) (s t : Nat) : Prop where
  st : s ≤ t
  le : t ≤ Z.length
  low : ∀ i y, i < s → Z[i]? = some y → lex y z
  high : ∀ i y, t ≤ i → Z[i]? = some y → lex z y
theorem Sr.start (Z : List Tg) (z : Tg) : Sr Z z 0 Z.length := ⟨Nat.zero_le _, Nat.le_refl _, fun _ _ h => by omega, fun i y h k => by
  have := (List.getElem?_eq_some_iff.1 k).1
  omega⟩
theorem Sr.right {Z : List Tg} {z y : Tg} {s t c : Nat} (h : Sr Z z s t) (hZ : Up Z) (hc : c < t) (hs : s ≤ c) (hy : Z[c]? = some y) (k : lex y z) : Sr Z z (c + 1) t :=
  ⟨by omega, h.le, fun i u hi hu => by
    by_cases e : i = c
    · subst e; rw [hy] at hu; cases hu; exact k
    · exact lex_trans (up_get hZ (show i < c by omega) hu hy) k, h.high⟩
theorem Sr.left {Z : List Tg} {z y : Tg} {s t c : Nat} (h : Sr Z z s t) (hZ : Up Z) (hc : c < t) (hs : s ≤ c) (hy : Z[c]? = some y) (k : lex z y) : Sr Z z s c :=
  ⟨hs, by have := h.le; omega, h.low, fun i u hi hu => by
    by_cases e : i = c
    · subst e; rw [hy] at hu; cases hu; exact k
    · exact lex_trans k (up_get hZ (show c < i by omega) hy hu)⟩
theorem Sr.up {Z : List Tg} {z : Tg} {s : Nat} (h : Sr Z z s s) (hZ : Up Z) : Up (Z.take s ++ z :: Z.drop s) ∧ (z :: Z).Perm (Z.take s ++ z :: Z.drop s) := by
  have e : Z.take s ++ Z.drop s = Z := List.take_append_drop s Z
  refine ⟨up_mid (e.symm ▸ hZ) (fun y hy => ?_) (fun y hy => ?_), ?_⟩
  · obtain ⟨i, hi, rfl⟩ := List.getElem_of_mem hy
    rw [List.length_take] at hi
    rw [List.getElem_take]
    exact h.low i _ (by omega) (List.getElem?_eq_getElem (by omega))
  · obtain ⟨i, hi, rfl⟩ := List.getElem_of_mem hy
    rw [List.length_drop] at hi
    rw [List.getElem_drop]
    exact h.high (s + i) _ (by omega) (List.getElem?_eq_getElem (by omega))
  · have p := (List.perm_middle (a := z) (l₁ := Z.take s) (l₂ := Z.drop s)).symm
    rw [e] at p
    exact p
theorem one_at (P R Z : List Tg) (z : Tg) (c : Nat) (hc : c < Z.length) : mapF (P ++ Z.take c ++ z :: Z.drop c ++ R) = mapF (P ++ Z.take c) ++ z.1 :: [] ++ Z[c].1 :: mapF (Z.drop (c + 1) ++ R) := by
  rw [← List.getElem_cons_drop hc]
  simp only [mapF, List.map_append, List.map_cons, List.append_assoc, List.cons_append, List.nil_append]
theorem one_next (P R Z : List Tg) (z : Tg) (c : Nat) (hc : c < Z.length) : mapF (P ++ Z.take (c + 1) ++ z :: Z.drop (c + 1) ++ R) = mapF (P ++ Z.take c) ++ Z[c].1 :: [] ++ z.1 :: mapF (Z.drop (c + 1) ++ R) := by
  rw [List.take_succ_eq_append_getElem hc]
  simp only [mapF, List.map_append, List.map_cons, List.map_nil, List.append_assoc, List.cons_append, List.nil_append]
set_option maxHeartbeats 64000000 in
theorem sym_left (g cap n a m b : Nat) (P : List Tg) (z : Tg) (Z R : List Tg) (w : World) (hrow : Row w g (mapF (P ++ z :: Z ++ R))) (ha : P.length = a) (hm : a + 1 = m) (hb : m + Z.length = b) (hn : b + R.length = n) (hn2 : n ≤ 100000) (uZ : Up Z) (hA : ∀ y ∈ Z, z.2 < y.2) :
    Calls Tryz.prog 69 #[.slice (some ⟨g, 0, none⟩) n cap, .int .i64 a, .int .i64 m, .int .i64 b, cmpF] w fun e w' => e = .returned (.tuple #[]) ∧ (∃ S', (z :: Z).Perm S' ∧ Up S' ∧ Row w' g (mapF (P ++ S' ++ R))) ∧ Kept w w' (· ≠ g) := by
  obtain ⟨E, hE⟩ : ∃ E : World → Prop, E = fun w' => ∃ S', (z :: Z).Perm S' ∧ Up S' ∧ Row w' g (mapF (P ++ S' ++ R)) := ⟨_, rfl⟩
  have HE : Hid (∀ s W, Sr Z z s s → Row W g (mapF (P ++ Z.take s ++ z :: Z.drop s ++ R)) → E W) := Lib.hid (fun s W f r => by
    rw [hE]
    have := f.up uZ
    exact ⟨_, this.2, this.1, by simpa only [List.append_assoc, List.cons_append] using r⟩)
  have e2 : ∀ W, (∃ S', (z :: Z).Perm S' ∧ Up S' ∧ Row W g (mapF (P ++ S' ++ R))) = E W := fun W => by rw [hE]
  simp only [e2]
  clear e2 hE
  obtain ⟨lz, hlz⟩ : ∃ l, Z.length = l := ⟨_, rfl⟩
  have HLZ := Lib.hid hlz
  have HP := Lib.hid ha
  obtain ⟨L, hL⟩ : ∃ L, mapF (P ++ z :: Z ++ R) = L := ⟨_, rfl⟩
  rw [hL] at hrow
  have GETZ : Hid (∀ c, (hc : c < Z.length) → L[m + c]? = some Z[c].1) := Lib.hid (fun c hc => by
    rw [← hL]
    have : (P ++ z :: Z ++ R)[m + c]? = some Z[c] := by
      rw [List.append_assoc, List.cons_append, List.getElem?_append_right (by omega), show m + c - P.length = c + 1 by omega, List.getElem?_cons_succ, List.getElem?_append_left hc, List.getElem?_eq_getElem hc]
    simp only [mapF, List.getElem?_map, this, Option.map])
  have GET1 : L[a]? = some z.1 := by
    rw [← hL]
    have : (P ++ z :: Z ++ R)[a]? = some z := by
      rw [List.append_assoc, List.cons_append, List.getElem?_append_right (by omega), show a - P.length = 0 by omega]; rfl
    simp only [mapF, List.getElem?_map, this, Option.map]
  have H0 : Hid (∀ W, Row W g L → Row W g (mapF (P ++ Z.take 0 ++ z :: Z.drop 0 ++ R))) := Lib.hid (fun W r => by
    rw [← hL] at r
    simpa using r)
  have HR0 := Lib.hid hrow
  have HALL : Hid (P.length + 1 + Z.length + R.length = n) := Lib.hid (by omega)
  have CC0 := Lib.hid (fun x y W => cmpO_any x y W)
  have HUZ := Lib.hid uZ
  have HA := Lib.hid hA
  rw [hlz] at hb
  have mn : m ≤ n := by omega
  have bn : b ≤ n := by omega
  have an : a ≤ n := by omega
  have HM := Lib.hid hm
  have HB := Lib.hid hb
  have q1 : ((m : Int) - (a : Int) == 1) = true := by simp; omega
  have hst : m ≤ b := by omega
  have HS0 : Hid (m + 0 = m) := Lib.hid rfl
  have HT0 : Hid (m + lz = b) := HB
  have k2 : (a : Int) < (n : Int) := by omega
  clear hrow hL uZ hA hm hb hn ha hlz 
  go_enter Tryz.func69, Tryz.ntmps69
  go_wp2
  go_loopw [10, 11] (fun sv tv wr => ∃ s t S T : Nat, sv = .int .i64 S ∧ tv = .int .i64 T ∧ Hid (m + s = S) ∧ Hid (m + t = T) ∧ S ≤ T ∧ T ≤ n ∧ Hid (Sr Z z s t) ∧ Hid (Row wr g L) ∧ Hid (Kept w wr (· ≠ g))) (fun sv tv _ => (intOf tv).toNat - (intOf sv).toNat)
  case atStart => exact ⟨0, lz, m, b, rfl, rfl, HS0, HT0, hst, by omega, Lib.hid (by rw [← HLZ.out]; exact Sr.start Z z), HR0, Lib.hid (Kept.refl w _)⟩
  case round =>
    obtain ⟨s, t, S, T, rfl, rfl, HSS, HTT, hST, hTn, HFI, HR, KW⟩ := hrel
    by_cases hlt : S < T
    · have i1 : (S : Int) < (T : Int) := by omega
      have i1d : decide ((S : Int) < (T : Int)) = true := decide_eq_true i1
      obtain ⟨C, hC⟩ : ∃ C, (S + T) / 2 = C := ⟨_, rfl⟩
      have hCS : S ≤ C := by omega
      have hCT : C < T := by omega
      have hw1 : ((S : Int) + (T : Int)) / 2 = (C : Int) := by omega
      obtain ⟨c, hc⟩ : ∃ c, C - m = c := ⟨_, rfl⟩
      have hsc : s ≤ c := by have := HSS.out; omega
      have hct : c < t := by have := HTT.out; have := HSS.out; omega
      have hac : m + c = C := by have := HSS.out; omega
      have htx : t ≤ Z.length := HFI.out.le
      have hkc : C < n := by omega
      have k1 : (C : Int) < (n : Int) := by omega
      have hx : Z[c]? = some (Z[c]'(by omega)) := List.getElem?_eq_getElem (by omega)
      have hxq := GETZ.out c (by omega)
      rw [hac] at hxq
      have hmem := HA.out (Z[c]'(by omega)) (List.getElem_mem _)
      generalize Z[c]'(by omega) = y at *
      have HC := Lib.hid hac
      have HRO := HR
      obtain ⟨CL, hat, hbg⟩ := HR.out
      have hxp := GET1
      have CC := Lib.hid (fun W => CC0.out y.1 z.1 W)
      by_cases hl : hb y.1 < hb z.1
      · have hneg := (cmp_neg _ _).2 hl
        have HNX : Hid (Sr Z z (c + 1) t) := Lib.hid (HFI.out.right HUZ.out hct hsc hx (.inl hl))
        generalize Lib.compareBytes (hb y.1) (hb z.1) = r at *
        have n1 : decide (r < 0) = true := decide_eq_true hneg
        clear hx hl HFI hc hC hac hsc hct htx hkc hmem GET1
        generalize z.1 = xp at *
        generalize y.1 = xq at *
        have az := fun y : Ext wr => row_cells14 (hat.then y.b) hbg hxp
        have a0 := fun y : Ext wr => (az y).1
        have a1 := fun y : Ext wr => (az y).2.1
        have a2 := fun y : Ext wr => (az y).2.2.1
        have a3 := fun y : Ext wr => (az y).2.2.2.1
        have a4 := fun y : Ext wr => (az y).2.2.2.2.1
        have a5 := fun y : Ext wr => (az y).2.2.2.2.2.1
        have a6 := fun y : Ext wr => (az y).2.2.2.2.2.2.1
        have a7 := fun y : Ext wr => (az y).2.2.2.2.2.2.2.1
        have a8 := fun y : Ext wr => (az y).2.2.2.2.2.2.2.2.1
        have a9 := fun y : Ext wr => (az y).2.2.2.2.2.2.2.2.2.1
        have a10 := fun y : Ext wr => (az y).2.2.2.2.2.2.2.2.2.2.1
        have a11 := fun y : Ext wr => (az y).2.2.2.2.2.2.2.2.2.2.2.1
        have a12 := fun y : Ext wr => (az y).2.2.2.2.2.2.2.2.2.2.2.2.1
        have a13 := fun y : Ext wr => (az y).2.2.2.2.2.2.2.2.2.2.2.2.2
        clear az
        have bz := fun y : Ext wr => row_cells14 (hat.then y.b) hbg hxq
        have b0 := fun y : Ext wr => (bz y).1
        have b1 := fun y : Ext wr => (bz y).2.1
        have b2 := fun y : Ext wr => (bz y).2.2.1
        have b3 := fun y : Ext wr => (bz y).2.2.2.1
        have b4 := fun y : Ext wr => (bz y).2.2.2.2.1
        have b5 := fun y : Ext wr => (bz y).2.2.2.2.2.1
        have b6 := fun y : Ext wr => (bz y).2.2.2.2.2.2.1
        have b7 := fun y : Ext wr => (bz y).2.2.2.2.2.2.2.1
        have b8 := fun y : Ext wr => (bz y).2.2.2.2.2.2.2.2.1
        have b9 := fun y : Ext wr => (bz y).2.2.2.2.2.2.2.2.2.1
        have b10 := fun y : Ext wr => (bz y).2.2.2.2.2.2.2.2.2.2.1
        have b11 := fun y : Ext wr => (bz y).2.2.2.2.2.2.2.2.2.2.2.1
        have b12 := fun y : Ext wr => (bz y).2.2.2.2.2.2.2.2.2.2.2.2.1
        have b13 := fun y : Ext wr => (bz y).2.2.2.2.2.2.2.2.2.2.2.2.2
        clear bz
        go_wp2_with fail
        refine wp_region_ext (by kernel_rfl) (by kernel_rfl) ?_
        repeat (go_big_quiet_step ((go_at_call 33; exact ext_below (CC.out _))))
        refine wpQuiet_nil ?_
        rintro _ ⟨y, rfl⟩
        clear a0 a1 a2 a3 a4 a5 a6 a7 a8 a9 a10 a11 a12 a13 b0 b1 b2 b3 b4 b5 b6 b7 b8 b9 b10 b11 b12 b13
        go_wp2
        go_roundw
        case rel => exact ⟨c + 1, t, C + 1, T, by first | rfl | go_num, rfl, Lib.hid (by have := HC.out; omega), HTT, by omega, hTn, HNX, Lib.hid (HRO.out.then y.b), Lib.hid (KW.out.then y.b)⟩
        case measure => simp [intOf]; omega
      · have hneg : ¬ Lib.compareBytes (hb y.1) (hb z.1) < 0 := fun k => hl ((cmp_neg _ _).1 k)
        have HNX : Hid (Sr Z z s c) := Lib.hid (HFI.out.left HUZ.out hct hsc hx ((lex_front hmem).2 hl))
        generalize Lib.compareBytes (hb y.1) (hb z.1) = r at *
        have n1 : decide (r < 0) = false := decide_eq_false hneg
        clear hx hl HFI hc hC hac hsc hct htx hkc hmem GET1
        generalize z.1 = xp at *
        generalize y.1 = xq at *
        have az := fun y : Ext wr => row_cells14 (hat.then y.b) hbg hxp
        have a0 := fun y : Ext wr => (az y).1
        have a1 := fun y : Ext wr => (az y).2.1
        have a2 := fun y : Ext wr => (az y).2.2.1
        have a3 := fun y : Ext wr => (az y).2.2.2.1
        have a4 := fun y : Ext wr => (az y).2.2.2.2.1
        have a5 := fun y : Ext wr => (az y).2.2.2.2.2.1
        have a6 := fun y : Ext wr => (az y).2.2.2.2.2.2.1
        have a7 := fun y : Ext wr => (az y).2.2.2.2.2.2.2.1
        have a8 := fun y : Ext wr => (az y).2.2.2.2.2.2.2.2.1
        have a9 := fun y : Ext wr => (az y).2.2.2.2.2.2.2.2.2.1
        have a10 := fun y : Ext wr => (az y).2.2.2.2.2.2.2.2.2.2.1
        have a11 := fun y : Ext wr => (az y).2.2.2.2.2.2.2.2.2.2.2.1
        have a12 := fun y : Ext wr => (az y).2.2.2.2.2.2.2.2.2.2.2.2.1
        have a13 := fun y : Ext wr => (az y).2.2.2.2.2.2.2.2.2.2.2.2.2
        clear az
        have bz := fun y : Ext wr => row_cells14 (hat.then y.b) hbg hxq
        have b0 := fun y : Ext wr => (bz y).1
        have b1 := fun y : Ext wr => (bz y).2.1
        have b2 := fun y : Ext wr => (bz y).2.2.1
        have b3 := fun y : Ext wr => (bz y).2.2.2.1
        have b4 := fun y : Ext wr => (bz y).2.2.2.2.1
        have b5 := fun y : Ext wr => (bz y).2.2.2.2.2.1
        have b6 := fun y : Ext wr => (bz y).2.2.2.2.2.2.1
        have b7 := fun y : Ext wr => (bz y).2.2.2.2.2.2.2.1
        have b8 := fun y : Ext wr => (bz y).2.2.2.2.2.2.2.2.1
        have b9 := fun y : Ext wr => (bz y).2.2.2.2.2.2.2.2.2.1
        have b10 := fun y : Ext wr => (bz y).2.2.2.2.2.2.2.2.2.2.1
        have b11 := fun y : Ext wr => (bz y).2.2.2.2.2.2.2.2.2.2.2.1
        have b12 := fun y : Ext wr => (bz y).2.2.2.2.2.2.2.2.2.2.2.2.1
        have b13 := fun y : Ext wr => (bz y).2.2.2.2.2.2.2.2.2.2.2.2.2
        clear bz
        go_wp2_with fail
        refine wp_region_ext (by kernel_rfl) (by kernel_rfl) ?_
        repeat (go_big_quiet_step ((go_at_call 33; exact ext_below (CC.out _))))
        refine wpQuiet_nil ?_
        rintro _ ⟨y, rfl⟩
        clear a0 a1 a2 a3 a4 a5 a6 a7 a8 a9 a10 a11 a12 a13 b0 b1 b2 b3 b4 b5 b6 b7 b8 b9 b10 b11 b12 b13
        go_wp2
        go_roundw
        case rel => exact ⟨s, c, S, C, rfl, rfl, HSS, HC, hCS, by omega, HNX, Lib.hid (HRO.out.then y.b), Lib.hid (KW.out.then y.b)⟩
        case measure => simp [intOf]; omega
    · have i1 : ¬ (S : Int) < (T : Int) := by omega
      have i1d : decide ((S : Int) < (T : Int)) = false := decide_eq_false i1
      have est : s = t := by have := HSS.out; have := HTT.out; omega
      have HF : Hid (Sr Z z s s) := Lib.hid (by have f := HFI.out; rw [← est] at f; exact f)
      have hsz : s ≤ lz := by have := HF.out.le; have := HLZ.out; omega
      have HL0 := Lib.hid (H0.out _ HR.out)
      obtain ⟨w5, hw5⟩ : ∃ w5, wr = w5 := ⟨_, rfl⟩
      rw [hw5] at HL0 KW ⊢
      clear est HFI HR HR0 GET1 GETZ H0 hw5 HTT
      obtain ⟨E0, hE0⟩ : ∃ E0, a + s = E0 := ⟨_, rfl⟩
      have hwS : IntKind.i64.wrap ((S : Int) - 1) = (E0 : Int) := by
        have := HM.out; have := HSS.out
        rw [IntWalk.i64_in _ (by omega)]; omega
      have hE0n : E0 ≤ n := by have := HALL.out; have := HLZ.out; have := HP.out; omega
      have HE0 := Lib.hid hE0
      clear hE0
      go_wp2
      go_loopw [13] (fun kv wr => ∃ c K : Nat, kv = .int .i64 K ∧ Hid (a + c = K) ∧ K ≤ E0 ∧ Hid (Row wr g (mapF (P ++ Z.take c ++ z :: Z.drop c ++ R))) ∧ Hid (Kept w wr (· ≠ g))) (fun kv _ => E0 - (intOf kv).toNat)
      case atStart => exact ⟨0, a, rfl, Lib.hid rfl, by have := HE0.out; omega, HL0, KW⟩
      case round =>
        obtain ⟨c, K, rfl, HK, hK, HRK, KW⟩ := hrel
        by_cases hlt : K < E0
        · have j0 : (K : Int) < (E0 : Int) := by omega
          have hcz : c < Z.length := by have := HE0.out; have := HK.out; have := HLZ.out; omega
          obtain ⟨K1, hK1⟩ : ∃ K1, K + 1 = K1 := ⟨_, rfl⟩
          have hwK : IntKind.i64.wrap ((K : Int) + 1) = (K1 : Int) := by rw [IntWalk.i64_in _ (by omega)]; omega
          have hr := HRK.out
          rw [one_at _ _ _ _ _ hcz] at hr
          have HNX := Lib.hid (one_next P R Z z c hcz)
          have hlA : (mapF (P ++ Z.take c)).length = K := by have := HK.out; have := HP.out; simp [mapF]; omega
          have hlB : (mapF (P ++ Z.take c)).length + 1 + ([] : List Ob).length = K1 := by rw [hlA]; simp; omega
          have hall : (mapF (P ++ Z.take c) ++ z.1 :: [] ++ Z[c].1 :: mapF (Z.drop (c + 1) ++ R)).length = n := by have := HALL.out; simp [mapF]; omega
          have HSW := Lib.hid (swap_at (mapF (P ++ Z.take c)) [] (mapF (Z.drop (c + 1) ++ R)) z.1 Z[c].1 K K1 hlA hlB)
          rw [← HNX.out] at HSW
          have hxp := get_1 (mapF (P ++ Z.take c)) [] (mapF (Z.drop (c + 1) ++ R)) z.1 Z[c].1 K hlA
          have hxq := get_2 (mapF (P ++ Z.take c)) [] (mapF (Z.drop (c + 1) ++ R)) z.1 Z[c].1 K1 hlB
          obtain ⟨C, hat, hbg⟩ := hr
          have hpq : K ≠ K1 := by omega
          have kp : K < n := by have := HE0.out; have := HALL.out; have := HLZ.out; have := HP.out; omega
          have kq : K1 < n := by have := HE0.out; have := HALL.out; have := HLZ.out; have := HP.out; omega
          have hpl : K < (mapF (P ++ Z.take c) ++ z.1 :: [] ++ Z[c].1 :: mapF (Z.drop (c + 1) ++ R)).length := by rw [hall]; exact kp
          have hql : K1 < (mapF (P ++ Z.take c) ++ z.1 :: [] ++ Z[c].1 :: mapF (Z.drop (c + 1) ++ R)).length := by rw [hall]; exact kq
          have j1 : (K : Int) < (n : Int) := by omega
          have j2 : (K1 : Int) < (n : Int) := by omega
          have HK1 := Lib.hid hK1
          clear hlA hlB hall hK1 HNX HRK HL0 kp kq
          generalize mapF (P ++ Z.take c) ++ z.1 :: [] ++ Z[c].1 :: mapF (Z.drop (c + 1) ++ R) = L9 at *
          generalize Z[c].1 = xq at *
          generalize z.1 = xp at *
          clear hcz
          obtain ⟨c0, c1, c2, c3, c4, c5, c6, c7, c8, c9, c10, c11, c12, c13⟩ := row_cells14 hat hbg hxp
          obtain ⟨d0, d1, d2, d3, d4, d5, d6, d7, d8, d9, d10, d11, d12, d13⟩ := row_cells14 hat hbg hxq
          obtain ⟨m0, m1, m2, m3⟩ := apart_cells hpq
          have hfz := hat.f
          have hlz := hat.lt
          have e1 : ∀ i, i < 14 → ∃ v, wr.cell? ⟨g, K * 14 + i, none⟩ = some v := fun i hi => by
            rw [hat.c, Array.getElem?_eq_getElem (by have := hbg.1; omega)]; exact ⟨_, rfl⟩
          have HR := Lib.hid (row_swap (x := xp) (y := xq) hat hbg hpl hql)
          have HK := Lib.hid (putC_kept (obCells xp).toList (K1 * 14) (putC_kept (obCells xq).toList (K * 14) KW.out))
          obtain ⟨w7, hw7⟩ : ∃ w7, putC (putC wr g (K * 14) (obCells xq).toList) g (K1 * 14) (obCells xp).toList = w7 := ⟨_, rfl⟩
          rw [hw7] at HR HK
          simp only [putC, Nat.add_assoc, Nat.reduceAdd] at hw7
          have HW7 := Lib.hid hw7
          clear hw7 e1 hat hbg hxp hxq hpl hql
          go_wp2
          go_region_law (fail)
          all_goals
            rw [HW7.out]
            have R7 := Lib.hid HR.out.drew
            have K7 := Lib.hid (kept_drew HK.out)
            generalize w7.drew = w9 at *
            clear HR HK HW7 KW c0 c1 c2 c3 c4 c5 c6 c7 c8 c9 c10 c11 c12 c13 d0 d1 d2 d3 d4 d5 d6 d7 d8 d9 d10 d11 d12 d13 m0 m1 m2 m3 hfz hlz
            go_wp2
            go_roundw
            case rel => exact ⟨c + 1, K1, by first | rfl | go_num, Lib.hid (by have := HK.out; have := HK1.out; omega), by have := HK1.out; omega, Lib.hid (by rw [← HSW.out]; exact R7.out), K7⟩
            case measure => have := HK1.out; simp [intOf]; omega
        · have j0 : ¬ (K : Int) < (E0 : Int) := by omega
          have HFIN : Hid (E wr) := Lib.hid (by
            have e : c = s := by have := HE0.out; have := HK.out; omega
            subst e
            exact HE.out _ _ HF.out HRK.out)
          clear HRK HL0
          go_wp2
          refine bodyPost_ret (results_none rfl _ _ _) rfl ?_
          exact ⟨rfl, HFIN.out, KW.out⟩
end Go.Proofs.YtncahpbjbgcnbaaGreatDoor.KX
