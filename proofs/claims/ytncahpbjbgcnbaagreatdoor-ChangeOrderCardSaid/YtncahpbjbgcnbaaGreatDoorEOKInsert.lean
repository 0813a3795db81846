/-
  WALK: the library's insertion sort at objects.
-/
import Derived.Test.YtncahpbjbgcnbaaGreatDoorEO14
import Derived.Test.YtncahpbjbgcnbaaGreatDoorEO0
import Derived.Laws.Cover3
namespace Go.Proofs.YtncahpbjbgcnbaaGreatDoor.KX
open Go.RowKit HL
open IX (ptr El cellsK cellsK_at cellsK_inv OwnK RdK strK Kept)
open WX (obK hb)
open TX (Ext wp_region_ext ext_below ext_same)
set_option maxRecDepth 100000
set_option linter.unusedVariables false
set_option linter.unusedSimpArgs false

set_option maxHeartbeats 4000000 in
theorem cmpO_any (a b : Ob) (w : World) : Calls Tryz.prog 33 #[ob a, ob b] w fun e w' => e = .returned (.int .i64 (Lib.compareBytes (hb a) (hb b))) ∧ Below w.heap.size w w' := by
  have h0 : Below w.heap.size w w := Below.refl _ _
  have C := fun W => Lib.hid (compare_any a.handle b.handle W)
  go_enter Tryz.func33, Tryz.ntmps33
  go_wp2_with (go_at_call 34; ((with_reducible refine (C _).out.mono ?_); rintro e w1 ⟨rfl, rfl⟩))
  go_ret
  exact ⟨rfl, bAl (bAl h0 _) _⟩
abbrev cmpF : Value := .func (.func 33) #[] #[]
theorem cmp_neg (a b : Ob) : Lib.compareBytes (hb a) (hb b) < 0 ↔ hb a < hb b := by
  rcases HL.cmp_cases (hb a) (hb b) with ⟨e, h⟩ | ⟨e, h⟩ | ⟨e, h⟩
  · rw [e]; exact ⟨fun _ => h, fun _ => by decide⟩
  · rw [e]; exact ⟨fun k => absurd k (by decide), fun k => absurd k (by rw [h]; exact HL.lt_irrefl _)⟩
  · rw [e]; exact ⟨fun k => absurd k (by decide), fun k => absurd k (HL.lt_asymm h)⟩
abbrev mapF (T : List Tg) : List Ob := T.map Prod.fst
theorem map_cut (A B C : List Tg) (x y : Tg) : mapF (A ++ x :: B ++ y :: C) = mapF A ++ x.1 :: mapF B ++ y.1 :: mapF C := by simp [mapF]
/-- How far the insertion has come. -/
structure Ins (S : List Tg) (a b i : Nat) (U V : List Tg) : Prop where
  perm : S.Perm (U ++ V)
  up : Up U
  inc : V.Pairwise (fun p q => p.2 < q.2)
  ahead : Ahead U V
  at_ : U.length + a = i ∨ (b = a ∧ i = a + 1 ∧ U = [] ∧ V = [])
  all : a + (U.length + V.length) = b
theorem Ins.start {S : List Tg} {a b : Nat} (hb : a + S.length = b) (hinc : S.Pairwise (fun p q => p.2 < q.2)) : ∃ U V, S = U ++ V ∧ Ins S a b (a + 1) U V := by
  cases S with
  | nil => exact ⟨[], [], rfl, List.Perm.refl _, up_nil, List.Pairwise.nil, fun _ h => (by cases h), .inr ⟨by simpa using hb.symm, rfl, rfl, rfl⟩, by simpa using hb⟩
  | cons x S =>
    have h := List.pairwise_cons.1 hinc
    refine ⟨[x], S, rfl, List.Perm.refl _, up_one x, h.2, fun p hp q hq => ?_, .inl (by simp; omega), by simp at hb ⊢; omega⟩
    obtain rfl : p = x := by simpa using hp
    exact h.1 q hq
theorem Ins.next {S U V U1 U2 : List Tg} {a b i : Nat} {x : Tg} (h : Ins S a b i U (x :: V)) (e : U = U1 ++ U2) (hi : U.length + a = i) (h1 : ∀ u ∈ U1, lex u x) (h2 : ∀ u ∈ U2, lex x u) : Ins S a b (i + 1) (U1 ++ x :: U2) V := by
  have hv := List.pairwise_cons.1 h.inc
  have hu := h.up
  rw [e] at hu
  refine ⟨h.perm.trans ?_, up_mid hu h1 h2, hv.2, fun p hp q hq => ?_, .inl ?_, ?_⟩
  · rw [e]
    simp only [List.append_assoc, List.cons_append]
    exact List.Perm.append_left _ (List.perm_middle (l₁ := U2) (l₂ := V) (a := x))
  · rcases List.mem_append.1 hp with k | k
    · exact h.ahead p (by rw [e]; exact List.mem_append_left _ k) q (List.mem_cons_of_mem _ hq)
    · rcases List.mem_cons.1 k with rfl | k
      · exact hv.1 q hq
      · exact h.ahead p (by rw [e]; exact List.mem_append_right _ k) q (List.mem_cons_of_mem _ hq)
  · have := h.all
    rw [e] at hi
    simp at hi ⊢
    omega
  · have := h.all
    rw [e] at this
    simp at this ⊢
    omega
set_option maxHeartbeats 32000000 in
theorem insertion_any (g cap n a b : Nat) (P S R : List Tg) (w : World) (hrow : Row w g (mapF (P ++ S ++ R))) (ha : P.length = a) (hb : a + S.length = b) (hn : P.length + S.length + R.length = n) (hn2 : n ≤ 100000) (hinc : S.Pairwise (fun p q => p.2 < q.2)) :
    Calls Tryz.prog 68 #[.slice (some ⟨g, 0, none⟩) n cap, .int .i64 a, .int .i64 b, cmpF] w fun e w' => e = .returned (.tuple #[]) ∧ (∃ S', S.Perm S' ∧ Up S' ∧ Row w' g (mapF (P ++ S' ++ R))) ∧ Kept w w' (· ≠ g) := by
  have HST : Hid (∃ U V, Ins S a b (a + 1) U V ∧ Row w g (mapF (P ++ (U ++ V) ++ R))) := Lib.hid (by
    obtain ⟨U, V, e, h⟩ := Ins.start hb hinc
    exact ⟨U, V, h, by rw [← e]; exact hrow⟩)
  have HA := Lib.hid ha
  have hbn : b ≤ n := by omega
  have HBN : Hid (b + R.length = n) := Lib.hid (by omega)
  have hw1 : IntKind.i64.wrap ((a : Int) + 1) = ((a + 1 : Nat) : Int) := by rw [IntWalk.i64_in _ (by omega)]; omega
  have CC0 := Lib.hid (fun x y W => cmpO_any x y W)
  clear hrow hb hinc hn ha
  obtain ⟨E, hE⟩ : ∃ E : World → Prop, ∀ w', E w' ↔ ∃ S', S.Perm S' ∧ Up S' ∧ Row w' g (mapF (P ++ S' ++ R)) := ⟨_, fun _ => Iff.rfl⟩
  have HE := Lib.hid hE
  simp only [← hE]
  clear hE
  go_enter Tryz.func68, Tryz.ntmps68
  go_wp2
  go_loopw [8] (fun v wr => ∃ i : Nat, v = .int .i64 i ∧ a + 1 ≤ i ∧ Hid (∃ U V, Ins S a b i U V ∧ Row wr g (mapF (P ++ (U ++ V) ++ R))) ∧ Hid (Kept w wr (· ≠ g))) (fun v _ => b - (intOf v).toNat)
  case atStart => exact ⟨a + 1, by first | rfl | go_num, Nat.le_refl _, HST, Lib.hid (Kept.refl w _)⟩
  case round =>
    obtain ⟨i, rfl, hi, HS, KW⟩ := hrel
    by_cases hib : i < b
    · have i1 : (i : Int) < (b : Int) := by omega
      obtain ⟨U, V0, hI, hR⟩ := HS.out
      have hUi : U.length + a = i := by rcases hI.at_ with h | h <;> omega
      obtain ⟨x, V, rfl⟩ : ∃ x V, V0 = x :: V := by
        cases V0 with
        | nil => have := hI.all; simp at this; omega
        | cons x V => exact ⟨x, V, rfl⟩
      have HI := Lib.hid hI
      have HUI := Lib.hid hUi
      have HIN : Hid (∃ U1 U2, U = U1 ++ U2 ∧ (∀ u ∈ U2, lex x u) ∧ U1.length + a = i ∧ Row wr g (mapF (P ++ U1 ++ x :: (U2 ++ V ++ R)))) := Lib.hid ⟨U, [], by simp, fun _ h => (by cases h), hUi, by simpa [mapF] using hR⟩
      have hin : i ≤ n := by omega
      clear HS hI hR hUi
      go_wp2
      go_loopw [9] (fun v wr => ∃ j : Nat, v = .int .i64 j ∧ a ≤ j ∧ j ≤ i ∧ Hid (∃ U1 U2, U = U1 ++ U2 ∧ (∀ u ∈ U2, lex x u) ∧ U1.length + a = j ∧ Row wr g (mapF (P ++ U1 ++ x :: (U2 ++ V ++ R)))) ∧ Hid (Kept w wr (· ≠ g))) (fun v _ => (intOf v).toNat)
      case atStart => exact ⟨i, rfl, by omega, Nat.le_refl _, HIN, KW⟩
      case round =>
        obtain ⟨j, rfl, hja, hji, HS, KW⟩ := hrel
        obtain ⟨U1, U2, hU, h2, hj, hR⟩ := HS.out
        rcases List.eq_nil_or_concat U1 with rfl | ⟨U1', y0, rfl⟩
        · have i2 : ¬ (a : Int) < (j : Int) := by simp at hj; omega
          have i3 : decide ((a : Int) < (j : Int)) = false := decide_eq_false i2
          have i4 : ¬ a < j := by omega
          have i5 : decide (a < j) = false := decide_eq_false i4
          have HNX : Hid (∃ U V, Ins S a b (i + 1) U V ∧ Row wr g (mapF (P ++ (U ++ V) ++ R))) := Lib.hid ⟨[] ++ x :: U2, V, HI.out.next hU HUI.out (fun _ h => (by cases h)) h2, by simpa [mapF] using hR⟩
          have CC := Lib.hid (fun W => CC0.out x.1 x.1 W)
          clear HS hU h2 hj hR
          go_wp2_with fail
          refine wp_region_ext (by kernel_rfl) (by kernel_rfl) ?_
          repeat (go_big_quiet_step (fail))
          refine wpQuiet_nil ?_
          rintro _ ⟨y, rfl⟩
          go_wp2
          go_roundw
          case rel =>
            obtain ⟨U', V', h1, h2⟩ := HNX.out
            exact ⟨i + 1, by go_num, by omega, Lib.hid ⟨U', V', h1, h2.then y.b⟩, Lib.hid (KW.out.then y.b)⟩
          case measure => simp [intOf]; omega
        · simp only [List.concat_eq_append] at hU hj hR
          have hj2 : U1'.length + 1 + a = j := by simpa [Nat.add_comm, Nat.add_left_comm, Nat.add_assoc] using hj
          obtain ⟨j1, hj1⟩ : ∃ j1, j = j1 + 1 := ⟨j - 1, by omega⟩
          have i2 : (a : Int) < (j : Int) := by omega
          have i3 : decide ((a : Int) < (j : Int)) = true := decide_eq_true i2
          have i4 : a < j := by omega
          have i5 : decide (a < j) = true := decide_eq_true i4
          have hwj : IntKind.i64.wrap ((j : Int) - 1) = (j1 : Int) := by rw [IntWalk.i64_in _ (by omega)]; omega
          have k1 : (j : Int) < (n : Int) := by omega
          have k2 : (j1 : Int) < (n : Int) := by omega
          have hyx : y0.2 < x.2 := HI.out.ahead y0 (by rw [hU]; simp) x (List.mem_cons_self ..)
          have hup := HI.out.up
          rw [hU] at hup
          have hL : mapF (P ++ (U1' ++ [y0]) ++ x :: (U2 ++ V ++ R)) = mapF (P ++ U1') ++ y0.1 :: [] ++ x.1 :: mapF (U2 ++ V ++ R) := by simp [mapF]
          have hlA : (mapF (P ++ U1')).length = j1 := by have := HA.out; simp [mapF]; omega
          have hlB : (mapF (P ++ U1')).length + 1 + ([] : List Ob).length = j := by rw [hlA, hj1]; rfl
          have hall : (mapF (P ++ U1') ++ y0.1 :: [] ++ x.1 :: mapF (U2 ++ V ++ R)).length = n := by
            have h1 := HBN.out
            have h2 := HI.out.all
            have h3 := congrArg List.length hU
            have h4 := HA.out
            simp [mapF] at h2 h3 ⊢
            omega
          have hSW := swap_at' (mapF (P ++ U1')) [] (mapF (U2 ++ V ++ R)) y0.1 x.1 j1 j hlA hlB
          have hxq := get_1 (mapF (P ++ U1')) [] (mapF (U2 ++ V ++ R)) y0.1 x.1 j1 hlA
          have hxp := get_2 (mapF (P ++ U1')) [] (mapF (U2 ++ V ++ R)) y0.1 x.1 j hlB
          have HRO := Lib.hid hR
          rw [hL] at hR
          obtain ⟨C, hat, hbg⟩ := hR
          have hpq : j ≠ j1 := by omega
          have hpl : j < (mapF (P ++ U1') ++ y0.1 :: [] ++ x.1 :: mapF (U2 ++ V ++ R)).length := by omega
          have hql : j1 < (mapF (P ++ U1') ++ y0.1 :: [] ++ x.1 :: mapF (U2 ++ V ++ R)).length := by omega
          have CC := Lib.hid (fun W => CC0.out x.1 y0.1 W)
          have HSW : Hid (((mapF (P ++ U1') ++ y0.1 :: [] ++ x.1 :: mapF (U2 ++ V ++ R)).set j y0.1).set j1 x.1 = mapF (P ++ U1' ++ x :: ((y0 :: U2) ++ V ++ R))) := Lib.hid (by rw [hSW]; simp [mapF])
          by_cases hl : hb x.1 < hb y0.1
          · have hneg := (cmp_neg x.1 y0.1).2 hl
            have hlx : lex x y0 := .inl hl
            have HNX : Hid (∀ W, Row W g (mapF (P ++ U1' ++ x :: ((y0 :: U2) ++ V ++ R))) → ∃ U1 U2, U = U1 ++ U2 ∧ (∀ u ∈ U2, lex x u) ∧ U1.length + a = j1 ∧ Row W g (mapF (P ++ U1 ++ x :: (U2 ++ V ++ R)))) := Lib.hid (fun W r => ⟨U1', y0 :: U2, by rw [hU]; simp, fun u hu => by
              rcases List.mem_cons.1 hu with rfl | hu
              · exact hlx
              · exact h2 u hu, by omega, r⟩)
            generalize Lib.compareBytes (hb x.1) (hb y0.1) = r at *
            have n1 : decide (r < 0) = true := decide_eq_true hneg
            generalize mapF (P ++ U1') ++ y0.1 :: [] ++ x.1 :: mapF (U2 ++ V ++ R) = L at *
            generalize mapF (P ++ U1' ++ x :: ((y0 :: U2) ++ V ++ R)) = L2 at *
            have HJ1 := Lib.hid hj1
            clear hL hlA hlB hall hSW HRO hup hyx hl hlx h2 hU hj hj2 HS hj1
            generalize x.1 = xp at *
            generalize y0.1 = xq at *
            have az := fun y : Ext wr => row_cells14 (hat.then y.b) hbg hxp
            have a0 := fun y : Ext wr => (az y).1
            have a1 := fun y : Ext wr => (az y).2.1
            have a2 := fun y : Ext wr => (az y).2.2.1
            have a3 := fun y : Ext wr => (az y).2.2.2.1
            have a4 := fun y : Ext wr => (az y).2.2.2.2.1
            have a5 := fun y : Ext wr => (az y).2.2.2.2.2.1
            have a6 := fun y : Ext wr => (az y).2.2.2.2.2.2.1
            have a7 := fun y : Ext wr => (az y).2.2.2.2.2.2.2.1
            have a8 := fun y : Ext wr => (az y).2.2.2.2.2.2.2.2.1
            have a9 := fun y : Ext wr => (az y).2.2.2.2.2.2.2.2.2.1
            have a10 := fun y : Ext wr => (az y).2.2.2.2.2.2.2.2.2.2.1
            have a11 := fun y : Ext wr => (az y).2.2.2.2.2.2.2.2.2.2.2.1
            have a12 := fun y : Ext wr => (az y).2.2.2.2.2.2.2.2.2.2.2.2.1
            have a13 := fun y : Ext wr => (az y).2.2.2.2.2.2.2.2.2.2.2.2.2
            clear az
            have bz := fun y : Ext wr => row_cells14 (hat.then y.b) hbg hxq
            have b0 := fun y : Ext wr => (bz y).1
            have b1 := fun y : Ext wr => (bz y).2.1
            have b2 := fun y : Ext wr => (bz y).2.2.1
            have b3 := fun y : Ext wr => (bz y).2.2.2.1
            have b4 := fun y : Ext wr => (bz y).2.2.2.2.1
            have b5 := fun y : Ext wr => (bz y).2.2.2.2.2.1
            have b6 := fun y : Ext wr => (bz y).2.2.2.2.2.2.1
            have b7 := fun y : Ext wr => (bz y).2.2.2.2.2.2.2.1
            have b8 := fun y : Ext wr => (bz y).2.2.2.2.2.2.2.2.1
            have b9 := fun y : Ext wr => (bz y).2.2.2.2.2.2.2.2.2.1
            have b10 := fun y : Ext wr => (bz y).2.2.2.2.2.2.2.2.2.2.1
            have b11 := fun y : Ext wr => (bz y).2.2.2.2.2.2.2.2.2.2.2.1
            have b12 := fun y : Ext wr => (bz y).2.2.2.2.2.2.2.2.2.2.2.2.1
            have b13 := fun y : Ext wr => (bz y).2.2.2.2.2.2.2.2.2.2.2.2.2
            clear bz
            go_wp2_with fail
            refine wp_region_ext (by kernel_rfl) (by kernel_rfl) ?_
            repeat (go_big_quiet_step ((go_at_call 33; exact ext_below (CC.out _))))
            refine wpQuiet_nil ?_
            rintro _ ⟨y, rfl⟩
            clear a0 a1 a2 a3 a4 a5 a6 a7 a8 a9 a10 a11 a12 a13 b0 b1 b2 b3 b4 b5 b6 b7 b8 b9 b10 b11 b12 b13
            have hat := hat.then y.b
            have KW := Lib.hid (KW.out.then y.b)
            obtain ⟨c0, c1, c2, c3, c4, c5, c6, c7, c8, c9, c10, c11, c12, c13⟩ := row_cells14 hat hbg hxp
            obtain ⟨d0, d1, d2, d3, d4, d5, d6, d7, d8, d9, d10, d11, d12, d13⟩ := row_cells14 hat hbg hxq
            obtain ⟨m0, m1, m2, m3⟩ := apart_cells hpq
            have hfz := hat.f
            have hlz := hat.lt
            have e1 : ∀ i, i < 14 → ∃ v, y.W.cell? ⟨g, j * 14 + i, none⟩ = some v := fun i hi => by
              rw [hat.c, Array.getElem?_eq_getElem (by have := hbg.1; omega)]; exact ⟨_, rfl⟩
            have HR := Lib.hid (row_swap (x := xp) (y := xq) hat hbg hpl hql)
            have HK := Lib.hid (putC_kept (obCells xp).toList (j1 * 14) (putC_kept (obCells xq).toList (j * 14) KW.out))
            obtain ⟨w7, hw7⟩ : ∃ w7, putC (putC y.W g (j * 14) (obCells xq).toList) g (j1 * 14) (obCells xp).toList = w7 := ⟨_, rfl⟩
            rw [hw7] at HR HK
            simp only [putC, Nat.add_assoc, Nat.reduceAdd] at hw7
            have HW7 := Lib.hid hw7
            clear hw7 e1 hat hbg hxp hxq hpl hql
            go_wp2
            go_region_law (fail)
            all_goals
              rw [HW7.out]
              have R7 := Lib.hid HR.out.drew
              have K7 := Lib.hid (kept_drew HK.out)
              generalize w7.drew = w9 at *
              clear HR HK HW7 KW c0 c1 c2 c3 c4 c5 c6 c7 c8 c9 c10 c11 c12 c13 d0 d1 d2 d3 d4 d5 d6 d7 d8 d9 d10 d11 d12 d13 m0 m1 m2 m3 hfz hlz
              go_wp2
              go_roundw
              case rel => exact ⟨j1, by first | rfl | go_num, by have := HJ1.out; omega, by have := HJ1.out; omega, Lib.hid (HNX.out _ (by rw [← HSW.out]; exact R7.out)), K7⟩
              case measure => have := HJ1.out; simp [intOf]; omega
          · have hneg : ¬ Lib.compareBytes (hb x.1) (hb y0.1) < 0 := fun k => hl ((cmp_neg x.1 y0.1).1 k)
            have HNX : Hid (∀ W, Row W g (mapF (P ++ (U1' ++ [y0]) ++ x :: (U2 ++ V ++ R))) → ∃ U V, Ins S a b (i + 1) U V ∧ Row W g (mapF (P ++ (U ++ V) ++ R))) := Lib.hid (fun W r => ⟨(U1' ++ [y0]) ++ x :: U2, V, HI.out.next hU HUI.out (fun u hu => by
              have h0 : lex y0 x := (lex_front hyx).2 hl
              rcases List.mem_append.1 hu with k | k
              · have := (up_app.1 (up_app.1 hup).1).2.2 u k y0 (by simp)
                exact lex_trans this h0
              · obtain rfl : u = y0 := by simpa using k
                exact h0) h2, by simpa [mapF] using r⟩)
            generalize Lib.compareBytes (hb x.1) (hb y0.1) = r at *
            have n1 : decide (r < 0) = false := decide_eq_false hneg
            generalize mapF (P ++ U1') ++ y0.1 :: [] ++ x.1 :: mapF (U2 ++ V ++ R) = L at *
            clear hL hlA hlB hall hSW HSW hup hyx hl h2 hU hj hj2 HS hpl hql hj1
            generalize x.1 = xp at *
            generalize y0.1 = xq at *
            have az := fun y : Ext wr => row_cells14 (hat.then y.b) hbg hxp
            have a0 := fun y : Ext wr => (az y).1
            have a1 := fun y : Ext wr => (az y).2.1
            have a2 := fun y : Ext wr => (az y).2.2.1
            have a3 := fun y : Ext wr => (az y).2.2.2.1
            have a4 := fun y : Ext wr => (az y).2.2.2.2.1
            have a5 := fun y : Ext wr => (az y).2.2.2.2.2.1
            have a6 := fun y : Ext wr => (az y).2.2.2.2.2.2.1
            have a7 := fun y : Ext wr => (az y).2.2.2.2.2.2.2.1
            have a8 := fun y : Ext wr => (az y).2.2.2.2.2.2.2.2.1
            have a9 := fun y : Ext wr => (az y).2.2.2.2.2.2.2.2.2.1
            have a10 := fun y : Ext wr => (az y).2.2.2.2.2.2.2.2.2.2.1
            have a11 := fun y : Ext wr => (az y).2.2.2.2.2.2.2.2.2.2.2.1
            have a12 := fun y : Ext wr => (az y).2.2.2.2.2.2.2.2.2.2.2.2.1
            have a13 := fun y : Ext wr => (az y).2.2.2.2.2.2.2.2.2.2.2.2.2
            clear az
            have bz := fun y : Ext wr => row_cells14 (hat.then y.b) hbg hxq
            have b0 := fun y : Ext wr => (bz y).1
            have b1 := fun y : Ext wr => (bz y).2.1
            have b2 := fun y : Ext wr => (bz y).2.2.1
            have b3 := fun y : Ext wr => (bz y).2.2.2.1
            have b4 := fun y : Ext wr => (bz y).2.2.2.2.1
            have b5 := fun y : Ext wr => (bz y).2.2.2.2.2.1
            have b6 := fun y : Ext wr => (bz y).2.2.2.2.2.2.1
            have b7 := fun y : Ext wr => (bz y).2.2.2.2.2.2.2.1
            have b8 := fun y : Ext wr => (bz y).2.2.2.2.2.2.2.2.1
            have b9 := fun y : Ext wr => (bz y).2.2.2.2.2.2.2.2.2.1
            have b10 := fun y : Ext wr => (bz y).2.2.2.2.2.2.2.2.2.2.1
            have b11 := fun y : Ext wr => (bz y).2.2.2.2.2.2.2.2.2.2.2.1
            have b12 := fun y : Ext wr => (bz y).2.2.2.2.2.2.2.2.2.2.2.2.1
            have b13 := fun y : Ext wr => (bz y).2.2.2.2.2.2.2.2.2.2.2.2.2
            clear bz
            go_wp2_with fail
            refine wp_region_ext (by kernel_rfl) (by kernel_rfl) ?_
            repeat (go_big_quiet_step ((go_at_call 33; exact ext_below (CC.out _))))
            refine wpQuiet_nil ?_
            rintro _ ⟨y, rfl⟩
            clear a0 a1 a2 a3 a4 a5 a6 a7 a8 a9 a10 a11 a12 a13 b0 b1 b2 b3 b4 b5 b6 b7 b8 b9 b10 b11 b12 b13
            go_wp2
            go_roundw
            case rel =>
              obtain ⟨U', V', h1, h2⟩ := HNX.out _ (HRO.out.then y.b)
              exact ⟨i + 1, by go_num, by omega, Lib.hid ⟨U', V', h1, h2⟩, Lib.hid (KW.out.then y.b)⟩
            case measure => simp [intOf]; omega
    · have i1 : ¬ (i : Int) < (b : Int) := by omega
      have HF : Hid (E wr) := Lib.hid (by
        obtain ⟨U, V, h, r⟩ := HS.out
        have hV : V = [] := by
          rcases h.at_ with k | k
          · have := h.all
            exact List.eq_nil_of_length_eq_zero (by omega)
          · exact k.2.2.2
        subst hV
        rw [HE.out]
        exact ⟨U, by simpa using h.perm, h.up, by simpa using r⟩)
      clear HS
      go_wp2
      go_end0
      exact ⟨rfl, HF.out, KW.out⟩
end Go.Proofs.YtncahpbjbgcnbaaGreatDoor.KX
