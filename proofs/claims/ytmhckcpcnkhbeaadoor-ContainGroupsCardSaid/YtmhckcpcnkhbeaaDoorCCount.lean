/-
  WALKS: tally, Count, Room; the document's many, Count, Room.
-/
import Derived.Test.YtmhckcpcnkhbeaaDoorCKit
import Derived.Test.YtmhckcpcnkhbeaaDoorCRow
import Derived.Test.YtmhckcpcnkhbeaaDoorCRef
namespace Go.Proofs.YtmhckcpcnkhbeaaDoor
open Go.RowKit
set_option maxRecDepth 100000
set_option linter.unusedVariables false
set_option linter.unusedSimpArgs false

/-- How many of a row are of a group. -/
def cnt (l : List Nat) (g : Nat) : Nat := (l.filter fun k => grp k == g).length
def cntA (l : List Nat) : Array Value := ((List.range 10).map fun g => Value.int .i64 (cnt l g : Int)).toArray
theorem cnt_le (l : List Nat) (g : Nat) : cnt l g ≤ l.length := List.length_filter_le _ _
theorem cnt_take (l : List Nat) (g n : Nat) : cnt (l.take n) g ≤ n := Nat.le_trans (cnt_le _ _) (by rw [List.length_take]; omega)
theorem cnt_snoc {l : List Nat} {i : Nat} (h : i < l.length) (g : Nat) : cnt (l.take (i + 1)) g = cnt (l.take i) g + if grp l[i] = g then 1 else 0 := by
  rw [List.take_succ_eq_append_getElem h]
  unfold cnt
  rw [List.filter_append, List.length_append]
  by_cases e : grp l[i] = g <;> simp [e]
theorem cntA_size (l : List Nat) : (cntA l).size = 10 := by simp [cntA]
theorem cntA_get {l : List Nat} {g : Nat} (h : g < 10) : (cntA l)[g]? = some (.int .i64 (cnt l g : Int)) := by simp [cntA, h]
theorem cntA_nil : cntA [] = #[.int .i64 0, .int .i64 0, .int .i64 0, .int .i64 0, .int .i64 0, .int .i64 0, .int .i64 0, .int .i64 0, .int .i64 0, .int .i64 0] := by kernel_rfl
theorem cntA_set {l : List Nat} {i : Nat} (h : i < l.length) : (cntA (l.take i)).setIfInBounds (grp l[i]) (.int .i64 ((cnt (l.take i) (grp l[i]) : Int) + 1)) = cntA (l.take (i + 1)) := by
  apply Array.ext
  · simp [cntA]
  · intro j h1 h2
    have hj : j < 10 := by simpa [cntA] using h2
    have hg := grp_le l[i]
    have e1 := cntA_get (l := l.take i) hj
    have e2 := cntA_get (l := l.take (i + 1)) hj
    have s1 : j < (cntA (l.take i)).size := by rw [cntA_size]; exact hj
    rw [Array.getElem?_eq_getElem s1, Option.some.injEq] at e1
    rw [Array.getElem?_eq_getElem h2, Option.some.injEq] at e2
    rw [e2, cnt_snoc h, Array.getElem_setIfInBounds s1]
    by_cases e : grp l[i] = j
    · rw [if_pos e, if_pos e, e]; simp
    · rw [if_neg e, if_neg e, e1]; simp
theorem all_take {l : List Nat} {i : Nat} (h : i < l.length) (ha : (l.take i).all kdB = true) (hk : kdB l[i] = true) : (l.take (i + 1)).all kdB = true := by
  rw [List.take_succ_eq_append_getElem h, List.all_append, ha]; simp [hk]
theorem all_no {l : List Nat} {i : Nat} (h : i < l.length) (hk : kdB l[i] = false) : l.all kdB = false := by
  rw [List.all_eq_false]; exact ⟨l[i], List.getElem_mem h, by simp [hk]⟩
def tallyV (l : List Nat) : Value := .tuple #[.agg (if l.all kdB then cntA l else cntA []), .bool (l.all kdB)]
theorem tally_no {l : List Nat} (h : l.all kdB = false) : tallyV l = .tuple #[.agg (cntA []), .bool false] := by unfold tallyV; rw [h]; simp
theorem tally_yes {l : List Nat} (h : l.all kdB = true) : tallyV l = .tuple #[.agg (cntA l), .bool true] := by unfold tallyV; rw [h]; simp
theorem ret_tally {R : Ending → World → Prop} {act : Act} {W : World} {B : Nat} {C : Array Value} {v : Value} (h : AtC W B C) (hC : C.size = 10) (hp : act.tmps.getD 2 undef = .pointer (some ⟨B, 0, none⟩)) (hu : act.tmps.getD 3 undef = v) (hd : act.defers = []) (hR : R (.returned (.tuple #[.agg C, v])) W) : bodyPost Tryd.prog Tryd.f42 R .ret act W := by
  refine bodyPost_ret (v := .tuple #[.agg C, v]) ?_ hd hR
  have hl := run_loadCells_list (P := Tryd.prog) W ⟨B, 0, none⟩ C.toList (fun j v hv => by
    have : (⟨B, 0, none⟩ : Addr).add j = ⟨B, j, none⟩ := by unfold Addr.add; split <;> simp_all
    rw [this, h.c j]; simpa using hv)
  simp only [Array.length_toList, Array.toArray_toList] at hl
  have ha := Tryd.isAgg54 W
  have hs : (sizeOf 54).run Tryd.prog W = .ok C.size W := (Tryd.sizeOf54 W).trans (congrArg (fun n => Result.ok n _) hC.symm)
  have h0 : (asAddr (Value.pointer (some ⟨B, 0, none⟩))).run Tryd.prog W = .ok ⟨B, 0, none⟩ W := by simp [asAddr, go_sem]
  rw [results_cell_tmp (fn := Tryd.f42) rfl, hp, hu, h0]
  simp [Sem.run_bind, Result.andThen, loadVar, ha, hs, hl]
set_option maxHeartbeats 2000000 in
theorem AtC.fill10 {W : World} {B : Nat} {C : Array Value} (h : AtC W B C) (hC : C.size = 10) (v0 v1 v2 v3 v4 v5 v6 v7 v8 v9 : Value) : AtC ((((((((((W.setCell ⟨B, 0, none⟩ v0).setCell ⟨B, 1, none⟩ v1).setCell ⟨B, 2, none⟩ v2).setCell ⟨B, 3, none⟩ v3).setCell ⟨B, 4, none⟩ v4).setCell ⟨B, 5, none⟩ v5).setCell ⟨B, 6, none⟩ v6).setCell ⟨B, 7, none⟩ v7).setCell ⟨B, 8, none⟩ v8).setCell ⟨B, 9, none⟩ v9) B #[v0, v1, v2, v3, v4, v5, v6, v7, v8, v9] := by
  have e : ((((((((((C.setIfInBounds 0 v0).setIfInBounds 1 v1).setIfInBounds 2 v2).setIfInBounds 3 v3).setIfInBounds 4 v4).setIfInBounds 5 v5).setIfInBounds 6 v6).setIfInBounds 7 v7).setIfInBounds 8 v8).setIfInBounds 9 v9) = #[v0, v1, v2, v3, v4, v5, v6, v7, v8, v9] := by
    obtain ⟨l⟩ := C
    match l, hC with
    | [_, _, _, _, _, _, _, _, _, _], _ => simp only [List.setIfInBounds_toArray, List.set_cons_zero, List.set_cons_succ]
  rw [← e]
  exact (AtC.set (AtC.set (AtC.set (AtC.set (AtC.set (AtC.set (AtC.set (AtC.set (AtC.set (AtC.set h (i := 0) (by simp [hC]) v0) (i := 1) (by simp [hC]) v1) (i := 2) (by simp [hC]) v2) (i := 3) (by simp [hC]) v3) (i := 4) (by simp [hC]) v4) (i := 5) (by simp [hC]) v5) (i := 6) (by simp [hC]) v6) (i := 7) (by simp [hC]) v7) (i := 8) (by simp [hC]) v8) (i := 9) (by simp [hC]) v9)
theorem bFill10 {w W : World} {B : Nat} (h : Below w.heap.size w W) (hB : w.heap.size ≤ B) (v0 v1 v2 v3 v4 v5 v6 v7 v8 v9 : Value) : Below w.heap.size w ((((((((((W.setCell ⟨B, 0, none⟩ v0).setCell ⟨B, 1, none⟩ v1).setCell ⟨B, 2, none⟩ v2).setCell ⟨B, 3, none⟩ v3).setCell ⟨B, 4, none⟩ v4).setCell ⟨B, 5, none⟩ v5).setCell ⟨B, 6, none⟩ v6).setCell ⟨B, 7, none⟩ v7).setCell ⟨B, 8, none⟩ v8).setCell ⟨B, 9, none⟩ v9) := (bStore (bStore (bStore (bStore (bStore (bStore (bStore (bStore (bStore (bStore h (p := ⟨B, 0, none⟩) hB v0) (p := ⟨B, 1, none⟩) hB v1) (p := ⟨B, 2, none⟩) hB v2) (p := ⟨B, 3, none⟩) hB v3) (p := ⟨B, 4, none⟩) hB v4) (p := ⟨B, 5, none⟩) hB v5) (p := ⟨B, 6, none⟩) hB v6) (p := ⟨B, 7, none⟩) hB v7) (p := ⟨B, 8, none⟩) hB v8) (p := ⟨B, 9, none⟩) hB v9)
theorem cntA_lit (l : List Nat) : cntA l = #[.int .i64 (cnt l 0 : Int), .int .i64 (cnt l 1 : Int), .int .i64 (cnt l 2 : Int), .int .i64 (cnt l 3 : Int), .int .i64 (cnt l 4 : Int), .int .i64 (cnt l 5 : Int), .int .i64 (cnt l 6 : Int), .int .i64 (cnt l 7 : Int), .int .i64 (cnt l 8 : Int), .int .i64 (cnt l 9 : Int)] := by kernel_rfl
set_option maxHeartbeats 4000000 in
theorem tally_any {A : Option Addr} (l : List Nat) (c B : Nat) (w : World) (hr : RdU w B A l) (hB : B ≤ w.heap.size) (hx : ∀ x ∈ l, x ≤ 255) (hl : l.length ≤ 300) (hw : Tables w) :
    Calls Tryd.prog 42 #[.slice A l.length c] w fun e w' => e = .returned (tallyV l) ∧ Below w.heap.size w w' := by
  have HR := Lib.hid hr
  have HX := Lib.hid hx
  have HW := Lib.hid hw
  have hb0 := bAl (bAl (Below.refl w.heap.size w) (.cells (cntA []) 54)) (.cells (cntA []) 54)
  have M2 := Lib.hid ((AtC.new w (cntA []) 54).al (.cells (cntA []) 54))
  have M4 := Lib.hid (AtC.newAt (w := w.alloc (.cells (cntA []) 54)) (B := w.heap.size + 1) (C := cntA []) (T := 54) (by simp))
  rw [cntA_nil] at hb0 M2 M4
  clear hr hx hw
  go_enter Tryd.func42, Tryd.ntmps42
  go_wp2
  go_loopw [9] (fun i wr => ∃ k : Nat, i = .int .i64 k ∧ k ≤ l.length ∧ (l.take k).all kdB = true ∧ AtC wr w.heap.size (cntA []) ∧ AtC wr (w.heap.size + 1) (cntA (l.take k)) ∧ Below w.heap.size w wr) (fun i _ => l.length - (intOf i).toNat)
  case atStart => exact ⟨0, rfl, Nat.zero_le _, by simp, by rw [cntA_nil]; exact M2.out, by rw [List.take_zero, cntA_nil]; exact M4.out, hb0⟩
  case round =>
    obtain ⟨k, rfl, hk, ha, m2, m4, hb⟩ := hrel
    have HA := Lib.hid ha
    have N2 := Lib.hid m2
    have N4 := Lib.hid m4
    clear ha m2 m4 M2 M4 hb0
    by_cases hlt : k < l.length
    · have i1 : (k : Int) < l.length := by omega
      obtain ⟨b, o, rfl, hbl, hc⟩ := HR.out.at_ (by omega)
      have hx := (hb.cell (p := ⟨b, o + k, none⟩) (by show b < _; omega)).trans (hc k _ (List.getElem?_eq_getElem hlt))
      have hy := HX.out _ (List.getElem_mem hlt)
      have CE := Lib.hid (exists_any l[k] wr hy (HW.out.then hb))
      have CG := Lib.hid (group_any l[k] wr hy (HW.out.then hb))
      have HS := Lib.hid (cntA_set hlt)
      have HT := Lib.hid (all_take hlt HA.out)
      have HN := Lib.hid (all_no hlt)
      clear hc hy
      generalize l[k] = x at *
      cases hkd : kdB x with
      | false =>
        rw [hkd] at CE
        have HV := Lib.hid (tally_no (HN.out hkd))
        have c2 := N2.out.c
        rw [cntA_nil] at c2
        have f2 := N2.out.f
        have l2 := N2.out.lt
        clear hkd
        go_wp2_with (go_at_call 38; ((with_reducible refine CE.out.mono ?_); rintro e w1 ⟨rfl, rfl⟩))
        exact ret_tally (AtC.fill10 N2.out (cntA_size _) _ _ _ _ _ _ _ _ _ _) rfl rfl rfl rfl ⟨by rw [HV.out, cntA_nil]; rfl, bFill10 hb (Nat.le_refl _) _ _ _ _ _ _ _ _ _ _⟩
      | true =>
        rw [hkd] at CE
        have HT2 := Lib.hid (HT.out hkd)
        have hg := grp_le x
        have hcn := cnt_take l (grp x) k
        have hv : (cntA (l.take k))[grp x]? = some (.int .i64 (cnt (l.take k) (grp x) : Int)) := cntA_get (by omega)
        clear hkd
        generalize hG : grp x = g at *
        generalize hN : cnt (l.take k) g = q at *
        clear hG hN
        go_wp2_with (first | (go_at_call 38; ((with_reducible refine CE.out.mono ?_); rintro e w1 ⟨rfl, rfl⟩)) | (go_at_call 22; ((with_reducible refine CG.out.mono ?_); rintro e w2 ⟨rfl, k2⟩; have m4 := N4.out.then k2; have c4 := (m4.c g).trans hv; have f4 := m4.f g; have l4 := m4.lt; have N4b := Lib.hid m4; clear m4)))
        go_roundw
        case rel => exact ⟨k + 1, by go_num, by omega, HT2.out, (N2.out.then k2).store (p := ⟨w.heap.size + 1, g, none⟩) (by simp) _, by rw [← HS.out]; exact N4b.out.set (by rw [cntA_size]; omega) _, bStore (bThen hb k2) (by simp) _⟩
        case measure => simp [intOf]; omega
    · have e : k = l.length := by omega
      subst e
      have hA := HA.out
      rw [List.take_length] at hA
      have HV := Lib.hid (tally_yes hA)
      have c4 := N4.out.c
      rw [List.take_length, cntA_lit] at c4
      have f2 := N2.out.f
      have l2 := N2.out.lt
      have l4 := N4.out.lt
      have c2 := N2.out.c
      rw [cntA_nil] at c2
      have HL := Lib.hid (cntA_lit l)
      clear hA
      generalize cnt l 0 = n0 at *
      generalize cnt l 1 = n1 at *
      generalize cnt l 2 = n2 at *
      generalize cnt l 3 = n3 at *
      generalize cnt l 4 = n4 at *
      generalize cnt l 5 = n5 at *
      generalize cnt l 6 = n6 at *
      generalize cnt l 7 = n7 at *
      generalize cnt l 8 = n8 at *
      generalize cnt l 9 = n9 at *
      go_wp2
      exact ret_tally (AtC.fill10 N2.out (cntA_size _) _ _ _ _ _ _ _ _ _ _) rfl rfl rfl rfl ⟨by rw [HV.out, HL.out]; rfl, bFill10 hb (Nat.le_refl _) _ _ _ _ _ _ _ _ _ _⟩
end Go.Proofs.YtmhckcpcnkhbeaaDoor
