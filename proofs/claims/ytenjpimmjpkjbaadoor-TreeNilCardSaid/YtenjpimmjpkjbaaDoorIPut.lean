/-
  WALKS: New, At, Put of an index.
-/
import Derived.Test.YtenjpimmjpkjbaaDoorIProg
import Derived.Test.YtenjpimmjpkjbaaDoorIShift
import Derived.Test.YtenjpimmjpkjbaaDoorHRefMay
import Derived.RangeFuncBox
import Derived.StillTailTactics
namespace Go.Proofs.YtenjpimmjpkjbaaDoor.IX
open Go.RowKit HL
set_option maxRecDepth 100000
set_option linter.unusedVariables false
set_option linter.unusedSimpArgs false

theorem zero_ix (W : World) : Sem.run Tryd.prog (zeroValue 84) W = .ok (.agg #[.pointer none, .slice none 0 0]) W := by kernel_rfl
set_option maxHeartbeats 1000000 in
theorem holding_any (A : Option Addr) (c : Nat) (l : List Rw) (w : World) (ho : OwnP w 0 (.slice A l.length c) l) (u : Up l) :
    Calls Tryd.prog 63 #[.slice A l.length c] w fun e w' => e = .returned (ptr w.heap.size) ∧ IxAt w' w.heap.size (.slice A l.length c) l ∧ Below w.heap.size w w' := by
  have hz := zero_ix
  have HO := Lib.hid ho
  have hlt := ho.lt
  have HL := Lib.hid hlt
  clear ho hlt
  go_enter Tryd.func63, Tryd.ntmps63
  go_wp2
  go_ret
  have q := AtC.new w #[ptr w.heap.size, .slice A l.length c] 84
  have hb : Below w.heap.size w (w.alloc (.cells #[ptr w.heap.size, .slice A l.length c] 84)) := (Below.refl _ _).alloc (Nat.le_refl _) _
  refine ⟨rfl, ⟨q, OwnK.below (K := rowK) HO.out hb, ?_, u⟩, hb⟩
  intro e
  have := (HL.out _ e).2
  omega
theorem new_any (w : World) : Calls Tryd.prog 56 #[] w fun e w' => e = .returned (ptr w.heap.size) ∧ IxAt w' w.heap.size (.slice none 0 0) [] ∧ Below w.heap.size w w' := by
  have C : Hid (Calls Tryd.prog 63 #[.slice none 0 0] w fun e w' => e = .returned (ptr w.heap.size) ∧ IxAt w' w.heap.size (.slice none 0 0) [] ∧ Below w.heap.size w w') := Lib.hid (holding_any none 0 [] w (OwnP.nil_ _ _) List.Pairwise.nil)
  go_enter Tryd.func56, Tryd.ntmps56
  go_wp2_with (go_at_call 63; ((with_reducible refine C.out.mono ?_); rintro e w1 ⟨rfl, a1, k1⟩; have A1 := Lib.hid a1; clear a1))
  go_ret
  exact ⟨rfl, A1.out, k1⟩
theorem ix_c0 {w : World} {B : Nat} {v : Value} (h : AtC w B (ixC B v)) : w.cell? ⟨B, 0, none⟩ = some (ptr B) := h.c 0
theorem ix_c1 {w : World} {B : Nat} {v : Value} (h : AtC w B (ixC B v)) : w.cell? ⟨B, 1, none⟩ = some v := h.c 1
/-! ## Put -/
noncomputable def mayS (x : Bs) : Bool := mayB ⟨x.toArray⟩
theorem mayS_len {x : Bs} (h : mayS x = true) : x.length ≤ 16 := (mayB_iff.1 h).2.1

theorem put_row (l : List Rw) (h : Bs) (n : Int) (i m : Nat) (hm : i + m = l.length) (z : Rw) :
    (((l ++ [z]).take (i + 1) ++ ((l ++ [z]).drop i).take m).set i (h, n)) = l.take i ++ (h, n) :: l.drop i := by
  have e1 : ((l ++ [z]).drop i).take m = l.drop i := by
    rw [List.drop_append_of_le_length (by omega), List.take_append_of_le_length (by simp; omega), List.take_of_length_le (by simp; omega)]
  have e2 : (l ++ [z]).take (i + 1) = l.take i ++ [(l ++ [z])[i]'(by simp; omega)] := by
    rw [List.take_succ_eq_append_getElem (by simp; omega), List.take_append_of_le_length (by omega)]
  have e3 : (l.take i).length = i := by rw [List.length_take]; omega
  rw [e1, e2, List.append_assoc, List.set_append_right _ _ (by rw [e3]; exact Nat.le_refl _), e3, Nat.sub_self]
  rfl
theorem OwnK.rowSet {w : World} {base g cap : Nat} {l : List Rw} (h : OwnK rowK w base (.slice (some ⟨g, 0, none⟩) l.length cap) l) {i : Nat} (hi : i < l.length) (x : Bs) (y : Int) :
    OwnK rowK ((w.setCell ⟨g, i * 2, none⟩ (str x)).setCell ⟨g, i * 2 + 1, none⟩ (.int .i64 y)) base (.slice (some ⟨g, 0, none⟩) l.length cap) (l.set i (x, y)) := by
  have h2 := ((World.ownsRow.stored h (i * 2) (str x)).1.stored (i * 2 + 1) (.int .i64 y)).1
  have e : ((cellsK rowK l).set (i * 2) (str x)).set (i * 2 + 1) (.int .i64 y) = cellsK rowK (l.set i (x, y)) := by
    clear h h2
    show ((rowsV l).set _ _).set _ _ = rowsV (l.set i (x, y))
    induction l generalizing i with
    | nil => simp at hi
    | cons r l ih =>
      cases i with
      | zero => simp [rowsV_cons]
      | succ i =>
        rw [show (i + 1) * 2 = i * 2 + 1 + 1 by omega, rowsV_cons, List.set_cons_succ, List.set_cons_succ, List.set_cons_succ, List.set_cons_succ, List.set_cons_succ, rowsV_cons, ih (by simpa using hi)]
  unfold OwnK
  rw [List.length_set, ← e]
  exact h2
noncomputable def putE (l : List Rw) (h : Bs) (n : Int) : Int := if mayS h = true then (if n < 0 then 2 else if hasB l h = true then 71 else 0) else 10
noncomputable def putL (l : List Rw) (h : Bs) (n : Int) : List Rw := if mayS h = true ∧ 0 ≤ n ∧ hasB l h = false then ins l h n else l
theorem put_no1 {l : List Rw} {h : Bs} {n : Int} (k : mayS h = false) : putE l h n = 10 ∧ putL l h n = l := by simp [putE, putL, k]
theorem put_no2 {l : List Rw} {h : Bs} {n : Int} (k : mayS h = true) (k2 : n < 0) : putE l h n = 2 ∧ putL l h n = l := by simp [putE, putL, k, k2]; omega
theorem put_no3 {l : List Rw} {h : Bs} {n : Int} (k : mayS h = true) (k2 : ¬ n < 0) (k3 : hasB l h = true) : putE l h n = 71 ∧ putL l h n = l := by simp [putE, putL, k, k2, k3]
theorem put_yes {l : List Rw} {h : Bs} {n : Int} (k : mayS h = true) (k2 : ¬ n < 0) (k3 : hasB l h = false) : putE l h n = 0 ∧ putL l h n = l.take (plc l h) ++ (h, n) :: l.drop (plc l h) := by
  have : 0 ≤ n := by omega
  simp [putE, putL, k, k2, k3, this, ins]
set_option maxHeartbeats 1000000 in
theorem put_no (B : Nat) (v : Value) (l : List Rw) (h : Bs) (n : Int) (w : World) (hA : IxAt w B v l) (hn : l.length ≤ 1000000) (hh : h.length ≤ maxLen) (k : putE l h n ≠ 0) :
    Calls Tryd.prog 33 #[ptr B, str h, .int .i64 n] w fun e w' => e = .returned (.int .i64 (putE l h n)) ∧ putL l h n = l ∧ Below w.heap.size w w' := by
  have C := Lib.hid (seek_any B v l h w hA hn)
  have CM := Lib.hid (fun W q => made_any B v W (hA.a.then q))
  have CY := Lib.hid (fun W => may_any ⟨h.toArray⟩ W hh)
  have hb : Below w.heap.size w w := Below.refl _ _
  clear hA hh
  by_cases hm : mayS h = true
  · have hm' : mayB ⟨h.toArray⟩ = true := hm
    rw [hm'] at CY
    clear hm'
    by_cases h2 : n < 0
    · have HV := Lib.hid (put_no2 (l := l) hm h2)
      clear hm k
      go_enter Tryd.func33, Tryd.ntmps33
      go_wp2_with (first
        | (go_at_call 51; ((with_reducible refine C.out.mono ?_); rintro e w1 ⟨rfl, k1⟩; replace hb := bThen hb k1))
        | (go_at_call 55; ((with_reducible refine (CM.out _ hb).mono ?_); rintro e w2 ⟨rfl, rfl⟩))
        | (go_at_call 27; ((with_reducible refine (CY.out _).mono ?_); rintro e w3 ⟨rfl, k3⟩; replace hb := bThen hb k3)))
      go_ret
      exact ⟨by rw [HV.out.1]; rfl, HV.out.2, hb⟩
    · have h3 : hasB l h = true := by
        cases e : hasB l h with
        | true => rfl
        | false => exact absurd (put_yes hm h2 e).1 k
      have HV := Lib.hid (put_no3 hm h2 h3)
      rw [h3] at C
      clear hm h3 k
      go_enter Tryd.func33, Tryd.ntmps33
      go_wp2_with (first
        | (go_at_call 51; ((with_reducible refine C.out.mono ?_); rintro e w1 ⟨rfl, k1⟩; replace hb := bThen hb k1))
        | (go_at_call 55; ((with_reducible refine (CM.out _ hb).mono ?_); rintro e w2 ⟨rfl, rfl⟩))
        | (go_at_call 27; ((with_reducible refine (CY.out _).mono ?_); rintro e w3 ⟨rfl, k3⟩; replace hb := bThen hb k3)))
      go_ret
      exact ⟨by rw [HV.out.1]; rfl, HV.out.2, hb⟩
  · have hm0 : mayS h = false := by simpa using hm
    have hm' : mayB ⟨h.toArray⟩ = false := hm0
    rw [hm'] at CY
    have HV := Lib.hid (put_no1 (l := l) (n := n) hm0)
    clear hm hm0 hm' k
    go_enter Tryd.func33, Tryd.ntmps33
    go_wp2_with (first
      | (go_at_call 51; ((with_reducible refine C.out.mono ?_); rintro e w1 ⟨rfl, k1⟩; replace hb := bThen hb k1))
      | (go_at_call 55; ((with_reducible refine (CM.out _ hb).mono ?_); rintro e w2 ⟨rfl, rfl⟩))
      | (go_at_call 27; ((with_reducible refine (CY.out _).mono ?_); rintro e w3 ⟨rfl, k3⟩; replace hb := bThen hb k3)))
    go_ret
    exact ⟨by rw [HV.out.1]; rfl, HV.out.2, hb⟩
set_option maxHeartbeats 2000000 in
theorem put_ok (B : Nat) (v : Value) (l : List Rw) (h : Bs) (n : Int) (w : World) (hA : IxAt w B v l) (hn : l.length ≤ 100000) (hh : h.length ≤ maxLen) (hm : mayS h = true) (h2 : ¬ n < 0) (h3 : hasB l h = false) :
    Calls Tryd.prog 33 #[ptr B, str h, .int .i64 n] w fun e w' => ∃ v', e = .returned (.int .i64 0) ∧ IxAt w' B v' (l.take (plc l h) ++ (h, n) :: l.drop (plc l h)) ∧ (∀ k, v'.ownBlock = some k → v.ownBlock = some k ∨ w.heap.size ≤ k) ∧ Kept w w' (fun k => k ≠ B ∧ v.ownBlock ≠ some k) := by
  have C := Lib.hid (seek_any B v l h w hA (by omega))
  have CM := Lib.hid (fun W q => made_any B v W (hA.a.then q))
  have CY := Lib.hid (fun W => may_any ⟨h.toArray⟩ W hh)
  have hm' : mayB ⟨h.toArray⟩ = true := hm
  rw [hm'] at CY
  rw [h3] at C
  have hb : Below w.heap.size w w := Below.refl _ _
  have HU := Lib.hid (up_ins hA.up n h3)
  have HA := Lib.hid hA
  have hpl := plc_le l h
  obtain ⟨m, hmm⟩ : ∃ m, plc l h + m = l.length := ⟨l.length - plc l h, by omega⟩
  have HM := Lib.hid hmm
  obtain ⟨A0, c0, rfl, _, _⟩ := hA.rows
  clear hA hh hm hm' h3 hmm
  unfold ins at HU
  generalize plc l h = i at *
  go_enter Tryd.func33, Tryd.ntmps33
  go_wp2_with (first
    | (go_at_call 51; ((with_reducible refine C.out.mono ?_); rintro e w1 ⟨rfl, k1⟩; replace hb := bThen hb k1))
    | (go_at_call 55; ((with_reducible refine (CM.out _ hb).mono ?_); rintro e w2 ⟨rfl, rfl⟩))
    | (go_at_call 27; ((with_reducible refine (CY.out _).mono ?_); rintro e w3 ⟨rfl, k3⟩; replace hb := bThen hb k3; have c1 := ix_c1 (HA.out.then hb).a))
    | (at_builtin; refine wpList_spreadK rowK rfl (.tmp 32) (.tmp 34) rfl 0 _ l rfl ((OwnP.k.1 (HA.out.then hb).r).below ((Below.refl _ _).alloc (Nat.le_refl _) _)) (w3.heap.size + 1) (some ⟨w3.heap.size, 0, none⟩) 1 1 [([], 0)] rfl rfl (RdK.lit _ _ _ rfl _) ?c1 (Nat.zero_le _) ?_))
  case c1 => simp; omega
  intro v4 w4 o4 g4 f4
  obtain ⟨g, cap, rfl, _, hgl, hcap⟩ := o4.some_ (n := l.length) (by simp)
  have kq : Kept w w4 (fun k => (Value.slice A0 l.length c0).ownBlock ≠ some k) := ((Kept.of_below hb).alloc _).grown g4 (fun k e _ p => p e)
  have KQ := Lib.hid kq
  have m4 : AtC w4 B (ixC B (.slice A0 l.length c0)) := kq.atC HA.out.a HA.out.ne
  have HF : Hid ((Value.slice A0 l.length c0).ownBlock = some g ∨ w.heap.size ≤ g) := Lib.hid (by
    rcases f4 with e | e
    · exact .inl e.symm
    · right
      have : g = w3.heap.size + 1 := by simpa [Value.ownBlock] using e
      have := hb.size
      omega)
  have hgB : g ≠ B := by
    rcases HF.out with e | e
    · intro e2; exact HA.out.ne (by rw [e, e2])
    · have := HA.out.a.lt; omega
  have O4 := Lib.hid o4
  have M4 := Lib.hid m4
  have d1 := ix_c1 m4
  have f1 := m4.f 1
  clear o4 g4 f4 kq m4 c1
  go_wp2
  have hl1 : (l ++ [(([] : Bs), (0 : Int))]).length = l.length + 1 := by simp
  have m5 : AtC (w4.setCell ⟨B, 1, none⟩ (.slice (some ⟨g, 0, none⟩) (l.length + 1) cap)) B (ixC B (.slice (some ⟨g, 0, none⟩) (l.length + 1) cap)) := by
    have q := M4.out.set (i := 1) (by show 1 < 2; omega) (.slice (some ⟨g, 0, none⟩) (l.length + 1) cap)
    exact q
  have o5 : OwnK rowK (w4.setCell ⟨B, 1, none⟩ (.slice (some ⟨g, 0, none⟩) (l.length + 1) cap)) 0 (.slice (some ⟨g, 0, none⟩) (l.length + 1) cap) (l ++ [(([] : Bs), (0 : Int))]) :=
    O4.out.kept ((Kept.refl w4 (fun k => k ≠ B)).set (fun _ p => p rfl) _) (fun b e => by simp [Value.ownBlock] at e; omega)
  have k5 := (KQ.out.weak (Q := fun k => k ≠ B ∧ (Value.slice A0 l.length c0).ownBlock ≠ some k) (fun k p => p.2)).set (B := B) (i := 1) (fun _ p => p.1 rfl) (.slice (some ⟨g, 0, none⟩) (l.length + 1) cap)
  generalize w4.setCell ⟨B, 1, none⟩ (.slice (some ⟨g, 0, none⟩) (l.length + 1) cap) = w5 at *
  obtain ⟨_, _, e5, rd5, _⟩ := o5.form
  simp only [hl1, Value.slice.injEq, true_and] at e5
  obtain ⟨rfl, rfl⟩ := e5
  obtain ⟨A2, c2, s2, _, _, p2, _⟩ := slice_fromK rowK rd5 hl1 (p := i + 1) (by omega) hcap
  obtain ⟨A3, c3, s3, _, _, p3, _⟩ := slice_fromK rowK rd5 hl1 (p := i) (by omega) hcap
  have hm1 : l.length + 1 - (i + 1) = m := by have := HM.out; omega
  have hm2 : l.length + 1 - i = m + 1 := by have := HM.out; omega
  have hm3 : i + 1 + m = (l ++ [(([] : Bs), (0 : Int))]).length := by rw [hl1]; have := HM.out; omega
  have hp : 0 < m → A2 = some ⟨g, (i + 1) * rowK.size, none⟩ ∧ A3 = some ⟨g, i * rowK.size, none⟩ := fun h0 => ⟨by rw [p2 (by omega) _ rfl, addr_lit, Nat.zero_add], by rw [p3 (by omega) _ rfl, addr_lit, Nat.zero_add]⟩
  rw [hm1] at s2
  rw [hm2] at s3
  have s2' : ∀ W, (Instr.slice 82 (.slice (some ⟨g, 0, none⟩) (l.length + 1) cap) (some (.int .i64 ((i : Int) + 1))) none none).run Tryd.prog W = .ok (.slice A2 m c2) W := s2
  have s3' : ∀ W, (Instr.slice 82 (.slice (some ⟨g, 0, none⟩) (l.length + 1) cap) (some (.int .i64 (i : Int))) none none).run Tryd.prog W = .ok (.slice A3 (m + 1) c3) W := s3
  have hwr : IntKind.i64.wrap ((i : Int) + 1) = (i : Int) + 1 := IntWalk.i64_in _ (by omega)
  have d5 := ix_c1 m5
  have d5' : w5.drew.cell? ⟨B, 1, none⟩ = some (.slice (some ⟨g, 0, none⟩) (l.length + 1) cap) := d5
  have O5 : Hid (OwnK rowK w5.drew 0 (.slice (some ⟨g, 0, none⟩) (l ++ [(([] : Bs), (0 : Int))]).length cap) (l ++ [(([] : Bs), (0 : Int))])) := Lib.hid (by rw [hl1]; exact o5)
  have M5 : Hid (AtC w5.drew B (ixC B (.slice (some ⟨g, 0, none⟩) (l.length + 1) cap))) := Lib.hid m5.drew1
  have K5 : Hid (Kept w w5.drew (fun k => k ≠ B ∧ (Value.slice A0 l.length c0).ownBlock ≠ some k)) := Lib.hid ⟨k5.os, k5.tape, k5.output, k5.size, k5.block⟩
  have HL1 := Lib.hid hl1
  have HM3 := Lib.hid hm3
  have HP := Lib.hid hp
  clear o5 m5 k5 s2 s3 p2 p3 hm1 hm2 rd5 hl1 hm3 hp d1 f1 M4 O4
  go_still_tail 13, (by kernel_rfl)
  change wpList _ _ _ _ _ w5.drew
  generalize w5.drew = w6 at *
  refine wpList_shiftK rowK rfl (.tmp 44) (.tmp 50) rfl 0 g cap _ O5.out i m HM3.out A2 A3 c2 c3 rfl rfl HP.out ?_
  intro w7 o7 g7
  have k7 := K5.out.grown g7 (fun k e hk p => by
    have e2 : g = k := by simpa using e
    subst e2
    rcases HF.out with q | q
    · exact p.2 q
    · omega)
  have m7 : AtC w7 B (ixC B (.slice (some ⟨g, 0, none⟩) (l.length + 1) cap)) := ((Kept.refl w6 (fun k => k ≠ g)).grown g7 (fun k e _ p => by simp at e; exact p e.symm)).atC M5.out (fun e => hgB e.symm)
  have e7 := put_row l h n i m (by have := HM.out; omega) ([], 0)
  have hl7 : ((l ++ [(([] : Bs), (0 : Int))]).take (i + 1) ++ ((l ++ [(([] : Bs), (0 : Int))]).drop i).take m).length = l.length + 1 := by have := HM.out; simp; omega
  rw [HL1.out] at o7
  generalize (l ++ [(([] : Bs), (0 : Int))]).take (i + 1) ++ ((l ++ [(([] : Bs), (0 : Int))]).drop i).take m = l7 at *
  rw [← hl7] at o7
  have hil : i < l7.length := by rw [hl7]; omega
  have o8 := o7.rowSet (i := i) hil h n
  rw [hl7, e7] at o8
  have k8 := (k7.set (B := g) (i := i * 2) (fun hg p => by rcases HF.out with q | q; exact p.2 q; omega) (str h)).set (B := g) (i := i * 2 + 1) (fun hg p => by rcases HF.out with q | q; exact p.2 q; omega) (.int .i64 n)
  have m8 := (m7.store (p := ⟨g, i * 2, none⟩) hgB (str h)).store (p := ⟨g, i * 2 + 1, none⟩) hgB (.int .i64 n)
  have r0 := World.ownsRow.cellAt o7 (i * 2) (by show _ < l7.length * 2; rw [hl7]; omega)
  have r1 := World.ownsRow.cellAt o7 (i * 2 + 1) (by show _ < l7.length * 2; rw [hl7]; omega)
  have q0 := (rowsV_at (List.getElem?_eq_getElem hil)).1
  have q1 := (rowsV_at (List.getElem?_eq_getElem hil)).2
  have t0 : w7.cell? ⟨g, i * 2, none⟩ = some _ := r0.trans q0
  have t1 : w7.cell? ⟨g, i * 2 + 1, none⟩ = some _ := r1.trans q1
  have u0 := World.ownsRow.frozenAt o7 (i * 2)
  have u1 := World.ownsRow.frozenAt o7 (i * 2 + 1)
  have d7 := ix_c1 m7
  have i3 : (i : Int) < (l.length : Int) + 1 := by omega
  have O8 := Lib.hid o8
  have M8 := Lib.hid m8
  have K8 := Lib.hid k8
  clear o7 o8 m7 m8 k7 k8 r0 r1 q0 q1 e7 g7 s2' s3' hwr d5 d5' O5 M5 K5 C CM CY
  generalize l7[i] = r7 at *
  go_wp2
  go_ret
  refine ⟨_, rfl, ⟨M8.out, ?_, fun e => hgB (by simpa [Value.ownBlock] using e), HU.out⟩, fun k e => ?_, K8.out⟩
  · unfold OwnP
    have e : (l.take i ++ (h, n) :: l.drop i).length = l.length + 1 := by simp; omega
    have o := O8.out
    unfold OwnK at o
    rw [e] at o ⊢
    exact o
  · have e2 : g = k := by simpa [Value.ownBlock] using e
    subst e2
    exact HF.out
theorem put_any (B : Nat) (v : Value) (l : List Rw) (h : Bs) (n : Int) (w : World) (hA : IxAt w B v l) (hn : l.length ≤ 100000) (hh : h.length ≤ maxLen) :
    Calls Tryd.prog 33 #[ptr B, str h, .int .i64 n] w fun e w' => ∃ v', e = .returned (.int .i64 (putE l h n)) ∧ IxAt w' B v' (putL l h n) ∧ (∀ k, v'.ownBlock = some k → v.ownBlock = some k ∨ w.heap.size ≤ k) ∧ Kept w w' (fun k => k ≠ B ∧ v.ownBlock ≠ some k) := by
  by_cases k : putE l h n = 0
  · have k1 : mayS h = true := by
      cases e : mayS h with
      | true => rfl
      | false => rw [(put_no1 e).1] at k; omega
    have k2 : ¬ n < 0 := fun e => by rw [(put_no2 k1 e).1] at k; omega
    have k3 : hasB l h = false := by
      cases e : hasB l h with
      | false => rfl
      | true => rw [(put_no3 k1 k2 e).1] at k; omega
    rw [(put_yes k1 k2 k3).1, (put_yes k1 k2 k3).2]
    exact put_ok B v l h n w hA hn hh k1 k2 k3
  · refine (put_no B v l h n w hA (by omega) hh k).mono ?_
    rintro e w' ⟨rfl, e2, b⟩
    exact ⟨v, rfl, by rw [e2]; exact hA.then b, fun k h => .inl h, .of_below b⟩
end Go.Proofs.YtenjpimmjpkjbaaDoor.IX
