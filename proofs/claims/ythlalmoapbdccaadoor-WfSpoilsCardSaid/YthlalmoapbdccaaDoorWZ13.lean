/-
  WALKS: the document's breaks, rule by rule (2 to 6).
-/
import Derived.Test.YthlalmoapbdccaaDoorWZ12
import Derived.Test.YthlalmoapbdccaaDoorWZ11
namespace Go.Proofs.YthlalmoapbdccaaDoor.WX
open Go.RowKit HL
open IX (ptr El cellsK cellsK_at OwnK RdK strK)
open TX (Ext wp_region_ext ext_below ext_same)
set_option maxRecDepth 100000
set_option linter.unusedVariables false
set_option linter.unusedSimpArgs false

theorem brk_at {l : List Ob} {i : Nat} (hi : i < l.length) (r : Nat) : brk l i r = (if r = 2 then (l.take i).any fun x => decide (hb x = hb l[i])
    else if r = 3 then brk3 l l[i]
    else if r = 4 then decide (most l[i].kind < und l (pb l[i]) (grp l[i].kind))
    else if r = 5 then !refR (findO l) l[i]
    else if r = 6 then brk6 l l[i]
    else if r = 7 then (l[i].kind == 9) && (l[i].assoc == 2) && (List.range l.length).any fun k => match l[k]? with
      | some x => (k != i) && twin l[i] x
      | none => false
    else false) := by unfold brk; rw [List.getElem?_eq_getElem hi]; rfl
set_option maxHeartbeats 16000000 in
theorem breaks_2 {A : Option Addr} (l : List Ob) (c i : Nat) (w : World) (hr : RdK obK w w.heap.size A l) (hl : l.length ≤ 1000) (hi : i < l.length) :
    Calls Tryd.prog 26 #[.slice A l.length c, .int .i64 i, .int .i64 2] w fun e w' => e = .returned (.bool (brk l i 2)) ∧ Below w.heap.size w w' := by
  have hb0 : Below w.heap.size w w := Below.refl _ _
  have HR := Lib.hid hr
  have i0 : (0 : Int) ≤ i := by omega
  have i1 : (i : Int) < l.length := by omega
  obtain ⟨b, off, rfl, hbk, hc⟩ := obs_at hr (by omega)
  obtain ⟨c0, c1, c2, c3, c4, c5, c6, c7, c8, c9, c10, c11, c12, c13⟩ := hc i _ (List.getElem?_eq_getElem hi)
  have HB : Hid (brk l i 2 = (l.take i).any fun x => decide (hb x = hb l[i])) := Lib.hid (by rw [brk_at hi]; simp)
  have HCELL := Lib.hid (fun k (hk : k < l.length) => (hc k _ (List.getElem?_eq_getElem hk)).1)
  have HNEXT := Lib.hid (fun (k : Nat) (hk : k < i) (o : Ob) (hn : ∀ a ∈ l.take k, hb a ≠ hb o) (hx : hb (l[k]'(by omega)) ≠ hb o) => show ∀ a ∈ l.take (k + 1), hb a ≠ hb o from fun a ha => by
    rw [List.take_succ_eq_append_getElem (show k < l.length by omega)] at ha
    rcases List.mem_append.1 ha with h | h
    · exact hn a h
    · obtain rfl : a = l[k] := by simpa using h
      exact hx)
  have HMEM := Lib.hid (fun (k : Nat) (hk : k < i) => show l[k]'(by omega) ∈ l.take i from by
    rw [List.mem_iff_getElem]
    exact ⟨k, by rw [List.length_take]; omega, List.getElem_take ..⟩)
  clear hr hc
  obtain ⟨r, hr⟩ : ∃ r, brk l i 2 = r := ⟨_, rfl⟩
  rw [hr]
  rw [hr] at HB
  clear hr
  generalize l[i] = o at *
  have M1 := Lib.hid (AtC.new w (obCells o) 31)
  have B1 := Lib.hid (bAl hb0 (.cells (obCells o) 31))
  go_enter Tryd.func26, Tryd.ntmps26
  go_wp2
  go_loopw [8] (fun v wr => ∃ k : Nat, v = .int .i64 k ∧ k ≤ i ∧ Hid (∀ a ∈ l.take k, hb a ≠ hb o) ∧ Below (w.alloc (.cells (obCells o) 31)).heap.size (w.alloc (.cells (obCells o) 31)) wr) (fun v _ => i - (intOf v).toNat)
  case atStart => exact ⟨0, rfl, Nat.zero_le _, Lib.hid (by simp), Below.refl _ _⟩
  case round =>
    obtain ⟨k, rfl, hk, HN, k1⟩ := hrel
    have K1 := Lib.hid (bThen B1.out k1)
    by_cases hlt : k < i
    · have j1 : (k : Int) < i := by omega
      have j2 : (k : Int) < l.length := by omega
      have j0 : (0 : Int) ≤ k := by omega
      have mo := M1.out.then k1
      have hkl : k < l.length := by omega
      have d0 : ∀ y : Ext wr, y.W.cell? ⟨b, off + k * 14, none⟩ = some (.string l[k].handle) := fun y => by
        rw [(bThen K1.out y.b).cell (p := ⟨b, off + k * 14, none⟩) hbk]; exact HCELL.out k hkl
      have e0 : ∀ y : Ext wr, ∀ i, y.W.cell? ⟨w.heap.size, i, none⟩ = (obCells o)[i]? := fun y => (mo.then y.b).c
      by_cases he : l[k].handle = o.handle
      · have e1 : (l[k].handle.toList == o.handle.toList) = true := by rw [he]; simp
        have HV : Hid (r = true) := Lib.hid (by rw [HB.out]; exact List.any_eq_true.2 ⟨_, HMEM.out k hlt, by simp [hb, he]⟩)
        clear he mo k1
        generalize l[k] = x at *
        go_upto_region 7 with (fail)
        refine wp_region_ext (by kernel_rfl) (by kernel_rfl) ?_
        repeat (go_big_quiet_step (fail))
        refine wpQuiet_nil ?_
        rintro _ ⟨y, rfl⟩
        go_wp2
        go_ret
        exact ⟨by rw [HV.out]; rfl, bThen K1.out y.b⟩
      · have e1 := tl_ne he
        have HN2 := Lib.hid (HNEXT.out k hlt o HN.out fun z => he (bs_eq z))
        have KX := Lib.hid k1
        clear he mo k1
        generalize l[k] = x at *
        go_upto_region 7 with (fail)
        refine wp_region_ext (by kernel_rfl) (by kernel_rfl) ?_
        repeat (go_big_quiet_step (fail))
        refine wpQuiet_nil ?_
        rintro _ ⟨y, rfl⟩
        go_wp2
        go_roundw
        case rel => exact ⟨k + 1, by go_num, by omega, HN2, bThen KX.out y.b⟩
        case measure => simp [intOf]; omega
    · obtain rfl : k = i := by omega
      have j1 : ¬ (k : Int) < k := by omega
      have HV : Hid (r = false) := Lib.hid (by rw [HB.out]; exact List.any_eq_false.2 fun a ha => by simpa using HN.out a ha)
      go_wp2
      go_ret
      exact ⟨by rw [HV.out]; rfl, bThen B1.out k1⟩
set_option maxHeartbeats 16000000 in
theorem breaks_3 {A : Option Addr} (l : List Ob) (c i : Nat) (w : World) (hr : RdK obK w w.heap.size A l) (hl : l.length ≤ 1000) (hi : i < l.length) (hk : ∀ o ∈ l, o.kind ≤ 255) :
    Calls Tryd.prog 26 #[.slice A l.length c, .int .i64 i, .int .i64 3] w fun e w' => e = .returned (.bool (brk l i 3)) ∧ Below w.heap.size w w' := by
  have hb0 : Below w.heap.size w w := Below.refl _ _
  have i0 : (0 : Int) ≤ i := by omega
  have i1 : (i : Int) < l.length := by omega
  have CF := Lib.hid (fun (x : ByteArray) W (q : Below w.heap.size w W) => DX.refFind_any l c x W ((hr.below q).more q.size) (by omega))
  obtain ⟨b, off, rfl, hbk, hc⟩ := obs_at hr (by omega)
  obtain ⟨c0, c1, c2, c3, c4, c5, c6, c7, c8, c9, c10, c11, c12, c13⟩ := hc i _ (List.getElem?_eq_getElem hi)
  have HB : Hid (brk l i 3 = brk3 l l[i]) := Lib.hid (by rw [brk_at hi]; simp)
  have hok := hk _ (List.getElem_mem hi)
  have HKF := Lib.hid (fun x (p : Ob) (e : findO l x = some p) => hk p (findO_some e).1)
  clear hr hc hk
  obtain ⟨r, hr⟩ : ∃ r, brk l i 3 = r := ⟨_, rfl⟩
  rw [hr]
  rw [hr] at HB
  clear hr
  generalize l[i] = o at *
  have CF := Lib.hid (CF.out o.parent)
  have M1 := Lib.hid (AtC.new w (obCells o) 31)
  have mc := M1.out.c
  have B1 := Lib.hid (bAl hb0 (.cells (obCells o) 31))
  by_cases h1 : o.kind = 1
  · have i2 : ((o.kind : Int) == 1) = true := by simp; omega
    have HV : Hid (r = false) := Lib.hid (by rw [HB.out]; unfold brk3; rw [if_pos h1])
    clear h1
    go_enter Tryd.func26, Tryd.ntmps26
    go_wp2
    go_ret
    exact ⟨by rw [HV.out]; rfl, B1.out⟩
  · have i2 : ((o.kind : Int) == 1) = false := by simp; omega
    cases hf : findO l (pb o) with
    | none =>
      have HV : Hid (r = true) := Lib.hid (by rw [HB.out]; unfold brk3; rw [if_neg h1, hf])
      have CF : Hid (∀ W, Below w.heap.size w W → Calls Tryd.prog 43 #[.slice (some ⟨b, off, none⟩) l.length c, .string o.parent] W fun e w' => e = .returned (.tuple #[ob zeroOb, .bool false]) ∧ Below W.heap.size W w') := Lib.hid (fun W q => by
        have := CF.out W q
        rw [show findO l o.parent.data.toList = none from hf] at this
        exact this)
      clear h1 hf
      generalize zeroOb = z at *
      go_enter Tryd.func26, Tryd.ntmps26
      go_wp2_with (go_at_call 43; ((with_reducible refine (CF.out _ B1.out).mono ?_); rintro e w2 ⟨rfl, k2⟩))
      go_ret
      exact ⟨by rw [HV.out]; rfl, bAl (bThen B1.out k2) _⟩
    | some t =>
      have HV : Hid (r = ((standE o t : Int) != 0)) := Lib.hid (by rw [HB.out]; unfold brk3; rw [if_neg h1, hf])
      have CS := Lib.hid (fun W => refStand_any o t W hok (HKF.out _ t hf))
      have CF : Hid (∀ W, Below w.heap.size w W → Calls Tryd.prog 43 #[.slice (some ⟨b, off, none⟩) l.length c, .string o.parent] W fun e w' => e = .returned (.tuple #[ob t, .bool true]) ∧ Below W.heap.size W w') := Lib.hid (fun W q => by
        have := CF.out W q
        rw [show findO l o.parent.data.toList = some t from hf] at this
        exact this)
      clear h1 hf HB
      generalize standE o t = s at *
      go_enter Tryd.func26, Tryd.ntmps26
      go_wp2_with (first
        | (go_at_call 43; ((with_reducible refine (CF.out _ B1.out).mono ?_); rintro e w2 ⟨rfl, k2⟩; have m2 := ((M1.out.then k2).al (.cells (obCells t) 31)).c; have mt := (AtC.new w2 (obCells t) 31).c))
        | (go_at_call 44; ((with_reducible refine (CS.out _).mono ?_); rintro e w3 ⟨rfl, k3⟩)))
      go_ret
      exact ⟨by rw [HV.out]; rfl, bThen (bAl (bThen B1.out k2) _) k3⟩
set_option maxHeartbeats 16000000 in
theorem breaks_4 {A : Option Addr} (l : List Ob) (c i : Nat) (w : World) (hr : RdK obK w w.heap.size A l) (hl : l.length ≤ 1000) (hi : i < l.length) :
    Calls Tryd.prog 26 #[.slice A l.length c, .int .i64 i, .int .i64 4] w fun e w' => e = .returned (.bool (brk l i 4)) ∧ Below w.heap.size w w' := by
  have hb0 : Below w.heap.size w w := Below.refl _ _
  have i0 : (0 : Int) ≤ i := by omega
  have i1 : (i : Int) < l.length := by omega
  have CU := Lib.hid (fun (x : ByteArray) g hg W (q : Below w.heap.size w W) => refUnder_any9 l c x g W ((hr.below q).more q.size) hl hg)
  obtain ⟨b, off, rfl, hbk, hc⟩ := obs_at hr (by omega)
  obtain ⟨c0, c1, c2, c3, c4, c5, c6, c7, c8, c9, c10, c11, c12, c13⟩ := hc i _ (List.getElem?_eq_getElem hi)
  have HB : Hid (brk l i 4 = decide (most l[i].kind < und l (pb l[i]) (grp l[i].kind))) := Lib.hid (by rw [brk_at hi]; simp)
  clear hr hc
  obtain ⟨r, hr⟩ : ∃ r, brk l i 4 = r := ⟨_, rfl⟩
  rw [hr]
  rw [hr] at HB
  clear hr
  generalize l[i] = o at *
  have CG := Lib.hid (fun W => refGroup_any o.kind W)
  have CM := Lib.hid (fun W => refMost_any o.kind W)
  have CU := Lib.hid (CU.out o.parent (grp o.kind) (Nat.le_trans (grp_le _) (by decide)))
  have CU : Hid (∀ W, Below w.heap.size w W → Calls Tryd.prog 45 #[.slice (some ⟨b, off, none⟩) l.length c, .string o.parent, .int .u8 (grp o.kind)] W fun e w' => e = .returned (.int .i64 (und l (pb o) (grp o.kind) : Nat)) ∧ W = w') := CU
  have M1 := Lib.hid (AtC.new w (obCells o) 31)
  have mc := M1.out.c
  have B1 := Lib.hid (bAl hb0 (.cells (obCells o) 31))
  generalize und l (pb o) (grp o.kind) = n at *
  generalize grp o.kind = g at *
  generalize most o.kind = q at *
  have HV : Hid (r = decide (q < n)) := Lib.hid HB.out
  clear HB
  go_enter Tryd.func26, Tryd.ntmps26
  go_upto_region 15 with (fail)
  have e0 : ∀ y : Ext (w.alloc (.cells (obCells o) 31)), ∀ i, y.W.cell? ⟨w.heap.size, i, none⟩ = (obCells o)[i]? := fun y => (M1.out.then y.b).c
  generalize w.alloc (.cells (obCells o) 31) = W1 at *
  clear mc M1
  refine wp_region_ext (by kernel_rfl) (by kernel_rfl) ?_
  repeat (go_big_quiet_step (first
    | (go_at_call 46; with_reducible exact ext_same (CG.out _))
    | (go_at_call 45; with_reducible exact ext_same (CU.out _ (bThen B1.out (Ext.b _))))
    | (go_at_call 47; with_reducible exact ext_same (CM.out _))))
  refine wpQuiet_nil ?_
  rintro _ ⟨y, rfl⟩
  go_wp2
  go_ret
  exact ⟨by rw [HV.out]; rfl, bThen B1.out y.b⟩
set_option maxHeartbeats 16000000 in
theorem breaks_5 {A : Option Addr} (l : List Ob) (c i : Nat) (w : World) (hr : RdK obK w w.heap.size A l) (hl : l.length ≤ 1000) (hi : i < l.length) (hk : ∀ o ∈ l, o.kind ≤ 255) :
    Calls Tryd.prog 26 #[.slice A l.length c, .int .i64 i, .int .i64 5] w fun e w' => e = .returned (.bool (brk l i 5)) ∧ Below w.heap.size w w' := by
  have hb0 : Below w.heap.size w w := Below.refl _ _
  have i0 : (0 : Int) ≤ i := by omega
  have i1 : (i : Int) < l.length := by omega
  have hok := hk _ (List.getElem_mem hi)
  have CF := Lib.hid (fun W (q : Below w.heap.size w W) => refRefers9_any l c l[i] W ((hr.below q).more q.size) hl hok)
  obtain ⟨b, off, rfl, hbk, hc⟩ := obs_at hr (by omega)
  obtain ⟨c0, c1, c2, c3, c4, c5, c6, c7, c8, c9, c10, c11, c12, c13⟩ := hc i _ (List.getElem?_eq_getElem hi)
  have HB : Hid (brk l i 5 = !refR (findO l) l[i]) := Lib.hid (by rw [brk_at hi]; simp)
  clear hr hc hk
  obtain ⟨r, hr⟩ : ∃ r, brk l i 5 = r := ⟨_, rfl⟩
  rw [hr]
  rw [hr] at HB
  clear hr
  generalize l[i] = o at *
  generalize refR (findO l) o = s at *
  have mc := (AtC.new w (obCells o) 31).c
  have B1 := Lib.hid (bAl hb0 (.cells (obCells o) 31))
  go_enter Tryd.func26, Tryd.ntmps26
  go_wp2_with (go_at_call 48; ((with_reducible refine (CF.out _ B1.out).mono ?_); rintro e w2 ⟨rfl, k2⟩))
  go_ret
  exact ⟨by rw [HB.out]; rfl, bThen B1.out k2⟩
set_option maxHeartbeats 16000000 in
theorem breaks_6 {A : Option Addr} (l : List Ob) (c i : Nat) (w : World) (hr : RdK obK w w.heap.size A l) (hl : l.length ≤ 1000) (hi : i < l.length) :
    Calls Tryd.prog 26 #[.slice A l.length c, .int .i64 i, .int .i64 6] w fun e w' => e = .returned (.bool (brk l i 6)) ∧ Below w.heap.size w w' := by
  have hb0 : Below w.heap.size w w := Below.refl _ _
  have i0 : (0 : Int) ≤ i := by omega
  have i1 : (i : Int) < l.length := by omega
  have CF := Lib.hid (fun (x : ByteArray) W (q : Below w.heap.size w W) => DX.refFind_any l c x W ((hr.below q).more q.size) (by omega))
  obtain ⟨b, off, rfl, hbk, hc⟩ := obs_at hr (by omega)
  obtain ⟨c0, c1, c2, c3, c4, c5, c6, c7, c8, c9, c10, c11, c12, c13⟩ := hc i _ (List.getElem?_eq_getElem hi)
  have HB : Hid (brk l i 6 = brk6 l l[i]) := Lib.hid (by rw [brk_at hi]; simp)
  clear hr hc
  obtain ⟨r, hr⟩ : ∃ r, brk l i 6 = r := ⟨_, rfl⟩
  rw [hr]
  rw [hr] at HB
  clear hr
  generalize l[i] = o at *
  have CF : Hid (∀ W, Below w.heap.size w W → Calls Tryd.prog 43 #[.slice (some ⟨b, off, none⟩) l.length c, .string o.ref] W fun e w' => e = .returned (.tuple #[ob (obO (findO l (rb o))), .bool (findO l (rb o)).isSome]) ∧ Below W.heap.size W w') := Lib.hid (CF.out o.ref)
  have HV0 : Hid (r = (decide (o.kind = 8) && (decide (o.low < (obO (findO l (rb o))).lo) || decide ((obO (findO l (rb o))).hi < o.high)))) := Lib.hid HB.out
  generalize (findO l (rb o)).isSome = bb at *
  generalize obO (findO l (rb o)) = t at *
  have M1 := Lib.hid (AtC.new w (obCells o) 31)
  have mc := M1.out.c
  have B1 := Lib.hid (bAl hb0 (.cells (obCells o) 31))
  clear HB
  by_cases h8 : o.kind = 8
  · have i8 : ((o.kind : Int) == 8) = true := by simp; omega
    by_cases h1 : o.low < t.lo
    · have HV : Hid (r = true) := Lib.hid (by rw [HV0.out]; simp [h8, h1])
      have j1 : decide (o.low < t.lo) = true := decide_eq_true h1
      clear h8 HV0
      go_enter Tryd.func26, Tryd.ntmps26
      go_wp2_with (go_at_call 43; ((with_reducible refine (CF.out _ B1.out).mono ?_); rintro e w2 ⟨rfl, k2⟩; have m2 := ((M1.out.then k2).al (.cells (obCells t) 31)).c; have mt := (AtC.new w2 (obCells t) 31).c))
      go_ret
      exact ⟨by rw [HV.out]; rfl, bAl (bThen B1.out k2) _⟩
    · have HV : Hid (r = decide (t.hi < o.high)) := Lib.hid (by rw [HV0.out]; simp [h8, h1])
      have j1 : decide (o.low < t.lo) = false := decide_eq_false h1
      clear h8 HV0
      go_enter Tryd.func26, Tryd.ntmps26
      go_wp2_with (go_at_call 43; ((with_reducible refine (CF.out _ B1.out).mono ?_); rintro e w2 ⟨rfl, k2⟩; have m2 := ((M1.out.then k2).al (.cells (obCells t) 31)).c; have mt := (AtC.new w2 (obCells t) 31).c))
      go_ret
      exact ⟨by rw [HV.out]; rfl, bAl (bThen B1.out k2) _⟩
  · have i8 : ((o.kind : Int) == 8) = false := by simp; omega
    have HV : Hid (r = false) := Lib.hid (by rw [HV0.out]; simp [h8])
    clear h8 HV0
    go_enter Tryd.func26, Tryd.ntmps26
    go_wp2_with (go_at_call 43; ((with_reducible refine (CF.out _ B1.out).mono ?_); rintro e w2 ⟨rfl, k2⟩; have m2 := ((M1.out.then k2).al (.cells (obCells t) 31)).c; have mt := (AtC.new w2 (obCells t) 31).c))
    go_ret
    exact ⟨by rw [HV.out]; rfl, bAl (bThen B1.out k2) _⟩
end Go.Proofs.YthlalmoapbdccaaDoor.WX
/-
  WALK: the document's breaks by rule 7; all rules; Broken, Check.
-/
namespace Go.Proofs.YthlalmoapbdccaaDoor.WX
open Go.RowKit HL
open IX (ptr El cellsK cellsK_at OwnK RdK strK)
open TX (Ext wp_region_ext ext_below ext_same)
set_option maxRecDepth 100000
set_option linter.unusedVariables false
set_option linter.unusedSimpArgs false

def other (l : List Ob) (o : Ob) (i k : Nat) : Bool := match l[k]? with
  | some x => (k != i) && twin o x
  | none => false
theorem other_at {l : List Ob} {o : Ob} {i k : Nat} (hk : k < l.length) : other l o i k = ((k != i) && twin o l[k]) := by unfold other; rw [List.getElem?_eq_getElem hk]
theorem prev7 {p : Nat → Bool} {k : Nat} (h : ∀ j, j < k → p j = false) (hk : p k = false) : ∀ j, j < k + 1 → p j = false := fun j hj => by
  rcases Nat.lt_succ_iff_lt_or_eq.1 hj with q | rfl
  · exact h j q
  · exact hk
theorem pb_ne {x o : Ob} (h : x.parent ≠ o.parent) : pb x ≠ pb o := fun e => h (bs_eq e)
set_option maxHeartbeats 16000000 in
theorem breaks_7 {A : Option Addr} (l : List Ob) (c i : Nat) (w : World) (hr : RdK obK w w.heap.size A l) (hl : l.length ≤ 1000) (hi : i < l.length) :
    Calls Tryd.prog 26 #[.slice A l.length c, .int .i64 i, .int .i64 7] w fun e w' => e = .returned (.bool (brk l i 7)) ∧ Below w.heap.size w w' := by
  have hb0 : Below w.heap.size w w := Below.refl _ _
  have i0 : (0 : Int) ≤ i := by omega
  have i1 : (i : Int) < l.length := by omega
  obtain ⟨b, off, rfl, hbk, hc⟩ := obs_at hr (by omega)
  obtain ⟨c0, c1, c2, c3, c4, c5, c6, c7, c8, c9, c10, c11, c12, c13⟩ := hc i _ (List.getElem?_eq_getElem hi)
  have HB : Hid (brk l i 7 = ((l[i].kind == 9) && (l[i].assoc == 2) && (List.range l.length).any (other l l[i] i))) := Lib.hid (by rw [brk_at hi]; rfl)
  have HR := Lib.hid hr
  clear hr hc
  obtain ⟨r, hr⟩ : ∃ r, brk l i 7 = r := ⟨_, rfl⟩
  rw [hr]
  rw [hr] at HB
  clear hr
  generalize l[i] = o at *
  have M1 := Lib.hid (AtC.new w (obCells o) 31)
  have mc := M1.out.c
  have B1 := Lib.hid (bAl hb0 (.cells (obCells o) 31))
  by_cases h9 : o.kind = 9 ∧ o.assoc = 2
  · have i9 : ((o.kind : Int) == 9) = true := by simp; omega
    have i2 : ((o.assoc : Int) == 2) = true := by simp; omega
    have HV0 : Hid (r = (List.range l.length).any (other l o i)) := Lib.hid (by rw [HB.out, h9.1, h9.2]; simp)
    clear h9 HB
    go_enter Tryd.func26, Tryd.ntmps26
    go_wp2
    go_loopw [13] (fun v wr => ∃ k : Nat, v = .int .i64 k ∧ k ≤ l.length ∧ Hid (∀ j, j < k → other l o i j = false) ∧ Below (w.alloc (.cells (obCells o) 31)).heap.size (w.alloc (.cells (obCells o) 31)) wr) (fun v _ => l.length - (intOf v).toNat)
    case atStart => exact ⟨0, rfl, Nat.zero_le _, Lib.hid (fun j hj => absurd hj (Nat.not_lt_zero _)), Below.refl _ _⟩
    case round =>
      obtain ⟨k, rfl, hk, HN, k1⟩ := hrel
      have K1 := Lib.hid k1
      have mo1 := (M1.out.then k1).c
      by_cases hlt : k < l.length
      · have j1 : (k : Int) < l.length := by omega
        have j0 : (0 : Int) ≤ k := by omega
        obtain ⟨b', off', e', hbk', hc'⟩ := obs_at (HR.out.below (bThen B1.out k1)) (by omega)
        injection e' with e'
        injection e' with e1 e2
        subst e1 e2
        obtain ⟨d0, d1, d2, d3, d4, d5, d6, d7, d8, d9, d10, d11, d12, d13⟩ := hc' k _ (List.getElem?_eq_getElem hlt)
        have HO := Lib.hid (other_at (o := o) (i := i) hlt)
        have mo := ((M1.out.then k1).al (.cells (obCells l[k]) 31)).c
        have mx := (AtC.new wr (obCells l[k]) 31).c
        have HT : Hid (other l o i k = true → r = true) := Lib.hid (fun q => by rw [HV0.out]; exact List.any_eq_true.2 ⟨k, List.mem_range.2 hlt, q⟩)
        clear hc' k1 hbk'
        generalize l[k] = x at *
        by_cases q0 : k ≠ i
        · have t1 : ((k : Int) != (i : Int)) = true := by simp; omega
          by_cases q1 : x.kind = 9
          · have t2 : ((x.kind : Int) == 9) = true := by simp; omega
            by_cases q2 : x.assoc = 2
            · have t3 : ((x.assoc : Int) == 2) = true := by simp; omega
              by_cases q3 : x.parent = o.parent
              · have t4 : (x.parent.toList == o.parent.toList) = true := by rw [q3]; simp
                by_cases q4 : x.typ = o.typ
                · have t5 : ((x.typ : Int) == (o.typ : Int)) = true := by simp; omega
                  have HVT := Lib.hid (HT.out (by rw [HO.out]; simp [twin, q0, q1, q2, q3, q4]))
                  clear q0 q1 q2 q3 q4
                  go_wp2
                  go_ret
                  exact ⟨by rw [HVT.out]; rfl, bAl (bThen B1.out K1.out) _⟩
                · have t5 : ((x.typ : Int) == (o.typ : Int)) = false := by simp; omega
                  have HN2 := Lib.hid (prev7 HN.out (by rw [HO.out]; simp [twin, q4]))
                  clear q0 q1 q2 q3 q4
                  go_wp2
                  go_roundw
                  case rel => exact ⟨k + 1, by go_num, by omega, HN2, bAl K1.out _⟩
                  case measure => simp [intOf]; omega
              · have t4 : (x.parent.toList == o.parent.toList) = false := tl_ne q3
                have q3' := pb_ne q3
                have HN2 := Lib.hid (prev7 HN.out (by rw [HO.out]; simp [twin, q3']))
                clear q0 q1 q2 q3 q3'
                go_wp2
                go_roundw
                case rel => exact ⟨k + 1, by go_num, by omega, HN2, bAl K1.out _⟩
                case measure => simp [intOf]; omega
            · have t3 : ((x.assoc : Int) == 2) = false := by simp; omega
              have HN2 := Lib.hid (prev7 HN.out (by rw [HO.out]; simp [twin, q2]))
              clear q0 q1 q2
              go_wp2
              go_roundw
              case rel => exact ⟨k + 1, by go_num, by omega, HN2, bAl K1.out _⟩
              case measure => simp [intOf]; omega
          · have t2 : ((x.kind : Int) == 9) = false := by simp; omega
            have HN2 := Lib.hid (prev7 HN.out (by rw [HO.out]; simp [twin, q1]))
            clear q0 q1
            go_wp2
            go_roundw
            case rel => exact ⟨k + 1, by go_num, by omega, HN2, bAl K1.out _⟩
            case measure => simp [intOf]; omega
        · have t1 : ((k : Int) != (i : Int)) = false := by simp; omega
          have HN2 := Lib.hid (prev7 HN.out (by rw [HO.out]; simp [twin, q0]))
          clear q0
          go_wp2
          go_roundw
          case rel => exact ⟨k + 1, by go_num, by omega, HN2, bAl K1.out _⟩
          case measure => simp [intOf]; omega
      · obtain rfl : k = l.length := by omega
        have j1 : ¬ (l.length : Int) < l.length := by omega
        have HV : Hid (r = false) := Lib.hid (by rw [HV0.out]; exact List.any_eq_false.2 fun j hj => by rw [HN.out j (List.mem_range.1 hj)]; simp)
        go_wp2
        go_ret
        exact ⟨by rw [HV.out]; rfl, bThen B1.out k1⟩
  · have HV : Hid (r = false) := Lib.hid (by
      rw [HB.out]
      by_cases q : o.kind = 9
      · have q2 : o.assoc ≠ 2 := fun e => h9 ⟨q, e⟩
        simp [q2]
      · simp [q])
    have hlt : 0 < l.length := by omega
    have i3 : (0 : Int) < l.length := by omega
    clear HB
    by_cases q : o.kind = 9
    · have i9 : ((o.kind : Int) == 9) = true := by simp; omega
      have i2 : ((o.assoc : Int) == 2) = false := by
        have q2 : o.assoc ≠ 2 := fun e => h9 ⟨q, e⟩
        simp; omega
      clear h9 q
      go_enter Tryd.func26, Tryd.ntmps26
      go_wp2
      refine wp_loop_rounds 1 ?_
      rw [rounds_succ]
      go_wp2
      go_ret
      exact ⟨by rw [HV.out]; rfl, B1.out⟩
    · have i9 : ((o.kind : Int) == 9) = false := by simp; omega
      clear h9 q
      go_enter Tryd.func26, Tryd.ntmps26
      go_wp2
      refine wp_loop_rounds 1 ?_
      rw [rounds_succ]
      go_wp2
      go_ret
      exact ⟨by rw [HV.out]; rfl, B1.out⟩
end Go.Proofs.YthlalmoapbdccaaDoor.WX
/-
  WALKS: the document's Broken and Check: the program's verdict.
-/
namespace Go.Proofs.YthlalmoapbdccaaDoor.WX
open Go.RowKit HL
open IX (ptr El cellsK cellsK_at OwnK RdK strK)
open TX (Ext wp_region_ext ext_below ext_same)
set_option maxRecDepth 100000
set_option linter.unusedVariables false
set_option linter.unusedSimpArgs false

def errR (r : Nat) : Int := match r with | 2 => 71 | 3 => 50 | 4 => 51 | 5 => 90 | 6 => 91 | _ => 92
noncomputable def brkN (l : List Ob) : Nat → Nat → Nat × Int
  | 0, _ => (0, 0)
  | n + 1, r => if anyR l r = true then (r, errR r) else brkN l n (r + 1)
theorem brkN_R (l : List Ob) : brokenR l = if (fltK l l.length).2 ≠ 0 then (1, (fltK l l.length).2) else brkN l 6 2 := rfl
theorem any_t {l : List Ob} {i r : Nat} (hi : i < l.length) (h : brk l i r = true) : anyR l r = true := List.any_eq_true.2 ⟨i, List.mem_range.2 hi, h⟩
theorem any_f {l : List Ob} {r : Nat} (h : ∀ i, i < l.length → brk l i r = false) : anyR l r = false := List.any_eq_false.2 fun i hi => by rw [h i (List.mem_range.1 hi)]; simp
abbrev errC : Array Value := #[.int .i64 71, .int .i64 50, .int .i64 51, .int .i64 90, .int .i64 91, .int .i64 92]
theorem errC_at {r : Nat} (h2 : 2 ≤ r) (h8 : r < 8) : errC[r - 2]? = some (.int .i64 (errR r)) := by
  rcases (show r = 2 ∨ r = 3 ∨ r = 4 ∨ r = 5 ∨ r = 6 ∨ r = 7 by omega) with rfl | rfl | rfl | rfl | rfl | rfl <;> rfl
theorem breaks_any {A : Option Addr} (l : List Ob) (c i r : Nat) (w : World) (hr : RdK obK w w.heap.size A l) (hl : l.length ≤ 1000) (hi : i < l.length) (hk : ∀ o ∈ l, o.kind ≤ 255) (h2 : 2 ≤ r) (h8 : r < 8) :
    Calls Tryd.prog 26 #[.slice A l.length c, .int .i64 i, .int .i64 r] w fun e w' => e = .returned (.bool (brk l i r)) ∧ Below w.heap.size w w' := by
  rcases (show r = 2 ∨ r = 3 ∨ r = 4 ∨ r = 5 ∨ r = 6 ∨ r = 7 by omega) with rfl | rfl | rfl | rfl | rfl | rfl
  · exact breaks_2 l c i w hr hl hi
  · exact breaks_3 l c i w hr hl hi hk
  · exact breaks_4 l c i w hr hl hi
  · exact breaks_5 l c i w hr hl hi hk
  · exact breaks_6 l c i w hr hl hi
  · exact breaks_7 l c i w hr hl hi
set_option maxHeartbeats 16000000 in
theorem refBroken_any {A : Option Addr} (l : List Ob) (c : Nat) (w : World) (hr : RdK obK w w.heap.size A l) (h : MeetsL l w) :
    Calls Tryd.prog 10 #[.slice A l.length c] w fun e w' => e = .returned (.tuple #[.int .i64 ((brokenR l).1 : Nat), .int .i64 (brokenR l).2]) ∧ Below w.heap.size w w' := by
  have CO := Lib.hid (refOwn_any l c w hr h.len h.o)
  have hl := h.len
  have CB := Lib.hid (fun i r W (q : Below w.heap.size w W) hi h2 h8 => breaks_any l c i r W ((hr.below q).more q.size) h.len hi (fun o ho => (h.o o ho).kind) h2 h8)
  clear hr h
  obtain ⟨res, hres⟩ : ∃ r, brokenR l = r := ⟨_, rfl⟩
  rw [hres]
  rw [brkN_R] at hres
  by_cases he : (fltK l l.length).2 ≠ 0
  · rw [if_pos he] at hres
    have HV := Lib.hid hres
    have g0 : ((fltK l l.length).2 != 0) = true := by simpa using he
    clear hres he
    generalize (fltK l l.length).2 = e at *
    go_enter Tryd.func10, Tryd.ntmps10
    go_wp2_with (go_at_call 25; ((with_reducible refine CO.out.mono ?_); rintro e w1 ⟨rfl, k1⟩))
    go_ret2
    exact ⟨by rw [← HV.out]; rfl, k1⟩
  · rw [if_neg he] at hres
    have HRES := Lib.hid hres
    have e0 : (fltK l l.length).2 = 0 := Classical.not_not.1 he
    rw [e0] at CO
    clear hres he e0
    go_enter Tryd.func10, Tryd.ntmps10
    go_wp2_with (go_at_call 25; ((with_reducible refine CO.out.mono ?_); rintro e w1 ⟨rfl, k1⟩; have K1 := Lib.hid (bAl k1 (.cells errC 3)); have ME := Lib.hid (AtC.new w1 errC 3)))
    go_loopw [6] (fun v wr => ∃ r : Nat, v = .int .i64 r ∧ 2 ≤ r ∧ r ≤ 8 ∧ Hid (brkN l (8 - r) r = res) ∧ Below (w1.alloc (.cells errC 3)).heap.size (w1.alloc (.cells errC 3)) wr) (fun v _ => 8 - (intOf v).toNat)
    case atStart => exact ⟨2, rfl, by omega, by omega, HRES, Below.refl _ _⟩
    case round =>
      obtain ⟨r, rfl, h2, h8, hv, k2⟩ := hrel
      have K2 := Lib.hid k2
      by_cases hlt : r < 8
      · have i1 : (r : Int) < 8 := by omega
        have HS : Hid (res = if anyR l r = true then (r, errR r) else brkN l (8 - (r + 1)) (r + 1)) := Lib.hid (by
          have := hv.out
          rw [show 8 - r = (8 - (r + 1)) + 1 by omega] at this
          exact this.symm)
        clear hv HRES k2
        go_wp2
        go_loopw [7] (fun v wr => ∃ k : Nat, v = .int .i64 k ∧ k ≤ l.length ∧ Hid (∀ i, i < k → brk l i r = false) ∧ Below (w1.alloc (.cells errC 3)).heap.size (w1.alloc (.cells errC 3)) wr) (fun v _ => l.length - (intOf v).toNat)
        case atStart => exact ⟨0, rfl, Nat.zero_le _, Lib.hid (fun j hj => absurd hj (Nat.not_lt_zero _)), K2.out⟩
        case round =>
          obtain ⟨k, rfl, hk, HN, k3⟩ := hrel
          have K3 := Lib.hid k3
          by_cases hkl : k < l.length
          · have j1 : (k : Int) < l.length := by omega
            have CC := Lib.hid (CB.out k r wr (bThen K1.out k3) hkl h2 hlt)
            cases hb : brk l k r with
            | true =>
              rw [hb] at CC
              have HV : Hid (res = (r, errR r)) := Lib.hid (by rw [HS.out, if_pos (any_t hkl hb)])
              have f1 : IntKind.i64.wrap ((r : Int) - 2) = (r : Int) - 2 := IntWalk.i64_in _ (by omega)
              have f2 : (0 : Int) ≤ (r : Int) - 2 := by omega
              have f3 : (r : Int) - 2 < 6 := by omega
              have f4 : ((r : Int) - 2).toNat = r - 2 := by omega
              have HE := Lib.hid (fun w4 (k4 : Below wr.heap.size wr w4) => show ∀ y : Ext w4, y.W.cell? ⟨w1.heap.size, r - 2, none⟩ = some (.int .i64 (errR r)) from fun y => (((ME.out.then K3.out).then (bThen k4 y.b)).c (r - 2)).trans (errC_at h2 hlt))
              clear hb k3 HS
              generalize errR r = er at *
              go_upto_region 12 with (go_at_call 26; ((with_reducible refine CC.out.mono ?_); rintro e w4 ⟨rfl, k4⟩; have e4 := HE.out _ k4; have K4 := Lib.hid (bThen (bThen K1.out K3.out) k4)))
              refine wp_region_ext (by kernel_rfl) (by kernel_rfl) ?_
              repeat (go_big_quiet_step (fail))
              refine wpQuiet_nil ?_
              rintro _ ⟨y, rfl⟩
              go_wp2
              go_ret2
              exact ⟨by rw [HV.out]; rfl, bThen K4.out y.b⟩
            | false =>
              rw [hb] at CC
              have HN2 := Lib.hid (prev7 HN.out hb)
              clear hb k3
              go_wp2_with (go_at_call 26; ((with_reducible refine CC.out.mono ?_); rintro e w4 ⟨rfl, k4⟩))
              go_roundw
              case rel => exact ⟨k + 1, by go_num, by omega, HN2, bThen K3.out k4⟩
              case measure => simp [intOf]; omega
          · obtain rfl : k = l.length := by omega
            have j1 : ¬ (l.length : Int) < l.length := by omega
            have HV : Hid (res = brkN l (8 - (r + 1)) (r + 1)) := Lib.hid (by rw [HS.out, if_neg (by rw [any_f HN.out]; simp)])
            clear HS
            go_wp2
            go_roundw
            case rel => exact ⟨r + 1, by go_num, by omega, by omega, Lib.hid HV.out.symm, k3⟩
            case measure => simp [intOf]; omega
      · obtain rfl : r = 8 := by omega
        have HV : Hid (res = (0, 0)) := Lib.hid hv.out.symm
        clear hv
        go_wp2
        go_ret2
        exact ⟨by rw [HV.out]; rfl, bThen K1.out k2⟩
set_option maxHeartbeats 4000000 in
theorem refCheck9_any {A : Option Addr} (l : List Ob) (c : Nat) (w : World) (hr : RdK obK w w.heap.size A l) (h : MeetsL l w) :
    Calls Tryd.prog 16 #[.slice A l.length c] w fun e w' => e = .returned (.int .i64 (brokenR l).2) ∧ Below w.heap.size w w' := by
  have CC := Lib.hid (refBroken_any l c w hr h)
  clear hr h
  generalize brokenR l = r at *
  go_enter Tryd.func16, Tryd.ntmps16
  go_wp2_with (go_at_call 10; ((with_reducible refine CC.out.mono ?_); rintro e w4 ⟨rfl, k4⟩))
  go_ret
  exact ⟨rfl, k4⟩
end Go.Proofs.YthlalmoapbdccaaDoor.WX
