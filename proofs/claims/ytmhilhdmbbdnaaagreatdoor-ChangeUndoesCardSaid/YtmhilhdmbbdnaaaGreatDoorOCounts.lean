/-
  WALKS: an object's range; whether an object's numbers may be, whether its ranges are in order, whether its Parent and Ref are handles.
-/
import Derived.Test.YtmhilhdmbbdnaaaGreatDoorOMask
import Derived.Test.YtmhilhdmbbdnaaaGreatDoorOOpen
import Derived.Test.YtmhilhdmbbdnaaaGreatDoorOKit2
import Derived.Test.YtmhilhdmbbdnaaaGreatDoorSMay
import Derived.Test.YtmhilhdmbbdnaaaGreatDoorHMay
import Derived.Test.YtmhilhdmbbdnaaaGreatDoorORefWord
import Derived.Laws.BitsAllLaws
namespace Go.Proofs.YtmhilhdmbbdnaaaGreatDoor
open Go.RowKit
set_option maxRecDepth 100000
set_option linter.unusedVariables false

theorem rangeOf_any (o : Ob) (w : World) : Calls Tryz.prog 66 #[ob o] w fun e w' => e = .returned (sp o.lo o.hi) ∧ Below w.heap.size w w' := by
  have hb : Below w.heap.size w w := Below.refl _ _
  go_enter Tryz.func66, Tryz.ntmps66
  go_wp2
  exact ret_row rfl rfl rfl (AtC.newAt (by simp)) (Tryz.isAgg80 _) (Tryz.sizeOf80 _) ⟨rfl, bAl (bAl hb _) _⟩
theorem notMay_any (n : Int) (w : World) : Calls Tryz.prog 83 #[.int .i64 n] w fun e w' => e = .returned (.bool (!mayB n)) ∧ w = w' := by
  have CM := fun W => Lib.hid (may_any n W)
  go_enter Tryz.func83, Tryz.ntmps83
  go_wp2_with (go_at_call 84; ((with_reducible refine (CM _).out.mono ?_); rintro e w1 ⟨rfl, rfl⟩))
  go_ret
  exact ⟨rfl, rfl⟩
def firstBad (l : List Int) : Nat := l.findIdx fun n => !mayB n
set_option maxHeartbeats 4000000 in
theorem indexNotMay_any (B : Nat) (l : List Int) (w : World) (hl : l.length ≤ 100) (h : ∀ j n, l[j]? = some n → w.cell? ⟨B, j, none⟩ = some (.int .i64 n)) (hB : B < w.heap.size) :
    Calls Tryz.prog 97 #[.slice (some ⟨B, 0, none⟩) l.length l.length, .func (.func 83) #[] #[]] w fun e w' => (∃ i : Int, e = .returned (.int .i64 i) ∧ (0 ≤ i ↔ ∃ n ∈ l, mayB n = false)) ∧ w = w' := by
  have CN := fun n W => Lib.hid (notMay_any n W)
  have H := Lib.hid h
  clear h
  go_enter Tryz.func97, Tryz.ntmps97
  go_wp2
  go_loop [8] (fun i => ∃ k : Nat, i = .int .i64 k ∧ k ≤ l.length ∧ Hid (∀ n ∈ l.take k, mayB n = true)) (fun i => l.length - (intOf i).toNat)
  case atStart => exact ⟨0, rfl, by omega, Lib.hid (by simp)⟩
  case round =>
    obtain ⟨k, rfl, hk, HT⟩ := hrel
    by_cases hlt : k < l.length
    · have hc := H.out k _ (List.getElem?_eq_getElem hlt)
      have HA : Hid (∀ n ∈ l.take (k + 1), n ∈ l.take k ∨ n = l[k]) := Lib.hid (fun n hn => by rw [List.take_succ_eq_append_getElem hlt] at hn; exact (List.mem_append.1 hn).imp_right List.mem_singleton.1)
      have HI : Hid (l[k] ∈ l) := Lib.hid (List.getElem_mem hlt)
      generalize l[k] = n at *
      have CM := fun W => CN n W
      cases hm : mayB n with
      | true =>
        rw [hm] at CM
        go_wp2_with (go_at_call 83; ((with_reducible refine (CM _).out.mono ?_); rintro e w1 ⟨rfl, rfl⟩))
        go_round
        case rel => exact ⟨k + 1, by go_num, by omega, Lib.hid (fun x hx => (HA.out x hx).elim (HT.out x) (fun e => e ▸ hm))⟩
        case measure => simp [intOf]; omega
      | false =>
        rw [hm] at CM
        go_wp2_with (go_at_call 83; ((with_reducible refine (CM _).out.mono ?_); rintro e w1 ⟨rfl, rfl⟩))
        go_ret
        exact ⟨⟨_, rfl, ⟨fun _ => ⟨n, HI.out, hm⟩, fun _ => by omega⟩⟩, rfl⟩
    · obtain rfl : k = l.length := by omega
      go_wp2
      go_ret
      refine ⟨⟨-1, rfl, ⟨fun h => by omega, fun ⟨n, hn, hm⟩ => ?_⟩⟩, rfl⟩
      rw [List.take_length] at HT
      rw [HT.out n hn] at hm; cases hm
theorem containsNotMay_any (B : Nat) (l : List Int) (w : World) (v : Bool) (hv : v = true ↔ ∃ n ∈ l, mayB n = false) (hl : l.length ≤ 100) (h : ∀ j n, l[j]? = some n → w.cell? ⟨B, j, none⟩ = some (.int .i64 n)) (hB : B < w.heap.size) :
    Calls Tryz.prog 82 #[.slice (some ⟨B, 0, none⟩) l.length l.length, .func (.func 83) #[] #[]] w fun e w' => e = .returned (.bool v) ∧ w = w' := by
  have C := Lib.hid (indexNotMay_any B l w hl h hB)
  have HV := Lib.hid hv
  clear h hv
  go_enter Tryz.func82, Tryz.ntmps82
  go_wp2_with fail
  go_at_call 97
  with_reducible refine C.out.mono ?_
  rintro e w1 ⟨⟨i, rfl, hi⟩, rfl⟩
  have HI := Lib.hid hi
  clear hi
  go_wp2_with fail
  go_ret
  refine ⟨?_, rfl⟩
  have h1 := HI.out
  have h2 := HV.out
  cases v
  · have : ¬ 0 ≤ i := fun k => by simpa using h2.2 (h1.1 k)
    simp; omega
  · have := h1.2 (h2.1 rfl)
    simp; omega
def countsObB (o : Ob) : Bool := mayB o.lo && mayB o.hi && mayB o.value && mayB o.low && mayB o.high && decide (o.digits ≤ 6) && (o.has || o.value == 0)
def anyBad (o : Ob) : Bool := !(mayB o.lo && mayB o.hi && mayB o.value && mayB o.low && mayB o.high)
theorem anyBad_iff (o : Ob) : anyBad o = true ↔ ∃ n ∈ [o.lo, o.hi, o.value, o.low, o.high], mayB n = false := by
  simp [anyBad]
  cases mayB o.lo <;> cases mayB o.hi <;> cases mayB o.value <;> cases mayB o.low <;> cases mayB o.high <;> simp
set_option maxHeartbeats 4000000 in
theorem countsOb_any (o : Ob) (w : World) : Calls Tryz.prog 64 #[ob o] w fun e w' => e = .returned (.bool (countsObB o)) ∧ Below w.heap.size w w' := by
  have hb : Below w.heap.size w w := Below.refl _ _
  have HV : Hid (countsObB o = (!anyBad o && decide ((o.digits : Int) ≤ 6) && (o.has || o.value == 0))) := Lib.hid (by
    have : decide (o.digits ≤ 6) = decide ((o.digits : Int) ≤ 6) := by by_cases h : o.digits ≤ 6 <;> simp <;> omega
    simp [countsObB, anyBad, this])
  have hx : ∀ j n, [o.lo, o.hi, o.value, o.low, o.high][j]? = some n → ((w.alloc (.cells (obCells o) 35)).alloc (.cells #[.int .i64 o.lo, .int .i64 o.hi, .int .i64 o.value, .int .i64 o.low, .int .i64 o.high] 93)).cell? ⟨w.heap.size + 1, j, none⟩ = some (.int .i64 n) := fun j n hn => by
    rw [(AtC.newAt (w := w.alloc (.cells (obCells o) 35)) (T := 93) (C := #[.int .i64 o.lo, .int .i64 o.hi, .int .i64 o.value, .int .i64 o.low, .int .i64 o.high]) (B := w.heap.size + 1) (by simp)).c j]
    rcases j with _ | _ | _ | _ | _ | j <;> simp at hn ⊢ <;> exact hn
  have C : Hid (Calls Tryz.prog 82 #[.slice (some ⟨w.heap.size + 1, 0, none⟩) 5 5, .func (.func 83) #[] #[]] _ fun e w' => e = .returned (.bool (anyBad o)) ∧ _ = w') := Lib.hid (containsNotMay_any (w.heap.size + 1) [o.lo, o.hi, o.value, o.low, o.high] _ (anyBad o) (anyBad_iff o) (by simp) hx (by simp))
  clear hx
  generalize anyBad o = b at *
  go_enter Tryz.func64, Tryz.ntmps64
  go_wp2_with fail
  go_at_call 82
  with_reducible refine C.out.mono ?_
  rintro e w1 ⟨rfl, rfl⟩
  go_wp2_with fail
  all_goals
    go_ret
    refine ⟨?_, bAl (bAl hb _) _⟩
    rw [HV.out]
    clear HV C
    show Ending.returned (Value.bool _) = _
    congr 2
    first | (simp [*]; done) | grind
def orderedB (o : Ob) : Bool := spanE o.lo o.hi == 0 && spanE o.low o.high == 0
set_option maxHeartbeats 4000000 in
theorem ordered_any (o : Ob) (w : World) : Calls Tryz.prog 65 #[ob o] w fun e w' => e = .returned (.bool (orderedB o)) ∧ Below w.heap.size w w' := by
  have hb : Below w.heap.size w w := Below.refl _ _
  have CR := fun W => Lib.hid (rangeOf_any o W)
  have C1 := fun W => Lib.hid (spanMay_any o.lo o.hi W)
  have C2 := fun W => Lib.hid (spanMay_any o.low o.high W)
  have HV : Hid (orderedB o = (spanE o.lo o.hi == 0 && spanE o.low o.high == 0)) := Lib.hid rfl
  generalize spanE o.lo o.hi = a at *
  generalize spanE o.low o.high = b at *
  go_enter Tryz.func65, Tryz.ntmps65
  go_wp2_with fail
  go_at_call 66
  with_reducible refine (CR _).out.mono ?_
  rintro e w1 ⟨rfl, k1⟩
  replace hb := bThen (bAl hb _) k1
  have mO := (AtC.new _ _ _).then k1
  go_wp2_with fail
  go_at_call 85
  with_reducible refine (C1 _).out.mono ?_
  rintro e w2 ⟨rfl, k2⟩
  replace hb := bThen hb k2
  replace mO := mO.then k2
  have oc := mO.c
  by_cases ha : a = 0
  · subst ha
    go_wp2_with (go_at_call 85; ((with_reducible refine (C2 _).out.mono ?_); rintro e w3 ⟨rfl, k3⟩; replace hb := bThen hb k3))
    go_ret
    exact ⟨by rw [HV.out]; rfl, hb⟩
  · go_wp2_with fail
    go_ret
    exact ⟨by rw [HV.out]; show Ending.returned (Value.bool _) = _; congr 2; simp [ha], hb⟩
noncomputable def namedB (o : Ob) : Bool := (decide (o.kind = 1) || HL.mayB o.parent) && (!refersB o.kind || HL.mayB o.ref)
set_option maxHeartbeats 8000000 in
theorem named_any (o : Ob) (w : World) (hk : kindB o.kind = true) (hkd : Kinds w) (z2 : o.parent.size ≤ maxLen) (z3 : o.ref.size ≤ maxLen) : Calls Tryz.prog 63 #[ob o] w fun e w' => e = .returned (.bool (namedB o)) ∧ Below w.heap.size w w' := by
  have hb : Below w.heap.size w w := Below.refl _ _
  have C1 := fun W => Lib.hid (HL.may_any o.parent W z2)
  have C2 := fun W => Lib.hid (HL.may_any o.ref W z3)
  have h1 := of_decide_eq_true hk
  clear hk z2 z3
  have hkw := hkd.1
  obtain ⟨xh, k, xp, xt, xr, xlo, xhi, xd, xon, xhas, xv, xlw, xhg, xa⟩ := o
  have hq := hkd.2 k (by dsimp only at h1; omega)
  clear hkd
  dsimp only at h1 C1 C2 ⊢
  unfold namedB
  dsimp only
  generalize HL.mayB xp = b1 at *
  generalize HL.mayB xr = b2 at *
  rcases (show k = 1 ∨ k = 2 ∨ k = 3 ∨ k = 4 ∨ k = 5 ∨ k = 6 ∨ k = 7 ∨ k = 8 ∨ k = 9 by omega) with rfl | rfl | rfl | rfl | rfl | rfl | rfl | rfl | rfl
  · have a1 : bits BinOp.and IntKind.u16 0 1 = 0 := by decide +kernel
    have a2 : bits BinOp.and IntKind.u16 0 4 = 0 := by decide +kernel
    have hq2 : w.cell? ⟨0, 1, none⟩ = some (.int .u16 0) := hq
    have hV : Hid (((decide ((1 : Nat) = 1) || b1) && (!refersB 1 || b2)) = (true && true)) := Lib.hid (by simp [refersB])
    rw [hV.out]
    clear hq hV
    cases b1 <;> cases b2
    all_goals
      go_enter Tryz.func63, Tryz.ntmps63
      go_wp2_with (go_at_call 62; (first | ((with_reducible refine (C1 _).out.mono ?_); rintro e w1 ⟨rfl, k1⟩; have hb1 := bThen (bAl hb _) k1; have m1 := (AtC.new _ _ _).then k1; have oc1 := m1.c) | ((with_reducible refine (C2 _).out.mono ?_); rintro e w2 ⟨rfl, k2⟩; have hb2 := bThen hb1 k2)))
      go_ret
      exact ⟨rfl, by first | exact hb2 | exact hb1 | exact bAl hb _⟩
  · have a1 : bits BinOp.and IntKind.u16 1 1 = 1 := by decide +kernel
    have a2 : bits BinOp.and IntKind.u16 1 4 = 0 := by decide +kernel
    have hq2 : w.cell? ⟨0, 2, none⟩ = some (.int .u16 1) := hq
    have hV : Hid (((decide ((2 : Nat) = 1) || b1) && (!refersB 2 || b2)) = (b1 && true)) := Lib.hid (by simp [refersB])
    rw [hV.out]
    clear hq hV
    cases b1 <;> cases b2
    all_goals
      go_enter Tryz.func63, Tryz.ntmps63
      go_wp2_with (go_at_call 62; (first | ((with_reducible refine (C1 _).out.mono ?_); rintro e w1 ⟨rfl, k1⟩; have hb1 := bThen (bAl hb _) k1; have m1 := (AtC.new _ _ _).then k1; have oc1 := m1.c) | ((with_reducible refine (C2 _).out.mono ?_); rintro e w2 ⟨rfl, k2⟩; have hb2 := bThen hb1 k2)))
      go_ret
      exact ⟨rfl, by first | exact hb2 | exact hb1 | exact bAl hb _⟩
  · have a1 : bits BinOp.and IntKind.u16 1 1 = 1 := by decide +kernel
    have a2 : bits BinOp.and IntKind.u16 1 4 = 0 := by decide +kernel
    have hq2 : w.cell? ⟨0, 3, none⟩ = some (.int .u16 1) := hq
    have hV : Hid (((decide ((3 : Nat) = 1) || b1) && (!refersB 3 || b2)) = (b1 && true)) := Lib.hid (by simp [refersB])
    rw [hV.out]
    clear hq hV
    cases b1 <;> cases b2
    all_goals
      go_enter Tryz.func63, Tryz.ntmps63
      go_wp2_with (go_at_call 62; (first | ((with_reducible refine (C1 _).out.mono ?_); rintro e w1 ⟨rfl, k1⟩; have hb1 := bThen (bAl hb _) k1; have m1 := (AtC.new _ _ _).then k1; have oc1 := m1.c) | ((with_reducible refine (C2 _).out.mono ?_); rintro e w2 ⟨rfl, k2⟩; have hb2 := bThen hb1 k2)))
      go_ret
      exact ⟨rfl, by first | exact hb2 | exact hb1 | exact bAl hb _⟩
  · have a1 : bits BinOp.and IntKind.u16 441 1 = 1 := by decide +kernel
    have a2 : bits BinOp.and IntKind.u16 441 4 = 0 := by decide +kernel
    have hq2 : w.cell? ⟨0, 4, none⟩ = some (.int .u16 441) := hq
    have hV : Hid (((decide ((4 : Nat) = 1) || b1) && (!refersB 4 || b2)) = (b1 && true)) := Lib.hid (by simp [refersB])
    rw [hV.out]
    clear hq hV
    cases b1 <;> cases b2
    all_goals
      go_enter Tryz.func63, Tryz.ntmps63
      go_wp2_with (go_at_call 62; (first | ((with_reducible refine (C1 _).out.mono ?_); rintro e w1 ⟨rfl, k1⟩; have hb1 := bThen (bAl hb _) k1; have m1 := (AtC.new _ _ _).then k1; have oc1 := m1.c) | ((with_reducible refine (C2 _).out.mono ?_); rintro e w2 ⟨rfl, k2⟩; have hb2 := bThen hb1 k2)))
      go_ret
      exact ⟨rfl, by first | exact hb2 | exact hb1 | exact bAl hb _⟩
  · have a1 : bits BinOp.and IntKind.u16 65 1 = 1 := by decide +kernel
    have a2 : bits BinOp.and IntKind.u16 65 4 = 0 := by decide +kernel
    have hq2 : w.cell? ⟨0, 5, none⟩ = some (.int .u16 65) := hq
    have hV : Hid (((decide ((5 : Nat) = 1) || b1) && (!refersB 5 || b2)) = (b1 && true)) := Lib.hid (by simp [refersB])
    rw [hV.out]
    clear hq hV
    cases b1 <;> cases b2
    all_goals
      go_enter Tryz.func63, Tryz.ntmps63
      go_wp2_with (go_at_call 62; (first | ((with_reducible refine (C1 _).out.mono ?_); rintro e w1 ⟨rfl, k1⟩; have hb1 := bThen (bAl hb _) k1; have m1 := (AtC.new _ _ _).then k1; have oc1 := m1.c) | ((with_reducible refine (C2 _).out.mono ?_); rintro e w2 ⟨rfl, k2⟩; have hb2 := bThen hb1 k2)))
      go_ret
      exact ⟨rfl, by first | exact hb2 | exact hb1 | exact bAl hb _⟩
  · have a1 : bits BinOp.and IntKind.u16 71 1 = 1 := by decide +kernel
    have a2 : bits BinOp.and IntKind.u16 71 4 = 4 := by decide +kernel
    have hq2 : w.cell? ⟨0, 6, none⟩ = some (.int .u16 71) := hq
    have hV : Hid (((decide ((6 : Nat) = 1) || b1) && (!refersB 6 || b2)) = (b1 && b2)) := Lib.hid (by simp [refersB])
    rw [hV.out]
    clear hq hV
    cases b1 <;> cases b2
    all_goals
      go_enter Tryz.func63, Tryz.ntmps63
      go_wp2_with (go_at_call 62; (first | ((with_reducible refine (C1 _).out.mono ?_); rintro e w1 ⟨rfl, k1⟩; have hb1 := bThen (bAl hb _) k1; have m1 := (AtC.new _ _ _).then k1; have oc1 := m1.c) | ((with_reducible refine (C2 _).out.mono ?_); rintro e w2 ⟨rfl, k2⟩; have hb2 := bThen hb1 k2)))
      go_ret
      exact ⟨rfl, by first | exact hb2 | exact hb1 | exact bAl hb _⟩
  · have a1 : bits BinOp.and IntKind.u16 69 1 = 1 := by decide +kernel
    have a2 : bits BinOp.and IntKind.u16 69 4 = 4 := by decide +kernel
    have hq2 : w.cell? ⟨0, 7, none⟩ = some (.int .u16 69) := hq
    have hV : Hid (((decide ((7 : Nat) = 1) || b1) && (!refersB 7 || b2)) = (b1 && b2)) := Lib.hid (by simp [refersB])
    rw [hV.out]
    clear hq hV
    cases b1 <;> cases b2
    all_goals
      go_enter Tryz.func63, Tryz.ntmps63
      go_wp2_with (go_at_call 62; (first | ((with_reducible refine (C1 _).out.mono ?_); rintro e w1 ⟨rfl, k1⟩; have hb1 := bThen (bAl hb _) k1; have m1 := (AtC.new _ _ _).then k1; have oc1 := m1.c) | ((with_reducible refine (C2 _).out.mono ?_); rintro e w2 ⟨rfl, k2⟩; have hb2 := bThen hb1 k2)))
      go_ret
      exact ⟨rfl, by first | exact hb2 | exact hb1 | exact bAl hb _⟩
  · have a1 : bits BinOp.and IntKind.u16 1607 1 = 1 := by decide +kernel
    have a2 : bits BinOp.and IntKind.u16 1607 4 = 4 := by decide +kernel
    have hq2 : w.cell? ⟨0, 8, none⟩ = some (.int .u16 1607) := hq
    have hV : Hid (((decide ((8 : Nat) = 1) || b1) && (!refersB 8 || b2)) = (b1 && b2)) := Lib.hid (by simp [refersB])
    rw [hV.out]
    clear hq hV
    cases b1 <;> cases b2
    all_goals
      go_enter Tryz.func63, Tryz.ntmps63
      go_wp2_with (go_at_call 62; (first | ((with_reducible refine (C1 _).out.mono ?_); rintro e w1 ⟨rfl, k1⟩; have hb1 := bThen (bAl hb _) k1; have m1 := (AtC.new _ _ _).then k1; have oc1 := m1.c) | ((with_reducible refine (C2 _).out.mono ?_); rintro e w2 ⟨rfl, k2⟩; have hb2 := bThen hb1 k2)))
      go_ret
      exact ⟨rfl, by first | exact hb2 | exact hb1 | exact bAl hb _⟩
  · have a1 : bits BinOp.and IntKind.u16 2051 1 = 1 := by decide +kernel
    have a2 : bits BinOp.and IntKind.u16 2051 4 = 0 := by decide +kernel
    have hq2 : w.cell? ⟨0, 9, none⟩ = some (.int .u16 2051) := hq
    have hV : Hid (((decide ((9 : Nat) = 1) || b1) && (!refersB 9 || b2)) = (b1 && true)) := Lib.hid (by simp [refersB])
    rw [hV.out]
    clear hq hV
    cases b1 <;> cases b2
    all_goals
      go_enter Tryz.func63, Tryz.ntmps63
      go_wp2_with (go_at_call 62; (first | ((with_reducible refine (C1 _).out.mono ?_); rintro e w1 ⟨rfl, k1⟩; have hb1 := bThen (bAl hb _) k1; have m1 := (AtC.new _ _ _).then k1; have oc1 := m1.c) | ((with_reducible refine (C2 _).out.mono ?_); rintro e w2 ⟨rfl, k2⟩; have hb2 := bThen hb1 k2)))
      go_ret
      exact ⟨rfl, by first | exact hb2 | exact hb1 | exact bAl hb _⟩
end Go.Proofs.YtmhilhdmbbdnaaaGreatDoor
