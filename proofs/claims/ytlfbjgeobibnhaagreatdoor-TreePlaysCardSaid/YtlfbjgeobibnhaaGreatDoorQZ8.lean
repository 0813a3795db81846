/-
  WALKS: May, MayDesc, MayState, the program's.
-/
import Derived.Test.YtlfbjgeobibnhaaGreatDoorQZOFault
import Derived.Test.YtlfbjgeobibnhaaGreatDoorQZ2
import Derived.StillTailTactics
import Derived.WalkMore
import Derived.ScopeJumps
import Derived.Test.YtlfbjgeobibnhaaGreatDoorQZ4
import Derived.Laws.OwnMore
import Derived.OwnWalk
import Derived.Deep.MidRow
import Derived.Deep.CutRange
namespace Go.Proofs.YtlfbjgeobibnhaaGreatDoor
open Go.RowKit
set_option maxRecDepth 100000
set_option linter.unusedVariables false

theorem Meets.bare {o : Ob} {w : World} (h : Meets o w) : Meets (stateOf o zeroOb) w := ⟨h.kind, h.typ, h.digits, Nat.zero_le _, h.handle, h.parent, h.ref, h.words, h.kinds⟩
theorem Meets.only {o : Ob} {w : World} (h : Meets o w) : Meets (descOf o zeroOb) w := ⟨h.kind, Nat.zero_le _, Nat.zero_le _, h.assoc, h.handle, Nat.zero_le _, Nat.zero_le _, h.words, h.kinds⟩
theorem objMay_any {o : Ob} {w : World} (h : Meets o w) : Calls Tryz.prog 67 #[ob o] w fun e w' => e = .returned (.int .i64 (faultP o true)) ∧ Below w.heap.size w w' := by
  have hb : Below w.heap.size w w := Below.refl _ _
  have C := Lib.hid (fun W (k : Below w.heap.size w W) => fault_any o true W (h.then k))
  clear h
  generalize faultP o true = r at *
  go_enter Tryz.func67, Tryz.ntmps67
  go_wp2_with (go_at_call 76; ((with_reducible refine (C.out _ (bAl hb _)).mono ?_); rintro e w1 ⟨rfl, k⟩; replace hb := bThen (bAl hb _) k))
  go_ret
  exact ⟨rfl, hb⟩
end Go.Proofs.YtlfbjgeobibnhaaGreatDoor
/-
  WALKS: Give, Take of an arena.
-/
namespace Go.Proofs.YtlfbjgeobibnhaaGreatDoor
open Go.RowKit
set_option maxRecDepth 100000
set_option linter.unusedVariables false
set_option linter.unusedSimpArgs false

def giveS (s : Ar) (k : Int) : Ar := if takenB s k then ⟨s.tk.set k.toNat false, s.ag⟩ else s
def giveE (s : Ar) (k : Int) : Int := if takenB s k then 0 else 60
theorem ArOk.give {s : Ar} (h : ArOk s) (k : Int) : ArOk (giveS s k) := by
  unfold giveS; split
  · exact ⟨by simp; exact h.pos, by simp; exact h.le, by simp; exact h.len⟩
  · exact h
theorem taken_at {s : Ar} {k : Int} (h : takenB s k = true) : ∃ n : Nat, k = n ∧ n < s.tk.length ∧ s.tk.getD n false = true := by
  unfold takenB exB at h
  simp only [Bool.and_eq_true, decide_eq_true_eq] at h
  obtain ⟨n, rfl⟩ := Int.eq_ofNat_of_zero_le h.1.1
  exact ⟨n, rfl, by omega, by simpa using h.2⟩
set_option maxHeartbeats 1000000 in
theorem give_any (B : Nat) (s : Ar) (hs : ArOk s) (k : Int) (w : World) (hA : AtC w B (arC B s)) : Calls Tryz.prog 54 #[ptr B, .int .i64 k] w fun e w' => e = .returned (.int .i64 (giveE s k)) ∧ AtC w' B (arC B (giveS s k)) ∧ Kept w w' (· ≠ B) := by
  have CM := Lib.hid (fun W q => made_any B s W (hA.then q))
  have CT := Lib.hid (fun W q => taken_any B s hs k W (hA.then q))
  have HA := Lib.hid hA
  have hb : Below w.heap.size w w := Below.refl _ _
  cases h : takenB s k with
  | false =>
    have HE := Lib.hid (show giveE s k = 60 ∧ giveS s k = s by simp [giveE, giveS, h])
    generalize giveE s k = b at *
    generalize giveS s k = s2 at *
    rw [h] at CT
    clear hA hs h
    go_enter Tryz.func54, Tryz.ntmps54
    go_wp2_with (first
      | (go_at_call 65; ((with_reducible refine (CM.out _ hb).mono ?_); rintro e w1 ⟨rfl, rfl⟩))
      | (go_at_call 68; ((with_reducible refine (CT.out _ hb).mono ?_); rintro e w1 ⟨rfl, k1⟩; replace hb := bThen hb k1)))
    go_ret
    exact ⟨by rw [HE.out.1]; rfl, by rw [HE.out.2]; exact HA.out.then hb, .of_below hb⟩
  | true =>
    obtain ⟨n, rfl, hn, hg⟩ := taken_at h
    have hn2 : n < 64 := by have := hs.le; omega
    have HE := Lib.hid (show giveE s n = 0 ∧ giveS s n = ⟨s.tk.set n false, s.ag⟩ by simp [giveE, giveS, h])
    have HB := Lib.hid (bit_andNot hs.le hn)
    have HW := Lib.hid (wrap_pow hn2)
    have hsz := arC_size B s
    generalize giveE s n = b at *
    generalize giveS s n = s2 at *
    rw [h] at CT
    clear hA hs h hg
    go_enter Tryz.func54, Tryz.ntmps54
    go_wp2_with (first
      | (go_at_call 65; ((with_reducible refine (CM.out _ hb).mono ?_); rintro e w1 ⟨rfl, rfl⟩))
      | (go_at_call 68; ((with_reducible refine (CT.out _ hb).mono ?_); rintro e w1 ⟨rfl, k1⟩; replace hb := bThen hb k1)))
    have hb2 := hb.drew
    have m := HA.out.then hb2
    have c2 := ((HA.out.then hb).c 2).trans (arC_2 B s)
    have f2 := m.f 2
    have d2 := (m.c 2).trans (arC_2 B s)
    have M := Lib.hid m
    clear m
    go_still_tail 9, (by kernel_rfl)
    change wpList _ _ _ _ _ w1.drew
    generalize w1.drew = w2 at *
    go_wp2
    go_ret
    refine ⟨by rw [HE.out.1]; rfl, ?_, (Kept.of_below hb2).set (by simp) _⟩
    have q := M.out.set (i := 2) (by rw [hsz]; decide) (.int .u64 (bitsN (s.tk.set n false) : Int))
    rw [arC_set2] at q
    rw [HE.out.2, HW.out, HB.out]
    exact q
/-! ## Take -/
def freeIx (l : List Bool) : Nat := l.findIdx (fun b => !b)
def takeS (s : Ar) : Ar := if freeIx s.tk < s.tk.length then ⟨s.tk.set (freeIx s.tk) true, s.ag.set (freeIx s.tk) (s.ag.getD (freeIx s.tk) 0 + 1)⟩ else s
def takeV (s : Ar) : Int := if freeIx s.tk < s.tk.length then freeIx s.tk else 0
def takeE (s : Ar) : Int := if freeIx s.tk < s.tk.length then 0 else 4
theorem ArOk.take {s : Ar} (h : ArOk s) : ArOk (takeS s) := by
  unfold takeS; split
  · exact ⟨by simp; exact h.pos, by simp; exact h.le, by simp; exact h.len⟩
  · exact h
theorem free_at {l : List Bool} {k : Nat} (h : k < l.length) (ha : ∀ i, i < k → l.getD i false = true) (hf : l.getD k false = false) : freeIx l = k := by
  unfold freeIx
  rw [List.findIdx_eq (by exact h)]
  refine ⟨by simpa [List.getD_eq_getElem?_getD, h] using hf, fun j hj => ?_⟩
  have := ha j hj
  rw [List.getD_eq_getElem?_getD, List.getElem?_eq_getElem (by omega)] at this
  simpa using this
theorem free_none {l : List Bool} (ha : ∀ i, i < l.length → l.getD i false = true) : freeIx l = l.length := by
  unfold freeIx
  rw [List.findIdx_eq_length]
  intro x hx
  obtain ⟨i, hi, rfl⟩ := List.getElem_of_mem hx
  have := ha i hi
  rw [List.getD_eq_getElem?_getD, List.getElem?_eq_getElem hi] at this
  simpa using this
theorem taken_nat (s : Ar) {k : Nat} (h : k < s.tk.length) : takenB s k = s.tk.getD k false := by
  have : (k : Int) < s.tk.length := by omega
  simp [takenB, exB, this]
set_option maxHeartbeats 2000000 in
theorem take_any (B : Nat) (s : Ar) (hs : ArOk s) (hg : ∀ i, s.ag.getD i 0 ≤ 1000000) (w : World) (hA : AtC w B (arC B s)) : Calls Tryz.prog 47 #[ptr B] w fun e w' => e = .returned (.tuple #[.int .i64 (takeV s), .int .i64 (takeE s)]) ∧ AtC w' B (arC B (takeS s)) ∧ Kept w w' (· ≠ B) := by
  have CM := Lib.hid (fun W q => made_any B s W (hA.then q))
  have CT := Lib.hid (fun W q (k : Int) => taken_any B s hs k W (hA.then q))
  have c1 := (hA.c 1).trans (arC_1 B s)
  have HA := Lib.hid hA
  have HS := Lib.hid hs
  have hle := hs.le
  have HG := Lib.hid hg
  have hb : Below w.heap.size w w := Below.refl _ _
  clear hA hg hs
  go_enter Tryz.func47, Tryz.ntmps47
  go_wp2
  refine wp_scope_jumps 0 (fun a' w' => ∃ (k : Nat) (u5 u6 u7 u8 u9 u10 u11 u12 u13 u14 u15 u16 u17 u18 u19 u20 u21 u22 u23 u24 u25 u26 u27 u28 u29 u30 u31 u32 u33 u34 u35 u36 u37 u38 u39 u40 u41 : Value), a' = { tmps := #[ptr B, undef, .int .i64 0, .int .i64 0, .int .i64 k, u5, u6, u7, u8, u9, u10, u11, u12, u13, u14, u15, u16, u17, u18, u19, u20, u21, u22, u23, u24, u25, u26, u27, u28, u29, u30, u31, u32, u33, u34, u35, u36, u37, u38, u39, u40, u41], defers := [] } ∧ k < s.tk.length ∧ s.tk.getD k false = false ∧ (∀ i, i < k → s.tk.getD i false = true) ∧ Below w.heap.size w w') (fun _ _ => 0) rfl ?_ ?_
  case refine_1 =>
    go_wp2_with (go_at_call 65; ((with_reducible refine (CM.out _ hb).mono ?_); rintro e w1 ⟨rfl, rfl⟩))
    go_loopw [13] (fun i wr => ∃ k : Nat, i = .int .i64 k ∧ k ≤ s.tk.length ∧ (∀ i, i < k → s.tk.getD i false = true) ∧ Below w.heap.size w wr) (fun i _ => s.tk.length - (intOf i).toNat)
    case atStart => exact ⟨0, rfl, Nat.zero_le _, fun i hi => absurd hi (Nat.not_lt_zero _), hb⟩
    case round =>
      obtain ⟨k, rfl, hk, ha, hb1⟩ := hrel
      have HAll := Lib.hid ha
      clear ha hb
      by_cases hlt : k < s.tk.length
      · have i1 : (k : Int) < s.tk.length := by omega
        have hk64 : k < 64 := by omega
        have i2 : (k : Int) < 64 := by omega
        have HT := Lib.hid (taken_nat s hlt)
        have C := Lib.hid (CT.out _ hb1 k)
        cases hx : s.tk.getD k false with
        | true =>
          have HAll2 : Hid (∀ i, i < k + 1 → s.tk.getD i false = true) := Lib.hid (fun i hi => by
            rcases (show i < k ∨ i = k by omega) with h | rfl
            · exact HAll.out i h
            · exact hx)
          have C2 : Hid (Calls Tryz.prog 68 #[ptr B, .int .i64 k] wr fun e w' => e = .returned (.bool true) ∧ Below wr.heap.size wr w') := Lib.hid (by have := C.out; rw [HT.out, hx] at this; exact this)
          clear hx C HT
          go_wp2_with (go_at_call 68; ((with_reducible refine C2.out.mono ?_); rintro e w1 ⟨rfl, k1⟩; have hb2 := bThen hb1 k1))
          go_roundw
          case rel => exact ⟨k + 1, by go_num, by omega, HAll2.out, hb2⟩
          case measure => simp [intOf]; omega
        | false =>
          have C2 : Hid (Calls Tryz.prog 68 #[ptr B, .int .i64 k] wr fun e w' => e = .returned (.bool false) ∧ Below wr.heap.size wr w') := Lib.hid (by have := C.out; rw [HT.out, hx] at this; exact this)
          have HX := Lib.hid hx
          clear hx C HT
          go_wp2_with (go_at_call 68; ((with_reducible refine C2.out.mono ?_); rintro e w1 ⟨rfl, k1⟩; have hb2 := bThen hb1 k1))
          go_step3
          exact ⟨rfl, k, _, _, _, _, _, _, _, _, _, _, _, _, _, _, _, _, _, _, _, _, _, _, _, _, _, _, _, _, _, _, _, _, _, _, _, _, _, rfl, hlt, HX.out, HAll.out, hb2⟩
      · have e : k = s.tk.length := by omega
        subst e
        have HF := Lib.hid (free_none HAll.out)
        have HV := Lib.hid (show takeV s = 0 ∧ takeE s = 4 ∧ takeS s = s by simp [takeV, takeE, takeS, HF.out])
        go_wp2
        simp only [Exit.jump]
        go_ret2
        exact ⟨by rw [HV.out.1, HV.out.2.1]; rfl, by rw [HV.out.2.2]; exact HA.out.then hb1, .of_below hb1⟩
  case refine_2 =>
    rintro a' w1 ⟨k, u5, u6, u7, u8, u9, u10, u11, u12, u13, u14, u15, u16, u17, u18, u19, u20, u21, u22, u23, u24, u25, u26, u27, u28, u29, u30, u31, u32, u33, u34, u35, u36, u37, u38, u39, u40, u41, rfl, hlt, hx, hall, hb2⟩
    have hk64 : k < 64 := by omega
    have i2 : (k : Int) < 64 := by omega
    have HF := Lib.hid (free_at hlt hall hx)
    clear hall hx
    have HV := Lib.hid (show takeV s = k ∧ takeE s = 0 ∧ takeS s = ⟨s.tk.set k true, s.ag.set k (s.ag.getD k 0 + 1)⟩ by simp [takeV, takeE, takeS, HF.out, hlt])
    have HB := Lib.hid (bit_or hle hlt)
    have HW := Lib.hid (wrap_pow hk64)
    have hl2 : k < s.ag.length := by rw [HS.out.len]; exact hlt
    have hsz := arC_size B s
    have hgk := HG.out k
    go_wp2
    have hb3 := hb2.drew
    have m := HA.out.then hb3
    have c2 := ((HA.out.then hb2).c 2).trans (arC_2 B s)
    have f2 := m.f 2
    have d2 := (m.c 2).trans (arC_2 B s)
    have M := Lib.hid m
    clear m
    go_still_tail 9, (by kernel_rfl)
    change wpList _ _ _ _ _ w1.drew
    generalize w1.drew = w2 at *
    go_wp2
    have q := M.out.set (i := 2) (by rw [hsz]; decide) (.int .u64 (bitsN (s.tk.set k true) : Int))
    rw [arC_set2] at q
    rw [HW.out, HB.out]
    have hk3 : Kept w (w2.setCell ⟨B, 2, none⟩ (.int .u64 (bitsN (s.tk.set k true) : Int))) (· ≠ B) := (Kept.of_below hb3).set (by simp) _
    clear HB HW M
    generalize w2.setCell ⟨B, 2, none⟩ (.int .u64 (bitsN (s.tk.set k true) : Int)) = w3 at *
    have c3 := (q.c (3 + k)).trans (arC_3 B _ hk64)
    have f3 := q.drew1.f (3 + k)
    have d3 := (q.drew1.c (3 + k)).trans (arC_3 B _ hk64)
    have hsz2 := arC_size B ⟨s.tk.set k true, s.ag⟩
    have Q := Lib.hid q.drew1
    have HK3 := Lib.hid (hk3.trans (Kept.of_below (Below.refl _ _).drew))
    have HX := Lib.hid (arC_set3 B ⟨s.tk.set k true, s.ag⟩ hk64 hl2 (s.ag.getD k 0 + 1))
    clear q hk3
    simp only at c3 d3
    generalize hgg : s.ag.getD k 0 = g at *
    clear hgg
    go_still_tail 10, (by kernel_rfl)
    change wpList _ _ _ _ _ w3.drew
    generalize w3.drew = w4 at *
    go_wp2
    simp only [Exit.jump]
    go_ret2
    refine ⟨by rw [HV.out.1, HV.out.2.1]; rfl, ?_, HK3.out.set (by simp) _⟩
    have q2 := Q.out.set (i := 3 + k) (by rw [hsz2]; omega) (.int .i64 ((g + 1 : Nat) : Int))
    rw [HX.out] at q2
    rw [HV.out.2.2]
    simpa using q2
end Go.Proofs.YtlfbjgeobibnhaaGreatDoor
/-
  WALKS: named, Add, Set, Remove of a tree.
-/
namespace Go.Proofs.YtlfbjgeobibnhaaGreatDoor.TX
open Go.RowKit HL
open IX (ptr El cellsK OwnK IxAt Rw hasB numOf mayS putL putE ins del takeL)
set_option maxRecDepth 100000
set_option linter.unusedVariables false
set_option linter.unusedSimpArgs false

def mdsOb (h : ByteArray) : Ob := ⟨h, 1, ⟨#[]⟩, 0, ⟨#[]⟩, 0, 0, 0, false, false, 0, 0, 0, 0⟩
theorem mds_fault (h : ByteArray) : faultP (mdsOb h) true = if HL.mayB h = true then 0 else 10 := by
  rw [fault_eq (mdsOb h) true true (.inl rfl)]
  have e1 : kindB 1 = true := by decide
  have e2 : refersB 1 = false := by decide
  have e3 : trimOf (mdsOb h) = mdsOb h := by
    simp [trimOf, mdsOb]
  have e4 : Go.Proofs.YtlfbjgeobibnhaaGreatDoor.mayB 0 = true := by decide
  unfold faultOf
  rw [if_neg (by simp [e3]; simp [mdsOb, e1])]
  unfold faultR
  cases e : HL.mayB h <;> simp [mdsOb, e, e2, e4]
theorem named_any (h : ByteArray) (w : World) (hz : h.size ≤ maxLen) (hW : Words w) (hK : Kinds w) : Calls Tryz.prog 46 #[.string h] w fun e w' => e = .returned (.bool (HL.mayB h)) ∧ Below w.heap.size w w' := by
  have C := objMay_any (o := mdsOb h) (w := w) ⟨(by decide : 1 ≤ 255), (by decide : 0 ≤ 255), (by decide : 0 ≤ 255), (by decide : 0 ≤ 255), hz, (by decide : (0 : Nat) ≤ maxLen), (by decide : (0 : Nat) ≤ maxLen), hW, hK⟩
  rw [mds_fault] at C
  cases e : HL.mayB h with
  | true =>
    have C : Hid (Calls Tryz.prog 67 #[.agg #[.string h, .int .u8 1, .string ⟨#[]⟩, .int .u8 0, .string ⟨#[]⟩, .int .i64 0, .int .i64 0, .int .u8 0, .bool false, .bool false, .int .i64 0, .int .i64 0, .int .i64 0, .int .u8 0]] w fun e w' => e = .returned (.int .i64 0) ∧ Below w.heap.size w w') := Lib.hid (by rw [e] at C; exact C)
    clear e
    go_enter Tryz.func46, Tryz.ntmps46
    go_wp2_with (go_at_call 67; ((with_reducible refine C.out.mono ?_); rintro e w1 ⟨rfl, k1⟩))
    go_ret
    exact ⟨rfl, k1⟩
  | false =>
    have C : Hid (Calls Tryz.prog 67 #[.agg #[.string h, .int .u8 1, .string ⟨#[]⟩, .int .u8 0, .string ⟨#[]⟩, .int .i64 0, .int .i64 0, .int .u8 0, .bool false, .bool false, .int .i64 0, .int .i64 0, .int .i64 0, .int .u8 0]] w fun e w' => e = .returned (.int .i64 10) ∧ Below w.heap.size w w') := Lib.hid (by rw [e] at C; exact C)
    clear e
    go_enter Tryz.func46, Tryz.ntmps46
    go_wp2_with (go_at_call 67; ((with_reducible refine C.out.mono ?_); rintro e w1 ⟨rfl, k1⟩))
    go_ret
    exact ⟨rfl, k1⟩
/-! ## Add -/
def tkOf (s : Sl) : List Bool := s.map Option.isSome
noncomputable def addE (s : Sl) (o : Ob) : Int := if mayS (hb o) = true then (if there s (hb o) = true then 71 else if freeIx (tkOf s) < s.length then 0 else 4) else 10
noncomputable def addS (s : Sl) (o : Ob) : Sl := if addE s o = 0 then s.set (freeIx (tkOf s)) (some o) else s
theorem addE_0 {s : Sl} {o : Ob} : addE s o = 0 ↔ mayS (hb o) = true ∧ there s (hb o) = false ∧ freeIx (tkOf s) < s.length := by
  unfold addE
  cases mayS (hb o) <;> cases there s (hb o) <;> by_cases h : freeIx (tkOf s) < s.length <;> simp [h]
theorem tk_len (s : Sl) : (tkOf s).length = s.length := by simp [tkOf]
theorem free_slot {s : Sl} (h : freeIx (tkOf s) < s.length) : s[freeIx (tkOf s)]? = some none := by
  have h1 : freeIx (tkOf s) < (tkOf s).length := by rw [tk_len]; exact h
  have h2 : (!(tkOf s)[freeIx (tkOf s)]) = true := by
    exact List.findIdx_getElem (p := fun b => !b) (xs := tkOf s) (w := h1)
  have h3 : (s[freeIx (tkOf s)]).isSome = false := by
    have : (tkOf s)[freeIx (tkOf s)] = (s[freeIx (tkOf s)]).isSome := by simp [tkOf]
    rw [this] at h2
    simpa using h2
  rw [List.getElem?_eq_getElem h]
  cases q : s[freeIx (tkOf s)] with
  | none => rfl
  | some o => rw [q] at h3; cases h3
theorem tk_set (s : Sl) (k : Nat) (x : Option Ob) : tkOf (s.set k x) = (tkOf s).set k x.isSome := by simp [tkOf, List.map_set]
section
variable {w : World} {b0 : Nat} {L : Lay} {s : Sl}
theorem hasB_kid (wf : Wf s) {h : Bs} (e : there s h = false) (q : Option Bs) : IX.hasB (rowsOf s q) h = false := by
  rw [IX.hasB_f]
  intro m
  obtain ⟨x, hx, rfl⟩ := List.mem_map.1 m
  obtain ⟨j, a, _, h1, h2, _⟩ := (mem_rowsOf wf).1 hx
  exact slotO_none.1 (there_f e) j a h1 h2
/-- The parts together: an object added. -/
theorem add_done {w' : World} {L' : Lay} {o : Ob} {k : Nat} (wf : Wf s) (hk : s[k]? = some none) (hm : mayS (hb o) = true) (hn : there s (hb o) = false) (hp : (pb o).length ≤ 100)
    (h : TrAt w' b0 L' ((tkOf s).set k true) (ins (rowsOf s none) (hb o) k) (s.set k (some o)) (upd (fun p => rowsOf s (some p)) (pb o) (ins (rowsOf s (some (pb o))) (hb o) k))) : Tree w' b0 L' (s.set k (some o)) := by
  have hkl : k < s.length := (List.getElem?_eq_some_iff.1 hk).1
  have ra := rows_add wf hk hn hm hp
  have e1 := ra none
  rw [if_pos (.inl rfl)] at e1
  have e2 : (fun p => rowsOf (s.set k (some o)) (some p)) = upd (fun p => rowsOf s (some p)) (pb o) (ins (rowsOf s (some (pb o))) (hb o) k) := by
    funext p
    rw [ra (some p)]
    by_cases q : p = pb o
    · subst q; rw [upd_same, if_pos (.inr rfl)]
    · rw [upd_other _ _ q, if_neg]
      rintro (e | e)
      · cases e
      · cases e; exact q rfl
  refine ⟨?_, wf.add hkl (fun j a h1 h2 => absurd h2 (slotO_none.1 (there_f hn) j a h1)) hm hp⟩
  rw [e1, e2]
  have e3 : (s.set k (some o)).map Option.isSome = (tkOf s).set k true := tk_set s k (some o)
  rw [e3]
  exact h
set_option maxHeartbeats 4000000 in
theorem add_any (h : Tree w b0 L s) (hb0 : b0 ≤ w.heap.size) (hW : Words w) (hK : Kinds w) (o : Ob) (hz : o.handle.size ≤ maxLen) (hp : (pb o).length ≤ 100) (hn : L.n ≤ 900000) :
    Calls Tryz.prog 21 #[ptr L.T, ob o] w fun e w' => ∃ L', e = .returned (.int .i64 (addE s o)) ∧ Tree w' b0 L' (addS s o) ∧ Step w w' 2 L L' := by
  have bb : Below w.heap.size w w := Below.refl _ _
  have CM := Lib.hid (fun W (q : Below w.heap.size w W) => made_any (h.then q).t.c)
  have CS := Lib.hid (fun W (q : Below w.heap.size w W) => slot_any (h.then q) o.handle)
  have CN : Hid (∀ W, Below w.heap.size w W → Calls Tryz.prog 46 #[.string o.handle] W fun e w' => e = .returned (.bool (mayS (hb o))) ∧ Below W.heap.size W w') := Lib.hid (fun W q => named_any o.handle W hz (hW.then q) (hK.then q))
  have HT := Lib.hid h
  have M0 := Lib.hid (AtC.new w (obCells o) 33)
  have HB : Hid (L.g w.heap.size = .other) := Lib.hid (by
    cases q : L.g w.heap.size with
    | other => rfl
    | _ => have := (h.t.lt w.heap.size (by rw [q]; simp)).2; omega)
  cases hm : mayS (hb o) with
  | false =>
    have HE := Lib.hid (show addE s o = 10 ∧ addS s o = s by simp [addS, addE, hm])
    rw [hm] at CN
    generalize addE s o = ae at *
    generalize addS s o = as_ at *
    clear h hm hW hK
    go_enter Tryz.func21, Tryz.ntmps21
    go_wp2_with (first
      | (go_at_call 29; ((with_reducible refine (CS.out _ (bAl bb _)).mono ?_); rintro e w1 ⟨rfl, k1⟩; replace bb := bThen (bAl bb _) k1; have oc := (M0.out.then k1).c))
      | (go_at_call 38; ((with_reducible refine (CM.out _ bb).mono ?_); rintro e w2 ⟨rfl, rfl⟩))
      | (go_at_call 46; ((with_reducible refine (CN.out _ bb).mono ?_); rintro e w3 ⟨rfl, k3⟩; replace bb := bThen bb k3)))
    go_ret
    exact ⟨L, by rw [HE.out.1]; rfl, by rw [HE.out.2]; exact HT.out.then bb, (Step.of_below bb).more (by omega)⟩
  | true =>
    rw [hm] at CN
    cases ht : there s (hb o) with
    | true =>
      have HE := Lib.hid (show addE s o = 71 ∧ addS s o = s by simp [addS, addE, hm, ht])
      rw [ht] at CS
      generalize addE s o = ae at *
      generalize addS s o = as_ at *
      clear h hm hW hK ht
      go_enter Tryz.func21, Tryz.ntmps21
      go_wp2_with (first
        | (go_at_call 29; ((with_reducible refine (CS.out _ (bAl bb _)).mono ?_); rintro e w1 ⟨rfl, k1⟩; replace bb := bThen (bAl bb _) k1; have oc := (M0.out.then k1).c))
        | (go_at_call 38; ((with_reducible refine (CM.out _ bb).mono ?_); rintro e w2 ⟨rfl, rfl⟩))
        | (go_at_call 46; ((with_reducible refine (CN.out _ bb).mono ?_); rintro e w3 ⟨rfl, k3⟩; replace bb := bThen bb k3)))
      go_ret
      exact ⟨L, by rw [HE.out.1]; rfl, by rw [HE.out.2]; exact HT.out.then bb, (Step.of_below bb).more (by omega)⟩
    | false =>
      rw [ht] at CS
      have CT := Lib.hid (fun W (q : Below w.heap.size w W) => take_any L.A ⟨tkOf s, L.ag⟩ (HT.out.then q).t.ok (fun i => Nat.le_trans (h.t.age i) (by omega)) W (HT.out.then q).t.a)
      have C1 := Lib.hid (fun W (q : Below w.heap.size w W) => (HT.out.then q).t.c1)
      by_cases hf : freeIx (tkOf s) < s.length
      · have hfl : freeIx (tkOf s) < (tkOf s).length := by rw [tk_len]; exact hf
        have HE := Lib.hid (show addE s o = 0 ∧ addS s o = s.set (freeIx (tkOf s)) (some o) by simp [addS, addE, hm, ht, hf])
        have e1 : takeV ⟨tkOf s, L.ag⟩ = (freeIx (tkOf s) : Int) := by simp [takeV, hfl]
        have e2 : takeE ⟨tkOf s, L.ag⟩ = 0 := by simp [takeE, hfl]
        have e3 : takeS ⟨tkOf s, L.ag⟩ = ⟨(tkOf s).set (freeIx (tkOf s)) true, L.ag.set (freeIx (tkOf s)) (L.ag.getD (freeIx (tkOf s)) 0 + 1)⟩ := by simp [takeS, hfl]
        simp only [e1, e2, e3] at CT
        have HFS := Lib.hid (free_slot hf)
        have HF := Lib.hid hf
        have HM := Lib.hid hm
        have HTH := Lib.hid ht
        generalize addE s o = ae at *
        generalize addS s o = as_ at *
        clear e1 e2 e3 h hm hW hK ht hf hfl
        generalize freeIx (tkOf s) = k at *
        have hok : ArOk ⟨(tkOf s).set k true, L.ag.set k (L.ag.getD k 0 + 1)⟩ := ⟨by show 1 ≤ ((tkOf s).set k true).length; rw [List.length_set]; exact HT.out.t.ok.pos, by show ((tkOf s).set k true).length ≤ 64; rw [List.length_set]; exact HT.out.t.ok.le, by show (L.ag.set k _).length = ((tkOf s).set k true).length; rw [List.length_set, List.length_set]; exact HT.out.t.ok.len⟩
        have hag : ∀ i, (L.ag.set k (L.ag.getD k 0 + 1)).getD i 0 ≤ L.n + 1 := fun i => by
          have q1 := HT.out.t.age i
          have q2 := HT.out.t.age k
          simp only [List.getD_eq_getElem?_getD, List.getElem?_set] at *
          split
          · split
            · simp; omega
            · simp
          · omega
        have HOK := Lib.hid hok
        have HAG := Lib.hid hag
        clear hok hag
        go_enter Tryz.func21, Tryz.ntmps21
        go_wp2_with (first
          | (go_at_call 29; ((with_reducible refine (CS.out _ (bAl bb _)).mono ?_); rintro e w1 ⟨rfl, k1⟩; replace bb := bThen (bAl bb _) k1; have HO1 := Lib.hid (M0.out.then k1); have oc := HO1.out.c))
          | (go_at_call 38; ((with_reducible refine (CM.out _ bb).mono ?_); rintro e w2 ⟨rfl, rfl⟩))
          | (go_at_call 46; ((with_reducible refine (CN.out _ bb).mono ?_); rintro e w3 ⟨rfl, k3⟩; replace bb := bThen bb k3; have HO3 := Lib.hid (HO1.out.then k3); have c1 := C1.out _ bb))
          | (go_at_call 47; ((with_reducible refine (CT.out _ bb).mono ?_); rintro e w4 ⟨rfl, a4, k4⟩; have A4 := Lib.hid a4; have K4 : Hid (IX.Kept w3 w4 (· ≠ L.A)) := Lib.hid ⟨k4.os, k4.tape, k4.output, k4.size, k4.block⟩; clear a4 k4)))
        have T4 := Lib.hid ((HT.out.then bb).t.arena A4.out K4.out HOK.out HAG.out (by rw [List.length_set]; rfl))
        have S4 := Lib.hid ((Step.of_below bb : Step w w3 0 L L).trans ((HT.out.then bb).t.arena_step (L.ag.set k (L.ag.getD k 0 + 1)) K4.out))
        have HO4 := Lib.hid (K4.out.atC HO3.out (fun e => by have := HB.out; rw [e, HT.out.t.gA] at this; cases this))
        have hb04 : b0 ≤ w4.heap.size := Nat.le_trans hb0 S4.out.k.size
        have c2 := T4.out.c2
        have oc4 := HO4.out.c
        have CP := Lib.hid (fun W (q : Below w4.heap.size w4 W) => put_kid (T4.out.then q).p (Nat.le_trans (HT.out.pl none) (by decide)) o k HM.out (hasB_kid HT.out.wf HTH.out none))
        have BW : Hid (Below w4.heap.size w4 w4.drew) := Lib.hid (Below.refl _ _).drew
        clear c1 oc A4 K4
        go_still_tail 7, (by kernel_rfl)
        change wpList _ _ _ _ _ w4.drew
        go_wp2_with fail
        refine (CP.out _ BW.out).mono ?_
        rintro e w5 ⟨v', rfl, i5, f5, k5⟩
        have T5 := Lib.hid ((T4.out.then BW.out).places i5 f5 k5 hb04)
        have S5 := Lib.hid ((S4.out.trans (Step.of_below BW.out)).trans ((T4.out.then BW.out).places_step f5 k5))
        have oc5 := (k5.atC (HO4.out.then BW.out) ⟨fun e => (by have := HB.out; rw [e, HT.out.t.gP] at this; cases this), fun e => (by have := HB.out; rw [HT.out.t.gV _ e] at this; cases this)⟩).c
        have hb05 : b0 ≤ w5.heap.size := Nat.le_trans hb0 S5.out.k.size
        have CE := Lib.hid (settle_tr T5.out hb05 HF.out o HM.out (Nat.le_trans hp (by decide)) (hasB_kid HT.out.wf HTH.out _) (Nat.le_trans (HT.out.pl _) (by decide)) (by show L.n + 1 ≤ 1000000; omega))
        clear i5 f5 k5 oc4 c2
        go_wp2_with (go_at_call 49; ((with_reducible refine CE.out.mono ?_); rintro e w6 ⟨rfl, L6, t6, s6⟩))
        go_ret
        exact ⟨L6, by rw [HE.out.1]; rfl, by rw [HE.out.2]; exact add_done HT.out.wf HFS.out HM.out HTH.out hp t6, (S5.out.trans s6).more (by omega)⟩
      · have hfl : ¬ freeIx (tkOf s) < (tkOf s).length := by rw [tk_len]; exact hf
        have HE := Lib.hid (show addE s o = 4 ∧ addS s o = s by simp [addS, addE, hm, ht, hf])
        have e1 : takeV ⟨tkOf s, L.ag⟩ = 0 := by simp [takeV, hfl]
        have e2 : takeE ⟨tkOf s, L.ag⟩ = 4 := by simp [takeE, hfl]
        have e3 : takeS ⟨tkOf s, L.ag⟩ = ⟨tkOf s, L.ag⟩ := by simp [takeS, hfl]
        simp only [e1, e2, e3] at CT
        generalize addE s o = ae at *
        generalize addS s o = as_ at *
        clear e1 e2 e3 h hm hW hK ht hf hfl
        go_enter Tryz.func21, Tryz.ntmps21
        go_wp2_with (first
          | (go_at_call 29; ((with_reducible refine (CS.out _ (bAl bb _)).mono ?_); rintro e w1 ⟨rfl, k1⟩; replace bb := bThen (bAl bb _) k1; have HO1 := Lib.hid (M0.out.then k1); have oc := HO1.out.c))
          | (go_at_call 38; ((with_reducible refine (CM.out _ bb).mono ?_); rintro e w2 ⟨rfl, rfl⟩))
          | (go_at_call 46; ((with_reducible refine (CN.out _ bb).mono ?_); rintro e w3 ⟨rfl, k3⟩; replace bb := bThen bb k3; have c1 := C1.out _ bb))
          | (go_at_call 47; ((with_reducible refine (CT.out _ bb).mono ?_); rintro e w4 ⟨rfl, a4, k4⟩; have A4 := Lib.hid a4; have K4 : Hid (IX.Kept w3 w4 (· ≠ L.A)) := Lib.hid ⟨k4.os, k4.tape, k4.output, k4.size, k4.block⟩; clear a4 k4)))
        go_ret
        have T4 := (HT.out.then bb).t.arena A4.out K4.out HT.out.t.ok (fun i => Nat.le_succ_of_le (HT.out.t.age i)) rfl
        exact ⟨_, by rw [HE.out.1]; rfl, by rw [HE.out.2]; exact ⟨T4, HT.out.wf⟩, ((Step.of_below bb : Step w w3 0 L L).trans ((HT.out.then bb).t.arena_step L.ag K4.out)).more (by omega)⟩
end
end Go.Proofs.YtlfbjgeobibnhaaGreatDoor.TX
/-
  WALKS: Set, Remove of a tree.
-/
namespace Go.Proofs.YtlfbjgeobibnhaaGreatDoor.TX
open Go.RowKit HL
open IX (ptr El cellsK OwnK IxAt Rw numOf mayS putL putE ins del takeL)
set_option maxRecDepth 100000
set_option linter.unusedVariables false
set_option linter.unusedSimpArgs false

def hasE (s : Sl) (h : Bs) : Int := if there s h = true then 0 else 70
def setS (s : Sl) (o : Ob) : Sl := if there s (hb o) = true then s.set (slotN s (hb o)) (some o) else s
def remS (s : Sl) (h : Bs) : Sl := if there s h = true then s.set (slotN s h) none else s
section
variable {w : World} {b0 : Nat} {L : Lay} {s : Sl}
theorem has_kid (wf : Wf s) {k : Nat} {o : Ob} (ho : In s k o) : IX.hasB (rowsOf s (some (pb o))) (hb o) = true :=
  IX.hasB_iff.2 (List.mem_map.2 ⟨(hb o, (k : Int)), (mem_rowsOf wf).2 ⟨k, o, rfl, ho, rfl, fun p e => by cases e; rfl⟩, rfl⟩)
theorem has_all (wf : Wf s) {k : Nat} {o : Ob} (ho : In s k o) : IX.hasB (rowsOf s none) (hb o) = true := by rw [has_rows wf]; exact (slotN_in wf ho).1
theorem kids_del (wf : Wf s) {k : Nat} {o : Ob} (ho : In s k o) : upd (fun p => rowsOf s (some p)) (pb o) (del (rowsOf s (some (pb o))) (hb o)) = fun p => rowsOf (s.set k none) (some p) := by
  funext p
  rw [rows_del wf ho (some p)]
  by_cases q : p = pb o
  · subst q; rw [upd_same, if_pos (.inr rfl)]
  · rw [upd_other _ _ q, if_neg]
    rintro (e | e)
    · cases e
    · cases e; exact q rfl
theorem kids_add (wf : Wf s) {k : Nat} (hk : s[k]? = some none) {o : Ob} (hn : there s (hb o) = false) (hm : mayS (hb o) = true) (hp : (pb o).length ≤ 100) : upd (fun p => rowsOf s (some p)) (pb o) (ins (rowsOf s (some (pb o))) (hb o) k) = fun p => rowsOf (s.set k (some o)) (some p) := by
  funext p
  rw [rows_add wf hk hn hm hp (some p)]
  by_cases q : p = pb o
  · subst q; rw [upd_same, if_pos (.inr rfl)]
  · rw [upd_other _ _ q, if_neg]
    rintro (e | e)
    · cases e
    · cases e; exact q rfl
theorem there_del (wf : Wf s) {k : Nat} {o : Ob} (ho : In s k o) : there (s.set k none) (hb o) = false := by
  cases e : there (s.set k none) (hb o) with
  | false => rfl
  | true =>
    obtain ⟨j, a, h1, h2⟩ := there_iff.1 e
    rcases (in_set ho.lt).1 h1 with ⟨_, e2⟩ | ⟨hne, h1⟩
    · cases e2
    · exact absurd (wf.nd _ _ _ _ h1 ho h2) hne
theorem rows_set (wf : Wf s) {k : Nat} {o o2 : Ob} (ho : In s k o) (e : hb o2 = hb o) (wf2 : Wf (s.set k (some o2))) : rowsOf (s.set k (some o2)) none = rowsOf s none := by
  refine up_ext (rowsOf_up _ _) (rowsOf_up _ _) fun r => ?_
  rw [mem_rowsOf wf2, mem_rowsOf wf]
  constructor
  · rintro ⟨j, a, e1, h1, h2, _⟩
    rcases (in_set ho.lt).1 h1 with ⟨rfl, q⟩ | ⟨_, h1⟩
    · cases q
      exact ⟨j, o, e1, ho, e.symm.trans h2, fun p q => by cases q⟩
    · exact ⟨j, a, e1, h1, h2, fun p q => by cases q⟩
  · rintro ⟨j, a, e1, h1, h2, _⟩
    by_cases q : j = k
    · subst q
      obtain rfl := h1.uniq ho
      exact ⟨j, o2, e1, (in_set ho.lt).2 (.inl ⟨rfl, rfl⟩), e.trans h2, fun p q => by cases q⟩
    · exact ⟨j, a, e1, (in_set ho.lt).2 (.inr ⟨q, h1⟩), h2, fun p q => by cases q⟩
theorem tk_same {k : Nat} {o o2 : Ob} (ho : In s k o) : (s.set k (some o2)).map Option.isSome = s.map Option.isSome := by
  apply List.ext_getElem?
  intro i
  simp only [List.getElem?_map, List.getElem?_set]
  by_cases e : k = i
  · subst e
    have e2 : s[k]'ho.lt = some o := (List.getElem?_eq_some_iff.1 ho).2
    simp [ho.lt, e2]
  · simp [e]
theorem seek_any (h : Tree w b0 L s) (x : ByteArray) : Calls Tryz.prog 51 #[ptr L.T, .string x] w fun e w' => e = .returned (.tuple #[.int .i64 (slotN s x.data.toList : Int), .int .i64 (hasE s x.data.toList)]) ∧ Below w.heap.size w w' := by
  have q := seek_tr h.t (Nat.le_trans (h.pl none) (by decide)) x
  rw [num_rows h.wf, has_rows h.wf] at q
  unfold hasE
  cases e : there s x.data.toList with
  | true => rw [e] at q; exact q
  | false =>
    rw [e] at q
    rw [(slotN_f e).1]
    exact q
set_option maxHeartbeats 2000000 in
theorem set_any (h : Tree w b0 L s) (hb0 : b0 ≤ w.heap.size) (o : Ob) (hp : (pb o).length ≤ 100) (hn : L.n ≤ 900000) :
    Calls Tryz.prog 23 #[ptr L.T, ob o] w fun e w' => ∃ L', e = .returned (.int .i64 (hasE s (hb o))) ∧ Tree w' b0 L' (setS s o) ∧ Step w w' 2 L L' := by
  have bb : Below w.heap.size w w := Below.refl _ _
  have CK : Hid (∀ W, Below w.heap.size w W → Calls Tryz.prog 51 #[ptr L.T, .string o.handle] W fun e w' => e = .returned (.tuple #[.int .i64 (slotN s (TX.hb o) : Int), .int .i64 (hasE s (TX.hb o))]) ∧ Below W.heap.size W w') := Lib.hid (fun W q => seek_any (h.then q) o.handle)
  have HT := Lib.hid h
  have M0 := Lib.hid (AtC.new w (obCells o) 33)
  have HB : Hid (L.g w.heap.size = .other) := Lib.hid (by
    cases q : L.g w.heap.size with
    | other => rfl
    | _ => have := (h.t.lt w.heap.size (by rw [q]; simp)).2; omega)
  cases ht : there s (TX.hb o) with
  | false =>
    have HE := Lib.hid (show hasE s (TX.hb o) = 70 ∧ setS s o = s by simp [hasE, setS, ht])
    simp only [HE.out.1] at CK
    generalize hasE s (TX.hb o) = ae at *
    generalize setS s o = as_ at *
    clear h ht
    go_enter Tryz.func23, Tryz.ntmps23
    go_wp2_with (go_at_call 51; ((with_reducible refine (CK.out _ (bAl bb _)).mono ?_); rintro e w1 ⟨rfl, k1⟩; replace bb := bThen (bAl bb _) k1))
    go_ret
    exact ⟨L, by rw [HE.out.1]; rfl, by rw [HE.out.2]; exact HT.out.then bb, (Step.of_below bb).more (by omega)⟩
  | true =>
    obtain ⟨old, h1, h2, _, _⟩ := there_t ht
    have HE := Lib.hid (show hasE s (TX.hb o) = 0 ∧ setS s o = s.set (slotN s (TX.hb o)) (some o) by simp [hasE, setS, ht])
    simp only [HE.out.1] at CK
    generalize hasE s (TX.hb o) = ae at *
    generalize setS s o = as_ at *
    generalize slotN s (TX.hb o) = k at *
    have HI := Lib.hid h1
    have HH := Lib.hid h2
    have wf1 := HT.out.wf.del h1.lt
    have hn1 : there (s.set k none) (TX.hb o) = false := by rw [← h2]; exact there_del HT.out.wf h1
    have hm1 : mayS (TX.hb o) = true := by rw [← h2]; exact HT.out.wf.may _ _ h1
    have hk1 : (s.set k none)[k]? = some none := by rw [List.getElem?_set]; simp [h1.lt]
    have HF := Lib.hid (And.intro wf1 (And.intro hn1 (And.intro hm1 hk1)))
    clear h ht h1 h2 wf1 hn1 hm1 hk1
    have CU := Lib.hid (fun W (q : Below w.heap.size w W) => unsettle_tr (HT.out.then q).t (Nat.le_trans hb0 q.size) HI.out (Nat.le_trans (HT.out.wf.pl _ _ HI.out) (by decide)) (has_kid HT.out.wf HI.out) (Nat.le_trans (HT.out.pl _) (by decide)))
    go_enter Tryz.func23, Tryz.ntmps23
    go_wp2_with (first
      | (go_at_call 51; ((with_reducible refine (CK.out _ (bAl bb _)).mono ?_); rintro e w1 ⟨rfl, k1⟩; replace bb := bThen (bAl bb _) k1; have HO1 := Lib.hid (M0.out.then k1)))
      | (go_at_call 52; ((with_reducible refine (CU.out _ bb).mono ?_); rintro e w2 ⟨rfl, L2, t2, s2⟩; rw [kids_del HT.out.wf HI.out] at t2; have hb02 := Nat.le_trans hb0 ((Step.of_below bb : Step w w1 0 L L).trans s2).k.size; have CE : Hid (_) := Lib.hid (settle_tr t2 hb02 (by rw [List.length_set]; exact HI.out.lt) o HF.out.2.2.1 (Nat.le_trans hp (by decide)) (hasB_kid HF.out.1 HF.out.2.1 _) (Nat.le_trans (Nat.le_trans (rowsOf_len _ _) HF.out.1.ln) (by decide)) (by have := s2.n; omega)); rw [s2.t] at CE; have S2 := Lib.hid ((Step.of_below bb : Step w w1 0 L L).trans s2); have oc2 := (s2.k.atC HO1.out HB.out).c; clear t2 s2))
      | (go_at_call 49; ((with_reducible refine CE.out.mono ?_); rintro e w3 ⟨rfl, L3, t3, s3⟩)))
    go_ret
    rw [kids_add HF.out.1 HF.out.2.2.2 HF.out.2.1 HF.out.2.2.1 hp, List.set_set] at t3
    have wf3 : Wf (s.set k (some o)) := HT.out.wf.add HI.out.lt (fun j a h1 h2 => HT.out.wf.nd _ _ _ _ h1 HI.out (h2.trans HH.out.symm)) HF.out.2.2.1 hp
    rw [← rows_set HT.out.wf HI.out HH.out.symm wf3, ← tk_same (o2 := o) HI.out] at t3
    exact ⟨L3, by rw [HE.out.1]; rfl, by rw [HE.out.2]; exact ⟨t3, wf3⟩, (S2.out.trans s3).more (by omega)⟩
theorem take_all {W : World} {B : Nat} {v : Value} {l : List Rw} (hA : IxAt W B v l) (hl : l.length ≤ 1000) (x : ByteArray) (hh : IX.hasB l x.data.toList = true) :
    Calls Tryz.prog 53 #[ptr B, .string x] W fun e w' => ∃ v', e = .returned (.tuple #[.int .i64 (numOf l x.data.toList), .int .i64 0]) ∧ IxAt w' B v' (del l x.data.toList) ∧ (∀ j, v'.ownBlock = some j → v.ownBlock = some j ∨ W.heap.size ≤ j) ∧ IX.Kept W w' (fun j => j ≠ B ∧ v.ownBlock ≠ some j) := by
  have q := IX.take_any B v l x.data.toList W hA (Nat.le_trans hl (by decide))
  have e1 : IX.takeE l x.data.toList = 0 := by simp [IX.takeE, hh]
  have e2 : takeL l x.data.toList = del l x.data.toList := by simp [takeL, hh]
  rw [e1, e2] at q
  exact q
theorem tk_in {k : Nat} {o : Ob} (ho : In s k o) (ag : List Nat) : takenB ⟨tkOf s, ag⟩ k = true := by
  have h1 : k < (tkOf s).length := by rw [tk_len]; exact ho.lt
  rw [taken_nat _ h1]
  show (tkOf s).getD k false = true
  have e2 : s[k]? = some (some o) := ho
  simp [tkOf, List.getD_eq_getElem?_getD, e2]
set_option maxHeartbeats 2000000 in
theorem remove_any (h : Tree w b0 L s) (hb0 : b0 ≤ w.heap.size) (x : ByteArray) (hn : L.n ≤ 900000) :
    Calls Tryz.prog 25 #[ptr L.T, .string x] w fun e w' => ∃ L', e = .returned (.int .i64 (hasE s x.data.toList)) ∧ Tree w' b0 L' (remS s x.data.toList) ∧ Step w w' 2 L L' := by
  have bb : Below w.heap.size w w := Below.refl _ _
  have CK := Lib.hid (fun W (q : Below w.heap.size w W) => seek_any (h.then q) x)
  have HT := Lib.hid h
  obtain ⟨hx, hxe⟩ : ∃ hx : Bs, x.data.toList = hx := ⟨_, rfl⟩
  cases ht : there s x.data.toList with
  | false =>
    have HE := Lib.hid (show hasE s x.data.toList = 70 ∧ remS s x.data.toList = s by simp [hasE, remS, ht])
    simp only [HE.out.1] at CK
    generalize hasE s x.data.toList = ae at *
    generalize remS s x.data.toList = as_ at *
    clear h ht hxe
    go_enter Tryz.func25, Tryz.ntmps25
    go_wp2_with (go_at_call 51; ((with_reducible refine (CK.out _ bb).mono ?_); rintro e w1 ⟨rfl, k1⟩; replace bb := bThen bb k1))
    go_ret
    exact ⟨L, by rw [HE.out.1]; rfl, by rw [HE.out.2]; exact HT.out.then bb, (Step.of_below bb).more (by omega)⟩
  | true =>
    obtain ⟨old, h1, h2, _, _⟩ := there_t ht
    have HE := Lib.hid (show hasE s x.data.toList = 0 ∧ remS s x.data.toList = s.set (slotN s x.data.toList) none by simp [hasE, remS, ht])
    have HH := Lib.hid h2
    simp only [HE.out.1] at CK
    generalize hasE s x.data.toList = ae at *
    generalize remS s x.data.toList = as_ at *
    generalize slotN s x.data.toList = k at *
    have HI := Lib.hid h1
    clear h ht h1 h2 hxe
    have CU := Lib.hid (fun W (q : Below w.heap.size w W) => unsettle_tr (HT.out.then q).t (Nat.le_trans hb0 q.size) HI.out (Nat.le_trans (HT.out.wf.pl _ _ HI.out) (by decide)) (has_kid HT.out.wf HI.out) (Nat.le_trans (HT.out.pl _) (by decide)))
    go_enter Tryz.func25, Tryz.ntmps25
    go_wp2_with (first
      | (go_at_call 51; ((with_reducible refine (CK.out _ bb).mono ?_); rintro e w1 ⟨rfl, k1⟩; replace bb := bThen bb k1))
      | (go_at_call 52; ((with_reducible refine (CU.out _ bb).mono ?_); rintro e w2 ⟨rfl, L2, t2, s2⟩; rw [kids_del HT.out.wf HI.out] at t2; have T2 := Lib.hid t2; have S2 := Lib.hid ((Step.of_below bb : Step w w1 0 L L).trans s2); have c2 := T2.out.c2; rw [S2.out.t] at c2; have hb02 := Nat.le_trans hb0 S2.out.k.size; have CT := Lib.hid (take_all T2.out.p (Nat.le_trans (HT.out.pl none) (by decide)) x (by rw [← HH.out]; exact has_all HT.out.wf HI.out)); clear t2 s2))
      | (go_at_call 53; ((with_reducible refine CT.out.mono ?_); rintro e w3 ⟨v', rfl, i3, f3, k3⟩; have T3 := Lib.hid (T2.out.places i3 f3 k3 hb02); have S3 := Lib.hid (S2.out.trans (T2.out.places_step f3 k3)); have c13 : w3.cell? ⟨L.T, 1, none⟩ = some (ptr L2.A) := (by have q := T3.out.c1; rw [S3.out.t] at q; exact q); clear i3 f3 k3; have CG := Lib.hid (give_any L2.A ⟨tkOf s, L2.ag⟩ T3.out.ok (k : Int) w3 T3.out.a)))
      | (go_at_call 54; ((with_reducible refine CG.out.mono ?_); rintro e w4 ⟨rfl, a4, k4⟩; have A4 := Lib.hid a4; have K4 : Hid (IX.Kept w3 w4 (· ≠ L2.A)) := Lib.hid ⟨k4.os, k4.tape, k4.output, k4.size, k4.block⟩; clear a4 k4)))
    go_ret
    have hg : giveS ⟨tkOf s, L2.ag⟩ k = ⟨(tkOf s).set k false, L2.ag⟩ := by simp [giveS, tk_in HI.out]
    have a4 := A4.out
    rw [hg] at a4
    have hok : ArOk ⟨(tkOf s).set k false, L2.ag⟩ := by have q : ArOk (giveS ⟨tkOf s, L2.ag⟩ k) := T3.out.ok.give k; rw [hg] at q; exact q
    have T4 := T3.out.arena a4 K4.out hok (fun i => Nat.le_succ_of_le (T3.out.age i)) (by rw [List.length_set]; rfl)
    have S4 := S3.out.trans (T3.out.arena_step L2.ag K4.out)
    have e1 : rowsOf (s.set k none) none = del (rowsOf s none) x.data.toList := by rw [rows_del HT.out.wf HI.out none, if_pos (.inl rfl), HH.out]
    have e2 : (s.set k none).map Option.isSome = (tkOf s).set k false := tk_set s k none
    rw [← e1, ← e2] at T4
    exact ⟨_, by rw [HE.out.1]; rfl, by rw [HE.out.2]; exact ⟨T4, HT.out.wf.del HI.out.lt⟩, S4.more (by omega)⟩
end
end Go.Proofs.YtlfbjgeobibnhaaGreatDoor.TX
/-
  WALKS: New, All, Copy of an arena.
-/
namespace Go.Proofs.YtlfbjgeobibnhaaGreatDoor
open Go.RowKit
set_option maxRecDepth 100000
set_option linter.unusedVariables false
set_option linter.unusedSimpArgs false

def newS (n : Nat) : Ar := ⟨List.replicate n false, List.replicate n 0⟩
theorem newS_ok {n : Nat} (h1 : 1 ≤ n) (h2 : n ≤ 64) : ArOk (newS n) := ⟨by simp [newS]; exact h1, by simp [newS]; exact h2, by simp [newS]⟩
theorem newS_ag (n i : Nat) : (newS n).ag.getD i 0 = 0 := by
  simp only [newS, List.getD_eq_getElem?_getD, List.getElem?_replicate]
  split <;> rfl
theorem bitsN_none (n : Nat) : bitsN (List.replicate n false) = 0 := by
  induction n with
  | zero => rfl
  | succ n ih => simp [List.replicate_succ, bitsN, ih]
theorem new_no (n : Int) (w : World) (h : n < 1 ∨ 64 < n) : Calls Tryz.prog 19 #[.int .i64 n] w fun e w' => e = .returned (.tuple #[.pointer none, .int .i64 2]) ∧ w = w' := by
  rcases h with h | h
  · go_enter Tryz.func19, Tryz.ntmps19
    go_wp2
    go_ret2
    exact ⟨rfl, rfl⟩
  · have h1 : ¬ n < 1 := by omega
    go_enter Tryz.func19, Tryz.ntmps19
    go_wp2
    go_ret2
    exact ⟨rfl, rfl⟩
def arZ : Array Value := (([.pointer none, .int .i64 0, .int .u64 0] : List Value) ++ (List.range 64).map fun _ => Value.int .i64 0).toArray
theorem zero_ar (W : World) : Sem.run Tryz.prog (zeroValue 80) W = .ok (.agg arZ) W := by kernel_rfl
theorem arZ_new (B n : Nat) : (arZ.setIfInBounds 1 (.int .i64 n)).setIfInBounds 0 (ptr B) = arC B (newS n) := by
  have e : agesV (newS n).ag = (List.range 64).map fun _ => Value.int .i64 0 := by
    unfold agesV
    apply List.map_congr_left
    intro i _
    rw [newS_ag]; rfl
  have e2 : (newS n).tk = List.replicate n false := rfl
  unfold arC
  rw [e, e2, bitsN_none]
  simp [arZ]
theorem arZ_size : arZ.size = 67 := by kernel_rfl
theorem new_yes (n : Nat) (w : World) (h1 : 1 ≤ n) (h2 : n ≤ 64) : Calls Tryz.prog 19 #[.int .i64 n] w fun e w' => e = .returned (.tuple #[ptr w.heap.size, .int .i64 0]) ∧ AtC w' w.heap.size (arC w.heap.size (newS n)) ∧ Below w.heap.size w w' := by
  have i1 : ¬ (n : Int) < 1 := by omega
  have i2 : ¬ (64 : Int) < n := by omega
  have hz := zero_ar
  have hs := arZ_size
  go_enter Tryz.func19, Tryz.ntmps19
  go_wp2
  go_ret2
  have q := AtC.new w (arC w.heap.size (newS n)) 80
  rw [← arZ_new] at q
  exact ⟨rfl, by rw [← arZ_new]; exact q, (Below.refl _ _).alloc (Nat.le_refl _) _⟩
/-! ## All -/
abbrev vi (x : Int) : Value := .int .i64 x
/-- A row of whole numbers of the call's own (from block 'base' on). -/
def OwnI (w : World) (base : Nat) (v : Value) (l : List Int) : Prop := w.ownsRow base 3 1 v l.length (l.map vi)
theorem OwnI.lt {w : World} {base : Nat} {v : Value} {l : List Int} (h : OwnI w base v l) : ∀ k, v.ownBlock = some k → base ≤ k ∧ k < w.heap.size := World.ownsRow.lt (show w.ownsRow _ _ _ _ _ _ from h)
theorem OwnI.nil_ (w : World) (base : Nat) : OwnI w base (.slice none 0 0) [] := ⟨rfl, .inl ⟨rfl, rfl⟩⟩
theorem OwnI.base {w : World} {base base' : Nat} {v : Value} {l : List Int} (h : OwnI w base v l) (hb : base' ≤ base) : OwnI w base' v l := by
  refine ⟨h.1, ?_⟩
  rcases h.2 with h2 | ⟨g, cap, cur, e, hg, r⟩
  · exact .inl h2
  · exact .inr ⟨g, cap, cur, e, Nat.le_trans hb hg, r⟩
theorem OwnI.kept {w w' : World} {base : Nat} {v : Value} {l : List Int} {P : Nat → Prop} (h : OwnI w base v l) (hk : Kept w w' P) (hp : ∀ k, base ≤ k → P k) : OwnI w' base v l := by
  refine ⟨h.1, ?_⟩
  rcases h.2 with h2 | ⟨g, cap, cur, e, hg, hh, r⟩
  · exact .inl h2
  · exact .inr ⟨g, cap, cur, e, hg, by rw [hk.block g ((Array.getElem?_eq_some_iff.1 hh).1) (hp g hg)]; exact hh, r⟩
theorem OwnI.below {w w' : World} {base : Nat} {v : Value} {l : List Int} (h : OwnI w base v l) (hb : Below w.heap.size w w') : OwnI w' base v l := h.kept (P := fun _ => True) (.of_below hb) fun _ _ => trivial
theorem OwnI.al {w : World} {base : Nat} {v : Value} {l : List Int} (h : OwnI w base v l) (o : Obj) : OwnI (w.alloc o) base v l := World.ownsRow.alloc h o
theorem info_int : (Tryz.prog.info? 3).map (fun i => (i.zero, i.size, i.bytes)) = some (some (.int .i64 0), 1, 8) := by kernel_rfl
/-- The taken slots below k, rising. -/
def allL (l : List Bool) (k : Nat) : List Int := ((List.range k).filter fun i => l.getD i false).map fun (i : Nat) => (i : Int)
theorem allL_len (l : List Bool) (k : Nat) : (allL l k).length ≤ k := by
  unfold allL; rw [List.length_map]; exact Nat.le_trans (List.length_filter_le _ _) (by simp)
theorem allL_no {l : List Bool} {k : Nat} (h : l.getD k false = false) : allL l (k + 1) = allL l k := by
  unfold allL; rw [List.range_succ, List.filter_append, show ([k].filter fun i => l.getD i false) = [] by rw [List.filter_cons, h]; rfl, List.append_nil]
theorem allL_yes {l : List Bool} {k : Nat} (h : l.getD k false = true) : allL l (k + 1) = allL l k ++ [(k : Int)] := by
  unfold allL; rw [List.range_succ, List.filter_append, List.map_append]
  rw [show ([k].filter fun i => l.getD i false) = [k] by rw [List.filter_cons, h]; rfl]; rfl
/-! ## Copy -/
theorem under_ar : Tryz.prog.underlying 80 = some (((Tryz.prog.underlying 80)).get!) := by kernel_rfl
theorem row_ar : (((Tryz.prog.underlying 80)).get!).isRow = true := by kernel_rfl
theorem size_ar : (Tryz.prog.info? 80).map (·.size) = some 67 := by kernel_rfl
theorem load_ar {W : World} {B : Nat} {C : Array Value} (h : AtC W B C) (hC : C.size = 67) : Sem.run Tryz.prog (Instr.loadAt 80 (ptr B)) W = .ok (.agg C) W :=
  run_loadAt_mid W B 0 80 C.toList _ (fun j v hv => by rw [Nat.zero_add, h.c j]; simpa using hv) under_ar row_ar (by rw [size_ar]; simp [hC])
theorem setCells_size (B : Nat) : ∀ (vs : List Value) (o : Nat) (w : World), (w.setCells B o vs).heap.size = w.heap.size
  | [], _, _ => rfl
  | v :: r, o, w => by rw [World.setCells, setCells_size B r]; simp [World.setCell]
theorem AtC.setAll {W : World} {B : Nat} {Z C : Array Value} (h : AtC W B Z) (hs : Z.size = C.size) : AtC (W.setCells B 0 C.toList) B C := by
  refine ⟨by rw [setCells_size]; exact h.lt, fun i => ?_, fun i => by rw [World.frozen?_setCells]; exact h.f i⟩
  by_cases hi : i < C.size
  · have := World.cell?_setCells_in B C.toList 0 W (fun j hj => by rw [Nat.zero_add, h.c j]; simp at hj; simp [hs, hj]) i (by simpa using hi)
    rw [Nat.zero_add] at this
    rw [this]; simp [hi]
  · rw [World.cell?_setCells_out B C.toList 0 W _ (fun _ _ => Or.inr (by simp; omega)), h.c i, Array.getElem?_eq_none (by omega), Array.getElem?_eq_none (by omega)]
theorem Below.setAll {a : World} {n : Nat} (B : Nat) (hB : n ≤ B) : ∀ (vs : List Value) (o : Nat) (w : World), Below n a w → Below n a (w.setCells B o vs)
  | [], _, _, h => h
  | v :: r, o, w, h => by rw [World.setCells]; exact Below.setAll B hB r _ _ (h.setCell (p := ⟨B, o, none⟩) hB v)
theorem arC_one (B : Nat) (s : Ar) : (arC B s).all (·.oneCell') = true := by
  rw [Array.all_eq_true_iff_forall_mem]
  intro v hv
  simp only [arC, agesV, List.mem_toArray, List.mem_append, List.mem_cons, List.mem_map, List.not_mem_nil, or_false] at hv
  rcases hv with (rfl | rfl | rfl) | ⟨_, _, rfl⟩ <;> rfl
theorem arC_move (B B' : Nat) (s : Ar) : (arC B s).setIfInBounds 0 (ptr B') = arC B' s := by simp [arC]
set_option maxHeartbeats 1000000 in
theorem copy_any (B : Nat) (s : Ar) (w : World) (hA : AtC w B (arC B s)) : Calls Tryz.prog 42 #[ptr B] w fun e w' => e = .returned (ptr w.heap.size) ∧ AtC w' w.heap.size (arC w.heap.size s) ∧ Below w.heap.size w w' := by
  have CM := Lib.hid (made_any B s w hA)
  have HA := Lib.hid hA
  have hsz := arC_size B s
  have hz := zero_ar
  have M := Lib.hid ((AtC.new w arZ 80).setAll (C := arC B s) (by rw [arZ_size, hsz]))
  have hb := Below.setAll (a := w) w.heap.size (Nat.le_refl _) (arC B s).toList 0 _ ((Below.refl w.heap.size w).alloc (Nat.le_refl _) (.cells arZ 80))
  have HT : Hid ((w.alloc (.cells arZ 80)).there w.heap.size 0 (arC B s).size) := Lib.hid (fun j hj => by
    have q := AtC.new w arZ 80
    rw [Nat.zero_add, q.c j, q.f j]
    have : j < arZ.size := by rw [arZ_size, ← hsz]; exact hj
    simp [this])
  clear hA
  go_enter Tryz.func42, Tryz.ntmps42
  go_upto_region 5 with ((go_at_call 65; ((with_reducible refine CM.out.mono ?_); rintro e w1 ⟨rfl, rfl⟩)))
  refine wp_region_lit ?_
  refine wpList_plain rfl fun K hK => ?_
  go_simp
  refine hK _ _ ?_; clear hK K
  refine wpList_plain rfl fun K hK => ?_
  go_simp
  refine hK _ _ ?_; clear hK K
  refine wpList_load_mid rfl 80 (.tmp 14) rfl B 0 rfl (arC B s).toList _ (fun j v hv => by rw [Nat.zero_add, HA.out.c j]; simpa using hv) under_ar row_ar (by rw [size_ar]; simp [hsz]) ?_
  refine wpList_plain rfl fun K hK => ?_
  go_simp
  refine hK _ _ ?_; clear hK K
  refine wpList_store_mid rfl 80 (.tmp 3) (.tmp 15) rfl w.heap.size 0 (arC B s) rfl rfl HT.out (by rw [size_ar, hsz]) (arC_one B s) ?_
  have hlt := M.out.lt
  have c0 := (M.out.c 0).trans (arC_0 B s)
  have f0 := M.out.f 0
  have HM := Lib.hid (arC_move B w.heap.size s)
  generalize (w.alloc (.cells arZ 80)).setCells w.heap.size 0 (arC B s).toList = w2 at *
  have f1 := M.out.f 0
  go_wp2
  go_ret
  refine ⟨rfl, ?_, hb.setCell (by simp) _⟩
  have q := M.out.set (i := 0) (by rw [hsz]; decide) (ptr w.heap.size)
  rw [HM.out] at q
  exact q
end Go.Proofs.YtlfbjgeobibnhaaGreatDoor
/-
  WALKS: New, Kids of a tree.
-/
namespace Go.Proofs.YtlfbjgeobibnhaaGreatDoor.TX
open Go.RowKit HL
open IX (ptr El cellsK OwnK IxAt Rw numOf mayS putL putE ins del takeL strK)
set_option maxRecDepth 100000
set_option linter.unusedVariables false
set_option linter.unusedSimpArgs false

theorem zero_cells : Tryz.zeroCells55 = (([.pointer none, .pointer none, .pointer none, .map none] : List Value) ++ cellsK obK (List.replicate 64 zeroOb)).toArray := by kernel_rfl
def freeS (n : Nat) : Sl := List.replicate n none
theorem freeS_obs (n : Nat) : obsOf (freeS n) = List.replicate 64 zeroOb := by
  apply List.ext_getElem?
  intro i
  by_cases hi : i < 64
  · rw [obsOf_at _ hi, List.getElem?_replicate, if_pos hi, freeS, List.getD_eq_getElem?_getD, List.getElem?_replicate]
    split <;> rfl
  · rw [List.getElem?_eq_none (by rw [obsOf_len]; omega), List.getElem?_eq_none (by simp; omega)]
theorem freeS_in {n k : Nat} {o : Ob} (h : In (freeS n) k o) : False := by
  unfold In freeS at h
  rw [List.getElem?_replicate] at h
  split at h <;> simp at h
theorem freeS_wf {n : Nat} (h : n ≤ 64) : Wf (freeS n) := ⟨fun i j a b q => (freeS_in q).elim, fun i a q => (freeS_in q).elim, fun i a q => (freeS_in q).elim, by simp [freeS]; exact h⟩
theorem freeS_rows {n : Nat} (h : n ≤ 64) (o : Option Bs) : rowsOf (freeS n) o = [] := by
  apply List.eq_nil_iff_forall_not_mem.2
  intro r hr
  obtain ⟨k, a, _, q, _⟩ := (mem_rowsOf (freeS_wf h)).1 hr
  exact freeS_in q
set_option maxHeartbeats 1000000 in
theorem new_no (n : Int) (w : World) (h : n < 1 ∨ 64 < n) : Calls Tryz.prog 6 #[.int .i64 n] w fun e w' => e = .returned (.tuple #[.pointer none, .int .i64 2]) ∧ w = w' := by
  have C := Lib.hid (Go.Proofs.YtlfbjgeobibnhaaGreatDoor.new_no n w h)
  clear h
  go_enter Tryz.func6, Tryz.ntmps6
  go_wp2_with (go_at_call 19; ((with_reducible refine C.out.mono ?_); rintro e w1 ⟨rfl, rfl⟩))
  go_ret2
  exact ⟨rfl, rfl⟩
set_option maxHeartbeats 4000000 in
theorem new_yes (n : Nat) (w : World) (h1 : 1 ≤ n) (h2 : n ≤ 64) : Calls Tryz.prog 6 #[.int .i64 n] w fun e w' => ∃ L, e = .returned (.tuple #[ptr L.T, .int .i64 0]) ∧ Tree w' w.heap.size L (freeS n) ∧ L.n = 0 ∧ Below w.heap.size w w' := by
  have C := Lib.hid (Go.Proofs.YtlfbjgeobibnhaaGreatDoor.new_yes n w h1 h2)
  have CN := Lib.hid IX.new_any
  have hmm := @run_makeMap Tryz.prog
  go_enter Tryz.func6, Tryz.ntmps6
  go_wp2_with (first
    | (go_at_call 19; ((with_reducible refine C.out.mono ?_); rintro e w1 ⟨rfl, a1, k1⟩; have A1 := Lib.hid a1; clear a1))
    | (go_at_call 20; ((with_reducible refine (CN.out _).mono ?_); rintro e w2 ⟨rfl, i2, k2⟩; have I2 := Lib.hid i2; clear i2)))
  go_ret2
  have z1 := A1.out.lt
  have z2 := I2.out.a.lt
  have z3 := k1.size
  have z4 := k2.size
  obtain ⟨L, hL⟩ : ∃ L : Lay, L = { T := w2.heap.size + 1, A := w.heap.size, P := w1.heap.size, M := w2.heap.size, vP := .slice none 0 0, f := fun _ => none, V := fun _ => .slice none 0 0, g := fun j => if j = w2.heap.size + 1 then .tr else if j = w.heap.size then .ar else if j = w1.heap.size then .ix none else if j = w2.heap.size then .mp else .other, n := 0, ag := List.replicate n 0 } := ⟨_, rfl⟩
  have hC : ((((Tryz.zeroCells55.setIfInBounds 1 (ptr w.heap.size)).setIfInBounds 2 (ptr w1.heap.size)).setIfInBounds 3 (.map (some w2.heap.size))).setIfInBounds 0 (ptr (w2.heap.size + 1))) = trC L (freeS n) := by
    subst hL
    simp [zero_cells, trC, freeS_obs]
  have hbm : Below w2.heap.size w2 ((w2.alloc (.map #[] 0)).alloc (.cells (trC L (freeS n)) 55)) := bAl (bAl (Below.refl _ _) _) _
  have hbw := bThen (bThen k1 k2) hbm
  refine ⟨L, ?_, ?_, by rw [hL], ?_⟩
  · rw [hL]; rfl
  · have hT : L.T = w2.heap.size + 1 := by rw [hL]
    have ma := (A1.out.then k2).then hbm
    refine ⟨?_, freeS_wf h2⟩
    show TrAt ((w2.alloc (.map #[] 0)).alloc (.cells ((((Tryz.zeroCells55.setIfInBounds 1 (ptr w.heap.size)).setIfInBounds 2 (ptr w1.heap.size)).setIfInBounds 3 (.map (some w2.heap.size))).setIfInBounds 0 (ptr (w2.heap.size + 1))) 55)) w.heap.size L ((freeS n).map Option.isSome) (rowsOf (freeS n) none) (freeS n) (fun p => rowsOf (freeS n) (some p))
    rw [hC]
    have mc : AtC ((w2.alloc (.map #[] 0)).alloc (.cells (trC L (freeS n)) 55)) L.T (trC L (freeS n)) := AtC.newAt (by rw [hT]; simp)
    have htk : (freeS n).map Option.isSome = List.replicate n false := by simp [freeS]
    have mm : MapAt ((w2.alloc (.map #[] 0)).alloc (.cells (trC L (freeS n)) 55)) w2.heap.size 0 (fun _ => none) := (MapAt.made w2).kept ((IX.Kept.refl _ (fun _ => True)).alloc _) trivial
    have hr := fun o => freeS_rows h2 o
    rw [hr none, htk]
    clear hC hbm hbw hT
    have n1 : ¬ w.heap.size = w2.heap.size + 1 := by omega
    have n2 : ¬ w2.heap.size = w2.heap.size + 1 := by omega
    have n3 : ¬ w2.heap.size = w.heap.size := by omega
    have n4 : ¬ w2.heap.size = w1.heap.size := by omega
    have n5 : ¬ w1.heap.size = w2.heap.size + 1 := by omega
    have n6 : ¬ w1.heap.size = w.heap.size := by omega
    subst hL
    exact {
      c := mc
      a := ma
      ok := ⟨by simpa using h1, by simpa using h2, by simp⟩
      age := fun i => by simp [List.getD_eq_getElem?_getD, List.getElem?_replicate]; split <;> simp
      p := I2.out.then (bAl (bAl (Below.refl _ _) _) _)
      m := mm
      k := fun x B e => by cases e
      z := fun x _ => hr (some x)
      gT := if_pos rfl
      gA := (if_neg n1).trans (if_pos rfl)
      gM := (if_neg n2).trans ((if_neg n3).trans ((if_neg n4).trans (if_pos rfl)))
      gP := (if_neg n5).trans ((if_neg n6).trans (if_pos rfl))
      gV := fun j e => by simp [Value.ownBlock] at e
      lt := fun j e => by
        simp only at e
        split at e
        · subst_vars; simp; omega
        · split at e
          · subst_vars; simp; omega
          · split at e
            · subst_vars; simp; omega
            · split at e
              · subst_vars; simp; omega
              · exact absurd rfl e
      ln := by simp [freeS] }
  · rw [hC]; exact hbw
end Go.Proofs.YtlfbjgeobibnhaaGreatDoor.TX
