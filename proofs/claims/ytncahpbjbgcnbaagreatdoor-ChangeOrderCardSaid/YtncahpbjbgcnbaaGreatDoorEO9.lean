/-
  WALKS: wf's Find, climb, Mds.
-/
import Derived.Test.YtncahpbjbgcnbaaGreatDoorEO2
import Derived.WalkMore
import Derived.Test.YtncahpbjbgcnbaaGreatDoorEO7
import Derived.Test.YtncahpbjbgcnbaaGreatDoorEO4
import Derived.Deep.RegionHeld3
namespace Go.Proofs.YtncahpbjbgcnbaaGreatDoor.WX
open Go.RowKit HL
open IX (ptr El cellsK cellsK_at OwnK RdK strK)
set_option maxRecDepth 100000
set_option linter.unusedVariables false
set_option linter.unusedSimpArgs false

theorem ret_ob2 {fn : Func} {R : Ending → World → Prop} {act : Act} {W : World} {B : Nat} {o : Ob} {b : Bool} {p q : Tmp} (hr : fn.results = #[.cell p 35, .tmp q]) (hp : act.tmps.getD p undef = .pointer (some ⟨B, 0, none⟩)) (hq : act.tmps.getD q undef = .bool b) (hd : act.defers = [])
    (h : AtC W B (obCells o)) (hR : R (.returned (.tuple #[ob o, .bool b])) W) : bodyPost Tryz.prog fn R .ret act W := by
  refine bodyPost_ret (v := .tuple #[ob o, .bool b]) ?_ hd hR
  have h0 := h.c
  simp at hp hq
  simp only [results, hr]
  simp [Sem.run_bind, Result.andThen, hp, hq, go_sem, h0]
/-- The first object of that handle. -/
def findO (l : List Ob) (h : Bs) : Option Ob := l.find? fun o => decide (hb o = h)
theorem findO_some {l : List Ob} {h : Bs} {o : Ob} (e : findO l h = some o) : o ∈ l ∧ hb o = h := ⟨List.mem_of_find?_eq_some e, by simpa using List.find?_some e⟩
theorem findO_none {l : List Ob} {h : Bs} : findO l h = none ↔ ∀ o ∈ l, hb o ≠ h := by
  unfold findO
  rw [List.find?_eq_none]
  simp
theorem findO_at {l : List Ob} {h : Bs} {k : Nat} (hk : k < l.length) (hn : ∀ a ∈ l.take k, hb a ≠ h) (he : hb l[k] = h) : findO l h = some l[k] := by
  have e : l = l.take k ++ l[k] :: l.drop (k + 1) := by rw [List.getElem_cons_drop, List.take_append_drop]
  unfold findO
  conv => lhs; rw [e]
  rw [List.find?_append, List.find?_eq_none.2 (by simpa using hn), List.find?_cons_of_pos (by simp [he])]
  rfl
/-- Where it is. -/
def ixO (l : List Ob) (h : Bs) : Int := match l.findIdx? (fun o => decide (hb o = h)) with
  | some k => (k : Int)
  | none => -1
/-- What Find tells. -/
def obO (x : Option Ob) : Ob := x.getD zeroOb
end Go.Proofs.YtncahpbjbgcnbaaGreatDoor.WX
/-
  WALKS: the first object of a handle: the program's place and find, the document's Find.
-/
namespace Go.Proofs.YtncahpbjbgcnbaaGreatDoor.DX
open Go.RowKit HL
open IX (ptr El cellsK cellsK_at OwnK RdK strK)
open WX (obK obs_at hb pb rb tl_ne bs_eq findO findO_some findO_none findO_at obO ret_ob2)
set_option maxRecDepth 100000
set_option linter.unusedVariables false
set_option linter.unusedSimpArgs false

/-- k is where the first object of that handle stands. -/
def FirstAt (l : List Ob) (x : Bs) (k : Nat) : Prop := ∃ h : k < l.length, (∀ a ∈ l.take k, hb a ≠ x) ∧ hb l[k] = x
theorem FirstAt.find {l : List Ob} {x : Bs} {k : Nat} (h : FirstAt l x k) : ∃ h : k < l.length, findO l x = some l[k] := ⟨h.1, findO_at h.1 h.2.1 h.2.2⟩
/-- What place answers. -/
def PlaceIs (l : List Ob) (x : Bs) (i : Int) : Prop := (∃ k : Nat, i = k ∧ FirstAt l x k) ∨ (i = -1 ∧ ∀ a ∈ l, hb a ≠ x)
set_option maxHeartbeats 2000000 in
theorem place1_any (o : Ob) (x : ByteArray) (B : Nat) (w : World) (hB : B < w.heap.size) (hc : w.cell? ⟨B, 0, none⟩ = some (.string x)) : Calls Tryz.prog 67 #[ob o, ptr B] w fun e w' => e = .returned (.bool (o.handle.toList == x.toList)) ∧ Below w.heap.size w w' := by
  have hc2 : (w.alloc (.cells (obCells o) 35)).cell? ⟨B, 0, none⟩ = some (.string x) := ((bAl (Below.refl _ _) _ : Below w.heap.size w _).cell (p := ⟨B, 0, none⟩) hB).trans hc
  have hb0 : Below w.heap.size w w := Below.refl _ _
  have mc := (AtC.new w (obCells o) 35).c
  go_enter Tryz.func67, Tryz.ntmps67
  go_wp2
  go_ret
  exact ⟨rfl, bAl hb0 _⟩
set_option maxHeartbeats 4000000 in
theorem indexP_any {A : Option Addr} (l : List Ob) (c : Nat) (x : ByteArray) (B : Nat) (w : World) (hr : RdK obK w w.heap.size A l) (hl : l.length ≤ 1000000) (hB : B < w.heap.size) (hc : w.cell? ⟨B, 0, none⟩ = some (.string x)) :
    Calls Tryz.prog 66 #[.slice A l.length c, .func (.func 67) #[] #[ptr B]] w fun e w' => (∃ i : Int, e = .returned (.int .i64 i) ∧ PlaceIs l x.data.toList i) ∧ Below w.heap.size w w' := by
  have HR := Lib.hid hr
  have C1 := Lib.hid (fun (o : Ob) W (q : Below w.heap.size w W) => place1_any o x B W (Nat.lt_of_lt_of_le hB q.size) ((q.cell (p := ⟨B, 0, none⟩) hB).trans hc))
  clear hr hB hc
  go_enter Tryz.func66, Tryz.ntmps66
  go_wp2
  go_loopw [8] (fun i wr => ∃ k : Nat, i = .int .i64 k ∧ k ≤ l.length ∧ Hid (∀ a ∈ l.take k, hb a ≠ x.data.toList) ∧ Below w.heap.size w wr) (fun i _ => l.length - (intOf i).toNat)
  case atStart => exact ⟨0, rfl, Nat.zero_le _, Lib.hid (by simp), Below.refl _ _⟩
  case round =>
    obtain ⟨k, rfl, hk, HN, k1⟩ := hrel
    have K1 := Lib.hid k1
    by_cases hlt : k < l.length
    · have i1 : (k : Int) < l.length := by omega
      obtain ⟨b, off, rfl, hbk, hc⟩ := obs_at (HR.out.below k1) (by omega)
      obtain ⟨c0, c1, c2, c3, c4, c5, c6, c7, c8, c9, c10, c11, c12, c13⟩ := hc k _ (List.getElem?_eq_getElem hlt)
      have CC := C1.out l[k] wr k1
      have HF : Hid (hb l[k] = x.data.toList → PlaceIs l x.data.toList k) := Lib.hid (fun q => .inl ⟨k, rfl, hlt, HN.out, q⟩)
      have HT : Hid (hb l[k] ≠ x.data.toList → ∀ a ∈ l.take (k + 1), hb a ≠ x.data.toList) := Lib.hid (fun q a ha => by
        rw [List.take_succ_eq_append_getElem hlt] at ha
        rcases List.mem_append.1 ha with h | h
        · exact HN.out a h
        · obtain rfl : a = l[k] := by simpa using h
          exact q)
      clear hc k1
      generalize l[k] = o at *
      by_cases he : o.handle = x
      · have e1 : (o.handle.toList == x.toList) = true := by rw [he]; simp
        rw [e1] at CC
        have CC := Lib.hid CC
        have HV := Lib.hid (HF.out (by show o.handle.data.toList = _; rw [he]))
        clear he e1 HT HF
        go_wp2_with (go_at_call 67; ((with_reducible refine CC.out.mono ?_); rintro e w3 ⟨rfl, k3⟩))
        go_ret
        exact ⟨⟨k, rfl, HV.out⟩, bThen K1.out k3⟩
      · rw [tl_ne he] at CC
        have CC := Lib.hid CC
        have HV := Lib.hid (HT.out fun z => he (bs_eq z))
        clear he HT HF
        go_wp2_with (go_at_call 67; ((with_reducible refine CC.out.mono ?_); rintro e w3 ⟨rfl, k3⟩))
        go_roundw
        case rel => exact ⟨k + 1, by go_num, by omega, HV, bThen K1.out k3⟩
        case measure => simp [intOf]; omega
    · obtain rfl : k = l.length := by omega
      have i1 : ¬ (l.length : Int) < l.length := by omega
      have HV : Hid (PlaceIs l x.data.toList (-1)) := Lib.hid (.inr ⟨rfl, by have := HN.out; rwa [List.take_length] at this⟩)
      go_wp2
      go_ret
      exact ⟨⟨-1, rfl, HV.out⟩, K1.out⟩
set_option maxHeartbeats 4000000 in
theorem place_any {A : Option Addr} (l : List Ob) (c : Nat) (x : ByteArray) (w : World) (hr : RdK obK w w.heap.size A l) (hl : l.length ≤ 1000000) :
    Calls Tryz.prog 50 #[.slice A l.length c, .string x] w fun e w' => (∃ i : Int, e = .returned (.int .i64 i) ∧ PlaceIs l x.data.toList i) ∧ Below w.heap.size w w' := by
  have hb0 : Below w.heap.size w w := Below.refl _ _
  have CI : Hid (∀ W, Below (w.alloc (.cells #[.string x] 9)).heap.size (w.alloc (.cells #[.string x] 9)) W → Calls Tryz.prog 66 #[.slice A l.length c, .func (.func 67) #[] #[ptr w.heap.size]] W fun e w' => (∃ i : Int, e = .returned (.int .i64 i) ∧ PlaceIs l x.data.toList i) ∧ Below W.heap.size W w') := Lib.hid (fun W q => by
    have b1 : Below w.heap.size w W := (bAl hb0 _).trans (q.mono (by simp))
    have mx := (AtC.new w #[.string x] 9).then q
    exact indexP_any l c x w.heap.size W ((hr.below b1).more b1.size) hl mx.lt (mx.c 0))
  clear hr
  go_enter Tryz.func50, Tryz.ntmps50
  go_wp2_with (go_at_call 66; ((with_reducible refine (CI.out _ (Below.refl _ _)).mono ?_); rintro e w3 ⟨⟨i, rfl, hi⟩, k3⟩; have K3 := Lib.hid (bThen (bAl hb0 _) k3); have HI := Lib.hid hi; clear hi k3))
  go_ret
  exact ⟨⟨i, rfl, HI.out⟩, K3.out⟩
set_option maxHeartbeats 4000000 in
theorem findP_any {A : Option Addr} (l : List Ob) (c : Nat) (x : ByteArray) (w : World) (hr : RdK obK w w.heap.size A l) (hl : l.length ≤ 1000000) :
    Calls Tryz.prog 42 #[.slice A l.length c, .string x] w fun e w' => e = .returned (.tuple #[ob (obO (findO l x.data.toList)), .bool (findO l x.data.toList).isSome]) ∧ Below w.heap.size w w' := by
  have hb0 : Below w.heap.size w w := Below.refl _ _
  have HR := Lib.hid hr
  have CI : Hid (∀ W, Below w.heap.size w W → Calls Tryz.prog 50 #[.slice A l.length c, .string x] W fun e w' => (∃ i : Int, e = .returned (.int .i64 i) ∧ PlaceIs l x.data.toList i) ∧ Below W.heap.size W w') := Lib.hid (fun W q => place_any l c x W ((hr.below q).more q.size) hl)
  clear hr
  cases e : findO l x.data.toList with
  | none =>
    have CJ : Hid (∀ W, Below w.heap.size w W → Calls Tryz.prog 50 #[.slice A l.length c, .string x] W fun e w' => e = .returned (.int .i64 (-1)) ∧ Below W.heap.size W w') := Lib.hid (fun W q => (CI.out W q).mono fun e2 w' ⟨⟨i, he, hi⟩, k⟩ => ⟨by
      rcases hi with ⟨j, _, hj⟩ | ⟨z, _⟩
      · obtain ⟨_, hf⟩ := hj.find
        rw [e] at hf; cases hf
      · rw [he, z], k⟩)
    clear e CI HR
    go_enter Tryz.func42, Tryz.ntmps42
    go_wp2_with (go_at_call 50; ((with_reducible refine (CJ.out _ (bAl hb0 _)).mono ?_); rintro e w3 ⟨rfl, k3⟩; have mR := (AtC.newAt (w := w) (B := w.heap.size) rfl).then k3; have rc := mR.c; have rf := mR.f; have rl := mR.lt; have MR := Lib.hid mR; clear mR; have K3 := Lib.hid (bThen (bAl hb0 _) k3)))
    exact ret_ob2 (o := zeroOb) rfl rfl rfl rfl (AtC.fill MR.out rfl _ _ _ _ _ _ _ _ _ _ _ _ _ _) ⟨rfl, bFill K3.out (Nat.le_refl _) _ _ _ _ _ _ _ _ _ _ _ _ _ _⟩
  | some o =>
    have CJ : Hid (∀ W, Below w.heap.size w W → Calls Tryz.prog 50 #[.slice A l.length c, .string x] W fun e w' => ∃ k : Nat, e = .returned (.int .i64 k) ∧ l[k]? = some o ∧ Below W.heap.size W w') := Lib.hid (fun W q => (CI.out W q).mono fun e2 w' ⟨⟨i, he, hi⟩, k⟩ => by
      rcases hi with ⟨j, z1, hj⟩ | ⟨_, z⟩
      · obtain ⟨hlt, hf⟩ := hj.find
        rw [e] at hf
        refine ⟨j, by rw [he, z1], ?_, k⟩
        rw [List.getElem?_eq_getElem hlt]; exact hf.symm
      · rw [findO_none.2 z] at e; cases e)
    clear e CI
    go_enter Tryz.func42, Tryz.ntmps42
    go_wp2_with (go_at_call 50; ((with_reducible refine (CJ.out _ (bAl hb0 _)).mono ?_); rintro e w3 ⟨k, rfl, hk, k3⟩; have mR := (AtC.newAt (w := w) (B := w.heap.size) rfl).then k3; have rc := mR.c; have rf := mR.f; have rl := mR.lt; have MR := Lib.hid mR; clear mR; have K3 := Lib.hid (bThen (bAl hb0 _) k3); have hkl := (List.getElem?_eq_some_iff.1 hk).1; have i1 : (k : Int) < l.length := (by omega); obtain ⟨b, off, rfl, hbk, hc⟩ := obs_at (HR.out.below K3.out) (by omega); obtain ⟨c0, c1, c2, c3, c4, c5, c6, c7, c8, c9, c10, c11, c12, c13⟩ := hc k o hk; clear hc))
    exact ret_ob2 (o := o) rfl rfl rfl rfl (AtC.fill MR.out rfl _ _ _ _ _ _ _ _ _ _ _ _ _ _) ⟨rfl, bFill K3.out (Nat.le_refl _) _ _ _ _ _ _ _ _ _ _ _ _ _ _⟩
set_option maxHeartbeats 8000000 in
theorem refFind_any {A : Option Addr} (l : List Ob) (c : Nat) (x : ByteArray) (w : World) (hr : RdK obK w w.heap.size A l) (hl : l.length ≤ 1000000) :
    Calls Tryz.prog 23 #[.slice A l.length c, .string x] w fun e w' => e = .returned (.tuple #[ob (obO (findO l x.data.toList)), .bool (findO l x.data.toList).isSome]) ∧ Below w.heap.size w w' := by
  have HR := Lib.hid hr
  have mA := AtC.new w (obCells zeroOb) 35
  have hA := bAl (Below.refl w.heap.size w) (.cells (obCells zeroOb) 35)
  have MA := Lib.hid mA
  have HA := Lib.hid hA
  clear hr mA hA
  go_enter Tryz.func23, Tryz.ntmps23
  go_wp2
  go_loopw [6] (fun i wr => ∃ k : Nat, i = .int .i64 k ∧ k ≤ l.length ∧ Hid (∀ a ∈ l.take k, hb a ≠ x.data.toList) ∧ AtC wr w.heap.size (obCells zeroOb) ∧ Below w.heap.size w wr) (fun i _ => l.length - (intOf i).toNat)
  case atStart => exact ⟨0, rfl, Nat.zero_le _, Lib.hid (by simp), MA.out, HA.out⟩
  case round =>
    obtain ⟨k, rfl, hk, HN, mR, k1⟩ := hrel
    have K1 := Lib.hid k1
    have rc := mR.c
    have rf := mR.f
    have rl := mR.lt
    have MR := Lib.hid mR
    by_cases hlt : k < l.length
    · have i1 : (k : Int) < l.length := by omega
      obtain ⟨b, off, rfl, hbk, hc⟩ := obs_at (HR.out.below k1) (by omega)
      obtain ⟨c0, c1, c2, c3, c4, c5, c6, c7, c8, c9, c10, c11, c12, c13⟩ := hc k _ (List.getElem?_eq_getElem hlt)
      have HF : Hid (hb l[k] = x.data.toList → findO l x.data.toList = some l[k]) := Lib.hid (findO_at hlt HN.out)
      have HT : Hid (hb l[k] ≠ x.data.toList → ∀ a ∈ l.take (k + 1), hb a ≠ x.data.toList) := Lib.hid (fun q a ha => by
        rw [List.take_succ_eq_append_getElem hlt] at ha
        rcases List.mem_append.1 ha with h | h
        · exact HN.out a h
        · obtain rfl : a = l[k] := by simpa using h
          exact q)
      clear hc k1 mR
      generalize l[k] = o at *
      by_cases he : o.handle = x
      · have e1 : (o.handle.toList == x.toList) = true := by rw [he]; simp
        have HV := Lib.hid (HF.out (by show o.handle.data.toList = _; rw [he]))
        clear he HT HF
        go_wp2
        rw [HV.out]
        exact ret_ob2 (o := o) rfl rfl rfl rfl (AtC.fill MR.out rfl _ _ _ _ _ _ _ _ _ _ _ _ _ _) ⟨rfl, bFill K1.out (Nat.le_refl _) _ _ _ _ _ _ _ _ _ _ _ _ _ _⟩
      · have e1 := tl_ne he
        have HV := Lib.hid (HT.out fun z => he (bs_eq z))
        clear he HT HF
        go_wp2
        go_roundw
        case rel => exact ⟨k + 1, by go_num, by omega, HV, MR.out, K1.out⟩
        case measure => simp [intOf]; omega
    · obtain rfl : k = l.length := by omega
      have i1 : ¬ (l.length : Int) < l.length := by omega
      have HV : Hid (findO l x.data.toList = none) := Lib.hid (findO_none.2 (by have := HN.out; rwa [List.take_length] at this))
      clear mR
      go_wp2
      rw [HV.out]
      exact ret_ob2 (o := zeroOb) rfl rfl rfl rfl (AtC.fill MR.out rfl _ _ _ _ _ _ _ _ _ _ _ _ _ _) ⟨rfl, bFill K1.out (Nat.le_refl _) _ _ _ _ _ _ _ _ _ _ _ _ _ _⟩
end Go.Proofs.YtncahpbjbgcnbaaGreatDoor.DX
/-
  WALKS: whether one change can be done to a list of objects: the program's fit and the document's fits.
-/
namespace Go.Proofs.YtncahpbjbgcnbaaGreatDoor.DX
open Go.RowKit HL
open IX (ptr El cellsK cellsK_at OwnK RdK strK)
open WX (obK obs_at hb pb rb tl_ne bs_eq findO findO_some findO_none findO_at obO ret_ob2)
set_option maxRecDepth 100000
set_option linter.unusedVariables false
set_option linter.unusedSimpArgs false

/-- The error of a change that cannot be done to that object, which is there or not. -/
def fitB (was : Ob) (there : Bool) (c : Ch) : Int :=
  if c.kind = 1 then (if there = true then 71 else 0) else if there = false then 70 else if c.kind = 4 then 0 else if was.kind ≠ c.o.kind then 40 else if c.kind = 2 ∧ was.parent ≠ c.o.parent then 50 else 0
set_option maxHeartbeats 8000000 in
theorem fit_1 (was o : Ob) (b : Bool) {A : Option Addr} (m n : Nat) (w : World)
    (C : ∀ W, Below w.heap.size w W → Calls Tryz.prog 42 #[.slice A m n, .string o.handle] W fun e w' => e = .returned (.tuple #[ob was, .bool b]) ∧ Below W.heap.size W w') :
    Calls Tryz.prog 35 #[.slice A m n, ch ⟨1, o⟩] w fun e w' => e = .returned (.int .i64 (fitB was b ⟨1, o⟩)) ∧ Below w.heap.size w w' := by
  have hb0 : Below w.heap.size w w := Below.refl _ _
  have CF := Lib.hid C
  clear C
  cases b with
  | true =>
    have HV : Hid (fitB was true ⟨1, o⟩ = 71) := Lib.hid rfl
    go_enter Tryz.func35, Tryz.ntmps35
    go_wp2_with (go_at_call 42; ((with_reducible refine (CF.out _ (bAl hb0 _)).mono ?_); rintro e w3 ⟨rfl, k3⟩; have mC := (AtC.new _ _ _).then k3; have mc := mC.c; have ml := mC.lt; clear mC; have K3 := Lib.hid (bThen (bAl hb0 _) k3)))
    go_ret
    exact ⟨by rw [HV.out]; rfl, bAl K3.out _⟩
  | false =>
    have HV : Hid (fitB was false ⟨1, o⟩ = 0) := Lib.hid rfl
    go_enter Tryz.func35, Tryz.ntmps35
    go_wp2_with (go_at_call 42; ((with_reducible refine (CF.out _ (bAl hb0 _)).mono ?_); rintro e w3 ⟨rfl, k3⟩; have mC := (AtC.new _ _ _).then k3; have mc := mC.c; have ml := mC.lt; clear mC; have K3 := Lib.hid (bThen (bAl hb0 _) k3)))
    go_ret
    exact ⟨by rw [HV.out]; rfl, bAl K3.out _⟩
set_option maxHeartbeats 8000000 in
theorem fit_2 (was o : Ob) (b : Bool) {A : Option Addr} (m n : Nat) (w : World)
    (C : ∀ W, Below w.heap.size w W → Calls Tryz.prog 42 #[.slice A m n, .string o.handle] W fun e w' => e = .returned (.tuple #[ob was, .bool b]) ∧ Below W.heap.size W w') :
    Calls Tryz.prog 35 #[.slice A m n, ch ⟨2, o⟩] w fun e w' => e = .returned (.int .i64 (fitB was b ⟨2, o⟩)) ∧ Below w.heap.size w w' := by
  have hb0 : Below w.heap.size w w := Below.refl _ _
  have CF := Lib.hid C
  clear C
  obtain ⟨a0, a1, a2, a3, a4, a5, a6, a7, a8, a9, a10, a11, a12, a13⟩ := was
  obtain ⟨b0, b1, b2, b3, b4, b5, b6, b7, b8, b9, b10, b11, b12, b13⟩ := o
  dsimp only at CF
  by_cases h1 : a1 = b1
  · subst h1
    by_cases h2 : a2 = b2
    · subst h2
      cases b with
      | true =>
        have HV : Hid (fitB ⟨a0, a1, a2, a3, a4, a5, a6, a7, a8, a9, a10, a11, a12, a13⟩ true ⟨2, ⟨b0, a1, a2, b3, b4, b5, b6, b7, b8, b9, b10, b11, b12, b13⟩⟩ = 0) := Lib.hid (by simp [fitB])
        go_enter Tryz.func35, Tryz.ntmps35
        go_wp2_with (go_at_call 42; ((with_reducible refine (CF.out _ (bAl hb0 _)).mono ?_); rintro e w3 ⟨rfl, k3⟩; have mC := (AtC.new _ _ _).then k3; have mc := mC.c; have ml := mC.lt; clear mC; have K3 := Lib.hid (bThen (bAl hb0 _) k3)))
        go_ret
        exact ⟨by rw [HV.out]; rfl, bAl K3.out _⟩
      | false =>
        have HV : Hid (fitB ⟨a0, a1, a2, a3, a4, a5, a6, a7, a8, a9, a10, a11, a12, a13⟩ false ⟨2, ⟨b0, a1, a2, b3, b4, b5, b6, b7, b8, b9, b10, b11, b12, b13⟩⟩ = 70) := Lib.hid (by simp [fitB])
        go_enter Tryz.func35, Tryz.ntmps35
        go_wp2_with (go_at_call 42; ((with_reducible refine (CF.out _ (bAl hb0 _)).mono ?_); rintro e w3 ⟨rfl, k3⟩; have mC := (AtC.new _ _ _).then k3; have mc := mC.c; have ml := mC.lt; clear mC; have K3 := Lib.hid (bThen (bAl hb0 _) k3)))
        go_ret
        exact ⟨by rw [HV.out]; rfl, bAl K3.out _⟩
    · have e2 := tl_ne h2
      cases b with
      | true =>
        have HV : Hid (fitB ⟨a0, a1, a2, a3, a4, a5, a6, a7, a8, a9, a10, a11, a12, a13⟩ true ⟨2, ⟨b0, a1, b2, b3, b4, b5, b6, b7, b8, b9, b10, b11, b12, b13⟩⟩ = 50) := Lib.hid (by simp [fitB, h2])
        clear h2
        go_enter Tryz.func35, Tryz.ntmps35
        go_wp2_with (go_at_call 42; ((with_reducible refine (CF.out _ (bAl hb0 _)).mono ?_); rintro e w3 ⟨rfl, k3⟩; have mC := (AtC.new _ _ _).then k3; have mc := mC.c; have ml := mC.lt; clear mC; have K3 := Lib.hid (bThen (bAl hb0 _) k3)))
        go_ret
        exact ⟨by rw [HV.out]; rfl, bAl K3.out _⟩
      | false =>
        have HV : Hid (fitB ⟨a0, a1, a2, a3, a4, a5, a6, a7, a8, a9, a10, a11, a12, a13⟩ false ⟨2, ⟨b0, a1, b2, b3, b4, b5, b6, b7, b8, b9, b10, b11, b12, b13⟩⟩ = 70) := Lib.hid (by simp [fitB])
        clear h2
        go_enter Tryz.func35, Tryz.ntmps35
        go_wp2_with (go_at_call 42; ((with_reducible refine (CF.out _ (bAl hb0 _)).mono ?_); rintro e w3 ⟨rfl, k3⟩; have mC := (AtC.new _ _ _).then k3; have mc := mC.c; have ml := mC.lt; clear mC; have K3 := Lib.hid (bThen (bAl hb0 _) k3)))
        go_ret
        exact ⟨by rw [HV.out]; rfl, bAl K3.out _⟩
  · have i1 : ¬ (a1 : Int) = b1 := by omega
    by_cases h2 : a2 = b2
    · subst h2
      cases b with
      | true =>
        have HV : Hid (fitB ⟨a0, a1, a2, a3, a4, a5, a6, a7, a8, a9, a10, a11, a12, a13⟩ true ⟨2, ⟨b0, b1, a2, b3, b4, b5, b6, b7, b8, b9, b10, b11, b12, b13⟩⟩ = 40) := Lib.hid (by simp [fitB, h1])
        clear h1
        go_enter Tryz.func35, Tryz.ntmps35
        go_wp2_with (go_at_call 42; ((with_reducible refine (CF.out _ (bAl hb0 _)).mono ?_); rintro e w3 ⟨rfl, k3⟩; have mC := (AtC.new _ _ _).then k3; have mc := mC.c; have ml := mC.lt; clear mC; have K3 := Lib.hid (bThen (bAl hb0 _) k3)))
        go_ret
        exact ⟨by rw [HV.out]; rfl, bAl K3.out _⟩
      | false =>
        have HV : Hid (fitB ⟨a0, a1, a2, a3, a4, a5, a6, a7, a8, a9, a10, a11, a12, a13⟩ false ⟨2, ⟨b0, b1, a2, b3, b4, b5, b6, b7, b8, b9, b10, b11, b12, b13⟩⟩ = 70) := Lib.hid (by simp [fitB])
        clear h1
        go_enter Tryz.func35, Tryz.ntmps35
        go_wp2_with (go_at_call 42; ((with_reducible refine (CF.out _ (bAl hb0 _)).mono ?_); rintro e w3 ⟨rfl, k3⟩; have mC := (AtC.new _ _ _).then k3; have mc := mC.c; have ml := mC.lt; clear mC; have K3 := Lib.hid (bThen (bAl hb0 _) k3)))
        go_ret
        exact ⟨by rw [HV.out]; rfl, bAl K3.out _⟩
    · have e2 := tl_ne h2
      cases b with
      | true =>
        have HV : Hid (fitB ⟨a0, a1, a2, a3, a4, a5, a6, a7, a8, a9, a10, a11, a12, a13⟩ true ⟨2, ⟨b0, b1, b2, b3, b4, b5, b6, b7, b8, b9, b10, b11, b12, b13⟩⟩ = 40) := Lib.hid (by simp [fitB, h1])
        clear h1 h2
        go_enter Tryz.func35, Tryz.ntmps35
        go_wp2_with (go_at_call 42; ((with_reducible refine (CF.out _ (bAl hb0 _)).mono ?_); rintro e w3 ⟨rfl, k3⟩; have mC := (AtC.new _ _ _).then k3; have mc := mC.c; have ml := mC.lt; clear mC; have K3 := Lib.hid (bThen (bAl hb0 _) k3)))
        go_ret
        exact ⟨by rw [HV.out]; rfl, bAl K3.out _⟩
      | false =>
        have HV : Hid (fitB ⟨a0, a1, a2, a3, a4, a5, a6, a7, a8, a9, a10, a11, a12, a13⟩ false ⟨2, ⟨b0, b1, b2, b3, b4, b5, b6, b7, b8, b9, b10, b11, b12, b13⟩⟩ = 70) := Lib.hid (by simp [fitB])
        clear h1 h2
        go_enter Tryz.func35, Tryz.ntmps35
        go_wp2_with (go_at_call 42; ((with_reducible refine (CF.out _ (bAl hb0 _)).mono ?_); rintro e w3 ⟨rfl, k3⟩; have mC := (AtC.new _ _ _).then k3; have mc := mC.c; have ml := mC.lt; clear mC; have K3 := Lib.hid (bThen (bAl hb0 _) k3)))
        go_ret
        exact ⟨by rw [HV.out]; rfl, bAl K3.out _⟩
set_option maxHeartbeats 8000000 in
theorem fit_3 (was o : Ob) (b : Bool) {A : Option Addr} (m n : Nat) (w : World)
    (C : ∀ W, Below w.heap.size w W → Calls Tryz.prog 42 #[.slice A m n, .string o.handle] W fun e w' => e = .returned (.tuple #[ob was, .bool b]) ∧ Below W.heap.size W w') :
    Calls Tryz.prog 35 #[.slice A m n, ch ⟨3, o⟩] w fun e w' => e = .returned (.int .i64 (fitB was b ⟨3, o⟩)) ∧ Below w.heap.size w w' := by
  have hb0 : Below w.heap.size w w := Below.refl _ _
  have CF := Lib.hid C
  clear C
  obtain ⟨a0, a1, a2, a3, a4, a5, a6, a7, a8, a9, a10, a11, a12, a13⟩ := was
  obtain ⟨b0, b1, b2, b3, b4, b5, b6, b7, b8, b9, b10, b11, b12, b13⟩ := o
  dsimp only at CF
  by_cases h1 : a1 = b1
  · subst h1
    by_cases h2 : a2 = b2
    · subst h2
      cases b with
      | true =>
        have HV : Hid (fitB ⟨a0, a1, a2, a3, a4, a5, a6, a7, a8, a9, a10, a11, a12, a13⟩ true ⟨3, ⟨b0, a1, a2, b3, b4, b5, b6, b7, b8, b9, b10, b11, b12, b13⟩⟩ = 0) := Lib.hid (by simp [fitB])
        go_enter Tryz.func35, Tryz.ntmps35
        go_wp2_with (go_at_call 42; ((with_reducible refine (CF.out _ (bAl hb0 _)).mono ?_); rintro e w3 ⟨rfl, k3⟩; have mC := (AtC.new _ _ _).then k3; have mc := mC.c; have ml := mC.lt; clear mC; have K3 := Lib.hid (bThen (bAl hb0 _) k3)))
        go_ret
        exact ⟨by rw [HV.out]; rfl, bAl K3.out _⟩
      | false =>
        have HV : Hid (fitB ⟨a0, a1, a2, a3, a4, a5, a6, a7, a8, a9, a10, a11, a12, a13⟩ false ⟨3, ⟨b0, a1, a2, b3, b4, b5, b6, b7, b8, b9, b10, b11, b12, b13⟩⟩ = 70) := Lib.hid (by simp [fitB])
        go_enter Tryz.func35, Tryz.ntmps35
        go_wp2_with (go_at_call 42; ((with_reducible refine (CF.out _ (bAl hb0 _)).mono ?_); rintro e w3 ⟨rfl, k3⟩; have mC := (AtC.new _ _ _).then k3; have mc := mC.c; have ml := mC.lt; clear mC; have K3 := Lib.hid (bThen (bAl hb0 _) k3)))
        go_ret
        exact ⟨by rw [HV.out]; rfl, bAl K3.out _⟩
    · have e2 := tl_ne h2
      cases b with
      | true =>
        have HV : Hid (fitB ⟨a0, a1, a2, a3, a4, a5, a6, a7, a8, a9, a10, a11, a12, a13⟩ true ⟨3, ⟨b0, a1, b2, b3, b4, b5, b6, b7, b8, b9, b10, b11, b12, b13⟩⟩ = 0) := Lib.hid (by simp [fitB, h2])
        clear h2
        go_enter Tryz.func35, Tryz.ntmps35
        go_wp2_with (go_at_call 42; ((with_reducible refine (CF.out _ (bAl hb0 _)).mono ?_); rintro e w3 ⟨rfl, k3⟩; have mC := (AtC.new _ _ _).then k3; have mc := mC.c; have ml := mC.lt; clear mC; have K3 := Lib.hid (bThen (bAl hb0 _) k3)))
        go_ret
        exact ⟨by rw [HV.out]; rfl, bAl K3.out _⟩
      | false =>
        have HV : Hid (fitB ⟨a0, a1, a2, a3, a4, a5, a6, a7, a8, a9, a10, a11, a12, a13⟩ false ⟨3, ⟨b0, a1, b2, b3, b4, b5, b6, b7, b8, b9, b10, b11, b12, b13⟩⟩ = 70) := Lib.hid (by simp [fitB])
        clear h2
        go_enter Tryz.func35, Tryz.ntmps35
        go_wp2_with (go_at_call 42; ((with_reducible refine (CF.out _ (bAl hb0 _)).mono ?_); rintro e w3 ⟨rfl, k3⟩; have mC := (AtC.new _ _ _).then k3; have mc := mC.c; have ml := mC.lt; clear mC; have K3 := Lib.hid (bThen (bAl hb0 _) k3)))
        go_ret
        exact ⟨by rw [HV.out]; rfl, bAl K3.out _⟩
  · have i1 : ¬ (a1 : Int) = b1 := by omega
    by_cases h2 : a2 = b2
    · subst h2
      cases b with
      | true =>
        have HV : Hid (fitB ⟨a0, a1, a2, a3, a4, a5, a6, a7, a8, a9, a10, a11, a12, a13⟩ true ⟨3, ⟨b0, b1, a2, b3, b4, b5, b6, b7, b8, b9, b10, b11, b12, b13⟩⟩ = 40) := Lib.hid (by simp [fitB, h1])
        clear h1
        go_enter Tryz.func35, Tryz.ntmps35
        go_wp2_with (go_at_call 42; ((with_reducible refine (CF.out _ (bAl hb0 _)).mono ?_); rintro e w3 ⟨rfl, k3⟩; have mC := (AtC.new _ _ _).then k3; have mc := mC.c; have ml := mC.lt; clear mC; have K3 := Lib.hid (bThen (bAl hb0 _) k3)))
        go_ret
        exact ⟨by rw [HV.out]; rfl, bAl K3.out _⟩
      | false =>
        have HV : Hid (fitB ⟨a0, a1, a2, a3, a4, a5, a6, a7, a8, a9, a10, a11, a12, a13⟩ false ⟨3, ⟨b0, b1, a2, b3, b4, b5, b6, b7, b8, b9, b10, b11, b12, b13⟩⟩ = 70) := Lib.hid (by simp [fitB])
        clear h1
        go_enter Tryz.func35, Tryz.ntmps35
        go_wp2_with (go_at_call 42; ((with_reducible refine (CF.out _ (bAl hb0 _)).mono ?_); rintro e w3 ⟨rfl, k3⟩; have mC := (AtC.new _ _ _).then k3; have mc := mC.c; have ml := mC.lt; clear mC; have K3 := Lib.hid (bThen (bAl hb0 _) k3)))
        go_ret
        exact ⟨by rw [HV.out]; rfl, bAl K3.out _⟩
    · have e2 := tl_ne h2
      cases b with
      | true =>
        have HV : Hid (fitB ⟨a0, a1, a2, a3, a4, a5, a6, a7, a8, a9, a10, a11, a12, a13⟩ true ⟨3, ⟨b0, b1, b2, b3, b4, b5, b6, b7, b8, b9, b10, b11, b12, b13⟩⟩ = 40) := Lib.hid (by simp [fitB, h1])
        clear h1 h2
        go_enter Tryz.func35, Tryz.ntmps35
        go_wp2_with (go_at_call 42; ((with_reducible refine (CF.out _ (bAl hb0 _)).mono ?_); rintro e w3 ⟨rfl, k3⟩; have mC := (AtC.new _ _ _).then k3; have mc := mC.c; have ml := mC.lt; clear mC; have K3 := Lib.hid (bThen (bAl hb0 _) k3)))
        go_ret
        exact ⟨by rw [HV.out]; rfl, bAl K3.out _⟩
      | false =>
        have HV : Hid (fitB ⟨a0, a1, a2, a3, a4, a5, a6, a7, a8, a9, a10, a11, a12, a13⟩ false ⟨3, ⟨b0, b1, b2, b3, b4, b5, b6, b7, b8, b9, b10, b11, b12, b13⟩⟩ = 70) := Lib.hid (by simp [fitB])
        clear h1 h2
        go_enter Tryz.func35, Tryz.ntmps35
        go_wp2_with (go_at_call 42; ((with_reducible refine (CF.out _ (bAl hb0 _)).mono ?_); rintro e w3 ⟨rfl, k3⟩; have mC := (AtC.new _ _ _).then k3; have mc := mC.c; have ml := mC.lt; clear mC; have K3 := Lib.hid (bThen (bAl hb0 _) k3)))
        go_ret
        exact ⟨by rw [HV.out]; rfl, bAl K3.out _⟩
set_option maxHeartbeats 8000000 in
theorem fit_4 (was o : Ob) (b : Bool) {A : Option Addr} (m n : Nat) (w : World)
    (C : ∀ W, Below w.heap.size w W → Calls Tryz.prog 42 #[.slice A m n, .string o.handle] W fun e w' => e = .returned (.tuple #[ob was, .bool b]) ∧ Below W.heap.size W w') :
    Calls Tryz.prog 35 #[.slice A m n, ch ⟨4, o⟩] w fun e w' => e = .returned (.int .i64 (fitB was b ⟨4, o⟩)) ∧ Below w.heap.size w w' := by
  have hb0 : Below w.heap.size w w := Below.refl _ _
  have CF := Lib.hid C
  clear C
  cases b with
  | true =>
    have HV : Hid (fitB was true ⟨4, o⟩ = 0) := Lib.hid rfl
    go_enter Tryz.func35, Tryz.ntmps35
    go_wp2_with (go_at_call 42; ((with_reducible refine (CF.out _ (bAl hb0 _)).mono ?_); rintro e w3 ⟨rfl, k3⟩; have mC := (AtC.new _ _ _).then k3; have mc := mC.c; have ml := mC.lt; clear mC; have K3 := Lib.hid (bThen (bAl hb0 _) k3)))
    go_ret
    exact ⟨by rw [HV.out]; rfl, bAl K3.out _⟩
  | false =>
    have HV : Hid (fitB was false ⟨4, o⟩ = 70) := Lib.hid rfl
    go_enter Tryz.func35, Tryz.ntmps35
    go_wp2_with (go_at_call 42; ((with_reducible refine (CF.out _ (bAl hb0 _)).mono ?_); rintro e w3 ⟨rfl, k3⟩; have mC := (AtC.new _ _ _).then k3; have mc := mC.c; have ml := mC.lt; clear mC; have K3 := Lib.hid (bThen (bAl hb0 _) k3)))
    go_ret
    exact ⟨by rw [HV.out]; rfl, bAl K3.out _⟩
theorem fit_any (was : Ob) (b : Bool) (c : Ch) {A : Option Addr} (m n : Nat) (w : World) (hk : c.kind = 1 ∨ c.kind = 2 ∨ c.kind = 3 ∨ c.kind = 4)
    (C : ∀ W, Below w.heap.size w W → Calls Tryz.prog 42 #[.slice A m n, .string c.o.handle] W fun e w' => e = .returned (.tuple #[ob was, .bool b]) ∧ Below W.heap.size W w') :
    Calls Tryz.prog 35 #[.slice A m n, ch c] w fun e w' => e = .returned (.int .i64 (fitB was b c)) ∧ Below w.heap.size w w' := by
  obtain ⟨k, o⟩ := c
  dsimp only at hk
  rcases hk with rfl | rfl | rfl | rfl
  · exact fit_1 was o b m n w C
  · exact fit_2 was o b m n w C
  · exact fit_3 was o b m n w C
  · exact fit_4 was o b m n w C
set_option maxHeartbeats 8000000 in
theorem refFit_1 (was o : Ob) (b : Bool) {A : Option Addr} (m n : Nat) (w : World)
    (C : ∀ W, Below w.heap.size w W → Calls Tryz.prog 23 #[.slice A m n, .string o.handle] W fun e w' => e = .returned (.tuple #[ob was, .bool b]) ∧ Below W.heap.size W w') :
    Calls Tryz.prog 49 #[.slice A m n, ch ⟨1, o⟩] w fun e w' => e = .returned (.int .i64 (fitB was b ⟨1, o⟩)) ∧ Below w.heap.size w w' := by
  have hb0 : Below w.heap.size w w := Below.refl _ _
  have CF := Lib.hid C
  clear C
  cases b with
  | true =>
    have HV : Hid (fitB was true ⟨1, o⟩ = 71) := Lib.hid rfl
    go_enter Tryz.func49, Tryz.ntmps49
    go_wp2_with (go_at_call 23; ((with_reducible refine (CF.out _ (bAl hb0 _)).mono ?_); rintro e w3 ⟨rfl, k3⟩; have mC := (AtC.new _ _ _).then k3; have mc := mC.c; have ml := mC.lt; clear mC; have K3 := Lib.hid (bThen (bAl hb0 _) k3)))
    go_ret
    exact ⟨by rw [HV.out]; rfl, bAl K3.out _⟩
  | false =>
    have HV : Hid (fitB was false ⟨1, o⟩ = 0) := Lib.hid rfl
    go_enter Tryz.func49, Tryz.ntmps49
    go_wp2_with (go_at_call 23; ((with_reducible refine (CF.out _ (bAl hb0 _)).mono ?_); rintro e w3 ⟨rfl, k3⟩; have mC := (AtC.new _ _ _).then k3; have mc := mC.c; have ml := mC.lt; clear mC; have K3 := Lib.hid (bThen (bAl hb0 _) k3)))
    go_ret
    exact ⟨by rw [HV.out]; rfl, bAl K3.out _⟩
set_option maxHeartbeats 8000000 in
theorem refFit_2 (was o : Ob) (b : Bool) {A : Option Addr} (m n : Nat) (w : World)
    (C : ∀ W, Below w.heap.size w W → Calls Tryz.prog 23 #[.slice A m n, .string o.handle] W fun e w' => e = .returned (.tuple #[ob was, .bool b]) ∧ Below W.heap.size W w') :
    Calls Tryz.prog 49 #[.slice A m n, ch ⟨2, o⟩] w fun e w' => e = .returned (.int .i64 (fitB was b ⟨2, o⟩)) ∧ Below w.heap.size w w' := by
  have hb0 : Below w.heap.size w w := Below.refl _ _
  have CF := Lib.hid C
  clear C
  obtain ⟨a0, a1, a2, a3, a4, a5, a6, a7, a8, a9, a10, a11, a12, a13⟩ := was
  obtain ⟨b0, b1, b2, b3, b4, b5, b6, b7, b8, b9, b10, b11, b12, b13⟩ := o
  dsimp only at CF
  by_cases h1 : a1 = b1
  · subst h1
    by_cases h2 : a2 = b2
    · subst h2
      cases b with
      | true =>
        have HV : Hid (fitB ⟨a0, a1, a2, a3, a4, a5, a6, a7, a8, a9, a10, a11, a12, a13⟩ true ⟨2, ⟨b0, a1, a2, b3, b4, b5, b6, b7, b8, b9, b10, b11, b12, b13⟩⟩ = 0) := Lib.hid (by simp [fitB])
        go_enter Tryz.func49, Tryz.ntmps49
        go_wp2_with (go_at_call 23; ((with_reducible refine (CF.out _ (bAl hb0 _)).mono ?_); rintro e w3 ⟨rfl, k3⟩; have mC := (AtC.new _ _ _).then k3; have mc := mC.c; have ml := mC.lt; clear mC; have K3 := Lib.hid (bThen (bAl hb0 _) k3)))
        go_ret
        exact ⟨by rw [HV.out]; rfl, bAl K3.out _⟩
      | false =>
        have HV : Hid (fitB ⟨a0, a1, a2, a3, a4, a5, a6, a7, a8, a9, a10, a11, a12, a13⟩ false ⟨2, ⟨b0, a1, a2, b3, b4, b5, b6, b7, b8, b9, b10, b11, b12, b13⟩⟩ = 70) := Lib.hid (by simp [fitB])
        go_enter Tryz.func49, Tryz.ntmps49
        go_wp2_with (go_at_call 23; ((with_reducible refine (CF.out _ (bAl hb0 _)).mono ?_); rintro e w3 ⟨rfl, k3⟩; have mC := (AtC.new _ _ _).then k3; have mc := mC.c; have ml := mC.lt; clear mC; have K3 := Lib.hid (bThen (bAl hb0 _) k3)))
        go_ret
        exact ⟨by rw [HV.out]; rfl, bAl K3.out _⟩
    · have e2 := tl_ne h2
      cases b with
      | true =>
        have HV : Hid (fitB ⟨a0, a1, a2, a3, a4, a5, a6, a7, a8, a9, a10, a11, a12, a13⟩ true ⟨2, ⟨b0, a1, b2, b3, b4, b5, b6, b7, b8, b9, b10, b11, b12, b13⟩⟩ = 50) := Lib.hid (by simp [fitB, h2])
        clear h2
        go_enter Tryz.func49, Tryz.ntmps49
        go_wp2_with (go_at_call 23; ((with_reducible refine (CF.out _ (bAl hb0 _)).mono ?_); rintro e w3 ⟨rfl, k3⟩; have mC := (AtC.new _ _ _).then k3; have mc := mC.c; have ml := mC.lt; clear mC; have K3 := Lib.hid (bThen (bAl hb0 _) k3)))
        go_ret
        exact ⟨by rw [HV.out]; rfl, bAl K3.out _⟩
      | false =>
        have HV : Hid (fitB ⟨a0, a1, a2, a3, a4, a5, a6, a7, a8, a9, a10, a11, a12, a13⟩ false ⟨2, ⟨b0, a1, b2, b3, b4, b5, b6, b7, b8, b9, b10, b11, b12, b13⟩⟩ = 70) := Lib.hid (by simp [fitB])
        clear h2
        go_enter Tryz.func49, Tryz.ntmps49
        go_wp2_with (go_at_call 23; ((with_reducible refine (CF.out _ (bAl hb0 _)).mono ?_); rintro e w3 ⟨rfl, k3⟩; have mC := (AtC.new _ _ _).then k3; have mc := mC.c; have ml := mC.lt; clear mC; have K3 := Lib.hid (bThen (bAl hb0 _) k3)))
        go_ret
        exact ⟨by rw [HV.out]; rfl, bAl K3.out _⟩
  · have i1 : ¬ (a1 : Int) = b1 := by omega
    by_cases h2 : a2 = b2
    · subst h2
      cases b with
      | true =>
        have HV : Hid (fitB ⟨a0, a1, a2, a3, a4, a5, a6, a7, a8, a9, a10, a11, a12, a13⟩ true ⟨2, ⟨b0, b1, a2, b3, b4, b5, b6, b7, b8, b9, b10, b11, b12, b13⟩⟩ = 40) := Lib.hid (by simp [fitB, h1])
        clear h1
        go_enter Tryz.func49, Tryz.ntmps49
        go_wp2_with (go_at_call 23; ((with_reducible refine (CF.out _ (bAl hb0 _)).mono ?_); rintro e w3 ⟨rfl, k3⟩; have mC := (AtC.new _ _ _).then k3; have mc := mC.c; have ml := mC.lt; clear mC; have K3 := Lib.hid (bThen (bAl hb0 _) k3)))
        go_ret
        exact ⟨by rw [HV.out]; rfl, bAl K3.out _⟩
      | false =>
        have HV : Hid (fitB ⟨a0, a1, a2, a3, a4, a5, a6, a7, a8, a9, a10, a11, a12, a13⟩ false ⟨2, ⟨b0, b1, a2, b3, b4, b5, b6, b7, b8, b9, b10, b11, b12, b13⟩⟩ = 70) := Lib.hid (by simp [fitB])
        clear h1
        go_enter Tryz.func49, Tryz.ntmps49
        go_wp2_with (go_at_call 23; ((with_reducible refine (CF.out _ (bAl hb0 _)).mono ?_); rintro e w3 ⟨rfl, k3⟩; have mC := (AtC.new _ _ _).then k3; have mc := mC.c; have ml := mC.lt; clear mC; have K3 := Lib.hid (bThen (bAl hb0 _) k3)))
        go_ret
        exact ⟨by rw [HV.out]; rfl, bAl K3.out _⟩
    · have e2 := tl_ne h2
      cases b with
      | true =>
        have HV : Hid (fitB ⟨a0, a1, a2, a3, a4, a5, a6, a7, a8, a9, a10, a11, a12, a13⟩ true ⟨2, ⟨b0, b1, b2, b3, b4, b5, b6, b7, b8, b9, b10, b11, b12, b13⟩⟩ = 40) := Lib.hid (by simp [fitB, h1])
        clear h1 h2
        go_enter Tryz.func49, Tryz.ntmps49
        go_wp2_with (go_at_call 23; ((with_reducible refine (CF.out _ (bAl hb0 _)).mono ?_); rintro e w3 ⟨rfl, k3⟩; have mC := (AtC.new _ _ _).then k3; have mc := mC.c; have ml := mC.lt; clear mC; have K3 := Lib.hid (bThen (bAl hb0 _) k3)))
        go_ret
        exact ⟨by rw [HV.out]; rfl, bAl K3.out _⟩
      | false =>
        have HV : Hid (fitB ⟨a0, a1, a2, a3, a4, a5, a6, a7, a8, a9, a10, a11, a12, a13⟩ false ⟨2, ⟨b0, b1, b2, b3, b4, b5, b6, b7, b8, b9, b10, b11, b12, b13⟩⟩ = 70) := Lib.hid (by simp [fitB])
        clear h1 h2
        go_enter Tryz.func49, Tryz.ntmps49
        go_wp2_with (go_at_call 23; ((with_reducible refine (CF.out _ (bAl hb0 _)).mono ?_); rintro e w3 ⟨rfl, k3⟩; have mC := (AtC.new _ _ _).then k3; have mc := mC.c; have ml := mC.lt; clear mC; have K3 := Lib.hid (bThen (bAl hb0 _) k3)))
        go_ret
        exact ⟨by rw [HV.out]; rfl, bAl K3.out _⟩
set_option maxHeartbeats 8000000 in
theorem refFit_3 (was o : Ob) (b : Bool) {A : Option Addr} (m n : Nat) (w : World)
    (C : ∀ W, Below w.heap.size w W → Calls Tryz.prog 23 #[.slice A m n, .string o.handle] W fun e w' => e = .returned (.tuple #[ob was, .bool b]) ∧ Below W.heap.size W w') :
    Calls Tryz.prog 49 #[.slice A m n, ch ⟨3, o⟩] w fun e w' => e = .returned (.int .i64 (fitB was b ⟨3, o⟩)) ∧ Below w.heap.size w w' := by
  have hb0 : Below w.heap.size w w := Below.refl _ _
  have CF := Lib.hid C
  clear C
  obtain ⟨a0, a1, a2, a3, a4, a5, a6, a7, a8, a9, a10, a11, a12, a13⟩ := was
  obtain ⟨b0, b1, b2, b3, b4, b5, b6, b7, b8, b9, b10, b11, b12, b13⟩ := o
  dsimp only at CF
  by_cases h1 : a1 = b1
  · subst h1
    by_cases h2 : a2 = b2
    · subst h2
      cases b with
      | true =>
        have HV : Hid (fitB ⟨a0, a1, a2, a3, a4, a5, a6, a7, a8, a9, a10, a11, a12, a13⟩ true ⟨3, ⟨b0, a1, a2, b3, b4, b5, b6, b7, b8, b9, b10, b11, b12, b13⟩⟩ = 0) := Lib.hid (by simp [fitB])
        go_enter Tryz.func49, Tryz.ntmps49
        go_wp2_with (go_at_call 23; ((with_reducible refine (CF.out _ (bAl hb0 _)).mono ?_); rintro e w3 ⟨rfl, k3⟩; have mC := (AtC.new _ _ _).then k3; have mc := mC.c; have ml := mC.lt; clear mC; have K3 := Lib.hid (bThen (bAl hb0 _) k3)))
        go_ret
        exact ⟨by rw [HV.out]; rfl, bAl K3.out _⟩
      | false =>
        have HV : Hid (fitB ⟨a0, a1, a2, a3, a4, a5, a6, a7, a8, a9, a10, a11, a12, a13⟩ false ⟨3, ⟨b0, a1, a2, b3, b4, b5, b6, b7, b8, b9, b10, b11, b12, b13⟩⟩ = 70) := Lib.hid (by simp [fitB])
        go_enter Tryz.func49, Tryz.ntmps49
        go_wp2_with (go_at_call 23; ((with_reducible refine (CF.out _ (bAl hb0 _)).mono ?_); rintro e w3 ⟨rfl, k3⟩; have mC := (AtC.new _ _ _).then k3; have mc := mC.c; have ml := mC.lt; clear mC; have K3 := Lib.hid (bThen (bAl hb0 _) k3)))
        go_ret
        exact ⟨by rw [HV.out]; rfl, bAl K3.out _⟩
    · have e2 := tl_ne h2
      cases b with
      | true =>
        have HV : Hid (fitB ⟨a0, a1, a2, a3, a4, a5, a6, a7, a8, a9, a10, a11, a12, a13⟩ true ⟨3, ⟨b0, a1, b2, b3, b4, b5, b6, b7, b8, b9, b10, b11, b12, b13⟩⟩ = 0) := Lib.hid (by simp [fitB, h2])
        clear h2
        go_enter Tryz.func49, Tryz.ntmps49
        go_wp2_with (go_at_call 23; ((with_reducible refine (CF.out _ (bAl hb0 _)).mono ?_); rintro e w3 ⟨rfl, k3⟩; have mC := (AtC.new _ _ _).then k3; have mc := mC.c; have ml := mC.lt; clear mC; have K3 := Lib.hid (bThen (bAl hb0 _) k3)))
        go_ret
        exact ⟨by rw [HV.out]; rfl, bAl K3.out _⟩
      | false =>
        have HV : Hid (fitB ⟨a0, a1, a2, a3, a4, a5, a6, a7, a8, a9, a10, a11, a12, a13⟩ false ⟨3, ⟨b0, a1, b2, b3, b4, b5, b6, b7, b8, b9, b10, b11, b12, b13⟩⟩ = 70) := Lib.hid (by simp [fitB])
        clear h2
        go_enter Tryz.func49, Tryz.ntmps49
        go_wp2_with (go_at_call 23; ((with_reducible refine (CF.out _ (bAl hb0 _)).mono ?_); rintro e w3 ⟨rfl, k3⟩; have mC := (AtC.new _ _ _).then k3; have mc := mC.c; have ml := mC.lt; clear mC; have K3 := Lib.hid (bThen (bAl hb0 _) k3)))
        go_ret
        exact ⟨by rw [HV.out]; rfl, bAl K3.out _⟩
  · have i1 : ¬ (a1 : Int) = b1 := by omega
    by_cases h2 : a2 = b2
    · subst h2
      cases b with
      | true =>
        have HV : Hid (fitB ⟨a0, a1, a2, a3, a4, a5, a6, a7, a8, a9, a10, a11, a12, a13⟩ true ⟨3, ⟨b0, b1, a2, b3, b4, b5, b6, b7, b8, b9, b10, b11, b12, b13⟩⟩ = 40) := Lib.hid (by simp [fitB, h1])
        clear h1
        go_enter Tryz.func49, Tryz.ntmps49
        go_wp2_with (go_at_call 23; ((with_reducible refine (CF.out _ (bAl hb0 _)).mono ?_); rintro e w3 ⟨rfl, k3⟩; have mC := (AtC.new _ _ _).then k3; have mc := mC.c; have ml := mC.lt; clear mC; have K3 := Lib.hid (bThen (bAl hb0 _) k3)))
        go_ret
        exact ⟨by rw [HV.out]; rfl, bAl K3.out _⟩
      | false =>
        have HV : Hid (fitB ⟨a0, a1, a2, a3, a4, a5, a6, a7, a8, a9, a10, a11, a12, a13⟩ false ⟨3, ⟨b0, b1, a2, b3, b4, b5, b6, b7, b8, b9, b10, b11, b12, b13⟩⟩ = 70) := Lib.hid (by simp [fitB])
        clear h1
        go_enter Tryz.func49, Tryz.ntmps49
        go_wp2_with (go_at_call 23; ((with_reducible refine (CF.out _ (bAl hb0 _)).mono ?_); rintro e w3 ⟨rfl, k3⟩; have mC := (AtC.new _ _ _).then k3; have mc := mC.c; have ml := mC.lt; clear mC; have K3 := Lib.hid (bThen (bAl hb0 _) k3)))
        go_ret
        exact ⟨by rw [HV.out]; rfl, bAl K3.out _⟩
    · have e2 := tl_ne h2
      cases b with
      | true =>
        have HV : Hid (fitB ⟨a0, a1, a2, a3, a4, a5, a6, a7, a8, a9, a10, a11, a12, a13⟩ true ⟨3, ⟨b0, b1, b2, b3, b4, b5, b6, b7, b8, b9, b10, b11, b12, b13⟩⟩ = 40) := Lib.hid (by simp [fitB, h1])
        clear h1 h2
        go_enter Tryz.func49, Tryz.ntmps49
        go_wp2_with (go_at_call 23; ((with_reducible refine (CF.out _ (bAl hb0 _)).mono ?_); rintro e w3 ⟨rfl, k3⟩; have mC := (AtC.new _ _ _).then k3; have mc := mC.c; have ml := mC.lt; clear mC; have K3 := Lib.hid (bThen (bAl hb0 _) k3)))
        go_ret
        exact ⟨by rw [HV.out]; rfl, bAl K3.out _⟩
      | false =>
        have HV : Hid (fitB ⟨a0, a1, a2, a3, a4, a5, a6, a7, a8, a9, a10, a11, a12, a13⟩ false ⟨3, ⟨b0, b1, b2, b3, b4, b5, b6, b7, b8, b9, b10, b11, b12, b13⟩⟩ = 70) := Lib.hid (by simp [fitB])
        clear h1 h2
        go_enter Tryz.func49, Tryz.ntmps49
        go_wp2_with (go_at_call 23; ((with_reducible refine (CF.out _ (bAl hb0 _)).mono ?_); rintro e w3 ⟨rfl, k3⟩; have mC := (AtC.new _ _ _).then k3; have mc := mC.c; have ml := mC.lt; clear mC; have K3 := Lib.hid (bThen (bAl hb0 _) k3)))
        go_ret
        exact ⟨by rw [HV.out]; rfl, bAl K3.out _⟩
set_option maxHeartbeats 8000000 in
theorem refFit_4 (was o : Ob) (b : Bool) {A : Option Addr} (m n : Nat) (w : World)
    (C : ∀ W, Below w.heap.size w W → Calls Tryz.prog 23 #[.slice A m n, .string o.handle] W fun e w' => e = .returned (.tuple #[ob was, .bool b]) ∧ Below W.heap.size W w') :
    Calls Tryz.prog 49 #[.slice A m n, ch ⟨4, o⟩] w fun e w' => e = .returned (.int .i64 (fitB was b ⟨4, o⟩)) ∧ Below w.heap.size w w' := by
  have hb0 : Below w.heap.size w w := Below.refl _ _
  have CF := Lib.hid C
  clear C
  cases b with
  | true =>
    have HV : Hid (fitB was true ⟨4, o⟩ = 0) := Lib.hid rfl
    go_enter Tryz.func49, Tryz.ntmps49
    go_wp2_with (go_at_call 23; ((with_reducible refine (CF.out _ (bAl hb0 _)).mono ?_); rintro e w3 ⟨rfl, k3⟩; have mC := (AtC.new _ _ _).then k3; have mc := mC.c; have ml := mC.lt; clear mC; have K3 := Lib.hid (bThen (bAl hb0 _) k3)))
    go_ret
    exact ⟨by rw [HV.out]; rfl, bAl K3.out _⟩
  | false =>
    have HV : Hid (fitB was false ⟨4, o⟩ = 70) := Lib.hid rfl
    go_enter Tryz.func49, Tryz.ntmps49
    go_wp2_with (go_at_call 23; ((with_reducible refine (CF.out _ (bAl hb0 _)).mono ?_); rintro e w3 ⟨rfl, k3⟩; have mC := (AtC.new _ _ _).then k3; have mc := mC.c; have ml := mC.lt; clear mC; have K3 := Lib.hid (bThen (bAl hb0 _) k3)))
    go_ret
    exact ⟨by rw [HV.out]; rfl, bAl K3.out _⟩
theorem refFit_any (was : Ob) (b : Bool) (c : Ch) {A : Option Addr} (m n : Nat) (w : World) (hk : c.kind = 1 ∨ c.kind = 2 ∨ c.kind = 3 ∨ c.kind = 4)
    (C : ∀ W, Below w.heap.size w W → Calls Tryz.prog 23 #[.slice A m n, .string c.o.handle] W fun e w' => e = .returned (.tuple #[ob was, .bool b]) ∧ Below W.heap.size W w') :
    Calls Tryz.prog 49 #[.slice A m n, ch c] w fun e w' => e = .returned (.int .i64 (fitB was b c)) ∧ Below w.heap.size w w' := by
  obtain ⟨k, o⟩ := c
  dsimp only at hk
  rcases hk with rfl | rfl | rfl | rfl
  · exact refFit_1 was o b m n w C
  · exact refFit_2 was o b m n w C
  · exact refFit_3 was o b m n w C
  · exact refFit_4 was o b m n w C
end Go.Proofs.YtncahpbjbgcnbaaGreatDoor.DX
/-
  PLAIN: a row of cells stored into a block of the call's own, one behind the other.
-/
namespace Go.Proofs.YtncahpbjbgcnbaaGreatDoor.DX
open Go.RowKit HL
open IX (ptr El cellsK cellsK_at cellsK_inv cellsK_len cellsK_app OwnK RdK strK)
open WX (obK obs_at hb pb rb tl_ne bs_eq findO findO_some findO_none findO_at obO ret_ob2)
set_option maxRecDepth 100000
set_option linter.unusedVariables false
set_option linter.unusedSimpArgs false

/-- The cells stored from off on. -/
def putC (W : World) (g : Nat) : Nat → List Value → World
  | _, [] => W
  | off, v :: vs => putC (W.setCell ⟨g, off, none⟩ v) g (off + 1) vs
theorem putC_at {g : Nat} : ∀ (vs : List Value) (off : Nat) {W : World} {C : Array Value}, AtC W g C → off + vs.length ≤ C.size →
    ∃ C' : Array Value, C'.size = C.size ∧ AtC (putC W g off vs) g C' ∧ (∀ i, i < off → C'[i]? = C[i]?) ∧ (∀ i, i < vs.length → C'[off + i]? = vs[i]?) ∧ (∀ i, off + vs.length ≤ i → C'[i]? = C[i]?)
  | [], off, W, C, h, hl => ⟨C, rfl, h, fun _ _ => rfl, fun i hi => by simp at hi, fun _ _ => rfl⟩
  | v :: vs, off, W, C, h, hl => by
    have hl' : off + 1 + vs.length ≤ (C.setIfInBounds off v).size := by simp at hl ⊢; omega
    obtain ⟨C', h1, h2, h3, h4, h5⟩ := putC_at vs (off + 1) (h.set (i := off) (by simp at hl; omega) v) hl'
    refine ⟨C', by simpa using h1, h2, fun i hi => ?_, fun i hi => ?_, fun i hi => ?_⟩
    · rw [h3 i (by omega), Array.getElem?_setIfInBounds_ne (by omega)]
    · cases i with
      | zero =>
        have hlt : off < C.size := by simp at hl; omega
        rw [Nat.add_zero, h3 off (by omega)]; simp [hlt]
      | succ i =>
        have := h4 i (by simpa using hi)
        rw [show off + (i + 1) = off + 1 + i by omega, this]; rfl
    · have hi2 : off + 1 + vs.length ≤ i := by simp at hi; omega
      rw [h5 i hi2, Array.getElem?_setIfInBounds_ne (by omega)]
theorem putC_below {w : World} {g : Nat} (hg : w.heap.size ≤ g) : ∀ (vs : List Value) (off : Nat) {W : World}, Below w.heap.size w W → Below w.heap.size w (putC W g off vs)
  | [], _, _, h => h
  | v :: vs, off, W, h => putC_below hg vs (off + 1) (bStore h (p := ⟨g, off, none⟩) hg v)
theorem putC_far {g B : Nat} {D : Array Value} : ∀ (vs : List Value) (off : Nat) {W : World}, B ≠ g → AtC W B D → AtC (putC W g off vs) B D
  | [], _, _, _, h => h
  | v :: vs, off, W, hn, h => putC_far vs (off + 1) hn (h.store (p := ⟨g, off, none⟩) (fun e => hn e.symm) v)
/-- A whole row stored into a block that holds one. -/
theorem putC_all {W : World} {B : Nat} {C D : Array Value} (h : AtC W B C) (hC : C.size = D.size) : AtC (putC W B 0 D.toList) B D := by
  obtain ⟨C', h1, h2, _, h4, _⟩ := putC_at D.toList 0 h (by simp [hC])
  have e : C' = D := by
    apply Array.ext_getElem?
    intro i
    by_cases hi : i < D.size
    · have := h4 i (by simpa using hi)
      rw [Nat.zero_add] at this
      rw [this, Array.getElem?_toList]
    · rw [Array.getElem?_eq_none (by omega), Array.getElem?_eq_none (by omega)]
  rw [← e] at h2 ⊢; exact h2
theorem chCells_size (c : Ch) : (chCells c).size = 15 := rfl
theorem putC_ch {W : World} {B : Nat} {C : Array Value} (h : AtC W B C) (hC : C.size = 15) (c : Ch) : AtC (putC W B 0 (chCells c).toList) B (chCells c) := putC_all h (by rw [hC, chCells_size])
theorem fill15 {W : World} {B : Nat} {C : Array Value} (h : AtC W B C) (hC : C.size = 15) (v0 v1 v2 v3 v4 v5 v6 v7 v8 v9 v10 v11 v12 v13 v14 : Value) : AtC (((((((((((((((W.setCell ⟨B, 0, none⟩ v0).setCell ⟨B, 1, none⟩ v1).setCell ⟨B, 2, none⟩ v2).setCell ⟨B, 3, none⟩ v3).setCell ⟨B, 4, none⟩ v4).setCell ⟨B, 5, none⟩ v5).setCell ⟨B, 6, none⟩ v6).setCell ⟨B, 7, none⟩ v7).setCell ⟨B, 8, none⟩ v8).setCell ⟨B, 9, none⟩ v9).setCell ⟨B, 10, none⟩ v10).setCell ⟨B, 11, none⟩ v11).setCell ⟨B, 12, none⟩ v12).setCell ⟨B, 13, none⟩ v13).setCell ⟨B, 14, none⟩ v14) B #[v0, v1, v2, v3, v4, v5, v6, v7, v8, v9, v10, v11, v12, v13, v14] := by
  have := putC_all (D := #[v0, v1, v2, v3, v4, v5, v6, v7, v8, v9, v10, v11, v12, v13, v14]) h (by rw [hC]; rfl)
  simpa only [putC, Nat.reduceAdd] using this
theorem bFill15 {w W : World} {B : Nat} (h : Below w.heap.size w W) (hB : w.heap.size ≤ B) (v0 v1 v2 v3 v4 v5 v6 v7 v8 v9 v10 v11 v12 v13 v14 : Value) : Below w.heap.size w (((((((((((((((W.setCell ⟨B, 0, none⟩ v0).setCell ⟨B, 1, none⟩ v1).setCell ⟨B, 2, none⟩ v2).setCell ⟨B, 3, none⟩ v3).setCell ⟨B, 4, none⟩ v4).setCell ⟨B, 5, none⟩ v5).setCell ⟨B, 6, none⟩ v6).setCell ⟨B, 7, none⟩ v7).setCell ⟨B, 8, none⟩ v8).setCell ⟨B, 9, none⟩ v9).setCell ⟨B, 10, none⟩ v10).setCell ⟨B, 11, none⟩ v11).setCell ⟨B, 12, none⟩ v12).setCell ⟨B, 13, none⟩ v13).setCell ⟨B, 14, none⟩ v14) := by
  have := putC_below hB [v0, v1, v2, v3, v4, v5, v6, v7, v8, v9, v10, v11, v12, v13, v14] 0 h
  simpa only [putC, Nat.reduceAdd] using this
theorem isAgg_ch {W : World} : (isAgg 39).run Tryz.prog W = .ok true W := by kernel_rfl
theorem size_ch (W : World) : (sizeOf 39).run Tryz.prog W = .ok 15 W := by kernel_rfl
theorem ret_ch {fn : Func} {R : Ending → World → Prop} {act : Act} {W : World} {B : Nat} {c : Ch} {p : Tmp} (hr : fn.results = #[.cell p 39]) (hp : act.tmps.getD p undef = .pointer (some ⟨B, 0, none⟩)) (hd : act.defers = [])
    (h : AtC W B (chCells c)) (hR : R (.returned (ch c)) W) : bodyPost Tryz.prog fn R .ret act W := by
  refine ret_row (C := chCells c) hr hp hd h isAgg_ch ?_ hR
  rw [chCells_size]; exact size_ch W
end Go.Proofs.YtncahpbjbgcnbaaGreatDoor.DX
/-
  WALK: the change that undoes one: the program's back.
-/
namespace Go.Proofs.YtncahpbjbgcnbaaGreatDoor.DX
open Go.RowKit HL
open IX (ptr El cellsK cellsK_at cellsK_inv cellsK_len cellsK_app OwnK RdK strK)
open WX (obK obs_at hb pb rb tl_ne bs_eq findO findO_some findO_none findO_at obO ret_ob2)
set_option maxRecDepth 100000
set_option linter.unusedVariables false
set_option linter.unusedSimpArgs false

/-- What undoes a change, where that was there. -/
def backC (was : Ob) (c : Ch) : Ch := if c.kind = 1 then ⟨4, { zeroOb with handle := c.o.handle }⟩ else if c.kind = 4 then ⟨1, was⟩ else ⟨c.kind, partOf c.kind was⟩
set_option maxHeartbeats 8000000 in
theorem back_1 (was o : Ob) (w : World) : Calls Tryz.prog 43 #[ob was, ch ⟨1, o⟩] w fun e w' => e = .returned (ch ⟨4, { zeroOb with handle := o.handle }⟩) ∧ Below w.heap.size w w' := by
  have hb : Below w.heap.size w w := Below.refl _ _
  have C := fun W => Lib.hid (show Calls Tryz.prog 61 #[.int .u8 4, ob o] W fun e w' => e = .returned (.agg #[.string o.handle, .int .u8 0, .string ⟨#[]⟩, .int .u8 0, .string ⟨#[]⟩, .int .i64 0, .int .i64 0, .int .u8 0, .bool false, .bool false, .int .i64 0, .int .i64 0, .int .i64 0, .int .u8 0]) ∧ Below W.heap.size W w' from part_hand o W)
  go_enter Tryz.func43, Tryz.ntmps43
  go_wp2_with (go_at_call 61; ((with_reducible refine ((C _).out).mono ?_); rintro e w1 ⟨rfl, k1⟩; replace hb := bThen (bAl (bAl (bAl hb _) _) _) k1; have mR := (AtC.new _ _ _).then k1; simp at mR; have rc := mR.c; have rf := mR.f; have rl := mR.lt))
  exact ret_ch (c := ⟨4, { zeroOb with handle := o.handle }⟩) rfl rfl rfl (fill15 mR rfl _ _ _ _ _ _ _ _ _ _ _ _ _ _ _) ⟨rfl, bFill15 hb (by omega) _ _ _ _ _ _ _ _ _ _ _ _ _ _ _⟩
set_option maxHeartbeats 8000000 in
theorem back_4 (was o : Ob) (w : World) : Calls Tryz.prog 43 #[ob was, ch ⟨4, o⟩] w fun e w' => e = .returned (ch ⟨1, was⟩) ∧ Below w.heap.size w w' := by
  have hb : Below w.heap.size w w := Below.refl _ _
  go_enter Tryz.func43, Tryz.ntmps43
  go_wp2
  exact ret_ch (c := ⟨1, was⟩) rfl rfl rfl (AtC.newAt (by simp)) ⟨rfl, bAl (bAl (bAl hb _) _) _⟩
set_option maxHeartbeats 16000000 in
theorem back_n (k : Nat) (was o x : Ob) (w : World) (h1 : ¬ (k : Int) = 1) (h4 : ¬ (k : Int) = 4) (CP : ∀ W, Calls Tryz.prog 61 #[.int .u8 k, ob was] W fun e w' => e = .returned (ob x) ∧ Below W.heap.size W w') :
    Calls Tryz.prog 43 #[ob was, ch ⟨k, o⟩] w fun e w' => e = .returned (ch ⟨k, x⟩) ∧ Below w.heap.size w w' := by
  have hb : Below w.heap.size w w := Below.refl _ _
  have C := Lib.hid CP
  clear CP
  go_enter Tryz.func43, Tryz.ntmps43
  go_wp2_with fail
  have mW := ((AtC.new w (obCells was) 35).al (.cells (chCells ⟨k, o⟩) 39)).al (.cells #[.int .u8 0, .string ⟨#[]⟩, .int .u8 0, .string ⟨#[]⟩, .int .u8 0, .string ⟨#[]⟩, .int .i64 0, .int .i64 0, .int .u8 0, .bool false, .bool false, .int .i64 0, .int .i64 0, .int .i64 0, .int .u8 0] 39)
  have mC := (AtC.new (w.alloc (.cells (obCells was) 35)) (chCells ⟨k, o⟩) 39).al (.cells #[.int .u8 0, .string ⟨#[]⟩, .int .u8 0, .string ⟨#[]⟩, .int .u8 0, .string ⟨#[]⟩, .int .i64 0, .int .i64 0, .int .u8 0, .bool false, .bool false, .int .i64 0, .int .i64 0, .int .i64 0, .int .u8 0] 39)
  have mR := AtC.new ((w.alloc (.cells (obCells was) 35)).alloc (.cells (chCells ⟨k, o⟩) 39)) #[.int .u8 0, .string ⟨#[]⟩, .int .u8 0, .string ⟨#[]⟩, .int .u8 0, .string ⟨#[]⟩, .int .i64 0, .int .i64 0, .int .u8 0, .bool false, .bool false, .int .i64 0, .int .i64 0, .int .i64 0, .int .u8 0] 39
  have hbw := bAl (bAl (bAl hb (.cells (obCells was) 35)) (.cells (chCells ⟨k, o⟩) 39)) (.cells #[.int .u8 0, .string ⟨#[]⟩, .int .u8 0, .string ⟨#[]⟩, .int .u8 0, .string ⟨#[]⟩, .int .i64 0, .int .i64 0, .int .u8 0, .bool false, .bool false, .int .i64 0, .int .i64 0, .int .i64 0, .int .u8 0] 39)
  simp at mC mR
  dsimp only [chCells] at mW mC mR hbw
  generalize ((w.alloc _).alloc _).alloc _ = W0 at *
  have hS : ∀ W', (∀ i, W'.cell? ⟨w.heap.size, i, none⟩ = (obCells was)[i]?) → (∀ i, W'.cell? ⟨w.heap.size + 1, i, none⟩ = (chCells ⟨k, o⟩)[i]?) → w.heap.size + 1 + 1 < W'.heap.size → Below w.heap.size w W' → ((∀ i, W'.cell? ⟨w.heap.size, i, none⟩ = (obCells was)[i]?) ∧ (∀ i, W'.cell? ⟨w.heap.size + 1, i, none⟩ = (chCells ⟨k, o⟩)[i]?)) ∧ (w.heap.size + 1 + 1 < W'.heap.size ∧ Below w.heap.size w W') := fun W' a b c d => ⟨⟨a, b⟩, c, d⟩
  have hS0 := hS W0.drew mW.drew1.c mC.drew1.c mR.lt hbw.drew
  have hSc : ∀ W1, Below W0.drew.heap.size W0.drew W1 → ((∀ i, W1.cell? ⟨w.heap.size, i, none⟩ = (obCells was)[i]?) ∧ (∀ i, W1.cell? ⟨w.heap.size + 1, i, none⟩ = (chCells ⟨k, o⟩)[i]?)) ∧ (w.heap.size + 1 + 1 < W1.heap.size ∧ Below w.heap.size w W1) := fun W1 q => hS W1 (mW.drew1.then q).c (mC.drew1.then q).c (mR.drew1.then q).lt (bThen hbw.drew q)
  have hST : ∀ W1, Below W0.drew.heap.size W0.drew W1 → ∀ v0 v1 v2 v3 v4 v5 v6 v7 v8 v9 v10 v11 v12 v13 v14 : Value, ((∀ i, (((((((((((((((W1.setCell ⟨w.heap.size + 1 + 1, 0, none⟩ v0).setCell ⟨w.heap.size + 1 + 1, 1, none⟩ v1).setCell ⟨w.heap.size + 1 + 1, 2, none⟩ v2).setCell ⟨w.heap.size + 1 + 1, 3, none⟩ v3).setCell ⟨w.heap.size + 1 + 1, 4, none⟩ v4).setCell ⟨w.heap.size + 1 + 1, 5, none⟩ v5).setCell ⟨w.heap.size + 1 + 1, 6, none⟩ v6).setCell ⟨w.heap.size + 1 + 1, 7, none⟩ v7).setCell ⟨w.heap.size + 1 + 1, 8, none⟩ v8).setCell ⟨w.heap.size + 1 + 1, 9, none⟩ v9).setCell ⟨w.heap.size + 1 + 1, 10, none⟩ v10).setCell ⟨w.heap.size + 1 + 1, 11, none⟩ v11).setCell ⟨w.heap.size + 1 + 1, 12, none⟩ v12).setCell ⟨w.heap.size + 1 + 1, 13, none⟩ v13).setCell ⟨w.heap.size + 1 + 1, 14, none⟩ v14).cell? ⟨w.heap.size, i, none⟩ = (obCells was)[i]?) ∧ (∀ i, (((((((((((((((W1.setCell ⟨w.heap.size + 1 + 1, 0, none⟩ v0).setCell ⟨w.heap.size + 1 + 1, 1, none⟩ v1).setCell ⟨w.heap.size + 1 + 1, 2, none⟩ v2).setCell ⟨w.heap.size + 1 + 1, 3, none⟩ v3).setCell ⟨w.heap.size + 1 + 1, 4, none⟩ v4).setCell ⟨w.heap.size + 1 + 1, 5, none⟩ v5).setCell ⟨w.heap.size + 1 + 1, 6, none⟩ v6).setCell ⟨w.heap.size + 1 + 1, 7, none⟩ v7).setCell ⟨w.heap.size + 1 + 1, 8, none⟩ v8).setCell ⟨w.heap.size + 1 + 1, 9, none⟩ v9).setCell ⟨w.heap.size + 1 + 1, 10, none⟩ v10).setCell ⟨w.heap.size + 1 + 1, 11, none⟩ v11).setCell ⟨w.heap.size + 1 + 1, 12, none⟩ v12).setCell ⟨w.heap.size + 1 + 1, 13, none⟩ v13).setCell ⟨w.heap.size + 1 + 1, 14, none⟩ v14).cell? ⟨w.heap.size + 1, i, none⟩ = (chCells ⟨k, o⟩)[i]?)) ∧ (w.heap.size + 1 + 1 < (((((((((((((((W1.setCell ⟨w.heap.size + 1 + 1, 0, none⟩ v0).setCell ⟨w.heap.size + 1 + 1, 1, none⟩ v1).setCell ⟨w.heap.size + 1 + 1, 2, none⟩ v2).setCell ⟨w.heap.size + 1 + 1, 3, none⟩ v3).setCell ⟨w.heap.size + 1 + 1, 4, none⟩ v4).setCell ⟨w.heap.size + 1 + 1, 5, none⟩ v5).setCell ⟨w.heap.size + 1 + 1, 6, none⟩ v6).setCell ⟨w.heap.size + 1 + 1, 7, none⟩ v7).setCell ⟨w.heap.size + 1 + 1, 8, none⟩ v8).setCell ⟨w.heap.size + 1 + 1, 9, none⟩ v9).setCell ⟨w.heap.size + 1 + 1, 10, none⟩ v10).setCell ⟨w.heap.size + 1 + 1, 11, none⟩ v11).setCell ⟨w.heap.size + 1 + 1, 12, none⟩ v12).setCell ⟨w.heap.size + 1 + 1, 13, none⟩ v13).setCell ⟨w.heap.size + 1 + 1, 14, none⟩ v14).heap.size ∧ Below w.heap.size w (((((((((((((((W1.setCell ⟨w.heap.size + 1 + 1, 0, none⟩ v0).setCell ⟨w.heap.size + 1 + 1, 1, none⟩ v1).setCell ⟨w.heap.size + 1 + 1, 2, none⟩ v2).setCell ⟨w.heap.size + 1 + 1, 3, none⟩ v3).setCell ⟨w.heap.size + 1 + 1, 4, none⟩ v4).setCell ⟨w.heap.size + 1 + 1, 5, none⟩ v5).setCell ⟨w.heap.size + 1 + 1, 6, none⟩ v6).setCell ⟨w.heap.size + 1 + 1, 7, none⟩ v7).setCell ⟨w.heap.size + 1 + 1, 8, none⟩ v8).setCell ⟨w.heap.size + 1 + 1, 9, none⟩ v9).setCell ⟨w.heap.size + 1 + 1, 10, none⟩ v10).setCell ⟨w.heap.size + 1 + 1, 11, none⟩ v11).setCell ⟨w.heap.size + 1 + 1, 12, none⟩ v12).setCell ⟨w.heap.size + 1 + 1, 13, none⟩ v13).setCell ⟨w.heap.size + 1 + 1, 14, none⟩ v14)) := fun W1 q v0 v1 v2 v3 v4 v5 v6 v7 v8 v9 v10 v11 v12 v13 v14 => by
    have a := mW.drew1.then q
    have b := mC.drew1.then q
    have c := mR.drew1.then q
    have d := fill15 c rfl v0 v1 v2 v3 v4 v5 v6 v7 v8 v9 v10 v11 v12 v13 v14
    have e := putC_far (g := w.heap.size + 1 + 1) [v0, v1, v2, v3, v4, v5, v6, v7, v8, v9, v10, v11, v12, v13, v14] 0 (show w.heap.size ≠ w.heap.size + 1 + 1 by omega) a
    have f := putC_far (g := w.heap.size + 1 + 1) [v0, v1, v2, v3, v4, v5, v6, v7, v8, v9, v10, v11, v12, v13, v14] 0 (show w.heap.size + 1 ≠ w.heap.size + 1 + 1 by omega) b
    simp only [putC, Nat.reduceAdd] at e f
    exact hS _ e.c f.c d.lt (bFill15 (bThen hbw.drew q) (by omega) _ _ _ _ _ _ _ _ _ _ _ _ _ _ _)
  have HBW := Lib.hid hbw
  clear hbw hb mW mC hS
  go_region_held3 (fun w' => ((∀ i, w'.cell? ⟨w.heap.size, i, none⟩ = (obCells was)[i]?) ∧ (∀ i, w'.cell? ⟨w.heap.size + 1, i, none⟩ = (chCells ⟨k, o⟩)[i]?)) ∧ (w.heap.size + 1 + 1 < w'.heap.size ∧ Below w.heap.size w w'))
    (first | with_reducible exact hST _ k3 _ _ _ _ _ _ _ _ _ _ _ _ _ _ _ | with_reducible exact hS0 | with_reducible exact hSc _ k3)
    ((go_at_call 61; (with_reducible refine (C.out _).mono ?_); rintro e w3 ⟨rfl, k3⟩; have mT := mR.drew1.then k3; have tf := mT.f; have tl := mT.lt; have tc := mT.c))
  go_wp2
  exact ret_ch (c := ⟨k, x⟩) rfl rfl rfl (fill15 mT rfl _ _ _ _ _ _ _ _ _ _ _ _ _ _ _) ⟨rfl, bFill15 (bThen HBW.out.drew k3) (by omega) _ _ _ _ _ _ _ _ _ _ _ _ _ _ _⟩
theorem back_any (was : Ob) (c : Ch) (w : World) (hk : c.kind ≤ 255) : Calls Tryz.prog 43 #[ob was, ch c] w fun e w' => e = .returned (ch (backC was c)) ∧ Below w.heap.size w w' := by
  obtain ⟨k, o⟩ := c
  by_cases h1 : k = 1
  · subst h1; exact back_1 was o w
  · by_cases h4 : k = 4
    · subst h4; exact back_4 was o w
    · rw [show backC was ⟨k, o⟩ = ⟨k, partOf k was⟩ by unfold backC; rw [if_neg h1, if_neg h4]]
      exact back_n k was o (partOf k was) w (by omega) (by omega) (fun W => part_any k was W hk)
end Go.Proofs.YtncahpbjbgcnbaaGreatDoor.DX
