/-
  WALKS: wf's Find, climb, Mds.
-/
import Derived.Test.YthlalmoapbdccaaDoorWZ2
import Derived.WalkMore
namespace Go.Proofs.YthlalmoapbdccaaDoor.WX
open Go.RowKit HL
open IX (ptr El cellsK cellsK_at OwnK RdK strK)
set_option maxRecDepth 100000
set_option linter.unusedVariables false
set_option linter.unusedSimpArgs false

theorem ret_ob2 {fn : Func} {R : Ending → World → Prop} {act : Act} {W : World} {B : Nat} {o : Ob} {b : Bool} {p q : Tmp} (hr : fn.results = #[.cell p 31, .tmp q]) (hp : act.tmps.getD p undef = .pointer (some ⟨B, 0, none⟩)) (hq : act.tmps.getD q undef = .bool b) (hd : act.defers = [])
    (h : AtC W B (obCells o)) (hR : R (.returned (.tuple #[ob o, .bool b])) W) : bodyPost Tryd.prog fn R .ret act W := by
  refine bodyPost_ret (v := .tuple #[ob o, .bool b]) ?_ hd hR
  have h0 := h.c
  simp at hp hq
  simp only [results, hr]
  simp [Sem.run_bind, Result.andThen, hp, hq, go_sem, h0]
/-- The first object of that handle. -/
def findO (l : List Ob) (h : Bs) : Option Ob := l.find? fun o => decide (hb o = h)
theorem findO_some {l : List Ob} {h : Bs} {o : Ob} (e : findO l h = some o) : o ∈ l ∧ hb o = h := ⟨List.mem_of_find?_eq_some e, by simpa using List.find?_some e⟩
theorem findO_none {l : List Ob} {h : Bs} : findO l h = none ↔ ∀ o ∈ l, hb o ≠ h := by
  unfold findO
  rw [List.find?_eq_none]
  simp
theorem findO_at {l : List Ob} {h : Bs} {k : Nat} (hk : k < l.length) (hn : ∀ a ∈ l.take k, hb a ≠ h) (he : hb l[k] = h) : findO l h = some l[k] := by
  have e : l = l.take k ++ l[k] :: l.drop (k + 1) := by rw [List.getElem_cons_drop, List.take_append_drop]
  unfold findO
  conv => lhs; rw [e]
  rw [List.find?_append, List.find?_eq_none.2 (by simpa using hn), List.find?_cons_of_pos (by simp [he])]
  rfl
/-- Where it is. -/
def ixO (l : List Ob) (h : Bs) : Int := match l.findIdx? (fun o => decide (hb o = h)) with
  | some k => (k : Int)
  | none => -1
set_option maxHeartbeats 2000000 in
theorem find1_any (o : Ob) (x : ByteArray) (B : Nat) (w : World) (hB : B < w.heap.size) (hc : w.cell? ⟨B, 0, none⟩ = some (.string x)) : Calls Tryd.prog 31 #[ob o, ptr B] w fun e w' => e = .returned (.bool (o.handle.toList == x.toList)) ∧ Below w.heap.size w w' := by
  have hc2 : (w.alloc (.cells (obCells o) 31)).cell? ⟨B, 0, none⟩ = some (.string x) := ((bAl (Below.refl _ _) _ : Below w.heap.size w _).cell (p := ⟨B, 0, none⟩) hB).trans hc
  have hb0 : Below w.heap.size w w := Below.refl _ _
  have mc := (AtC.new w (obCells o) 31).c
  go_enter Tryd.func31, Tryd.ntmps31
  go_wp2
  go_ret
  exact ⟨rfl, bAl hb0 _⟩
set_option maxHeartbeats 4000000 in
theorem index_any {A : Option Addr} (l : List Ob) (c : Nat) (x : ByteArray) (B : Nat) (w : World) (hr : RdK obK w w.heap.size A l) (hl : l.length ≤ 1000000) (hB : B < w.heap.size) (hc : w.cell? ⟨B, 0, none⟩ = some (.string x)) :
    Calls Tryd.prog 30 #[.slice A l.length c, .func (.func 31) #[] #[ptr B]] w fun e w' => (∃ i : Int, e = .returned (.int .i64 i) ∧ ((∃ k : Nat, i = k ∧ ∃ h : k < l.length, findO l x.data.toList = some l[k]) ∨ (i = -1 ∧ findO l x.data.toList = none))) ∧ Below w.heap.size w w' := by
  have HR := Lib.hid hr
  have C1 := Lib.hid (fun (o : Ob) W (q : Below w.heap.size w W) => find1_any o x B W (Nat.lt_of_lt_of_le hB q.size) ((q.cell (p := ⟨B, 0, none⟩) hB).trans hc))
  clear hr hB hc
  go_enter Tryd.func30, Tryd.ntmps30
  go_wp2
  go_loopw [8] (fun i wr => ∃ k : Nat, i = .int .i64 k ∧ k ≤ l.length ∧ (∀ a ∈ l.take k, hb a ≠ x.data.toList) ∧ Below w.heap.size w wr) (fun i _ => l.length - (intOf i).toNat)
  case atStart => exact ⟨0, rfl, Nat.zero_le _, by simp, Below.refl _ _⟩
  case round =>
    obtain ⟨k, rfl, hk, hn, k1⟩ := hrel
    have HN := Lib.hid hn
    have K1 := Lib.hid k1
    clear hn
    by_cases hlt : k < l.length
    · have i1 : (k : Int) < l.length := by omega
      obtain ⟨b, off, rfl, hbk, hc⟩ := obs_at (HR.out.below k1) (by omega)
      obtain ⟨c0, c1, c2, c3, c4, c5, c6, c7, c8, c9, c10, c11, c12, c13⟩ := hc k _ (List.getElem?_eq_getElem hlt)
      have CC := C1.out l[k] wr k1
      have HF : Hid (hb l[k] = x.data.toList → findO l x.data.toList = some l[k]) := Lib.hid (findO_at hlt HN.out)
      have HT : Hid (hb l[k] ≠ x.data.toList → ∀ a ∈ l.take (k + 1), hb a ≠ x.data.toList) := Lib.hid (fun q a ha => by
        rw [List.take_succ_eq_append_getElem hlt] at ha
        rcases List.mem_append.1 ha with h | h
        · exact HN.out a h
        · obtain rfl : a = l[k] := by simpa using h
          exact q)
      have HG : Hid (∃ h : k < l.length, l[k] = l[k]) := Lib.hid ⟨hlt, rfl⟩
      clear hc k1
      by_cases he : l[k].handle = x
      · have e1 : (l[k].handle.toList == x.toList) = true := by rw [he]; simp
        rw [e1] at CC
        have CC := Lib.hid CC
        have HV := Lib.hid (HF.out (by show l[k].handle.data.toList = _; rw [he]))
        clear he e1 HT HF
        go_wp2_with (go_at_call 31; ((with_reducible refine CC.out.mono ?_); rintro e w3 ⟨rfl, k3⟩))
        go_ret
        exact ⟨⟨k, rfl, .inl ⟨k, rfl, hlt, HV.out⟩⟩, bThen K1.out k3⟩
      · rw [tl_ne he] at CC
        have CC := Lib.hid CC
        have HV := Lib.hid (HT.out fun z => he (bs_eq z))
        clear he HT HF
        go_wp2_with (go_at_call 31; ((with_reducible refine CC.out.mono ?_); rintro e w3 ⟨rfl, k3⟩))
        go_roundw
        case rel => exact ⟨k + 1, by go_num, by omega, HV.out, bThen K1.out k3⟩
        case measure => simp [intOf]; omega
    · obtain rfl : k = l.length := by omega
      have i1 : ¬ (l.length : Int) < l.length := by omega
      have HV : Hid (findO l x.data.toList = none) := Lib.hid (findO_none.2 (by have := HN.out; rwa [List.take_length] at this))
      go_wp2
      go_ret
      exact ⟨⟨-1, rfl, .inr ⟨rfl, HV.out⟩⟩, K1.out⟩
/-- What Find tells. -/
def obO (x : Option Ob) : Ob := x.getD zeroOb
set_option maxHeartbeats 4000000 in
theorem find_any {A : Option Addr} (l : List Ob) (c : Nat) (x : ByteArray) (w : World) (hr : RdK obK w w.heap.size A l) (hl : l.length ≤ 1000000) :
    Calls Tryd.prog 20 #[.slice A l.length c, .string x] w fun e w' => e = .returned (.tuple #[ob (obO (findO l x.data.toList)), .bool (findO l x.data.toList).isSome]) ∧ Below w.heap.size w w' := by
  have hb0 : Below w.heap.size w w := Below.refl _ _
  have HR := Lib.hid hr
  have CI : Hid (∀ W, Below (w.alloc (.cells #[.string x] 9)).heap.size (w.alloc (.cells #[.string x] 9)) W → Calls Tryd.prog 30 #[.slice A l.length c, .func (.func 31) #[] #[ptr w.heap.size]] W fun e w' => (∃ i : Int, e = .returned (.int .i64 i) ∧ ((∃ k : Nat, i = k ∧ ∃ h : k < l.length, findO l x.data.toList = some l[k]) ∨ (i = -1 ∧ findO l x.data.toList = none))) ∧ Below W.heap.size W w') := Lib.hid (fun W q => by
    have b1 : Below w.heap.size w W := (bAl hb0 _).trans (q.mono (by simp))
    have mx := (AtC.new w #[.string x] 9).then q
    exact index_any l c x w.heap.size W ((hr.below b1).more b1.size) hl mx.lt (mx.c 0))
  clear hr
  cases e : findO l x.data.toList with
  | none =>
    have CJ : Hid (∀ W, Below (w.alloc (.cells #[.string x] 9)).heap.size (w.alloc (.cells #[.string x] 9)) W → Calls Tryd.prog 30 #[.slice A l.length c, .func (.func 31) #[] #[ptr w.heap.size]] W fun e w' => e = .returned (.int .i64 (-1)) ∧ Below W.heap.size W w') := Lib.hid (fun W q => (CI.out W q).mono fun e2 w' ⟨⟨i, he, hi⟩, k⟩ => ⟨by
      rcases hi with ⟨j, _, _, z⟩ | ⟨z, _⟩
      · rw [e] at z; cases z
      · rw [he, z], k⟩)
    clear e CI HR
    go_enter Tryd.func20, Tryd.ntmps20
    go_wp2_with (go_at_call 30; ((with_reducible refine (CJ.out _ (bAl (Below.refl _ _) _)).mono ?_); rintro e w3 ⟨rfl, k3⟩; have mR := (AtC.newAt (w := w.alloc (.cells #[.string x] 9)) (B := w.heap.size + 1) (by simp)).then k3; have rc := mR.c; have rf := mR.f; have rl := mR.lt; have MR := Lib.hid mR; clear mR; have K3 := Lib.hid (bThen (bAl (bAl hb0 _) _) k3)))
    exact ret_ob2 (o := zeroOb) rfl rfl rfl rfl (AtC.fill MR.out rfl _ _ _ _ _ _ _ _ _ _ _ _ _ _) ⟨rfl, bFill K3.out (by show w.heap.size ≤ w.heap.size + 1; omega) _ _ _ _ _ _ _ _ _ _ _ _ _ _⟩
  | some o =>
    obtain ⟨k, hkl, hko⟩ : ∃ k, ∃ h : k < l.length, l[k] = o := by
      obtain ⟨h1, _⟩ := findO_some e
      obtain ⟨k, h, q⟩ := List.getElem_of_mem h1
      exact ⟨k, h, q⟩
    have CJ : Hid (∀ W, Below (w.alloc (.cells #[.string x] 9)).heap.size (w.alloc (.cells #[.string x] 9)) W → Calls Tryd.prog 30 #[.slice A l.length c, .func (.func 31) #[] #[ptr w.heap.size]] W fun e w' => ∃ k : Nat, e = .returned (.int .i64 k) ∧ l[k]? = some o ∧ Below W.heap.size W w') := Lib.hid (fun W q => (CI.out W q).mono fun e2 w' ⟨⟨i, he, hi⟩, k⟩ => by
      rcases hi with ⟨j, z1, h, z⟩ | ⟨_, z⟩
      · rw [e] at z
        refine ⟨j, by rw [he, z1], ?_, k⟩
        rw [List.getElem?_eq_getElem h]; exact z.symm
      · rw [e] at z; cases z)
    clear e CI hkl hko k
    go_enter Tryd.func20, Tryd.ntmps20
    go_wp2_with (go_at_call 30; ((with_reducible refine (CJ.out _ (bAl (Below.refl _ _) _)).mono ?_); rintro e w3 ⟨k, rfl, hk, k3⟩; have mR := (AtC.newAt (w := w.alloc (.cells #[.string x] 9)) (B := w.heap.size + 1) (by simp)).then k3; have rc := mR.c; have rf := mR.f; have rl := mR.lt; have MR := Lib.hid mR; clear mR; have K3 := Lib.hid (bThen (bAl (bAl hb0 _) _) k3); have hkl := (List.getElem?_eq_some_iff.1 hk).1; have i1 : (k : Int) < l.length := (by omega); obtain ⟨b, off, rfl, hbk, hc⟩ := obs_at (HR.out.below K3.out) (by omega); obtain ⟨c0, c1, c2, c3, c4, c5, c6, c7, c8, c9, c10, c11, c12, c13⟩ := hc k o hk; clear hc))
    exact ret_ob2 (o := o) rfl rfl rfl rfl (AtC.fill MR.out rfl _ _ _ _ _ _ _ _ _ _ _ _ _ _) ⟨rfl, bFill K3.out (by show w.heap.size ≤ w.heap.size + 1; omega) _ _ _ _ _ _ _ _ _ _ _ _ _ _⟩
end Go.Proofs.YthlalmoapbdccaaDoor.WX
/-
  WALKS: the first object of a handle: the program's place and find, the document's Find.
-/
namespace Go.Proofs.YthlalmoapbdccaaDoor.DX
open Go.RowKit HL
open IX (ptr El cellsK cellsK_at OwnK RdK strK)
open WX (obK obs_at hb pb rb tl_ne bs_eq findO findO_some findO_none findO_at obO ret_ob2)
set_option maxRecDepth 100000
set_option linter.unusedVariables false
set_option linter.unusedSimpArgs false

/-- k is where the first object of that handle stands. -/
def FirstAt (l : List Ob) (x : Bs) (k : Nat) : Prop := ∃ h : k < l.length, (∀ a ∈ l.take k, hb a ≠ x) ∧ hb l[k] = x
theorem FirstAt.find {l : List Ob} {x : Bs} {k : Nat} (h : FirstAt l x k) : ∃ h : k < l.length, findO l x = some l[k] := ⟨h.1, findO_at h.1 h.2.1 h.2.2⟩
/-- What place answers. -/
def PlaceIs (l : List Ob) (x : Bs) (i : Int) : Prop := (∃ k : Nat, i = k ∧ FirstAt l x k) ∨ (i = -1 ∧ ∀ a ∈ l, hb a ≠ x)
set_option maxHeartbeats 8000000 in
theorem refFind_any {A : Option Addr} (l : List Ob) (c : Nat) (x : ByteArray) (w : World) (hr : RdK obK w w.heap.size A l) (hl : l.length ≤ 1000000) :
    Calls Tryd.prog 43 #[.slice A l.length c, .string x] w fun e w' => e = .returned (.tuple #[ob (obO (findO l x.data.toList)), .bool (findO l x.data.toList).isSome]) ∧ Below w.heap.size w w' := by
  have HR := Lib.hid hr
  have mA := AtC.new w (obCells zeroOb) 31
  have hA := bAl (Below.refl w.heap.size w) (.cells (obCells zeroOb) 31)
  have MA := Lib.hid mA
  have HA := Lib.hid hA
  clear hr mA hA
  go_enter Tryd.func43, Tryd.ntmps43
  go_wp2
  go_loopw [6] (fun i wr => ∃ k : Nat, i = .int .i64 k ∧ k ≤ l.length ∧ Hid (∀ a ∈ l.take k, hb a ≠ x.data.toList) ∧ AtC wr w.heap.size (obCells zeroOb) ∧ Below w.heap.size w wr) (fun i _ => l.length - (intOf i).toNat)
  case atStart => exact ⟨0, rfl, Nat.zero_le _, Lib.hid (by simp), MA.out, HA.out⟩
  case round =>
    obtain ⟨k, rfl, hk, HN, mR, k1⟩ := hrel
    have K1 := Lib.hid k1
    have rc := mR.c
    have rf := mR.f
    have rl := mR.lt
    have MR := Lib.hid mR
    by_cases hlt : k < l.length
    · have i1 : (k : Int) < l.length := by omega
      obtain ⟨b, off, rfl, hbk, hc⟩ := obs_at (HR.out.below k1) (by omega)
      obtain ⟨c0, c1, c2, c3, c4, c5, c6, c7, c8, c9, c10, c11, c12, c13⟩ := hc k _ (List.getElem?_eq_getElem hlt)
      have HF : Hid (hb l[k] = x.data.toList → findO l x.data.toList = some l[k]) := Lib.hid (findO_at hlt HN.out)
      have HT : Hid (hb l[k] ≠ x.data.toList → ∀ a ∈ l.take (k + 1), hb a ≠ x.data.toList) := Lib.hid (fun q a ha => by
        rw [List.take_succ_eq_append_getElem hlt] at ha
        rcases List.mem_append.1 ha with h | h
        · exact HN.out a h
        · obtain rfl : a = l[k] := by simpa using h
          exact q)
      clear hc k1 mR
      generalize l[k] = o at *
      by_cases he : o.handle = x
      · have e1 : (o.handle.toList == x.toList) = true := by rw [he]; simp
        have HV := Lib.hid (HF.out (by show o.handle.data.toList = _; rw [he]))
        clear he HT HF
        go_wp2
        rw [HV.out]
        exact ret_ob2 (o := o) rfl rfl rfl rfl (AtC.fill MR.out rfl _ _ _ _ _ _ _ _ _ _ _ _ _ _) ⟨rfl, bFill K1.out (Nat.le_refl _) _ _ _ _ _ _ _ _ _ _ _ _ _ _⟩
      · have e1 := tl_ne he
        have HV := Lib.hid (HT.out fun z => he (bs_eq z))
        clear he HT HF
        go_wp2
        go_roundw
        case rel => exact ⟨k + 1, by go_num, by omega, HV, MR.out, K1.out⟩
        case measure => simp [intOf]; omega
    · obtain rfl : k = l.length := by omega
      have i1 : ¬ (l.length : Int) < l.length := by omega
      have HV : Hid (findO l x.data.toList = none) := Lib.hid (findO_none.2 (by have := HN.out; rwa [List.take_length] at this))
      clear mR
      go_wp2
      rw [HV.out]
      exact ret_ob2 (o := zeroOb) rfl rfl rfl rfl (AtC.fill MR.out rfl _ _ _ _ _ _ _ _ _ _ _ _ _ _) ⟨rfl, bFill K1.out (Nat.le_refl _) _ _ _ _ _ _ _ _ _ _ _ _ _ _⟩
end Go.Proofs.YthlalmoapbdccaaDoor.DX
/-
  WALKS: wf's climb (over Find), Mds.
-/
namespace Go.Proofs.YthlalmoapbdccaaDoor.WX
open Go.RowKit HL
open IX (ptr El cellsK cellsK_at OwnK RdK strK)
set_option maxRecDepth 100000
set_option linter.unusedVariables false
set_option linter.unusedSimpArgs false

/-- From Parent to Parent to a KdMds. -/
def climbO (f : Bs → Option Ob) : Nat → Bs → Option Bs
  | 0, _ => none
  | n + 1, h => match f h with
    | none => none
    | some o => if o.kind = 1 then some (hb o) else climbO f n (pb o)
def txt (r : Option Bs) : ByteArray := ⟨(r.getD []).toArray⟩
set_option maxHeartbeats 4000000 in
theorem mds1_any {A : Option Addr} (l : List Ob) (c : Nat) (x : ByteArray) (B : Nat) (w : World) (hr : RdK obK w w.heap.size A l) (hl : l.length ≤ 1000000) (hB : B < w.heap.size) (hc : w.cell? ⟨B, 0, none⟩ = some (.slice A l.length c)) :
    Calls Tryd.prog 33 #[.string x, ptr B] w fun e w' => e = .returned (.tuple #[ob (obO (findO l x.data.toList)), .bool (findO l x.data.toList).isSome]) ∧ Below w.heap.size w w' := by
  have hb0 : Below w.heap.size w w := Below.refl _ _
  have CF := Lib.hid (fun W (q : Below w.heap.size w W) => find_any l c x W ((hr.below q).more q.size) hl)
  clear hr
  generalize obO (findO l x.data.toList) = o at *
  generalize (findO l x.data.toList).isSome = b at *
  go_enter Tryd.func33, Tryd.ntmps33
  go_wp2_with (go_at_call 20; ((with_reducible refine (CF.out _ (bAl hb0 _)).mono ?_); rintro e w3 ⟨rfl, k3⟩; have mR := (AtC.new w _ _).then k3; have rc := mR.c; have rf := mR.f; have rl := mR.lt; have MR := Lib.hid mR; clear mR; have K3 := Lib.hid (bThen (bAl hb0 _) k3)))
  exact ret_ob2 (o := o) rfl rfl rfl rfl (AtC.fill MR.out rfl _ _ _ _ _ _ _ _ _ _ _ _ _ _) ⟨rfl, bFill K3.out (Nat.le_refl _) _ _ _ _ _ _ _ _ _ _ _ _ _ _⟩
end Go.Proofs.YthlalmoapbdccaaDoor.WX
/-
  WALKS: wf's climb over Find.
-/
namespace Go.Proofs.YthlalmoapbdccaaDoor.WX
open Go.RowKit HL
open IX (ptr El cellsK cellsK_at OwnK RdK strK)
set_option maxRecDepth 100000
set_option linter.unusedVariables false
set_option linter.unusedSimpArgs false

set_option maxHeartbeats 8000000 in
theorem climb_any {A : Option Addr} (l : List Ob) (c : Nat) (x : ByteArray) (B : Nat) (w : World) (hr : RdK obK w w.heap.size A l) (hl : l.length ≤ 1000000) (hB : B < w.heap.size) (hc : w.cell? ⟨B, 0, none⟩ = some (.slice A l.length c)) :
    Calls Tryd.prog 32 #[.func (.func 33) #[] #[ptr B], .string x] w fun e w' => e = .returned (.tuple #[.string (txt (climbO (findO l) 8 x.data.toList)), .bool (climbO (findO l) 8 x.data.toList).isSome]) ∧ Below w.heap.size w w' := by
  have CM := Lib.hid (fun (y : ByteArray) W (q : Below w.heap.size w W) => mds1_any l c y B W ((hr.below q).more q.size) hl (Nat.lt_of_lt_of_le hB q.size) ((q.cell (p := ⟨B, 0, none⟩) hB).trans hc))
  clear hr hc hB
  obtain ⟨res, hres⟩ : ∃ r, climbO (findO l) 8 x.data.toList = r := ⟨_, rfl⟩
  rw [hres]
  have HRES := Lib.hid hres
  clear hres
  go_enter Tryd.func32, Tryd.ntmps32
  go_wp2
  go_loopw [1, 8] (fun hv i wr => ∃ (k : Nat) (y : ByteArray), hv = .string y ∧ i = .int .i64 k ∧ k ≤ 8 ∧ Hid (climbO (findO l) (8 - k) y.data.toList = res) ∧ Below w.heap.size w wr) (fun _ i _ => 8 - (intOf i).toNat)
  case atStart => exact ⟨0, x, rfl, rfl, by omega, HRES, Below.refl _ _⟩
  case round =>
    obtain ⟨k, y, rfl, rfl, hk, hr2, k1⟩ := hrel
    have K1 := Lib.hid k1
    by_cases hlt : k < 8
    · have i1 : (k : Int) < 8 := by omega
      have CC := CM.out y wr k1
      have h8 : 8 - k = (8 - (k + 1)) + 1 := by omega
      have HS : Hid (res = match findO l y.data.toList with
        | none => none
        | some o => if o.kind = 1 then some (hb o) else climbO (findO l) (8 - (k + 1)) (pb o)) := Lib.hid (by
          have := hr2.out
          rw [h8] at this
          exact this.symm)
      clear k1 hr2 h8 HRES
      cases hf : findO l y.data.toList with
      | none =>
        rw [hf] at CC
        have CC := Lib.hid CC
        have HV : Hid (res = none) := Lib.hid (by rw [HS.out, hf])
        clear hf HS
        generalize obO none = o at *
        go_wp2_with (go_at_call 33; ((with_reducible refine CC.out.mono ?_); rintro e w3 ⟨rfl, k3⟩))
        go_ret2
        exact ⟨by rw [HV.out]; rfl, bAl (bThen K1.out k3) _⟩
      | some o =>
        rw [hf] at CC
        have CC : Hid (Calls Tryd.prog 33 #[.string y, ptr B] wr fun e w' => e = .returned (.tuple #[ob o, .bool true]) ∧ Below wr.heap.size wr w') := Lib.hid CC
        by_cases hk1 : o.kind = 1
        · have HV : Hid (res = some (hb o)) := Lib.hid (by rw [HS.out, hf]; simp [hk1])
          have i2 : (o.kind : Int) = 1 := by omega
          clear hf HS hk1
          go_wp2_with (go_at_call 33; ((with_reducible refine CC.out.mono ?_); rintro e w3 ⟨rfl, k3⟩; have mc := (AtC.new w3 (obCells o) 31).c))
          go_ret2
          exact ⟨by rw [HV.out]; rfl, bAl (bThen K1.out k3) _⟩
        · have HV : Hid (res = climbO (findO l) (8 - (k + 1)) (pb o)) := Lib.hid (by rw [HS.out, hf]; simp [hk1])
          have i2 : ¬ (o.kind : Int) = 1 := by omega
          clear hf HS hk1
          go_wp2_with (go_at_call 33; ((with_reducible refine CC.out.mono ?_); rintro e w3 ⟨rfl, k3⟩; have mc := (AtC.new w3 (obCells o) 31).c))
          go_roundw
          case rel => exact ⟨k + 1, o.parent, rfl, by go_num, by omega, Lib.hid HV.out.symm, bAl (bThen K1.out k3) _⟩
          case measure => simp [intOf]; omega
    · obtain rfl : k = 8 := by omega
      have HV : Hid (res = none) := Lib.hid hr2.out.symm
      clear hr2 HRES k1
      go_wp2
      go_ret2
      exact ⟨by rw [HV.out]; rfl, K1.out⟩
set_option maxHeartbeats 4000000 in
theorem mds_any {A : Option Addr} (l : List Ob) (c : Nat) (x : ByteArray) (w : World) (hr : RdK obK w w.heap.size A l) (hl : l.length ≤ 1000000) :
    Calls Tryd.prog 21 #[.slice A l.length c, .string x] w fun e w' => e = .returned (.tuple #[.string (txt (climbO (findO l) 8 x.data.toList)), .bool (climbO (findO l) 8 x.data.toList).isSome]) ∧ Below w.heap.size w w' := by
  have hb0 : Below w.heap.size w w := Below.refl _ _
  have CC := Lib.hid (climb_any l c x w.heap.size (w.alloc (.cells #[.slice A l.length c] 22)) ((hr.below (bAl hb0 _)).more (by simp)) hl (by simp) ((AtC.new w #[.slice A l.length c] 22).c 0))
  clear hr
  generalize climbO (findO l) 8 x.data.toList = res at *
  go_enter Tryd.func21, Tryd.ntmps21
  go_wp2_with (go_at_call 32; ((with_reducible refine CC.out.mono ?_); rintro e w3 ⟨rfl, k3⟩))
  go_ret2
  exact ⟨rfl, bThen (bAl hb0 _) k3⟩
end Go.Proofs.YthlalmoapbdccaaDoor.WX
/-
  WALK: the laws' Long of a list of objects.
-/

namespace Go.Proofs.YthlalmoapbdccaaDoor.WX
open Go.RowKit HL
open IX (ptr El cellsK cellsK_at OwnK RdK strK)
set_option maxRecDepth 100000
set_option linter.unusedVariables false
set_option linter.unusedSimpArgs false

def longO (l : List Ob) : Bool := decide (100 < l.length) || l.any fun c => longB c
theorem longO_out {l : List Ob} (h : longO l = false) : l.length ≤ 100 ∧ ∀ c ∈ l, longB c = false := by
  simp [longO] at h
  exact ⟨by omega, h.2⟩
set_option maxHeartbeats 4000000 in
theorem longO_any (A : Option Addr) (c : Nat) (l : List Ob) (w : World) (h : RdK obK w w.heap.size A l) (hn : l.length ≤ maxLen) : Calls Tryd.prog 9 #[.slice A l.length c] w fun e w' => e = .returned (.bool (longO l)) ∧ Below w.heap.size w w' := by
  unfold maxLen at hn
  have H := Lib.hid h
  clear h
  by_cases h30 : 100 < l.length
  · have HV : Hid (longO l = true) := Lib.hid (by simp [longO]; omega)
    have i0 : (100 : Int) < l.length := by omega
    go_enter Tryd.func9, Tryd.ntmps9
    go_wp2
    go_ret
    exact ⟨by rw [HV.out]; rfl, Below.refl _ _⟩
  · have i0 : ¬ (100 : Int) < l.length := by omega
    have HN30 := Lib.hid h30
    clear h30
    go_enter Tryd.func9, Tryd.ntmps9
    go_wp2
    go_loopw [3] (fun i wr => ∃ k : Nat, i = .int .i64 k ∧ k ≤ l.length ∧ Hid (∀ a ∈ l.take k, longB a = false) ∧ Below w.heap.size w wr) (fun i _ => l.length - (intOf i).toNat)
    case atStart => exact ⟨0, rfl, Nat.zero_le _, Lib.hid (by simp), Below.refl _ _⟩
    case round =>
      obtain ⟨k, rfl, hk, HN, k1⟩ := hrel
      by_cases hlt : k < l.length
      · obtain ⟨b, off, rfl, hbk, hc⟩ := obs_at (H.out.below k1) (by omega)
        obtain ⟨p0, p1, p2, p3, p4, p5, p6, p7, p8, p9, p10, p11, p12, p13⟩ := hc k _ (List.getElem?_eq_getElem hlt)
        have i1 : (k : Int) < l.length := by omega
        have HA : Hid (longB l[k] = true → longO l = true) := Lib.hid (fun q => by
          unfold longO
          rw [show (l.any fun c => longB c) = true from List.any_eq_true.2 ⟨_, List.getElem_mem hlt, q⟩, Bool.or_true])
        have HT : Hid (longB l[k] = false → ∀ a ∈ l.take (k + 1), longB a = false) := Lib.hid (fun q a ha => by
          rw [List.take_succ_eq_append_getElem hlt] at ha
          rcases List.mem_append.1 ha with h | h
          · exact HN.out a h
          · obtain rfl : a = l[k] := by simpa using h
            exact q)
        have K1 := Lib.hid k1
        clear hc k1
        generalize l[k] = x at *
        have CL := fun W => Lib.hid (long_any x W)
        cases hx : longB x with
        | true =>
          rw [hx] at CL
          have HV := Lib.hid (HA.out hx)
          clear hx HA HT
          go_wp2_with (go_at_call 15; ((with_reducible refine (CL _).out.mono ?_); rintro e w3 ⟨rfl, k3⟩))
          go_ret
          exact ⟨by rw [HV.out]; rfl, bThen K1.out k3⟩
        | false =>
          rw [hx] at CL
          have HV := Lib.hid (HT.out hx)
          clear hx HA HT
          go_wp2_with (go_at_call 15; ((with_reducible refine (CL _).out.mono ?_); rintro e w3 ⟨rfl, k3⟩))
          go_roundw
          case rel => exact ⟨k + 1, by go_num, by omega, HV, bThen K1.out k3⟩
          case measure => simp [intOf]; omega
      · obtain rfl : k = l.length := by omega
        have i1 : ¬ (l.length : Int) < l.length := by omega
        have HV : Hid (longO l = false) := Lib.hid (by
          have h1 := HN.out
          rw [List.take_length] at h1
          unfold longO
          rw [decide_eq_false HN30.out, Bool.false_or, List.any_eq_false]
          intro a ha
          simp [h1 a ha])
        go_wp2
        go_ret
        exact ⟨by rw [HV.out]; rfl, k1⟩
end Go.Proofs.YthlalmoapbdccaaDoor.WX
