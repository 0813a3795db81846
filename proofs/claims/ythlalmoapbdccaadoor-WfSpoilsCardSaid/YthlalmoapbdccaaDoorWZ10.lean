/-
  WALK: wf's rule 1: the fault of the least handle.
-/
import Derived.Test.YthlalmoapbdccaaDoorWZ8
import Derived.Test.YthlalmoapbdccaaDoorWZOMayP
import Derived.Test.YthlalmoapbdccaaDoorWZ9
import Derived.Test.YthlalmoapbdccaaDoorWZ7
import Derived.Test.YthlalmoapbdccaaDoorWZCRefStand
import Derived.Test.YthlalmoapbdccaaDoorWZ0
namespace Go.Proofs.YthlalmoapbdccaaDoor.WX
open Go.RowKit HL
open IX (ptr El cellsK cellsK_at OwnK RdK strK)
set_option maxRecDepth 100000
set_option linter.unusedVariables false
set_option linter.unusedSimpArgs false

abbrev viewV (A : Option Addr) (n c M : Nat) : Value := .agg #[.slice A n c, .map (some M)]
/-- One object more: the least handle with a fault, and it. -/
noncomputable def fltS (p : ByteArray × Int) (o : Ob) : ByteArray × Int := if faultP o true = 0 then p else if p.2 = 0 then (o.handle, faultP o true) else if Op.bytesLess o.handle.toList p.1.toList = true then (o.handle, faultP o true) else p
noncomputable def fltK (l : List Ob) (k : Nat) : ByteArray × Int := (l.take k).foldl fltS (⟨#[]⟩, 0)
theorem fltK_0 (l : List Ob) : fltK l 0 = (⟨#[]⟩, 0) := by simp [fltK]
theorem fltK_next {l : List Ob} {k : Nat} (hk : k < l.length) : fltK l (k + 1) = fltS (fltK l k) l[k] := by
  unfold fltK
  rw [List.take_succ_eq_append_getElem hk, List.foldl_append]
  rfl
set_option maxHeartbeats 8000000 in
theorem faults_any {A : Option Addr} (l : List Ob) (c M : Nat) (w : World) (hr : RdK obK w w.heap.size A l) (hl : l.length ≤ 1000) (hm : ∀ o ∈ l, ∀ W, Below w.heap.size w W → Meets o W) :
    Calls Tryd.prog 65 #[viewV A l.length c M] w fun e w' => e = .returned (.int .i64 (fltK l l.length).2) ∧ Below w.heap.size w w' := by
  have hb0 : Below w.heap.size w w := Below.refl _ _
  have HR := Lib.hid hr
  have HM := Lib.hid hm
  have vc := (AtC.new w #[.slice A l.length c, .map (some M)] 74).c
  have B1 := Lib.hid (bAl hb0 (.cells #[.slice A l.length c, .map (some M)] 74))
  clear hr hm
  go_enter Tryd.func65, Tryd.ntmps65
  go_wp2
  go_loopw [3, 4, 11] (fun s f i wr => ∃ k : Nat, i = .int .i64 k ∧ s = .string (fltK l k).1 ∧ f = .int .i64 (fltK l k).2 ∧ k ≤ l.length ∧ Below w.heap.size w wr) (fun _ _ i _ => l.length - (intOf i).toNat)
  case atStart => exact ⟨0, rfl, by rw [fltK_0], by rw [fltK_0], Nat.zero_le _, B1.out⟩
  case round =>
    obtain ⟨k, rfl, rfl, rfl, hk, k1⟩ := hrel
    have K1 := Lib.hid k1
    by_cases hlt : k < l.length
    · have i1 : (k : Int) < l.length := by omega
      obtain ⟨b, off, rfl, hbk, hc⟩ := obs_at (HR.out.below k1) (by omega)
      obtain ⟨c0, c1, c2, c3, c4, c5, c6, c7, c8, c9, c10, c11, c12, c13⟩ := hc k _ (List.getElem?_eq_getElem hlt)
      have CM := Lib.hid (objMay_any (HM.out _ (List.getElem_mem hlt) (wr.alloc (.cells (obCells l[k]) 31)) (bAl k1 _)))
      have NX := Lib.hid (fltK_next hlt)
      clear hc k1
      generalize l[k] = o at *
      generalize fltK l k = p at *
      obtain ⟨ps, pf⟩ := p
      have mc := (AtC.new wr (obCells o) 31).c
      obtain ⟨f, hf⟩ : ∃ f, faultP o true = f := ⟨_, rfl⟩
      rw [hf] at CM
      have HS : Hid (fltK l (k + 1) = if f = 0 then (ps, pf) else if pf = 0 then (o.handle, f) else if Op.bytesLess o.handle.toList ps.toList = true then (o.handle, f) else (ps, pf)) := Lib.hid (by rw [NX.out]; unfold fltS; rw [hf])
      clear hf NX
      by_cases h0 : f = 0
      · have HV : Hid (fltK l (k + 1) = (ps, pf)) := Lib.hid (by rw [HS.out, if_pos h0])
        clear HS
        go_wp2_with (go_at_call 19; ((with_reducible refine CM.out.mono ?_); rintro e w3 ⟨rfl, k3⟩; have K3 := Lib.hid (bThen (bAl K1.out _) k3)))
        go_roundw
        case rel => exact ⟨k + 1, by go_num, by rw [HV.out], by rw [HV.out], by omega, K3.out⟩
        case measure => simp [intOf]; omega
      · by_cases h1 : pf = 0
        · have HV : Hid (fltK l (k + 1) = (o.handle, f)) := Lib.hid (by rw [HS.out, if_neg h0, if_pos h1])
          clear HS
          go_wp2_with (go_at_call 19; ((with_reducible refine CM.out.mono ?_); rintro e w3 ⟨rfl, k3⟩; have K3 := Lib.hid (bThen (bAl K1.out _) k3); clear mc; have mc3 := ((AtC.new wr (obCells o) 31).then k3).c))
          go_roundw
          case rel => exact ⟨k + 1, by go_num, by rw [HV.out], by rw [HV.out], by omega, K3.out⟩
          case measure => simp [intOf]; omega
        · have g0 : (f != 0) = true := by simpa using h0
          have g1 : (pf == 0) = false := by simpa using h1
          cases h2 : Op.bytesLess o.handle.toList ps.toList with
          | true =>
            have HV : Hid (fltK l (k + 1) = (o.handle, f)) := Lib.hid (by rw [HS.out, if_neg h0, if_neg h1, if_pos h2])
            clear HS
            go_wp2_with (go_at_call 19; ((with_reducible refine CM.out.mono ?_); rintro e w3 ⟨rfl, k3⟩; have K3 := Lib.hid (bThen (bAl K1.out _) k3); clear mc; have mc3 := ((AtC.new wr (obCells o) 31).then k3).c))
            go_roundw
            case rel => exact ⟨k + 1, by go_num, by rw [HV.out], by rw [HV.out], by omega, K3.out⟩
            case measure => simp [intOf]; omega
          | false =>
            have HV : Hid (fltK l (k + 1) = (ps, pf)) := Lib.hid (by rw [HS.out, if_neg h0, if_neg h1, if_neg (by rw [h2]; simp)])
            clear HS
            go_wp2_with (go_at_call 19; ((with_reducible refine CM.out.mono ?_); rintro e w3 ⟨rfl, k3⟩; have K3 := Lib.hid (bThen (bAl K1.out _) k3); clear mc; have mc3 := ((AtC.new wr (obCells o) 31).then k3).c))
            go_roundw
            case rel => exact ⟨k + 1, by go_num, by rw [HV.out], by rw [HV.out], by omega, K3.out⟩
            case measure => simp [intOf]; omega
    · obtain rfl : k = l.length := by omega
      have i1 : ¬ (l.length : Int) < l.length := by omega
      clear k1
      go_wp2
      go_ret
      exact ⟨rfl, K1.out⟩
end Go.Proofs.YthlalmoapbdccaaDoor.WX
/-
  PLAIN: what wf tells of a list: the program's seven rules are the document's.
-/
namespace Go.Proofs.YthlalmoapbdccaaDoor.WX
open Go.RowKit HL
open IX (ptr El cellsK cellsK_at OwnK RdK strK)
set_option maxRecDepth 100000
set_option linter.unusedVariables false
set_option linter.unusedSimpArgs false

/-! ### One object by itself -/
structure Okay (o : Ob) : Prop where
  kind : 1 ≤ o.kind ∧ o.kind ≤ 9
  handle : hb o ≠ []
  root : o.kind = 1 → pb o = []
  parent : o.kind ≠ 1 → pb o ≠ []
  ref : refersB o.kind = true → rb o ≠ []
  noref : refersB o.kind = false → rb o = []
  assoc : o.assoc ≠ 0 → o.kind = 9
theorem may_ne {s : ByteArray} (h : HL.mayB s = true) : s.data.toList ≠ [] := by
  have h1 : 1 ≤ s.data.size := (HL.mayB_iff.1 h).1
  intro e
  have h2 : s.data.toList.length = s.data.size := Array.length_toList
  rw [e] at h2
  rw [← h2] at h1
  exact absurd h1 (by decide)
theorem fault_parts {o : Ob} (h : faultP o true = 0) : fitsB o = true ∧ HL.mayB o.handle = true ∧ namedB o = true := by
  unfold faultP at h
  by_cases h1 : fitsB o = false
  · rw [if_pos h1] at h; cases h
  · rw [if_neg h1] at h
    by_cases h2 : HL.mayB o.handle = false ∨ (true = true ∧ namedB o = false)
    · rw [if_pos h2] at h; cases h
    · refine ⟨by simpa using h1, ?_, ?_⟩
      · cases e : HL.mayB o.handle with
        | true => rfl
        | false => exact absurd (.inl e) h2
      · cases e : namedB o with
        | true => rfl
        | false => exact absurd (.inr ⟨rfl, e⟩) h2
theorem okay_of {o : Ob} (h : faultP o true = 0) : Okay o := by
  obtain ⟨h1, h2, h3⟩ := fault_parts h
  have hf : ¬ (kindB o.kind = false ∨ trimOf o ≠ o ∨ 3 < o.typ ∨ 3 < o.assoc) := fun q => by rw [(fits_iff o).2 q] at h1; cases h1
  have hn : ¬ ((¬ (o.kind : Int) = 1 ∧ HL.mayB o.parent = false) ∨ (refersB o.kind = true ∧ HL.mayB o.ref = false)) := fun q => by rw [(named_iff o).2 q] at h3; cases h3
  have hk : kindB o.kind = true := by
    cases e : kindB o.kind with
    | true => rfl
    | false => exact absurd (.inl e) hf
  have ht : trimOf o = o := Classical.byContradiction fun q => hf (.inr (.inl q))
  have hk2 := of_decide_eq_true hk
  have tp := congrArg Ob.parent ht
  have tr := congrArg Ob.ref ht
  have ta := congrArg Ob.assoc ht
  simp only [trimOf] at tp tr ta
  refine ⟨hk2, may_ne h2, fun e => ?_, fun e => ?_, fun e => ?_, fun e => ?_, fun e => ?_⟩
  · rw [if_pos e] at tp
    show o.parent.data.toList = []
    rw [← tp]
  · refine may_ne ?_
    cases q : HL.mayB o.parent with
    | true => rfl
    | false => exact absurd (.inl ⟨by omega, q⟩) hn
  · refine may_ne ?_
    cases q : HL.mayB o.ref with
    | true => rfl
    | false => exact absurd (.inr ⟨e, q⟩) hn
  · have : ¬ (o.kind = 6 ∨ o.kind = 7 ∨ o.kind = 8) := of_decide_eq_false e
    rw [if_neg this] at tr
    show o.ref.data.toList = []
    rw [← tr]
  · exact Classical.byContradiction fun q => by
      rw [if_neg q] at ta
      exact e ta.symm
theorem flt_zero (l : List Ob) : ∀ k, k ≤ l.length → ((fltK l k).2 = 0 ↔ ∀ o ∈ l.take k, faultP o true = 0) := by
  intro k
  induction k with
  | zero => intro _; rw [fltK_0]; simp
  | succ k ih =>
    intro hk
    have hlt : k < l.length := by omega
    rw [fltK_next hlt, List.take_succ_eq_append_getElem hlt]
    have ih := ih (by omega)
    generalize l[k] = o at *
    generalize fltK l k = p at *
    have hs : (fltS p o).2 = 0 ↔ p.2 = 0 ∧ faultP o true = 0 := by
      unfold fltS
      by_cases a : faultP o true = 0
      · rw [if_pos a]; simp [a]
      · rw [if_neg a]
        by_cases b : p.2 = 0
        · rw [if_pos b]; simp [a]
        · rw [if_neg b]
          split <;> simp [a, b]
    rw [hs, ih]
    simp only [List.mem_append, List.mem_singleton]
    constructor
    · rintro ⟨q1, q2⟩ x (h | rfl)
      · exact q1 x h
      · exact q2
    · intro q
      exact ⟨fun x h => q x (.inl h), q o (.inr rfl)⟩
theorem flt_okay {l : List Ob} (h : (fltK l l.length).2 = 0) : ∀ o ∈ l, Okay o := fun o ho => okay_of (((flt_zero l l.length (Nat.le_refl _)).1 h) o (by rwa [List.take_length]))
/-! ### One of each handle -/
theorem uniq : ∀ {l : List Ob}, (l.map hb).Nodup → ∀ {a b : Ob}, a ∈ l → b ∈ l → hb a = hb b → a = b
  | [], _, _, _, h, _, _ => by cases h
  | x :: l, hn, a, b, ha, hb', e => by
    rw [List.map_cons, List.nodup_cons] at hn
    rcases List.mem_cons.1 ha with h1 | h1
    · rcases List.mem_cons.1 hb' with h2 | h2
      · rw [h1, h2]
      · exact absurd (List.mem_map.2 ⟨b, h2, by rw [← e, h1]⟩) hn.1
    · rcases List.mem_cons.1 hb' with h2 | h2
      · exact absurd (List.mem_map.2 ⟨a, h1, by rw [e, h2]⟩) hn.1
      · exact uniq hn.2 h1 h2 e
theorem lastK_mem (l : List Ob) : ∀ k, k ≤ l.length → ∀ x o, lastK l k x = some o → o ∈ l ∧ hb o = x := by
  intro k
  induction k with
  | zero => intro _ x o h; rw [lastK_0] at h; cases h
  | succ k ih =>
    intro hk x o h
    have hlt : k < l.length := by omega
    rw [lastK_next hlt] at h
    by_cases e : x = hb l[k]
    · subst e
      rw [upd_same] at h
      cases h
      exact ⟨List.getElem_mem hlt, rfl⟩
    · rw [upd_other _ _ e] at h
      exact ih (by omega) x o h
theorem findO_isSome {l : List Ob} {x : Bs} : (findO l x).isSome = true ↔ x ∈ l.map hb := by
  constructor
  · intro h
    obtain ⟨o, e⟩ := Option.isSome_iff_exists.1 h
    obtain ⟨h1, h2⟩ := findO_some e
    exact List.mem_map.2 ⟨o, h1, h2⟩
  · intro h
    obtain ⟨o, h1, h2⟩ := List.mem_map.1 h
    cases e : findO l x with
    | none => exact absurd h2 (findO_none.1 e o h1)
    | some _ => rfl
theorem last_find {l : List Ob} (hn : (l.map hb).Nodup) : lastO l = findO l := by
  funext x
  cases e : findO l x with
  | none =>
    cases q : lastO l x with
    | none => rfl
    | some o =>
      have h1 : (lastO l x).isSome = true := by rw [q]; rfl
      rw [lastO_some, ← findO_isSome, e] at h1
      cases h1
  | some o =>
    obtain ⟨h1, h2⟩ := findO_some e
    cases q : lastO l x with
    | none =>
      have h3 : (findO l x).isSome = true := by rw [e]; rfl
      rw [findO_isSome, ← lastO_some, q] at h3
      cases h3
    | some u =>
      obtain ⟨h3, h4⟩ := lastK_mem l l.length (Nat.le_refl _) x u q
      rw [uniq hn h3 h1 (h4.trans h2.symm)]
/-! ### The rules, as the document has them -/
def mdsT (f : Bs → Option Ob) (h : Bs) : Bs := (climbO f 8 h).getD []
/-- Rule 5. -/
def refR (f : Bs → Option Ob) (o : Ob) : Bool :=
  if refersB o.kind = false then true else match f (rb o) with
    | none => false
    | some t => if refersTo o.kind t.kind = false then false else if o.kind = 7 then decide (pb t = pb o) else decide (mdsT f (hb o) = mdsT f (rb o))
/-- Rule 5, as the program asks it. -/
def refW (f : Bs → Option Ob) (o : Ob) : Bool :=
  if rb o = [] then true else if refersTo o.kind (orZ (f (rb o))).kind = false then false else if o.kind = 7 then decide (pb o = pb (orZ (f (rb o)))) else decide (mdsT f (hb o) = mdsT f (hb (orZ (f (rb o)))))
def und (l : List Ob) (p : Bs) (g : Nat) : Nat := (l.filter fun x => decide (pb x = p) && (grp x.kind == g)).length
/-- Rule 4, as the program counts. -/
def overK (l : List Ob) (j : Nat) : Bool := match l[j]? with
  | some o => decide (most o.kind < und (l.take (j + 1)) (pb o) (grp o.kind))
  | none => false
def countsB (l : List Ob) : Bool := (List.range l.length).any (overK l)
def yes (p : Bs) (t : Nat) (x : Ob) : Bool := (x.assoc == 2) && decide (pb x = p) && (x.typ == t)
def yesN (l : List Ob) (p : Bs) (t : Nat) : Nat := (l.filter (yes p t)).length
/-- Rule 7, as the program counts. -/
def ctxK (l : List Ob) (j : Nat) : Bool := match l[j]? with
  | some o => (o.assoc == 2) && decide (1 < yesN (l.take (j + 1)) (pb o) o.typ)
  | none => false
def ctxB (l : List Ob) : Bool := (List.range l.length).any (ctxK l)
noncomputable def brk3 (l : List Ob) (o : Ob) : Bool := if o.kind = 1 then false else match findO l (pb o) with
  | none => true
  | some p => (standE o p : Int) != 0
def brk6 (l : List Ob) (o : Ob) : Bool := decide (o.kind = 8) && (decide (o.low < (obO (findO l (rb o))).lo) || decide ((obO (findO l (rb o))).hi < o.high))
def twin (o x : Ob) : Bool := (x.kind == 9) && (x.assoc == 2) && decide (pb x = pb o) && (x.typ == o.typ)
/-- The object at i breaks the rule. -/
noncomputable def brk (l : List Ob) (i : Nat) (r : Nat) : Bool := match l[i]? with
  | none => false
  | some o => if r = 2 then (l.take i).any fun x => decide (hb x = hb o)
    else if r = 3 then brk3 l o
    else if r = 4 then decide (most o.kind < und l (pb o) (grp o.kind))
    else if r = 5 then !refR (findO l) o
    else if r = 6 then brk6 l o
    else if r = 7 then (o.kind == 9) && (o.assoc == 2) && (List.range l.length).any fun k => match l[k]? with
      | some x => (k != i) && twin o x
      | none => false
    else false
noncomputable def anyR (l : List Ob) (r : Nat) : Bool := (List.range l.length).any fun i => brk l i r
noncomputable def brokenR (l : List Ob) : Nat × Int :=
  if (fltK l l.length).2 ≠ 0 then (1, (fltK l l.length).2) else if anyR l 2 = true then (2, 71) else if anyR l 3 = true then (3, 50) else if anyR l 4 = true then (4, 51)
  else if anyR l 5 = true then (5, 90) else if anyR l 6 = true then (6, 91) else if anyR l 7 = true then (7, 92) else (0, 0)
noncomputable def verR (l : List Ob) : Nat × Int :=
  if (fltK l l.length).2 ≠ 0 then (1, (fltK l l.length).2) else if twiceB l = true then (2, 71) else if l.any (noStand (lastO l)) = true then (3, 50) else if countsB l = true then (4, 51)
  else if l.any (fun o => !refW (lastO l) o) = true then (5, 90) else if l.any (fun o => !inLim (lastO l) o) = true then (6, 91) else if ctxB l = true then (7, 92) else (0, 0)
theorem any_range {l : List Ob} {p : Nat → Bool} {q : Ob → Bool} (h : ∀ i o, l[i]? = some o → p i = q o) : (List.range l.length).any p = l.any q := by
  rw [Bool.eq_iff_iff, List.any_eq_true, List.any_eq_true]
  constructor
  · rintro ⟨i, hi, hp⟩
    have hi := List.mem_range.1 hi
    exact ⟨l[i], List.getElem_mem hi, by rw [← h i l[i] (List.getElem?_eq_getElem hi)]; exact hp⟩
  · rintro ⟨o, ho, hq⟩
    obtain ⟨i, hi, rfl⟩ := List.getElem_of_mem ho
    exact ⟨i, List.mem_range.2 hi, by rw [h i l[i] (List.getElem?_eq_getElem hi)]; exact hq⟩
theorem any_congr' {l : List Ob} {p q : Ob → Bool} (h : ∀ o ∈ l, p o = q o) : l.any p = l.any q := by
  rw [Bool.eq_iff_iff, List.any_eq_true, List.any_eq_true]
  constructor <;> rintro ⟨o, ho, e⟩ <;> refine ⟨o, ho, ?_⟩
  · rw [← h o ho]; exact e
  · rw [h o ho]; exact e
theorem any2 (l : List Ob) : anyR l 2 = twiceB l := by
  have h : anyR l 2 = false ↔ (l.map hb).Nodup := by
    unfold anyR
    rw [List.any_eq_false, List.nodup_iff_pairwise_ne, List.pairwise_iff_getElem]
    simp only [List.mem_range, List.length_map, List.getElem_map]
    constructor
    · intro q i j hi hj hij e
      refine q j hj ?_
      unfold brk
      rw [List.getElem?_eq_getElem hj]
      simp only [if_pos]
      rw [List.any_eq_true]
      refine ⟨l[i], ?_, by simp [e]⟩
      rw [List.mem_iff_getElem]
      exact ⟨i, by rw [List.length_take]; omega, List.getElem_take ..⟩
    · intro q j hj e
      unfold brk at e
      rw [List.getElem?_eq_getElem hj] at e
      simp only [if_pos] at e
      rw [List.any_eq_true] at e
      obtain ⟨x, hx, ex⟩ := e
      obtain ⟨i, hi, rfl⟩ := List.getElem_of_mem hx
      rw [List.length_take] at hi
      refine q i j (by omega) hj (by omega) ?_
      have := of_decide_eq_true ex
      rw [List.getElem_take] at this
      exact this
  cases e : twiceB l with
  | false => exact h.2 (twice_f.1 e)
  | true =>
    cases q : anyR l 2 with
    | true => rfl
    | false => rw [twice_f.2 (h.1 q)] at e; cases e
end Go.Proofs.YthlalmoapbdccaaDoor.WX
/-
  PLAIN: the program's seven rules are the document's (2): rules 3 to 7.
-/
namespace Go.Proofs.YthlalmoapbdccaaDoor.WX
open Go.RowKit HL
open IX (ptr El cellsK cellsK_at OwnK RdK strK)
set_option maxRecDepth 100000
set_option linter.unusedVariables false
set_option linter.unusedSimpArgs false

theorem find_nil {l : List Ob} (h : ∀ o ∈ l, Okay o) : findO l [] = none := findO_none.2 fun a ha => (h a ha).handle
theorem par_nil {o : Ob} (h : pb o = []) : o.parent = ⟨#[]⟩ := bs_eq (by rw [show o.parent.data.toList = [] from h])
theorem kd_of {o : Ob} (h : Okay o) : kdB o.kind = true := kdB_t h.kind.1 h.kind.2
theorem any3 {l : List Ob} (h : ∀ o ∈ l, Okay o) : l.any (noStand (findO l)) = anyR l 3 := by
  unfold anyR
  rw [any_range (q := brk3 l) (fun i o e => by unfold brk; rw [e]; simp)]
  refine any_congr' fun o ho => ?_
  have hO := h o ho
  unfold noStand brk3
  by_cases h1 : o.kind = 1
  · rw [if_pos h1, hO.root h1, find_nil h, show orZ none = zeroOb from rfl, stand_one_ok h1 (par_nil (hO.root h1)) rfl]
    rfl
  · rw [if_neg h1]
    cases e : findO l (pb o) with
    | none =>
      have hu : underB o.kind zeroOb.kind = false := by
        cases q : underB o.kind zeroOb.kind with
        | false => rfl
        | true => exact absurd rfl (under_pos q h1)
      rw [show orZ none = zeroOb from rfl, stand_no (kd_of hO) (.inl hu)]
      rfl
    | some p => rfl
theorem und_le (l : List Ob) (j : Nat) (p : Bs) (g : Nat) : und (l.take j) p g ≤ und l p g := by
  unfold und
  exact ((List.take_sublist j l).filter _).length_le
theorem und_next {l : List Ob} {k : Nat} (hk : k < l.length) (p : Bs) (g : Nat) : und (l.take (k + 1)) p g = und (l.take k) p g + if decide (pb l[k] = p) && (grp l[k].kind == g) then 1 else 0 := by
  unfold und
  rw [List.take_succ_eq_append_getElem hk, List.filter_append, List.length_append]
  congr 1
  by_cases q : (decide (pb l[k] = p) && (grp l[k].kind == g)) = true
  · rw [if_pos q, List.filter_cons, if_pos q]; rfl
  · rw [if_neg q, List.filter_cons, if_neg q]; rfl
theorem over_found {l : List Ob} {p : Bs} {g : Nat} : ∀ k, k ≤ l.length → rmost g < und (l.take k) p g → ∃ j, j < k ∧ overK l j = true := by
  intro k
  induction k with
  | zero => intro _ h; simp [und] at h
  | succ k ih =>
    intro hk h
    have hlt : k < l.length := by omega
    have hn := und_next hlt p g
    by_cases q : (decide (pb l[k] = p) && (grp l[k].kind == g)) = true
    · refine ⟨k, by omega, ?_⟩
      have q2 := q
      rw [Bool.and_eq_true] at q2
      have e1 := of_decide_eq_true q2.1
      have e2 : grp l[k].kind = g := by simpa using q2.2
      unfold overK
      rw [List.getElem?_eq_getElem hlt]
      simp only [decide_eq_true_eq]
      rw [e1, e2]
      unfold most
      rw [e2]
      exact h
    · rw [if_neg q] at hn
      obtain ⟨j, h1, h2⟩ := ih (by omega) (by omega)
      exact ⟨j, by omega, h2⟩
theorem any4 (l : List Ob) : countsB l = anyR l 4 := by
  unfold anyR
  rw [any_range (q := fun o => decide (most o.kind < und l (pb o) (grp o.kind))) (fun i o e => by unfold brk; rw [e]; simp)]
  unfold countsB
  rw [Bool.eq_iff_iff, List.any_eq_true, List.any_eq_true]
  constructor
  · rintro ⟨j, hj, hq⟩
    have hj := List.mem_range.1 hj
    unfold overK at hq
    rw [List.getElem?_eq_getElem hj] at hq
    have hq := of_decide_eq_true hq
    exact ⟨l[j], List.getElem_mem hj, decide_eq_true (Nat.lt_of_lt_of_le hq (und_le _ _ _ _))⟩
  · rintro ⟨o, ho, hq⟩
    have hq := of_decide_eq_true hq
    obtain ⟨j, h1, h2⟩ := over_found (l := l) (p := pb o) (g := grp o.kind) l.length (Nat.le_refl _) (by rw [List.take_length]; exact hq)
    exact ⟨j, List.mem_range.2 h1, h2⟩
theorem refers_zero {k : Nat} (h : refersB k = true) : refersTo k 0 = false := by
  have := of_decide_eq_true h
  rcases this with rfl | rfl | rfl <;> rfl
theorem any5 {l : List Ob} (h : ∀ o ∈ l, Okay o) : l.any (fun o => !refW (findO l) o) = anyR l 5 := by
  unfold anyR
  rw [any_range (q := fun o => !refR (findO l) o) (fun i o e => by unfold brk; rw [e]; simp)]
  refine any_congr' fun o ho => ?_
  have hO := h o ho
  congr 1
  unfold refW refR
  by_cases hr : rb o = []
  · rw [if_pos hr, if_pos]
    cases q : refersB o.kind with
    | false => rfl
    | true => exact absurd hr (hO.ref q)
  · have hk : refersB o.kind = true := by
      cases q : refersB o.kind with
      | true => rfl
      | false => exact absurd (hO.noref q) hr
    rw [if_neg hr, if_neg (show ¬ refersB o.kind = false by rw [hk]; simp)]
    cases e : findO l (rb o) with
    | none => rw [show orZ none = zeroOb from rfl]; simp only; rw [if_pos (show refersTo o.kind zeroOb.kind = false from refers_zero hk)]
    | some t =>
      rw [show orZ (some t) = t from rfl, (findO_some e).2]
      simp only
      by_cases h1 : refersTo o.kind t.kind = false
      · rw [if_pos h1, if_pos h1]
      · rw [if_neg h1, if_neg h1]
        by_cases h7 : o.kind = 7
        · rw [if_pos h7, if_pos h7]
          exact decide_eq_decide.2 ⟨Eq.symm, Eq.symm⟩
        · rw [if_neg h7, if_neg h7]
theorem any6 (l : List Ob) : l.any (fun o => !inLim (findO l) o) = anyR l 6 := by
  unfold anyR
  rw [any_range (q := brk6 l) (fun i o e => by unfold brk; rw [e]; simp)]
  refine any_congr' fun o ho => ?_
  unfold inLim brk6
  rw [show orZ (findO l (rb o)) = obO (findO l (rb o)) from rfl]
  generalize obO (findO l (rb o)) = m
  by_cases h8 : o.kind = 8
  · have e : ((o.kind : Int) != 8) = false := by simp [h8]
    rw [e]
    simp only [h8, decide_true, Bool.true_and, Bool.false_or, Bool.not_and]
    congr 1
    · rw [← decide_not]; exact decide_eq_decide.2 (by omega)
    · rw [← decide_not]; exact decide_eq_decide.2 (by omega)
  · have e : ((o.kind : Int) != 8) = true := by simp; omega
    rw [e]
    simp [h8]
theorem ctx_iff {l : List Ob} {j : Nat} (hj : j < l.length) : ctxK l j = true ↔ l[j].assoc = 2 ∧ ∃ i, ∃ h : i < j, yes (pb l[j]) l[j].typ (l[i]'(by omega)) = true := by
  unfold ctxK
  rw [List.getElem?_eq_getElem hj]
  simp only [Bool.and_eq_true, beq_iff_eq, decide_eq_true_eq]
  constructor
  · rintro ⟨h1, h2⟩
    refine ⟨h1, ?_⟩
    unfold yesN at h2
    rw [List.take_succ_eq_append_getElem hj, List.filter_append, List.length_append, List.filter_cons_of_pos (by simp [yes, h1])] at h2
    obtain ⟨a, ha1, ha2⟩ : ∃ x, x ∈ List.take j l ∧ yes (pb l[j]) l[j].typ x = true := by simpa using h2
    obtain ⟨i, hi, rfl⟩ := List.getElem_of_mem ha1
    rw [List.length_take] at hi
    refine ⟨i, by omega, ?_⟩
    rw [List.getElem_take] at ha2
    exact ha2
  · rintro ⟨h1, i, hi, h2⟩
    refine ⟨h1, ?_⟩
    unfold yesN
    rw [List.take_succ_eq_append_getElem hj, List.filter_append, List.length_append, List.filter_cons_of_pos (by simp [yes, h1])]
    have : 0 < ((l.take j).filter (yes (pb l[j]) l[j].typ)).length := List.length_pos_of_mem (List.mem_filter.2 ⟨by
      rw [List.mem_iff_getElem]
      exact ⟨i, by rw [List.length_take]; omega, List.getElem_take ..⟩, h2⟩)
    simp only [List.filter_nil, List.length_cons, List.length_nil]
    omega
theorem any7 {l : List Ob} (h : ∀ o ∈ l, Okay o) : ctxB l = anyR l 7 := by
  unfold anyR ctxB
  rw [Bool.eq_iff_iff, List.any_eq_true, List.any_eq_true]
  have hk9 : ∀ x ∈ l, x.assoc = 2 → x.kind = 9 := fun x hx e => (h x hx).assoc (by omega)
  constructor
  · rintro ⟨j, hj, hq⟩
    have hj := List.mem_range.1 hj
    obtain ⟨h1, i, hi, h2⟩ := (ctx_iff hj).1 hq
    refine ⟨j, List.mem_range.2 hj, ?_⟩
    unfold brk
    rw [List.getElem?_eq_getElem hj]
    simp only [yes, Bool.and_eq_true, beq_iff_eq, decide_eq_true_eq] at h2
    have hi' : i < l.length := by omega
    simp [hk9 _ (List.getElem_mem hj) h1, h1]
    refine ⟨i, hi', ?_⟩
    rw [List.getElem?_eq_getElem hi']
    simp [twin, hk9 _ (List.getElem_mem hi') h2.1.1, h2.1.1, h2.1.2, h2.2]
    omega
  · rintro ⟨i, hi, hq⟩
    have hi := List.mem_range.1 hi
    unfold brk at hq
    rw [List.getElem?_eq_getElem hi] at hq
    simp at hq
    obtain ⟨⟨h9, h2⟩, k, hk, hq⟩ := hq
    rw [List.getElem?_eq_getElem hk] at hq
    simp [twin] at hq
    obtain ⟨hne, ⟨⟨k9, k2⟩, kp⟩, kt⟩ := hq
    rcases Nat.lt_or_gt_of_ne hne with hlt | hlt
    · exact ⟨i, List.mem_range.2 hi, (ctx_iff hi).2 ⟨h2, k, hlt, by simp [yes, k2, kp, kt]⟩⟩
    · exact ⟨k, List.mem_range.2 hk, (ctx_iff hk).2 ⟨k2, i, hlt, by simp [yes, h2, kp, kt]⟩⟩
theorem verR_eq (l : List Ob) : verR l = brokenR l := by
  unfold verR brokenR
  by_cases h0 : (fltK l l.length).2 ≠ 0
  · rw [if_pos h0, if_pos h0]
  · rw [if_neg h0, if_neg h0]
    have hO := flt_okay (Classical.not_not.1 h0)
    rw [any2]
    by_cases h2 : twiceB l = true
    · rw [if_pos h2, if_pos h2]
    · rw [if_neg h2, if_neg h2]
      have hn := twice_f.1 (by simpa using h2)
      rw [last_find hn, any3 hO, any4, any5 hO, any6, any7 hO]
end Go.Proofs.YthlalmoapbdccaaDoor.WX
/-
  PLAIN: what is wrong with a list does not hang on its order, where no two have one handle.
-/
namespace Go.Proofs.YthlalmoapbdccaaDoor.WX
open Go.RowKit HL
open IX (ptr El cellsK cellsK_at OwnK RdK strK)
set_option maxRecDepth 100000
set_option linter.unusedVariables false
set_option linter.unusedSimpArgs false

theorem find_iff {l : List Ob} (hn : (l.map hb).Nodup) {x : Bs} {o : Ob} : findO l x = some o ↔ o ∈ l ∧ hb o = x := by
  constructor
  · exact findO_some
  · rintro ⟨h1, h2⟩
    cases e : findO l x with
    | none => exact absurd h2 (findO_none.1 e o h1)
    | some u =>
      obtain ⟨h3, h4⟩ := findO_some e
      rw [uniq hn h3 h1 (h4.trans h2.symm)]
theorem find_same {l l' : List Ob} {x : Bs} (hn : (l.map hb).Nodup) (hn' : (l'.map hb).Nodup) (h : ∀ o, hb o = x → (o ∈ l ↔ o ∈ l')) : findO l x = findO l' x := by
  cases e : findO l' x with
  | some o =>
    obtain ⟨h1, h2⟩ := findO_some e
    exact (find_iff hn).2 ⟨(h o h2).2 h1, h2⟩
  | none =>
    refine findO_none.2 fun a ha q => ?_
    exact findO_none.1 e a ((h a q).1 ha) q
theorem any_same {l l' : List Ob} {p q : Ob → Bool} (hm : ∀ o, o ∈ l ↔ o ∈ l') (h : ∀ o ∈ l, p o = q o) : l.any p = l'.any q := by
  rw [Bool.eq_iff_iff, List.any_eq_true, List.any_eq_true]
  constructor
  · rintro ⟨o, ho, e⟩
    exact ⟨o, (hm o).1 ho, by rw [← h o ho]; exact e⟩
  · rintro ⟨o, ho, e⟩
    exact ⟨o, (hm o).2 ho, by rw [h o ((hm o).2 ho)]; exact e⟩
/-! ### The rules as a test of each object -/
theorem any3' (l : List Ob) : anyR l 3 = l.any (brk3 l) := by
  unfold anyR
  exact any_range (fun i o e => by unfold brk; rw [e]; simp)
theorem any4' (l : List Ob) : anyR l 4 = l.any fun o => decide (most o.kind < und l (pb o) (grp o.kind)) := by
  unfold anyR
  exact any_range (fun i o e => by unfold brk; rw [e]; simp)
theorem any5' (l : List Ob) : anyR l 5 = l.any fun o => !refR (findO l) o := by
  unfold anyR
  exact any_range (fun i o e => by unfold brk; rw [e]; simp)
theorem any6' (l : List Ob) : anyR l 6 = l.any (brk6 l) := by
  unfold anyR
  exact any_range (fun i o e => by unfold brk; rw [e]; simp)
def twins (l : List Ob) (o : Ob) : Nat := (l.filter (twin o)).length
def brk7 (l : List Ob) (o : Ob) : Bool := (o.kind == 9) && (o.assoc == 2) && decide (1 < twins l o)
theorem twins_iff {l : List Ob} {i : Nat} (hi : i < l.length) (ht : twin l[i] l[i] = true) : 1 < twins l l[i] ↔ ∃ k, ∃ h : k < l.length, k ≠ i ∧ twin l[i] l[k] = true := by
  have e : l = l.take i ++ l[i] :: l.drop (i + 1) := by rw [List.getElem_cons_drop, List.take_append_drop]
  have hc : twins l l[i] = ((l.take i).filter (twin l[i])).length + 1 + ((l.drop (i + 1)).filter (twin l[i])).length := by
    unfold twins
    conv => lhs; rw [show l.filter (twin l[i]) = (l.take i ++ l[i] :: l.drop (i + 1)).filter (twin l[i]) by rw [← e]]
    rw [List.filter_append, List.filter_cons_of_pos ht, List.length_append, List.length_cons]
    omega
  rw [hc]
  constructor
  · intro h
    by_cases h0 : 0 < ((l.take i).filter (twin l[i])).length
    · obtain ⟨x, hx⟩ := List.exists_mem_of_length_pos h0
      obtain ⟨h1, h2⟩ := List.mem_filter.1 hx
      obtain ⟨k, hk, rfl⟩ := List.getElem_of_mem h1
      rw [List.length_take] at hk
      rw [List.getElem_take] at h2
      exact ⟨k, by omega, by omega, h2⟩
    · have h0 : 0 < ((l.drop (i + 1)).filter (twin l[i])).length := by omega
      obtain ⟨x, hx⟩ := List.exists_mem_of_length_pos h0
      obtain ⟨h1, h2⟩ := List.mem_filter.1 hx
      obtain ⟨k, hk, rfl⟩ := List.getElem_of_mem h1
      rw [List.length_drop] at hk
      rw [List.getElem_drop] at h2
      exact ⟨i + 1 + k, by omega, by omega, h2⟩
  · rintro ⟨k, hk, hne, h2⟩
    rcases Nat.lt_or_gt_of_ne hne with q | q
    · have : 0 < ((l.take i).filter (twin l[i])).length := List.length_pos_of_mem (List.mem_filter.2 ⟨by
        rw [List.mem_iff_getElem]
        exact ⟨k, by rw [List.length_take]; omega, List.getElem_take ..⟩, h2⟩)
      omega
    · have : 0 < ((l.drop (i + 1)).filter (twin l[i])).length := List.length_pos_of_mem (List.mem_filter.2 ⟨by
        rw [List.mem_iff_getElem]
        refine ⟨k - (i + 1), by rw [List.length_drop]; omega, ?_⟩
        rw [List.getElem_drop]
        congr 1
        omega, h2⟩)
      omega
theorem any7' (l : List Ob) : anyR l 7 = l.any (brk7 l) := by
  unfold anyR
  rw [Bool.eq_iff_iff, List.any_eq_true, List.any_eq_true]
  have key : ∀ i, ∀ hi : i < l.length, brk l i 7 = brk7 l l[i] := fun i hi => by
    unfold brk brk7
    rw [List.getElem?_eq_getElem hi]
    simp only [show ¬ (7 : Nat) = 2 by decide, show ¬ (7 : Nat) = 3 by decide, show ¬ (7 : Nat) = 4 by decide, show ¬ (7 : Nat) = 5 by decide, show ¬ (7 : Nat) = 6 by decide, if_false, if_true]
    cases h9 : l[i].kind == 9 with
    | false => rfl
    | true =>
      cases h2 : l[i].assoc == 2 with
      | false => rfl
      | true =>
        have ht : twin l[i] l[i] = true := by unfold twin; rw [h9, h2]; simp
        simp only [Bool.and_self, Bool.true_and]
        rw [Bool.eq_iff_iff, List.any_eq_true, decide_eq_true_iff, twins_iff hi ht]
        constructor
        · rintro ⟨k, hk, q⟩
          have hk := List.mem_range.1 hk
          rw [List.getElem?_eq_getElem hk] at q
          rw [Bool.and_eq_true] at q
          exact ⟨k, hk, by simpa using q.1, q.2⟩
        · rintro ⟨k, hk, q1, q2⟩
          refine ⟨k, List.mem_range.2 hk, ?_⟩
          rw [List.getElem?_eq_getElem hk]
          simp [q1, q2]
  constructor
  · rintro ⟨i, hi, q⟩
    have hi := List.mem_range.1 hi
    exact ⟨l[i], List.getElem_mem hi, by rw [← key i hi]; exact q⟩
  · rintro ⟨o, ho, q⟩
    obtain ⟨i, hi, rfl⟩ := List.getElem_of_mem ho
    exact ⟨i, List.mem_range.2 hi, by rw [key i hi]; exact q⟩
/-! ### Another order -/
theorem less_iff (a b : ByteArray) : Op.bytesLess a.toList b.toList = true ↔ a.data.toList < b.data.toList := by
  rw [bytesLess_eq, ByteArray.toList_eq, ByteArray.toList_eq, decide_eq_true_iff]
theorem fltS_comm {a b : Ob} (h : hb a ≠ hb b) (z : ByteArray × Int) : fltS (fltS z a) b = fltS (fltS z b) a := by
  unfold fltS
  simp only [less_iff]
  by_cases ha : faultP a true = 0
  · simp only [ha, if_true]
  · by_cases hb' : faultP b true = 0
    · simp only [hb', if_true]
    · simp only [ha, hb', if_false]
      have ht : hb a < hb b ∨ hb b < hb a := by
        rcases tri (hb a) (hb b) with q | q | q
        · exact .inl q
        · exact absurd q h
        · exact .inr q
      have t1 : ∀ {x y z : Bs}, x < y → y < z → x < z := fun p q => lt_trans p q
      have t2 : ∀ {x y z : Bs}, ¬ y < x → ¬ z < y → ¬ z < x := fun {x y z} p q r => by
        rcases tri x y with g | g | g
        · exact q (lt_trans r g)
        · subst g; exact q r
        · exact p g
      by_cases hz : z.2 = 0
      · simp only [hz, if_true]
        simp only [ha, hb', if_false]
        rcases ht with q | q
        · rw [if_neg (show ¬ b.handle.data.toList < a.handle.data.toList from lt_asymm q), if_pos (show a.handle.data.toList < b.handle.data.toList from q)]
        · rw [if_pos (show b.handle.data.toList < a.handle.data.toList from q), if_neg (show ¬ a.handle.data.toList < b.handle.data.toList from lt_asymm q)]
      · simp only [hz, if_false]
        by_cases p1 : a.handle.data.toList < z.1.data.toList
        · by_cases p2 : b.handle.data.toList < z.1.data.toList
          · simp only [p1, p2, if_true]
            simp only [ha, hb', if_false]
            rcases ht with q | q
            · rw [if_neg (show ¬ b.handle.data.toList < a.handle.data.toList from lt_asymm q), if_pos (show a.handle.data.toList < b.handle.data.toList from q)]
            · rw [if_pos (show b.handle.data.toList < a.handle.data.toList from q), if_neg (show ¬ a.handle.data.toList < b.handle.data.toList from lt_asymm q)]
          · simp only [p1, p2, if_true, if_false]
            simp only [ha, hz, p1, if_true, if_false]
            rw [if_neg]
            intro r
            exact p2 (t1 r p1)
        · by_cases p2 : b.handle.data.toList < z.1.data.toList
          · simp only [p1, p2, if_true, if_false]
            simp only [hb', hz, p2, if_true, if_false]
            rw [if_neg]
            intro r
            exact p1 (t1 r p2)
          · simp only [p1, p2, if_false]
            simp only [hz, p1, p2, if_false]
theorem flt_all (l : List Ob) : fltK l l.length = l.foldl fltS (⟨#[]⟩, 0) := by unfold fltK; rw [List.take_length]
theorem flt_perm {l l' : List Ob} (hp : l.Perm l') (hn : (l.map hb).Nodup) : fltK l l.length = fltK l' l'.length := by
  rw [flt_all, flt_all]
  refine hp.foldl_eq' (fun x hx y hy z => ?_) _
  by_cases e : hb x = hb y
  · rw [uniq hn hx hy e]
  · exact fltS_comm e z
theorem broken_perm {l l' : List Ob} (hp : l.Perm l') (hn : (l.map hb).Nodup) : brokenR l' = brokenR l := by
  have hn' : (l'.map hb).Nodup := (hp.map hb).nodup_iff.1 hn
  have hm : ∀ o, o ∈ l' ↔ o ∈ l := fun o => hp.mem_iff.symm
  have hf : findO l' = findO l := funext fun x => find_same hn' hn fun o _ => hm o
  have a2 : anyR l' 2 = anyR l 2 := by rw [any2, any2, twice_f.2 hn, twice_f.2 hn']
  have a3 : anyR l' 3 = anyR l 3 := by
    rw [any3', any3']
    refine any_same hm fun o _ => ?_
    unfold brk3
    rw [hf]
  have hu : ∀ p g, und l' p g = und l p g := fun p g => by unfold und; exact (hp.symm.filter _).length_eq
  have a4 : anyR l' 4 = anyR l 4 := by
    rw [any4', any4']
    refine any_same hm fun o _ => ?_
    rw [hu]
  have a5 : anyR l' 5 = anyR l 5 := by
    rw [any5', any5']
    refine any_same hm fun o _ => ?_
    rw [hf]
  have a6 : anyR l' 6 = anyR l 6 := by
    rw [any6', any6']
    refine any_same hm fun o _ => ?_
    unfold brk6
    rw [hf]
  have a7 : anyR l' 7 = anyR l 7 := by
    rw [any7', any7']
    refine any_same hm fun o _ => ?_
    unfold brk7 twins
    rw [(hp.symm.filter (twin o)).length_eq]
  unfold brokenR
  rw [a2, a3, a4, a5, a6, a7, ← flt_perm hp hn]
theorem ver_perm {l l' : List Ob} (hp : l.Perm l') (hn : (l.map hb).Nodup) : verR l' = verR l := by rw [verR_eq, verR_eq, broken_perm hp hn]
/-- Where two have one handle, rule 1 or 2 is broken. -/
theorem ver_twice {l : List Ob} (hn : ¬ (l.map hb).Nodup) : (verR l).2 ≠ 0 ∧ ((verR l).1 = 1 ∨ (verR l).1 = 2) := by
  have h2 : twiceB l = true := by
    cases e : twiceB l with
    | true => rfl
    | false => exact absurd (twice_f.1 e) hn
  unfold verR
  by_cases h0 : (fltK l l.length).2 ≠ 0
  · rw [if_pos h0]
    exact ⟨h0, .inl rfl⟩
  · rw [if_neg h0, if_pos h2]
    exact ⟨by simp, .inr rfl⟩
end Go.Proofs.YthlalmoapbdccaaDoor.WX
/-
  PLAIN: what a well list is, rule by rule; its climbs come to a KdMds.
-/
namespace Go.Proofs.YthlalmoapbdccaaDoor.WX
open Go.RowKit HL
open IX (ptr El cellsK cellsK_at OwnK RdK strK)
set_option maxRecDepth 100000
set_option linter.unusedVariables false
set_option linter.unusedSimpArgs false

structure Wl (l : List Ob) : Prop where
  own : ∀ o ∈ l, faultP o true = 0
  nd : (l.map hb).Nodup
  up : ∀ o ∈ l, o.kind ≠ 1 → ∃ p, findO l (pb o) = some p ∧ standE o p = 0
  cnt : ∀ o ∈ l, und l (pb o) (grp o.kind) ≤ most o.kind
  ref : ∀ o ∈ l, refR (findO l) o = true
  lim : ∀ o ∈ l, brk6 l o = false
  ctx : ∀ o ∈ l, brk7 l o = false
theorem Wl.ok {l : List Ob} (h : Wl l) : ∀ o ∈ l, Okay o := fun o ho => okay_of (h.own o ho)
theorem brk3_iff {l : List Ob} {o : Ob} : brk3 l o = false ↔ (o.kind ≠ 1 → ∃ p, findO l (pb o) = some p ∧ standE o p = 0) := by
  unfold brk3
  by_cases h1 : o.kind = 1
  · rw [if_pos h1]; simp [h1]
  · rw [if_neg h1]
    cases e : findO l (pb o) with
    | none => simp [h1]
    | some p => simp [h1]
theorem any_f' {l : List Ob} {p : Ob → Bool} : l.any p = false ↔ ∀ o ∈ l, p o = false := by
  rw [List.any_eq_false]
  exact ⟨fun h o ho => by simpa using h o ho, fun h o ho => by simp [h o ho]⟩
theorem wl_iff {l : List Ob} : (verR l).2 = 0 ↔ Wl l := by
  rw [verR_eq]
  unfold brokenR
  have h0 : (fltK l l.length).2 = 0 ↔ ∀ o ∈ l, faultP o true = 0 := by
    have := flt_zero l l.length (Nat.le_refl _)
    rwa [List.take_length] at this
  have h2 : anyR l 2 = false ↔ (l.map hb).Nodup := by rw [any2]; exact twice_f
  have h3 : anyR l 3 = false ↔ ∀ o ∈ l, o.kind ≠ 1 → ∃ p, findO l (pb o) = some p ∧ standE o p = 0 := by
    rw [any3', any_f']
    exact ⟨fun h o ho => brk3_iff.1 (h o ho), fun h o ho => brk3_iff.2 (h o ho)⟩
  have h4 : anyR l 4 = false ↔ ∀ o ∈ l, und l (pb o) (grp o.kind) ≤ most o.kind := by
    rw [any4', any_f']
    exact ⟨fun h o ho => by have := of_decide_eq_false (h o ho); omega, fun h o ho => decide_eq_false (by have := h o ho; omega)⟩
  have h5 : anyR l 5 = false ↔ ∀ o ∈ l, refR (findO l) o = true := by
    rw [any5', any_f']
    exact ⟨fun h o ho => by simpa using h o ho, fun h o ho => by simpa using h o ho⟩
  have h6 : anyR l 6 = false ↔ ∀ o ∈ l, brk6 l o = false := by rw [any6', any_f']
  have h7 : anyR l 7 = false ↔ ∀ o ∈ l, brk7 l o = false := by rw [any7', any_f']
  constructor
  · intro h
    by_cases a0 : (fltK l l.length).2 ≠ 0
    · rw [if_pos a0] at h; exact absurd h a0
    · rw [if_neg a0] at h
      cases a2 : anyR l 2 with
      | true => rw [if_pos a2] at h; cases h
      | false =>
        cases a3 : anyR l 3 with
        | true => rw [a2, a3] at h; cases h
        | false =>
          cases a4 : anyR l 4 with
          | true => rw [a2, a3, a4] at h; cases h
          | false =>
            cases a5 : anyR l 5 with
            | true => rw [a2, a3, a4, a5] at h; cases h
            | false =>
              cases a6 : anyR l 6 with
              | true => rw [a2, a3, a4, a5, a6] at h; cases h
              | false =>
                cases a7 : anyR l 7 with
                | true => rw [a2, a3, a4, a5, a6, a7] at h; cases h
                | false => exact ⟨h0.1 (Classical.not_not.1 a0), h2.1 a2, h3.1 a3, h4.1 a4, h5.1 a5, h6.1 a6, h7.1 a7⟩
  · intro h
    rw [if_neg (by rw [h0.2 h.own]; simp), h2.2 h.nd, h3.2 h.up, h4.2 h.cnt, h5.2 h.ref, h6.2 h.lim, h7.2 h.ctx]
    simp
theorem wl_1 {l : List Ob} (h : Wl l) : (verR l).1 = 0 := by
  rw [verR_eq]
  have := wl_iff.2 h
  rw [verR_eq] at this
  unfold brokenR at this ⊢
  by_cases a0 : (fltK l l.length).2 ≠ 0
  · rw [if_pos a0] at this; exact absurd this a0
  · rw [if_neg a0] at this ⊢
    cases a2 : anyR l 2 <;> cases a3 : anyR l 3 <;> cases a4 : anyR l 4 <;> cases a5 : anyR l 5 <;> cases a6 : anyR l 6 <;> cases a7 : anyR l 7 <;> rw [a2, a3, a4, a5, a6, a7] at this <;> first | rfl | cases this
/-! ### The climb -/
/-- How far below a KdMds a kind stands, at most. -/
def rank (k : Nat) : Nat := match k with | 1 => 0 | 2 => 1 | 9 => 1 | 3 => 2 | 5 => 2 | 4 => 3 | 6 => 3 | 7 => 3 | 8 => 3 | _ => 4
theorem rank_le (k : Nat) : rank k ≤ 4 := by unfold rank; split <;> omega
theorem rank_up {k p : Nat} (h : underB k p = true) (h1 : k ≠ 1) : rank p < rank k := by
  unfold underB at h
  split at h <;> simp at h
  · exact absurd rfl h1
  all_goals first
    | (subst h; decide)
    | (rcases h with rfl | rfl <;> decide)
theorem stand_under {o p : Ob} (h : standE o p = 0) : kdB o.kind = true ∧ underB o.kind p.kind = true ∧ o.parent = p.handle ∧ (p.kind = 0 → p = zeroOb) := by
  have a : kdB o.kind = true := by
    cases e : kdB o.kind with
    | true => rfl
    | false => rw [stand_kind e] at h; cases h
  refine ⟨a, ?_, ?_, ?_⟩
  · cases e : underB o.kind p.kind with
    | true => rfl
    | false => rw [stand_no a (.inl e)] at h; cases h
  · exact Classical.byContradiction fun e => by rw [stand_no a (.inr (.inl e))] at h; cases h
  · exact fun z => Classical.byContradiction fun e => by rw [stand_no a (.inr (.inr ⟨z, e⟩))] at h; cases h
theorem Wl.find {l : List Ob} (h : Wl l) {o : Ob} (ho : o ∈ l) : findO l (hb o) = some o := (find_iff h.nd).2 ⟨ho, rfl⟩
theorem climb_ok {l : List Ob} (h : Wl l) : ∀ n, ∀ o ∈ l, rank o.kind < n → ∃ d, climbO (findO l) n (hb o) = some (hb d) ∧ d ∈ l ∧ d.kind = 1 := by
  intro n
  induction n with
  | zero => intro o _ hr; omega
  | succ n ih =>
    intro o ho hr
    unfold climbO
    rw [h.find ho]
    simp only
    by_cases h1 : o.kind = 1
    · rw [if_pos h1]; exact ⟨o, rfl, ho, h1⟩
    · rw [if_neg h1]
      obtain ⟨p, e, hs⟩ := h.up o ho h1
      obtain ⟨hp, e2⟩ := findO_some e
      have hu := rank_up (stand_under hs).2.1 h1
      obtain ⟨d, q⟩ := ih p hp (by omega)
      rw [e2] at q
      exact ⟨d, q⟩
/-- One more round makes no difference, where it comes to an end. -/
theorem climb_more {f : Bs → Option Ob} : ∀ {n : Nat} {x d : Bs}, climbO f n x = some d → climbO f (n + 1) x = some d := by
  intro n
  induction n with
  | zero => intro x d h; cases h
  | succ n ih =>
    intro x d h
    unfold climbO at h ⊢
    cases e : f x with
    | none => rw [e] at h; cases h
    | some o =>
      rw [e] at h
      simp only at h ⊢
      by_cases h1 : o.kind = 1
      · rw [if_pos h1] at h ⊢; exact h
      · rw [if_neg h1] at h ⊢; exact ih h
theorem climb_le {f : Bs → Option Ob} {n m : Nat} {x d : Bs} (h : climbO f n x = some d) (hm : n ≤ m) : climbO f m x = some d := by
  obtain ⟨j, rfl⟩ := Nat.exists_eq_add_of_le hm
  clear hm
  induction j with
  | zero => exact h
  | succ j ih => exact climb_more ih
theorem mds_step {l : List Ob} (h : Wl l) {o : Ob} (ho : o ∈ l) (h1 : o.kind ≠ 1) : climbO (findO l) 8 (hb o) = climbO (findO l) 8 (pb o) := by
  obtain ⟨p, e, hs⟩ := h.up o ho h1
  obtain ⟨hp, e2⟩ := findO_some e
  have hr := rank_le p.kind
  obtain ⟨d, q, _⟩ := climb_ok h 7 p hp (by omega)
  rw [e2] at q
  rw [climb_more q]
  conv => lhs; unfold climbO
  rw [h.find ho]
  simp only
  rw [if_neg h1]
  exact q
theorem mds_some {l : List Ob} (h : Wl l) {o : Ob} (ho : o ∈ l) : ∃ d, climbO (findO l) 8 (hb o) = some (hb d) ∧ d ∈ l ∧ d.kind = 1 := climb_ok h 8 o ho (by have := rank_le o.kind; omega)
/-! ### What WfRules asks -/
theorem stand_p {l : List Ob} (h : Wl l) {o : Ob} (ho : o ∈ l) : standE o (obO (findO l (pb o))) = 0 := by
  by_cases h1 : o.kind = 1
  · have hO := h.ok o ho
    rw [hO.root h1, find_nil h.ok, show obO none = zeroOb from rfl]
    exact stand_one_ok h1 (par_nil (hO.root h1)) rfl
  · obtain ⟨p, e, hs⟩ := h.up o ho h1
    rw [e]; exact hs
theorem is_p {l : List Ob} (h : Wl l) {o : Ob} (ho : o ∈ l) : (findO l (pb o)).isSome = decide (o.kind ≠ 1) := by
  by_cases h1 : o.kind = 1
  · rw [(h.ok o ho).root h1, find_nil h.ok]; simp [h1]
  · obtain ⟨p, e, hs⟩ := h.up o ho h1
    rw [e]; simp [h1]
/-- The kinds of the other ones under the same parent, among the first k. -/
def sibs (l : List Ob) (p : Bs) (i k : Nat) : List Nat := (List.range k).filterMap fun j => match l[j]? with
  | some x => if pb x = p ∧ j ≠ i then some x.kind else none
  | none => none
theorem sibs_next {l : List Ob} {p : Bs} {i k : Nat} (hk : k < l.length) : sibs l p i (k + 1) = sibs l p i k ++ if pb l[k] = p ∧ k ≠ i then [l[k].kind] else [] := by
  unfold sibs
  rw [List.range_succ, List.filterMap_append]
  congr 1
  rw [List.filterMap_cons, List.getElem?_eq_getElem hk]
  by_cases q : pb l[k] = p ∧ k ≠ i
  · simp only [if_pos q]; rfl
  · simp only [if_neg q]; rfl
theorem sibs_mem {l : List Ob} {p : Bs} {i k : Nat} {x : Nat} (h : x ∈ sibs l p i k) : ∃ o ∈ l, o.kind = x := by
  unfold sibs at h
  obtain ⟨j, hj, e⟩ := List.mem_filterMap.1 h
  cases q : l[j]? with
  | none => rw [q] at e; cases e
  | some o =>
    rw [q] at e
    simp only at e
    split at e
    · exact ⟨o, List.mem_of_getElem? q, by simpa using e⟩
    · cases e
theorem sibs_len (l : List Ob) (p : Bs) (i k : Nat) : (sibs l p i k).length ≤ k := by
  unfold sibs
  refine Nat.le_trans (List.length_filterMap_le _ _) ?_
  rw [List.length_range]; exact Nat.le_refl _
end Go.Proofs.YthlalmoapbdccaaDoor.WX
/-
  PLAIN: two well lists with no handle in common; the objects of one KdMds.
-/
namespace Go.Proofs.YthlalmoapbdccaaDoor.WX
open Go.RowKit HL
open IX (ptr El cellsK cellsK_at OwnK RdK strK)
set_option maxRecDepth 100000
set_option linter.unusedVariables false
set_option linter.unusedSimpArgs false

/-! ### The objects of one KdMds -/
/-- Those whose climb comes to the handle d. -/
noncomputable def ofMds (l : List Ob) (d : Bs) : List Ob := l.filter fun o => decide (climbO (findO l) 8 (hb o) = some d)
theorem ofMds_mem {l : List Ob} {d : Bs} {o : Ob} : o ∈ ofMds l d ↔ o ∈ l ∧ climbO (findO l) 8 (hb o) = some d := by
  unfold ofMds
  rw [List.mem_filter, decide_eq_true_iff]
theorem part_find {l s : List Ob} (h : Wl l) (hsub : s.Sublist l) {x : Bs} {o : Ob} (e : findO l x = some o) (ho : o ∈ s) : findO s x = some o :=
  (find_iff ((hsub.map hb).nodup h.nd)).2 ⟨ho, (findO_some e).2⟩
theorem part_climb {l s : List Ob} (h : Wl l) (hsub : s.Sublist l) (hup : ∀ o ∈ s, o.kind ≠ 1 → ∀ p, findO l (pb o) = some p → p ∈ s) : ∀ n, ∀ o ∈ s, climbO (findO s) n (hb o) = climbO (findO l) n (hb o) := by
  intro n
  induction n with
  | zero => intro o _; rfl
  | succ n ih =>
    intro o ho
    have hl := hsub.subset ho
    unfold climbO
    rw [h.find hl, part_find h hsub (h.find hl) ho]
    simp only
    by_cases h1 : o.kind = 1
    · rw [if_pos h1, if_pos h1]
    · rw [if_neg h1, if_neg h1]
      obtain ⟨p, e, _⟩ := h.up o hl h1
      have := ih p (hup o ho h1 p e)
      rw [(findO_some e).2] at this
      exact this
/-- What refers within a well list: what to, and under the same KdMds. -/
theorem Wl.to {l : List Ob} (h : Wl l) {o : Ob} (ho : o ∈ l) (hk : refersB o.kind = true) : ∃ t, findO l (rb o) = some t ∧ refersTo o.kind t.kind = true ∧ climbO (findO l) 8 (hb o) = climbO (findO l) 8 (hb t) ∧ (o.kind = 7 → pb t = pb o) := by
  have q := h.ref o ho
  unfold refR at q
  rw [if_neg (by rw [hk]; simp)] at q
  cases e : findO l (rb o) with
  | none => rw [e] at q; cases q
  | some t =>
    rw [e] at q
    simp only at q
    obtain ⟨ht, e2⟩ := findO_some e
    cases e3 : refersTo o.kind t.kind with
    | false => rw [if_pos e3] at q; cases q
    | true =>
      rw [if_neg (by rw [e3]; simp)] at q
      refine ⟨t, rfl, e3, ?_, ?_⟩
      · by_cases h7 : o.kind = 7
        · rw [if_pos h7] at q
          have hp := of_decide_eq_true q
          have ht1 : t.kind ≠ 1 := fun z => by rw [z, h7] at e3; cases e3
          rw [mds_step h ho (by omega), mds_step h ht ht1, hp]
        · rw [if_neg h7] at q
          have hq := of_decide_eq_true q
          obtain ⟨d1, q1, _⟩ := mds_some h ho
          obtain ⟨d2, q2, _⟩ := mds_some h ht
          unfold mdsT at hq
          rw [← e2, q1, q2] at hq
          rw [q1, q2]
          simpa using hq
      · intro h7
        rw [if_pos h7] at q
        exact of_decide_eq_true q
theorem part_wl {l s : List Ob} (h : Wl l) (hsub : s.Sublist l) (hup : ∀ o ∈ s, o.kind ≠ 1 → ∀ p, findO l (pb o) = some p → p ∈ s) (hto : ∀ o ∈ s, refersB o.kind = true → ∀ t, findO l (rb o) = some t → t ∈ s) : Wl s := by
  have hin := hsub.subset
  have hcl := part_climb h hsub hup 8
  refine ⟨fun o ho => h.own o (hin ho), (hsub.map hb).nodup h.nd, fun o ho h1 => ?_, fun o ho => ?_, fun o ho => ?_, fun o ho => ?_, fun o ho => ?_⟩
  · obtain ⟨p, e, hs⟩ := h.up o (hin ho) h1
    exact ⟨p, part_find h hsub e (hup o ho h1 p e), hs⟩
  · have h1 := h.cnt o (hin ho)
    have h2 : und s (pb o) (grp o.kind) ≤ und l (pb o) (grp o.kind) := by unfold und; exact (hsub.filter _).length_le
    omega
  · cases hk : refersB o.kind with
    | false => unfold refR; rw [if_pos hk]
    | true =>
      obtain ⟨t, e, h2, h3, h4⟩ := h.to (hin ho) hk
      have ht := hto o ho hk t e
      unfold refR
      rw [if_neg (by rw [hk]; simp), part_find h hsub e ht]
      simp only
      rw [if_neg (by rw [h2]; simp)]
      by_cases h7 : o.kind = 7
      · rw [if_pos h7]; exact decide_eq_true (h4 h7)
      · rw [if_neg h7]
        refine decide_eq_true ?_
        unfold mdsT
        rw [← (findO_some e).2, hcl o ho, hcl t ht, h3]
  · have h1 := h.lim o (hin ho)
    unfold brk6 at h1 ⊢
    by_cases h8 : o.kind = 8
    · obtain ⟨t, e, _⟩ := h.to (hin ho) (by rw [h8]; rfl)
      have ht := hto o ho (by rw [h8]; rfl) t e
      rw [part_find h hsub e ht]
      rw [e] at h1
      exact h1
    · simp [h8]
  · have h1 := h.ctx o (hin ho)
    have h2 : twins s o ≤ twins l o := by unfold twins; exact (hsub.filter _).length_le
    unfold brk7 at h1 ⊢
    cases h3 : ((o.kind == 9) && (o.assoc == 2)) with
    | false => rfl
    | true =>
      rw [h3, Bool.true_and] at h1
      have h1 := of_decide_eq_false h1
      rw [Bool.true_and]
      exact decide_eq_false (by omega)
theorem ofMds_wl {l : List Ob} (h : Wl l) (d : Bs) : Wl (ofMds l d) := by
  refine part_wl h (by unfold ofMds; exact List.filter_sublist) (fun o ho h1 p e => ?_) (fun o ho hk t e => ?_)
  · obtain ⟨a, b⟩ := ofMds_mem.1 ho
    obtain ⟨c, e2⟩ := findO_some e
    exact ofMds_mem.2 ⟨c, by rw [e2, ← mds_step h a h1]; exact b⟩
  · obtain ⟨a, b⟩ := ofMds_mem.1 ho
    obtain ⟨t', e1, _, h3, _⟩ := h.to a hk
    obtain rfl : t' = t := by rw [e] at e1; exact (Option.some.inj e1).symm
    exact ofMds_mem.2 ⟨(findO_some e).1, by rw [← h3]; exact b⟩
/-! ### The same once more, under other handles -/
def addB (x s : Bs) : Bs := if x = [] then [] else x ++ s
def ren (s : ByteArray) (o : Ob) : Ob := { o with handle := o.handle ++ s, parent := if o.parent.data.toList = [] then o.parent else o.parent ++ s, ref := if o.ref.data.toList = [] then o.ref else o.ref ++ s }
theorem cat_list (a b : ByteArray) : (a ++ b).data.toList = a.data.toList ++ b.data.toList := by simp
theorem ren_h (s : ByteArray) (o : Ob) : hb (ren s o) = hb o ++ s.data.toList := cat_list _ _
theorem ren_p (s : ByteArray) (o : Ob) : pb (ren s o) = addB (pb o) s.data.toList := by
  unfold addB
  show (if o.parent.data.toList = [] then o.parent else o.parent ++ s).data.toList = _
  split
  · assumption
  · exact cat_list _ _
theorem ren_r (s : ByteArray) (o : Ob) : rb (ren s o) = addB (rb o) s.data.toList := by
  unfold addB
  show (if o.ref.data.toList = [] then o.ref else o.ref ++ s).data.toList = _
  split
  · assumption
  · exact cat_list _ _
theorem addB_ne {x s : Bs} (h : x ≠ []) : addB x s = x ++ s := if_neg h
theorem addB_nil {x s : Bs} : addB x s = [] ↔ x = [] := by
  unfold addB
  split
  · simp [*]
  · simp [*]
theorem addB_inj {x y s : Bs} (h : addB x s = addB y s) : x = y := by
  by_cases hx : x = []
  · rw [addB_nil.2 hx] at h
    rw [hx, addB_nil.1 h.symm]
  · by_cases hy : y = []
    · rw [addB_nil.2 hy] at h
      exact absurd (addB_nil.1 h) hx
    · rw [addB_ne hx, addB_ne hy] at h
      exact List.append_cancel_right h
theorem no_h {l : List Ob} (h : Wl l) {s : ByteArray} (hno : ∀ o ∈ l, findO l (hb o ++ s.data.toList) = none) {x y : Ob} (hx : x ∈ l) (hy : y ∈ l) : hb x ++ s.data.toList ≠ hb y := fun e => by
  have := hno x hx
  rw [e, h.find hy] at this
  cases this
theorem b_find {l : List Ob} (h : Wl l) {s : ByteArray} (hno : ∀ o ∈ l, findO l (hb o ++ s.data.toList) = none) {x : Bs} {p : Ob} (e : findO l x = some p) : findO (l ++ l.map (ren s)) x = some p := by
  unfold findO at e ⊢
  rw [List.find?_append, e]; rfl
theorem b_find2 {l : List Ob} (h : Wl l) {s : ByteArray} (hno : ∀ o ∈ l, findO l (hb o ++ s.data.toList) = none) {x : Bs} {p : Ob} (e : findO l x = some p) : findO (l ++ l.map (ren s)) (x ++ s.data.toList) = some (ren s p) := by
  have h2 := hno p (findO_some e).1
  rw [(findO_some e).2] at h2
  unfold findO at e h2 ⊢
  rw [List.find?_append, h2, List.find?_map]
  have : ((fun o => decide (hb o = x ++ s.data.toList)) ∘ ren s) = fun o => decide (hb o = x) := by
    funext o
    show decide (hb (ren s o) = x ++ s.data.toList) = decide (hb o = x)
    rw [ren_h]
    exact decide_eq_decide.2 ⟨fun q => List.append_cancel_right q, fun q => by rw [q]⟩
  rw [this, e]; rfl
theorem b_climb {l : List Ob} (h : Wl l) {s : ByteArray} (hno : ∀ o ∈ l, findO l (hb o ++ s.data.toList) = none) : ∀ n, ∀ o ∈ l, climbO (findO (l ++ l.map (ren s))) n (hb o) = climbO (findO l) n (hb o) := by
  intro n
  induction n with
  | zero => intro o _; rfl
  | succ n ih =>
    intro o ho
    unfold climbO
    rw [h.find ho, b_find h hno (h.find ho)]
    simp only
    by_cases h1 : o.kind = 1
    · rw [if_pos h1, if_pos h1]
    · rw [if_neg h1, if_neg h1]
      obtain ⟨p, e, _⟩ := h.up o ho h1
      have := ih p (findO_some e).1
      rwa [(findO_some e).2] at this
theorem b_climb2 {l : List Ob} (h : Wl l) {s : ByteArray} (hno : ∀ o ∈ l, findO l (hb o ++ s.data.toList) = none) : ∀ n, ∀ o ∈ l, climbO (findO (l ++ l.map (ren s))) n (hb o ++ s.data.toList) = (climbO (findO l) n (hb o)).map (· ++ s.data.toList) := by
  intro n
  induction n with
  | zero => intro o _; rfl
  | succ n ih =>
    intro o ho
    unfold climbO
    rw [h.find ho, b_find2 h hno (h.find ho)]
    simp only
    by_cases h1 : o.kind = 1
    · rw [if_pos h1, if_pos (show (ren s o).kind = 1 from h1), ren_h]; rfl
    · rw [if_neg h1, if_neg (show ¬ (ren s o).kind = 1 from h1)]
      obtain ⟨p, e, _⟩ := h.up o ho h1
      have := ih p (findO_some e).1
      rw [(findO_some e).2] at this
      rw [ren_p, addB_ne ((h.ok o ho).parent h1)]
      exact this
/-- No object of the one half stands under one of the other. -/
theorem b_apart {l : List Ob} (h : Wl l) {s : ByteArray} (hno : ∀ o ∈ l, findO l (hb o ++ s.data.toList) = none) {x p : Ob} (hx : x ∈ l) (hp : p ∈ l) : addB (pb x) s.data.toList ≠ hb p := by
  intro e
  by_cases h0 : pb x = []
  · rw [addB_nil.2 h0] at e
    exact (h.ok p hp).handle e.symm
  · rw [addB_ne h0] at e
    have h1 : x.kind ≠ 1 := fun q => h0 ((h.ok x hx).root q)
    obtain ⟨q, e2, _⟩ := h.up x hx h1
    rw [← (findO_some e2).2] at e
    exact no_h h hno (findO_some e2).1 hp e
theorem b_apart2 {l : List Ob} (h : Wl l) {s : ByteArray} (hno : ∀ o ∈ l, findO l (hb o ++ s.data.toList) = none) {x p : Ob} (hx : x ∈ l) (hp : p ∈ l) : pb x ≠ hb p ++ s.data.toList := by
  intro e
  have h0 : pb x ≠ [] := by
    rw [e]
    simp [(h.ok p hp).handle]
  have h1 : x.kind ≠ 1 := fun q => h0 ((h.ok x hx).root q)
  obtain ⟨q, e2, _⟩ := h.up x hx h1
  rw [← (findO_some e2).2] at e
  exact no_h h hno hp (findO_some e2).1 e.symm
/-- What is counted under an object of the one half is counted there alone. -/
theorem b_count {l : List Ob} (h : Wl l) {s : ByteArray} (hno : ∀ o ∈ l, findO l (hb o ++ s.data.toList) = none) {t : Ob → Bool} {p : Ob} (hp : p ∈ l) (ht : ∀ x, t x = true → pb x = hb p) : ((l ++ l.map (ren s)).filter t).length = (l.filter t).length := by
  rw [List.filter_append, List.length_append]
  have : (l.map (ren s)).filter t = [] := by
    rw [List.filter_eq_nil_iff]
    intro y hy q
    obtain ⟨x, hx, rfl⟩ := List.mem_map.1 hy
    have := ht _ q
    rw [ren_p] at this
    exact b_apart h hno hx hp this
  rw [this]; simp
theorem b_count2 {l : List Ob} (h : Wl l) {s : ByteArray} (hno : ∀ o ∈ l, findO l (hb o ++ s.data.toList) = none) {t t' : Ob → Bool} {p : Ob} (hp : p ∈ l) (ht : ∀ x, t x = true → pb x = hb p ++ s.data.toList) (h2 : ∀ x, t (ren s x) = t' x) : ((l ++ l.map (ren s)).filter t).length = (l.filter t').length := by
  rw [List.filter_append, List.length_append]
  have : l.filter t = [] := by
    rw [List.filter_eq_nil_iff]
    intro x hx q
    exact b_apart2 h hno hx hp (ht _ q)
  rw [this, List.filter_map, List.length_map]
  have : (t ∘ ren s) = t' := funext h2
  rw [this]; simp
/-- How many KdMds. -/
def roots (l : List Ob) : Nat := (l.filter fun o => o.kind == 1).length
theorem und_root {l : List Ob} (h : ∀ o ∈ l, Okay o) : und l [] 1 = roots l := by
  unfold und roots
  congr 1
  refine List.filter_congr fun o ho => ?_
  have hO := h o ho
  by_cases h1 : o.kind = 1
  · rw [hO.root h1, h1]; rfl
  · have hp := hO.parent h1
    simp [hp, h1]
theorem ren_okay {l : List Ob} {s : ByteArray} (hs : ∀ o ∈ l, faultP (ren s o) true = 0) : ∀ o ∈ l.map (ren s), Okay o := fun y hy => by
  obtain ⟨x, hx, rfl⟩ := List.mem_map.1 hy
  exact okay_of (hs x hx)
theorem roots_ren (l : List Ob) (s : ByteArray) : roots (l.map (ren s)) = roots l := by
  unfold roots
  rw [List.filter_map, List.length_map]; rfl
theorem grp_one {k : Nat} (h : k = 1) : grp k = 1 ∧ most k = 4 := by subst h; exact ⟨rfl, rfl⟩
set_option maxHeartbeats 1000000 in
theorem both_wl {l : List Ob} (h : Wl l) {s : ByteArray} (hs : ∀ o ∈ l, faultP (ren s o) true = 0) (hno : ∀ o ∈ l, findO l (hb o ++ s.data.toList) = none) :
    Wl (l ++ l.map (ren s)) ↔ 2 * roots l ≤ 4 := by
  have hroot : und (l ++ l.map (ren s)) [] 1 = 2 * roots l := by
    rw [und_root (fun o ho => (List.mem_append.1 ho).elim (h.ok o) (ren_okay hs o))]
    have := roots_ren l s
    unfold roots at this ⊢
    rw [List.filter_append, List.length_append, this]; omega
  constructor
  · intro hW
    by_cases h0 : roots l = 0
    · omega
    · obtain ⟨o, ho⟩ := List.exists_mem_of_length_pos (show 0 < (l.filter fun o => o.kind == 1).length by unfold roots at h0; omega)
      obtain ⟨ho, h1⟩ := List.mem_filter.1 ho
      have h1 : o.kind = 1 := by simpa using h1
      have := hW.cnt o (List.mem_append_left _ ho)
      rw [(h.ok o ho).root h1, (grp_one h1).1, (grp_one h1).2, hroot] at this
      exact this
  · intro hr
    have hcl := b_climb h hno 8
    have hcl2 := b_climb2 h hno 8
    have hcase : ∀ {P : Ob → Prop}, (∀ o ∈ l, P o) → (∀ o ∈ l, P (ren s o)) → ∀ o ∈ l ++ l.map (ren s), P o := fun {P} a b o ho => by
      rcases List.mem_append.1 ho with q | q
      · exact a o q
      · obtain ⟨x, hx, rfl⟩ := List.mem_map.1 q
        exact b x hx
    refine ⟨hcase (fun o ho => h.own o ho) hs, ?_, hcase (fun o ho h1 => ?_) (fun o ho h1 => ?_), hcase (fun o ho => ?_) (fun o ho => ?_), hcase (fun o ho => ?_) (fun o ho => ?_), hcase (fun o ho => ?_) (fun o ho => ?_), hcase (fun o ho => ?_) (fun o ho => ?_)⟩
    · rw [List.map_append, List.nodup_append]
      refine ⟨h.nd, ?_, ?_⟩
      · rw [List.map_map]
        have e : hb ∘ ren s = (fun x => x ++ s.data.toList) ∘ hb := funext fun o => ren_h s o
        rw [e, ← List.map_map]
        exact List.Pairwise.map _ (fun a b (q : a ≠ b) e => q (List.append_cancel_right e)) h.nd
      · intro a ha b hb' e
        obtain ⟨x, hx, rfl⟩ := List.mem_map.1 ha
        obtain ⟨y, hy, rfl⟩ := List.mem_map.1 hb'
        obtain ⟨z, hz, rfl⟩ := List.mem_map.1 hy
        rw [ren_h] at e
        exact no_h h hno hz hx e.symm
    · obtain ⟨p, e, q⟩ := h.up o ho h1
      exact ⟨p, b_find h hno e, q⟩
    · have h1 : o.kind ≠ 1 := h1
      obtain ⟨p, e, q⟩ := h.up o ho h1
      obtain ⟨g1, g2, g3, _⟩ := stand_under q
      refine ⟨ren s p, ?_, stand_ok g1 g2 ?_ (fun z => ?_)⟩
      · rw [ren_p, addB_ne ((h.ok o ho).parent h1)]
        exact b_find2 h hno e
      · refine bs_eq ?_
        show pb (ren s o) = hb (ren s p)
        rw [ren_p, addB_ne ((h.ok o ho).parent h1), ren_h, (findO_some e).2]
      · exact absurd z (under_pos g2 h1)
    · by_cases h1 : o.kind = 1
      · rw [(h.ok o ho).root h1, (grp_one h1).1, (grp_one h1).2, hroot]; exact hr
      · obtain ⟨p, e, _⟩ := h.up o ho h1
        have := b_count h hno (t := fun x => decide (pb x = pb o) && (grp x.kind == grp o.kind)) (findO_some e).1 (fun x hx => by
          simp only [Bool.and_eq_true, decide_eq_true_eq] at hx
          rw [hx.1, (findO_some e).2])
        have q := h.cnt o ho
        unfold und at q ⊢
        rw [this]; exact q
    · by_cases h1 : o.kind = 1
      · have e1 : pb (ren s o) = [] := by rw [ren_p]; exact addB_nil.2 ((h.ok o ho).root h1)
        rw [e1, (grp_one (show (ren s o).kind = 1 from h1)).1, (grp_one (show (ren s o).kind = 1 from h1)).2, hroot]; exact hr
      · obtain ⟨p, e, _⟩ := h.up o ho h1
        have hp0 := (h.ok o ho).parent h1
        have e1 : pb (ren s o) = hb p ++ s.data.toList := by rw [ren_p, addB_ne hp0, (findO_some e).2]
        have := b_count2 h hno (t := fun x => decide (pb x = hb p ++ s.data.toList) && (grp x.kind == grp o.kind)) (t' := fun x => decide (pb x = pb o) && (grp x.kind == grp o.kind)) (findO_some e).1 (fun x hx => by
          simp only [Bool.and_eq_true, decide_eq_true_eq] at hx
          exact hx.1) (fun x => by
          show (decide (pb (ren s x) = hb p ++ s.data.toList) && (grp x.kind == grp o.kind)) = _
          congr 1
          rw [ren_p, (findO_some e).2, ← addB_ne hp0]
          exact decide_eq_decide.2 ⟨fun q => addB_inj q, fun q => by rw [q]⟩)
        have q := h.cnt o ho
        unfold und at q ⊢
        rw [e1]
        show _ ≤ most o.kind
        have e2 : (ren s o).kind = o.kind := rfl
        rw [e2, this]; exact q
    · cases hk : refersB o.kind with
      | false => unfold refR; rw [if_pos hk]
      | true =>
        obtain ⟨t, e, h2, h3, h4⟩ := h.to ho hk
        unfold refR
        rw [if_neg (by rw [hk]; simp), b_find h hno e]
        simp only
        rw [if_neg (by rw [h2]; simp)]
        by_cases h7 : o.kind = 7
        · rw [if_pos h7]; exact decide_eq_true (h4 h7)
        · rw [if_neg h7]
          refine decide_eq_true ?_
          unfold mdsT
          rw [← (findO_some e).2, hcl o ho, hcl t (findO_some e).1, h3]
    · cases hk : refersB o.kind with
      | false => unfold refR; rw [if_pos (show refersB (ren s o).kind = false from hk)]
      | true =>
        obtain ⟨t, e, h2, h3, h4⟩ := h.to ho hk
        have e1 : rb (ren s o) = rb o ++ s.data.toList := by rw [ren_r, addB_ne ((h.ok o ho).ref hk)]
        unfold refR
        rw [if_neg (show ¬ refersB (ren s o).kind = false by rw [show (ren s o).kind = o.kind from rfl, hk]; simp), e1, b_find2 h hno e]
        simp only
        rw [if_neg (show ¬ refersTo (ren s o).kind (ren s t).kind = false by rw [show (ren s o).kind = o.kind from rfl, show (ren s t).kind = t.kind from rfl, h2]; simp)]
        by_cases h7 : o.kind = 7
        · rw [if_pos (show (ren s o).kind = 7 from h7)]
          refine decide_eq_true ?_
          rw [ren_p, ren_p, h4 h7]
        · rw [if_neg (show ¬ (ren s o).kind = 7 from h7)]
          refine decide_eq_true ?_
          unfold mdsT
          rw [ren_h, ← (findO_some e).2, hcl2 o ho, hcl2 t (findO_some e).1, h3]
    · have q := h.lim o ho
      unfold brk6 at q ⊢
      by_cases h8 : o.kind = 8
      · obtain ⟨t, e, _⟩ := h.to ho (by rw [h8]; rfl)
        rw [b_find h hno e]
        rw [e] at q
        exact q
      · simp [h8]
    · have q := h.lim o ho
      unfold brk6 at q ⊢
      by_cases h8 : o.kind = 8
      · have hk : refersB o.kind = true := by rw [h8]; rfl
        obtain ⟨t, e, _⟩ := h.to ho hk
        have e1 : rb (ren s o) = rb o ++ s.data.toList := by rw [ren_r, addB_ne ((h.ok o ho).ref hk)]
        rw [e1, b_find2 h hno e]
        rw [e] at q
        exact q
      · have : ¬ (ren s o).kind = 8 := h8
        simp [this]
    · have q := h.ctx o ho
      unfold brk7 twins at q ⊢
      by_cases h9 : o.kind = 9
      · obtain ⟨p, e, _⟩ := h.up o ho (by omega)
        have := b_count h hno (t := twin o) (findO_some e).1 (fun x hx => by
          unfold twin at hx
          simp only [Bool.and_eq_true, decide_eq_true_eq] at hx
          rw [hx.1.2, (findO_some e).2])
        rw [this]; exact q
      · simp [h9]
    · have q := h.ctx o ho
      unfold brk7 twins at q ⊢
      by_cases h9 : o.kind = 9
      · have h1 : o.kind ≠ 1 := by omega
        obtain ⟨p, e, _⟩ := h.up o ho h1
        have hp0 := (h.ok o ho).parent h1
        have e1 : pb (ren s o) = hb p ++ s.data.toList := by rw [ren_p, addB_ne hp0, (findO_some e).2]
        have := b_count2 h hno (t := twin (ren s o)) (t' := twin o) (findO_some e).1 (fun x hx => by
          unfold twin at hx
          simp only [Bool.and_eq_true, decide_eq_true_eq] at hx
          rw [hx.1.2, e1]) (fun x => by
          unfold twin
          rw [ren_p, ren_p]
          show ((x.kind == 9) && (x.assoc == 2) && decide (addB (pb x) s.data.toList = addB (pb o) s.data.toList) && (x.typ == o.typ)) = _
          congr 2
          exact decide_eq_decide.2 ⟨fun q => addB_inj q, fun q => by rw [q]⟩)
        rw [this]; exact q
      · have : ¬ (ren s o).kind = 9 := h9
        simp [this]
end Go.Proofs.YthlalmoapbdccaaDoor.WX
/-
  PLAIN: a well list without one of its objects.
-/
namespace Go.Proofs.YthlalmoapbdccaaDoor.WX
open Go.RowKit HL
open IX (ptr El cellsK cellsK_at OwnK RdK strK)
set_option maxRecDepth 100000
set_option linter.unusedVariables false
set_option linter.unusedSimpArgs false

/-- The least rule, where the first two are kept. -/
theorem ver_rule {l : List Ob} (h1 : ∀ o ∈ l, faultP o true = 0) (h2 : (l.map hb).Nodup) : (verR l).1 = if anyR l 3 = true then 3 else if anyR l 4 = true then 4 else if anyR l 5 = true then 5 else if anyR l 6 = true then 6 else if anyR l 7 = true then 7 else 0 := by
  rw [verR_eq]
  unfold brokenR
  rw [if_neg (show ¬ (fltK l l.length).2 ≠ 0 by
    have := flt_zero l l.length (Nat.le_refl _)
    rw [List.take_length] at this
    rw [this.2 h1]; simp)]
  rw [show anyR l 2 = false by rw [any2]; exact twice_f.2 h2]
  cases anyR l 3 <;> cases anyR l 4 <;> cases anyR l 5 <;> cases anyR l 6 <;> cases anyR l 7 <;> rfl
theorem lessO_sub (l : List Ob) (k : Nat) : (l.take k ++ l.drop (k + 1)).Sublist l := by
  conv => rhs; rw [← List.take_append_drop k l]
  refine List.Sublist.append (List.Sublist.refl _) ?_
  rw [show k + 1 = k + 1 by rfl, ← List.drop_drop]
  exact List.drop_sublist _ _
theorem lessO_mem {l : List Ob} (hn : (l.map hb).Nodup) {k : Nat} (hk : k < l.length) {o : Ob} : o ∈ l.take k ++ l.drop (k + 1) ↔ o ∈ l ∧ hb o ≠ hb l[k] := by
  have e : l = l.take k ++ l[k] :: l.drop (k + 1) := by rw [List.getElem_cons_drop, List.take_append_drop]
  have hp : l.Perm (l[k] :: (l.take k ++ l.drop (k + 1))) := by
    conv => lhs; rw [e]
    exact List.perm_middle
  have hn2 := (hp.map hb).nodup_iff.1 hn
  rw [List.map_cons, List.nodup_cons] at hn2
  constructor
  · intro h
    refine ⟨hp.mem_iff.2 (List.mem_cons_of_mem _ h), fun q => ?_⟩
    exact hn2.1 (List.mem_map.2 ⟨o, h, q⟩)
  · rintro ⟨h, q⟩
    rcases List.mem_cons.1 (hp.mem_iff.1 h) with g | g
    · subst g; exact absurd rfl q
    · exact g
theorem less_find {l s : List Ob} {r : Bs} (hn : (l.map hb).Nodup) (hs : (s.map hb).Nodup) (hm : ∀ o, o ∈ s ↔ o ∈ l ∧ hb o ≠ r) {x : Bs} : findO s x = if x = r then none else findO l x := by
  by_cases q : x = r
  · rw [if_pos q]
    refine findO_none.2 fun a ha e => ?_
    exact ((hm a).1 ha).2 (e.trans q)
  · rw [if_neg q]
    exact find_same hs hn fun o e => by
      rw [hm o, e]
      exact ⟨fun h => h.1, fun h => ⟨h, q⟩⟩
theorem less_climb {l s : List Ob} {r : Bs} (hf : ∀ x, findO s x = if x = r then none else findO l x) (hm : ∀ o, o ∈ s ↔ o ∈ l ∧ hb o ≠ r) (hp : ∀ o ∈ s, pb o ≠ r) : ∀ n x, x ≠ r → climbO (findO s) n x = climbO (findO l) n x := by
  intro n
  induction n with
  | zero => intro x _; rfl
  | succ n ih =>
    intro x hx
    unfold climbO
    rw [hf, if_neg hx]
    cases e : findO l x with
    | none => rfl
    | some o =>
      simp only
      obtain ⟨h1, h2⟩ := findO_some e
      by_cases h3 : o.kind = 1
      · rw [if_pos h3, if_pos h3]
      · rw [if_neg h3, if_neg h3, ih _ (hp o ((hm o).2 ⟨h1, by rw [h2]; exact hx⟩))]
theorem less_rule {l s : List Ob} {r : Bs} (h : Wl l) (hr : r ≠ []) (hsub : s.Sublist l) (hm : ∀ o, o ∈ s ↔ o ∈ l ∧ hb o ≠ r) :
    (verR s).1 = if s.any (fun o => decide (pb o = r)) = true then 3 else if s.any (fun o => decide (rb o = r)) = true then 5 else 0 := by
  have hs : (s.map hb).Nodup := (hsub.map hb).nodup h.nd
  have hf : ∀ x, findO s x = if x = r then none else findO l x := fun x => less_find h.nd hs hm
  have hin : ∀ o ∈ s, o ∈ l := fun o ho => ((hm o).1 ho).1
  rw [ver_rule (fun o ho => h.own o (hin o ho)) hs]
  by_cases hp : s.any (fun o => decide (pb o = r)) = true
  · rw [if_pos hp, if_pos]
    rw [any3']
    obtain ⟨o, ho, e⟩ := List.any_eq_true.1 hp
    have e := of_decide_eq_true e
    refine List.any_eq_true.2 ⟨o, ho, ?_⟩
    have h1 : o.kind ≠ 1 := fun q => hr (by rw [← e]; exact (h.ok o (hin o ho)).root q)
    unfold brk3
    rw [if_neg h1, hf, if_pos e]
  · have hp2 : ∀ o ∈ s, pb o ≠ r := fun o ho e => hp (List.any_eq_true.2 ⟨o, ho, decide_eq_true e⟩)
    rw [if_neg hp]
    have a3 : anyR s 3 = false := by
      rw [any3', any_f']
      intro o ho
      refine brk3_iff.2 fun h1 => ?_
      rw [hf, if_neg (hp2 o ho)]
      exact h.up o (hin o ho) h1
    have a4 : anyR s 4 = false := by
      rw [any4', any_f']
      intro o ho
      have h1 := h.cnt o (hin o ho)
      have h2 : und s (pb o) (grp o.kind) ≤ und l (pb o) (grp o.kind) := by unfold und; exact (hsub.filter _).length_le
      exact decide_eq_false (by omega)
    rw [a3, a4]
    by_cases hq : s.any (fun o => decide (rb o = r)) = true
    · rw [if_pos hq]
      have a5 : anyR s 5 = true := by
        rw [any5']
        obtain ⟨o, ho, e⟩ := List.any_eq_true.1 hq
        have e := of_decide_eq_true e
        refine List.any_eq_true.2 ⟨o, ho, ?_⟩
        have hk : refersB o.kind = true := by
          cases q : refersB o.kind with
          | true => rfl
          | false => exact absurd (e.symm.trans ((h.ok o (hin o ho)).noref q)) hr
        unfold refR
        rw [if_neg (by rw [hk]; simp), hf, if_pos e]
        rfl
      rw [a5]; simp
    · have hq2 : ∀ o ∈ s, rb o ≠ r := fun o ho e => hq (List.any_eq_true.2 ⟨o, ho, decide_eq_true e⟩)
      rw [if_neg hq]
      have hc := less_climb hf hm hp2
      have a5 : anyR s 5 = false := by
        rw [any5', any_f']
        intro o ho
        have h1 := h.ref o (hin o ho)
        have h2 : refR (findO s) o = refR (findO l) o := by
          unfold refR mdsT
          rw [hf, if_neg (hq2 o ho), hc 8 (hb o) ((hm o).1 ho).2, hc 8 (rb o) (hq2 o ho)]
        rw [h2, h1]; rfl
      have a6 : anyR s 6 = false := by
        rw [any6', any_f']
        intro o ho
        have h1 := h.lim o (hin o ho)
        unfold brk6 at h1 ⊢
        rw [hf, if_neg (hq2 o ho)]
        exact h1
      have a7 : anyR s 7 = false := by
        rw [any7', any_f']
        intro o ho
        have h1 := h.ctx o (hin o ho)
        have h2 : twins s o ≤ twins l o := by unfold twins; exact (hsub.filter _).length_le
        unfold brk7 at h1 ⊢
        cases h3 : ((o.kind == 9) && (o.assoc == 2)) with
        | false => rfl
        | true =>
          rw [h3, Bool.true_and] at h1
          have h1 := of_decide_eq_false h1
          rw [Bool.true_and]
          exact decide_eq_false (by omega)
      rw [a5, a6, a7]; simp
theorem less_all {l : List Ob} (h : Wl l) {k : Nat} (hk : k < l.length) :
    (verR (l.take k ++ l.drop (k + 1))).1 = if (l.take k ++ l.drop (k + 1)).any (fun o => decide (pb o = hb l[k])) = true then 3 else if (l.take k ++ l.drop (k + 1)).any (fun o => decide (rb o = hb l[k])) = true then 5 else 0 :=
  less_rule h (h.ok _ (List.getElem_mem hk)).handle (lessO_sub l k) (fun o => lessO_mem h.nd hk)
end Go.Proofs.YthlalmoapbdccaaDoor.WX
