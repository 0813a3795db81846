/- The law ObjectTexts: any object has the text that the document says, or none; any text is of the object that it says. CONDITIONS: none beyond the row's own (see Rows): package-level variables start as the program's text lays them, which the card ties; a text of more than 500 bytes and an object with a text of more than 100 are outside the law itself. -/
import Derived.Deep.Quiet
import Derived.IntWalk
import Derived.Deep.RegionHeld3
import Derived.Test.YtonhijonnonmbaaDoorOLong
import Derived.Test.YtonhijonnonmbaaDoorRows
import Derived.Test.YtonhijonnonmbaaDoorCards
import Derived.Test.YtonhijonnonmbaaDoorTie
import Derived.Test.YtonhijonnonmbaaDoorOLaid
import Derived.Test.YtonhijonnonmbaaDoorOOpen
import Derived.WalkKit
import Derived.ProofKit
import Derived.OpenShut
import Derived.ShutString
import Derived.ChangeOld
import Derived.Below
import Derived.LaidMore
import Derived.Stop.Joined
import Derived.SevenTiedAt
import Derived.Shelf.Vars
import Derived.Test.YtonhijonnonmbaaDoorTM1
namespace Go.Proofs.YtonhijonnonmbaaDoor
open Go.RowKit FixMath
set_option maxRecDepth 100000
set_option linter.unusedVariables false
set_option linter.unusedSimpArgs false

section
variable {P : Program} {ops : Array Oper} {C : World → Prop} {Q : Act → Prop} {rest : List Oper} {o : Oper} {a : Act}
theorem wpQ_val (hg : o.guard = none) (v : Value) (h : ∀ w, C w → (execOp a.eval o).run P w = .ok (.value v) w) (hn : wpQuiet P ops C Q rest (a.put o.dst v)) : wpQuiet P ops C Q (o :: rest) a := by
  unfold wpQuiet
  rw [if_pos (by simp [Region.wanted, hg])]
  exact ⟨v, fun w hw => by unfold Oper.quietAt; rw [h w hw]; exact ⟨rfl, rfl⟩, hn⟩
theorem wpQ_call (hg : o.guard = none) (f : FuncId) (args : Array Value) (v : Value) (h : ∀ w, C w → (execOp a.eval o).run P w = .ok (.enter f args) w) (hc : ∀ w, C w → Calls P f args w fun e w'' => e = .returned v ∧ C w'') (hn : wpQuiet P ops C Q rest (a.put o.dst v)) : wpQuiet P ops C Q (o :: rest) a := by
  unfold wpQuiet
  rw [if_pos (by simp [Region.wanted, hg])]
  exact ⟨v, fun w hw => by unfold Oper.quietAt; rw [h w hw]; exact ⟨rfl, hc w hw⟩, hn⟩
end
theorem wpQ_add {ops : Array Oper} {C : World → Prop} {Q : Act → Prop} {rest : List Oper} {o : Oper} {a : Act} (hg : o.guard = none) (x y : Operand) (ho : o.op = .binOp .add 9 x y 9) (l1 l2 : Bs) (h1 : a.eval x = str l1) (h2 : a.eval y = str l2) (hl1 : l1.length ≤ 100000) (hl2 : l2.length ≤ 100000) (hn : wpQuiet Tryd.prog ops C Q rest (a.put o.dst (str (l1 ++ l2)))) : wpQuiet Tryd.prog ops C Q (o :: rest) a := by
  refine wpQ_val hg _ (fun w hw => ?_) hn
  have hu := Tryd.underlying9
  have e := bytes_add l1 l2
  unfold execOp
  simp only [ho, h1, h2]
  rw [show str (l1 ++ l2) = Value.string ((⟨l1.toArray⟩ : ByteArray) ++ ⟨l2.toArray⟩) from congrArg Value.string e.symm]
  go_simp
  omega
theorem wpQ_field {ops : Array Oper} {C : World → Prop} {Q : Act → Prop} {rest : List Oper} {o : Oper} {a : Act} (hg : o.guard = none) (x : Operand) (i : Nat) (ho : o.op = .fieldAddr 23 x i) (B : Nat) (h1 : a.eval x = .pointer (some ⟨B, 0, none⟩)) (hi : i < 14) (hn : wpQuiet Tryd.prog ops C Q rest (a.put o.dst (.pointer (some ⟨B, i, none⟩)))) : wpQuiet Tryd.prog ops C Q (o :: rest) a := by
  refine wpQ_val hg _ (fun w hw => ?_) hn
  unfold execOp
  simp only [ho, h1]
  match i, hi with
  | 0, _ => go_simp
  | 1, _ => go_simp
  | 2, _ => go_simp
  | 3, _ => go_simp
  | 4, _ => go_simp
  | 5, _ => go_simp
  | 6, _ => go_simp
  | 7, _ => go_simp
  | 8, _ => go_simp
  | 9, _ => go_simp
  | 10, _ => go_simp
  | 11, _ => go_simp
  | 12, _ => go_simp
  | 13, _ => go_simp
theorem wpQ_loadS {ops : Array Oper} {C : World → Prop} {Q : Act → Prop} {rest : List Oper} {o : Oper} {a : Act} (hg : o.guard = none) (x : Operand) (ho : o.op = .load 9 x) (p : Addr) (h1 : a.eval x = .pointer (some p)) (s : ByteArray) (hc : ∀ w, C w → w.cell? p = some (.string s)) (hn : wpQuiet Tryd.prog ops C Q rest (a.put o.dst (.string s))) : wpQuiet Tryd.prog ops C Q (o :: rest) a := by
  refine wpQ_val hg _ (fun w hw => ?_) hn
  have hc2 := hc w hw
  unfold execOp
  simp only [ho, h1]
  go_simp
theorem wpQ_load8 {ops : Array Oper} {C : World → Prop} {Q : Act → Prop} {rest : List Oper} {o : Oper} {a : Act} (hg : o.guard = none) (x : Operand) (ho : o.op = .load 5 x) (p : Addr) (h1 : a.eval x = .pointer (some p)) (s : Int) (hc : ∀ w, C w → w.cell? p = some (.int .u8 s)) (hn : wpQuiet Tryd.prog ops C Q rest (a.put o.dst (.int .u8 s))) : wpQuiet Tryd.prog ops C Q (o :: rest) a := by
  refine wpQ_val hg _ (fun w hw => ?_) hn
  have hc2 := hc w hw
  unfold execOp
  simp only [ho, h1]
  go_simp
theorem wpQ_load64 {ops : Array Oper} {C : World → Prop} {Q : Act → Prop} {rest : List Oper} {o : Oper} {a : Act} (hg : o.guard = none) (x : Operand) (ho : o.op = .load 2 x) (p : Addr) (h1 : a.eval x = .pointer (some p)) (s : Int) (hc : ∀ w, C w → w.cell? p = some (.int .i64 s)) (hn : wpQuiet Tryd.prog ops C Q rest (a.put o.dst (.int .i64 s))) : wpQuiet Tryd.prog ops C Q (o :: rest) a := by
  refine wpQ_val hg _ (fun w hw => ?_) hn
  have hc2 := hc w hw
  unfold execOp
  simp only [ho, h1]
  go_simp
theorem wpQ_loadB {ops : Array Oper} {C : World → Prop} {Q : Act → Prop} {rest : List Oper} {o : Oper} {a : Act} (hg : o.guard = none) (x : Operand) (ho : o.op = .load 4 x) (p : Addr) (h1 : a.eval x = .pointer (some p)) (s : Bool) (hc : ∀ w, C w → w.cell? p = some (.bool s)) (hn : wpQuiet Tryd.prog ops C Q rest (a.put o.dst (.bool s))) : wpQuiet Tryd.prog ops C Q (o :: rest) a := by
  refine wpQ_val hg _ (fun w hw => ?_) hn
  have hc2 := hc w hw
  unfold execOp
  simp only [ho, h1]
  go_simp
theorem wpQ_conv {ops : Array Oper} {C : World → Prop} {Q : Act → Prop} {rest : List Oper} {o : Oper} {a : Act} (hg : o.guard = none) (x : Operand) (ho : o.op = .convert 5 2 x) (n : Nat) (h1 : a.eval x = .int .u8 n) (h : n ≤ 255) (hn : wpQuiet Tryd.prog ops C Q rest (a.put o.dst (.int .i64 n))) : wpQuiet Tryd.prog ops C Q (o :: rest) a := by
  refine wpQ_val hg _ (fun w hw => ?_) hn
  unfold execOp
  simp only [ho, h1]
  go_simp
  exact IntWalk.i64_in _ (by omega)
theorem wpQ_move {ops : Array Oper} {C : World → Prop} {Q : Act → Prop} {rest : List Oper} {o : Oper} {a : Act} (hg : o.guard = none) (x : Operand) (ho : o.op = .move x) (v : Value) (h1 : a.eval x = v) (hn : wpQuiet Tryd.prog ops C Q rest (a.put o.dst v)) : wpQuiet Tryd.prog ops C Q (o :: rest) a := by
  refine wpQ_val hg _ (fun w hw => ?_) hn
  unfold execOp
  simp only [ho, h1]
  go_simp
theorem wpQ_assign {ops : Array Oper} {C : World → Prop} {Q : Act → Prop} {rest : List Oper} {o : Oper} {a : Act} (hg : o.guard = none) (x : Operand) (ho : o.op = .assign x) (v : Value) (h1 : a.eval x = v) (hn : wpQuiet Tryd.prog ops C Q rest (a.put o.dst v)) : wpQuiet Tryd.prog ops C Q (o :: rest) a := by
  refine wpQ_val hg _ (fun w hw => ?_) hn
  unfold execOp
  simp only [ho, h1]
  go_simp
end Go.Proofs.YtonhijonnonmbaaDoor
namespace Go.Proofs.YtonhijonnonmbaaDoor
open Go.RowKit FixMath
set_option maxRecDepth 100000
set_option linter.unusedVariables false
set_option linter.unusedSimpArgs false

theorem wp_region_below {P : Program} {id : Nat} {Q : Exit → Act → World → Prop} {a : Act} {w : World} {l : List Oper} (hm : P.follows .mixedOrders = true) (hB : Region.lexB .any l.toArray = true)
    (h : wpQuiet P l.toArray (fun W => Below w.heap.size w W) (fun a' => ∀ w', Below w.heap.size w w' → Q .normal a' w') l a) : (Code.region id l.toArray true).wp P Q a w :=
  wp_region_quiet (C := fun W => Below w.heap.size w W) hm hB (Below.refl _ _).drew (by simpa using h)
def fieldP (o : Ob) (n : Nat) : Bs := if zB o n then [] else 32 :: (fnameL n ++ 61 :: (ftext o n).data.toList)
theorem textTo_succ (o : Ob) (n : Nat) : textTo o (n + 1) = textTo o n ++ fieldP o n := by
  unfold fieldP
  rw [textTo]
  split
  · simp
  · simp [pieceL]
theorem isE (s : ByteArray) : s.toList.isEmpty = decide (s.data.toList = []) := by
  rw [ByteArray.toList_eq]
  cases s.data.toList <;> simp
theorem fieldP_text (o : Ob) (s : ByteArray) (n : Nat) (h1 : zB o n = s.toList.isEmpty) (h2 : ftext o n = s) : fieldP o n = textP (fnameL n) s.data.toList := by
  unfold fieldP textP
  rw [h1, h2, isE]
  simp
theorem fieldP_num (o : Ob) (z : Int) (n : Nat) (h1 : zB o n = (z == 0)) (h2 : ftext o n = ⟨(Lib.itoa z).toArray⟩) : fieldP o n = numP (fnameL n) z := by
  unfold fieldP numP
  rw [h1, h2]
  simp
theorem fieldP_yes (o : Ob) (b : Bool) (n : Nat) (h1 : zB o n = (boolI b == 0)) (h2 : ftext o n = ⟨(Lib.itoa (boolI b)).toArray⟩) : fieldP o n = yesP (fnameL n) b := by
  unfold fieldP yesP
  rw [h1, h2]
  cases b with
  | false => rfl
  | true =>
    have e : Lib.itoa (boolI true) = [49] := by rw [show boolI true = ((1 : Nat) : Int) from rfl, itoa_pos]; simp [Lib.decDigits]
    rw [e]; rfl
theorem fieldP_len {o : Ob} (h : Small o) (n : Nat) (hn : n < 12) : (fieldP o n).length ≤ 1100 := by
  unfold fieldP
  split
  · simp
  · have h1 := ftext_len h n hn
    have h2 := fname_len n
    simp only [List.length_cons, List.length_append]; omega
set_option maxHeartbeats 4000000 in
theorem rtext_bad {o : Ob} {w : World} (h : Meets o w) (hr : ¬ faultP o true = 0) : Calls Tryd.prog 7 #[ob o] w fun e w' => e = .returned (textR o) ∧ Below w.heap.size w w' := by
  have hb : Below w.heap.size w w := Below.refl _ _
  have MO := AtC.new w (obCells o) 23
  have C := Lib.hid (refOMay_any (h.then (bAl hb (.cells (obCells o) 23))))
  have HR := Lib.hid (textR_bad hr)
  generalize textR o = tr at *
  generalize faultP o true = r at *
  have rc := MO.c; have rl := MO.lt
  clear h
  go_enter Tryd.func7, Tryd.ntmps7
  go_wp2_with (go_at_call 17; ((with_reducible refine C.out.mono ?_); rintro e w1 ⟨rfl, k1⟩; have hb1 := bThen (bAl hb _) k1))
  go_ret2
  exact ⟨by rw [HR.out]; rfl, hb1⟩
set_option maxHeartbeats 1000000 in
theorem rtext_ok {o : Ob} {w : World} (h : Meets o w) (SM : Small o) (hr : faultP o true = 0) : Calls Tryd.prog 7 #[ob o] w fun e w' => e = .returned (textR o) ∧ Below w.heap.size w w' := by
  have hb : Below w.heap.size w w := Below.refl _ _
  have MO := AtC.new w (obCells o) 23
  have C := Lib.hid (refOMay_any (h.then (bAl hb (.cells (obCells o) 23))))
  have CW := Lib.hid (fun W => refWord_any o.kind W h.kind)
  have HR := Lib.hid (textR_ok hr)
  rw [hr] at C
  have t1 := SM.typ; have t2 := SM.digits; have t3 := SM.assoc
  have hwl := word_len o.kind
  have hhl : o.handle.data.toList.length ≤ 1000 := SM.handle
  have e0 := fieldP_text o o.parent 0 rfl rfl
  have q0 : ∀ W, Calls Tryd.prog 19 #[str [112, 97, 114, 101, 110, 116], .string o.parent] W fun e w' => e = .returned (str (fieldP o 0)) ∧ W = w' := fun W => by rw [e0]; exact rtext_any _ _ W (by decide) SM.parent
  have CP0 := Lib.hid q0
  have l0 := fieldP_len SM 0 (by decide)
  clear e0 q0
  have e1 := fieldP_num o o.typ 1 rfl rfl
  have q1 : ∀ W, Calls Tryd.prog 20 #[str [116, 121, 112, 101], .int .i64 o.typ] W fun e w' => e = .returned (str (fieldP o 1)) ∧ Below W.heap.size W w' := fun W => by rw [e1]; exact num_any _ _ W (by decide) ⟨by omega, by omega⟩
  have CP1 := Lib.hid q1
  have l1 := fieldP_len SM 1 (by decide)
  clear e1 q1
  have e2 := fieldP_text o o.ref 2 rfl rfl
  have q2 : ∀ W, Calls Tryd.prog 19 #[str [114, 101, 102], .string o.ref] W fun e w' => e = .returned (str (fieldP o 2)) ∧ W = w' := fun W => by rw [e2]; exact rtext_any _ _ W (by decide) SM.ref
  have CP2 := Lib.hid q2
  have l2 := fieldP_len SM 2 (by decide)
  clear e2 q2
  have e3 := fieldP_num o o.lo 3 rfl rfl
  have q3 : ∀ W, Calls Tryd.prog 20 #[str [108, 111], .int .i64 o.lo] W fun e w' => e = .returned (str (fieldP o 3)) ∧ Below W.heap.size W w' := fun W => by rw [e3]; exact num_any _ _ W (by decide) SM.lo
  have CP3 := Lib.hid q3
  have l3 := fieldP_len SM 3 (by decide)
  clear e3 q3
  have e4 := fieldP_num o o.hi 4 rfl rfl
  have q4 : ∀ W, Calls Tryd.prog 20 #[str [104, 105], .int .i64 o.hi] W fun e w' => e = .returned (str (fieldP o 4)) ∧ Below W.heap.size W w' := fun W => by rw [e4]; exact num_any _ _ W (by decide) SM.hi
  have CP4 := Lib.hid q4
  have l4 := fieldP_len SM 4 (by decide)
  clear e4 q4
  have e5 := fieldP_num o o.digits 5 rfl rfl
  have q5 : ∀ W, Calls Tryd.prog 20 #[str [100, 105, 103, 105, 116, 115], .int .i64 o.digits] W fun e w' => e = .returned (str (fieldP o 5)) ∧ Below W.heap.size W w' := fun W => by rw [e5]; exact num_any _ _ W (by decide) ⟨by omega, by omega⟩
  have CP5 := Lib.hid q5
  have l5 := fieldP_len SM 5 (by decide)
  clear e5 q5
  have e6 := fieldP_yes o o.on 6 rfl rfl
  have q6 : ∀ W, Calls Tryd.prog 21 #[str [111, 110], .bool o.on] W fun e w' => e = .returned (str (fieldP o 6)) ∧ W = w' := fun W => by rw [e6]; exact yes_any _ _ W (by decide)
  have CP6 := Lib.hid q6
  have l6 := fieldP_len SM 6 (by decide)
  clear e6 q6
  have e7 := fieldP_yes o o.has 7 rfl rfl
  have q7 : ∀ W, Calls Tryd.prog 21 #[str [104, 97, 115], .bool o.has] W fun e w' => e = .returned (str (fieldP o 7)) ∧ W = w' := fun W => by rw [e7]; exact yes_any _ _ W (by decide)
  have CP7 := Lib.hid q7
  have l7 := fieldP_len SM 7 (by decide)
  clear e7 q7
  have e8 := fieldP_num o o.value 8 rfl rfl
  have q8 : ∀ W, Calls Tryd.prog 20 #[str [118, 97, 108, 117, 101], .int .i64 o.value] W fun e w' => e = .returned (str (fieldP o 8)) ∧ Below W.heap.size W w' := fun W => by rw [e8]; exact num_any _ _ W (by decide) SM.value
  have CP8 := Lib.hid q8
  have l8 := fieldP_len SM 8 (by decide)
  clear e8 q8
  have e9 := fieldP_num o o.low 9 rfl rfl
  have q9 : ∀ W, Calls Tryd.prog 20 #[str [108, 111, 119], .int .i64 o.low] W fun e w' => e = .returned (str (fieldP o 9)) ∧ Below W.heap.size W w' := fun W => by rw [e9]; exact num_any _ _ W (by decide) SM.low
  have CP9 := Lib.hid q9
  have l9 := fieldP_len SM 9 (by decide)
  clear e9 q9
  have e10 := fieldP_num o o.high 10 rfl rfl
  have q10 : ∀ W, Calls Tryd.prog 20 #[str [104, 105, 103, 104], .int .i64 o.high] W fun e w' => e = .returned (str (fieldP o 10)) ∧ Below W.heap.size W w' := fun W => by rw [e10]; exact num_any _ _ W (by decide) SM.high
  have CP10 := Lib.hid q10
  have l10 := fieldP_len SM 10 (by decide)
  clear e10 q10
  have e11 := fieldP_num o o.assoc 11 rfl rfl
  have q11 : ∀ W, Calls Tryd.prog 20 #[str [97, 115, 115, 111, 99], .int .i64 o.assoc] W fun e w' => e = .returned (str (fieldP o 11)) ∧ Below W.heap.size W w' := fun W => by rw [e11]; exact num_any _ _ W (by decide) ⟨by omega, by omega⟩
  have CP11 := Lib.hid q11
  have l11 := fieldP_len SM 11 (by decide)
  clear e11 q11
  have HT : Hid (textTo o 12 = (wordOf o.kind).data.toList ++ [32] ++ o.handle.data.toList ++ fieldP o 0 ++ fieldP o 1 ++ fieldP o 2 ++ fieldP o 3 ++ fieldP o 4 ++ fieldP o 5 ++ fieldP o 6 ++ fieldP o 7 ++ fieldP o 8 ++ fieldP o 9 ++ fieldP o 10 ++ fieldP o 11) := Lib.hid (by simp only [textTo_succ]; rfl)
  generalize fieldP o 0 = p0 at *
  generalize fieldP o 1 = p1 at *
  generalize fieldP o 2 = p2 at *
  generalize fieldP o 3 = p3 at *
  generalize fieldP o 4 = p4 at *
  generalize fieldP o 5 = p5 at *
  generalize fieldP o 6 = p6 at *
  generalize fieldP o 7 = p7 at *
  generalize fieldP o 8 = p8 at *
  generalize fieldP o 9 = p9 at *
  generalize fieldP o 10 = p10 at *
  generalize fieldP o 11 = p11 at *
  have HTO : Hid (textOf o = ⟨(textTo o 12).toArray⟩) := Lib.hid rfl
  generalize textTo o 12 = tx at *
  generalize textOf o = tob at *
  generalize textR o = tr at *
  have CW2 : Hid (∀ W, Calls Tryd.prog 18 #[.int .u8 o.kind] W fun e w' => e = .returned (str (wordOf o.kind).data.toList) ∧ Below W.heap.size W w') := Lib.hid (fun W => CW.out W)
  clear CW h SM hr
  generalize hwd : (wordOf o.kind).data.toList = wd at *
  obtain ⟨hd, hhd⟩ : ∃ hd : Bs, o.handle.data.toList = hd := ⟨_, rfl⟩
  rw [hhd] at HT hhl
  have HH : Hid (Value.string o.handle = str hd) := Lib.hid (by rw [← hhd])
  clear hwd hhd
  have rc := MO.c; have rl := MO.lt
  have M0 := Lib.hid MO
  clear MO
  go_enter Tryd.func7, Tryd.ntmps7
  go_wp2_with (go_at_call 17; ((with_reducible refine C.out.mono ?_); rintro e w1 ⟨rfl, k1⟩; have hb1 := bThen (bAl hb _) k1; have MB := M0.out.then k1))
  clear rc rl
  refine wp_region_below (by kernel_rfl) (by kernel_rfl) ?_
  refine wpQ_field rfl _ 1 rfl w.heap.size rfl (by decide) ?_; simp only [Act.put, List.setIfInBounds_toArray, List.set_cons_zero, List.set_cons_succ]
  refine wpQ_load8 rfl _ rfl _ rfl o.kind (fun W hW => (MB.then hW).c 1) ?_; simp only [Act.put, List.setIfInBounds_toArray, List.set_cons_zero, List.set_cons_succ]
  refine wpQ_call rfl 18 #[.int .u8 o.kind] (str wd) (fun W hW => by go_simp) (fun W hW => (CW2.out W).mono fun _ _ ⟨he, hw⟩ => ⟨he, bThen hW hw⟩) ?_; simp only [Act.put, List.setIfInBounds_toArray, List.set_cons_zero, List.set_cons_succ]
  refine wpQ_add rfl _ _ rfl (wd) ([32]) rfl rfl (by first | decide | omega | (simp only [List.length_append, List.length_cons, List.length_nil]; omega)) (by first | decide | omega | (simp only [List.length_append, List.length_cons, List.length_nil]; omega)) ?_; simp only [Act.put, List.setIfInBounds_toArray, List.set_cons_zero, List.set_cons_succ]
  refine wpQ_field rfl _ 0 rfl w.heap.size rfl (by decide) ?_; simp only [Act.put, List.setIfInBounds_toArray, List.set_cons_zero, List.set_cons_succ]
  refine wpQ_loadS rfl _ rfl _ rfl o.handle (fun W hW => (MB.then hW).c 0) ?_; simp only [Act.put, List.setIfInBounds_toArray, List.set_cons_zero, List.set_cons_succ]
  rw [HH.out]
  refine wpQ_add rfl _ _ rfl (wd ++ [32]) (hd) rfl rfl (by first | decide | omega | (simp only [List.length_append, List.length_cons, List.length_nil]; omega)) (by first | decide | omega | (simp only [List.length_append, List.length_cons, List.length_nil]; omega)) ?_; simp only [Act.put, List.setIfInBounds_toArray, List.set_cons_zero, List.set_cons_succ]
  refine wpQ_field rfl _ 2 rfl w.heap.size rfl (by decide) ?_; simp only [Act.put, List.setIfInBounds_toArray, List.set_cons_zero, List.set_cons_succ]
  refine wpQ_loadS rfl _ rfl _ rfl o.parent (fun W hW => (MB.then hW).c 2) ?_; simp only [Act.put, List.setIfInBounds_toArray, List.set_cons_zero, List.set_cons_succ]
  refine wpQ_call rfl 19 #[str [112, 97, 114, 101, 110, 116], .string o.parent] (str p0) (fun W hW => by go_simp) (fun W hW => (CP0.out W).mono fun _ _ ⟨he, hw⟩ => ⟨he, hw ▸ hW⟩) ?_; simp only [Act.put, List.setIfInBounds_toArray, List.set_cons_zero, List.set_cons_succ]
  refine wpQ_add rfl _ _ rfl (wd ++ [32] ++ hd) (p0) rfl rfl (by first | decide | omega | (simp only [List.length_append, List.length_cons, List.length_nil]; omega)) (by first | decide | omega | (simp only [List.length_append, List.length_cons, List.length_nil]; omega)) ?_; simp only [Act.put, List.setIfInBounds_toArray, List.set_cons_zero, List.set_cons_succ]
  refine wpQ_field rfl _ 3 rfl w.heap.size rfl (by decide) ?_; simp only [Act.put, List.setIfInBounds_toArray, List.set_cons_zero, List.set_cons_succ]
  refine wpQ_load8 rfl _ rfl _ rfl o.typ (fun W hW => (MB.then hW).c 3) ?_; simp only [Act.put, List.setIfInBounds_toArray, List.set_cons_zero, List.set_cons_succ]
  refine wpQ_conv rfl _ rfl o.typ rfl (by omega) ?_; simp only [Act.put, List.setIfInBounds_toArray, List.set_cons_zero, List.set_cons_succ]
  refine wpQ_call rfl 20 #[str [116, 121, 112, 101], .int .i64 o.typ] (str p1) (fun W hW => by go_simp) (fun W hW => (CP1.out W).mono fun _ _ ⟨he, hw⟩ => ⟨he, bThen hW hw⟩) ?_; simp only [Act.put, List.setIfInBounds_toArray, List.set_cons_zero, List.set_cons_succ]
  refine wpQ_add rfl _ _ rfl (wd ++ [32] ++ hd ++ p0) (p1) rfl rfl (by first | decide | omega | (simp only [List.length_append, List.length_cons, List.length_nil]; omega)) (by first | decide | omega | (simp only [List.length_append, List.length_cons, List.length_nil]; omega)) ?_; simp only [Act.put, List.setIfInBounds_toArray, List.set_cons_zero, List.set_cons_succ]
  refine wpQ_field rfl _ 4 rfl w.heap.size rfl (by decide) ?_; simp only [Act.put, List.setIfInBounds_toArray, List.set_cons_zero, List.set_cons_succ]
  refine wpQ_loadS rfl _ rfl _ rfl o.ref (fun W hW => (MB.then hW).c 4) ?_; simp only [Act.put, List.setIfInBounds_toArray, List.set_cons_zero, List.set_cons_succ]
  refine wpQ_call rfl 19 #[str [114, 101, 102], .string o.ref] (str p2) (fun W hW => by go_simp) (fun W hW => (CP2.out W).mono fun _ _ ⟨he, hw⟩ => ⟨he, hw ▸ hW⟩) ?_; simp only [Act.put, List.setIfInBounds_toArray, List.set_cons_zero, List.set_cons_succ]
  refine wpQ_add rfl _ _ rfl (wd ++ [32] ++ hd ++ p0 ++ p1) (p2) rfl rfl (by first | decide | omega | (simp only [List.length_append, List.length_cons, List.length_nil]; omega)) (by first | decide | omega | (simp only [List.length_append, List.length_cons, List.length_nil]; omega)) ?_; simp only [Act.put, List.setIfInBounds_toArray, List.set_cons_zero, List.set_cons_succ]
  refine wpQ_assign rfl _ rfl (str (wd ++ [32] ++ hd ++ p0 ++ p1 ++ p2)) rfl ?_; simp only [Act.put, List.setIfInBounds_toArray, List.set_cons_zero, List.set_cons_succ]
  refine wpQuiet_nil ?_
  intro w2 hW2
  have hb2 := bThen hb1 hW2
  replace MB := MB.then hW2
  go_wp2
  refine wp_region_below (by kernel_rfl) (by kernel_rfl) ?_
  refine wpQ_move rfl _ rfl (str (wd ++ [32] ++ hd ++ p0 ++ p1 ++ p2)) rfl ?_; simp only [Act.put, List.setIfInBounds_toArray, List.set_cons_zero, List.set_cons_succ]
  refine wpQ_field rfl _ 5 rfl w.heap.size rfl (by decide) ?_; simp only [Act.put, List.setIfInBounds_toArray, List.set_cons_zero, List.set_cons_succ]
  refine wpQ_load64 rfl _ rfl _ rfl o.lo (fun W hW => (MB.then hW).c 5) ?_; simp only [Act.put, List.setIfInBounds_toArray, List.set_cons_zero, List.set_cons_succ]
  refine wpQ_call rfl 20 #[str [108, 111], .int .i64 o.lo] (str p3) (fun W hW => by go_simp) (fun W hW => (CP3.out W).mono fun _ _ ⟨he, hw⟩ => ⟨he, bThen hW hw⟩) ?_; simp only [Act.put, List.setIfInBounds_toArray, List.set_cons_zero, List.set_cons_succ]
  refine wpQ_add rfl _ _ rfl (wd ++ [32] ++ hd ++ p0 ++ p1 ++ p2) (p3) rfl rfl (by first | decide | omega | (simp only [List.length_append, List.length_cons, List.length_nil]; omega)) (by first | decide | omega | (simp only [List.length_append, List.length_cons, List.length_nil]; omega)) ?_; simp only [Act.put, List.setIfInBounds_toArray, List.set_cons_zero, List.set_cons_succ]
  refine wpQ_field rfl _ 6 rfl w.heap.size rfl (by decide) ?_; simp only [Act.put, List.setIfInBounds_toArray, List.set_cons_zero, List.set_cons_succ]
  refine wpQ_load64 rfl _ rfl _ rfl o.hi (fun W hW => (MB.then hW).c 6) ?_; simp only [Act.put, List.setIfInBounds_toArray, List.set_cons_zero, List.set_cons_succ]
  refine wpQ_call rfl 20 #[str [104, 105], .int .i64 o.hi] (str p4) (fun W hW => by go_simp) (fun W hW => (CP4.out W).mono fun _ _ ⟨he, hw⟩ => ⟨he, bThen hW hw⟩) ?_; simp only [Act.put, List.setIfInBounds_toArray, List.set_cons_zero, List.set_cons_succ]
  refine wpQ_add rfl _ _ rfl (wd ++ [32] ++ hd ++ p0 ++ p1 ++ p2 ++ p3) (p4) rfl rfl (by first | decide | omega | (simp only [List.length_append, List.length_cons, List.length_nil]; omega)) (by first | decide | omega | (simp only [List.length_append, List.length_cons, List.length_nil]; omega)) ?_; simp only [Act.put, List.setIfInBounds_toArray, List.set_cons_zero, List.set_cons_succ]
  refine wpQ_field rfl _ 7 rfl w.heap.size rfl (by decide) ?_; simp only [Act.put, List.setIfInBounds_toArray, List.set_cons_zero, List.set_cons_succ]
  refine wpQ_load8 rfl _ rfl _ rfl o.digits (fun W hW => (MB.then hW).c 7) ?_; simp only [Act.put, List.setIfInBounds_toArray, List.set_cons_zero, List.set_cons_succ]
  refine wpQ_conv rfl _ rfl o.digits rfl (by omega) ?_; simp only [Act.put, List.setIfInBounds_toArray, List.set_cons_zero, List.set_cons_succ]
  refine wpQ_call rfl 20 #[str [100, 105, 103, 105, 116, 115], .int .i64 o.digits] (str p5) (fun W hW => by go_simp) (fun W hW => (CP5.out W).mono fun _ _ ⟨he, hw⟩ => ⟨he, bThen hW hw⟩) ?_; simp only [Act.put, List.setIfInBounds_toArray, List.set_cons_zero, List.set_cons_succ]
  refine wpQ_add rfl _ _ rfl (wd ++ [32] ++ hd ++ p0 ++ p1 ++ p2 ++ p3 ++ p4) (p5) rfl rfl (by first | decide | omega | (simp only [List.length_append, List.length_cons, List.length_nil]; omega)) (by first | decide | omega | (simp only [List.length_append, List.length_cons, List.length_nil]; omega)) ?_; simp only [Act.put, List.setIfInBounds_toArray, List.set_cons_zero, List.set_cons_succ]
  refine wpQ_assign rfl _ rfl (str (wd ++ [32] ++ hd ++ p0 ++ p1 ++ p2 ++ p3 ++ p4 ++ p5)) rfl ?_; simp only [Act.put, List.setIfInBounds_toArray, List.set_cons_zero, List.set_cons_succ]
  refine wpQuiet_nil ?_
  intro w3 hW3
  have hb3 := bThen hb2 hW3
  replace MB := MB.then hW3
  go_wp2
  refine wp_region_below (by kernel_rfl) (by kernel_rfl) ?_
  refine wpQ_move rfl _ rfl (str (wd ++ [32] ++ hd ++ p0 ++ p1 ++ p2 ++ p3 ++ p4 ++ p5)) rfl ?_; simp only [Act.put, List.setIfInBounds_toArray, List.set_cons_zero, List.set_cons_succ]
  refine wpQ_field rfl _ 8 rfl w.heap.size rfl (by decide) ?_; simp only [Act.put, List.setIfInBounds_toArray, List.set_cons_zero, List.set_cons_succ]
  refine wpQ_loadB rfl _ rfl _ rfl o.on (fun W hW => (MB.then hW).c 8) ?_; simp only [Act.put, List.setIfInBounds_toArray, List.set_cons_zero, List.set_cons_succ]
  refine wpQ_call rfl 21 #[str [111, 110], .bool o.on] (str p6) (fun W hW => by go_simp) (fun W hW => (CP6.out W).mono fun _ _ ⟨he, hw⟩ => ⟨he, hw ▸ hW⟩) ?_; simp only [Act.put, List.setIfInBounds_toArray, List.set_cons_zero, List.set_cons_succ]
  refine wpQ_add rfl _ _ rfl (wd ++ [32] ++ hd ++ p0 ++ p1 ++ p2 ++ p3 ++ p4 ++ p5) (p6) rfl rfl (by first | decide | omega | (simp only [List.length_append, List.length_cons, List.length_nil]; omega)) (by first | decide | omega | (simp only [List.length_append, List.length_cons, List.length_nil]; omega)) ?_; simp only [Act.put, List.setIfInBounds_toArray, List.set_cons_zero, List.set_cons_succ]
  refine wpQ_field rfl _ 9 rfl w.heap.size rfl (by decide) ?_; simp only [Act.put, List.setIfInBounds_toArray, List.set_cons_zero, List.set_cons_succ]
  refine wpQ_loadB rfl _ rfl _ rfl o.has (fun W hW => (MB.then hW).c 9) ?_; simp only [Act.put, List.setIfInBounds_toArray, List.set_cons_zero, List.set_cons_succ]
  refine wpQ_call rfl 21 #[str [104, 97, 115], .bool o.has] (str p7) (fun W hW => by go_simp) (fun W hW => (CP7.out W).mono fun _ _ ⟨he, hw⟩ => ⟨he, hw ▸ hW⟩) ?_; simp only [Act.put, List.setIfInBounds_toArray, List.set_cons_zero, List.set_cons_succ]
  refine wpQ_add rfl _ _ rfl (wd ++ [32] ++ hd ++ p0 ++ p1 ++ p2 ++ p3 ++ p4 ++ p5 ++ p6) (p7) rfl rfl (by first | decide | omega | (simp only [List.length_append, List.length_cons, List.length_nil]; omega)) (by first | decide | omega | (simp only [List.length_append, List.length_cons, List.length_nil]; omega)) ?_; simp only [Act.put, List.setIfInBounds_toArray, List.set_cons_zero, List.set_cons_succ]
  refine wpQ_field rfl _ 10 rfl w.heap.size rfl (by decide) ?_; simp only [Act.put, List.setIfInBounds_toArray, List.set_cons_zero, List.set_cons_succ]
  refine wpQ_load64 rfl _ rfl _ rfl o.value (fun W hW => (MB.then hW).c 10) ?_; simp only [Act.put, List.setIfInBounds_toArray, List.set_cons_zero, List.set_cons_succ]
  refine wpQ_call rfl 20 #[str [118, 97, 108, 117, 101], .int .i64 o.value] (str p8) (fun W hW => by go_simp) (fun W hW => (CP8.out W).mono fun _ _ ⟨he, hw⟩ => ⟨he, bThen hW hw⟩) ?_; simp only [Act.put, List.setIfInBounds_toArray, List.set_cons_zero, List.set_cons_succ]
  refine wpQ_add rfl _ _ rfl (wd ++ [32] ++ hd ++ p0 ++ p1 ++ p2 ++ p3 ++ p4 ++ p5 ++ p6 ++ p7) (p8) rfl rfl (by first | decide | omega | (simp only [List.length_append, List.length_cons, List.length_nil]; omega)) (by first | decide | omega | (simp only [List.length_append, List.length_cons, List.length_nil]; omega)) ?_; simp only [Act.put, List.setIfInBounds_toArray, List.set_cons_zero, List.set_cons_succ]
  refine wpQ_field rfl _ 11 rfl w.heap.size rfl (by decide) ?_; simp only [Act.put, List.setIfInBounds_toArray, List.set_cons_zero, List.set_cons_succ]
  refine wpQ_load64 rfl _ rfl _ rfl o.low (fun W hW => (MB.then hW).c 11) ?_; simp only [Act.put, List.setIfInBounds_toArray, List.set_cons_zero, List.set_cons_succ]
  refine wpQ_call rfl 20 #[str [108, 111, 119], .int .i64 o.low] (str p9) (fun W hW => by go_simp) (fun W hW => (CP9.out W).mono fun _ _ ⟨he, hw⟩ => ⟨he, bThen hW hw⟩) ?_; simp only [Act.put, List.setIfInBounds_toArray, List.set_cons_zero, List.set_cons_succ]
  refine wpQ_add rfl _ _ rfl (wd ++ [32] ++ hd ++ p0 ++ p1 ++ p2 ++ p3 ++ p4 ++ p5 ++ p6 ++ p7 ++ p8) (p9) rfl rfl (by first | decide | omega | (simp only [List.length_append, List.length_cons, List.length_nil]; omega)) (by first | decide | omega | (simp only [List.length_append, List.length_cons, List.length_nil]; omega)) ?_; simp only [Act.put, List.setIfInBounds_toArray, List.set_cons_zero, List.set_cons_succ]
  refine wpQ_field rfl _ 12 rfl w.heap.size rfl (by decide) ?_; simp only [Act.put, List.setIfInBounds_toArray, List.set_cons_zero, List.set_cons_succ]
  refine wpQ_load64 rfl _ rfl _ rfl o.high (fun W hW => (MB.then hW).c 12) ?_; simp only [Act.put, List.setIfInBounds_toArray, List.set_cons_zero, List.set_cons_succ]
  refine wpQ_call rfl 20 #[str [104, 105, 103, 104], .int .i64 o.high] (str p10) (fun W hW => by go_simp) (fun W hW => (CP10.out W).mono fun _ _ ⟨he, hw⟩ => ⟨he, bThen hW hw⟩) ?_; simp only [Act.put, List.setIfInBounds_toArray, List.set_cons_zero, List.set_cons_succ]
  refine wpQ_add rfl _ _ rfl (wd ++ [32] ++ hd ++ p0 ++ p1 ++ p2 ++ p3 ++ p4 ++ p5 ++ p6 ++ p7 ++ p8 ++ p9) (p10) rfl rfl (by first | decide | omega | (simp only [List.length_append, List.length_cons, List.length_nil]; omega)) (by first | decide | omega | (simp only [List.length_append, List.length_cons, List.length_nil]; omega)) ?_; simp only [Act.put, List.setIfInBounds_toArray, List.set_cons_zero, List.set_cons_succ]
  refine wpQ_assign rfl _ rfl (str (wd ++ [32] ++ hd ++ p0 ++ p1 ++ p2 ++ p3 ++ p4 ++ p5 ++ p6 ++ p7 ++ p8 ++ p9 ++ p10)) rfl ?_; simp only [Act.put, List.setIfInBounds_toArray, List.set_cons_zero, List.set_cons_succ]
  refine wpQuiet_nil ?_
  intro w4 hW4
  have hb4 := bThen hb3 hW4
  replace MB := MB.then hW4
  have c13 := MB.c 13
  have hlx : (wd ++ [32] ++ hd ++ p0 ++ p1 ++ p2 ++ p3 ++ p4 ++ p5 ++ p6 ++ p7 ++ p8 ++ p9 ++ p10).length ≤ 20000 := by simp only [List.length_append, List.length_cons, List.length_nil]; omega
  obtain ⟨x, hx⟩ : ∃ x, x = wd ++ [32] ++ hd ++ p0 ++ p1 ++ p2 ++ p3 ++ p4 ++ p5 ++ p6 ++ p7 ++ p8 ++ p9 ++ p10 := ⟨_, rfl⟩
  rw [← hx] at hlx HT ⊢
  have HX := Lib.hid hx
  clear hx
  go_wp2_with (go_at_call 20; ((with_reducible refine (CP11.out _).mono ?_); rintro e w5 ⟨rfl, k5⟩; have hb5 := bThen hb4 k5))
  go_ret2
  exact ⟨by rw [HR.out, HTO.out, HT.out, ← bytes_add]; rfl, hb5⟩
theorem rtext_any2 {o : Ob} {w : World} (h : Meets o w) (SM : Small o) : Calls Tryd.prog 7 #[ob o] w fun e w' => e = .returned (textR o) ∧ Below w.heap.size w w' := by
  by_cases hr : faultP o true = 0
  · exact rtext_ok h SM hr
  · exact rtext_bad h hr
end Go.Proofs.YtonhijonnonmbaaDoor
namespace Go.Proofs.YtonhijonnonmbaaDoor
open Go.RowKit FixMath
set_option maxRecDepth 100000
set_option linter.unusedVariables false
set_option linter.unusedSimpArgs false

def pathC : List Nat → Code → Code
  | 0 :: l, .seq a _ => pathC l a
  | 1 :: l, .seq _ b => pathC l b
  | 2 :: l, .block _ c => pathC l c
  | 3 :: l, .loop c => pathC l c
  | _, c => c
noncomputable def region20 : Code := match Tryd.f9.body with | some c => pathC [1, 1, 1, 1, 1, 1, 1, 0, 1, 2, 3, 1, 0, 2, 1, 1, 1, 0] c | none => .skip
set_option maxHeartbeats 8000000 in
theorem put_region {o : Ob} {p : ByteArray} {a n b off len c H6 : Nat} {wo : World} {v0 v1 v2 v3 v4 v7 v10 v11 v12 v13 v14 v15 v16 v17 v18 v19 v20 v21 v22 v23 v24 v25 v26 v27 v28 v29 v30 v31 v32 v33 v34 v35 v36 v37 v38 v39 v40 v41 v42 v43 v44 v45 v46 v47 v48 v49 v50 v51 v52 v53 v54 v55 v56 v57 v58 v59 v60 v61 v62 v63 v64 v65 v66 v67 v68 v69 v70 v71 v72 v73 v74 v75 v76 v77 v78 v79 v80 v81 v82 v83 v84 v85 v86 v87 v88 v89 v90 v91 v92 v93 v94 v95 v96 v97 v98 v99 v100 v101 v102 v103 v104 v105 v106 : Value} {Q : Exit → Act → World → Prop} (hn : n < len) (hl : len ≤ 501) (ha : a < p.size) (hp : p.size ≤ 500) (hcap : len ≤ c)
    (hP : ∀ W', Below wo.heap.size wo W' → (W'.cell? ⟨b, off + n, none⟩ = some (.string p) ∧ (∀ i, W'.cell? ⟨H6, i, none⟩ = (obCells o)[i]?)))
    (hQ : ∀ (B : Nat) (W' : World) (x : Ob) (bb : Bool) (u71 u72 u73 u74 u75 u76 u77 u78 u79 u80 u81 u82 u83 u84 u85 u86 u87 u88 : Value), Below wo.heap.size wo W' → AtC W' B (obCells x) → wo.heap.size ≤ B → PutRel o (p.extract 0 a) (p.extract (a + 1) p.size) x bb → Q .normal { tmps := #[v0, v1, v2, v3, v4, .slice (some ⟨b, off, none⟩) len c, .pointer (some ⟨H6, 0, none⟩), v7, .int .i64 n, .int .i64 a, .pointer (some ⟨B, 0, none⟩), .bool bb, v12, v13, v14, v15, v16, v17, v18, v19, v20, v21, v22, v23, v24, v25, v26, v27, v28, v29, v30, v31, v32, v33, v34, v35, v36, v37, v38, v39, v40, v41, v42, v43, v44, v45, v46, v47, v48, v49, v50, v51, v52, v53, v54, v55, v56, v57, v58, v59, v60, v61, v62, v63, v64, v65, v66, v67, v68, v69, v70, u71, u72, u73, u74, u75, u76, u77, u78, u79, u80, u81, u82, u83, u84, u85, u86, u87, u88, v89, v90, v91, v92, v93, v94, v95, v96, v97, v98, v99, v100, v101, v102, v103, v104, v105, v106], defers := [] } W') :
    Code.wp Tryd.prog region20 Q { tmps := #[v0, v1, v2, v3, v4, .slice (some ⟨b, off, none⟩) len c, .pointer (some ⟨H6, 0, none⟩), v7, .int .i64 n, .int .i64 a, v10, v11, v12, v13, v14, v15, v16, v17, v18, v19, v20, v21, v22, v23, v24, v25, v26, v27, v28, v29, v30, v31, v32, v33, v34, v35, v36, v37, v38, v39, v40, v41, v42, v43, v44, v45, v46, v47, v48, v49, v50, v51, v52, v53, v54, v55, v56, v57, v58, v59, v60, v61, v62, v63, v64, v65, v66, v67, v68, v69, v70, v71, v72, v73, v74, v75, v76, v77, v78, v79, v80, v81, v82, v83, v84, v85, v86, v87, v88, v89, v90, v91, v92, v93, v94, v95, v96, v97, v98, v99, v100, v101, v102, v103, v104, v105, v106], defers := [] } wo := by
  have HQ := Lib.hid hQ
  clear hQ
  have e1 : IntKind.i64.wrap ((a : Int) + 1) = (a : Int) + 1 := IntWalk.i64_in _ (by omega)
  have j0 : (0 : Int) ≤ a := by omega
  have j1 : (a : Int) ≤ p.size := by omega
  have j2 : (a : Int) + 1 ≤ p.size := by omega
  have j3 : (0 : Int) ≤ (a : Int) + 1 := by omega
  have j4 : ((a : Int) + 1).toNat = a + 1 := by omega
  have j5 : a + 1 ≤ p.size := by omega
  have i0 : (0 : Int) ≤ n := by omega
  have i1 : (n : Int) < len := by omega
  have z1 : (p.extract (a + 1) p.size).size ≤ 1000 := by rw [ByteArray.size_extract]; omega
  have CPU := Lib.hid (fun W' => put_any o (p.extract 0 a) (p.extract (a + 1) p.size) W' z1)
  have hS : ∀ W', Below wo.heap.size wo W' → ((W'.cell? ⟨b, off + n, none⟩ = some (.string p) ∧ (∀ i, W'.cell? ⟨H6, i, none⟩ = (obCells o)[i]?)) ∧ Below wo.heap.size wo W') := fun W' k => ⟨hP W' k, k⟩
  clear hP
  conv => arg 2; simp only [region20, Tryd.f9, pathC]
  go_wp2_with fail
  go_region_held3 (fun W' => (W'.cell? ⟨b, off + n, none⟩ = some (.string p) ∧ (∀ i, W'.cell? ⟨H6, i, none⟩ = (obCells o)[i]?)) ∧ Below wo.heap.size wo W')
    (first | with_reducible exact hS _ (bFill (And.right ‹_ ∧ Below wo.heap.size wo w3›) (Nat.le_refl _) _ _ _ _ _ _ _ _ _ _ _ _ _ _) | with_reducible exact hS _ (Below.refl _ _).drew | with_reducible exact hS _ (keepD (by assumption) k3) | with_reducible exact hS _ (bAl (Below.refl _ _).drew _) | with_reducible exact hS _ (bAl (Below.refl _ _) _).drew | with_reducible exact hS _ (bAl (bThen (Below.refl _ _).drew k3) _))
    ((go_at_call 24; (with_reducible refine (CPU.out _).mono ?_); rintro e w3 ⟨x, bb, rfl, hpr, k3⟩; first | (with_reducible have mT := (AtC.new _ _ _).drew1.then k3; have tf := mT.f; have tl := mT.lt; have tc := mT.c) | skip))
  · rename_i hH
    have hs3 : wo.heap.size ≤ w3.heap.size := by have q := k3.size; simpa using q
    exact HQ.out w3.heap.size _ x bb _ _ _ _ _ _ _ _ _ _ _ _ _ _ _ _ _ _ hH.2 (AtC.new w3 (obCells x) 23) hs3 hpr
  · rename_i hH
    exact HQ.out wo.heap.size _ x bb _ _ _ _ _ _ _ _ _ _ _ _ _ _ _ _ _ _ hH.2 (AtC.fill mT rfl _ _ _ _ _ _ _ _ _ _ _ _ _ _) (Nat.le_refl _) hpr
end Go.Proofs.YtonhijonnonmbaaDoor
namespace Go.Proofs.YtonhijonnonmbaaDoor
open Go.RowKit FixMath
set_option maxRecDepth 100000
set_option linter.unusedVariables false
set_option linter.unusedSimpArgs false

/-- What lies in memory while the text is read: the result's cell, the empty object, the object that is read, the row of pieces. -/
structure PS (w0 W : World) (H0 H6 b off : Nat) (ws : List Bs) (oc : Ob) : Prop where
  bel : Below w0.heap.size w0 W
  r : AtC W H0 ob0
  n : AtC W (H0 + 1) ob0
  o : AtC W H6 (obCells oc)
  row : ∀ j x, ws[j]? = some x → W.cell? ⟨b, off + j, none⟩ = some (str x)
  bl : b < W.heap.size
  h0 : w0.heap.size ≤ H0
  h6 : w0.heap.size ≤ H6
  ne : H0 ≠ H6 ∧ H0 + 1 ≠ H6 ∧ b ≠ H6
theorem PS.then {w0 W W1 : World} {H0 H6 b off : Nat} {ws : List Bs} {oc : Ob} (h : PS w0 W H0 H6 b off ws oc) (k : Below W.heap.size W W1) : PS w0 W1 H0 H6 b off ws oc :=
  ⟨bThen h.bel k, h.r.then k, h.n.then k, h.o.then k, fun j x hx => (k.cell (p := ⟨b, off + j, none⟩) h.bl).trans (h.row j x hx), Nat.lt_of_lt_of_le h.bl k.size, h.h0, h.h6, h.ne⟩
theorem PS.set {w0 W : World} {H0 H6 b off : Nat} {ws : List Bs} {oc oc' : Ob} (h : PS w0 W H0 H6 b off ws oc) (i : Nat) (hi : i < 14) (v : Value) (e : (obCells oc).setIfInBounds i v = obCells oc') : PS w0 (W.setCell ⟨H6, i, none⟩ v) H0 H6 b off ws oc' := by
  refine ⟨h.bel.setCell h.h6 v, h.r.store (fun q => h.ne.1 q.symm) v, h.n.store (fun q => h.ne.2.1 q.symm) v, by rw [← e]; exact h.o.set hi v, fun j x hx => ?_, by simpa [World.setCell] using h.bl, h.h0, h.h6, h.ne⟩
  rw [World.cell?_setCell_other _ _ _ _ (fun q => h.ne.2.2 (by injection q with q1; exact q1.symm))]
  exact h.row j x hx
theorem PS.far {w0 W : World} {H0 H6 b off : Nat} {ws : List Bs} {oc : Ob} (h : PS w0 W H0 H6 b off ws oc) {p : Addr} (h1 : p.block ≠ H0) (h2 : p.block ≠ H0 + 1) (h3 : p.block ≠ H6) (h4 : p.block ≠ b) (h5 : w0.heap.size ≤ p.block) (v : Value) : PS w0 (W.setCell p v) H0 H6 b off ws oc := by
  refine ⟨h.bel.setCell h5 v, h.r.store h1 v, h.n.store h2 v, h.o.store h3 v, fun j x hx => ?_, by simpa [World.setCell] using h.bl, h.h0, h.h6, h.ne⟩
  rw [World.cell?_setCell_other _ _ _ _ (fun q => h4 (by rw [q]))]
  exact h.row j x hx
theorem PS.fill {w0 W : World} {H0 H6 b off : Nat} {ws : List Bs} {oc : Ob} (h : PS w0 W H0 H6 b off ws oc) (x : Ob) : PS w0 ((((((((((((((W.setCell ⟨H6, 0, none⟩ (.string x.handle)).setCell ⟨H6, 1, none⟩ (.int .u8 x.kind)).setCell ⟨H6, 2, none⟩ (.string x.parent)).setCell ⟨H6, 3, none⟩ (.int .u8 x.typ)).setCell ⟨H6, 4, none⟩ (.string x.ref)).setCell ⟨H6, 5, none⟩ (.int .i64 x.lo)).setCell ⟨H6, 6, none⟩ (.int .i64 x.hi)).setCell ⟨H6, 7, none⟩ (.int .u8 x.digits)).setCell ⟨H6, 8, none⟩ (.bool x.on)).setCell ⟨H6, 9, none⟩ (.bool x.has)).setCell ⟨H6, 10, none⟩ (.int .i64 x.value)).setCell ⟨H6, 11, none⟩ (.int .i64 x.low)).setCell ⟨H6, 12, none⟩ (.int .i64 x.high)).setCell ⟨H6, 13, none⟩ (.int .u8 x.assoc)) H0 H6 b off ws x :=
  ((((((((((((((h.set (oc' := { oc with handle := x.handle }) 0 (by decide) (.string x.handle) rfl).set (oc' := { oc with handle := x.handle, kind := x.kind }) 1 (by decide) (.int .u8 x.kind) rfl).set (oc' := { oc with handle := x.handle, kind := x.kind, parent := x.parent }) 2 (by decide) (.string x.parent) rfl).set (oc' := { oc with handle := x.handle, kind := x.kind, parent := x.parent, typ := x.typ }) 3 (by decide) (.int .u8 x.typ) rfl).set (oc' := { oc with handle := x.handle, kind := x.kind, parent := x.parent, typ := x.typ, ref := x.ref }) 4 (by decide) (.string x.ref) rfl).set (oc' := { oc with handle := x.handle, kind := x.kind, parent := x.parent, typ := x.typ, ref := x.ref, lo := x.lo }) 5 (by decide) (.int .i64 x.lo) rfl).set (oc' := { oc with handle := x.handle, kind := x.kind, parent := x.parent, typ := x.typ, ref := x.ref, lo := x.lo, hi := x.hi }) 6 (by decide) (.int .i64 x.hi) rfl).set (oc' := { oc with handle := x.handle, kind := x.kind, parent := x.parent, typ := x.typ, ref := x.ref, lo := x.lo, hi := x.hi, digits := x.digits }) 7 (by decide) (.int .u8 x.digits) rfl).set (oc' := { oc with handle := x.handle, kind := x.kind, parent := x.parent, typ := x.typ, ref := x.ref, lo := x.lo, hi := x.hi, digits := x.digits, on := x.on }) 8 (by decide) (.bool x.on) rfl).set (oc' := { oc with handle := x.handle, kind := x.kind, parent := x.parent, typ := x.typ, ref := x.ref, lo := x.lo, hi := x.hi, digits := x.digits, on := x.on, has := x.has }) 9 (by decide) (.bool x.has) rfl).set (oc' := { oc with handle := x.handle, kind := x.kind, parent := x.parent, typ := x.typ, ref := x.ref, lo := x.lo, hi := x.hi, digits := x.digits, on := x.on, has := x.has, value := x.value }) 10 (by decide) (.int .i64 x.value) rfl).set (oc' := { oc with handle := x.handle, kind := x.kind, parent := x.parent, typ := x.typ, ref := x.ref, lo := x.lo, hi := x.hi, digits := x.digits, on := x.on, has := x.has, value := x.value, low := x.low }) 11 (by decide) (.int .i64 x.low) rfl).set (oc' := { oc with handle := x.handle, kind := x.kind, parent := x.parent, typ := x.typ, ref := x.ref, lo := x.lo, hi := x.hi, digits := x.digits, on := x.on, has := x.has, value := x.value, low := x.low, high := x.high }) 12 (by decide) (.int .i64 x.high) rfl).set (oc' := x) 13 (by decide) (.int .u8 x.assoc) rfl)
theorem ex_slice1 {p : ByteArray} {k : Nat} : (p.extract 0 k).data.toList = p.data.toList.take k := by
  rw [Lib.extract_eq]; simp
theorem ex_slice2 {p : ByteArray} {k : Nat} : (p.extract k p.size).data.toList = p.data.toList.drop k := by
  rw [Lib.extract_eq]
  show List.take (p.size - k) (p.data.toList.drop k) = _
  exact List.take_of_length_le (by rw [List.length_drop]; exact Nat.le_refl _)
theorem take_next61 {p : ByteArray} {a : Nat} (h : (61 : UInt8) ∉ p.data.toList.take a) (ha : a < p.size) (h61 : ¬ (p[a].toNat : Int) = 61) : (61 : UInt8) ∉ p.data.toList.take (a + 1) := by
  have hl : a < p.data.toList.length := ha
  rw [List.take_succ_eq_append_getElem hl]
  intro hm
  rcases List.mem_append.1 hm with q | q
  · exact h q
  · have e : p[a] = 61 := (List.mem_singleton.1 q).symm
    rw [e] at h61
    exact h61 rfl
theorem strs_off {t s : ByteArray} (h : ¬ t = s) : (t.toList == s.toList) = false := strs_ne h
set_option maxHeartbeats 8000000 in
theorem rparse_any (s : ByteArray) (w : World) (hs : s.size ≤ 500) (ht : Tabs w) : Calls Tryd.prog 9 #[.string s] w fun e w' => e = .returned (parseR s) ∧ Below w.heap.size w w' := by
  have hb := bAl (bAl (Below.refl w.heap.size w) (.cells ob0 23)) (.cells ob0 23)
  have CS := Lib.hid (fun W => HL.split_any s 32 W (by omega))
  have MR := Lib.hid ((AtC.new w ob0 23).al (.cells ob0 23))
  have MN := Lib.hid (AtC.newAt (w := w.alloc (.cells ob0 23)) (B := w.heap.size + 1) (C := ob0) (T := 23) (by simp))
  have HB := Lib.hid hb
  have HT := Lib.hid ht
  clear hb ht
  go_enter Tryd.func9, Tryd.ntmps9
  go_wp2_with (go_at_call 23; ((with_reducible refine (CS.out _).mono ?_); rintro e w1 ⟨v, rfl, ow, k1⟩; obtain ⟨A, c, rfl, st, _, hcap⟩ := HL.OwnS.form ow; have hW1 : Below w.heap.size w w1 := bThen HB.out k1; have M0 : AtC w1 w.heap.size ob0 := MR.out.then k1; have M1 : AtC w1 (w.heap.size + 1) ob0 := MN.out.then k1; have BW := Lib.hid hW1; have HM0 := Lib.hid M0; have HM1 := Lib.hid M1; have hl0 := M1.lt; have ST := Lib.hid st; clear ow k1 st hW1 M0 M1 CS MR MN HB))
  have hne : HL.splitL s 32 ≠ [] := by simp [HL.splitL]
  obtain ⟨b, off, rfl, hbl, hrow⟩ := ST.out.at_ (List.length_pos_iff.2 hne)
  have hsl : ∀ x ∈ HL.splitL s 32, x.length ≤ 500 := fun x hx => Nat.le_trans (TS.split_len s 32 x hx) hs
  have hwl : (HL.splitL s 32).length ≤ 501 := Nat.le_trans (HL.splitL_le s 32) (by omega)
  have HSL := Lib.hid hsl
  have HEX := Lib.hid (fun (q : Nat) (x0 x1 : Bs) (r : List Bs) (hw : HL.splitL s 32 = x0 :: x1 :: r) hq => ex_start (s := s) (q := q) hw hq)
  have HSH := Lib.hid (ex_short (s := s))
  have PS0 : Hid (PS w (w1.alloc (.cells ob0 23)) w.heap.size w1.heap.size b off (HL.splitL s 32) zeroOb) := Lib.hid
    ⟨bAl BW.out _, HM0.out.al _, HM1.out.al _, AtC.new w1 _ _, fun j x hx => by
      rw [(bAl (Below.refl w1.heap.size w1) (.cells ob0 23)).cell (p := ⟨b, off + j, none⟩) hbl]; exact hrow j x hx, by simp; omega, Nat.le_refl _, BW.out.size, ⟨by omega, by omega, by omega⟩⟩
  clear HM0 HM1 hrow ST hsl
  generalize HL.splitL s 32 = ws at *
  have hw0 : 0 < ws.length := List.length_pos_iff.2 hne
  obtain ⟨x0, hx0⟩ : ∃ x0, ws[0]? = some x0 := ⟨ws[0], List.getElem?_eq_getElem hw0⟩
  have X0 := Lib.hid hx0
  clear hx0
  have hz1 : w1.heap.size < (w1.alloc (.cells ob0 23)).heap.size := by simp
  generalize w1.heap.size = H6 at *
  have CWw := Lib.hid (fun (k : Nat) (hk : k ≤ 255) W => refWord_any k W hk)
  go_loopw [7] (fun i wr => ∃ k q : Nat, i = .int .u8 k ∧ 1 ≤ k ∧ k ≤ 10 ∧ KQ x0 k q ∧ PS w wr w.heap.size H6 b off ws { zeroOb with kind := q }) (fun i _ => 10 - (intOf i).toNat)
  case atStart => exact ⟨1, 0, rfl, Nat.le_refl _, by omega, ⟨by omega, fun r h1 h2 => by omega⟩, PS0.out⟩
  case round =>
    obtain ⟨k, q, rfl, hk1, hk10, hkq, hps⟩ := hrel
    have HKQ := Lib.hid hkq
    have HPS := Lib.hid hps
    clear hkq hps PS0
    by_cases h9 : k ≤ 9
    · have CW : Hid (∀ W, Calls Tryd.prog 18 #[.int .u8 k] W fun e w' => e = .returned (str (wordOf k).data.toList) ∧ Below W.heap.size W w') := Lib.hid (fun W => CWw.out k (by omega) W)
      have hem := tword_some k hk1 h9
      have hlen := word_len k
      have HIT := Lib.hid (fun e => HKQ.out.hit hk1 h9 e)
      have MISS := Lib.hid (fun e => HKQ.out.miss (k := k) e)
      generalize (wordOf k).data.toList = wk at *
      go_wp2_with (go_at_call 18; ((with_reducible refine (CW.out _).mono ?_); rintro e w2 ⟨rfl, k2⟩; have HP2 := Lib.hid (HPS.out.then k2); clear k2))
      refine wp_region_below (by kernel_rfl) (by kernel_rfl) ?_
      refine wpQ_move rfl _ rfl (.int .u8 k) rfl ?_; simp only [Act.put, List.setIfInBounds_toArray, List.set_cons_zero, List.set_cons_succ]
      refine wpQ_call rfl 18 #[.int .u8 k] (str wk) (fun W hW => by go_simp) (fun W hW => (CW.out W).mono fun _ _ ⟨he, hw⟩ => ⟨he, bThen hW hw⟩) ?_; simp only [Act.put, List.setIfInBounds_toArray, List.set_cons_zero, List.set_cons_succ]
      refine wpQ_move rfl _ rfl (.slice (some ⟨b, off, none⟩) ws.length c) rfl ?_; simp only [Act.put, List.setIfInBounds_toArray, List.set_cons_zero, List.set_cons_succ]
      refine wpQ_val rfl (.pointer (some ⟨b, off, none⟩)) (fun W hW => by unfold execOp; go_simp) ?_; simp only [Act.put, List.setIfInBounds_toArray, List.set_cons_zero, List.set_cons_succ]
      refine wpQ_loadS rfl _ rfl ⟨b, off, none⟩ rfl ⟨x0.toArray⟩ (fun W hW => (HP2.out.then hW).row 0 x0 X0.out) ?_; simp only [Act.put, List.setIfInBounds_toArray, List.set_cons_zero, List.set_cons_succ]
      refine wpQ_val rfl (.bool (wk == x0)) (fun W hW => by unfold execOp; go_simp) ?_; simp only [Act.put, List.setIfInBounds_toArray, List.set_cons_zero, List.set_cons_succ]
      refine wpQuiet_nil ?_
      intro w3 hW3
      have HP3 := Lib.hid (HP2.out.then hW3)
      clear HP2 HPS hW3
      by_cases hx : wk = x0
      · have hx2 : (wk == x0) = true := by rw [hx]; simp
        rw [hx2]
        have HK2 := Lib.hid (HIT.out hx)
        clear hx HIT MISS hx2
        have oc := HP3.out.o.c
        have ol := HP3.out.o.lt
        have off_ := HP3.out.o.f
        go_wp2
        go_roundw
        case rel => exact ⟨k + 1, k, by go_num, by omega, by omega, HK2.out, HP3.out.set 1 (by decide) _ rfl⟩
        case measure => simp [intOf]; omega
      · have hx2 : (wk == x0) = false := by simpa using hx
        rw [hx2]
        have HK2 := Lib.hid (MISS.out hx)
        clear hx HIT MISS hx2
        go_wp2
        go_roundw
        case rel => exact ⟨k + 1, q, by go_num, by omega, by omega, HK2.out, HP3.out⟩
        case measure => simp [intOf]; omega
    · obtain rfl : k = 10 := by omega
      have CW : Hid (∀ W, Calls Tryd.prog 18 #[.int .u8 10] W fun e w' => e = .returned (str []) ∧ Below W.heap.size W w') := Lib.hid (fun W => CWw.out 10 (by omega) W)
      by_cases h2 : ws.length < 2
      · have i2 : (ws.length : Int) < 2 := by omega
        have HV := Lib.hid (parse_none (HSH.out h2))
        go_upto_region 9 with (go_at_call 18; ((with_reducible refine (CW.out _).mono ?_); rintro e w2 ⟨rfl, k2⟩; have HP2 := Lib.hid (HPS.out.then k2); clear k2))
        have mN := HP2.out.n
        have mR := HP2.out.r
        have nc := mN.c
        have nl := mN.lt
        have rf := mR.f
        have rl := mR.lt
        have rc := mR.c
        clear mN mR
        go_wp2
        exact ret_ob_tmp rfl rfl rfl rfl (AtC.fill HP2.out.r rfl _ _ _ _ _ _ _ _ _ _ _ _ _ _) ⟨by rw [HV.out]; first | done | rfl, bFill HP2.out.bel HP2.out.h0 _ _ _ _ _ _ _ _ _ _ _ _ _ _⟩
      · have i2 : ¬ (ws.length : Int) < 2 := by omega
        obtain ⟨x0', x1, r, hw⟩ : ∃ x0' x1 r, ws = x0' :: x1 :: r := by
          match ws, h2 with
          | x0' :: x1 :: r, _ => exact ⟨x0', x1, r, rfl⟩
          | [], h2 => simp at h2
          | [_], h2 => simp at h2
        have hx1 : ws[1]? = some x1 := by rw [hw]; rfl
        have e0 : x0' = x0 := by have q := X0.out; rw [hw] at q; simpa using q
        have HE := Lib.hid (HEX.out q x0' x1 r hw (fun j h1 h9' e => HKQ.out.2 j h1 (by omega) (e.trans e0)))
        have hl1 : x1.length ≤ 500 := HSL.out x1 (by rw [hw]; simp)
        have hq9 : q ≤ 9 := HKQ.out.1
        have HG : Hid (Good { zeroOb with kind := q, handle := ⟨x1.toArray⟩ }) := Lib.hid (by
          have g := good_zero
          exact ⟨by show q ≤ 255; omega, by show x1.length ≤ 1000; omega, g.parent, g.ref, g.lo, g.hi, g.value, g.low, g.high, g.typ, g.digits, g.assoc⟩)
        have X1 := Lib.hid hx1
        clear hw hx1 e0 HEX HSH
        go_upto_region 9 with (go_at_call 18; ((with_reducible refine (CW.out _).mono ?_); rintro e w2 ⟨rfl, k2⟩; have HP2 := Lib.hid (HPS.out.then k2); clear k2))
        have oc := HP2.out.o.c
        have ol := HP2.out.o.lt
        have of0 := HP2.out.o.f
        have row1 := HP2.out.row 1 x1 X1.out
        have i1 : (1 : Int) < ws.length := by omega
        go_upto_region 12 with (fail)
        have HP : Hid (PS w (w2.setCell ⟨H6, 0, none⟩ (.string ⟨x1.toArray⟩)) w.heap.size H6 b off ws { zeroOb with kind := q, handle := ⟨x1.toArray⟩ }) := Lib.hid (HP2.out.set 0 (by decide) _ rfl)
        go_wp2
        go_loopw [8] (fun i wr => ∃ (n : Nat) (o : Ob), i = .int .i64 n ∧ 2 ≤ n ∧ n ≤ ws.length ∧ EX s ws n o ∧ Good o ∧ PS w wr w.heap.size H6 b off ws o) (fun i _ => ws.length - (intOf i).toNat)
        case atStart => exact ⟨2, _, rfl, by omega, by omega, HE.out, HG.out, HP.out⟩
        case round =>
          obtain ⟨n, o, rfl, hn2, hnl, hex, hgo, hps⟩ := hrel
          clear HE HG HP
          have HE := Lib.hid hex
          have HG := Lib.hid hgo
          have HP := Lib.hid hps
          clear hex hgo hps
          obtain ⟨wo, rfl⟩ : ∃ wo : World, wo = wr := ⟨_, rfl⟩
          by_cases hlt : n < ws.length
          · obtain ⟨p, hp⟩ : ∃ p : ByteArray, ws[n] = p.data.toList := ⟨⟨ws[n].toArray⟩, rfl⟩
            have hrow : wo.cell? ⟨b, off + n, none⟩ = some (.string p) := HP.out.row n _ (by rw [List.getElem?_eq_getElem hlt, hp])
            have hpl : p.size ≤ 500 := by
              have q := HSL.out _ (List.getElem_mem hlt)
              rw [hp] at q; exact q
            have i0 : (0 : Int) ≤ n := by omega
            have i1 : (n : Int) < ws.length := by omega
            have HPN := Lib.hid hp
            clear hp
            go_wp2
            go_loop [9] (fun i => ∃ a : Nat, a ≤ p.size ∧ i = .int .i64 a ∧ Hid ((61 : UInt8) ∉ p.data.toList.take a)) (fun i => p.size - (intOf i).toNat)
            case atStart => exact ⟨0, Nat.zero_le _, rfl, Lib.hid (by simp)⟩
            case round =>
              obtain ⟨a, ha, rfl, H61⟩ := hrel
              by_cases halt : a < p.size
              · have hc := p[a].toNat_lt
                by_cases h61 : (p[a].toNat : Int) = 61
                · have hne : ¬ (a : Int) = p.size := by omega
                  have hP : ∀ W', Below wo.heap.size wo W' → (W'.cell? ⟨b, off + n, none⟩ = some (.string p) ∧ (∀ i, W'.cell? ⟨H6, i, none⟩ = (obCells o)[i]?)) := fun W' k => ⟨(HP.out.then k).row n _ (by rw [List.getElem?_eq_getElem hlt, HPN.out]), (HP.out.then k).o.c⟩
                  have hk : a < ws[n].length := by rw [HPN.out]; exact halt
                  have h6 : ws[n][a] = 61 := by
                    have e : ws[n][a]? = some p[a] := by rw [HPN.out]; exact List.getElem?_eq_getElem (l := p.data.toList) halt
                    rw [List.getElem?_eq_getElem hk] at e
                    rw [Option.some.inj e]
                    exact UInt8.toNat_inj.1 (by show p[a].toNat = 61; omega)
                  have HST := Lib.hid (fun (x : Ob) (bb : Bool) hr => ex_step (x := x) (b := bb) (nm := p.extract 0 a) (vl := p.extract (a + 1) p.size) HE.out hlt hk h6 (by rw [HPN.out]; exact H61.out) (by rw [HPN.out]; exact ex_slice1) (by rw [HPN.out]; exact ex_slice2) hr)
                  have HPP := Lib.hid hP
                  clear hk h6 hP
                  go_upto_region 20 with (fail)
                  refine put_region hlt hwl halt hpl hcap HPP.out ?_
                  intro B W' x bb u71 u72 u73 u74 u75 u76 u77 u78 u79 u80 u81 u82 u83 u84 u85 u86 u87 u88 hB mX hBs hpr
                  have HP2 := Lib.hid (HP.out.then hB)
                  have HR := Lib.hid hpr
                  clear hB hBs hpr hrow
                  cases bb with
                  | false =>
                    have HV := Lib.hid (parse_none ((HST.out x false HR.out).2 rfl))
                    clear mX
                    have mN := HP2.out.n
                    have mR := HP2.out.r
                    have nc := mN.c
                    have nl := mN.lt
                    have rf := mR.f
                    have rl := mR.lt
                    have rc := mR.c
                    clear mN mR
                    go_wp2
                    exact ret_ob_tmp rfl rfl rfl rfl (AtC.fill HP2.out.r rfl _ _ _ _ _ _ _ _ _ _ _ _ _ _) ⟨by rw [HV.out]; first | done | rfl, bFill HP2.out.bel HP2.out.h0 _ _ _ _ _ _ _ _ _ _ _ _ _ _⟩
                  | true =>
                    have xc := mX.c
                    have xl := mX.lt
                    have oc := HP2.out.o.c
                    have ol := HP2.out.o.lt
                    have of0 := HP2.out.o.f
                    go_wp2
                    go_roundw
                    case rel => exact ⟨n + 1, x, by go_num, by omega, by omega, (HST.out x true HR.out).1, HR.out.1 HG.out, PS.fill HP2.out x⟩
                    case measure => simp [intOf]; omega
                · have HN := Lib.hid (take_next61 H61.out halt h61)
                  go_wp2
                  go_round
                  case rel => exact ⟨a + 1, by omega, by go_num, HN⟩
                  case measure => simp [intOf]; omega
              · obtain rfl : a = p.size := by omega
                clear halt
                have HV := Lib.hid (parse_none (ex_no61 HE.out hlt (by rw [HPN.out]; have q := H61.out; rw [List.take_of_length_le (show p.data.toList.length ≤ p.size from Nat.le_refl _)] at q; exact q)))
                have mN := HP.out.n
                have mR := HP.out.r
                have nc := mN.c
                have nl := mN.lt
                have rf := mR.f
                have rl := mR.lt
                have rc := mR.c
                clear mN mR
                go_wp2
                exact ret_ob_tmp rfl rfl rfl rfl (AtC.fill HP.out.r rfl _ _ _ _ _ _ _ _ _ _ _ _ _ _) ⟨by rw [HV.out]; first | done | rfl, bFill HP.out.bel HP.out.h0 _ _ _ _ _ _ _ _ _ _ _ _ _ _⟩
          · obtain rfl : n = ws.length := by omega
            have hend := ex_end HE.out
            have CT := Lib.hid (fun W' (k : Below wo.heap.size wo W') => rtext_any2 (HG.out.meets (HT.out.then (bThen HP.out.bel k))) HG.out.small)
            by_cases hr : faultP o true = 0
            · rw [textR_ok hr] at CT
              by_cases hts : textOf o = s
              · have HV := Lib.hid (parse_some (s := s) ⟨hr, hts⟩)
                rw [hts] at CT
                have oc := HP.out.o.c
                have ol := HP.out.o.lt
                clear hr hts hend
                go_wp2_with (go_at_call 7; ((with_reducible refine (CT.out _ (Below.refl _ _)).mono ?_); rintro e w2 ⟨rfl, k2⟩; have HP2 := Lib.hid (HP.out.then k2); clear k2 oc ol; have oc := HP2.out.o.c; have ol := HP2.out.o.lt; have mR := HP2.out.r; have rf := mR.f; have rl := mR.lt; have rc := mR.c; clear mR))
                exact ret_ob_tmp rfl rfl rfl rfl (AtC.fill HP2.out.r rfl _ _ _ _ _ _ _ _ _ _ _ _ _ _) ⟨by rw [HV.out]; first | done | rfl, bFill HP2.out.bel HP2.out.h0 _ _ _ _ _ _ _ _ _ _ _ _ _ _⟩
              · have HV := Lib.hid (parse_none (s := s) (fun R hR => hts (by rw [hend R hR]; exact hR.2)))
                have q := strs_off hts
                generalize textOf o = t at *
                have oc := HP.out.o.c
                have ol := HP.out.o.lt
                clear hr hts hend
                go_upto_region 25 with (go_at_call 7; ((with_reducible refine (CT.out _ (Below.refl _ _)).mono ?_); rintro e w2 ⟨rfl, k2⟩; have HP2 := Lib.hid (HP.out.then k2); clear k2 oc ol))
                have mN := HP2.out.n
                have mR := HP2.out.r
                have nc := mN.c
                have nl := mN.lt
                have rf := mR.f
                have rl := mR.lt
                have rc := mR.c
                clear mN mR
                go_wp2
                exact ret_ob_tmp rfl rfl rfl rfl (AtC.fill HP2.out.r rfl _ _ _ _ _ _ _ _ _ _ _ _ _ _) ⟨by rw [HV.out]; first | done | rfl, bFill HP2.out.bel HP2.out.h0 _ _ _ _ _ _ _ _ _ _ _ _ _ _⟩
            · have HV := Lib.hid (parse_none (s := s) (fun R hR => hr (by rw [hend R hR]; exact hR.1)))
              rw [textR_bad hr] at CT
              generalize faultP o true = t at *
              have oc := HP.out.o.c
              have ol := HP.out.o.lt
              clear hend
              go_upto_region 25 with (go_at_call 7; ((with_reducible refine (CT.out _ (Below.refl _ _)).mono ?_); rintro e w2 ⟨rfl, k2⟩; have HP2 := Lib.hid (HP.out.then k2); clear k2 oc ol))
              have mN := HP2.out.n
              have mR := HP2.out.r
              have nc := mN.c
              have nl := mN.lt
              have rf := mR.f
              have rl := mR.lt
              have rc := mR.c
              clear mN mR
              go_wp2
              exact ret_ob_tmp rfl rfl rfl rfl (AtC.fill HP2.out.r rfl _ _ _ _ _ _ _ _ _ _ _ _ _ _) ⟨by rw [HV.out]; first | done | rfl, bFill HP2.out.bel HP2.out.h0 _ _ _ _ _ _ _ _ _ _ _ _ _ _⟩
end Go.Proofs.YtonhijonnonmbaaDoor
namespace Go.Proofs.YtonhijonnonmbaaDoor
open Go.RowKit FixMath
set_option maxRecDepth 100000
set_option linter.unusedVariables false
set_option linter.unusedSimpArgs false

theorem text_case {o : Ob} {w : World} (h : Meets o w) (ht : Tabs w) : Calls Tryd.prog 6 #[ob o] w fun e w' => e = .returned (textR o) ∧ Below w.heap.size w w' := by
  by_cases hr : faultP o true = 0
  · exact text_ok h (small_of hr) ht.pow hr
  · exact text_bad h hr
theorem rtext_case {o : Ob} {w : World} (h : Meets o w) : Calls Tryd.prog 7 #[ob o] w fun e w' => e = .returned (textR o) ∧ Below w.heap.size w w' := by
  by_cases hr : faultP o true = 0
  · exact rtext_ok h (small_of hr) hr
  · exact rtext_bad h hr
theorem textR_form (o : Ob) : ∃ (T : ByteArray) (E : Int), textR o = .tuple #[.string T, .int .i64 E] := by
  by_cases hr : faultP o true = 0
  · exact ⟨_, _, textR_ok hr⟩
  · exact ⟨_, _, textR_bad hr⟩
theorem parseR_form (s : ByteArray) : ∃ (R : Ob) (E : Int), parseR s = .tuple #[ob R, .int .i64 E] := by
  by_cases hp : faultP (readOf s) true = 0 ∧ textOf (readOf s) = s
  · exact ⟨_, _, parseO_ok hp.1 hp.2⟩
  · exact ⟨_, _, parseO_bad hp⟩
theorem texts_long (o : Ob) (s : ByteArray) (w : World) (hz : longB o = true) : Calls Tryd.prog 3 #[ob o, .string s] w fun e w' => e = .returned (.bool true) ∧ Below w.heap.size w w' := by
  have hb : Below w.heap.size w w := Below.refl _ _
  have L1 := fun W => Lib.hid (hz ▸ long_any o W)
  clear hz
  go_enter Tryd.func3, Tryd.ntmps3
  go_wp2_with fail
  go_at_call 5
  with_reducible refine (L1 _).out.mono ?_
  rintro e w2 ⟨rfl, k2⟩
  replace hb := bThen (bAl hb _) k2
  go_wp2_with fail
  go_ret
  exact ⟨by simp, hb⟩
theorem texts_far (o : Ob) (s : ByteArray) (w : World) (hz : longB o = false) (hs : 500 < s.size) : Calls Tryd.prog 3 #[ob o, .string s] w fun e w' => e = .returned (.bool true) ∧ Below w.heap.size w w' := by
  have hb : Below w.heap.size w w := Below.refl _ _
  have L1 := fun W => Lib.hid (hz ▸ long_any o W)
  have hs2 : (500 : Int) < s.size := by omega
  clear hz
  go_enter Tryd.func3, Tryd.ntmps3
  go_wp2_with fail
  go_at_call 5
  with_reducible refine (L1 _).out.mono ?_
  rintro e w2 ⟨rfl, k2⟩
  replace hb := bThen (bAl hb _) k2
  go_wp2_with fail
  go_ret
  exact ⟨by simp, hb⟩
set_option maxHeartbeats 8000000 in
theorem texts_main (o : Ob) (s : ByteArray) (m : Int) (w : World) (h : Meets o w) (ht : Tabs w) (hm : w.cell? ⟨3, 0, none⟩ = some (.int .i64 m)) (hml : 3 < w.heap.size) (hz : longB o = false) (hs : s.size ≤ 500) :
    Calls Tryd.prog 3 #[ob o, .string s] w fun e w' => e = .returned (.bool true) ∧ Below w.heap.size w w' := by
  have hb : Below w.heap.size w w := Below.refl _ _
  have L1 := fun W => Lib.hid (hz ▸ long_any o W)
  have CT1 := Lib.hid (fun W (q : Below w.heap.size w W) => text_case (h.then q) (ht.then q))
  have CT2 := Lib.hid (fun W (q : Below w.heap.size w W) => rtext_case (h.then q))
  have CP1 := Lib.hid (fun W (q : Below w.heap.size w W) => oparse_any s m W (by omega) (ht.then q) ((q.cell (p := ⟨3, 0, none⟩) hml).trans hm) (Nat.lt_of_lt_of_le hml q.size))
  have CP2 := Lib.hid (fun W (q : Below w.heap.size w W) => rparse_any s W hs (ht.then q))
  obtain ⟨T, E, he⟩ := textR_form o
  obtain ⟨R, G, hg⟩ := parseR_form s
  rw [he] at CT1 CT2
  rw [hg] at CP1 CP2
  clear he hg h ht hm hml hz
  have hs2 : ¬ (500 : Int) < s.size := by omega
  go_enter Tryd.func3, Tryd.ntmps3
  go_wp2_with fail
  go_at_call 5
  with_reducible refine (L1 _).out.mono ?_
  rintro e w2 ⟨rfl, k2⟩
  have mO := (AtC.new _ _ _).then k2
  replace hb := bThen (bAl hb _) k2
  have oc := mO.c
  have ol := mO.lt
  clear L1 k2
  go_wp2_with fail
  go_at_call 6
  refine (CT1.out _ hb).mono ?_
  rintro e w3 ⟨rfl, k3⟩
  replace hb := bThen hb k3
  replace mO := mO.then k3
  have oc := mO.c
  have ol := mO.lt
  go_wp2_with fail
  go_at_call 7
  refine (CT2.out _ hb).mono ?_
  rintro e w4 ⟨rfl, k4⟩
  replace hb := bThen hb k4
  clear oc ol mO CT1 CT2 k3
  go_wp2_with fail
  go_at_call 8
  refine (CP1.out _ hb).mono ?_
  rintro e w5 ⟨rfl, k5⟩
  replace hb := bThen hb k5
  clear k4 k5 CP1
  go_wp2_with fail
  go_at_call 9
  refine (CP2.out _ (bAl hb _)).mono ?_
  rintro e w6 ⟨rfl, k6⟩
  have mR := (AtC.new _ _ _).then k6
  replace hb := bThen (bAl hb _) k6
  have rc := mR.c
  have rl := mR.lt
  clear k6 CP2
  go_wp2_with fail
  go_ret
  exact ⟨by simp, bAl hb _⟩
theorem texts_walk (o : Ob) (s : ByteArray) (m : Int) (w : World) (h : Meets o w) (ht : Tabs w) (hm : w.cell? ⟨3, 0, none⟩ = some (.int .i64 m)) (hml : 3 < w.heap.size) : Calls Tryd.prog 3 #[ob o, .string s] w fun e w' => e = .returned (.bool true) ∧ Below w.heap.size w w' := by
  cases hz : longB o with
  | true => exact texts_long o s w hz
  | false =>
    by_cases hs : 500 < s.size
    · exact texts_far o s w hz hs
    · exact texts_main o s m w h ht hm hml hz (by omega)
end Go.Proofs.YtonhijonnonmbaaDoor
namespace Go.Proofs.YtonhijonnonmbaaDoor.objectTextsRow
open Go.ChangeShapes Go.WideShapes Go.ChangeAt Go.RowKit
open Go.ChangeMaps (open_string shut_string)
set_option linter.unusedVariables false

theorem own : ownKnob Tryd.prog.godebug = none := by kernel_rfl
theorem laidOut : laidOutB Tryd.prog = true := by kernel_rfl

theorem changeAndShaped {H : Type} {enc : TypeId × Value → H} {a : Assume} {C : Checked} {os : Os} {f : FuncId} {fn : Func} {s : ChangeSpec} {conds : List PathCond} {apart fresh handsOn again : Bool} {X : World → Array Value → Prop}
    (hX : ∀ (w w' : World) (args : Array Value), w.heap = w'.heap → X w args → X w' args)
    (own : ownKnob C.prog.godebug = none) (started : os.Started) (noInit : C.prog.inits.idxOf? f = none) (hfn : C.prog.funcs[f]? = some fn)
    (witness : ∃ (w : World) (tape : Tape) (i : Input), w.os = os ∧ (w.forCall tape i).Shaped C.prog ∧ i.vars = [] ∧ Input.okWide C.prog (w.forCall tape i) .any w.heap.size f i ∧
      ((s.pre enc C.prog fn conds apart (w.forCall tape i).memory i.args ∧ X (w.forCall tape i).memory i.args) ∧ sizedMet enc C.prog fn (OpenSpec.ofChange s) apart (w.forCall tape i).memory i.args) ∧ a.holds C.prog (lone (Frame.enter C.prog f i.args .normal) [] (w.forCall tape i)))
    (contract : ∀ (W : World) (base : Nat) (args : Array Value) (ds gs : List (DataW H)) (before : List MemPlace),
      (∀ (j : Nat) t v, fn.params[j]? = some t → args[j]? = some v → Value.okWide C.prog W .any base t v) →
      DataW.Whole enc C.prog fn.params.toList s.vars apart W args.toList ds gs before → X W args → W.ShapedOpen C.prog →
      Calls C.prog f args W fun e W' => ∃ v, e = .returned v ∧ s.post enc C.prog fn apart fresh handsOn again W args v W') :
    ReturnsInHanded a C os f .any (fun w args => (s.pre enc C.prog fn conds apart w args ∧ X w args) ∧ sizedMet enc C.prog fn (OpenSpec.ofChange s) apart w args) (s.post enc C.prog fn apart fresh handsOn again) := by
  refine returnsInHanded_of_calls own started noInit witness fun w tape i _ hsh _ hok hpre _ => ?_
  obtain ⟨_, _, _, gn, hgn, _, _, _, _, hval⟩ := hok
  obtain rfl : gn = fn := Option.some.inj (hgn.symm.trans hfn)
  obtain ⟨⟨⟨ds, gs, before, hw, _⟩, hx⟩, _⟩ := hpre
  refine (contract _ w.heap.size i.args ds gs before hval (DataW.Whole.of_heap (w' := w.forCall tape i) (by rfl) hw) (hX _ _ _ (by rfl) hx) hsh).mono fun e W' ⟨v, he, hp⟩ => ?_
  subst he
  exact ChangeSpec.post_blind hp
theorem maxLen_cell (W : World) (h : W.ShapedOpen Tryd.prog) : ∃ m, W.cell? ⟨3, 0, none⟩ = some (.int .i64 m) :=
  cell_of_shapedOpen_int (P := Tryd.prog) (t := 3) (zero := #[.int .i64 0]) h (of_decide_eq_true (by kernel_rfl)) (by kernel_rfl) rfl (by kernel_rfl) (by kernel_rfl) Tryd.underlying3
theorem lt_of_cell {W : World} {B i : Nat} {v : Value} (h : W.cell? ⟨B, i, none⟩ = some v) : B < W.heap.size := by
  rcases Nat.lt_or_ge B W.heap.size with k | k
  · exact k
  · simp [World.cell?, Array.getElem?_eq_none k] at h

set_option maxRecDepth 100000 in
theorem lifted (os : Os) (started : os.Started) (H : Type) (enc : TypeId × Value → H) :
    ReturnsInHanded {} Tryd.checked os 3 .any (fun w args => (Rows.objectTextsSpec.pre enc Tryd.prog Tryd.f3 [] false w args ∧ laidMetH Tryd.prog laidT w) ∧ sizedMet enc Tryd.prog Tryd.f3 (OpenSpec.ofChange Rows.objectTextsSpec) false w args)
      (Rows.objectTextsSpec.post enc Tryd.prog Tryd.f3 false true false false) := by
  refine changeAndShaped (C := Tryd.checked) (X := fun w _ => laidMetH Tryd.prog laidT w) (fun _ _ _ hh h => h.of_heap hh) own started (by kernel_rfl) Tryd.func3
    (ChangeSpec.witness_shaped (enc := enc) (C := Tryd.checked) (os := os) (X := fun w _ => laidMetH Tryd.prog laidT w) false (World.doorLaid Tryd.prog 400 os) #[.agg #[.string ByteArray.empty, .int .u8 0, .string ByteArray.empty, .int .u8 0, .string ByteArray.empty, .int .i64 0, .int .i64 0, .int .u8 0, .bool false, .bool false, .int .i64 0, .int .i64 0, .int .i64 0, .int .u8 0], .string ByteArray.empty] 8 rfl (World.shaped_of_RefB (by kernel_rfl) (by kernel_rfl)) (by kernel_rfl) (by kernel_rfl) (by kernel_rfl) (doorMetT os _)) ?_
  intro W base args ds gs before hval0 hW hL hsh
  have hU := ofLaidT hL
  have hval : ∀ (j : Nat) t v, Tryd.f3.params[j]? = some t → args[j]? = some v → Value.okWide Tryd.prog W .any base t v := hval0
  have hW' := hW
  obtain ⟨p, q, hA0, hV, rfl, hfz, hnd⟩ := hW
  have hA : DataW.TrodAll enc Tryd.prog W 0 (fun _ => true) true Tryd.f3.params.toList args.toList ds p := hA0
  rw [Tryd.params3] at hA hval
  obtain ⟨v0, vs0, d0, ds0, p0, q0, hargs, rfl, rfl, h0, r0⟩ := trodAll_cons hA
  obtain ⟨v1, vs1, d1, ds1, p1, q1, rfl, rfl, rfl, h1, r1⟩ := trodAll_cons r0
  obtain ⟨rfl, rfl, rfl⟩ := trodAll_nil r1
  obtain rfl : args = #[v0, v1] := by cases args; simp_all
  obtain ⟨rfl, rfl⟩ := trodVars_none hV
  have k0 := h0
  have lt0 : ∀ x ∈ p0, x.block < W.heap.size := by obtain ⟨m, hm⟩ := k0; exact DataW.trod_lt m _ _ _ hm
  have k1 := h1
  have lt1 : ∀ x ∈ p1, x.block < W.heap.size := by obtain ⟨m, hm⟩ := k1; exact DataW.trod_lt m _ _ _ hm
  obtain ⟨o0, rfl, fn0⟩ := open_ob (hval 0 23 v0 rfl rfl) h0
  obtain ⟨a1, rfl, hd1, hp1, w1⟩ := open_string Tryd.underlying9 (hval 1 9 v1 rfl rfl) h1
  clear hA0 hval0
  obtain ⟨m0, hm⟩ := maxLen_cell W hsh
  have hlt0 : 3 < W.heap.size := lt_of_cell hm
  refine (texts_walk o0 a1 m0 W ⟨fn0.kind, fn0.typ, fn0.digits, fn0.assoc, fn0.handle, fn0.parent, fn0.ref, hU.1.1, hU.1.2⟩ ⟨hU.1.1, hU.1.2, hU.2⟩ hm hlt0).mono fun e W' ⟨he, bel⟩ => ?_
  subst he
  exact ⟨_, rfl, _, _, _, [], _, [], hW', trodAll_mk1 (shut_bool Tryd.underlying4 _), (trodAll_cons_mk (Below.trod laidOut (by kernel_rfl) (of_decide_eq_true (by kernel_rfl)) k0 bel lt0) (trodAll_cons_mk (Below.trod laidOut (by kernel_rfl) (of_decide_eq_true (by kernel_rfl)) k1 bel lt1) trodAll_mk0)), rfl, bel.frame _, fun h => by cases h⟩

theorem over : Rows.ObjectTextsSaid :=
  OpenClaim.holds_of_wide 3 Tryd.f3 rfl rfl rfl rfl rfl rfl rfl ⟨rfl, rfl, rfl, rfl, rfl⟩ rfl rfl rfl rfl rfl (by kernel_rfl) Tryd.func3 (by kernel_rfl)
    (of_decide_eq_true (by kernel_rfl)) (by unfold Func.isWrapper; first | (rw [if_pos (by decide +kernel)]; kernel_rfl) | (rw [if_neg (by decide +kernel)]; exact ⟨rfl, rfl⟩))
    (fun os started H enc _ => lifted os started H enc)

set_option maxRecDepth 100000 in
theorem proved : Rows.ObjectTextsCardSaid :=
  Claim7.holds_tied_plain_at .later [] [.data, .data, .data, .data, .data] true Rows.objectTextsCard.stood.harness Rows.objectTextsCard.stood.looks
    over (fun _ h => by cases h) (by kernel_rfl) (fun _ h => by cases h) objectTexts_row_tie rfl ⟨rfl, rfl⟩ (by kernel_rfl) rfl
    (fun f fn hf hfn => by
      obtain rfl : f = 3 := Option.some.inj ((show Tryd.prog.funcNamed "bedside/bedsidelaw04.ObjectTexts" = some 3 by kernel_rfl).symm.trans hf) |>.symm
      obtain rfl : fn = Tryd.f3 := (Option.some.inj (Tryd.func3.symm.trans hfn)).symm
      exact ⟨by kernel_rfl, fun j t ht => by
        rw [Tryd.params3] at ht
        have hm : t ∈ [23, 9] := by
          have hm := Array.mem_of_getElem? ht
          simp at hm ⊢
          first | exact hm | omega | grind
        simp only [List.mem_cons, List.not_mem_nil, or_false] at hm
        rcases hm with rfl | rfl
        · exact (show Tryd.prog.wantsStandIn 23 = false by kernel_rfl)
        · exact (show Tryd.prog.wantsStandIn 9 = false by kernel_rfl)⟩)
    (by kernel_rfl)
#print axioms proved
end Go.Proofs.YtonhijonnonmbaaDoor.objectTextsRow
