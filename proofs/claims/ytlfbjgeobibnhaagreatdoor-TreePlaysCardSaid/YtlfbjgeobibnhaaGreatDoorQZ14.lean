/-
  WALKS: the laws' named; acts as they came in, and Long of them.
-/
import Derived.Test.YtlfbjgeobibnhaaGreatDoorQZ11
import Derived.Test.YtlfbjgeobibnhaaGreatDoorQZ3
import Derived.Test.YtlfbjgeobibnhaaGreatDoorQZ12
import Derived.Test.YtlfbjgeobibnhaaGreatDoorQZ13
import Derived.Test.YtlfbjgeobibnhaaGreatDoorQZ8
import Derived.Test.YtlfbjgeobibnhaaGreatDoorQZ9
import Derived.Laws.StructEq
import Derived.BigQuiet
import Derived.Deep.RegionHeld3
namespace Go.Proofs.YtlfbjgeobibnhaaGreatDoor.TX
open Go.RowKit HL
open IX (ptr El cellsK cellsK_at OwnK IxAt Rw numOf mayS strK RdK keys)
set_option maxRecDepth 100000
set_option linter.unusedVariables false
set_option linter.unusedSimpArgs false

/-! ## Acts -/
/-- What is done: a kind (adding, setting, taking away) and an object. -/
structure Act8 where
  kind : Nat
  o : Ob
noncomputable def actK : El Act8 where
  T := 22
  e := 35
  size := 15
  bytes := (IX.infoOf 35).bytes
  z := .agg (#[.int .u8 0] ++ obCells zeroOb)
  i := IX.infoOf 35
  enc := fun a => .int .u8 a.kind :: (obCells a.o).toList
  el := by kernel_rfl
  ht := Tryz.underlying22
  hi := by kernel_rfl
  hz := by kernel_rfl
  hs := by kernel_rfl
  hb := rfl
  hzs := rfl
  pos := by decide
  len := fun _ => rfl
  one := fun _ u hu => by simp at hu; rcases hu with rfl | rfl | rfl | rfl | rfl | rfl | rfl | rfl | rfl | rfl | rfl | rfl | rfl | rfl | rfl <;> rfl
  small := of_decide_eq_true (by kernel_rfl)
theorem acts_at {w : World} {B : Nat} {A : Option Addr} {l : List Act8} (h : RdK actK w B A l) (h0 : 0 < l.length) : ∃ b off, A = some ⟨b, off, none⟩ ∧ b < B ∧ ∀ j x, l[j]? = some x → w.cell? ⟨b, off + j * 15, none⟩ = some (.int .u8 x.kind) ∧ w.cell? ⟨b, off + j * 15 + 1, none⟩ = some (.string x.o.handle) ∧ w.cell? ⟨b, off + j * 15 + 2, none⟩ = some (.int .u8 x.o.kind) ∧ w.cell? ⟨b, off + j * 15 + 3, none⟩ = some (.string x.o.parent) ∧ w.cell? ⟨b, off + j * 15 + 4, none⟩ = some (.int .u8 x.o.typ) ∧ w.cell? ⟨b, off + j * 15 + 5, none⟩ = some (.string x.o.ref) ∧ w.cell? ⟨b, off + j * 15 + 6, none⟩ = some (.int .i64 x.o.lo) ∧ w.cell? ⟨b, off + j * 15 + 7, none⟩ = some (.int .i64 x.o.hi) ∧ w.cell? ⟨b, off + j * 15 + 8, none⟩ = some (.int .u8 x.o.digits) ∧ w.cell? ⟨b, off + j * 15 + 9, none⟩ = some (.bool x.o.on) ∧ w.cell? ⟨b, off + j * 15 + 10, none⟩ = some (.bool x.o.has) ∧ w.cell? ⟨b, off + j * 15 + 11, none⟩ = some (.int .i64 x.o.value) ∧ w.cell? ⟨b, off + j * 15 + 12, none⟩ = some (.int .i64 x.o.low) ∧ w.cell? ⟨b, off + j * 15 + 13, none⟩ = some (.int .i64 x.o.high) ∧ w.cell? ⟨b, off + j * 15 + 14, none⟩ = some (.int .u8 x.o.assoc) := by
  rcases h with rfl | ⟨b, off, e, hb, hc⟩
  · simp at h0
  · refine ⟨b, off, e, hb, fun j x hx => ?_⟩
    have q : ∀ (i : Nat) (u : Value), (actK.enc x)[i]? = some u → w.cell? ⟨b, off + j * 15 + i, none⟩ = some u := fun i u hu => by
      have := hc _ _ (cellsK_at actK hx (i := i) (u := u) hu)
      rw [Nat.add_assoc]; exact this
    exact ⟨q 0 _ rfl, q 1 _ rfl, q 2 _ rfl, q 3 _ rfl, q 4 _ rfl, q 5 _ rfl, q 6 _ rfl, q 7 _ rfl, q 8 _ rfl, q 9 _ rfl, q 10 _ rfl, q 11 _ rfl, q 12 _ rfl, q 13 _ rfl, q 14 _ rfl⟩
def longA (l : List Act8) : Bool := decide (150 < l.length) || l.any fun x => longB x.o
theorem longA_out {l : List Act8} (h : longA l = false) : l.length ≤ 150 ∧ ∀ x ∈ l, longB x.o = false := by
  simp only [longA, Bool.or_eq_false_iff, decide_eq_false_iff_not, List.any_eq_false] at h
  exact ⟨by omega, fun x hx => by simpa using h.2 x hx⟩
theorem longA_t1 {l : List Act8} (h : 150 < l.length) : longA l = true := by simp [longA, h]
theorem longA_t2 {l : List Act8} {k : Nat} (hk : k < l.length) (h : longB l[k].o = true) : longA l = true := by
  simp only [longA, Bool.or_eq_true, List.any_eq_true]
  exact .inr ⟨_, List.getElem_mem hk, h⟩
theorem longA_f {l : List Act8} (h0 : ¬ 150 < l.length) (h : ∀ x ∈ l, longB x.o = false) : longA l = false := by
  simp only [longA, Bool.or_eq_false_iff, decide_eq_false_iff_not, List.any_eq_false]
  exact ⟨h0, fun x hx => by simp [h x hx]⟩
set_option maxHeartbeats 2000000 in
theorem longA_any (A : Option Addr) (c : Nat) (l : List Act8) (w : World) (h : RdK actK w w.heap.size A l) (hn : l.length ≤ maxLen) :
    Calls Tryz.prog 5 #[.slice A l.length c] w fun e w' => e = .returned (.bool (longA l)) ∧ Below w.heap.size w w' := by
  unfold maxLen at hn
  by_cases h0 : 150 < l.length
  · have HV := Lib.hid (longA_t1 h0)
    have i0 : (150 : Int) < l.length := by omega
    clear h
    go_enter Tryz.func5, Tryz.ntmps5
    go_wp2
    go_ret
    exact ⟨by rw [HV.out]; rfl, Below.refl _ _⟩
  · have i0 : ¬ (150 : Int) < l.length := by omega
    have H0 := Lib.hid h0
    have HH := Lib.hid h
    clear h h0
    go_enter Tryz.func5, Tryz.ntmps5
    go_wp2
    go_loopw [3] (fun i wr => ∃ k : Nat, i = .int .i64 k ∧ k ≤ l.length ∧ (∀ x ∈ l.take k, longB x.o = false) ∧ Below w.heap.size w wr) (fun i _ => l.length - (intOf i).toNat)
    case atStart => exact ⟨0, rfl, Nat.zero_le _, by simp, Below.refl _ _⟩
    case round =>
      obtain ⟨k, rfl, hk, hm, k1⟩ := hrel
      have HM := Lib.hid hm
      clear hm
      by_cases hlt : k < l.length
      · obtain ⟨b, off, rfl, hbk, hc⟩ := acts_at (HH.out.below k1) (by omega)
        obtain ⟨_, c0, c1, c2, c3, c4, c5, c6, c7, c8, c9, c10, c11, c12, c13⟩ := hc k _ (List.getElem?_eq_getElem hlt)
        have i1 : (k : Int) < l.length := by omega
        have CL := Lib.hid (long_any l[k].o wr)
        have HS : Hid (∀ (q : longB l[k].o = false), ∀ x ∈ l.take (k + 1), longB x.o = false) := Lib.hid (fun q x hx => by
          rw [List.take_succ_eq_append_getElem hlt] at hx
          rcases List.mem_append.1 hx with h | h
          · exact HM.out x h
          · obtain rfl : x = l[k] := by simpa using h
            exact q)
        have HT : Hid (longB l[k].o = true → longA l = true) := Lib.hid (longA_t2 hlt)
        clear hc
        generalize l[k].o = o at *
        cases hl : longB o with
        | true =>
          rw [hl] at CL
          have HV := Lib.hid (HT.out hl)
          clear hl
          go_wp2_with (go_at_call 18; ((with_reducible refine CL.out.mono ?_); rintro e w3 ⟨rfl, k3⟩))
          go_ret
          exact ⟨by rw [HV.out]; rfl, bThen k1 k3⟩
        | false =>
          rw [hl] at CL
          have HV := Lib.hid (HS.out hl)
          clear hl
          go_wp2_with (go_at_call 18; ((with_reducible refine CL.out.mono ?_); rintro e w3 ⟨rfl, k3⟩))
          go_roundw
          case rel => exact ⟨k + 1, by go_num, by omega, HV.out, bThen k1 k3⟩
          case measure => simp [intOf]; omega
      · obtain rfl : k = l.length := by omega
        have i1 : ¬ (l.length : Int) < l.length := by omega
        have HR : Hid (longA l = false) := Lib.hid (longA_f H0.out (by have := HM.out; rwa [List.take_length] at this))
        go_wp2
        go_ret
        exact ⟨by rw [HR.out]; rfl, k1⟩
end Go.Proofs.YtlfbjgeobibnhaaGreatDoor.TX
/-
  WALKS: the document's Same of two rows of the same objects, of the same texts (out of RSameO and RAwake, for seats without awake); acts and the two trees side by side.
-/
namespace Go.Proofs.YtlfbjgeobibnhaaGreatDoor.TX
open Go.RowKit HL
open IX (ptr El cellsK cellsK_at OwnK IxAt Rw numOf mayS strK RdK keys)
set_option maxRecDepth 100000
set_option linter.unusedVariables false
set_option linter.unusedSimpArgs false
set_option maxHeartbeats 4000000 in
theorem sameO_yes (A1 A2 : Option Addr) (c1 c2 m : Nat) (l : List Ob) (w : World) (h1 : RdK obK w w.heap.size A1 l) (h2 : RdK obK w w.heap.size A2 l) (hm : l.length = m) (hn : m ≤ 1000000) :
    Calls Tryz.prog 10 #[.slice A1 m c1, .slice A2 m c2] w fun e w' => e = .returned (.bool true) ∧ Below w.heap.size w w' := by
  subst hm
  have H1 := Lib.hid h1
  have H2 := Lib.hid h2
  clear h1 h2
  go_enter Tryz.func10, Tryz.ntmps10
  go_wp2
  go_loopw [5] (fun i wr => ∃ k : Nat, i = .int .i64 k ∧ k ≤ l.length ∧ Below w.heap.size w wr) (fun i _ => l.length - (intOf i).toNat)
  case atStart => exact ⟨0, rfl, Nat.zero_le _, Below.refl _ _⟩
  case round =>
    obtain ⟨k, rfl, hk, k1⟩ := hrel
    by_cases hlt : k < l.length
    · obtain ⟨b, off, rfl, hb1, hc⟩ := obs_at (H1.out.below k1) (by omega)
      obtain ⟨b2, off2, rfl, hb2, hc2⟩ := obs_at (H2.out.below k1) (by omega)
      obtain ⟨p0, p1, p2, p3, p4, p5, p6, p7, p8, p9, p10, p11, p12, p13⟩ := hc k _ (List.getElem?_eq_getElem hlt)
      obtain ⟨q0, q1, q2, q3, q4, q5, q6, q7, q8, q9, q10, q11, q12, q13⟩ := hc2 k _ (List.getElem?_eq_getElem hlt)
      have i1 : (k : Int) < l.length := by omega
      have K1 := Lib.hid k1
      clear hc hc2 k1
      generalize l[k] = o at *
      go_wp2
      go_quiet (fail)
      go_wp2
      go_roundw
      case rel => exact ⟨k + 1, by go_num, by omega, K1.out.trans ⟨rfl, rfl, rfl, Nat.le_refl _, fun _ _ => rfl⟩⟩
      case measure => simp [intOf]; omega
    · obtain rfl : k = l.length := by omega
      have i1 : ¬ (l.length : Int) < l.length := by omega
      go_wp2
      go_ret
      exact ⟨rfl, k1⟩
/-- Same of two equal rows. -/
theorem sameT_yes (A1 A2 : Option Addr) (c1 c2 m : Nat) (xs : List Bs) (w : World) (h1 : RdK strK w w.heap.size A1 xs) (h2 : RdK strK w w.heap.size A2 xs) (hm : xs.length = m) (hn : m ≤ 1000000) :
    Calls Tryz.prog 34 #[.slice A1 m c1, .slice A2 m c2] w fun e w' => e = .returned (.bool true) ∧ Below w.heap.size w w' := by
  subst hm
  refine (same_any A1 A2 c1 c2 xs xs w w.heap.size h1.strs h2.strs (by unfold maxLen; omega) (by unfold maxLen; omega)).mono ?_
  rintro e w' ⟨rfl, hd⟩
  exact ⟨by rw [sameB_t rfl], hd.below _⟩

abbrev actC (x : Act8) : Array Value := #[.int .u8 x.kind, .string x.o.handle, .int .u8 x.o.kind, .string x.o.parent, .int .u8 x.o.typ, .string x.o.ref, .int .i64 x.o.lo, .int .i64 x.o.hi, .int .u8 x.o.digits, .bool x.o.on, .bool x.o.has, .int .i64 x.o.value, .int .i64 x.o.low, .int .i64 x.o.high, .int .u8 x.o.assoc]
/-- The program's tree and the document's, side by side, made since w. -/
structure Two (w W : World) (L : Lay) (X BT BL : Nat) (s : Sl) (n : Nat) : Prop where
  t : Tree W w.heap.size L s
  b : Below w.heap.size w W
  n : L.n ≤ n
  r : RT W w.heap.size X BT BL s
  g1 : L.g X = .other
  g2 : L.g BT = .other
  g3 : L.g BL = .other
section
variable {w W W1 W2 : World} {L L' : Lay} {X BT BL : Nat} {s s' : Sl} {n : Nat}
theorem Two.then (h : Two w W L X BT BL s n) (k : Below W.heap.size W W1) : Two w W1 L X BT BL s n := ⟨h.t.then k, bThen h.b k, h.n, h.r.then k, h.g1, h.g2, h.g3⟩
theorem Two.new (h : Two w W L X BT BL s n) {B : Nat} (hB : W.heap.size ≤ B) : L.g B = .other := by
  cases q : L.g B with
  | other => rfl
  | _ => have := (h.t.t.lt B (by rw [q]; simp)).2; omega
theorem step_other (k : Step W W1 2 L L') {B : Nat} (hB : B < W.heap.size) (h : L.g B = .other) : L'.g B = .other := by
  cases q : L'.g B with
  | other => rfl
  | _ =>
    rcases k.g B (by rw [q]; simp) with e | e
    · exact absurd h e
    · omega
theorem Two.ref (h : Two w W L X BT BL s n) (k : Step W W1 2 L L') : RT W1 w.heap.size X BT BL s := h.r.kept k.k h.g1 h.g2 h.g3
theorem Two.both (h : Two w W L X BT BL s n) (t : Tree W1 w.heap.size L' s') (k : Step W W1 2 L L') (r : RT W2 w.heap.size X BT BL s') (rk : RK BT BL W1 W2) : Two w W2 L' X BT BL s' (n + 2) := by
  have b1 : Below w.heap.size w W1 := h.b.trans (k.grown h.t.t (Nat.le_refl _) h.b.size)
  have o2 := step_other k h.r.t.lt h.g2
  have o3 := step_other k h.r.l.lt h.g3
  refine ⟨t.kept rk fun j _ e => ⟨fun q => e (q ▸ o2), fun q => e (q ▸ o3)⟩, b1.trans (IX.Kept.below rk b1.size fun j hj => ⟨fun q => by have := h.r.b2; omega, fun q => by have := h.r.b3; omega⟩), ?_, r, step_other k h.r.c.lt h.g1, o2, o3⟩
  have := k.n
  have := h.n
  omega
end
noncomputable def actS (s : Sl) (x : Act8) : Sl := if (x.kind : Int) % 4 = 0 ∨ (x.kind : Int) % 4 = 1 then addS s x.o else if (x.kind : Int) % 4 = 2 then setS s x.o else remS s (hb x.o)
end Go.Proofs.YtlfbjgeobibnhaaGreatDoor.TX
/-
  WALK: what happens, to both trees: act.
-/
namespace Go.Proofs.YtlfbjgeobibnhaaGreatDoor.TX
open Go.RowKit HL
open IX (ptr El cellsK cellsK_at OwnK IxAt Rw numOf mayS strK RdK keys)
set_option maxRecDepth 100000
set_option linter.unusedVariables false
set_option linter.unusedSimpArgs false
set_option maxHeartbeats 8000000
theorem act_any {w W : World} {L : Lay} {X BT BL : Nat} {s : Sl} {n : Nat} (h : Two w W L X BT BL s n) (hw : Words w) (hk : Kinds w) (x : Act8) (hx : longB x.o = false) (hn : n ≤ 800000) :
    Calls Tryz.prog 8 #[ptr L.T, ptr X, .agg (actC x)] W fun e W' => ∃ L', e = .returned (.bool true) ∧ Two w W' L' X BT BL (actS s x) (n + 2) ∧ L'.T = L.T := by
  have hxx := longB_out hx
  have hz : x.o.handle.size ≤ maxLen := Nat.le_trans hxx.1 (by unfold maxLen; decide)
  have hp : (pb x.o).length ≤ 100 := hxx.2.1
  have hLn : L.n ≤ 900000 := Nat.le_trans h.n (by omega)
  have T0 := Lib.hid (h.then (bAl (Below.refl _ _) (.cells (actC x) 35)))
  have D0 := Lib.hid ((T0.out).then (Below.refl _ _).drew)
  have HS := Lib.hid (AtC.new W (actC x) 35)
  have HSD := Lib.hid (HS.out.drew1)
  have HD : Hid (L.g W.heap.size = .other) := Lib.hid (h.new (Nat.le_refl _))
  have HNE : Hid (W.heap.size ≠ BT ∧ W.heap.size ≠ BL) := Lib.hid ⟨by have := h.r.t.lt; omega, by have := h.r.l.lt; omega⟩
  have mc := HS.out.c
  have hc0 := HSD.out.c
  cases e0 : ((x.kind : Int) % 4 == 0) with
  | true =>
    have EA : Hid (actS s x = addS s x.o) := Lib.hid (by unfold actS; rw [if_pos (.inl (by simpa using e0))])
    have CA := Lib.hid (add_any D0.out.t D0.out.b.size (hw.then D0.out.b) (hk.then D0.out.b) x.o hz hp hLn)
    have CR := Lib.hid (fun W1 (r1 : RT W1 w.heap.size X BT BL s) => rAdd_any r1 x.o hz hp)
    clear h hw hk hxx hx
    go_enter Tryz.func8, Tryz.ntmps8
    go_wp2
    clear mc
    go_region_held3 (fun w' => ∀ i, w'.cell? ⟨W.heap.size, i, none⟩ = (actC x)[i]?)
      (first | with_reducible assumption | with_reducible exact hc0 | with_reducible exact k3)
      (first
      | (go_at_call 21; (with_reducible refine CA.out.mono ?_); rintro e w3 ⟨L3, rfl, t3, st3⟩; have T3 := Lib.hid t3; have S3 := Lib.hid st3; have R3 := Lib.hid (D0.out.ref st3); have M3 := Lib.hid (st3.k.atC HSD.out HD.out); have k3 := M3.out.c; clear t3 st3)
      | (go_at_call 22; (with_reducible refine (CR.out _ R3.out).mono ?_); rintro e w4 ⟨rfl, r4, rk4⟩; have R4 := Lib.hid r4; have RK4 := Lib.hid rk4; have k3 := (IX.Kept.atC rk4 M3.out ⟨HNE.out.1, HNE.out.2⟩).c; clear r4 rk4))
    go_wp2
    go_ret
    exact ⟨L3, by first | rfl | simp, by rw [EA.out]; exact D0.out.both T3.out S3.out R4.out RK4.out, S3.out.t⟩
  | false =>
    cases e1 : ((x.kind : Int) % 4 == 1) with
    | true =>
      have EA : Hid (actS s x = addS s x.o) := Lib.hid (by unfold actS; rw [if_pos (.inr (by simpa using e1))])
      have CA := Lib.hid (add_any D0.out.t D0.out.b.size (hw.then D0.out.b) (hk.then D0.out.b) x.o hz hp hLn)
      have CR := Lib.hid (fun W1 (r1 : RT W1 w.heap.size X BT BL s) => rAdd_any r1 x.o hz hp)
      clear h hw hk hxx hx
      go_enter Tryz.func8, Tryz.ntmps8
      go_wp2
      clear mc
      go_region_held3 (fun w' => ∀ i, w'.cell? ⟨W.heap.size, i, none⟩ = (actC x)[i]?)
        (first | with_reducible assumption | with_reducible exact hc0 | with_reducible exact k3)
        (first
        | (go_at_call 21; (with_reducible refine CA.out.mono ?_); rintro e w3 ⟨L3, rfl, t3, st3⟩; have T3 := Lib.hid t3; have S3 := Lib.hid st3; have R3 := Lib.hid (D0.out.ref st3); have M3 := Lib.hid (st3.k.atC HSD.out HD.out); have k3 := M3.out.c; clear t3 st3)
        | (go_at_call 22; (with_reducible refine (CR.out _ R3.out).mono ?_); rintro e w4 ⟨rfl, r4, rk4⟩; have R4 := Lib.hid r4; have RK4 := Lib.hid rk4; have k3 := (IX.Kept.atC rk4 M3.out ⟨HNE.out.1, HNE.out.2⟩).c; clear r4 rk4))
      go_wp2
      go_ret
      exact ⟨L3, by first | rfl | simp, by rw [EA.out]; exact D0.out.both T3.out S3.out R4.out RK4.out, S3.out.t⟩
    | false =>
      cases e2 : ((x.kind : Int) % 4 == 2) with
      | true =>
        have EA : Hid (actS s x = setS s x.o) := Lib.hid (by unfold actS; rw [if_neg (by intro q; rcases q with q | q <;> simp [q] at e0 e1), if_pos (by simpa using e2)])
        have CA := Lib.hid (set_any D0.out.t D0.out.b.size x.o hp hLn)
        have CR := Lib.hid (fun W1 (r1 : RT W1 w.heap.size X BT BL s) => rSet_any r1 x.o hp)
        clear h hw hk hxx hx
        go_enter Tryz.func8, Tryz.ntmps8
        go_wp2
        clear mc
        go_region_held3 (fun w' => ∀ i, w'.cell? ⟨W.heap.size, i, none⟩ = (actC x)[i]?)
          (first | with_reducible assumption | with_reducible exact hc0 | with_reducible exact k3)
          (first
          | (go_at_call 23; (with_reducible refine CA.out.mono ?_); rintro e w3 ⟨L3, rfl, t3, st3⟩; have T3 := Lib.hid t3; have S3 := Lib.hid st3; have R3 := Lib.hid (D0.out.ref st3); have M3 := Lib.hid (st3.k.atC HSD.out HD.out); have k3 := M3.out.c; clear t3 st3)
          | (go_at_call 24; (with_reducible refine (CR.out _ R3.out).mono ?_); rintro e w4 ⟨rfl, r4, rk4⟩; have R4 := Lib.hid r4; have RK4 := Lib.hid rk4; have k3 := (IX.Kept.atC rk4 M3.out ⟨HNE.out.1, HNE.out.2⟩).c; clear r4 rk4))
        go_wp2
        go_ret
        exact ⟨L3, by first | rfl | simp, by rw [EA.out]; exact D0.out.both T3.out S3.out R4.out RK4.out, S3.out.t⟩
      | false =>
        have EA : Hid (actS s x = remS s (TX.hb x.o)) := Lib.hid (by unfold actS; rw [if_neg (by intro q; rcases q with q | q <;> simp [q] at e0 e1), if_neg (by simpa using e2)])
        have CA := Lib.hid (remove_any D0.out.t D0.out.b.size x.o.handle hLn)
        have CR := Lib.hid (fun W1 (r1 : RT W1 w.heap.size X BT BL s) => rRem_any r1 x.o.handle)
        clear h hw hk hxx hx
        go_enter Tryz.func8, Tryz.ntmps8
        go_wp2
        clear mc
        go_region_held3 (fun w' => ∀ i, w'.cell? ⟨W.heap.size, i, none⟩ = (actC x)[i]?)
          (first | with_reducible assumption | with_reducible exact hc0 | with_reducible exact k3)
          (first
          | (go_at_call 25; (with_reducible refine CA.out.mono ?_); rintro e w3 ⟨L3, rfl, t3, st3⟩; have T3 := Lib.hid t3; have S3 := Lib.hid st3; have R3 := Lib.hid (D0.out.ref st3); have M3 := Lib.hid (st3.k.atC HSD.out HD.out); have k3 := M3.out.c; clear t3 st3)
          | (go_at_call 26; (with_reducible refine (CR.out _ R3.out).mono ?_); rintro e w4 ⟨rfl, r4, rk4⟩; have R4 := Lib.hid r4; have RK4 := Lib.hid rk4; have k3 := (IX.Kept.atC rk4 M3.out ⟨HNE.out.1, HNE.out.2⟩).c; clear r4 rk4))
        go_wp2
        go_ret
        exact ⟨L3, by first | rfl | simp, by rw [EA.out]; exact D0.out.both T3.out S3.out R4.out RK4.out, S3.out.t⟩
end Go.Proofs.YtlfbjgeobibnhaaGreatDoor.TX
