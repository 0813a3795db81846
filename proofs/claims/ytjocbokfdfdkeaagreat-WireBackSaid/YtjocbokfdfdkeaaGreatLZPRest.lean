/-
  WALKS: PutChange, GetChange, putStamp, getStamp, PutEntry, GetEntry.
-/
import Derived.Test.YtjocbokfdfdkeaaGreatLZPGet
import Derived.Deep.CutRange
import Derived.Deep.MidRow
namespace Go.Proofs.YtjocbokfdfdkeaaGreat.PX
open Go.RowKit HL
open IX (ptr El cellsK cellsK_at cellsK_len OwnK RdK Kept)
open YX (numB rdU rdB rdT rdS rdI addW intN natI rest told WAt WPt Wr RAt vS vU vI)
open DX (Ch chCells ch zeroCh)
set_option maxRecDepth 100000
set_option linter.unusedVariables false
set_option linter.unusedSimpArgs false

/-- Values stored one behind the other. -/
def stC (W : World) (B off : Nat) : List Value → World
  | [] => W
  | v :: vs => stC (W.setCell ⟨B, off, none⟩ v) B (off + 1) vs
def stA (C : Array Value) (off : Nat) : List Value → Array Value
  | [] => C
  | v :: vs => stA (C.setIfInBounds off v) (off + 1) vs
theorem at_stC {B : Nat} : ∀ (vs : List Value) (off : Nat) (W : World) (C : Array Value), AtC W B C → off + vs.length ≤ C.size → AtC (stC W B off vs) B (stA C off vs)
  | [], off, W, C, h, _ => h
  | v :: vs, off, W, C, h, hl => at_stC vs (off + 1) _ _ (h.set (i := off) (by simp at hl; omega) v) (by simp at hl ⊢; omega)
theorem at_mid {B : Nat} : ∀ (vs : List Value) (pre old post : List Value) (W : World), AtC W B (pre ++ old ++ post).toArray → old.length = vs.length → AtC (stC W B pre.length vs) B (pre ++ vs ++ post).toArray
  | [], pre, old, post, W, h, hl => by
    have : old = [] := List.eq_nil_of_length_eq_zero hl
    subst this; exact h
  | v :: vs, pre, [], post, W, h, hl => by simp at hl
  | v :: vs, pre, x :: old, post, W, h, hl => by
    have h1 := h.set (i := pre.length) (by simp) v
    have e : (pre ++ x :: old ++ post).toArray.setIfInBounds pre.length v = ((pre ++ [v]) ++ old ++ post).toArray := by simp
    rw [e] at h1
    have h2 := at_mid vs (pre ++ [v]) old post _ h1 (by simpa using hl)
    have e2 : pre ++ [v] ++ vs ++ post = pre ++ v :: vs ++ post := by simp
    rw [e2] at h2
    have e3 : (pre ++ [v]).length = pre.length + 1 := by simp
    rw [e3] at h2
    exact h2
theorem at_all {B : Nat} {W : World} (old vs : List Value) (h : AtC W B old.toArray) (hl : old.length = vs.length) : AtC (stC W B 0 vs) B vs.toArray := by
  have := at_mid vs [] old [] W (by simpa using h) hl
  simpa using this
theorem kept_stC {B : Nat} {w : World} {P : Nat → Prop} (hB : B < w.heap.size → ¬ P B) : ∀ (vs : List Value) (off : Nat) (W : World), Kept w W P → Kept w (stC W B off vs) P
  | [], off, W, h => h
  | v :: vs, off, W, h => kept_stC hB vs (off + 1) _ (h.set hB v)
theorem at_store {B B2 : Nat} : ∀ (vs : List Value) (off : Nat) (W : World) (C : Array Value), B ≠ B2 → AtC W B C → AtC (stC W B2 off vs) B C
  | [], off, W, C, _, h => h
  | v :: vs, off, W, C, hn, h => at_store vs (off + 1) _ _ hn (h.store (p := ⟨B2, off, none⟩) (by show B2 ≠ B; omega) v)
/-- An entry's cells. -/
abbrev enC (e : En) : Array Value := #[.string e.handle, .bool e.there, .string e.o.handle, .int .u8 e.o.kind, .string e.o.parent, .int .u8 e.o.typ, .string e.o.ref, .int .i64 e.o.lo, .int .i64 e.o.hi, .int .u8 e.o.digits, .bool e.o.on, .bool e.o.has, .int .i64 e.o.value, .int .i64 e.o.low, .int .i64 e.o.high, .int .u8 e.o.assoc, .int .i64 e.desc, .int .i64 e.state]
abbrev en (e : En) : Value := .agg #[.string e.handle, .bool e.there, .string e.o.handle, .int .u8 e.o.kind, .string e.o.parent, .int .u8 e.o.typ, .string e.o.ref, .int .i64 e.o.lo, .int .i64 e.o.hi, .int .u8 e.o.digits, .bool e.o.on, .bool e.o.has, .int .i64 e.o.value, .int .i64 e.o.low, .int .i64 e.o.high, .int .u8 e.o.assoc, .int .i64 e.desc, .int .i64 e.state]
def zeroEn : En := ⟨⟨#[]⟩, false, zeroOb, 0, 0⟩
set_option maxHeartbeats 4000000 in
theorem putChange_any (Bw : Nat) (s : Option Bs) (c : Ch) (w : World) (hF : FineC c) (hw : WAt w Bw s) :
    Calls Tryz.prog 84 #[ptr Bw, ch c] w fun e w' => Wrt w Bw (codC.W s c) e w' := by
  have hb := bAl (Below.refl w.heap.size w) (.cells (chCells c) 26)
  have hB := AtC.new w (chCells c) 26
  have hBw := hw.lt
  have HW := Lib.hid (hw.below hb)
  have HB := Lib.hid hB
  have CB := Lib.hid (fun (W : World) (s : Option Bs) (q : WAt W Bw s) => (YX.wByte_any (ptr Bw) s c.kind hF.kind W (wpt q)).mono (fun e w' r => wrt r))
  have CO := Lib.hid (fun (W : World) (s : Option Bs) (q : WAt W Bw s) => putObject_any Bw s c.o W hF.o q)
  have HBL := Lib.hid hb
  have hmc := hB.c
  clear hw hb hB hF
  go_enter Tryz.func84, Tryz.ntmps84
  go_wp2_with (first
    | (go_at_call 80; ((refine (CB.out _ _ HW.out).mono ?_); rintro e w2 ⟨rfl, w2h, k2⟩; have m2 := HB.out.kept k2 (show w.heap.size ≠ Bw by omega); have m2c := m2.c; have m2l := m2.lt; have HW2 := Lib.hid w2h; have K2 := Lib.hid (Kept.trans (.of_below HBL.out) k2); clear w2h k2))
    | (go_at_call 109; ((refine (CO.out _ _ HW2.out).mono ?_); rintro e w3 ⟨rfl, w3h, k3⟩; have HW3 := Lib.hid w3h; have K3 := Lib.hid (K2.out.trans k3); clear w3h k3)))
  go_end0
  exact ⟨rfl, HW3.out, K3.out⟩
set_option maxHeartbeats 4000000 in
theorem getChange_any (Br : Nat) (s : Option Bs) (w : World) (hr : RAt w Br s) :
    Calls Tryz.prog 91 #[ptr Br] w fun e w' => Rdr w Br (ch (getC s).1) (getC s).2 e w' := by
  have hBr := hr.lt
  have hb := bAl (Below.refl w.heap.size w) (.cells (chCells zeroCh) 26)
  have HR := Lib.hid (hr.below hb)
  have HB := Lib.hid (AtC.new w (chCells zeroCh) 26)
  have HBL := Lib.hid hb
  have CB := fun (W : World) (q : RAt W Br s) => YX.octet_any2 Br s W q
  have CO := fun (W : World) (q : RAt W Br (rest rdB s)) => getObject_any Br (rest rdB s) W q
  obtain ⟨k, hk⟩ : ∃ k, told 0 rdB s = k := ⟨_, rfl⟩
  obtain ⟨s2, hs2⟩ : ∃ s2, rest rdB s = s2 := ⟨_, rfl⟩
  obtain ⟨⟨o, s3⟩, hq⟩ : ∃ q, getO s2 = q := ⟨_, rfl⟩
  have HQ : Hid (getC s = (⟨k, o⟩, s3)) := Lib.hid (by unfold getC; rw [hs2, hq, hk])
  rw [hk, hs2] at CB
  rw [hs2, hq] at CO
  replace CB := Lib.hid CB
  replace CO := Lib.hid CO
  clear hr hb hk hs2 hq
  go_enter Tryz.func91, Tryz.ntmps91
  go_wp2_with (first
    | (go_at_call 88; ((refine (CB.out _ HR.out).mono ?_); rintro e w2 ⟨rfl, r2, k2⟩; have HR2 := Lib.hid r2; have M2 := Lib.hid (HB.out.kept k2 (show w.heap.size ≠ Br by omega)); have K2 := Lib.hid (Kept.trans (.of_below HBL.out) k2); clear r2 k2))
    | (go_at_call 114; ((refine (CO.out _ HR2.out).mono ?_); rintro e w3 ⟨rfl, r3, k3⟩; have HR3 := Lib.hid r3; have m3 := M2.out.kept k3 (show w.heap.size ≠ Br by omega); have m3c := m3.c; have m3f := m3.f; have m3l := m3.lt; have K3 := Lib.hid (K2.out.trans k3); clear r3 k3)))
  refine ret_row (C := chCells ⟨k, o⟩) (B := w.heap.size) rfl rfl rfl (at_all (chCells zeroCh).toList (chCells ⟨k, o⟩).toList m3 rfl) (by kernel_rfl) (by kernel_rfl) ⟨by rw [HQ.out], ?_, ?_⟩
  · rw [HQ.out]
    refine RAt.other (B2 := w.heap.size) HR3.out ?_ hBr
    exact kept_stC (fun _ h => h rfl) (chCells ⟨k, o⟩).toList 0 w3 (Kept.refl _ _)
  · exact kept_stC (fun h => absurd h (by omega)) (chCells ⟨k, o⟩).toList 0 w3 K3.out
set_option maxHeartbeats 4000000 in
theorem putStamp_any (Bw : Nat) (s : Option Bs) (a b : Int) (w : World) (ha : -9223372036854775808 ≤ a ∧ a < 9223372036854775808) (hb2 : -9223372036854775808 ≤ b ∧ b < 9223372036854775808) (hw : WAt w Bw s) :
    Calls Tryz.prog 132 #[ptr Bw, .agg #[.int .i64 a, .int .i64 b]] w fun e w' => Wrt w Bw (addW (addW s (numB (intN a))) (numB (intN b))) e w' := by
  have hb := bAl (Below.refl w.heap.size w) (.cells #[.int .i64 a, .int .i64 b] 88)
  have hB := AtC.new w #[.int .i64 a, .int .i64 b] 88
  have hBw := hw.lt
  have HW := Lib.hid (hw.below hb)
  have HB := Lib.hid hB
  have CA := Lib.hid (fun (W : World) (s : Option Bs) (q : WAt W Bw s) => (YX.wInt_any (ptr Bw) s a ha.1 ha.2 W (wpt q)).mono (fun e w' r => wrt r))
  have CC := Lib.hid (fun (W : World) (s : Option Bs) (q : WAt W Bw s) => (YX.wInt_any (ptr Bw) s b hb2.1 hb2.2 W (wpt q)).mono (fun e w' r => wrt r))
  have HBL := Lib.hid hb
  have hmc := hB.c
  clear hw hb hB ha hb2
  go_enter Tryz.func132, Tryz.ntmps132
  go_wp2_with (go_at_call 85; first
    | ((with_reducible refine (CC.out _ _ HW2.out).mono ?_); rintro e w3 ⟨rfl, w3h, k3⟩; have HW3 := Lib.hid w3h; have K3 := Lib.hid (K2.out.trans k3); clear w3h k3)
    | ((with_reducible refine (CA.out _ _ HW.out).mono ?_); rintro e w2 ⟨rfl, w2h, k2⟩; have m2 := HB.out.kept k2 (show w.heap.size ≠ Bw by omega); have m2c := m2.c; have m2l := m2.lt; have HW2 := Lib.hid w2h; have K2 := Lib.hid (Kept.trans (.of_below HBL.out) k2); clear w2h k2))
  go_end0
  exact ⟨rfl, HW3.out, K3.out⟩
set_option maxHeartbeats 4000000 in
theorem getStamp_any (Br : Nat) (s : Option Bs) (w : World) (hr : RAt w Br s) :
    Calls Tryz.prog 133 #[ptr Br] w fun e w' => Rdr w Br (.agg #[.int .i64 (told (0 : Int) rdI s), .int .i64 (told (0 : Int) rdI (rest rdI s))]) (rest rdI (rest rdI s)) e w' := by
  have hBr := hr.lt
  have hb := bAl (Below.refl w.heap.size w) (.cells #[.int .i64 0, .int .i64 0] 88)
  have HR := Lib.hid (hr.below hb)
  have HB := Lib.hid (AtC.new w #[.int .i64 0, .int .i64 0] 88)
  have HBL := Lib.hid hb
  have CI := Lib.hid (fun (W : World) (s : Option Bs) (q : RAt W Br s) => YX.signed_any2 Br s W q)
  clear hr hb
  go_enter Tryz.func133, Tryz.ntmps133
  go_wp2_with (go_at_call 92; first
    | ((refine (CI.out _ _ HR2.out).mono ?_); rintro e w3 ⟨rfl, r3, k3⟩; have HR3 := Lib.hid r3; have m3 := M2.out.kept k3 (show w.heap.size ≠ Br by omega); have m3c := m3.c; have m3f := m3.f; have m3l := m3.lt; have K3 := Lib.hid (K2.out.trans k3); clear r3 k3)
    | ((refine (CI.out _ _ HR.out).mono ?_); rintro e w2 ⟨rfl, r2, k2⟩; have HR2 := Lib.hid r2; have M2 := Lib.hid (HB.out.kept k2 (show w.heap.size ≠ Br by omega)); have K2 := Lib.hid (Kept.trans (.of_below HBL.out) k2); clear r2 k2))
  refine ret_row (C := #[.int .i64 (told (0 : Int) rdI s), .int .i64 (told (0 : Int) rdI (rest rdI s))]) (B := w.heap.size) rfl rfl rfl (at_stC [.int .i64 (told (0 : Int) rdI s), .int .i64 (told (0 : Int) rdI (rest rdI s))] 0 w3 _ m3 (by simp)) (by kernel_rfl) (by kernel_rfl) ⟨rfl, ?_, ?_⟩
  · refine RAt.other (B2 := w.heap.size) HR3.out ?_ hBr
    exact kept_stC (fun _ h => h rfl) [.int .i64 (told (0 : Int) rdI s), .int .i64 (told (0 : Int) rdI (rest rdI s))] 0 w3 (Kept.refl _ _)
  · exact kept_stC (fun h => absurd h (by omega)) [.int .i64 (told (0 : Int) rdI s), .int .i64 (told (0 : Int) rdI (rest rdI s))] 0 w3 K3.out
set_option maxHeartbeats 4000000 in
theorem putEntry_any (Bw : Nat) (s : Option Bs) (e : En) (w : World) (hF : FineE e) (hw : WAt w Bw s) :
    Calls Tryz.prog 121 #[ptr Bw, en e] w fun r w' => Wrt w Bw (codE.W s e) r w' := by
  have hb := bAl (Below.refl w.heap.size w) (.cells (enC e) 90)
  have hB := AtC.new w (enC e) 90
  have hBw := hw.lt
  have HW := Lib.hid (hw.below hb)
  have HB := Lib.hid hB
  have CT := Lib.hid (fun (W : World) (s : Option Bs) (q : WAt W Bw s) => (YX.wText_any (ptr Bw) s (tx e.handle) W (by have := hF.th; omega) (wpt q)).mono (fun e w' r => wrt r))
  have CB := Lib.hid (fun (W : World) (s : Option Bs) (q : WAt W Bw s) => (YX.wTruth_any (ptr Bw) s e.there W (wpt q)).mono (fun e w' r => wrt r))
  have CO := Lib.hid (fun (W : World) (s : Option Bs) (q : WAt W Bw s) => putObject_any Bw s e.o W hF.o q)
  have CS := Lib.hid (fun (W : World) (s : Option Bs) (q : WAt W Bw s) => putStamp_any Bw s e.desc e.state W hF.desc hF.state q)
  have HBL := Lib.hid hb
  have hmc := hB.c
  have hm0 : (w.alloc (.cells (enC e) 90)).cell? ⟨w.heap.size, 0, none⟩ = some (str (tx e.handle)) := (hmc 0).trans (by simp [str, tx])
  clear hw hb hB hF
  go_enter Tryz.func121, Tryz.ntmps121
  go_wp2_with (first
    | (go_at_call 81; ((refine (CT.out _ _ HW.out).mono ?_); rintro e w2 ⟨rfl, w2h, k2⟩; have M2 := Lib.hid (HB.out.kept k2 (show w.heap.size ≠ Bw by omega)); have m2c := M2.out.c; have m2l := M2.out.lt; have HW2 := Lib.hid w2h; have K2 := Lib.hid (Kept.trans (.of_below HBL.out) k2); clear w2h k2))
    | (go_at_call 86; ((refine (CB.out _ _ HW2.out).mono ?_); rintro e w3 ⟨rfl, w3h, k3⟩; have M3 := Lib.hid (M2.out.kept k3 (show w.heap.size ≠ Bw by omega)); have m3c := M3.out.c; have m3l := M3.out.lt; have HW3 := Lib.hid w3h; have K3 := Lib.hid (K2.out.trans k3); clear w3h k3))
    | (go_at_call 109; ((refine (CO.out _ _ HW3.out).mono ?_); rintro e w4 ⟨rfl, w4h, k4⟩; have M4 := Lib.hid (M3.out.kept k4 (show w.heap.size ≠ Bw by omega)); have m4c := M4.out.c; have m4l := M4.out.lt; have HW4 := Lib.hid w4h; have K4 := Lib.hid (K3.out.trans k4); clear w4h k4))
    | (go_at_call 132; ((refine (CS.out _ _ HW4.out).mono ?_); rintro e w5 ⟨rfl, w5h, k5⟩; have HW5 := Lib.hid w5h; have K5 := Lib.hid (K4.out.trans k5); clear w5h k5)))
  go_end0
  exact ⟨rfl, HW5.out, K5.out⟩
end Go.Proofs.YtjocbokfdfdkeaaGreat.PX
