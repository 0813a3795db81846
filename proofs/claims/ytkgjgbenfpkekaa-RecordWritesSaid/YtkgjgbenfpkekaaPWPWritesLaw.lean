/-
  The law RecordWrites walked.
-/
import Derived.Test.YtkgjgbenfpkekaaPW3
import Derived.Test.YtkgjgbenfpkekaaPW4
import Derived.Test.YtkgjgbenfpkekaaPW1
namespace Go.Proofs.Ytkgjgbenfpkekaa.PX
open Go.RowKit HL
open IX (ptr El cellsK cellsK_at cellsK_len OwnK RdK Kept)
open YX (numB rdU rdB rdT rdS rdI addW intN natI rest told u8K)
open WX (obK)
open DX (Ch ch chCells chK)
set_option maxRecDepth 100000
set_option linter.unusedVariables false
set_option linter.unusedSimpArgs false

def nOf : Option Bs → Int
  | some _ => 0
  | none => 3
/-- A row that is turned into this text. -/
def Txt (w : World) (v : Value) (s : Bs) : Prop := ∀ W, Below w.heap.size w W → (convert 26 9 v).run Try.prog W = .ok (str s) W
theorem Txt.below {w W : World} {v : Value} {s : Bs} (h : Txt w v s) (k : Below w.heap.size w W) : Txt W v s := fun W2 q => h W2 (bThen k q)
def TelB (w0 : World) (n : Int) (s : Bs) (e : Ending) (w' : World) : Prop := ∃ v, e = .returned (.tuple #[v, .int .i64 n]) ∧ Txt w' v s ∧ Below w0.heap.size w0 w'
theorem bts_telB {w0 : World} {r : Option Bs} {e : Ending} {w' : World} (h : Bts w0 r e w') : TelB w0 (nOf r) (r.getD []) e w' := by
  obtain ⟨v, n, rfl, hb, k⟩ := h
  cases hb with
  | yes' v l hr =>
    obtain ⟨A, c, rfl, r1, _⟩ := hr
    exact ⟨_, rfl, fun W q => YX.conv_str ((r1.below q).more q.size) rfl, k⟩
  | no' => exact ⟨_, rfl, fun W q => YX.conv_str (B := 0) (l := []) (.inl rfl) rfl, k⟩
set_option maxHeartbeats 8000000 in
theorem writes_walk (A1 A2 A3 : Option Addr) (c1 c2 c3 : Nat) (l : List Ob) (s : List Ch) (es : List En) (w : World) (h1 : RdK obK w w.heap.size A1 l) (h2 : RdK chK w w.heap.size A2 s) (h3 : RdK enK w w.heap.size A3 es) (m1 : l.length ≤ maxLen) (m2 : s.length ≤ maxLen) (m3 : es.length ≤ maxLen)
    (f1 : longAll l s es = false → (∀ x ∈ l, Fine x) ∧ (∀ x ∈ s, FineC x) ∧ (∀ x ∈ es, FineE x)) :
    Calls Try.prog 3 #[.slice A1 l.length c1, .slice A2 s.length c2, .slice A3 es.length c3] w fun e w' => e = .returned (.bool true) ∧ Below w.heap.size w w' := by
  have CL := Lib.hid (longAll_any A1 A2 A3 c1 c2 c3 l s es w h1 h2 h3 m1 m2 m3)
  cases hla : longAll l s es with
  | true =>
    rw [hla] at CL
    clear h1 h2 h3 hla f1
    go_enter Try.func3, Try.ntmps3
    go_wp2_with (go_at_call 7; ((refine CL.out.mono ?_); rintro e w1 ⟨rfl, k1⟩; have K1 := Lib.hid k1; clear k1))
    go_ret
    exact ⟨rfl, K1.out⟩
  | false =>
    rw [hla] at CL
    obtain ⟨fo, fc, fe⟩ := f1 hla
    have hlen : l.length ≤ 80 ∧ s.length ≤ 80 ∧ es.length ≤ 80 := by
      simp only [longAll, Bool.or_eq_false_iff, decide_eq_false_iff_not] at hla
      omega
    obtain ⟨hl1, hl2, hl3⟩ := hlen
    have PO := Lib.hid (fun W (k : Below w.heap.size w W) => (lawO_any A1 c1 l W ((h1.below k).more k.size) fo (by omega)).mono fun _ _ => bts_telB)
    have RO := Lib.hid (fun W (k : Below w.heap.size w W) => (refObjects_any A1 c1 l W ((h1.below k).more k.size) fo (by omega)).mono fun _ _ => bts_telB)
    have PC := Lib.hid (fun W (k : Below w.heap.size w W) => (lawC_any A2 c2 s W ((h2.below k).more k.size) fc (by omega)).mono fun _ _ => bts_telB)
    have RC := Lib.hid (fun W (k : Below w.heap.size w W) => (refSet_any A2 c2 s W ((h2.below k).more k.size) fc (by omega)).mono fun _ _ => bts_telB)
    have PE := Lib.hid (fun W (k : Below w.heap.size w W) => (lawE_any A3 c3 es W ((h3.below k).more k.size) fe (by omega)).mono fun _ _ => bts_telB)
    have RE := Lib.hid (fun W (k : Below w.heap.size w W) => (refEntries_any A3 c3 es W ((h3.below k).more k.size) fe (by omega)).mono fun _ _ => bts_telB)
    clear h1 h2 h3 hla f1 fo fc fe m1 m2 m3
    generalize writeL codO l = rO at *
    generalize nOf rO = nO at *
    generalize rO.getD [] = sO at *
    generalize writeL codC s = rC at *
    generalize nOf rC = nC at *
    generalize rC.getD [] = sC at *
    generalize writeL codE es = rE at *
    generalize nOf rE = nE at *
    generalize rE.getD [] = sE at *
    go_enter Try.func3, Try.ntmps3
    go_wp2_with (first
      | (go_at_call 7; ((refine CL.out.mono ?_); rintro e w1 ⟨rfl, k1⟩; have K1 := Lib.hid k1; clear k1))
      | (go_at_call 8; ((refine (PO.out _ K1.out).mono ?_); rintro e w2 ⟨v2, rfl, t2, k2⟩; have T0 := Lib.hid t2; have K2 := Lib.hid (bThen K1.out k2); clear t2 k2))
      | (go_at_call 9; ((refine (RO.out _ K2.out).mono ?_); rintro e w3 ⟨v3, rfl, t3, k3⟩; replace T0 := Lib.hid (T0.out.below k3); have T1 := Lib.hid t3; have K3 := Lib.hid (bThen K2.out k3); clear t3 k3))
      | (go_at_call 10; ((refine (PC.out _ K3.out).mono ?_); rintro e w4 ⟨v4, rfl, t4, k4⟩; replace T0 := Lib.hid (T0.out.below k4); replace T1 := Lib.hid (T1.out.below k4); have T2 := Lib.hid t4; have K4 := Lib.hid (bThen K3.out k4); clear t4 k4))
      | (go_at_call 11; ((refine (RC.out _ K4.out).mono ?_); rintro e w5 ⟨v5, rfl, t5, k5⟩; replace T0 := Lib.hid (T0.out.below k5); replace T1 := Lib.hid (T1.out.below k5); replace T2 := Lib.hid (T2.out.below k5); have T3 := Lib.hid t5; have K5 := Lib.hid (bThen K4.out k5); clear t5 k5))
      | (go_at_call 12; ((refine (PE.out _ K5.out).mono ?_); rintro e w6 ⟨v6, rfl, t6, k6⟩; replace T0 := Lib.hid (T0.out.below k6); replace T1 := Lib.hid (T1.out.below k6); replace T2 := Lib.hid (T2.out.below k6); replace T3 := Lib.hid (T3.out.below k6); have T4 := Lib.hid t6; have K6 := Lib.hid (bThen K5.out k6); clear t6 k6))
      | (go_at_call 13; ((refine (RE.out _ K6.out).mono ?_); rintro e w7 ⟨v7, rfl, t7, k7⟩; replace T0 := Lib.hid (T0.out.below k7); replace T1 := Lib.hid (T1.out.below k7); replace T2 := Lib.hid (T2.out.below k7); replace T3 := Lib.hid (T3.out.below k7); replace T4 := Lib.hid (T4.out.below k7); have T5 := Lib.hid t7; have K7 := Lib.hid (bThen K6.out k7); clear t7 k7; have g0 := T0.out _ (Below.refl _ _); have g1 := T1.out _ (Below.refl _ _); have g2 := T2.out _ (Below.refl _ _); have g3 := T3.out _ (Below.refl _ _); have g4 := T4.out _ (Below.refl _ _); have g5 := T5.out _ (Below.refl _ _))))
    go_ret
    exact ⟨by simp, K7.out⟩
theorem writes_in (A1 A2 A3 : Option Addr) (c1 c2 c3 : Nat) (l : List Ob) (s : List Ch) (es : List En) (w : World) (h1 : RdK obK w w.heap.size A1 l) (h2 : RdK chK w w.heap.size A2 s) (h3 : RdK enK w w.heap.size A3 es) (m1 : l.length ≤ maxLen) (m2 : s.length ≤ maxLen) (m3 : es.length ≤ maxLen)
    (b1 : ∀ x ∈ l, Go.Proofs.Ytkgjgbenfpkekaa.Fine x) (b2 : ∀ x ∈ s, x.kind ≤ 255 ∧ Go.Proofs.Ytkgjgbenfpkekaa.Fine x.o) (b3 : ∀ x ∈ es, InE x) :
    Calls Try.prog 3 #[.slice A1 l.length c1, .slice A2 s.length c2, .slice A3 es.length c3] w fun e w' => e = .returned (.bool true) ∧ Below w.heap.size w w' :=
  writes_walk A1 A2 A3 c1 c2 c3 l s es w h1 h2 h3 m1 m2 m3 (fines b1 b2 b3)
end Go.Proofs.Ytkgjgbenfpkekaa.PX
