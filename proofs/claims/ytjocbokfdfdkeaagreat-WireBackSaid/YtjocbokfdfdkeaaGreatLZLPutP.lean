/-
  WALK: putReply.
-/
import Derived.Test.YtjocbokfdfdkeaaGreatLZLPutQ
namespace Go.Proofs.YtjocbokfdfdkeaaGreat.PX
open Go.RowKit HL
open IX (ptr El cellsK cellsK_at cellsK_len OwnK RdK Kept strK)
open YX (numB rdU rdB rdT rdS rdI addW intN natI rest told WAt WPt Wr RAt vS vU vI u8K Got)
open DX (Ch ch chCells chK)
set_option maxRecDepth 100000
set_option linter.unusedVariables false
set_option linter.unusedSimpArgs false

/-- A reply, but for where its rows lie. -/
structure Rp where
  err : Int
  ver : Int
  es : List En
  rver : Int
  cs : List Ch
  gap : Bool
  st : Nat
structure FineP (p : Rp) : Prop where
  err : -9223372036854775808 ≤ p.err ∧ p.err < 9223372036854775808
  ver : -9223372036854775808 ≤ p.ver ∧ p.ver < 9223372036854775808
  es : ∀ x ∈ p.es, FineE x
  many : p.es.length ≤ 1000
  rver : -9223372036854775808 ≤ p.rver ∧ p.rver < 9223372036854775808
  cs : ∀ x ∈ p.cs, FineC x
  few : p.cs.length ≤ 1000
  st : p.st < 256
abbrev rlC (p : Rp) (A : Option Addr) (n c : Nat) (A2 : Option Addr) (n2 c2 : Nat) : Array Value := #[.int .i64 p.err, .int .i64 p.ver, .slice A n c, .int .i64 p.rver, .slice A2 n2 c2, .bool p.gap, .int .u8 p.st]
abbrev rl (p : Rp) (A : Option Addr) (n c : Nat) (A2 : Option Addr) (n2 c2 : Nat) : Value := .agg (rlC p A n c A2 n2 c2)
def rplW (s : Option Bs) (p : Rp) : Option Bs := addW (repW (putsW codE (addW (addW (addW s [112]) (numB (intN p.err))) (numB (intN p.ver))) p.es) p.rver p.cs p.gap) [UInt8.ofNat p.st]
set_option maxHeartbeats 8000000 in
theorem putReply_any (Bw : Nat) (s : Option Bs) (p : Rp) (A : Option Addr) (c : Nat) (A2 : Option Addr) (c2 : Nat) (w : World) (hF : FineP p) (hw : WAt w Bw s) (h : RdK enK w w.heap.size A p.es) (hne : ∀ a, A = some a → p.es ≠ [] → a.block ≠ Bw) (h2 : RdK chK w w.heap.size A2 p.cs) (hne2 : ∀ a, A2 = some a → p.cs ≠ [] → a.block ≠ Bw) :
    Calls Tryz.prog 68 #[ptr Bw, rl p A p.es.length c A2 p.cs.length c2] w fun e w' => Wrt w Bw (rplW s p) e w' := by
  have hb := bAl (Below.refl w.heap.size w) (.cells (rlC p A p.es.length c A2 p.cs.length c2) 36)
  have hBw := hw.lt
  have HW0 := Lib.hid (hw.below hb)
  have M0 := Lib.hid (AtC.new w (rlC p A p.es.length c A2 p.cs.length c2) 36)
  have HB := Lib.hid hb
  have H := Lib.hid h
  have HNE := Lib.hid hne
  have HP := Lib.hid h2
  have HPN := Lib.hid hne2
  clear h2 hne2
  have C0 := Lib.hid (fun (W : World) s (r : WAt W Bw s) => (show Calls Tryz.prog 80 #[ptr Bw, .int .u8 112] W fun e w' => Wrt W Bw (addW s [112]) e w' from (by have r2 := YX.wByte_any (ptr Bw) s 112 (by decide) W (wpt r); exact r2.mono (fun e w' r => show Wrt W Bw (addW s [112]) e w' from wrt r))))
  have C1 := Lib.hid (fun (W : World) s (r : WAt W Bw s) => (YX.wInt_any (ptr Bw) s p.err hF.err.1 hF.err.2 W (wpt r)).mono (fun e w' r => show Wrt W Bw (addW s (numB (intN p.err))) e w' from wrt r))
  have C2 := Lib.hid (fun (W : World) s (r : WAt W Bw s) => (YX.wInt_any (ptr Bw) s p.ver hF.ver.1 hF.ver.2 W (wpt r)).mono (fun e w' r => show Wrt W Bw (addW s (numB (intN p.ver))) e w' from wrt r))
  have C3 := Lib.hid (fun (W : World) s (r : WAt W Bw s) (z : RdK enK W W.heap.size A p.es) => putListE_any Bw s A c p.es 122 W r z hne hF.es hF.many)
  have C4 := Lib.hid (fun (W : World) s (r : WAt W Bw s) (z : RdK chK W W.heap.size A2 p.cs) => putReport_any Bw s p.rver A2 c2 p.cs p.gap W hF.rver r z HPN.out hF.cs hF.few)
  have C5 := Lib.hid (fun (W : World) s (r : WAt W Bw s) => (YX.wByte_any (ptr Bw) s p.st hF.st W (wpt r)).mono (fun e w' r => show Wrt W Bw (addW s [UInt8.ofNat p.st]) e w' from wrt r))
  have CC := Lib.hid entries_any
  obtain ⟨t1, ht1⟩ : ∃ t, t = addW s [112] := ⟨_, rfl⟩
  obtain ⟨t2, ht2⟩ : ∃ t, t = addW t1 (numB (intN p.err)) := ⟨_, rfl⟩
  obtain ⟨t3, ht3⟩ : ∃ t, t = addW t2 (numB (intN p.ver)) := ⟨_, rfl⟩
  obtain ⟨t4, ht4⟩ : ∃ t, t = putsW codE t3 p.es := ⟨_, rfl⟩
  obtain ⟨t5, ht5⟩ : ∃ t, t = repW t4 p.rver p.cs p.gap := ⟨_, rfl⟩
  obtain ⟨t6, ht6⟩ : ∃ t, t = addW t5 [UInt8.ofNat p.st] := ⟨_, rfl⟩
  have HE : Hid (rplW s p = t6) := Lib.hid (by rw [ht6, ht5, ht4, ht3, ht2, ht1]; rfl)
  have D0 := Lib.hid (fun W r => C0.out W s r)
  rw [show addW s [112] = t1 from ht1.symm] at D0
  have D1 := Lib.hid (fun W r => C1.out W t1 r)
  rw [show addW t1 (numB (intN p.err)) = t2 from ht2.symm] at D1
  have D2 := Lib.hid (fun W r => C2.out W t2 r)
  rw [show addW t2 (numB (intN p.ver)) = t3 from ht3.symm] at D2
  have D3 := Lib.hid (fun W r z => C3.out W t3 r z)
  rw [show putsW codE t3 p.es = t4 from ht4.symm] at D3
  have D4 := Lib.hid (fun W r z => C4.out W t4 r z)
  rw [show repW t4 p.rver p.cs p.gap = t5 from ht5.symm] at D4
  have D5 := Lib.hid (fun W r => C5.out W t5 r)
  rw [show addW t5 [UInt8.ofNat p.st] = t6 from ht6.symm] at D5
  rw [HE.out]
  clear h hF hb hw hne HE ht1 ht2 ht3 ht4 ht5 ht6 C0 C1 C2 C3 C4 C5
  generalize p.es.length = n at *
  generalize p.cs.length = n2 at *
  go_enter Tryz.func68, Tryz.ntmps68
  go_upto_region 2 with (go_at_call 80; ((refine (D0.out _ HW0.out).mono ?_); rintro e w1 ⟨rfl, r, k⟩; have HW1 := Lib.hid r; have M1 := Lib.hid (M0.out.kept k (show w.heap.size ≠ Bw by omega)); have K1 := Lib.hid (Kept.trans (.of_below HB.out) k); clear r k))
  have mc1 := M1.out.c
  have ml1 := M1.out.lt
  go_upto_region 3 with (go_at_call 85; ((refine (D1.out _ HW1.out).mono ?_); rintro e w2 ⟨rfl, r, k⟩; have HW2 := Lib.hid r; have M2 := Lib.hid (M1.out.kept k (show w.heap.size ≠ Bw by omega)); have K2 := Lib.hid (K1.out.trans k); clear r k))
  clear mc1 ml1 HW1 M1 K1
  have mc2 := M2.out.c
  have ml2 := M2.out.lt
  go_upto_region 4 with (go_at_call 85; ((refine (D2.out _ HW2.out).mono ?_); rintro e w3 ⟨rfl, r, k⟩; have HW3 := Lib.hid r; have M3 := Lib.hid (M2.out.kept k (show w.heap.size ≠ Bw by omega)); have K3 := Lib.hid (K2.out.trans k); clear r k))
  clear mc2 ml2 HW2 M2 K2
  have HR3 := Lib.hid (rs_kept H.out K3.out HNE.out)
  have ml3 := M3.out.lt
  have hP : ∀ w', Kept w3 w' (· ≠ Bw) → ∀ i, w'.cell? ⟨w.heap.size, i, none⟩ = (rlC p A n c A2 n2 c2)[i]? := fun w' k => (M3.out.kept k (show w.heap.size ≠ Bw by omega)).c
  have kd : Kept w3 w3.drew (· ≠ Bw) := .of_below (bD1L w3)
  have kr : Kept w3 w3 (· ≠ Bw) := Kept.refl _ _
  go_region_held3 (fun w' => ∀ i, w'.cell? ⟨w.heap.size, i, none⟩ = (rlC p A n c A2 n2 c2)[i]?)
    (first | with_reducible assumption | with_reducible exact hP _ kr | with_reducible exact hP _ kd | with_reducible exact hP _ kL | with_reducible exact hP _ kC | exact hP _ (kC.trans (.of_below (bD1L _))))
    (first
    | (go_at_call 98; (with_reducible refine (CC.out _).mono ?_); rintro e wa ⟨rfl, k3⟩; have B3 : Hid (Below w3.heap.size w3 wa) := Lib.hid (by first | exact k3 | exact bThen (bD1L _) k3); have kC : Kept w3 wa (· ≠ Bw) := .of_below B3.out; clear k3)
    | (go_at_call 99; (first | refine (D3.out _ (HW3.out.below B3.out) ((HR3.out.below B3.out).more B3.out.size)).mono ?_ | refine (D3.out _ (HW3.out.below (bThen B3.out (bD1L _))) ((HR3.out.below (bThen B3.out (bD1L _))).more (bThen B3.out (bD1L _)).size)).mono ?_); rintro e w4 ⟨rfl, r4, k4⟩; have kL : Kept w3 w4 (· ≠ Bw) := (by first | exact kC.trans k4 | exact (kC.trans (.of_below (bD1L _))).trans k4); have HW4 := Lib.hid r4; have KL := Lib.hid kL; clear k4 r4))
  have M4 := Lib.hid (M3.out.kept KL.out (show w.heap.size ≠ Bw by omega))
  have K4 := Lib.hid (K3.out.trans KL.out)
  clear hP kd kr ml3 HW3 M3 K3 HR3
  have mc4 := M4.out.c
  have ml4 := M4.out.lt
  have HRR := Lib.hid (rs_kept HP.out K4.out HPN.out)
  go_upto_region 6 with (go_at_call 70; ((refine (D4.out _ HW4.out HRR.out).mono ?_); rintro e w5 ⟨rfl, r, k⟩; have HW5 := Lib.hid r; have M5 := Lib.hid (M4.out.kept k (show w.heap.size ≠ Bw by omega)); have K5 := Lib.hid (K4.out.trans k); clear r k))
  clear mc4 ml4 HW4 M4 K4
  have mc5 := M5.out.c
  have ml5 := M5.out.lt
  go_wp2_with (go_at_call 80; ((refine (D5.out _ HW5.out).mono ?_); rintro e w6 ⟨rfl, r, k⟩; have HW6 := Lib.hid r; have M6 := Lib.hid (M5.out.kept k (show w.heap.size ≠ Bw by omega)); have K6 := Lib.hid (K5.out.trans k); clear r k))
  clear mc5 ml5 HW5 M5 K5
  go_end0
  exact ⟨rfl, HW6.out, K6.out⟩
end Go.Proofs.YtjocbokfdfdkeaaGreat.PX
