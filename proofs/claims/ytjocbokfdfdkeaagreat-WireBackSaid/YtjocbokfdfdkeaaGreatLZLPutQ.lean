/-
  WALK: putRequest.
-/
import Derived.Test.YtjocbokfdfdkeaaGreatLZLForm2
import Derived.Test.YtjocbokfdfdkeaaGreatLZLRep
namespace Go.Proofs.YtjocbokfdfdkeaaGreat.PX
open Go.RowKit HL
open IX (ptr El cellsK cellsK_at cellsK_len OwnK RdK Kept strK)
open YX (numB rdU rdB rdT rdS rdI addW intN natI rest told WAt WPt Wr RAt vS vU vI u8K Got)
open DX (Ch ch chCells chK)
set_option maxRecDepth 100000
set_option linter.unusedVariables false
set_option linter.unusedSimpArgs false

/-- A request, but for where its Handles lie. -/
structure Rq where
  kind : Nat
  handle : ByteArray
  hs : List Bs
  ch : Ch
  op : Nat
  low : Int
  high : Int
  on : Bool
  assoc : Nat
  expect : Int
  mask : Nat
structure FineQ (q : Rq) : Prop where
  kind : q.kind < 256
  handle : (tx q.handle).length ≤ 1000
  hs : ∀ x ∈ q.hs, x.length ≤ 1000
  many : q.hs.length ≤ 1000
  ch : FineC q.ch
  op : q.op < 256
  low : -9223372036854775808 ≤ q.low ∧ q.low < 9223372036854775808
  high : -9223372036854775808 ≤ q.high ∧ q.high < 9223372036854775808
  assoc : q.assoc < 256
  expect : -9223372036854775808 ≤ q.expect ∧ q.expect < 9223372036854775808
  mask : q.mask < 65536
abbrev rqC (q : Rq) (A : Option Addr) (n c : Nat) : Array Value := #[.int .u8 q.kind, .string q.handle, .slice A n c, .int .u8 q.ch.kind, .string q.ch.o.handle, .int .u8 q.ch.o.kind, .string q.ch.o.parent, .int .u8 q.ch.o.typ, .string q.ch.o.ref, .int .i64 q.ch.o.lo, .int .i64 q.ch.o.hi, .int .u8 q.ch.o.digits, .bool q.ch.o.on, .bool q.ch.o.has, .int .i64 q.ch.o.value, .int .i64 q.ch.o.low, .int .i64 q.ch.o.high, .int .u8 q.ch.o.assoc, .int .u8 q.op, .int .i64 q.low, .int .i64 q.high, .bool q.on, .int .u8 q.assoc, .int .i64 q.expect, .int .u16 q.mask]
abbrev rq (q : Rq) (A : Option Addr) (n c : Nat) : Value := .agg (rqC q A n c)
def reqW (s : Option Bs) (q : Rq) : Option Bs := addW (addW (addW (addW (addW (addW (addW (codC.W (putsW codS (textW (addW (addW s [113]) [UInt8.ofNat q.kind]) (tx q.handle)) q.hs) q.ch) [UInt8.ofNat q.op]) (numB (intN q.low))) (numB (intN q.high))) [if q.on then 1 else 0]) [UInt8.ofNat q.assoc]) (numB (intN q.expect))) (numB q.mask)
theorem rs_kept {α : Type} {K : El α} {w w' : World} {Bw : Nat} {A : Option Addr} {l : List α} (h : RdK K w w.heap.size A l) (k : Kept w w' (· ≠ Bw)) (hne : ∀ a, A = some a → l ≠ [] → a.block ≠ Bw) : RdK K w' w'.heap.size A l := by
  by_cases hl : l = []
  · exact .inl hl
  · exact (IX.RdK.kept h k (Nat.le_refl _) (fun a e => hne a e hl)).more k.size
set_option maxHeartbeats 8000000 in
theorem putRequest_any (Bw : Nat) (s : Option Bs) (q : Rq) (A : Option Addr) (c : Nat) (w : World) (hF : FineQ q) (hw : WAt w Bw s) (h : RdK strK w w.heap.size A q.hs) (hne : ∀ a, A = some a → q.hs ≠ [] → a.block ≠ Bw) :
    Calls Tryz.prog 64 #[ptr Bw, rq q A q.hs.length c] w fun e w' => Wrt w Bw (reqW s q) e w' := by
  have hb := bAl (Below.refl w.heap.size w) (.cells (rqC q A q.hs.length c) 29)
  have hBw := hw.lt
  have HW0 := Lib.hid (hw.below hb)
  have M0 := Lib.hid (AtC.new w (rqC q A q.hs.length c) 29)
  have HB := Lib.hid hb
  have H := Lib.hid h
  have HNE := Lib.hid hne
  have hu16 : IntKind.u64.wrap (q.mask : Int) = (q.mask : Int) := YX.wU (by have := hF.mask; omega)
  have C0 := Lib.hid (fun (W : World) s (r : WAt W Bw s) => (show Calls Tryz.prog 80 #[ptr Bw, .int .u8 113] W fun e w' => Wrt W Bw (addW s [113]) e w' from (by have r2 := YX.wByte_any (ptr Bw) s 113 (by decide) W (wpt r); exact r2.mono (fun e w' r => show Wrt W Bw (addW s [113]) e w' from wrt r))))
  have C1 := Lib.hid (fun (W : World) s (r : WAt W Bw s) => (YX.wByte_any (ptr Bw) s q.kind hF.kind W (wpt r)).mono (fun e w' r => show Wrt W Bw (addW s [UInt8.ofNat q.kind]) e w' from wrt r))
  have C2 := Lib.hid (fun (W : World) s (r : WAt W Bw s) => (YX.wText_any (ptr Bw) s (tx q.handle) W (by have := hF.handle; omega) (wpt r)).mono (fun e w' r => show Wrt W Bw (textW s (tx q.handle)) e w' from wrt r))
  have C3 := Lib.hid (fun (W : World) s (r : WAt W Bw s) (z : RdK strK W W.heap.size A q.hs) => putListS_any Bw s A c q.hs 89 W r z hne hF.hs hF.many)
  have C4 := Lib.hid (fun (W : World) s (r : WAt W Bw s) => putChange_any Bw s q.ch W hF.ch r)
  have C5 := Lib.hid (fun (W : World) s (r : WAt W Bw s) => (YX.wByte_any (ptr Bw) s q.op hF.op W (wpt r)).mono (fun e w' r => show Wrt W Bw (addW s [UInt8.ofNat q.op]) e w' from wrt r))
  have C6 := Lib.hid (fun (W : World) s (r : WAt W Bw s) => (YX.wInt_any (ptr Bw) s q.low hF.low.1 hF.low.2 W (wpt r)).mono (fun e w' r => show Wrt W Bw (addW s (numB (intN q.low))) e w' from wrt r))
  have C7 := Lib.hid (fun (W : World) s (r : WAt W Bw s) => (YX.wInt_any (ptr Bw) s q.high hF.high.1 hF.high.2 W (wpt r)).mono (fun e w' r => show Wrt W Bw (addW s (numB (intN q.high))) e w' from wrt r))
  have C8 := Lib.hid (fun (W : World) s (r : WAt W Bw s) => (YX.wTruth_any (ptr Bw) s q.on W (wpt r)).mono (fun e w' r => show Wrt W Bw (addW s [if q.on then 1 else 0]) e w' from wrt r))
  have C9 := Lib.hid (fun (W : World) s (r : WAt W Bw s) => (YX.wByte_any (ptr Bw) s q.assoc hF.assoc W (wpt r)).mono (fun e w' r => show Wrt W Bw (addW s [UInt8.ofNat q.assoc]) e w' from wrt r))
  have C10 := Lib.hid (fun (W : World) s (r : WAt W Bw s) => (YX.wInt_any (ptr Bw) s q.expect hF.expect.1 hF.expect.2 W (wpt r)).mono (fun e w' r => show Wrt W Bw (addW s (numB (intN q.expect))) e w' from wrt r))
  have C11 := Lib.hid (fun (W : World) s (r : WAt W Bw s) => (YX.wUint_any (ptr Bw) s q.mask _ rfl (by have := hF.mask; omega) W (wpt r)).mono (fun e w' r => show Wrt W Bw (addW s (numB q.mask)) e w' from wrt r))
  have CC := Lib.hid handles_any
  obtain ⟨t1, ht1⟩ : ∃ t, t = addW s [113] := ⟨_, rfl⟩
  obtain ⟨t2, ht2⟩ : ∃ t, t = addW t1 [UInt8.ofNat q.kind] := ⟨_, rfl⟩
  obtain ⟨t3, ht3⟩ : ∃ t, t = textW t2 (tx q.handle) := ⟨_, rfl⟩
  obtain ⟨t4, ht4⟩ : ∃ t, t = putsW codS t3 q.hs := ⟨_, rfl⟩
  obtain ⟨t5, ht5⟩ : ∃ t, t = codC.W t4 q.ch := ⟨_, rfl⟩
  obtain ⟨t6, ht6⟩ : ∃ t, t = addW t5 [UInt8.ofNat q.op] := ⟨_, rfl⟩
  obtain ⟨t7, ht7⟩ : ∃ t, t = addW t6 (numB (intN q.low)) := ⟨_, rfl⟩
  obtain ⟨t8, ht8⟩ : ∃ t, t = addW t7 (numB (intN q.high)) := ⟨_, rfl⟩
  obtain ⟨t9, ht9⟩ : ∃ t, t = addW t8 [if q.on then 1 else 0] := ⟨_, rfl⟩
  obtain ⟨t10, ht10⟩ : ∃ t, t = addW t9 [UInt8.ofNat q.assoc] := ⟨_, rfl⟩
  obtain ⟨t11, ht11⟩ : ∃ t, t = addW t10 (numB (intN q.expect)) := ⟨_, rfl⟩
  obtain ⟨t12, ht12⟩ : ∃ t, t = addW t11 (numB q.mask) := ⟨_, rfl⟩
  have HE : Hid (reqW s q = t12) := Lib.hid (by rw [ht12, ht11, ht10, ht9, ht8, ht7, ht6, ht5, ht4, ht3, ht2, ht1]; rfl)
  have D0 := Lib.hid (fun W r => C0.out W s r)
  rw [show addW s [113] = t1 from ht1.symm] at D0
  have D1 := Lib.hid (fun W r => C1.out W t1 r)
  rw [show addW t1 [UInt8.ofNat q.kind] = t2 from ht2.symm] at D1
  have D2 := Lib.hid (fun W r => C2.out W t2 r)
  rw [show textW t2 (tx q.handle) = t3 from ht3.symm] at D2
  have D3 := Lib.hid (fun W r z => C3.out W t3 r z)
  rw [show putsW codS t3 q.hs = t4 from ht4.symm] at D3
  have D4 := Lib.hid (fun W r => C4.out W t4 r)
  rw [show codC.W t4 q.ch = t5 from ht5.symm] at D4
  have D5 := Lib.hid (fun W r => C5.out W t5 r)
  rw [show addW t5 [UInt8.ofNat q.op] = t6 from ht6.symm] at D5
  have D6 := Lib.hid (fun W r => C6.out W t6 r)
  rw [show addW t6 (numB (intN q.low)) = t7 from ht7.symm] at D6
  have D7 := Lib.hid (fun W r => C7.out W t7 r)
  rw [show addW t7 (numB (intN q.high)) = t8 from ht8.symm] at D7
  have D8 := Lib.hid (fun W r => C8.out W t8 r)
  rw [show addW t8 [if q.on then 1 else 0] = t9 from ht9.symm] at D8
  have D9 := Lib.hid (fun W r => C9.out W t9 r)
  rw [show addW t9 [UInt8.ofNat q.assoc] = t10 from ht10.symm] at D9
  have D10 := Lib.hid (fun W r => C10.out W t10 r)
  rw [show addW t10 (numB (intN q.expect)) = t11 from ht11.symm] at D10
  have D11 := Lib.hid (fun W r => C11.out W t11 r)
  rw [show addW t11 (numB q.mask) = t12 from ht12.symm] at D11
  rw [HE.out]
  clear h hF hb hw hne HE ht1 ht2 ht3 ht4 ht5 ht6 ht7 ht8 ht9 ht10 ht11 ht12 C0 C1 C2 C3 C4 C5 C6 C7 C8 C9 C10 C11
  generalize q.hs.length = n at *
  go_enter Tryz.func64, Tryz.ntmps64
  go_upto_region 2 with (go_at_call 80; ((refine (D0.out _ HW0.out).mono ?_); rintro e w1 ⟨rfl, r, k⟩; have HW1 := Lib.hid r; have M1 := Lib.hid (M0.out.kept k (show w.heap.size ≠ Bw by omega)); have K1 := Lib.hid (Kept.trans (.of_below HB.out) k); clear r k))
  have mc1 := M1.out.c
  have ml1 := M1.out.lt
  go_upto_region 3 with (go_at_call 80; ((refine (D1.out _ HW1.out).mono ?_); rintro e w2 ⟨rfl, r, k⟩; have HW2 := Lib.hid r; have M2 := Lib.hid (M1.out.kept k (show w.heap.size ≠ Bw by omega)); have K2 := Lib.hid (K1.out.trans k); clear r k))
  clear mc1 ml1 HW1 M1 K1
  have mc2 := M2.out.c
  have ml2 := M2.out.lt
  go_upto_region 4 with (go_at_call 81; ((refine (D2.out _ HW2.out).mono ?_); rintro e w3 ⟨rfl, r, k⟩; have HW3 := Lib.hid r; have M3 := Lib.hid (M2.out.kept k (show w.heap.size ≠ Bw by omega)); have K3 := Lib.hid (K2.out.trans k); clear r k))
  clear mc2 ml2 HW2 M2 K2
  have HR3 := Lib.hid (rs_kept H.out K3.out HNE.out)
  have ml3 := M3.out.lt
  have hP : ∀ w', Kept w3 w' (· ≠ Bw) → ∀ i, w'.cell? ⟨w.heap.size, i, none⟩ = (rqC q A n c)[i]? := fun w' k => (M3.out.kept k (show w.heap.size ≠ Bw by omega)).c
  have kd : Kept w3 w3.drew (· ≠ Bw) := .of_below (bD1L w3)
  have kr : Kept w3 w3 (· ≠ Bw) := Kept.refl _ _
  go_region_held3 (fun w' => ∀ i, w'.cell? ⟨w.heap.size, i, none⟩ = (rqC q A n c)[i]?)
    (first | with_reducible assumption | with_reducible exact hP _ kr | with_reducible exact hP _ kd | with_reducible exact hP _ kL | with_reducible exact hP _ kC | exact hP _ (kC.trans (.of_below (bD1L _))))
    (first
    | (go_at_call 82; (with_reducible refine (CC.out _).mono ?_); rintro e wa ⟨rfl, k3⟩; have B3 : Hid (Below w3.heap.size w3 wa) := Lib.hid (by first | exact k3 | exact bThen (bD1L _) k3); have kC : Kept w3 wa (· ≠ Bw) := .of_below B3.out; clear k3)
    | (go_at_call 83; (first | refine (D3.out _ (HW3.out.below B3.out) ((HR3.out.below B3.out).more B3.out.size)).mono ?_ | refine (D3.out _ (HW3.out.below (bThen B3.out (bD1L _))) ((HR3.out.below (bThen B3.out (bD1L _))).more (bThen B3.out (bD1L _)).size)).mono ?_); rintro e w4 ⟨rfl, r4, k4⟩; have kL : Kept w3 w4 (· ≠ Bw) := (by first | exact kC.trans k4 | exact (kC.trans (.of_below (bD1L _))).trans k4); have HW4 := Lib.hid r4; have KL := Lib.hid kL; clear k4 r4))
  have M4 := Lib.hid (M3.out.kept KL.out (show w.heap.size ≠ Bw by omega))
  have K4 := Lib.hid (K3.out.trans KL.out)
  clear hP kd kr ml3 HW3 M3 K3 HR3
  have mc4 := M4.out.c
  have ml4 := M4.out.lt
  go_upto_region 6 with (go_at_call 84; ((refine (D4.out _ HW4.out).mono ?_); rintro e w5 ⟨rfl, r, k⟩; have HW5 := Lib.hid r; have M5 := Lib.hid (M4.out.kept k (show w.heap.size ≠ Bw by omega)); have K5 := Lib.hid (K4.out.trans k); clear r k))
  clear mc4 ml4 HW4 M4 K4
  have mc5 := M5.out.c
  have ml5 := M5.out.lt
  go_upto_region 7 with (go_at_call 80; ((refine (D5.out _ HW5.out).mono ?_); rintro e w6 ⟨rfl, r, k⟩; have HW6 := Lib.hid r; have M6 := Lib.hid (M5.out.kept k (show w.heap.size ≠ Bw by omega)); have K6 := Lib.hid (K5.out.trans k); clear r k))
  clear mc5 ml5 HW5 M5 K5
  have mc6 := M6.out.c
  have ml6 := M6.out.lt
  go_upto_region 8 with (go_at_call 85; ((refine (D6.out _ HW6.out).mono ?_); rintro e w7 ⟨rfl, r, k⟩; have HW7 := Lib.hid r; have M7 := Lib.hid (M6.out.kept k (show w.heap.size ≠ Bw by omega)); have K7 := Lib.hid (K6.out.trans k); clear r k))
  clear mc6 ml6 HW6 M6 K6
  have mc7 := M7.out.c
  have ml7 := M7.out.lt
  go_upto_region 9 with (go_at_call 85; ((refine (D7.out _ HW7.out).mono ?_); rintro e w8 ⟨rfl, r, k⟩; have HW8 := Lib.hid r; have M8 := Lib.hid (M7.out.kept k (show w.heap.size ≠ Bw by omega)); have K8 := Lib.hid (K7.out.trans k); clear r k))
  clear mc7 ml7 HW7 M7 K7
  have mc8 := M8.out.c
  have ml8 := M8.out.lt
  go_upto_region 10 with (go_at_call 86; ((refine (D8.out _ HW8.out).mono ?_); rintro e w9 ⟨rfl, r, k⟩; have HW9 := Lib.hid r; have M9 := Lib.hid (M8.out.kept k (show w.heap.size ≠ Bw by omega)); have K9 := Lib.hid (K8.out.trans k); clear r k))
  clear mc8 ml8 HW8 M8 K8
  have mc9 := M9.out.c
  have ml9 := M9.out.lt
  go_upto_region 11 with (go_at_call 80; ((refine (D9.out _ HW9.out).mono ?_); rintro e w10 ⟨rfl, r, k⟩; have HW10 := Lib.hid r; have M10 := Lib.hid (M9.out.kept k (show w.heap.size ≠ Bw by omega)); have K10 := Lib.hid (K9.out.trans k); clear r k))
  clear mc9 ml9 HW9 M9 K9
  have mc10 := M10.out.c
  have ml10 := M10.out.lt
  go_upto_region 12 with (go_at_call 85; ((refine (D10.out _ HW10.out).mono ?_); rintro e w11 ⟨rfl, r, k⟩; have HW11 := Lib.hid r; have M11 := Lib.hid (M10.out.kept k (show w.heap.size ≠ Bw by omega)); have K11 := Lib.hid (K10.out.trans k); clear r k))
  clear mc10 ml10 HW10 M10 K10
  have mc11 := M11.out.c
  have ml11 := M11.out.lt
  go_wp2_with (go_at_call 87; ((refine (D11.out _ HW11.out).mono ?_); rintro e w12 ⟨rfl, r, k⟩; have HW12 := Lib.hid r; have M12 := Lib.hid (M11.out.kept k (show w.heap.size ≠ Bw by omega)); have K12 := Lib.hid (K11.out.trans k); clear r k))
  clear mc11 ml11 HW11 M11 K11
  go_end0
  exact ⟨rfl, HW12.out, K12.out⟩
end Go.Proofs.YtjocbokfdfdkeaaGreat.PX
