/-
  The law WireOne walked.
-/
import Derived.Test.YtjocbokfdfdkeaaGreatLZLOneM
import Derived.OwnWalk
import Derived.RangeFuncNested
import Derived.Deep.CutRange
namespace Go.Proofs.YtjocbokfdfdkeaaGreat.PX
open Go.RowKit HL
open IX (ptr El cellsK cellsK_at cellsK_len OwnK RdK Kept strK slice_toK wpList_spreadK)
open YX (numB rdU rdB rdT rdS rdI addW intN natI rest told WAt WPt Wr RAt vS vU vI u8K Got)
open DX (Ch ch chCells chK zeroCh)
set_option maxRecDepth 100000
set_option linter.unusedVariables false
set_option linter.unusedSimpArgs false

set_option maxHeartbeats 4000000 in
theorem one14_n (A : Option Addr) (c : Nat) (b : Bs) (i : Int) (x : UInt8) (w : World) (h : RdK u8K w w.heap.size A b) (hA : A = none → c = 0) (hc : b.length ≤ c) (hm : b.length ≤ maxLen) (hl : b.length ≤ 3000) (hQ : readQ b = none) (hY : readY b = none) (hR : readR b = none) :
    Calls Tryz.prog 6 #[.slice A b.length c, .int .i64 i, .int .u8 (x.toNat : Int)] w fun e w' => e = .returned (.bool true) ∧ Below w.heap.size w w' := by
  have CA := Lib.hid (JX.awake14_any w)
  have i1 : ¬ (3000 : Int) < (b.length : Int) := by omega
  have HR := Lib.hid h
  have CQ := Lib.hid (fun (W : World) (k : Below w.heap.size w W) => noQ A c b W ((h.below k).more k.size) (by omega) hA hQ)
  have CY := Lib.hid (fun (W : World) (k : Below w.heap.size w W) => noY A c b W ((h.below k).more k.size) (by omega) hA hY)
  have CR := Lib.hid (fun (W : World) (k : Below w.heap.size w W) => noR A c b W ((h.below k).more k.size) (by omega) hA hR)
  have zallQ : zQ.all (·.oneCell') = true := by kernel_rfl
  have zallY : zY.all (·.oneCell') = true := by kernel_rfl
  have zallR : zR.all (·.oneCell') = true := by kernel_rfl
  clear h
  clear hQ hY hR
  go_enter Tryz.func6, Tryz.ntmps6
  go_upto_region 5 with (go_at_call 26; ((refine CA.out.mono ?_); rintro e w1 ⟨rfl, k1⟩; have K1 := Lib.hid k1; clear k1))
  go_upto_region 6 with (first
    | (go_at_call 19; ((refine (CQ.out _ K1.out).mono ?_); rintro e wx ⟨rfl, kx⟩; have KX := Lib.hid (bThen K1.out kx); have KXX := Lib.hid kx; clear kx))
    | ((show wpList _ _ _ ({ dst := none, op := _, type := _, pos := _, after := _, guard := _ } :: _) _ _); (refine wpList_store_mid rfl _ _ _ rfl wx.heap.size 0 (zQ) rfl rfl (there_at (C := zQ) (AtC.new wx zQ 29)) (by kernel_rfl) zallQ ?_)))
  have K2 := Lib.hid (set_below (bAl KX.out (.cells zQ 29)) (B := wx.heap.size) KX.out.size (zQ))
  have J2 := Lib.hid (set_below (w := wx) (bAl (Below.refl wx.heap.size wx) (.cells zQ 29)) (B := wx.heap.size) (Nat.le_refl _) (zQ))
  change Code.wp _ _ _ _ ((wx.alloc (.cells zQ 29)).setCells wx.heap.size 0 (zQ : Array Value).toList)
  generalize (wx.alloc (.cells zQ 29)).setCells wx.heap.size 0 (zQ : Array Value).toList = W2 at *
  clear KX KXX J2
  go_upto_region 7 with (first
    | (go_at_call 21; ((refine (CY.out _ K2.out).mono ?_); rintro e wx ⟨rfl, kx⟩; have KX := Lib.hid (bThen K2.out kx); have KXX := Lib.hid kx; clear kx))
    | ((show wpList _ _ _ ({ dst := none, op := _, type := _, pos := _, after := _, guard := _ } :: _) _ _); (refine wpList_store_mid rfl _ _ _ rfl wx.heap.size 0 (zY) rfl rfl (there_at (C := zY) (AtC.new wx zY 36)) (by kernel_rfl) zallY ?_)))
  have K3 := Lib.hid (set_below (bAl KX.out (.cells zY 36)) (B := wx.heap.size) KX.out.size (zY))
  have J3 := Lib.hid (set_below (w := wx) (bAl (Below.refl wx.heap.size wx) (.cells zY 36)) (B := wx.heap.size) (Nat.le_refl _) (zY))
  change Code.wp _ _ _ _ ((wx.alloc (.cells zY 36)).setCells wx.heap.size 0 (zY : Array Value).toList)
  generalize (wx.alloc (.cells zY 36)).setCells wx.heap.size 0 (zY : Array Value).toList = W3 at *
  clear KX KXX J3
  go_upto_region 8 with (first
    | (go_at_call 23; ((refine (CR.out _ K3.out).mono ?_); rintro e wx ⟨rfl, kx⟩; have KX := Lib.hid (bThen K3.out kx); have KXX := Lib.hid kx; clear kx))
    | ((show wpList _ _ _ ({ dst := none, op := _, type := _, pos := _, after := _, guard := _ } :: _) _ _); (refine wpList_store_mid rfl _ _ _ rfl wx.heap.size 0 (zR) rfl rfl (there_at (C := zR) (AtC.new wx zR 34)) (by kernel_rfl) zallR ?_)))
  have K4 := Lib.hid (set_below (bAl KX.out (.cells zR 34)) (B := wx.heap.size) KX.out.size (zR))
  have J4 := Lib.hid (set_below (w := wx) (bAl (Below.refl wx.heap.size wx) (.cells zR 34)) (B := wx.heap.size) (Nat.le_refl _) (zR))
  change Code.wp _ _ _ _ ((wx.alloc (.cells zR 34)).setCells wx.heap.size 0 (zR : Array Value).toList)
  generalize (wx.alloc (.cells zR 34)).setCells wx.heap.size 0 (zR : Array Value).toList = W4 at *
  clear KX KXX J4
  go_wp2
  go_ret
  exact ⟨rfl, K4.out⟩
end Go.Proofs.YtjocbokfdfdkeaaGreat.PX
