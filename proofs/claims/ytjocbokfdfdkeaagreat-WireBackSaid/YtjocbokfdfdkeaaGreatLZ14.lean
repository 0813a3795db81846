/-
  The law WireBack, where of request, reply and report those have bytes: nnn.
-/
import Derived.Test.YtjocbokfdfdkeaaGreatLZ13
namespace Go.Proofs.YtjocbokfdfdkeaaGreat.PX
open Go.RowKit HL
open IX (ptr El cellsK cellsK_at cellsK_len OwnK RdK Kept strK)
open YX (numB rdU rdB rdT rdS rdI addW intN natI rest told WAt WPt Wr RAt vS vU vI u8K Got)
open DX (Ch ch chCells chK zeroCh)
set_option maxRecDepth 100000
set_option linter.unusedVariables false
set_option linter.unusedSimpArgs false

set_option maxHeartbeats 4000000 in
theorem back14_nnn (q : Rq) (p : Rp) (A : Option Addr) (c : Nat) (A2 : Option Addr) (c2 : Nat) (A3 : Option Addr) (c3 : Nat) (w : World) (h : RdK strK w w.heap.size A q.hs) (h2 : RdK enK w w.heap.size A2 p.es) (h3 : RdK chK w w.heap.size A3 p.cs) (hF : FineQ q) (hP : FineP p) (el : longQ q = false) (ey : longAll [] p.cs p.es = false) (eq : reqB q = none) (ep : rplB p = none) (er : repB p.rver p.cs p.gap = none) :
    Calls Tryz.prog 5 #[rq q A q.hs.length c, rl p A2 p.es.length c2 A3 p.cs.length c3] w fun e w' => e = .returned (.bool true) ∧ Below w.heap.size w w' := by
  have hb := bAl (bAl (Below.refl w.heap.size w) (.cells (rqC q A q.hs.length c) 29)) (.cells (rlC p A2 p.es.length c2 A3 p.cs.length c3) 36)
  have m1 := (AtC.new w (rqC q A q.hs.length c) 29).al (.cells (rlC p A2 p.es.length c2 A3 p.cs.length c3) 36)
  have m2 := AtC.new (w.alloc (.cells (rqC q A q.hs.length c) 29)) (rlC p A2 p.es.length c2 A3 p.cs.length c3) 36
  have sz : (w.alloc (.cells (rqC q A q.hs.length c) 29)).heap.size = w.heap.size + 1 := by simp
  rw [sz] at m2
  clear sz
  have r1 := (h.below hb).more hb.size
  have r2 := (h2.below hb).more hb.size
  have r3 := (h3.below hb).more hb.size
  clear h h2 h3
  have CA := Lib.hid (fun W => JX.awake14_any W)
  have CLQ := Lib.hid (fun (W : World) (k : Below ((w.alloc (.cells (rqC q A q.hs.length c) 29)).alloc (.cells (rlC p A2 p.es.length c2 A3 p.cs.length c3) 36)).heap.size ((w.alloc (.cells (rqC q A q.hs.length c) 29)).alloc (.cells (rlC p A2 p.es.length c2 A3 p.cs.length c3) 36)) W) => (show Calls Tryz.prog 7 #[rq q A q.hs.length c] W fun e w' => e = .returned (.bool false) ∧ Below W.heap.size W w' from el ▸ longQ_any q A c W ((r1.below k).more k.size) (by have := hF.many; unfold maxLen; omega)))
  have CLY := Lib.hid (fun (W : World) (k : Below ((w.alloc (.cells (rqC q A q.hs.length c) 29)).alloc (.cells (rlC p A2 p.es.length c2 A3 p.cs.length c3) 36)).heap.size ((w.alloc (.cells (rqC q A q.hs.length c) 29)).alloc (.cells (rlC p A2 p.es.length c2 A3 p.cs.length c3) 36)) W) => (show Calls Tryz.prog 8 #[rl p A2 p.es.length c2 A3 p.cs.length c3] W fun e w' => e = .returned (.bool false) ∧ Below W.heap.size W w' from ey ▸ longY_any p A2 c2 A3 c3 W ((r2.below k).more k.size) ((r3.below k).more k.size) (by have := hP.many; unfold maxLen; omega) (by have := hP.few; unfold maxLen; omega)))
  have CWQ := Lib.hid (fun (W : World) (k : Below ((w.alloc (.cells (rqC q A q.hs.length c) 29)).alloc (.cells (rlC p A2 p.es.length c2 A3 p.cs.length c3) 36)).heap.size ((w.alloc (.cells (rqC q A q.hs.length c) 29)).alloc (.cells (rlC p A2 p.es.length c2 A3 p.cs.length c3) 36)) W) => (show Calls Tryz.prog 9 #[rq q A q.hs.length c] W fun e w' => e = .returned (.tuple #[.slice none 0 0, .int .i64 3]) ∧ Below W.heap.size W w' from (request_any q A c hF W ((r1.below k).more k.size)).mono (fun e w' z => bts_jo (eq ▸ z))))
  have CWY := Lib.hid (fun (W : World) (k : Below ((w.alloc (.cells (rqC q A q.hs.length c) 29)).alloc (.cells (rlC p A2 p.es.length c2 A3 p.cs.length c3) 36)).heap.size ((w.alloc (.cells (rqC q A q.hs.length c) 29)).alloc (.cells (rlC p A2 p.es.length c2 A3 p.cs.length c3) 36)) W) => (show Calls Tryz.prog 11 #[rl p A2 p.es.length c2 A3 p.cs.length c3] W fun e w' => e = .returned (.tuple #[.slice none 0 0, .int .i64 3]) ∧ Below W.heap.size W w' from (reply_any p A2 c2 A3 c3 hP W ((r2.below k).more k.size) ((r3.below k).more k.size)).mono (fun e w' z => bts_jo (ep ▸ z))))
  have CWR := Lib.hid (fun (W : World) (k : Below ((w.alloc (.cells (rqC q A q.hs.length c) 29)).alloc (.cells (rlC p A2 p.es.length c2 A3 p.cs.length c3) 36)).heap.size ((w.alloc (.cells (rqC q A q.hs.length c) 29)).alloc (.cells (rlC p A2 p.es.length c2 A3 p.cs.length c3) 36)) W) => (show Calls Tryz.prog 13 #[rp p.rver A3 p.cs.length c3 p.gap] W fun e w' => e = .returned (.tuple #[.slice none 0 0, .int .i64 3]) ∧ Below W.heap.size W w' from (report_any p.rver A3 c3 p.cs p.gap W hP.rver ((r3.below k).more k.size) hP.cs hP.few).mono (fun e w' z => bts_jo (er ▸ z))))
  clear eq ep er el ey hF hP r1 r2 r3
  go_enter Tryz.func5, Tryz.ntmps5
  go_upto_region 1 with fail
  change Code.wp _ _ _ _ ((w.alloc (.cells (rqC q A q.hs.length c) 29)).alloc (.cells (rlC p A2 p.es.length c2 A3 p.cs.length c3) 36))
  generalize hW0 : ((w.alloc (.cells (rqC q A q.hs.length c) 29)).alloc (.cells (rlC p A2 p.es.length c2 A3 p.cs.length c3) 36)) = W0 at *
  clear hW0
  have M1 := Lib.hid m1
  have M2 := Lib.hid m2
  have HB := Lib.hid hb
  clear m1 m2 hb
  have K0 := Lib.hid (Below.refl W0.heap.size W0)
  go_upto_region 3 with (first | (go_at_call 26; ((refine (CA.out W0).mono ?_); rintro e w1 ⟨rfl, k1⟩; have K1 := Lib.hid (bThen K0.out k1); have xq1 := range_at (M1.out.then K1.out); have xy1 := range_at (M2.out.then K1.out); have my1 := (M2.out.then K1.out).c; have ly1 := (M2.out.then K1.out).lt; clear k1)))
  go_upto_region 5 with (first | ((show wpList _ _ _ ({ dst := some 19, op := _, type := _, pos := _, after := _, guard := _ } :: _) _ _); (refine wpList_load_mid rfl _ _ rfl w.heap.size 0 rfl (rqC q A q.hs.length c : Array Value).toList _ xq1 Tryz.underlying29 rfl (by kernel_rfl) ?_)) | (go_at_call 7; ((refine (CLQ.out w1 K1.out).mono ?_); rintro e w2 ⟨rfl, k2⟩; have K2 := Lib.hid (bThen K1.out k2); have xq2 := range_at (M1.out.then K2.out); have xy2 := range_at (M2.out.then K2.out); have my2 := (M2.out.then K2.out).c; have ly2 := (M2.out.then K2.out).lt; clear k2)) | ((show wpList _ _ _ ({ dst := some 22, op := _, type := _, pos := _, after := _, guard := _ } :: _) _ _); (refine wpList_load_g (by kernel_rfl) _ _ rfl (w.heap.size + 1) 0 rfl (rlC p A2 p.es.length c2 A3 p.cs.length c3 : Array Value).toList _ xy2 Tryz.underlying36 rfl (by kernel_rfl) ?_)) | (go_at_call 8; ((refine (CLY.out w2 K2.out).mono ?_); rintro e w3 ⟨rfl, k3⟩; have K3 := Lib.hid (bThen K2.out k3); have xq3 := range_at (M1.out.then K3.out); have xy3 := range_at (M2.out.then K3.out); have my3 := (M2.out.then K3.out).c; have ly3 := (M2.out.then K3.out).lt; clear k3)))
  clear xq1 xy1 my1 ly1 xq2 xy2 my2 ly2 CA CLQ CLY K1 K2
  go_upto_region 6 with (first | ((show wpList _ _ _ ({ dst := some 26, op := _, type := _, pos := _, after := _, guard := _ } :: _) _ _); (refine wpList_load_mid rfl _ _ rfl w.heap.size 0 rfl (rqC q A q.hs.length c : Array Value).toList _ xq3 Tryz.underlying29 rfl (by kernel_rfl) ?_)) | (go_at_call 9; ((refine (CWQ.out w3 K3.out).mono ?_); rintro e w4 ⟨rfl, k4⟩; have K4 := Lib.hid (bThen K3.out k4); have xq4 := range_at (M1.out.then K4.out); have xy4 := range_at (M2.out.then K4.out); have my4 := (M2.out.then K4.out).c; have ly4 := (M2.out.then K4.out).lt; clear k4)))
  clear xq3 xy3 my3 ly3 K3
  go_upto_region 7 with (first | ((show wpList _ _ _ ({ dst := some 31, op := _, type := _, pos := _, after := _, guard := _ } :: _) _ _); (refine wpList_load_mid rfl _ _ rfl (w.heap.size + 1) 0 rfl (rlC p A2 p.es.length c2 A3 p.cs.length c3 : Array Value).toList _ xy4 Tryz.underlying36 rfl (by kernel_rfl) ?_)) | (go_at_call 11; ((refine (CWY.out w4 K4.out).mono ?_); rintro e w5 ⟨rfl, k5⟩; have K5 := Lib.hid (bThen K4.out k5); have xq5 := range_at (M1.out.then K5.out); have xy5 := range_at (M2.out.then K5.out); have my5 := (M2.out.then K5.out).c; have ly5 := (M2.out.then K5.out).lt; clear k5)))
  clear xq4 xy4 my4 ly4
  go_upto_region 8 with (first | (go_at_call 13; ((refine (CWR.out w5 K5.out).mono ?_); rintro e w6 ⟨rfl, k6⟩; have K6 := Lib.hid (bThen K5.out k6); have xq6 := range_at (M1.out.then K6.out); have xy6 := range_at (M2.out.then K6.out); have my6 := (M2.out.then K6.out).c; have ly6 := (M2.out.then K6.out).lt; clear k6)))
  clear xq5 my5 ly5 xy5 CWQ CWY CWR
  clear K4 K5 xq6 xy6 my6 ly6
  have P6 := Lib.hid K6.out
  go_wp2
  go_ret
  exact ⟨rfl, bThen HB.out K6.out⟩
end Go.Proofs.YtjocbokfdfdkeaaGreat.PX
/-
  The law WireBack, where of request, reply and report those have bytes: snn.
-/
namespace Go.Proofs.YtjocbokfdfdkeaaGreat.PX
open Go.RowKit HL
open IX (ptr El cellsK cellsK_at cellsK_len OwnK RdK Kept strK)
open YX (numB rdU rdB rdT rdS rdI addW intN natI rest told WAt WPt Wr RAt vS vU vI u8K Got)
open DX (Ch ch chCells chK zeroCh)
set_option maxRecDepth 100000
set_option linter.unusedVariables false
set_option linter.unusedSimpArgs false

set_option maxHeartbeats 4000000 in
theorem back14_snn (q : Rq) (p : Rp) (A : Option Addr) (c : Nat) (A2 : Option Addr) (c2 : Nat) (A3 : Option Addr) (c3 : Nat) (w : World) (h : RdK strK w w.heap.size A q.hs) (h2 : RdK enK w w.heap.size A2 p.es) (h3 : RdK chK w w.heap.size A3 p.cs) {b1 : Bs} (hF : FineQ q) (hP : FineP p) (el : longQ q = false) (ey : longAll [] p.cs p.es = false) (eq : reqB q = some b1) (ep : rplB p = none) (er : repB p.rver p.cs p.gap = none) :
    Calls Tryz.prog 5 #[rq q A q.hs.length c, rl p A2 p.es.length c2 A3 p.cs.length c3] w fun e w' => e = .returned (.bool true) ∧ Below w.heap.size w w' := by
  have hb := bAl (bAl (Below.refl w.heap.size w) (.cells (rqC q A q.hs.length c) 29)) (.cells (rlC p A2 p.es.length c2 A3 p.cs.length c3) 36)
  have m1 := (AtC.new w (rqC q A q.hs.length c) 29).al (.cells (rlC p A2 p.es.length c2 A3 p.cs.length c3) 36)
  have m2 := AtC.new (w.alloc (.cells (rqC q A q.hs.length c) 29)) (rlC p A2 p.es.length c2 A3 p.cs.length c3) 36
  have sz : (w.alloc (.cells (rqC q A q.hs.length c) 29)).heap.size = w.heap.size + 1 := by simp
  rw [sz] at m2
  clear sz
  have r1 := (h.below hb).more hb.size
  have r2 := (h2.below hb).more hb.size
  have r3 := (h3.below hb).more hb.size
  clear h h2 h3
  have CA := Lib.hid (fun W => JX.awake14_any W)
  have CLQ := Lib.hid (fun (W : World) (k : Below ((w.alloc (.cells (rqC q A q.hs.length c) 29)).alloc (.cells (rlC p A2 p.es.length c2 A3 p.cs.length c3) 36)).heap.size ((w.alloc (.cells (rqC q A q.hs.length c) 29)).alloc (.cells (rlC p A2 p.es.length c2 A3 p.cs.length c3) 36)) W) => (show Calls Tryz.prog 7 #[rq q A q.hs.length c] W fun e w' => e = .returned (.bool false) ∧ Below W.heap.size W w' from el ▸ longQ_any q A c W ((r1.below k).more k.size) (by have := hF.many; unfold maxLen; omega)))
  have CLY := Lib.hid (fun (W : World) (k : Below ((w.alloc (.cells (rqC q A q.hs.length c) 29)).alloc (.cells (rlC p A2 p.es.length c2 A3 p.cs.length c3) 36)).heap.size ((w.alloc (.cells (rqC q A q.hs.length c) 29)).alloc (.cells (rlC p A2 p.es.length c2 A3 p.cs.length c3) 36)) W) => (show Calls Tryz.prog 8 #[rl p A2 p.es.length c2 A3 p.cs.length c3] W fun e w' => e = .returned (.bool false) ∧ Below W.heap.size W w' from ey ▸ longY_any p A2 c2 A3 c3 W ((r2.below k).more k.size) ((r3.below k).more k.size) (by have := hP.many; unfold maxLen; omega) (by have := hP.few; unfold maxLen; omega)))
  have CWQ := Lib.hid (fun (W : World) (k : Below ((w.alloc (.cells (rqC q A q.hs.length c) 29)).alloc (.cells (rlC p A2 p.es.length c2 A3 p.cs.length c3) 36)).heap.size ((w.alloc (.cells (rqC q A q.hs.length c) 29)).alloc (.cells (rlC p A2 p.es.length c2 A3 p.cs.length c3) 36)) W) => (show Calls Tryz.prog 9 #[rq q A q.hs.length c] W fun e w' => Jb W b1 e w' from (request_any q A c hF W ((r1.below k).more k.size)).mono (fun e w' z => bts_jb (eq ▸ z))))
  have CWY := Lib.hid (fun (W : World) (k : Below ((w.alloc (.cells (rqC q A q.hs.length c) 29)).alloc (.cells (rlC p A2 p.es.length c2 A3 p.cs.length c3) 36)).heap.size ((w.alloc (.cells (rqC q A q.hs.length c) 29)).alloc (.cells (rlC p A2 p.es.length c2 A3 p.cs.length c3) 36)) W) => (show Calls Tryz.prog 11 #[rl p A2 p.es.length c2 A3 p.cs.length c3] W fun e w' => e = .returned (.tuple #[.slice none 0 0, .int .i64 3]) ∧ Below W.heap.size W w' from (reply_any p A2 c2 A3 c3 hP W ((r2.below k).more k.size) ((r3.below k).more k.size)).mono (fun e w' z => bts_jo (ep ▸ z))))
  have CWR := Lib.hid (fun (W : World) (k : Below ((w.alloc (.cells (rqC q A q.hs.length c) 29)).alloc (.cells (rlC p A2 p.es.length c2 A3 p.cs.length c3) 36)).heap.size ((w.alloc (.cells (rqC q A q.hs.length c) 29)).alloc (.cells (rlC p A2 p.es.length c2 A3 p.cs.length c3) 36)) W) => (show Calls Tryz.prog 13 #[rp p.rver A3 p.cs.length c3 p.gap] W fun e w' => e = .returned (.tuple #[.slice none 0 0, .int .i64 3]) ∧ Below W.heap.size W w' from (report_any p.rver A3 c3 p.cs p.gap W hP.rver ((r3.below k).more k.size) hP.cs hP.few).mono (fun e w' z => bts_jo (er ▸ z))))
  have CRQ := Lib.hid (fun A0 c0 (W : World) r hA => someQ A0 c0 b1 q W r (backQ hF eq).2 hA (backQ hF eq).1)
  have CSQ := Lib.hid (fun (W : World) (k : Below ((w.alloc (.cells (rqC q A q.hs.length c) 29)).alloc (.cells (rlC p A2 p.es.length c2 A3 p.cs.length c3) 36)).heap.size ((w.alloc (.cells (rqC q A q.hs.length c) 29)).alloc (.cells (rlC p A2 p.es.length c2 A3 p.cs.length c3) 36)) W) A4 c4 r => sameQ_yes q A4 A c4 c q.hs.length W r ((r1.below k).more k.size) rfl (by have := hF.many; omega))
  have zallQ : zQ.all (·.oneCell') = true := by kernel_rfl
  clear eq ep er el ey hF hP r1 r2 r3
  go_enter Tryz.func5, Tryz.ntmps5
  go_upto_region 1 with fail
  change Code.wp _ _ _ _ ((w.alloc (.cells (rqC q A q.hs.length c) 29)).alloc (.cells (rlC p A2 p.es.length c2 A3 p.cs.length c3) 36))
  generalize hW0 : ((w.alloc (.cells (rqC q A q.hs.length c) 29)).alloc (.cells (rlC p A2 p.es.length c2 A3 p.cs.length c3) 36)) = W0 at *
  clear hW0
  have M1 := Lib.hid m1
  have M2 := Lib.hid m2
  have HB := Lib.hid hb
  clear m1 m2 hb
  have K0 := Lib.hid (Below.refl W0.heap.size W0)
  go_upto_region 3 with (first | (go_at_call 26; ((refine (CA.out W0).mono ?_); rintro e w1 ⟨rfl, k1⟩; have K1 := Lib.hid (bThen K0.out k1); have xq1 := range_at (M1.out.then K1.out); have xy1 := range_at (M2.out.then K1.out); have my1 := (M2.out.then K1.out).c; have ly1 := (M2.out.then K1.out).lt; clear k1)))
  go_upto_region 5 with (first | ((show wpList _ _ _ ({ dst := some 19, op := _, type := _, pos := _, after := _, guard := _ } :: _) _ _); (refine wpList_load_mid rfl _ _ rfl w.heap.size 0 rfl (rqC q A q.hs.length c : Array Value).toList _ xq1 Tryz.underlying29 rfl (by kernel_rfl) ?_)) | (go_at_call 7; ((refine (CLQ.out w1 K1.out).mono ?_); rintro e w2 ⟨rfl, k2⟩; have K2 := Lib.hid (bThen K1.out k2); have xq2 := range_at (M1.out.then K2.out); have xy2 := range_at (M2.out.then K2.out); have my2 := (M2.out.then K2.out).c; have ly2 := (M2.out.then K2.out).lt; clear k2)) | ((show wpList _ _ _ ({ dst := some 22, op := _, type := _, pos := _, after := _, guard := _ } :: _) _ _); (refine wpList_load_g (by kernel_rfl) _ _ rfl (w.heap.size + 1) 0 rfl (rlC p A2 p.es.length c2 A3 p.cs.length c3 : Array Value).toList _ xy2 Tryz.underlying36 rfl (by kernel_rfl) ?_)) | (go_at_call 8; ((refine (CLY.out w2 K2.out).mono ?_); rintro e w3 ⟨rfl, k3⟩; have K3 := Lib.hid (bThen K2.out k3); have xq3 := range_at (M1.out.then K3.out); have xy3 := range_at (M2.out.then K3.out); have my3 := (M2.out.then K3.out).c; have ly3 := (M2.out.then K3.out).lt; clear k3)))
  clear xq1 xy1 my1 ly1 xq2 xy2 my2 ly2 CA CLQ CLY K1 K2
  go_upto_region 6 with (first | ((show wpList _ _ _ ({ dst := some 26, op := _, type := _, pos := _, after := _, guard := _ } :: _) _ _); (refine wpList_load_mid rfl _ _ rfl w.heap.size 0 rfl (rqC q A q.hs.length c : Array Value).toList _ xq3 Tryz.underlying29 rfl (by kernel_rfl) ?_)) | (go_at_call 9; ((refine (CWQ.out w3 K3.out).mono ?_); rintro e w4 ⟨A6, c6, rfl, r6, h6, k4⟩; have K4 := Lib.hid (bThen K3.out k4); have xq4 := range_at (M1.out.then K4.out); have xy4 := range_at (M2.out.then K4.out); have my4 := (M2.out.then K4.out).c; have ly4 := (M2.out.then K4.out).lt; have RQ4 := Lib.hid r6; have HQ := Lib.hid h6; clear r6 h6 k4)))
  clear xq3 xy3 my3 ly3 K3
  go_upto_region 7 with (first | ((show wpList _ _ _ ({ dst := some 31, op := _, type := _, pos := _, after := _, guard := _ } :: _) _ _); (refine wpList_load_mid rfl _ _ rfl (w.heap.size + 1) 0 rfl (rlC p A2 p.es.length c2 A3 p.cs.length c3 : Array Value).toList _ xy4 Tryz.underlying36 rfl (by kernel_rfl) ?_)) | (go_at_call 11; ((refine (CWY.out w4 K4.out).mono ?_); rintro e w5 ⟨rfl, k5⟩; have K5 := Lib.hid (bThen K4.out k5); have xq5 := range_at (M1.out.then K5.out); have xy5 := range_at (M2.out.then K5.out); have my5 := (M2.out.then K5.out).c; have ly5 := (M2.out.then K5.out).lt; have RQ5 := Lib.hid ((RQ4.out.below k5).more k5.size); clear k5)))
  clear xq4 xy4 my4 ly4
  go_upto_region 8 with (first | (go_at_call 13; ((refine (CWR.out w5 K5.out).mono ?_); rintro e w6 ⟨rfl, k6⟩; have K6 := Lib.hid (bThen K5.out k6); have xq6 := range_at (M1.out.then K6.out); have xy6 := range_at (M2.out.then K6.out); have my6 := (M2.out.then K6.out).c; have ly6 := (M2.out.then K6.out).lt; have RQ6 := Lib.hid ((RQ5.out.below k6).more k6.size); clear k6)))
  clear xq5 my5 ly5 xy5 CWQ CWY CWR
  clear K4 K5 xq6 xy6 my6 ly6 RQ4 RQ5
  have P6 := Lib.hid K6.out
  go_upto_region 10 with (first | (go_at_call 19; ((refine (CRQ.out A6 c6 _ RQ6.out HQ.out).mono ?_); rintro e wx ⟨A4, c4, rfl, r4, kx⟩; have hall : (rqC q A4 q.hs.length c4 : Array Value).all (·.oneCell') = true := all_oneCell_toArray (fun x hx => by simp at hx; rcases hx with rfl | rfl | rfl | rfl | rfl | rfl | rfl | rfl | rfl | rfl | rfl | rfl | rfl | rfl | rfl | rfl | rfl | rfl | rfl | rfl | rfl | rfl | rfl | rfl | rfl <;> rfl); have KX := Lib.hid (bThen K6.out kx); have KXX := Lib.hid kx; clear kx)) | ((show wpList _ _ _ ({ dst := none, op := _, type := _, pos := _, after := _, guard := _ } :: _) _ _); (refine wpList_store_mid rfl _ _ _ rfl wx.heap.size 0 (rqC q A4 q.hs.length c4) rfl rfl (there_at (C := zQ) (AtC.new wx zQ 29)) (by kernel_rfl) hall ?_)))
  have J7 := Lib.hid (set_below (w := wx) (bAl (Below.refl wx.heap.size wx) (.cells zQ 29)) (B := wx.heap.size) (Nat.le_refl _) (rqC q A4 q.hs.length c4))
  have K7 := Lib.hid (bThen KX.out J7.out)
  have X7 := Lib.hid (set_at (C := rqC q A4 q.hs.length c4) (AtC.new wx zQ 29) rfl)
  have RA := Lib.hid ((r4.below J7.out).more J7.out.size)
  change Code.wp _ _ _ _ ((wx.alloc (.cells zQ 29)).setCells wx.heap.size 0 (rqC q A4 q.hs.length c4 : Array Value).toList)
  generalize (wx.alloc (.cells zQ 29)).setCells wx.heap.size 0 (rqC q A4 q.hs.length c4 : Array Value).toList = W7 at *
  generalize wx.heap.size = B7 at *
  clear KX KXX J7 r4 hall RQ6 
  have xx := range_at X7.out
  have xq := range_at (M1.out.then K7.out)
  have xy := range_at (M2.out.then K7.out)
  have my := (M2.out.then K7.out).c
  have ly := (M2.out.then K7.out).lt
  go_upto_region 12 with (first | ((show wpList _ _ _ ({ dst := some 51, op := _, type := _, pos := _, after := _, guard := _ } :: _) _ _); (refine wpList_load_g (by kernel_rfl) _ _ rfl B7 0 rfl (rqC q A4 q.hs.length c4 : Array Value).toList _ xx Tryz.underlying29 rfl (by kernel_rfl) ?_)) | ((show wpList _ _ _ ({ dst := some 52, op := _, type := _, pos := _, after := _, guard := _ } :: _) _ _); (refine wpList_load_g (by kernel_rfl) _ _ rfl w.heap.size 0 rfl (rqC q A q.hs.length c : Array Value).toList _ xq Tryz.underlying29 rfl (by kernel_rfl) ?_)) | (go_at_call 16; ((refine (CSQ.out W7 K7.out A4 c4 RA.out).mono ?_); rintro e w8 ⟨rfl, kz⟩; have K8 := Lib.hid (bThen K7.out kz); clear kz)))
  clear xx xq xy my ly RA X7 K7 
  go_wp2
  go_ret
  exact ⟨rfl, bThen HB.out K8.out⟩
end Go.Proofs.YtjocbokfdfdkeaaGreat.PX
/-
  The law WireBack, where of request, reply and report those have bytes: nns.
-/
namespace Go.Proofs.YtjocbokfdfdkeaaGreat.PX
open Go.RowKit HL
open IX (ptr El cellsK cellsK_at cellsK_len OwnK RdK Kept strK)
open YX (numB rdU rdB rdT rdS rdI addW intN natI rest told WAt WPt Wr RAt vS vU vI u8K Got)
open DX (Ch ch chCells chK zeroCh)
set_option maxRecDepth 100000
set_option linter.unusedVariables false
set_option linter.unusedSimpArgs false

set_option maxHeartbeats 4000000 in
theorem back14_nns (q : Rq) (p : Rp) (A : Option Addr) (c : Nat) (A2 : Option Addr) (c2 : Nat) (A3 : Option Addr) (c3 : Nat) (w : World) (h : RdK strK w w.heap.size A q.hs) (h2 : RdK enK w w.heap.size A2 p.es) (h3 : RdK chK w w.heap.size A3 p.cs) {b3 : Bs} (hF : FineQ q) (hP : FineP p) (el : longQ q = false) (ey : longAll [] p.cs p.es = false) (eq : reqB q = none) (ep : rplB p = none) (er : repB p.rver p.cs p.gap = some b3) :
    Calls Tryz.prog 5 #[rq q A q.hs.length c, rl p A2 p.es.length c2 A3 p.cs.length c3] w fun e w' => e = .returned (.bool true) ∧ Below w.heap.size w w' := by
  have hb := bAl (bAl (Below.refl w.heap.size w) (.cells (rqC q A q.hs.length c) 29)) (.cells (rlC p A2 p.es.length c2 A3 p.cs.length c3) 36)
  have m1 := (AtC.new w (rqC q A q.hs.length c) 29).al (.cells (rlC p A2 p.es.length c2 A3 p.cs.length c3) 36)
  have m2 := AtC.new (w.alloc (.cells (rqC q A q.hs.length c) 29)) (rlC p A2 p.es.length c2 A3 p.cs.length c3) 36
  have sz : (w.alloc (.cells (rqC q A q.hs.length c) 29)).heap.size = w.heap.size + 1 := by simp
  rw [sz] at m2
  clear sz
  have r1 := (h.below hb).more hb.size
  have r2 := (h2.below hb).more hb.size
  have r3 := (h3.below hb).more hb.size
  clear h h2 h3
  have CA := Lib.hid (fun W => JX.awake14_any W)
  have CLQ := Lib.hid (fun (W : World) (k : Below ((w.alloc (.cells (rqC q A q.hs.length c) 29)).alloc (.cells (rlC p A2 p.es.length c2 A3 p.cs.length c3) 36)).heap.size ((w.alloc (.cells (rqC q A q.hs.length c) 29)).alloc (.cells (rlC p A2 p.es.length c2 A3 p.cs.length c3) 36)) W) => (show Calls Tryz.prog 7 #[rq q A q.hs.length c] W fun e w' => e = .returned (.bool false) ∧ Below W.heap.size W w' from el ▸ longQ_any q A c W ((r1.below k).more k.size) (by have := hF.many; unfold maxLen; omega)))
  have CLY := Lib.hid (fun (W : World) (k : Below ((w.alloc (.cells (rqC q A q.hs.length c) 29)).alloc (.cells (rlC p A2 p.es.length c2 A3 p.cs.length c3) 36)).heap.size ((w.alloc (.cells (rqC q A q.hs.length c) 29)).alloc (.cells (rlC p A2 p.es.length c2 A3 p.cs.length c3) 36)) W) => (show Calls Tryz.prog 8 #[rl p A2 p.es.length c2 A3 p.cs.length c3] W fun e w' => e = .returned (.bool false) ∧ Below W.heap.size W w' from ey ▸ longY_any p A2 c2 A3 c3 W ((r2.below k).more k.size) ((r3.below k).more k.size) (by have := hP.many; unfold maxLen; omega) (by have := hP.few; unfold maxLen; omega)))
  have CWQ := Lib.hid (fun (W : World) (k : Below ((w.alloc (.cells (rqC q A q.hs.length c) 29)).alloc (.cells (rlC p A2 p.es.length c2 A3 p.cs.length c3) 36)).heap.size ((w.alloc (.cells (rqC q A q.hs.length c) 29)).alloc (.cells (rlC p A2 p.es.length c2 A3 p.cs.length c3) 36)) W) => (show Calls Tryz.prog 9 #[rq q A q.hs.length c] W fun e w' => e = .returned (.tuple #[.slice none 0 0, .int .i64 3]) ∧ Below W.heap.size W w' from (request_any q A c hF W ((r1.below k).more k.size)).mono (fun e w' z => bts_jo (eq ▸ z))))
  have CWY := Lib.hid (fun (W : World) (k : Below ((w.alloc (.cells (rqC q A q.hs.length c) 29)).alloc (.cells (rlC p A2 p.es.length c2 A3 p.cs.length c3) 36)).heap.size ((w.alloc (.cells (rqC q A q.hs.length c) 29)).alloc (.cells (rlC p A2 p.es.length c2 A3 p.cs.length c3) 36)) W) => (show Calls Tryz.prog 11 #[rl p A2 p.es.length c2 A3 p.cs.length c3] W fun e w' => e = .returned (.tuple #[.slice none 0 0, .int .i64 3]) ∧ Below W.heap.size W w' from (reply_any p A2 c2 A3 c3 hP W ((r2.below k).more k.size) ((r3.below k).more k.size)).mono (fun e w' z => bts_jo (ep ▸ z))))
  have CWR := Lib.hid (fun (W : World) (k : Below ((w.alloc (.cells (rqC q A q.hs.length c) 29)).alloc (.cells (rlC p A2 p.es.length c2 A3 p.cs.length c3) 36)).heap.size ((w.alloc (.cells (rqC q A q.hs.length c) 29)).alloc (.cells (rlC p A2 p.es.length c2 A3 p.cs.length c3) 36)) W) => (show Calls Tryz.prog 13 #[rp p.rver A3 p.cs.length c3 p.gap] W fun e w' => Jb W b3 e w' from (report_any p.rver A3 c3 p.cs p.gap W hP.rver ((r3.below k).more k.size) hP.cs hP.few).mono (fun e w' z => bts_jb (er ▸ z))))
  have CRR := Lib.hid (fun A0 c0 (W : World) r hA => someR A0 c0 b3 (p.rver, p.cs, p.gap) W r (backR hP.rver hP.cs er).2 hA (backR hP.rver hP.cs er).1)
  have CSR := Lib.hid (fun (W : World) (k : Below ((w.alloc (.cells (rqC q A q.hs.length c) 29)).alloc (.cells (rlC p A2 p.es.length c2 A3 p.cs.length c3) 36)).heap.size ((w.alloc (.cells (rqC q A q.hs.length c) 29)).alloc (.cells (rlC p A2 p.es.length c2 A3 p.cs.length c3) 36)) W) A4 c4 r => sameR_yes p.rver p.gap A4 A3 c4 c3 p.cs.length p.cs W r ((r3.below k).more k.size) rfl (by have := hP.few; omega))
  have zallR : zR.all (·.oneCell') = true := by kernel_rfl
  clear eq ep er el ey hF hP r1 r2 r3
  go_enter Tryz.func5, Tryz.ntmps5
  go_upto_region 1 with fail
  change Code.wp _ _ _ _ ((w.alloc (.cells (rqC q A q.hs.length c) 29)).alloc (.cells (rlC p A2 p.es.length c2 A3 p.cs.length c3) 36))
  generalize hW0 : ((w.alloc (.cells (rqC q A q.hs.length c) 29)).alloc (.cells (rlC p A2 p.es.length c2 A3 p.cs.length c3) 36)) = W0 at *
  clear hW0
  have M1 := Lib.hid m1
  have M2 := Lib.hid m2
  have HB := Lib.hid hb
  clear m1 m2 hb
  have K0 := Lib.hid (Below.refl W0.heap.size W0)
  go_upto_region 3 with (first | (go_at_call 26; ((refine (CA.out W0).mono ?_); rintro e w1 ⟨rfl, k1⟩; have K1 := Lib.hid (bThen K0.out k1); have xq1 := range_at (M1.out.then K1.out); have xy1 := range_at (M2.out.then K1.out); have my1 := (M2.out.then K1.out).c; have ly1 := (M2.out.then K1.out).lt; clear k1)))
  go_upto_region 5 with (first | ((show wpList _ _ _ ({ dst := some 19, op := _, type := _, pos := _, after := _, guard := _ } :: _) _ _); (refine wpList_load_mid rfl _ _ rfl w.heap.size 0 rfl (rqC q A q.hs.length c : Array Value).toList _ xq1 Tryz.underlying29 rfl (by kernel_rfl) ?_)) | (go_at_call 7; ((refine (CLQ.out w1 K1.out).mono ?_); rintro e w2 ⟨rfl, k2⟩; have K2 := Lib.hid (bThen K1.out k2); have xq2 := range_at (M1.out.then K2.out); have xy2 := range_at (M2.out.then K2.out); have my2 := (M2.out.then K2.out).c; have ly2 := (M2.out.then K2.out).lt; clear k2)) | ((show wpList _ _ _ ({ dst := some 22, op := _, type := _, pos := _, after := _, guard := _ } :: _) _ _); (refine wpList_load_g (by kernel_rfl) _ _ rfl (w.heap.size + 1) 0 rfl (rlC p A2 p.es.length c2 A3 p.cs.length c3 : Array Value).toList _ xy2 Tryz.underlying36 rfl (by kernel_rfl) ?_)) | (go_at_call 8; ((refine (CLY.out w2 K2.out).mono ?_); rintro e w3 ⟨rfl, k3⟩; have K3 := Lib.hid (bThen K2.out k3); have xq3 := range_at (M1.out.then K3.out); have xy3 := range_at (M2.out.then K3.out); have my3 := (M2.out.then K3.out).c; have ly3 := (M2.out.then K3.out).lt; clear k3)))
  clear xq1 xy1 my1 ly1 xq2 xy2 my2 ly2 CA CLQ CLY K1 K2
  go_upto_region 6 with (first | ((show wpList _ _ _ ({ dst := some 26, op := _, type := _, pos := _, after := _, guard := _ } :: _) _ _); (refine wpList_load_mid rfl _ _ rfl w.heap.size 0 rfl (rqC q A q.hs.length c : Array Value).toList _ xq3 Tryz.underlying29 rfl (by kernel_rfl) ?_)) | (go_at_call 9; ((refine (CWQ.out w3 K3.out).mono ?_); rintro e w4 ⟨rfl, k4⟩; have K4 := Lib.hid (bThen K3.out k4); have xq4 := range_at (M1.out.then K4.out); have xy4 := range_at (M2.out.then K4.out); have my4 := (M2.out.then K4.out).c; have ly4 := (M2.out.then K4.out).lt; clear k4)))
  clear xq3 xy3 my3 ly3 K3
  go_upto_region 7 with (first | ((show wpList _ _ _ ({ dst := some 31, op := _, type := _, pos := _, after := _, guard := _ } :: _) _ _); (refine wpList_load_mid rfl _ _ rfl (w.heap.size + 1) 0 rfl (rlC p A2 p.es.length c2 A3 p.cs.length c3 : Array Value).toList _ xy4 Tryz.underlying36 rfl (by kernel_rfl) ?_)) | (go_at_call 11; ((refine (CWY.out w4 K4.out).mono ?_); rintro e w5 ⟨rfl, k5⟩; have K5 := Lib.hid (bThen K4.out k5); have xq5 := range_at (M1.out.then K5.out); have xy5 := range_at (M2.out.then K5.out); have my5 := (M2.out.then K5.out).c; have ly5 := (M2.out.then K5.out).lt; clear k5)))
  clear xq4 xy4 my4 ly4
  go_upto_region 8 with (first | (go_at_call 13; ((refine (CWR.out w5 K5.out).mono ?_); rintro e w6 ⟨A8, c8, rfl, r8, h8, k6⟩; have K6 := Lib.hid (bThen K5.out k6); have xq6 := range_at (M1.out.then K6.out); have xy6 := range_at (M2.out.then K6.out); have my6 := (M2.out.then K6.out).c; have ly6 := (M2.out.then K6.out).lt; have RR6 := Lib.hid r8; have HR := Lib.hid h8; clear r8 h8; clear k6)))
  clear xq5 my5 ly5 xy5 CWQ CWY CWR
  clear K4 K5 xq6 xy6 my6 ly6
  have P6 := Lib.hid K6.out
  go_upto_region 18 with (first | (go_at_call 23; ((refine (CRR.out A8 c8 _ RR6.out HR.out).mono ?_); rintro e wx ⟨A4, c4, rfl, r4, kx⟩; have hall : (rpC p.rver A4 p.cs.length c4 p.gap : Array Value).all (·.oneCell') = true := all_oneCell_toArray (fun x hx => by simp at hx; rcases hx with rfl | rfl | rfl <;> rfl); have KX := Lib.hid (bThen K6.out kx); have KXX := Lib.hid kx; clear kx)) | ((show wpList _ _ _ ({ dst := none, op := _, type := _, pos := _, after := _, guard := _ } :: _) _ _); (refine wpList_store_mid rfl _ _ _ rfl wx.heap.size 0 (rpC p.rver A4 p.cs.length c4 p.gap) rfl rfl (there_at (C := zR) (AtC.new wx zR 34)) (by kernel_rfl) hall ?_)))
  have J7 := Lib.hid (set_below (w := wx) (bAl (Below.refl wx.heap.size wx) (.cells zR 34)) (B := wx.heap.size) (Nat.le_refl _) (rpC p.rver A4 p.cs.length c4 p.gap))
  have K7 := Lib.hid (bThen KX.out J7.out)
  have X7 := Lib.hid (set_at (C := rpC p.rver A4 p.cs.length c4 p.gap) (AtC.new wx zR 34) rfl)
  have RA := Lib.hid ((r4.below J7.out).more J7.out.size)
  change Code.wp _ _ _ _ ((wx.alloc (.cells zR 34)).setCells wx.heap.size 0 (rpC p.rver A4 p.cs.length c4 p.gap : Array Value).toList)
  generalize (wx.alloc (.cells zR 34)).setCells wx.heap.size 0 (rpC p.rver A4 p.cs.length c4 p.gap : Array Value).toList = W7 at *
  generalize wx.heap.size = B7 at *
  clear KX KXX J7 r4 hall RR6 
  have xx := range_at X7.out
  have xq := range_at (M1.out.then K7.out)
  have xy := range_at (M2.out.then K7.out)
  have my := (M2.out.then K7.out).c
  have ly := (M2.out.then K7.out).lt
  go_upto_region 20 with (first | ((show wpList _ _ _ ({ dst := some 85, op := _, type := _, pos := _, after := _, guard := _ } :: _) _ _); (refine wpList_load_g (by kernel_rfl) _ _ rfl B7 0 rfl (rpC p.rver A4 p.cs.length c4 p.gap : Array Value).toList _ xx Tryz.underlying34 rfl (by kernel_rfl) ?_)) | (go_at_call 25; ((refine (CSR.out W7 K7.out A4 c4 RA.out).mono ?_); rintro e w8 ⟨rfl, kz⟩; have K8 := Lib.hid (bThen K7.out kz); clear kz)))
  clear xx xq xy my ly RA X7 K7 
  go_wp2
  go_ret
  exact ⟨rfl, bThen HB.out K8.out⟩
end Go.Proofs.YtjocbokfdfdkeaaGreat.PX
