/-
  The law WireOne walked.
-/
import Derived.Test.YtjocbokfdfdkeaaGreatLZLOneM
import Derived.OwnWalk
import Derived.RangeFuncNested
import Derived.Deep.CutRange
namespace Go.Proofs.YtjocbokfdfdkeaaGreat.PX
open Go.RowKit HL
open IX (ptr El cellsK cellsK_at cellsK_len OwnK RdK Kept strK slice_toK wpList_spreadK)
open YX (numB rdU rdB rdT rdS rdI addW intN natI rest told WAt WPt Wr RAt vS vU vI u8K Got)
open DX (Ch ch chCells chK zeroCh)
set_option maxRecDepth 100000
set_option linter.unusedVariables false
set_option linter.unusedSimpArgs false

set_option maxHeartbeats 4000000 in
theorem one14_y (A : Option Addr) (c : Nat) (b : Bs) (i : Int) (x : UInt8) (w : World) {q : Rp} (h : RdK u8K w w.heap.size A b) (hA : A = none → c = 0) (hc : b.length ≤ c) (hm : b.length ≤ maxLen) (hl : b.length ≤ 3000) (hQ : readQ b = none) (hY : readY b = some q) (hR : readR b = none) :
    Calls Tryz.prog 6 #[.slice A b.length c, .int .i64 i, .int .u8 (x.toNat : Int)] w fun e w' => e = .returned (.bool true) ∧ Below w.heap.size w w' := by
  have CA := Lib.hid (JX.awake14_any w)
  have i1 : ¬ (3000 : Int) < (b.length : Int) := by omega
  have HR := Lib.hid h
  have CQ := Lib.hid (fun (W : World) (k : Below w.heap.size w W) => noQ A c b W ((h.below k).more k.size) (by omega) hA hQ)
  have CY := Lib.hid (fun (W : World) (k : Below w.heap.size w W) => someY A c b q W ((h.below k).more k.size) (by omega) hA hY)
  have CR := Lib.hid (fun (W : World) (k : Below w.heap.size w W) => noR A c b W ((h.below k).more k.size) (by omega) hA hR)
  have zallQ : zQ.all (·.oneCell') = true := by kernel_rfl
  have zallY : zY.all (·.oneCell') = true := by kernel_rfl
  have zallR : zR.all (·.oneCell') = true := by kernel_rfl
  have CO := Lib.hid (fun A4 c4 A5 c5 (W : World) r r2 => ownY hY A4 c4 A5 c5 W r r2)
  have hpos : 1 ≤ b.length := by have := (onlyY hY).1; cases b with
    | nil => exact absurd rfl this
    | cons c t => simp
  obtain ⟨u, kk, hu, hu0, hkk, hkl⟩ := place_of2 i b.length hpos (by omega)
  have hwr : IntKind.u64.wrap (b.length : Int) = (b.length : Int) := IntWalk.u64_in _ (by omega)
  have hwk : IntKind.i64.wrap (kk : Int) = (kk : Int) := IntWalk.i64_in _ (by omega)
  have hne0 : ¬ (b.length : Int) = 0 := by omega
  have hsl : ∀ W, (Instr.slice 39 (.slice A b.length c) none (some (.int .i64 (kk : Int))) none).run Tryz.prog W = .ok (.slice A kk c) W := fun W => slice_toK u8K (by omega) hc W
  have hP := partY hY hkl
  have hM := moreY hY x
  have hkt : (b.take kk).length = kk := by rw [List.length_take]; omega
  obtain ⟨n9, hn9⟩ : ∃ n9, (b ++ [x]).length = n9 := ⟨_, rfl⟩
  have HN9 := Lib.hid hn9
  have hn9b : n9 ≤ 4000 := by rw [← hn9]; simp; omega
  have DQ := Lib.hid (fun (W : World) (k : Below w.heap.size w W) => noQ A c (b.take kk) W (rd_takeL ((h.below k).more k.size) kk) (by omega) hA hP.q)
  rw [hkt] at DQ
  have EQ := Lib.hid (fun (W : World) A9 c9 (r : RdK u8K W W.heap.size A9 (b ++ [x])) => noQ A9 c9 (b ++ [x]) W r (by omega) (fun q => absurd (rd_noneL r q) (by simp)) hM.q)
  rw [hn9] at EQ
  have DY := Lib.hid (fun (W : World) (k : Below w.heap.size w W) => noY A c (b.take kk) W (rd_takeL ((h.below k).more k.size) kk) (by omega) hA hP.y)
  rw [hkt] at DY
  have EY := Lib.hid (fun (W : World) A9 c9 (r : RdK u8K W W.heap.size A9 (b ++ [x])) => noY A9 c9 (b ++ [x]) W r (by omega) (fun q => absurd (rd_noneL r q) (by simp)) hM.y)
  rw [hn9] at EY
  have DR := Lib.hid (fun (W : World) (k : Below w.heap.size w W) => noR A c (b.take kk) W (rd_takeL ((h.below k).more k.size) kk) (by omega) hA hP.r)
  rw [hkt] at DR
  have ER := Lib.hid (fun (W : World) A9 c9 (r : RdK u8K W W.heap.size A9 (b ++ [x])) => noR A9 c9 (b ++ [x]) W r (by omega) (fun q => absurd (rd_noneL r q) (by simp)) hM.r)
  rw [hn9] at ER
  have HLB := Lib.hid hl
  clear h hP hM hkt hpos hkl hn9 hn9b hl hm
  clear hQ hY hR
  go_enter Tryz.func6, Tryz.ntmps6
  go_upto_region 5 with (go_at_call 26; ((refine CA.out.mono ?_); rintro e w1 ⟨rfl, k1⟩; have K1 := Lib.hid k1; clear k1))
  go_upto_region 6 with (first
    | (go_at_call 19; ((refine (CQ.out _ K1.out).mono ?_); rintro e wx ⟨rfl, kx⟩; have KX := Lib.hid (bThen K1.out kx); have KXX := Lib.hid kx; clear kx))
    | ((show wpList _ _ _ ({ dst := none, op := _, type := _, pos := _, after := _, guard := _ } :: _) _ _); (refine wpList_store_mid rfl _ _ _ rfl wx.heap.size 0 (zQ) rfl rfl (there_at (C := zQ) (AtC.new wx zQ 29)) (by kernel_rfl) zallQ ?_)))
  have K2 := Lib.hid (set_below (bAl KX.out (.cells zQ 29)) (B := wx.heap.size) KX.out.size (zQ))
  have J2 := Lib.hid (set_below (w := wx) (bAl (Below.refl wx.heap.size wx) (.cells zQ 29)) (B := wx.heap.size) (Nat.le_refl _) (zQ))
  change Code.wp _ _ _ _ ((wx.alloc (.cells zQ 29)).setCells wx.heap.size 0 (zQ : Array Value).toList)
  generalize (wx.alloc (.cells zQ 29)).setCells wx.heap.size 0 (zQ : Array Value).toList = W2 at *
  clear KX KXX J2
  go_upto_region 7 with (first
    | (go_at_call 21; ((refine (CY.out _ K2.out).mono ?_); rintro e wx ⟨A4, c4, A5, c5, rfl, r4, r5, kx⟩; have hall : (rlC q A4 q.es.length c4 A5 q.cs.length c5 : Array Value).all (·.oneCell') = true := all_oneCell_toArray (fun x hx => by simp at hx; rcases hx with rfl | rfl | rfl | rfl | rfl | rfl | rfl <;> rfl); have KX := Lib.hid (bThen K2.out kx); have KXX := Lib.hid kx; clear kx))
    | ((show wpList _ _ _ ({ dst := none, op := _, type := _, pos := _, after := _, guard := _ } :: _) _ _); (refine wpList_store_mid rfl _ _ _ rfl wx.heap.size 0 (rlC q A4 q.es.length c4 A5 q.cs.length c5) rfl rfl (there_at (C := zY) (AtC.new wx zY 36)) (by kernel_rfl) hall ?_)))
  have K3 := Lib.hid (set_below (bAl KX.out (.cells zY 36)) (B := wx.heap.size) KX.out.size (rlC q A4 q.es.length c4 A5 q.cs.length c5))
  have J3 := Lib.hid (set_below (w := wx) (bAl (Below.refl wx.heap.size wx) (.cells zY 36)) (B := wx.heap.size) (Nat.le_refl _) (rlC q A4 q.es.length c4 A5 q.cs.length c5))
  have X3 := Lib.hid (set_at (C := rlC q A4 q.es.length c4 A5 q.cs.length c5) (AtC.new wx zY 36) rfl)
  have RA3 := Lib.hid ((r4.below J3.out).more J3.out.size)
  have RC3 := Lib.hid ((r5.below J3.out).more J3.out.size)
  change Code.wp _ _ _ _ ((wx.alloc (.cells zY 36)).setCells wx.heap.size 0 (rlC q A4 q.es.length c4 A5 q.cs.length c5 : Array Value).toList)
  generalize (wx.alloc (.cells zY 36)).setCells wx.heap.size 0 (rlC q A4 q.es.length c4 A5 q.cs.length c5 : Array Value).toList = W3 at *
  generalize wx.heap.size = B3 at *
  clear KX KXX J3 r4 r5
  go_upto_region 8 with (first
    | (go_at_call 23; ((refine (CR.out _ K3.out).mono ?_); rintro e wx ⟨rfl, kx⟩; have KX := Lib.hid (bThen K3.out kx); have KXX := Lib.hid kx; clear kx))
    | ((show wpList _ _ _ ({ dst := none, op := _, type := _, pos := _, after := _, guard := _ } :: _) _ _); (refine wpList_store_mid rfl _ _ _ rfl wx.heap.size 0 (zR) rfl rfl (there_at (C := zR) (AtC.new wx zR 34)) (by kernel_rfl) zallR ?_)))
  have K4 := Lib.hid (set_below (bAl KX.out (.cells zR 34)) (B := wx.heap.size) KX.out.size (zR))
  have J4 := Lib.hid (set_below (w := wx) (bAl (Below.refl wx.heap.size wx) (.cells zR 34)) (B := wx.heap.size) (Nat.le_refl _) (zR))
  have X4 := Lib.hid (X3.out.then (bThen KXX.out J4.out))
  have RA4 := Lib.hid ((RA3.out.below (bThen KXX.out J4.out)).more (bThen KXX.out J4.out).size)
  have RC4 := Lib.hid ((RC3.out.below (bThen KXX.out J4.out)).more (bThen KXX.out J4.out).size)
  change Code.wp _ _ _ _ ((wx.alloc (.cells zR 34)).setCells wx.heap.size 0 (zR : Array Value).toList)
  generalize (wx.alloc (.cells zR 34)).setCells wx.heap.size 0 (zR : Array Value).toList = W4 at *
  clear KX KXX J4 X3 RA3 RC3
  have xr := range_at X4.out
  go_upto_region 26 with (first
    | ((show wpList _ _ _ ({ dst := some 71, op := _, type := _, pos := _, after := _, guard := _ } :: _) _ _); (refine wpList_load_mid rfl _ _ rfl B3 0 rfl (rlC q A4 q.es.length c4 A5 q.cs.length c5 : Array Value).toList _ xr Tryz.underlying36 rfl (by kernel_rfl) ?_))
    | (go_at_call 11; ((refine (CO.out A4 c4 A5 c5 W4 RA4.out RC4.out).mono ?_); rintro e w5 ⟨A6, c6, rfl, r6, k6⟩; have K5 := Lib.hid (bThen K4.out k6); have cv1 := YX.conv_str (c := c6) r6 rfl; have cv2 := YX.conv_str (c := c) ((HR.out.below K5.out).more K5.out.size) rfl; clear k6)))
  clear cv1 cv2 xr X4 RA4 r6 CO CQ CY CR RC4
  have O5 := Lib.hid (IX.OwnK.lit (K := u8K) w5 w.heap.size K5.out.size)
  go_upto_region 28 with (at_builtin; refine IX.wpList_spreadK u8K rfl (.tmp 123) (.tmp 124) rfl w.heap.size _ [] rfl O5.out w.heap.size A b.length c b rfl rfl (HR.out.below (bAl K5.out (.cells #[] 5))) ?c1 ?c2 ?_)
  case c1 => have := HLB.out; simp; omega
  case c2 => exact (bAl K5.out _).size
  intro v6 w6 o6 g6 f6
  have K6 := Lib.hid ((bAl K5.out (.cells #[] 5)).grown g6 (bAl K5.out (.cells #[] 5)).size (fun a ha => (O5.out.lt a ha).1))
  have O6 := Lib.hid o6
  clear o6 g6 f6
  go_upto_region 28 with (at_builtin; refine IX.wpList_spreadK u8K rfl (.tmp 125) (.tmp 127) rfl w.heap.size _ b rfl (O6.out.below (bAl (Below.refl _ _) (.cells #[YX.u8 x] 5))) (w6.heap.size + 1) (some ⟨w6.heap.size, 0, none⟩) 1 1 [x] rfl rfl (YX.rd1 w6 x rfl) ?c3 ?c4 ?_)
  case c3 => have := HLB.out; simp; omega
  case c4 => exact (bAl K6.out _).size
  intro v7 w7 o7 g7 f7
  have K7 := Lib.hid ((bAl K6.out (.cells #[YX.u8 x] 5)).grown g7 (bAl K6.out (.cells #[YX.u8 x] 5)).size (fun a ha => (O6.out.lt a ha).1))
  obtain ⟨A9, c9, e9, r9, _, _⟩ := IX.OwnK.form o7
  rw [HN9.out] at e9
  subst e9
  have RL7 := Lib.hid r9
  clear o7 g7 f7 r9 O5 O6 K5 K6
  go_upto_region 31 with (first
    | (go_at_call 19; ((refine (DQ.out _ K7.out).mono ?_); rintro e wx ⟨rfl, kx⟩; have K7Q := Lib.hid (bThen K7.out kx); have RL7Q := Lib.hid ((RL7.out.below kx).more kx.size); clear kx))
    | (go_at_call 21; ((refine (DY.out _ K7Q.out).mono ?_); rintro e wx ⟨rfl, kx⟩; have K7Y := Lib.hid (bThen K7Q.out kx); have RL7Y := Lib.hid ((RL7Q.out.below kx).more kx.size); clear kx))
    | (go_at_call 23; ((refine (DR.out _ K7Y.out).mono ?_); rintro e wx ⟨rfl, kx⟩; have K7R := Lib.hid (bThen K7Y.out kx); have RL7R := Lib.hid ((RL7Y.out.below kx).more kx.size); clear kx)))
  clear DQ DY DR K7 RL7 K7Q RL7Q K7Y RL7Y
  go_upto_region 32 with (first
    | (go_at_call 19; ((refine (EQ.out _ A9 c9 RL7R.out).mono ?_); rintro e wx ⟨rfl, kx⟩; have KX := Lib.hid (bThen K7R.out kx); have KXX := Lib.hid kx; clear kx))
    | ((show wpList _ _ _ ({ dst := none, op := _, type := _, pos := _, after := _, guard := _ } :: _) _ _); (refine wpList_store_mid rfl _ _ _ rfl wx.heap.size 0 (zQ) rfl rfl (there_at (C := zQ) (AtC.new wx zQ 29)) (by kernel_rfl) zallQ ?_)))
  have K8 := Lib.hid (set_below (bAl KX.out (.cells zQ 29)) (B := wx.heap.size) KX.out.size (zQ))
  have J8 := Lib.hid (set_below (w := wx) (bAl (Below.refl wx.heap.size wx) (.cells zQ 29)) (B := wx.heap.size) (Nat.le_refl _) (zQ))
  have RL8 := Lib.hid ((RL7R.out.below (bThen KXX.out J8.out)).more (bThen KXX.out J8.out).size)
  change Code.wp _ _ _ _ ((wx.alloc (.cells zQ 29)).setCells wx.heap.size 0 (zQ : Array Value).toList)
  generalize (wx.alloc (.cells zQ 29)).setCells wx.heap.size 0 (zQ : Array Value).toList = W8 at *
  clear KX KXX J8 RL7R
  go_upto_region 33 with (first
    | (go_at_call 21; ((refine (EY.out _ A9 c9 RL8.out).mono ?_); rintro e wx ⟨rfl, kx⟩; have KX := Lib.hid (bThen K8.out kx); have KXX := Lib.hid kx; clear kx))
    | ((show wpList _ _ _ ({ dst := none, op := _, type := _, pos := _, after := _, guard := _ } :: _) _ _); (refine wpList_store_mid rfl _ _ _ rfl wx.heap.size 0 (zY) rfl rfl (there_at (C := zY) (AtC.new wx zY 36)) (by kernel_rfl) zallY ?_)))
  have K9 := Lib.hid (set_below (bAl KX.out (.cells zY 36)) (B := wx.heap.size) KX.out.size (zY))
  have J9 := Lib.hid (set_below (w := wx) (bAl (Below.refl wx.heap.size wx) (.cells zY 36)) (B := wx.heap.size) (Nat.le_refl _) (zY))
  have RL9 := Lib.hid ((RL8.out.below (bThen KXX.out J9.out)).more (bThen KXX.out J9.out).size)
  change Code.wp _ _ _ _ ((wx.alloc (.cells zY 36)).setCells wx.heap.size 0 (zY : Array Value).toList)
  generalize (wx.alloc (.cells zY 36)).setCells wx.heap.size 0 (zY : Array Value).toList = W9 at *
  clear KX KXX J9 RL8
  go_upto_region 34 with (first
    | (go_at_call 23; ((refine (ER.out _ A9 c9 RL9.out).mono ?_); rintro e wx ⟨rfl, kx⟩; have KX := Lib.hid (bThen K9.out kx); have KXX := Lib.hid kx; clear kx))
    | ((show wpList _ _ _ ({ dst := none, op := _, type := _, pos := _, after := _, guard := _ } :: _) _ _); (refine wpList_store_mid rfl _ _ _ rfl wx.heap.size 0 (zR) rfl rfl (there_at (C := zR) (AtC.new wx zR 34)) (by kernel_rfl) zallR ?_)))
  have K10 := Lib.hid (set_below (bAl KX.out (.cells zR 34)) (B := wx.heap.size) KX.out.size (zR))
  have J10 := Lib.hid (set_below (w := wx) (bAl (Below.refl wx.heap.size wx) (.cells zR 34)) (B := wx.heap.size) (Nat.le_refl _) (zR))
  have RL10 := Lib.hid ((RL9.out.below (bThen KXX.out J10.out)).more (bThen KXX.out J10.out).size)
  change Code.wp _ _ _ _ ((wx.alloc (.cells zR 34)).setCells wx.heap.size 0 (zR : Array Value).toList)
  generalize (wx.alloc (.cells zR 34)).setCells wx.heap.size 0 (zR : Array Value).toList = W10 at *
  clear KX KXX J10 RL9
  go_wp2
  go_ret
  exact ⟨rfl, K10.out⟩
end Go.Proofs.YtjocbokfdfdkeaaGreat.PX
