/-
  The law RecordGets walked.
-/
import Derived.Test.YtejjlmdaalfenaaPRRest
import Derived.Test.YtejjlmdaalfenaaPEn
import Derived.Test.YtejjlmdaalfenaaYTwo
import Derived.Test.YtejjlmdaalfenaaYNum
import Derived.BigQuiet
namespace Go.Proofs.Ytejjlmdaalfenaa.PX
open Go.RowKit HL
open IX (ptr El cellsK cellsK_at cellsK_len OwnK RdK Kept)
open YX (numB rdU rdB rdT rdS rdI addW intN natI rest told WAt WPt Wr RAt vS vU vI Lim u8K)
open DX (Ch chCells ch zeroCh)
set_option maxRecDepth 100000
set_option linter.unusedVariables false
set_option linter.unusedSimpArgs false

theorem lim_getC {s : Option Bs} (h : Lim s) : Lim (getC s).2 := lim_getO (lim_rest lenB h)
theorem lim_getE {s : Option Bs} (h : Lim s) : Lim (getE s).2 := lim_rest lenI (lim_rest lenI (lim_getO (lim_rest lenT (lim_rest lenS h))))
theorem eqO (W : World) (a : Ob) : (Op.equalIn 10000 42 (ob a) (ob a)).run Try.prog W = .ok true W := by rw [DX.run_eqOb W a a, DX.eqOb_t rfl]
theorem eqC (W : World) (a : Ch) : (Op.equalIn 10000 46 (ch a) (ch a)).run Try.prog W = .ok true W := by rw [DX.run_eqCh W a a, DX.eqCh_t rfl]
set_option maxHeartbeats 4000000 in
theorem eqE (W : World) (a : En) : (Op.equalIn 10000 52 (en a) (en a)).run Try.prog W = .ok true W := by
  go_simp
--@body
set_option maxHeartbeats 16000000 in
theorem gets_walk (A : Option Addr) (c : Nat) (b : Bs) (w : World) (h : RdK u8K w w.heap.size A b) (hA : A = none → c = 0) (hc : b.length ≤ c) :
    Calls Try.prog 4 #[.slice A b.length c] w fun e w' => e = .returned (.bool true) ∧ Below w.heap.size w w' := by
  by_cases hl : 3000 < b.length
  · have i1 : (3000 : Int) < (b.length : Int) := by omega
    clear h
    go_enter Try.func4, Try.ntmps4
    go_wp2
    go_ret
    exact ⟨rfl, Below.refl _ _⟩
  · have i1 : ¬ (3000 : Int) < (b.length : Int) := by omega
    have CR0 := Lib.hid (YX.read_any A c b w h (by omega) hA)
    have H := Lib.hid h
    have HC := Lib.hid hc
    have HL3 : Hid (b.length ≤ 3000) := Lib.hid (by omega)
    clear h hA hc
    go_enter Try.func4, Try.ntmps4
    go_wp2_with (go_at_call 15; ((refine CR0.out.mono ?_); rintro e w1 ⟨B, rfl, r1, hB, k1⟩; have b1 := bAl (Below.refl w1.heap.size w1) (.cells #[.slice A b.length c, .bool false] 40); have RB1 := Lib.hid (r1.below b1); have hBl := r1.lt; have RX1 : Hid (RAt (w1.alloc (.cells #[.slice A b.length c, .bool false] 40)) w1.heap.size (some b)) := Lib.hid ⟨A, c, AtC.new _ _ _, IX.RdK.below (IX.RdK.more (H.out.below k1) k1.size) b1, HC.out⟩; have K1 := Lib.hid (bThen k1 b1); have hwX := k1.size; clear r1 k1 b1))
    have hLb : Lim (some b) := by have := HL3.out; show b.length ≤ 1000000; omega
    have HLb := Lib.hid hLb
    clear hLb
    generalize w1.alloc (.cells #[.slice A b.length c, .bool false] 40) = w2 at *
    generalize w1.heap.size = X at *
    have hne : B ≠ X := by omega
    go_loopw [5] (fun i wr => ∃ k : Nat, i = .int .i64 k ∧ k ≤ 9 ∧ (∃ s, Hid (Lim s ∧ RAt wr B s ∧ RAt wr X s)) ∧ Below w.heap.size w wr) (fun i _ => 9 - (intOf i).toNat)
    case atStart => exact ⟨0, rfl, by omega, ⟨some b, Lib.hid ⟨HLb.out, RB1.out, RX1.out⟩⟩, K1.out⟩
    case round =>
    obtain ⟨k, rfl, hk, ⟨s, HS⟩, k3⟩ := hrel
    have K3 := Lib.hid k3
    have HBw : Hid (w.heap.size ≤ wr.heap.size) := Lib.hid k3.size
    obtain ⟨hL, hRB, hRX⟩ := HS.out
    have RB := Lib.hid hRB
    have RX := Lib.hid hRX
    clear HS hRB hRX k3 RB1 RX1 HLb CR0 H HC
    by_cases hlt : k < 9
    · have i2 : (k : Int) < 9 := by omega
      have h3 : (k : Int) % 3 = 0 ∨ (k : Int) % 3 = 1 ∨ (k : Int) % 3 = 2 := by omega
      rcases h3 with e1 | e1 | e1
      · have CG := fun (W : World) (q : RAt W B s) => getObject_any B s W q
        have CR := fun (W : World) (q : RAt W X s) => rGetObject_any X s W hL q
        have hE := fun (W : World) => eqO W (getO s).1
        have hL2 : Lim (getO s).2 := lim_getO hL
        obtain ⟨⟨x, s2⟩, hq⟩ : ∃ q, getO s = q := ⟨_, rfl⟩
        rw [hq] at CG CR hL2
        simp only [hq] at hE
        have HL2 := Lib.hid hL2
        replace CG := Lib.hid CG
        replace CR := Lib.hid CR
        clear hq hL2
        have CF := Lib.hid (fun (W : World) (q : RAt W B s2) => YX.failed_any B s2 W q)
        have CL := Lib.hid (fun (W : World) (q : RAt W B s2) => YX.left_any B s2 W q)
        go_upto_region 16 with (first
          | (go_at_call 16; ((refine (CG.out _ RB.out).mono ?_); rintro e w4 ⟨rfl, r4, k4⟩; have RX4 := Lib.hid (RX.out.aside RB.out hne.symm k4); have RB4 := Lib.hid r4; have K4 := Lib.hid (K3.out.trans (k4.below HBw.out (fun j hj => show j ≠ B by omega))); clear r4 k4))
          | (go_at_call 17; ((refine (CR.out _ RX4.out).mono ?_); rintro e w5 ⟨rfl, r5, k5⟩; have RB5 := Lib.hid (RB4.out.aside RX4.out hne k5); have RX5 := Lib.hid r5; have K5 := Lib.hid (K4.out.trans (k5.below K4.out.size (fun j hj => show j ≠ X by omega))); clear r5 k5)))
        obtain ⟨A5, c5, m5⟩ := RX5.out.form
        have q0 : ∀ n, (w5.drewN n).cell? ⟨X, 0, none⟩ = some (.slice A5 (s2.getD []).length c5) := fun n => m5.c 0
        have q1 : ∀ n, (w5.drewN n).cell? ⟨X, 1, none⟩ = some (.bool s2.isNone) := fun n => m5.c 1
        generalize (s2.getD []).length = ln at *
        generalize s2.isNone = fl at *
        go_quiet (first
          | (go_at_call 22; exact Calls.quiet_of_same ((CF.out _ (RB5.out.below (bDrew (Below.refl _ _) _))).mono fun _ _ h => ⟨h.1, h.2.symm⟩))
          | (go_at_call 23; exact Calls.quiet_of_same ((CL.out _ (RB5.out.below (bDrew (Below.refl _ _) _))).mono fun _ _ h => ⟨h.1, h.2.symm⟩)))
        go_wp2
        exact ⟨⟨k + 1, by go_num, by omega, ⟨s2, Lib.hid ⟨HL2.out, RB5.out.below (bDrew (Below.refl _ _) _), RX5.out.below (bDrew (Below.refl _ _) _)⟩⟩, bDrew K5.out _⟩, by simp [intOf]; omega⟩
      · have CG := fun (W : World) (q : RAt W B s) => getChange_any B s W q
        have CR := fun (W : World) (q : RAt W X s) => rGetChange_any X s W hL q
        have hE := fun (W : World) => eqC W (getC s).1
        have hL2 : Lim (getC s).2 := lim_getC hL
        obtain ⟨⟨x, s2⟩, hq⟩ : ∃ q, getC s = q := ⟨_, rfl⟩
        rw [hq] at CG CR hL2
        simp only [hq] at hE
        have HL2 := Lib.hid hL2
        replace CG := Lib.hid CG
        replace CR := Lib.hid CR
        clear hq hL2
        have CF := Lib.hid (fun (W : World) (q : RAt W B s2) => YX.failed_any B s2 W q)
        have CL := Lib.hid (fun (W : World) (q : RAt W B s2) => YX.left_any B s2 W q)
        go_upto_region 16 with (first
          | (go_at_call 18; ((refine (CG.out _ RB.out).mono ?_); rintro e w4 ⟨rfl, r4, k4⟩; have RX4 := Lib.hid (RX.out.aside RB.out hne.symm k4); have RB4 := Lib.hid r4; have K4 := Lib.hid (K3.out.trans (k4.below HBw.out (fun j hj => show j ≠ B by omega))); clear r4 k4))
          | (go_at_call 19; ((refine (CR.out _ RX4.out).mono ?_); rintro e w5 ⟨rfl, r5, k5⟩; have RB5 := Lib.hid (RB4.out.aside RX4.out hne k5); have RX5 := Lib.hid r5; have K5 := Lib.hid (K4.out.trans (k5.below K4.out.size (fun j hj => show j ≠ X by omega))); clear r5 k5)))
        obtain ⟨A5, c5, m5⟩ := RX5.out.form
        have q0 : ∀ n, (w5.drewN n).cell? ⟨X, 0, none⟩ = some (.slice A5 (s2.getD []).length c5) := fun n => m5.c 0
        have q1 : ∀ n, (w5.drewN n).cell? ⟨X, 1, none⟩ = some (.bool s2.isNone) := fun n => m5.c 1
        generalize (s2.getD []).length = ln at *
        generalize s2.isNone = fl at *
        go_quiet (first
          | (go_at_call 22; exact Calls.quiet_of_same ((CF.out _ (RB5.out.below (bDrew (Below.refl _ _) _))).mono fun _ _ h => ⟨h.1, h.2.symm⟩))
          | (go_at_call 23; exact Calls.quiet_of_same ((CL.out _ (RB5.out.below (bDrew (Below.refl _ _) _))).mono fun _ _ h => ⟨h.1, h.2.symm⟩)))
        go_wp2
        exact ⟨⟨k + 1, by go_num, by omega, ⟨s2, Lib.hid ⟨HL2.out, RB5.out.below (bDrew (Below.refl _ _) _), RX5.out.below (bDrew (Below.refl _ _) _)⟩⟩, bDrew K5.out _⟩, by simp [intOf]; omega⟩
      · have CG := fun (W : World) (q : RAt W B s) => getEntry_any B s W q
        have CR := fun (W : World) (q : RAt W X s) => rGetEntry_any X s W hL q
        have hE := fun (W : World) => eqE W (getE s).1
        have hL2 : Lim (getE s).2 := lim_getE hL
        obtain ⟨⟨x, s2⟩, hq⟩ : ∃ q, getE s = q := ⟨_, rfl⟩
        rw [hq] at CG CR hL2
        simp only [hq] at hE
        have HL2 := Lib.hid hL2
        replace CG := Lib.hid CG
        replace CR := Lib.hid CR
        clear hq hL2
        have CF := Lib.hid (fun (W : World) (q : RAt W B s2) => YX.failed_any B s2 W q)
        have CL := Lib.hid (fun (W : World) (q : RAt W B s2) => YX.left_any B s2 W q)
        go_upto_region 16 with (first
          | (go_at_call 20; ((refine (CG.out _ RB.out).mono ?_); rintro e w4 ⟨rfl, r4, k4⟩; have RX4 := Lib.hid (RX.out.aside RB.out hne.symm k4); have RB4 := Lib.hid r4; have K4 := Lib.hid (K3.out.trans (k4.below HBw.out (fun j hj => show j ≠ B by omega))); clear r4 k4))
          | (go_at_call 21; ((refine (CR.out _ RX4.out).mono ?_); rintro e w5 ⟨rfl, r5, k5⟩; have RB5 := Lib.hid (RB4.out.aside RX4.out hne k5); have RX5 := Lib.hid r5; have K5 := Lib.hid (K4.out.trans (k5.below K4.out.size (fun j hj => show j ≠ X by omega))); clear r5 k5)))
        obtain ⟨A5, c5, m5⟩ := RX5.out.form
        have q0 : ∀ n, (w5.drewN n).cell? ⟨X, 0, none⟩ = some (.slice A5 (s2.getD []).length c5) := fun n => m5.c 0
        have q1 : ∀ n, (w5.drewN n).cell? ⟨X, 1, none⟩ = some (.bool s2.isNone) := fun n => m5.c 1
        generalize (s2.getD []).length = ln at *
        generalize s2.isNone = fl at *
        go_quiet (first
          | (go_at_call 22; exact Calls.quiet_of_same ((CF.out _ (RB5.out.below (bDrew (Below.refl _ _) _))).mono fun _ _ h => ⟨h.1, h.2.symm⟩))
          | (go_at_call 23; exact Calls.quiet_of_same ((CL.out _ (RB5.out.below (bDrew (Below.refl _ _) _))).mono fun _ _ h => ⟨h.1, h.2.symm⟩)))
        go_wp2
        exact ⟨⟨k + 1, by go_num, by omega, ⟨s2, Lib.hid ⟨HL2.out, RB5.out.below (bDrew (Below.refl _ _) _), RX5.out.below (bDrew (Below.refl _ _) _)⟩⟩, bDrew K5.out _⟩, by simp [intOf]; omega⟩
    · obtain rfl : k = 9 := by omega
      have i2 : ¬ ((9 : Nat) : Int) < 9 := by omega
      go_wp2
      go_ret
      exact ⟨rfl, K3.out⟩
end Go.Proofs.Ytejjlmdaalfenaa.PX
