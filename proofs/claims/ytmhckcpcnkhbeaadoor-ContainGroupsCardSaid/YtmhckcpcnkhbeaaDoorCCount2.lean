/-
  WALKS: Count, Room.
-/
import Derived.Test.YtmhckcpcnkhbeaaDoorCCount
import Derived.Deep.RegionHeld3
namespace Go.Proofs.YtmhckcpcnkhbeaaDoor
open Go.RowKit
set_option maxRecDepth 100000
set_option linter.unusedVariables false
set_option linter.unusedSimpArgs false

def overB (l : List Nat) : Bool := (List.range 10).any fun g => decide (most g < cnt l g)
def countE (l : List Nat) : Nat := if l.all kdB then (if overB l then 51 else 0) else 40
def roomE (k : Nat) (l : List Nat) : Nat := if l.all kdB && kdB k then (if most k ≤ cnt l (grp k) then 51 else 0) else 40
theorem idx_cnt (l : List Nat) (j : Nat) (h : j < 10) (W : World) : (Instr.index 54 (.agg #[.int .i64 (cnt l 0 : Int), .int .i64 (cnt l 1 : Int), .int .i64 (cnt l 2 : Int), .int .i64 (cnt l 3 : Int), .int .i64 (cnt l 4 : Int), .int .i64 (cnt l 5 : Int), .int .i64 (cnt l 6 : Int), .int .i64 (cnt l 7 : Int), .int .i64 (cnt l 8 : Int), .int .i64 (cnt l 9 : Int)]) (.int .i64 (j : Int))).run Tryd.prog W = .ok (.int .i64 (cnt l j : Int)) W := by
  rcases (show j = 0 ∨ j = 1 ∨ j = 2 ∨ j = 3 ∨ j = 4 ∨ j = 5 ∨ j = 6 ∨ j = 7 ∨ j = 8 ∨ j = 9 by omega) with rfl | rfl | rfl | rfl | rfl | rfl | rfl | rfl | rfl | rfl <;> kernel_rfl
theorem over_t {l : List Nat} {g : Nat} (hg : g < 10) (h : most g < cnt l g) : overB l = true := by
  unfold overB
  rw [List.any_eq_true]
  exact ⟨g, by simpa using hg, by simpa using h⟩
theorem over_f {l : List Nat} (h : ∀ g, g < 10 → ¬ most g < cnt l g) : overB l = false := by
  unfold overB
  rw [List.any_eq_false]
  intro g hg
  simpa using h g (by simpa using hg)
set_option maxHeartbeats 4000000 in
theorem count_any {A : Option Addr} (l : List Nat) (c B : Nat) (w : World) (hr : RdU w B A l) (hB : B ≤ w.heap.size) (hx : ∀ x ∈ l, x ≤ 255) (hl : l.length ≤ 300) (hw : Tables w) :
    Calls Tryd.prog 26 #[.slice A l.length c] w fun e w' => e = .returned (.int .i64 (countE l)) ∧ Below w.heap.size w w' := by
  have C := Lib.hid (tally_any l c B w hr hB hx hl hw)
  have hb : Below w.heap.size w w := Below.refl _ _
  have HW := Lib.hid hw
  clear hr hw hx
  rcases (show l.all kdB = false ∨ l.all kdB = true by cases l.all kdB <;> simp) with ha | ha
  · rw [tally_no ha, cntA_nil] at C
    have HV : Hid (countE l = 40) := Lib.hid (by unfold countE; rw [ha]; rfl)
    clear ha
    go_enter Tryd.func26, Tryd.ntmps26
    go_wp2_with (go_at_call 42; ((with_reducible refine C.out.mono ?_); rintro e w1 ⟨rfl, k1⟩; replace hb := bThen hb k1))
    go_ret
    exact ⟨by rw [HV.out]; rfl, bAl hb _⟩
  · rw [tally_yes ha, cntA_lit] at C
    have HI := Lib.hid (idx_cnt l)
    have HT : Hid (∀ g, g < 10 → most g < cnt l g → countE l = 51) := Lib.hid (fun g h1 h2 => by unfold countE; rw [ha, over_t h1 h2]; rfl)
    have HF : Hid ((∀ g, g < 10 → ¬ most g < cnt l g) → countE l = 0) := Lib.hid (fun h => by unfold countE; rw [ha, over_f h]; rfl)
    clear ha
    generalize countE l = r at *
    generalize hf : (fun g => cnt l g) = f at *
    have hq : ∀ g, cnt l g = f g := fun g => by rw [← hf]
    simp only [hq] at C HI HT HF
    clear hq hf
    generalize f 0 = n0 at *
    generalize f 1 = n1 at *
    generalize f 2 = n2 at *
    generalize f 3 = n3 at *
    generalize f 4 = n4 at *
    generalize f 5 = n5 at *
    generalize f 6 = n6 at *
    generalize f 7 = n7 at *
    generalize f 8 = n8 at *
    generalize f 9 = n9 at *
    go_enter Tryd.func26, Tryd.ntmps26
    go_wp2_with (go_at_call 42; ((with_reducible refine C.out.mono ?_); rintro e w1 ⟨rfl, k1⟩; replace hb := bThen hb k1))
    go_loopw [15] (fun i wr => ∃ j : Nat, j ≤ 10 ∧ i = .int .i64 j ∧ (∀ g, g < j → ¬ most g < f g) ∧ Below w.heap.size w wr) (fun i _ => 10 - (intOf i).toNat)
    case atStart => exact ⟨0, by omega, rfl, fun g h => by omega, bAl hb _⟩
    case round =>
      obtain ⟨j, hj, rfl, hm, hbr⟩ := hrel
      have HM := Lib.hid hm
      clear hm hb
      by_cases hlt : j < 10
      · have i1 : (j : Int) < 10 := by omega
        have hi := HI.out j hlt
        have CM := Lib.hid (most_any j wr (by omega) (HW.out.then hbr))
        have hml := most_le j
        by_cases ho : most j < f j
        · have HV := Lib.hid (HT.out j hlt ho)
          have i2 : (most j : Int) < f j := by omega
          clear ho
          generalize most j = m at *
          generalize f j = q at *
          go_wp2_with (go_at_call 24; ((with_reducible refine CM.out.mono ?_); rintro e w2 ⟨rfl, k2⟩))
          go_ret
          exact ⟨by rw [HV.out]; rfl, bThen hbr k2⟩
        · have HN : Hid (∀ g, g < j + 1 → ¬ most g < f g) := Lib.hid (fun g hg => by
            rcases (show g < j ∨ g = j by omega) with h | rfl
            · exact HM.out g h
            · exact ho)
          have i2 : ¬ (most j : Int) < f j := by omega
          clear ho
          generalize most j = m at *
          generalize hq : f j = q at *
          clear hq
          go_wp2_with (go_at_call 24; ((with_reducible refine CM.out.mono ?_); rintro e w2 ⟨rfl, k2⟩))
          go_roundw
          case rel => exact ⟨j + 1, by omega, by go_num, HN.out, bThen hbr k2⟩
          case measure => simp [intOf]; omega
      · have e : j = 10 := by omega
        subst e
        have HV := Lib.hid (HF.out HM.out)
        go_wp2
        go_ret
        exact ⟨by rw [HV.out]; rfl, hbr⟩
set_option maxHeartbeats 8000000 in
theorem room_any {A : Option Addr} (k : Nat) (l : List Nat) (c B : Nat) (w : World) (hk : k ≤ 255) (hr : RdU w B A l) (hB : B ≤ w.heap.size) (hx : ∀ x ∈ l, x ≤ 255) (hl : l.length ≤ 300) (hw : Tables w) :
    Calls Tryd.prog 28 #[.int .u8 k, .slice A l.length c] w fun e w' => e = .returned (.int .i64 (roomE k l)) ∧ Below w.heap.size w w' := by
  have C := Lib.hid (tally_any l c B w hr hB hx hl hw)
  have hb : Below w.heap.size w w := Below.refl _ _
  have CE := Lib.hid (fun W (q : Below w.heap.size w W) => exists_any k W hk (hw.then q))
  have CG := Lib.hid (fun W (q : Below w.heap.size w W) => group_any k W hk (hw.then q))
  have CM := Lib.hid (fun W (q : Below w.heap.size w W) => most_any k W hk (hw.then q))
  clear hr hx
  rcases (show l.all kdB = false ∨ l.all kdB = true by cases l.all kdB <;> simp) with ha | ha
  · rw [tally_no ha, cntA_nil] at C
    have HV : Hid (roomE k l = 40) := Lib.hid (by unfold roomE; rw [ha]; rfl)
    clear ha hw
    go_enter Tryd.func28, Tryd.ntmps28
    go_wp2_with (go_at_call 42; ((with_reducible refine C.out.mono ?_); rintro e w1 ⟨rfl, k1⟩; replace hb := bThen hb k1))
    go_ret
    exact ⟨by rw [HV.out]; rfl, bAl hb _⟩
  · rcases (show kdB k = false ∨ kdB k = true by cases kdB k <;> simp) with hkd | hkd
    · rw [tally_yes ha, cntA_lit] at C
      rw [hkd] at CE
      have HV : Hid (roomE k l = 40) := Lib.hid (by unfold roomE; rw [ha, hkd]; rfl)
      clear ha hkd hw
      go_enter Tryd.func28, Tryd.ntmps28
      go_wp2_with (first | (go_at_call 42; ((with_reducible refine C.out.mono ?_); rintro e w1 ⟨rfl, k1⟩; replace hb := bThen hb k1)) | (go_at_call 38; ((with_reducible refine (CE.out _ (bAl hb _)).mono ?_); rintro e w2 ⟨rfl, rfl⟩)))
      go_ret
      exact ⟨by rw [HV.out]; rfl, bAl hb _⟩
    · have hlit := cntA_get (l := l) (g := grp k) (by have := grp_le k; omega)
      have hgl := grp_le k
      rw [tally_yes ha, cntA_lit] at C
      rw [cntA_lit] at hlit
      rw [hkd] at CE
      have HLIT := Lib.hid hlit
      have HV : Hid (roomE k l = if most k ≤ cnt l (grp k) then 51 else 0) := Lib.hid (by unfold roomE; rw [ha, hkd]; rfl)
      have hcl := cnt_le l (grp k)
      have hml := most_le k
      clear ha hkd hw hlit
      generalize roomE k l = r at *
      generalize cnt l (grp k) = q at *
      generalize grp k = g at *
      generalize most k = m at *
      generalize cnt l 0 = n0 at *
      generalize cnt l 1 = n1 at *
      generalize cnt l 2 = n2 at *
      generalize cnt l 3 = n3 at *
      generalize cnt l 4 = n4 at *
      generalize cnt l 5 = n5 at *
      generalize cnt l 6 = n6 at *
      generalize cnt l 7 = n7 at *
      generalize cnt l 8 = n8 at *
      generalize cnt l 9 = n9 at *
      go_enter Tryd.func28, Tryd.ntmps28
      go_wp2_with (first | (go_at_call 42; ((with_reducible refine C.out.mono ?_); rintro e w1 ⟨rfl, k1⟩; replace hb := bThen hb k1)) | (go_at_call 38; ((with_reducible refine (CE.out _ (bAl hb _)).mono ?_); rintro e w2 ⟨rfl, rfl⟩)))
      have mC := AtC.new w1 #[.int .i64 n0, .int .i64 n1, .int .i64 n2, .int .i64 n3, .int .i64 n4, .int .i64 n5, .int .i64 n6, .int .i64 n7, .int .i64 n8, .int .i64 n9] 54
      replace hb := bAl hb (.cells #[.int .i64 n0, .int .i64 n1, .int .i64 n2, .int .i64 n3, .int .i64 n4, .int .i64 n5, .int .i64 n6, .int .i64 n7, .int .i64 n8, .int .i64 n9] 54)
      generalize w1.alloc (.cells #[.int .i64 n0, .int .i64 n1, .int .i64 n2, .int .i64 n3, .int .i64 n4, .int .i64 n5, .int .i64 n6, .int .i64 n7, .int .i64 n8, .int .i64 n9] 54) = W0 at *
      have hP : ∀ w', Below W0.heap.size W0 w' → w'.cell? ⟨w1.heap.size, g, none⟩ = some (.int .i64 q) := fun w' k => ((mC.then k).c g).trans HLIT.out
      clear mC C CE
      have hg0 : (0 : Int) ≤ (g : Int) := by omega
      have hg1 : (g : Int) < 10 := by omega
      go_region_held3 (fun w' => w'.cell? ⟨w1.heap.size, g, none⟩ = some (.int .i64 q) ∧ Below W0.heap.size W0 w')
        (first | exact ⟨hP _ (Below.refl _ _).drew, (Below.refl _ _).drew⟩ | exact ⟨hP _ (keepD (by assumption) k3), keepD (by assumption) k3⟩)
        (first
        | (go_at_call 22; (with_reducible refine (CG.out _ (bThen hb (‹_ ∧ Below W0.heap.size W0 _›).2)).mono ?_); rintro e w3 ⟨rfl, k3⟩)
        | (go_at_call 24; (with_reducible refine (CM.out _ (bThen hb (‹_ ∧ Below W0.heap.size W0 _›).2)).mono ?_); rintro e w3 ⟨rfl, k3⟩))
      all_goals
        have hbz := bThen hb (‹_ ∧ Below W0.heap.size W0 _›).2
        by_cases hmq : m ≤ q
        · have i2 : (m : Int) ≤ q := by omega
          have HV2 : Hid (r = 51) := Lib.hid (by rw [HV.out, if_pos hmq])
          clear hP HLIT HV hmq
          go_wp2
          go_ret
          exact ⟨by rw [HV2.out]; rfl, hbz⟩
        · have i2 : ¬ (m : Int) ≤ q := by omega
          have HV2 : Hid (r = 0) := Lib.hid (by rw [HV.out, if_neg hmq])
          clear hP HLIT HV hmq
          go_wp2
          go_ret
          exact ⟨by rw [HV2.out]; rfl, hbz⟩
end Go.Proofs.YtmhckcpcnkhbeaaDoor
