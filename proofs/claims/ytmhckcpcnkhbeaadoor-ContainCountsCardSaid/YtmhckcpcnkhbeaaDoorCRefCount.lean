/-
  WALKS: the document's many, Count, Room.
-/
import Derived.Test.YtmhckcpcnkhbeaaDoorCCount2
import Derived.Deep.QuietTactic
import Derived.BigQuiet
namespace Go.Proofs.YtmhckcpcnkhbeaaDoor
open Go.RowKit
set_option maxRecDepth 100000
set_option linter.unusedVariables false
set_option linter.unusedSimpArgs false

theorem grp_grp (k : Nat) : grp (grp k) = grp k := by
  by_cases h : k < 10
  · exact (show ∀ k, k < 10 → grp (grp k) = grp k by decide +kernel) k h
  · have hn : kdB k = false := by rw [kdB_f]; omega
    rw [(none_of hn).2.2.1]; rfl
theorem most_grp (k : Nat) : most (grp k) = most k := by unfold most; rw [grp_grp]
theorem over_at {l : List Nat} {i : Nat} (h : i < l.length) (ho : most l[i] < cnt l (grp l[i])) : overB l = true := over_t (g := grp l[i]) (by have := grp_le l[i]; omega) (by rw [most_grp]; exact ho)
theorem over_none {l : List Nat} (h : ∀ i (h : i < l.length), ¬ most l[i] < cnt l (grp l[i])) : overB l = false := over_f fun g hg ho => by
  have hpos : 0 < (l.filter fun k => grp k == g).length := by have : cnt l g = (l.filter fun k => grp k == g).length := rfl; omega
  obtain ⟨x, hx⟩ := List.exists_mem_of_length_pos hpos
  rw [List.mem_filter] at hx
  obtain ⟨i, hi, rfl⟩ := List.mem_iff_getElem.1 hx.1
  have e : grp l[i] = g := by simpa using hx.2
  subst e
  rw [most_grp] at ho
  exact h i hi ho
theorem cnt_zero {l : List Nat} (h : l.all kdB = true) : cnt l 0 = 0 := by
  unfold cnt
  rw [List.length_eq_zero_iff, List.filter_eq_nil_iff]
  intro x hx
  have := (grp_pos (List.all_eq_true.1 h x hx)).1
  simp; omega
theorem cnt_zero_pos {l : List Nat} (h : l.all kdB = false) : 0 < cnt l 0 := by
  rw [List.all_eq_false] at h
  obtain ⟨x, hx, hk⟩ := h
  have hk : kdB x = false := by simpa using hk
  unfold cnt
  exact List.length_pos_of_mem (List.mem_filter.2 ⟨hx, by rw [(none_of hk).2.2.1]; rfl⟩)

set_option maxHeartbeats 2000000 in
theorem many_any {A : Option Addr} (l : List Nat) (c B g : Nat) (w : World) (hr : RdU w B A l) (hl : l.length ≤ 300) (hg : g ≤ 255) :
    Calls Tryd.prog 43 #[.slice A l.length c, .int .u8 g] w fun e w' => e = .returned (.int .i64 (cnt l g)) ∧ w = w' := by
  have HR := Lib.hid hr
  have CG := fun k => Lib.hid (refGroup_any k w)
  clear hr
  go_enter Tryd.func43, Tryd.ntmps43
  go_wp2
  go_loop [5, 6] (fun n i => ∃ k : Nat, i = .int .i64 k ∧ k ≤ l.length ∧ n = .int .i64 (cnt (l.take k) g)) (fun _ i => l.length - (intOf i).toNat)
  case atStart => exact ⟨0, rfl, Nat.zero_le _, rfl⟩
  case round =>
    obtain ⟨k, rfl, hk, rfl⟩ := hrel
    have hcl := cnt_take l g k
    by_cases hlt : k < l.length
    · have i1 : (k : Int) < l.length := by omega
      obtain ⟨b, o, rfl, _, hc⟩ := HR.out.at_ (by omega)
      have hx := hc k _ (List.getElem?_eq_getElem hlt)
      have HS := Lib.hid (cnt_snoc hlt g)
      have C := Lib.hid (CG l[k]).out
      clear hc
      generalize l[k] = x at *
      generalize hq : cnt (l.take k) g = q at *
      clear hq
      by_cases he : grp x = g
      · have HS2 : Hid (cnt (l.take (k + 1)) g = q + 1) := Lib.hid (by rw [HS.out, if_pos he])
        subst he
        have hb : ((grp x : Int) == (grp x : Int)) = true := by simp
        go_wp2_with (go_at_call 23; ((with_reducible refine C.out.mono ?_); rintro e w1 ⟨rfl, rfl⟩))
        go_round
        case rel => exact ⟨k + 1, by go_num, by omega, by rw [HS2.out]; go_num⟩
        case measure => simp [intOf]; omega
      · have HS2 : Hid (cnt (l.take (k + 1)) g = q) := Lib.hid (by rw [HS.out, if_neg he]; rfl)
        have hb : ((grp x : Int) == (g : Int)) = false := by simp; omega
        clear he
        go_wp2_with (go_at_call 23; ((with_reducible refine C.out.mono ?_); rintro e w1 ⟨rfl, rfl⟩))
        go_round
        case rel => exact ⟨k + 1, by go_num, by omega, by rw [HS2.out]⟩
        case measure => simp [intOf]; omega
    · have e : k = l.length := by omega
      subst e
      have HV : Hid (cnt (l.take l.length) g = cnt l g) := Lib.hid (by rw [List.take_length])
      go_wp2
      go_ret
      exact ⟨by rw [← HV.out]; rfl, rfl⟩
set_option maxHeartbeats 2000000 in
theorem refRoom_any {A : Option Addr} (k : Nat) (l : List Nat) (c B : Nat) (w : World) (hk : k ≤ 255) (hr : RdU w B A l) (hl : l.length ≤ 300) :
    Calls Tryd.prog 29 #[.int .u8 k, .slice A l.length c] w fun e w' => e = .returned (.int .i64 (roomE k l)) ∧ w = w' := by
  have CK := Lib.hid (known_any k w)
  have CM0 : Hid (Calls Tryd.prog 43 #[.slice A l.length c, .int .u8 0] w fun e w' => e = .returned (.int .i64 (cnt l 0)) ∧ w = w') := Lib.hid (many_any l c B 0 w hr hl (by omega))
  have CMG := Lib.hid (many_any l c B (grp k) w hr hl (by have := grp_le k; omega))
  have CG := Lib.hid (refGroup_any k w)
  have CM := Lib.hid (refMost_any k w)
  clear hr
  have hn := cnt_le l 0
  have hq := cnt_le l (grp k)
  have hml := most_le k
  rcases (show kdB k = false ∨ kdB k = true by cases kdB k <;> simp) with hkd | hkd
  · rw [hkd] at CK
    have HV : Hid (roomE k l = 40) := Lib.hid (by unfold roomE; rw [hkd]; simp)
    clear hkd
    go_enter Tryd.func29, Tryd.ntmps29
    go_wp2_with (go_at_call 39; ((with_reducible refine CK.out.mono ?_); rintro e w1 ⟨rfl, rfl⟩))
    go_ret
    exact ⟨by rw [HV.out]; rfl, rfl⟩
  · rw [hkd] at CK
    rcases (show l.all kdB = false ∨ l.all kdB = true by cases l.all kdB <;> simp) with ha | ha
    · have hp := cnt_zero_pos ha
      have hp2 : (0 : Int) < cnt l 0 := by omega
      have HV : Hid (roomE k l = 40) := Lib.hid (by unfold roomE; rw [ha]; rfl)
      clear hkd ha
      go_enter Tryd.func29, Tryd.ntmps29
      go_wp2_with (first | (go_at_call 39; ((with_reducible refine CK.out.mono ?_); rintro e w1 ⟨rfl, rfl⟩)) | (go_at_call 43; ((with_reducible refine CM0.out.mono ?_); rintro e w1 ⟨rfl, rfl⟩)))
      go_ret
      exact ⟨by rw [HV.out]; rfl, rfl⟩
    · have HV : Hid (roomE k l = if most k ≤ cnt l (grp k) then 51 else 0) := Lib.hid (by unfold roomE; rw [ha, hkd]; rfl)
      have hz := cnt_zero ha
      rw [hz] at CM0
      clear hkd ha hz hn
      generalize roomE k l = r at *
      generalize cnt l (grp k) = q at *
      generalize grp k = g at *
      generalize most k = m at *
      by_cases hmq : m ≤ q
      · have i2 : (m : Int) ≤ q := by omega
        have HV2 : Hid (r = 51) := Lib.hid (by rw [HV.out, if_pos hmq])
        clear hmq
        go_enter Tryd.func29, Tryd.ntmps29
        go_wp2_with (first | (go_at_call 39; ((with_reducible refine CK.out.mono ?_); rintro e w1 ⟨rfl, rfl⟩)) | (go_at_call 43; first | ((with_reducible refine CM0.out.mono ?_); rintro e w1 ⟨rfl, rfl⟩) | ((with_reducible refine CMG.out.mono ?_); rintro e w1 ⟨rfl, rfl⟩)) | (go_at_call 23; ((with_reducible refine CG.out.mono ?_); rintro e w1 ⟨rfl, rfl⟩)) | (go_at_call 25; ((with_reducible refine CM.out.mono ?_); rintro e w1 ⟨rfl, rfl⟩)))
        go_ret
        exact ⟨by rw [HV2.out]; rfl, rfl⟩
      · have i2 : ¬ (m : Int) ≤ q := by omega
        have HV2 : Hid (r = 0) := Lib.hid (by rw [HV.out, if_neg hmq])
        clear hmq
        go_enter Tryd.func29, Tryd.ntmps29
        go_wp2_with (first | (go_at_call 39; ((with_reducible refine CK.out.mono ?_); rintro e w1 ⟨rfl, rfl⟩)) | (go_at_call 43; first | ((with_reducible refine CM0.out.mono ?_); rintro e w1 ⟨rfl, rfl⟩) | ((with_reducible refine CMG.out.mono ?_); rintro e w1 ⟨rfl, rfl⟩)) | (go_at_call 23; ((with_reducible refine CG.out.mono ?_); rintro e w1 ⟨rfl, rfl⟩)) | (go_at_call 25; ((with_reducible refine CM.out.mono ?_); rintro e w1 ⟨rfl, rfl⟩)))
        go_ret
        exact ⟨by rw [HV2.out]; rfl, rfl⟩
set_option maxHeartbeats 4000000 in
theorem refCount_any {A : Option Addr} (l : List Nat) (c B : Nat) (w : World) (hr : RdU w B A l) (hl : l.length ≤ 300) :
    Calls Tryd.prog 27 #[.slice A l.length c] w fun e w' => e = .returned (.int .i64 (countE l)) ∧ Below w.heap.size w w' := by
  have HR := Lib.hid hr
  have CK := fun k W => Lib.hid (known_any k W)
  have CG := Lib.hid (fun k W => refGroup_any k W)
  have CM := Lib.hid (fun k W => refMost_any k W)
  clear hr
  go_enter Tryd.func27, Tryd.ntmps27
  go_wp2
  go_loop [3] (fun i => ∃ k : Nat, i = .int .i64 k ∧ k ≤ l.length ∧ (l.take k).all kdB = true) (fun i => l.length - (intOf i).toNat)
  case atStart => exact ⟨0, rfl, Nat.zero_le _, by simp⟩
  case round =>
    obtain ⟨k, rfl, hk, ha⟩ := hrel
    have HA := Lib.hid ha
    clear ha
    by_cases hlt : k < l.length
    · have i1 : (k : Int) < l.length := by omega
      obtain ⟨b, o, rfl, _, hc⟩ := HR.out.at_ (by omega)
      have hx := hc k _ (List.getElem?_eq_getElem hlt)
      have HT := Lib.hid (all_take hlt HA.out)
      have HN := Lib.hid (all_no hlt)
      have C := Lib.hid (CK l[k] w).out
      clear hc
      generalize l[k] = x at *
      rcases (show kdB x = false ∨ kdB x = true by cases kdB x <;> simp) with hkd | hkd
      · rw [hkd] at C
        have HV : Hid (countE l = 40) := Lib.hid (by unfold countE; rw [HN.out hkd]; rfl)
        clear hkd
        go_wp2_with (go_at_call 39; ((with_reducible refine C.out.mono ?_); rintro e w1 ⟨rfl, rfl⟩))
        go_ret
        exact ⟨by rw [HV.out]; rfl, Below.refl _ _⟩
      · rw [hkd] at C
        have HT2 := Lib.hid (HT.out hkd)
        clear hkd
        go_wp2_with (go_at_call 39; ((with_reducible refine C.out.mono ?_); rintro e w1 ⟨rfl, rfl⟩))
        go_round
        case rel => exact ⟨k + 1, by go_num, by omega, HT2.out⟩
        case measure => simp [intOf]; omega
    · have e : k = l.length := by omega
      have hA := HA.out
      rw [e, List.take_length] at hA
      have HL := Lib.hid hA
      have i1 : ¬ (k : Int) < l.length := by omega
      clear hA e HA
      go_wp2
      go_loopw [4] (fun i wr => ∃ j : Nat, i = .int .i64 j ∧ j ≤ l.length ∧ (∀ n (h : n < l.length), n < j → ¬ most l[n] < cnt l (grp l[n])) ∧ RdU wr B A l ∧ Below w.heap.size w wr) (fun i _ => l.length - (intOf i).toNat)
      case atStart => exact ⟨0, rfl, Nat.zero_le _, fun n h h2 => by omega, HR.out, Below.refl _ _⟩
      case round =>
        obtain ⟨j, rfl, hj, hm, hrr, hbr⟩ := hrel
        have HM := Lib.hid hm
        have HRR := Lib.hid hrr
        clear hm hrr HR
        by_cases hlt2 : j < l.length
        · have i2 : (j : Int) < l.length := by omega
          obtain ⟨b, o, rfl, hbl, hc⟩ := HRR.out.at_ (by omega)
          have hx := hc j _ (List.getElem?_eq_getElem hlt2)
          have CMy := Lib.hid (fun n => many_any l c B (grp l[j]) (wr.drewN n) (show RdU (wr.drewN n) B _ l from HRR.out) hl (by have := grp_le l[j]; omega))
          have HO : Hid (most l[j] < cnt l (grp l[j]) → countE l = 51) := Lib.hid (fun h => by unfold countE; rw [HL.out, over_at hlt2 h]; rfl)
          have HN : Hid (¬ most l[j] < cnt l (grp l[j]) → ∀ n (h : n < l.length), n < j + 1 → ¬ most l[n] < cnt l (grp l[n])) := Lib.hid (fun ho n h hn => by
            rcases (show n < j ∨ n = j by omega) with q | rfl
            · exact HM.out n h q
            · exact ho)
          have hcl := cnt_le l (grp l[j])
          have hml := most_le l[j]
          have j0 : (0 : Int) ≤ (j : Int) := by omega
          clear hc
          generalize l[j] = x at *
          have C1 := fun n => Lib.hid (CG.out x (wr.drewN n))
          have C2 := fun n => Lib.hid (CM.out x (wr.drewN n))
          generalize cnt l (grp x) = q at *
          generalize grp x = g at *
          generalize most x = m at *
          go_wp2_with fail
          go_quiet ((first
            | (go_at_call 23; exact Calls.quiet_of_same ((C1 _).out.mono fun _ _ h => ⟨h.1, h.2.symm⟩))
            | (go_at_call 25; exact Calls.quiet_of_same ((C2 _).out.mono fun _ _ h => ⟨h.1, h.2.symm⟩))
            | (go_at_call 43; exact Calls.quiet_of_same ((CMy.out _).mono fun _ _ h => ⟨h.1, h.2.symm⟩))))
          by_cases ho : m < q
          · have HV := Lib.hid (HO.out ho)
            have hd : decide (m < q) = true := decide_eq_true ho
            clear C1 C2 CMy
            go_wp2
            go_ret
            exact ⟨by rw [HV.out]; rfl, bDrew hbr nq⟩
          · have HN2 := Lib.hid (HN.out ho)
            have hd : decide (m < q) = false := decide_eq_false ho
            clear C1 C2 CMy
            go_wp2
            go_roundw
            case rel => exact ⟨j + 1, by go_num, by omega, HN2.out, HRR.out, bDrew hbr nq⟩
            case measure => simp [intOf]; omega
        · have e : j = l.length := by omega
          subst e
          have HV : Hid (countE l = 0) := Lib.hid (by unfold countE; rw [HL.out, over_none (fun i h => HM.out i h h)]; rfl)
          go_wp2
          go_ret
          exact ⟨by rw [HV.out]; rfl, hbr⟩
end Go.Proofs.YtmhckcpcnkhbeaaDoor
