/-
  WALKS: are two rows of kinds the same; is a kind in a row; a row of the law's own written over.
-/
import Derived.Test.YtmhckcpcnkhbeaaDoorCRow
namespace Go.Proofs.YtmhckcpcnkhbeaaDoor
open Go.RowKit
set_option maxRecDepth 100000
set_option linter.unusedVariables false
set_option linter.unusedSimpArgs false

def strN (l : List Nat) : ByteArray := strOfNums (l.map (fun n : Nat => (n : Int)))
theorem conv_of {w : World} {B : Nat} {A : Option Addr} {l : List Nat} (h : RdU w B A l) (c : Nat) : (convert 22 9 (.slice A l.length c)).run Tryd.prog w = .ok (.string (strN l)) w := by
  have hb : ∀ (b off : Nat) (l : List Nat), (∀ j x, l[j]? = some x → w.cell? ⟨b, off + j, none⟩ = some (u8 x)) → (convert 22 9 (.slice (some ⟨b, off, none⟩) l.length c)).run Tryd.prog w = .ok (.string (strN l)) w := by
    intro b off l hc
    refine run_convert_bytes_arg w 22 5 Tryd.underlying22 Tryd.underlying5 b off l.length c (l.map (fun n : Nat => (n : Int))) (by simp) (fun i hi => ?_) 9 Tryd.underlying9
    rw [hc i l[i] (List.getElem?_eq_getElem hi)]
    simp [List.getD, hi]
  rcases h with rfl | ⟨b, off, rfl, _, hc⟩
  · have e0 : strN [] = ByteArray.empty := by simp [strN, strOfNums, ByteArray.empty, ByteArray.emptyWithCapacity]; rfl
    rw [e0]
    cases A with
    | none => exact run_convert_bytes_nil w 22 5 Tryd.underlying22 Tryd.underlying5 0 c 9 Tryd.underlying9
    | some a =>
      obtain ⟨b, off, sp⟩ := a
      rw [run_convert_bytes_string w 22 9 5 _ _ c Tryd.underlying22 Tryd.underlying5 Tryd.underlying9]
      rw [show ([] : List Nat).length = 0 from rfl, run_bytesToString w _ 0 c [] (by simp [loadCells, loadCellsFrom, Sem.run_pure])]
      rfl
  · exact hb b off l hc
theorem ofN : ((fun n : Int => UInt8.ofNat n.toNat) ∘ fun n : Nat => (n : Int)) = fun n => UInt8.ofNat n := by funext n; simp
theorem strN_iff {a b : List Nat} (ha : ∀ x ∈ a, x ≤ 255) (hb : ∀ x ∈ b, x ≤ 255) : strN a = strN b ↔ a = b := by
  constructor
  · intro h
    have h2 : (a.map fun n => UInt8.ofNat n) = b.map fun n => UInt8.ofNat n := by
      have := congrArg (fun s : ByteArray => s.data.toList) h
      simp only [strN, strOfNums_data, List.map_map, ofN] at this
      exact this
    induction a generalizing b with
    | nil => cases b with
      | nil => rfl
      | cons y b => simp at h2
    | cons x a ih =>
      cases b with
      | nil => simp at h2
      | cons y b =>
        simp only [List.map_cons, List.cons.injEq] at h2
        have hx := ha x (by simp)
        have hy := hb y (by simp)
        have e : x = y := by
          have := congrArg UInt8.toNat h2.1
          simp at this
          omega
        rw [e, ih (fun z hz => ha z (by simp [hz])) (fun z hz => hb z (by simp [hz])) (by
          unfold strN strOfNums
          simp only [List.map_map, ofN]
          rw [h2.2]) h2.2]
  · intro h; rw [h]
theorem same_any {A1 A2 : Option Addr} {a b : List Nat} {B1 B2 : Nat} (c1 c2 : Nat) (w : World) (h1 : RdU w B1 A1 a) (h2 : RdU w B2 A2 b) (ha : ∀ x ∈ a, x ≤ 255) (hb : ∀ x ∈ b, x ≤ 255) :
    Calls Tryd.prog 12 #[.slice A1 a.length c1, .slice A2 b.length c2] w fun e w' => e = .returned (.bool (decide (a = b))) ∧ w = w' := by
  have q1 := conv_of h1 c1
  have q2 := conv_of h2 c2
  have HI := Lib.hid (strN_iff ha hb)
  clear h1 h2 ha hb
  generalize strN a = s1 at *
  generalize strN b = s2 at *
  go_enter Tryd.func12, Tryd.ntmps12
  go_wp2
  go_ret
  refine ⟨?_, rfl⟩
  have e : (s1.toList == s2.toList) = decide (a = b) := by
    rw [Bool.eq_iff_iff, beq_iff_eq, decide_eq_true_eq, ← HI.out, ByteArray.toList_eq, ByteArray.toList_eq]
    obtain ⟨⟨x⟩⟩ := s1
    obtain ⟨⟨y⟩⟩ := s2
    simp
  rw [← e]; rfl
theorem grown_setCell {w0 w : World} {g : Nat} (h : w0.grownBy w (some g)) (k : Nat) (v : Value) : w0.grownBy (w.setCell ⟨g, k, none⟩ v) (some g) where
  os := h.os
  tape := h.tape
  output := h.output
  size := by have := h.size; simpa using this
  block := fun i hi hne => (Below.heap_setCell w ⟨g, k, none⟩ v i (fun e => hne (congrArg some e))).trans (h.block i hi hne)
set_option maxHeartbeats 1000000 in
theorem spoil_any {base : Nat} {v : Value} (l : List Nat) (w : World) (h : OwnU w base v l) (hn : l.length ≤ 1000) :
    Calls Tryd.prog 15 #[v] w fun e w' => e = .returned (.tuple #[]) ∧ w.grownBy w' v.ownBlock := by
  rcases h.2 with ⟨rfl, h0⟩ | ⟨g, cap, cur, rfl, hb, hg, hnc, hcm, hcs, htake⟩
  · go_enter Tryd.func15, Tryd.ntmps15
    go_wp2
    refine wp_loop_rounds 1 ?_
    rw [rounds_succ]
    go_wp2
    go_end0
    exact ⟨rfl, World.grownBy.refl _ _⟩
  · have H : Hid (OwnU w g (.slice (some ⟨g, 0, none⟩) l.length cap) l) := Lib.hid ⟨h.1, .inr ⟨g, cap, cur, rfl, Nat.le_refl _, hg, hnc, hcm, hcs, htake⟩⟩
    clear h hb hg hcs htake
    go_enter Tryd.func15, Tryd.ntmps15
    go_wp2
    go_loopw [2] (fun i wr => ∃ (k : Nat) (us : List Value), i = .int .i64 k ∧ k ≤ l.length ∧ us.length = l.length ∧ wr.ownsRow g 5 1 (.slice (some ⟨g, 0, none⟩) l.length cap) l.length us ∧ w.grownBy wr (some g)) (fun i _ => l.length - (intOf i).toNat)
    case atStart => exact ⟨0, l.map u8, rfl, Nat.zero_le _, by simp, H.out, World.grownBy.refl _ _⟩
    case round =>
      obtain ⟨k, us, rfl, hk, hl, hr, hg⟩ := hrel
      by_cases hlt : k < l.length
      · have i1 : (k : Int) < l.length := by omega
        have hc : wr.cell? ⟨g, k, none⟩ = some (us[k]'(by omega)) := by
          have := hr.cells (g := g) rfl k _ (List.getElem?_eq_getElem (by omega))
          rw [show (⟨g, 0, none⟩ : Addr).add k = ⟨g, k, none⟩ by unfold Addr.add; split <;> simp_all] at this
          exact this
        have hf : wr.frozen? ⟨g, k, none⟩ = false := World.ownsRow.frozenAt hr k
        have HR := Lib.hid (World.ownsRow.stored hr k (.int .u8 77)).1
        have HG := Lib.hid (grown_setCell hg k (.int .u8 77))
        clear hr hg
        go_wp2
        go_roundw
        case rel => exact ⟨k + 1, _, by go_num, by omega, by rw [List.length_set]; exact hl, HR.out, HG.out⟩
        case measure => simp [intOf]; omega
      · have HG := Lib.hid hg
        clear hr hg
        go_wp2
        go_end0
        exact ⟨rfl, HG.out⟩
set_option maxHeartbeats 1000000 in
theorem hasRow_any {A : Option Addr} {l : List Nat} {B : Nat} (c x : Nat) (w : World) (h : RdU w B A l) (hn : l.length ≤ 1000) :
    Calls Tryd.prog 34 #[.slice A l.length c, .int .u8 x] w fun e w' => e = .returned (.bool (decide (x ∈ l))) ∧ w = w' := by
  go_enter Tryd.func34, Tryd.ntmps34
  go_wp2
  go_loop [5] (fun i => ∃ k : Nat, i = .int .i64 k ∧ k ≤ l.length ∧ x ∉ l.take k) (fun i => l.length - (intOf i).toNat)
  case atStart => exact ⟨0, rfl, Nat.zero_le _, by simp⟩
  case round =>
    obtain ⟨k, rfl, hk, hm⟩ := hrel
    have HM := Lib.hid hm
    clear hm
    by_cases hlt : k < l.length
    · obtain ⟨b, o, rfl, _, hc⟩ := h.at_ (by omega)
      have hx := hc k _ (List.getElem?_eq_getElem hlt)
      have i1 : (k : Int) < l.length := by omega
      clear hc h
      have HI := Lib.hid (List.getElem_mem hlt)
      have HT := Lib.hid (List.take_succ_eq_append_getElem hlt)
      generalize l[k] = y at *
      by_cases he : y = x
      · subst he
        have HV : Hid (decide (y ∈ l) = true) := Lib.hid (decide_eq_true HI.out)
        go_wp2
        go_ret
        exact ⟨by rw [HV.out]; rfl, rfl⟩
      · have hb : ((y : Int) == (x : Int)) = false := by simp; omega
        have HR : Hid (x ∉ l.take (k + 1)) := Lib.hid (by rw [HT.out]; simp only [List.mem_append, List.mem_singleton, not_or]; exact ⟨HM.out, fun e => he e.symm⟩)
        clear he
        go_wp2
        go_round
        case rel => exact ⟨k + 1, by go_num, by omega, HR.out⟩
        case measure => simp [intOf]; omega
    · have HV : Hid (decide (x ∈ l) = false) := Lib.hid (decide_eq_false (by have := HM.out; rwa [List.take_of_length_le (by omega)] at this))
      go_wp2
      go_ret
      exact ⟨by rw [HV.out]; rfl, rfl⟩
end Go.Proofs.YtmhckcpcnkhbeaaDoor
