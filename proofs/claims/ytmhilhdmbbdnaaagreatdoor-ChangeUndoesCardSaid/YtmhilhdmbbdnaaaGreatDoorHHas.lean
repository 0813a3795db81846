/-
  WALKS: Has, within, Long, Rising (the program's and the document's).
-/
import Derived.Test.YtmhilhdmbbdnaaaGreatDoorHOrder
import Derived.Test.YtmhilhdmbbdnaaaGreatDoorHSame
import Derived.IntWalk
import Derived.BigQuiet
namespace Go.Proofs.YtmhilhdmbbdnaaaGreatDoor.HL
open Go.RowKit
set_option maxRecDepth 100000
set_option linter.unusedVariables false
set_option linter.unusedSimpArgs false

theorem mem_take_succ {l : List Bs} {k : Nat} (h : k < l.length) {x : Bs} (hn : x ∉ l.take k) (hk : l[k] ≠ x) : x ∉ l.take (k + 1) := by
  rw [List.take_succ_eq_append_getElem h]
  simp only [List.mem_append, List.mem_singleton, not_or]
  exact ⟨hn, fun e => hk e.symm⟩

set_option maxHeartbeats 400000 in
theorem has_any (A : Option Addr) (c : Nat) (l : List Bs) (x : Bs) (B : Nat) (w : World) (h : Strs w B A l) (hn : l.length ≤ maxLen) :
    Calls Tryz.prog 27 #[.slice A l.length c, str x] w fun e w' => e = .returned (.bool (decide (x ∈ l))) ∧ w = w' := by
  unfold maxLen at hn
  go_enter Tryz.func27, Tryz.ntmps27
  go_wp2
  go_loop [5] (fun i => ∃ k : Nat, i = .int .i64 k ∧ k ≤ l.length ∧ x ∉ l.take k) (fun i => l.length - (intOf i).toNat)
  case atStart => exact ⟨0, rfl, Nat.zero_le _, by simp⟩
  case round =>
    obtain ⟨k, rfl, hk, hm⟩ := hrel
    have HM := Lib.hid hm
    clear hm
    by_cases hlt : k < l.length
    · obtain ⟨b, o, rfl, _, hc⟩ := h.at_ (by omega)
      have hx := hc k _ (List.getElem?_eq_getElem hlt)
      clear hc h
      by_cases he : l[k] = x
      · have hb : (l[k] == x) = true := by simpa using he
        have HV : Hid (decide (x ∈ l) = true) := Lib.hid (decide_eq_true (by rw [← he]; exact List.getElem_mem hlt))
        clear he
        go_wp2
        go_ret
        exact ⟨by rw [HV.out]; rfl, rfl⟩
      · have hb : (l[k] == x) = false := by simpa using he
        have HR := Lib.hid (mem_take_succ hlt HM.out he)
        clear he
        go_wp2
        go_round
        case rel => exact ⟨k + 1, by go_num, by omega, HR.out⟩
        case measure => simp [intOf]; omega
    · have HV : Hid (decide (x ∈ l) = false) := Lib.hid (decide_eq_false (by have := HM.out; rwa [List.take_of_length_le (by omega)] at this))
      go_wp2
      go_ret
      exact ⟨by rw [HV.out]; rfl, rfl⟩

def subB (a b : List Bs) : Bool := a.all fun x => decide (x ∈ b)
theorem subB_f {a b : List Bs} {x : Bs} (h : x ∈ a) (hn : x ∉ b) : subB a b = false := by
  unfold subB
  rw [List.all_eq_false]
  exact ⟨x, h, by simpa using hn⟩
theorem subB_t {a b : List Bs} (h : ∀ x ∈ a, x ∈ b) : subB a b = true := by
  unfold subB
  rw [List.all_eq_true]
  exact fun x hx => decide_eq_true (h x hx)

def longB (l : List Bs) : Bool := decide (100 < l.length) || l.any fun x => decide (100 < x.length)
theorem longB_t1 {l : List Bs} (h : 100 < l.length) : longB l = true := by simp [longB, h]
theorem longB_t2 {l : List Bs} {x : Bs} (hx : x ∈ l) (h : 100 < x.length) : longB l = true := by
  unfold longB
  rw [Bool.or_eq_true]
  exact .inr (List.any_eq_true.2 ⟨x, hx, decide_eq_true h⟩)
theorem longB_f {l : List Bs} (h : ¬ 100 < l.length) (h2 : ∀ x ∈ l, ¬ 100 < x.length) : longB l = false := by
  unfold longB
  rw [Bool.or_eq_false_iff]
  exact ⟨decide_eq_false h, List.any_eq_false.2 fun x hx => by simpa using h2 x hx⟩
theorem longB_out {l : List Bs} (h : longB l = false) : l.length ≤ 100 ∧ ∀ x ∈ l, x.length ≤ 100 := by
  unfold longB at h
  rw [Bool.or_eq_false_iff] at h
  exact ⟨by have := of_decide_eq_false h.1; omega, fun x hx => by have := List.any_eq_false.1 h.2 x hx; simpa using this⟩

end Go.Proofs.YtmhilhdmbbdnaaaGreatDoor.HL
