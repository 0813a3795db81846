/-
  WALKS: Has, within, Long, Rising (the program's and the document's).
-/
import Derived.Test.YtlbeaofnolaooaaHWithout
namespace Go.Proofs.Ytlbeaofnolaooaa
open Go.RowKit
set_option maxRecDepth 100000
set_option linter.unusedVariables false
set_option linter.unusedSimpArgs false

theorem mem_take_succ {l : List Bs} {k : Nat} (h : k < l.length) {x : Bs} (hn : x ∉ l.take k) (hk : l[k] ≠ x) : x ∉ l.take (k + 1) := by
  rw [List.take_succ_eq_append_getElem h]
  simp only [List.mem_append, List.mem_singleton, not_or]
  exact ⟨hn, fun e => hk e.symm⟩

set_option maxHeartbeats 400000 in
theorem has_any (A : Option Addr) (c : Nat) (l : List Bs) (x : Bs) (B : Nat) (w : World) (h : Strs w B A l) (hn : l.length ≤ maxLen) :
    Calls Try.prog 44 #[.slice A l.length c, str x] w fun e w' => e = .returned (.bool (decide (x ∈ l))) ∧ w = w' := by
  unfold maxLen at hn
  go_enter Try.func44, Try.ntmps44
  go_wp2
  go_loop [5] (fun i => ∃ k : Nat, i = .int .i64 k ∧ k ≤ l.length ∧ x ∉ l.take k) (fun i => l.length - (intOf i).toNat)
  case atStart => exact ⟨0, rfl, Nat.zero_le _, by simp⟩
  case round =>
    obtain ⟨k, rfl, hk, hm⟩ := hrel
    have HM := Lib.hid hm
    clear hm
    by_cases hlt : k < l.length
    · obtain ⟨b, o, rfl, _, hc⟩ := h.at_ (by omega)
      have hx := hc k _ (List.getElem?_eq_getElem hlt)
      clear hc h
      by_cases he : l[k] = x
      · have hb : (l[k] == x) = true := by simpa using he
        have HV : Hid (decide (x ∈ l) = true) := Lib.hid (decide_eq_true (by rw [← he]; exact List.getElem_mem hlt))
        clear he
        go_wp2
        go_ret
        exact ⟨by rw [HV.out]; rfl, rfl⟩
      · have hb : (l[k] == x) = false := by simpa using he
        have HR := Lib.hid (mem_take_succ hlt HM.out he)
        clear he
        go_wp2
        go_round
        case rel => exact ⟨k + 1, by go_num, by omega, HR.out⟩
        case measure => simp [intOf]; omega
    · have HV : Hid (decide (x ∈ l) = false) := Lib.hid (decide_eq_false (by have := HM.out; rwa [List.take_of_length_le (by omega)] at this))
      go_wp2
      go_ret
      exact ⟨by rw [HV.out]; rfl, rfl⟩

def subB (a b : List Bs) : Bool := a.all fun x => decide (x ∈ b)
theorem subB_f {a b : List Bs} {x : Bs} (h : x ∈ a) (hn : x ∉ b) : subB a b = false := by
  unfold subB
  rw [List.all_eq_false]
  exact ⟨x, h, by simpa using hn⟩
theorem subB_t {a b : List Bs} (h : ∀ x ∈ a, x ∈ b) : subB a b = true := by
  unfold subB
  rw [List.all_eq_true]
  exact fun x hx => decide_eq_true (h x hx)

set_option maxHeartbeats 400000 in
theorem within_any (A1 A2 : Option Addr) (c1 c2 : Nat) (l m : List Bs) (B : Nat) (w : World) (h1 : Strs w B A1 l) (h2 : Strs w B A2 m) (hn : l.length ≤ maxLen) (hm : m.length ≤ maxLen) :
    Calls Try.prog 32 #[.slice A1 l.length c1, .slice A2 m.length c2] w fun e w' => e = .returned (.bool (subB l m)) ∧ w = w' := by
  have hn' := hn
  unfold maxLen at hn'
  go_enter Try.func32, Try.ntmps32
  go_wp2
  go_loop [5] (fun i => ∃ k : Nat, i = .int .i64 k ∧ k ≤ l.length ∧ ∀ x ∈ l.take k, x ∈ m) (fun i => l.length - (intOf i).toNat)
  case atStart => exact ⟨0, rfl, Nat.zero_le _, by simp⟩
  case round =>
    obtain ⟨k, rfl, hk, hall⟩ := hrel
    have HM := Lib.hid hall
    clear hall
    by_cases hlt : k < l.length
    · obtain ⟨b, o, rfl, _, hc⟩ := h1.at_ (by omega)
      have hx := hc k _ (List.getElem?_eq_getElem hlt)
      have HC := Lib.hid (has_any A2 c2 m l[k] B w h2 hm)
      clear hc h1 h2
      by_cases he : l[k] ∈ m
      · have hb : decide (l[k] ∈ m) = true := decide_eq_true he
        have HR : Hid (∀ x ∈ l.take (k + 1), x ∈ m) := Lib.hid (by
          rw [List.take_succ_eq_append_getElem hlt]
          intro x hx
          rcases List.mem_append.1 hx with h | h
          · exact HM.out x h
          · rw [List.mem_singleton.1 h]; exact he)
        clear he
        go_wp2_with (go_at_call 44; refine HC.out.mono ?_; rintro e w' ⟨rfl, rfl⟩)
        go_round
        case rel => exact ⟨k + 1, by go_num, by omega, HR.out⟩
        case measure => simp [intOf]; omega
      · have hb : decide (l[k] ∈ m) = false := decide_eq_false he
        have HV := Lib.hid (subB_f (List.getElem_mem hlt) he)
        clear he
        go_wp2_with (go_at_call 44; refine HC.out.mono ?_; rintro e w' ⟨rfl, rfl⟩)
        go_ret
        exact ⟨by rw [HV.out]; rfl, rfl⟩
    · have HV := Lib.hid (subB_t (a := l) (b := m) (by have := HM.out; rwa [List.take_of_length_le (by omega)] at this))
      go_wp2
      go_ret
      exact ⟨by rw [HV.out]; rfl, rfl⟩

def longB (l : List Bs) : Bool := decide (100 < l.length) || l.any fun x => decide (100 < x.length)
theorem longB_t1 {l : List Bs} (h : 100 < l.length) : longB l = true := by simp [longB, h]
theorem longB_t2 {l : List Bs} {x : Bs} (hx : x ∈ l) (h : 100 < x.length) : longB l = true := by
  unfold longB
  rw [Bool.or_eq_true]
  exact .inr (List.any_eq_true.2 ⟨x, hx, decide_eq_true h⟩)
theorem longB_f {l : List Bs} (h : ¬ 100 < l.length) (h2 : ∀ x ∈ l, ¬ 100 < x.length) : longB l = false := by
  unfold longB
  rw [Bool.or_eq_false_iff]
  exact ⟨decide_eq_false h, List.any_eq_false.2 fun x hx => by simpa using h2 x hx⟩
theorem longB_out {l : List Bs} (h : longB l = false) : l.length ≤ 100 ∧ ∀ x ∈ l, x.length ≤ 100 := by
  unfold longB at h
  rw [Bool.or_eq_false_iff] at h
  exact ⟨by have := of_decide_eq_false h.1; omega, fun x hx => by have := List.any_eq_false.1 h.2 x hx; simpa using this⟩

set_option maxHeartbeats 400000 in
theorem long_any (A : Option Addr) (c : Nat) (l : List Bs) (B : Nat) (w : World) (h : Strs w B A l) (hn : l.length ≤ maxLen) (he : ∀ x ∈ l, x.length ≤ maxLen) :
    Calls Try.prog 17 #[.slice A l.length c] w fun e w' => e = .returned (.bool (longB l)) ∧ w = w' := by
  unfold maxLen at hn
  by_cases h100 : 100 < l.length
  · have HV := Lib.hid (longB_t1 h100)
    go_enter Try.func17, Try.ntmps17
    go_wp2
    go_ret
    exact ⟨by rw [HV.out]; rfl, rfl⟩
  · have HE := Lib.hid he
    have H1 := Lib.hid h100
    have hle : l.length ≤ 100 := by omega
    clear he h100
    go_enter Try.func17, Try.ntmps17
    go_wp2
    go_loop [3] (fun i => ∃ k : Nat, i = .int .i64 k ∧ k ≤ l.length ∧ ∀ x ∈ l.take k, ¬ 100 < x.length) (fun i => l.length - (intOf i).toNat)
    case atStart => exact ⟨0, rfl, Nat.zero_le _, by simp⟩
    case round =>
      obtain ⟨k, rfl, hk, hall⟩ := hrel
      have HM := Lib.hid hall
      clear hall
      by_cases hlt : k < l.length
      · obtain ⟨b, o, rfl, _, hc⟩ := h.at_ (by omega)
        have hx := hc k _ (List.getElem?_eq_getElem hlt)
        have hxl := HE.out _ (List.getElem_mem hlt)
        unfold maxLen at hxl
        clear hc h
        by_cases hg : 100 < (l[k]).length
        · have HV := Lib.hid (longB_t2 (List.getElem_mem hlt) hg)
          go_wp2
          go_ret
          exact ⟨by rw [HV.out]; rfl, rfl⟩
        · have HR : Hid (∀ x ∈ l.take (k + 1), ¬ 100 < x.length) := Lib.hid (by
            rw [List.take_succ_eq_append_getElem hlt]
            intro x hx
            rcases List.mem_append.1 hx with h | h
            · exact HM.out x h
            · rw [List.mem_singleton.1 h]; exact hg)
          go_wp2
          go_round
          case rel => exact ⟨k + 1, by go_num, by omega, HR.out⟩
          case measure => simp [intOf]; omega
      · have HV := Lib.hid (longB_f (l := l) H1.out (by have := HM.out; rwa [List.take_of_length_le (by omega)] at this))
        go_wp2
        go_ret
        exact ⟨by rw [HV.out]; rfl, rfl⟩
end Go.Proofs.Ytlbeaofnolaooaa
