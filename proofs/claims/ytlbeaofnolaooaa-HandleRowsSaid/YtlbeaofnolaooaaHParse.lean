/-
  WALKS: Parse (the program's and the document's).
-/
import Derived.Test.YtlbeaofnolaooaaHText
namespace Go.Proofs.Ytlbeaofnolaooaa
open Go.RowKit
set_option maxRecDepth 100000
set_option linter.unusedVariables false
set_option linter.unusedSimpArgs false

attribute [local go_sem] Oper.semAt_some

theorem split_len (s : ByteArray) (c : Int) : ∀ x ∈ splitL s c, x.length ≤ s.size := by
  have hc : ∀ a b, (cutL s a b).length ≤ s.size := fun a b => by
    unfold cutL
    rw [List.length_take, List.length_drop]
    have : s.data.toList.length = s.size := by simp
    omega
  have hp : ∀ k, ∀ x ∈ ps s c k, x.length ≤ s.size := by
    intro k
    induction k with
    | zero => simp [ps]
    | succ k ih =>
      intro x hx
      simp only [ps] at hx
      split at hx
      · rcases List.mem_append.1 hx with h | h
        · exact ih x h
        · rw [List.mem_singleton.1 h]; exact hc _ _
      · exact ih x hx
  intro x hx
  rcases List.mem_append.1 hx with h | h
  · exact hp _ x h
  · rw [List.mem_singleton.1 h]; exact hc _ _

/-- The text of the empty list. -/
theorem dash_iff {s : ByteArray} : (s.toList == [45]) = true ↔ s.data.toList = [45] := by rw [ByteArray.toList_eq]; simp
theorem dash_f {s : ByteArray} (h : s.data.toList ≠ [45]) : (s.toList == [45]) = false := by rw [ByteArray.toList_eq]; simpa using h

theorem refParse_dash (s : ByteArray) (w : World) (h : s.data.toList = [45]) :
    Calls Try.prog 30 #[.string s] w fun e w' => e = .returned (.tuple #[.slice none 0 0, .int .i64 0]) ∧ w = w' := by
  have hd := dash_iff.2 h
  have hd2 : s.toList = [45] := by rw [ByteArray.toList_eq]; exact h
  clear h
  go_enter Try.func30, Try.ntmps30
  go_wp2
  go_ret2
  exact ⟨rfl, rfl⟩

def PR (w : World) (l : List Bs) (e : Ending) (w' : World) : Prop := ∃ v, e = .returned (.tuple #[v, .int .i64 0]) ∧ OwnS w' w.heap.size v l ∧ Below w.heap.size w w'

set_option maxHeartbeats 1000000 in
theorem refParse_ok (s : ByteArray) (w : World) (hs : s.size ≤ 1000000) (h : s.data.toList ≠ [45]) (ho : okT (splitL s 32) = true) :
    Calls Try.prog 30 #[.string s] w (PR w (splitL s 32)) := by
  have hd := dash_f h
  have hne : ¬ s.toList = [45] := by rw [ByteArray.toList_eq]; exact h
  have CS := Lib.hid (split_any s 32 w (by omega))
  have HO := Lib.hid (okT_out ho)
  have HL := Lib.hid (split_len s 32)
  have hll := splitL_le s 32
  clear h ho
  generalize splitL s 32 = l at *
  go_enter Try.func30, Try.ntmps30
  go_wp2_with (go_at_call 39; refine CS.out.mono ?_; rintro e w1 ⟨v, rfl, own, hb⟩; obtain ⟨A, c, rfl, hst, _, _⟩ := own.form)
  have OW := Lib.hid own
  clear own
  go_loop [5] (fun i => ∃ k : Nat, i = .int .i64 k ∧ k ≤ l.length) (fun i => l.length - (intOf i).toNat)
  case atStart => exact ⟨0, rfl, Nat.zero_le _⟩
  case round =>
    obtain ⟨k, rfl, hk⟩ := hrel
    by_cases hlt : k < l.length
    · obtain ⟨b, o, rfl, _, hcc⟩ := hst.at_ (by omega)
      have hx := hcc k _ (List.getElem?_eq_getElem hlt)
      have CM := fun W => Lib.hid (refMay_any ⟨(l[k]).toArray⟩ W (by have := HL.out _ (List.getElem_mem hlt); show (l[k]).length ≤ _; unfold maxLen; omega))
      have hm' : mayB ⟨(l[k]).toArray⟩ = true := HO.out _ (List.getElem_mem hlt)
      clear hcc
      go_wp2_with (go_at_call 11; refine (CM _).out.mono ?_; rintro e w2 ⟨rfl, rfl⟩)
      go_round
      case rel => exact ⟨k + 1, by go_num, by omega⟩
      case measure => simp [intOf]; omega
    · go_wp2
      go_ret2
      exact ⟨_, rfl, OW.out, hb⟩

theorem okT_split {l : List Bs} (h : okT l = false) : ∃ k, ∃ hk : k < l.length, mayS l[k] = false ∧ ∀ j (hj : j < k), mayS (l[j]'(by omega)) = true := by
  induction l with
  | nil => simp [okT] at h
  | cons x l ih =>
    by_cases hx : mayS x = true
    · have : okT l = false := by
        unfold okT at h ⊢
        rw [List.all_cons, hx, Bool.true_and] at h
        exact h
      obtain ⟨k, hk, h1, h2⟩ := ih this
      refine ⟨k + 1, by simpa using hk, by simpa using h1, fun j hj => ?_⟩
      cases j with
      | zero => exact hx
      | succ j => exact h2 j (by omega)
    · exact ⟨0, by simp, by simpa using hx, fun j hj => absurd hj (Nat.not_lt_zero _)⟩

set_option maxHeartbeats 1000000 in
theorem refParse_bad (s : ByteArray) (w : World) (hs : s.size ≤ 1000000) (h : s.data.toList ≠ [45]) (ho : okT (splitL s 32) = false) :
    Calls Try.prog 30 #[.string s] w fun e w' => e = .returned (.tuple #[.slice none 0 0, .int .i64 10]) ∧ Below w.heap.size w w' := by
  have hd := dash_f h
  have hne : ¬ s.toList = [45] := by rw [ByteArray.toList_eq]; exact h
  have CS := Lib.hid (split_any s 32 w (by omega))
  obtain ⟨q, hq, hbad, hgood⟩ := okT_split ho
  have HL := Lib.hid (split_len s 32)
  have hll := splitL_le s 32
  clear h ho
  generalize splitL s 32 = l at *
  have HB := Lib.hid hbad
  have HG := Lib.hid hgood
  clear hbad hgood
  go_enter Try.func30, Try.ntmps30
  go_wp2_with (go_at_call 39; refine CS.out.mono ?_; rintro e w1 ⟨v, rfl, own, hb⟩; obtain ⟨A, c, rfl, hst, _, _⟩ := own.form)
  clear own
  go_loop [5] (fun i => ∃ k : Nat, i = .int .i64 k ∧ k ≤ q) (fun i => l.length - (intOf i).toNat)
  case atStart => exact ⟨0, rfl, Nat.zero_le _⟩
  case round =>
    obtain ⟨k, rfl, hk⟩ := hrel
    have hlt : k < l.length := by omega
    obtain ⟨b, o, rfl, _, hcc⟩ := hst.at_ (by omega)
    have hx := hcc k _ (List.getElem?_eq_getElem hlt)
    have CM := fun W => Lib.hid (refMay_any ⟨(l[k]).toArray⟩ W (by have := HL.out _ (List.getElem_mem hlt); show (l[k]).length ≤ _; unfold maxLen; omega))
    clear hcc
    by_cases hkq : k = q
    · subst hkq
      have hm' : mayB ⟨(l[k]).toArray⟩ = false := HB.out
      go_wp2_with (go_at_call 11; refine (CM _).out.mono ?_; rintro e w2 ⟨rfl, rfl⟩)
      go_ret2
      exact ⟨rfl, hb⟩
    · have hm' : mayB ⟨(l[k]).toArray⟩ = true := HG.out k (by omega)
      go_wp2_with (go_at_call 11; refine (CM _).out.mono ?_; rintro e w2 ⟨rfl, rfl⟩)
      go_round
      case rel => exact ⟨k + 1, by go_num, by omega⟩
      case measure => simp [intOf]; omega
end Go.Proofs.Ytlbeaofnolaooaa
