/-
  WALKS: isLetter, isLater, letter; May of the program and of the document's answer: both say 'mayB s' of any string s, and write nothing that was there.
-/
import Derived.Test.YtjocbokfdfdkeaaGreatChecked
import Derived.Test.YtjocbokfdfdkeaaGreatLZ1
import Derived.WalkKit
import Derived.WalkSpells
import Derived.WalkLawsBesides
import Derived.Lib.OthersKept
import Derived.Lib.Hide
import Derived.Deep.QuietTactic
import Derived.BigQuiet
import Derived.Shelf.Small.Strs
import Derived.Test.YtjocbokfdfdkeaaGreatShelf
namespace Go.Proofs.YtjocbokfdfdkeaaGreat.HL
open Go.RowKit
set_option maxRecDepth 100000
set_option linter.unusedVariables false

end Go.Proofs.YtjocbokfdfdkeaaGreat.HL
/-
  WALK: the document's May: it says 'mayB s' of any string s, and writes nothing.
-/
namespace Go.Proofs.YtjocbokfdfdkeaaGreat.HL
open Go.RowKit
set_option maxRecDepth 100000
set_option linter.unusedVariables false

end Go.Proofs.YtjocbokfdfdkeaaGreat.HL
/-
  WALK: the document's Compare, and the program's: both give the order of the two texts' bytes.
-/
namespace Go.Proofs.YtjocbokfdfdkeaaGreat.HL
open Go.RowKit
set_option maxRecDepth 100000
set_option linter.unusedVariables false

theorem drop_cons (s : ByteArray) (k : Nat) (h : k < s.size) : s.data.toList.drop k = (s[k]'h) :: s.data.toList.drop (k + 1) := by
  have h2 : k < s.data.toList.length := by simpa using h
  rw [List.drop_eq_getElem_cons h2]
  rfl
theorem drop_all (s : ByteArray) (k : Nat) (h : ¬ k < s.size) : s.data.toList.drop k = [] := by
  apply List.drop_eq_nil_of_le
  simp; omega

/-- w' is w but for draws. -/
def Dr (w w' : World) : Prop := ∃ n, w' = w.drewN n
theorem Dr.refl (w : World) : Dr w w := ⟨0, rfl⟩
theorem Dr.one (w : World) (a : Nat) : Dr w (w.drewN a) := ⟨a, rfl⟩
theorem Dr.two (w : World) (a b : Nat) : Dr w ((w.drewN a).drewN b) := ⟨_, World.drewN_drewN _ _ _⟩
theorem Dr.three (w : World) (a b c : Nat) : Dr w (((w.drewN a).drewN b).drewN c) := ⟨_, by rw [World.drewN_drewN, World.drewN_drewN]⟩
theorem Dr.below {w w' : World} (h : Dr w w') (B : Nat) : Below B w w' := by
  obtain ⟨n, rfl⟩ := h
  exact ⟨rfl, rfl, rfl, Nat.le_refl _, fun _ _ => rfl⟩

end Go.Proofs.YtjocbokfdfdkeaaGreat.HL
/-
  A slice that reads as a list of strings; the document's Same.
-/
namespace Go.Proofs.YtjocbokfdfdkeaaGreat.HL
open Go.RowKit
set_option maxRecDepth 100000
set_option linter.unusedVariables false

/-- A string, its bytes given. -/
abbrev str (x : List UInt8) : Value := .string ⟨x.toArray⟩
/-- The cells from address A on, below block B, read as the strings xs. -/
def Strs (w : World) (B : Nat) (A : Option Addr) (xs : List (List UInt8)) : Prop :=
  xs = [] ∨ ∃ b off, A = some ⟨b, off, none⟩ ∧ b < B ∧ ∀ j x, xs[j]? = some x → w.cell? ⟨b, off + j, none⟩ = some (str x)
theorem Strs.nil_ (w : World) (B : Nat) (A : Option Addr) : Strs w B A [] := .inl rfl
theorem Strs.at_ {w : World} {B : Nat} {A : Option Addr} {xs : List (List UInt8)} (h : Strs w B A xs) (h0 : 0 < xs.length) :
    ∃ b off, A = some ⟨b, off, none⟩ ∧ b < B ∧ ∀ j x, xs[j]? = some x → w.cell? ⟨b, off + j, none⟩ = some (str x) := by
  rcases h with rfl | h
  · simp at h0
  · exact h
theorem Strs.keep {w w' : World} {B : Nat} {A : Option Addr} {xs : List (List UInt8)} (h : Strs w B A xs) (hk : ∀ b o, b < B → w'.cell? ⟨b, o, none⟩ = w.cell? ⟨b, o, none⟩) : Strs w' B A xs := by
  rcases h with h | ⟨b, off, e, hb, hc⟩
  · exact .inl h
  · exact .inr ⟨b, off, e, hb, fun j x hx => (hk _ _ hb).trans (hc j x hx)⟩
theorem Strs.below {w w' : World} {B : Nat} {A : Option Addr} {xs : List (List UInt8)} (h : Strs w B A xs) (hb : Below B w w') : Strs w' B A xs := h.keep fun b o hlt => hb.cell (p := ⟨b, o, none⟩) hlt
theorem Strs.more {w : World} {B B' : Nat} {A : Option Addr} {xs : List (List UInt8)} (h : Strs w B A xs) (hB : B ≤ B') : Strs w B' A xs := by
  rcases h with h | ⟨b, off, e, hb, hc⟩
  · exact .inl h
  · exact .inr ⟨b, off, e, by omega, hc⟩

theorem strs_open {w : World} {a : Addr} {len cap : Nat} {ss : List ByteArray} (hl : len ≤ cap) (hm : cap ≤ maxLen) (hz : ss.length = cap) (hcell : ∀ i, i < ss.length → w.cell? (a.add i) = some (.string (ss.getD i ByteArray.empty))) (hws : ∀ s ∈ ss, s.size ≤ maxLen) :
    ∃ xs, Strs w w.heap.size (some a) xs ∧ xs.length = len ∧ xs.length ≤ maxLen ∧ (∀ x ∈ xs, x.length ≤ maxLen) ∧ xs.length ≤ cap := by
  refine ⟨(ss.take len).map (·.data.toList), ?_, by simp; omega, by simp; omega, ?_, by simp; omega⟩
  · by_cases h0 : len = 0
    · subst h0; exact .inl (by simp)
    · have c0 := hcell 0 (by omega)
      obtain ⟨b, off, spot⟩ := a
      have hspot : spot = none := by simpa [Addr.add] using World.cell?_spot c0
      subst hspot
      refine .inr ⟨b, off, rfl, by simpa [Addr.add] using World.block_lt_of_cell? w _ c0, fun j x hx => ?_⟩
      have hj : j < len := by
        have := (List.getElem?_eq_some_iff.1 hx).1
        simp at this; omega
      have hc := hcell j (by omega)
      have hadd : (⟨b, off, none⟩ : Addr).add j = ⟨b, off + j, none⟩ := by unfold Addr.add; split <;> simp_all
      rw [hadd] at hc
      rw [hc]
      have hj2 : j < ss.length := by omega
      rw [List.getElem?_map, List.getElem?_take, if_pos hj, List.getElem?_eq_getElem hj2] at hx
      simp only [Option.map_some, Option.some.injEq] at hx
      rw [List.getD_eq_getElem?_getD, List.getElem?_eq_getElem hj2, ← hx]
      rfl
  · intro x hx
    obtain ⟨s, hs, rfl⟩ := List.mem_map.1 hx
    have := hws s (List.mem_of_mem_take hs)
    simpa using this

theorem take_step {xs ys : List (List UInt8)} {k : Nat} (h1 : k < xs.length) (h2 : k < ys.length) (h : xs.take k = ys.take k) (he : xs[k] = ys[k]) : xs.take (k + 1) = ys.take (k + 1) := by
  rw [List.take_succ_eq_append_getElem h1, List.take_succ_eq_append_getElem h2, h, he]

noncomputable def sameB (xs ys : List (List UInt8)) : Bool := @decide (xs = ys) (Classical.propDecidable _)
theorem sameB_t {xs ys : List (List UInt8)} (h : xs = ys) : sameB xs ys = true := by simp [sameB, h]
theorem sameB_f {xs ys : List (List UInt8)} (h : xs ≠ ys) : sameB xs ys = false := by simp [sameB, h]

set_option maxHeartbeats 1000000 in
theorem same_any (A1 A2 : Option Addr) (c1 c2 : Nat) (xs ys : List (List UInt8)) (w : World) (B : Nat) (h1 : Strs w B A1 xs) (h2 : Strs w B A2 ys) (hn : xs.length ≤ maxLen) (hm : ys.length ≤ maxLen) :
    Calls Tryz.prog 44 #[.slice A1 xs.length c1, .slice A2 ys.length c2] w fun e w' => e = .returned (.bool (sameB xs ys)) ∧ Dr w w' := by
  unfold maxLen at hn hm
  by_cases hl : xs.length = ys.length
  · have hlb : ((xs.length : Int) != (ys.length : Int)) = false := by simp [hl]
    have HL := Lib.hid hl
    clear hl
    go_enter Tryz.func44, Tryz.ntmps44
    go_wp2
    go_loopw [5] (fun i w' => ∃ k : Nat, i = .int .i64 k ∧ Dr w w' ∧ k ≤ xs.length ∧ xs.take k = ys.take k) (fun i _ => xs.length - (intOf i).toNat)
    case atStart => exact ⟨0, rfl, Dr.refl w, Nat.zero_le _, by simp⟩
    case round =>
      obtain ⟨k, rfl, ⟨n, rfl⟩, hk, ht⟩ := hrel
      have HT := Lib.hid ht
      clear ht
      by_cases hlt : k < xs.length
      · have hlt2 : k < ys.length := by rw [← HL.out]; exact hlt
        obtain ⟨b1, o1, rfl, _, hc1⟩ := h1.at_ (by omega)
        obtain ⟨b2, o2, rfl, _, hc2⟩ := h2.at_ (by omega)
        have hx1 := hc1 k _ (List.getElem?_eq_getElem hlt)
        have hx2 := hc2 k _ (List.getElem?_eq_getElem hlt2)
        have i1 : (k : Int) < (xs.length : Int) := by omega
        have i2 : (k : Int) < (ys.length : Int) := by omega
        clear hc1 hc2 h1 h2
        by_cases he : xs[k] = ys[k]
        · have HR := Lib.hid (take_step hlt hlt2 HT.out he)
          have hb : (xs[k] == ys[k]) = true := by simpa using he
          clear he
          go_wp2
          go_quiet (fail)
          go_wp2
          go_roundw
          case rel => exact ⟨k + 1, by go_num, by first | exact Dr.one _ _ | exact Dr.two _ _ _ | exact Dr.three _ _ _ _ | exact Dr.refl _, by omega, HR.out⟩
          case measure => simp [intOf]; omega
        · have hb : (xs[k] == ys[k]) = false := by simpa using he
          have HV := Lib.hid (sameB_f (xs := xs) (ys := ys) (fun h => he (by simp [h])))
          clear he
          go_wp2
          go_quiet (fail)
          go_wp2
          go_ret
          exact ⟨by rw [HV.out]; rfl, by first | exact Dr.one _ _ | exact Dr.two _ _ _ | exact Dr.three _ _ _ _ | exact Dr.refl _⟩
      · have hks : k = xs.length := by omega
        subst hks
        have HV := Lib.hid (sameB_t (xs := xs) (ys := ys) (by
          have := HT.out
          rw [List.take_of_length_le (Nat.le_refl _), HL.out, List.take_of_length_le (Nat.le_refl _)] at this
          exact this))
        go_wp2
        go_ret
        exact ⟨by rw [HV.out]; rfl, by first | exact Dr.one _ _ | exact Dr.two _ _ _ | exact Dr.three _ _ _ _ | exact Dr.refl _⟩
  · have hlb : ((xs.length : Int) != (ys.length : Int)) = true := by rw [bne_iff_ne]; omega
    have HV := Lib.hid (sameB_f (xs := xs) (ys := ys) (fun h => hl (by rw [h])))
    clear hl
    go_enter Tryz.func44, Tryz.ntmps44
    go_wp2
    go_ret
    exact ⟨by rw [HV.out]; rfl, Dr.refl _⟩
end Go.Proofs.YtjocbokfdfdkeaaGreat.HL
