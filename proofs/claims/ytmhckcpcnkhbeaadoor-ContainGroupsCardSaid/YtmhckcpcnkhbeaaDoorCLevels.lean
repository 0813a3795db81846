/-
  WALKS: Levels (it calls itself); whether a kind is in a row; two rows of kinds the same; a row written over.
-/
import Derived.Test.YtmhckcpcnkhbeaaDoorCKinds
namespace Go.Proofs.YtmhckcpcnkhbeaaDoor
open Go.RowKit
set_option maxRecDepth 100000
set_option linter.unusedVariables false
set_option linter.unusedSimpArgs false

def lvS (s : Nat × Nat) (p : Nat) : Nat × Nat := (if s.1 = 0 ∨ lowL p + 1 < s.1 then lowL p + 1 else s.1, max s.2 (highL p + 1))
def lvF (l : List Nat) : Nat × Nat := l.foldl lvS (0, 0)
theorem lvF_take {l : List Nat} {i : Nat} (h : i < l.length) : lvF (l.take (i + 1)) = lvS (lvF (l.take i)) l[i] := by
  rw [List.take_succ_eq_append_getElem h]
  unfold lvF
  rw [List.foldl_append]; rfl
theorem lowL_le (k : Nat) : lowL k ≤ 4 := by unfold lowL; split <;> omega
theorem highL_le (k : Nat) : highL k ≤ 4 := by unfold highL; split <;> omega
theorem lvS_le {s : Nat × Nat} (p : Nat) (h : s.1 ≤ 5 ∧ s.2 ≤ 5) : (lvS s p).1 ≤ 5 ∧ (lvS s p).2 ≤ 5 := by
  have := lowL_le p
  have := highL_le p
  unfold lvS
  dsimp only
  constructor
  · split <;> omega
  · omega
theorem lvF_le (l : List Nat) (i : Nat) : (lvF (l.take i)).1 ≤ 5 ∧ (lvF (l.take i)).2 ≤ 5 := by
  induction i with
  | zero => exact ⟨by simp [lvF], by simp [lvF]⟩
  | succ i ih =>
    by_cases h : i < l.length
    · rw [lvF_take h]; exact lvS_le _ ih
    · rw [List.take_of_length_le (by omega)]
      rw [List.take_of_length_le (by omega)] at ih
      exact ih
theorem parents_none {k : Nat} (h : kdB k = false) : parentsL k = [] := by
  unfold parentsL
  rw [List.filter_eq_nil_iff]
  intro p _
  simp [under_none h p]
theorem lvF_all {k : Nat} (h : underB k 0 = false) : lvF (parentsL k) = (lowL k, highL k) := by
  by_cases hk : k < 10
  · exact (show ∀ k, k < 10 → underB k 0 = false → lvF (parentsL k) = (lowL k, highL k) by decide +kernel) k hk h
  · have hn : kdB k = false := by rw [kdB_f]; omega
    rw [parents_none hn, (none_of hn).2.2.2.2.2.1, (none_of hn).2.2.2.2.2.2]; rfl
theorem up_lt {k p : Nat} (h : p ∈ parentsL k) : highL p < highL k := by
  rw [mem_parents] at h
  have hk := kdB_iff.1 (under_kd h.2)
  exact (show ∀ k, k < 10 → ∀ p, p < 10 → underB k p = true → 1 ≤ p → highL p < highL k by decide +kernel) k (by omega) p (by omega) h.2 h.1.1
theorem under_zero {k : Nat} (h : underB k 0 = true) : lowL k = 1 ∧ highL k = 1 := by
  have hk := kdB_iff.1 (under_kd h)
  exact (show ∀ k, k < 10 → underB k 0 = true → lowL k = 1 ∧ highL k = 1 by decide +kernel) k (by omega) h
theorem parents_len (k : Nat) : (parentsL k).length ≤ 9 := by
  unfold parentsL
  exact Nat.le_trans (List.length_filter_le _ _) (by decide)
theorem kids_len (k : Nat) : (kidsL k).length ≤ 9 := by
  unfold kidsL
  exact Nat.le_trans (List.length_filter_le _ _) (by decide)

theorem under0_any (k : Nat) (w : World) (hk : k ≤ 255) (hw : Tables w) : Calls Tryd.prog 18 #[.int .u8 k, .int .u8 0] w fun e w' => e = .returned (.bool (underB k 0)) ∧ Below w.heap.size w w' := under_any k 0 w hk (by omega) hw
theorem max_i (b h : Nat) : Value.int .i64 (if (b : Int) < (h : Int) + 1 then (h : Int) + 1 else (b : Int)) = Value.int .i64 ((max b (h + 1) : Nat) : Int) := by
  congr 1; split <;> omega
set_option maxHeartbeats 4000000 in
theorem levels_n (n : Nat) : ∀ (k : Nat) (w : World), highL k < n → k ≤ 255 → Tables w → Calls Tryd.prog 16 #[.int .u8 k] w fun e w' => e = .returned (.tuple #[.int .i64 (lowL k), .int .i64 (highL k)]) ∧ Below w.heap.size w w' := by
  induction n with
  | zero => intro k w hh; omega
  | succ n ih =>
    intro k w hh hk hw
    have CU := Lib.hid (under0_any k w hk hw)
    rcases (show underB k 0 = true ∨ underB k 0 = false by cases underB k 0 <;> simp) with h0 | h0
    · rw [h0] at CU
      have HV := Lib.hid (under_zero h0)
      clear h0 ih hh hw
      go_enter Tryd.func16, Tryd.ntmps16
      go_wp2_with (go_at_call 18; ((with_reducible refine CU.out.mono ?_); rintro e w1 ⟨rfl, k1⟩))
      go_ret2
      exact ⟨by rw [HV.out.1, HV.out.2]; rfl, k1⟩
    · rw [h0] at CU
      have HV := Lib.hid (lvF_all h0)
      have HH := Lib.hid hh
      have HI := Lib.hid ih
      have CP := Lib.hid (fun W (q : Below w.heap.size w W) => parents_any k W hk (hw.then q))
      have HW := Lib.hid hw
      have hlen := parents_len k
      have HM := Lib.hid (fun (p : Nat) (hp : p ∈ parentsL k) => And.intro (up_lt hp) (mem_parents.1 hp).1)
      clear h0 ih hh hw
      generalize parentsL k = L at *
      go_enter Tryd.func16, Tryd.ntmps16
      go_wp2_with (first
        | (go_at_call 18; ((with_reducible refine CU.out.mono ?_); rintro e w1 ⟨rfl, k1⟩))
        | (go_at_call 10; ((with_reducible refine (CP.out _ k1).mono ?_); rintro e w2 ⟨v, rfl, o2, k2⟩; obtain ⟨A, c, rfl, hr, _, hcap⟩ := o2.form; have HR := Lib.hid hr; clear o2 hr)))
      have kb := bThen k1 k2
      go_loopw [2, 3, 13] (fun a b i wr => ∃ j : Nat, j ≤ L.length ∧ i = .int .i64 j ∧ a = .int .i64 (lvF (L.take j)).1 ∧ b = .int .i64 (lvF (L.take j)).2 ∧ Below w2.heap.size w2 wr) (fun _ _ i _ => L.length - (intOf i).toNat)
      case atStart => exact ⟨0, by omega, rfl, by simp [lvF], by simp [lvF], Below.refl _ _⟩
      case round =>
        obtain ⟨j, hj, rfl, rfl, rfl, hbr⟩ := hrel
        have hle := lvF_le L j
        by_cases hlt : j < L.length
        · have i1 : (j : Int) < L.length := by omega
          have HT := Lib.hid (lvF_take hlt)
          obtain ⟨b, o, rfl, hbl, hc⟩ := HR.out.at_ (by omega)
          have hx := (hbr.cell (p := ⟨b, o + j, none⟩) hbl).trans (hc j _ (List.getElem?_eq_getElem hlt))
          have hm := HM.out L[j] (List.getElem_mem hlt)
          have CI := Lib.hid (HI.out L[j] wr (by have := HH.out; omega) (by omega) (HW.out.then (bThen kb hbr)))
          have h1 := lowL_le L[j]
          have h2 := highL_le L[j]
          clear hc
          generalize L[j] = p at *
          generalize lvF (L.take j) = s at *
          obtain ⟨a, b2⟩ := s
          dsimp only at hle
          have HS := Lib.hid hm
          clear hm
          by_cases ha : a = 0
          · subst ha
            have HT2 : Hid (lvF (List.take (j + 1) L) = (lowL p + 1, max b2 (highL p + 1))) := Lib.hid (by rw [HT.out]; simp [lvS])
            clear HT
            generalize lowL p = lo at *
            generalize highL p = hi at *
            go_wp2_with (go_at_call 16; ((with_reducible refine CI.out.mono ?_); rintro e w3 ⟨rfl, k3⟩))
            go_roundw
            case rel => exact ⟨j + 1, by omega, by go_num, by rw [HT2.out] <;> go_num, by rw [HT2.out]; exact max_i _ _, bThen hbr k3⟩
            case measure => simp [intOf]; omega
          · have i2 : ((a : Int) == 0) = false := by simp; omega
            by_cases hl : lowL p + 1 < a
            · have HT2 : Hid (lvF (List.take (j + 1) L) = (lowL p + 1, max b2 (highL p + 1))) := Lib.hid (by rw [HT.out]; simp [lvS, hl])
              clear HT
              have i3 : (lowL p : Int) + 1 < a := by omega
              clear hl
              generalize lowL p = lo at *
              generalize highL p = hi at *
              go_wp2_with (go_at_call 16; ((with_reducible refine CI.out.mono ?_); rintro e w3 ⟨rfl, k3⟩))
              go_roundw
              case rel => exact ⟨j + 1, by omega, by go_num, by rw [HT2.out] <;> go_num, by rw [HT2.out]; exact max_i _ _, bThen hbr k3⟩
              case measure => simp [intOf]; omega
            · have HT2 : Hid (lvF (List.take (j + 1) L) = (a, max b2 (highL p + 1))) := Lib.hid (by rw [HT.out]; simp [lvS, ha, hl])
              clear HT
              have i3 : ¬ (lowL p : Int) + 1 < a := by omega
              clear hl ha
              generalize lowL p = lo at *
              generalize highL p = hi at *
              go_wp2_with (go_at_call 16; ((with_reducible refine CI.out.mono ?_); rintro e w3 ⟨rfl, k3⟩))
              go_roundw
              case rel => exact ⟨j + 1, by omega, by go_num, by rw [HT2.out] <;> go_num, by rw [HT2.out]; exact max_i _ _, bThen hbr k3⟩
              case measure => simp [intOf]; omega
        · have e : j = L.length := by omega
          subst e
          have HE : Hid ((lvF (L.take L.length)) = (lowL k, highL k)) := Lib.hid (by rw [List.take_length]; exact HV.out)
          clear hle
          generalize lvF (L.take L.length) = s at *
          obtain ⟨a, b2⟩ := s
          go_wp2
          go_ret2
          exact ⟨by rw [← (Prod.mk.inj HE.out).1, ← (Prod.mk.inj HE.out).2]; rfl, bThen kb hbr⟩
theorem levels_any (k : Nat) (w : World) (hk : k ≤ 255) (hw : Tables w) : Calls Tryd.prog 16 #[.int .u8 k] w fun e w' => e = .returned (.tuple #[.int .i64 (lowL k), .int .i64 (highL k)]) ∧ Below w.heap.size w w' :=
  levels_n 5 k w (by have := highL_le k; omega) hk hw
end Go.Proofs.YtmhckcpcnkhbeaaDoor
