/-
  WALKS: Give, Take of an arena.
-/
import Derived.Test.YtaofhooddbkglaaAProg
import Derived.StillTailTactics
import Derived.WalkMore
import Derived.ScopeJumps
namespace Go.Proofs.Ytaofhooddbkglaa
open Go.RowKit
set_option maxRecDepth 100000
set_option linter.unusedVariables false
set_option linter.unusedSimpArgs false

def giveS (s : Ar) (k : Int) : Ar := if takenB s k then ⟨s.tk.set k.toNat false, s.ag⟩ else s
def giveE (s : Ar) (k : Int) : Int := if takenB s k then 0 else 60
theorem ArOk.give {s : Ar} (h : ArOk s) (k : Int) : ArOk (giveS s k) := by
  unfold giveS; split
  · exact ⟨by simp; exact h.pos, by simp; exact h.le, by simp; exact h.len⟩
  · exact h
theorem taken_at {s : Ar} {k : Int} (h : takenB s k = true) : ∃ n : Nat, k = n ∧ n < s.tk.length ∧ s.tk.getD n false = true := by
  unfold takenB exB at h
  simp only [Bool.and_eq_true, decide_eq_true_eq] at h
  obtain ⟨n, rfl⟩ := Int.eq_ofNat_of_zero_le h.1.1
  exact ⟨n, rfl, by omega, by simpa using h.2⟩
set_option maxHeartbeats 1000000 in
theorem give_any (B : Nat) (s : Ar) (hs : ArOk s) (k : Int) (w : World) (hA : AtC w B (arC B s)) : Calls Try.prog 11 #[ptr B, .int .i64 k] w fun e w' => e = .returned (.int .i64 (giveE s k)) ∧ AtC w' B (arC B (giveS s k)) ∧ Kept w w' (· ≠ B) := by
  have CM := Lib.hid (fun W q => made_any B s W (hA.then q))
  have CT := Lib.hid (fun W q => taken_any B s hs k W (hA.then q))
  have HA := Lib.hid hA
  have hb : Below w.heap.size w w := Below.refl _ _
  cases h : takenB s k with
  | false =>
    have HE := Lib.hid (show giveE s k = 60 ∧ giveS s k = s by simp [giveE, giveS, h])
    generalize giveE s k = b at *
    generalize giveS s k = s2 at *
    rw [h] at CT
    clear hA hs h
    go_enter Try.func11, Try.ntmps11
    go_wp2_with (first
      | (go_at_call 28; ((with_reducible refine (CM.out _ hb).mono ?_); rintro e w1 ⟨rfl, rfl⟩))
      | (go_at_call 15; ((with_reducible refine (CT.out _ hb).mono ?_); rintro e w1 ⟨rfl, k1⟩; replace hb := bThen hb k1)))
    go_ret
    exact ⟨by rw [HE.out.1]; rfl, by rw [HE.out.2]; exact HA.out.then hb, .of_below hb⟩
  | true =>
    obtain ⟨n, rfl, hn, hg⟩ := taken_at h
    have hn2 : n < 64 := by have := hs.le; omega
    have HE := Lib.hid (show giveE s n = 0 ∧ giveS s n = ⟨s.tk.set n false, s.ag⟩ by simp [giveE, giveS, h])
    have HB := Lib.hid (bit_andNot hs.le hn)
    have HW := Lib.hid (wrap_pow hn2)
    have hsz := arC_size B s
    generalize giveE s n = b at *
    generalize giveS s n = s2 at *
    rw [h] at CT
    clear hA hs h hg
    go_enter Try.func11, Try.ntmps11
    go_wp2_with (first
      | (go_at_call 28; ((with_reducible refine (CM.out _ hb).mono ?_); rintro e w1 ⟨rfl, rfl⟩))
      | (go_at_call 15; ((with_reducible refine (CT.out _ hb).mono ?_); rintro e w1 ⟨rfl, k1⟩; replace hb := bThen hb k1)))
    have hb2 := hb.drew
    have m := HA.out.then hb2
    have c2 := ((HA.out.then hb).c 2).trans (arC_2 B s)
    have f2 := m.f 2
    have d2 := (m.c 2).trans (arC_2 B s)
    have M := Lib.hid m
    clear m
    go_still_tail 9, (by kernel_rfl)
    change wpList _ _ _ _ _ w1.drew
    generalize w1.drew = w2 at *
    go_wp2
    go_ret
    refine ⟨by rw [HE.out.1]; rfl, ?_, (Kept.of_below hb2).set (by simp) _⟩
    have q := M.out.set (i := 2) (by rw [hsz]; decide) (.int .u64 (bitsN (s.tk.set n false) : Int))
    rw [arC_set2] at q
    rw [HE.out.2, HW.out, HB.out]
    exact q
/-! ## Take -/
def freeIx (l : List Bool) : Nat := l.findIdx (fun b => !b)
def takeS (s : Ar) : Ar := if freeIx s.tk < s.tk.length then ⟨s.tk.set (freeIx s.tk) true, s.ag.set (freeIx s.tk) (s.ag.getD (freeIx s.tk) 0 + 1)⟩ else s
def takeV (s : Ar) : Int := if freeIx s.tk < s.tk.length then freeIx s.tk else 0
def takeE (s : Ar) : Int := if freeIx s.tk < s.tk.length then 0 else 4
theorem ArOk.take {s : Ar} (h : ArOk s) : ArOk (takeS s) := by
  unfold takeS; split
  · exact ⟨by simp; exact h.pos, by simp; exact h.le, by simp; exact h.len⟩
  · exact h
theorem free_at {l : List Bool} {k : Nat} (h : k < l.length) (ha : ∀ i, i < k → l.getD i false = true) (hf : l.getD k false = false) : freeIx l = k := by
  unfold freeIx
  rw [List.findIdx_eq (by exact h)]
  refine ⟨by simpa [List.getD_eq_getElem?_getD, h] using hf, fun j hj => ?_⟩
  have := ha j hj
  rw [List.getD_eq_getElem?_getD, List.getElem?_eq_getElem (by omega)] at this
  simpa using this
theorem free_none {l : List Bool} (ha : ∀ i, i < l.length → l.getD i false = true) : freeIx l = l.length := by
  unfold freeIx
  rw [List.findIdx_eq_length]
  intro x hx
  obtain ⟨i, hi, rfl⟩ := List.getElem_of_mem hx
  have := ha i hi
  rw [List.getD_eq_getElem?_getD, List.getElem?_eq_getElem hi] at this
  simpa using this
theorem taken_nat (s : Ar) {k : Nat} (h : k < s.tk.length) : takenB s k = s.tk.getD k false := by
  have : (k : Int) < s.tk.length := by omega
  simp [takenB, exB, this]
set_option maxHeartbeats 2000000 in
theorem take_any (B : Nat) (s : Ar) (hs : ArOk s) (hg : ∀ i, s.ag.getD i 0 ≤ 1000000) (w : World) (hA : AtC w B (arC B s)) : Calls Try.prog 13 #[ptr B] w fun e w' => e = .returned (.tuple #[.int .i64 (takeV s), .int .i64 (takeE s)]) ∧ AtC w' B (arC B (takeS s)) ∧ Kept w w' (· ≠ B) := by
  have CM := Lib.hid (fun W q => made_any B s W (hA.then q))
  have CT := Lib.hid (fun W q (k : Int) => taken_any B s hs k W (hA.then q))
  have c1 := (hA.c 1).trans (arC_1 B s)
  have HA := Lib.hid hA
  have HS := Lib.hid hs
  have hle := hs.le
  have HG := Lib.hid hg
  have hb : Below w.heap.size w w := Below.refl _ _
  clear hA hg hs
  go_enter Try.func13, Try.ntmps13
  go_wp2
  refine wp_scope_jumps 0 (fun a' w' => ∃ (k : Nat) (u5 u6 u7 u8 u9 u10 u11 u12 u13 u14 u15 u16 u17 u18 u19 u20 u21 u22 u23 u24 u25 u26 u27 u28 u29 u30 u31 u32 u33 u34 u35 u36 u37 u38 u39 u40 u41 : Value), a' = { tmps := #[ptr B, undef, .int .i64 0, .int .i64 0, .int .i64 k, u5, u6, u7, u8, u9, u10, u11, u12, u13, u14, u15, u16, u17, u18, u19, u20, u21, u22, u23, u24, u25, u26, u27, u28, u29, u30, u31, u32, u33, u34, u35, u36, u37, u38, u39, u40, u41], defers := [] } ∧ k < s.tk.length ∧ s.tk.getD k false = false ∧ (∀ i, i < k → s.tk.getD i false = true) ∧ Below w.heap.size w w') (fun _ _ => 0) rfl ?_ ?_
  case refine_1 =>
    go_wp2_with (go_at_call 28; ((with_reducible refine (CM.out _ hb).mono ?_); rintro e w1 ⟨rfl, rfl⟩))
    go_loopw [13] (fun i wr => ∃ k : Nat, i = .int .i64 k ∧ k ≤ s.tk.length ∧ (∀ i, i < k → s.tk.getD i false = true) ∧ Below w.heap.size w wr) (fun i _ => s.tk.length - (intOf i).toNat)
    case atStart => exact ⟨0, rfl, Nat.zero_le _, fun i hi => absurd hi (Nat.not_lt_zero _), hb⟩
    case round =>
      obtain ⟨k, rfl, hk, ha, hb1⟩ := hrel
      have HAll := Lib.hid ha
      clear ha hb
      by_cases hlt : k < s.tk.length
      · have i1 : (k : Int) < s.tk.length := by omega
        have hk64 : k < 64 := by omega
        have i2 : (k : Int) < 64 := by omega
        have HT := Lib.hid (taken_nat s hlt)
        have C := Lib.hid (CT.out _ hb1 k)
        cases hx : s.tk.getD k false with
        | true =>
          have HAll2 : Hid (∀ i, i < k + 1 → s.tk.getD i false = true) := Lib.hid (fun i hi => by
            rcases (show i < k ∨ i = k by omega) with h | rfl
            · exact HAll.out i h
            · exact hx)
          have C2 : Hid (Calls Try.prog 15 #[ptr B, .int .i64 k] wr fun e w' => e = .returned (.bool true) ∧ Below wr.heap.size wr w') := Lib.hid (by have := C.out; rw [HT.out, hx] at this; exact this)
          clear hx C HT
          go_wp2_with (go_at_call 15; ((with_reducible refine C2.out.mono ?_); rintro e w1 ⟨rfl, k1⟩; have hb2 := bThen hb1 k1))
          go_roundw
          case rel => exact ⟨k + 1, by go_num, by omega, HAll2.out, hb2⟩
          case measure => simp [intOf]; omega
        | false =>
          have C2 : Hid (Calls Try.prog 15 #[ptr B, .int .i64 k] wr fun e w' => e = .returned (.bool false) ∧ Below wr.heap.size wr w') := Lib.hid (by have := C.out; rw [HT.out, hx] at this; exact this)
          have HX := Lib.hid hx
          clear hx C HT
          go_wp2_with (go_at_call 15; ((with_reducible refine C2.out.mono ?_); rintro e w1 ⟨rfl, k1⟩; have hb2 := bThen hb1 k1))
          go_step3
          exact ⟨rfl, k, _, _, _, _, _, _, _, _, _, _, _, _, _, _, _, _, _, _, _, _, _, _, _, _, _, _, _, _, _, _, _, _, _, _, _, _, _, rfl, hlt, HX.out, HAll.out, hb2⟩
      · have e : k = s.tk.length := by omega
        subst e
        have HF := Lib.hid (free_none HAll.out)
        have HV := Lib.hid (show takeV s = 0 ∧ takeE s = 4 ∧ takeS s = s by simp [takeV, takeE, takeS, HF.out])
        go_wp2
        simp only [Exit.jump]
        go_ret2
        exact ⟨by rw [HV.out.1, HV.out.2.1]; rfl, by rw [HV.out.2.2]; exact HA.out.then hb1, .of_below hb1⟩
  case refine_2 =>
    rintro a' w1 ⟨k, u5, u6, u7, u8, u9, u10, u11, u12, u13, u14, u15, u16, u17, u18, u19, u20, u21, u22, u23, u24, u25, u26, u27, u28, u29, u30, u31, u32, u33, u34, u35, u36, u37, u38, u39, u40, u41, rfl, hlt, hx, hall, hb2⟩
    have hk64 : k < 64 := by omega
    have i2 : (k : Int) < 64 := by omega
    have HF := Lib.hid (free_at hlt hall hx)
    clear hall hx
    have HV := Lib.hid (show takeV s = k ∧ takeE s = 0 ∧ takeS s = ⟨s.tk.set k true, s.ag.set k (s.ag.getD k 0 + 1)⟩ by simp [takeV, takeE, takeS, HF.out, hlt])
    have HB := Lib.hid (bit_or hle hlt)
    have HW := Lib.hid (wrap_pow hk64)
    have hl2 : k < s.ag.length := by rw [HS.out.len]; exact hlt
    have hsz := arC_size B s
    have hgk := HG.out k
    go_wp2
    have hb3 := hb2.drew
    have m := HA.out.then hb3
    have c2 := ((HA.out.then hb2).c 2).trans (arC_2 B s)
    have f2 := m.f 2
    have d2 := (m.c 2).trans (arC_2 B s)
    have M := Lib.hid m
    clear m
    go_still_tail 9, (by kernel_rfl)
    change wpList _ _ _ _ _ w1.drew
    generalize w1.drew = w2 at *
    go_wp2
    have q := M.out.set (i := 2) (by rw [hsz]; decide) (.int .u64 (bitsN (s.tk.set k true) : Int))
    rw [arC_set2] at q
    rw [HW.out, HB.out]
    have hk3 : Kept w (w2.setCell ⟨B, 2, none⟩ (.int .u64 (bitsN (s.tk.set k true) : Int))) (· ≠ B) := (Kept.of_below hb3).set (by simp) _
    clear HB HW M
    generalize w2.setCell ⟨B, 2, none⟩ (.int .u64 (bitsN (s.tk.set k true) : Int)) = w3 at *
    have c3 := (q.c (3 + k)).trans (arC_3 B _ hk64)
    have f3 := q.drew1.f (3 + k)
    have d3 := (q.drew1.c (3 + k)).trans (arC_3 B _ hk64)
    have hsz2 := arC_size B ⟨s.tk.set k true, s.ag⟩
    have Q := Lib.hid q.drew1
    have HK3 := Lib.hid (hk3.trans (Kept.of_below (Below.refl _ _).drew))
    have HX := Lib.hid (arC_set3 B ⟨s.tk.set k true, s.ag⟩ hk64 hl2 (s.ag.getD k 0 + 1))
    clear q hk3
    simp only at c3 d3
    generalize hgg : s.ag.getD k 0 = g at *
    clear hgg
    go_still_tail 10, (by kernel_rfl)
    change wpList _ _ _ _ _ w3.drew
    generalize w3.drew = w4 at *
    go_wp2
    simp only [Exit.jump]
    go_ret2
    refine ⟨by rw [HV.out.1, HV.out.2.1]; rfl, ?_, HK3.out.set (by simp) _⟩
    have q2 := Q.out.set (i := 3 + k) (by rw [hsz2]; omega) (.int .i64 ((g + 1 : Nat) : Int))
    rw [HX.out] at q2
    rw [HV.out.2.2]
    simpa using q2
end Go.Proofs.Ytaofhooddbkglaa
