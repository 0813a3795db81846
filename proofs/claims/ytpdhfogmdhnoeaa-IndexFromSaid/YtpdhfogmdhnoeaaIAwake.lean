/-
  WALK: awake: the chapter's example.
-/
import Derived.Test.YtpdhfogmdhnoeaaIFilled
import Derived.Test.YtpdhfogmdhnoeaaITells
namespace Go.Proofs.Ytpdhfogmdhnoeaa.IX
open Go.RowKit HL
set_option maxRecDepth 100000
set_option linter.unusedVariables false
set_option linter.unusedSimpArgs false

def mayC (s : ByteArray) : Bool :=
  decide (1 ≤ s.size) && decide (s.size ≤ 16) && ltrI (bt s 0) && (List.range s.size).all (fun k => latI (bt s k)) && (List.range s.size).all (fun k => decide (k + 1 < s.size → ¬ (bt s k = 46 ∧ bt s (k + 1) = 46))) && decide (bt s (s.size - 1) ≠ 46)
theorem mayB_c (s : ByteArray) : mayB s = mayC s := by
  rw [Bool.eq_iff_iff, mayB_iff]
  unfold mayC MayP
  simp only [Bool.and_eq_true, decide_eq_true_eq, List.all_eq_true, List.mem_range]
  constructor
  · rintro ⟨a, b, c, d, e, f⟩
    exact ⟨⟨⟨⟨⟨a, b⟩, c⟩, d⟩, fun k _ => e k⟩, f⟩
  · rintro ⟨⟨⟨⟨⟨a, b⟩, c⟩, d⟩, e⟩, f⟩
    exact ⟨a, b, c, d, fun k hk => e k (by omega) hk, f⟩
theorem may_b : mayS [98] = true := by unfold mayS; rw [mayB_c]; decide
theorem may_a : mayS [97] = true := by unfold mayS; rw [mayB_c]; decide
theorem may_A : mayS [65] = false := by unfold mayS; rw [mayB_c]; decide
theorem put_1 : putE [] [98] 7 = 0 ∧ putL [] [98] 7 = [([98], 7)] := by
  have h := put_yes (l := []) (n := 7) may_b (by decide) (hasB_f.2 (by simp [keys]))
  refine ⟨h.1, h.2.trans ?_⟩
  decide
theorem put_2 : putE [([98], 7)] [97] 3 = 0 ∧ putL [([98], 7)] [97] 3 = [([97], 3), ([98], 7)] := by
  have h := put_yes (l := [([98], 7)]) (n := 3) may_a (by decide) (hasB_f.2 (by simp [keys]))
  refine ⟨h.1, h.2.trans ?_⟩
  decide
abbrev two : List Rw := [([97], 3), ([98], 7)]
theorem has_a : hasB two [97] = true := hasB_iff.2 (by simp [keys])
theorem put_3 : putE two [97] 4 = 71 ∧ putL two [97] 4 = two := put_no3 may_a (by decide) has_a
theorem put_4 : putE two [65] 4 = 10 ∧ putL two [65] 4 = two := put_no1 may_A
theorem num_a : numOf two [97] = 3 := by
  have h := plc_self (l := two) (by unfold Up keys Asc; decide) (i := 0) (by decide)
  have h2 : plc two [97] = 0 := h
  rw [numOf_t has_a (by rw [h2]; decide)]
  simp only [h2]; rfl
theorem plc_aa : plc two [97, 97] = 1 := by decide
theorem RdK.lits {α : Type} {K : El α} (w : World) (l : List α) (C : Array Value) (hC : C.toList = cellsK K l) (T : TypeId) : RdK K (w.alloc (.cells C T)) (w.heap.size + 1) (some ⟨w.heap.size, 0, none⟩) l := by
  refine .inr ⟨w.heap.size, 0, rfl, by omega, fun m u hu => ?_⟩
  rw [World.cell?_alloc_at _ _ _ _ rfl, Nat.zero_add, ← Array.getElem?_toList, hC]
  exact hu
set_option maxHeartbeats 4000000 in
theorem awake_any (w : World) : Calls Try.prog 26 #[] w fun e w' => e = .returned (.bool true) ∧ Below w.heap.size w w' := by
  have C0 := Lib.hid (new_any w)
  have CP1 := Lib.hid (fun W v (q : IxAt W w.heap.size v []) => put_any w.heap.size v [] [98] 7 W q (by decide) (by decide))
  have CP2 := Lib.hid (fun W v (q : IxAt W w.heap.size v [([98], 7)]) => put_any w.heap.size v [([98], 7)] [97] 3 W q (by decide) (by decide))
  have CP3 := Lib.hid (fun W v (q : IxAt W w.heap.size v two) => put_any w.heap.size v two [97] 4 W q (by decide) (by decide))
  have CP4 := Lib.hid (fun W v (q : IxAt W w.heap.size v two) => put_any w.heap.size v two [65] 4 W q (by decide) (by decide))
  have CF : Hid (∀ W v, IxAt W w.heap.size v two → Calls Try.prog 24 #[ptr w.heap.size, str [97, 97]] W fun e w' => ∃ A1 c1 A2 c2, e = .returned (.tuple #[.slice A1 1 c1, .slice A2 1 c2, .bool true]) ∧ OwnK strK w' W.heap.size (.slice A1 1 c1) [[98]] ∧ OwnK intK w' W.heap.size (.slice A2 1 c2) [7] ∧ Below W.heap.size W w') :=
    Lib.hid (fun W v (q : IxAt W w.heap.size v two) => from_form w.heap.size v two [97, 97] W q (by decide) (d := [([98], 7)]) (by rw [plc_aa]; rfl) (m := 1) rfl)
  have CN := Lib.hid (fun W v (q : IxAt W w.heap.size v two) => find_any w.heap.size v two [97] W q (by decide))
  have CA : Hid (∀ W v, IxAt W w.heap.size v two → Calls Try.prog 19 #[ptr w.heap.size] W fun e w' => ∃ A c, e = .returned (.slice A 2 c) ∧ OwnK strK w' W.heap.size (.slice A 2 c) [[97], [98]] ∧ Below W.heap.size W w') :=
    Lib.hid (fun W v (q : IxAt W w.heap.size v two) => all_form w.heap.size v two W q (by decide))
  have CL := Lib.hid (fun W v (q : IxAt W w.heap.size v two) => place_any w.heap.size v two [97, 97] W q (by decide))
  rw [put_1.1, put_1.2] at CP1
  rw [put_2.1, put_2.2] at CP2
  rw [put_3.1, put_3.2] at CP3
  rw [put_4.1, put_4.2] at CP4
  rw [num_a, has_a] at CN
  rw [plc_aa] at CL
  go_enter Try.func26, Try.ntmps26
  go_wp2_with (first
    | (go_at_call 10; ((with_reducible refine C0.out.mono ?_); rintro e w1 ⟨rfl, a1, k1⟩; have A1 : Hid (FI w w1 w.heap.size (.slice none 0 0) [] (.slice none 0 0) []) := Lib.hid ⟨a1, OwnK.nil_ _ _ _, k1, Nat.le_refl _, fun k e => by simp [Value.ownBlock] at e, by simp [Value.ownBlock]⟩; clear a1 k1))
    | (go_at_call 13; ((with_reducible refine (CP1.out _ _ A1.out.a).mono ?_); rintro e w2 ⟨v2, rfl, a, f, k⟩; have A2 := Lib.hid (A1.out.ix a f k); clear a f k))
    | (go_at_call 13; ((with_reducible refine (CP2.out _ _ A2.out.a).mono ?_); rintro e w3 ⟨v3, rfl, a, f, k⟩; have A3 := Lib.hid (A2.out.ix a f k); clear a f k))
    | (go_at_call 13; ((with_reducible refine (CP3.out _ _ A3.out.a).mono ?_); rintro e w4 ⟨v4, rfl, a, f, k⟩; have A4 := Lib.hid (A3.out.ix a f k); clear a f k))
    | (go_at_call 13; ((with_reducible refine (CP4.out _ _ A4.out.a).mono ?_); rintro e w5 ⟨v5, rfl, a, f, k⟩; have A5 := Lib.hid (A4.out.ix a f k); clear a f k))
    | (go_at_call 24; ((with_reducible refine (CF.out _ _ A5.out.a).mono ?_); rintro e w6 ⟨F1, d1, F2, d2, rfl, o1, o2, k⟩; have A6 := Lib.hid (A5.out.then k); have O1 := Lib.hid o1.rd.strs; have O2 := Lib.hid o2.rd.ints; clear o1 o2 k; obtain ⟨b1, f1, rfl, z1, h1⟩ := O1.out.at_ (by decide); obtain ⟨b2, f2, rfl, z2, h2⟩ := O2.out.at_ (by decide); have h1 := h1 0 _ rfl; have h2 := h2 0 _ rfl; simp only [Nat.add_zero] at h1 h2; have H1 := Lib.hid h1; have H2 := Lib.hid h2; clear h1 h2))
    | (go_at_call 22; ((with_reducible refine (CN.out _ _ A6.out.a).mono ?_); rintro e w7 ⟨rfl, k⟩; have A7 := Lib.hid (A6.out.then k); have K7 := Lib.hid k; clear k))
    | (go_at_call 19; ((with_reducible refine (CA.out _ _ A7.out.a).mono ?_); rintro e w8 ⟨F3, d3, rfl, o3, k⟩; have A8 := Lib.hid (A7.out.then k); have K8 := Lib.hid (bThen K7.out k); have O3 := Lib.hid o3; clear o3 k))
    | (go_at_call 29; (refine (same_yes F3 (some ⟨w8.heap.size, 0, none⟩) d3 2 2 [[97], [98]] _ (O3.out.below ((Below.refl _ _).alloc (Nat.le_refl _) _)).rd ((RdK.lits w8 _ _ rfl _).more (by simp)) rfl (by decide)).mono ?_; rintro e w9 ⟨rfl, k⟩; have K9 := Lib.hid (bThen (bAl K8.out _) k); have A9 := Lib.hid ((A8.out.then ((Below.refl _ _).alloc (Nat.le_refl _) _)).then k); clear k))
    | (go_at_call 25; ((with_reducible refine (CL.out _ _ A9.out.a).mono ?_); rintro e w10 ⟨rfl, k⟩; have A10 := Lib.hid (A9.out.then k); have h1 := ((bThen K9.out k).cell (p := ⟨b1, f1, none⟩) z1).trans H1.out; have h2 := ((bThen K9.out k).cell (p := ⟨b2, f2, none⟩) z2).trans H2.out; clear k)))
  go_ret
  exact ⟨rfl, A10.out.bel⟩
end Go.Proofs.Ytpdhfogmdhnoeaa.IX
