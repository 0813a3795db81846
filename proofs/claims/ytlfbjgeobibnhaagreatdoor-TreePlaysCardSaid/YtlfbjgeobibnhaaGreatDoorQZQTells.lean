/-
  WALK: what both trees tell of a handle: tells.
-/
import Derived.Test.YtlfbjgeobibnhaaGreatDoorQZ14
import Derived.Deep.RegionHeld3
namespace Go.Proofs.YtlfbjgeobibnhaaGreatDoor.TX
open Go.RowKit HL
open IX (ptr El cellsK cellsK_at OwnK IxAt Rw numOf mayS strK RdK keys)
set_option maxRecDepth 100000
set_option linter.unusedVariables false
set_option linter.unusedSimpArgs false
theorem formQ {α : Type} {K : El α} {f : FuncId} {args : Array Value} {W : World} {l : List α} {m : Nat} (hm : l.length = m) (h : Calls Tryz.prog f args W fun e w' => ∃ v', e = .returned v' ∧ OwnK K w' W.heap.size v' l ∧ Below W.heap.size W w') :
    Calls Tryz.prog f args W fun e w' => ∃ A c, e = .returned (.slice A m c) ∧ OwnK K w' W.heap.size (.slice A m c) l ∧ Below W.heap.size W w' :=
  h.mono fun e w' ⟨v', he, ho, hb⟩ => by
    obtain ⟨A, c, rfl, _, _, _⟩ := OwnK.form ho
    subst hm
    exact ⟨A, c, he, ho, hb⟩
theorem rdQ {α : Type} {K : El α} {w : World} {base n c : Nat} {A : Option Addr} {l : List α} (h : OwnK K w base (.slice A n c) l) : RdK K w w.heap.size A l := by
  obtain ⟨A', c', e, r, _⟩ := OwnK.form h
  cases e; exact r
theorem above_lenQ {s : Sl} (hl : s.length ≤ 64) (h : Bs) : (above s h).length ≤ 64 := by
  have key : ∀ (n : Nat) (acc : List Bs) (p : Bs), acc.Nodup → (∀ x ∈ acc, there s x = true) → (upL s n acc p).length ≤ 64 := fun n => by
    induction n with
    | zero => intro acc p h1 h2; exact acc_len h1 h2 hl
    | succ n ih =>
      intro acc p h1 h2
      unfold upL
      split
      · rename_i ht
        split
        · exact acc_len h1 h2 hl
        · rename_i hm
          refine ih _ _ (List.nodup_append.2 ⟨h1, by simp, fun a ha b hb e => ?_⟩) (fun x hx => ?_)
          · simp at hb; subst hb; subst e; exact hm ha
          · rcases List.mem_append.1 hx with q | q
            · exact h2 x q
            · obtain rfl : x = p := by simpa using q
              exact ht
      · exact acc_len h1 h2 hl
  exact key 65 [] _ List.nodup_nil (by simp)
set_option maxHeartbeats 16000000
theorem tells_any {w W : World} {L : Lay} {X BT BL : Nat} {s : Sl} {n : Nat} (h : Two w W L X BT BL s n) (x : ByteArray) (hx : x.size ≤ 100) :
    Calls Tryz.prog 9 #[ptr L.T, ptr X, .string x] W fun e W' => e = .returned (.bool true) ∧ Below W.heap.size W W' := by
  have hx2 : x.size ≤ maxLen := Nat.le_trans hx (by unfold maxLen; decide)
  have hln := h.r.wf.ln
  have wf := h.r.wf
  have TT := Lib.hid (fun W1 (q : Below W.heap.size W W1) => h.then q)
  obtain ⟨mm, hmm⟩ : ∃ m, (names s).length = m := ⟨_, rfl⟩
  obtain ⟨mk, hmk⟩ : ∃ m, (keys (rowsOf s (some x.data.toList))).length = m := ⟨_, rfl⟩
  obtain ⟨ma, hma⟩ : ∃ m, (above s x.data.toList).length = m := ⟨_, rfl⟩
  have hk64 : mk ≤ 64 := by rw [← hmk]; simpa [keys] using Nat.le_trans (rowsOf_len s (some x.data.toList)) hln
  have ha64 : ma ≤ 64 := hma ▸ above_lenQ hln _
  have hrow : (rowsOf s none).length = mm := by rw [← hmm]; show (rowsN s).length = _; simp [rowsN]
  have CA := Lib.hid (fun W1 (q : Below W.heap.size W W1) => at_any (TT.out W1 q).t x)
  have CrA := Lib.hid (fun W1 (q : Below W.heap.size W W1) => rAt_any (TT.out W1 q).r x)
  have CS := Lib.hid (fun W1 (q : Below W.heap.size W W1) => slot_any (TT.out W1 q).t x)
  have CrS := Lib.hid (fun W1 (q : Below W.heap.size W W1) => rSlot_b (TT.out W1 q).r x)
  have CM : Hid (∀ W1, Below W.heap.size W W1 → Calls Tryz.prog 31 #[ptr L.T] W1 fun e w' => e = .returned (.int .i64 mm) ∧ W1 = w') := Lib.hid (fun W1 q => by have := many_tr (TT.out W1 q).t.t; rw [hrow] at this; exact this)
  have CN := Lib.hid (fun W1 (q : Below W.heap.size W W1) => formQ hmm (rNames_any (TT.out W1 q).r))
  have CZ : Hid (∀ W1, Below W.heap.size W W1 → Calls Tryz.prog 33 #[ptr L.T] W1 fun e w' => e = .returned (.int .i64 s.length) ∧ W1 = w') := Lib.hid (fun W1 q => by have := slots_tr (TT.out W1 q).t.t; rw [List.length_map] at this; exact this)
  have CK := Lib.hid (fun W1 (q : Below W.heap.size W W1) => formQ hmk (kids_any (TT.out W1 q).t x hx2))
  have CrK := Lib.hid (fun W1 (q : Below W.heap.size W W1) => formQ hmk (rKids_any (TT.out W1 q).r x))
  have CB := Lib.hid (fun W1 (q : Below W.heap.size W W1) => formQ hma (above_any (TT.out W1 q).t x))
  have CrB := Lib.hid (fun W1 (q : Below W.heap.size W W1) => formQ hma (rAbove_any (TT.out W1 q).r x))
  have X1 := Lib.hid (fun W1 (q : Below W.heap.size W W1) => (TT.out W1 q).r.c1)
  have HMK := Lib.hid hmk
  have HMA := Lib.hid hma
  have HK6 : Hid (mk ≤ 1000000) := Lib.hid (by omega)
  have HA6 : Hid (ma ≤ 1000000) := Lib.hid (by omega)
  have hb0 : Below W.heap.size W W := Below.refl _ _
  clear h wf hmm hmk hma hrow TT
  generalize obAt s x.data.toList = a at *
  generalize there s x.data.toList = ta at *
  generalize slotN s x.data.toList = sk at *
  go_enter Tryz.func9, Tryz.ntmps9
  go_wp2_with (first
    | (go_at_call 27; ((with_reducible refine (CA.out _ hb0).mono ?_); rintro e w1 ⟨rfl, k1⟩; have K1 := Lib.hid (bAl (bThen hb0 k1) (.cells (obCells a) 33)); have M1 := Lib.hid (AtC.new w1 (obCells a) 33)))
    | (go_at_call 28; ((with_reducible refine (CrA.out _ K1.out).mono ?_); rintro e w2 ⟨rfl, k2⟩; have K2 := Lib.hid (bAl (bThen K1.out k2) (.cells (obCells a) 33)); have M1b := Lib.hid ((M1.out.then k2).al (.cells (obCells a) 33)); have M2 := Lib.hid (AtC.new w2 (obCells a) 33)))
    | (go_at_call 29; ((with_reducible refine (CS.out _ K2.out).mono ?_); rintro e w3 ⟨rfl, k3⟩; have K3 := Lib.hid (bThen K2.out k3); have M1c := Lib.hid (M1b.out.then k3); have M2c := Lib.hid (M2.out.then k3)))
    | (go_at_call 30; ((with_reducible refine (CrS.out _ K3.out).mono ?_); rintro e w5 ⟨rfl, k5⟩; have K5 := Lib.hid (bThen K3.out k5); have M1d := Lib.hid (M1c.out.then k5); have M2d := Lib.hid (M2c.out.then k5))))
  have hP : ∀ w', Below w5.heap.size w5 w' → ((∀ i, w'.cell? ⟨w1.heap.size, i, none⟩ = (obCells a)[i]?) ∧ (∀ i, w'.cell? ⟨w2.heap.size, i, none⟩ = (obCells a)[i]?) ∧ w'.cell? ⟨X, 1, none⟩ = some (.slice (some ⟨BL, 0, none⟩) s.length s.length)) := fun w' k => ⟨(M1d.out.then k).c, (M2d.out.then k).c, X1.out _ (bThen K5.out k)⟩
  have KX := Lib.hid (Below.refl w5.heap.size w5)
  clear M1 M1b M1c M2 M2c k1 k2 k3 k5 hb0
  go_region_held3 (fun w' => ((∀ i, w'.cell? ⟨w1.heap.size, i, none⟩ = (obCells a)[i]?) ∧ (∀ i, w'.cell? ⟨w2.heap.size, i, none⟩ = (obCells a)[i]?) ∧ w'.cell? ⟨X, 1, none⟩ = some (.slice (some ⟨BL, 0, none⟩) s.length s.length)) ∧ Below w5.heap.size w5 w')
    (first | with_reducible assumption | with_reducible exact ⟨hP _ KX.out.drew, KX.out.drew⟩ | with_reducible exact ⟨hP _ (keepD (by assumption) k3), keepD (by assumption) k3⟩)
    (first
    | (go_at_call 31; (with_reducible refine (CM.out _ (bThen K5.out (‹_ ∧ Below w5.heap.size w5 _›).2)).mono ?_); rintro e w7 ⟨rfl, rfl⟩)
    | (go_at_call 32; (with_reducible refine (CN.out _ (bThen K5.out (‹_ ∧ Below w5.heap.size w5 _›).2)).mono ?_); rintro e w8 ⟨A8, c8, rfl, _, k3⟩)
    | (go_at_call 33; (with_reducible refine (CZ.out _ (bThen K5.out (‹_ ∧ Below w5.heap.size w5 _›).2)).mono ?_); rintro e w9 ⟨rfl, rfl⟩)
    | (go_at_call 17; (with_reducible refine (CK.out _ (bThen K5.out (‹_ ∧ Below w5.heap.size w5 _›).2)).mono ?_); rintro e w10 ⟨A10, c10, rfl, o10, k3⟩; have O10 := Lib.hid o10; clear o10)
    | (go_at_call 35; (with_reducible refine (CrK.out _ (bThen K5.out (‹_ ∧ Below w5.heap.size w5 _›).2)).mono ?_); rintro e w11 ⟨A11, c11, rfl, o11, k3⟩; have O11 := Lib.hid (rdQ o11); have P10 := Lib.hid (rdQ (O10.out.below k3)); clear o11)
    | (go_at_call 34; (with_reducible refine (sameT_yes A10 A11 c10 c11 mk _ _ P10.out O11.out HMK.out HK6.out).mono ?_); rintro e w12 ⟨rfl, k3⟩)
    | (go_at_call 36; (with_reducible refine (CB.out _ (bThen K5.out (‹_ ∧ Below w5.heap.size w5 _›).2)).mono ?_); rintro e w13 ⟨A13, c13, rfl, o13, k3⟩; have O13 := Lib.hid o13; clear o13)
    | (go_at_call 37; (with_reducible refine (CrB.out _ (bThen K5.out (‹_ ∧ Below w5.heap.size w5 _›).2)).mono ?_); rintro e w14 ⟨A14, c14, rfl, o14, k3⟩; have O14 := Lib.hid (rdQ o14); have P13 := Lib.hid (rdQ (O13.out.below k3)); clear o14)
    | (go_at_call 34; (with_reducible refine (sameT_yes A13 A14 c13 c14 ma _ _ P13.out O14.out HMA.out HA6.out).mono ?_); rintro e w15 ⟨rfl, k3⟩))
  go_wp2_with fail
  go_ret
  exact ⟨by first | rfl | simp, bThen K5.out (‹_ ∧ Below w5.heap.size w5 _›).2⟩
end Go.Proofs.YtlfbjgeobibnhaaGreatDoor.TX
