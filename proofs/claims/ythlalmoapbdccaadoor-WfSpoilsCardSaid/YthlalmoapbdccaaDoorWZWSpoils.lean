/-
  WALK: the law WfSpoils.
-/
import Derived.Test.YthlalmoapbdccaaDoorWZWMore
namespace Go.Proofs.YthlalmoapbdccaaDoor.WX
open Go.RowKit HL
open IX (ptr El cellsK cellsK_at OwnK RdK strK)
set_option maxRecDepth 100000
set_option linter.unusedVariables false
set_option linter.unusedSimpArgs false

theorem verR2_eq (l : List Ob) : (verR l).2 = (brokenR l).2 := by rw [verR_eq]
set_option maxHeartbeats 32000000 in
theorem spoils_walk (A : Option Addr) (c : Nat) (l : List Ob) (o : Ob) (i : Int) (w : World) (h1 : RdK obK w w.heap.size A l) (n1 : l.length ≤ maxLen) (hlc : l.length ≤ c) (hF : ∀ o ∈ l, Fine o) (hO : Fine o) (ht : Tables w ∧ Kinds w) :
    Calls Tryd.prog 4 #[.slice A l.length c, ob o, .int .i64 i] w fun e w' => e = .returned (.bool true) ∧ Below w.heap.size w w' := by
  have L1 := Lib.hid (fun W (k : Below w.heap.size w W) => longO_any A c l W ((h1.below k).more k.size) n1)
  have L2 := Lib.hid (fun W => long_any o W)
  have b0 : Below w.heap.size w w := Below.refl _ _
  have M1 := Lib.hid (AtC.new w (obCells o) 31)
  cases e1 : longO l with
  | true =>
    rw [e1] at L1
    clear e1 h1 hF ht
    go_enter Tryd.func4, Tryd.ntmps4
    go_wp2_with (go_at_call 9; ((with_reducible refine (L1.out _ (bAl b0 _)).mono ?_); rintro e w1 ⟨rfl, k1⟩))
    go_ret
    exact ⟨rfl, bThen (bAl b0 _) k1⟩
  | false =>
    cases e2 : longB o with
    | true =>
      rw [e1] at L1
      rw [e2] at L2
      clear e1 e2 h1 hF ht
      go_enter Tryd.func4, Tryd.ntmps4
      go_wp2_with (first
        | (go_at_call 9; ((with_reducible refine (L1.out _ (bAl b0 _)).mono ?_); rintro e w1 ⟨rfl, k1⟩; have m1 := (M1.out.then k1).c; have K1 := Lib.hid (bThen (bAl b0 _) k1)))
        | (go_at_call 15; ((with_reducible refine (L2.out _).mono ?_); rintro e w2 ⟨rfl, k2⟩)))
      go_ret
      exact ⟨rfl, bThen K1.out k2⟩
    | false =>
      have nl := (longO_out e1).1
      rw [e1] at L1
      rw [e2] at L2
      obtain ⟨u, k, hu, hu0, hk, hkl⟩ := place_of i l.length (by omega)
      have hM : ∀ (m : List Ob), m.length ≤ 1000 → (∀ x ∈ m, Fine x) → ∀ W, Below w.heap.size w W → MeetsL m W := fun m hm hx W q => (meetsL_of hm hx ht).then q
      have hm1 : (l.take k ++ [o] ++ l.drop k).length = l.length + 1 := by
        simp only [List.length_append, List.length_take, List.length_drop, List.length_cons, List.length_nil]; omega
      have hx1 : ∀ x ∈ l.take k ++ [o] ++ l.drop k, Fine x := fun x hx => by
        simp only [List.mem_append, List.mem_singleton] at hx
        rcases hx with (q | q) | q
        · exact hF x (List.mem_of_mem_take q)
        · rw [q]; exact hO
        · exact hF x (List.mem_of_mem_drop q)
      have C1 := Lib.hid (fun W (q : Below w.heap.size w W) A' c' (r : RdK obK W W.heap.size A' (l.take k ++ [o] ++ l.drop k)) => check_any (A := A') _ c' W r (hM _ (by rw [hm1]; omega) hx1 W q))
      have D1 := Lib.hid (fun W (q : Below w.heap.size w W) A' c' (r : RdK obK W W.heap.size A' (l.take k ++ [o] ++ l.drop k)) => refCheck9_any (A := A') _ c' W r (hM _ (by rw [hm1]; omega) hx1 W q))
      have HV1 := Lib.hid (verR2_eq (l.take k ++ [o] ++ l.drop k))
      have T1 : Hid ((l.take k).length = k) := Lib.hid (by rw [List.length_take]; omega)
      obtain ⟨nn, hnn⟩ : ∃ nn, l.length = k + nn := ⟨l.length - k, by omega⟩
      have s1 : ∀ W, (Instr.slice 22 (.slice A l.length c) none (some (.int .i64 (k : Int))) none).run Tryd.prog W = .ok (.slice A k c) W := IX.slice_toK obK (by omega) hlc
      obtain ⟨A5, c5, s2, r2, _⟩ := IX.slice_fromK obK h1 rfl (p := k) (by omega) hlc
      have s2' : ∀ W, (Instr.slice 22 (.slice A l.length c) (some (.int .i64 (k : Int))) none none).run Tryd.prog W = .ok (.slice A5 nn c5) W := fun W => by
        have := s2 W
        rw [show l.length - k = nn by omega] at this
        exact this
      have T2 : Hid ((l.drop k).length = nn) := Lib.hid (by rw [List.length_drop]; omega)
      have R1 := Lib.hid (rd_take h1 k)
      have R2 := Lib.hid (r2 _ h1)
      have hw1 : IntKind.i64.wrap ((l.length : Int) + 1) = (l.length : Int) + 1 := IntWalk.i64_in _ (by omega)
      have hw2 : IntKind.u64.wrap ((l.length : Int) + 1) = (l.length : Int) + 1 := IntWalk.u64_in _ (by omega)
      have hw3 : IntKind.i64.wrap (k : Int) = (k : Int) := IntWalk.i64_in _ (by omega)
      have HKN : Hid (k + 1 + nn = l.length + 1) := Lib.hid (by omega)
      by_cases hkl2 : k = l.length
      · have i1 : ((k : Int) == (l.length : Int)) = true := by simp; omega
        rw [HV1.out, hm1] at C1
        rw [hm1] at D1
        have HQ1 : Hid (k + nn ≤ 100) := Lib.hid (by omega)
        clear h1 hF ht hM hx1 s2 r2 e1 e2 HV1 hm1 hnn n1 hkl2 hlc
        generalize (brokenR (l.take k ++ [o] ++ l.drop k)).2 = v1 at *
        generalize l.take k = t1 at *
        generalize l.drop k = t2 at *
        go_enter Tryd.func4, Tryd.ntmps4
        go_wp2_with (first
          | (go_at_call 9; ((with_reducible refine (L1.out _ (bAl b0 _)).mono ?_); rintro e w1 ⟨rfl, k1⟩; have m1 := (M1.out.then k1).c; have K1 := Lib.hid (bThen (bAl b0 _) k1)))
          | (go_at_call 15; ((with_reducible refine (L2.out _).mono ?_); rintro e w2 ⟨rfl, k2⟩; have K2 := Lib.hid (bThen K1.out k2); have M2 := Lib.hid ((M1.out.then k1).then k2))))
        refine more_4 w2 A A5 l.length c c5 k nn w.heap.size o t1 t2 _ _ _ _ _ _ _ _ _ _ _ _ _ _ _ _ _ _ _ _ _ _ _ _ _ _ _ _ _ _ _ _ _ _ _ _ _ _ _ _ _ _ _ _ _ _ _ _ _ _ _ _ _ _ _ _ _ s1 s2' T1.out T2.out (by have := HQ1.out; omega) (by have := HQ1.out; omega) ((R1.out.below K2.out).more K2.out.size) ((R2.out.below K2.out).more K2.out.size) M2.out ?_
        intro x24 x25 x26 x27 x28 x29 x30 x31 x32 x33 x34 x35 A8 c8 w3 r8 b8
        rw [HKN.out] at *
        have R8 := Lib.hid r8
        have K3 := Lib.hid (bThen K2.out b8)
        clear r8 b8
        go_wp2_with (first
          | (go_at_call 11; ((with_reducible refine (C1.out _ K3.out _ _ R8.out).mono ?_); rintro e w4 ⟨rfl, q4⟩; have K4 := Lib.hid (bThen K3.out q4); have R9 := Lib.hid (RdK.on R8.out q4)))
          | (go_at_call 16; ((with_reducible refine (D1.out _ K4.out _ _ R9.out).mono ?_); rintro e w5 ⟨rfl, q5⟩; have K5 := Lib.hid (bThen K4.out q5))))
        go_ret
        exact ⟨rfl, K5.out⟩
      · have hkl3 : k < l.length := by omega
        have i1 : ((k : Int) == (l.length : Int)) = false := by simp; omega
        obtain ⟨n2, hn2⟩ : ∃ n2, l.length = k + 1 + n2 := ⟨l.length - (k + 1), by omega⟩
        obtain ⟨A6, c6, s3, r3, _⟩ := IX.slice_fromK obK h1 rfl (p := k + 1) (by omega) hlc
        have s3' : ∀ W, (Instr.slice 22 (.slice A l.length c) (some (.int .i64 ((k : Int) + 1))) none none).run Tryd.prog W = .ok (.slice A6 n2 c6) W := fun W => by
          have := s3 W
          rw [show l.length - (k + 1) = n2 by omega] at this
          exact this
        have T3 : Hid ((l.drop (k + 1)).length = n2) := Lib.hid (by rw [List.length_drop]; omega)
        have R3 := Lib.hid (r3 _ h1)
        have hw4 : IntKind.i64.wrap ((k : Int) + 1) = (k : Int) + 1 := IntWalk.i64_in _ (by omega)
        have hm2 : (l.take k ++ l.drop (k + 1)).length ≤ 1000 := by
          simp only [List.length_append, List.length_take, List.length_drop]; omega
        have hx2 : ∀ x ∈ l.take k ++ l.drop (k + 1), Fine x := fun x hx => by
          simp only [List.mem_append] at hx
          rcases hx with q | q
          · exact hF x (List.mem_of_mem_take q)
          · exact hF x (List.mem_of_mem_drop q)
        have C2 := Lib.hid (fun W (q : Below w.heap.size w W) A' c' (r : RdK obK W W.heap.size A' (l.take k ++ l.drop (k + 1))) => check_any (A := A') _ c' W r (hM _ hm2 hx2 W q))
        have D2 := Lib.hid (fun W (q : Below w.heap.size w W) A' c' (r : RdK obK W W.heap.size A' (l.take k ++ l.drop (k + 1))) => refCheck9_any (A := A') _ c' W r (hM _ hm2 hx2 W q))
        have HV2 := Lib.hid (verR2_eq (l.take k ++ l.drop (k + 1)))
        clear h1 hF ht hM hx1 hx2 s2 r2 s3 r3 e1 e2
        rw [HV1.out, hm1] at C1
        rw [hm1] at D1
        rw [HV2.out] at C2
        obtain ⟨m2, hm2l⟩ : ∃ m2, (l.take k ++ l.drop (k + 1)).length = m2 := ⟨_, rfl⟩
        rw [hm2l] at C2 D2
        have HM1 := Lib.hid hm1
        have HM2 := Lib.hid hm2l
        have hq1 : k + nn ≤ 100 := by omega
        have hq2 : k + n2 ≤ 100 := by omega
        have HQ1 := Lib.hid hq1
        have HQ2 := Lib.hid hq2
        have hm2e : m2 = k + n2 := by rw [← hm2l]; simp only [List.length_append, List.length_take, List.length_drop]; omega
        have HM2E := Lib.hid hm2e
        clear HV1 HV2 hm1 hm2l hm2 hnn hn2 hq1 hq2 n1 hkl2 hkl3 hlc hm2e
        generalize (brokenR (l.take k ++ [o] ++ l.drop k)).2 = v1 at *
        generalize (brokenR (l.take k ++ l.drop (k + 1))).2 = v2 at *
        generalize l.take k = t1 at *
        generalize l.drop k = t2 at *
        generalize l.drop (k + 1) = t3 at *
        go_enter Tryd.func4, Tryd.ntmps4
        go_wp2_with (first
          | (go_at_call 9; ((with_reducible refine (L1.out _ (bAl b0 _)).mono ?_); rintro e w1 ⟨rfl, k1⟩; have m1 := (M1.out.then k1).c; have K1 := Lib.hid (bThen (bAl b0 _) k1)))
          | (go_at_call 15; ((with_reducible refine (L2.out _).mono ?_); rintro e w2 ⟨rfl, k2⟩; have K2 := Lib.hid (bThen K1.out k2); have M2 := Lib.hid ((M1.out.then k1).then k2))))
        refine more_4 w2 A A5 l.length c c5 k nn w.heap.size o t1 t2 _ _ _ _ _ _ _ _ _ _ _ _ _ _ _ _ _ _ _ _ _ _ _ _ _ _ _ _ _ _ _ _ _ _ _ _ _ _ _ _ _ _ _ _ _ _ _ _ _ _ _ _ _ _ _ _ _ s1 s2' T1.out T2.out (by have := HQ1.out; omega) (by have := HQ1.out; omega) ((R1.out.below K2.out).more K2.out.size) ((R2.out.below K2.out).more K2.out.size) M2.out ?_
        intro x24 x25 x26 x27 x28 x29 x30 x31 x32 x33 x34 x35 A8 c8 w3 r8 b8
        rw [HKN.out] at *
        have R8 := Lib.hid r8
        have K3 := Lib.hid (bThen K2.out b8)
        clear r8 b8
        go_wp2_with (first
          | (go_at_call 11; ((with_reducible refine (C1.out _ K3.out _ _ R8.out).mono ?_); rintro e w4 ⟨rfl, q4⟩; have K4 := Lib.hid (bThen K3.out q4); have R9 := Lib.hid (RdK.on R8.out q4)))
          | (go_at_call 16; ((with_reducible refine (D1.out _ K4.out _ _ R9.out).mono ?_); rintro e w5 ⟨rfl, q5⟩; have K5 := Lib.hid (bThen K4.out q5))))
        have BL : Hid (Below w.heap.size w (w5.drew.alloc (.cells #[] 31))) := Lib.hid (K5.out.drew.alloc K5.out.size _)
        go_region_law (first
          | (refine IX.step_spreadK obK rfl (.tmp 45) (.tmp 48) rfl w5.heap.size (.slice (some ⟨w5.heap.size, 0, none⟩) 0 0) [] (by simp [Act.eval, Act.put]) (OwnK.lit w5.drew w5.heap.size (Nat.le_refl _)) w.heap.size A k c t1 (by simp [Act.eval, Act.put]) T1.out (R1.out.below BL.out) (by have := T1.out; have := HQ1.out; simp; omega) (by simp) ?_; intro y1 w6 o1 g1 f1; have b1 : Below w.heap.size w w6 := (BL.out.grown g1 BL.out.size (fun k hk => by have := K5.out.size; simp [Value.ownBlock] at hk; omega)); have hz1 : w5.heap.size ≤ w6.heap.size := (by have := g1.size; simp at this; omega); have O1 := Lib.hid o1; have B1 := Lib.hid b1; clear o1 g1 f1 b1)
          | (go_loud (refine IX.step_spreadK obK rfl (.tmp 49) (.tmp 53) rfl w5.heap.size y1 t1 (by simp [Act.eval, Act.put]) O1.out w.heap.size A6 n2 c6 t3 (by simp [Act.eval, Act.put]) T3.out (R3.out.below B1.out) (by have := T1.out; have := T3.out; have := HQ2.out; omega) hz1 ?_); intro y2 w7 o2 g2 f2; have b2 : Below w.heap.size w w7 := (B1.out.grown g2 B1.out.size (fun k hk => by have := (O1.out.lt k hk).1; have := K5.out.size; omega)); have O2 := Lib.hid o2; have B2 := Lib.hid b2; clear o2 g2 f2 b2))
        all_goals
          obtain ⟨A9, c9, e9, r9, _, _⟩ := OwnK.form O2.out
          rw [HM2.out] at e9
          subst e9
          have R9 := Lib.hid r9
          clear r9 O1 O2 B1 BL
          go_wp2_with (first
            | (go_at_call 11; ((with_reducible refine (C2.out _ B2.out _ _ R9.out).mono ?_); rintro e w8 ⟨rfl, q8⟩; have K8 := Lib.hid (bThen B2.out q8); have R10 := Lib.hid (RdK.on R9.out q8)))
            | (go_at_call 16; ((with_reducible refine (D2.out _ K8.out _ _ R10.out).mono ?_); rintro e w9 ⟨rfl, q9⟩; have K9 := Lib.hid (bThen K8.out q9))))
          go_ret
          exact ⟨by simp, K9.out⟩
end Go.Proofs.YthlalmoapbdccaaDoor.WX
