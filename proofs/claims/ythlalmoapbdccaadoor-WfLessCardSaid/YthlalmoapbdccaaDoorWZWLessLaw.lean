/-
  WALK: the law WfLess.
-/
import Derived.Test.YthlalmoapbdccaaDoorWZ14
namespace Go.Proofs.YthlalmoapbdccaaDoor.WX
open Go.RowKit HL
open IX (ptr El cellsK cellsK_at OwnK RdK strK)
open TX (Ext wp_region_ext ext_below ext_same)
set_option maxRecDepth 100000
set_option linter.unusedVariables false
set_option linter.unusedSimpArgs false

theorem place_in (i : Int) (n : Nat) (h0 : 0 < n) (hn : n ≤ 1000) : ∃ (u : Int) (k : Nat), IntKind.u64.wrap i = u ∧ 0 ≤ u ∧ (u % (n : Int)) = (k : Int) ∧ k < n := by
  obtain ⟨m, rfl⟩ : ∃ m, n = m + 1 := ⟨n - 1, by omega⟩
  obtain ⟨u, k, h1, h2, h3, h4⟩ := place_of i m (by omega)
  exact ⟨u, k, h1, h2, by rw [← h3]; push_cast; rfl, by omega⟩
def anyP (s : List Ob) (r : Bs) : Bool := s.any fun o => decide (pb o = r)
def anyQ (s : List Ob) (r : Bs) : Bool := s.any fun o => decide (rb o = r)
theorem any_next {s : List Ob} {k : Nat} (hk : k < s.length) (p : Ob → Bool) : (s.take (k + 1)).any p = ((s.take k).any p || p s[k]) := by
  rw [List.take_succ_eq_append_getElem hk, List.any_append]; simp
theorem tl_eq (a b : ByteArray) : (a.toList == b.toList) = decide (a.data.toList = b.data.toList) := by
  rw [ByteArray.toList_eq, ByteArray.toList_eq]
  rw [Bool.eq_iff_iff]; simp
/-- What its two flags tell. -/
def wantN (p q : Bool) : Nat := if p = true then 3 else if q = true then 5 else 0
set_option maxHeartbeats 32000000 in
theorem less_walk (A : Option Addr) (c : Nat) (l : List Ob) (i : Int) (w : World) (h1 : RdK obK w w.heap.size A l) (n1 : l.length ≤ maxLen) (hlc : l.length ≤ c) (hF : ∀ o ∈ l, Fine o) (ht : Tables w ∧ Kinds w) :
    Calls Tryd.prog 7 #[.slice A l.length c, .int .i64 i] w fun e w' => e = .returned (.bool true) ∧ Below w.heap.size w w' := by
  have CA := Lib.hid (awake9_any w ht)
  have L1 := Lib.hid (fun W (k : Below w.heap.size w W) => longO_any A c l W ((h1.below k).more k.size) n1)
  cases e1 : longO l with
  | true =>
    rw [e1] at L1
    clear e1 h1 hF ht
    go_enter Tryd.func7, Tryd.ntmps7
    go_wp2_with (first
      | (go_at_call 17; ((with_reducible refine CA.out.mono ?_); rintro e w1 ⟨rfl, k1⟩))
      | (go_at_call 9; ((with_reducible refine (L1.out _ k1).mono ?_); rintro e w2 ⟨rfl, k2⟩)))
    go_ret
    exact ⟨rfl, bThen k1 k2⟩
  | false =>
    have nl := (longO_out e1).1
    have hM : ∀ (m : List Ob), m.length ≤ 1000 → (∀ x ∈ m, Fine x) → ∀ W, Below w.heap.size w W → MeetsL m W := fun m hm hx W q => (meetsL_of hm hx ht).then q
    have CW := Lib.hid (fun W (q : Below w.heap.size w W) => well_any (A := A) l c W ((h1.below q).more q.size) (hM l (by omega) hF W q))
    by_cases h0 : l.length = 0
    · have i0 : ((l.length : Int) == 0) = true := by rw [h0]; rfl
      rw [e1] at L1
      clear e1 h1 hF ht CW h0
      go_enter Tryd.func7, Tryd.ntmps7
      go_wp2_with (first
        | (go_at_call 17; ((with_reducible refine CA.out.mono ?_); rintro e w1 ⟨rfl, k1⟩))
        | (go_at_call 9; ((with_reducible refine (L1.out _ k1).mono ?_); rintro e w2 ⟨rfl, k2⟩)))
      go_ret
      exact ⟨rfl, bThen k1 k2⟩
    · have i0 : ((l.length : Int) == 0) = false := by rw [beq_eq_false_iff_ne]; omega
      cases e2 : (verR l).2 == 0 with
      | false =>
        rw [e1] at L1
        rw [e2] at CW
        clear e1 e2 h1 hF ht h0
        go_enter Tryd.func7, Tryd.ntmps7
        go_wp2_with (first
          | (go_at_call 17; ((with_reducible refine CA.out.mono ?_); rintro e w1 ⟨rfl, k1⟩))
          | (go_at_call 9; ((with_reducible refine (L1.out _ k1).mono ?_); rintro e w2 ⟨rfl, q2⟩; have k2 := bThen k1 q2))
          | (go_at_call 13; ((with_reducible refine (CW.out _ k2).mono ?_); rintro e w3 ⟨rfl, q3⟩; have k3 := bThen k2 q3)))
        go_ret
        exact ⟨rfl, k3⟩
      | true =>
        rw [e1] at L1
        rw [e2] at CW
        have HW : Wl l := wl_iff.1 (by simpa using e2)
        obtain ⟨u, k, hu, hu0, hk, hkl⟩ := place_in i l.length (by omega) (by omega)
        have HRES := less_all HW hkl
        obtain ⟨n2, hn2⟩ : ∃ n2, l.length = k + 1 + n2 := ⟨l.length - (k + 1), by omega⟩
        have s1 : ∀ W, (Instr.slice 22 (.slice A l.length c) none (some (.int .i64 (k : Int))) none).run Tryd.prog W = .ok (.slice A k c) W := IX.slice_toK obK (by omega) hlc
        obtain ⟨A6, c6, s3, r3, _⟩ := IX.slice_fromK obK h1 rfl (p := k + 1) (by omega) hlc
        have s3' : ∀ W, (Instr.slice 22 (.slice A l.length c) (some (.int .i64 ((k : Int) + 1))) none none).run Tryd.prog W = .ok (.slice A6 n2 c6) W := fun W => by
          have := s3 W
          rw [show l.length - (k + 1) = n2 by omega] at this
          exact this
        have T1 : Hid ((l.take k).length = k) := Lib.hid (by rw [List.length_take]; omega)
        have T3 : Hid ((l.drop (k + 1)).length = n2) := Lib.hid (by rw [List.length_drop]; omega)
        have R1 := Lib.hid (rd_take h1 k)
        have R3 := Lib.hid (r3 _ h1)
        have hm2 : (l.take k ++ l.drop (k + 1)).length = k + n2 := by
          simp only [List.length_append, List.length_take, List.length_drop]; omega
        have hx2 : ∀ x ∈ l.take k ++ l.drop (k + 1), Fine x := fun x hx => by
          simp only [List.mem_append] at hx
          rcases hx with q | q
          · exact hF x (List.mem_of_mem_take q)
          · exact hF x (List.mem_of_mem_drop q)
        have CR := Lib.hid (fun W (q : Below w.heap.size w W) A' c' (r : RdK obK W W.heap.size A' (l.take k ++ l.drop (k + 1))) => ruleN_any (A := A') _ c' W r (hM _ (by rw [hm2]; omega) hx2 W q))
        rw [HRES] at CR
        have H1 := Lib.hid h1
        have HG := Lib.hid (List.getElem?_eq_getElem hkl)
        generalize l[k] = r at *
        clear e1 e2 h1 hF ht hM HW HRES s3 r3 hx2 h0 n1
        have HM2 := Lib.hid hm2
        have hw1 : IntKind.u64.wrap (l.length : Int) = (l.length : Int) := IntWalk.u64_in _ (by omega)
        have hw3 : IntKind.i64.wrap (k : Int) = (k : Int) := IntWalk.i64_in _ (by omega)
        have hw4 : IntKind.i64.wrap ((k : Int) + 1) = (k : Int) + 1 := IntWalk.i64_in _ (by omega)
        have HN2 := Lib.hid hn2
        have hq : k + n2 ≤ 200 := by omega
        have hkl2 : (k : Int) < l.length := by omega
        clear hn2
        obtain ⟨s, hs⟩ : ∃ s, l.take k ++ l.drop (k + 1) = s := ⟨_, rfl⟩
        have HS := Lib.hid hs
        rw [hs] at hm2 CR
        clear hs HM2
        obtain ⟨m, hm⟩ : ∃ m, k + n2 = m := ⟨_, rfl⟩
        have HM := Lib.hid hm
        rw [hm] at hm2 hq
        have HM2 := Lib.hid hm2
        have hk9 : k + n2 ≤ 200 := by omega
        have HK9 := Lib.hid hk9
        clear hm2 hm hk9
        generalize l.take k = t1 at *
        generalize l.drop (k + 1) = t3 at *
        rw [show (s.any fun o => decide (pb o = hb r)) = anyP s (hb r) from rfl, show (s.any fun o => decide (rb o = hb r)) = anyQ s (hb r) from rfl] at CR
        go_enter Tryd.func7, Tryd.ntmps7
        go_wp2_with (first
          | (go_at_call 17; ((with_reducible refine CA.out.mono ?_); rintro e w1 ⟨rfl, k1⟩))
          | (go_at_call 9; ((with_reducible refine (L1.out _ k1).mono ?_); rintro e w2 ⟨rfl, q2⟩; have k2 := bThen k1 q2))
          | (go_at_call 13; ((with_reducible refine (CW.out _ k2).mono ?_); rintro e w3 ⟨rfl, q3⟩; have K3 := Lib.hid (bThen k2 q3))))
        have BL : Hid (Below w.heap.size w (w3.drew.alloc (.cells #[] 31))) := Lib.hid (K3.out.drew.alloc K3.out.size _)
        go_region_law (first
          | (refine IX.step_spreadK obK rfl (.tmp 32) (.tmp 35) rfl w3.heap.size (.slice (some ⟨w3.heap.size, 0, none⟩) 0 0) [] (by simp [Act.eval, Act.put]) (OwnK.lit w3.drew w3.heap.size (Nat.le_refl _)) w.heap.size A k c t1 (by simp [Act.eval, Act.put]) T1.out (R1.out.below BL.out) (by have := T1.out; simp; omega) (by simp) ?_; intro x1 w4 o1 g1 f1; have b1 : Below w.heap.size w w4 := (BL.out.grown g1 BL.out.size (fun k hk => by have := K3.out.size; simp [Value.ownBlock] at hk; omega)); have hz1 : w3.heap.size ≤ w4.heap.size := (by have := g1.size; simp at this; omega); have O1 := Lib.hid o1; have B1 := Lib.hid b1; clear o1 g1 f1 b1)
          | (go_loud (refine IX.step_spreadK obK rfl (.tmp 36) (.tmp 40) rfl w3.heap.size x1 t1 (by simp [Act.eval, Act.put]) O1.out w.heap.size A6 n2 c6 t3 (by simp [Act.eval, Act.put]) T3.out (R3.out.below B1.out) (by have := T1.out; have := T3.out; have := HK9.out; omega) hz1 ?_); intro x2 w5 o2 g2 f2; have b2 : Below w.heap.size w w5 := (B1.out.grown g2 B1.out.size (fun k hk => by have := (O1.out.lt k hk).1; have := K3.out.size; omega)); have O2 := Lib.hid o2; have B2 := Lib.hid b2; clear o2 g2 f2 b2))
        all_goals
          have o3 := O2.out
          rw [HS.out] at o3
          obtain ⟨A8, c8, e8, r8, _, _⟩ := OwnK.form o3
          rw [HM2.out] at e8
          subst e8
          have R8 := Lib.hid r8
          clear o3 r8 O1 O2 B1 BL
          rw [HM2.out] at CR
          go_wp2
          go_loopw [7, 8, 9] (fun pv qv v wr => ∃ j : Nat, pv = .bool (anyP (s.take j) (hb r)) ∧ qv = .bool (anyQ (s.take j) (hb r)) ∧ v = .int .i64 j ∧ j ≤ m ∧ Below w5.heap.size w5 wr) (fun _ _ v _ => m - (intOf v).toNat)
          case atStart => exact ⟨0, rfl, rfl, rfl, Nat.zero_le _, Below.refl _ _⟩
          case round =>
            obtain ⟨j, rfl, rfl, rfl, hj, k6⟩ := hrel
            have K6 := Lib.hid k6
            by_cases hlt : j < m
            · have i1 : (j : Int) < (m : Int) := by omega
              have hjs : j < s.length := by rw [HM2.out]; exact hlt
              obtain ⟨b, off, rfl, hbk, hc⟩ := obs_at (R8.out.below k6) (by rw [HM2.out]; omega)
              obtain ⟨bl, ol, rfl, hbl, hcl⟩ := obs_at (H1.out.below (bThen B2.out k6)) (by omega)
              obtain ⟨c0, c1, c2, c3, c4, _⟩ := hc j _ (List.getElem?_eq_getElem hjs)
              obtain ⟨a0, _⟩ := hcl k _ HG.out
              have HP : Hid (anyP (s.take (j + 1)) (hb r) = (anyP (s.take j) (hb r) || (s[j].parent.toList == r.handle.toList))) := Lib.hid (by rw [tl_eq]; exact any_next hjs _)
              have HQ : Hid (anyQ (s.take (j + 1)) (hb r) = (anyQ (s.take j) (hb r) || (s[j].ref.toList == r.handle.toList))) := Lib.hid (by rw [tl_eq]; exact any_next hjs _)
              have zz : Below w.heap.size w wr := bThen B2.out k6
              have D2 := Lib.hid (fun W (q : Below wr.heap.size wr W) => (q.cell (p := ⟨b, off + j * 14 + 2, none⟩) (Nat.lt_of_lt_of_le hbk k6.size)).trans c2)
              have D4 := Lib.hid (fun W (q : Below wr.heap.size wr W) => (q.cell (p := ⟨b, off + j * 14 + 4, none⟩) (Nat.lt_of_lt_of_le hbk k6.size)).trans c4)
              have D0 := Lib.hid (fun W (q : Below wr.heap.size wr W) => (q.cell (p := ⟨bl, ol + k * 14, none⟩) (Nat.lt_of_lt_of_le hbl zz.size)).trans a0)
              clear hc hcl c0 c1 c2 c3 c4 a0 zz k6 CR
              generalize anyP (s.take j) (hb r) = pv at *
              generalize anyQ (s.take j) (hb r) = qv at *
              generalize s[j] = x at *
              cases pv <;> cases qv
              all_goals
                have d2 : ∀ y : Ext wr, y.W.cell? ⟨b, off + j * 14 + 2, none⟩ = some (.string x.parent) := fun y => D2.out _ y.b
                have d0 : ∀ y : Ext wr, y.W.cell? ⟨bl, ol + k * 14, none⟩ = some (.string r.handle) := fun y => D0.out _ y.b
                go_wp2
                refine wp_region_ext (by kernel_rfl) (by kernel_rfl) ?_
                repeat (go_big_quiet_step (fail))
                refine wpQuiet_nil ?_
                rintro _ ⟨y, rfl⟩
                clear d2 d0
                have d4 : ∀ z : Ext y.W, z.W.cell? ⟨b, off + j * 14 + 4, none⟩ = some (.string x.ref) := fun z => D4.out _ (bThen y.b z.b)
                have d0 : ∀ z : Ext y.W, z.W.cell? ⟨bl, ol + k * 14, none⟩ = some (.string r.handle) := fun z => D0.out _ (bThen y.b z.b)
                go_wp2
                refine wp_region_ext (by kernel_rfl) (by kernel_rfl) ?_
                repeat (go_big_quiet_step (fail))
                refine wpQuiet_nil ?_
                rintro _ ⟨z, rfl⟩
                clear d4 d0
                go_wp2
                go_roundw
                case rel => exact ⟨j + 1, by rw [HP.out]; rfl, by rw [HQ.out]; rfl, by go_num, by omega, bThen (bThen K6.out y.b) z.b⟩
                case measure => simp [intOf]; omega
            · obtain rfl : j = m := by omega
              have i1 : ¬ (j : Int) < (j : Int) := by omega
              have HP : Hid (anyP (s.take j) (hb r) = anyP s (hb r)) := Lib.hid (by rw [← HM2.out, List.take_length])
              have HQ : Hid (anyQ (s.take j) (hb r) = anyQ s (hb r)) := Lib.hid (by rw [← HM2.out, List.take_length])
              rw [HP.out, HQ.out]
              have CRj := CR.out wr (bThen B2.out k6) A8 c8 ((R8.out.below k6).more k6.size)
              clear CR HP HQ
              generalize anyP s (hb r) = pv at *
              generalize anyQ s (hb r) = qv at *
              have CRk := Lib.hid CRj
              clear CRj
              cases pv <;> cases qv
              all_goals
                go_wp2_with (go_at_call 12; ((with_reducible refine CRk.out.mono ?_); rintro e w7 ⟨rfl, q7⟩))
                go_ret
                exact ⟨rfl, bThen (bThen B2.out k6) q7⟩
end Go.Proofs.YthlalmoapbdccaaDoor.WX
