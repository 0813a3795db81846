/-
  WALK: the law RingBounded.
-/
import Derived.Test.YtecdcfmbhphagaaBVers
import Derived.Test.YtecdcfmbhphagaaBSteadyAll
namespace Go.Proofs.Ytecdcfmbhphagaa.BX
open Go.RowKit HL
open IX (ptr El cellsK cellsK_at cellsK_len OwnK RdK Kept intK RdI)
set_option maxRecDepth 100000
set_option linter.unusedVariables false
set_option linter.unusedSimpArgs false

/-- The versions rise, and the last one is the greatest. -/
def Asc (g : Rg) : Prop := g.all.Pairwise (fun a b => a.1 < b.1) ∧ ∀ a ∈ g.all, a.1 ≤ lastV g
theorem asc_put {g : Rg} {v : Int} {e : En} (h : Asc g) (hp : putB g v e = true) : Asc (putG g v e) := by
  have hl := (last_put hp).1
  have hlt : ∀ a ∈ g.all, a.1 < v := fun a ha => by
    have hi : isL g = true := by
      cases hn : g.all with
      | nil => rw [hn] at ha; cases ha
      | cons x t => simp [isL, hn]
    have := put_facts hp hi
    have := h.2 a ha
    omega
  refine ⟨?_, fun a ha => ?_⟩
  · rw [(put_yes hp).2]
    exact List.pairwise_append.2 ⟨h.1, by simp, fun a ha b hb => by rw [List.mem_singleton.1 hb]; exact hlt a ha⟩
  · rw [hl]
    rw [(put_yes hp).2] at ha
    rcases List.mem_append.1 ha with q | q
    · have := hlt a q; omega
    · rw [List.mem_singleton.1 q]; exact Int.le_refl _
theorem vers_up {g : Rg} (h : Asc g) {j : Nat} (hj : j + 1 < (vers g).length) : (vers g)[j] < (vers g)[j + 1] := by
  have hp : (vers g).Pairwise (· < ·) := by
    unfold vers kept
    rw [List.reverse_reverse, List.pairwise_map]
    exact h.1.drop
  exact List.pairwise_iff_getElem.1 hp j (j + 1) (by omega) hj (by omega)
theorem vers_form {B : Nat} {g : Rg} {R : List (Int × En)} (w : World) (hA : RgAt w B g R) (hn : g.all.length ≤ 100000) :
    Calls Try.prog 22 #[ptr B] w fun e w' => ∃ A c, e = .returned (.slice A (kept g).length c) ∧ RdI w' w'.heap.size A (vers g) ∧ Below w.heap.size w w' :=
  (vers_any w hA hn).mono fun e w' ⟨v, he, ho, hb⟩ => by
    have hk : OwnK intK w' w.heap.size v (vers g) := by
      show w'.ownsRow _ _ _ _ _ _
      rw [int_cells]; exact ho
    obtain ⟨A, c, e1, r, _, _⟩ := hk.form
    have hl : (vers g).length = (kept g).length := by unfold vers; simp
    rw [hl] at e1
    exact ⟨A, c, by rw [he, e1], r.ints, hb⟩
set_option maxHeartbeats 8000000 in
theorem bounded_main (h : ByteArray) (s : Nat) {A : Option Addr} (c : Nat) (l : List Act) (w : World) (hr : RdK actK w w.heap.size A l) (hh : h.size ≤ 60) (hl : l.length ≤ 100) (hb : newB h s = true) :
    Calls Try.prog 7 #[.string h, .int .i64 s, .slice A l.length c] w fun e w' => e = .returned (.bool true) ∧ Below w.heap.size w w' := by
  have AW := Lib.hid (awake_any w)
  have NW := Lib.hid (fun W => new_yes h s W hb)
  have hs8 : s ≤ 8 := by simp only [newB, Bool.and_eq_true, decide_eq_true_eq] at hb; omega
  have HR := Lib.hid hr
  clear hr
  go_enter Try.func7, Try.ntmps7
  go_upto_region 8 with (first
    | (go_at_call 25; ((with_reducible refine AW.out.mono ?_); rintro e wa ⟨rfl, ka⟩; have KA := Lib.hid ka; clear ka))
    | (go_at_call 10; ((with_reducible refine (NW.out _).mono ?_); rintro e wn ⟨rfl, rn, kn⟩; have HRn := Lib.hid rn; have KN := Lib.hid (bThen KA.out kn); have hBb : wa.heap.size < wn.heap.size := rn.lt; clear rn kn)))
  have hBw := KA.out.size
  clear AW NW KA
  generalize hB2 : wa.heap.size = B at *
  clear hB2
  go_wp2
  go_loopw [9, 10] (fun ma i wr => ∃ (k : Nat) (g : Rg) (R : List (Int × En)), ma = .int .i64 g.all.length ∧ i = .int .i64 k ∧ k ≤ l.length ∧ RgAt wr B g R ∧ g.all.length ≤ k ∧ Below w.heap.size w wr ∧ Asc g ∧ g.size = s) (fun ma i _ => l.length - (intOf i).toNat)
  case atStart => exact ⟨0, newG h s, noRows, rfl, rfl, Nat.zero_le _, HRn.out, Nat.zero_le _, KN.out, ⟨List.Pairwise.nil, fun a ha => by cases ha⟩, rfl⟩
  case round =>
    obtain ⟨k, g, R, rfl, rfl, hk, hRg, hgl, hK, hasc, hgs⟩ := hrel
    clear HRn KN
    by_cases hlt : k < l.length
    · obtain ⟨b, off, rfl, hbl, hc⟩ := acts_at (HR.out.below hK) (by omega)
      obtain ⟨q1, q2, q3⟩ := hc _ _ (List.getElem?_eq_getElem hlt)
      have i1 : (k : Int) < l.length := by omega
      obtain ⟨x, hx⟩ : ∃ x, l[k] = x := ⟨_, rfl⟩
      rw [hx] at q1 q2
      clear hx q3 hc
      have hbw : b < w.heap.size := by
        rcases HR.out with e | ⟨b', off', e, hb', _⟩
        · rw [e] at hlt; simp at hlt
        · simp at e; rw [e.1]; exact hb'
      obtain ⟨CA, vA, cA, sA, lA, oA, zA⟩ := en_opq x.e
      have PUT := Lib.hid (fun W R (q : RgAt W B g R) => put_any x.v x.e W q (by omega))
      rw [vA] at PUT
      rw [cA] at q2
      have hEQ := eq_known vA
      have HVA := Lib.hid vA
      have HZA := Lib.hid zA
      clear vA cA zA
      have hSp : ∀ w', Kept wr.drew w' (· ≠ B) → w'.cell? ⟨b, off + k * 20, none⟩ = some (.int .i64 x.v) ∧ Hid (w'.rangeAt b (off + k * 20 + 1) CA.toList) := fun w' q => ⟨(World.cell?_of_block (a := ⟨b, off + k * 20, none⟩) (q.block b (by show b < wr.heap.size; have := hK.size; omega) (show b ≠ B by omega))).trans q1, Lib.hid (fun j v hv => (World.cell?_of_block (a := ⟨b, off + k * 20 + 1 + j, none⟩) (q.block b (by show b < wr.heap.size; have := hK.size; omega) (show b ≠ B by omega))).trans (q2 j v hv))⟩
      have hS0 := hSp wr.drew (Kept.refl _ _)
      have HRd := Lib.hid (hRg.below (bD1 wr))
      have KD := Lib.hid (bThen hK (bD1 wr))
      have hsz : wr.drew.heap.size = wr.heap.size := rfl
      have HAS := Lib.hid hasc
      have hl1 := putG_len g x.v x.e
      have HRW : Hid (b < wr.heap.size) := Lib.hid (by have := hK.size; omega)
      have HQ1 := Lib.hid q1
      have HQ2 := Lib.hid q2
      clear q1 q2 hRg hK hasc
      cases hp : putB g x.v x.e with
      | false =>
        rw [(put_no hp).1, (put_no hp).2] at PUT
        have HLN : Hid (g.all.length ≤ k + 1) := Lib.hid (by omega)
        have HASC := HAS
        clear hp hl1 hEQ
        have GSZ := hgs
        have HSZ : Hid (g.size = s) := Lib.hid GSZ
        have hlen : g.all.length ≤ 1000 := by have := HLN.out; omega
        have CMY := Lib.hid (fun W R' (q : RgAt W B g R') => many_any W q (by omega))
        have CDY := Lib.hid (fun W R' (q : RgAt W B g R') => dropped_any W q (by omega))
        have CVV := Lib.hid (fun W R' (q : RgAt W B g R') => vers_form W q (by omega))
        have hkl := kept_len g
        have HML : Hid ((vers g).length = (kept g).length) := Lib.hid (by unfold vers; simp)
        have hms : ¬ (s : Int) < ((kept g).length : Int) := by rw [hkl, HSZ.out]; omega
        have hmd : ((kept g).length : Int) + (dropN g : Int) = (g.all.length : Int) := by show _ + ((g.all.length - g.size : Nat) : Int) = _; rw [hkl]; omega
        have HMB : Hid ((kept g).length ≤ 1000) := Lib.hid (by rw [hkl]; omega)
        have HMD := Lib.hid hmd
        clear hkl
        generalize (kept g).length = m at *
        generalize dropN g = dn at *
        go_wp2
        refine wp_region_held_drew (S := fun w' => w'.cell? ⟨b, off + k * 20, none⟩ = some (.int .i64 x.v) ∧ Hid (w'.rangeAt b (off + k * 20 + 1) CA.toList)) (by kernel_rfl) hS0 (fun hHeld0 => ?_)
        refine wpAnyH_take (i := 0) (oi := { dst := some 40, op := Op.move (Operand.tmp 7), type := 23, pos := "outright.go:81", after := #[], guard := none }) (v := ?vvq0) rfl (by kernel_rfl) (by kernel_rfl) (by kernel_rfl) (fun _ _ _ h => h) (Or.inl ⟨by rfl, ?hyq0⟩) (by assumption) ?restq0
        case hyq0 => (intro w hSw; obtain ⟨s1, s2⟩ := hSw; go_simp; try with_reducible rfl)
        try simp only [Act.put, List.setIfInBounds_toArray, List.set_cons_zero, List.set_cons_succ]
        refine wpAnyH_take (i := 1) (oi := { dst := some 41, op := Op.move (Operand.tmp 2), type := 22, pos := "outright.go:81", after := #[], guard := none }) (v := ?vvq1) rfl (by kernel_rfl) (by kernel_rfl) (by kernel_rfl) (fun _ _ _ h => h) (Or.inl ⟨by rfl, ?hyq1⟩) (by assumption) ?restq1
        case hyq1 => (intro w hSw; obtain ⟨s1, s2⟩ := hSw; go_simp; try with_reducible rfl)
        try simp only [Act.put, List.setIfInBounds_toArray, List.set_cons_zero, List.set_cons_succ]
        refine wpAnyH_take (i := 2) (oi := { dst := some 42, op := Op.move (Operand.tmp 10), type := 3, pos := "outright.go:81", after := #[], guard := none }) (v := ?vvq2) rfl (by kernel_rfl) (by kernel_rfl) (by kernel_rfl) (fun _ _ _ h => h) (Or.inl ⟨by rfl, ?hyq2⟩) (by assumption) ?restq2
        case hyq2 => (intro w hSw; obtain ⟨s1, s2⟩ := hSw; go_simp; try with_reducible rfl)
        try simp only [Act.put, List.setIfInBounds_toArray, List.set_cons_zero, List.set_cons_succ]
        refine wpAnyH_take (i := 3) (oi := { dst := some 43, op := Op.indexAddr 22 (Operand.tmp 41) (Operand.tmp 42), type := 0, pos := "outright.go:81", after := #[{ on := 1, ground := Ground.data }, { on := 2, ground := Ground.data }], guard := none }) (v := ?vvq3) rfl (by kernel_rfl) (by kernel_rfl) (by kernel_rfl) (fun _ _ _ h => h) (Or.inl ⟨by rfl, ?hyq3⟩) (by assumption) ?restq3
        case hyq3 => (intro w hSw; obtain ⟨s1, s2⟩ := hSw; go_simp; try with_reducible rfl)
        try simp only [Act.put, List.setIfInBounds_toArray, List.set_cons_zero, List.set_cons_succ]
        refine wpAnyH_take (i := 4) (oi := { dst := some 44, op := Op.fieldAddr 37 (Operand.tmp 43) 0, type := 0, pos := "outright.go:81", after := #[{ on := 3, ground := Ground.data }], guard := none }) (v := ?vvq4) rfl (by kernel_rfl) (by kernel_rfl) (by kernel_rfl) (fun _ _ _ h => h) (Or.inl ⟨by rfl, ?hyq4⟩) (by assumption) ?restq4
        case hyq4 => (intro w hSw; obtain ⟨s1, s2⟩ := hSw; go_simp; try with_reducible rfl)
        try simp only [Act.put, List.setIfInBounds_toArray, List.set_cons_zero, List.set_cons_succ]
        refine wpAnyH_take (i := 5) (oi := { dst := some 45, op := Op.load 3 (Operand.tmp 44), type := 3, pos := "outright.go:81", after := #[{ on := 4, ground := Ground.data }], guard := none }) (v := ?vvq5) rfl (by kernel_rfl) (by kernel_rfl) (by kernel_rfl) (fun _ _ _ h => h) (Or.inl ⟨by rfl, ?hyq5⟩) (by assumption) ?restq5
        case hyq5 => (intro w hSw; obtain ⟨s1, s2⟩ := hSw; go_simp; try with_reducible rfl)
        try simp only [Act.put, List.setIfInBounds_toArray, List.set_cons_zero, List.set_cons_succ]
        refine wpAnyH_take (i := 6) (oi := { dst := some 46, op := Op.move (Operand.tmp 2), type := 22, pos := "outright.go:81", after := #[], guard := none }) (v := ?vvq6) rfl (by kernel_rfl) (by kernel_rfl) (by kernel_rfl) (fun _ _ _ h => h) (Or.inl ⟨by rfl, ?hyq6⟩) (by assumption) ?restq6
        case hyq6 => (intro w hSw; obtain ⟨s1, s2⟩ := hSw; go_simp; try with_reducible rfl)
        try simp only [Act.put, List.setIfInBounds_toArray, List.set_cons_zero, List.set_cons_succ]
        refine wpAnyH_take (i := 7) (oi := { dst := some 47, op := Op.move (Operand.tmp 10), type := 3, pos := "outright.go:81", after := #[], guard := none }) (v := ?vvq7) rfl (by kernel_rfl) (by kernel_rfl) (by kernel_rfl) (fun _ _ _ h => h) (Or.inl ⟨by rfl, ?hyq7⟩) (by assumption) ?restq7
        case hyq7 => (intro w hSw; obtain ⟨s1, s2⟩ := hSw; go_simp; try with_reducible rfl)
        try simp only [Act.put, List.setIfInBounds_toArray, List.set_cons_zero, List.set_cons_succ]
        refine wpAnyH_take (i := 8) (oi := { dst := some 48, op := Op.indexAddr 22 (Operand.tmp 46) (Operand.tmp 47), type := 0, pos := "outright.go:81", after := #[{ on := 6, ground := Ground.data }, { on := 7, ground := Ground.data }], guard := none }) (v := ?vvq8) rfl (by kernel_rfl) (by kernel_rfl) (by kernel_rfl) (fun _ _ _ h => h) (Or.inl ⟨by rfl, ?hyq8⟩) (by assumption) ?restq8
        case hyq8 => (intro w hSw; obtain ⟨s1, s2⟩ := hSw; go_simp; try with_reducible rfl)
        try simp only [Act.put, List.setIfInBounds_toArray, List.set_cons_zero, List.set_cons_succ]
        refine wpAnyH_take (i := 9) (oi := { dst := some 49, op := Op.fieldAddr 37 (Operand.tmp 48) 1, type := 0, pos := "outright.go:81", after := #[{ on := 8, ground := Ground.data }], guard := none }) (v := ?vvq9) rfl (by kernel_rfl) (by kernel_rfl) (by kernel_rfl) (fun _ _ _ h => h) (Or.inl ⟨by rfl, ?hyq9⟩) (by assumption) ?restq9
        case hyq9 => (intro w hSw; obtain ⟨s1, s2⟩ := hSw; go_simp; try with_reducible rfl)
        try simp only [Act.put, List.setIfInBounds_toArray, List.set_cons_zero, List.set_cons_succ]
        refine wpAnyH_take (i := 10) (oi := { dst := some 50, op := Op.load 35 (Operand.tmp 49), type := 35, pos := "outright.go:81", after := #[{ on := 9, ground := Ground.data }], guard := none }) (v := .agg CA) rfl (by kernel_rfl) (by kernel_rfl) (by kernel_rfl) (fun _ _ _ h => h) (yieldsIf_load_mid (by rfl) _ _ rfl (b) (off + k * 20 + 1) rfl (CA.toList) _ (fun w h => h.2.out) Try.underlying35 rfl lA) (by assumption) ?_
        try simp only [Act.put, List.setIfInBounds_toArray, List.set_cons_zero, List.set_cons_succ]
        refine wpAnyH_ready (rs := [11]) (by kernel_rfl) (by simp) ?_
        refine AllReadyH.cons (o := { dst := some 51, op := Op.call { callee := Callee.value (Operand.func 14), args := #[Operand.tmp 40, Operand.tmp 45, Operand.tmp 50], argTypes := #[23, 3, 35] }, type := 24, pos := "outright.go:81", after := #[{ on := 0, ground := Ground.data }, { on := 5, ground := Ground.data }, { on := 10, ground := Ground.data }], guard := none }) rfl (fun K hK => ?_) AllReadyH.nil
        go_simp
        refine (PUT.out _ _ HRd.out).mono ?_
        rintro e w1 ⟨rfl, ⟨R1, r1⟩, k1⟩
        go_wp2_with fail
        have HR1 := Lib.hid r1
        have KP := Lib.hid k1
        clear r1
        refine hK.out _ _ (hSp _ k1) (fun hHeld1 => ?_)
        clear hK K
        try simp only [Act.put, List.setIfInBounds_toArray, List.set_cons_zero, List.set_cons_succ]
        refine wpAnyH_take (i := 12) (oi := { dst := some 52, op := Op.binOp BinOp.eql 24 (Operand.tmp 51) (Operand.const (Value.int IntKind.i64 0)) 24, type := 4, pos := "outright.go:81", after := #[{ on := 11, ground := Ground.data }], guard := none }) (v := ?vvq12) rfl (by kernel_rfl) (by kernel_rfl) (by kernel_rfl) (fun _ _ _ h => h) (Or.inl ⟨by rfl, ?hyq12⟩) (by assumption) ?restq12
        case hyq12 => (intro w hSw; obtain ⟨s1, s2⟩ := hSw; go_simp; try with_reducible rfl)
        try simp only [Act.put, List.setIfInBounds_toArray, List.set_cons_zero, List.set_cons_succ]
        refine wpAnyH_done (by kernel_rfl) ?_ _
        have HRt := HR1
        have KBt := Lib.hid (belowK KD.out KP.out (by omega))
        clear hS0 hSp hHeld0 hHeld1 HQ1 HQ2
        have hmd := HMD.out
        go_upto_region 22 with (first
          | (go_at_call 20; ((with_reducible refine (CMY.out _ _ HRv.out).mono ?_); rintro e y5 ⟨rfl, k5⟩; have KB5 := Lib.hid (bThen KBv.out k5); have RI5 := Lib.hid ((RI9.out.below k5).more k5.size); have HR5 := Lib.hid (HRv.out.below k5); clear k5))
          | (go_at_call 22; ((with_reducible refine (CVV.out _ _ HRd2.out).mono ?_); rintro e y4 ⟨A9, c9, rfl, r9, k4⟩; have RI9 := Lib.hid r9; have KBv := Lib.hid (bThen KBd.out k4); have HRv := Lib.hid (HRd2.out.below k4); clear k4 r9))
          | (go_at_call 18; ((with_reducible refine (CDY.out _ _ HRm2.out).mono ?_); rintro e y3 ⟨rfl, k3⟩; have KBd := Lib.hid (bThen KBm2.out k3); have HRd2 := Lib.hid (HRm2.out.below k3); clear k3))
          | (go_at_call 20; ((with_reducible refine (CMY.out _ _ HRm1.out).mono ?_); rintro e y2 ⟨rfl, k2⟩; have KBm2 := Lib.hid (bThen KBm1.out k2); have HRm2 := Lib.hid (HRm1.out.below k2); clear k2))
          | (go_at_call 20; ((with_reducible refine (CMY.out _ _ HRt.out).mono ?_); rintro e y1 ⟨rfl, k1⟩; have KBm1 := Lib.hid (bThen KBt.out k1); have HRm1 := Lib.hid (HRt.out.below k1); clear k1)))
        have HRI := Lib.hid RI5.out
        have HR5b := Lib.hid HR5.out
        have KB5b := Lib.hid KB5.out
        obtain ⟨Wz, hWz⟩ : ∃ z, y5 = z := ⟨_, rfl⟩
        go_wp2
        go_loopw [15] (fun jj wq => ∃ j : Nat, jj = .int .i64 ((j : Int) + 1) ∧ Below y5.heap.size y5 wq) (fun jj _ => m + 2 - (intOf jj).toNat)
        case atStart => exact ⟨0, by simp, Below.refl _ _⟩
        case round =>
          obtain ⟨j, rfl, hKj⟩ := hrel
          by_cases hjm : j + 1 < m
          · obtain ⟨b9, off9, rfl, hb9, hc9⟩ := ((HRI.out.below hKj)).at_ (by rw [HML.out]; omega)
            have hj1 : j + 1 < (vers g).length := by rw [HML.out]; exact hjm
            have y1' := hc9 _ _ (List.getElem?_eq_getElem hj1)
            have y0' := hc9 _ _ (List.getElem?_eq_getElem (show j < (vers g).length by omega))
            have hlt9 := vers_up HASC.out hj1
            have i9 : (j : Int) + 1 < (m : Int) := by omega
            have i10 : (j : Int) ≤ 100000 := by have := HMB.out; omega
            generalize (vers g)[j + 1] = za at *
            generalize (vers g)[j] = zb at *
            have n9 : ¬ za ≤ zb := by omega
            have HKj := Lib.hid hKj
            clear hKj hc9 hj1
            go_wp2
            go_quiet (fail)
            go_wp2
            go_roundw
            case rel => exact ⟨j + 1, by go_num, bDrew HKj.out _⟩
            case measure => simp [intOf]; omega
          · have i9 : ¬ (j : Int) + 1 < (m : Int) := by omega
            go_wp2
            go_roundw
            case rel => exact ⟨k + 1, g, R1, by simp, by go_num, by omega, HR5b.out.below hKj, HLN.out, bThen KB5b.out hKj, HASC.out, HSZ.out⟩
            case measure => simp [intOf]; omega
      | true =>
        rw [(put_yes hp).1] at PUT
        have HLN : Hid ((putG g x.v x.e).all.length ≤ k + 1) := Lib.hid (by omega)
        have HASC := Lib.hid (asc_put HAS.out hp)
        have hla := last_put hp
        have HNL : Hid ((putG g x.v x.e).all.length = g.all.length + 1) := Lib.hid (by rw [(put_yes hp).2]; simp)
        have GSZ : (putG g x.v x.e).size = s := by rw [putG_size, hgs]
        have CLA := Lib.hid (fun W R' (q : RgAt W B (putG g x.v x.e) R') => last_any W q (by have := HLN.out; omega))
        rw [hla.1, hla.2.1, hla.2.2, HVA.out] at CLA
        obtain ⟨gn, hgn⟩ : ∃ y, putG g x.v x.e = y := ⟨_, rfl⟩
        rw [hgn] at PUT HLN HASC HNL GSZ CLA
        clear hp hl1 hla hgn
        have HSZ : Hid (gn.size = s) := Lib.hid GSZ
        have hlen : gn.all.length ≤ 1000 := by have := HLN.out; omega
        have CMY := Lib.hid (fun W R' (q : RgAt W B gn R') => many_any W q (by omega))
        have CDY := Lib.hid (fun W R' (q : RgAt W B gn R') => dropped_any W q (by omega))
        have CVV := Lib.hid (fun W R' (q : RgAt W B gn R') => vers_form W q (by omega))
        have hkl := kept_len gn
        have HML : Hid ((vers gn).length = (kept gn).length) := Lib.hid (by unfold vers; simp)
        have hms : ¬ (s : Int) < ((kept gn).length : Int) := by rw [hkl, HSZ.out]; omega
        have hmd : ((kept gn).length : Int) + (dropN gn : Int) = (gn.all.length : Int) := by show _ + ((gn.all.length - gn.size : Nat) : Int) = _; rw [hkl]; omega
        have HMB : Hid ((kept gn).length ≤ 1000) := Lib.hid (by rw [hkl]; omega)
        have HMD := Lib.hid hmd
        clear hkl
        generalize (kept gn).length = m at *
        generalize dropN gn = dn at *
        go_wp2
        refine wp_region_held_drew (S := fun w' => w'.cell? ⟨b, off + k * 20, none⟩ = some (.int .i64 x.v) ∧ Hid (w'.rangeAt b (off + k * 20 + 1) CA.toList)) (by kernel_rfl) hS0 (fun hHeld0 => ?_)
        refine wpAnyH_take (i := 0) (oi := { dst := some 40, op := Op.move (Operand.tmp 7), type := 23, pos := "outright.go:81", after := #[], guard := none }) (v := ?vvt0) rfl (by kernel_rfl) (by kernel_rfl) (by kernel_rfl) (fun _ _ _ h => h) (Or.inl ⟨by rfl, ?hyt0⟩) (by assumption) ?restt0
        case hyt0 => (intro w hSw; obtain ⟨s1, s2⟩ := hSw; go_simp; try with_reducible rfl)
        try simp only [Act.put, List.setIfInBounds_toArray, List.set_cons_zero, List.set_cons_succ]
        refine wpAnyH_take (i := 1) (oi := { dst := some 41, op := Op.move (Operand.tmp 2), type := 22, pos := "outright.go:81", after := #[], guard := none }) (v := ?vvt1) rfl (by kernel_rfl) (by kernel_rfl) (by kernel_rfl) (fun _ _ _ h => h) (Or.inl ⟨by rfl, ?hyt1⟩) (by assumption) ?restt1
        case hyt1 => (intro w hSw; obtain ⟨s1, s2⟩ := hSw; go_simp; try with_reducible rfl)
        try simp only [Act.put, List.setIfInBounds_toArray, List.set_cons_zero, List.set_cons_succ]
        refine wpAnyH_take (i := 2) (oi := { dst := some 42, op := Op.move (Operand.tmp 10), type := 3, pos := "outright.go:81", after := #[], guard := none }) (v := ?vvt2) rfl (by kernel_rfl) (by kernel_rfl) (by kernel_rfl) (fun _ _ _ h => h) (Or.inl ⟨by rfl, ?hyt2⟩) (by assumption) ?restt2
        case hyt2 => (intro w hSw; obtain ⟨s1, s2⟩ := hSw; go_simp; try with_reducible rfl)
        try simp only [Act.put, List.setIfInBounds_toArray, List.set_cons_zero, List.set_cons_succ]
        refine wpAnyH_take (i := 3) (oi := { dst := some 43, op := Op.indexAddr 22 (Operand.tmp 41) (Operand.tmp 42), type := 0, pos := "outright.go:81", after := #[{ on := 1, ground := Ground.data }, { on := 2, ground := Ground.data }], guard := none }) (v := ?vvt3) rfl (by kernel_rfl) (by kernel_rfl) (by kernel_rfl) (fun _ _ _ h => h) (Or.inl ⟨by rfl, ?hyt3⟩) (by assumption) ?restt3
        case hyt3 => (intro w hSw; obtain ⟨s1, s2⟩ := hSw; go_simp; try with_reducible rfl)
        try simp only [Act.put, List.setIfInBounds_toArray, List.set_cons_zero, List.set_cons_succ]
        refine wpAnyH_take (i := 4) (oi := { dst := some 44, op := Op.fieldAddr 37 (Operand.tmp 43) 0, type := 0, pos := "outright.go:81", after := #[{ on := 3, ground := Ground.data }], guard := none }) (v := ?vvt4) rfl (by kernel_rfl) (by kernel_rfl) (by kernel_rfl) (fun _ _ _ h => h) (Or.inl ⟨by rfl, ?hyt4⟩) (by assumption) ?restt4
        case hyt4 => (intro w hSw; obtain ⟨s1, s2⟩ := hSw; go_simp; try with_reducible rfl)
        try simp only [Act.put, List.setIfInBounds_toArray, List.set_cons_zero, List.set_cons_succ]
        refine wpAnyH_take (i := 5) (oi := { dst := some 45, op := Op.load 3 (Operand.tmp 44), type := 3, pos := "outright.go:81", after := #[{ on := 4, ground := Ground.data }], guard := none }) (v := ?vvt5) rfl (by kernel_rfl) (by kernel_rfl) (by kernel_rfl) (fun _ _ _ h => h) (Or.inl ⟨by rfl, ?hyt5⟩) (by assumption) ?restt5
        case hyt5 => (intro w hSw; obtain ⟨s1, s2⟩ := hSw; go_simp; try with_reducible rfl)
        try simp only [Act.put, List.setIfInBounds_toArray, List.set_cons_zero, List.set_cons_succ]
        refine wpAnyH_take (i := 6) (oi := { dst := some 46, op := Op.move (Operand.tmp 2), type := 22, pos := "outright.go:81", after := #[], guard := none }) (v := ?vvt6) rfl (by kernel_rfl) (by kernel_rfl) (by kernel_rfl) (fun _ _ _ h => h) (Or.inl ⟨by rfl, ?hyt6⟩) (by assumption) ?restt6
        case hyt6 => (intro w hSw; obtain ⟨s1, s2⟩ := hSw; go_simp; try with_reducible rfl)
        try simp only [Act.put, List.setIfInBounds_toArray, List.set_cons_zero, List.set_cons_succ]
        refine wpAnyH_take (i := 7) (oi := { dst := some 47, op := Op.move (Operand.tmp 10), type := 3, pos := "outright.go:81", after := #[], guard := none }) (v := ?vvt7) rfl (by kernel_rfl) (by kernel_rfl) (by kernel_rfl) (fun _ _ _ h => h) (Or.inl ⟨by rfl, ?hyt7⟩) (by assumption) ?restt7
        case hyt7 => (intro w hSw; obtain ⟨s1, s2⟩ := hSw; go_simp; try with_reducible rfl)
        try simp only [Act.put, List.setIfInBounds_toArray, List.set_cons_zero, List.set_cons_succ]
        refine wpAnyH_take (i := 8) (oi := { dst := some 48, op := Op.indexAddr 22 (Operand.tmp 46) (Operand.tmp 47), type := 0, pos := "outright.go:81", after := #[{ on := 6, ground := Ground.data }, { on := 7, ground := Ground.data }], guard := none }) (v := ?vvt8) rfl (by kernel_rfl) (by kernel_rfl) (by kernel_rfl) (fun _ _ _ h => h) (Or.inl ⟨by rfl, ?hyt8⟩) (by assumption) ?restt8
        case hyt8 => (intro w hSw; obtain ⟨s1, s2⟩ := hSw; go_simp; try with_reducible rfl)
        try simp only [Act.put, List.setIfInBounds_toArray, List.set_cons_zero, List.set_cons_succ]
        refine wpAnyH_take (i := 9) (oi := { dst := some 49, op := Op.fieldAddr 37 (Operand.tmp 48) 1, type := 0, pos := "outright.go:81", after := #[{ on := 8, ground := Ground.data }], guard := none }) (v := ?vvt9) rfl (by kernel_rfl) (by kernel_rfl) (by kernel_rfl) (fun _ _ _ h => h) (Or.inl ⟨by rfl, ?hyt9⟩) (by assumption) ?restt9
        case hyt9 => (intro w hSw; obtain ⟨s1, s2⟩ := hSw; go_simp; try with_reducible rfl)
        try simp only [Act.put, List.setIfInBounds_toArray, List.set_cons_zero, List.set_cons_succ]
        refine wpAnyH_take (i := 10) (oi := { dst := some 50, op := Op.load 35 (Operand.tmp 49), type := 35, pos := "outright.go:81", after := #[{ on := 9, ground := Ground.data }], guard := none }) (v := .agg CA) rfl (by kernel_rfl) (by kernel_rfl) (by kernel_rfl) (fun _ _ _ h => h) (yieldsIf_load_mid (by rfl) _ _ rfl (b) (off + k * 20 + 1) rfl (CA.toList) _ (fun w h => h.2.out) Try.underlying35 rfl lA) (by assumption) ?_
        try simp only [Act.put, List.setIfInBounds_toArray, List.set_cons_zero, List.set_cons_succ]
        refine wpAnyH_ready (rs := [11]) (by kernel_rfl) (by simp) ?_
        refine AllReadyH.cons (o := { dst := some 51, op := Op.call { callee := Callee.value (Operand.func 14), args := #[Operand.tmp 40, Operand.tmp 45, Operand.tmp 50], argTypes := #[23, 3, 35] }, type := 24, pos := "outright.go:81", after := #[{ on := 0, ground := Ground.data }, { on := 5, ground := Ground.data }, { on := 10, ground := Ground.data }], guard := none }) rfl (fun K hK => ?_) AllReadyH.nil
        go_simp
        refine (PUT.out _ _ HRd.out).mono ?_
        rintro e w1 ⟨rfl, ⟨R1, r1⟩, k1⟩
        go_wp2_with fail
        have HR1 := Lib.hid r1
        have KP := Lib.hid k1
        clear r1
        refine hK.out _ _ (hSp _ k1) (fun hHeld1 => ?_)
        clear hK K
        try simp only [Act.put, List.setIfInBounds_toArray, List.set_cons_zero, List.set_cons_succ]
        refine wpAnyH_take (i := 12) (oi := { dst := some 52, op := Op.binOp BinOp.eql 24 (Operand.tmp 51) (Operand.const (Value.int IntKind.i64 0)) 24, type := 4, pos := "outright.go:81", after := #[{ on := 11, ground := Ground.data }], guard := none }) (v := ?vvt12) rfl (by kernel_rfl) (by kernel_rfl) (by kernel_rfl) (fun _ _ _ h => h) (Or.inl ⟨by rfl, ?hyt12⟩) (by assumption) ?restt12
        case hyt12 => (intro w hSw; obtain ⟨s1, s2⟩ := hSw; go_simp; try with_reducible rfl)
        try simp only [Act.put, List.setIfInBounds_toArray, List.set_cons_zero, List.set_cons_succ]
        refine wpAnyH_done (by kernel_rfl) ?_ _
        have K1 := Lib.hid (belowK KD.out KP.out (by omega))
        clear hS0 hSp hHeld0 hHeld1
        have hgk : (g.all.length : Int) ≤ 1000 := by omega
        go_upto_region 15 with (first
          | (go_at_call 16; ((with_reducible refine (CLA.out _ _ HR1.out).mono ?_); rintro e u1 ⟨rfl, k1⟩; have KU1 := Lib.hid (bThen K1.out k1); have L1 := laid_var (C := CA) KU1.out HZA.out; have HX1 := Lib.hid L1.1; have HRv1 := Lib.hid ((HR1.out.below k1).below L1.2.1); have KB1 := Lib.hid (bThen KU1.out L1.2.1); have KW1 := Lib.hid (bThen k1 L1.2.1); have HT1 := Lib.hid L1.2.2; clear k1 L1))
          | ((with_reducible show wpList _ _ _ ({ dst := none, op := Op.store 35 _ _, type := _, pos := _, after := _, guard := _ } :: _) _ _); (refine wpList_store_mid rfl _ _ _ rfl u1.heap.size 0 CA rfl rfl HT1.out sA oA ?_); change wpList _ _ _ _ _ ((u1.alloc (.cells (enC zeroEn) 35)).setCells u1.heap.size 0 CA.toList); generalize ((u1.alloc (.cells (enC zeroEn) 35)).setCells u1.heap.size 0 CA.toList) = V1 at *))
        have hS1 : V1.drew.cell? ⟨b, off + k * 20, none⟩ = some (.int .i64 x.v) ∧ Hid (V1.drew.rangeAt b (off + k * 20 + 1) CA.toList) ∧ Hid (V1.drew.rangeAt u1.heap.size 0 CA.toList) := by
          have hbb : V1.heap[b]? = wr.heap[b]? := (KW1.out.block b (by have := KP.out.size; have := HRW.out; omega)).trans (KP.out.block b HRW.out (show b ≠ B by omega))
          exact ⟨(World.cell?_of_block (a := ⟨b, off + k * 20, none⟩) hbb).trans HQ1.out, Lib.hid (fun j v hv => (World.cell?_of_block (a := ⟨b, off + k * 20 + 1 + j, none⟩) hbb).trans (HQ2.out j v hv)), Lib.hid (range_at HX1.out.drew1)⟩
        have hz3 : V1.drew.heap.size = V1.heap.size := rfl
        refine wp_region_held_drew (S := fun w' => w'.cell? ⟨b, off + k * 20, none⟩ = some (.int .i64 x.v) ∧ Hid (w'.rangeAt b (off + k * 20 + 1) CA.toList) ∧ Hid (w'.rangeAt u1.heap.size 0 CA.toList)) (by kernel_rfl) hS1 (fun hHeld0 => ?_)
        refine wpAnyH_take (i := 0) (oi := { dst := some 61, op := Op.move (Operand.tmp 13), type := 4, pos := "outright.go:84", after := #[], guard := none }) (v := ?vvc0) rfl (by kernel_rfl) (by kernel_rfl) (by kernel_rfl) (fun _ _ _ h => h) (Or.inl ⟨by rfl, ?hyc0⟩) (by assumption) ?restc0
        case hyc0 => (intro w hSw; obtain ⟨s1, s2, s3⟩ := hSw; go_simp; try with_reducible rfl)
        try simp only [Act.put, List.setIfInBounds_toArray, List.set_cons_zero, List.set_cons_succ]
        refine wpAnyH_take (i := 1) (oi := { dst := some 62, op := Op.unOp UnOp.not 4 (Operand.tmp 61), type := 4, pos := "outright.go:84", after := #[{ on := 0, ground := Ground.data }], guard := none }) (v := ?vvc1) rfl (by kernel_rfl) (by kernel_rfl) (by kernel_rfl) (fun _ _ _ h => h) (Or.inl ⟨by rfl, ?hyc1⟩) (by assumption) ?restc1
        case hyc1 => (intro w hSw; obtain ⟨s1, s2, s3⟩ := hSw; go_simp; try with_reducible rfl)
        try simp only [Act.put, List.setIfInBounds_toArray, List.set_cons_zero, List.set_cons_succ]
        refine wpAnyH_take (i := 2) (oi := { dst := some 63, op := Op.move (Operand.tmp 62), type := 4, pos := "outright.go:84", after := #[{ on := 1, ground := Ground.data }], guard := none }) (v := ?vvc2) rfl (by kernel_rfl) (by kernel_rfl) (by kernel_rfl) (fun _ _ _ h => h) (Or.inl ⟨by rfl, ?hyc2⟩) (by assumption) ?restc2
        case hyc2 => (intro w hSw; obtain ⟨s1, s2, s3⟩ := hSw; go_simp; try with_reducible rfl)
        try simp only [Act.put, List.setIfInBounds_toArray, List.set_cons_zero, List.set_cons_succ]
        refine wpAnyH_take (i := 3) (oi := { dst := some 64, op := Op.move (Operand.tmp 11), type := 3, pos := "outright.go:84", after := #[{ on := 2, ground := Ground.guard }], guard := some (2, false) }) (v := ?vvc3) rfl (by kernel_rfl) (by kernel_rfl) (by kernel_rfl) (fun _ _ _ h => h) (Or.inl ⟨by rfl, ?hyc3⟩) (by assumption) ?restc3
        case hyc3 => (intro w hSw; obtain ⟨s1, s2, s3⟩ := hSw; go_simp; try with_reducible rfl)
        try simp only [Act.put, List.setIfInBounds_toArray, List.set_cons_zero, List.set_cons_succ]
        refine wpAnyH_take (i := 4) (oi := { dst := some 65, op := Op.move (Operand.tmp 2), type := 22, pos := "outright.go:84", after := #[{ on := 2, ground := Ground.guard }], guard := some (2, false) }) (v := ?vvc4) rfl (by kernel_rfl) (by kernel_rfl) (by kernel_rfl) (fun _ _ _ h => h) (Or.inl ⟨by rfl, ?hyc4⟩) (by assumption) ?restc4
        case hyc4 => (intro w hSw; obtain ⟨s1, s2, s3⟩ := hSw; go_simp; try with_reducible rfl)
        try simp only [Act.put, List.setIfInBounds_toArray, List.set_cons_zero, List.set_cons_succ]
        refine wpAnyH_take (i := 5) (oi := { dst := some 66, op := Op.move (Operand.tmp 10), type := 3, pos := "outright.go:84", after := #[{ on := 2, ground := Ground.guard }], guard := some (2, false) }) (v := ?vvc5) rfl (by kernel_rfl) (by kernel_rfl) (by kernel_rfl) (fun _ _ _ h => h) (Or.inl ⟨by rfl, ?hyc5⟩) (by assumption) ?restc5
        case hyc5 => (intro w hSw; obtain ⟨s1, s2, s3⟩ := hSw; go_simp; try with_reducible rfl)
        try simp only [Act.put, List.setIfInBounds_toArray, List.set_cons_zero, List.set_cons_succ]
        refine wpAnyH_take (i := 6) (oi := { dst := some 67, op := Op.indexAddr 22 (Operand.tmp 65) (Operand.tmp 66), type := 0, pos := "outright.go:84", after := #[{ on := 4, ground := Ground.data }, { on := 5, ground := Ground.data }, { on := 2, ground := Ground.guard }], guard := some (2, false) }) (v := ?vvc6) rfl (by kernel_rfl) (by kernel_rfl) (by kernel_rfl) (fun _ _ _ h => h) (Or.inl ⟨by rfl, ?hyc6⟩) (by assumption) ?restc6
        case hyc6 => (intro w hSw; obtain ⟨s1, s2, s3⟩ := hSw; go_simp; try with_reducible rfl)
        try simp only [Act.put, List.setIfInBounds_toArray, List.set_cons_zero, List.set_cons_succ]
        refine wpAnyH_take (i := 7) (oi := { dst := some 68, op := Op.fieldAddr 37 (Operand.tmp 67) 0, type := 0, pos := "outright.go:84", after := #[{ on := 6, ground := Ground.data }, { on := 2, ground := Ground.guard }], guard := some (2, false) }) (v := ?vvc7) rfl (by kernel_rfl) (by kernel_rfl) (by kernel_rfl) (fun _ _ _ h => h) (Or.inl ⟨by rfl, ?hyc7⟩) (by assumption) ?restc7
        case hyc7 => (intro w hSw; obtain ⟨s1, s2, s3⟩ := hSw; go_simp; try with_reducible rfl)
        try simp only [Act.put, List.setIfInBounds_toArray, List.set_cons_zero, List.set_cons_succ]
        refine wpAnyH_take (i := 8) (oi := { dst := some 69, op := Op.load 3 (Operand.tmp 68), type := 3, pos := "outright.go:84", after := #[{ on := 7, ground := Ground.data }, { on := 2, ground := Ground.guard }], guard := some (2, false) }) (v := ?vvc8) rfl (by kernel_rfl) (by kernel_rfl) (by kernel_rfl) (fun _ _ _ h => h) (Or.inl ⟨by rfl, ?hyc8⟩) (by assumption) ?restc8
        case hyc8 => (intro w hSw; obtain ⟨s1, s2, s3⟩ := hSw; go_simp; try with_reducible rfl)
        try simp only [Act.put, List.setIfInBounds_toArray, List.set_cons_zero, List.set_cons_succ]
        refine wpAnyH_take (i := 9) (oi := { dst := some 70, op := Op.binOp BinOp.neq 3 (Operand.tmp 64) (Operand.tmp 69) 3, type := 4, pos := "outright.go:84", after := #[{ on := 3, ground := Ground.data }, { on := 8, ground := Ground.data }, { on := 2, ground := Ground.guard }], guard := some (2, false) }) (v := ?vvc9) rfl (by kernel_rfl) (by kernel_rfl) (by kernel_rfl) (fun _ _ _ h => h) (Or.inl ⟨by rfl, ?hyc9⟩) (by assumption) ?restc9
        case hyc9 => (intro w hSw; obtain ⟨s1, s2, s3⟩ := hSw; go_simp; try with_reducible rfl)
        try simp only [Act.put, List.setIfInBounds_toArray, List.set_cons_zero, List.set_cons_succ]
        refine wpAnyH_take (i := 10) (oi := { dst := some 71, op := Op.pick (Operand.tmp 63) (Operand.const (Value.bool true)) (Operand.tmp 70), type := 4, pos := "outright.go:84", after := #[{ on := 2, ground := Ground.data }, { on := 9, ground := Ground.data }], guard := none }) (v := ?vvc10) rfl (by kernel_rfl) (by kernel_rfl) (by kernel_rfl) (fun _ _ _ h => h) (Or.inl ⟨by rfl, ?hyc10⟩) (by assumption) ?restc10
        case hyc10 => (intro w hSw; obtain ⟨s1, s2, s3⟩ := hSw; go_simp; try with_reducible rfl)
        try simp only [Act.put, List.setIfInBounds_toArray, List.set_cons_zero, List.set_cons_succ]
        refine wpAnyH_take (i := 11) (oi := { dst := some 72, op := Op.move (Operand.tmp 71), type := 4, pos := "outright.go:84", after := #[{ on := 10, ground := Ground.data }, { on := 2, ground := Ground.chain }], guard := none }) (v := ?vvc11) rfl (by kernel_rfl) (by kernel_rfl) (by kernel_rfl) (fun _ _ _ h => h) (Or.inl ⟨by rfl, ?hyc11⟩) (by assumption) ?restc11
        case hyc11 => (intro w hSw; obtain ⟨s1, s2, s3⟩ := hSw; go_simp; try with_reducible rfl)
        try simp only [Act.put, List.setIfInBounds_toArray, List.set_cons_zero, List.set_cons_succ]
        refine wpAnyH_take (i := 12) (oi := { dst := some 73, op := Op.load 35 (Operand.tmp 12), type := 35, pos := "outright.go:84", after := #[{ on := 11, ground := Ground.guard }], guard := some (11, false) }) (v := .agg CA) rfl (by kernel_rfl) (by kernel_rfl) (by kernel_rfl) (fun _ _ _ h => h) (yieldsIf_load_mid (by rfl) _ _ rfl (u1.heap.size) (0) rfl (CA.toList) _ (fun w h => h.2.2.out) Try.underlying35 rfl lA) (by assumption) ?_
        try simp only [Act.put, List.setIfInBounds_toArray, List.set_cons_zero, List.set_cons_succ]
        refine wpAnyH_take (i := 13) (oi := { dst := some 74, op := Op.move (Operand.tmp 2), type := 22, pos := "outright.go:84", after := #[{ on := 11, ground := Ground.guard }], guard := some (11, false) }) (v := ?vvc13) rfl (by kernel_rfl) (by kernel_rfl) (by kernel_rfl) (fun _ _ _ h => h) (Or.inl ⟨by rfl, ?hyc13⟩) (by assumption) ?restc13
        case hyc13 => (intro w hSw; obtain ⟨s1, s2, s3⟩ := hSw; go_simp; try with_reducible rfl)
        try simp only [Act.put, List.setIfInBounds_toArray, List.set_cons_zero, List.set_cons_succ]
        refine wpAnyH_take (i := 14) (oi := { dst := some 75, op := Op.move (Operand.tmp 10), type := 3, pos := "outright.go:84", after := #[{ on := 11, ground := Ground.guard }], guard := some (11, false) }) (v := ?vvc14) rfl (by kernel_rfl) (by kernel_rfl) (by kernel_rfl) (fun _ _ _ h => h) (Or.inl ⟨by rfl, ?hyc14⟩) (by assumption) ?restc14
        case hyc14 => (intro w hSw; obtain ⟨s1, s2, s3⟩ := hSw; go_simp; try with_reducible rfl)
        try simp only [Act.put, List.setIfInBounds_toArray, List.set_cons_zero, List.set_cons_succ]
        refine wpAnyH_take (i := 15) (oi := { dst := some 76, op := Op.indexAddr 22 (Operand.tmp 74) (Operand.tmp 75), type := 0, pos := "outright.go:84", after := #[{ on := 13, ground := Ground.data }, { on := 14, ground := Ground.data }, { on := 11, ground := Ground.guard }], guard := some (11, false) }) (v := ?vvc15) rfl (by kernel_rfl) (by kernel_rfl) (by kernel_rfl) (fun _ _ _ h => h) (Or.inl ⟨by rfl, ?hyc15⟩) (by assumption) ?restc15
        case hyc15 => (intro w hSw; obtain ⟨s1, s2, s3⟩ := hSw; go_simp; try with_reducible rfl)
        try simp only [Act.put, List.setIfInBounds_toArray, List.set_cons_zero, List.set_cons_succ]
        refine wpAnyH_take (i := 16) (oi := { dst := some 77, op := Op.fieldAddr 37 (Operand.tmp 76) 1, type := 0, pos := "outright.go:84", after := #[{ on := 15, ground := Ground.data }, { on := 11, ground := Ground.guard }], guard := some (11, false) }) (v := ?vvc16) rfl (by kernel_rfl) (by kernel_rfl) (by kernel_rfl) (fun _ _ _ h => h) (Or.inl ⟨by rfl, ?hyc16⟩) (by assumption) ?restc16
        case hyc16 => (intro w hSw; obtain ⟨s1, s2, s3⟩ := hSw; go_simp; try with_reducible rfl)
        try simp only [Act.put, List.setIfInBounds_toArray, List.set_cons_zero, List.set_cons_succ]
        refine wpAnyH_take (i := 17) (oi := { dst := some 78, op := Op.load 35 (Operand.tmp 77), type := 35, pos := "outright.go:84", after := #[{ on := 16, ground := Ground.data }, { on := 11, ground := Ground.guard }], guard := some (11, false) }) (v := .agg CA) rfl (by kernel_rfl) (by kernel_rfl) (by kernel_rfl) (fun _ _ _ h => h) (yieldsIf_load_mid (by rfl) _ _ rfl (b) (off + k * 20 + 1) rfl (CA.toList) _ (fun w h => h.2.1.out) Try.underlying35 rfl lA) (by assumption) ?_
        try simp only [Act.put, List.setIfInBounds_toArray, List.set_cons_zero, List.set_cons_succ]
        refine wpAnyH_take (i := 18) (oi := { dst := some 79, op := Op.binOp BinOp.neq 35 (Operand.tmp 73) (Operand.tmp 78) 35, type := 4, pos := "outright.go:84", after := #[{ on := 12, ground := Ground.data }, { on := 17, ground := Ground.data }, { on := 11, ground := Ground.guard }], guard := some (11, false) }) (v := ?vvc18) rfl (by kernel_rfl) (by kernel_rfl) (by kernel_rfl) (fun _ _ _ h => h) (Or.inl ⟨by rfl, ?hyc18⟩) (by assumption) ?restc18
        case hyc18 => (intro w hSw; obtain ⟨s1, s2, s3⟩ := hSw; go_simp; try with_reducible rfl)
        try simp only [Act.put, List.setIfInBounds_toArray, List.set_cons_zero, List.set_cons_succ]
        refine wpAnyH_take (i := 19) (oi := { dst := some 80, op := Op.pick (Operand.tmp 72) (Operand.const (Value.bool true)) (Operand.tmp 79), type := 4, pos := "outright.go:84", after := #[{ on := 11, ground := Ground.data }, { on := 18, ground := Ground.data }], guard := none }) (v := ?vvc19) rfl (by kernel_rfl) (by kernel_rfl) (by kernel_rfl) (fun _ _ _ h => h) (Or.inl ⟨by rfl, ?hyc19⟩) (by assumption) ?restc19
        case hyc19 => (intro w hSw; obtain ⟨s1, s2, s3⟩ := hSw; go_simp; try with_reducible rfl)
        try simp only [Act.put, List.setIfInBounds_toArray, List.set_cons_zero, List.set_cons_succ]
        refine wpAnyH_done (by kernel_rfl) ?_ _
        have HRt := Lib.hid (HRv1.out.below (bD1 V1))
        have KBt := Lib.hid (bThen KB1.out (bD1 V1))
        have RN := R1
        change Exit.then _ _ _ _ V1.drew
        clear hS1 hHeld0 HX1 HQ1 HQ2 hz3
        generalize V1.drew = Wt at *
        have hnn : (g.all.length : Int) + 1 = (gn.all.length : Int) := by have := HNL.out; omega
        have hmd := HMD.out
        go_upto_region 22 with (first
          | (go_at_call 20; ((with_reducible refine (CMY.out _ _ HRv.out).mono ?_); rintro e y5 ⟨rfl, k5⟩; have KB5 := Lib.hid (bThen KBv.out k5); have RI5 := Lib.hid ((RI9.out.below k5).more k5.size); have HR5 := Lib.hid (HRv.out.below k5); clear k5))
          | (go_at_call 22; ((with_reducible refine (CVV.out _ _ HRd2.out).mono ?_); rintro e y4 ⟨A9, c9, rfl, r9, k4⟩; have RI9 := Lib.hid r9; have KBv := Lib.hid (bThen KBd.out k4); have HRv := Lib.hid (HRd2.out.below k4); clear k4 r9))
          | (go_at_call 18; ((with_reducible refine (CDY.out _ _ HRm2.out).mono ?_); rintro e y3 ⟨rfl, k3⟩; have KBd := Lib.hid (bThen KBm2.out k3); have HRd2 := Lib.hid (HRm2.out.below k3); clear k3))
          | (go_at_call 20; ((with_reducible refine (CMY.out _ _ HRm1.out).mono ?_); rintro e y2 ⟨rfl, k2⟩; have KBm2 := Lib.hid (bThen KBm1.out k2); have HRm2 := Lib.hid (HRm1.out.below k2); clear k2))
          | (go_at_call 20; ((with_reducible refine (CMY.out _ _ HRt.out).mono ?_); rintro e y1 ⟨rfl, k1⟩; have KBm1 := Lib.hid (bThen KBt.out k1); have HRm1 := Lib.hid (HRt.out.below k1); clear k1)))
        have HRI := Lib.hid RI5.out
        have HR5b := Lib.hid HR5.out
        have KB5b := Lib.hid KB5.out
        obtain ⟨Wz, hWz⟩ : ∃ z, y5 = z := ⟨_, rfl⟩
        go_wp2
        go_loopw [15] (fun jj wq => ∃ j : Nat, jj = .int .i64 ((j : Int) + 1) ∧ Below y5.heap.size y5 wq) (fun jj _ => m + 2 - (intOf jj).toNat)
        case atStart => exact ⟨0, by simp, Below.refl _ _⟩
        case round =>
          obtain ⟨j, rfl, hKj⟩ := hrel
          by_cases hjm : j + 1 < m
          · obtain ⟨b9, off9, rfl, hb9, hc9⟩ := ((HRI.out.below hKj)).at_ (by rw [HML.out]; omega)
            have hj1 : j + 1 < (vers gn).length := by rw [HML.out]; exact hjm
            have y1' := hc9 _ _ (List.getElem?_eq_getElem hj1)
            have y0' := hc9 _ _ (List.getElem?_eq_getElem (show j < (vers gn).length by omega))
            have hlt9 := vers_up HASC.out hj1
            have i9 : (j : Int) + 1 < (m : Int) := by omega
            have i10 : (j : Int) ≤ 100000 := by have := HMB.out; omega
            generalize (vers gn)[j + 1] = za at *
            generalize (vers gn)[j] = zb at *
            have n9 : ¬ za ≤ zb := by omega
            have HKj := Lib.hid hKj
            clear hKj hc9 hj1
            go_wp2
            go_quiet (fail)
            go_wp2
            go_roundw
            case rel => exact ⟨j + 1, by go_num, bDrew HKj.out _⟩
            case measure => simp [intOf]; omega
          · have i9 : ¬ (j : Int) + 1 < (m : Int) := by omega
            go_wp2
            go_roundw
            case rel => exact ⟨k + 1, gn, R1, by simp, by go_num, by omega, HR5b.out.below hKj, HLN.out, bThen KB5b.out hKj, HASC.out, HSZ.out⟩
            case measure => simp [intOf]; omega
    · obtain rfl : k = l.length := by omega
      have i1 : ¬ (l.length : Int) < l.length := by omega
      go_wp2
      go_ret
      exact ⟨rfl, hK⟩
end Go.Proofs.Ytecdcfmbhphagaa.BX
