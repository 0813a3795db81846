/-
  WALK: the law RingSteady.
-/
import Derived.Test.YtecdcfmbhphagaaBActs
namespace Go.Proofs.Ytecdcfmbhphagaa.BX
open Go.RowKit HL
open IX (ptr El cellsK cellsK_at cellsK_len OwnK RdK Kept)
set_option maxRecDepth 100000
set_option linter.unusedVariables false
set_option linter.unusedSimpArgs false

theorem put_facts {g : Rg} {v : Int} {e : En} (h : putB g v e = true) (hi : isL g = true) : lastV g < v := by
  rw [put_parts] at h
  simp only [Bool.and_eq_true, followsB, hi, Bool.not_true, Bool.false_or, decide_eq_true_eq] at h
  exact h.1.1.2.2
theorem last_put {g : Rg} {v : Int} {e : En} (h : putB g v e = true) : lastV (putG g v e) = v ∧ lastE (putG g v e) = e ∧ isL (putG g v e) = true := by
  rw [(put_yes h).2]
  exact last_snoc (g := ⟨g.h, g.size, g.all ++ [(v, e)]⟩) (x := (v, e)) rfl
theorem steady_step {g : Rg} {v ver : Int} {e E X : En} {f G : Int} (hver : 0 ≤ ver) (h : atR g ver = (E, f)) (hl : ver ≤ lastV g) (hi : isL g = true) (h1 : atR (putG g v e) ver = (X, G)) : G = 160 ∨ (G ≠ 160 ∧ f ≠ 160 ∧ X = E) := by
  have key : atR (putG g v e) ver = atR g ver ∨ (atR (putG g v e) ver).2 = 160 := by
    cases hp : putB g v e with
    | false => left; rw [(put_no hp).2]
    | true =>
      rw [(put_yes hp).2]
      exact at_steady hver (by have := put_facts hp hi; omega)
  rcases key with k | k
  · rw [h1, h] at k
    have kx := (Prod.mk.inj k).1
    have kg := (Prod.mk.inj k).2
    by_cases q : G = 160
    · exact .inl q
    · exact .inr ⟨q, by rw [← kg]; exact q, kx⟩
  · rw [h1] at k; exact .inl k
theorem last_mono {g : Rg} {v ver : Int} {e : En} (hl : ver ≤ lastV g) (hi : isL g = true) : ver ≤ lastV (putG g v e) ∧ isL (putG g v e) = true := by
  cases hp : putB g v e with
  | false => rw [(put_no hp).2]; exact ⟨hl, hi⟩
  | true =>
    have := put_facts hp hi
    obtain ⟨a, _, c⟩ := last_put hp
    exact ⟨by rw [a]; omega, c⟩
set_option maxHeartbeats 8000000 in
theorem steady_main (h : ByteArray) (s : Nat) {A : Option Addr} (c : Nat) (l : List Act) (ver : Int) (w : World) (hr : RdK actK w w.heap.size A l) (hh : h.size ≤ 60) (hl : l.length ≤ 100) (hv : 0 ≤ ver) (hb : newB h s = true) :
    Calls Try.prog 8 #[.string h, .int .i64 s, .slice A l.length c, .int .i64 ver] w fun e w' => e = .returned (.bool true) ∧ Below w.heap.size w w' := by
  have AW := Lib.hid (awake_any w)
  have NW := Lib.hid (fun W => new_yes h s W hb)
  have hv0 : ¬ ver < 0 := by omega
  have HR := Lib.hid hr
  clear hr
  go_enter Try.func8, Try.ntmps8
  go_upto_region 9 with (first
    | (go_at_call 25; ((with_reducible refine AW.out.mono ?_); rintro e wa ⟨rfl, ka⟩; have KA := Lib.hid ka; clear ka))
    | (go_at_call 10; ((with_reducible refine (NW.out _).mono ?_); rintro e wn ⟨rfl, rn, kn⟩; have HRn := Lib.hid rn; have KN := Lib.hid (bThen KA.out kn); have hBb : wa.heap.size < wn.heap.size := rn.lt; clear rn kn)))
  change Code.wp _ _ _ _ (wn.alloc (.cells (enC zeroEn) 35))
  have N0 := AtC.new wn (enC zeroEn) 35
  have K0 := bAl KN.out (.cells (enC zeroEn) 35)
  have R0 := HRn.out.below (bAl (Below.refl _ _) (.cells (enC zeroEn) 35))
  have hBw := KA.out.size
  generalize wn.alloc (.cells (enC zeroEn) 35) = W0 at *
  have hbw : w.heap.size ≤ wn.heap.size := by omega
  clear HRn KN AW NW KA
  generalize hb2 : wn.heap.size = bw at *
  generalize hB2 : wa.heap.size = B at *
  clear hb2 hB2
  go_wp2
  go_loopw [12, 13, 14] (fun f fx i wr => ∃ (k : Nat) (g : Rg) (R : List (Int × En)) (E : En) (fv : Int) (fb : Bool), f = .int .i64 fv ∧ fx = .bool fb ∧ i = .int .i64 k ∧ k ≤ l.length ∧ RgAt wr B g R ∧ g.all.length ≤ k ∧ AtC wr bw (enC E) ∧ Below w.heap.size w wr ∧ (fb = true → atR g ver = (E, fv) ∧ ver ≤ lastV g ∧ isL g = true)) (fun f fx i _ => l.length - (intOf i).toNat)
  case atStart => exact ⟨0, newG h s, noRows, zeroEn, 0, false, rfl, rfl, rfl, Nat.zero_le _, R0, Nat.zero_le _, N0, K0, fun q => by cases q⟩
  case round =>
    obtain ⟨k, g, R, E, fv, fb, rfl, rfl, rfl, hk, hRg, hgl, hW, hK, hfb⟩ := hrel
    clear N0 K0 R0
    by_cases hlt : k < l.length
    · obtain ⟨b, off, rfl, hbl, hc⟩ := acts_at (HR.out.below hK) (by omega)
      obtain ⟨q1, q2, q3⟩ := hc _ _ (List.getElem?_eq_getElem hlt)
      have i1 : (k : Int) < l.length := by omega
      obtain ⟨x, hx⟩ : ∃ x, l[k] = x := ⟨_, rfl⟩
      rw [hx] at q1 q2
      clear hx q3 hc
      obtain ⟨CA, vA, cA, sA, lA, oA, zA⟩ := en_opq x.e
      have PUT := Lib.hid (fun W R (q : RgAt W B g R) => put_any x.v x.e W q (by omega))
      rw [vA] at PUT
      rw [cA] at q2
      obtain ⟨pv, hpv⟩ : ∃ p, putE g x.v x.e = p := ⟨_, rfl⟩
      rw [hpv] at PUT
      clear vA hpv cA sA oA zA
      have hSp : ∀ w', Kept wr.drew w' (· ≠ B) → w'.cell? ⟨b, off + k * 20, none⟩ = some (.int .i64 x.v) ∧ Hid (w'.rangeAt b (off + k * 20 + 1) CA.toList) := fun w' q => ⟨(World.cell?_of_block (a := ⟨b, off + k * 20, none⟩) (q.block b (by show b < wr.heap.size; have := hK.size; omega) (show b ≠ B by omega))).trans q1, Lib.hid (fun j v hv => (World.cell?_of_block (a := ⟨b, off + k * 20 + 1 + j, none⟩) (q.block b (by show b < wr.heap.size; have := hK.size; omega) (show b ≠ B by omega))).trans (q2 j v hv))⟩
      have hS0 := hSp wr.drew (Kept.refl _ _)
      have HRd := Lib.hid (hRg.below (bD1 wr))
      have HWd := Lib.hid (hW.drew1)
      have KD := Lib.hid (bThen hK (bD1 wr))
      have hsz : wr.drew.heap.size = wr.heap.size := rfl
      have hFB := Lib.hid hfb
      have hl1 := putG_len g x.v x.e
      have HLN : Hid ((putG g x.v x.e).all.length ≤ k + 1) := Lib.hid (by omega)
      clear q1 q2 hRg hW hK hfb hl1
      go_wp2
      refine wp_region_held_drew (S := fun w' => w'.cell? ⟨b, off + k * 20, none⟩ = some (.int .i64 x.v) ∧ Hid (w'.rangeAt b (off + k * 20 + 1) CA.toList)) (by kernel_rfl) hS0 (fun hHeld0 => ?_)
      refine wpAnyH_take (i := 0) (oi := { dst := some 48, op := Op.move (Operand.tmp 9), type := 23, pos := "outright.go:120", after := #[], guard := none }) (v := ?vvq0) rfl (by kernel_rfl) (by kernel_rfl) (by kernel_rfl) (fun _ _ _ h => h) (Or.inl ⟨by rfl, ?hyq0⟩) (by assumption) ?restq0
      case hyq0 => (intro w hSw; obtain ⟨s1, s2⟩ := hSw; go_simp; try with_reducible rfl)
      try simp only [Act.put, List.setIfInBounds_toArray, List.set_cons_zero, List.set_cons_succ]
      refine wpAnyH_take (i := 1) (oi := { dst := some 49, op := Op.move (Operand.tmp 2), type := 22, pos := "outright.go:120", after := #[], guard := none }) (v := ?vvq1) rfl (by kernel_rfl) (by kernel_rfl) (by kernel_rfl) (fun _ _ _ h => h) (Or.inl ⟨by rfl, ?hyq1⟩) (by assumption) ?restq1
      case hyq1 => (intro w hSw; obtain ⟨s1, s2⟩ := hSw; go_simp; try with_reducible rfl)
      try simp only [Act.put, List.setIfInBounds_toArray, List.set_cons_zero, List.set_cons_succ]
      refine wpAnyH_take (i := 2) (oi := { dst := some 50, op := Op.move (Operand.tmp 14), type := 3, pos := "outright.go:120", after := #[], guard := none }) (v := ?vvq2) rfl (by kernel_rfl) (by kernel_rfl) (by kernel_rfl) (fun _ _ _ h => h) (Or.inl ⟨by rfl, ?hyq2⟩) (by assumption) ?restq2
      case hyq2 => (intro w hSw; obtain ⟨s1, s2⟩ := hSw; go_simp; try with_reducible rfl)
      try simp only [Act.put, List.setIfInBounds_toArray, List.set_cons_zero, List.set_cons_succ]
      refine wpAnyH_take (i := 3) (oi := { dst := some 51, op := Op.indexAddr 22 (Operand.tmp 49) (Operand.tmp 50), type := 0, pos := "outright.go:120", after := #[{ on := 1, ground := Ground.data }, { on := 2, ground := Ground.data }], guard := none }) (v := ?vvq3) rfl (by kernel_rfl) (by kernel_rfl) (by kernel_rfl) (fun _ _ _ h => h) (Or.inl ⟨by rfl, ?hyq3⟩) (by assumption) ?restq3
      case hyq3 => (intro w hSw; obtain ⟨s1, s2⟩ := hSw; go_simp; try with_reducible rfl)
      try simp only [Act.put, List.setIfInBounds_toArray, List.set_cons_zero, List.set_cons_succ]
      refine wpAnyH_take (i := 4) (oi := { dst := some 52, op := Op.fieldAddr 37 (Operand.tmp 51) 0, type := 0, pos := "outright.go:120", after := #[{ on := 3, ground := Ground.data }], guard := none }) (v := ?vvq4) rfl (by kernel_rfl) (by kernel_rfl) (by kernel_rfl) (fun _ _ _ h => h) (Or.inl ⟨by rfl, ?hyq4⟩) (by assumption) ?restq4
      case hyq4 => (intro w hSw; obtain ⟨s1, s2⟩ := hSw; go_simp; try with_reducible rfl)
      try simp only [Act.put, List.setIfInBounds_toArray, List.set_cons_zero, List.set_cons_succ]
      refine wpAnyH_take (i := 5) (oi := { dst := some 53, op := Op.load 3 (Operand.tmp 52), type := 3, pos := "outright.go:120", after := #[{ on := 4, ground := Ground.data }], guard := none }) (v := ?vvq5) rfl (by kernel_rfl) (by kernel_rfl) (by kernel_rfl) (fun _ _ _ h => h) (Or.inl ⟨by rfl, ?hyq5⟩) (by assumption) ?restq5
      case hyq5 => (intro w hSw; obtain ⟨s1, s2⟩ := hSw; go_simp; try with_reducible rfl)
      try simp only [Act.put, List.setIfInBounds_toArray, List.set_cons_zero, List.set_cons_succ]
      refine wpAnyH_take (i := 6) (oi := { dst := some 54, op := Op.move (Operand.tmp 2), type := 22, pos := "outright.go:120", after := #[], guard := none }) (v := ?vvq6) rfl (by kernel_rfl) (by kernel_rfl) (by kernel_rfl) (fun _ _ _ h => h) (Or.inl ⟨by rfl, ?hyq6⟩) (by assumption) ?restq6
      case hyq6 => (intro w hSw; obtain ⟨s1, s2⟩ := hSw; go_simp; try with_reducible rfl)
      try simp only [Act.put, List.setIfInBounds_toArray, List.set_cons_zero, List.set_cons_succ]
      refine wpAnyH_take (i := 7) (oi := { dst := some 55, op := Op.move (Operand.tmp 14), type := 3, pos := "outright.go:120", after := #[], guard := none }) (v := ?vvq7) rfl (by kernel_rfl) (by kernel_rfl) (by kernel_rfl) (fun _ _ _ h => h) (Or.inl ⟨by rfl, ?hyq7⟩) (by assumption) ?restq7
      case hyq7 => (intro w hSw; obtain ⟨s1, s2⟩ := hSw; go_simp; try with_reducible rfl)
      try simp only [Act.put, List.setIfInBounds_toArray, List.set_cons_zero, List.set_cons_succ]
      refine wpAnyH_take (i := 8) (oi := { dst := some 56, op := Op.indexAddr 22 (Operand.tmp 54) (Operand.tmp 55), type := 0, pos := "outright.go:120", after := #[{ on := 6, ground := Ground.data }, { on := 7, ground := Ground.data }], guard := none }) (v := ?vvq8) rfl (by kernel_rfl) (by kernel_rfl) (by kernel_rfl) (fun _ _ _ h => h) (Or.inl ⟨by rfl, ?hyq8⟩) (by assumption) ?restq8
      case hyq8 => (intro w hSw; obtain ⟨s1, s2⟩ := hSw; go_simp; try with_reducible rfl)
      try simp only [Act.put, List.setIfInBounds_toArray, List.set_cons_zero, List.set_cons_succ]
      refine wpAnyH_take (i := 9) (oi := { dst := some 57, op := Op.fieldAddr 37 (Operand.tmp 56) 1, type := 0, pos := "outright.go:120", after := #[{ on := 8, ground := Ground.data }], guard := none }) (v := ?vvq9) rfl (by kernel_rfl) (by kernel_rfl) (by kernel_rfl) (fun _ _ _ h => h) (Or.inl ⟨by rfl, ?hyq9⟩) (by assumption) ?restq9
      case hyq9 => (intro w hSw; obtain ⟨s1, s2⟩ := hSw; go_simp; try with_reducible rfl)
      try simp only [Act.put, List.setIfInBounds_toArray, List.set_cons_zero, List.set_cons_succ]
      refine wpAnyH_take (i := 10) (oi := { dst := some 58, op := Op.load 35 (Operand.tmp 57), type := 35, pos := "outright.go:120", after := #[{ on := 9, ground := Ground.data }], guard := none }) (v := .agg CA) rfl (by kernel_rfl) (by kernel_rfl) (by kernel_rfl) (fun _ _ _ h => h) (yieldsIf_load_mid (by rfl) _ _ rfl (b) (off + k * 20 + 1) rfl (CA.toList) _ (fun w h => h.2.out) Try.underlying35 rfl lA) (by assumption) ?_
      try simp only [Act.put, List.setIfInBounds_toArray, List.set_cons_zero, List.set_cons_succ]
      refine wpAnyH_ready (rs := [11]) (by kernel_rfl) (by simp) ?_
      refine AllReadyH.cons (o := { dst := some 59, op := Op.call { callee := Callee.value (Operand.func 14), args := #[Operand.tmp 48, Operand.tmp 53, Operand.tmp 58], argTypes := #[23, 3, 35] }, type := 24, pos := "outright.go:120", after := #[{ on := 0, ground := Ground.data }, { on := 5, ground := Ground.data }, { on := 10, ground := Ground.data }], guard := none }) rfl (fun K hK => ?_) AllReadyH.nil
      go_simp
      refine (PUT.out _ _ HRd.out).mono ?_
      rintro e w1 ⟨rfl, ⟨R1, r1⟩, k1⟩
      go_wp2_with fail
      have HR1 := Lib.hid r1
      have KP := Lib.hid k1
      clear r1
      refine hK.out _ _ (hSp _ k1) (fun hHeld1 => ?_)
      clear hK K
      try simp only [Act.put, List.setIfInBounds_toArray, List.set_cons_zero, List.set_cons_succ]
      refine wpAnyH_done (by kernel_rfl) ?_ _
      have HW := Lib.hid (atC_kept HWd.out KP.out (show bw ≠ B by omega))
      have K1 := Lib.hid (belowK KD.out KP.out (by omega))
      clear HWd KD KP hSp hS0 hHeld0 hHeld1 HRd PUT
      obtain ⟨⟨X, G⟩, hXG⟩ : ∃ p, atR (putG g x.v x.e) ver = p := ⟨_, rfl⟩
      have HXG := Lib.hid hXG
      have CAT := Lib.hid (fun W (q : RgAt W B (putG g x.v x.e) R1) => at_any ver W q (by have := HLN.out; omega) hv)
      have CLA := Lib.hid (fun W (q : RgAt W B (putG g x.v x.e) R1) => last_any W q (by have := HLN.out; omega))
      rw [hXG] at CAT
      obtain ⟨CX, vX, cX, sX, tX, oX, zX⟩ := en_opq X
      obtain ⟨CE, vE, cE, sE, tE, oE, zE⟩ := en_opq E
      obtain ⟨CL, vL, cL, sL, tL, oL, zL⟩ := en_opq (lastE (putG g x.v x.e))
      simp only [vX] at CAT
      simp only [vL] at CLA
      rw [cE] at HW
      have HVX := Lib.hid vX
      have HVE := Lib.hid vE
      have HCX := Lib.hid cX
      have HCE := Lib.hid cE
      have HZX := Lib.hid zX
      have HZE := Lib.hid zE
      have HZL := Lib.hid zL
      clear vL cL vX vE hXG cX cE zX zE zL
      go_upto_region 16 with (first
        | (go_at_call 23; ((with_reducible refine (CAT.out _ HR1.out).mono ?_); rintro e u1 ⟨rfl, k1⟩; have KU1 := Lib.hid (bThen K1.out k1); have L1 := laid_var (C := CX) KU1.out HZX.out; have HX1 := Lib.hid L1.1; have HW1 := Lib.hid ((HW.out.then k1).then L1.2.1); have HRv1 := Lib.hid ((HR1.out.below k1).below L1.2.1); have KB1 := Lib.hid (bThen KU1.out L1.2.1); have HT1 := Lib.hid L1.2.2; clear k1 L1))
        | ((with_reducible show wpList _ _ _ ({ dst := none, op := Op.store 35 _ _, type := _, pos := _, after := _, guard := _ } :: _) _ _); (refine wpList_store_mid rfl _ _ _ rfl u1.heap.size 0 CX rfl rfl HT1.out sX oX ?_); change wpList _ _ _ _ _ ((u1.alloc (.cells (enC zeroEn) 35)).setCells u1.heap.size 0 CX.toList); generalize ((u1.alloc (.cells (enC zeroEn) 35)).setCells u1.heap.size 0 CX.toList) = V1 at *))
      cases fb with
      | false =>
        by_cases hil : isL (putG g x.v x.e) = true
        · by_cases hge : ver ≤ lastV (putG g x.v x.e)
          · rw [hil] at CLA
            go_upto_region 20 with (first
              | (go_at_call 16; ((with_reducible refine (CLA.out _ HRv1.out).mono ?_); rintro e u2 ⟨rfl, k2⟩; have KU2 := Lib.hid (bThen KB1.out k2); have L2 := laid_var (C := CL) KU2.out HZL.out; have HX1 := Lib.hid ((HX1.out.then k2).then L2.2.1); have HW1 := Lib.hid ((HW1.out.then k2).then L2.2.1); have HRv2 := Lib.hid ((HRv1.out.below k2).below L2.2.1); have KB2 := Lib.hid (bThen KU2.out L2.2.1); have HT2 := Lib.hid L2.2.2; clear k2 L2))
              | ((with_reducible show wpList _ _ _ ({ dst := none, op := Op.store 35 _ _, type := _, pos := _, after := _, guard := _ } :: _) _ _); (refine wpList_store_mid rfl _ _ _ rfl u2.heap.size 0 CL rfl rfl HT2.out sL oL ?_); change wpList _ _ _ _ _ ((u2.alloc (.cells (enC zeroEn) 35)).setCells u2.heap.size 0 CL.toList); generalize ((u2.alloc (.cells (enC zeroEn) 35)).setCells u2.heap.size 0 CL.toList) = V2 at *))
            have hxr := range_at HX1.out
            have hwt : V2.there bw 0 CX.size := by rw [← HZX.out, HZE.out]; exact there_at (C := CE) HW1.out
            have HN := Lib.hid (set_at (C := CX) HW1.out (by rw [← HZE.out, HZX.out]))
            have HNK := Lib.hid (set_kept (W := V2) (B := bw) CX)
            have HNB := Lib.hid (belowK KB2.out HNK.out hbw)
            have HRv3 := Lib.hid (HRv2.out.keep HNK.out (show B ≠ bw by omega))
            go_wp2_with (first
              | ((with_reducible show wpList _ _ _ ({ dst := some 92, op := _, type := _, pos := _, after := _, guard := _ } :: _) _ _); (refine wpList_load_mid rfl _ _ rfl u1.heap.size 0 rfl CX.toList _ hxr Try.underlying35 rfl tX ?_))
              | ((with_reducible show wpList _ _ _ ({ dst := none, op := Op.store 35 _ _, type := _, pos := _, after := _, guard := _ } :: _) _ _); (refine wpList_store_mid rfl _ _ _ rfl bw 0 CX rfl rfl hwt sX oX ?_)))
            generalize V2.setCells bw 0 CX.toList = V3 at *
            go_roundw
            case rel => exact ⟨k + 1, putG g x.v x.e, R1, X, _, true, rfl, rfl, by go_num, by omega, HRv3.out, HLN.out, by rw [HCX.out]; exact HN.out, HNB.out, fun _ => ⟨HXG.out, hge, hil⟩⟩
            case measure => simp [intOf]; omega
          · rw [hil] at CLA
            have hlt2 : lastV (putG g x.v x.e) < ver := by omega
            have hge2 : ¬ ver ≤ lastV (putG g x.v x.e) := hge
            go_wp2_with (first
              | (go_at_call 16; ((with_reducible refine (CLA.out _ HRv1.out).mono ?_); rintro e u2 ⟨rfl, k2⟩; have KU2 := Lib.hid (bThen KB1.out k2); have L2 := laid_var (C := CL) KU2.out HZL.out; have HX1 := Lib.hid ((HX1.out.then k2).then L2.2.1); have HW1 := Lib.hid ((HW1.out.then k2).then L2.2.1); have HRv2 := Lib.hid ((HRv1.out.below k2).below L2.2.1); have KB2 := Lib.hid (bThen KU2.out L2.2.1); have HT2 := Lib.hid L2.2.2; clear k2 L2))
              | ((with_reducible show wpList _ _ _ ({ dst := none, op := Op.store 35 _ _, type := _, pos := _, after := _, guard := _ } :: _) _ _); (refine wpList_store_mid rfl _ _ _ rfl u2.heap.size 0 CL rfl rfl HT2.out sL oL ?_); change wpList _ _ _ _ _ ((u2.alloc (.cells (enC zeroEn) 35)).setCells u2.heap.size 0 CL.toList); generalize ((u2.alloc (.cells (enC zeroEn) 35)).setCells u2.heap.size 0 CL.toList) = V2 at *))
            go_roundw
            case rel => exact ⟨k + 1, putG g x.v x.e, R1, E, fv, false, rfl, rfl, by go_num, by omega, HRv2.out, HLN.out, by rw [HCE.out]; exact HW1.out, KB2.out, fun q => by cases q⟩
            case measure => simp [intOf]; omega
        · have hil0 : isL (putG g x.v x.e) = false := by simpa using hil
          rw [hil0] at CLA
          go_wp2_with (first
            | (go_at_call 16; ((with_reducible refine (CLA.out _ HRv1.out).mono ?_); rintro e u2 ⟨rfl, k2⟩; have KU2 := Lib.hid (bThen KB1.out k2); have L2 := laid_var (C := CL) KU2.out HZL.out; have HX1 := Lib.hid ((HX1.out.then k2).then L2.2.1); have HW1 := Lib.hid ((HW1.out.then k2).then L2.2.1); have HRv2 := Lib.hid ((HRv1.out.below k2).below L2.2.1); have KB2 := Lib.hid (bThen KU2.out L2.2.1); have HT2 := Lib.hid L2.2.2; clear k2 L2))
            | ((with_reducible show wpList _ _ _ ({ dst := none, op := Op.store 35 _ _, type := _, pos := _, after := _, guard := _ } :: _) _ _); (refine wpList_store_mid rfl _ _ _ rfl u2.heap.size 0 CL rfl rfl HT2.out sL oL ?_); change wpList _ _ _ _ _ ((u2.alloc (.cells (enC zeroEn) 35)).setCells u2.heap.size 0 CL.toList); generalize ((u2.alloc (.cells (enC zeroEn) 35)).setCells u2.heap.size 0 CL.toList) = V2 at *))
          go_roundw
          case rel => exact ⟨k + 1, putG g x.v x.e, R1, E, fv, false, rfl, rfl, by go_num, by omega, HRv2.out, HLN.out, by rw [HCE.out]; exact HW1.out, KB2.out, fun q => by cases q⟩
          case measure => simp [intOf]; omega
      | true =>
        obtain ⟨hat, hge0, hil0⟩ := hFB.out rfl
        obtain ⟨hge, hil⟩ := last_mono (v := x.v) (e := x.e) hge0 hil0
        rw [hil] at CLA
        have hst := steady_step (v := x.v) (e := x.e) hv hat hge0 hil0 HXG.out
        rcases hst with rfl | ⟨hG, hf, rfl⟩
        · clear hat
          go_upto_region 20 with (first
            | (go_at_call 16; ((with_reducible refine (CLA.out _ HRv1.out).mono ?_); rintro e u2 ⟨rfl, k2⟩; have KU2 := Lib.hid (bThen KB1.out k2); have L2 := laid_var (C := CL) KU2.out HZL.out; have HX1 := Lib.hid ((HX1.out.then k2).then L2.2.1); have HW1 := Lib.hid ((HW1.out.then k2).then L2.2.1); have HRv2 := Lib.hid ((HRv1.out.below k2).below L2.2.1); have KB2 := Lib.hid (bThen KU2.out L2.2.1); have HT2 := Lib.hid L2.2.2; clear k2 L2))
            | ((with_reducible show wpList _ _ _ ({ dst := none, op := Op.store 35 _ _, type := _, pos := _, after := _, guard := _ } :: _) _ _); (refine wpList_store_mid rfl _ _ _ rfl u2.heap.size 0 CL rfl rfl HT2.out sL oL ?_); change wpList _ _ _ _ _ ((u2.alloc (.cells (enC zeroEn) 35)).setCells u2.heap.size 0 CL.toList); generalize ((u2.alloc (.cells (enC zeroEn) 35)).setCells u2.heap.size 0 CL.toList) = V2 at *))
          have hxr := range_at HX1.out
          have hwt : V2.there bw 0 CX.size := by rw [← HZX.out, HZE.out]; exact there_at (C := CE) HW1.out
          have HN := Lib.hid (set_at (C := CX) HW1.out (by rw [← HZE.out, HZX.out]))
          have HNK := Lib.hid (set_kept (W := V2) (B := bw) CX)
          have HNB := Lib.hid (belowK KB2.out HNK.out hbw)
          have HRv3 := Lib.hid (HRv2.out.keep HNK.out (show B ≠ bw by omega))
          go_wp2_with (first
            | ((with_reducible show wpList _ _ _ ({ dst := some 92, op := _, type := _, pos := _, after := _, guard := _ } :: _) _ _); (refine wpList_load_mid rfl _ _ rfl u1.heap.size 0 rfl CX.toList _ hxr Try.underlying35 rfl tX ?_))
            | ((with_reducible show wpList _ _ _ ({ dst := none, op := Op.store 35 _ _, type := _, pos := _, after := _, guard := _ } :: _) _ _); (refine wpList_store_mid rfl _ _ _ rfl bw 0 CX rfl rfl hwt sX oX ?_)))
          generalize V2.setCells bw 0 CX.toList = V3 at *
          go_roundw
          case rel => exact ⟨k + 1, putG g x.v x.e, R1, X, _, true, rfl, rfl, by go_num, by omega, HRv3.out, HLN.out, by rw [HCX.out]; exact HN.out, HNB.out, fun _ => ⟨HXG.out, hge, hil⟩⟩
          case measure => simp [intOf]; omega
        · have e1 : CX = CE := by
            have := HVX.out.symm.trans HVE.out
            injection this
          have hEq := eq_known HVE.out
          subst e1
          have hf3 : (fv == 160) = false := by simp [hf]
          have hf4 : decide (fv = 160) = false := by simp [hf]
          have hG3 : (G == 160) = false := by simp [hG]
          have hG4 : decide (G = 160) = false := by simp [hG]
          have hxr0 := range_at HX1.out
          have hwr0 := range_at HW1.out
          clear hat
          go_upto_region 18 with (first
            | ((show wpList _ _ _ ({ dst := some 75, op := _, type := _, pos := _, after := _, guard := _ } :: _) _ _); (refine wpList_load_g (by rfl) _ _ rfl u1.heap.size 0 rfl CX.toList _ hxr0 Try.underlying35 rfl tX ?_))
            | ((show wpList _ _ _ ({ dst := some 76, op := _, type := _, pos := _, after := _, guard := _ } :: _) _ _); (refine wpList_load_g (by rfl) _ _ rfl bw 0 rfl CX.toList _ hwr0 Try.underlying35 rfl tX ?_)))
          have HZE := HZX
          go_upto_region 20 with (first
            | (go_at_call 16; ((with_reducible refine (CLA.out _ HRv1.out).mono ?_); rintro e u2 ⟨rfl, k2⟩; have KU2 := Lib.hid (bThen KB1.out k2); have L2 := laid_var (C := CL) KU2.out HZL.out; have HX1 := Lib.hid ((HX1.out.then k2).then L2.2.1); have HW1 := Lib.hid ((HW1.out.then k2).then L2.2.1); have HRv2 := Lib.hid ((HRv1.out.below k2).below L2.2.1); have KB2 := Lib.hid (bThen KU2.out L2.2.1); have HT2 := Lib.hid L2.2.2; clear k2 L2))
            | ((with_reducible show wpList _ _ _ ({ dst := none, op := Op.store 35 _ _, type := _, pos := _, after := _, guard := _ } :: _) _ _); (refine wpList_store_mid rfl _ _ _ rfl u2.heap.size 0 CL rfl rfl HT2.out sL oL ?_); change wpList _ _ _ _ _ ((u2.alloc (.cells (enC zeroEn) 35)).setCells u2.heap.size 0 CL.toList); generalize ((u2.alloc (.cells (enC zeroEn) 35)).setCells u2.heap.size 0 CL.toList) = V2 at *))
          have hxr := range_at HX1.out
          have hwt : V2.there bw 0 CX.size := by rw [← HZX.out, HZE.out]; exact there_at (C := CX) HW1.out
          have HN := Lib.hid (set_at (C := CX) HW1.out (by rw [← HZE.out, HZX.out]))
          have HNK := Lib.hid (set_kept (W := V2) (B := bw) CX)
          have HNB := Lib.hid (belowK KB2.out HNK.out hbw)
          have HRv3 := Lib.hid (HRv2.out.keep HNK.out (show B ≠ bw by omega))
          go_wp2_with (first
            | ((with_reducible show wpList _ _ _ ({ dst := some 92, op := _, type := _, pos := _, after := _, guard := _ } :: _) _ _); (refine wpList_load_mid rfl _ _ rfl u1.heap.size 0 rfl CX.toList _ hxr Try.underlying35 rfl tX ?_))
            | ((with_reducible show wpList _ _ _ ({ dst := none, op := Op.store 35 _ _, type := _, pos := _, after := _, guard := _ } :: _) _ _); (refine wpList_store_mid rfl _ _ _ rfl bw 0 CX rfl rfl hwt sX oX ?_)))
          generalize V2.setCells bw 0 CX.toList = V3 at *
          go_roundw
          case rel => exact ⟨k + 1, putG g x.v x.e, R1, X, _, true, rfl, rfl, by go_num, by omega, HRv3.out, HLN.out, by rw [HCX.out]; exact HN.out, HNB.out, fun _ => ⟨HXG.out, hge, hil⟩⟩
          case measure => simp [intOf]; omega
    · obtain rfl : k = l.length := by omega
      have i1 : ¬ (l.length : Int) < l.length := by omega
      go_wp2
      go_ret
      exact ⟨rfl, hK⟩
end Go.Proofs.Ytecdcfmbhphagaa.BX
