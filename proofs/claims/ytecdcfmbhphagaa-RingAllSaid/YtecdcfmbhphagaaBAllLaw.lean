/-
  WALK: the law RingAll.
-/
import Derived.Test.YtecdcfmbhphagaaBAllM
namespace Go.Proofs.Ytecdcfmbhphagaa.BX
open Go.RowKit HL
open IX (ptr El cellsK cellsK_at cellsK_len OwnK RdK Kept step_spreadK)
set_option maxRecDepth 100000
set_option linter.unusedVariables false
set_option linter.unusedSimpArgs false

set_option maxHeartbeats 8000000 in
theorem all_main (h : ByteArray) (s : Nat) {A : Option Addr} (c : Nat) (l : List Act) (ver : Int) (w : World) (hr : RdK actK w w.heap.size A l) (hh : h.size ≤ 60) (hl : l.length ≤ 100) (hv : 0 ≤ ver) (hb : newB h s = true) :
    Calls Try.prog 6 #[.string h, .int .i64 s, .slice A l.length c, .int .i64 ver] w fun e w' => e = .returned (.bool true) ∧ Below w.heap.size w w' := by
  have AW := Lib.hid (awake_any w)
  have NW := Lib.hid (fun W => new_yes h s W hb)
  have hv0 : ¬ ver < 0 := by omega
  have hs8 : s ≤ 8 := by simp only [newB, Bool.and_eq_true, decide_eq_true_eq] at hb; omega
  have HR := Lib.hid hr
  clear hr
  go_enter Try.func6, Try.ntmps6
  go_upto_region 8 with (first
    | (go_at_call 25; ((with_reducible refine AW.out.mono ?_); rintro e wa ⟨rfl, ka⟩; have KA := Lib.hid ka; clear ka))
    | (go_at_call 10; ((with_reducible refine (NW.out _).mono ?_); rintro e wn ⟨rfl, rn, kn⟩; have HRn := Lib.hid rn; have KN := Lib.hid (bThen KA.out kn); have hBb : wa.heap.size < wn.heap.size := rn.lt; clear rn kn)))
  have hBw := KA.out.size
  clear AW NW KA
  generalize hB2 : wa.heap.size = B at *
  clear hB2
  obtain ⟨base, hbase⟩ : ∃ n, wn.heap.size = n := ⟨_, rfl⟩
  rw [hbase] at hBb
  have HBS := Lib.hid (show base ≤ wn.heap.size by omega)
  clear hbase
  go_wp2
  go_loopw [11, 12] (fun va i wr => ∃ (k : Nat) (g : Rg) (R : List (Int × En)), i = .int .i64 k ∧ k ≤ l.length ∧ RgAt wr B g R ∧ g.all.length ≤ k ∧ OwnK putK wr base va g.all ∧ Below w.heap.size w wr ∧ base ≤ wr.heap.size ∧ g.h = h ∧ g.size = s) (fun va i _ => l.length - (intOf i).toNat)
  case atStart => exact ⟨0, newG h s, noRows, rfl, Nat.zero_le _, HRn.out, Nat.zero_le _, OwnK.nil_ _ _ _, KN.out, HBS.out, rfl, rfl⟩
  case round =>
    obtain ⟨k, g, R, rfl, hk, hRg, hgl, hO, hK, hbz, hgh, hgs⟩ := hrel
    clear HRn KN HBS
    by_cases hlt : k < l.length
    · obtain ⟨b, off, rfl, hbl, hc⟩ := acts_at (HR.out.below hK) (by omega)
      obtain ⟨q1, q2, q3⟩ := hc _ _ (List.getElem?_eq_getElem hlt)
      have i1 : (k : Int) < l.length := by omega
      obtain ⟨x, hx⟩ : ∃ x, l[k] = x := ⟨_, rfl⟩
      rw [hx] at q1 q2
      clear hx q3 hc
      have hbw : b < w.heap.size := by
        rcases HR.out with e | ⟨b', off', e, hb', _⟩
        · rw [e] at hlt; simp at hlt
        · simp at e; rw [e.1]; exact hb'
      obtain ⟨CA, vA, cA, sA, lA, oA, zA⟩ := en_opq x.e
      have PUT := Lib.hid (fun W R (q : RgAt W B g R) => put_any x.v x.e W q (by omega))
      rw [vA] at PUT
      have HQ2 := Lib.hid q2
      rw [cA] at q2
      clear vA cA sA oA zA
      have hSp : ∀ w', Kept wr.drew w' (· ≠ B) → w'.cell? ⟨b, off + k * 20, none⟩ = some (.int .i64 x.v) ∧ Hid (w'.rangeAt b (off + k * 20 + 1) CA.toList) ∧ True := fun w' q => ⟨(World.cell?_of_block (a := ⟨b, off + k * 20, none⟩) (q.block b (by show b < wr.heap.size; have := hK.size; omega) (show b ≠ B by omega))).trans q1, Lib.hid (fun j v hv => (World.cell?_of_block (a := ⟨b, off + k * 20 + 1 + j, none⟩) (q.block b (by show b < wr.heap.size; have := hK.size; omega) (show b ≠ B by omega))).trans (q2 j v hv)), trivial⟩
      have hS0 := hSp wr.drew (Kept.refl _ _)
      have HRd := Lib.hid (hRg.below (bD1 wr))
      have HOd := Lib.hid (hO.below (bD1 wr))
      have HQ1 := Lib.hid q1
      have KD := Lib.hid (bThen hK (bD1 wr))
      have hsz : wr.drew.heap.size = wr.heap.size := rfl
      have hl1 := putG_len g x.v x.e
      have HLN : Hid ((putG g x.v x.e).all.length ≤ k + 1) := Lib.hid (by omega)
      have HH : Hid ((putG g x.v x.e).h = h ∧ (putG g x.v x.e).size = s) := Lib.hid ⟨by rw [putG_h, hgh], by rw [putG_size, hgs]⟩
      have HRW : Hid (b < wr.heap.size) := Lib.hid (by have := hK.size; omega)
      clear q1 q2 hRg hO hK hl1
      cases hp : putB g x.v x.e with
      | false =>
        rw [(put_no hp).1, (put_no hp).2] at PUT
        have HGN := Lib.hid (put_no hp).2
        clear hp
        go_wp2
        refine wp_region_held_drew (S := fun w' => w'.cell? ⟨b, off + k * 20, none⟩ = some (.int .i64 x.v) ∧ Hid (w'.rangeAt b (off + k * 20 + 1) CA.toList) ∧ True) (by kernel_rfl) hS0 (fun hHeld0 => ?_)
        refine wpAnyH_take (i := 0) (oi := { dst := some 46, op := Op.move (Operand.tmp 9), type := 23, pos := "outright.go:50", after := #[], guard := none }) (v := ?vvq0) rfl (by kernel_rfl) (by kernel_rfl) (by kernel_rfl) (fun _ _ _ h => h) (Or.inl ⟨by rfl, ?hyq0⟩) (by assumption) ?restq0
        case hyq0 => (intro w hSw; obtain ⟨s1, s2, s3⟩ := hSw; go_simp; try with_reducible rfl)
        try simp only [Act.put, List.setIfInBounds_toArray, List.set_cons_zero, List.set_cons_succ]
        refine wpAnyH_take (i := 1) (oi := { dst := some 47, op := Op.move (Operand.tmp 2), type := 22, pos := "outright.go:50", after := #[], guard := none }) (v := ?vvq1) rfl (by kernel_rfl) (by kernel_rfl) (by kernel_rfl) (fun _ _ _ h => h) (Or.inl ⟨by rfl, ?hyq1⟩) (by assumption) ?restq1
        case hyq1 => (intro w hSw; obtain ⟨s1, s2, s3⟩ := hSw; go_simp; try with_reducible rfl)
        try simp only [Act.put, List.setIfInBounds_toArray, List.set_cons_zero, List.set_cons_succ]
        refine wpAnyH_take (i := 2) (oi := { dst := some 48, op := Op.move (Operand.tmp 12), type := 3, pos := "outright.go:50", after := #[], guard := none }) (v := ?vvq2) rfl (by kernel_rfl) (by kernel_rfl) (by kernel_rfl) (fun _ _ _ h => h) (Or.inl ⟨by rfl, ?hyq2⟩) (by assumption) ?restq2
        case hyq2 => (intro w hSw; obtain ⟨s1, s2, s3⟩ := hSw; go_simp; try with_reducible rfl)
        try simp only [Act.put, List.setIfInBounds_toArray, List.set_cons_zero, List.set_cons_succ]
        refine wpAnyH_take (i := 3) (oi := { dst := some 49, op := Op.indexAddr 22 (Operand.tmp 47) (Operand.tmp 48), type := 0, pos := "outright.go:50", after := #[{ on := 1, ground := Ground.data }, { on := 2, ground := Ground.data }], guard := none }) (v := ?vvq3) rfl (by kernel_rfl) (by kernel_rfl) (by kernel_rfl) (fun _ _ _ h => h) (Or.inl ⟨by rfl, ?hyq3⟩) (by assumption) ?restq3
        case hyq3 => (intro w hSw; obtain ⟨s1, s2, s3⟩ := hSw; go_simp; try with_reducible rfl)
        try simp only [Act.put, List.setIfInBounds_toArray, List.set_cons_zero, List.set_cons_succ]
        refine wpAnyH_take (i := 4) (oi := { dst := some 50, op := Op.fieldAddr 37 (Operand.tmp 49) 0, type := 0, pos := "outright.go:50", after := #[{ on := 3, ground := Ground.data }], guard := none }) (v := ?vvq4) rfl (by kernel_rfl) (by kernel_rfl) (by kernel_rfl) (fun _ _ _ h => h) (Or.inl ⟨by rfl, ?hyq4⟩) (by assumption) ?restq4
        case hyq4 => (intro w hSw; obtain ⟨s1, s2, s3⟩ := hSw; go_simp; try with_reducible rfl)
        try simp only [Act.put, List.setIfInBounds_toArray, List.set_cons_zero, List.set_cons_succ]
        refine wpAnyH_take (i := 5) (oi := { dst := some 51, op := Op.load 3 (Operand.tmp 50), type := 3, pos := "outright.go:50", after := #[{ on := 4, ground := Ground.data }], guard := none }) (v := ?vvq5) rfl (by kernel_rfl) (by kernel_rfl) (by kernel_rfl) (fun _ _ _ h => h) (Or.inl ⟨by rfl, ?hyq5⟩) (by assumption) ?restq5
        case hyq5 => (intro w hSw; obtain ⟨s1, s2, s3⟩ := hSw; go_simp; try with_reducible rfl)
        try simp only [Act.put, List.setIfInBounds_toArray, List.set_cons_zero, List.set_cons_succ]
        refine wpAnyH_take (i := 6) (oi := { dst := some 52, op := Op.move (Operand.tmp 2), type := 22, pos := "outright.go:50", after := #[], guard := none }) (v := ?vvq6) rfl (by kernel_rfl) (by kernel_rfl) (by kernel_rfl) (fun _ _ _ h => h) (Or.inl ⟨by rfl, ?hyq6⟩) (by assumption) ?restq6
        case hyq6 => (intro w hSw; obtain ⟨s1, s2, s3⟩ := hSw; go_simp; try with_reducible rfl)
        try simp only [Act.put, List.setIfInBounds_toArray, List.set_cons_zero, List.set_cons_succ]
        refine wpAnyH_take (i := 7) (oi := { dst := some 53, op := Op.move (Operand.tmp 12), type := 3, pos := "outright.go:50", after := #[], guard := none }) (v := ?vvq7) rfl (by kernel_rfl) (by kernel_rfl) (by kernel_rfl) (fun _ _ _ h => h) (Or.inl ⟨by rfl, ?hyq7⟩) (by assumption) ?restq7
        case hyq7 => (intro w hSw; obtain ⟨s1, s2, s3⟩ := hSw; go_simp; try with_reducible rfl)
        try simp only [Act.put, List.setIfInBounds_toArray, List.set_cons_zero, List.set_cons_succ]
        refine wpAnyH_take (i := 8) (oi := { dst := some 54, op := Op.indexAddr 22 (Operand.tmp 52) (Operand.tmp 53), type := 0, pos := "outright.go:50", after := #[{ on := 6, ground := Ground.data }, { on := 7, ground := Ground.data }], guard := none }) (v := ?vvq8) rfl (by kernel_rfl) (by kernel_rfl) (by kernel_rfl) (fun _ _ _ h => h) (Or.inl ⟨by rfl, ?hyq8⟩) (by assumption) ?restq8
        case hyq8 => (intro w hSw; obtain ⟨s1, s2, s3⟩ := hSw; go_simp; try with_reducible rfl)
        try simp only [Act.put, List.setIfInBounds_toArray, List.set_cons_zero, List.set_cons_succ]
        refine wpAnyH_take (i := 9) (oi := { dst := some 55, op := Op.fieldAddr 37 (Operand.tmp 54) 1, type := 0, pos := "outright.go:50", after := #[{ on := 8, ground := Ground.data }], guard := none }) (v := ?vvq9) rfl (by kernel_rfl) (by kernel_rfl) (by kernel_rfl) (fun _ _ _ h => h) (Or.inl ⟨by rfl, ?hyq9⟩) (by assumption) ?restq9
        case hyq9 => (intro w hSw; obtain ⟨s1, s2, s3⟩ := hSw; go_simp; try with_reducible rfl)
        try simp only [Act.put, List.setIfInBounds_toArray, List.set_cons_zero, List.set_cons_succ]
        refine wpAnyH_take (i := 10) (oi := { dst := some 56, op := Op.load 35 (Operand.tmp 55), type := 35, pos := "outright.go:50", after := #[{ on := 9, ground := Ground.data }], guard := none }) (v := .agg CA) rfl (by kernel_rfl) (by kernel_rfl) (by kernel_rfl) (fun _ _ _ h => h) (yieldsIf_load_mid (by rfl) _ _ rfl (b) (off + k * 20 + 1) rfl (CA.toList) _ (fun w h => h.2.1.out) Try.underlying35 rfl lA) (by assumption) ?_
        try simp only [Act.put, List.setIfInBounds_toArray, List.set_cons_zero, List.set_cons_succ]
        refine wpAnyH_ready (rs := [11]) (by kernel_rfl) (by simp) ?_
        refine AllReadyH.cons (o := { dst := some 57, op := Op.call { callee := Callee.value (Operand.func 14), args := #[Operand.tmp 46, Operand.tmp 51, Operand.tmp 56], argTypes := #[23, 3, 35] }, type := 24, pos := "outright.go:50", after := #[{ on := 0, ground := Ground.data }, { on := 5, ground := Ground.data }, { on := 10, ground := Ground.data }], guard := none }) rfl (fun K hK => ?_) AllReadyH.nil
        go_simp
        refine (PUT.out _ _ HRd.out).mono ?_
        rintro e w1 ⟨rfl, ⟨R1, r1⟩, k1⟩
        go_wp2_with fail
        have HR1 := Lib.hid r1
        have KP := Lib.hid k1
        clear r1
        refine hK.out _ _ (hSp _ k1) (fun hHeld1 => ?_)
        clear hK K
        try simp only [Act.put, List.setIfInBounds_toArray, List.set_cons_zero, List.set_cons_succ]
        refine wpAnyH_take (i := 12) (oi := { dst := some 58, op := Op.binOp BinOp.eql 24 (Operand.tmp 57) (Operand.const (Value.int IntKind.i64 0)) 24, type := 4, pos := "outright.go:50", after := #[{ on := 11, ground := Ground.data }], guard := none }) (v := ?vvq12) rfl (by kernel_rfl) (by kernel_rfl) (by kernel_rfl) (fun _ _ _ h => h) (Or.inl ⟨by rfl, ?hyq12⟩) (by assumption) ?restq12
        case hyq12 => (intro w hSw; obtain ⟨s1, s2, s3⟩ := hSw; go_simp; try with_reducible rfl)
        try simp only [Act.put, List.setIfInBounds_toArray, List.set_cons_zero, List.set_cons_succ]
        refine wpAnyH_done (by kernel_rfl) ?_ _
        have K1 := Lib.hid (belowK KD.out KP.out (by omega))
        have HO1 := Lib.hid (HOd.out.kept KP.out (fun bb hb => by have := (HOd.out.lt bb hb).1; show bb ≠ B; omega))
        have hz1 := KP.out.size
        clear hS0 hSp hHeld0 hHeld1
        go_wp2
        go_roundw
        case rel => exact ⟨k + 1, g, R1, by go_num, by omega, HR1.out, by omega, HO1.out, K1.out, by omega, hgh, hgs⟩
        case measure => simp [intOf]; omega
      | true =>
        rw [(put_yes hp).1] at PUT
        have HAL : Hid ((putG g x.v x.e).all = g.all ++ [(x.v, x.e)]) := Lib.hid (by rw [(put_yes hp).2])
        clear hp
        go_wp2
        refine wp_region_held_drew (S := fun w' => w'.cell? ⟨b, off + k * 20, none⟩ = some (.int .i64 x.v) ∧ Hid (w'.rangeAt b (off + k * 20 + 1) CA.toList) ∧ True) (by kernel_rfl) hS0 (fun hHeld0 => ?_)
        refine wpAnyH_take (i := 0) (oi := { dst := some 46, op := Op.move (Operand.tmp 9), type := 23, pos := "outright.go:50", after := #[], guard := none }) (v := ?vvt0) rfl (by kernel_rfl) (by kernel_rfl) (by kernel_rfl) (fun _ _ _ h => h) (Or.inl ⟨by rfl, ?hyt0⟩) (by assumption) ?restt0
        case hyt0 => (intro w hSw; obtain ⟨s1, s2, s3⟩ := hSw; go_simp; try with_reducible rfl)
        try simp only [Act.put, List.setIfInBounds_toArray, List.set_cons_zero, List.set_cons_succ]
        refine wpAnyH_take (i := 1) (oi := { dst := some 47, op := Op.move (Operand.tmp 2), type := 22, pos := "outright.go:50", after := #[], guard := none }) (v := ?vvt1) rfl (by kernel_rfl) (by kernel_rfl) (by kernel_rfl) (fun _ _ _ h => h) (Or.inl ⟨by rfl, ?hyt1⟩) (by assumption) ?restt1
        case hyt1 => (intro w hSw; obtain ⟨s1, s2, s3⟩ := hSw; go_simp; try with_reducible rfl)
        try simp only [Act.put, List.setIfInBounds_toArray, List.set_cons_zero, List.set_cons_succ]
        refine wpAnyH_take (i := 2) (oi := { dst := some 48, op := Op.move (Operand.tmp 12), type := 3, pos := "outright.go:50", after := #[], guard := none }) (v := ?vvt2) rfl (by kernel_rfl) (by kernel_rfl) (by kernel_rfl) (fun _ _ _ h => h) (Or.inl ⟨by rfl, ?hyt2⟩) (by assumption) ?restt2
        case hyt2 => (intro w hSw; obtain ⟨s1, s2, s3⟩ := hSw; go_simp; try with_reducible rfl)
        try simp only [Act.put, List.setIfInBounds_toArray, List.set_cons_zero, List.set_cons_succ]
        refine wpAnyH_take (i := 3) (oi := { dst := some 49, op := Op.indexAddr 22 (Operand.tmp 47) (Operand.tmp 48), type := 0, pos := "outright.go:50", after := #[{ on := 1, ground := Ground.data }, { on := 2, ground := Ground.data }], guard := none }) (v := ?vvt3) rfl (by kernel_rfl) (by kernel_rfl) (by kernel_rfl) (fun _ _ _ h => h) (Or.inl ⟨by rfl, ?hyt3⟩) (by assumption) ?restt3
        case hyt3 => (intro w hSw; obtain ⟨s1, s2, s3⟩ := hSw; go_simp; try with_reducible rfl)
        try simp only [Act.put, List.setIfInBounds_toArray, List.set_cons_zero, List.set_cons_succ]
        refine wpAnyH_take (i := 4) (oi := { dst := some 50, op := Op.fieldAddr 37 (Operand.tmp 49) 0, type := 0, pos := "outright.go:50", after := #[{ on := 3, ground := Ground.data }], guard := none }) (v := ?vvt4) rfl (by kernel_rfl) (by kernel_rfl) (by kernel_rfl) (fun _ _ _ h => h) (Or.inl ⟨by rfl, ?hyt4⟩) (by assumption) ?restt4
        case hyt4 => (intro w hSw; obtain ⟨s1, s2, s3⟩ := hSw; go_simp; try with_reducible rfl)
        try simp only [Act.put, List.setIfInBounds_toArray, List.set_cons_zero, List.set_cons_succ]
        refine wpAnyH_take (i := 5) (oi := { dst := some 51, op := Op.load 3 (Operand.tmp 50), type := 3, pos := "outright.go:50", after := #[{ on := 4, ground := Ground.data }], guard := none }) (v := ?vvt5) rfl (by kernel_rfl) (by kernel_rfl) (by kernel_rfl) (fun _ _ _ h => h) (Or.inl ⟨by rfl, ?hyt5⟩) (by assumption) ?restt5
        case hyt5 => (intro w hSw; obtain ⟨s1, s2, s3⟩ := hSw; go_simp; try with_reducible rfl)
        try simp only [Act.put, List.setIfInBounds_toArray, List.set_cons_zero, List.set_cons_succ]
        refine wpAnyH_take (i := 6) (oi := { dst := some 52, op := Op.move (Operand.tmp 2), type := 22, pos := "outright.go:50", after := #[], guard := none }) (v := ?vvt6) rfl (by kernel_rfl) (by kernel_rfl) (by kernel_rfl) (fun _ _ _ h => h) (Or.inl ⟨by rfl, ?hyt6⟩) (by assumption) ?restt6
        case hyt6 => (intro w hSw; obtain ⟨s1, s2, s3⟩ := hSw; go_simp; try with_reducible rfl)
        try simp only [Act.put, List.setIfInBounds_toArray, List.set_cons_zero, List.set_cons_succ]
        refine wpAnyH_take (i := 7) (oi := { dst := some 53, op := Op.move (Operand.tmp 12), type := 3, pos := "outright.go:50", after := #[], guard := none }) (v := ?vvt7) rfl (by kernel_rfl) (by kernel_rfl) (by kernel_rfl) (fun _ _ _ h => h) (Or.inl ⟨by rfl, ?hyt7⟩) (by assumption) ?restt7
        case hyt7 => (intro w hSw; obtain ⟨s1, s2, s3⟩ := hSw; go_simp; try with_reducible rfl)
        try simp only [Act.put, List.setIfInBounds_toArray, List.set_cons_zero, List.set_cons_succ]
        refine wpAnyH_take (i := 8) (oi := { dst := some 54, op := Op.indexAddr 22 (Operand.tmp 52) (Operand.tmp 53), type := 0, pos := "outright.go:50", after := #[{ on := 6, ground := Ground.data }, { on := 7, ground := Ground.data }], guard := none }) (v := ?vvt8) rfl (by kernel_rfl) (by kernel_rfl) (by kernel_rfl) (fun _ _ _ h => h) (Or.inl ⟨by rfl, ?hyt8⟩) (by assumption) ?restt8
        case hyt8 => (intro w hSw; obtain ⟨s1, s2, s3⟩ := hSw; go_simp; try with_reducible rfl)
        try simp only [Act.put, List.setIfInBounds_toArray, List.set_cons_zero, List.set_cons_succ]
        refine wpAnyH_take (i := 9) (oi := { dst := some 55, op := Op.fieldAddr 37 (Operand.tmp 54) 1, type := 0, pos := "outright.go:50", after := #[{ on := 8, ground := Ground.data }], guard := none }) (v := ?vvt9) rfl (by kernel_rfl) (by kernel_rfl) (by kernel_rfl) (fun _ _ _ h => h) (Or.inl ⟨by rfl, ?hyt9⟩) (by assumption) ?restt9
        case hyt9 => (intro w hSw; obtain ⟨s1, s2, s3⟩ := hSw; go_simp; try with_reducible rfl)
        try simp only [Act.put, List.setIfInBounds_toArray, List.set_cons_zero, List.set_cons_succ]
        refine wpAnyH_take (i := 10) (oi := { dst := some 56, op := Op.load 35 (Operand.tmp 55), type := 35, pos := "outright.go:50", after := #[{ on := 9, ground := Ground.data }], guard := none }) (v := .agg CA) rfl (by kernel_rfl) (by kernel_rfl) (by kernel_rfl) (fun _ _ _ h => h) (yieldsIf_load_mid (by rfl) _ _ rfl (b) (off + k * 20 + 1) rfl (CA.toList) _ (fun w h => h.2.1.out) Try.underlying35 rfl lA) (by assumption) ?_
        try simp only [Act.put, List.setIfInBounds_toArray, List.set_cons_zero, List.set_cons_succ]
        refine wpAnyH_ready (rs := [11]) (by kernel_rfl) (by simp) ?_
        refine AllReadyH.cons (o := { dst := some 57, op := Op.call { callee := Callee.value (Operand.func 14), args := #[Operand.tmp 46, Operand.tmp 51, Operand.tmp 56], argTypes := #[23, 3, 35] }, type := 24, pos := "outright.go:50", after := #[{ on := 0, ground := Ground.data }, { on := 5, ground := Ground.data }, { on := 10, ground := Ground.data }], guard := none }) rfl (fun K hK => ?_) AllReadyH.nil
        go_simp
        refine (PUT.out _ _ HRd.out).mono ?_
        rintro e w1 ⟨rfl, ⟨R1, r1⟩, k1⟩
        go_wp2_with fail
        have HR1 := Lib.hid r1
        have KP := Lib.hid k1
        clear r1
        refine hK.out _ _ (hSp _ k1) (fun hHeld1 => ?_)
        clear hK K
        try simp only [Act.put, List.setIfInBounds_toArray, List.set_cons_zero, List.set_cons_succ]
        refine wpAnyH_take (i := 12) (oi := { dst := some 58, op := Op.binOp BinOp.eql 24 (Operand.tmp 57) (Operand.const (Value.int IntKind.i64 0)) 24, type := 4, pos := "outright.go:50", after := #[{ on := 11, ground := Ground.data }], guard := none }) (v := ?vvt12) rfl (by kernel_rfl) (by kernel_rfl) (by kernel_rfl) (fun _ _ _ h => h) (Or.inl ⟨by rfl, ?hyt12⟩) (by assumption) ?restt12
        case hyt12 => (intro w hSw; obtain ⟨s1, s2, s3⟩ := hSw; go_simp; try with_reducible rfl)
        try simp only [Act.put, List.setIfInBounds_toArray, List.set_cons_zero, List.set_cons_succ]
        refine wpAnyH_done (by kernel_rfl) ?_ _
        have K1 := Lib.hid (belowK KD.out KP.out (by omega))
        have HO1 := Lib.hid (HOd.out.kept KP.out (fun bb hb => by have := (HOd.out.lt bb hb).1; show bb ≠ B; omega))
        have hz1 := KP.out.size
        clear hS0 hSp hHeld0 hHeld1
        go_upto_region 13 with fail
        have hSq : ∀ w', Below w.heap.size w1 w' → w'.cell? ⟨b, off + k * 20, none⟩ = some (.int .i64 x.v) ∧ Hid (w'.rangeAt b (off + k * 20 + 1) (enC x.e).toList) ∧ True := fun w' q => ⟨(World.cell?_of_block (a := ⟨b, off + k * 20, none⟩) ((q.block b hbw).trans (KP.out.block b HRW.out (show b ≠ B by omega)))).trans HQ1.out, Lib.hid (fun j v hv => (World.cell?_of_block (a := ⟨b, off + k * 20 + 1 + j, none⟩) ((q.block b hbw).trans (KP.out.block b HRW.out (show b ≠ B by omega)))).trans (HQ2.out j v hv)), trivial⟩
        have HO2 := Lib.hid (HO1.out.below (bD1 w1))
        have HR2 := Lib.hid (HR1.out.below (bD1 w1))
        have kd : Below w.heap.size w1 w1.drew := (Below.refl _ _).drew
        have hS1 := hSq w1.drew kd
        have hg0 : g.all.length ≤ 100 := by omega
        refine wp_region_held_drew (S := fun w' => w'.cell? ⟨b, off + k * 20, none⟩ = some (.int .i64 x.v) ∧ Hid (w'.rangeAt b (off + k * 20 + 1) (enC x.e).toList) ∧ True) (by kernel_rfl) hS1 (fun hHeld0 => ?_)
        have HZ2 : Hid (w1.drew.heap.size = w1.heap.size) := Lib.hid rfl
        have hz3 : base ≤ w1.drew.heap.size := by have := HZ2.out; omega
        have hz4 : w.heap.size ≤ w1.drew.heap.size := by omega
        generalize w1.drew = w2 at *
        have k5 : Below w.heap.size w1 (w2.alloc (.cells (rowC (x.v, x.e)) 67)) := kd.alloc (by omega) _
        have RL := Lib.hid (IX.RdK.lit (K := putK) w2 (x.v, x.e) (rowC (x.v, x.e)) rfl 67)
        have OL := Lib.hid (HO2.out.below (bAl (Below.refl w2.heap.size w2) (.cells (rowC (x.v, x.e)) 67)))
        have RA := Lib.hid (HR2.out.below (bAl (Below.refl w2.heap.size w2) (.cells (rowC (x.v, x.e)) 67)))
        refine wpAnyH_take (i := 0) (oi := { dst := some 59, op := Op.move (Operand.tmp 11), type := 65, pos := "outright.go:51", after := #[], guard := none }) (v := ?vvr0) rfl (by kernel_rfl) (by kernel_rfl) (by kernel_rfl) (fun _ _ _ h => h) (Or.inl ⟨by rfl, ?hyr0⟩) (by assumption) ?restr0
        case hyr0 => (intro w hSw; obtain ⟨s1, s2, s3⟩ := hSw; go_simp; try with_reducible rfl)
        try simp only [Act.put, List.setIfInBounds_toArray, List.set_cons_zero, List.set_cons_succ]
        refine wpAnyH_take (i := 1) (oi := { dst := some 60, op := Op.move (Operand.tmp 2), type := 22, pos := "outright.go:51", after := #[], guard := none }) (v := ?vvr1) rfl (by kernel_rfl) (by kernel_rfl) (by kernel_rfl) (fun _ _ _ h => h) (Or.inl ⟨by rfl, ?hyr1⟩) (by assumption) ?restr1
        case hyr1 => (intro w hSw; obtain ⟨s1, s2, s3⟩ := hSw; go_simp; try with_reducible rfl)
        try simp only [Act.put, List.setIfInBounds_toArray, List.set_cons_zero, List.set_cons_succ]
        refine wpAnyH_take (i := 2) (oi := { dst := some 61, op := Op.move (Operand.tmp 12), type := 3, pos := "outright.go:51", after := #[], guard := none }) (v := ?vvr2) rfl (by kernel_rfl) (by kernel_rfl) (by kernel_rfl) (fun _ _ _ h => h) (Or.inl ⟨by rfl, ?hyr2⟩) (by assumption) ?restr2
        case hyr2 => (intro w hSw; obtain ⟨s1, s2, s3⟩ := hSw; go_simp; try with_reducible rfl)
        try simp only [Act.put, List.setIfInBounds_toArray, List.set_cons_zero, List.set_cons_succ]
        refine wpAnyH_take (i := 3) (oi := { dst := some 62, op := Op.indexAddr 22 (Operand.tmp 60) (Operand.tmp 61), type := 0, pos := "outright.go:51", after := #[{ on := 1, ground := Ground.data }, { on := 2, ground := Ground.data }], guard := none }) (v := ?vvr3) rfl (by kernel_rfl) (by kernel_rfl) (by kernel_rfl) (fun _ _ _ h => h) (Or.inl ⟨by rfl, ?hyr3⟩) (by assumption) ?restr3
        case hyr3 => (intro w hSw; obtain ⟨s1, s2, s3⟩ := hSw; go_simp; try with_reducible rfl)
        try simp only [Act.put, List.setIfInBounds_toArray, List.set_cons_zero, List.set_cons_succ]
        refine wpAnyH_take (i := 4) (oi := { dst := some 63, op := Op.fieldAddr 37 (Operand.tmp 62) 0, type := 0, pos := "outright.go:51", after := #[{ on := 3, ground := Ground.data }], guard := none }) (v := ?vvr4) rfl (by kernel_rfl) (by kernel_rfl) (by kernel_rfl) (fun _ _ _ h => h) (Or.inl ⟨by rfl, ?hyr4⟩) (by assumption) ?restr4
        case hyr4 => (intro w hSw; obtain ⟨s1, s2, s3⟩ := hSw; go_simp; try with_reducible rfl)
        try simp only [Act.put, List.setIfInBounds_toArray, List.set_cons_zero, List.set_cons_succ]
        refine wpAnyH_take (i := 5) (oi := { dst := some 64, op := Op.load 3 (Operand.tmp 63), type := 3, pos := "outright.go:51", after := #[{ on := 4, ground := Ground.data }], guard := none }) (v := ?vvr5) rfl (by kernel_rfl) (by kernel_rfl) (by kernel_rfl) (fun _ _ _ h => h) (Or.inl ⟨by rfl, ?hyr5⟩) (by assumption) ?restr5
        case hyr5 => (intro w hSw; obtain ⟨s1, s2, s3⟩ := hSw; go_simp; try with_reducible rfl)
        try simp only [Act.put, List.setIfInBounds_toArray, List.set_cons_zero, List.set_cons_succ]
        refine wpAnyH_take (i := 6) (oi := { dst := some 65, op := Op.move (Operand.tmp 2), type := 22, pos := "outright.go:51", after := #[], guard := none }) (v := ?vvr6) rfl (by kernel_rfl) (by kernel_rfl) (by kernel_rfl) (fun _ _ _ h => h) (Or.inl ⟨by rfl, ?hyr6⟩) (by assumption) ?restr6
        case hyr6 => (intro w hSw; obtain ⟨s1, s2, s3⟩ := hSw; go_simp; try with_reducible rfl)
        try simp only [Act.put, List.setIfInBounds_toArray, List.set_cons_zero, List.set_cons_succ]
        refine wpAnyH_take (i := 7) (oi := { dst := some 66, op := Op.move (Operand.tmp 12), type := 3, pos := "outright.go:51", after := #[], guard := none }) (v := ?vvr7) rfl (by kernel_rfl) (by kernel_rfl) (by kernel_rfl) (fun _ _ _ h => h) (Or.inl ⟨by rfl, ?hyr7⟩) (by assumption) ?restr7
        case hyr7 => (intro w hSw; obtain ⟨s1, s2, s3⟩ := hSw; go_simp; try with_reducible rfl)
        try simp only [Act.put, List.setIfInBounds_toArray, List.set_cons_zero, List.set_cons_succ]
        refine wpAnyH_take (i := 8) (oi := { dst := some 67, op := Op.indexAddr 22 (Operand.tmp 65) (Operand.tmp 66), type := 0, pos := "outright.go:51", after := #[{ on := 6, ground := Ground.data }, { on := 7, ground := Ground.data }], guard := none }) (v := ?vvr8) rfl (by kernel_rfl) (by kernel_rfl) (by kernel_rfl) (fun _ _ _ h => h) (Or.inl ⟨by rfl, ?hyr8⟩) (by assumption) ?restr8
        case hyr8 => (intro w hSw; obtain ⟨s1, s2, s3⟩ := hSw; go_simp; try with_reducible rfl)
        try simp only [Act.put, List.setIfInBounds_toArray, List.set_cons_zero, List.set_cons_succ]
        refine wpAnyH_take (i := 9) (oi := { dst := some 68, op := Op.fieldAddr 37 (Operand.tmp 67) 1, type := 0, pos := "outright.go:51", after := #[{ on := 8, ground := Ground.data }], guard := none }) (v := ?vvr9) rfl (by kernel_rfl) (by kernel_rfl) (by kernel_rfl) (fun _ _ _ h => h) (Or.inl ⟨by rfl, ?hyr9⟩) (by assumption) ?restr9
        case hyr9 => (intro w hSw; obtain ⟨s1, s2, s3⟩ := hSw; go_simp; try with_reducible rfl)
        try simp only [Act.put, List.setIfInBounds_toArray, List.set_cons_zero, List.set_cons_succ]
        refine wpAnyH_take (i := 10) (oi := { dst := some 69, op := Op.load 35 (Operand.tmp 68), type := 35, pos := "outright.go:51", after := #[{ on := 9, ground := Ground.data }], guard := none }) (v := en x.e) rfl (by kernel_rfl) (by kernel_rfl) (by kernel_rfl) (fun _ _ _ h => h) (yieldsIf_load_mid (by rfl) _ _ rfl (b) (off + k * 20 + 1) rfl ((enC x.e).toList) _ (fun w h => h.2.1.out) Try.underlying35 rfl (by kernel_rfl)) (by assumption) ?_
        try simp only [Act.put, List.setIfInBounds_toArray, List.set_cons_zero, List.set_cons_succ]
        refine wpAnyH_take (i := 11) (oi := { dst := some 70, op := Op.build 67 #[(0, Operand.tmp 64), (1, Operand.tmp 69)], type := 67, pos := "outright.go:51", after := #[{ on := 5, ground := Ground.data }, { on := 10, ground := Ground.data }], guard := none }) (v := .agg (rowC (x.v, x.e))) rfl (by kernel_rfl) (by kernel_rfl) (by kernel_rfl) (fun _ _ _ h => h) (Or.inl ⟨by rfl, ?hyr11⟩) (by assumption) ?restr11
        case hyr11 => (intro w hSw; go_simp; try with_reducible rfl)
        try simp only [Act.put, List.setIfInBounds_toArray, List.set_cons_zero, List.set_cons_succ]
        refine wpAnyH_ready (rs := [12]) (by kernel_rfl) (by simp) ?_
        refine AllReadyH.cons (o := { dst := some 71, op := Op.buildSlice 65 1 #[(0, Operand.tmp 70)], type := 65, pos := "outright.go:51", after := #[{ on := 11, ground := Ground.data }], guard := none }) rfl (fun K hK => ?_) AllReadyH.nil
        go_simp
        go_wp2_with fail
        refine hK.out _ _ (hSq _ k5) (fun hHeld1 => ?_)
        clear hK K
        try simp only [Act.put, List.setIfInBounds_toArray, List.set_cons_zero, List.set_cons_succ]
        refine wpAnyH_ready (rs := [13]) (by kernel_rfl) (by simp) ?_
        refine AllReadyH.cons (o := { dst := some 72, op := Op.call { callee := Callee.builtin Builtin.append, args := #[Operand.tmp 59, Operand.tmp 71], argTypes := #[65, 65] }, type := 65, pos := "outright.go:51", after := #[{ on := 0, ground := Ground.data }, { on := 12, ground := Ground.data }], guard := none }) rfl (fun K hK => ?_) AllReadyH.nil
        refine step_spreadK putK rfl (.tmp 59) (.tmp 71) rfl base u11 g.all rfl OL.out (w2.heap.size + 1) (some ⟨w2.heap.size, 0, none⟩) 1 1 [(x.v, x.e)] rfl rfl RL.out (by simp; omega) (by simp; omega) ?_
        intro v6 w6 o6 g6 f6
        have K6 := Lib.hid (k5.grown g6 (by simp; omega) (fun kk hkk => by have := (OL.out.lt kk hkk).1; omega))
        have O6 := Lib.hid o6
        have RA6 := Lib.hid (RA.out.same (g6.block B (RA.out.lt) (fun e => by have := (OL.out.lt B e.symm).1; omega)))
        have hz6 := g6.size
        simp only [World.size_alloc] at hz6
        refine hK.out _ _ (hSq _ K6.out) (fun hHeld2 => ?_)
        clear hK K
        try simp only [Act.put, List.setIfInBounds_toArray, List.set_cons_zero, List.set_cons_succ]
        refine wpAnyH_take (i := 14) (oi := { dst := some 11, op := Op.assign (Operand.tmp 72), type := 65, pos := "outright.go:51", after := #[{ on := 13, ground := Ground.data }, { on := 13, ground := Ground.chain }, { on := 0, ground := Ground.phase }, { on := 1, ground := Ground.phase }, { on := 2, ground := Ground.phase }, { on := 3, ground := Ground.phase }, { on := 4, ground := Ground.phase }, { on := 5, ground := Ground.phase }, { on := 6, ground := Ground.phase }, { on := 7, ground := Ground.phase }, { on := 8, ground := Ground.phase }, { on := 9, ground := Ground.phase }, { on := 10, ground := Ground.phase }, { on := 11, ground := Ground.phase }, { on := 12, ground := Ground.phase }, { on := 13, ground := Ground.phase }], guard := none }) (v := ?vvr14) rfl (by kernel_rfl) (by kernel_rfl) (by kernel_rfl) (fun _ _ _ h => h) (Or.inl ⟨by rfl, ?hyr14⟩) (by assumption) ?restr14
        case hyr14 => (intro w hSw; obtain ⟨s1, s2, s3⟩ := hSw; go_simp; try with_reducible rfl)
        try simp only [Act.put, List.setIfInBounds_toArray, List.set_cons_zero, List.set_cons_succ]
        refine wpAnyH_done (by kernel_rfl) ?_ _
        go_wp2
        go_roundw
        case rel => exact ⟨k + 1, putG g x.v x.e, R1, by go_num, by omega, RA6.out, HLN.out, by rw [HAL.out]; exact O6.out, K1.out.trans K6.out, by omega, HH.out.1, HH.out.2⟩
        case measure => simp [intOf]; omega
    · obtain rfl : k = l.length := by omega
      have i1 : ¬ (l.length : Int) < l.length := by omega
      obtain ⟨Ao, co, rfl, rdo, hco, hcm⟩ := hO.form
      have L0 := laid_var (C := enC (neverE h)) hK rfl
      have hN0 := L0.1
      have zt := L0.2.2
      have zall := en_one (neverE h)
      have HO0 := Lib.hid ((hO.below L0.2.1))
      have HR0 := Lib.hid (hRg.below L0.2.1)
      have HK0 := Lib.hid (bThen hK L0.2.1)
      have hown : Hid (∀ kk, (Value.slice Ao g.all.length co).ownBlock = some kk → kk < wr.heap.size) := Lib.hid (fun kk hkk => (hO.lt kk hkk).2)
      have HBq := Lib.hid hRg.lt
      have hwz := hK.size
      have hlen : g.all.length ≤ 100 := by omega
      clear hO hRg hK L0 rdo
      go_upto_region 15 with ((with_reducible show wpList _ _ _ ({ dst := none, op := Op.store 35 _ _, type := _, pos := _, after := _, guard := _ } :: _) _ _); (refine wpList_store_mid rfl _ _ _ rfl wr.heap.size 0 (enC (neverE h)) rfl rfl zt (by kernel_rfl) zall ?_); change wpList _ _ _ _ _ ((wr.alloc (.cells (enC zeroEn) 35)).setCells wr.heap.size 0 (enC (neverE h)).toList); generalize ((wr.alloc (.cells (enC zeroEn) 35)).setCells wr.heap.size 0 (enC (neverE h)).toList) = V0 at *)
      obtain ⟨bq, hbq⟩ : ∃ n, wr.heap.size = n := ⟨_, rfl⟩
      rw [hbq] at hN0 hown HBq hwz ⊢
      clear zt hbq
      have hzl : ((g.all.length : Nat) : Int) ≤ 100 := by omega
      go_wp2
      go_loopw [14, 15] (fun at_ jj wq => ∃ (j : Nat), at_ = .int .i64 (allAt h (g.all.take j) ver).2 ∧ jj = .int .i64 j ∧ j ≤ g.all.length ∧ AtC wq bq (enC (allAt h (g.all.take j) ver).1) ∧ Kept V0 wq (· ≠ bq)) (fun at_ jj _ => g.all.length - (intOf jj).toNat)
      case atStart => exact ⟨0, rfl, rfl, Nat.zero_le _, hN0, Kept.refl _ _⟩
      case round =>
        obtain ⟨j, rfl, rfl, hj, hE, hKq⟩ := hrel
        clear hN0
        by_cases hjl : j < g.all.length
        · have hO1 := HO0.out.kept hKq (fun bb hbb => by have := hown.out bb hbb; show bb ≠ bq; omega)
          obtain ⟨Ao', co', e', rd', _, _⟩ := hO1.form
          obtain ⟨rfl, rfl⟩ : Ao' = Ao ∧ co' = co := by simp at e'; exact ⟨e'.1.symm, e'.2.symm⟩
          obtain ⟨b2, off2, rfl, hb2, hc2⟩ := puts_at rd' (by omega)
          obtain ⟨y1, y2⟩ := hc2 _ _ (List.getElem?_eq_getElem hjl)
          have HT := Lib.hid (List.take_succ_eq_append_getElem hjl)
          have i3 : (j : Int) < (g.all.length : Int) := by omega
          have hsn := allAt_snoc h (g.all.take j) g.all[j] ver
          have htl : (g.all.take j).length = j := by simp; omega
          rw [htl] at hsn
          generalize g.all[j] = x at *
          have HKq := Lib.hid hKq
          have HSN := Lib.hid hsn
          clear hsn htl hc2 rd' e' hO1 hKq
          by_cases hx : x.1 ≤ ver
          · have HS2 : Hid (allAt h (g.all.take (j + 1)) ver = (x.2, (j : Int))) := Lib.hid (by rw [HT.out, HSN.out, if_pos hx])
            obtain ⟨CX, vX, cX, sX, tX, oX, zX⟩ := en_opq x.2
            obtain ⟨CE, vE, cE, sE, tE, oE, zE⟩ := en_opq (allAt h (g.all.take j) ver).1
            rw [cX] at y2
            rw [cE] at hE
            have Y2 := Lib.hid y2
            have zz : CE.size = CX.size := zE.symm.trans zX
            have HT2 : Hid (wr.there bq 0 CX.size) := Lib.hid (by rw [← zz]; exact there_at (C := CE) hE)
            have HN2 := Lib.hid (set_at (C := CX) hE zz)
            have HK2 := Lib.hid (HKq.out.trans (set_kept (W := wr) (B := bq) CX))
            have HCX := Lib.hid cX
            clear vX cX zX vE cE sE tE oE zE y2 hE zz
            go_wp2_with (first
              | ((with_reducible show wpList _ _ _ ({ dst := some 92, op := _, type := _, pos := _, after := _, guard := _ } :: _) _ _); (refine wpList_load_mid rfl _ _ rfl b2 (off2 + j * 19 + 1) rfl CX.toList _ Y2.out Try.underlying35 rfl tX ?_))
              | ((with_reducible show wpList _ _ _ ({ dst := none, op := Op.store 35 _ _, type := _, pos := _, after := _, guard := _ } :: _) _ _); (refine wpList_store_mid rfl _ _ _ rfl bq 0 CX rfl rfl HT2.out sX oX ?_)))
            generalize wr.setCells bq 0 CX.toList = W3 at *
            go_roundw
            case rel => exact ⟨j + 1, by rw [HS2.out], by go_num, by omega, by rw [HS2.out, HCX.out]; exact HN2.out, HK2.out⟩
            case measure => simp [intOf]; omega
          · have HS2 : Hid (allAt h (g.all.take (j + 1)) ver = allAt h (g.all.take j) ver) := Lib.hid (by rw [HT.out, HSN.out, if_neg hx])
            have HE := Lib.hid hE
            obtain ⟨a2, ha2⟩ : ∃ n, (allAt h (g.all.take j) ver).2 = n := ⟨_, rfl⟩
            have HA2 := Lib.hid ha2
            rw [ha2]
            clear ha2 hE y2
            go_wp2
            go_roundw
            case rel => exact ⟨j + 1, by rw [HS2.out, HA2.out], by go_num, by omega, by rw [HS2.out]; exact HE.out, HKq.out⟩
            case measure => simp [intOf]; omega
        · obtain rfl : j = g.all.length := by omega
          have i3 : ¬ (g.all.length : Int) < (g.all.length : Int) := by omega
          rw [List.take_length] at hE ⊢
          have hal := allAt_lt h g.all ver
          have hat := at_all_eq g hv
          rw [hgh] at hat
          have hdn : dropN g = g.all.length - s := by show g.all.length - g.size = _; rw [hgs]
          rw [hdn] at hat
          have HRq := Lib.hid (HR0.out.keep hKq (show B ≠ bq by have := HBq.out; omega))
          have HKB := Lib.hid (belowK HK0.out hKq hwz)
          have CAT := Lib.hid (fun W (q : RgAt W B g R) => at_any ver W q (by omega) hv)
          rw [hat] at CAT
          obtain ⟨a2, ha2⟩ : ∃ n, (allAt h g.all ver).2 = n := ⟨_, rfl⟩
          obtain ⟨wt, hwt⟩ : ∃ n, (allAt h g.all ver).1 = n := ⟨_, rfl⟩
          rw [ha2] at CAT hal ⊢
          rw [hwt] at CAT hE
          clear hat ha2 hwt HO0 HR0 HK0 hKq hdn hown HBq
          obtain ⟨CW, vW, cW, sW, tW, oW, zW⟩ := en_opq wt
          rw [cW] at hE
          have HEq := Lib.hid hE
          have hEQ := eq_known vW
          obtain ⟨n, hn⟩ : ∃ n, g.all.length = n := ⟨_, rfl⟩
          rw [hn] at CAT hal hlen hzl ⊢
          have HNN := Lib.hid hn
          clear hn hE i3
          by_cases hgone : a2 < ((n - s : Nat) : Int) ∧ 0 < n - s
          · rw [if_pos hgone] at CAT
            obtain ⟨CX, vX, cX, sX, tX, oX, zX⟩ := en_opq zeroEn
            simp only [vX] at CAT
            have HZX := Lib.hid zX
            have i5 : (s : Int) < (n : Int) := by omega
            have i6 : a2 < (n : Int) - (s : Int) := by omega
            clear vX cX zX vW cW sW oW zW hEQ hgone
            go_wp2_with (first
            | (go_at_call 23; ((with_reducible refine (CAT.out _ HRq.out).mono ?_); rintro e u1 ⟨rfl, k1⟩; have KU1 := Lib.hid (bThen HKB.out k1); have L1 := laid_var (C := CX) KU1.out HZX.out; have HX1 := Lib.hid L1.1; have HW1 := Lib.hid ((HEq.out.then k1).then L1.2.1); have KB1 := Lib.hid (bThen KU1.out L1.2.1); have HT1 := Lib.hid L1.2.2; clear k1 L1))
            | ((with_reducible show wpList _ _ _ ({ dst := none, op := Op.store 35 _ _, type := _, pos := _, after := _, guard := _ } :: _) _ _); (refine wpList_store_mid rfl _ _ _ rfl u1.heap.size 0 CX rfl rfl HT1.out sX oX ?_); change wpList _ _ _ _ _ ((u1.alloc (.cells (enC zeroEn) 35)).setCells u1.heap.size 0 CX.toList); generalize ((u1.alloc (.cells (enC zeroEn) 35)).setCells u1.heap.size 0 CX.toList) = V1 at *))
            go_ret
            exact ⟨rfl, KB1.out⟩
          · rw [if_neg hgone] at CAT
            simp only [vW] at CAT
            have sX := sW
            have oX := oW
            have HZX := Lib.hid zW
            clear vW cW sW oW zW
            by_cases hge : (n : Int) - (s : Int) ≤ a2
            · go_upto_region 21 with (first
            | (go_at_call 23; ((with_reducible refine (CAT.out _ HRq.out).mono ?_); rintro e u1 ⟨rfl, k1⟩; have KU1 := Lib.hid (bThen HKB.out k1); have L1 := laid_var (C := CW) KU1.out HZX.out; have HX1 := Lib.hid L1.1; have HW1 := Lib.hid ((HEq.out.then k1).then L1.2.1); have KB1 := Lib.hid (bThen KU1.out L1.2.1); have HT1 := Lib.hid L1.2.2; clear k1 L1))
              | ((with_reducible show wpList _ _ _ ({ dst := none, op := Op.store 35 _ _, type := _, pos := _, after := _, guard := _ } :: _) _ _); (refine wpList_store_mid rfl _ _ _ rfl u1.heap.size 0 CW rfl rfl HT1.out sX oX ?_); change wpList _ _ _ _ _ ((u1.alloc (.cells (enC zeroEn) 35)).setCells u1.heap.size 0 CW.toList); generalize ((u1.alloc (.cells (enC zeroEn) 35)).setCells u1.heap.size 0 CW.toList) = V1 at *))
              have x1 := range_at HX1.out
              have x2 := range_at HW1.out
              go_wp2_with (first
                | ((show wpList _ _ _ ({ dst := some 117, op := _, type := _, pos := _, after := _, guard := _ } :: _) _ _); (refine wpList_load_g (by rfl) _ _ rfl u1.heap.size 0 rfl CW.toList _ x1 Try.underlying35 rfl tW ?_))
                | ((show wpList _ _ _ ({ dst := some 118, op := _, type := _, pos := _, after := _, guard := _ } :: _) _ _); (refine wpList_load_g (by rfl) _ _ rfl bq 0 rfl CW.toList _ x2 Try.underlying35 rfl tW ?_)))
              go_ret
              exact ⟨rfl, KB1.out⟩
            · have hns : (n : Int) ≤ (s : Int) := by omega
              go_upto_region 21 with (first
            | (go_at_call 23; ((with_reducible refine (CAT.out _ HRq.out).mono ?_); rintro e u1 ⟨rfl, k1⟩; have KU1 := Lib.hid (bThen HKB.out k1); have L1 := laid_var (C := CW) KU1.out HZX.out; have HX1 := Lib.hid L1.1; have HW1 := Lib.hid ((HEq.out.then k1).then L1.2.1); have KB1 := Lib.hid (bThen KU1.out L1.2.1); have HT1 := Lib.hid L1.2.2; clear k1 L1))
              | ((with_reducible show wpList _ _ _ ({ dst := none, op := Op.store 35 _ _, type := _, pos := _, after := _, guard := _ } :: _) _ _); (refine wpList_store_mid rfl _ _ _ rfl u1.heap.size 0 CW rfl rfl HT1.out sX oX ?_); change wpList _ _ _ _ _ ((u1.alloc (.cells (enC zeroEn) 35)).setCells u1.heap.size 0 CW.toList); generalize ((u1.alloc (.cells (enC zeroEn) 35)).setCells u1.heap.size 0 CW.toList) = V1 at *))
              have x1 := range_at HX1.out
              have x2 := range_at HW1.out
              go_wp2_with (first
                | ((show wpList _ _ _ ({ dst := some 117, op := _, type := _, pos := _, after := _, guard := _ } :: _) _ _); (refine wpList_load_g (by rfl) _ _ rfl u1.heap.size 0 rfl CW.toList _ x1 Try.underlying35 rfl tW ?_))
                | ((show wpList _ _ _ ({ dst := some 118, op := _, type := _, pos := _, after := _, guard := _ } :: _) _ _); (refine wpList_load_g (by rfl) _ _ rfl bq 0 rfl CW.toList _ x2 Try.underlying35 rfl tW ?_)))
              go_ret
              exact ⟨rfl, KB1.out⟩
end Go.Proofs.Ytecdcfmbhphagaa.BX
