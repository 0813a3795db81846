/-
  WALK: the iterator of a ring: it hands over what is kept, from the last one on, whatever the loop body does that keeps the ring.
-/
import Derived.Test.YtecdcfmbhphagaaBNew
import Derived.Test.YtecdcfmbhphagaaBIn
namespace Go.Proofs.Ytecdcfmbhphagaa.BX
open Go.RowKit HL
open IX (ptr El cellsK cellsK_at cellsK_len OwnK RdK Kept)
set_option maxRecDepth 100000
set_option linter.unusedVariables false
set_option linter.unusedSimpArgs false
attribute [local go_sem] Oper.semAt_some

theorem row_one (x : Int × En) : (rowC x).all (·.oneCell') = true := all_oneCell_toArray (rowL_one x)
theorem row0 (x : Int × En) : (rowC x)[0]? = some (.int .i64 x.1) := by simp [rowC]
def zRow : Int × En := (0, zeroEn)
/-- The ring's block and the iterator's box are as they were. -/
def KB (B Bb : Nat) (W W' : World) : Prop := W'.heap[B]? = W.heap[B]? ∧ W'.heap[Bb]? = W.heap[Bb]?
theorem KB.t {B Bb : Nat} {W W1 W2 : World} (h : KB B Bb W W1) (k : KB B Bb W1 W2) : KB B Bb W W2 := ⟨k.1.trans h.1, k.2.trans h.2⟩
theorem RgAt.kb {w w' : World} {B Bb : Nat} {g : Rg} {R : List (Int × En)} (h : RgAt w B g R) (k : KB B Bb w w') : RgAt w' B g R :=
  ⟨⟨Nat.lt_of_not_ge (fun q => by have e := k.1; rw [Array.getElem?_eq_none q, Array.getElem?_eq_getElem h.lt] at e; cases e),
    fun i => (World.cell?_of_block (a := ⟨B, i, none⟩) k.1).trans (h.a.c i), fun i => (World.frozen?_of_block (a := ⟨B, i, none⟩) k.1).trans (h.a.f i)⟩, h.len, h.s1, h.s8, h.rows⟩
theorem grownBy_of_below {W W1 : World} (h : Below W.heap.size W W1) : W.grownBy W1 none := ⟨h.os, h.tape, h.output, h.size, fun k hk _ => h.block k hk⟩
theorem pre_succ {α : Type} {l : List α} {k : Nat} (h : k < l.length) : l.take k ++ [l[k]] <+: l := by
  rw [← List.take_succ_eq_append_getElem h]; exact List.take_prefix _ _
theorem range_tail {W : World} {D : Nat} {x : Int × En} (h : AtC W D (rowC x)) : W.rangeAt D 1 (enC x.2).toList := fun j v hv => by
  rw [h.c (1 + j), Nat.add_comm, ← hv, ← Array.getElem?_toList]
  rfl
set_option maxHeartbeats 4000000 in
theorem back1_in (q : Nat) (hq : 1 ≤ q) (l Bb B : Nat) (g : Rg) (R : List (Int × En)) (J Jx : List (Int × En) → World → Prop)
    (hY : ∀ pre x W, J pre W → pre ++ [x] <+: kept g → YieldAt Fence.wide (q - 1) Try.prog l #[.int .i64 x.1, en x.2] W fun e W' =>
      (e = .returned (.bool true) ∧ J (pre ++ [x]) W' ∧ KB B Bb W W') ∨ (e = .returned (.bool false) ∧ Jx (pre ++ [x]) W'))
    (W : World) (hJ : AbidesFrom W.heap.size J) (hb : W.cell? ⟨Bb, 0, none⟩ = some (ptr B)) (hBb : Bb < W.heap.size) (hR : RgAt W B g R) (hlen : g.all.length ≤ 1000000) (h0 : J [] W) :
    CallsIn Fence.wide q Try.prog 39 #[.func (.yield l) #[] #[], .pointer (some ⟨Bb, 0, none⟩)] W fun e W' => (∃ v, e = .returned v) ∧
      ((∃ ys, ys = kept g ∧ J ys W') ∨ (∃ pre, pre <+: kept g ∧ Jx pre W')) := by
  have hF : Fence.wide.fn 39 := trivial
  have hF1 : Fence.wide.fn 20 := trivial
  have CM := Lib.hid (many_any W hR hlen)
  have HKL := Lib.hid (kept_len g)
  have hs1 := hR.s1
  have hs8 := hR.s8
  have HR0 := Lib.hid hR
  have HJ := Lib.hid hJ
  have HY := Lib.hid hY
  have H0 := Lib.hid h0
  clear hY h0 hJ hR
  refine callsIn_of_wp Try.func39 rfl hF ?_ rfl
  simp only [Try.ntmps39, List.size_toArray, List.length_cons, List.length_nil, Nat.reduceAdd, Nat.reduceSub, Array.replicate_succ, Array.replicate_zero, List.push_toArray, List.append_toArray, List.nil_append, List.cons_append]
  gi_wp2_with (gi_at_call 20; refine (callsIn_wide.2 CM.out).mono ?_; rintro e w1 ⟨rfl, k1⟩)
  have HJ1 := Lib.hid (HJ.out _ W _ none H0.out (grownBy_of_below k1) (fun r e => by cases e))
  have HR1 := Lib.hid (HR0.out.below k1)
  have hb1 := (k1.cell (p := ⟨Bb, 0, none⟩) hBb).trans hb
  have HZ1 : Hid (W.heap.size ≤ w1.heap.size) := Lib.hid k1.size
  have hBb1 : Bb < w1.heap.size := Nat.lt_of_lt_of_le hBb HZ1.out
  clear k1 hb hBb CM H0 HR0
  gi_loopw [7] (fun st wr => ∃ k : Nat, st = .int .i64 k ∧ k ≤ (kept g).length ∧ RgAt wr B g R ∧ wr.cell? ⟨Bb, 0, none⟩ = some (ptr B) ∧ Bb < wr.heap.size ∧ J ((kept g).take k) wr) (fun st _ => (kept g).length - (intOf st).toNat)
  case atStart => exact ⟨0, rfl, Nat.zero_le _, HR1.out, hb1, hBb1, by simpa using HJ1.out⟩
  case round =>
    obtain ⟨k, rfl, hk, hRg, hcb, hBb2, hJs⟩ := hrel
    clear hb1 hBb1 HJ1 HR1
    by_cases hlt : k < (kept g).length
    · have hkl := HKL.out
      have i1 : (k : Int) < (kept g).length := by omega
      have HP := Lib.hid (pre_succ hlt)
      have HT : Hid ((kept g).take (k + 1) = (kept g).take k ++ [(kept g)[k]]) := Lib.hid (List.take_succ_eq_append_getElem hlt)
      have hx := hRg.nth (k := k) (List.getElem?_eq_getElem hlt)
      generalize hxx : (kept g)[k] = x at *
      clear hxx
      have c2 := fun w' (q : Below wr.heap.size wr w') => (hRg.below q).c2
      have c3 := fun w' (q : Below wr.heap.size wr w') => (hRg.below q).c3
      have hm : (g.all.length - 1 - k) % g.size < 8 := Nat.lt_of_lt_of_le (Nat.mod_lt _ (by omega)) hs8
      have e1 : IntKind.i64.wrap ((g.all.length : Int) - 1) = ((g.all.length - 1 : Nat) : Int) := by simp [IntKind.wrap, IntKind.bits, IntKind.signed]; omega
      have e2 : IntKind.i64.wrap (((g.all.length - 1 : Nat) : Int) - (k : Int)) = ((g.all.length - 1 - k : Nat) : Int) := by simp [IntKind.wrap, IntKind.bits, IntKind.signed]; omega
      have e3 : (((g.all.length - 1 - k : Nat) : Int).tmod (g.size : Int)) = (((g.all.length - 1 - k) % g.size : Nat) : Int) := by rw [Int.tmod_eq_emod_of_nonneg (by omega)]; rfl
      have rg := fun w' (q : Below wr.heap.size wr w') => (hRg.below q).range hx
      have hlB := hRg.lt
      obtain ⟨C, hC⟩ : ∃ C, rowC x = C := ⟨_, rfl⟩
      have hCs : (Try.prog.info? 58).map (·.size) = some C.toList.length := by rw [← hC]; kernel_rfl
      have hCs2 : (Try.prog.info? 58).map (·.size) = some C.size := by rw [← hC]; kernel_rfl
      have hC1 : C.all (·.oneCell') = true := by rw [← hC]; exact row_one x
      have hC19 : (rowC zRow).size = C.size := by rw [← hC]; rfl
      have HC := Lib.hid hC
      rw [hC] at rg
      clear hC
      have HRg := Lib.hid hRg
      have hkN : (kept g).length ≤ 1000000 := by omega
      clear hkl
      have HJs := Lib.hid hJs
      have hz : ¬ ((g.size : Int) = 0) := by omega
      have hz2 : ¬ (g.size = 0) := by omega
      have hzw : wr.drew.heap.size = wr.heap.size := rfl
      have HHK := Lib.hid hk
      clear hRg hJs hx hk hlt hs1 hs8
      generalize (g.all.length - 1 - k) % g.size = m at *
      generalize g.all.length - 1 - k = n2 at *
      generalize g.all.length - 1 = n1 at *
      generalize g.size = s at *
      generalize g.all.length = n at *
      have hm2 : (m : Int) < 8 := by omega
      have hS5 : ∀ w', Below wr.heap.size wr w' → w'.cell? ⟨Bb, 0, none⟩ = some (ptr B) ∧ w'.cell? ⟨B, 2, none⟩ = some (.int .i64 (s : Int)) ∧ w'.cell? ⟨B, 3, none⟩ = some (.int .i64 (n : Int)) ∧ Hid (w'.rangeAt B (4 + m * 19) C.toList) ∧ Hid (Below wr.heap.size wr w') :=
        fun w' q => ⟨(q.cell (p := ⟨Bb, 0, none⟩) hBb2).trans hcb, c2 w' q, c3 w' q, Lib.hid (rg w' q), Lib.hid q⟩
      have hS0 := hS5 wr.drew (bD1 wr)
      clear c2 c3 rg
      gi_wp2
      refine wpIn_wide.2 ?_
      refine wp_region_held_drew (S := fun w' => w'.cell? ⟨Bb, 0, none⟩ = some (ptr B) ∧ w'.cell? ⟨B, 2, none⟩ = some (.int .i64 (s : Int)) ∧ w'.cell? ⟨B, 3, none⟩ = some (.int .i64 (n : Int)) ∧ Hid (w'.rangeAt B (4 + m * 19) C.toList) ∧ Hid (Below wr.heap.size wr w')) (by kernel_rfl) hS0 (fun hHeld0 => ?_)
      refine wpAnyH_take (i := 0) (oi := { dst := some 10, op := Op.load 23 (Operand.tmp 1), type := 23, pos := "ring.go:79", after := #[], guard := none }) (v := ptr B) rfl (by kernel_rfl) (by kernel_rfl) (by kernel_rfl) (fun _ _ _ h => h) (Or.inl ⟨by rfl, ?hyb0⟩) (by assumption) ?restb0
      case hyb0 => (intro w hSw; obtain ⟨s1, s2, s3, s4, s5⟩ := hSw; go_simp; try with_reducible rfl)
      try simp only [Act.put, List.setIfInBounds_toArray, List.set_cons_zero, List.set_cons_succ]
      refine wpAnyH_take (i := 1) (oi := { dst := some 11, op := Op.load 23 (Operand.tmp 1), type := 23, pos := "ring.go:79", after := #[], guard := none }) (v := ptr B) rfl (by kernel_rfl) (by kernel_rfl) (by kernel_rfl) (fun _ _ _ h => h) (Or.inl ⟨by rfl, ?hyb1⟩) (by assumption) ?restb1
      case hyb1 => (intro w hSw; obtain ⟨s1, s2, s3, s4, s5⟩ := hSw; go_simp; try with_reducible rfl)
      try simp only [Act.put, List.setIfInBounds_toArray, List.set_cons_zero, List.set_cons_succ]
      refine wpAnyH_take (i := 2) (oi := { dst := some 12, op := Op.nilCheck (Operand.tmp 11), type := 0, pos := "ring.go:79", after := #[{ on := 1, ground := Ground.data }], guard := none }) (v := ?vvb2) rfl (by kernel_rfl) (by kernel_rfl) (by kernel_rfl) (fun _ _ _ h => h) (Or.inl ⟨by rfl, ?hyb2⟩) (by assumption) ?restb2
      case hyb2 => (intro w hSw; obtain ⟨s1, s2, s3, s4, s5⟩ := hSw; go_simp; try with_reducible rfl)
      try simp only [Act.put, List.setIfInBounds_toArray, List.set_cons_zero, List.set_cons_succ]
      refine wpAnyH_take (i := 3) (oi := { dst := some 13, op := Op.fieldAddr 61 (Operand.tmp 12) 3, type := 0, pos := "ring.go:79", after := #[{ on := 2, ground := Ground.data }], guard := none }) (v := ?vvb3) rfl (by kernel_rfl) (by kernel_rfl) (by kernel_rfl) (fun _ _ _ h => h) (Or.inl ⟨by rfl, ?hyb3⟩) (by assumption) ?restb3
      case hyb3 => (intro w hSw; obtain ⟨s1, s2, s3, s4, s5⟩ := hSw; go_simp; try with_reducible rfl)
      try simp only [Act.put, List.setIfInBounds_toArray, List.set_cons_zero, List.set_cons_succ]
      refine wpAnyH_take (i := 4) (oi := { dst := some 14, op := Op.load 3 (Operand.tmp 13), type := 3, pos := "ring.go:79", after := #[{ on := 3, ground := Ground.data }], guard := none }) (v := .int .i64 (n : Int)) rfl (by kernel_rfl) (by kernel_rfl) (by kernel_rfl) (fun _ _ _ h => h) (Or.inl ⟨by rfl, ?hyb4⟩) (by assumption) ?restb4
      case hyb4 => (intro w hSw; obtain ⟨s1, s2, s3, s4, s5⟩ := hSw; go_simp; try with_reducible rfl)
      try simp only [Act.put, List.setIfInBounds_toArray, List.set_cons_zero, List.set_cons_succ]
      refine wpAnyH_take (i := 5) (oi := { dst := some 15, op := Op.binOp BinOp.sub 3 (Operand.tmp 14) (Operand.const (Value.int IntKind.i64 1)) 3, type := 3, pos := "ring.go:79", after := #[{ on := 4, ground := Ground.data }], guard := none }) (v := .int .i64 (n1 : Int)) rfl (by kernel_rfl) (by kernel_rfl) (by kernel_rfl) (fun _ _ _ h => h) (Or.inl ⟨by rfl, ?hyb5⟩) (by assumption) ?restb5
      case hyb5 => (intro w hSw; obtain ⟨s1, s2, s3, s4, s5⟩ := hSw; go_simp; try with_reducible rfl)
      try simp only [Act.put, List.setIfInBounds_toArray, List.set_cons_zero, List.set_cons_succ]
      refine wpAnyH_take (i := 6) (oi := { dst := some 16, op := Op.move (Operand.tmp 3), type := 3, pos := "ring.go:79", after := #[], guard := none }) (v := ?vvb6) rfl (by kernel_rfl) (by kernel_rfl) (by kernel_rfl) (fun _ _ _ h => h) (Or.inl ⟨by rfl, ?hyb6⟩) (by assumption) ?restb6
      case hyb6 => (intro w hSw; obtain ⟨s1, s2, s3, s4, s5⟩ := hSw; go_simp; try with_reducible rfl)
      try simp only [Act.put, List.setIfInBounds_toArray, List.set_cons_zero, List.set_cons_succ]
      refine wpAnyH_take (i := 7) (oi := { dst := some 17, op := Op.binOp BinOp.sub 3 (Operand.tmp 15) (Operand.tmp 16) 3, type := 3, pos := "ring.go:79", after := #[{ on := 5, ground := Ground.data }, { on := 6, ground := Ground.data }], guard := none }) (v := .int .i64 (n2 : Int)) rfl (by kernel_rfl) (by kernel_rfl) (by kernel_rfl) (fun _ _ _ h => h) (Or.inl ⟨by rfl, ?hyb7⟩) (by assumption) ?restb7
      case hyb7 => (intro w hSw; obtain ⟨s1, s2, s3, s4, s5⟩ := hSw; go_simp; try with_reducible rfl)
      try simp only [Act.put, List.setIfInBounds_toArray, List.set_cons_zero, List.set_cons_succ]
      refine wpAnyH_take (i := 8) (oi := { dst := some 18, op := Op.load 23 (Operand.tmp 1), type := 23, pos := "ring.go:79", after := #[], guard := none }) (v := ptr B) rfl (by kernel_rfl) (by kernel_rfl) (by kernel_rfl) (fun _ _ _ h => h) (Or.inl ⟨by rfl, ?hyb8⟩) (by assumption) ?restb8
      case hyb8 => (intro w hSw; obtain ⟨s1, s2, s3, s4, s5⟩ := hSw; go_simp; try with_reducible rfl)
      try simp only [Act.put, List.setIfInBounds_toArray, List.set_cons_zero, List.set_cons_succ]
      refine wpAnyH_take (i := 9) (oi := { dst := some 19, op := Op.nilCheck (Operand.tmp 18), type := 0, pos := "ring.go:79", after := #[{ on := 8, ground := Ground.data }], guard := none }) (v := ?vvb9) rfl (by kernel_rfl) (by kernel_rfl) (by kernel_rfl) (fun _ _ _ h => h) (Or.inl ⟨by rfl, ?hyb9⟩) (by assumption) ?restb9
      case hyb9 => (intro w hSw; obtain ⟨s1, s2, s3, s4, s5⟩ := hSw; go_simp; try with_reducible rfl)
      try simp only [Act.put, List.setIfInBounds_toArray, List.set_cons_zero, List.set_cons_succ]
      refine wpAnyH_take (i := 10) (oi := { dst := some 20, op := Op.fieldAddr 61 (Operand.tmp 19) 2, type := 0, pos := "ring.go:79", after := #[{ on := 9, ground := Ground.data }], guard := none }) (v := ?vvb10) rfl (by kernel_rfl) (by kernel_rfl) (by kernel_rfl) (fun _ _ _ h => h) (Or.inl ⟨by rfl, ?hyb10⟩) (by assumption) ?restb10
      case hyb10 => (intro w hSw; obtain ⟨s1, s2, s3, s4, s5⟩ := hSw; go_simp; try with_reducible rfl)
      try simp only [Act.put, List.setIfInBounds_toArray, List.set_cons_zero, List.set_cons_succ]
      refine wpAnyH_take (i := 11) (oi := { dst := some 21, op := Op.load 3 (Operand.tmp 20), type := 3, pos := "ring.go:79", after := #[{ on := 10, ground := Ground.data }], guard := none }) (v := .int .i64 (s : Int)) rfl (by kernel_rfl) (by kernel_rfl) (by kernel_rfl) (fun _ _ _ h => h) (Or.inl ⟨by rfl, ?hyb11⟩) (by assumption) ?restb11
      case hyb11 => (intro w hSw; obtain ⟨s1, s2, s3, s4, s5⟩ := hSw; go_simp; try with_reducible rfl)
      try simp only [Act.put, List.setIfInBounds_toArray, List.set_cons_zero, List.set_cons_succ]
      refine wpAnyH_take (i := 12) (oi := { dst := some 22, op := Op.binOp BinOp.rem 3 (Operand.tmp 17) (Operand.tmp 21) 3, type := 3, pos := "ring.go:79", after := #[{ on := 7, ground := Ground.data }, { on := 11, ground := Ground.data }], guard := none }) (v := .int .i64 (m : Int)) rfl (by kernel_rfl) (by kernel_rfl) (by kernel_rfl) (fun _ _ _ h => h) (Or.inl ⟨by rfl, ?hyb12⟩) (by assumption) ?restb12
      case hyb12 => (intro w hSw; obtain ⟨s1, s2, s3, s4, s5⟩ := hSw; go_simp; try with_reducible rfl)
      try simp only [Act.put, List.setIfInBounds_toArray, List.set_cons_zero, List.set_cons_succ]
      refine wpAnyH_take (i := 13) (oi := { dst := some 23, op := Op.nilCheck (Operand.tmp 10), type := 0, pos := "ring.go:79", after := #[{ on := 0, ground := Ground.data }], guard := none }) (v := ?vvb13) rfl (by kernel_rfl) (by kernel_rfl) (by kernel_rfl) (fun _ _ _ h => h) (Or.inl ⟨by rfl, ?hyb13⟩) (by assumption) ?restb13
      case hyb13 => (intro w hSw; obtain ⟨s1, s2, s3, s4, s5⟩ := hSw; go_simp; try with_reducible rfl)
      try simp only [Act.put, List.setIfInBounds_toArray, List.set_cons_zero, List.set_cons_succ]
      refine wpAnyH_take (i := 14) (oi := { dst := some 24, op := Op.fieldAddr 61 (Operand.tmp 23) 4, type := 0, pos := "ring.go:79", after := #[{ on := 13, ground := Ground.data }], guard := none }) (v := ?vvb14) rfl (by kernel_rfl) (by kernel_rfl) (by kernel_rfl) (fun _ _ _ h => h) (Or.inl ⟨by rfl, ?hyb14⟩) (by assumption) ?restb14
      case hyb14 => (intro w hSw; obtain ⟨s1, s2, s3, s4, s5⟩ := hSw; go_simp; try with_reducible rfl)
      try simp only [Act.put, List.setIfInBounds_toArray, List.set_cons_zero, List.set_cons_succ]
      refine wpAnyH_take (i := 15) (oi := { dst := some 25, op := Op.indexAddr 59 (Operand.tmp 24) (Operand.tmp 22), type := 0, pos := "ring.go:79", after := #[{ on := 14, ground := Ground.data }, { on := 12, ground := Ground.data }], guard := none }) (v := ?vvb15) rfl (by kernel_rfl) (by kernel_rfl) (by kernel_rfl) (fun _ _ _ h => h) (Or.inl ⟨by rfl, ?hyb15⟩) (by assumption) ?restb15
      case hyb15 => (intro w hSw; obtain ⟨s1, s2, s3, s4, s5⟩ := hSw; go_simp; try with_reducible rfl)
      try simp only [Act.put, List.setIfInBounds_toArray, List.set_cons_zero, List.set_cons_succ]
      refine wpAnyH_take (i := 16) (oi := { dst := some 26, op := Op.load 58 (Operand.tmp 25), type := 58, pos := "ring.go:79", after := #[{ on := 15, ground := Ground.data }], guard := none }) (v := .agg C) rfl (by kernel_rfl) (by kernel_rfl) (by kernel_rfl) (fun _ _ _ h => h) (yieldsIf_load_mid (by rfl) _ _ rfl (B) (4 + m * 19) rfl (C.toList) _ (fun w h => h.2.2.2.1.out) Try.underlying58 rfl hCs) (by assumption) ?_
      try simp only [Act.put, List.setIfInBounds_toArray, List.set_cons_zero, List.set_cons_succ]
      refine wpAnyH_ready (rs := [17]) (by kernel_rfl) (by simp) ?_
      refine AllReadyH.cons (o := { dst := some 4, op := Op.alloc 58, type := 0, pos := "ring.go:79", after := #[], guard := none }) rfl (fun K hK => ?_) AllReadyH.nil
      go_simp
      go_wp2_with fail
      have K5 := bAl hHeld0.2.2.2.2.out (.cells (rowC zRow) 58)
      refine hK.out _ _ (hS5 _ K5) (fun hHeld1 => ?_)
      clear hK K
      try simp only [Act.put, List.setIfInBounds_toArray, List.set_cons_zero, List.set_cons_succ]
      refine wpAnyH_ready (rs := [18]) (by kernel_rfl) (by simp) ?_
      refine AllReadyH.cons (o := { dst := none, op := Op.store 58 (Operand.tmp 4) (Operand.tmp 26), type := 0, pos := "ring.go:79", after := #[{ on := 17, ground := Ground.data }, { on := 16, ground := Ground.data }, { on := 0, ground := Ground.phase }, { on := 1, ground := Ground.phase }, { on := 2, ground := Ground.phase }, { on := 3, ground := Ground.phase }, { on := 4, ground := Ground.phase }, { on := 5, ground := Ground.phase }, { on := 6, ground := Ground.phase }, { on := 7, ground := Ground.phase }, { on := 8, ground := Ground.phase }, { on := 9, ground := Ground.phase }, { on := 10, ground := Ground.phase }, { on := 11, ground := Ground.phase }, { on := 12, ground := Ground.phase }, { on := 13, ground := Ground.phase }, { on := 14, ground := Ground.phase }, { on := 15, ground := Ground.phase }, { on := 16, ground := Ground.phase }, { on := 17, ground := Ground.phase }], guard := none }) rfl (fun K hK => ?_) AllReadyH.nil
      have N5 : AtC (wr.drew.alloc (.cells (rowC zRow) 58)) wr.heap.size (rowC zRow) := AtC.new wr.drew (rowC zRow) 58
      have n5t : World.there (wr.drew.alloc (.cells (rowC zRow) 58)) wr.heap.size 0 C.size := by rw [← hC19]; exact there_at (C := rowC zRow) N5
      refine wp_store_mid _ _ _ rfl wr.heap.size 0 C rfl rfl n5t hCs2 hC1 ?_
      have K6 := set_below K5 (Nat.le_refl _) C
      have X6 := set_at (C := C) N5 hC19
      refine hK.out _ _ (hS5 _ K6) (fun hHeld2 => ?_)
      clear hK K
      try simp only [Act.put, List.setIfInBounds_toArray, List.set_cons_zero, List.set_cons_succ]
      refine wpAnyH_done (by kernel_rfl) ?_ _
      change Exit.then _ _ _ _ ((wr.drew.alloc (.cells (rowC zRow) 58)).setCells wr.heap.size 0 C.toList)
      generalize (wr.drew.alloc (.cells (rowC zRow) 58)).setCells wr.heap.size 0 C.toList = W3 at *
      rw [← HC.out] at X6
      have x0 : W3.cell? ⟨wr.heap.size, 0, none⟩ = some (.int .i64 x.1) := (X6.c 0).trans (row0 x)
      have xt := range_tail X6
      have xl := X6.lt
      have HJ3 := HJ.out _ wr _ none HJs.out (grownBy_of_below K6) (fun r e => by cases e)
      have HYx := HY.out _ _ _ HJ3 HP.out
      have HR3 := Lib.hid (HRg.out.below K6)
      have HC3 := Lib.hid (hS5 _ K6).1
      have HZ3 : Hid (wr.heap.size ≤ W3.heap.size) := Lib.hid K6.size
      obtain ⟨CE, hE⟩ : ∃ CE, enC x.2 = CE := ⟨_, rfl⟩
      have hEs : (Try.prog.info? 35).map (·.size) = some CE.toList.length := by rw [← hE]; kernel_rfl
      have hEv : en x.2 = .agg CE := by rw [← hE]
      rw [hEv] at HYx
      rw [hE] at xt
      have XT := Lib.hid xt
      obtain ⟨fn, tmps, assign, body, hy, hRy⟩ := HYx
      have HRy := Lib.hid hRy
      clear hRy HJ3 hS5 hS0 K5 n5t N5 hHeld0 hHeld1 hHeld2 hE hEv X6 xt hCs hCs2 hC1 hC19 HC K6
      gi_wp2_with ((show wpListIn _ _ _ _ _ ({ dst := some 31, op := _, type := _, pos := _, after := _, guard := _ } :: _) _ _); (refine wpListIn_load_mid rfl _ _ rfl wr.heap.size 1 rfl CE.toList _ XT.out Try.underlying35 rfl hEs ?_))
      refine HRy.out.mono ?_
      rintro e W4 (⟨rfl, hJ4, hk4⟩ | ⟨rfl, hJx4⟩)
      · have HJ4 := Lib.hid hJ4
        have HR4 := Lib.hid (HR3.out.kb hk4)
        have HC4 := Lib.hid ((World.cell?_of_block (a := ⟨Bb, 0, none⟩) hk4.2).trans HC3.out)
        clear hJ4 hk4
        gi_wp2
        go_roundw
        case rel => exact ⟨k + 1, by go_num, by omega, HR4.out, HC4.out, World.block_lt_of_cell? W4 _ HC4.out, by rw [HT.out]; exact HJ4.out⟩
        case measure => simp [intOf]; omega
      · gi_wp2
        refine bodyPost_ret (results_none rfl _ _ _) rfl ?_
        exact ⟨⟨_, rfl⟩, .inr ⟨_, HP.out, hJx4⟩⟩
    · have e : k = (kept g).length := by omega
      have i1 : ¬ (k : Int) < ((kept g).length : Int) := by omega
      rw [e, List.take_length] at hJs
      have HJs := Lib.hid hJs
      clear hJs hRg e
      gi_wp2
      go_end0
      exact ⟨⟨_, rfl⟩, .inl HJs.out⟩
end Go.Proofs.Ytecdcfmbhphagaa.BX
