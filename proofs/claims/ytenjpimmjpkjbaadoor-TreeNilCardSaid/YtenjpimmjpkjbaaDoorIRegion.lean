/-
  A STATEMENT WITH TWO APPENDS OF ONE ELEMENT EACH, each to a boxed row, in a round of a range over a function: whatever order its operations take.
-/
import Derived.Test.YtenjpimmjpkjbaaDoorIAll
import Derived.OrdersIn
namespace Go.Proofs.YtenjpimmjpkjbaaDoor.IX
open Go.RowKit HL
set_option maxRecDepth 100000
set_option linter.unusedVariables false
set_option linter.unusedSimpArgs false
attribute [local go_sem] Oper.semAt_some

/-- Operation i is this one. -/
def OpIs (ops : Array Oper) (i : Nat) (d : Option Tmp) (op : Op) : Prop := ∃ o, ops[i]? = some o ∧ o.dst = d ∧ o.op = op ∧ o.guard = none
theorem OpIs.run {ops : Array Oper} {i : Nat} {d : Option Tmp} {op : Op} (h : OpIs ops i d op) (hd : ∀ c, op ≠ .defer c) {F : Fence} {n : Nat} {Q : Exit → Act → World → Prop} {K : Act → World → Prop} {a : Act} {w : World}
    (hab : ∀ o : Oper, o.op = op → ∀ f, o.about Tryd.prog w a.eval = some f → F.fn f) {v : Value} {w' : World} (hr : ∀ o : Oper, o.op = op → (execOp a.eval o).run Tryd.prog w = .ok (.value v) w') (hK : K (a.put d v) w') : wpOpIn F n Tryd.prog ops Q i K a w := by
  obtain ⟨o, h1, rfl, rfl, h4⟩ := h
  unfold wpOpIn
  rw [h1]
  have hw : Region.wanted o (yielded ops a.tmps) = true := by simp [Region.wanted, h4]
  simp only [hw, if_true]
  unfold Oper.wpIn
  refine ⟨hab o rfl, ?_⟩
  rw [Oper.semAt_plain F _ _ hd, hr o rfl]
  exact hK
theorem OpIs.runs {ops : Array Oper} {i : Nat} {d : Option Tmp} {op : Op} (h : OpIs ops i d op) (hd : ∀ c, op ≠ .defer c) {F : Fence} {n : Nat} {Q : Exit → Act → World → Prop} {K : Act → World → Prop} {a : Act} {w : World}
    (hab : ∀ o : Oper, o.op = op → ∀ f, o.about Tryd.prog w a.eval = some f → F.fn f) {w' : World} (hr : ∀ o : Oper, o.op = op → (execOp a.eval o).run Tryd.prog w = .ok .skip w') (hK : K (a.put d undef) w') : wpOpIn F n Tryd.prog ops Q i K a w := by
  obtain ⟨o, h1, rfl, rfl, h4⟩ := h
  unfold wpOpIn
  rw [h1]
  have hw : Region.wanted o (yielded ops a.tmps) = true := by simp [Region.wanted, h4]
  simp only [hw, if_true]
  unfold Oper.wpIn
  refine ⟨hab o rfl, ?_⟩
  rw [Oper.semAt_plain F _ _ hd, hr o rfl]
  exact hK
theorem run_load1 {a : Act} {w : World} {T : TypeId} {t : Tmp} {B : Nat} {v : Value} (hT : ∀ W, (isAgg T).run Tryd.prog W = .ok false W) (o : Oper) (ho : o.op = .load T (.tmp t)) (ht : a.eval (.tmp t) = .pointer (some ⟨B, 0, none⟩)) (hc : w.cell? ⟨B, 0, none⟩ = some v) : (execOp a.eval o).run Tryd.prog w = .ok (.value v) w := by
  simp only [execOp, ho, ht]
  go_simp
theorem run_store1 {a : Act} {w : World} {T : TypeId} {t s : Tmp} {B : Nat} {A : Option Addr} {n c : Nat} {v : Value} (hT : ∀ W, (isAgg T).run Tryd.prog W = .ok false W) (hS : ∀ W, (sizeOf T).run Tryd.prog W = .ok 1 W) (o : Oper) (ho : o.op = .store T (.tmp t) (.tmp s)) (ht : a.eval (.tmp t) = .pointer (some ⟨B, 0, none⟩)) (hs : a.eval (.tmp s) = .slice A n c)
    (hc : w.cell? ⟨B, 0, none⟩ = some v) (hf : w.frozen? ⟨B, 0, none⟩ = false) : (execOp a.eval o).run Tryd.prog w = .ok .skip (w.setCell ⟨B, 0, none⟩ (.slice A n c)) := by
  simp only [execOp, ho, ht, hs]
  go_simp
theorem lit_str (w : World) (x : Bs) : (Instr.buildSlice 43 1 #[(0, str x)]).run Tryd.prog w = .ok (.slice (some ⟨w.heap.size, 0, none⟩) 1 1) (w.alloc (.cells #[str x] 9)) := by go_simp
theorem run_lit_str {a : Act} {w : World} {t : Tmp} {x : Bs} (o : Oper) (ho : o.op = .buildSlice 43 1 #[(0, .tmp t)]) (ht : a.eval (.tmp t) = str x) : (execOp a.eval o).run Tryd.prog w = .ok (.value (.slice (some ⟨w.heap.size, 0, none⟩) 1 1)) (w.alloc (.cells #[str x] 9)) := by
  simp only [execOp, ho, List.map_toArray, List.map_cons, List.map_nil, ht, Sem.run_bind, lit_str, Result.andThen_ok, Sem.run_pure]
/-- Blocks of these kinds of cells lie as they lay. -/
def KeepT (T1 T2 : TypeId) (w w' : World) : Prop := ∀ (k : Nat) (C : Array Value) (T : TypeId), w.heap[k]? = some (Obj.cells C T (0, 0)) → (T = T1 ∨ T = T2) → w'.heap[k]? = some (Obj.cells C T (0, 0))
theorem KeepT.alloc (T1 T2 : TypeId) (w : World) (o : Obj) : KeepT T1 T2 w (w.alloc o) := fun k C T h _ => (Below.heap_alloc w o k (Array.getElem?_eq_some_iff.1 h).1).trans h
theorem KeepT.grown {T1 T2 : TypeId} {w w' : World} {α : Type} {K : El α} {base : Nat} {v : Value} {l : List α} (ho : OwnK K w base v l) (g : w.grownBy w' v.ownBlock) (h1 : K.e ≠ T1) (h2 : K.e ≠ T2) : KeepT T1 T2 w w' := fun k C T h hT => by
  rw [g.block k (Array.getElem?_eq_some_iff.1 h).1 (fun e => ?_), h]
  rcases ho.2 with ⟨rfl, _⟩ | ⟨g', cap, cur, rfl, _, hh, _⟩
  · simp [Value.ownBlock] at e
  · simp only [Value.ownBlock, Option.some.injEq] at e
    subst e
    rw [h] at hh
    simp only [Option.some.injEq, Obj.cells.injEq] at hh
    rcases hT with hT | hT
    · exact h1 (hh.2.1.symm.trans hT)
    · exact h2 (hh.2.1.symm.trans hT)
theorem KeepT.set {T1 T2 Tb : TypeId} {w : World} {B : Nat} {v : Value} (hb : Boxed w B Tb v) (h1 : Tb ≠ T1) (h2 : Tb ≠ T2) (u : Value) : KeepT T1 T2 w (w.setCell ⟨B, 0, none⟩ u) := fun k C T h hT => by
  rw [Below.heap_setCell _ _ _ _ (fun e => ?_), h]
  have e : k = B := e
  subst e
  have hb : w.heap[k]? = some (Obj.cells #[v] Tb (0, 0)) := hb
  rw [h] at hb
  simp only [Option.some.injEq, Obj.cells.injEq] at hb
  rcases hT with hT | hT
  · exact h1 (hb.2.1.symm.trans hT)
  · exact h2 (hb.2.1.symm.trans hT)
/-- One half of the statement: which of its operations are done, and what they have come to. -/
structure Half {α : Type} (K : El α) (Bx : Nat) (Tb : TypeId) (base : Nat) (v : Value) (L : List α) (x : α) (u : Value) (b0 b1 b2 b3 b8 : Bool) (s0 s1 s2 s3 : Value) (w : World) : Prop where
  h0 : b0 = true → s0 = v
  h1 : b1 = true → s1 = u
  h2 : b2 = true → b3 = false → ∃ g, s2 = .slice (some ⟨g, 0, none⟩) 1 1 ∧ w.heap[g]? = some (Obj.cells #[u] K.e (0, 0)) ∧ v.ownBlock ≠ some g
  h3 : b3 = false → OwnK K w base v L
  h4 : b3 = true → OwnK K w base s3 (L ++ [x])
  h5 : b8 = false → Boxed w Bx Tb v
  h6 : b8 = true → Boxed w Bx Tb s3
theorem OwnK.keepT {α : Type} {K : El α} {w w' : World} {base : Nat} {v : Value} {l : List α} {Tb : TypeId} (h : OwnK K w base v l) (k : KeepT K.e Tb w w') : OwnK K w' base v l := by
  refine ⟨h.1, ?_⟩
  rcases h.2 with h2 | ⟨g, cap, cur, rfl, hg, hh, r⟩
  · exact .inl h2
  · exact .inr ⟨g, cap, cur, rfl, hg, k g _ _ hh (.inl rfl), r⟩
theorem Half.keep {α : Type} {K : El α} {Bx : Nat} {Tb : TypeId} {base : Nat} {v : Value} {L : List α} {x : α} {u : Value} {b0 b1 b2 b3 b8 : Bool} {s0 s1 s2 s3 : Value} {w w' : World} (h : Half K Bx Tb base v L x u b0 b1 b2 b3 b8 s0 s1 s2 s3 w) (k : KeepT K.e Tb w w') : Half K Bx Tb base v L x u b0 b1 b2 b3 b8 s0 s1 s2 s3 w' :=
  ⟨h.h0, h.h1, fun e2 e3 => by obtain ⟨g, e, hh, hn⟩ := h.h2 e2 e3; exact ⟨g, e, k g _ _ hh (.inl rfl), hn⟩, fun e => (h.h3 e).keepT k, fun e => (h.h4 e).keepT k, fun e => k _ _ _ (h.h5 e) (.inr rfl), fun e => k _ _ _ (h.h6 e) (.inr rfl)⟩
theorem Half.append {α : Type} {K : El α} {Bx : Nat} {Tb : TypeId} {base : Nat} {v : Value} {L : List α} {x : α} {u : Value} {s0 s1 s2 s3 : Value} {w : World} (h : Half K Bx Tb base v L x u true true true false false s0 s1 s2 s3 w) (hu : K.enc x = [u]) (hl : L.length + 1 ≤ 1000000) (hb : base ≤ w.heap.size) (ty : TypeId) (hT : Tb ≠ K.e) :
    ∃ s3' w', (Builtin.append_ #[K.T, K.T] ty #[s0, s2]).run Tryd.prog w = .ok s3' w' ∧ Half K Bx Tb base v L x u true true true true false s0 s1 s2 s3' w' ∧ w.grownBy w' v.ownBlock := by
  obtain ⟨g, rfl, hg, hn⟩ := h.h2 rfl rfl
  have e0 := h.h0 rfl
  subst e0
  have hr : RdK K w (g + 1) (some ⟨g, 0, none⟩) [x] := .inr ⟨g, 0, rfl, by omega, fun m q hq => by
    rw [Nat.zero_add, cell_of_row w g m _ _ (0, 0) hg]
    have hq : (K.enc x)[m]? = some q := by simpa [cellsK] using hq
    rw [hu] at hq
    simpa using hq⟩
  obtain ⟨v', w', h1, h2, h3, _⟩ := run_spreadK K ty w base s0 L (h.h3 rfl) _ _ 1 1 [x] rfl hr (by simpa using hl) hb
  refine ⟨v', w', h1, ⟨fun _ => rfl, h.h1, fun _ e => by simp at e, fun e => by simp at e, fun _ => h2, fun _ => ?_, fun e => by simp at e⟩, h3⟩
  exact Boxed.kept (h.h5 rfl) h3 (Boxed.not_row (h.h5 rfl) hT (h.h3 rfl))
theorem Half.lit {α : Type} {K : El α} {Bx : Nat} {Tb : TypeId} {base : Nat} {v : Value} {L : List α} {x : α} {u : Value} {b0 b8 : Bool} {s0 s1 s2 s3 : Value} {w : World} (h : Half K Bx Tb base v L x u b0 true false false b8 s0 s1 s2 s3 w) : Half K Bx Tb base v L x u b0 true true false b8 s0 s1 (.slice (some ⟨w.heap.size, 0, none⟩) 1 1) s3 (w.alloc (.cells #[u] K.e)) := by
  have k := h.keep (KeepT.alloc K.e Tb w (.cells #[u] K.e))
  refine ⟨k.h0, k.h1, fun _ _ => ⟨_, rfl, World.alloc_heap_new w _, fun e => ?_⟩, k.h3, k.h4, k.h5, k.h6⟩
  have := ((h.h3 rfl).lt _ e).2
  omega
theorem Half.stored {α : Type} {K : El α} {Bx : Nat} {Tb : TypeId} {base : Nat} {v : Value} {L : List α} {x : α} {u : Value} {b0 b1 b2 : Bool} {s0 s1 s2 s3 : Value} {w : World} (h : Half K Bx Tb base v L x u b0 b1 b2 true false s0 s1 s2 s3 w) (hT : Tb ≠ K.e) : Half K Bx Tb base v L x u b0 b1 b2 true true s0 s1 s2 s3 (w.setCell ⟨Bx, 0, none⟩ s3) := by
  refine ⟨h.h0, h.h1, fun _ e => by simp at e, fun e => by simp at e, fun _ => ?_, fun e => by simp at e, fun _ => Boxed.set s3 (h.h5 rfl)⟩
  have o := h.h4 rfl
  exact OwnK.kept o (P := fun k => k ≠ Bx) ((Kept.refl w _).set (fun _ p => p rfl) _) (fun b e e2 => by
    subst e2
    exact Boxed.not_row (h.h5 rfl) hT o e.symm)
def reach (b0 b1 b2 b3 b4 b5 b6 b7 b8 b9 : Bool) : Bool := (!b2 || b1) && (!b3 || (b0 && b2)) && (!b6 || b5) && (!b7 || (b4 && b6 && b3)) && (!b8 || (b3 && b7)) && (!b9 || b8)
def okI (i : Nat) (b0 b1 b2 b3 b4 b5 b6 b7 b8 b9 : Bool) : Bool := match i with
  | 0 => !b0 && !b3 && !b8
  | 1 => !b1 && !b2 && !b3 && !b8
  | 2 => b1 && !b2 && !b3 && !b8
  | 3 => b0 && b1 && b2 && !b3 && !b8 && !b7 && !b9
  | 4 => !b4 && !b7 && !b9
  | 5 => !b5 && !b6 && !b7 && !b9
  | 6 => b5 && !b6 && !b7 && !b9
  | 7 => b4 && b5 && b6 && b3 && !b7 && !b8 && !b9
  | 8 => b0 && b1 && b2 && b3 && b4 && b5 && b6 && b7 && !b8 && !b9
  | 9 => b0 && b1 && b2 && b3 && b4 && b5 && b6 && b7 && b8 && !b9
  | _ => false
def nots (b0 b1 b2 b3 b4 b5 b6 b7 b8 b9 : Bool) : Nat := (!b0).toNat + (!b1).toNat + (!b2).toNat + (!b3).toNat + (!b4).toNat + (!b5).toNat + (!b6).toNat + (!b7).toNat + (!b8).toNat + (!b9).toNat
/-- The frame, its slots 20 to 27 open. -/
structure Fr (mk : Value → Value → Value → Value → Value → Value → Value → Value → Act) (Bh Bn : Nat) (x : Bs) (y : Int) : Prop where
  p0 : ∀ s0 s1 s2 s3 s4 s5 s6 s7 z, (mk s0 s1 s2 s3 s4 s5 s6 s7).put (some 20) z = mk z s1 s2 s3 s4 s5 s6 s7
  p1 : ∀ s0 s1 s2 s3 s4 s5 s6 s7 z, (mk s0 s1 s2 s3 s4 s5 s6 s7).put (some 21) z = mk s0 z s2 s3 s4 s5 s6 s7
  p2 : ∀ s0 s1 s2 s3 s4 s5 s6 s7 z, (mk s0 s1 s2 s3 s4 s5 s6 s7).put (some 22) z = mk s0 s1 z s3 s4 s5 s6 s7
  p3 : ∀ s0 s1 s2 s3 s4 s5 s6 s7 z, (mk s0 s1 s2 s3 s4 s5 s6 s7).put (some 23) z = mk s0 s1 s2 z s4 s5 s6 s7
  p4 : ∀ s0 s1 s2 s3 s4 s5 s6 s7 z, (mk s0 s1 s2 s3 s4 s5 s6 s7).put (some 24) z = mk s0 s1 s2 s3 z s5 s6 s7
  p5 : ∀ s0 s1 s2 s3 s4 s5 s6 s7 z, (mk s0 s1 s2 s3 s4 s5 s6 s7).put (some 25) z = mk s0 s1 s2 s3 s4 z s6 s7
  p6 : ∀ s0 s1 s2 s3 s4 s5 s6 s7 z, (mk s0 s1 s2 s3 s4 s5 s6 s7).put (some 26) z = mk s0 s1 s2 s3 s4 s5 z s7
  p7 : ∀ s0 s1 s2 s3 s4 s5 s6 s7 z, (mk s0 s1 s2 s3 s4 s5 s6 s7).put (some 27) z = mk s0 s1 s2 s3 s4 s5 s6 z
  e8 : ∀ s0 s1 s2 s3 s4 s5 s6 s7, (mk s0 s1 s2 s3 s4 s5 s6 s7).eval (.tmp 8) = ptr Bh
  e9 : ∀ s0 s1 s2 s3 s4 s5 s6 s7, (mk s0 s1 s2 s3 s4 s5 s6 s7).eval (.tmp 9) = ptr Bn
  e10 : ∀ s0 s1 s2 s3 s4 s5 s6 s7, (mk s0 s1 s2 s3 s4 s5 s6 s7).eval (.tmp 10) = str x
  e11 : ∀ s0 s1 s2 s3 s4 s5 s6 s7, (mk s0 s1 s2 s3 s4 s5 s6 s7).eval (.tmp 11) = .int .i64 y
  e20 : ∀ s0 s1 s2 s3 s4 s5 s6 s7, (mk s0 s1 s2 s3 s4 s5 s6 s7).eval (.tmp 20) = s0
  e21 : ∀ s0 s1 s2 s3 s4 s5 s6 s7, (mk s0 s1 s2 s3 s4 s5 s6 s7).eval (.tmp 21) = s1
  e22 : ∀ s0 s1 s2 s3 s4 s5 s6 s7, (mk s0 s1 s2 s3 s4 s5 s6 s7).eval (.tmp 22) = s2
  e23 : ∀ s0 s1 s2 s3 s4 s5 s6 s7, (mk s0 s1 s2 s3 s4 s5 s6 s7).eval (.tmp 23) = s3
  e24 : ∀ s0 s1 s2 s3 s4 s5 s6 s7, (mk s0 s1 s2 s3 s4 s5 s6 s7).eval (.tmp 24) = s4
  e25 : ∀ s0 s1 s2 s3 s4 s5 s6 s7, (mk s0 s1 s2 s3 s4 s5 s6 s7).eval (.tmp 25) = s5
  e26 : ∀ s0 s1 s2 s3 s4 s5 s6 s7, (mk s0 s1 s2 s3 s4 s5 s6 s7).eval (.tmp 26) = s6
  e27 : ∀ s0 s1 s2 s3 s4 s5 s6 s7, (mk s0 s1 s2 s3 s4 s5 s6 s7).eval (.tmp 27) = s7
theorem agg_strs (W : World) : (isAgg 43).run Tryd.prog W = .ok false W := by kernel_rfl
theorem size_strs (W : World) : (sizeOf 43).run Tryd.prog W = .ok 1 W := by kernel_rfl
end Go.Proofs.YtenjpimmjpkjbaaDoor.IX
