/-
  WALKS: the document's arena: Copy.
-/
import Derived.Test.YtaofhooddbkglaaARefNew
import Derived.Deep.AppendLies
import Derived.Laws.Append
namespace Go.Proofs.Ytaofhooddbkglaa
open Go.RowKit
set_option maxRecDepth 100000
set_option linter.unusedVariables false
set_option linter.unusedSimpArgs false

/-- 'append(T{}, xs...)' (an empty literal with no room) as one step of a region that draws. -/
theorem step_onto {P : Program} {ops : Array Oper} {o : Oper} {a : Act} {w : World} {K : Act → World → Prop} {Q : Exit → Act → World → Prop} {E : Prop} (hgd : o.guard = none) (s x : Operand) (t e : TypeId) (z : Value) (bytes : Nat)
    (ho : o.op = .call { callee := .builtin .append, args := #[s, x], argTypes := #[t, t] }) (ht : P.underlying t = some (.slice e)) (hinfo : (P.info? e).map (fun i => (i.zero, i.size, i.bytes)) = some (some z, 1, bytes)) (hb : bytes ≤ 8)
    (g : Addr) (hs : a.eval s = .slice (some g) 0 0) (T m c : Nat) (news : List Value) (hx : a.eval x = .slice (some ⟨T, 0, none⟩) m c) (hl : news.length = m)
    (hnews : ∀ j v, news[j]? = some v → w.cell? ⟨T, j, none⟩ = some v) (hm : 0 < m) (hm2 : m ≤ 64)
    (h : ∀ (cap : Nat) (C : Array Value), m ≤ cap → (∀ (j : Nat) v, news[j]? = some v → C[j]? = some v) → K (a.put o.dst (.slice (some ⟨w.heap.size, 0, none⟩) m cap)) (w.drew.alloc (.cells C e))) :
    if Region.wanted o (yielded ops a.tmps) = true then Oper.wp P o a w K Q else E := by
  have hw : Region.wanted o (yielded ops a.tmps) = true := by simp [Region.wanted, hgd]
  rw [if_pos hw]
  obtain ⟨i0, hi, hz0, hz1, hz2⟩ := info_parts hinfo
  have hfit : Builtin.nextslicecap (0 + m) 0 * i0.bytes ≤ 281474976710656 := growslice_fits (by omega) (by rw [hz2]; have : (0 + m) * bytes ≤ 64 * 8 := Nat.mul_le_mul (by omega) hb; omega)
  have hr := run_append_grow (P := P) w t o.type e i0 z ht hi hz0 g 0 0 [] (by simp) (by simp) ⟨T, 0, none⟩ m c news (by rw [hz1, hl, Nat.mul_one]) (fun j v hv => by
    rw [show (⟨T, 0, none⟩ : Addr).add j = ⟨T, j, none⟩ by unfold Addr.add; split <;> simp_all]; exact hnews j v hv) (by omega) (by omega) hfit
  have hge := grownCap_ge w (0 + m) 0 e
  simp only [Nat.zero_add] at hr hge
  unfold Oper.wp execOp
  simp only [ho, resolve, invoke, builtin, Sem.run_bind, Sem.run_pure, Result.andThen_ok, List.map_toArray, List.map_cons, List.map_nil, hs, hx, hr]
  refine h _ _ hge fun j v hv => ?_
  have hj : j < news.length := (List.getElem?_eq_some_iff.1 hv).1
  simp [Array.getElem?_append, hj]
  exact (List.getElem?_eq_some_iff.1 hv).2
def tkV (s : Ar) : List Value := (List.range s.tk.length).map fun i => .bool (s.tk.getD i false)
def agV (s : Ar) : List Value := (List.range s.tk.length).map fun i => .int .i64 (s.ag.getD i 0 : Int)
theorem RfAt.tks {W : World} {X T G cT cG : Nat} {s : Ar} (h : RfAt W X T G cT cG s) : ∀ j v, (tkV s)[j]? = some v → W.cell? ⟨T, j, none⟩ = some v := by
  intro j v hv
  unfold tkV at hv
  have hj : j < s.tk.length := by have := (List.getElem?_eq_some_iff.1 hv).1; simpa using this
  rw [h.t j hj, ← hv]; simp [hj]
theorem RfAt.ags {W : World} {X T G cT cG : Nat} {s : Ar} (h : RfAt W X T G cT cG s) : ∀ j v, (agV s)[j]? = some v → W.cell? ⟨G, j, none⟩ = some v := by
  intro j v hv
  unfold agV at hv
  have hj : j < s.tk.length := by have := (List.getElem?_eq_some_iff.1 hv).1; simpa using this
  rw [h.g j hj, ← hv]; simp [hj]
theorem rf_copy {W : World} {X T G cT cG : Nat} {s : Ar} {C1 C2 : Array Value} (hx : AtC W X (rfC T G s.tk.length cT cG)) (ht : AtC W T C1) (hg : AtC W G C2) (h1 : ∀ (j : Nat) v, (tkV s)[j]? = some v → C1[j]? = some v) (h2 : ∀ (j : Nat) v, (agV s)[j]? = some v → C2[j]? = some v)
    (q1 : s.tk.length ≤ cT) (q2 : s.tk.length ≤ cG) (n1 : X ≠ T) (n2 : X ≠ G) (n3 : T ≠ G) : RfAt W X T G cT cG s :=
  ⟨hx, ht.lt, hg.lt, fun i hi => by rw [ht.c i]; exact h1 i _ (by simp [tkV, hi]), fun i hi => by rw [hg.c i]; exact h2 i _ (by simp [agV, hi]), ht.f, hg.f, n1, n2, n3, q1, q2⟩
set_option maxHeartbeats 2000000 in
theorem rCopy_any {X T G cT cG : Nat} {s : Ar} (hs : ArOk s) (w : World) (hR : RfAt w X T G cT cG s) : Calls Try.prog 26 #[ptr X] w fun e w' => ∃ X2 T2 G2 cT2 cG2, e = .returned (ptr X2) ∧ RfAt w' X2 T2 G2 cT2 cG2 s ∧ Below w.heap.size w w' ∧ w.heap.size ≤ X2 ∧ w.heap.size ≤ T2 ∧ w.heap.size ≤ G2 := by
  have hx0 := hR.x.c 0
  have hx1 := hR.x.c 1
  have hx := hR.x.lt
  have h1 := hs.pos
  have h2 := hs.le
  have HR := Lib.hid hR
  have l1 : (tkV s).length = s.tk.length := by simp [tkV]
  have l2 : (agV s).length = s.tk.length := by simp [agV]
  have L1 := Lib.hid l1
  have L2 := Lib.hid l2
  have hS : ∀ W, Below w.heap.size w W → (W.cell? ⟨X, 0, none⟩ = some (.slice (some ⟨T, 0, none⟩) s.tk.length cT) ∧ W.cell? ⟨X, 1, none⟩ = some (.slice (some ⟨G, 0, none⟩) s.tk.length cG) ∧ Below w.heap.size w W) := fun W b => ⟨(HR.out.then b).x.c 0, (HR.out.then b).x.c 1, b⟩
  have HS := Lib.hid hS
  clear hR hS hs l1 l2
  go_enter Try.func26, Try.ntmps26
  go_wp2
  go_region_held3 (fun w' => w'.cell? ⟨X, 0, none⟩ = some (.slice (some ⟨T, 0, none⟩) s.tk.length cT) ∧ w'.cell? ⟨X, 1, none⟩ = some (.slice (some ⟨G, 0, none⟩) s.tk.length cG) ∧ Below w.heap.size w w') (exact HS.out _ (by repeat (first | exact Below.refl _ _ | refine Below.drew ?_ | refine Below.alloc ?_ (by simp; try omega) _)))
    (first
      | ((refine step_onto (by rfl) _ _ 54 4 (.bool false) 1 (by rfl) Try.underlying54 info_bool (by omega) _ (by rfl) T _ _ (tkV s) (by rfl) L1.out (HR.out.then (by repeat (first | exact Below.refl _ _ | refine Below.drew ?_ | refine Below.alloc ?_ (by simp; try omega) _))).tks h1 h2 ?_; intro cap1 C1 hcap1 hC1))
      | ((refine step_onto (by rfl) _ _ 40 3 (.int .i64 0) 8 (by rfl) Try.underlying40 info_int (by omega) _ (by rfl) G _ _ (agV s) (by rfl) L2.out (HR.out.then (by repeat (first | exact Below.refl _ _ | refine Below.drew ?_ | refine Below.alloc ?_ (by simp; try omega) _))).ags h1 h2 ?_; intro cap2 C2 hcap2 hC2)))
  all_goals
    rename_i hLast
    have hbel := hLast.2.2
    clear hLast
    go_wp2
    go_ret
    exact ⟨_, _, _, _, _, rfl, rf_copy (C1 := C1) (C2 := C2) (by repeat (first | exact AtC.newAt (by simp) | refine AtC.drew1 ?_ | refine AtC.al ?_ _)) (by repeat (first | exact AtC.newAt (by simp) | refine AtC.drew1 ?_ | refine AtC.al ?_ _)) (by repeat (first | exact AtC.newAt (by simp) | refine AtC.drew1 ?_ | refine AtC.al ?_ _)) hC1 hC2 hcap1 hcap2 (by omega) (by omega) (by omega), hbel, by omega, by omega, by omega⟩
end Go.Proofs.Ytaofhooddbkglaa
