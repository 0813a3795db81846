/-
  THE ITERATOR over rows: it hands them over, one by one, whatever the loop body does that keeps the rows.
-/
import Derived.Test.YtenjpimmjpkjbaaDoorICopy
namespace Go.Proofs.YtenjpimmjpkjbaaDoor.IX
open Go.RowKit HL
set_option maxRecDepth 100000
set_option linter.unusedVariables false
set_option linter.unusedSimpArgs false
attribute [local go_sem] Oper.semAt_some

/-- The rows' block is as it was. -/
def KeepA (A : Option Addr) (W W' : World) : Prop := ∀ a, A = some a → W'.heap[a.block]? = W.heap[a.block]?
theorem KeepA.t {A : Option Addr} {W W1 W2 : World} (h : KeepA A W W1) (k : KeepA A W1 W2) : KeepA A W W2 := fun a e => (k a e).trans (h a e)
theorem RdK.keepA {α : Type} {K : El α} {w w' : World} {B : Nat} {A : Option Addr} {l : List α} (h : RdK K w B A l) (k : KeepA A w w') : RdK K w' B A l := by
  rcases h with h | ⟨b, off, rfl, hb, hc⟩
  · exact .inl h
  · exact .inr ⟨b, off, rfl, hb, fun m u hu => (World.cell?_of_block (a := ⟨b, off + m, none⟩) (k ⟨b, off, none⟩ rfl)).trans (hc m u hu)⟩
theorem RdK.self {α : Type} {K : El α} {w : World} {B : Nat} {A : Option Addr} {l : List α} (h : RdK K w B A l) : RdK K w w.heap.size A l := by
  cases l with
  | nil => exact .inl rfl
  | cons x l =>
    rcases h with h | ⟨b, off, rfl, hb, hc⟩
    · cases h
    · have hl : 0 < (cellsK K (x :: l)).length := by rw [cellsK_len, List.length_cons]; exact Nat.mul_pos (by omega) K.pos
      have c0 := hc 0 _ (List.getElem?_eq_getElem hl)
      exact .inr ⟨b, off, rfl, World.block_lt_of_cell? w _ c0, hc⟩
theorem pre_succ {l : List Rw} {k : Nat} (h : k < l.length) : l.take k ++ [l[k]] <+: l := by
  rw [← List.take_succ_eq_append_getElem h]; exact List.take_prefix _ _
set_option maxHeartbeats 2000000 in
theorem each1_in (F : Fence) (n : Nat) (hF : F.fn 70) (hro : F.round = none) (hn : 1 ≤ n) (l Bb : Nat) (A : Option Addr) (c : Nat) (xs : List Rw) (J Jx : List Rw → World → Prop)
    (hY : ∀ pre x W, J pre W → pre ++ [x] <+: xs → YieldAt F (n - 1) Tryd.prog l #[str x.1, .int .i64 x.2] W fun e W' =>
      (e = .returned (.bool true) ∧ J (pre ++ [x]) W' ∧ KeepA A W W') ∨ (e = .returned (.bool false) ∧ Jx (pre ++ [x]) W'))
    (W : World) (hJ : AbidesFrom W.heap.size J) (hb : W.cell? ⟨Bb, 0, none⟩ = some (.slice A xs.length c)) (hr : RdK rowK W W.heap.size A xs) (hlen : xs.length ≤ 1000000) (h0 : J [] W) :
    CallsIn F n Tryd.prog 70 #[.func (.yield l) #[] #[], .pointer (some ⟨Bb, 0, none⟩)] W fun e W' => (∃ v, e = .returned v) ∧
      ((∃ ys, ys = xs ∧ J ys W') ∨ (∃ pre, pre <+: xs ∧ Jx pre W')) := by
  refine callsIn_of_wp Tryd.func70 rfl hF ?_ hro
  simp only [Tryd.ntmps70, List.size_toArray, List.length_cons, List.length_nil, Nat.reduceAdd, Nat.reduceSub, Array.replicate_succ, Array.replicate_zero, List.push_toArray, List.append_toArray, List.nil_append, List.cons_append]
  gi_wp2
  gi_loopw [7] (fun st wr => ∃ k : Nat, st = .int .i64 k ∧ k ≤ xs.length ∧ RdK rowK wr wr.heap.size A xs ∧ J (xs.take k) wr) (fun st _ => xs.length - (intOf st).toNat)
  case atStart => exact ⟨0, rfl, Nat.zero_le _, hr, by simpa using h0⟩
  case round =>
    obtain ⟨k, rfl, hk, hrd, hJs⟩ := hrel
    by_cases hlt : k < xs.length
    · obtain ⟨b, off, rfl, hbb, hcc⟩ := hrd.rows.at_ (by omega)
      obtain ⟨q1, q2⟩ := hcc _ _ (List.getElem?_eq_getElem hlt)
      have i1 : (k : Int) < xs.length := by omega
      have hJ2 : J (xs.take k) (wr.alloc (.cells #[str xs[k].1, .int .i64 xs[k].2] 81)) := hJ _ wr _ none hJs (World.grownBy_alloc wr _ none) (fun r e => by cases e)
      obtain ⟨fn, tmps, assign, body, hy, hR⟩ := hY _ _ _ hJ2 (pre_succ hlt)
      have HT : Hid (xs.take (k + 1) = xs.take k ++ [xs[k]]) := Lib.hid (List.take_succ_eq_append_getElem hlt)
      have HP := Lib.hid (pre_succ hlt)
      have HRD := Lib.hid hrd
      have HJ2 := Lib.hid hJ2
      clear hJ2 hJs hcc hrd hr h0 hb
      gi_wp2
      refine hR.mono ?_
      rintro e W3 (⟨rfl, hJ3, hk3⟩ | ⟨rfl, hJx3⟩)
      · have HJ3 := Lib.hid hJ3
        have HRD3 := Lib.hid ((HRD.out.below ((Below.refl _ _).alloc (Nat.le_refl _) _)).keepA hk3).self
        clear hJ3 hk3
        gi_wp2
        go_roundw
        case rel => exact ⟨k + 1, by go_num, by omega, HRD3.out, by rw [HT.out]; exact HJ3.out⟩
        case measure => simp [intOf]; omega
      · gi_wp2
        refine bodyPost_ret (results_none rfl _ _ _) rfl ?_
        exact ⟨⟨_, rfl⟩, .inr ⟨_, HP.out, hJx3⟩⟩
    · obtain rfl : k = xs.length := by omega
      have e1 : xs.take xs.length = xs := List.take_length
      have HJs := Lib.hid (e1 ▸ hJs)
      clear hJs e1 hJ
      gi_wp2
      go_end0
      exact ⟨⟨_, rfl⟩, .inl ⟨xs, rfl, HJs.out⟩⟩
theorem keepA_b {A : Option Addr} {w : World} (hA : ∀ a, A = some a → a.block < w.heap.size) (W : World) (l : Nat) (o o' : Obj) (hl : w.heap.size ≤ l) (h : W.heap[l]? = some o) (hc : o.isCells = false) (hw : o.isWalk = false) : KeepA A W (W.putObj l o') :=
  fun a e => World.putObj_heap_other (by have := hA a e; omega)
/-- The iterator, for any caller's law. -/
theorem each_stops (F : Fence) (n : Nat) (hF : F.fn 70) (hro : F.round = none) (hn : 1 ≤ n) (Bb : Nat) (A : Option Addr) (c : Nat) (xs : List Rw) (w : World)
    (hb : w.cell? ⟨Bb, 0, none⟩ = some (.slice A xs.length c)) (hBb : Bb < w.heap.size) (hr : RdK rowK w w.heap.size A xs) (hlen : xs.length ≤ 1000000) :
    SeqStopsK F n Tryd.prog 70 #[.pointer (some ⟨Bb, 0, none⟩)] (fun x : Rw => #[str x.1, .int .i64 x.2]) (KeepA A) (fun ys => ys = xs) (fun pre => pre <+: xs) xs.length w := fun l J Jx W hW hJ _ hY h0 =>
  each1_in F n hF hro hn l Bb A c xs J Jx (fun pre x W1 hj hp => hY pre x W1 hj (by have := hp.length_le; simp at this; omega)) W hJ ((hW.cell (p := ⟨Bb, 0, none⟩) hBb).trans hb) ((hr.below hW).more hW.size) hlen h0
end Go.Proofs.YtenjpimmjpkjbaaDoor.IX
