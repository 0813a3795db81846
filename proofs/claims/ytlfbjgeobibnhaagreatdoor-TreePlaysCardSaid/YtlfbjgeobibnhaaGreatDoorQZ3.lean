/-
  WALKS: the library's Clone at rows; Copy, each, From of an index; the iterator that each makes.
-/
import Derived.Test.YtlfbjgeobibnhaaGreatDoorQZ1
import Derived.RangeFuncNested
import Derived.RangeFuncBound
import Derived.RangeFuncBox
import Derived.RangeFuncCalls
import Derived.RangeFuncLeaves
import Derived.Shelf.Abstract
import Derived.OwnWalkIn
import Derived.TacticsInMore
import Derived.LoopNIn
import Derived.LoopIn
import Derived.Maps.AppendAt
import Derived.RangeFuncWrites
import Derived.OrdersIn
import Derived.Test.YtlfbjgeobibnhaaGreatDoorQZ2
namespace Go.Proofs.YtlfbjgeobibnhaaGreatDoor.IX
open Go.RowKit HL
set_option maxRecDepth 100000
set_option linter.unusedVariables false
set_option linter.unusedSimpArgs false

set_option maxHeartbeats 1000000 in
theorem clone_any (A : Option Addr) (n c : Nat) (l : List Rw) (w : World) (hn : l.length = n) (hr : RdK rowK w w.heap.size A l) (hl : l.length ≤ 1000000) (h0 : A = none → n = 0 ∧ c = 0) :
    Calls Tryz.prog 62 #[.slice A n c] w fun e w' => ∃ v', e = .returned v' ∧ OwnK rowK w' w.heap.size v' l ∧ Below w.heap.size w w' := by
  cases A with
  | none =>
    obtain ⟨rfl, rfl⟩ := h0 rfl
    obtain rfl : l = [] := List.eq_nil_of_length_eq_zero hn
    clear hr h0 hn hl
    have HE : ∀ W, (binOp .eql 93 (.slice none 0 0) (.slice none 0 0)).run Tryz.prog W = .ok (.bool true) W := fun W => Lib.run_eql_slice_nil W _ _ none 0 0 0 0 Tryz.underlying93
    go_enter Tryz.func62, Tryz.ntmps62
    go_wp2
    go_ret
    exact ⟨_, rfl, OwnK.nil_ _ _ _, Below.refl _ _⟩
  | some a =>
    have HR := Lib.hid hr
    have HN := Lib.hid hn
    have hb : Below w.heap.size w (w.alloc (.cells #[] 96)) := (Below.refl _ _).alloc (Nat.le_refl _) _
    have HB := Lib.hid hb
    clear hr h0 hn hb
    have HE : ∀ W, (binOp .eql 93 (.slice (some a) n c) (.slice none 0 0)).run Tryz.prog W = .ok (.bool false) W := fun W => Lib.run_eql_slice_nil W _ _ (some a) n c 0 0 Tryz.underlying93
    go_enter Tryz.func62, Tryz.ntmps62
    go_wp2_with (at_builtin; refine wpList_spreadK rowK rfl (.tmp 5) (.tmp 6) rfl w.heap.size _ [] rfl (OwnK.lit w w.heap.size (Nat.le_refl _)) w.heap.size (some a) n c l rfl HN.out (HR.out.below HB.out) ?c1 ?c2 ?_)
    case c1 => simp; omega
    case c2 => simp
    intro v2 w2 o2 g2 f2
    have hb2 : Below w.heap.size w w2 := HB.out.grown g2 HB.out.size (fun k hk => by simp [Value.ownBlock] at hk; omega)
    obtain ⟨A2, c2, rfl, _, _⟩ := o2.form
    have O2 := Lib.hid o2
    clear o2 g2 f2
    go_wp2
    go_ret
    exact ⟨_, rfl, O2.out, hb2⟩
set_option maxHeartbeats 1000000 in
theorem copy_any (B : Nat) (v : Value) (l : List Rw) (w : World) (hA : IxAt w B v l) (hn : l.length ≤ 1000000) :
    Calls Tryz.prog 43 #[ptr B] w fun e w' => ∃ B' v', e = .returned (ptr B') ∧ IxAt w' B' v' l ∧ w.heap.size ≤ B' ∧ (∀ k, v'.ownBlock = some k → w.heap.size ≤ k) ∧ Below w.heap.size w w' := by
  obtain ⟨A, c, rfl, rd, _, _⟩ := OwnK.form (K := rowK) hA.r
  have h0 : A = none → l.length = 0 ∧ c = 0 := fun e => by
    subst e
    rcases hA.r.2 with ⟨e, h⟩ | ⟨g, cap, cur, e, _⟩
    · simp at e; exact ⟨h, e.2⟩
    · simp at e
  have CM := Lib.hid (made_any B _ w hA.a)
  have CC := Lib.hid (clone_any A l.length c l w rfl rd hn h0)
  have CH := Lib.hid (fun W A c ho => holding_any A c l W ho hA.up)
  have c1 := ix_c1 hA.a
  clear hA rd h0
  go_enter Tryz.func43, Tryz.ntmps43
  go_wp2_with (first
    | (go_at_call 66; ((with_reducible refine CM.out.mono ?_); rintro e w1 ⟨rfl, rfl⟩))
    | (go_at_call 62; ((with_reducible refine CC.out.mono ?_); rintro e w2 ⟨v2, rfl, o2, k2⟩; obtain ⟨A2, c2, rfl, _, _⟩ := o2.form; have O2 := Lib.hid o2; clear o2))
    | (go_at_call 45; ((with_reducible refine (CH.out _ A2 c2 (OwnP.k.2 (O2.out.base (Nat.zero_le _)))).mono ?_); rintro e w3 ⟨rfl, a3, k3⟩; have A3 := Lib.hid a3; clear a3)))
  go_ret
  exact ⟨_, _, rfl, A3.out, k2.size, fun k hk => (O2.out.lt k hk).1, bThen k2 k3⟩
theorem each_any (v : Value) (A : Option Addr) (n c : Nat) (hv : v = .slice A n c) (w : World) : Calls Tryz.prog 61 #[v] w fun e w' => e = .returned (.func (.func 75) #[] #[.pointer (some ⟨w.heap.size, 0, none⟩)]) ∧ w.alloc (.cells #[v] 93) = w' := by
  subst hv
  go_enter Tryz.func61, Tryz.ntmps61
  go_wp2
  go_ret
  exact ⟨rfl, rfl⟩
/-- What From gives: an iterator over rows of its own. -/
structure Iter (w : World) (base Bb : Nat) (A : Option Addr) (c : Nat) (l : List Rw) : Prop where
  box : Boxed w Bb 93 (.slice A l.length c)
  own : OwnK rowK w base (.slice A l.length c) l
  lo : base ≤ Bb
  ne : (Value.slice A l.length c).ownBlock ≠ some Bb
set_option maxHeartbeats 1000000 in
theorem from_any (B : Nat) (v : Value) (l : List Rw) (h : Bs) (w : World) (hA : IxAt w B v l) (hn : l.length ≤ 1000000) :
    Calls Tryz.prog 39 #[ptr B, str h] w fun e w' => ∃ Bb A c, e = .returned (.func (.func 75) #[] #[.pointer (some ⟨Bb, 0, none⟩)]) ∧ Iter w' w.heap.size Bb A c (l.drop (plc l h)) ∧ Below w.heap.size w w' := by
  obtain ⟨A, c, rfl, rd, hc, _⟩ := OwnK.form (K := rowK) hA.r
  have h0 : A = none → l.length = 0 ∧ c = 0 := fun e => by
    subst e
    rcases hA.r.2 with ⟨e, h⟩ | ⟨g, cap, cur, e, _⟩
    · simp at e; exact ⟨h, e.2⟩
    · simp at e
  have hpl := plc_le l h
  have CP := Lib.hid (place_any B _ l h w hA hn)
  have CH := Lib.hid (held_any B _ w hA.a)
  obtain ⟨A2, c2, s2, r2, _, _, _, n2⟩ := slice_fromK rowK rd rfl (p := plc l h) hpl hc
  have s2' : ∀ W, (Instr.slice 93 (.slice A l.length c) (some (.int .i64 (plc l h : Int))) none none).run Tryz.prog W = .ok (.slice A2 (l.length - plc l h) c2) W := s2
  have hA2 : A2 = none → l.length - plc l h = 0 ∧ c2 = 0 := fun e => by
    cases A with
    | some a => exact absurd e (n2 (by simp))
    | none =>
      obtain ⟨q1, q2⟩ := h0 rfl
      refine ⟨by omega, ?_⟩
      have q := s2 w
      rw [run_slice_l w rowK.T none l.length c (under_K rowK) .i64 (plc l h : Int) (by omega) (by omega), rowK.el, size_K] at q
      simp [Result.andThen, sliced] at q
      omega
  have CC := Lib.hid (fun W (q : Below w.heap.size w W) => clone_any A2 (l.length - plc l h) c2 (l.drop (plc l h)) W (by simp) (((r2 _ rd).below q).more q.size) (by simp; omega) hA2)
  have CE := Lib.hid each_any
  have HL : Hid ((l.drop (plc l h)).length = l.length - plc l h) := Lib.hid (by simp)
  clear hA rd h0 s2 r2 n2 hA2
  generalize l.drop (plc l h) = d at *
  generalize plc l h = p at *
  go_enter Tryz.func39, Tryz.ntmps39
  go_wp2_with (first
    | (go_at_call 63; ((with_reducible refine CH.out.mono ?_); rintro e w1 ⟨rfl, rfl⟩))
    | (go_at_call 64; ((with_reducible refine CP.out.mono ?_); rintro e w2 ⟨rfl, k2⟩))
    | (go_at_call 62; ((with_reducible refine (CC.out _ k2).mono ?_); rintro e w3 ⟨v3, rfl, o3, k3⟩; obtain ⟨A3, c3, rfl, _, _⟩ := o3.form; have O3 := Lib.hid o3; clear o3))
    | (go_at_call 61; ((with_reducible refine (CE.out _ A3 _ c3 rfl _).mono ?_); rintro e w4 ⟨rfl, rfl⟩)))
  go_ret
  have hb := bThen k2 k3
  refine ⟨_, A3, c3, rfl, ⟨Boxed.new _ _ _, (O3.out.base k2.size).below ((Below.refl _ _).alloc (Nat.le_refl _) _), hb.size, ?_⟩, bAl hb _⟩
  intro e
  have := (O3.out.lt _ e).2
  omega
end Go.Proofs.YtlfbjgeobibnhaaGreatDoor.IX
/-
  THE ITERATOR over rows: it hands them over, one by one, whatever the loop body does that keeps the rows.
-/
namespace Go.Proofs.YtlfbjgeobibnhaaGreatDoor.IX
open Go.RowKit HL
set_option maxRecDepth 100000
set_option linter.unusedVariables false
set_option linter.unusedSimpArgs false
attribute [local go_sem] Oper.semAt_some

/-- The rows' block is as it was. -/
def KeepA (A : Option Addr) (W W' : World) : Prop := ∀ a, A = some a → W'.heap[a.block]? = W.heap[a.block]?
theorem KeepA.t {A : Option Addr} {W W1 W2 : World} (h : KeepA A W W1) (k : KeepA A W1 W2) : KeepA A W W2 := fun a e => (k a e).trans (h a e)
theorem RdK.keepA {α : Type} {K : El α} {w w' : World} {B : Nat} {A : Option Addr} {l : List α} (h : RdK K w B A l) (k : KeepA A w w') : RdK K w' B A l := by
  rcases h with h | ⟨b, off, rfl, hb, hc⟩
  · exact .inl h
  · exact .inr ⟨b, off, rfl, hb, fun m u hu => (World.cell?_of_block (a := ⟨b, off + m, none⟩) (k ⟨b, off, none⟩ rfl)).trans (hc m u hu)⟩
theorem RdK.self {α : Type} {K : El α} {w : World} {B : Nat} {A : Option Addr} {l : List α} (h : RdK K w B A l) : RdK K w w.heap.size A l := by
  cases l with
  | nil => exact .inl rfl
  | cons x l =>
    rcases h with h | ⟨b, off, rfl, hb, hc⟩
    · cases h
    · have hl : 0 < (cellsK K (x :: l)).length := by rw [cellsK_len, List.length_cons]; exact Nat.mul_pos (by omega) K.pos
      have c0 := hc 0 _ (List.getElem?_eq_getElem hl)
      exact .inr ⟨b, off, rfl, World.block_lt_of_cell? w _ c0, hc⟩
theorem pre_succ {l : List Rw} {k : Nat} (h : k < l.length) : l.take k ++ [l[k]] <+: l := by
  rw [← List.take_succ_eq_append_getElem h]; exact List.take_prefix _ _
set_option maxHeartbeats 2000000 in
theorem each1_in (F : Fence) (n : Nat) (hF : F.fn 75) (hro : F.round = none) (hn : 1 ≤ n) (l Bb : Nat) (A : Option Addr) (c : Nat) (xs : List Rw) (J Jx : List Rw → World → Prop)
    (hY : ∀ pre x W, J pre W → pre ++ [x] <+: xs → YieldAt F (n - 1) Tryz.prog l #[str x.1, .int .i64 x.2] W fun e W' =>
      (e = .returned (.bool true) ∧ J (pre ++ [x]) W' ∧ KeepA A W W') ∨ (e = .returned (.bool false) ∧ Jx (pre ++ [x]) W'))
    (W : World) (hJ : AbidesFrom W.heap.size J) (hb : W.cell? ⟨Bb, 0, none⟩ = some (.slice A xs.length c)) (hr : RdK rowK W W.heap.size A xs) (hlen : xs.length ≤ 1000000) (h0 : J [] W) :
    CallsIn F n Tryz.prog 75 #[.func (.yield l) #[] #[], .pointer (some ⟨Bb, 0, none⟩)] W fun e W' => (∃ v, e = .returned v) ∧
      ((∃ ys, ys = xs ∧ J ys W') ∨ (∃ pre, pre <+: xs ∧ Jx pre W')) := by
  refine callsIn_of_wp Tryz.func75 rfl hF ?_ hro
  simp only [Tryz.ntmps75, List.size_toArray, List.length_cons, List.length_nil, Nat.reduceAdd, Nat.reduceSub, Array.replicate_succ, Array.replicate_zero, List.push_toArray, List.append_toArray, List.nil_append, List.cons_append]
  gi_wp2
  gi_loopw [7] (fun st wr => ∃ k : Nat, st = .int .i64 k ∧ k ≤ xs.length ∧ RdK rowK wr wr.heap.size A xs ∧ J (xs.take k) wr) (fun st _ => xs.length - (intOf st).toNat)
  case atStart => exact ⟨0, rfl, Nat.zero_le _, hr, by simpa using h0⟩
  case round =>
    obtain ⟨k, rfl, hk, hrd, hJs⟩ := hrel
    by_cases hlt : k < xs.length
    · obtain ⟨b, off, rfl, hbb, hcc⟩ := hrd.rows.at_ (by omega)
      obtain ⟨q1, q2⟩ := hcc _ _ (List.getElem?_eq_getElem hlt)
      have i1 : (k : Int) < xs.length := by omega
      have hJ2 : J (xs.take k) (wr.alloc (.cells #[str xs[k].1, .int .i64 xs[k].2] 96)) := hJ _ wr _ none hJs (World.grownBy_alloc wr _ none) (fun r e => by cases e)
      obtain ⟨fn, tmps, assign, body, hy, hR⟩ := hY _ _ _ hJ2 (pre_succ hlt)
      have HT : Hid (xs.take (k + 1) = xs.take k ++ [xs[k]]) := Lib.hid (List.take_succ_eq_append_getElem hlt)
      have HP := Lib.hid (pre_succ hlt)
      have HRD := Lib.hid hrd
      have HJ2 := Lib.hid hJ2
      clear hJ2 hJs hcc hrd hr h0 hb
      gi_wp2
      refine hR.mono ?_
      rintro e W3 (⟨rfl, hJ3, hk3⟩ | ⟨rfl, hJx3⟩)
      · have HJ3 := Lib.hid hJ3
        have HRD3 := Lib.hid ((HRD.out.below ((Below.refl _ _).alloc (Nat.le_refl _) _)).keepA hk3).self
        clear hJ3 hk3
        gi_wp2
        go_roundw
        case rel => exact ⟨k + 1, by go_num, by omega, HRD3.out, by rw [HT.out]; exact HJ3.out⟩
        case measure => simp [intOf]; omega
      · gi_wp2
        refine bodyPost_ret (results_none rfl _ _ _) rfl ?_
        exact ⟨⟨_, rfl⟩, .inr ⟨_, HP.out, hJx3⟩⟩
    · obtain rfl : k = xs.length := by omega
      have e1 : xs.take xs.length = xs := List.take_length
      have HJs := Lib.hid (e1 ▸ hJs)
      clear hJs e1 hJ
      gi_wp2
      go_end0
      exact ⟨⟨_, rfl⟩, .inl ⟨xs, rfl, HJs.out⟩⟩
theorem keepA_b {A : Option Addr} {w : World} (hA : ∀ a, A = some a → a.block < w.heap.size) (W : World) (l : Nat) (o o' : Obj) (hl : w.heap.size ≤ l) (h : W.heap[l]? = some o) (hc : o.isCells = false) (hw : o.isWalk = false) : KeepA A W (W.putObj l o') :=
  fun a e => World.putObj_heap_other (by have := hA a e; omega)
/-- The iterator, for any caller's law. -/
theorem each_stops (F : Fence) (n : Nat) (hF : F.fn 75) (hro : F.round = none) (hn : 1 ≤ n) (Bb : Nat) (A : Option Addr) (c : Nat) (xs : List Rw) (w : World)
    (hb : w.cell? ⟨Bb, 0, none⟩ = some (.slice A xs.length c)) (hBb : Bb < w.heap.size) (hr : RdK rowK w w.heap.size A xs) (hlen : xs.length ≤ 1000000) :
    SeqStopsK F n Tryz.prog 75 #[.pointer (some ⟨Bb, 0, none⟩)] (fun x : Rw => #[str x.1, .int .i64 x.2]) (KeepA A) (fun ys => ys = xs) (fun pre => pre <+: xs) xs.length w := fun l J Jx W hW hJ _ hY h0 =>
  each1_in F n hF hro hn l Bb A c xs J Jx (fun pre x W1 hj hp => hY pre x W1 hj (by have := hp.length_le; simp at this; omega)) W hJ ((hW.cell (p := ⟨Bb, 0, none⟩) hBb).trans hb) ((hr.below hW).more hW.size) hlen h0
end Go.Proofs.YtlfbjgeobibnhaaGreatDoor.IX
/-
  WALK: All of an index: a range over the iterator.
-/
namespace Go.Proofs.YtlfbjgeobibnhaaGreatDoor.IX
open Go.RowKit HL
set_option maxRecDepth 100000
set_option linter.unusedVariables false
set_option linter.unusedSimpArgs false
attribute [local go_sem] Oper.semAt_some

theorem own_mono {w : World} {base base' : Nat} {e : TypeId} {size : Nat} {v : Value} {n : Nat} {xs : List Value} (h : w.ownsRow base e size v n xs) (hb : base' ≤ base) : w.ownsRow base' e size v n xs := by
  refine ⟨h.1, ?_⟩
  rcases h.2 with h2 | ⟨g, cap, cur, e, hg, r⟩
  · exact .inl h2
  · exact .inr ⟨g, cap, cur, e, Nat.le_trans hb hg, r⟩
theorem info_str : (Tryz.prog.info? 9).map (fun i => (i.zero, i.size, i.bytes)) = some (some (.string ByteArray.empty), 1, 16) := by kernel_rfl
theorem str_cells (l : List Bs) : cellsK strK l = l.map str := by
  induction l with
  | nil => rfl
  | cons x l ih => rw [cellsK_cons, ih]; rfl
theorem OwnK.putObj {α : Type} {K : El α} {w : World} {base : Nat} {v : Value} {l : List α} (h : OwnK K w base v l) {D : Nat} {o : Obj} (o' : Obj) (hK : w.heap[D]? = some o) (hc : o.isCells = false) : OwnK K (w.putObj D o') base v l := ownsRow_putObj h o' hK hc
theorem grownBy_of_below {W W1 : World} (h : Below W.heap.size W W1) : W.grownBy W1 none := ⟨h.os, h.tape, h.output, h.size, fun k hk _ => h.block k hk⟩
theorem own_not {α : Type} {K : El α} {W : World} {base : Nat} {v : Value} {l : List α} (h : OwnK K W base v l) {k : Nat} (hk : k < base) : some k ≠ v.ownBlock := fun e' => by have := (h.lt k e'.symm).1; omega
set_option maxHeartbeats 4000000 in
theorem all_in (B : Nat) (v : Value) (l : List Rw) (w : World) (hA : IxAt w B v l) (hn : l.length ≤ 1000000) :
    CallsIn Fence.wide 9 Tryz.prog 44 #[ptr B] w fun e w' => ∃ v', e = .returned v' ∧ OwnK strK w' w.heap.size v' (keys l) ∧ Below w.heap.size w w' := by
  obtain ⟨A, c, rfl, rd, hc, _⟩ := OwnK.form (K := rowK) hA.r
  have hF : Fence.wide.fn 44 := trivial
  have hF1 : Fence.wide.fn 61 := trivial
  have hF2 : Fence.wide.fn 63 := trivial
  have hF3 : Fence.wide.fn 75 := trivial
  have CH := Lib.hid (fun W q => held_any B _ W (hA.then q).a)
  have CE := Lib.hid (each_any (.slice A l.length c) A _ c rfl)
  have RD := Lib.hid rd
  have hAb : ∀ a, A = some a → a.block < w.heap.size := fun a e => (OwnK.lt (K := rowK) hA.r a.block (by rw [e]; rfl)).2
  obtain ⟨i0, hi, hz0, hz1, hz2⟩ := info_parts info_str
  clear hA rd
  refine callsIn_of_wp_marks Tryz.func44 rfl hF ?_ rfl
  simp only [Tryz.ntmps44, List.size_toArray, List.length_cons, List.length_nil, Nat.reduceAdd, Nat.reduceSub, Array.replicate_succ, Array.replicate_zero, List.push_toArray, List.append_toArray, List.nil_append, List.cons_append]
  gi_wp2_with (first
    | (gi_at_call 63; refine (callsIn_wide.2 (CH.out _ ((Below.refl _ _).alloc (Nat.le_refl _) _))).mono ?_; rintro e w1 ⟨rfl, rfl⟩)
    | (gi_at_call 61; refine (callsIn_wide.2 (CE.out _)).mono ?_; rintro e w1 ⟨rfl, rfl⟩))
  have bL0 := Boxed.new w 43 (.slice none 0 0)
  have bS := Boxed.new (w.alloc (.cells #[.slice none 0 0] 43)) 93 (.slice A l.length c)
  have bL := bL0.alloc (.cells #[.slice A l.length c] 93)
  have hB0 : Below w.heap.size w ((w.alloc (.cells #[.slice none 0 0] 43)).alloc (.cells #[.slice A l.length c] 93)) := ((Below.refl _ w).alloc (Nat.le_refl _) _).alloc (by simp) _
  have hsz : ((w.alloc (.cells #[.slice none 0 0] 43)).alloc (.cells #[.slice A l.length c] 93)).heap.size = w.heap.size + 2 := by simp
  simp only [World.size_alloc] at bS
  clear bL0
  obtain ⟨W0, hW0⟩ : ∃ W0, (w.alloc (.cells #[.slice none 0 0] 43)).alloc (.cells #[.slice A l.length c] 93) = W0 := ⟨_, rfl⟩
  rw [hW0] at bS bL hB0 hsz ⊢
  clear hW0
  have hseq := each_stops Fence.wide (9 - 1) hF3 rfl (by omega) (w.heap.size + 1) A c l W0 bS.cell (by omega) ((RD.out.below hB0).more (by omega)) hn
  refine wpIn_rangeFunc_ownG rfl (by omega) (gf := 75) (lb := #[.pointer (some ⟨w.heap.size + 1, 0, none⟩)]) rfl hF3 (enters_of Tryz.func75 (by kernel_rfl) rfl)
    hseq (fun h k => h.t k) (keepA_b (w := W0) (fun a e => by have := hAb a e; omega)) (Below.refl _ _) (fun _ => rfl)
    (fun pre W => (∃ v, Boxed W w.heap.size 43 v ∧ W.ownsRow (w.heap.size + 2) 9 1 v pre.length (pre.map fun x => str x.1) ∧ True) ∧ Boxed W (w.heap.size + 1) 93 (.slice A l.length c) ∧ Below w.heap.size w W)
    (fun _ _ _ => False)
    (OwnFrom.and (Own.from (holdsRow_own (w.heap.size + 2) w.heap.size 43 9 1 (fun pre : List Rw => pre.length) (fun pre => pre.map fun x => str x.1) (fun pre v => True)) _) (OwnFrom.and (Own.from (boxed_own _ _ (fun _ => .slice A l.length c)) _) (ownFrom_below (Nat.le_refl _) (by omega))))
    (fun _ _ _ _ _ h _ _ => h)
    ⟨⟨_, bL, World.ownsRow_nil _ _ _ _, trivial⟩, bS, hB0⟩
    (fun x => { tmps := #[ptr B, undef, .slice none 0 0, .pointer (some ⟨w.heap.size, 0, none⟩), str x.1, ptr B, .slice A l.length c, .func (.func 75) #[] #[.pointer (some ⟨w.heap.size + 1, 0, none⟩)], str x.1, .int .i64 x.2, undef, undef, undef, undef, undef], defers := [] }) ?assign ?body ?done ?stop
  case assign =>
    intro l x W K hK
    gi_wp2
    exact hK
  case body =>
    rintro l' pre x W ⟨⟨v, hv, hrow, _⟩, hS, hB⟩ hlt
    have hN1 : pre.length ≤ 1000001 := Nat.le_trans (Nat.le_of_lt hlt) (by omega)
    have hc1 := hv.cell
    have hszW : w.heap.size + 1 + 1 ≤ W.heap.size := hS.lt
    have HBW := Lib.hid hB
    have HS := Lib.hid hS
    clear hseq bS bL hB0 hS hB CH CE
    gi_wp2_with (gi_at_builtin; go_loud (refine wpListIn_append_own _ rfl _ _ 43 rfl (w.heap.size + 2) 9 i0 (.string ByteArray.empty) 1 16 Tryz.underlying43 hi hz0 hz1 hz2 rfl (by decide) _ pre.length (pre.map fun x => str x.1) rfl (hrow.alloc _) ⟨W.heap.size, 0, none⟩ 1 1 [str x.1] rfl rfl (cell_one_new _ _ _) (by simp [Value.oneCell']) (Nat.le_trans (Nat.add_le_add_right hN1 1) (by unfold maxLen; decide)) (Nat.le_trans (Nat.mul_le_mul_right 16 (Nat.add_le_add_right hN1 1)) (by decide)) (by simp; omega) ?_); intro v' w1 hown' hgrow _; obtain ⟨g', cap', rfl⟩ := ownsRow_succ hown'; go_loud (obtain ⟨hva, hv2, hr2, hk2, hb2⟩ := hv.appended (by decide) (own_mono hrow (base' := w.heap.size) (by omega)) (by omega) (by omega) (own_mono hown' (base' := w.heap.size) (by omega)) hgrow); have hc2 := hva.cell; have hf2 := hva.frozen)
    have hne : ∀ k, k < w.heap.size + 2 → some k ≠ v.ownBlock := fun k hk e' => by have := (hrow.lt k e'.symm).1; omega
    have hS2 : Boxed _ _ _ _ := ((HS.out.alloc (.cells #[str x.1] 9)).kept hgrow (hne _ (by omega))).other (show w.heap.size + 1 ≠ w.heap.size by omega) (.slice (some ⟨g', 0, none⟩) (pre.length + 1) cap')
    have hown2 := hown'.kept (grownBy_setCell' w1 w.heap.size (.slice (some ⟨g', 0, none⟩) (pre.length + 1) cap')) (.inr fun e => by have := (hown'.lt w.heap.size e).1; omega)
    exact ⟨hk2.from _, fun a e => hb2.block _ (hAb a e), ⟨_, hv2, by simpa using hown2, trivial⟩, hS2, HBW.out.trans hb2⟩
  case done =>
    rintro D ys W hD rfl ⟨⟨v, hv, hrow, _⟩, hS, hB⟩ hK
    have hrow2 : OwnK strK W (w.heap.size + 2) v (keys ys) := by
      unfold OwnK
      rw [str_cells, keys_len]
      unfold keys
      rw [List.map_map]
      exact hrow
    obtain ⟨A2, c2, rfl, _, _, _⟩ := hrow2.form
    have hc1 := hv.cell
    have HRow := Lib.hid hrow2
    have HBW := Lib.hid hB
    clear hrow hrow2 hB hS hseq bS bL hB0 CH CE
    gi_wp2
    refine ⟨by simp, .inl ⟨_, _, rfl, run_takeDeferred hK, ?_⟩⟩
    refine ⟨_, results_tmp rfl _ _ _, _, rfl, (HRow.out.putObj (.deferred none) hK rfl).base (by omega), HBW.out.trans (belowK_b (w := w) (Nat.le_refl _) W D _ _ (by omega) hK rfl rfl)⟩
  case stop =>
    rintro D c pre W hD hpre h hK
    exact h.elim
theorem all_any (B : Nat) (v : Value) (l : List Rw) (w : World) (hA : IxAt w B v l) (hn : l.length ≤ 1000000) :
    Calls Tryz.prog 44 #[ptr B] w fun e w' => ∃ v', e = .returned v' ∧ OwnK strK w' w.heap.size v' (keys l) ∧ Below w.heap.size w w' := callsIn_wide.1 (all_in B v l w hA hn)
end Go.Proofs.YtlfbjgeobibnhaaGreatDoor.IX
/-
  A STATEMENT WITH TWO APPENDS OF ONE ELEMENT EACH, each to a boxed row, in a round of a range over a function: whatever order its operations take.
-/
namespace Go.Proofs.YtlfbjgeobibnhaaGreatDoor.IX
open Go.RowKit HL
set_option maxRecDepth 100000
set_option linter.unusedVariables false
set_option linter.unusedSimpArgs false
attribute [local go_sem] Oper.semAt_some

/-- Operation i is this one. -/
def OpIs (ops : Array Oper) (i : Nat) (d : Option Tmp) (op : Op) : Prop := ∃ o, ops[i]? = some o ∧ o.dst = d ∧ o.op = op ∧ o.guard = none
theorem OpIs.run {ops : Array Oper} {i : Nat} {d : Option Tmp} {op : Op} (h : OpIs ops i d op) (hd : ∀ c, op ≠ .defer c) {F : Fence} {n : Nat} {Q : Exit → Act → World → Prop} {K : Act → World → Prop} {a : Act} {w : World}
    (hab : ∀ o : Oper, o.op = op → ∀ f, o.about Tryz.prog w a.eval = some f → F.fn f) {v : Value} {w' : World} (hr : ∀ o : Oper, o.op = op → (execOp a.eval o).run Tryz.prog w = .ok (.value v) w') (hK : K (a.put d v) w') : wpOpIn F n Tryz.prog ops Q i K a w := by
  obtain ⟨o, h1, rfl, rfl, h4⟩ := h
  unfold wpOpIn
  rw [h1]
  have hw : Region.wanted o (yielded ops a.tmps) = true := by simp [Region.wanted, h4]
  simp only [hw, if_true]
  unfold Oper.wpIn
  refine ⟨hab o rfl, ?_⟩
  rw [Oper.semAt_plain F _ _ hd, hr o rfl]
  exact hK
theorem OpIs.runs {ops : Array Oper} {i : Nat} {d : Option Tmp} {op : Op} (h : OpIs ops i d op) (hd : ∀ c, op ≠ .defer c) {F : Fence} {n : Nat} {Q : Exit → Act → World → Prop} {K : Act → World → Prop} {a : Act} {w : World}
    (hab : ∀ o : Oper, o.op = op → ∀ f, o.about Tryz.prog w a.eval = some f → F.fn f) {w' : World} (hr : ∀ o : Oper, o.op = op → (execOp a.eval o).run Tryz.prog w = .ok .skip w') (hK : K (a.put d undef) w') : wpOpIn F n Tryz.prog ops Q i K a w := by
  obtain ⟨o, h1, rfl, rfl, h4⟩ := h
  unfold wpOpIn
  rw [h1]
  have hw : Region.wanted o (yielded ops a.tmps) = true := by simp [Region.wanted, h4]
  simp only [hw, if_true]
  unfold Oper.wpIn
  refine ⟨hab o rfl, ?_⟩
  rw [Oper.semAt_plain F _ _ hd, hr o rfl]
  exact hK
theorem run_load1 {a : Act} {w : World} {T : TypeId} {t : Tmp} {B : Nat} {v : Value} (hT : ∀ W, (isAgg T).run Tryz.prog W = .ok false W) (o : Oper) (ho : o.op = .load T (.tmp t)) (ht : a.eval (.tmp t) = .pointer (some ⟨B, 0, none⟩)) (hc : w.cell? ⟨B, 0, none⟩ = some v) : (execOp a.eval o).run Tryz.prog w = .ok (.value v) w := by
  simp only [execOp, ho, ht]
  go_simp
theorem run_store1 {a : Act} {w : World} {T : TypeId} {t s : Tmp} {B : Nat} {A : Option Addr} {n c : Nat} {v : Value} (hT : ∀ W, (isAgg T).run Tryz.prog W = .ok false W) (hS : ∀ W, (sizeOf T).run Tryz.prog W = .ok 1 W) (o : Oper) (ho : o.op = .store T (.tmp t) (.tmp s)) (ht : a.eval (.tmp t) = .pointer (some ⟨B, 0, none⟩)) (hs : a.eval (.tmp s) = .slice A n c)
    (hc : w.cell? ⟨B, 0, none⟩ = some v) (hf : w.frozen? ⟨B, 0, none⟩ = false) : (execOp a.eval o).run Tryz.prog w = .ok .skip (w.setCell ⟨B, 0, none⟩ (.slice A n c)) := by
  simp only [execOp, ho, ht, hs]
  go_simp
theorem lit_str (w : World) (x : Bs) : (Instr.buildSlice 43 1 #[(0, str x)]).run Tryz.prog w = .ok (.slice (some ⟨w.heap.size, 0, none⟩) 1 1) (w.alloc (.cells #[str x] 9)) := by go_simp
theorem run_lit_str {a : Act} {w : World} {t : Tmp} {x : Bs} (o : Oper) (ho : o.op = .buildSlice 43 1 #[(0, .tmp t)]) (ht : a.eval (.tmp t) = str x) : (execOp a.eval o).run Tryz.prog w = .ok (.value (.slice (some ⟨w.heap.size, 0, none⟩) 1 1)) (w.alloc (.cells #[str x] 9)) := by
  simp only [execOp, ho, List.map_toArray, List.map_cons, List.map_nil, ht, Sem.run_bind, lit_str, Result.andThen_ok, Sem.run_pure]
/-- Blocks of these kinds of cells lie as they lay. -/
def KeepT (T1 T2 : TypeId) (w w' : World) : Prop := ∀ (k : Nat) (C : Array Value) (T : TypeId), w.heap[k]? = some (Obj.cells C T (0, 0)) → (T = T1 ∨ T = T2) → w'.heap[k]? = some (Obj.cells C T (0, 0))
theorem KeepT.alloc (T1 T2 : TypeId) (w : World) (o : Obj) : KeepT T1 T2 w (w.alloc o) := fun k C T h _ => (Below.heap_alloc w o k (Array.getElem?_eq_some_iff.1 h).1).trans h
theorem KeepT.grown {T1 T2 : TypeId} {w w' : World} {α : Type} {K : El α} {base : Nat} {v : Value} {l : List α} (ho : OwnK K w base v l) (g : w.grownBy w' v.ownBlock) (h1 : K.e ≠ T1) (h2 : K.e ≠ T2) : KeepT T1 T2 w w' := fun k C T h hT => by
  rw [g.block k (Array.getElem?_eq_some_iff.1 h).1 (fun e => ?_), h]
  rcases ho.2 with ⟨rfl, _⟩ | ⟨g', cap, cur, rfl, _, hh, _⟩
  · simp [Value.ownBlock] at e
  · simp only [Value.ownBlock, Option.some.injEq] at e
    subst e
    rw [h] at hh
    simp only [Option.some.injEq, Obj.cells.injEq] at hh
    rcases hT with hT | hT
    · exact h1 (hh.2.1.symm.trans hT)
    · exact h2 (hh.2.1.symm.trans hT)
theorem KeepT.set {T1 T2 Tb : TypeId} {w : World} {B : Nat} {v : Value} (hb : Boxed w B Tb v) (h1 : Tb ≠ T1) (h2 : Tb ≠ T2) (u : Value) : KeepT T1 T2 w (w.setCell ⟨B, 0, none⟩ u) := fun k C T h hT => by
  rw [Below.heap_setCell _ _ _ _ (fun e => ?_), h]
  have e : k = B := e
  subst e
  have hb : w.heap[k]? = some (Obj.cells #[v] Tb (0, 0)) := hb
  rw [h] at hb
  simp only [Option.some.injEq, Obj.cells.injEq] at hb
  rcases hT with hT | hT
  · exact h1 (hb.2.1.symm.trans hT)
  · exact h2 (hb.2.1.symm.trans hT)
/-- One half of the statement: which of its operations are done, and what they have come to. -/
structure Half {α : Type} (K : El α) (Bx : Nat) (Tb : TypeId) (base : Nat) (v : Value) (L : List α) (x : α) (u : Value) (b0 b1 b2 b3 b8 : Bool) (s0 s1 s2 s3 : Value) (w : World) : Prop where
  h0 : b0 = true → s0 = v
  h1 : b1 = true → s1 = u
  h2 : b2 = true → b3 = false → ∃ g, s2 = .slice (some ⟨g, 0, none⟩) 1 1 ∧ w.heap[g]? = some (Obj.cells #[u] K.e (0, 0)) ∧ v.ownBlock ≠ some g
  h3 : b3 = false → OwnK K w base v L
  h4 : b3 = true → OwnK K w base s3 (L ++ [x])
  h5 : b8 = false → Boxed w Bx Tb v
  h6 : b8 = true → Boxed w Bx Tb s3
theorem OwnK.keepT {α : Type} {K : El α} {w w' : World} {base : Nat} {v : Value} {l : List α} {Tb : TypeId} (h : OwnK K w base v l) (k : KeepT K.e Tb w w') : OwnK K w' base v l := by
  refine ⟨h.1, ?_⟩
  rcases h.2 with h2 | ⟨g, cap, cur, rfl, hg, hh, r⟩
  · exact .inl h2
  · exact .inr ⟨g, cap, cur, rfl, hg, k g _ _ hh (.inl rfl), r⟩
theorem Half.keep {α : Type} {K : El α} {Bx : Nat} {Tb : TypeId} {base : Nat} {v : Value} {L : List α} {x : α} {u : Value} {b0 b1 b2 b3 b8 : Bool} {s0 s1 s2 s3 : Value} {w w' : World} (h : Half K Bx Tb base v L x u b0 b1 b2 b3 b8 s0 s1 s2 s3 w) (k : KeepT K.e Tb w w') : Half K Bx Tb base v L x u b0 b1 b2 b3 b8 s0 s1 s2 s3 w' :=
  ⟨h.h0, h.h1, fun e2 e3 => by obtain ⟨g, e, hh, hn⟩ := h.h2 e2 e3; exact ⟨g, e, k g _ _ hh (.inl rfl), hn⟩, fun e => (h.h3 e).keepT k, fun e => (h.h4 e).keepT k, fun e => k _ _ _ (h.h5 e) (.inr rfl), fun e => k _ _ _ (h.h6 e) (.inr rfl)⟩
theorem Half.append {α : Type} {K : El α} {Bx : Nat} {Tb : TypeId} {base : Nat} {v : Value} {L : List α} {x : α} {u : Value} {s0 s1 s2 s3 : Value} {w : World} (h : Half K Bx Tb base v L x u true true true false false s0 s1 s2 s3 w) (hu : K.enc x = [u]) (hl : L.length + 1 ≤ 1000000) (hb : base ≤ w.heap.size) (ty : TypeId) (hT : Tb ≠ K.e) :
    ∃ s3' w', (Builtin.append_ #[K.T, K.T] ty #[s0, s2]).run Tryz.prog w = .ok s3' w' ∧ Half K Bx Tb base v L x u true true true true false s0 s1 s2 s3' w' ∧ w.grownBy w' v.ownBlock := by
  obtain ⟨g, rfl, hg, hn⟩ := h.h2 rfl rfl
  have e0 := h.h0 rfl
  subst e0
  have hr : RdK K w (g + 1) (some ⟨g, 0, none⟩) [x] := .inr ⟨g, 0, rfl, by omega, fun m q hq => by
    rw [Nat.zero_add, cell_of_row w g m _ _ (0, 0) hg]
    have hq : (K.enc x)[m]? = some q := by simpa [cellsK] using hq
    rw [hu] at hq
    simpa using hq⟩
  obtain ⟨v', w', h1, h2, h3, _⟩ := run_spreadK K ty w base s0 L (h.h3 rfl) _ _ 1 1 [x] rfl hr (by simpa using hl) hb
  refine ⟨v', w', h1, ⟨fun _ => rfl, h.h1, fun _ e => by simp at e, fun e => by simp at e, fun _ => h2, fun _ => ?_, fun e => by simp at e⟩, h3⟩
  exact Boxed.kept (h.h5 rfl) h3 (Boxed.not_row (h.h5 rfl) hT (h.h3 rfl))
theorem Half.lit {α : Type} {K : El α} {Bx : Nat} {Tb : TypeId} {base : Nat} {v : Value} {L : List α} {x : α} {u : Value} {b0 b8 : Bool} {s0 s1 s2 s3 : Value} {w : World} (h : Half K Bx Tb base v L x u b0 true false false b8 s0 s1 s2 s3 w) : Half K Bx Tb base v L x u b0 true true false b8 s0 s1 (.slice (some ⟨w.heap.size, 0, none⟩) 1 1) s3 (w.alloc (.cells #[u] K.e)) := by
  have k := h.keep (KeepT.alloc K.e Tb w (.cells #[u] K.e))
  refine ⟨k.h0, k.h1, fun _ _ => ⟨_, rfl, World.alloc_heap_new w _, fun e => ?_⟩, k.h3, k.h4, k.h5, k.h6⟩
  have := ((h.h3 rfl).lt _ e).2
  omega
theorem Half.stored {α : Type} {K : El α} {Bx : Nat} {Tb : TypeId} {base : Nat} {v : Value} {L : List α} {x : α} {u : Value} {b0 b1 b2 : Bool} {s0 s1 s2 s3 : Value} {w : World} (h : Half K Bx Tb base v L x u b0 b1 b2 true false s0 s1 s2 s3 w) (hT : Tb ≠ K.e) : Half K Bx Tb base v L x u b0 b1 b2 true true s0 s1 s2 s3 (w.setCell ⟨Bx, 0, none⟩ s3) := by
  refine ⟨h.h0, h.h1, fun _ e => by simp at e, fun e => by simp at e, fun _ => ?_, fun e => by simp at e, fun _ => Boxed.set s3 (h.h5 rfl)⟩
  have o := h.h4 rfl
  exact OwnK.kept o (P := fun k => k ≠ Bx) ((Kept.refl w _).set (fun _ p => p rfl) _) (fun b e e2 => by
    subst e2
    exact Boxed.not_row (h.h5 rfl) hT o e.symm)
def reach (b0 b1 b2 b3 b4 b5 b6 b7 b8 b9 : Bool) : Bool := (!b2 || b1) && (!b3 || (b0 && b2)) && (!b6 || b5) && (!b7 || (b4 && b6 && b3)) && (!b8 || (b3 && b7)) && (!b9 || b8)
def okI (i : Nat) (b0 b1 b2 b3 b4 b5 b6 b7 b8 b9 : Bool) : Bool := match i with
  | 0 => !b0 && !b3 && !b8
  | 1 => !b1 && !b2 && !b3 && !b8
  | 2 => b1 && !b2 && !b3 && !b8
  | 3 => b0 && b1 && b2 && !b3 && !b8 && !b7 && !b9
  | 4 => !b4 && !b7 && !b9
  | 5 => !b5 && !b6 && !b7 && !b9
  | 6 => b5 && !b6 && !b7 && !b9
  | 7 => b4 && b5 && b6 && b3 && !b7 && !b8 && !b9
  | 8 => b0 && b1 && b2 && b3 && b4 && b5 && b6 && b7 && !b8 && !b9
  | 9 => b0 && b1 && b2 && b3 && b4 && b5 && b6 && b7 && b8 && !b9
  | _ => false
def nots (b0 b1 b2 b3 b4 b5 b6 b7 b8 b9 : Bool) : Nat := (!b0).toNat + (!b1).toNat + (!b2).toNat + (!b3).toNat + (!b4).toNat + (!b5).toNat + (!b6).toNat + (!b7).toNat + (!b8).toNat + (!b9).toNat
/-- The frame, its slots 20 to 27 open. -/
structure Fr (mk : Value → Value → Value → Value → Value → Value → Value → Value → Act) (Bh Bn : Nat) (x : Bs) (y : Int) : Prop where
  p0 : ∀ s0 s1 s2 s3 s4 s5 s6 s7 z, (mk s0 s1 s2 s3 s4 s5 s6 s7).put (some 20) z = mk z s1 s2 s3 s4 s5 s6 s7
  p1 : ∀ s0 s1 s2 s3 s4 s5 s6 s7 z, (mk s0 s1 s2 s3 s4 s5 s6 s7).put (some 21) z = mk s0 z s2 s3 s4 s5 s6 s7
  p2 : ∀ s0 s1 s2 s3 s4 s5 s6 s7 z, (mk s0 s1 s2 s3 s4 s5 s6 s7).put (some 22) z = mk s0 s1 z s3 s4 s5 s6 s7
  p3 : ∀ s0 s1 s2 s3 s4 s5 s6 s7 z, (mk s0 s1 s2 s3 s4 s5 s6 s7).put (some 23) z = mk s0 s1 s2 z s4 s5 s6 s7
  p4 : ∀ s0 s1 s2 s3 s4 s5 s6 s7 z, (mk s0 s1 s2 s3 s4 s5 s6 s7).put (some 24) z = mk s0 s1 s2 s3 z s5 s6 s7
  p5 : ∀ s0 s1 s2 s3 s4 s5 s6 s7 z, (mk s0 s1 s2 s3 s4 s5 s6 s7).put (some 25) z = mk s0 s1 s2 s3 s4 z s6 s7
  p6 : ∀ s0 s1 s2 s3 s4 s5 s6 s7 z, (mk s0 s1 s2 s3 s4 s5 s6 s7).put (some 26) z = mk s0 s1 s2 s3 s4 s5 z s7
  p7 : ∀ s0 s1 s2 s3 s4 s5 s6 s7 z, (mk s0 s1 s2 s3 s4 s5 s6 s7).put (some 27) z = mk s0 s1 s2 s3 s4 s5 s6 z
  e8 : ∀ s0 s1 s2 s3 s4 s5 s6 s7, (mk s0 s1 s2 s3 s4 s5 s6 s7).eval (.tmp 8) = ptr Bh
  e9 : ∀ s0 s1 s2 s3 s4 s5 s6 s7, (mk s0 s1 s2 s3 s4 s5 s6 s7).eval (.tmp 9) = ptr Bn
  e10 : ∀ s0 s1 s2 s3 s4 s5 s6 s7, (mk s0 s1 s2 s3 s4 s5 s6 s7).eval (.tmp 10) = str x
  e11 : ∀ s0 s1 s2 s3 s4 s5 s6 s7, (mk s0 s1 s2 s3 s4 s5 s6 s7).eval (.tmp 11) = .int .i64 y
  e20 : ∀ s0 s1 s2 s3 s4 s5 s6 s7, (mk s0 s1 s2 s3 s4 s5 s6 s7).eval (.tmp 20) = s0
  e21 : ∀ s0 s1 s2 s3 s4 s5 s6 s7, (mk s0 s1 s2 s3 s4 s5 s6 s7).eval (.tmp 21) = s1
  e22 : ∀ s0 s1 s2 s3 s4 s5 s6 s7, (mk s0 s1 s2 s3 s4 s5 s6 s7).eval (.tmp 22) = s2
  e23 : ∀ s0 s1 s2 s3 s4 s5 s6 s7, (mk s0 s1 s2 s3 s4 s5 s6 s7).eval (.tmp 23) = s3
  e24 : ∀ s0 s1 s2 s3 s4 s5 s6 s7, (mk s0 s1 s2 s3 s4 s5 s6 s7).eval (.tmp 24) = s4
  e25 : ∀ s0 s1 s2 s3 s4 s5 s6 s7, (mk s0 s1 s2 s3 s4 s5 s6 s7).eval (.tmp 25) = s5
  e26 : ∀ s0 s1 s2 s3 s4 s5 s6 s7, (mk s0 s1 s2 s3 s4 s5 s6 s7).eval (.tmp 26) = s6
  e27 : ∀ s0 s1 s2 s3 s4 s5 s6 s7, (mk s0 s1 s2 s3 s4 s5 s6 s7).eval (.tmp 27) = s7
theorem agg_strs (W : World) : (isAgg 43).run Tryz.prog W = .ok false W := by kernel_rfl
theorem size_strs (W : World) : (sizeOf 43).run Tryz.prog W = .ok 1 W := by kernel_rfl
end Go.Proofs.YtlfbjgeobibnhaaGreatDoor.IX
/-
  WALK: the law's from: what From goes over, gathered in two rows.
-/
namespace Go.Proofs.YtlfbjgeobibnhaaGreatDoor.IX
open Go.RowKit HL
set_option maxRecDepth 100000
set_option linter.unusedVariables false
set_option linter.unusedSimpArgs false
attribute [local go_sem] Oper.semAt_some

theorem run_seq_nil (W : World) (f : Fn) (cs : Array Value) : (binOp .eql 72 (.func f #[] cs) Value.nilFunc).run Tryz.prog W = .ok (.bool false) W := by
  have h : ∀ d : Nat, (Op.equalIn (d + 1) 72 (.func f #[] cs) Value.nilFunc).run Tryz.prog W = .ok false W := fun d => by
    simp [Op.equalIn, run_underlying Tryz.underlying72, Value.nilFunc]
  simp only [binOp]
  simp [Op.equal, Op.maxDepth, h 9999]
theorem boxed_far {W : World} {B : Nat} {t : TypeId} {v : Value} (h : Boxed W B t v) {r : Option Nat} (hr : ∀ k, r = some k → ∃ o : Obj, W.heap[k]? = some o ∧ o.isCells = false) : some B ≠ r := fun e => by
  obtain ⟨o, ho, hc⟩ := hr B e.symm
  have h : W.heap[B]? = some (Obj.cells #[v] t (0, 0)) := h
  rw [h] at ho
  cases ho
  cases hc
theorem own_far {α : Type} {K : El α} {W : World} {base : Nat} {v : Value} {l : List α} (h : OwnK K W base v l) {r : Option Nat} (hr : ∀ k, r = some k → ∃ o : Obj, W.heap[k]? = some o ∧ o.isCells = false) : v.ownBlock = none ∨ v.ownBlock ≠ r := by
  cases e : v.ownBlock with
  | none => exact .inl rfl
  | some g =>
    refine .inr fun e2 => ?_
    obtain ⟨o, ho, hc⟩ := hr g e2.symm
    rcases h.2 with ⟨rfl, _⟩ | ⟨g', cap, cur, rfl, _, hh, _⟩
    · simp [Value.ownBlock] at e
    · simp only [Value.ownBlock, Option.some.injEq] at e
      subst e
      rw [hh] at ho
      cases ho
      cases hc
theorem keepsOthers_of {W W' : World} {P : Nat → Prop} (h : Kept W W' P) (hp : ∀ k o, W.heap[k]? = some o → o.isCells = false → P k) : KeepsOthers W W' :=
  ⟨h.size, fun k o hk ho => (h.block k (Array.getElem?_eq_some_iff.1 hk).1 (hp k o hk ho)).trans hk⟩
end Go.Proofs.YtlfbjgeobibnhaaGreatDoor.IX
/-
  WALKS: All and the statements' from over whatever index whose rows are told (made by wip/gen_inil.py out of XIAll and XIFrom).
-/
namespace Go.Proofs.YtlfbjgeobibnhaaGreatDoor.IX
open Go.RowKit HL
set_option maxRecDepth 100000
set_option linter.unusedVariables false
set_option linter.unusedSimpArgs false
attribute [local go_sem] Oper.semAt_some

set_option maxHeartbeats 4000000 in
theorem all_inG (pv : Value) (A : Option Addr) (c : Nat) (l : List Rw) (w : World) (rd : RdK rowK w w.heap.size A l) (hAb : ∀ a, A = some a → a.block < w.heap.size) (CH : Hid (∀ W, Below w.heap.size w W → Calls Tryz.prog 63 #[pv] W fun e w' => e = .returned (.slice A l.length c) ∧ W = w')) (hn : l.length ≤ 1000000) :
    CallsIn Fence.wide 9 Tryz.prog 44 #[pv] w fun e w' => ∃ v', e = .returned v' ∧ OwnK strK w' w.heap.size v' (keys l) ∧ Below w.heap.size w w' := by
  have hF : Fence.wide.fn 44 := trivial
  have hF1 : Fence.wide.fn 61 := trivial
  have hF2 : Fence.wide.fn 63 := trivial
  have hF3 : Fence.wide.fn 75 := trivial
  have CE := Lib.hid (each_any (.slice A l.length c) A _ c rfl)
  have RD := Lib.hid rd
  obtain ⟨i0, hi, hz0, hz1, hz2⟩ := info_parts info_str
  clear rd
  refine callsIn_of_wp_marks Tryz.func44 rfl hF ?_ rfl
  simp only [Tryz.ntmps44, List.size_toArray, List.length_cons, List.length_nil, Nat.reduceAdd, Nat.reduceSub, Array.replicate_succ, Array.replicate_zero, List.push_toArray, List.append_toArray, List.nil_append, List.cons_append]
  gi_wp2_with (first
    | (gi_at_call 63; refine (callsIn_wide.2 (CH.out _ ((Below.refl _ _).alloc (Nat.le_refl _) _))).mono ?_; rintro e w1 ⟨rfl, rfl⟩)
    | (gi_at_call 61; refine (callsIn_wide.2 (CE.out _)).mono ?_; rintro e w1 ⟨rfl, rfl⟩))
  have bL0 := Boxed.new w 43 (.slice none 0 0)
  have bS := Boxed.new (w.alloc (.cells #[.slice none 0 0] 43)) 93 (.slice A l.length c)
  have bL := bL0.alloc (.cells #[.slice A l.length c] 93)
  have hB0 : Below w.heap.size w ((w.alloc (.cells #[.slice none 0 0] 43)).alloc (.cells #[.slice A l.length c] 93)) := ((Below.refl _ w).alloc (Nat.le_refl _) _).alloc (by simp) _
  have hsz : ((w.alloc (.cells #[.slice none 0 0] 43)).alloc (.cells #[.slice A l.length c] 93)).heap.size = w.heap.size + 2 := by simp
  simp only [World.size_alloc] at bS
  clear bL0
  obtain ⟨W0, hW0⟩ : ∃ W0, (w.alloc (.cells #[.slice none 0 0] 43)).alloc (.cells #[.slice A l.length c] 93) = W0 := ⟨_, rfl⟩
  rw [hW0] at bS bL hB0 hsz ⊢
  clear hW0
  have hseq := each_stops Fence.wide (9 - 1) hF3 rfl (by omega) (w.heap.size + 1) A c l W0 bS.cell (by omega) ((RD.out.below hB0).more (by omega)) hn
  refine wpIn_rangeFunc_ownG rfl (by omega) (gf := 75) (lb := #[.pointer (some ⟨w.heap.size + 1, 0, none⟩)]) rfl hF3 (enters_of Tryz.func75 (by kernel_rfl) rfl)
    hseq (fun h k => h.t k) (keepA_b (w := W0) (fun a e => by have := hAb a e; omega)) (Below.refl _ _) (fun _ => rfl)
    (fun pre W => (∃ v, Boxed W w.heap.size 43 v ∧ W.ownsRow (w.heap.size + 2) 9 1 v pre.length (pre.map fun x => str x.1) ∧ True) ∧ Boxed W (w.heap.size + 1) 93 (.slice A l.length c) ∧ Below w.heap.size w W)
    (fun _ _ _ => False)
    (OwnFrom.and (Own.from (holdsRow_own (w.heap.size + 2) w.heap.size 43 9 1 (fun pre : List Rw => pre.length) (fun pre => pre.map fun x => str x.1) (fun pre v => True)) _) (OwnFrom.and (Own.from (boxed_own _ _ (fun _ => .slice A l.length c)) _) (ownFrom_below (Nat.le_refl _) (by omega))))
    (fun _ _ _ _ _ h _ _ => h)
    ⟨⟨_, bL, World.ownsRow_nil _ _ _ _, trivial⟩, bS, hB0⟩
    (fun x => { tmps := #[pv, undef, .slice none 0 0, .pointer (some ⟨w.heap.size, 0, none⟩), str x.1, pv, .slice A l.length c, .func (.func 75) #[] #[.pointer (some ⟨w.heap.size + 1, 0, none⟩)], str x.1, .int .i64 x.2, undef, undef, undef, undef, undef], defers := [] }) ?assign ?body ?done ?stop
  case assign =>
    intro l x W K hK
    gi_wp2
    exact hK
  case body =>
    rintro l' pre x W ⟨⟨v, hv, hrow, _⟩, hS, hB⟩ hlt
    have hN1 : pre.length ≤ 1000001 := Nat.le_trans (Nat.le_of_lt hlt) (by omega)
    have hc1 := hv.cell
    have hszW : w.heap.size + 1 + 1 ≤ W.heap.size := hS.lt
    have HBW := Lib.hid hB
    have HS := Lib.hid hS
    clear hseq bS bL hB0 hS hB CH CE
    gi_wp2_with (gi_at_builtin; go_loud (refine wpListIn_append_own _ rfl _ _ 43 rfl (w.heap.size + 2) 9 i0 (.string ByteArray.empty) 1 16 Tryz.underlying43 hi hz0 hz1 hz2 rfl (by decide) _ pre.length (pre.map fun x => str x.1) rfl (hrow.alloc _) ⟨W.heap.size, 0, none⟩ 1 1 [str x.1] rfl rfl (cell_one_new _ _ _) (by simp [Value.oneCell']) (Nat.le_trans (Nat.add_le_add_right hN1 1) (by unfold maxLen; decide)) (Nat.le_trans (Nat.mul_le_mul_right 16 (Nat.add_le_add_right hN1 1)) (by decide)) (by simp; omega) ?_); intro v' w1 hown' hgrow _; obtain ⟨g', cap', rfl⟩ := ownsRow_succ hown'; go_loud (obtain ⟨hva, hv2, hr2, hk2, hb2⟩ := hv.appended (by decide) (own_mono hrow (base' := w.heap.size) (by omega)) (by omega) (by omega) (own_mono hown' (base' := w.heap.size) (by omega)) hgrow); have hc2 := hva.cell; have hf2 := hva.frozen)
    have hne : ∀ k, k < w.heap.size + 2 → some k ≠ v.ownBlock := fun k hk e' => by have := (hrow.lt k e'.symm).1; omega
    have hS2 : Boxed _ _ _ _ := ((HS.out.alloc (.cells #[str x.1] 9)).kept hgrow (hne _ (by omega))).other (show w.heap.size + 1 ≠ w.heap.size by omega) (.slice (some ⟨g', 0, none⟩) (pre.length + 1) cap')
    have hown2 := hown'.kept (grownBy_setCell' w1 w.heap.size (.slice (some ⟨g', 0, none⟩) (pre.length + 1) cap')) (.inr fun e => by have := (hown'.lt w.heap.size e).1; omega)
    exact ⟨hk2.from _, fun a e => hb2.block _ (hAb a e), ⟨_, hv2, by simpa using hown2, trivial⟩, hS2, HBW.out.trans hb2⟩
  case done =>
    rintro D ys W hD rfl ⟨⟨v, hv, hrow, _⟩, hS, hB⟩ hK
    have hrow2 : OwnK strK W (w.heap.size + 2) v (keys ys) := by
      unfold OwnK
      rw [str_cells, keys_len]
      unfold keys
      rw [List.map_map]
      exact hrow
    obtain ⟨A2, c2, rfl, _, _, _⟩ := hrow2.form
    have hc1 := hv.cell
    have HRow := Lib.hid hrow2
    have HBW := Lib.hid hB
    clear hrow hrow2 hB hS hseq bS bL hB0 CH CE
    gi_wp2
    refine ⟨by simp, .inl ⟨_, _, rfl, run_takeDeferred hK, ?_⟩⟩
    refine ⟨_, results_tmp rfl _ _ _, _, rfl, (HRow.out.putObj (.deferred none) hK rfl).base (by omega), HBW.out.trans (belowK_b (w := w) (Nat.le_refl _) W D _ _ (by omega) hK rfl rfl)⟩
  case stop =>
    rintro D c pre W hD hpre h hK
    exact h.elim
end Go.Proofs.YtlfbjgeobibnhaaGreatDoor.IX
/-
  WALKS: a nil index, and one that nobody made.
-/
namespace Go.Proofs.YtlfbjgeobibnhaaGreatDoor.IX
open Go.RowKit HL
set_option maxRecDepth 100000
set_option linter.unusedVariables false
set_option linter.unusedSimpArgs false

/-- No index, or one that nobody made. -/
def Unm (W : World) (v : Value) : Prop := v = .pointer none ∨ ∃ B, v = ptr B ∧ W.cell? ⟨B, 0, none⟩ = some (.pointer none) ∧ B < W.heap.size
theorem Unm.then {W W1 : World} {v : Value} (h : Unm W v) (k : Below W.heap.size W W1) : Unm W1 v := by
  rcases h with h | ⟨B, e, c, l⟩
  · exact .inl h
  · exact .inr ⟨B, e, by rw [k.cell (p := ⟨B, 0, none⟩) l]; exact c, Nat.lt_of_lt_of_le l k.size⟩
theorem run_nil_some {P : Program} (w : World) {tp te : TypeId} (a : Addr) (hp : P.underlying tp = some (.pointer te)) : (binOp .eql tp (.pointer none) (.pointer (some a))).run P w = .ok (.bool false) w := by
  have h : ∀ d : Nat, (Op.equalIn (d + 1) tp (.pointer none) (.pointer (some a))).run P w = .ok false w := fun d => by
    simp [Op.equalIn, run_underlying hp]
  simp only [binOp]
  simp [Op.equal, Op.maxDepth, h 9999]
theorem made_no (v : Value) (w : World) (h : Unm w v) : Calls Tryz.prog 66 #[v] w fun e w' => e = .returned (.bool false) ∧ w = w' := by
  rcases h with rfl | ⟨B, rfl, c0, _⟩
  · go_enter Tryz.func66, Tryz.ntmps66
    go_wp2
    go_ret
    exact ⟨rfl, rfl⟩
  · have HE := fun W => run_nil_some (P := Tryz.prog) W (tp := 50) ⟨B, 0, none⟩ Tryz.underlying50
    go_enter Tryz.func66, Tryz.ntmps66
    go_wp2
    go_ret
    exact ⟨rfl, rfl⟩
theorem held_no (v : Value) (w : World) (h : Unm w v) : Calls Tryz.prog 63 #[v] w fun e w' => e = .returned (.slice none 0 0) ∧ w = w' := by
  have C := Lib.hid (made_no v w h)
  clear h
  go_enter Tryz.func63, Tryz.ntmps63
  go_wp2_with (go_at_call 66; ((with_reducible refine C.out.mono ?_); rintro e w1 ⟨rfl, rfl⟩))
  go_ret
  exact ⟨rfl, rfl⟩
theorem many_no (v : Value) (w : World) (h : Unm w v) : Calls Tryz.prog 56 #[v] w fun e w' => e = .returned (.int .i64 0) ∧ w = w' := by
  have C := Lib.hid (held_no v w h)
  clear h
  go_enter Tryz.func56, Tryz.ntmps56
  go_wp2_with (go_at_call 63; ((with_reducible refine C.out.mono ?_); rintro e w1 ⟨rfl, rfl⟩))
  go_ret
  exact ⟨rfl, rfl⟩
theorem search_no (h : Bs) (w : World) : Calls Tryz.prog 78 #[.slice none 0 0, str h, cmpF] w fun e w' => e = .returned (.tuple #[.int .i64 0, .bool false]) ∧ Below w.heap.size w w' :=
  (search_any none 0 [] h w (.inl rfl) (by decide) (by unfold Up; first | exact List.Pairwise.nil | trivial | simp)).mono fun e w' ⟨he, hb⟩ => ⟨by rw [he]; simp [plc, hasB, keys], hb⟩
theorem seek_no (v : Value) (h : Bs) (w : World) (hU : Unm w v) : Calls Tryz.prog 69 #[v, str h] w fun e w' => e = .returned (.tuple #[.int .i64 0, .bool false]) ∧ Below w.heap.size w w' := by
  have C := Lib.hid (held_no v w hU)
  have CS := Lib.hid (search_no h w)
  clear hU
  go_enter Tryz.func69, Tryz.ntmps69
  go_wp2_with (first
    | (go_at_call 63; ((with_reducible refine C.out.mono ?_); rintro e w1 ⟨rfl, rfl⟩))
    | (go_at_call 78; ((with_reducible refine CS.out.mono ?_); rintro e w1 ⟨rfl, k1⟩)))
  go_ret2
  exact ⟨rfl, k1⟩
theorem place_no (v : Value) (h : Bs) (w : World) (hU : Unm w v) : Calls Tryz.prog 64 #[v, str h] w fun e w' => e = .returned (.int .i64 0) ∧ Below w.heap.size w w' := by
  have C := Lib.hid (seek_no v h w hU)
  clear hU
  go_enter Tryz.func64, Tryz.ntmps64
  go_wp2_with (go_at_call 69; ((with_reducible refine C.out.mono ?_); rintro e w1 ⟨rfl, k1⟩))
  go_ret
  exact ⟨rfl, k1⟩
theorem find_no (v : Value) (h : Bs) (w : World) (hU : Unm w v) : Calls Tryz.prog 55 #[v, str h] w fun e w' => e = .returned (.tuple #[.int .i64 0, .bool false]) ∧ Below w.heap.size w w' := by
  have C := Lib.hid (seek_no v h w hU)
  clear hU
  go_enter Tryz.func55, Tryz.ntmps55
  go_wp2_with (go_at_call 69; ((with_reducible refine C.out.mono ?_); rintro e w1 ⟨rfl, k1⟩))
  go_ret2
  exact ⟨rfl, k1⟩
theorem take_no (v : Value) (h : Bs) (w : World) (hU : Unm w v) : Calls Tryz.prog 53 #[v, str h] w fun e w' => e = .returned (.tuple #[.int .i64 0, .int .i64 1]) ∧ Below w.heap.size w w' := by
  have C := Lib.hid (seek_no v h w hU)
  have CM := Lib.hid (fun W q => made_no v W (hU.then q))
  clear hU
  go_enter Tryz.func53, Tryz.ntmps53
  go_wp2_with (first
    | (go_at_call 69; ((with_reducible refine C.out.mono ?_); rintro e w1 ⟨rfl, k1⟩))
    | (go_at_call 66; ((with_reducible refine (CM.out _ k1).mono ?_); rintro e w2 ⟨rfl, rfl⟩)))
  go_ret2
  exact ⟨rfl, k1⟩
theorem put_un (v : Value) (h : Bs) (n : Int) (w : World) (hU : Unm w v) : Calls Tryz.prog 48 #[v, str h, .int .i64 n] w fun e w' => e = .returned (.int .i64 1) ∧ Below w.heap.size w w' := by
  have C := Lib.hid (seek_no v h w hU)
  have CM := Lib.hid (fun W q => made_no v W (hU.then q))
  clear hU
  go_enter Tryz.func48, Tryz.ntmps48
  go_wp2_with (first
    | (go_at_call 69; ((with_reducible refine C.out.mono ?_); rintro e w1 ⟨rfl, k1⟩))
    | (go_at_call 66; ((with_reducible refine (CM.out _ k1).mono ?_); rintro e w2 ⟨rfl, rfl⟩)))
  go_ret
  exact ⟨rfl, k1⟩
theorem all_no (v : Value) (w : World) (hU : Unm w v) : Calls Tryz.prog 44 #[v] w fun e w' => ∃ A c, e = .returned (.slice A 0 c) ∧ Below w.heap.size w w' :=
  (callsIn_wide.1 (all_inG v none 0 [] w (.inl rfl) (fun a e => by cases e) (Lib.hid fun W q => held_no v W (hU.then q)) (by decide))).mono fun e w' ⟨v', he, ho, hb⟩ => by
    obtain ⟨A, c, rfl, _⟩ := ho.form
    exact ⟨A, c, he, hb⟩
theorem from_no (v : Value) (h : Bs) (w : World) (hU : Unm w v) :
    Calls Tryz.prog 39 #[v, str h] w fun e w' => ∃ Bb A c, e = .returned (.func (.func 75) #[] #[.pointer (some ⟨Bb, 0, none⟩)]) ∧ Iter w' w.heap.size Bb A c [] ∧ Below w.heap.size w w' := by
  have CP := Lib.hid (place_no v h w hU)
  have CH := Lib.hid (held_no v w hU)
  have s2' : ∀ W, (Instr.slice 93 (.slice none 0 0) (some (.int .i64 0)) none none).run Tryz.prog W = .ok (.slice none 0 0) W := fun W => by
    have q := run_slice_l W rowK.T none 0 0 (under_K rowK) .i64 (0 : Int) (by omega) (by omega)
    rw [rowK.el, size_K] at q
    refine Eq.trans q ?_
    simp [Result.andThen, sliced]
  have CC := Lib.hid (fun W => clone_any none 0 0 [] W rfl (.inl rfl) (by decide) (fun _ => ⟨rfl, rfl⟩))
  have CE := Lib.hid each_any
  clear hU
  go_enter Tryz.func39, Tryz.ntmps39
  go_wp2_with (first
    | (go_at_call 63; ((with_reducible refine CH.out.mono ?_); rintro e w1 ⟨rfl, rfl⟩))
    | (go_at_call 64; ((with_reducible refine CP.out.mono ?_); rintro e w2 ⟨rfl, k2⟩))
    | (go_at_call 62; ((with_reducible refine (CC.out _).mono ?_); rintro e w3 ⟨v3, rfl, o3, k3⟩; obtain ⟨A3, c3, rfl, _, _⟩ := o3.form; have O3 := Lib.hid o3; clear o3))
    | (go_at_call 61; ((with_reducible refine (CE.out _ A3 _ c3 rfl _).mono ?_); rintro e w4 ⟨rfl, rfl⟩)))
  go_ret
  have hb := bThen k2 k3
  refine ⟨_, A3, c3, rfl, ⟨Boxed.new _ _ _, (O3.out.base k2.size).below ((Below.refl _ _).alloc (Nat.le_refl _) _), hb.size, ?_⟩, bAl hb _⟩
  intro e
  have := (O3.out.lt _ e).2
  omega
theorem copy_no (w : World) : Calls Tryz.prog 43 #[.pointer none] w fun e w' => e = .returned (.pointer none) ∧ w = w' := by
  go_enter Tryz.func43, Tryz.ntmps43
  go_wp2
  go_ret
  exact ⟨rfl, rfl⟩
end Go.Proofs.YtlfbjgeobibnhaaGreatDoor.IX
/-
  WALK: the laws' guard Long.
-/
namespace Go.Proofs.YtlfbjgeobibnhaaGreatDoor
open Go.RowKit
set_option maxRecDepth 100000
set_option linter.unusedVariables false

def longB (o : Ob) : Bool := decide (100 < o.handle.size ∨ 100 < o.parent.size ∨ 100 < o.ref.size)
theorem longB_out {o : Ob} (h : longB o = false) : o.handle.size ≤ 100 ∧ o.parent.size ≤ 100 ∧ o.ref.size ≤ 100 := by
  simp [longB] at h; omega
theorem long_any (o : Ob) (w : World) : Calls Tryz.prog 18 #[ob o] w fun e w' => e = .returned (.bool (longB o)) ∧ Below w.heap.size w w' := by
  have hb : Below w.heap.size w w := Below.refl _ _
  by_cases h1 : 100 < o.handle.size
  · have HV := Lib.hid (show longB o = true by simp [longB]; omega)
    have h1' : (100 : Int) < o.handle.size := by omega
    go_enter Tryz.func18, Tryz.ntmps18
    go_wp2
    go_ret
    exact ⟨by rw [HV.out]; rfl, bAl hb _⟩
  · by_cases h2 : 100 < o.parent.size
    · have HV := Lib.hid (show longB o = true by simp [longB]; omega)
      have h1' : ¬ (100 : Int) < o.handle.size := by omega
      have h2' : (100 : Int) < o.parent.size := by omega
      clear h1 h2
      go_enter Tryz.func18, Tryz.ntmps18
      go_wp2
      go_ret
      exact ⟨by rw [HV.out]; rfl, bAl hb _⟩
    · by_cases h3 : 100 < o.ref.size
      · have HV := Lib.hid (show longB o = true by simp [longB]; omega)
        have h1' : ¬ (100 : Int) < o.handle.size := by omega
        have h2' : ¬ (100 : Int) < o.parent.size := by omega
        have h3' : (100 : Int) < o.ref.size := by omega
        clear h1 h2 h3
        go_enter Tryz.func18, Tryz.ntmps18
        go_wp2
        go_ret
        exact ⟨by rw [HV.out]; simp [*], bAl hb _⟩
      · have HV := Lib.hid (show longB o = false by simp [longB]; omega)
        have h1' : ¬ (100 : Int) < o.handle.size := by omega
        have h2' : ¬ (100 : Int) < o.parent.size := by omega
        have h3' : ¬ (100 : Int) < o.ref.size := by omega
        clear h1 h2 h3
        go_enter Tryz.func18, Tryz.ntmps18
        go_wp2
        go_ret
        exact ⟨by rw [HV.out]; simp [*], bAl hb _⟩
end Go.Proofs.YtlfbjgeobibnhaaGreatDoor
