/-
  WALKS: New, All, Copy of an arena.
-/
import Derived.Test.YtaofhooddbkglaaAProg
import Derived.StillTailTactics
import Derived.Laws.OwnMore
import Derived.OwnWalk
import Derived.Deep.MidRow
import Derived.Deep.CutRange
namespace Go.Proofs.Ytaofhooddbkglaa
open Go.RowKit
set_option maxRecDepth 100000
set_option linter.unusedVariables false
set_option linter.unusedSimpArgs false

def newS (n : Nat) : Ar := ⟨List.replicate n false, List.replicate n 0⟩
theorem newS_ok {n : Nat} (h1 : 1 ≤ n) (h2 : n ≤ 64) : ArOk (newS n) := ⟨by simp [newS]; exact h1, by simp [newS]; exact h2, by simp [newS]⟩
theorem newS_ag (n i : Nat) : (newS n).ag.getD i 0 = 0 := by
  simp only [newS, List.getD_eq_getElem?_getD, List.getElem?_replicate]
  split <;> rfl
theorem bitsN_none (n : Nat) : bitsN (List.replicate n false) = 0 := by
  induction n with
  | zero => rfl
  | succ n ih => simp [List.replicate_succ, bitsN, ih]
theorem new_no (n : Int) (w : World) (h : n < 1 ∨ 64 < n) : Calls Try.prog 9 #[.int .i64 n] w fun e w' => e = .returned (.tuple #[.pointer none, .int .i64 2]) ∧ w = w' := by
  rcases h with h | h
  · go_enter Try.func9, Try.ntmps9
    go_wp2
    go_ret2
    exact ⟨rfl, rfl⟩
  · have h1 : ¬ n < 1 := by omega
    go_enter Try.func9, Try.ntmps9
    go_wp2
    go_ret2
    exact ⟨rfl, rfl⟩
def arZ : Array Value := (([.pointer none, .int .i64 0, .int .u64 0] : List Value) ++ (List.range 64).map fun _ => Value.int .i64 0).toArray
theorem zero_ar (W : World) : Sem.run Try.prog (zeroValue 51) W = .ok (.agg arZ) W := by kernel_rfl
theorem arZ_new (B n : Nat) : (arZ.setIfInBounds 1 (.int .i64 n)).setIfInBounds 0 (ptr B) = arC B (newS n) := by
  have e : agesV (newS n).ag = (List.range 64).map fun _ => Value.int .i64 0 := by
    unfold agesV
    apply List.map_congr_left
    intro i _
    rw [newS_ag]; rfl
  have e2 : (newS n).tk = List.replicate n false := rfl
  unfold arC
  rw [e, e2, bitsN_none]
  simp [arZ]
theorem arZ_size : arZ.size = 67 := by kernel_rfl
theorem new_yes (n : Nat) (w : World) (h1 : 1 ≤ n) (h2 : n ≤ 64) : Calls Try.prog 9 #[.int .i64 n] w fun e w' => e = .returned (.tuple #[ptr w.heap.size, .int .i64 0]) ∧ AtC w' w.heap.size (arC w.heap.size (newS n)) ∧ Below w.heap.size w w' := by
  have i1 : ¬ (n : Int) < 1 := by omega
  have i2 : ¬ (64 : Int) < n := by omega
  have hz := zero_ar
  have hs := arZ_size
  go_enter Try.func9, Try.ntmps9
  go_wp2
  go_ret2
  have q := AtC.new w (arC w.heap.size (newS n)) 51
  rw [← arZ_new] at q
  exact ⟨rfl, by rw [← arZ_new]; exact q, (Below.refl _ _).alloc (Nat.le_refl _) _⟩
/-! ## All -/
abbrev vi (x : Int) : Value := .int .i64 x
/-- A row of whole numbers of the call's own (from block 'base' on). -/
def OwnI (w : World) (base : Nat) (v : Value) (l : List Int) : Prop := w.ownsRow base 3 1 v l.length (l.map vi)
theorem OwnI.lt {w : World} {base : Nat} {v : Value} {l : List Int} (h : OwnI w base v l) : ∀ k, v.ownBlock = some k → base ≤ k ∧ k < w.heap.size := World.ownsRow.lt (show w.ownsRow _ _ _ _ _ _ from h)
theorem OwnI.nil_ (w : World) (base : Nat) : OwnI w base (.slice none 0 0) [] := ⟨rfl, .inl ⟨rfl, rfl⟩⟩
theorem OwnI.base {w : World} {base base' : Nat} {v : Value} {l : List Int} (h : OwnI w base v l) (hb : base' ≤ base) : OwnI w base' v l := by
  refine ⟨h.1, ?_⟩
  rcases h.2 with h2 | ⟨g, cap, cur, e, hg, r⟩
  · exact .inl h2
  · exact .inr ⟨g, cap, cur, e, Nat.le_trans hb hg, r⟩
theorem OwnI.kept {w w' : World} {base : Nat} {v : Value} {l : List Int} {P : Nat → Prop} (h : OwnI w base v l) (hk : Kept w w' P) (hp : ∀ k, base ≤ k → P k) : OwnI w' base v l := by
  refine ⟨h.1, ?_⟩
  rcases h.2 with h2 | ⟨g, cap, cur, e, hg, hh, r⟩
  · exact .inl h2
  · exact .inr ⟨g, cap, cur, e, hg, by rw [hk.block g ((Array.getElem?_eq_some_iff.1 hh).1) (hp g hg)]; exact hh, r⟩
theorem OwnI.below {w w' : World} {base : Nat} {v : Value} {l : List Int} (h : OwnI w base v l) (hb : Below w.heap.size w w') : OwnI w' base v l := h.kept (P := fun _ => True) (.of_below hb) fun _ _ => trivial
theorem OwnI.al {w : World} {base : Nat} {v : Value} {l : List Int} (h : OwnI w base v l) (o : Obj) : OwnI (w.alloc o) base v l := World.ownsRow.alloc h o
theorem info_int : (Try.prog.info? 3).map (fun i => (i.zero, i.size, i.bytes)) = some (some (.int .i64 0), 1, 8) := by kernel_rfl
/-- 'append(own, x)': the literal [x] lies in a block that has just been made. -/
theorem wpList_oneI {ops : Array Oper} {rest : List Oper} {o : Oper} {a : Act} {Q : Exit → Act → World → Prop} (w : World) (hgd : o.guard = none) (s x : Operand)
    (ho : o.op = .call { callee := .builtin .append, args := #[s, x], argTypes := #[40, 40] }) (base : Nat) (v : Value) (l : List Int) (hs : a.eval s = v) (hown : OwnI w base v l)
    (n : Int) (hx : a.eval x = .slice (some ⟨w.heap.size, 0, none⟩) 1 1) (hl : l.length ≤ 1000000) (hbase : base ≤ w.heap.size)
    (h : ∀ v' w', OwnI w' base v' (l ++ [n]) → Below base w w' → wpList Try.prog ops Q rest (a.put o.dst v') w') : wpList Try.prog ops Q (o :: rest) a (w.alloc (.cells #[vi n] 3)) := by
  obtain ⟨i0, hi, hz0, hz1, hz2⟩ := info_parts info_int
  refine wpList_append_own _ hgd s x 40 ho base 3 i0 (.int .i64 0) 1 8 Try.underlying40 hi hz0 hz1 hz2 rfl (by decide) v l.length _ hs (hown.al _) ⟨w.heap.size, 0, none⟩ 1 1 [vi n] hx (by simp) ?_ (by simp [Value.oneCell']) (by unfold maxLen; omega) (by omega) (by simp; omega)
    (fun v' w' q g _ => h v' w' (by unfold OwnI; simpa using q) (((Below.refl _ _).alloc hbase _).grown g (by simp; omega) (fun k hk => (hown.lt k hk).1)))
  intro j u hu
  rcases j with _ | j
  · simp at hu; subst hu
    rw [show (⟨w.heap.size, 0, none⟩ : Addr).add 0 = ⟨w.heap.size, 0, none⟩ by unfold Addr.add; split <;> simp_all]
    rw [World.cell?_alloc_at _ _ _ _ rfl]; rfl
  · simp at hu
/-- The taken slots below k, rising. -/
def allL (l : List Bool) (k : Nat) : List Int := ((List.range k).filter fun i => l.getD i false).map fun (i : Nat) => (i : Int)
theorem allL_len (l : List Bool) (k : Nat) : (allL l k).length ≤ k := by
  unfold allL; rw [List.length_map]; exact Nat.le_trans (List.length_filter_le _ _) (by simp)
theorem allL_no {l : List Bool} {k : Nat} (h : l.getD k false = false) : allL l (k + 1) = allL l k := by
  unfold allL; rw [List.range_succ, List.filter_append, show ([k].filter fun i => l.getD i false) = [] by rw [List.filter_cons, h]; rfl, List.append_nil]
theorem allL_yes {l : List Bool} {k : Nat} (h : l.getD k false = true) : allL l (k + 1) = allL l k ++ [(k : Int)] := by
  unfold allL; rw [List.range_succ, List.filter_append, List.map_append]
  rw [show ([k].filter fun i => l.getD i false) = [k] by rw [List.filter_cons, h]; rfl]; rfl
set_option maxHeartbeats 2000000 in
theorem all_any (B : Nat) (s : Ar) (hs : ArOk s) (w : World) (hA : AtC w B (arC B s)) : Calls Try.prog 23 #[ptr B] w fun e w' => ∃ v, e = .returned v ∧ OwnI w' w.heap.size v (allL s.tk s.tk.length) ∧ Below w.heap.size w w' := by
  have CZ := Lib.hid (fun W q => size_any B s W (hA.then q))
  have CT := Lib.hid (fun W q (k : Int) => taken_any B s hs k W (hA.then q))
  have hb : Below w.heap.size w w := Below.refl _ _
  have hle := hs.le
  clear hA hs
  go_enter Try.func23, Try.ntmps23
  go_wp2_with (go_at_call 21; ((with_reducible refine (CZ.out _ hb).mono ?_); rintro e w1 ⟨rfl, rfl⟩))
  go_loopw [3, 7] (fun v i wr => ∃ k : Nat, i = .int .i64 k ∧ k ≤ s.tk.length ∧ OwnI wr w.heap.size v (allL s.tk k) ∧ Below w.heap.size w wr) (fun _ i _ => s.tk.length - (intOf i).toNat)
  case atStart => exact ⟨0, rfl, Nat.zero_le _, OwnI.nil_ _ _, hb⟩
  case round =>
    obtain ⟨k, rfl, hk, ho, hb1⟩ := hrel
    have HO := Lib.hid ho
    clear ho hb
    by_cases hlt : k < s.tk.length
    · have i1 : (k : Int) < s.tk.length := by omega
      have hk64 : k < 64 := by omega
      have HT := Lib.hid (show takenB s k = s.tk.getD k false by simp [takenB, exB, i1])
      have C := Lib.hid (CT.out _ hb1 k)
      have hlen := allL_len s.tk k
      cases hx : s.tk.getD k false with
      | false =>
        have C2 : Hid (Calls Try.prog 15 #[ptr B, .int .i64 k] wr fun e w' => e = .returned (.bool false) ∧ Below wr.heap.size wr w') := Lib.hid (by have := C.out; rw [HT.out, hx] at this; exact this)
        have HN := Lib.hid (allL_no hx)
        clear hx C HT
        go_wp2_with (go_at_call 15; ((with_reducible refine C2.out.mono ?_); rintro e w1 ⟨rfl, k1⟩; have hb2 := bThen hb1 k1; have HO2 := Lib.hid (HO.out.below k1)))
        go_roundw
        case rel => exact ⟨k + 1, by go_num, by omega, by rw [HN.out]; exact HO2.out, hb2⟩
        case measure => simp [intOf]; omega
      | true =>
        have C2 : Hid (Calls Try.prog 15 #[ptr B, .int .i64 k] wr fun e w' => e = .returned (.bool true) ∧ Below wr.heap.size wr w') := Lib.hid (by have := C.out; rw [HT.out, hx] at this; exact this)
        have HY := Lib.hid (allL_yes hx)
        clear hx C HT
        go_wp2_with (first
          | (go_at_call 15; ((with_reducible refine C2.out.mono ?_); rintro e w1 ⟨rfl, k1⟩; have hb2 := bThen hb1 k1; have HO2 := Lib.hid (HO.out.below k1); have hz := hb2.size))
          | (at_builtin; refine wpList_oneI w1 rfl (.tmp 13) (.tmp 15) rfl w.heap.size u3 (allL s.tk k) rfl HO2.out k rfl ?c1 hz ?_))
        case c1 => omega
        intro v2 w2 ho2 hb3
        have HO3 := Lib.hid ho2
        clear ho2
        go_wp2
        go_roundw
        case rel => exact ⟨k + 1, by go_num, by omega, by rw [HY.out]; exact HO3.out, hb2.trans hb3⟩
        case measure => simp [intOf]; omega
    · have e : k = s.tk.length := by omega
      subst e
      go_wp2
      go_ret
      exact ⟨_, rfl, HO.out, hb1⟩
/-! ## Copy -/
theorem under_ar : Try.prog.underlying 51 = some (((Try.prog.underlying 51)).get!) := by kernel_rfl
theorem row_ar : (((Try.prog.underlying 51)).get!).isRow = true := by kernel_rfl
theorem size_ar : (Try.prog.info? 51).map (·.size) = some 67 := by kernel_rfl
theorem load_ar {W : World} {B : Nat} {C : Array Value} (h : AtC W B C) (hC : C.size = 67) : Sem.run Try.prog (Instr.loadAt 51 (ptr B)) W = .ok (.agg C) W :=
  run_loadAt_mid W B 0 51 C.toList _ (fun j v hv => by rw [Nat.zero_add, h.c j]; simpa using hv) under_ar row_ar (by rw [size_ar]; simp [hC])
theorem setCells_size (B : Nat) : ∀ (vs : List Value) (o : Nat) (w : World), (w.setCells B o vs).heap.size = w.heap.size
  | [], _, _ => rfl
  | v :: r, o, w => by rw [World.setCells, setCells_size B r]; simp [World.setCell]
theorem AtC.setAll {W : World} {B : Nat} {Z C : Array Value} (h : AtC W B Z) (hs : Z.size = C.size) : AtC (W.setCells B 0 C.toList) B C := by
  refine ⟨by rw [setCells_size]; exact h.lt, fun i => ?_, fun i => by rw [World.frozen?_setCells]; exact h.f i⟩
  by_cases hi : i < C.size
  · have := World.cell?_setCells_in B C.toList 0 W (fun j hj => by rw [Nat.zero_add, h.c j]; simp at hj; simp [hs, hj]) i (by simpa using hi)
    rw [Nat.zero_add] at this
    rw [this]; simp [hi]
  · rw [World.cell?_setCells_out B C.toList 0 W _ (fun _ _ => Or.inr (by simp; omega)), h.c i, Array.getElem?_eq_none (by omega), Array.getElem?_eq_none (by omega)]
theorem Below.setAll {a : World} {n : Nat} (B : Nat) (hB : n ≤ B) : ∀ (vs : List Value) (o : Nat) (w : World), Below n a w → Below n a (w.setCells B o vs)
  | [], _, _, h => h
  | v :: r, o, w, h => by rw [World.setCells]; exact Below.setAll B hB r _ _ (h.setCell (p := ⟨B, o, none⟩) hB v)
theorem arC_one (B : Nat) (s : Ar) : (arC B s).all (·.oneCell') = true := by
  rw [Array.all_eq_true_iff_forall_mem]
  intro v hv
  simp only [arC, agesV, List.mem_toArray, List.mem_append, List.mem_cons, List.mem_map, List.not_mem_nil, or_false] at hv
  rcases hv with (rfl | rfl | rfl) | ⟨_, _, rfl⟩ <;> rfl
theorem arC_move (B B' : Nat) (s : Ar) : (arC B s).setIfInBounds 0 (ptr B') = arC B' s := by simp [arC]
set_option maxHeartbeats 1000000 in
theorem copy_any (B : Nat) (s : Ar) (w : World) (hA : AtC w B (arC B s)) : Calls Try.prog 25 #[ptr B] w fun e w' => e = .returned (ptr w.heap.size) ∧ AtC w' w.heap.size (arC w.heap.size s) ∧ Below w.heap.size w w' := by
  have CM := Lib.hid (made_any B s w hA)
  have HA := Lib.hid hA
  have hsz := arC_size B s
  have hz := zero_ar
  have M := Lib.hid ((AtC.new w arZ 51).setAll (C := arC B s) (by rw [arZ_size, hsz]))
  have hb := Below.setAll (a := w) w.heap.size (Nat.le_refl _) (arC B s).toList 0 _ ((Below.refl w.heap.size w).alloc (Nat.le_refl _) (.cells arZ 51))
  have HT : Hid ((w.alloc (.cells arZ 51)).there w.heap.size 0 (arC B s).size) := Lib.hid (fun j hj => by
    have q := AtC.new w arZ 51
    rw [Nat.zero_add, q.c j, q.f j]
    have : j < arZ.size := by rw [arZ_size, ← hsz]; exact hj
    simp [this])
  clear hA
  go_enter Try.func25, Try.ntmps25
  go_upto_region 5 with ((go_at_call 28; ((with_reducible refine CM.out.mono ?_); rintro e w1 ⟨rfl, rfl⟩)))
  refine wp_region_lit ?_
  refine wpList_plain rfl fun K hK => ?_
  go_simp
  refine hK _ _ ?_; clear hK K
  refine wpList_plain rfl fun K hK => ?_
  go_simp
  refine hK _ _ ?_; clear hK K
  refine wpList_load_mid rfl 51 (.tmp 14) rfl B 0 rfl (arC B s).toList _ (fun j v hv => by rw [Nat.zero_add, HA.out.c j]; simpa using hv) under_ar row_ar (by rw [size_ar]; simp [hsz]) ?_
  refine wpList_plain rfl fun K hK => ?_
  go_simp
  refine hK _ _ ?_; clear hK K
  refine wpList_store_mid rfl 51 (.tmp 3) (.tmp 15) rfl w.heap.size 0 (arC B s) rfl rfl HT.out (by rw [size_ar, hsz]) (arC_one B s) ?_
  have hlt := M.out.lt
  have c0 := (M.out.c 0).trans (arC_0 B s)
  have f0 := M.out.f 0
  have HM := Lib.hid (arC_move B w.heap.size s)
  generalize (w.alloc (.cells arZ 51)).setCells w.heap.size 0 (arC B s).toList = w2 at *
  have f1 := M.out.f 0
  go_wp2
  go_ret
  refine ⟨rfl, ?_, hb.setCell (by simp) _⟩
  have q := M.out.set (i := 0) (by rw [hsz]; decide) (ptr w.heap.size)
  rw [HM.out] at q
  exact q
end Go.Proofs.Ytaofhooddbkglaa
