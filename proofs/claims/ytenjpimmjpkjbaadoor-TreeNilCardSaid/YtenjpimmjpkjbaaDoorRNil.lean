/-
  WALKS: a nil tree, and one that nobody made.
-/
import Derived.Test.YtenjpimmjpkjbaaDoorINil
import Derived.Test.YtenjpimmjpkjbaaDoorOLong
import Derived.Laws.EntriesVeiled
namespace Go.Proofs.YtenjpimmjpkjbaaDoor.TX
open Go.RowKit HL
open IX (ptr run_nil_some)
set_option maxRecDepth 100000
set_option linter.unusedVariables false
set_option linter.unusedSimpArgs false

/-- No tree, or one that nobody made. -/
def Unm (W : World) (v : Value) : Prop := v = .pointer none ∨ ∃ B, v = ptr B ∧ W.cell? ⟨B, 0, none⟩ = some (.pointer none) ∧ B < W.heap.size
theorem Unm.then {W W1 : World} {v : Value} (h : Unm W v) (k : Below W.heap.size W W1) : Unm W1 v := by
  rcases h with h | ⟨B, e, c, l⟩
  · exact .inl h
  · exact .inr ⟨B, e, by rw [k.cell (p := ⟨B, 0, none⟩) l]; exact c, Nat.lt_of_lt_of_le l k.size⟩
theorem Unm.form {W : World} {v : Value} (h : Unm W v) : ∃ p, v = .pointer p := by
  rcases h with h | ⟨B, e, _, _⟩
  · exact ⟨_, h⟩
  · exact ⟨_, e⟩
theorem made_no (v : Value) (w : World) (h : Unm w v) : Calls Tryd.prog 29 #[v] w fun e w' => e = .returned (.bool false) ∧ w = w' := by
  rcases h with rfl | ⟨B, rfl, c0, _⟩
  · go_enter Tryd.func29, Tryd.ntmps29
    go_wp2
    go_ret
    exact ⟨rfl, rfl⟩
  · have HE := fun W => run_nil_some (P := Tryd.prog) W (tp := 25) ⟨B, 0, none⟩ Tryd.underlying25
    go_enter Tryd.func29, Tryd.ntmps29
    go_wp2
    go_ret
    exact ⟨rfl, rfl⟩
theorem slot_no (v : Value) (h : ByteArray) (w : World) (hU : Unm w v) : Calls Tryd.prog 10 #[v, .string h] w fun e w' => e = .returned (.tuple #[.int .i64 0, .bool false]) ∧ w = w' := by
  have C := Lib.hid (made_no v w hU)
  clear hU
  go_enter Tryd.func10, Tryd.ntmps10
  go_wp2_with (go_at_call 29; ((with_reducible refine C.out.mono ?_); rintro e w1 ⟨rfl, rfl⟩))
  go_ret2
  exact ⟨rfl, rfl⟩
/-- An object and a bool handed back. -/
theorem ret_ob2 {fn : Func} {R : Ending → World → Prop} {act : Act} {W : World} {B : Nat} {o : Ob} {b : Bool} {p q : Tmp} (hr : fn.results = #[.cell p 23, .tmp q]) (hp : act.tmps.getD p undef = .pointer (some ⟨B, 0, none⟩)) (hq : act.tmps.getD q undef = .bool b) (hd : act.defers = [])
    (h : AtC W B (obCells o)) (hR : R (.returned (.tuple #[ob o, .bool b])) W) : bodyPost Tryd.prog fn R .ret act W := by
  refine bodyPost_ret (v := .tuple #[ob o, .bool b]) ?_ hd hR
  have h0 := h.c
  simp at hp hq
  simp only [results, hr]
  simp [Sem.run_bind, Result.andThen, hp, hq, go_sem, h0]
theorem at_no (v : Value) (h : ByteArray) (w : World) (hU : Unm w v) : Calls Tryd.prog 9 #[v, .string h] w fun e w' => e = .returned (.tuple #[ob zeroOb, .bool false]) ∧ Below w.heap.size w w' := by
  have C := Lib.hid (fun W q => slot_no v h W (hU.then q))
  have hb : Below w.heap.size w w := Below.refl _ _
  clear hU
  go_enter Tryd.func9, Tryd.ntmps9
  go_wp2_with (go_at_call 10; ((with_reducible refine (C.out _ (bAl hb _)).mono ?_); rintro e w1 ⟨rfl, rfl⟩))
  exact ret_ob2 (o := zeroOb) rfl rfl rfl rfl (AtC.new _ _ _) ⟨rfl, bAl hb _⟩
theorem seek_no (v : Value) (h : ByteArray) (w : World) (hU : Unm w v) : Calls Tryd.prog 35 #[v, .string h] w fun e w' => e = .returned (.tuple #[.int .i64 0, .int .i64 1]) ∧ w = w' := by
  have C := Lib.hid (slot_no v h w hU)
  have CM := Lib.hid (made_no v w hU)
  clear hU
  go_enter Tryd.func35, Tryd.ntmps35
  go_wp2_with (first
    | (go_at_call 10; ((with_reducible refine C.out.mono ?_); rintro e w1 ⟨rfl, rfl⟩))
    | (go_at_call 29; ((with_reducible refine CM.out.mono ?_); rintro e w1 ⟨rfl, rfl⟩)))
  go_ret2
  exact ⟨rfl, rfl⟩
theorem add_un (v : Value) (o : Ob) (w : World) (hU : Unm w v) : Calls Tryd.prog 11 #[v, ob o] w fun e w' => e = .returned (.int .i64 1) ∧ Below w.heap.size w w' := by
  have hb : Below w.heap.size w w := Below.refl _ _
  have C := Lib.hid (fun W q => slot_no v o.handle W (hU.then q))
  have CM := Lib.hid (fun W q => made_no v W (hU.then q))
  clear hU
  go_enter Tryd.func11, Tryd.ntmps11
  go_wp2_with (first
    | (go_at_call 10; ((with_reducible refine (C.out _ (bAl hb _)).mono ?_); rintro e w1 ⟨rfl, rfl⟩))
    | (go_at_call 29; ((with_reducible refine (CM.out _ (bAl hb _)).mono ?_); rintro e w1 ⟨rfl, rfl⟩)))
  go_ret
  exact ⟨rfl, bAl hb _⟩
theorem set_un (v : Value) (o : Ob) (w : World) (hU : Unm w v) : Calls Tryd.prog 12 #[v, ob o] w fun e w' => e = .returned (.int .i64 1) ∧ Below w.heap.size w w' := by
  have hb : Below w.heap.size w w := Below.refl _ _
  have C := Lib.hid (fun W q => seek_no v o.handle W (hU.then q))
  clear hU
  go_enter Tryd.func12, Tryd.ntmps12
  go_wp2_with (go_at_call 35; ((with_reducible refine (C.out _ (bAl hb _)).mono ?_); rintro e w1 ⟨rfl, rfl⟩))
  go_ret
  exact ⟨rfl, bAl hb _⟩
theorem remove_un (v : Value) (h : ByteArray) (w : World) (hU : Unm w v) : Calls Tryd.prog 13 #[v, .string h] w fun e w' => e = .returned (.int .i64 1) ∧ w = w' := by
  have C := Lib.hid (seek_no v h w hU)
  clear hU
  go_enter Tryd.func13, Tryd.ntmps13
  go_wp2_with (go_at_call 35; ((with_reducible refine C.out.mono ?_); rintro e w1 ⟨rfl, rfl⟩))
  go_ret
  exact ⟨rfl, rfl⟩
theorem many_no (v : Value) (w : World) (hU : Unm w v) : Calls Tryd.prog 14 #[v] w fun e w' => e = .returned (.int .i64 0) ∧ w = w' := by
  have C := Lib.hid (made_no v w hU)
  clear hU
  go_enter Tryd.func14, Tryd.ntmps14
  go_wp2_with (go_at_call 29; ((with_reducible refine C.out.mono ?_); rintro e w1 ⟨rfl, rfl⟩))
  go_ret
  exact ⟨rfl, rfl⟩
theorem slots_no (v : Value) (w : World) (hU : Unm w v) : Calls Tryd.prog 15 #[v] w fun e w' => e = .returned (.int .i64 0) ∧ w = w' := by
  have C := Lib.hid (made_no v w hU)
  clear hU
  go_enter Tryd.func15, Tryd.ntmps15
  go_wp2_with (go_at_call 29; ((with_reducible refine C.out.mono ?_); rintro e w1 ⟨rfl, rfl⟩))
  go_ret
  exact ⟨rfl, rfl⟩
theorem kids_no (v : Value) (h : ByteArray) (w : World) (hU : Unm w v) : Calls Tryd.prog 18 #[v, .string h] w fun e w' => e = .returned (.slice none 0 0) ∧ w = w' := by
  have C := Lib.hid (made_no v w hU)
  clear hU
  go_enter Tryd.func18, Tryd.ntmps18
  go_wp2_with (go_at_call 29; ((with_reducible refine C.out.mono ?_); rintro e w1 ⟨rfl, rfl⟩))
  go_ret
  exact ⟨rfl, rfl⟩
theorem copy_no (w : World) : Calls Tryd.prog 20 #[.pointer none] w fun e w' => e = .returned (.pointer none) ∧ w = w' := by
  go_enter Tryd.func20, Tryd.ntmps20
  go_wp2
  go_ret
  exact ⟨rfl, rfl⟩
theorem all_no (v : Value) (w : World) (hU : Unm w v) : Calls Tryd.prog 16 #[v] w fun e w' => e = .returned (.slice none 0 0) ∧ Below w.heap.size w w' := by
  have hb : Below w.heap.size w w := Below.refl _ _
  obtain ⟨p, rfl⟩ := hU.form
  have C := Lib.hid (fun W q => made_no (.pointer p) W (hU.then q))
  clear hU
  go_enter Tryd.func16, Tryd.ntmps16
  go_wp2_with (go_at_call 29; ((with_reducible refine (C.out _ (bAl hb _)).mono ?_); rintro e w1 ⟨rfl, rfl⟩))
  go_ret
  exact ⟨rfl, bAl hb _⟩
set_option maxHeartbeats 1000000 in
theorem above_no (v : Value) (h : ByteArray) (w : World) (hU : Unm w v) : Calls Tryd.prog 19 #[v, .string h] w fun e w' => e = .returned (.slice none 0 0) ∧ Below w.heap.size w w' := by
  have hb : Below w.heap.size w w := Below.refl _ _
  obtain ⟨p, rfl⟩ := hU.form
  have C := Lib.hid (fun W q => at_no (.pointer p) h W (hU.then q))
  have C2 := Lib.hid (fun W q => at_no (.pointer p) zeroOb.parent W (hU.then q))
  clear hU
  go_enter Tryd.func19, Tryd.ntmps19
  go_wp2_with (go_at_call 9; ((with_reducible refine (C.out _ hb).mono ?_); rintro e w1 ⟨rfl, k1⟩; replace hb := bThen hb k1))
  refine wp_loop_rounds 1 ?_
  rw [rounds_succ]
  go_wp2_with (go_at_call 9; ((with_reducible refine (C2.out _ (bAl hb _)).mono ?_); rintro e w2 ⟨rfl, k2⟩; replace hb := bThen (bAl hb _) k2))
  go_ret
  exact ⟨rfl, bAl hb _⟩
set_option maxHeartbeats 1000000 in
theorem walk_no (v : Value) (w : World) (hU : Unm w v) : Calls Tryd.prog 17 #[v] w fun e w' => e = .returned (.slice none 0 0) ∧ Below w.heap.size w w' := by
  have hb : Below w.heap.size w w := Below.refl _ _
  obtain ⟨p, rfl⟩ := hU.form
  have C := Lib.hid (fun W q => all_no (.pointer p) W (hU.then q))
  clear hU
  go_enter Tryd.func17, Tryd.ntmps17
  go_wp2_with (go_at_call 16; ((with_reducible refine (C.out _ (bAl (bAl (bAl hb _) _) _)).mono ?_); rintro e w1 ⟨rfl, k1⟩; have mL := (((AtC.new (w.alloc (.cells #[.pointer p] 25)) #[.slice none 0 0] 41).al _).then k1).c 0; simp at mL; have hb1 := bThen (bAl (bAl (bAl hb _) _) _) k1))
  refine wp_loop_rounds 1 ?_
  rw [rounds_succ]
  go_wp2
  go_ret
  exact ⟨rfl, hb1⟩
end Go.Proofs.YtenjpimmjpkjbaaDoor.TX
