/-
  WALKS: a nil index, and one that nobody made.
-/
import Derived.Test.YtenjpimmjpkjbaaDoorINilG
import Derived.Test.YtenjpimmjpkjbaaDoorITake
namespace Go.Proofs.YtenjpimmjpkjbaaDoor.IX
open Go.RowKit HL
set_option maxRecDepth 100000
set_option linter.unusedVariables false
set_option linter.unusedSimpArgs false

/-- No index, or one that nobody made. -/
def Unm (W : World) (v : Value) : Prop := v = .pointer none ∨ ∃ B, v = ptr B ∧ W.cell? ⟨B, 0, none⟩ = some (.pointer none) ∧ B < W.heap.size
theorem Unm.then {W W1 : World} {v : Value} (h : Unm W v) (k : Below W.heap.size W W1) : Unm W1 v := by
  rcases h with h | ⟨B, e, c, l⟩
  · exact .inl h
  · exact .inr ⟨B, e, by rw [k.cell (p := ⟨B, 0, none⟩) l]; exact c, Nat.lt_of_lt_of_le l k.size⟩
theorem run_nil_some {P : Program} (w : World) {tp te : TypeId} (a : Addr) (hp : P.underlying tp = some (.pointer te)) : (binOp .eql tp (.pointer none) (.pointer (some a))).run P w = .ok (.bool false) w := by
  have h : ∀ d : Nat, (Op.equalIn (d + 1) tp (.pointer none) (.pointer (some a))).run P w = .ok false w := fun d => by
    simp [Op.equalIn, run_underlying hp]
  simp only [binOp]
  simp [Op.equal, Op.maxDepth, h 9999]
theorem made_no (v : Value) (w : World) (h : Unm w v) : Calls Tryd.prog 55 #[v] w fun e w' => e = .returned (.bool false) ∧ w = w' := by
  rcases h with rfl | ⟨B, rfl, c0, _⟩
  · go_enter Tryd.func55, Tryd.ntmps55
    go_wp2
    go_ret
    exact ⟨rfl, rfl⟩
  · have HE := fun W => run_nil_some (P := Tryd.prog) W (tp := 27) ⟨B, 0, none⟩ Tryd.underlying27
    go_enter Tryd.func55, Tryd.ntmps55
    go_wp2
    go_ret
    exact ⟨rfl, rfl⟩
theorem held_no (v : Value) (w : World) (h : Unm w v) : Calls Tryd.prog 58 #[v] w fun e w' => e = .returned (.slice none 0 0) ∧ w = w' := by
  have C := Lib.hid (made_no v w h)
  clear h
  go_enter Tryd.func58, Tryd.ntmps58
  go_wp2_with (go_at_call 55; ((with_reducible refine C.out.mono ?_); rintro e w1 ⟨rfl, rfl⟩))
  go_ret
  exact ⟨rfl, rfl⟩
theorem many_no (v : Value) (w : World) (h : Unm w v) : Calls Tryd.prog 39 #[v] w fun e w' => e = .returned (.int .i64 0) ∧ w = w' := by
  have C := Lib.hid (held_no v w h)
  clear h
  go_enter Tryd.func39, Tryd.ntmps39
  go_wp2_with (go_at_call 58; ((with_reducible refine C.out.mono ?_); rintro e w1 ⟨rfl, rfl⟩))
  go_ret
  exact ⟨rfl, rfl⟩
theorem search_no (h : Bs) (w : World) : Calls Tryd.prog 65 #[.slice none 0 0, str h, cmpF] w fun e w' => e = .returned (.tuple #[.int .i64 0, .bool false]) ∧ Below w.heap.size w w' :=
  (search_any none 0 [] h w (.inl rfl) (by decide) (by unfold Up; first | exact List.Pairwise.nil | trivial | simp)).mono fun e w' ⟨he, hb⟩ => ⟨by rw [he]; simp [plc, hasB, keys], hb⟩
theorem seek_no (v : Value) (h : Bs) (w : World) (hU : Unm w v) : Calls Tryd.prog 51 #[v, str h] w fun e w' => e = .returned (.tuple #[.int .i64 0, .bool false]) ∧ Below w.heap.size w w' := by
  have C := Lib.hid (held_no v w hU)
  have CS := Lib.hid (search_no h w)
  clear hU
  go_enter Tryd.func51, Tryd.ntmps51
  go_wp2_with (first
    | (go_at_call 58; ((with_reducible refine C.out.mono ?_); rintro e w1 ⟨rfl, rfl⟩))
    | (go_at_call 65; ((with_reducible refine CS.out.mono ?_); rintro e w1 ⟨rfl, k1⟩)))
  go_ret2
  exact ⟨rfl, k1⟩
theorem place_no (v : Value) (h : Bs) (w : World) (hU : Unm w v) : Calls Tryd.prog 61 #[v, str h] w fun e w' => e = .returned (.int .i64 0) ∧ Below w.heap.size w w' := by
  have C := Lib.hid (seek_no v h w hU)
  clear hU
  go_enter Tryd.func61, Tryd.ntmps61
  go_wp2_with (go_at_call 51; ((with_reducible refine C.out.mono ?_); rintro e w1 ⟨rfl, k1⟩))
  go_ret
  exact ⟨rfl, k1⟩
theorem find_no (v : Value) (h : Bs) (w : World) (hU : Unm w v) : Calls Tryd.prog 30 #[v, str h] w fun e w' => e = .returned (.tuple #[.int .i64 0, .bool false]) ∧ Below w.heap.size w w' := by
  have C := Lib.hid (seek_no v h w hU)
  clear hU
  go_enter Tryd.func30, Tryd.ntmps30
  go_wp2_with (go_at_call 51; ((with_reducible refine C.out.mono ?_); rintro e w1 ⟨rfl, k1⟩))
  go_ret2
  exact ⟨rfl, k1⟩
theorem take_no (v : Value) (h : Bs) (w : World) (hU : Unm w v) : Calls Tryd.prog 37 #[v, str h] w fun e w' => e = .returned (.tuple #[.int .i64 0, .int .i64 1]) ∧ Below w.heap.size w w' := by
  have C := Lib.hid (seek_no v h w hU)
  have CM := Lib.hid (fun W q => made_no v W (hU.then q))
  clear hU
  go_enter Tryd.func37, Tryd.ntmps37
  go_wp2_with (first
    | (go_at_call 51; ((with_reducible refine C.out.mono ?_); rintro e w1 ⟨rfl, k1⟩))
    | (go_at_call 55; ((with_reducible refine (CM.out _ k1).mono ?_); rintro e w2 ⟨rfl, rfl⟩)))
  go_ret2
  exact ⟨rfl, k1⟩
theorem put_un (v : Value) (h : Bs) (n : Int) (w : World) (hU : Unm w v) : Calls Tryd.prog 33 #[v, str h, .int .i64 n] w fun e w' => e = .returned (.int .i64 1) ∧ Below w.heap.size w w' := by
  have C := Lib.hid (seek_no v h w hU)
  have CM := Lib.hid (fun W q => made_no v W (hU.then q))
  clear hU
  go_enter Tryd.func33, Tryd.ntmps33
  go_wp2_with (first
    | (go_at_call 51; ((with_reducible refine C.out.mono ?_); rintro e w1 ⟨rfl, k1⟩))
    | (go_at_call 55; ((with_reducible refine (CM.out _ k1).mono ?_); rintro e w2 ⟨rfl, rfl⟩)))
  go_ret
  exact ⟨rfl, k1⟩
theorem all_no (v : Value) (w : World) (hU : Unm w v) : Calls Tryd.prog 43 #[v] w fun e w' => ∃ A c, e = .returned (.slice A 0 c) ∧ Below w.heap.size w w' :=
  (callsIn_wide.1 (all_inG v none 0 [] w (.inl rfl) (fun a e => by cases e) (Lib.hid fun W q => held_no v W (hU.then q)) (by decide))).mono fun e w' ⟨v', he, ho, hb⟩ => by
    obtain ⟨A, c, rfl, _⟩ := ho.form
    exact ⟨A, c, he, hb⟩
theorem from_no (v : Value) (h : Bs) (w : World) (hU : Unm w v) :
    Calls Tryd.prog 41 #[v, str h] w fun e w' => ∃ Bb A c, e = .returned (.func (.func 70) #[] #[.pointer (some ⟨Bb, 0, none⟩)]) ∧ Iter w' w.heap.size Bb A c [] ∧ Below w.heap.size w w' := by
  have CP := Lib.hid (place_no v h w hU)
  have CH := Lib.hid (held_no v w hU)
  have s2' : ∀ W, (Instr.slice 82 (.slice none 0 0) (some (.int .i64 0)) none none).run Tryd.prog W = .ok (.slice none 0 0) W := fun W => by
    have q := run_slice_l W rowK.T none 0 0 (under_K rowK) .i64 (0 : Int) (by omega) (by omega)
    rw [rowK.el, size_K] at q
    refine Eq.trans q ?_
    simp [Result.andThen, sliced]
  have CC := Lib.hid (fun W => clone_any none 0 0 [] W rfl (.inl rfl) (by decide) (fun _ => ⟨rfl, rfl⟩))
  have CE := Lib.hid each_any
  clear hU
  go_enter Tryd.func41, Tryd.ntmps41
  go_wp2_with (first
    | (go_at_call 58; ((with_reducible refine CH.out.mono ?_); rintro e w1 ⟨rfl, rfl⟩))
    | (go_at_call 61; ((with_reducible refine CP.out.mono ?_); rintro e w2 ⟨rfl, k2⟩))
    | (go_at_call 60; ((with_reducible refine (CC.out _).mono ?_); rintro e w3 ⟨v3, rfl, o3, k3⟩; obtain ⟨A3, c3, rfl, _, _⟩ := o3.form; have O3 := Lib.hid o3; clear o3))
    | (go_at_call 59; ((with_reducible refine (CE.out _ A3 _ c3 rfl _).mono ?_); rintro e w4 ⟨rfl, rfl⟩)))
  go_ret
  have hb := bThen k2 k3
  refine ⟨_, A3, c3, rfl, ⟨Boxed.new _ _ _, (O3.out.base k2.size).below ((Below.refl _ _).alloc (Nat.le_refl _) _), hb.size, ?_⟩, bAl hb _⟩
  intro e
  have := (O3.out.lt _ e).2
  omega
theorem copy_no (w : World) : Calls Tryd.prog 46 #[.pointer none] w fun e w' => e = .returned (.pointer none) ∧ w = w' := by
  go_enter Tryd.func46, Tryd.ntmps46
  go_wp2
  go_ret
  exact ⟨rfl, rfl⟩
end Go.Proofs.YtenjpimmjpkjbaaDoor.IX
