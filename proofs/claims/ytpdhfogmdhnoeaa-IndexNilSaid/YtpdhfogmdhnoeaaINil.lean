/-
  WALKS: a nil index, and one that nobody made.
-/
import Derived.Test.YtpdhfogmdhnoeaaINilG
import Derived.Test.YtpdhfogmdhnoeaaITake
namespace Go.Proofs.Ytpdhfogmdhnoeaa.IX
open Go.RowKit HL
set_option maxRecDepth 100000
set_option linter.unusedVariables false
set_option linter.unusedSimpArgs false

/-- No index, or one that nobody made. -/
def Unm (W : World) (v : Value) : Prop := v = .pointer none ∨ ∃ B, v = ptr B ∧ W.cell? ⟨B, 0, none⟩ = some (.pointer none) ∧ B < W.heap.size
theorem Unm.then {W W1 : World} {v : Value} (h : Unm W v) (k : Below W.heap.size W W1) : Unm W1 v := by
  rcases h with h | ⟨B, e, c, l⟩
  · exact .inl h
  · exact .inr ⟨B, e, by rw [k.cell (p := ⟨B, 0, none⟩) l]; exact c, Nat.lt_of_lt_of_le l k.size⟩
theorem run_nil_some {P : Program} (w : World) {tp te : TypeId} (a : Addr) (hp : P.underlying tp = some (.pointer te)) : (binOp .eql tp (.pointer none) (.pointer (some a))).run P w = .ok (.bool false) w := by
  have h : ∀ d : Nat, (Op.equalIn (d + 1) tp (.pointer none) (.pointer (some a))).run P w = .ok false w := fun d => by
    simp [Op.equalIn, run_underlying hp]
  simp only [binOp]
  simp [Op.equal, Op.maxDepth, h 9999]
theorem made_no (v : Value) (w : World) (h : Unm w v) : Calls Try.prog 33 #[v] w fun e w' => e = .returned (.bool false) ∧ w = w' := by
  rcases h with rfl | ⟨B, rfl, c0, _⟩
  · go_enter Try.func33, Try.ntmps33
    go_wp2
    go_ret
    exact ⟨rfl, rfl⟩
  · have HE := fun W => run_nil_some (P := Try.prog) W (tp := 24) ⟨B, 0, none⟩ Try.underlying24
    go_enter Try.func33, Try.ntmps33
    go_wp2
    go_ret
    exact ⟨rfl, rfl⟩
theorem held_no (v : Value) (w : World) (h : Unm w v) : Calls Try.prog 43 #[v] w fun e w' => e = .returned (.slice none 0 0) ∧ w = w' := by
  have C := Lib.hid (made_no v w h)
  clear h
  go_enter Try.func43, Try.ntmps43
  go_wp2_with (go_at_call 33; ((with_reducible refine C.out.mono ?_); rintro e w1 ⟨rfl, rfl⟩))
  go_ret
  exact ⟨rfl, rfl⟩
theorem many_no (v : Value) (w : World) (h : Unm w v) : Calls Try.prog 21 #[v] w fun e w' => e = .returned (.int .i64 0) ∧ w = w' := by
  have C := Lib.hid (held_no v w h)
  clear h
  go_enter Try.func21, Try.ntmps21
  go_wp2_with (go_at_call 43; ((with_reducible refine C.out.mono ?_); rintro e w1 ⟨rfl, rfl⟩))
  go_ret
  exact ⟨rfl, rfl⟩
theorem search_no (h : Bs) (w : World) : Calls Try.prog 45 #[.slice none 0 0, str h, cmpF] w fun e w' => e = .returned (.tuple #[.int .i64 0, .bool false]) ∧ Below w.heap.size w w' :=
  (search_any none 0 [] h w (.inl rfl) (by decide) (by unfold Up; first | exact List.Pairwise.nil | trivial | simp)).mono fun e w' ⟨he, hb⟩ => ⟨by rw [he]; simp [plc, hasB, keys], hb⟩
theorem seek_no (v : Value) (h : Bs) (w : World) (hU : Unm w v) : Calls Try.prog 32 #[v, str h] w fun e w' => e = .returned (.tuple #[.int .i64 0, .bool false]) ∧ Below w.heap.size w w' := by
  have C := Lib.hid (held_no v w hU)
  have CS := Lib.hid (search_no h w)
  clear hU
  go_enter Try.func32, Try.ntmps32
  go_wp2_with (first
    | (go_at_call 43; ((with_reducible refine C.out.mono ?_); rintro e w1 ⟨rfl, rfl⟩))
    | (go_at_call 45; ((with_reducible refine CS.out.mono ?_); rintro e w1 ⟨rfl, k1⟩)))
  go_ret2
  exact ⟨rfl, k1⟩
theorem place_no (v : Value) (h : Bs) (w : World) (hU : Unm w v) : Calls Try.prog 25 #[v, str h] w fun e w' => e = .returned (.int .i64 0) ∧ Below w.heap.size w w' := by
  have C := Lib.hid (seek_no v h w hU)
  clear hU
  go_enter Try.func25, Try.ntmps25
  go_wp2_with (go_at_call 32; ((with_reducible refine C.out.mono ?_); rintro e w1 ⟨rfl, k1⟩))
  go_ret
  exact ⟨rfl, k1⟩
theorem find_no (v : Value) (h : Bs) (w : World) (hU : Unm w v) : Calls Try.prog 22 #[v, str h] w fun e w' => e = .returned (.tuple #[.int .i64 0, .bool false]) ∧ Below w.heap.size w w' := by
  have C := Lib.hid (seek_no v h w hU)
  clear hU
  go_enter Try.func22, Try.ntmps22
  go_wp2_with (go_at_call 32; ((with_reducible refine C.out.mono ?_); rintro e w1 ⟨rfl, k1⟩))
  go_ret2
  exact ⟨rfl, k1⟩
theorem at_no (v : Value) (i : Int) (w : World) (hU : Unm w v) : Calls Try.prog 23 #[v, .int .i64 i] w fun e w' => e = .returned (.tuple #[str [], .int .i64 0, .bool false]) ∧ w = w' := by
  have C := Lib.hid (many_no v w hU)
  clear hU
  by_cases i0 : i < 0
  · go_enter Try.func23, Try.ntmps23
    go_wp2_with (go_at_call 21; ((with_reducible refine C.out.mono ?_); rintro e w1 ⟨rfl, rfl⟩))
    go_ret3
    exact ⟨rfl, rfl⟩
  · have i1 : 0 ≤ i := by omega
    go_enter Try.func23, Try.ntmps23
    go_wp2_with (go_at_call 21; ((with_reducible refine C.out.mono ?_); rintro e w1 ⟨rfl, rfl⟩))
    go_ret3
    exact ⟨rfl, rfl⟩
theorem take_no (v : Value) (h : Bs) (w : World) (hU : Unm w v) : Calls Try.prog 11 #[v, str h] w fun e w' => e = .returned (.tuple #[.int .i64 0, .int .i64 1]) ∧ Below w.heap.size w w' := by
  have C := Lib.hid (seek_no v h w hU)
  have CM := Lib.hid (fun W q => made_no v W (hU.then q))
  clear hU
  go_enter Try.func11, Try.ntmps11
  go_wp2_with (first
    | (go_at_call 32; ((with_reducible refine C.out.mono ?_); rintro e w1 ⟨rfl, k1⟩))
    | (go_at_call 33; ((with_reducible refine (CM.out _ k1).mono ?_); rintro e w2 ⟨rfl, rfl⟩)))
  go_ret2
  exact ⟨rfl, k1⟩
theorem put_un (v : Value) (h : Bs) (n : Int) (w : World) (hU : Unm w v) : Calls Try.prog 13 #[v, str h, .int .i64 n] w fun e w' => e = .returned (.int .i64 1) ∧ Below w.heap.size w w' := by
  have C := Lib.hid (seek_no v h w hU)
  have CM := Lib.hid (fun W q => made_no v W (hU.then q))
  clear hU
  go_enter Try.func13, Try.ntmps13
  go_wp2_with (first
    | (go_at_call 32; ((with_reducible refine C.out.mono ?_); rintro e w1 ⟨rfl, k1⟩))
    | (go_at_call 33; ((with_reducible refine (CM.out _ k1).mono ?_); rintro e w2 ⟨rfl, rfl⟩)))
  go_ret
  exact ⟨rfl, k1⟩
theorem all_no (v : Value) (w : World) (hU : Unm w v) : Calls Try.prog 19 #[v] w fun e w' => ∃ A c, e = .returned (.slice A 0 c) ∧ Below w.heap.size w w' :=
  (callsIn_wide.1 (all_inG v none 0 [] w (.inl rfl) (fun a e => by cases e) (Lib.hid fun W q => held_no v W (hU.then q)) (by decide))).mono fun e w' ⟨v', he, ho, hb⟩ => by
    obtain ⟨A, c, rfl, _⟩ := ho.form
    exact ⟨A, c, he, hb⟩
theorem from_no (v : Value) (h : Bs) (w : World) (hU : Unm w v) :
    Calls Try.prog 20 #[v, str h] w fun e w' => ∃ Bb A c, e = .returned (.func (.func 51) #[] #[.pointer (some ⟨Bb, 0, none⟩)]) ∧ Iter w' w.heap.size Bb A c [] ∧ Below w.heap.size w w' := by
  have CP := Lib.hid (place_no v h w hU)
  have CH := Lib.hid (held_no v w hU)
  have s2' : ∀ W, (Instr.slice 50 (.slice none 0 0) (some (.int .i64 0)) none none).run Try.prog W = .ok (.slice none 0 0) W := fun W => by
    have q := run_slice_l W rowK.T none 0 0 (under_K rowK) .i64 (0 : Int) (by omega) (by omega)
    rw [rowK.el, size_K] at q
    refine Eq.trans q ?_
    simp [Result.andThen, sliced]
  have CC := Lib.hid (fun W => clone_any none 0 0 [] W rfl (.inl rfl) (by decide) (fun _ => ⟨rfl, rfl⟩))
  have CE := Lib.hid each_any
  clear hU
  go_enter Try.func20, Try.ntmps20
  go_wp2_with (first
    | (go_at_call 43; ((with_reducible refine CH.out.mono ?_); rintro e w1 ⟨rfl, rfl⟩))
    | (go_at_call 25; ((with_reducible refine CP.out.mono ?_); rintro e w2 ⟨rfl, k2⟩))
    | (go_at_call 41; ((with_reducible refine (CC.out _).mono ?_); rintro e w3 ⟨v3, rfl, o3, k3⟩; obtain ⟨A3, c3, rfl, _, _⟩ := o3.form; have O3 := Lib.hid o3; clear o3))
    | (go_at_call 42; ((with_reducible refine (CE.out _ A3 _ c3 rfl _).mono ?_); rintro e w4 ⟨rfl, rfl⟩)))
  go_ret
  have hb := bThen k2 k3
  refine ⟨_, A3, c3, rfl, ⟨Boxed.new _ _ _, (O3.out.base k2.size).below ((Below.refl _ _).alloc (Nat.le_refl _) _), hb.size, ?_⟩, bAl hb _⟩
  intro e
  have := (O3.out.lt _ e).2
  omega
theorem lawFrom_no (v : Value) (h : Bs) (w : World) (hU : Unm w v) :
    Calls Try.prog 24 #[v, str h] w fun e w' => ∃ A1 c1 v2, e = .returned (.tuple #[.slice A1 0 c1, v2, .bool true]) ∧ Below w.heap.size w w' :=
  (callsIn_wide.1 (from_inG v [] h w (Lib.hid (from_no v h w hU)) (by decide))).mono fun e w' ⟨v1, v2, he, h1, h2, hb⟩ => by
    obtain ⟨A1, c1, rfl, _⟩ := h1.form
    exact ⟨A1, c1, v2, he, hb⟩
theorem copy_no (w : World) : Calls Try.prog 17 #[.pointer none] w fun e w' => e = .returned (.pointer none) ∧ w = w' := by
  go_enter Try.func17, Try.ntmps17
  go_wp2
  go_ret
  exact ⟨rfl, rfl⟩
end Go.Proofs.Ytpdhfogmdhnoeaa.IX
