/-
  WALKS: the table of rules as it lies in memory; exists, of, has, Under, Refers, Group, Most.
-/
import Derived.Test.YtmhckcpcnkhbeaaDoorOTab
import Derived.Test.YtmhckcpcnkhbeaaDoorCMath
import Derived.Test.YtmhckcpcnkhbeaaDoorOKit2
import Derived.Laws.ShiftsVar
import Derived.KernelRfl
namespace Go.Proofs.YtmhckcpcnkhbeaaDoor
open Go.RowKit
set_option maxRecDepth 100000
set_option linter.unusedVariables false

abbrev ruleCells (k : Nat) : Array Value := #[.int .u16 (parM k), .int .u16 (refM k), .int .u8 (grp k), .int .i64 (rmost k)]
/-- The tables of words and of rules lie in memory. -/
structure Tables (w : World) : Prop where
  words : Words w
  lt : 0 < w.heap.size
  c : ∀ k i : Nat, k < 10 → i < 4 → w.cell? ⟨0, k * 4 + i, none⟩ = (ruleCells k)[i]?
theorem Tables.then {W W1 : World} (h : Tables W) (k : Below W.heap.size W W1) : Tables W1 := ⟨h.words.then k, Nat.lt_of_lt_of_le h.lt k.size, fun a i h1 h2 => by rw [k.cell h.lt]; exact h.c a i h1 h2⟩
theorem Tables.al {W : World} (h : Tables W) (o : Obj) : Tables (W.alloc o) := h.then (bAl (Below.refl _ _) o)

theorem word_empty (k : Nat) : (wordOf k).toList = [] ↔ kdB k = false := by
  rw [ByteArray.toList_eq]
  by_cases h : k < 10
  · exact (show ∀ k, k < 10 → ((wordOf k).data.toList = [] ↔ kdB k = false) by decide +kernel) k h
  · have h1 : kdB k = false := by rw [kdB_f]; omega
    rw [word_none (by omega)]
    simp [h1]
theorem exists_any (k : Nat) (w : World) (hk : k ≤ 255) (hw : Tables w) : Calls Tryd.prog 38 #[.int .u8 k] w fun e w' => e = .returned (.bool (kdB k)) ∧ w = w' := by
  have C := Lib.hid (word_any k w hk hw.words)
  have HE := Lib.hid (word_empty k)
  clear hw
  generalize wordOf k = s at *
  generalize kdB k = b at *
  go_enter Tryd.func38, Tryd.ntmps38
  go_wp2_with (go_at_call 44; ((with_reducible refine C.out.mono ?_); rintro e w1 ⟨rfl, rfl⟩))
  go_ret
  have h := HE.out
  cases b <;> simp_all
theorem rule_none {k : Nat} (h : kdB k = false) : ruleCells k = #[.int .u16 0, .int .u16 0, .int .u8 0, .int .i64 0] := by
  obtain ⟨h1, h2, h3, h4, _⟩ := none_of h
  simp [ruleCells, h1, h2, h3, h4]
theorem ret_rule {R : Ending → World → Prop} {act : Act} {W : World} {B : Nat} {C : Array Value} (h : AtC W B C) (hC : C.size = 4) (hp : act.tmps.getD 2 undef = .pointer (some ⟨B, 0, none⟩)) (hd : act.defers = []) (hR : R (.returned (.agg C)) W) : bodyPost Tryd.prog Tryd.f40 R .ret act W :=
  ret_row rfl hp hd h (Tryd.isAgg52 _) ((Tryd.sizeOf52 _).trans (congrArg (fun n => Result.ok n _) hC.symm)) hR
set_option maxHeartbeats 1000000 in
theorem of_any (k : Nat) (w : World) (hk : k ≤ 255) (hw : Tables w) : Calls Tryd.prog 40 #[.int .u8 k] w fun e w' => e = .returned (.agg #[.int .u16 (parM k), .int .u16 (refM k), .int .u8 (grp k), .int .i64 (rmost k)]) ∧ Below w.heap.size w w' := by
  have hb : Below w.heap.size w w := Below.refl _ _
  have mR := AtC.new w #[.int .u16 0, .int .u16 0, .int .u8 0, .int .i64 0] 52
  have hT := hw.al (.cells #[.int .u16 0, .int .u16 0, .int .u8 0, .int .i64 0] 52)
  have C := Lib.hid (exists_any k _ hk hT)
  have hR := fun C => AtC.new w C 52
  cases h : kdB k with
  | false =>
    have hr := rule_none h
    simp only [ruleCells] at hr
    rw [hr]
    rw [h] at C
    have rc := mR.c; have rf := mR.f; have rl := mR.lt
    clear h hT hw hr
    go_enter Tryd.func40, Tryd.ntmps40
    go_wp2_with (go_at_call 38; ((with_reducible refine C.out.mono ?_); rintro e w1 ⟨rfl, rfl⟩))
    exact ret_rule (hR _) rfl rfl rfl ⟨rfl, bAl hb _⟩
  | true =>
    have h1 := kdB_iff.1 h
    have hx : (k : Int) < 10 := by omega
    have c0 := hT.c k 0 (by omega) (by omega)
    have c1 := hT.c k 1 (by omega) (by omega)
    have c2 := hT.c k 2 (by omega) (by omega)
    have c3 := hT.c k 3 (by omega) (by omega)
    simp only [ruleCells, Nat.add_zero] at c0 c1 c2 c3
    rw [h] at C
    have rc := mR.c; have rf := mR.f; have rl := mR.lt
    clear h hT hw
    generalize parM k = a at *
    generalize refM k = b at *
    generalize grp k = c at *
    generalize rmost k = d at *
    go_enter Tryd.func40, Tryd.ntmps40
    go_wp2_with (go_at_call 38; ((with_reducible refine C.out.mono ?_); rintro e w1 ⟨rfl, rfl⟩))
    exact ret_rule (hR _) rfl rfl rfl ⟨rfl, bAl hb _⟩
theorem bit_iff (s k : Nat) (hs : s ≤ 65535) (hk : k ≤ 255) : (bits BinOp.and IntKind.u16 (s : Int) (IntKind.u16.wrap (2 ^ min k 16)) != 0) = hasB s k := by
  have hw : IntKind.u16.wrap ((2 : Int) ^ min k 16) = 2 ^ min k 16 % 65536 := IntKind.wrap_u16 _
  have h0 : 0 ≤ (2 : Int) ^ min k 16 % 65536 := Int.emod_nonneg _ (by decide)
  have h1 : (2 : Int) ^ min k 16 % 65536 < 65536 := Int.emod_lt_of_pos _ (by decide)
  rw [hw, u16_and _ _ (by omega) (by omega) h0 h1]
  have hb := u16_bit_test_var (s : Int) (k : Int) (by omega) (by omega)
  simp only [Int.toNat_natCast] at hb ⊢
  have e : ((s : Int) / 2 ^ k % 2) = ((s / 2 ^ k % 2 : Nat) : Int) := by simp
  rw [e] at hb
  rw [Bool.eq_iff_iff]
  simp only [bne_iff_ne, ne_eq, hb, hasB, Bool.and_eq_true, decide_eq_true_eq, Decidable.not_not]
  omega
theorem has_any (s k : Nat) (w : World) (hs : s ≤ 65535) (hk : k ≤ 255) : Calls Tryd.prog 41 #[.int .u16 s, .int .u8 k] w fun e w' => e = .returned (.bool (hasB s k)) ∧ w = w' := by
  have HB := Lib.hid (bit_iff s k hs hk)
  go_enter Tryd.func41, Tryd.ntmps41
  go_wp2
  go_ret
  exact ⟨by rw [← HB.out]; rfl, rfl⟩
theorem fld_0 (a b c d : Int) (W : World) : (Instr.field 52 (.agg #[.int .u16 a, .int .u16 b, .int .u8 c, .int .i64 d]) 0).run Tryd.prog W = .ok (.int .u16 a) W := by kernel_rfl
theorem fld_1 (a b c d : Int) (W : World) : (Instr.field 52 (.agg #[.int .u16 a, .int .u16 b, .int .u8 c, .int .i64 d]) 1).run Tryd.prog W = .ok (.int .u16 b) W := by kernel_rfl
theorem fld_2 (a b c d : Int) (W : World) : (Instr.field 52 (.agg #[.int .u16 a, .int .u16 b, .int .u8 c, .int .i64 d]) 2).run Tryd.prog W = .ok (.int .u8 c) W := by kernel_rfl
theorem fld_3 (a b c d : Int) (W : World) : (Instr.field 52 (.agg #[.int .u16 a, .int .u16 b, .int .u8 c, .int .i64 d]) 3).run Tryd.prog W = .ok (.int .i64 d) W := by kernel_rfl
theorem under_any (k p : Nat) (w : World) (hk : k ≤ 255) (hp : p ≤ 255) (hw : Tables w) : Calls Tryd.prog 18 #[.int .u8 k, .int .u8 p] w fun e w' => e = .returned (.bool (underB k p)) ∧ Below w.heap.size w w' := by
  have hb : Below w.heap.size w w := Below.refl _ _
  have C := Lib.hid (of_any k w hk hw)
  have CH := fun W => Lib.hid (has_any (parM k) p W (parM_le k) hp)
  have HR : Hid (hasB (parM k) p = underB k p) := Lib.hid (by
    by_cases h : k ≤ 9
    · exact has_par p h
    · have hn : kdB k = false := by rw [kdB_f]; omega
      rw [(none_of hn).1, hasB_zero, under_none hn])
  generalize parM k = a at *
  generalize refM k = b at *
  generalize grp k = c at *
  generalize rmost k = d at *
  clear hw
  have hf := fld_0
  go_enter Tryd.func18, Tryd.ntmps18
  go_wp2_with (first
    | (go_at_call 40; ((with_reducible refine C.out.mono ?_); rintro e w1 ⟨rfl, k1⟩; replace hb := bThen hb k1))
    | (go_at_call 41; ((with_reducible refine (CH _).out.mono ?_); rintro e w2 ⟨rfl, rfl⟩)))
  go_ret
  exact ⟨by rw [← HR.out]; rfl, hb⟩
theorem refers_any (k p : Nat) (w : World) (hk : k ≤ 255) (hp : p ≤ 255) (hw : Tables w) : Calls Tryd.prog 20 #[.int .u8 k, .int .u8 p] w fun e w' => e = .returned (.bool (refersTo k p)) ∧ Below w.heap.size w w' := by
  have hb : Below w.heap.size w w := Below.refl _ _
  have C := Lib.hid (of_any k w hk hw)
  have CH := fun W => Lib.hid (has_any (refM k) p W (refM_le k) hp)
  have HR : Hid (hasB (refM k) p = refersTo k p) := Lib.hid (by
    by_cases h : k ≤ 9
    · exact has_ref p h
    · have hn : kdB k = false := by rw [kdB_f]; omega
      rw [(none_of hn).2.1, hasB_zero, refers_none hn])
  generalize parM k = a at *
  generalize refM k = b at *
  generalize grp k = c at *
  generalize rmost k = d at *
  clear hw
  have hf := fld_1
  go_enter Tryd.func20, Tryd.ntmps20
  go_wp2_with (first
    | (go_at_call 40; ((with_reducible refine C.out.mono ?_); rintro e w1 ⟨rfl, k1⟩; replace hb := bThen hb k1))
    | (go_at_call 41; ((with_reducible refine (CH _).out.mono ?_); rintro e w2 ⟨rfl, rfl⟩)))
  go_ret
  exact ⟨by rw [← HR.out]; rfl, hb⟩
theorem group_any (k : Nat) (w : World) (hk : k ≤ 255) (hw : Tables w) : Calls Tryd.prog 22 #[.int .u8 k] w fun e w' => e = .returned (.int .u8 (grp k)) ∧ Below w.heap.size w w' := by
  have hb : Below w.heap.size w w := Below.refl _ _
  have C := Lib.hid (of_any k w hk hw)
  generalize parM k = a at *
  generalize refM k = b at *
  generalize grp k = c at *
  generalize rmost k = d at *
  clear hw
  have hf := fld_2
  go_enter Tryd.func22, Tryd.ntmps22
  go_wp2_with (go_at_call 40; ((with_reducible refine C.out.mono ?_); rintro e w1 ⟨rfl, k1⟩; replace hb := bThen hb k1))
  go_ret
  exact ⟨rfl, hb⟩
theorem most_any (k : Nat) (w : World) (hk : k ≤ 255) (hw : Tables w) : Calls Tryd.prog 24 #[.int .u8 k] w fun e w' => e = .returned (.int .i64 (most k)) ∧ Below w.heap.size w w' := by
  have hb : Below w.heap.size w w := Below.refl _ _
  have CG := Lib.hid (group_any k w hk hw)
  have C := Lib.hid (fun W (q : Below w.heap.size w W) => of_any (grp k) W (by have := grp_le k; omega) (hw.then q))
  have HR : Hid (most k = rmost (grp k)) := Lib.hid rfl
  generalize most k = m at *
  generalize grp k = c at *
  generalize parM c = a at *
  generalize refM c = b at *
  generalize grp c = g at *
  generalize rmost c = d at *
  clear hw
  have hf := fld_3
  go_enter Tryd.func24, Tryd.ntmps24
  go_wp2_with (first
    | (go_at_call 40; ((with_reducible refine (C.out _ hb).mono ?_); rintro e w1 ⟨rfl, k1⟩; replace hb := bThen hb k1))
    | (go_at_call 22; ((with_reducible refine CG.out.mono ?_); rintro e w2 ⟨rfl, k1⟩; replace hb := bThen hb k1)))
  go_ret
  exact ⟨by rw [HR.out]; rfl, hb⟩
end Go.Proofs.YtmhckcpcnkhbeaaDoor
