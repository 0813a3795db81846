/-
  PLAIN: the kinds: what may stand under what, what refers to what, groups, how many, levels. No walk.
-/
import Derived.Test.YthlalmoapbdccaaDoorWZ4
import Derived.Test.YthlalmoapbdccaaDoorWZ3
import Derived.Laws.ShiftsVar
import Derived.KernelRfl
import Derived.Test.YthlalmoapbdccaaDoorWZ0
import Derived.Laws.OwnMore
import Derived.OwnWalk
import Derived.Laws.BytesArg
import Derived.Deep.RegionHeld3
namespace Go.Proofs.YthlalmoapbdccaaDoor
set_option maxRecDepth 100000
set_option linter.unusedVariables false

def kdB (k : Nat) : Bool := decide (1 ≤ k) && decide (k ≤ 9)
def parM (k : Nat) : Nat := match k with | 1 => 1 | 2 => 2 | 3 => 4 | 4 => 8 | 5 => 6 | 6 => 32 | 7 => 32 | 8 => 32 | 9 => 2 | _ => 0
def refM (k : Nat) : Nat := match k with | 6 => 16 | 7 => 320 | 8 => 16 | _ => 0
def grp (k : Nat) : Nat := match k with | 1 => 1 | 2 => 2 | 3 => 3 | 4 => 4 | 5 => 5 | 6 => 6 | 7 => 6 | 8 => 6 | 9 => 9 | _ => 0
def rmost (k : Nat) : Nat := match k with | 1 => 4 | 2 => 8 | 3 => 8 | 4 => 16 | 5 => 1 | 6 => 16 | 9 => 8 | _ => 0
def most (k : Nat) : Nat := rmost (grp k)
def hasBit (s k : Nat) : Bool := decide (k < 16) && decide (s / 2 ^ k % 2 = 1)
def underB (k p : Nat) : Bool := match k with | 1 => p == 0 | 2 => p == 1 | 3 => p == 2 | 4 => p == 3 | 5 => p == 1 || p == 2 | 6 => p == 5 | 7 => p == 5 | 8 => p == 5 | 9 => p == 1 | _ => false
def refersTo (k p : Nat) : Bool := match k with | 6 => p == 4 | 7 => p == 6 || p == 8 | 8 => p == 4 | _ => false
def lowL (k : Nat) : Nat := match k with | 1 => 1 | 2 => 2 | 3 => 3 | 4 => 4 | 5 => 2 | 6 => 3 | 7 => 3 | 8 => 3 | 9 => 2 | _ => 0
def highL (k : Nat) : Nat := match k with | 1 => 1 | 2 => 2 | 3 => 3 | 4 => 4 | 5 => 3 | 6 => 4 | 7 => 4 | 8 => 4 | 9 => 2 | _ => 0
theorem kdB_t {k : Nat} (h1 : 1 ≤ k) (h2 : k ≤ 9) : kdB k = true := by simp [kdB, h1, h2]
theorem kdB_iff {k : Nat} : kdB k = true ↔ 1 ≤ k ∧ k ≤ 9 := by simp [kdB]
theorem kdB_f {k : Nat} : kdB k = false ↔ k = 0 ∨ 9 < k := by
  rw [← Bool.not_eq_true, kdB_iff]; omega
theorem under_kd {k p : Nat} (h : underB k p = true) : kdB k = true := by
  rw [kdB_iff]
  unfold underB at h
  split at h <;> first | omega | cases h
theorem has_par {k : Nat} (p : Nat) (hk : k ≤ 9) : hasBit (parM k) p = underB k p := by
  by_cases hp : p < 16
  · exact (show ∀ k, k < 10 → ∀ p, p < 16 → hasBit (parM k) p = underB k p by decide +kernel) k (by omega) p hp
  · have h1 : hasBit (parM k) p = false := by simp [hasBit, hp]
    rw [h1]
    symm
    unfold underB
    split <;> simp <;> omega
theorem has_ref {k : Nat} (p : Nat) (hk : k ≤ 9) : hasBit (refM k) p = refersTo k p := by
  by_cases hp : p < 16
  · exact (show ∀ k, k < 10 → ∀ p, p < 16 → hasBit (refM k) p = refersTo k p by decide +kernel) k (by omega) p hp
  · have h1 : hasBit (refM k) p = false := by simp [hasBit, hp]
    rw [h1]
    symm
    unfold refersTo
    split <;> simp <;> omega
theorem hasB_zero (p : Nat) : hasBit 0 p = false := by simp [hasBit]
theorem parM_le (k : Nat) : parM k ≤ 65535 := by unfold parM; split <;> omega
theorem refM_le (k : Nat) : refM k ≤ 65535 := by unfold refM; split <;> omega
theorem grp_le (k : Nat) : grp k ≤ 9 := by unfold grp; split <;> omega
theorem rmost_le (k : Nat) : rmost k ≤ 16 := by unfold rmost; split <;> omega
theorem most_le (k : Nat) : most k ≤ 16 := rmost_le _
theorem none_of {k : Nat} (h : kdB k = false) : parM k = 0 ∧ refM k = 0 ∧ grp k = 0 ∧ rmost k = 0 ∧ most k = 0 ∧ lowL k = 0 ∧ highL k = 0 := by
  rw [kdB_f] at h
  have hg : grp k = 0 := by unfold grp; split <;> first | rfl | omega
  have hm : most k = 0 := by unfold most; rw [hg]; rfl
  refine ⟨?_, ?_, hg, ?_, hm, ?_, ?_⟩
  · unfold parM; split <;> first | rfl | omega
  · unfold refM; split <;> first | rfl | omega
  · unfold rmost; split <;> first | rfl | omega
  · unfold lowL; split <;> first | rfl | omega
  · unfold highL; split <;> first | rfl | omega
theorem under_none {k : Nat} (h : kdB k = false) (p : Nat) : underB k p = false := by
  cases e : underB k p with
  | false => rfl
  | true => rw [under_kd e] at h; cases h
theorem refers_none {k : Nat} (h : kdB k = false) (p : Nat) : refersTo k p = false := by
  rw [kdB_f] at h
  unfold refersTo; split <;> first | rfl | omega
theorem grp_kd {k : Nat} : kdB (grp k) = kdB k := by
  by_cases h : k < 10
  · exact (show ∀ k, k < 10 → kdB (grp k) = kdB k by decide +kernel) k h
  · have e : kdB k = false := by rw [kdB_f]; omega
    rw [e, (none_of e).2.2.1]; rfl
theorem grp_pos {k : Nat} (h : kdB k = true) : 1 ≤ grp k ∧ grp k ≤ 9 := by
  have := @grp_kd k
  rw [h, kdB_iff] at this
  exact this
theorem most_pos {k : Nat} (h : kdB k = true) : 1 ≤ most k := by
  rw [kdB_iff] at h
  exact (show ∀ k, k < 10 → 1 ≤ k → 1 ≤ most k by decide +kernel) k (by omega) h.1
/-- The kinds, one behind the other. -/
def kinds9 : List Nat := [1, 2, 3, 4, 5, 6, 7, 8, 9]
def parentsL (k : Nat) : List Nat := kinds9.filter fun p => underB k p
def kidsL (k : Nat) : List Nat := kinds9.filter fun c => kdB k && underB c k
/-- The kinds below n that p holds for. -/
def fil (p : Nat → Bool) (n : Nat) : List Nat := (List.range n).filter fun k => kdB k && p k
theorem fil_succ (p : Nat → Bool) (n : Nat) : fil p (n + 1) = fil p n ++ if kdB n && p n then [n] else [] := by
  unfold fil
  rw [List.range_succ, List.filter_append]
  cases h : kdB n && p n <;> simp [h]
theorem fil_len (p : Nat → Bool) (n : Nat) : (fil p n).length ≤ n := by
  unfold fil
  have := List.length_filter_le (fun k => kdB k && p k) (List.range n)
  simpa using this
theorem fil_mem {p : Nat → Bool} {n k : Nat} : k ∈ fil p n ↔ k < n ∧ kdB k = true ∧ p k = true := by
  unfold fil; simp
theorem fil_ten (p : Nat → Bool) : fil p 10 = kinds9.filter p := by
  unfold fil kinds9
  show List.filter _ [0, 1, 2, 3, 4, 5, 6, 7, 8, 9] = _
  simp [List.filter_cons, kdB]
theorem fil_parents (k : Nat) : fil (fun p => underB k p) 10 = parentsL k := fil_ten _
theorem fil_kids (k : Nat) : fil (fun c => kdB k && underB c k) 10 = kidsL k := fil_ten _
theorem mem_parents {k p : Nat} : p ∈ parentsL k ↔ (1 ≤ p ∧ p ≤ 9) ∧ underB k p = true := by
  rw [← fil_parents, fil_mem, kdB_iff]
  exact ⟨fun h => h.2, fun h => ⟨by omega, h⟩⟩
theorem mem_kids {k c : Nat} : c ∈ kidsL k ↔ kdB k = true ∧ underB c k = true := by
  rw [← fil_kids, fil_mem, kdB_iff]
  constructor
  · rintro ⟨_, _, h⟩
    simpa using h
  · rintro ⟨h1, h2⟩
    have := under_kd h2
    rw [kdB_iff] at this
    exact ⟨by omega, this, by simp [h1, h2]⟩
end Go.Proofs.YthlalmoapbdccaaDoor
/-
  WALKS: the table of rules as it lies in memory; exists, of, has, Under, Refers, Group, Most.
-/
namespace Go.Proofs.YthlalmoapbdccaaDoor
open Go.RowKit
set_option maxRecDepth 100000
set_option linter.unusedVariables false

abbrev ruleCells (k : Nat) : Array Value := #[.int .u16 (parM k), .int .u16 (refM k), .int .u8 (grp k), .int .i64 (rmost k)]
/-- The tables of words and of rules lie in memory. -/
structure Tables (w : World) : Prop where
  words : Words w
  lt : 0 < w.heap.size
  c : ∀ k i : Nat, k < 10 → i < 4 → w.cell? ⟨0, k * 4 + i, none⟩ = (ruleCells k)[i]?
theorem Tables.then {W W1 : World} (h : Tables W) (k : Below W.heap.size W W1) : Tables W1 := ⟨h.words.then k, Nat.lt_of_lt_of_le h.lt k.size, fun a i h1 h2 => by rw [k.cell h.lt]; exact h.c a i h1 h2⟩
theorem Tables.al {W : World} (h : Tables W) (o : Obj) : Tables (W.alloc o) := h.then (bAl (Below.refl _ _) o)

theorem word_empty (k : Nat) : (wordOf k).toList = [] ↔ kdB k = false := by
  rw [ByteArray.toList_eq]
  by_cases h : k < 10
  · exact (show ∀ k, k < 10 → ((wordOf k).data.toList = [] ↔ kdB k = false) by decide +kernel) k h
  · have h1 : kdB k = false := by rw [kdB_f]; omega
    rw [word_none (by omega)]
    simp [h1]
theorem exists_any (k : Nat) (w : World) (hk : k ≤ 255) (hw : Tables w) : Calls Tryd.prog 34 #[.int .u8 k] w fun e w' => e = .returned (.bool (kdB k)) ∧ w = w' := by
  have C := Lib.hid (word_any k w hk hw.words)
  have HE := Lib.hid (word_empty k)
  clear hw
  generalize wordOf k = s at *
  generalize kdB k = b at *
  go_enter Tryd.func34, Tryd.ntmps34
  go_wp2_with (go_at_call 58; ((with_reducible refine C.out.mono ?_); rintro e w1 ⟨rfl, rfl⟩))
  go_ret
  have h := HE.out
  cases b <;> simp_all
theorem rule_none {k : Nat} (h : kdB k = false) : ruleCells k = #[.int .u16 0, .int .u16 0, .int .u8 0, .int .i64 0] := by
  obtain ⟨h1, h2, h3, h4, _⟩ := none_of h
  simp [ruleCells, h1, h2, h3, h4]
theorem ret_rule {R : Ending → World → Prop} {act : Act} {W : World} {B : Nat} {C : Array Value} (h : AtC W B C) (hC : C.size = 4) (hp : act.tmps.getD 2 undef = .pointer (some ⟨B, 0, none⟩)) (hd : act.defers = []) (hR : R (.returned (.agg C)) W) : bodyPost Tryd.prog Tryd.f39 R .ret act W :=
  ret_row rfl hp hd h (Tryd.isAgg65 _) ((Tryd.sizeOf65 _).trans (congrArg (fun n => Result.ok n _) hC.symm)) hR
set_option maxHeartbeats 1000000 in
theorem of_any (k : Nat) (w : World) (hk : k ≤ 255) (hw : Tables w) : Calls Tryd.prog 39 #[.int .u8 k] w fun e w' => e = .returned (.agg #[.int .u16 (parM k), .int .u16 (refM k), .int .u8 (grp k), .int .i64 (rmost k)]) ∧ Below w.heap.size w w' := by
  have hb : Below w.heap.size w w := Below.refl _ _
  have mR := AtC.new w #[.int .u16 0, .int .u16 0, .int .u8 0, .int .i64 0] 65
  have hT := hw.al (.cells #[.int .u16 0, .int .u16 0, .int .u8 0, .int .i64 0] 65)
  have C := Lib.hid (exists_any k _ hk hT)
  have hR := fun C => AtC.new w C 65
  cases h : kdB k with
  | false =>
    have hr := rule_none h
    simp only [ruleCells] at hr
    rw [hr]
    rw [h] at C
    have rc := mR.c; have rf := mR.f; have rl := mR.lt
    clear h hT hw hr
    go_enter Tryd.func39, Tryd.ntmps39
    go_wp2_with (go_at_call 34; ((with_reducible refine C.out.mono ?_); rintro e w1 ⟨rfl, rfl⟩))
    exact ret_rule (hR _) rfl rfl rfl ⟨rfl, bAl hb _⟩
  | true =>
    have h1 := kdB_iff.1 h
    have hx : (k : Int) < 10 := by omega
    have c0 := hT.c k 0 (by omega) (by omega)
    have c1 := hT.c k 1 (by omega) (by omega)
    have c2 := hT.c k 2 (by omega) (by omega)
    have c3 := hT.c k 3 (by omega) (by omega)
    simp only [ruleCells, Nat.add_zero] at c0 c1 c2 c3
    rw [h] at C
    have rc := mR.c; have rf := mR.f; have rl := mR.lt
    clear h hT hw
    generalize parM k = a at *
    generalize refM k = b at *
    generalize grp k = c at *
    generalize rmost k = d at *
    go_enter Tryd.func39, Tryd.ntmps39
    go_wp2_with (go_at_call 34; ((with_reducible refine C.out.mono ?_); rintro e w1 ⟨rfl, rfl⟩))
    exact ret_rule (hR _) rfl rfl rfl ⟨rfl, bAl hb _⟩
theorem bit_iff (s k : Nat) (hs : s ≤ 65535) (hk : k ≤ 255) : (bits BinOp.and IntKind.u16 (s : Int) (IntKind.u16.wrap (2 ^ min k 16)) != 0) = hasBit s k := by
  have hw : IntKind.u16.wrap ((2 : Int) ^ min k 16) = 2 ^ min k 16 % 65536 := IntKind.wrap_u16 _
  have h0 : 0 ≤ (2 : Int) ^ min k 16 % 65536 := Int.emod_nonneg _ (by decide)
  have h1 : (2 : Int) ^ min k 16 % 65536 < 65536 := Int.emod_lt_of_pos _ (by decide)
  rw [hw, u16_and _ _ (by omega) (by omega) h0 h1]
  have hb := u16_bit_test_var (s : Int) (k : Int) (by omega) (by omega)
  simp only [Int.toNat_natCast] at hb ⊢
  have e : ((s : Int) / 2 ^ k % 2) = ((s / 2 ^ k % 2 : Nat) : Int) := by simp
  rw [e] at hb
  rw [Bool.eq_iff_iff]
  simp only [bne_iff_ne, ne_eq, hb, hasBit, Bool.and_eq_true, decide_eq_true_eq, Decidable.not_not]
  omega
theorem hasBit_any (s k : Nat) (w : World) (hs : s ≤ 65535) (hk : k ≤ 255) : Calls Tryd.prog 40 #[.int .u16 s, .int .u8 k] w fun e w' => e = .returned (.bool (hasBit s k)) ∧ w = w' := by
  have HB := Lib.hid (bit_iff s k hs hk)
  go_enter Tryd.func40, Tryd.ntmps40
  go_wp2
  go_ret
  exact ⟨by rw [← HB.out]; rfl, rfl⟩
theorem fld_0 (a b c d : Int) (W : World) : (Instr.field 65 (.agg #[.int .u16 a, .int .u16 b, .int .u8 c, .int .i64 d]) 0).run Tryd.prog W = .ok (.int .u16 a) W := by kernel_rfl
theorem fld_1 (a b c d : Int) (W : World) : (Instr.field 65 (.agg #[.int .u16 a, .int .u16 b, .int .u8 c, .int .i64 d]) 1).run Tryd.prog W = .ok (.int .u16 b) W := by kernel_rfl
theorem fld_2 (a b c d : Int) (W : World) : (Instr.field 65 (.agg #[.int .u16 a, .int .u16 b, .int .u8 c, .int .i64 d]) 2).run Tryd.prog W = .ok (.int .u8 c) W := by kernel_rfl
theorem fld_3 (a b c d : Int) (W : World) : (Instr.field 65 (.agg #[.int .u16 a, .int .u16 b, .int .u8 c, .int .i64 d]) 3).run Tryd.prog W = .ok (.int .i64 d) W := by kernel_rfl
theorem under_any (k p : Nat) (w : World) (hk : k ≤ 255) (hp : p ≤ 255) (hw : Tables w) : Calls Tryd.prog 35 #[.int .u8 k, .int .u8 p] w fun e w' => e = .returned (.bool (underB k p)) ∧ Below w.heap.size w w' := by
  have hb : Below w.heap.size w w := Below.refl _ _
  have C := Lib.hid (of_any k w hk hw)
  have CH := fun W => Lib.hid (hasBit_any (parM k) p W (parM_le k) hp)
  have HR : Hid (hasBit (parM k) p = underB k p) := Lib.hid (by
    by_cases h : k ≤ 9
    · exact has_par p h
    · have hn : kdB k = false := by rw [kdB_f]; omega
      rw [(none_of hn).1, hasB_zero, under_none hn])
  generalize parM k = a at *
  generalize refM k = b at *
  generalize grp k = c at *
  generalize rmost k = d at *
  clear hw
  have hf := fld_0
  go_enter Tryd.func35, Tryd.ntmps35
  go_wp2_with (first
    | (go_at_call 39; ((with_reducible refine C.out.mono ?_); rintro e w1 ⟨rfl, k1⟩; replace hb := bThen hb k1))
    | (go_at_call 40; ((with_reducible refine (CH _).out.mono ?_); rintro e w2 ⟨rfl, rfl⟩)))
  go_ret
  exact ⟨by rw [← HR.out]; rfl, hb⟩
theorem refers_any (k p : Nat) (w : World) (hk : k ≤ 255) (hp : p ≤ 255) (hw : Tables w) : Calls Tryd.prog 24 #[.int .u8 k, .int .u8 p] w fun e w' => e = .returned (.bool (refersTo k p)) ∧ Below w.heap.size w w' := by
  have hb : Below w.heap.size w w := Below.refl _ _
  have C := Lib.hid (of_any k w hk hw)
  have CH := fun W => Lib.hid (hasBit_any (refM k) p W (refM_le k) hp)
  have HR : Hid (hasBit (refM k) p = refersTo k p) := Lib.hid (by
    by_cases h : k ≤ 9
    · exact has_ref p h
    · have hn : kdB k = false := by rw [kdB_f]; omega
      rw [(none_of hn).2.1, hasB_zero, refers_none hn])
  generalize parM k = a at *
  generalize refM k = b at *
  generalize grp k = c at *
  generalize rmost k = d at *
  clear hw
  have hf := fld_1
  go_enter Tryd.func24, Tryd.ntmps24
  go_wp2_with (first
    | (go_at_call 39; ((with_reducible refine C.out.mono ?_); rintro e w1 ⟨rfl, k1⟩; replace hb := bThen hb k1))
    | (go_at_call 40; ((with_reducible refine (CH _).out.mono ?_); rintro e w2 ⟨rfl, rfl⟩)))
  go_ret
  exact ⟨by rw [← HR.out]; rfl, hb⟩
theorem group_any (k : Nat) (w : World) (hk : k ≤ 255) (hw : Tables w) : Calls Tryd.prog 37 #[.int .u8 k] w fun e w' => e = .returned (.int .u8 (grp k)) ∧ Below w.heap.size w w' := by
  have hb : Below w.heap.size w w := Below.refl _ _
  have C := Lib.hid (of_any k w hk hw)
  generalize parM k = a at *
  generalize refM k = b at *
  generalize grp k = c at *
  generalize rmost k = d at *
  clear hw
  have hf := fld_2
  go_enter Tryd.func37, Tryd.ntmps37
  go_wp2_with (go_at_call 39; ((with_reducible refine C.out.mono ?_); rintro e w1 ⟨rfl, k1⟩; replace hb := bThen hb k1))
  go_ret
  exact ⟨rfl, hb⟩
theorem most_any (k : Nat) (w : World) (hk : k ≤ 255) (hw : Tables w) : Calls Tryd.prog 38 #[.int .u8 k] w fun e w' => e = .returned (.int .i64 (most k)) ∧ Below w.heap.size w w' := by
  have hb : Below w.heap.size w w := Below.refl _ _
  have CG := Lib.hid (group_any k w hk hw)
  have C := Lib.hid (fun W (q : Below w.heap.size w W) => of_any (grp k) W (by have := grp_le k; omega) (hw.then q))
  have HR : Hid (most k = rmost (grp k)) := Lib.hid rfl
  generalize most k = m at *
  generalize grp k = c at *
  generalize parM c = a at *
  generalize refM c = b at *
  generalize grp c = g at *
  generalize rmost c = d at *
  clear hw
  have hf := fld_3
  go_enter Tryd.func38, Tryd.ntmps38
  go_wp2_with (first
    | (go_at_call 39; ((with_reducible refine (C.out _ hb).mono ?_); rintro e w1 ⟨rfl, k1⟩; replace hb := bThen hb k1))
    | (go_at_call 37; ((with_reducible refine CG.out.mono ?_); rintro e w2 ⟨rfl, k1⟩; replace hb := bThen hb k1)))
  go_ret
  exact ⟨by rw [HR.out]; rfl, hb⟩
end Go.Proofs.YthlalmoapbdccaaDoor
/-
  WALKS: the document's Known, Under, Refers, Group, Most, Levels.
-/
namespace Go.Proofs.YthlalmoapbdccaaDoor
open Go.RowKit
set_option maxRecDepth 100000
set_option linter.unusedVariables false
set_option linter.unusedSimpArgs false

theorem kinds_cases (k : Nat) : k = 1 ∨ k = 2 ∨ k = 3 ∨ k = 4 ∨ k = 5 ∨ k = 6 ∨ k = 7 ∨ k = 8 ∨ k = 9 ∨ kdB k = false := by rw [kdB_f]; omega
theorem ret_b {a b : Bool} (h : a = b) : Ending.returned (.bool a) = .returned (.bool b) := by rw [h]
theorem natB (p n : Nat) : ((p : Int) == (n : Int)) = (p == n) := by rw [Bool.eq_iff_iff]; simp; omega
theorem known_any (k : Nat) (w : World) : Calls Tryd.prog 60 #[.int .u8 k] w fun e w' => e = .returned (.bool (kdB k)) ∧ w = w' := by
  have HK : Hid (kdB k = true ↔ 1 ≤ k ∧ k ≤ 9) := Lib.hid kdB_iff
  generalize kdB k = b at *
  go_enter Tryd.func60, Tryd.ntmps60
  go_wp2
  all_goals go_ret
  all_goals refine ⟨ret_b ?_, rfl⟩
  all_goals rw [Bool.eq_iff_iff, HK.out]
  all_goals simp [*]
  all_goals omega
set_option maxHeartbeats 2000000 in
theorem refUnder_any (k p : Nat) (w : World) : Calls Tryd.prog 61 #[.int .u8 k, .int .u8 p] w fun e w' => e = .returned (.bool (underB k p)) ∧ w = w' := by
  have CK := fun k W => Lib.hid (known_any k W)
  rcases kinds_cases k with rfl | rfl | rfl | rfl | rfl | rfl | rfl | rfl | rfl | h
  case inr.inr.inr.inr.inr.inr.inr.inr.inr =>
    have h0 := kdB_f.1 h
    have i1 : ((k : Int) == 1) = false := by simp; omega
    have i2 : ((k : Int) == 2) = false := by simp; omega
    have i3 : ((k : Int) == 3) = false := by simp; omega
    have i4 : ((k : Int) == 4) = false := by simp; omega
    have i5 : ((k : Int) == 5) = false := by simp; omega
    have i6 : ((k : Int) == 6) = false := by simp; omega
    have i7 : ((k : Int) == 7) = false := by simp; omega
    have i8 : ((k : Int) == 8) = false := by simp; omega
    have i9 : ((k : Int) == 9) = false := by simp; omega
    have HV := Lib.hid (under_none h p)
    have C := Lib.hid (CK k w).out
    rw [h] at C
    clear CK h h0
    go_enter Tryd.func61, Tryd.ntmps61
    go_wp2
    go_ret
    exact ⟨by first | rfl | (rw [HV.out]; rfl) | (rw [HV.out.1, HV.out.2]; rfl), rfl⟩
  all_goals
    go_enter Tryd.func61, Tryd.ntmps61
    go_wp2
    all_goals go_ret
    all_goals first | exact ⟨rfl, rfl⟩ | (refine ⟨ret_b ?_, rfl⟩; rw [Bool.eq_iff_iff]; simp_all [underB, refersTo]; try omega)
set_option maxHeartbeats 2000000 in
theorem refRefers5_any (k p : Nat) (w : World) : Calls Tryd.prog 63 #[.int .u8 k, .int .u8 p] w fun e w' => e = .returned (.bool (refersTo k p)) ∧ w = w' := by
  have CK := fun k W => Lib.hid (known_any k W)
  rcases kinds_cases k with rfl | rfl | rfl | rfl | rfl | rfl | rfl | rfl | rfl | h
  case inr.inr.inr.inr.inr.inr.inr.inr.inr =>
    have h0 := kdB_f.1 h
    have i1 : ((k : Int) == 1) = false := by simp; omega
    have i2 : ((k : Int) == 2) = false := by simp; omega
    have i3 : ((k : Int) == 3) = false := by simp; omega
    have i4 : ((k : Int) == 4) = false := by simp; omega
    have i5 : ((k : Int) == 5) = false := by simp; omega
    have i6 : ((k : Int) == 6) = false := by simp; omega
    have i7 : ((k : Int) == 7) = false := by simp; omega
    have i8 : ((k : Int) == 8) = false := by simp; omega
    have i9 : ((k : Int) == 9) = false := by simp; omega
    have HV := Lib.hid (refers_none h p)
    have C := Lib.hid (CK k w).out
    rw [h] at C
    clear CK h h0
    go_enter Tryd.func63, Tryd.ntmps63
    go_wp2
    go_ret
    exact ⟨by first | rfl | (rw [HV.out]; rfl) | (rw [HV.out.1, HV.out.2]; rfl), rfl⟩
  all_goals
    go_enter Tryd.func63, Tryd.ntmps63
    go_wp2
    all_goals go_ret
    all_goals first | exact ⟨rfl, rfl⟩ | (refine ⟨ret_b ?_, rfl⟩; rw [Bool.eq_iff_iff]; simp_all [underB, refersTo]; try omega)
theorem refGroup_any (k : Nat) (w : World) : Calls Tryd.prog 46 #[.int .u8 k] w fun e w' => e = .returned (.int .u8 (grp k)) ∧ w = w' := by
  have C := Lib.hid (known_any k w)
  cases h : kdB k with
  | false =>
    have HV := Lib.hid (none_of h).2.2.1
    rw [h] at C
    clear h
    go_enter Tryd.func46, Tryd.ntmps46
    go_wp2_with (go_at_call 60; ((with_reducible refine C.out.mono ?_); rintro e w1 ⟨rfl, rfl⟩))
    go_ret
    exact ⟨by rw [HV.out]; rfl, rfl⟩
  | true =>
    rw [h] at C
    by_cases h7 : k = 7 ∨ k = 8
    · have HV : Hid (grp k = 6) := Lib.hid (by rcases h7 with rfl | rfl <;> rfl)
      have i : (k : Int) = 7 ∨ (k : Int) = 8 := by omega
      clear h h7
      go_enter Tryd.func46, Tryd.ntmps46
      go_wp2_with (go_at_call 60; ((with_reducible refine C.out.mono ?_); rintro e w1 ⟨rfl, rfl⟩))
      all_goals first | (go_ret; exact ⟨by rw [HV.out]; rfl, rfl⟩) | (exfalso; simp_all; done) | (exfalso; simp_all; omega)
    · have HV : Hid (grp k = k) := Lib.hid (by
        have := kdB_iff.1 h
        have h3 : k ≠ 7 := by omega
        have h4 : k ≠ 8 := by omega
        exact (show ∀ k, k < 10 → 1 ≤ k → k ≠ 7 → k ≠ 8 → grp k = k by decide +kernel) k (by omega) this.1 h3 h4)
      have i1 : ((k : Int) == 7) = false := by simp; omega
      have i2 : ((k : Int) == 8) = false := by simp; omega
      clear h h7
      go_enter Tryd.func46, Tryd.ntmps46
      go_wp2_with (go_at_call 60; ((with_reducible refine C.out.mono ?_); rintro e w1 ⟨rfl, rfl⟩))
      go_ret
      exact ⟨by rw [HV.out]; rfl, rfl⟩
theorem refMost_any (k : Nat) (w : World) : Calls Tryd.prog 47 #[.int .u8 k] w fun e w' => e = .returned (.int .i64 (most k)) ∧ w = w' := by
  have C := Lib.hid (refGroup_any k w)
  have hg := grp_le k
  have HV : Hid (most k = rmost (grp k)) := Lib.hid rfl
  generalize most k = m at *
  generalize grp k = c at *
  rcases (show c = 0 ∨ c = 1 ∨ c = 2 ∨ c = 3 ∨ c = 4 ∨ c = 5 ∨ c = 6 ∨ c = 7 ∨ c = 8 ∨ c = 9 by omega) with rfl | rfl | rfl | rfl | rfl | rfl | rfl | rfl | rfl | rfl
  all_goals
    go_enter Tryd.func47, Tryd.ntmps47
    go_wp2_with (go_at_call 46; ((with_reducible refine C.out.mono ?_); rintro e w1 ⟨rfl, rfl⟩))
    go_ret
    exact ⟨by rw [HV.out]; rfl, rfl⟩
end Go.Proofs.YthlalmoapbdccaaDoor
/-
  PLAIN: rows of kinds: one that reads as a list of numbers; one of the call's own; 'append' of one number.
-/
namespace Go.Proofs.YthlalmoapbdccaaDoor
open Go.RowKit
set_option maxRecDepth 100000
set_option linter.unusedVariables false
set_option linter.unusedSimpArgs false

abbrev u8 (x : Nat) : Value := .int .u8 x
/-- The cells behind A, below block B, are the numbers l. -/
def RdU (w : World) (B : Nat) (A : Option Addr) (l : List Nat) : Prop := l = [] ∨ ∃ b off, A = some ⟨b, off, none⟩ ∧ b < B ∧ ∀ j x, l[j]? = some x → w.cell? ⟨b, off + j, none⟩ = some (u8 x)
theorem RdU.at_ {w : World} {B : Nat} {A : Option Addr} {l : List Nat} (h : RdU w B A l) (h0 : 0 < l.length) : ∃ b off, A = some ⟨b, off, none⟩ ∧ b < B ∧ ∀ j x, l[j]? = some x → w.cell? ⟨b, off + j, none⟩ = some (u8 x) := by
  rcases h with rfl | h
  · simp at h0
  · exact h
theorem RdU.keep {w w' : World} {B : Nat} {A : Option Addr} {l : List Nat} (h : RdU w B A l) (hk : ∀ b o, b < B → w'.cell? ⟨b, o, none⟩ = w.cell? ⟨b, o, none⟩) : RdU w' B A l := by
  rcases h with h | ⟨b, off, e, hb, hc⟩
  · exact .inl h
  · exact .inr ⟨b, off, e, hb, fun j x hx => (hk _ _ hb).trans (hc j x hx)⟩
theorem RdU.below {w w' : World} {B : Nat} {A : Option Addr} {l : List Nat} (h : RdU w B A l) (hb : Below B w w') : RdU w' B A l := h.keep fun b o hlt => hb.cell (p := ⟨b, o, none⟩) hlt
theorem RdU.more {w : World} {B B' : Nat} {A : Option Addr} {l : List Nat} (h : RdU w B A l) (hB : B ≤ B') : RdU w B' A l := by
  rcases h with h | ⟨b, off, e, hb, hc⟩
  · exact .inl h
  · exact .inr ⟨b, off, e, by omega, hc⟩
theorem RdU.then {w w' : World} {A : Option Addr} {l : List Nat} (h : RdU w w.heap.size A l) (hb : Below w.heap.size w w') : RdU w' w'.heap.size A l := (h.below hb).more hb.size
/-- A row of numbers of the call's own (from block 'base' on). -/
def OwnU (w : World) (base : Nat) (v : Value) (l : List Nat) : Prop := w.ownsRow base 5 1 v l.length (l.map u8)
theorem OwnU.form {w : World} {base : Nat} {v : Value} {l : List Nat} (h : OwnU w base v l) :
    ∃ A c, v = .slice A l.length c ∧ RdU w w.heap.size A l ∧ (∀ a, A = some a → base ≤ a.block) ∧ l.length ≤ c := by
  rcases h.2 with ⟨rfl, h0⟩ | ⟨g, cap, cur, rfl, hb, hg, hnc, _⟩
  · exact ⟨none, 0, by rw [h0], .inl (List.eq_nil_of_length_eq_zero h0), fun a e => (by cases e), by rw [h0]; exact Nat.le_refl _⟩
  · refine ⟨_, cap, rfl, .inr ⟨g, 0, rfl, (Array.getElem?_eq_some_iff.1 hg).1, fun j x hx => ?_⟩, fun a e => (by cases e; exact hb), hnc⟩
    have := h.cells (g := g) rfl j (u8 x) (by simp [hx])
    rw [show (⟨g, 0, none⟩ : Addr).add j = ⟨g, 0 + j, none⟩ by unfold Addr.add; split <;> simp_all] at this
    exact this
theorem OwnU.base {w : World} {base base' : Nat} {v : Value} {l : List Nat} (h : OwnU w base v l) (hb : base' ≤ base) : OwnU w base' v l := by
  refine ⟨h.1, ?_⟩
  rcases h.2 with h2 | ⟨g, cap, cur, e, hg, r⟩
  · exact .inl h2
  · exact .inr ⟨g, cap, cur, e, Nat.le_trans hb hg, r⟩
theorem OwnU.nil_ (w : World) (base : Nat) : OwnU w base (.slice none 0 0) [] := ⟨rfl, .inl ⟨rfl, rfl⟩⟩
theorem OwnU.lt {w : World} {base : Nat} {v : Value} {l : List Nat} (h : OwnU w base v l) : ∀ k, v.ownBlock = some k → base ≤ k ∧ k < w.heap.size := World.ownsRow.lt (show w.ownsRow _ _ _ _ _ _ from h)
theorem OwnU.below {w w' : World} {base : Nat} {v : Value} {l : List Nat} (h : OwnU w base v l) (hb : Below w.heap.size w w') : OwnU w' base v l := by
  unfold OwnU at *
  exact World.ownsRow.kept h (row := none) ⟨hb.os, hb.tape, hb.output, hb.size, fun k hk _ => hb.block k hk⟩ (by
    cases hv : v.ownBlock with
    | none => exact .inl rfl
    | some k => exact .inr (by simp))
theorem OwnU.grown {w w' : World} {base : Nat} {v : Value} {l : List Nat} {r : Option Nat} (h : OwnU w base v l) (hg : w.grownBy w' r) (hr : v.ownBlock = none ∨ v.ownBlock ≠ r) : OwnU w' base v l := World.ownsRow.kept h hg hr
theorem OwnU.al {w : World} {base : Nat} {v : Value} {l : List Nat} (h : OwnU w base v l) (o : Obj) : OwnU (w.alloc o) base v l := World.ownsRow.alloc h o
theorem info_u8 : (Tryd.prog.info? 5).map (fun i => (i.zero, i.size, i.bytes)) = some (some (.int .u8 0), 1, 1) := by kernel_rfl
/-- 'append(own, x)': the literal [x] lies in a block that has just been made. -/
theorem wpList_one {ops : Array Oper} {rest : List Oper} {o : Oper} {a : Act} {Q : Exit → Act → World → Prop} (w : World) (hgd : o.guard = none) (s x : Operand)
    (ho : o.op = .call { callee := .builtin .append, args := #[s, x], argTypes := #[45, 45] }) (base : Nat) (v : Value) (l : List Nat) (hs : a.eval s = v) (hown : OwnU w base v l)
    (n : Nat) (hx : a.eval x = .slice (some ⟨w.heap.size, 0, none⟩) 1 1) (hl : l.length ≤ 1000000) (hbase : base ≤ w.heap.size)
    (h : ∀ v' w', OwnU w' base v' (l ++ [n]) → Below base w w' → wpList Tryd.prog ops Q rest (a.put o.dst v') w') : wpList Tryd.prog ops Q (o :: rest) a (w.alloc (.cells #[u8 n] 5)) := by
  obtain ⟨i0, hi, hz0, hz1, hz2⟩ := info_parts info_u8
  refine wpList_append_own _ hgd s x 45 ho base 5 i0 (.int .u8 0) 1 1 Tryd.underlying45 hi hz0 hz1 hz2 rfl (by decide) v l.length _ hs (hown.al _) ⟨w.heap.size, 0, none⟩ 1 1 [u8 n] hx (by simp) ?_ (by simp [Value.oneCell']) (by unfold maxLen; omega) (by omega) (by simp; omega)
    (fun v' w' q g _ => h v' w' (by unfold OwnU; simpa using q) (((Below.refl _ _).alloc hbase _).grown g (by simp; omega) (fun k hk => (hown.lt k hk).1)))
  intro j u hu
  rcases j with _ | j
  · simp at hu; subst hu
    rw [show (⟨w.heap.size, 0, none⟩ : Addr).add 0 = ⟨w.heap.size, 0, none⟩ by unfold Addr.add; split <;> simp_all]
    rw [World.cell?_alloc_at _ _ _ _ rfl]; rfl
  · simp at hu
end Go.Proofs.YthlalmoapbdccaaDoor
/-
  WALKS: tally, Count, Room; the document's many, Count, Room.
-/
namespace Go.Proofs.YthlalmoapbdccaaDoor
open Go.RowKit
set_option maxRecDepth 100000
set_option linter.unusedVariables false
set_option linter.unusedSimpArgs false

/-- How many of a row are of a group. -/
def cnt (l : List Nat) (g : Nat) : Nat := (l.filter fun k => grp k == g).length
def cntA (l : List Nat) : Array Value := ((List.range 10).map fun g => Value.int .i64 (cnt l g : Int)).toArray
theorem cnt_le (l : List Nat) (g : Nat) : cnt l g ≤ l.length := List.length_filter_le _ _
theorem cnt_take (l : List Nat) (g n : Nat) : cnt (l.take n) g ≤ n := Nat.le_trans (cnt_le _ _) (by rw [List.length_take]; omega)
theorem cnt_snoc {l : List Nat} {i : Nat} (h : i < l.length) (g : Nat) : cnt (l.take (i + 1)) g = cnt (l.take i) g + if grp l[i] = g then 1 else 0 := by
  rw [List.take_succ_eq_append_getElem h]
  unfold cnt
  rw [List.filter_append, List.length_append]
  by_cases e : grp l[i] = g <;> simp [e]
theorem cntA_size (l : List Nat) : (cntA l).size = 10 := by simp [cntA]
theorem cntA_get {l : List Nat} {g : Nat} (h : g < 10) : (cntA l)[g]? = some (.int .i64 (cnt l g : Int)) := by simp [cntA, h]
theorem cntA_nil : cntA [] = #[.int .i64 0, .int .i64 0, .int .i64 0, .int .i64 0, .int .i64 0, .int .i64 0, .int .i64 0, .int .i64 0, .int .i64 0, .int .i64 0] := by kernel_rfl
theorem cntA_set {l : List Nat} {i : Nat} (h : i < l.length) : (cntA (l.take i)).setIfInBounds (grp l[i]) (.int .i64 ((cnt (l.take i) (grp l[i]) : Int) + 1)) = cntA (l.take (i + 1)) := by
  apply Array.ext
  · simp [cntA]
  · intro j h1 h2
    have hj : j < 10 := by simpa [cntA] using h2
    have hg := grp_le l[i]
    have e1 := cntA_get (l := l.take i) hj
    have e2 := cntA_get (l := l.take (i + 1)) hj
    have s1 : j < (cntA (l.take i)).size := by rw [cntA_size]; exact hj
    rw [Array.getElem?_eq_getElem s1, Option.some.injEq] at e1
    rw [Array.getElem?_eq_getElem h2, Option.some.injEq] at e2
    rw [e2, cnt_snoc h, Array.getElem_setIfInBounds s1]
    by_cases e : grp l[i] = j
    · rw [if_pos e, if_pos e, e]; simp
    · rw [if_neg e, if_neg e, e1]; simp
theorem all_take {l : List Nat} {i : Nat} (h : i < l.length) (ha : (l.take i).all kdB = true) (hk : kdB l[i] = true) : (l.take (i + 1)).all kdB = true := by
  rw [List.take_succ_eq_append_getElem h, List.all_append, ha]; simp [hk]
theorem all_no {l : List Nat} {i : Nat} (h : i < l.length) (hk : kdB l[i] = false) : l.all kdB = false := by
  rw [List.all_eq_false]; exact ⟨l[i], List.getElem_mem h, by simp [hk]⟩
def tallyV (l : List Nat) : Value := .tuple #[.agg (if l.all kdB then cntA l else cntA []), .bool (l.all kdB)]
theorem tally_no {l : List Nat} (h : l.all kdB = false) : tallyV l = .tuple #[.agg (cntA []), .bool false] := by unfold tallyV; rw [h]; simp
theorem tally_yes {l : List Nat} (h : l.all kdB = true) : tallyV l = .tuple #[.agg (cntA l), .bool true] := by unfold tallyV; rw [h]; simp
theorem ret_tally {R : Ending → World → Prop} {act : Act} {W : World} {B : Nat} {C : Array Value} {v : Value} (h : AtC W B C) (hC : C.size = 10) (hp : act.tmps.getD 2 undef = .pointer (some ⟨B, 0, none⟩)) (hu : act.tmps.getD 3 undef = v) (hd : act.defers = []) (hR : R (.returned (.tuple #[.agg C, v])) W) : bodyPost Tryd.prog Tryd.f36 R .ret act W := by
  refine bodyPost_ret (v := .tuple #[.agg C, v]) ?_ hd hR
  have hl := run_loadCells_list (P := Tryd.prog) W ⟨B, 0, none⟩ C.toList (fun j v hv => by
    have : (⟨B, 0, none⟩ : Addr).add j = ⟨B, j, none⟩ := by unfold Addr.add; split <;> simp_all
    rw [this, h.c j]; simpa using hv)
  simp only [Array.length_toList, Array.toArray_toList] at hl
  have ha := Tryd.isAgg57 W
  have hs : (sizeOf 57).run Tryd.prog W = .ok C.size W := (Tryd.sizeOf57 W).trans (congrArg (fun n => Result.ok n _) hC.symm)
  have h0 : (asAddr (Value.pointer (some ⟨B, 0, none⟩))).run Tryd.prog W = .ok ⟨B, 0, none⟩ W := by simp [asAddr, go_sem]
  rw [results_cell_tmp (fn := Tryd.f36) rfl, hp, hu, h0]
  simp [Sem.run_bind, Result.andThen, loadVar, ha, hs, hl]
set_option maxHeartbeats 2000000 in
theorem AtC.fill10 {W : World} {B : Nat} {C : Array Value} (h : AtC W B C) (hC : C.size = 10) (v0 v1 v2 v3 v4 v5 v6 v7 v8 v9 : Value) : AtC ((((((((((W.setCell ⟨B, 0, none⟩ v0).setCell ⟨B, 1, none⟩ v1).setCell ⟨B, 2, none⟩ v2).setCell ⟨B, 3, none⟩ v3).setCell ⟨B, 4, none⟩ v4).setCell ⟨B, 5, none⟩ v5).setCell ⟨B, 6, none⟩ v6).setCell ⟨B, 7, none⟩ v7).setCell ⟨B, 8, none⟩ v8).setCell ⟨B, 9, none⟩ v9) B #[v0, v1, v2, v3, v4, v5, v6, v7, v8, v9] := by
  have e : ((((((((((C.setIfInBounds 0 v0).setIfInBounds 1 v1).setIfInBounds 2 v2).setIfInBounds 3 v3).setIfInBounds 4 v4).setIfInBounds 5 v5).setIfInBounds 6 v6).setIfInBounds 7 v7).setIfInBounds 8 v8).setIfInBounds 9 v9) = #[v0, v1, v2, v3, v4, v5, v6, v7, v8, v9] := by
    obtain ⟨l⟩ := C
    match l, hC with
    | [_, _, _, _, _, _, _, _, _, _], _ => simp only [List.setIfInBounds_toArray, List.set_cons_zero, List.set_cons_succ]
  rw [← e]
  exact (AtC.set (AtC.set (AtC.set (AtC.set (AtC.set (AtC.set (AtC.set (AtC.set (AtC.set (AtC.set h (i := 0) (by simp [hC]) v0) (i := 1) (by simp [hC]) v1) (i := 2) (by simp [hC]) v2) (i := 3) (by simp [hC]) v3) (i := 4) (by simp [hC]) v4) (i := 5) (by simp [hC]) v5) (i := 6) (by simp [hC]) v6) (i := 7) (by simp [hC]) v7) (i := 8) (by simp [hC]) v8) (i := 9) (by simp [hC]) v9)
theorem bFill10 {w W : World} {B : Nat} (h : Below w.heap.size w W) (hB : w.heap.size ≤ B) (v0 v1 v2 v3 v4 v5 v6 v7 v8 v9 : Value) : Below w.heap.size w ((((((((((W.setCell ⟨B, 0, none⟩ v0).setCell ⟨B, 1, none⟩ v1).setCell ⟨B, 2, none⟩ v2).setCell ⟨B, 3, none⟩ v3).setCell ⟨B, 4, none⟩ v4).setCell ⟨B, 5, none⟩ v5).setCell ⟨B, 6, none⟩ v6).setCell ⟨B, 7, none⟩ v7).setCell ⟨B, 8, none⟩ v8).setCell ⟨B, 9, none⟩ v9) := (bStore (bStore (bStore (bStore (bStore (bStore (bStore (bStore (bStore (bStore h (p := ⟨B, 0, none⟩) hB v0) (p := ⟨B, 1, none⟩) hB v1) (p := ⟨B, 2, none⟩) hB v2) (p := ⟨B, 3, none⟩) hB v3) (p := ⟨B, 4, none⟩) hB v4) (p := ⟨B, 5, none⟩) hB v5) (p := ⟨B, 6, none⟩) hB v6) (p := ⟨B, 7, none⟩) hB v7) (p := ⟨B, 8, none⟩) hB v8) (p := ⟨B, 9, none⟩) hB v9)
theorem cntA_lit (l : List Nat) : cntA l = #[.int .i64 (cnt l 0 : Int), .int .i64 (cnt l 1 : Int), .int .i64 (cnt l 2 : Int), .int .i64 (cnt l 3 : Int), .int .i64 (cnt l 4 : Int), .int .i64 (cnt l 5 : Int), .int .i64 (cnt l 6 : Int), .int .i64 (cnt l 7 : Int), .int .i64 (cnt l 8 : Int), .int .i64 (cnt l 9 : Int)] := by kernel_rfl
set_option maxHeartbeats 4000000 in
theorem tally_any {A : Option Addr} (l : List Nat) (c B : Nat) (w : World) (hr : RdU w B A l) (hB : B ≤ w.heap.size) (hx : ∀ x ∈ l, x ≤ 255) (hl : l.length ≤ 300) (hw : Tables w) :
    Calls Tryd.prog 36 #[.slice A l.length c] w fun e w' => e = .returned (tallyV l) ∧ Below w.heap.size w w' := by
  have HR := Lib.hid hr
  have HX := Lib.hid hx
  have HW := Lib.hid hw
  have hb0 := bAl (bAl (Below.refl w.heap.size w) (.cells (cntA []) 57)) (.cells (cntA []) 57)
  have M2 := Lib.hid ((AtC.new w (cntA []) 57).al (.cells (cntA []) 57))
  have M4 := Lib.hid (AtC.newAt (w := w.alloc (.cells (cntA []) 57)) (B := w.heap.size + 1) (C := cntA []) (T := 57) (by simp))
  rw [cntA_nil] at hb0 M2 M4
  clear hr hx hw
  go_enter Tryd.func36, Tryd.ntmps36
  go_wp2
  go_loopw [9] (fun i wr => ∃ k : Nat, i = .int .i64 k ∧ k ≤ l.length ∧ (l.take k).all kdB = true ∧ AtC wr w.heap.size (cntA []) ∧ AtC wr (w.heap.size + 1) (cntA (l.take k)) ∧ Below w.heap.size w wr) (fun i _ => l.length - (intOf i).toNat)
  case atStart => exact ⟨0, rfl, Nat.zero_le _, by simp, by rw [cntA_nil]; exact M2.out, by rw [List.take_zero, cntA_nil]; exact M4.out, hb0⟩
  case round =>
    obtain ⟨k, rfl, hk, ha, m2, m4, hb⟩ := hrel
    have HA := Lib.hid ha
    have N2 := Lib.hid m2
    have N4 := Lib.hid m4
    clear ha m2 m4 M2 M4 hb0
    by_cases hlt : k < l.length
    · have i1 : (k : Int) < l.length := by omega
      obtain ⟨b, o, rfl, hbl, hc⟩ := HR.out.at_ (by omega)
      have hx := (hb.cell (p := ⟨b, o + k, none⟩) (by show b < _; omega)).trans (hc k _ (List.getElem?_eq_getElem hlt))
      have hy := HX.out _ (List.getElem_mem hlt)
      have CE := Lib.hid (exists_any l[k] wr hy (HW.out.then hb))
      have CG := Lib.hid (group_any l[k] wr hy (HW.out.then hb))
      have HS := Lib.hid (cntA_set hlt)
      have HT := Lib.hid (all_take hlt HA.out)
      have HN := Lib.hid (all_no hlt)
      clear hc hy
      generalize l[k] = x at *
      cases hkd : kdB x with
      | false =>
        rw [hkd] at CE
        have HV := Lib.hid (tally_no (HN.out hkd))
        have c2 := N2.out.c
        rw [cntA_nil] at c2
        have f2 := N2.out.f
        have l2 := N2.out.lt
        clear hkd
        go_wp2_with (go_at_call 34; ((with_reducible refine CE.out.mono ?_); rintro e w1 ⟨rfl, rfl⟩))
        exact ret_tally (AtC.fill10 N2.out (cntA_size _) _ _ _ _ _ _ _ _ _ _) rfl rfl rfl rfl ⟨by rw [HV.out, cntA_nil]; rfl, bFill10 hb (Nat.le_refl _) _ _ _ _ _ _ _ _ _ _⟩
      | true =>
        rw [hkd] at CE
        have HT2 := Lib.hid (HT.out hkd)
        have hg := grp_le x
        have hcn := cnt_take l (grp x) k
        have hv : (cntA (l.take k))[grp x]? = some (.int .i64 (cnt (l.take k) (grp x) : Int)) := cntA_get (by omega)
        clear hkd
        generalize hG : grp x = g at *
        generalize hN : cnt (l.take k) g = q at *
        clear hG hN
        go_wp2_with (first | (go_at_call 34; ((with_reducible refine CE.out.mono ?_); rintro e w1 ⟨rfl, rfl⟩)) | (go_at_call 37; ((with_reducible refine CG.out.mono ?_); rintro e w2 ⟨rfl, k2⟩; have m4 := N4.out.then k2; have c4 := (m4.c g).trans hv; have f4 := m4.f g; have l4 := m4.lt; have N4b := Lib.hid m4; clear m4)))
        go_roundw
        case rel => exact ⟨k + 1, by go_num, by omega, HT2.out, (N2.out.then k2).store (p := ⟨w.heap.size + 1, g, none⟩) (by simp) _, by rw [← HS.out]; exact N4b.out.set (by rw [cntA_size]; omega) _, bStore (bThen hb k2) (by simp) _⟩
        case measure => simp [intOf]; omega
    · have e : k = l.length := by omega
      subst e
      have hA := HA.out
      rw [List.take_length] at hA
      have HV := Lib.hid (tally_yes hA)
      have c4 := N4.out.c
      rw [List.take_length, cntA_lit] at c4
      have f2 := N2.out.f
      have l2 := N2.out.lt
      have l4 := N4.out.lt
      have c2 := N2.out.c
      rw [cntA_nil] at c2
      have HL := Lib.hid (cntA_lit l)
      clear hA
      generalize cnt l 0 = n0 at *
      generalize cnt l 1 = n1 at *
      generalize cnt l 2 = n2 at *
      generalize cnt l 3 = n3 at *
      generalize cnt l 4 = n4 at *
      generalize cnt l 5 = n5 at *
      generalize cnt l 6 = n6 at *
      generalize cnt l 7 = n7 at *
      generalize cnt l 8 = n8 at *
      generalize cnt l 9 = n9 at *
      go_wp2
      exact ret_tally (AtC.fill10 N2.out (cntA_size _) _ _ _ _ _ _ _ _ _ _) rfl rfl rfl rfl ⟨by rw [HV.out, HL.out]; rfl, bFill10 hb (Nat.le_refl _) _ _ _ _ _ _ _ _ _ _⟩
end Go.Proofs.YthlalmoapbdccaaDoor
/-
  WALKS: Count, Room.
-/
namespace Go.Proofs.YthlalmoapbdccaaDoor
open Go.RowKit
set_option maxRecDepth 100000
set_option linter.unusedVariables false
set_option linter.unusedSimpArgs false

def overB (l : List Nat) : Bool := (List.range 10).any fun g => decide (most g < cnt l g)
def countE (l : List Nat) : Nat := if l.all kdB then (if overB l then 51 else 0) else 40
def roomE (k : Nat) (l : List Nat) : Nat := if l.all kdB && kdB k then (if most k ≤ cnt l (grp k) then 51 else 0) else 40
theorem idx_cnt (l : List Nat) (j : Nat) (h : j < 10) (W : World) : (Instr.index 57 (.agg #[.int .i64 (cnt l 0 : Int), .int .i64 (cnt l 1 : Int), .int .i64 (cnt l 2 : Int), .int .i64 (cnt l 3 : Int), .int .i64 (cnt l 4 : Int), .int .i64 (cnt l 5 : Int), .int .i64 (cnt l 6 : Int), .int .i64 (cnt l 7 : Int), .int .i64 (cnt l 8 : Int), .int .i64 (cnt l 9 : Int)]) (.int .i64 (j : Int))).run Tryd.prog W = .ok (.int .i64 (cnt l j : Int)) W := by
  rcases (show j = 0 ∨ j = 1 ∨ j = 2 ∨ j = 3 ∨ j = 4 ∨ j = 5 ∨ j = 6 ∨ j = 7 ∨ j = 8 ∨ j = 9 by omega) with rfl | rfl | rfl | rfl | rfl | rfl | rfl | rfl | rfl | rfl <;> kernel_rfl
theorem over_t {l : List Nat} {g : Nat} (hg : g < 10) (h : most g < cnt l g) : overB l = true := by
  unfold overB
  rw [List.any_eq_true]
  exact ⟨g, by simpa using hg, by simpa using h⟩
theorem over_f {l : List Nat} (h : ∀ g, g < 10 → ¬ most g < cnt l g) : overB l = false := by
  unfold overB
  rw [List.any_eq_false]
  intro g hg
  simpa using h g (by simpa using hg)
set_option maxHeartbeats 8000000 in
theorem room_any {A : Option Addr} (k : Nat) (l : List Nat) (c B : Nat) (w : World) (hk : k ≤ 255) (hr : RdU w B A l) (hB : B ≤ w.heap.size) (hx : ∀ x ∈ l, x ≤ 255) (hl : l.length ≤ 300) (hw : Tables w) :
    Calls Tryd.prog 23 #[.int .u8 k, .slice A l.length c] w fun e w' => e = .returned (.int .i64 (roomE k l)) ∧ Below w.heap.size w w' := by
  have C := Lib.hid (tally_any l c B w hr hB hx hl hw)
  have hb : Below w.heap.size w w := Below.refl _ _
  have CE := Lib.hid (fun W (q : Below w.heap.size w W) => exists_any k W hk (hw.then q))
  have CG := Lib.hid (fun W (q : Below w.heap.size w W) => group_any k W hk (hw.then q))
  have CM := Lib.hid (fun W (q : Below w.heap.size w W) => most_any k W hk (hw.then q))
  clear hr hx
  rcases (show l.all kdB = false ∨ l.all kdB = true by cases l.all kdB <;> simp) with ha | ha
  · rw [tally_no ha, cntA_nil] at C
    have HV : Hid (roomE k l = 40) := Lib.hid (by unfold roomE; rw [ha]; rfl)
    clear ha hw
    go_enter Tryd.func23, Tryd.ntmps23
    go_wp2_with (go_at_call 36; ((with_reducible refine C.out.mono ?_); rintro e w1 ⟨rfl, k1⟩; replace hb := bThen hb k1))
    go_ret
    exact ⟨by rw [HV.out]; rfl, bAl hb _⟩
  · rcases (show kdB k = false ∨ kdB k = true by cases kdB k <;> simp) with hkd | hkd
    · rw [tally_yes ha, cntA_lit] at C
      rw [hkd] at CE
      have HV : Hid (roomE k l = 40) := Lib.hid (by unfold roomE; rw [ha, hkd]; rfl)
      clear ha hkd hw
      go_enter Tryd.func23, Tryd.ntmps23
      go_wp2_with (first | (go_at_call 36; ((with_reducible refine C.out.mono ?_); rintro e w1 ⟨rfl, k1⟩; replace hb := bThen hb k1)) | (go_at_call 34; ((with_reducible refine (CE.out _ (bAl hb _)).mono ?_); rintro e w2 ⟨rfl, rfl⟩)))
      go_ret
      exact ⟨by rw [HV.out]; rfl, bAl hb _⟩
    · have hlit := cntA_get (l := l) (g := grp k) (by have := grp_le k; omega)
      have hgl := grp_le k
      rw [tally_yes ha, cntA_lit] at C
      rw [cntA_lit] at hlit
      rw [hkd] at CE
      have HLIT := Lib.hid hlit
      have HV : Hid (roomE k l = if most k ≤ cnt l (grp k) then 51 else 0) := Lib.hid (by unfold roomE; rw [ha, hkd]; rfl)
      have hcl := cnt_le l (grp k)
      have hml := most_le k
      clear ha hkd hw hlit
      generalize roomE k l = r at *
      generalize cnt l (grp k) = q at *
      generalize grp k = g at *
      generalize most k = m at *
      generalize cnt l 0 = n0 at *
      generalize cnt l 1 = n1 at *
      generalize cnt l 2 = n2 at *
      generalize cnt l 3 = n3 at *
      generalize cnt l 4 = n4 at *
      generalize cnt l 5 = n5 at *
      generalize cnt l 6 = n6 at *
      generalize cnt l 7 = n7 at *
      generalize cnt l 8 = n8 at *
      generalize cnt l 9 = n9 at *
      go_enter Tryd.func23, Tryd.ntmps23
      go_wp2_with (first | (go_at_call 36; ((with_reducible refine C.out.mono ?_); rintro e w1 ⟨rfl, k1⟩; replace hb := bThen hb k1)) | (go_at_call 34; ((with_reducible refine (CE.out _ (bAl hb _)).mono ?_); rintro e w2 ⟨rfl, rfl⟩)))
      have mC := AtC.new w1 #[.int .i64 n0, .int .i64 n1, .int .i64 n2, .int .i64 n3, .int .i64 n4, .int .i64 n5, .int .i64 n6, .int .i64 n7, .int .i64 n8, .int .i64 n9] 57
      replace hb := bAl hb (.cells #[.int .i64 n0, .int .i64 n1, .int .i64 n2, .int .i64 n3, .int .i64 n4, .int .i64 n5, .int .i64 n6, .int .i64 n7, .int .i64 n8, .int .i64 n9] 57)
      generalize w1.alloc (.cells #[.int .i64 n0, .int .i64 n1, .int .i64 n2, .int .i64 n3, .int .i64 n4, .int .i64 n5, .int .i64 n6, .int .i64 n7, .int .i64 n8, .int .i64 n9] 57) = W0 at *
      have hP : ∀ w', Below W0.heap.size W0 w' → w'.cell? ⟨w1.heap.size, g, none⟩ = some (.int .i64 q) := fun w' k => ((mC.then k).c g).trans HLIT.out
      clear mC C CE
      have hg0 : (0 : Int) ≤ (g : Int) := by omega
      have hg1 : (g : Int) < 10 := by omega
      go_region_held3 (fun w' => w'.cell? ⟨w1.heap.size, g, none⟩ = some (.int .i64 q) ∧ Below W0.heap.size W0 w')
        (first | exact ⟨hP _ (Below.refl _ _).drew, (Below.refl _ _).drew⟩ | exact ⟨hP _ (keepD (by assumption) k3), keepD (by assumption) k3⟩)
        (first
        | (go_at_call 37; (with_reducible refine (CG.out _ (bThen hb (‹_ ∧ Below W0.heap.size W0 _›).2)).mono ?_); rintro e w3 ⟨rfl, k3⟩)
        | (go_at_call 38; (with_reducible refine (CM.out _ (bThen hb (‹_ ∧ Below W0.heap.size W0 _›).2)).mono ?_); rintro e w3 ⟨rfl, k3⟩))
      all_goals
        have hbz := bThen hb (‹_ ∧ Below W0.heap.size W0 _›).2
        by_cases hmq : m ≤ q
        · have i2 : (m : Int) ≤ q := by omega
          have HV2 : Hid (r = 51) := Lib.hid (by rw [HV.out, if_pos hmq])
          clear hP HLIT HV hmq
          go_wp2
          go_ret
          exact ⟨by rw [HV2.out]; rfl, hbz⟩
        · have i2 : ¬ (m : Int) ≤ q := by omega
          have HV2 : Hid (r = 0) := Lib.hid (by rw [HV.out, if_neg hmq])
          clear hP HLIT HV hmq
          go_wp2
          go_ret
          exact ⟨by rw [HV2.out]; rfl, hbz⟩
end Go.Proofs.YthlalmoapbdccaaDoor
