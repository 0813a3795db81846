/-
  WALKS: made, held, Many, the comparing closure, the library's binary search, seek, Place of an index.
-/
import Derived.Test.YtenjpimmjpkjbaaDoorIKit
import Derived.BigQuiet
import Derived.LaidEqlPtr
import Derived.WalkMore
import Derived.Shelf.Abstract
namespace Go.Proofs.YtenjpimmjpkjbaaDoor.IX
open Go.RowKit HL
set_option maxRecDepth 100000
set_option linter.unusedVariables false
set_option linter.unusedSimpArgs false

theorem index_info : Tryd.prog.info? 84 = some (Tryd.prog.info? 84).get! := by kernel_rfl
theorem made_any (B : Nat) (v : Value) (w : World) (hA : AtC w B (ixC B v)) : Calls Tryd.prog 55 #[ptr B] w fun e w' => e = .returned (.bool true) ∧ w = w' := by
  have c0 : w.cell? ⟨B, 0, none⟩ = some (ptr B) := hA.c 0
  have HE := fun W => run_eql_ptr_same (P := Tryd.prog) W (tp := 27) ⟨B, 0, none⟩ Tryd.underlying27 index_info
  clear hA
  go_enter Tryd.func55, Tryd.ntmps55
  go_wp2
  go_ret
  exact ⟨rfl, rfl⟩
theorem held_any (B : Nat) (v : Value) (w : World) (hA : AtC w B (ixC B v)) : Calls Tryd.prog 58 #[ptr B] w fun e w' => e = .returned v ∧ w = w' := by
  have c1 : w.cell? ⟨B, 1, none⟩ = some v := hA.c 1
  have C := Lib.hid (made_any B v w hA)
  clear hA
  go_enter Tryd.func58, Tryd.ntmps58
  go_wp2_with (go_at_call 55; ((with_reducible refine C.out.mono ?_); rintro e w1 ⟨rfl, rfl⟩))
  go_ret
  exact ⟨rfl, rfl⟩
theorem many_any (B : Nat) (v : Value) (l : List Rw) (w : World) (hA : IxAt w B v l) : Calls Tryd.prog 39 #[ptr B] w fun e w' => e = .returned (.int .i64 l.length) ∧ w = w' := by
  obtain ⟨A, c, rfl, _, _⟩ := hA.rows
  have C := Lib.hid (held_any B _ w hA.a)
  clear hA
  go_enter Tryd.func39, Tryd.ntmps39
  go_wp2_with (go_at_call 58; ((with_reducible refine C.out.mono ?_); rintro e w1 ⟨rfl, rfl⟩))
  go_ret
  exact ⟨rfl, rfl⟩
theorem cmp_neg {a h : Bs} : Lib.compareBytes a h < 0 ↔ a < h := by
  rcases cmp_cases a h with ⟨e, q⟩ | ⟨e, q⟩ | ⟨e, q⟩
  · rw [e]; exact ⟨fun _ => q, fun _ => by omega⟩
  · rw [e]; exact ⟨fun x => by omega, fun x => absurd (q ▸ x) (lt_irrefl _)⟩
  · rw [e]; exact ⟨fun x => by omega, fun x => absurd x (lt_asymm q)⟩
theorem has_eq {l : List Rw} (u : Up l) {h : Bs} (hp : plc l h < l.length) : hasB l h = (Lib.compareBytes l[plc l h].1 h == 0) := by
  rw [Bool.eq_iff_iff, has_at_iff u hp, beq_iff_eq, cmp_eq]
/-! ## The comparing closure, and the library's search -/
theorem cmp_any (a h : Bs) (n : Int) (w : World) : Calls Tryd.prog 66 #[.agg #[str a, .int .i64 n], str h] w fun e w' => e = .returned (.int .i64 (Lib.compareBytes a h)) ∧ Below w.heap.size w w' := by
  go_enter Tryd.func66, Tryd.ntmps66
  go_wp2_with (go_at_call 67; ((with_reducible refine (compare_any _ _ _).mono ?_); rintro e w1 ⟨rfl, rfl⟩))
  go_ret
  exact ⟨rfl, (Below.refl _ _).alloc (Nat.le_refl _) _⟩
abbrev cmpF : Value := .func (.func 66) #[] #[]
theorem shr1 (a : Nat) (h : a < 9223372036854775808) : wrap64 ((IntKind.u64.wrap (a : Int)) / 2) = ((a / 2 : Nat) : Int) := by
  simp [IntKind.wrap, IntKind.bits, IntKind.signed, wrap64]; omega
set_option maxHeartbeats 2000000 in
theorem search_any (A : Option Addr) (c : Nat) (l : List Rw) (h : Bs) (w : World) (hr : RdR w w.heap.size A l) (hn : l.length ≤ 1000000) (u : Up l) :
    Calls Tryd.prog 65 #[.slice A l.length c, str h, cmpF] w fun e w' => e = .returned (.tuple #[.int .i64 (plc l h), .bool (hasB l h)]) ∧ Below w.heap.size w w' := by
  have eg := enters_of Tryd.func66 (by kernel_rfl) rfl
  have HR := Lib.hid hr
  have HU := Lib.hid u
  have hb0 : Below w.heap.size w w := Below.refl _ _
  have hpl := plc_le l h
  clear hr u
  go_enter Tryd.func65, Tryd.ntmps65
  go_wp2
  go_loopw [9, 10] (fun i j wr => ∃ a b : Nat, i = .int .i64 a ∧ j = .int .i64 b ∧ a ≤ plc l h ∧ plc l h ≤ b ∧ b ≤ l.length ∧ Below w.heap.size w wr) (fun i j _ => (intOf j).toNat - (intOf i).toNat)
  case atStart => exact ⟨0, l.length, rfl, rfl, Nat.zero_le _, hpl, Nat.le_refl _, hb0⟩
  case round =>
    obtain ⟨a, b, rfl, rfl, h1, h2, h3, hb⟩ := hrel
    by_cases hlt : a < b
    · obtain ⟨bb, off, rfl, hbb, hcc⟩ := (HR.out.below (hb.mono (Nat.le_refl _))).at_ (by omega)
      have hm1 : a ≤ (a + b) / 2 := by omega
      have hm2 : (a + b) / 2 < b := by omega
      have hml : (a + b) / 2 < l.length := by omega
      obtain ⟨q1, q2⟩ := hcc _ _ (List.getElem?_eq_getElem hml)
      have HI := Lib.hid (plc_iff HU.out h _ hml)
      have i0 : IntKind.i64.wrap ((a : Int) + (b : Int)) = ((a + b : Nat) : Int) := IntWalk.i64_in _ (by omega)
      have i1 : (a : Int) < (b : Int) := by omega
      clear hcc
      generalize l[(a + b) / 2] = r at *
      have C := Lib.hid (fun W => cmp_any r.1 h r.2 W)
      by_cases hc : Lib.compareBytes r.1 h < 0
      · have hlt2 : (a + b) / 2 < plc l h := HI.out.1 (cmp_neg.1 hc)
        generalize Lib.compareBytes r.1 h = z at *
        go_wp2_with (go_at_call 66; ((with_reducible refine (C.out _).mono ?_); rintro e w1 ⟨rfl, k1⟩; replace hb := bThen hb k1))
        go_roundw
        case rel => exact ⟨(a + b) / 2 + 1, b, by go_num, rfl, by omega, by omega, by omega, hb⟩
        case measure => simp [intOf]; omega
      · have hge : plc l h ≤ (a + b) / 2 := by have := mt HI.out.2 (fun q => hc (cmp_neg.2 q)); omega
        generalize Lib.compareBytes r.1 h = z at *
        go_wp2_with (go_at_call 66; ((with_reducible refine (C.out _).mono ?_); rintro e w1 ⟨rfl, k1⟩; replace hb := bThen hb k1))
        go_roundw
        case rel => exact ⟨a, (a + b) / 2, rfl, by go_num, by omega, by omega, by omega, hb⟩
        case measure => simp [intOf]; omega
    · obtain rfl : a = plc l h := by omega
      obtain rfl : b = plc l h := by omega
      clear h1 h2 h3 hlt
      by_cases hp : plc l h < l.length
      · obtain ⟨bb, off, rfl, hbb, hcc⟩ := (HR.out.below (hb.mono (Nat.le_refl _))).at_ (by omega)
        obtain ⟨q1, q2⟩ := hcc _ _ (List.getElem?_eq_getElem hp)
        have HE := Lib.hid (has_eq HU.out hp)
        clear hcc
        have i1 : (plc l h : Int) < l.length := by omega
        generalize l[plc l h] = r at *
        have C := Lib.hid (fun W => cmp_any r.1 h r.2 W)
        generalize Lib.compareBytes r.1 h = z at *
        go_wp2_with (go_at_call 66; ((with_reducible refine (C.out _).mono ?_); rintro e w1 ⟨rfl, k1⟩; replace hb := bThen hb k1))
        go_ret2
        exact ⟨by rw [HE.out]; rfl, hb⟩
      · have HE := Lib.hid (has_none HU.out hp)
        have i1 : ¬ (plc l h : Int) < l.length := by omega
        go_wp2
        go_ret2
        exact ⟨by rw [HE.out]; rfl, hb⟩
theorem seek_any (B : Nat) (v : Value) (l : List Rw) (h : Bs) (w : World) (hA : IxAt w B v l) (hn : l.length ≤ 1000000) : Calls Tryd.prog 51 #[ptr B, str h] w fun e w' => e = .returned (.tuple #[.int .i64 (plc l h), .bool (hasB l h)]) ∧ Below w.heap.size w w' := by
  obtain ⟨A, c, rfl, rd, _⟩ := hA.rows
  have C := Lib.hid (held_any B _ w hA.a)
  have CS := Lib.hid (search_any A c l h w rd hn hA.up)
  clear hA rd
  go_enter Tryd.func51, Tryd.ntmps51
  go_wp2_with (first
    | (go_at_call 58; ((with_reducible refine C.out.mono ?_); rintro e w1 ⟨rfl, rfl⟩))
    | (go_at_call 65; ((with_reducible refine CS.out.mono ?_); rintro e w1 ⟨rfl, k1⟩)))
  go_ret2
  exact ⟨rfl, k1⟩
theorem place_any (B : Nat) (v : Value) (l : List Rw) (h : Bs) (w : World) (hA : IxAt w B v l) (hn : l.length ≤ 1000000) : Calls Tryd.prog 61 #[ptr B, str h] w fun e w' => e = .returned (.int .i64 (plc l h)) ∧ Below w.heap.size w w' := by
  have C := Lib.hid (seek_any B v l h w hA hn)
  clear hA
  go_enter Tryd.func61, Tryd.ntmps61
  go_wp2_with (go_at_call 51; ((with_reducible refine C.out.mono ?_); rintro e w1 ⟨rfl, k1⟩))
  go_ret
  exact ⟨rfl, k1⟩
theorem find_any (B : Nat) (v : Value) (l : List Rw) (h : Bs) (w : World) (hA : IxAt w B v l) (hn : l.length ≤ 1000000) : Calls Tryd.prog 30 #[ptr B, str h] w fun e w' => e = .returned (.tuple #[.int .i64 (numOf l h), .bool (hasB l h)]) ∧ Below w.heap.size w w' := by
  have C := Lib.hid (seek_any B v l h w hA hn)
  have HA := Lib.hid hA
  cases k : hasB l h with
  | false =>
    have HN := Lib.hid (numOf_f k)
    rw [k] at C
    generalize numOf l h = m at *
    clear hA k
    go_enter Tryd.func30, Tryd.ntmps30
    go_wp2_with (go_at_call 51; ((with_reducible refine C.out.mono ?_); rintro e w1 ⟨rfl, k1⟩))
    go_ret2
    exact ⟨by rw [HN.out]; rfl, k1⟩
  | true =>
    obtain ⟨hp, he⟩ := has_at hA.up k
    have HN := Lib.hid (numOf_t k hp)
    obtain ⟨A, cc, rfl, rd, _⟩ := hA.rows
    have HR := Lib.hid rd
    rw [k] at C
    have i1 : (plc l h : Int) < l.length := by omega
    obtain ⟨bb, off, rfl, hbb, hcc⟩ := rd.at_ (by omega)
    have Q := Lib.hid (hcc _ _ (List.getElem?_eq_getElem hp))
    generalize l[plc l h] = r at *
    generalize numOf l h = m at *
    generalize plc l h = p at *
    clear hA k rd hcc HR
    go_enter Tryd.func30, Tryd.ntmps30
    go_wp2_with (go_at_call 51; ((with_reducible refine C.out.mono ?_); rintro e w1 ⟨rfl, k1⟩; have c1 := (HA.out.then k1).a.c 1; simp only [List.getElem?_toArray, List.getElem?_cons_succ, List.getElem?_cons_zero] at c1; have q2 := (k1.cell (p := ⟨bb, off + p * 2 + 1, none⟩) hbb).trans Q.out.2))
    go_ret2
    exact ⟨by rw [HN.out]; rfl, k1⟩
end Go.Proofs.YtenjpimmjpkjbaaDoor.IX
