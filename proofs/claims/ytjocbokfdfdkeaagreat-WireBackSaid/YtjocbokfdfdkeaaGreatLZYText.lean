/-
  WALKS: signed, text of a reader.
-/
import Derived.Test.YtjocbokfdfdkeaaGreatLZYUint
namespace Go.Proofs.YtjocbokfdfdkeaaGreat.YX
open Go.RowKit HL
open IX (ptr El cellsK cellsK_at cellsK_len OwnK RdK Kept slice_toK slice_fromK)
set_option maxRecDepth 100000
set_option linter.unusedVariables false
set_option linter.unusedSimpArgs false

theorem Rd.cases {α : Type} {w0 : World} {B : Nat} {en : α → Value} {o : Option (α × Bs)} {e : Ending} {w' : World} (h : Rd w0 B en o e w') :
    (∃ v r, o = some (v, r) ∧ e = .returned (en v) ∧ RAt w' B (some r) ∧ Kept w0 w' (· ≠ B)) ∨ (o = none ∧ e = pan ∧ Bad w' B ∧ Kept w0 w' (· ≠ B)) := by
  cases o with
  | none => exact .inr ⟨rfl, h⟩
  | some x => obtain ⟨v, r⟩ := x; exact .inl ⟨v, r, rfl, h⟩
theorem Rd.yes2 {α : Type} {w0 : World} {B : Nat} {en : α → Value} {o : Option (α × Bs)} {w' : World} {v : α} {r : Bs} {x : Value} (h : o = some (v, r)) (hx : x = en v) (h1 : RAt w' B (some r)) (k : Kept w0 w' (· ≠ B)) : Rd w0 B en o (.returned x) w' := by
  subst h; subst hx; exact ⟨rfl, h1, k⟩
/-- What unsigned comes to, by what is there. -/
theorem unsigned_yes {B : Nat} {l : Bs} {w : World} (h : RAt w B (some l)) {v : Nat} {r : Bs} (hv : rdU l = some (v, r)) : Calls Tryz.prog 120 #[ptr B] w fun e w' => e = .returned (vU v) ∧ RAt w' B (some r) ∧ Kept w w' (· ≠ B) :=
  (unsigned_any B l w h).mono fun e w' q => by rw [hv] at q; exact q
theorem unsigned_no {B : Nat} {l : Bs} {w : World} (h : RAt w B (some l)) (hv : rdU l = none) : Calls Tryz.prog 120 #[ptr B] w fun e w' => e = pan ∧ Bad w' B ∧ Kept w w' (· ≠ B) :=
  (unsigned_any B l w h).mono fun e w' q => by rw [hv] at q; exact q
def rdI (l : Bs) : Option (Int × Bs) := (rdU l).map fun x => (natI x.1, x.2)
abbrev vI (n : Int) : Value := .int .i64 n
theorem wI {a : Int} (h1 : -9223372036854775808 ≤ a) (h2 : a < 9223372036854775808) : IntKind.i64.wrap a = a := by
  simp [IntKind.wrap, IntKind.bits, IntKind.signed]; omega
set_option maxHeartbeats 1000000 in
theorem signed_any (B : Nat) (l : Bs) (w : World) (h : RAt w B (some l)) : Calls Tryz.prog 116 #[ptr B] w fun e w' => Rd w B vI (rdI l) e w' := by
  have H := Lib.hid h
  clear h
  cases hv : rdU l with
  | none =>
    have C := Lib.hid (unsigned_no H.out hv)
    have HN := Lib.hid (show rdI l = none by simp [rdI, hv])
    clear hv H
    go_enter Tryz.func116, Tryz.ntmps116
    go_wp2_with (go_at_call 120; ((refine C.out.mono ?_); rintro e w1 ⟨rfl, h1, k1⟩; have H1 := Lib.hid h1; have K1 := Lib.hid k1; clear h1 k1))
    refine ⟨rfl, ?_⟩
    exact Rd.no HN.out H1.out K1.out
  | some x =>
    obtain ⟨v, r⟩ := x
    have hlt := (rdU_inv hv).2
    have C := Lib.hid (unsigned_yes H.out hv)
    have hr := natI_ge hlt
    have HN : Hid (rdI l = some (natI v, r)) := Lib.hid (by simp [rdI, hv])
    have e1 : IntKind.i64.wrap ((v : Int) / 2) = (v : Int) / 2 := wI (by omega) (by omega)
    clear hv H
    by_cases hp : v % 2 = 1
    · have e2 : ((v : Int) % 2 == 1) = true := by simp; omega
      have e3 : IntKind.i64.wrap (IntKind.i64.wrap (-((v : Int) / 2)) - 1) = natI v := by
        rw [wI (a := -((v : Int) / 2)) (by omega) (by omega)]
        unfold natI at hr ⊢; rw [if_pos hp] at hr ⊢
        rw [wI (by omega) (by omega)]; simp
      have E3 := Lib.hid e3
      clear e3
      go_enter Tryz.func116, Tryz.ntmps116
      go_wp2_with (go_at_call 120; ((refine C.out.mono ?_); rintro e w1 ⟨rfl, h1, k1⟩; have H1 := Lib.hid h1; have K1 := Lib.hid k1; clear h1 k1))
      go_ret
      exact Rd.yes2 HN.out (by unfold natI; first | (rw [if_pos hp]; rfl) | (rw [if_neg hp]; rfl)) H1.out K1.out
    · have e2 : ((v : Int) % 2 == 1) = false := by simp; omega
      go_enter Tryz.func116, Tryz.ntmps116
      go_wp2_with (go_at_call 120; ((refine C.out.mono ?_); rintro e w1 ⟨rfl, h1, k1⟩; have H1 := Lib.hid h1; have K1 := Lib.hid k1; clear h1 k1))
      go_ret
      exact Rd.yes2 HN.out (by unfold natI; first | (rw [if_pos hp]; rfl) | (rw [if_neg hp]; rfl)) H1.out K1.out
abbrev vS (s : Bs) : Value := str s
set_option maxHeartbeats 1000000 in
theorem text_any (B : Nat) (l : Bs) (w : World) (h : RAt w B (some l)) : Calls Tryz.prog 113 #[ptr B] w fun e w' => Rd w B vS (rdS l) e w' := by
  have H := Lib.hid h
  clear h
  have CM := Lib.hid must_no
  have CY := Lib.hid must_yes
  cases hv : rdU l with
  | none =>
    have C := Lib.hid (unsigned_no H.out hv)
    have HN := Lib.hid (show rdS l = none by simp [rdS, hv])
    clear hv H
    go_enter Tryz.func113, Tryz.ntmps113
    go_wp2_with (go_at_call 120; ((refine C.out.mono ?_); rintro e w1 ⟨rfl, h1, k1⟩; have H1 := Lib.hid h1; have K1 := Lib.hid k1; clear h1 k1))
    refine ⟨rfl, ?_⟩
    exact Rd.no HN.out H1.out K1.out
  | some x =>
    obtain ⟨v, r⟩ := x
    have C := Lib.hid (unsigned_yes H.out hv)
    by_cases h1 : v ≤ 255
    · have i1 : decide ((v : Int) ≤ 255) = true := decide_eq_true (by omega)
      have e1 : IntKind.i64.wrap (v : Int) = v := wI (by omega) (by omega)
      by_cases h2 : v ≤ r.length
      · have HN : Hid (rdS l = some (r.take v, r.drop v)) := Lib.hid (by simp [rdS, hv, h1, h2])
        have CT := Lib.hid (fun (W : World) (q : RAt W B (some r)) => take_yes B v v rfl r W q h2)
        have hl : (r.take v).length = v := by rw [List.length_take]; omega
        clear hv H
        go_enter Tryz.func113, Tryz.ntmps113
        go_wp2_with (first
          | (go_at_call 120; ((refine C.out.mono ?_); rintro e w1 ⟨rfl, h1, k1⟩; have H1 := Lib.hid h1; have K1 := Lib.hid k1; clear h1 k1))
          | (go_at_call 128; ((refine (CY.out _ (by first | rfl | exact i1) _).mono ?_); rintro e w2 ⟨rfl, rfl⟩))
          | (go_at_call 126; ((refine (CT.out _ H1.out).mono ?_); rintro e w3 ⟨A, c, rfl, hr, h3, k3⟩; have H3 := Lib.hid h3; have K3 := Lib.hid (K1.out.trans k3); have hcv := conv_str (c := c) hr hl; clear h3 k3 hr)))
        go_ret
        exact Rd.yes HN.out H3.out K3.out
      · have HN : Hid (rdS l = none) := Lib.hid (by simp [rdS, hv, h2])
        have CT := Lib.hid (fun (W : World) (q : RAt W B (some r)) => take_no B v v rfl r W q (by omega))
        clear hv H
        go_enter Tryz.func113, Tryz.ntmps113
        go_wp2_with (first
          | (go_at_call 120; ((refine C.out.mono ?_); rintro e w1 ⟨rfl, h1, k1⟩; have H1 := Lib.hid h1; have K1 := Lib.hid k1; clear h1 k1))
          | (go_at_call 128; ((refine (CY.out _ (by first | rfl | exact i1) _).mono ?_); rintro e w2 ⟨rfl, rfl⟩))
          | (go_at_call 126; ((refine (CT.out _ H1.out).mono ?_); rintro e w3 ⟨rfl, rfl⟩)))
        refine ⟨rfl, ?_⟩
        exact Rd.no HN.out H1.out.bad K1.out
    · have i1 : decide ((v : Int) ≤ 255) = false := decide_eq_false (by omega)
      have HN : Hid (rdS l = none) := Lib.hid (by simp [rdS, hv, h1])
      clear hv H
      go_enter Tryz.func113, Tryz.ntmps113
      go_wp2_with (first
        | (go_at_call 120; ((refine C.out.mono ?_); rintro e w1 ⟨rfl, h1, k1⟩; have H1 := Lib.hid h1; have K1 := Lib.hid k1; clear h1 k1))
        | (go_at_call 128; ((refine (CM.out _ (by first | rfl | exact i1) _).mono ?_); rintro e w2 ⟨rfl, rfl⟩)))
      refine ⟨rfl, ?_⟩
      exact Rd.no HN.out H1.out.bad K1.out
end Go.Proofs.YtjocbokfdfdkeaaGreat.YX
