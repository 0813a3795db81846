/-
  WALKS: the document's reader: Int, Text.
-/
import Derived.Test.YtkgjgbenfpkekaaGreatYRefUint
namespace Go.Proofs.YtkgjgbenfpkekaaGreat.YX
open Go.RowKit HL
open IX (ptr El cellsK cellsK_at cellsK_len OwnK RdK Kept slice_toK slice_fromK)
set_option maxRecDepth 100000
set_option linter.unusedVariables false
set_option linter.unusedSimpArgs false

/-- No more bytes than a law has. -/
def Lim (s : Option Bs) : Prop := (s.getD []).length ≤ 1000000
theorem rUint_any (B : Nat) (s : Option Bs) (hs : Lim s) (w : World) (h : RAt w B s) : Calls Tryz.prog 40 #[ptr B] w fun e w' => e = .returned (vU (told (0 : Nat) rdU s)) ∧ RAt w' B (rest rdU s) ∧ Kept w w' (· ≠ B) := by
  cases s with
  | none => exact rUint_no B w h
  | some l => exact rUint_some B l w h hs
theorem told_lt (s : Option Bs) : told (0 : Nat) rdU s < 18446744073709551616 := by
  cases s with
  | none => simp [told]
  | some l =>
    cases e : rdU l with
    | none => rw [(told_none 0 e).1]; decide
    | some y => rw [(told_some 0 e).1]; exact (rdU_inv e).2
theorem rdI_told (s : Option Bs) : told (0 : Int) rdI s = natI (told (0 : Nat) rdU s) ∧ rest rdI s = rest rdU s := by
  cases s with
  | none => exact ⟨rfl, rfl⟩
  | some l =>
    cases e : rdU l with
    | none => rw [(told_none 0 e).1, (told_none (0 : Nat) e).2]; have e2 : rdI l = none := by simp [rdI, e]
              rw [(told_none 0 e2).1, (told_none (0 : Int) e2).2]; exact ⟨rfl, rfl⟩
    | some y => obtain ⟨v, r⟩ := y; rw [(told_some 0 e).1, (told_some (0 : Nat) e).2]; have e2 : rdI l = some (natI v, r) := by simp [rdI, e]
                rw [(told_some 0 e2).1, (told_some (0 : Int) e2).2]; exact ⟨rfl, rfl⟩
set_option maxHeartbeats 1000000 in
theorem rInt_any (B : Nat) (s : Option Bs) (hs : Lim s) (w : World) (h : RAt w B s) : Calls Tryz.prog 77 #[ptr B] w fun e w' => e = .returned (vI (told (0 : Int) rdI s)) ∧ RAt w' B (rest rdI s) ∧ Kept w w' (· ≠ B) := by
  have C := Lib.hid (rUint_any B s hs w h)
  rw [(rdI_told s).1, (rdI_told s).2]
  have hlt := told_lt s
  clear h
  generalize told (0 : Nat) rdU s = v at *
  generalize rest rdU s = s2 at *
  have hr := natI_ge hlt
  have e1 : IntKind.i64.wrap ((v : Int) / 2) = (v : Int) / 2 := wI (by omega) (by omega)
  by_cases hp : v % 2 = 1
  · have e2 : ((v : Int) % 2 == 0) = false := by simp; omega
    have e20 : ¬ ((v : Int) % 2 = 0) := by omega
    have hn : natI v = -((v : Int) / 2) - 1 := by unfold natI; rw [if_pos hp]; rfl
    rw [hn]
    have e3 : IntKind.i64.wrap (-((v : Int) / 2)) = -((v : Int) / 2) := wI (by omega) (by omega)
    have e4 : IntKind.i64.wrap (-((v : Int) / 2) - 1) = -((v : Int) / 2) - 1 := wI (by omega) (by omega)
    clear hr hn
    go_enter Tryz.func77, Tryz.ntmps77
    go_wp2_with (go_at_call 40; ((refine C.out.mono ?_); rintro e w1 ⟨rfl, h1, k1⟩; have H1 := Lib.hid (And.intro h1 k1); clear h1 k1))
    go_ret
    exact ⟨rfl, H1.out.1, H1.out.2⟩
  · have e2 : ((v : Int) % 2 == 0) = true := by simp; omega
    have e20 : ((v : Int) % 2 = 0) := by omega
    have hn : natI v = (v : Int) / 2 := by unfold natI; rw [if_neg hp]; rfl
    rw [hn]
    clear hr hn
    go_enter Tryz.func77, Tryz.ntmps77
    go_wp2_with (go_at_call 40; ((refine C.out.mono ?_); rintro e w1 ⟨rfl, h1, k1⟩; have H1 := Lib.hid (And.intro h1 k1); clear h1 k1))
    go_ret
    exact ⟨rfl, H1.out.1, H1.out.2⟩
theorem size8 (W : World) : (sizeOf 5).run Tryz.prog W = .ok 1 W := IX.size_K u8K W
set_option maxHeartbeats 2000000 in
theorem rText_any (B : Nat) (s : Option Bs) (hs : Lim s) (w : World) (h : RAt w B s) : Calls Tryz.prog 76 #[ptr B] w fun e w' => e = .returned (vS (told ([] : Bs) rdS s)) ∧ RAt w' B (rest rdS s) ∧ Kept w w' (· ≠ B) := by
  have C := Lib.hid (rUint_any B s hs w h)
  have CF := Lib.hid (fun (W : World) (q : Bad W B) => rfail_any B W q)
  clear h
  cases e : rest rdU s with
  | none =>
    have e1 : told (0 : Nat) rdU s = 0 ∧ told ([] : Bs) rdS s = [] ∧ rest rdS s = none := by
      cases s with
      | none => exact ⟨rfl, rfl, rfl⟩
      | some l =>
        cases q : rdU l with
        | none => have q2 : rdS l = none := by simp [rdS, q]
                  exact ⟨(told_none 0 q).1, (told_none _ q2).1, (told_none ([] : Bs) q2).2⟩
        | some y => rw [(told_some (0 : Nat) q).2] at e; cases e
    rw [e1.2.1, e1.2.2]
    rw [e, e1.1] at C
    clear e e1
    have hts : ∀ W, (Instr.slice 22 (.slice none 0 0) none (some (.int .u64 0)) none).run Tryz.prog W = .ok (.slice none 0 0) W := fun W => by
      have := run_slice_h (P := Tryz.prog) W 22 none 0 0 (IX.under_K u8K) .u64 0 (by omega) (by omega)
      rw [this, show Tryz.prog.elem 22 = 5 from u8K.el, size8]
      simp [Result.andThen, sliced]
    have hfs : ∀ W, (Instr.slice 22 (.slice none 0 0) (some (.int .u64 0)) none none).run Tryz.prog W = .ok (.slice none 0 0) W := fun W => by
      have := run_slice_l (P := Tryz.prog) W 22 none 0 0 (IX.under_K u8K) .u64 0 (by omega) (by omega)
      rw [this, show Tryz.prog.elem 22 = 5 from u8K.el, size8]
      simp [Result.andThen, sliced]
    go_enter Tryz.func76, Tryz.ntmps76
    go_wp2_with (go_at_call 40; ((refine C.out.mono ?_); rintro e w1 ⟨rfl, h1, k1⟩; have h1c : AtC w1 B #[.slice none 0 0, .bool true] := h1; have c0 := h1c.c 0; have f0 := h1c.f 0; have hcv : (convert 22 9 (.slice none 0 0)).run Tryz.prog w1 = .ok (str []) w1 := conv_str (B := 0) (.inl rfl) rfl; have H1 := Lib.hid (And.intro h1c k1); clear h1 h1c k1))
    go_ret
    exact ⟨rfl, H1.out.1.set (i := 0) (by simp) _, kset2 H1.out.2 _⟩
  | some r =>
    obtain ⟨l, rfl, hv⟩ : ∃ l, s = some l ∧ rdU l = some (told (0 : Nat) rdU s, r) := by
      cases s with
      | none => cases e
      | some l =>
        refine ⟨l, rfl, ?_⟩
        cases q : rdU l with
        | none => rw [(told_none (0 : Nat) q).2] at e; cases e
        | some y =>
          obtain ⟨v, r2⟩ := y
          rw [(told_some (0 : Nat) q).2] at e
          rw [(told_some (0 : Nat) q).1]
          simp at e; rw [e]
    have hlt := told_lt (some l)
    have hrl : r.length ≤ 1000000 := Nat.le_trans (Nat.le_of_lt (rdU_rest hv)) hs
    rw [e] at C
    generalize told (0 : Nat) rdU (some l) = v at *
    have eU : IntKind.u64.wrap (r.length : Int) = (r.length : Int) := wU (by omega)
    by_cases hok : v ≤ 255 ∧ v ≤ r.length
    · have e2 : rdS l = some (r.take v, r.drop v) := by simp [rdS, hv, hok.1, hok.2]
      rw [(told_some ([] : Bs) e2).1, (told_some ([] : Bs) e2).2]
      have i1 : ¬ (255 : Int) < (v : Int) := by omega
      have i2 : ¬ (r.length : Int) < (v : Int) := by omega
      have hvl : (r.take v).length = v := by rw [List.length_take]; omega
      have hdl : (r.drop v).length = r.length - v := List.length_drop
      have hv2 := hok.2
      clear hv e e2 hs
      have eV : IntKind.i64.wrap (v : Int) = (v : Int) := wI (by omega) (by omega)
      go_enter Tryz.func76, Tryz.ntmps76
      go_wp2_with (go_at_call 40; ((refine C.out.mono ?_); rintro e w1 ⟨rfl, h1, k1⟩; obtain ⟨A, c, h1, h2, h3⟩ := h1; have c0 := h1.c 0; have f0 := h1.f 0; have hcv := conv_str (w := w1) (c := c) (RdK.take h2 v) hvl; obtain ⟨A2, c2, s1, s2, s3, _⟩ := slice_fromK u8K (c := c) h2 rfl hv2 h3; have hts : ∀ W, (Instr.slice 22 (.slice A r.length c) none (some (.int .u64 v)) none).run Tryz.prog W = .ok (.slice A v c) W := (fun W => by
          have := run_slice_h W 22 A r.length c (IX.under_K u8K) .u64 (v : Int) (by omega) (by omega)
          rw [this, show Tryz.prog.elem 22 = 5 from u8K.el, size8]
          cases A <;> simp [Result.andThen, sliced, IX.addr0]); have hfs : ∀ W, (Instr.slice 22 (.slice A r.length c) (some (.int .u64 v)) none none).run Tryz.prog W = .ok (.slice A2 (r.length - v) c2) W := (fun W => by
          have q := s1 W
          have z := run_slice_l W 22 A r.length c (IX.under_K u8K) .u64 (v : Int) (by omega) (by omega)
          have z2 := run_slice_l W 22 A r.length c (IX.under_K u8K) .i64 (v : Int) (by omega) (by omega)
          exact (z.trans z2.symm).trans q); have HE := Lib.hid (rat_set h1 rfl (s2 _ h2) hdl s3); have H1 := Lib.hid k1; clear h1 h2 s1 s2 k1))
      go_ret
      exact ⟨rfl, HE.out, kset2 H1.out _⟩
    · have e2 : rdS l = none := by simp only [rdS, hv]; rw [if_neg hok]
      rw [(told_none ([] : Bs) e2).1, (told_none ([] : Bs) e2).2]
      clear hv e e2 hs
      by_cases h255 : v ≤ 255
      · have i1 : ¬ (255 : Int) < (v : Int) := by omega
        have i2 : (r.length : Int) < (v : Int) := by omega
        go_enter Tryz.func76, Tryz.ntmps76
        go_wp2_with (first
          | (go_at_call 40; ((refine C.out.mono ?_); rintro e w1 ⟨rfl, h1, k1⟩; have HB := Lib.hid h1.bad; obtain ⟨A, c, h1, h2, h3⟩ := h1; have c0 := h1.c 0; have H1 := Lib.hid k1; clear h1 h2 k1))
          | (go_at_call 95; ((refine (CF.out _ HB.out).mono ?_); rintro e w2 ⟨rfl, h2, k2⟩; have H2 := Lib.hid (And.intro h2 (H1.out.trans k2)); clear h2 k2)))
        go_ret
        exact ⟨rfl, H2.out.1, H2.out.2⟩
      · have i1 : (255 : Int) < (v : Int) := by omega
        go_enter Tryz.func76, Tryz.ntmps76
        go_wp2_with (first
          | (go_at_call 40; ((refine C.out.mono ?_); rintro e w1 ⟨rfl, h1, k1⟩; have HB := Lib.hid h1.bad; have H1 := Lib.hid k1; clear h1 k1))
          | (go_at_call 95; ((refine (CF.out _ HB.out).mono ?_); rintro e w2 ⟨rfl, h2, k2⟩; have H2 := Lib.hid (And.intro h2 (H1.out.trans k2)); clear h2 k2)))
        go_ret
        exact ⟨rfl, H2.out.1, H2.out.2⟩
end Go.Proofs.YtkgjgbenfpkekaaGreat.YX
