/-
  WALK: the document's Copy.
-/
import Derived.Test.YtpdhfogmdhnoeaaIRefTake
import Derived.Deep.RegionHeld3
namespace Go.Proofs.Ytpdhfogmdhnoeaa.IX
open Go.RowKit HL
set_option maxRecDepth 100000
set_option linter.unusedVariables false
set_option linter.unusedSimpArgs false

set_option maxHeartbeats 8000000 in
theorem rCopy_any (X : Nat) (vH vN : Value) (l : List Rw) (w : World) (hR : RfAt w X vH vN l) (hn : l.length ≤ 100000) :
    Calls Try.prog 18 #[ptr X] w fun e w' => ∃ X' vH' vN', e = .returned (ptr X') ∧ RfAt w' X' vH' vN' l ∧ w.heap.size ≤ X' ∧ (∀ k, vH'.ownBlock = some k → w.heap.size ≤ k) ∧ (∀ k, vN'.ownBlock = some k → w.heap.size ≤ k) ∧ Below w.heap.size w w' := by
  obtain ⟨AH, cH, rfl, rdH, hcH⟩ := hR.formH
  obtain ⟨AN, cN, rfl, rdN, hcN⟩ := hR.formN
  have HU := Lib.hid hR.up
  have HX := Lib.hid hR.a
  have RH := Lib.hid rdH
  have RN := Lib.hid rdN
  have HL1 := Lib.hid (keys_len l)
  have HL2 := Lib.hid (nums_len l)
  have hS : ∀ w', Below w.heap.size w w' → (w'.cell? ⟨X, 0, none⟩ = some (.slice AH l.length cH) ∧ w'.cell? ⟨X, 1, none⟩ = some (.slice AN l.length cN)) := fun w' k => ⟨(hR.then k).c0, (hR.then k).c1⟩
  have b0 : Below w.heap.size w w.drew := (Below.refl _ _).drew
  have HB0 := Lib.hid b0
  have hz1 : ∀ o, (w.drew.alloc o).heap.size = w.heap.size + 1 := fun o => by simp
  have HZ1 := Lib.hid hz1
  have s1 : OwnK strK (w.drew.alloc (.cells #[] 9)) w.heap.size (.slice (some ⟨w.heap.size, 0, none⟩) 0 0) [] := OwnK.lit w.drew w.heap.size (Nat.le_refl _)
  have i1 : OwnK intK (w.drew.alloc (.cells #[] 3)) w.heap.size (.slice (some ⟨w.heap.size, 0, none⟩) 0 0) [] := OwnK.lit w.drew w.heap.size (Nat.le_refl _)
  have S1 : Hid (OwnK strK (w.alloc (.cells #[] 9)).drew w.heap.size (.slice (some ⟨w.heap.size, 0, none⟩) 0 0) []) := Lib.hid s1
  have S2 : Hid (OwnK strK ((w.alloc (.cells #[] 9)).alloc (.cells #[] 3)).drew w.heap.size (.slice (some ⟨w.heap.size, 0, none⟩) 0 0) []) := Lib.hid (s1.below (w' := (w.drew.alloc (.cells #[] 9)).alloc (.cells #[] 3)) ((Below.refl _ _).alloc (Nat.le_refl _) _))
  have S3 : Hid (OwnK strK ((w.alloc (.cells #[] 3)).alloc (.cells #[] 9)).drew w.heap.size (.slice (some ⟨w.heap.size + 1, 0, none⟩) 0 0) []) := Lib.hid (by
    have q := OwnK.lit (K := strK) (w.drew.alloc (.cells #[] 3)) w.heap.size (by simp)
    rw [hz1] at q
    exact q)
  have I2 : Hid (OwnK intK ((w.alloc (.cells #[] 9)).alloc (.cells #[] 3)).drew w.heap.size (.slice (some ⟨w.heap.size + 1, 0, none⟩) 0 0) []) := Lib.hid (by
    have q := OwnK.lit (K := intK) (w.drew.alloc (.cells #[] 9)) w.heap.size (by simp)
    rw [hz1] at q
    exact q)
  have I3 : Hid (OwnK intK ((w.alloc (.cells #[] 3)).alloc (.cells #[] 9)).drew w.heap.size (.slice (some ⟨w.heap.size, 0, none⟩) 0 0) []) := Lib.hid (i1.below (w' := (w.drew.alloc (.cells #[] 3)).alloc (.cells #[] 9)) ((Below.refl _ _).alloc (Nat.le_refl _) _))
  have B1a : Hid (Below w.heap.size w (w.alloc (.cells #[] 9)).drew) := Lib.hid (bAl b0 _)
  have B1c : Hid (Below w.heap.size w (w.alloc (.cells #[] 3)).drew) := Lib.hid (bAl b0 _)
  have B2a : Hid (Below w.heap.size w ((w.alloc (.cells #[] 9)).alloc (.cells #[] 3)).drew) := Lib.hid (bAl (bAl b0 _) _)
  have B2c : Hid (Below w.heap.size w ((w.alloc (.cells #[] 3)).alloc (.cells #[] 9)).drew) := Lib.hid (bAl (bAl b0 _) _)
  clear hR rdH rdN hz1 s1 i1 b0
  go_enter Try.func18, Try.ntmps18
  go_wp2
  go_region_held3 (fun w' => w'.cell? ⟨X, 0, none⟩ = some (.slice AH l.length cH) ∧ w'.cell? ⟨X, 1, none⟩ = some (.slice AN l.length cN))
    (first
      | with_reducible exact hS _ b2
      | with_reducible exact hS _ (bAl b2 _)
      | with_reducible exact hS _ (bAl b1 _)
      | with_reducible exact hS _ b1
      | with_reducible exact hS _ HB0.out
      | with_reducible exact hS _ B1a.out
      | with_reducible exact hS _ B1c.out
      | with_reducible exact hS _ B2a.out
      | with_reducible exact hS _ B2c.out)
    (first
      | (refine step_spreadK strK rfl (.tmp 3) (.tmp 7) rfl w.heap.size _ [] (by simp [Act.eval, Act.put]; done) S1.out w.heap.size AH l.length cH (keys l) (by simp [Act.eval, Act.put]; done) HL1.out (RH.out.below B1a.out) (by have := HL1.out; simp; omega) B1a.out.size ?_; intro x1 w1 o1 g1 f1; rw [List.nil_append] at o1; obtain ⟨A8, c8, e8, _, _, _⟩ := o1.form; rw [HL1.out] at e8; subst e8; have b1 : Below w.heap.size w w1 := (B1a.out.grown g1 B1a.out.size (fun k hk => (S1.out.lt k hk).1)); have O1 := Lib.hid o1; clear o1 g1 f1)
      | (refine step_spreadK strK rfl (.tmp 3) (.tmp 7) rfl w.heap.size _ [] (by simp [Act.eval, Act.put]; done) S2.out w.heap.size AH l.length cH (keys l) (by simp [Act.eval, Act.put]; done) HL1.out (RH.out.below B2a.out) (by have := HL1.out; simp; omega) B2a.out.size ?_; intro x1 w1 o1 g1 f1; rw [List.nil_append] at o1; obtain ⟨A8, c8, e8, _, _, _⟩ := o1.form; rw [HL1.out] at e8; subst e8; have b1 : Below w.heap.size w w1 := (B2a.out.grown g1 B2a.out.size (fun k hk => (S2.out.lt k hk).1)); have L2 := Lib.hid (I2.out.keepT (KeepT.grown S2.out g1 (by decide) (by decide) : KeepT intK.e intK.e _ w1)); have O1 := Lib.hid o1; clear o1 g1 f1)
      | (refine step_spreadK strK rfl (.tmp 3) (.tmp 7) rfl w.heap.size _ [] (by simp [Act.eval, Act.put]; done) S3.out w.heap.size AH l.length cH (keys l) (by simp [Act.eval, Act.put]; done) HL1.out (RH.out.below B2c.out) (by have := HL1.out; simp; omega) B2c.out.size ?_; intro x1 w1 o1 g1 f1; rw [List.nil_append] at o1; obtain ⟨A8, c8, e8, _, _, _⟩ := o1.form; rw [HL1.out] at e8; subst e8; have b1 : Below w.heap.size w w1 := (B2c.out.grown g1 B2c.out.size (fun k hk => (S3.out.lt k hk).1)); have L2 := Lib.hid (I3.out.keepT (KeepT.grown S3.out g1 (by decide) (by decide) : KeepT intK.e intK.e _ w1)); have O1 := Lib.hid o1; clear o1 g1 f1)
      | (refine step_spreadK intK rfl (.tmp 9) (.tmp 13) rfl w.heap.size _ [] (by simp [Act.eval, Act.put]; done) L2.out w.heap.size AN l.length cN (nums l) (by simp [Act.eval, Act.put]; done) HL2.out (RN.out.below b1) (by have := HL2.out; simp; omega) b1.size ?_; intro x2 w2 o2 g2 f2; rw [List.nil_append] at o2; obtain ⟨A9, c9, e9, _, _, _⟩ := o2.form; rw [HL2.out] at e9; subst e9; have b2 : Below w.heap.size w w2 := (b1.grown g2 b1.size (fun k hk => (L2.out.lt k hk).1)); have P2 := Lib.hid (O1.out.keepT (KeepT.grown L2.out g2 (by decide) (by decide) : KeepT strK.e strK.e w1 w2)); have O2 := Lib.hid o2; clear o2 g2 f2)
      | (refine step_spreadK intK rfl (.tmp 9) (.tmp 13) rfl w.heap.size _ [] (by simp [Act.eval, Act.put]; done) (OwnK.lit w1 w.heap.size b1.size) w.heap.size AN l.length cN (nums l) (by simp [Act.eval, Act.put]; done) HL2.out (RN.out.below (bAl b1 _)) (by have := HL2.out; simp; omega) (by have := b1.size; simp; omega) ?_; intro x2 w2 o2 g2 f2; rw [List.nil_append] at o2; obtain ⟨A9, c9, e9, _, _, _⟩ := o2.form; rw [HL2.out] at e9; subst e9; have b2 : Below w.heap.size w w2 := ((bAl b1 _).grown g2 (bAl b1 _).size (fun k hk => by have := b1.size; simp [Value.ownBlock] at hk; omega)); have P2 := Lib.hid ((O1.out.keepT (KeepT.alloc strK.e strK.e w1 (.cells #[] 3))).keepT (KeepT.grown (OwnK.lit (K := intK) w1 w.heap.size b1.size) g2 (by decide) (by decide) : KeepT strK.e strK.e _ w2)); have O2 := Lib.hid o2; clear o2 g2 f2))
  all_goals
    have hz := b2.size
    have P3 := Lib.hid (P2.out.below ((Below.refl _ _).alloc (Nat.le_refl _) (.cells #[.slice A8 l.length c8, .slice A9 l.length c9] 30)))
    have O3 := Lib.hid (O2.out.below ((Below.refl _ _).alloc (Nat.le_refl _) (.cells #[.slice A8 l.length c8, .slice A9 l.length c9] 30)))
    have PL := Lib.hid P2.out.lt
    have OL := Lib.hid O2.out.lt
    have HB2 := Lib.hid b2
    go_wp2
    go_ret
    exact ⟨w2.heap.size, _, _, rfl, ⟨AtC.new _ _ _, P3.out.base (Nat.zero_le _), O3.out.base (Nat.zero_le _), fun e => by have := (PL.out _ e).2; omega, fun e => by have := (OL.out _ e).2; omega, HU.out⟩, hz, fun k e => (PL.out k e).1, fun k e => (OL.out k e).1, bAl HB2.out _⟩
end Go.Proofs.Ytpdhfogmdhnoeaa.IX
