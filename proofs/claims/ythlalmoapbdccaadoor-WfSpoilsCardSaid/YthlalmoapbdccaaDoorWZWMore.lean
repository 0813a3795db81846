/-
  WALK: WfSpoils' list with one object more, in whatever order it is made.
-/
import Derived.Test.YthlalmoapbdccaaDoorWZ14
namespace Go.Proofs.YthlalmoapbdccaaDoor.WX
open Go.RowKit HL
open IX (ptr El cellsK cellsK_at OwnK RdK strK Kept)
set_option maxRecDepth 100000
set_option linter.unusedVariables false
set_option linter.unusedSimpArgs false

noncomputable def more4 : Code := TX.bodyC Tryd.f4 [1, 1, 1, 0]
/-- What was laid ahead of an append into another block reads as before. -/
theorem rd_grown {W W' : World} {g own : Nat} {l : List Ob} (h : RdK obK W W.heap.size (some ⟨g, 0, none⟩) l) (hg : W.grownBy W' (some own)) (hne : g ≠ own) : RdK obK W' W'.heap.size (some ⟨g, 0, none⟩) l :=
  (h.kept (P := fun b => b = g) (Kept.grown (Kept.refl W _) hg (fun k e _ q => by
    have e := Option.some.inj e
    subst e; exact hne q.symm)) (Nat.le_refl _) (fun a e => by rw [← Option.some.inj e])).more hg.size
set_option maxHeartbeats 32000000 in
theorem more_4 (w2 : World) (A A5 : Option Addr) (n c c5 k nn Bo : Nat) (o : Ob) (t1 t2 : List Ob) (u1 u2 u3 u5 u6 u8 u9 u10 u11 u12 u13 u14 u15 u16 u17 u18 u19 u20 u21 u22 u23 u24 u25 u26 u27 u28 u29 u30 u31 u32 u33 u34 u35 u36 u37 u38 u39 u40 u41 u42 u43 u44 u45 u46 u47 u48 u49 u50 u51 u52 u53 u54 u55 u56 u57 u58 u59 : Value) {Q : Exit → Act → World → Prop}
    (s1 : ∀ W, (Instr.slice 22 (.slice A n c) none (some (.int .i64 (k : Int))) none).run Tryd.prog W = .ok (.slice A k c) W)
    (s2 : ∀ W, (Instr.slice 22 (.slice A n c) (some (.int .i64 (k : Int))) none none).run Tryd.prog W = .ok (.slice A5 nn c5) W)
    (hT1 : t1.length = k) (hT2 : t2.length = nn) (hk : k ≤ 1000) (hnn : nn ≤ 1000) (r1 : RdK obK w2 w2.heap.size A t1) (r2 : RdK obK w2 w2.heap.size A5 t2) (mo : AtC w2 Bo (obCells o))
    (hQ : ∀ (x24 x25 x26 x27 x28 x29 x30 x31 x32 x33 x34 x35 : Value) (A8 : Option Addr) (c8 : Nat) (w' : World), RdK obK w' w'.heap.size A8 (t1 ++ [o] ++ t2) → Below w2.heap.size w2 w' → Q .normal { tmps := #[.slice A n c, u1, u2, u3, ptr Bo, u5, u6, .int .i64 k, .slice A8 (k + 1 + nn) c8, u9, u10, u11, u12, u13, u14, u15, u16, u17, u18, u19, u20, u21, u22, u23, x24, x25, x26, x27, x28, x29, x30, x31, x32, x33, x34, x35, u36, u37, u38, u39, u40, u41, u42, u43, u44, u45, u46, u47, u48, u49, u50, u51, u52, u53, u54, u55, u56, u57, u58, u59], defers := [] } w') :
    Code.wp Tryd.prog more4 Q { tmps := #[.slice A n c, u1, u2, u3, ptr Bo, u5, u6, .int .i64 k, u8, u9, u10, u11, u12, u13, u14, u15, u16, u17, u18, u19, u20, u21, u22, u23, u24, u25, u26, u27, u28, u29, u30, u31, u32, u33, u34, u35, u36, u37, u38, u39, u40, u41, u42, u43, u44, u45, u46, u47, u48, u49, u50, u51, u52, u53, u54, u55, u56, u57, u58, u59], defers := [] } w2 := by
  have HQ := Lib.hid hQ
  have T1 := Lib.hid hT1
  have T2 := Lib.hid hT2
  have R1 := Lib.hid r1
  have R2 := Lib.hid r2
  have hS : ∀ w', Below w2.heap.size w2 w' → (∀ i, w'.cell? ⟨Bo, i, none⟩ = (obCells o)[i]?) := fun w' q => (mo.then q).c
  have b0 : Below w2.heap.size w2 w2.drew := (Below.refl _ _).drew
  have HB0 := Lib.hid b0
  have B1a : Hid (Below w2.heap.size w2 (w2.alloc (.cells #[] 31)).drew) := Lib.hid (bAl b0 _)
  have B1c : Hid (Below w2.heap.size w2 (w2.alloc (.cells (obCells o) 31)).drew) := Lib.hid (bAl b0 _)
  have B2a : Hid (Below w2.heap.size w2 ((w2.alloc (.cells #[] 31)).alloc (.cells (obCells o) 31)).drew) := Lib.hid (bAl (bAl b0 _) _)
  have B2c : Hid (Below w2.heap.size w2 ((w2.alloc (.cells (obCells o) 31)).alloc (.cells #[] 31)).drew) := Lib.hid (bAl (bAl b0 _) _)
  have q1 : OwnK obK (w2.drew.alloc (.cells #[] 31)) w2.heap.size (.slice (some ⟨w2.heap.size, 0, none⟩) 0 0) [] := OwnK.lit w2.drew w2.heap.size (Nat.le_refl _)
  have S1 : Hid (OwnK obK (w2.alloc (.cells #[] 31)).drew w2.heap.size (.slice (some ⟨w2.heap.size, 0, none⟩) 0 0) []) := Lib.hid q1
  have S2 : Hid (OwnK obK ((w2.alloc (.cells #[] 31)).alloc (.cells (obCells o) 31)).drew w2.heap.size (.slice (some ⟨w2.heap.size, 0, none⟩) 0 0) []) := Lib.hid (q1.below (w' := (w2.drew.alloc (.cells #[] 31)).alloc (.cells (obCells o) 31)) ((Below.refl _ _).alloc (Nat.le_refl _) _))
  have S3 : Hid (OwnK obK ((w2.alloc (.cells (obCells o) 31)).alloc (.cells #[] 31)).drew w2.heap.size (.slice (some ⟨w2.heap.size + 1, 0, none⟩) 0 0) []) := Lib.hid (by
    have q := OwnK.lit (K := obK) (w2.drew.alloc (.cells (obCells o) 31)) w2.heap.size (by simp)
    rw [show (w2.drew.alloc (.cells (obCells o) 31)).heap.size = w2.heap.size + 1 by simp] at q
    exact q)
  have P2 : Hid (RdK obK ((w2.alloc (.cells #[] 31)).alloc (.cells (obCells o) 31)).drew ((w2.alloc (.cells #[] 31)).alloc (.cells (obCells o) 31)).drew.heap.size (some ⟨w2.heap.size + 1, 0, none⟩) [o]) := Lib.hid (rdLit (W := w2.drew.alloc (.cells #[] 31)) (by simp) rfl)
  have P3 : Hid (RdK obK ((w2.alloc (.cells (obCells o) 31)).alloc (.cells #[] 31)).drew ((w2.alloc (.cells (obCells o) 31)).alloc (.cells #[] 31)).drew.heap.size (some ⟨w2.heap.size, 0, none⟩) [o]) := Lib.hid (by
    have q : RdK obK (w2.drew.alloc (.cells (obCells o) 31)) (w2.drew.alloc (.cells (obCells o) 31)).heap.size (some ⟨w2.heap.size, 0, none⟩) [o] := rdLit (W := w2.drew) (g := w2.heap.size) rfl rfl
    exact RdK.al q (.cells #[] 31))
  have hl1 : ([] : List Ob).length + t1.length ≤ 1000000 := by simp; omega
  have HL1 := Lib.hid hl1
  have HLa : Hid (t1.length + [o].length ≤ 1000000) := Lib.hid (by simp; omega)
  have HLb : Hid ((t1 ++ [o]).length + t2.length ≤ 1000000) := Lib.hid (by simp; omega)
  have HNN : Hid ((t1 ++ [o] ++ t2).length = k + 1 + nn) := Lib.hid (by simp only [List.length_append, List.length_cons, List.length_nil]; omega)
  clear hQ hT1 hT2 r1 r2 mo b0 q1 hl1
  conv => arg 2; simp only [more4, TX.bodyC, Tryd.f4, TX.pathC]
  go_wp2
  go_region_held3 (fun w' => ∀ i, w'.cell? ⟨Bo, i, none⟩ = (obCells o)[i]?)
    (first
      | with_reducible exact hS _ b3
      | with_reducible exact hS _ b2
      | with_reducible exact hS _ (bAl b1 _)
      | with_reducible exact hS _ b1
      | with_reducible exact hS _ HB0.out
      | with_reducible exact hS _ B1a.out
      | with_reducible exact hS _ B1c.out
      | with_reducible exact hS _ B2a.out
      | with_reducible exact hS _ B2c.out)
    (first
      | (refine IX.step_spreadK obK rfl (.tmp 24) (.tmp 27) rfl w2.heap.size _ [] (by simp [Act.eval, Act.put]; done) S1.out w2.heap.size A k c t1 (by simp [Act.eval, Act.put]; done) T1.out (R1.out.below B1a.out) HL1.out B1a.out.size ?_; intro v1 w3 o1 g1 f1; rw [List.nil_append] at o1; have b1 : Below w2.heap.size w2 w3 := (B1a.out.grown g1 B1a.out.size (fun i hi => (S1.out.lt i hi).1)); have O1 := Lib.hid o1; have P1 := Lib.hid HNN.out; clear o1 g1 f1)
      | (refine IX.step_spreadK obK rfl (.tmp 24) (.tmp 27) rfl w2.heap.size _ [] (by simp [Act.eval, Act.put]; done) S2.out w2.heap.size A k c t1 (by simp [Act.eval, Act.put]; done) T1.out (R1.out.below B2a.out) HL1.out B2a.out.size ?_; intro v1 w3 o1 g1 f1; rw [List.nil_append] at o1; have b1 : Below w2.heap.size w2 w3 := (B2a.out.grown g1 B2a.out.size (fun i hi => (S2.out.lt i hi).1)); have O1 := Lib.hid o1; have P1 := Lib.hid (rd_grown (own := w2.heap.size) P2.out g1 (by omega)); clear o1 g1 f1)
      | (refine IX.step_spreadK obK rfl (.tmp 24) (.tmp 27) rfl w2.heap.size _ [] (by simp [Act.eval, Act.put]; done) S3.out w2.heap.size A k c t1 (by simp [Act.eval, Act.put]; done) T1.out (R1.out.below B2c.out) HL1.out B2c.out.size ?_; intro v1 w3 o1 g1 f1; rw [List.nil_append] at o1; have b1 : Below w2.heap.size w2 w3 := (B2c.out.grown g1 B2c.out.size (fun i hi => (S3.out.lt i hi).1)); have O1 := Lib.hid o1; have P1 := Lib.hid (rd_grown (own := w2.heap.size + 1) P3.out g1 (by omega)); clear o1 g1 f1)
      | (refine IX.step_spreadK obK rfl (.tmp 28) (.tmp 30) rfl w2.heap.size _ t1 (by simp [Act.eval, Act.put]; done) O1.out w3.heap.size _ 1 1 [o] (by simp [Act.eval, Act.put]; done) rfl P1.out HLa.out b1.size ?_; intro v2 w4 o2 g2 f2; have b2 : Below w2.heap.size w2 w4 := (b1.grown g2 b1.size (fun i hi => (O1.out.lt i hi).1)); have O2 := Lib.hid o2; clear o2 g2 f2)
      | (refine IX.step_spreadK obK rfl (.tmp 28) (.tmp 30) rfl w2.heap.size _ t1 (by simp [Act.eval, Act.put]; done) (O1.out.below (bAl (Below.refl _ w3) (.cells (obCells o) 31))) _ (some ⟨w3.heap.size, 0, none⟩) 1 1 [o] (by simp [Act.eval, Act.put]; done) rfl (rdLit (W := w3) (g := w3.heap.size) rfl rfl) HLa.out (bAl b1 (.cells (obCells o) 31)).size ?_; intro v2 w4 o2 g2 f2; have b2 : Below w2.heap.size w2 w4 := ((bAl b1 (.cells (obCells o) 31)).grown g2 (bAl b1 (.cells (obCells o) 31)).size (fun i hi => (O1.out.lt i hi).1)); have O2 := Lib.hid o2; clear o2 g2 f2)
      | (refine IX.step_spreadK obK rfl (.tmp 31) (.tmp 34) rfl w2.heap.size _ (t1 ++ [o]) (by simp [Act.eval, Act.put]; done) O2.out w2.heap.size A5 nn c5 t2 (by simp [Act.eval, Act.put]; done) T2.out (R2.out.below b2) HLb.out b2.size ?_; intro v3 w5 o3 g3 f3; have b3 : Below w2.heap.size w2 w5 := (b2.grown g3 b2.size (fun i hi => (O2.out.lt i hi).1)); have O3 := Lib.hid o3; clear o3 g3 f3))
  all_goals
    obtain ⟨A8, c8, e8, r8, _, _⟩ := O3.out.form
    rw [HNN.out] at e8
    subst e8
    exact HQ.out _ _ _ _ _ _ _ _ _ _ _ _ A8 c8 _ r8 b3
end Go.Proofs.YthlalmoapbdccaaDoor.WX
