/-
  WALK: the two statements of the document's Take that close a row's gap, in whatever order their operations come.
-/
import Derived.Test.YtpdhfogmdhnoeaaIRefPut
import Derived.Deep.RegionLaw
namespace Go.Proofs.Ytpdhfogmdhnoeaa.IX
open Go.RowKit HL
set_option maxRecDepth 100000
set_option linter.unusedVariables false
set_option linter.unusedSimpArgs false

/-- It ends as usual, in K. -/
def NQ (K : Act → World → Prop) : Exit → Act → World → Prop
  | .normal, a, w => K a w
  | _, _, _ => False
theorem NQ.then {K : Act → World → Prop} {Q : Exit → Act → World → Prop} : ∀ e a w, NQ K e a w → Exit.then K Q e a w
  | .normal, _, _, h => h
  | .exit _, _, _, h => h.elim
  | .ret, _, _, h => h.elim
  | .goto _, _, _, h => h.elim
  | .panic _, _, _, h => h.elim
  | .outgrown, _, _, h => h.elim
/-- The statement of this number in a function's text. -/
def findR (n : Nat) : Code → Option Code
  | .region i ops d => if i = n then some (.region i ops d) else none
  | .seq a b => match findR n a with | some c => some c | none => findR n b
  | .block _ c => findR n c
  | .loop c => findR n c
  | .cond _ a b => match findR n a with | some c => some c | none => findR n b
  | _ => none

noncomputable def region5 : Code := match Try.f12.body with | some c => (findR 5 c).getD .skip | none => .skip
set_option maxHeartbeats 8000000 in
theorem take_region5 {X p m len c c2 : Nat} {W : World} {A A2 : Option Addr} {C1 : Value} {tH dH : List Bs} {v1 v2 v3 v4 v5 v6 v7 v9 v10 v11 v12 v13 v14 v15 v16 v17 v18 v19 v20 v21 v22 v23 v24 v25 v26 v27 v28 v29 v30 v31 v32 v33 v34 v35 v36 v37 v38 v39 v40 v41 v42 v43 v44 v45 v46 v47 v48 v49 v50 v51 v52 v53 v54 v55 v56 v57 v58 : Value} {K0 : Act → World → Prop}
    (hX : AtC W X #[.slice A len c, C1]) (e2 : ∀ W, (Instr.slice 27 (.slice A len c) (some (.int .i64 ((p : Int) + 1))) none none).run Try.prog W = .ok (.slice A2 m c2) W)
    (e4 : ∀ W, (Instr.slice 27 (.slice A len c) none (some (.int .i64 (p : Int))) none).run Try.prog W = .ok (.slice A p c) W) (hT : tH.length = p) (hD : dH.length = m) (hp : p ≤ 100000) (hm : m ≤ 100000)
    (rt : RdK strK W W.heap.size A tH) (rd : RdK strK W W.heap.size A2 dH)
    (hQ : ∀ (A8 : Option Addr) (c8 : Nat) (w' : World) (u20 u21 u22 u23 u24 u25 u26 u27 u28 u29 u30 u31 u32 u33 u34 u35 u36 u37 u38 : Value), OwnK strK w' W.heap.size (.slice A8 (p + m) c8) (tH ++ dH) → AtC w' X #[.slice A8 (p + m) c8, C1] → Kept W w' (fun k => k ≠ X) → K0 { tmps := #[ptr X, v1, v2, v3, v4, v5, v6, v7, .int .i64 (p : Int), v9, v10, v11, v12, v13, v14, v15, v16, v17, v18, v19, u20, u21, u22, u23, u24, u25, u26, u27, u28, u29, u30, u31, u32, u33, u34, u35, u36, u37, u38, v39, v40, v41, v42, v43, v44, v45, v46, v47, v48, v49, v50, v51, v52, v53, v54, v55, v56, v57, v58], defers := [] } w') :
    Code.wp Try.prog region5 (NQ K0) { tmps := #[ptr X, v1, v2, v3, v4, v5, v6, v7, .int .i64 (p : Int), v9, v10, v11, v12, v13, v14, v15, v16, v17, v18, v19, v20, v21, v22, v23, v24, v25, v26, v27, v28, v29, v30, v31, v32, v33, v34, v35, v36, v37, v38, v39, v40, v41, v42, v43, v44, v45, v46, v47, v48, v49, v50, v51, v52, v53, v54, v55, v56, v57, v58], defers := [] } W := by
  have HQ := Lib.hid hQ
  have HT := Lib.hid hT
  have HD := Lib.hid hD
  have Rt := Lib.hid rt
  have Rd := Lib.hid rd
  have HX := Lib.hid hX
  have c0 : W.cell? ⟨X, 0, none⟩ = some (.slice A len c) := hX.c 0
  have zx := hX.lt
  have hwr : IntKind.i64.wrap ((p : Int) + 1) = (p : Int) + 1 := IntWalk.i64_in _ (by omega)
  have BL : Hid (Below W.heap.size W (W.drew.alloc (.cells #[] 9))) := Lib.hid ((Below.refl _ _).drew.alloc (Nat.le_refl _) _)
  have HLL : Hid ((tH ++ dH).length = p + m) := Lib.hid (by rw [List.length_append, hT, hD])
  clear hQ hT hD rt rd hX
  conv => arg 2; simp only [region5, Try.f12, findR]
  go_wp2_with fail
  go_region_law (first
    | (refine step_spreadK strK rfl (.tmp 21) (.tmp 27) rfl W.heap.size (.slice (some ⟨W.heap.size, 0, none⟩) 0 0) [] (by simp [Act.eval, Act.put]) (OwnK.lit W.drew W.heap.size (Nat.le_refl _)) W.heap.size A p c tH (by simp [Act.eval, Act.put]) HT.out (Rt.out.below BL.out) (by have := HT.out; simp; omega) (by simp) ?_; intro x1 w1 o1 g1 f1; have b1 : Below W.heap.size W w1 := (BL.out.grown g1 BL.out.size (fun k hk => by simp [Value.ownBlock] at hk; omega)); have d1 : w1.cell? ⟨X, 0, none⟩ = some (.slice A len c) := ((HX.out.then b1).c 0); have O1 := Lib.hid o1; have B1 := Lib.hid b1; clear o1 g1 f1 b1)
    | (go_loud (refine step_spreadK strK rfl (.tmp 28) (.tmp 35) rfl W.heap.size x1 tH (by simp [Act.eval, Act.put]) O1.out W.heap.size A2 m c2 dH (by simp [Act.eval, Act.put]) HD.out (Rd.out.below B1.out) (by have := HT.out; have := HD.out; omega) B1.out.size ?_); intro x2 w2 o2 g2 f2; have b2 : Below W.heap.size W w2 := (B1.out.grown g2 B1.out.size (fun k hk => (O1.out.lt k hk).1)); obtain ⟨A8, c8, e8, _, _, _⟩ := o2.form; rw [HLL.out] at e8; subst e8; have a2 := HX.out.then b2; have d2 : w2.cell? ⟨X, 0, none⟩ = some (.slice A len c) := a2.c 0; have fx := a2.f 0; have O2 := Lib.hid o2; have B2 := Lib.hid b2; have A2X := Lib.hid a2; clear o2 g2 f2 b2 a2))
  all_goals
    refine HQ.out A8 c8 _ _ _ _ _ _ _ _ _ _ _ _ _ _ _ _ _ _ _ _ (O2.out.kept ((Kept.refl w2 (fun k => k ≠ X)).set (fun _ p => p rfl) _) (fun b e e2 => by have := (O2.out.lt b e).1; omega)) ?_ ((Kept.of_below B2.out).set (fun _ p => p rfl) _)
    exact A2X.out.set (i := 0) (by show 0 < 2; omega) _

noncomputable def region6 : Code := match Try.f12.body with | some c => (findR 6 c).getD .skip | none => .skip
set_option maxHeartbeats 8000000 in
theorem take_region6 {X p m len c c2 : Nat} {W : World} {A A2 : Option Addr} {C1 : Value} {tH dH : List Int} {v1 v2 v3 v4 v5 v6 v7 v9 v10 v11 v12 v13 v14 v15 v16 v17 v18 v19 v20 v21 v22 v23 v24 v25 v26 v27 v28 v29 v30 v31 v32 v33 v34 v35 v36 v37 v38 v39 v40 v41 v42 v43 v44 v45 v46 v47 v48 v49 v50 v51 v52 v53 v54 v55 v56 v57 v58 : Value} {K0 : Act → World → Prop}
    (hX : AtC W X #[C1, .slice A len c]) (e2 : ∀ W, (Instr.slice 28 (.slice A len c) (some (.int .i64 ((p : Int) + 1))) none none).run Try.prog W = .ok (.slice A2 m c2) W)
    (e4 : ∀ W, (Instr.slice 28 (.slice A len c) none (some (.int .i64 (p : Int))) none).run Try.prog W = .ok (.slice A p c) W) (hT : tH.length = p) (hD : dH.length = m) (hp : p ≤ 100000) (hm : m ≤ 100000)
    (rt : RdK intK W W.heap.size A tH) (rd : RdK intK W W.heap.size A2 dH)
    (hQ : ∀ (A8 : Option Addr) (c8 : Nat) (w' : World) (u39 u40 u41 u42 u43 u44 u45 u46 u47 u48 u49 u50 u51 u52 u53 u54 u55 u56 u57 : Value), OwnK intK w' W.heap.size (.slice A8 (p + m) c8) (tH ++ dH) → AtC w' X #[C1, .slice A8 (p + m) c8] → Kept W w' (fun k => k ≠ X) → K0 { tmps := #[ptr X, v1, v2, v3, v4, v5, v6, v7, .int .i64 (p : Int), v9, v10, v11, v12, v13, v14, v15, v16, v17, v18, v19, v20, v21, v22, v23, v24, v25, v26, v27, v28, v29, v30, v31, v32, v33, v34, v35, v36, v37, v38, u39, u40, u41, u42, u43, u44, u45, u46, u47, u48, u49, u50, u51, u52, u53, u54, u55, u56, u57, v58], defers := [] } w') :
    Code.wp Try.prog region6 (NQ K0) { tmps := #[ptr X, v1, v2, v3, v4, v5, v6, v7, .int .i64 (p : Int), v9, v10, v11, v12, v13, v14, v15, v16, v17, v18, v19, v20, v21, v22, v23, v24, v25, v26, v27, v28, v29, v30, v31, v32, v33, v34, v35, v36, v37, v38, v39, v40, v41, v42, v43, v44, v45, v46, v47, v48, v49, v50, v51, v52, v53, v54, v55, v56, v57, v58], defers := [] } W := by
  have HQ := Lib.hid hQ
  have HT := Lib.hid hT
  have HD := Lib.hid hD
  have Rt := Lib.hid rt
  have Rd := Lib.hid rd
  have HX := Lib.hid hX
  have c0 : W.cell? ⟨X, 1, none⟩ = some (.slice A len c) := hX.c 1
  have zx := hX.lt
  have hwr : IntKind.i64.wrap ((p : Int) + 1) = (p : Int) + 1 := IntWalk.i64_in _ (by omega)
  have BL : Hid (Below W.heap.size W (W.drew.alloc (.cells #[] 3))) := Lib.hid ((Below.refl _ _).drew.alloc (Nat.le_refl _) _)
  have HLL : Hid ((tH ++ dH).length = p + m) := Lib.hid (by rw [List.length_append, hT, hD])
  clear hQ hT hD rt rd hX
  conv => arg 2; simp only [region6, Try.f12, findR]
  go_wp2_with fail
  go_region_law (first
    | (refine step_spreadK intK rfl (.tmp 40) (.tmp 46) rfl W.heap.size (.slice (some ⟨W.heap.size, 0, none⟩) 0 0) [] (by simp [Act.eval, Act.put]) (OwnK.lit W.drew W.heap.size (Nat.le_refl _)) W.heap.size A p c tH (by simp [Act.eval, Act.put]) HT.out (Rt.out.below BL.out) (by have := HT.out; simp; omega) (by simp) ?_; intro x1 w1 o1 g1 f1; have b1 : Below W.heap.size W w1 := (BL.out.grown g1 BL.out.size (fun k hk => by simp [Value.ownBlock] at hk; omega)); have d1 : w1.cell? ⟨X, 1, none⟩ = some (.slice A len c) := ((HX.out.then b1).c 1); have O1 := Lib.hid o1; have B1 := Lib.hid b1; clear o1 g1 f1 b1)
    | (go_loud (refine step_spreadK intK rfl (.tmp 47) (.tmp 54) rfl W.heap.size x1 tH (by simp [Act.eval, Act.put]) O1.out W.heap.size A2 m c2 dH (by simp [Act.eval, Act.put]) HD.out (Rd.out.below B1.out) (by have := HT.out; have := HD.out; omega) B1.out.size ?_); intro x2 w2 o2 g2 f2; have b2 : Below W.heap.size W w2 := (B1.out.grown g2 B1.out.size (fun k hk => (O1.out.lt k hk).1)); obtain ⟨A8, c8, e8, _, _, _⟩ := o2.form; rw [HLL.out] at e8; subst e8; have a2 := HX.out.then b2; have d2 : w2.cell? ⟨X, 1, none⟩ = some (.slice A len c) := a2.c 1; have fx := a2.f 1; have O2 := Lib.hid o2; have B2 := Lib.hid b2; have A2X := Lib.hid a2; clear o2 g2 f2 b2 a2))
  all_goals
    refine HQ.out A8 c8 _ _ _ _ _ _ _ _ _ _ _ _ _ _ _ _ _ _ _ _ (O2.out.kept ((Kept.refl w2 (fun k => k ≠ X)).set (fun _ p => p rfl) _) (fun b e e2 => by have := (O2.out.lt b e).1; omega)) ?_ ((Kept.of_below B2.out).set (fun _ p => p rfl) _)
    exact A2X.out.set (i := 1) (by show 1 < 2; omega) _
end Go.Proofs.Ytpdhfogmdhnoeaa.IX
