/-
  PLAIN: a change that carries more than it may contain may not be (the law ChangeAlone).
-/
import Derived.Test.YticjfbpielapeaaGreatDoorEB8
import Derived.Test.YticjfbpielapeaaGreatDoorEB9
import Derived.Test.YticjfbpielapeaaGreatDoorEB6
namespace Go.Proofs.YticjfbpielapeaaGreatDoor.DX
open Go.RowKit HL
open IX (ptr El cellsK cellsK_at OwnK RdK strK)
open WX (hb pb rb tl_ne bs_eq)
set_option maxRecDepth 100000
set_option linter.unusedVariables false
set_option linter.unusedSimpArgs false

/-- What the law makes of a change's object: the state, or the descriptor, of another one put in. -/
def moreOf (k : Nat) (x o : Ob) : Ob := if k = 2 then stateOf x o else if k = 4 then stateOf x o else if k = 3 then descOf x o else x
theorem oneB_part {k : Nat} {x : Ob} (h : oneB ⟨k, x⟩ = true) : x = partOf k x := by
  unfold oneB at h
  rw [Bool.and_eq_true, eqOb_iff] at h
  exact h.1
theorem more_back {k : Nat} {x o : Ob} (h : x = partOf k x) (hk : k = 2 ∨ k = 3 ∨ k = 4) : partOf k (moreOf k x o) = x := by
  rcases hk with rfl | rfl | rfl
  · have e : moreOf 2 x o = stateOf x o := rfl
    rw [e, partOf_2]; rw [partOf_2] at h; rw [h]; rfl
  · have e : moreOf 3 x o = descOf x o := rfl
    rw [e, partOf_3]; rw [partOf_3] at h; rw [h]; rfl
  · have e : moreOf 4 x o = stateOf x o := rfl
    rw [e, partOf_4]; rw [partOf_4] at h; rw [h]; rfl
theorem more_not {k : Nat} {x o : Ob} (hx : oneB ⟨k, x⟩ = true) (hne : moreOf k x o ≠ x) : oneB ⟨k, moreOf k x o⟩ = false := by
  have hk : k = 2 ∨ k = 3 ∨ k = 4 := by
    by_cases h2 : k = 2
    · exact .inl h2
    · by_cases h4 : k = 4
      · exact .inr (.inr h4)
      · by_cases h3 : k = 3
        · exact .inr (.inl h3)
        · exact absurd (by unfold moreOf; rw [if_neg h2, if_neg h4, if_neg h3]) hne
  cases e : oneB ⟨k, moreOf k x o⟩ with
  | false => rfl
  | true => exact absurd ((oneB_part e).trans (more_back (oneB_part hx) hk)) hne
theorem mayE_one (c : Ch) : mayE [c] = if oneB c = true then 0 else 100 := by
  cases e : oneB c with
  | true =>
    rw [if_pos rfl]
    exact mayE_t (mayC_iff.2 ⟨by simp, fun x hx => by
      obtain rfl : x = c := by simpa using hx
      exact e, by simp [hsC]⟩)
  | false =>
    rw [if_neg (by simp)]
    exact mayE_f (mayC_bad (List.mem_singleton.2 rfl) e)
/-- What is told beside: at most eight, no handle twice, each may be. -/
theorem mayC_parts (l : List Ch) : mayC l = ((decide (l.length ≤ 8) && @decide ((hsC l).Nodup) (Classical.propDecidable _)) && !l.any fun c => !oneB c) := by
  unfold mayC
  rw [Bool.and_right_comm]
/-- An object stored into a change. -/
theorem fill14in {W : World} {B : Nat} {k : Nat} {x y : Ob} (h : AtC W B (chCells ⟨k, x⟩)) : AtC (putC W B 1 (obCells y).toList) B (chCells ⟨k, y⟩) := by
  obtain ⟨C', h1, h2, h3, h4, _⟩ := putC_at (obCells y).toList 1 h (Nat.le_refl 15)
  have e : C' = chCells ⟨k, y⟩ := by
    apply Array.ext_getElem?
    intro i
    match i with
    | 0 => rw [h3 0 (by omega)]; rfl
    | i + 1 =>
      by_cases hi : i < 14
      · have := h4 i hi
        rw [Nat.add_comm 1 i] at this
        rw [this, Array.getElem?_toList]
        show (obCells y)[i]? = (chCells ⟨k, y⟩)[i + 1]?
        match i, hi with
        | 0, _ => rfl
        | 1, _ => rfl
        | 2, _ => rfl
        | 3, _ => rfl
        | 4, _ => rfl
        | 5, _ => rfl
        | 6, _ => rfl
        | 7, _ => rfl
        | 8, _ => rfl
        | 9, _ => rfl
        | 10, _ => rfl
        | 11, _ => rfl
        | 12, _ => rfl
        | 13, _ => rfl
      · rw [Array.getElem?_eq_none (by rw [h1]; show 15 ≤ i + 1; omega), Array.getElem?_eq_none (by show 15 ≤ i + 1; omega)]
  rw [← e]; exact h2
end Go.Proofs.YticjfbpielapeaaGreatDoor.DX
/-
  WALKS: the rest of a round of ChangeAlone's loop: more is put into a copy, and that may not be.
-/
namespace Go.Proofs.YticjfbpielapeaaGreatDoor.DX
open Go.RowKit HL
open IX (ptr El cellsK cellsK_at OwnK RdK strK)
open WX (hb pb rb tl_ne bs_eq)
set_option maxRecDepth 100000
set_option linter.unusedVariables false
set_option linter.unusedSimpArgs false

theorem fill14x {W : World} {B k : Nat} {x : Ob} (h : AtC W B (chCells ⟨k, x⟩)) (y : Ob) : AtC ((((((((((((((W.setCell ⟨B, 1, none⟩ (.string y.handle)).setCell ⟨B, 2, none⟩ (.int .u8 y.kind)).setCell ⟨B, 3, none⟩ (.string y.parent)).setCell ⟨B, 4, none⟩ (.int .u8 y.typ)).setCell ⟨B, 5, none⟩ (.string y.ref)).setCell ⟨B, 6, none⟩ (.int .i64 y.lo)).setCell ⟨B, 7, none⟩ (.int .i64 y.hi)).setCell ⟨B, 8, none⟩ (.int .u8 y.digits)).setCell ⟨B, 9, none⟩ (.bool y.on)).setCell ⟨B, 10, none⟩ (.bool y.has)).setCell ⟨B, 11, none⟩ (.int .i64 y.value)).setCell ⟨B, 12, none⟩ (.int .i64 y.low)).setCell ⟨B, 13, none⟩ (.int .i64 y.high)).setCell ⟨B, 14, none⟩ (.int .u8 y.assoc)) B (chCells ⟨k, y⟩) := by
  have := fill14in (y := y) h
  simpa only [putC, Nat.reduceAdd] using this
theorem far14 {W : World} {B C : Nat} {D : Array Value} (h : AtC W C D) (hn : C ≠ B) (v0 v1 v2 v3 v4 v5 v6 v7 v8 v9 v10 v11 v12 v13 : Value) : AtC ((((((((((((((W.setCell ⟨B, 1, none⟩ v0).setCell ⟨B, 2, none⟩ v1).setCell ⟨B, 3, none⟩ v2).setCell ⟨B, 4, none⟩ v3).setCell ⟨B, 5, none⟩ v4).setCell ⟨B, 6, none⟩ v5).setCell ⟨B, 7, none⟩ v6).setCell ⟨B, 8, none⟩ v7).setCell ⟨B, 9, none⟩ v8).setCell ⟨B, 10, none⟩ v9).setCell ⟨B, 11, none⟩ v10).setCell ⟨B, 12, none⟩ v11).setCell ⟨B, 13, none⟩ v12).setCell ⟨B, 14, none⟩ v13) C D := by
  have := putC_far (g := B) [v0, v1, v2, v3, v4, v5, v6, v7, v8, v9, v10, v11, v12, v13] 1 hn h
  simpa only [putC, Nat.reduceAdd] using this
theorem bFill14 {w W : World} {B : Nat} (h : Below w.heap.size w W) (hB : w.heap.size ≤ B) (v0 v1 v2 v3 v4 v5 v6 v7 v8 v9 v10 v11 v12 v13 : Value) : Below w.heap.size w ((((((((((((((W.setCell ⟨B, 1, none⟩ v0).setCell ⟨B, 2, none⟩ v1).setCell ⟨B, 3, none⟩ v2).setCell ⟨B, 4, none⟩ v3).setCell ⟨B, 5, none⟩ v4).setCell ⟨B, 6, none⟩ v5).setCell ⟨B, 7, none⟩ v6).setCell ⟨B, 8, none⟩ v7).setCell ⟨B, 9, none⟩ v8).setCell ⟨B, 10, none⟩ v9).setCell ⟨B, 11, none⟩ v10).setCell ⟨B, 12, none⟩ v11).setCell ⟨B, 13, none⟩ v12).setCell ⟨B, 14, none⟩ v13) := by
  have := putC_below hB [v0, v1, v2, v3, v4, v5, v6, v7, v8, v9, v10, v11, v12, v13] 1 h
  simpa only [putC, Nat.reduceAdd] using this
noncomputable def alone21 : Code := TX.bodyC Tryz.f8 [1, 1, 1, 1, 0, 1, 2, 3, 1, 0, 2, 1, 1, 1, 1, 1, 1, 0]
noncomputable def aloneB : Code := TX.bodyC Tryz.f8 [1, 1, 1, 1, 0, 1, 2, 3]
set_option maxHeartbeats 16000000 in
theorem alone_21 (w W : World) (k Bo Bc Bx : Nat) (x y : Ob) (b : Bool) (w0 w1 w2 w4 w5 w6 u10 u11 u12 u13 u14 u15 u16 u17 u18 u19 u20 u21 u22 u23 u24 u25 u26 u27 u28 u29 u30 u31 u32 u33 u34 u35 u36 u37 u38 u39 u40 u41 u42 u43 u44 u45 u46 u47 u48 u49 u50 u51 u52 u53 u54 u55 u56 u57 u58 u59 u60 u61 u62 u63 u64 u65 u66 u67 u68 u69 u70 u71 u72 u73 u74 u75 u76 u77 u78 u79 u80 u81 u82 u83 u84 u85 u86 u87 : Value) {Q : Exit → Act → World → Prop} (kk : Below w.heap.size w W) (mC : AtC W Bc (chCells ⟨k, x⟩)) (mX : AtC W Bx (chCells ⟨k, y⟩))
    (C1 : b = true → y ≠ x → ∀ W', Below w.heap.size w W' → Calls Tryz.prog 30 #[ch ⟨k, y⟩] W' fun e w' => e = .returned (.bool false) ∧ Below W'.heap.size W' w')
    (hQ : ∀ (x71 x72 x73 x74 x75 x76 x77 x78 x79 x80 x81 : Value) (w' : World), Below w.heap.size w w' → Q .normal { tmps := #[w0, w1, w2, ptr Bo, w4, w5, w6, ptr Bc, .bool b, ptr Bx, u10, u11, u12, u13, u14, u15, u16, u17, u18, u19, u20, u21, u22, u23, u24, u25, u26, u27, u28, u29, u30, u31, u32, u33, u34, u35, u36, u37, u38, u39, u40, u41, u42, u43, u44, u45, u46, u47, u48, u49, u50, u51, u52, u53, u54, u55, u56, u57, u58, u59, u60, u61, u62, u63, u64, u65, u66, u67, u68, u69, u70, x71, x72, x73, x74, x75, x76, x77, x78, x79, x80, x81, .bool false, u83, u84, u85, u86, u87], defers := [] } w') :
    Code.wp Tryz.prog alone21 Q { tmps := #[w0, w1, w2, ptr Bo, w4, w5, w6, ptr Bc, .bool b, ptr Bx, u10, u11, u12, u13, u14, u15, u16, u17, u18, u19, u20, u21, u22, u23, u24, u25, u26, u27, u28, u29, u30, u31, u32, u33, u34, u35, u36, u37, u38, u39, u40, u41, u42, u43, u44, u45, u46, u47, u48, u49, u50, u51, u52, u53, u54, u55, u56, u57, u58, u59, u60, u61, u62, u63, u64, u65, u66, u67, u68, u69, u70, u71, u72, u73, u74, u75, u76, u77, u78, u79, u80, u81, u82, u83, u84, u85, u86, u87], defers := [] } W := by
  have HQ := Lib.hid hQ
  have KK := Lib.hid kk
  have xc := mX.c
  have cc := mC.c
  have hE : ∀ W, (Op.equalIn 10000 35 (ob y) (ob x)).run Tryz.prog W = .ok (eqOb y x) W := fun W => run_eqOb W y x
  by_cases he : y = x
  · rw [eqOb_t he] at hE
    clear hQ mC mX C1 kk he
    conv => arg 2; simp only [alone21, TX.bodyC, Tryz.f8, TX.pathC]
    go_wp2
    exact HQ.out _ _ _ _ _ _ _ _ _ _ _ _ KK.out
  · rw [eqOb_f he] at hE
    cases b with
    | false =>
      clear hQ mC mX C1 kk he
      conv => arg 2; simp only [alone21, TX.bodyC, Tryz.f8, TX.pathC]
      go_wp2
      exact HQ.out _ _ _ _ _ _ _ _ _ _ _ _ KK.out
    | true =>
      have CO := Lib.hid (C1 rfl he)
      clear hQ mC mX C1 he
      conv => arg 2; simp only [alone21, TX.bodyC, Tryz.f8, TX.pathC]
      go_wp2_with (go_at_call 30; ((with_reducible refine (CO.out _ kk).mono ?_); rintro e w9 ⟨rfl, q9⟩; have K9 := Lib.hid (bThen kk q9)))
      exact HQ.out _ _ _ _ _ _ _ _ _ _ _ _ K9.out
theorem rdLit0 {K : El Ch} {W : World} {g : Nat} {C : Array Value} {T : TypeId} {l : List Ch} (hg : g = W.heap.size) (hC : C.toList = cellsK K l) : RdK K (W.alloc (.cells C T)) (W.alloc (.cells C T)).heap.size (some ⟨g, 0, none⟩) l := by
  subst hg
  refine .inr ⟨W.heap.size, 0, rfl, by simp, fun m u hu => ?_⟩
  rw [World.cell?_alloc_at _ _ _ _ rfl, Nat.zero_add, ← Array.getElem?_toList, hC]
  exact hu
end Go.Proofs.YticjfbpielapeaaGreatDoor.DX
