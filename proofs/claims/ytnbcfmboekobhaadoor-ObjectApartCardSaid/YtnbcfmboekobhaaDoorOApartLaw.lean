/-
  WALK: the law ObjectApart.
-/
import Derived.Test.YtnbcfmboekobhaaDoorOAwake
import Derived.Test.YtnbcfmboekobhaaDoorOParts
import Derived.Test.YtnbcfmboekobhaaDoorOLong
import Derived.Deep.RegionHeld3
import Derived.KernelRfl
import Derived.Deep.CutRange
namespace Go.Proofs.YtnbcfmboekobhaaDoor
open Go.RowKit
set_option maxRecDepth 100000
set_option linter.unusedVariables false

theorem field0 (x : Ob) (W : World) : Sem.run Tryd.prog (Instr.field 23 (ob x) 0) W = .ok (.string x.handle) W := by kernel_rfl
theorem field1 (x : Ob) (W : World) : Sem.run Tryd.prog (Instr.field 23 (ob x) 1) W = .ok (.int .u8 x.kind) W := by kernel_rfl
theorem AtC.fillO {W : World} {B : Nat} {C : Array Value} (h : AtC W B C) {q : Nat} (hq : q ≠ B) (v0 v1 v2 v3 v4 v5 v6 v7 v8 v9 v10 v11 v12 v13 : Value) : AtC ((((((((((((((W.setCell ⟨q, 0, none⟩ v0).setCell ⟨q, 1, none⟩ v1).setCell ⟨q, 2, none⟩ v2).setCell ⟨q, 3, none⟩ v3).setCell ⟨q, 4, none⟩ v4).setCell ⟨q, 5, none⟩ v5).setCell ⟨q, 6, none⟩ v6).setCell ⟨q, 7, none⟩ v7).setCell ⟨q, 8, none⟩ v8).setCell ⟨q, 9, none⟩ v9).setCell ⟨q, 10, none⟩ v10).setCell ⟨q, 11, none⟩ v11).setCell ⟨q, 12, none⟩ v12).setCell ⟨q, 13, none⟩ v13) B C :=
  (((((((((((((h.store (p := ⟨q, 0, none⟩) hq v0).store (p := ⟨q, 1, none⟩) hq v1).store (p := ⟨q, 2, none⟩) hq v2).store (p := ⟨q, 3, none⟩) hq v3).store (p := ⟨q, 4, none⟩) hq v4).store (p := ⟨q, 5, none⟩) hq v5).store (p := ⟨q, 6, none⟩) hq v6).store (p := ⟨q, 7, none⟩) hq v7).store (p := ⟨q, 8, none⟩) hq v8).store (p := ⟨q, 9, none⟩) hq v9).store (p := ⟨q, 10, none⟩) hq v10).store (p := ⟨q, 11, none⟩) hq v11).store (p := ⟨q, 12, none⟩) hq v12).store (p := ⟨q, 13, none⟩) hq v13
set_option maxHeartbeats 16000000 in
theorem apart_long1 (o f : Ob) (w : World) (ht : Tabs w) (h1 : longB o = true) : Calls Tryd.prog 5 #[ob o, ob f] w fun e w' => e = .returned (.bool true) ∧ Below w.heap.size w w' := by
  have hb : Below w.heap.size w w := Below.refl _ _
  have AW := Lib.hid (fun W (k : Below w.heap.size w W) => awake_any (ht.then k))
  have L1 := fun W => Lib.hid (h1 ▸ long_any o W)
  clear ht h1
  go_enter Tryd.func5, Tryd.ntmps5
  go_wp2_with fail
  go_at_call 11
  refine (AW.out _ (bAl (bAl hb _) _)).mono ?_
  rintro e w1 ⟨rfl, k1⟩
  replace hb := bThen (bAl (bAl hb _) _) k1
  have mO := ((AtC.new _ _ _).al _).then k1
  have mF := (AtC.new _ _ _).then k1
  simp at mF
  have oc := mO.c
  have fc := mF.c
  go_wp2_with fail
  go_at_call 6
  with_reducible refine (L1 _).out.mono ?_
  rintro e w2 ⟨rfl, k2⟩
  replace hb := bThen hb k2
  replace mO := mO.then k2
  replace mF := mF.then k2
  have oc := mO.c
  have fc := mF.c
  go_wp2_with fail
  go_ret
  exact ⟨by simp, hb⟩
set_option maxHeartbeats 16000000 in
theorem apart_long2 (o f : Ob) (w : World) (ht : Tabs w) (h1 : longB o = false) (h2 : longB f = true) : Calls Tryd.prog 5 #[ob o, ob f] w fun e w' => e = .returned (.bool true) ∧ Below w.heap.size w w' := by
  have hb : Below w.heap.size w w := Below.refl _ _
  have AW := Lib.hid (fun W (k : Below w.heap.size w W) => awake_any (ht.then k))
  have L1 := fun W => Lib.hid (h1 ▸ long_any o W)
  have L2 := fun W => Lib.hid (h2 ▸ long_any f W)
  clear ht h1 h2
  go_enter Tryd.func5, Tryd.ntmps5
  go_wp2_with fail
  go_at_call 11
  refine (AW.out _ (bAl (bAl hb _) _)).mono ?_
  rintro e w1 ⟨rfl, k1⟩
  replace hb := bThen (bAl (bAl hb _) _) k1
  have mO := ((AtC.new _ _ _).al _).then k1
  have mF := (AtC.new _ _ _).then k1
  simp at mF
  have oc := mO.c
  have fc := mF.c
  go_wp2_with fail
  go_at_call 6
  with_reducible refine (L1 _).out.mono ?_
  rintro e w2 ⟨rfl, k2⟩
  replace hb := bThen hb k2
  replace mO := mO.then k2
  replace mF := mF.then k2
  have oc := mO.c
  have fc := mF.c
  go_wp2_with (go_at_call 6; ((with_reducible refine (L2 _).out.mono ?_); rintro e w3 ⟨rfl, k3⟩; replace hb := bThen hb k3))
  go_ret
  exact ⟨by simp, hb⟩
def nthC : Nat → Code → Code
  | 0, c => c
  | n + 1, .seq _ b => nthC n b
  | _, c => c
noncomputable def apartC : Code := match Tryd.f5.body with | some c => c | none => .skip
set_option maxHeartbeats 16000000 in
theorem apart_tail7 (o f : Ob) (w : World) (v5 u7 u8 u9 u10 u11 u12 u13 u14 u15 u16 u17 u18 u19 u20 u21 u22 u23 u24 u25 u26 u27 u28 u29 u30 u31 u32 u33 u34 u35 u36 u37 u38 u39 u40 u41 u42 u43 u44 u45 u46 u47 u48 u49 u50 u51 u52 u53 u54 u55 u56 u57 u58 u59 u60 u61 u62 u63 u64 u65 u66 u67 u68 u69 u70 u71 u72 u73 u74 u75 u76 u77 u78 u79 u80 u81 u82 u83 u84 u85 u86 u87 u88 u89 u90 u91 u92 u93 u94 u95 u96 u97 u98 u99 : Value) (W : World) (mO : AtC W w.heap.size (obCells o)) (mF : AtC W (w.heap.size + 1) (obCells f)) (hb : Below w.heap.size w W) :
    Code.wp Tryd.prog (nthC 7 apartC) (bodyPost Tryd.prog Tryd.f5 fun e w' => e = .returned (.bool true) ∧ Below w.heap.size w w') { tmps := #[ob o, ob f, .pointer (some ⟨w.heap.size, 0, none⟩), .pointer (some ⟨w.heap.size + 1, 0, none⟩), .bool false, v5, undef, u7, u8, u9, u10, u11, u12, u13, u14, u15, u16, u17, u18, u19, u20, u21, u22, u23, u24, u25, u26, u27, u28, u29, u30, u31, u32, u33, u34, u35, u36, u37, u38, u39, u40, u41, u42, u43, u44, u45, u46, u47, u48, u49, u50, u51, u52, u53, u54, u55, u56, u57, u58, u59, u60, u61, u62, u63, u64, u65, u66, u67, u68, u69, u70, u71, u72, u73, u74, u75, u76, u77, u78, u79, u80, u81, u82, u83, u84, u85, u86, u87, u88, u89, u90, u91, u92, u93, u94, u95, u96, u97, u98, u99], defers := [] } W := by
  have CD1 := fun W => Lib.hid (show Calls Tryd.prog 13 #[ob (descOf o zeroOb), ob o] W fun e w' => e = .returned (ob o) ∧ Below W.heap.size W w' from desc_any (descOf o zeroOb) o W)
  have CS1 := fun W => Lib.hid (show Calls Tryd.prog 15 #[ob (stateOf o zeroOb), ob o] W fun e w' => e = .returned (ob o) ∧ Below W.heap.size W w' from state_any (stateOf o zeroOb) o W)
  have CO1 := fun W => Lib.hid (only_any o W)
  have CB1 := fun W => Lib.hid (bare_any o W)
  have CD2 := fun W => Lib.hid (desc_any o f W)
  have CS2 := fun W => Lib.hid (show Calls Tryd.prog 15 #[ob (descOf o f), ob f] W fun e w' => e = .returned (ob { f with handle := o.handle, kind := o.kind }) ∧ Below W.heap.size W w' from state_any (descOf o f) f W)
  have CS3 := fun W => Lib.hid (state_any o f W)
  have CB3 := fun W => Lib.hid (show Calls Tryd.prog 16 #[ob (stateOf o f)] W fun e w' => e = .returned (ob (stateOf o zeroOb)) ∧ Below W.heap.size W w' from bare_any (stateOf o f) W)
  have CO3 := fun W => Lib.hid (show Calls Tryd.prog 14 #[ob (descOf o f)] W fun e w' => e = .returned (ob (descOf o zeroOb)) ∧ Below W.heap.size W w' from only_any (descOf o f) W)
  have CO4 := fun W => Lib.hid (show Calls Tryd.prog 14 #[ob (stateOf o zeroOb)] W fun e w' => e = .returned (.agg #[.string o.handle, .int .u8 o.kind, .string ⟨#[]⟩, .int .u8 0, .string ⟨#[]⟩, .int .i64 0, .int .i64 0, .int .u8 0, .bool false, .bool false, .int .i64 0, .int .i64 0, .int .i64 0, .int .u8 0]) ∧ Below W.heap.size W w' from only_any (stateOf o zeroOb) W)
  have I0 := fun W => field0 { f with handle := o.handle, kind := o.kind } W
  have I1 := fun W => show Sem.run Tryd.prog (Instr.field 23 (ob (descOf o f)) 1) W = .ok (.int .u8 o.kind) W from field1 (descOf o f) W
  have I2 := fun W => show Sem.run Tryd.prog (Instr.field 23 (ob (stateOf o f)) 1) W = .ok (.int .u8 o.kind) W from field1 (stateOf o f) W
  clear CD1 CS1 CS2 CB3 CO3 CO1 I0
  conv => arg 2; simp only [apartC, Tryd.f5, nthC]
  have oc := mO.c
  go_wp2_with fail
  go_at_call 16
  with_reducible refine (CB1 _).out.mono ?_
  rintro e w10 ⟨rfl, k10⟩
  replace mO := mO.then k10
  replace mF := mF.then k10
  replace hb := bThen hb k10
  clear oc
  go_wp2_with fail
  go_at_call 14
  with_reducible refine (CO4 _).out.mono ?_
  rintro e w11 ⟨rfl, k11⟩
  replace mO := mO.then k11
  replace mF := mF.then k11
  replace hb := bThen hb k11
  go_wp2_with fail
  have mN := AtC.new w11 #[.string o.handle, .int .u8 o.kind, .string ⟨#[]⟩, .int .u8 0, .string ⟨#[]⟩, .int .i64 0, .int .i64 0, .int .u8 0, .bool false, .bool false, .int .i64 0, .int .i64 0, .int .i64 0, .int .u8 0] 23
  replace mO := mO.al (.cells #[.string o.handle, .int .u8 o.kind, .string ⟨#[]⟩, .int .u8 0, .string ⟨#[]⟩, .int .i64 0, .int .i64 0, .int .u8 0, .bool false, .bool false, .int .i64 0, .int .i64 0, .int .i64 0, .int .u8 0] 23)
  replace mF := mF.al (.cells #[.string o.handle, .int .u8 o.kind, .string ⟨#[]⟩, .int .u8 0, .string ⟨#[]⟩, .int .i64 0, .int .i64 0, .int .u8 0, .bool false, .bool false, .int .i64 0, .int .i64 0, .int .i64 0, .int .u8 0] 23)
  replace hb := bAl hb (.cells #[.string o.handle, .int .u8 o.kind, .string ⟨#[]⟩, .int .u8 0, .string ⟨#[]⟩, .int .i64 0, .int .i64 0, .int .u8 0, .bool false, .bool false, .int .i64 0, .int .i64 0, .int .i64 0, .int .u8 0] 23)
  generalize w11.alloc (.cells #[.string o.handle, .int .u8 o.kind, .string ⟨#[]⟩, .int .u8 0, .string ⟨#[]⟩, .int .i64 0, .int .i64 0, .int .u8 0, .bool false, .bool false, .int .i64 0, .int .i64 0, .int .i64 0, .int .u8 0] 23) = W12 at *
  generalize w11.heap.size = BN at *
  have hP12 : ∀ w', Below W12.heap.size W12 w' → ((∀ i, w'.cell? ⟨w.heap.size, i, none⟩ = (obCells o)[i]?) ∧ (∀ i, w'.cell? ⟨w.heap.size + 1, i, none⟩ = (obCells f)[i]?) ∧ (∀ i, w'.cell? ⟨BN, i, none⟩ = (#[.string o.handle, .int .u8 o.kind, .string ⟨#[]⟩, .int .u8 0, .string ⟨#[]⟩, .int .i64 0, .int .i64 0, .int .u8 0, .bool false, .bool false, .int .i64 0, .int .i64 0, .int .i64 0, .int .u8 0] : Array Value)[i]?)) := fun w' k => ⟨(mO.then k).c, (mF.then k).c, (mN.then k).c⟩
  go_region_held3 (fun w' => ((∀ i, w'.cell? ⟨w.heap.size, i, none⟩ = (obCells o)[i]?) ∧ (∀ i, w'.cell? ⟨w.heap.size + 1, i, none⟩ = (obCells f)[i]?) ∧ (∀ i, w'.cell? ⟨BN, i, none⟩ = (#[.string o.handle, .int .u8 o.kind, .string ⟨#[]⟩, .int .u8 0, .string ⟨#[]⟩, .int .i64 0, .int .i64 0, .int .u8 0, .bool false, .bool false, .int .i64 0, .int .i64 0, .int .i64 0, .int .u8 0] : Array Value)[i]?)) ∧ Below W12.heap.size W12 w')
    (first | exact ⟨hP12 _ (Below.refl _ _).drew, (Below.refl _ _).drew⟩ | exact ⟨hP12 _ (keepD (by assumption) k3), keepD (by assumption) k3⟩)
    (first | (go_at_call 13; (first | (with_reducible refine (CD2 _).out.mono ?_)); rintro e w3 ⟨rfl, k3⟩) | (go_at_call 15; (first | (with_reducible refine (CS3 _).out.mono ?_)); rintro e w3 ⟨rfl, k3⟩))
  go_wp2_with fail
  go_ret
  exact ⟨by simp, bThen hb (‹_ ∧ Below W12.heap.size W12 _›).2⟩
set_option maxHeartbeats 16000000 in
theorem apart_tail5 (o f : Ob) (w : World) (B5 : Nat) (u7 u8 u9 u10 u11 u12 u13 u14 u15 u16 u17 u18 u19 u20 u21 u22 u23 u24 u25 u26 u27 u28 u29 u30 u31 u32 u33 u34 u35 u36 u37 u38 u39 u40 u41 u42 u43 u44 u45 u46 u47 u48 u49 u50 u51 u52 u53 u54 u55 u56 u57 u58 u59 u60 u61 u62 u63 u64 u65 u66 u67 u68 u69 u70 u71 u72 u73 u74 u75 u76 u77 u78 u79 u80 u81 u82 u83 u84 u85 u86 u87 u88 u89 u90 u91 u92 u93 u94 u95 u96 u97 u98 u99 : Value) (wc : World) (mX : AtC wc B5 (obCells { f with handle := o.handle, kind := o.kind })) (mO : AtC wc w.heap.size (obCells o)) (mF : AtC wc (w.heap.size + 1) (obCells f)) (hne : w.heap.size + 1 < B5) (hb : Below w.heap.size w wc) :
    Code.wp Tryd.prog (nthC 5 apartC) (bodyPost Tryd.prog Tryd.f5 fun e w' => e = .returned (.bool true) ∧ Below w.heap.size w w') { tmps := #[ob o, ob f, .pointer (some ⟨w.heap.size, 0, none⟩), .pointer (some ⟨w.heap.size + 1, 0, none⟩), .bool false, .pointer (some ⟨B5, 0, none⟩), undef, u7, u8, u9, u10, u11, u12, u13, u14, u15, u16, u17, u18, u19, u20, u21, u22, u23, u24, u25, u26, u27, u28, u29, u30, u31, u32, u33, u34, u35, u36, u37, u38, u39, u40, u41, u42, u43, u44, u45, u46, u47, u48, u49, u50, u51, u52, u53, u54, u55, u56, u57, u58, u59, u60, u61, u62, u63, u64, u65, u66, u67, u68, u69, u70, u71, u72, u73, u74, u75, u76, u77, u78, u79, u80, u81, u82, u83, u84, u85, u86, u87, u88, u89, u90, u91, u92, u93, u94, u95, u96, u97, u98, u99], defers := [] } wc := by
  have CD1 := fun W => Lib.hid (show Calls Tryd.prog 13 #[ob (descOf o zeroOb), ob o] W fun e w' => e = .returned (ob o) ∧ Below W.heap.size W w' from desc_any (descOf o zeroOb) o W)
  have CS1 := fun W => Lib.hid (show Calls Tryd.prog 15 #[ob (stateOf o zeroOb), ob o] W fun e w' => e = .returned (ob o) ∧ Below W.heap.size W w' from state_any (stateOf o zeroOb) o W)
  have CO1 := fun W => Lib.hid (only_any o W)
  have CB1 := fun W => Lib.hid (bare_any o W)
  have CD2 := fun W => Lib.hid (desc_any o f W)
  have CS2 := fun W => Lib.hid (show Calls Tryd.prog 15 #[ob (descOf o f), ob f] W fun e w' => e = .returned (ob { f with handle := o.handle, kind := o.kind }) ∧ Below W.heap.size W w' from state_any (descOf o f) f W)
  have CS3 := fun W => Lib.hid (state_any o f W)
  have CB3 := fun W => Lib.hid (show Calls Tryd.prog 16 #[ob (stateOf o f)] W fun e w' => e = .returned (ob (stateOf o zeroOb)) ∧ Below W.heap.size W w' from bare_any (stateOf o f) W)
  have CO3 := fun W => Lib.hid (show Calls Tryd.prog 14 #[ob (descOf o f)] W fun e w' => e = .returned (ob (descOf o zeroOb)) ∧ Below W.heap.size W w' from only_any (descOf o f) W)
  have CO4 := fun W => Lib.hid (show Calls Tryd.prog 14 #[ob (stateOf o zeroOb)] W fun e w' => e = .returned (.agg #[.string o.handle, .int .u8 o.kind, .string ⟨#[]⟩, .int .u8 0, .string ⟨#[]⟩, .int .i64 0, .int .i64 0, .int .u8 0, .bool false, .bool false, .int .i64 0, .int .i64 0, .int .i64 0, .int .u8 0]) ∧ Below W.heap.size W w' from only_any (stateOf o zeroOb) W)
  have I0 := fun W => field0 { f with handle := o.handle, kind := o.kind } W
  have I1 := fun W => show Sem.run Tryd.prog (Instr.field 23 (ob (descOf o f)) 1) W = .ok (.int .u8 o.kind) W from field1 (descOf o f) W
  have I2 := fun W => show Sem.run Tryd.prog (Instr.field 23 (ob (stateOf o f)) 1) W = .ok (.int .u8 o.kind) W from field1 (stateOf o f) W
  clear CD1 CS1 CS2 CO4 I0 I1 I2
  conv => arg 2; simp only [apartC, Tryd.f5, nthC]
  have fc := mF.c
  have xc := mX.c
  have xf := mX.f
  go_wp2
  go_region
  have q1 : B5 ≠ w.heap.size := by omega
  have q2 : B5 ≠ w.heap.size + 1 := by omega
  have hb9 := (bStore (bStore hb (p := ⟨B5, 0, none⟩) (show w.heap.size ≤ B5 by omega) (.string f.handle)) (p := ⟨B5, 1, none⟩) (show w.heap.size ≤ B5 by omega) (.int .u8 f.kind)).drew
  have mX9 : AtC ((wc.setCell ⟨B5, 0, none⟩ (.string f.handle)).setCell ⟨B5, 1, none⟩ (.int .u8 f.kind)).drew B5 (obCells f) := ((mX.set (i := 0) (show 0 < 14 by omega) _).set (i := 1) (show 1 < 14 by omega) _).drew1
  have mO9 := ((mO.store (p := ⟨B5, 0, none⟩) q1 (.string f.handle)).store (p := ⟨B5, 1, none⟩) q1 (.int .u8 f.kind)).drew1
  have mF9 := ((mF.store (p := ⟨B5, 0, none⟩) q2 (.string f.handle)).store (p := ⟨B5, 1, none⟩) q2 (.int .u8 f.kind)).drew1
  clear fc xc xf mX mO mF hb q1 q2
  generalize ((wc.setCell ⟨B5, 0, none⟩ (.string f.handle)).setCell ⟨B5, 1, none⟩ (.int .u8 f.kind)).drew = W9 at *
  go_upto_region 9 with (fail)
  go_cut [71] from 7 (fun s71 wx => s71 = .bool false ∧ AtC wx w.heap.size (obCells o) ∧ AtC wx (w.heap.size + 1) (obCells f) ∧ Below w.heap.size w wx)
  case first =>
    have hP9 : ∀ w', Below W9.heap.size W9 w' → ((∀ i, w'.cell? ⟨w.heap.size, i, none⟩ = (obCells o)[i]?) ∧ (∀ i, w'.cell? ⟨w.heap.size + 1, i, none⟩ = (obCells f)[i]?) ∧ (∀ i, w'.cell? ⟨B5, i, none⟩ = (obCells f)[i]?)) := fun w' k => ⟨(mO9.then k).c, (mF9.then k).c, (mX9.then k).c⟩
    go_region_held3 (fun w' => ((∀ i, w'.cell? ⟨w.heap.size, i, none⟩ = (obCells o)[i]?) ∧ (∀ i, w'.cell? ⟨w.heap.size + 1, i, none⟩ = (obCells f)[i]?) ∧ (∀ i, w'.cell? ⟨B5, i, none⟩ = (obCells f)[i]?)) ∧ Below W9.heap.size W9 w')
      (first | exact ⟨hP9 _ (Below.refl _ _).drew, (Below.refl _ _).drew⟩ | exact ⟨hP9 _ (keepD (by assumption) k3), keepD (by assumption) k3⟩)
      (first | (go_at_call 13; (first | (with_reducible refine (CD2 _).out.mono ?_)); rintro e w3 ⟨rfl, k3⟩) | (go_at_call 15; (first | (with_reducible refine (CS3 _).out.mono ?_)); rintro e w3 ⟨rfl, k3⟩) | (go_at_call 14; (first | (with_reducible refine (CO3 _).out.mono ?_) | (with_reducible refine (CO1 _).out.mono ?_)); rintro e w3 ⟨rfl, k3⟩) | (go_at_call 16; (first | (with_reducible refine (CB3 _).out.mono ?_) | (with_reducible refine (CB1 _).out.mono ?_)); rintro e w3 ⟨rfl, k3⟩))
    have hQ := ‹_ ∧ Below W9.heap.size W9 _›
    go_wp2_with fail
    go_meet
    case rel => exact ⟨by simp, mO9.then hQ.2, mF9.then hQ.2, bThen hb9 hQ.2⟩
  case rest =>
    clear mO9 mF9 mX9 hb9 CB3 CO3
    obtain ⟨rfl, mO, mF, hb⟩ := hcut
    rename_i K7 hK7 K9 hK9
    have HK7 := Lib.hid hK7
    clear hK7
    refine hK9 _ _ ?_
    go_wp2
    refine HK7.out _ _ ?_
    exact apart_tail7 o f w _ _ _ _ _ _ _ _ _ _ _ _ _ _ _ _ _ _ _ _ _ _ _ _ _ _ _ _ _ _ _ _ _ _ _ _ _ _ _ _ _ _ _ _ _ _ _ _ _ _ _ _ _ _ _ _ _ _ _ _ _ _ _ _ _ _ _ _ _ _ _ _ _ _ _ _ _ _ _ _ _ _ _ _ _ _ _ _ _ _ _ _ _ _ wc mO mF hb
set_option maxHeartbeats 16000000 in
theorem apart_tail4 (o f : Ob) (w : World) (u7 u8 u9 u10 u11 u12 u13 u14 u15 u16 u17 u18 u19 u20 u21 u22 u23 u24 u25 u26 u27 u28 u29 u30 u31 u32 u33 u34 u35 u36 u37 u38 u39 u40 u41 u42 u43 u44 u45 u46 u47 u48 u49 u50 u51 u52 u53 u54 u55 u56 u57 u58 u59 u60 u61 u62 u63 u64 u65 u66 u67 u68 u69 u70 u71 u72 u73 u74 u75 u76 u77 u78 u79 u80 u81 u82 u83 u84 u85 u86 u87 u88 u89 u90 u91 u92 u93 u94 u95 u96 u97 u98 u99 : Value) (wc : World) (mO : AtC wc w.heap.size (obCells o)) (mF : AtC wc (w.heap.size + 1) (obCells f)) (hb : Below w.heap.size w wc) :
    Code.wp Tryd.prog (nthC 4 apartC) (bodyPost Tryd.prog Tryd.f5 fun e w' => e = .returned (.bool true) ∧ Below w.heap.size w w') { tmps := #[ob o, ob f, .pointer (some ⟨w.heap.size, 0, none⟩), .pointer (some ⟨w.heap.size + 1, 0, none⟩), .bool false, undef, undef, u7, u8, u9, u10, u11, u12, u13, u14, u15, u16, u17, u18, u19, u20, u21, u22, u23, u24, u25, u26, u27, u28, u29, u30, u31, u32, u33, u34, u35, u36, u37, u38, u39, u40, u41, u42, u43, u44, u45, u46, u47, u48, u49, u50, u51, u52, u53, u54, u55, u56, u57, u58, u59, u60, u61, u62, u63, u64, u65, u66, u67, u68, u69, u70, u71, u72, u73, u74, u75, u76, u77, u78, u79, u80, u81, u82, u83, u84, u85, u86, u87, u88, u89, u90, u91, u92, u93, u94, u95, u96, u97, u98, u99], defers := [] } wc := by
  have CD1 := fun W => Lib.hid (show Calls Tryd.prog 13 #[ob (descOf o zeroOb), ob o] W fun e w' => e = .returned (ob o) ∧ Below W.heap.size W w' from desc_any (descOf o zeroOb) o W)
  have CS1 := fun W => Lib.hid (show Calls Tryd.prog 15 #[ob (stateOf o zeroOb), ob o] W fun e w' => e = .returned (ob o) ∧ Below W.heap.size W w' from state_any (stateOf o zeroOb) o W)
  have CO1 := fun W => Lib.hid (only_any o W)
  have CB1 := fun W => Lib.hid (bare_any o W)
  have CD2 := fun W => Lib.hid (desc_any o f W)
  have CS2 := fun W => Lib.hid (show Calls Tryd.prog 15 #[ob (descOf o f), ob f] W fun e w' => e = .returned (ob { f with handle := o.handle, kind := o.kind }) ∧ Below W.heap.size W w' from state_any (descOf o f) f W)
  have CS3 := fun W => Lib.hid (state_any o f W)
  have CB3 := fun W => Lib.hid (show Calls Tryd.prog 16 #[ob (stateOf o f)] W fun e w' => e = .returned (ob (stateOf o zeroOb)) ∧ Below W.heap.size W w' from bare_any (stateOf o f) W)
  have CO3 := fun W => Lib.hid (show Calls Tryd.prog 14 #[ob (descOf o f)] W fun e w' => e = .returned (ob (descOf o zeroOb)) ∧ Below W.heap.size W w' from only_any (descOf o f) W)
  have CO4 := fun W => Lib.hid (show Calls Tryd.prog 14 #[ob (stateOf o zeroOb)] W fun e w' => e = .returned (.agg #[.string o.handle, .int .u8 o.kind, .string ⟨#[]⟩, .int .u8 0, .string ⟨#[]⟩, .int .i64 0, .int .i64 0, .int .u8 0, .bool false, .bool false, .int .i64 0, .int .i64 0, .int .i64 0, .int .u8 0]) ∧ Below W.heap.size W w' from only_any (stateOf o zeroOb) W)
  have I0 := fun W => field0 { f with handle := o.handle, kind := o.kind } W
  have I1 := fun W => show Sem.run Tryd.prog (Instr.field 23 (ob (descOf o f)) 1) W = .ok (.int .u8 o.kind) W from field1 (descOf o f) W
  have I2 := fun W => show Sem.run Tryd.prog (Instr.field 23 (ob (stateOf o f)) 1) W = .ok (.int .u8 o.kind) W from field1 (stateOf o f) W
  clear CD1 CS1
  conv => arg 2; simp only [apartC, Tryd.f5, nthC]
  go_wp2_with fail
  go_upto_region 7 with (fail)
  go_cut [5] from 7 (fun s5 wx => ∃ B5, s5 = .pointer (some ⟨B5, 0, none⟩) ∧ AtC wx B5 (obCells { f with handle := o.handle, kind := o.kind }) ∧ AtC wx w.heap.size (obCells o) ∧ AtC wx (w.heap.size + 1) (obCells f) ∧ w.heap.size + 1 < B5 ∧ Below w.heap.size w wx)
  case first =>
    generalize wc = W7 at *
    refine wp_region_held_drew (S := fun w' => AtC w' w.heap.size (obCells o) ∧ AtC w' (w.heap.size + 1) (obCells f)) (by kernel_rfl) ⟨mO.drew1, mF.drew1⟩ (fun hHeld0 => ?_)
    refine wpAnyH_take (i := 0) (oi := { dst := some 40, op := Op.load 23 (Operand.tmp 2), type := 23, pos := "outright.go:55", after := #[], guard := none }) (v := ?vq0) rfl (by kernel_rfl) (by kernel_rfl) (by kernel_rfl) (fun _ _ _ h => h) (Or.inl ⟨by rfl, ?hq0⟩) (by assumption) ?rq0
    case hq0 => (intro w hSw; (try dsimp only at hSw); have oc := hSw.1.c; have fc := hSw.2.c; go_simp; try with_reducible rfl)
    simp only [Act.put, List.setIfInBounds_toArray, List.set_cons_zero, List.set_cons_succ]
    refine wpAnyH_take (i := 1) (oi := { dst := some 41, op := Op.load 23 (Operand.tmp 3), type := 23, pos := "outright.go:55", after := #[], guard := none }) (v := ?vq1) rfl (by kernel_rfl) (by kernel_rfl) (by kernel_rfl) (fun _ _ _ h => h) (Or.inl ⟨by rfl, ?hq1⟩) (by assumption) ?rq1
    case hq1 => (intro w hSw; (try dsimp only at hSw); have oc := hSw.1.c; have fc := hSw.2.c; go_simp; try with_reducible rfl)
    simp only [Act.put, List.setIfInBounds_toArray, List.set_cons_zero, List.set_cons_succ]
    refine wpAnyH_take (i := 3) (oi := { dst := some 43, op := Op.load 23 (Operand.tmp 3), type := 23, pos := "outright.go:55", after := #[], guard := none }) (v := ?vq3) rfl (by kernel_rfl) (by kernel_rfl) (by kernel_rfl) (fun _ _ _ h => h) (Or.inl ⟨by rfl, ?hq3⟩) (by assumption) ?rq3
    case hq3 => (intro w hSw; (try dsimp only at hSw); have oc := hSw.1.c; have fc := hSw.2.c; go_simp; try with_reducible rfl)
    simp only [Act.put, List.setIfInBounds_toArray, List.set_cons_zero, List.set_cons_succ]
    refine wpAnyH_ready (rs := [2, 5]) (by kernel_rfl) (by simp) ?_
    refine AllReadyH.cons (o := { dst := some 42, op := Op.call { callee := Callee.value (Operand.func 13), args := #[Operand.tmp 40, Operand.tmp 41], argTypes := #[23, 23] }, type := 23, pos := "outright.go:55", after := #[{ on := 0, ground := Ground.data }, { on := 1, ground := Ground.data }], guard := none }) rfl (fun K hK => ?_) (AllReadyH.cons (o := { dst := some 5, op := Op.alloc 23, type := 0, pos := "outright.go:55", after := #[], guard := none }) rfl (fun K hK => ?_) (AllReadyH.nil))
    · go_simp
      refine (CD2 _).out.mono ?_
      rintro e wd1 ⟨rfl, kd1⟩
      go_wp2_with fail
      refine hK.out _ _ ⟨hHeld0.1.then kd1, hHeld0.2.then kd1⟩ (fun hHeld1 => ?_)
      clear hK K
      try simp only [Act.put, List.setIfInBounds_toArray, List.set_cons_zero, List.set_cons_succ]
      refine wpAnyH_ready (rs := [4, 5]) (by kernel_rfl) (by simp) ?_
      refine AllReadyH.cons (o := { dst := some 44, op := Op.call { callee := Callee.value (Operand.func 15), args := #[Operand.tmp 42, Operand.tmp 43], argTypes := #[23, 23] }, type := 23, pos := "outright.go:55", after := #[{ on := 2, ground := Ground.data }, { on := 3, ground := Ground.data }, { on := 2, ground := Ground.chain }], guard := none }) rfl (fun K hK => ?_) (AllReadyH.cons (o := { dst := some 5, op := Op.alloc 23, type := 0, pos := "outright.go:55", after := #[], guard := none }) rfl (fun K hK => ?_) (AllReadyH.nil))
      · go_simp
        refine (CS2 _).out.mono ?_
        rintro e wd2 ⟨rfl, kd2⟩
        go_wp2_with fail
        refine hK.out _ _ ⟨hHeld1.1.then kd2, hHeld1.2.then kd2⟩ (fun hHeld2 => ?_)
        clear hK K
        try simp only [Act.put, List.setIfInBounds_toArray, List.set_cons_zero, List.set_cons_succ]
        refine wpAnyH_ready (rs := [5]) (by kernel_rfl) (by simp) ?_
        refine AllReadyH.cons (o := { dst := some 5, op := Op.alloc 23, type := 0, pos := "outright.go:55", after := #[], guard := none }) rfl (fun K hK => ?_) (AllReadyH.nil)
        go_simp
        refine hK.out _ _ ⟨hHeld2.1.al _, hHeld2.2.al _⟩ (fun hHeld3 => ?_)
        clear hK K
        try simp only [Act.put, List.setIfInBounds_toArray, List.set_cons_zero, List.set_cons_succ]
        refine wpAnyH_ready (rs := [6]) (by kernel_rfl) (by simp) ?_
        refine AllReadyH.cons (o := { dst := none, op := Op.store 23 (Operand.tmp 5) (Operand.tmp 44), type := 0, pos := "outright.go:55", after := #[{ on := 5, ground := Ground.data }, { on := 4, ground := Ground.data }, { on := 4, ground := Ground.chain }, { on := 0, ground := Ground.phase }, { on := 1, ground := Ground.phase }, { on := 2, ground := Ground.phase }, { on := 3, ground := Ground.phase }, { on := 4, ground := Ground.phase }, { on := 5, ground := Ground.phase }], guard := none }) rfl (fun K hK => ?_) (AllReadyH.nil)
        go_simp
        refine hK.out _ _ ⟨hHeld2.1.al _, hHeld2.2.al _⟩ (fun hHeld4 => ?_)
        clear hK K
        try simp only [Act.put, List.setIfInBounds_toArray, List.set_cons_zero, List.set_cons_succ]
        refine wpAnyH_done (by kernel_rfl) ?_ _
        go_wp2_with fail
        go_meet
        case rel => exact ⟨_, rfl, AtC.new _ _ _, hHeld4.1, hHeld4.2, hHeld2.2.lt, bAl (bThen (bThen hb.drew kd1) kd2) _⟩
      · go_simp
        refine hK.out _ _ ⟨hHeld1.1.al _, hHeld1.2.al _⟩ (fun hHeld2 => ?_)
        clear hK K
        try simp only [Act.put, List.setIfInBounds_toArray, List.set_cons_zero, List.set_cons_succ]
        refine wpAnyH_ready (rs := [4]) (by kernel_rfl) (by simp) ?_
        refine AllReadyH.cons (o := { dst := some 44, op := Op.call { callee := Callee.value (Operand.func 15), args := #[Operand.tmp 42, Operand.tmp 43], argTypes := #[23, 23] }, type := 23, pos := "outright.go:55", after := #[{ on := 2, ground := Ground.data }, { on := 3, ground := Ground.data }, { on := 2, ground := Ground.chain }], guard := none }) rfl (fun K hK => ?_) (AllReadyH.nil)
        go_simp
        refine (CS2 _).out.mono ?_
        rintro e wd3 ⟨rfl, kd3⟩
        go_wp2_with fail
        refine hK.out _ _ ⟨hHeld2.1.then kd3, hHeld2.2.then kd3⟩ (fun hHeld3 => ?_)
        clear hK K
        try simp only [Act.put, List.setIfInBounds_toArray, List.set_cons_zero, List.set_cons_succ]
        have mZ : AtC wd3 wd1.heap.size _ := (AtC.new wd1 _ _).then kd3
        have zc := mZ.c
        have zf := mZ.f
        refine wpAnyH_ready (rs := [6]) (by kernel_rfl) (by simp) ?_
        refine AllReadyH.cons (o := { dst := none, op := Op.store 23 (Operand.tmp 5) (Operand.tmp 44), type := 0, pos := "outright.go:55", after := #[{ on := 5, ground := Ground.data }, { on := 4, ground := Ground.data }, { on := 4, ground := Ground.chain }, { on := 0, ground := Ground.phase }, { on := 1, ground := Ground.phase }, { on := 2, ground := Ground.phase }, { on := 3, ground := Ground.phase }, { on := 4, ground := Ground.phase }, { on := 5, ground := Ground.phase }], guard := none }) rfl (fun K hK => ?_) (AllReadyH.nil)
        go_simp
        refine hK.out _ _ ⟨AtC.fillO hHeld3.1 (by have := hHeld1.1.lt; omega) _ _ _ _ _ _ _ _ _ _ _ _ _ _, AtC.fillO hHeld3.2 (by have := hHeld1.2.lt; omega) _ _ _ _ _ _ _ _ _ _ _ _ _ _⟩ (fun hHeld4 => ?_)
        clear hK K
        try simp only [Act.put, List.setIfInBounds_toArray, List.set_cons_zero, List.set_cons_succ]
        refine wpAnyH_done (by kernel_rfl) ?_ _
        go_wp2_with fail
        go_meet
        case rel => exact ⟨_, rfl, AtC.fill mZ rfl _ _ _ _ _ _ _ _ _ _ _ _ _ _, hHeld4.1, hHeld4.2, hHeld1.2.lt, bFill (bThen (bAl (bThen hb.drew kd1) _) kd3) (Nat.le_of_lt hHeld1.1.lt) _ _ _ _ _ _ _ _ _ _ _ _ _ _⟩
    · go_simp
      refine hK.out _ _ ⟨hHeld0.1.al _, hHeld0.2.al _⟩ (fun hHeld1 => ?_)
      clear hK K
      try simp only [Act.put, List.setIfInBounds_toArray, List.set_cons_zero, List.set_cons_succ]
      refine wpAnyH_ready (rs := [2]) (by kernel_rfl) (by simp) ?_
      refine AllReadyH.cons (o := { dst := some 42, op := Op.call { callee := Callee.value (Operand.func 13), args := #[Operand.tmp 40, Operand.tmp 41], argTypes := #[23, 23] }, type := 23, pos := "outright.go:55", after := #[{ on := 0, ground := Ground.data }, { on := 1, ground := Ground.data }], guard := none }) rfl (fun K hK => ?_) (AllReadyH.nil)
      go_simp
      refine (CD2 _).out.mono ?_
      rintro e wd2 ⟨rfl, kd2⟩
      go_wp2_with fail
      refine hK.out _ _ ⟨hHeld1.1.then kd2, hHeld1.2.then kd2⟩ (fun hHeld2 => ?_)
      clear hK K
      try simp only [Act.put, List.setIfInBounds_toArray, List.set_cons_zero, List.set_cons_succ]
      refine wpAnyH_ready (rs := [4]) (by kernel_rfl) (by simp) ?_
      refine AllReadyH.cons (o := { dst := some 44, op := Op.call { callee := Callee.value (Operand.func 15), args := #[Operand.tmp 42, Operand.tmp 43], argTypes := #[23, 23] }, type := 23, pos := "outright.go:55", after := #[{ on := 2, ground := Ground.data }, { on := 3, ground := Ground.data }, { on := 2, ground := Ground.chain }], guard := none }) rfl (fun K hK => ?_) (AllReadyH.nil)
      go_simp
      refine (CS2 _).out.mono ?_
      rintro e wd3 ⟨rfl, kd3⟩
      go_wp2_with fail
      refine hK.out _ _ ⟨hHeld2.1.then kd3, hHeld2.2.then kd3⟩ (fun hHeld3 => ?_)
      clear hK K
      try simp only [Act.put, List.setIfInBounds_toArray, List.set_cons_zero, List.set_cons_succ]
      have mZ : AtC wd3 W7.heap.size _ := ((AtC.new W7.drew _ _).then kd2).then kd3
      have zc := mZ.c
      have zf := mZ.f
      refine wpAnyH_ready (rs := [6]) (by kernel_rfl) (by simp) ?_
      refine AllReadyH.cons (o := { dst := none, op := Op.store 23 (Operand.tmp 5) (Operand.tmp 44), type := 0, pos := "outright.go:55", after := #[{ on := 5, ground := Ground.data }, { on := 4, ground := Ground.data }, { on := 4, ground := Ground.chain }, { on := 0, ground := Ground.phase }, { on := 1, ground := Ground.phase }, { on := 2, ground := Ground.phase }, { on := 3, ground := Ground.phase }, { on := 4, ground := Ground.phase }, { on := 5, ground := Ground.phase }], guard := none }) rfl (fun K hK => ?_) (AllReadyH.nil)
      go_simp
      refine hK.out _ _ ⟨AtC.fillO hHeld3.1 (Nat.ne_of_gt mO.lt) _ _ _ _ _ _ _ _ _ _ _ _ _ _, AtC.fillO hHeld3.2 (Nat.ne_of_gt mF.lt) _ _ _ _ _ _ _ _ _ _ _ _ _ _⟩ (fun hHeld4 => ?_)
      clear hK K
      try simp only [Act.put, List.setIfInBounds_toArray, List.set_cons_zero, List.set_cons_succ]
      refine wpAnyH_done (by kernel_rfl) ?_ _
      go_wp2_with fail
      go_meet
      case rel => exact ⟨_, rfl, AtC.fill mZ rfl _ _ _ _ _ _ _ _ _ _ _ _ _ _, hHeld4.1, hHeld4.2, mF.lt, bFill (bThen (bThen (bAl hb.drew _) kd2) kd3) (Nat.le_of_lt mO.lt) _ _ _ _ _ _ _ _ _ _ _ _ _ _⟩
  case rest =>
    clear mO mF hb CS2
    obtain ⟨B5, rfl, mX, mO, mF, hne, hb⟩ := hcut
    rename_i K8 hK8
    refine hK8 _ _ ?_
    exact apart_tail5 o f w B5 _ _ _ _ _ _ _ _ _ _ _ _ _ _ _ _ _ _ _ _ _ _ _ _ _ _ _ _ _ _ _ _ _ _ _ _ _ _ _ _ _ _ _ _ _ _ _ _ _ _ _ _ _ _ _ _ _ _ _ _ _ _ _ _ _ _ _ _ _ _ _ _ _ _ _ _ _ _ _ _ _ _ _ _ _ _ _ _ _ _ _ _ _ wc mX mO mF (by omega) hb
set_option maxHeartbeats 16000000 in
theorem apart_rest (o f : Ob) (w : World) (ht : Tabs w) (h1 : longB o = false) (h2 : longB f = false) : Calls Tryd.prog 5 #[ob o, ob f] w fun e w' => e = .returned (.bool true) ∧ Below w.heap.size w w' := by
  have hb : Below w.heap.size w w := Below.refl _ _
  have AW := Lib.hid (fun W (k : Below w.heap.size w W) => awake_any (ht.then k))
  have L1 := fun W => Lib.hid (h1 ▸ long_any o W)
  have L2 := fun W => Lib.hid (h2 ▸ long_any f W)
  clear ht h1 h2
  go_enter Tryd.func5, Tryd.ntmps5
  go_wp2_with fail
  go_at_call 11
  refine (AW.out _ (bAl (bAl hb _) _)).mono ?_
  rintro e w1 ⟨rfl, k1⟩
  replace hb := bThen (bAl (bAl hb _) _) k1
  have mO := ((AtC.new _ _ _).al _).then k1
  have mF := (AtC.new _ _ _).then k1
  simp at mF
  have oc := mO.c
  have fc := mF.c
  go_wp2_with fail
  go_at_call 6
  with_reducible refine (L1 _).out.mono ?_
  rintro e w2 ⟨rfl, k2⟩
  replace hb := bThen hb k2
  replace mO := mO.then k2
  replace mF := mF.then k2
  have oc := mO.c
  have fc := mF.c
  go_wp2_with fail
  go_at_call 6
  with_reducible refine (L2 _).out.mono ?_
  rintro e W0 ⟨rfl, k3⟩
  replace hb := bThen hb k3
  replace mO := mO.then k3
  replace mF := mF.then k3
  have hP : ∀ w', Below W0.heap.size W0 w' → ((∀ i, w'.cell? ⟨w.heap.size, i, none⟩ = (obCells o)[i]?) ∧ (∀ i, w'.cell? ⟨w.heap.size + 1, i, none⟩ = (obCells f)[i]?)) := fun w' k => ⟨(mO.then k).c, (mF.then k).c⟩
  clear k1 k2 k3 AW L1 L2 oc fc
  have CD1 := fun W => Lib.hid (show Calls Tryd.prog 13 #[ob (descOf o zeroOb), ob o] W fun e w' => e = .returned (ob o) ∧ Below W.heap.size W w' from desc_any (descOf o zeroOb) o W)
  have CS1 := fun W => Lib.hid (show Calls Tryd.prog 15 #[ob (stateOf o zeroOb), ob o] W fun e w' => e = .returned (ob o) ∧ Below W.heap.size W w' from state_any (stateOf o zeroOb) o W)
  have CO1 := fun W => Lib.hid (only_any o W)
  have CB1 := fun W => Lib.hid (bare_any o W)
  have CD2 := fun W => Lib.hid (desc_any o f W)
  have CS2 := fun W => Lib.hid (show Calls Tryd.prog 15 #[ob (descOf o f), ob f] W fun e w' => e = .returned (ob { f with handle := o.handle, kind := o.kind }) ∧ Below W.heap.size W w' from state_any (descOf o f) f W)
  have CS3 := fun W => Lib.hid (state_any o f W)
  have CB3 := fun W => Lib.hid (show Calls Tryd.prog 16 #[ob (stateOf o f)] W fun e w' => e = .returned (ob (stateOf o zeroOb)) ∧ Below W.heap.size W w' from bare_any (stateOf o f) W)
  have CO3 := fun W => Lib.hid (show Calls Tryd.prog 14 #[ob (descOf o f)] W fun e w' => e = .returned (ob (descOf o zeroOb)) ∧ Below W.heap.size W w' from only_any (descOf o f) W)
  have CO4 := fun W => Lib.hid (show Calls Tryd.prog 14 #[ob (stateOf o zeroOb)] W fun e w' => e = .returned (.agg #[.string o.handle, .int .u8 o.kind, .string ⟨#[]⟩, .int .u8 0, .string ⟨#[]⟩, .int .i64 0, .int .i64 0, .int .u8 0, .bool false, .bool false, .int .i64 0, .int .i64 0, .int .i64 0, .int .u8 0]) ∧ Below W.heap.size W w' from only_any (stateOf o zeroOb) W)
  have I0 := fun W => field0 { f with handle := o.handle, kind := o.kind } W
  have I1 := fun W => show Sem.run Tryd.prog (Instr.field 23 (ob (descOf o f)) 1) W = .ok (.int .u8 o.kind) W from field1 (descOf o f) W
  have I2 := fun W => show Sem.run Tryd.prog (Instr.field 23 (ob (stateOf o f)) 1) W = .ok (.int .u8 o.kind) W from field1 (stateOf o f) W
  go_upto_region 5 with (fail)
  go_cut [39] from 7 (fun s39 wx => s39 = .bool false ∧ AtC wx w.heap.size (obCells o) ∧ AtC wx (w.heap.size + 1) (obCells f) ∧ Below w.heap.size w wx)
  case first =>
    go_region_held3 (fun w' => ((∀ i, w'.cell? ⟨w.heap.size, i, none⟩ = (obCells o)[i]?) ∧ (∀ i, w'.cell? ⟨w.heap.size + 1, i, none⟩ = (obCells f)[i]?)) ∧ Below W0.heap.size W0 w')
      (first | exact ⟨hP _ (Below.refl _ _).drew, (Below.refl _ _).drew⟩ | exact ⟨hP _ (keepD (by assumption) k3), keepD (by assumption) k3⟩)
      (first | (go_at_call 13; (first | (with_reducible refine (CD1 _).out.mono ?_) | (with_reducible refine (CD2 _).out.mono ?_)); rintro e w3 ⟨rfl, k3⟩) | (go_at_call 15; (first | (with_reducible refine (CS1 _).out.mono ?_) | (with_reducible refine (CS2 _).out.mono ?_)); rintro e w3 ⟨rfl, k3⟩) | (go_at_call 14; (first | (with_reducible refine (CO1 _).out.mono ?_)); rintro e w3 ⟨rfl, k3⟩) | (go_at_call 16; (first | (with_reducible refine (CB1 _).out.mono ?_)); rintro e w3 ⟨rfl, k3⟩))
    have hQ := ‹_ ∧ Below W0.heap.size W0 _›
    go_wp2_with fail
    go_meet
    case rel => exact ⟨by simp, mO.then hQ.2, mF.then hQ.2, bThen hb hQ.2⟩
  case rest =>
    clear mO mF hb hP CD1 CS1
    obtain ⟨rfl, mO, mF, hb⟩ := hcut
    rename_i K4 hK4 K3 hK3
    have HK4 := Lib.hid hK4
    clear hK4
    refine hK3 _ _ ?_
    go_wp2
    refine HK4.out _ _ ?_
    exact apart_tail4 o f w _ _ _ _ _ _ _ _ _ _ _ _ _ _ _ _ _ _ _ _ _ _ _ _ _ _ _ _ _ _ _ _ _ _ _ _ _ _ _ _ _ _ _ _ _ _ _ _ _ _ _ _ _ _ _ _ _ _ _ _ _ _ _ _ _ _ _ _ _ _ _ _ _ _ _ _ _ _ _ _ _ _ _ _ _ _ _ _ _ _ _ _ _ wc mO mF hb
theorem apart_walk (o f : Ob) (w : World) (ht : Tabs w) : Calls Tryd.prog 5 #[ob o, ob f] w fun e w' => e = .returned (.bool true) ∧ Below w.heap.size w w' := by
  cases h1 : longB o with
  | true => exact apart_long1 o f w ht h1
  | false =>
    cases h2 : longB f with
    | true => exact apart_long2 o f w ht h1 h2
    | false => exact apart_rest o f w ht h1 h2
end Go.Proofs.YtnbcfmboekobhaaDoor
