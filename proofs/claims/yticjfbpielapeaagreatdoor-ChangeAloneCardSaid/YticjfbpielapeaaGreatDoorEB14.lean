/-
  WALKS: a round of ChangeAlone's loop.
-/
import Derived.Test.YticjfbpielapeaaGreatDoorEB13
import Derived.Test.YticjfbpielapeaaGreatDoorEB8
import Derived.Test.YticjfbpielapeaaGreatDoorEB6
namespace Go.Proofs.YticjfbpielapeaaGreatDoor.DX
open Go.RowKit HL
open IX (ptr El cellsK cellsK_at OwnK RdK strK)
open WX (hb pb rb tl_ne bs_eq)
set_option maxRecDepth 100000
set_option linter.unusedVariables false
set_option linter.unusedSimpArgs false

set_option maxHeartbeats 16000000 in
theorem alone_r2_tt (w wr : World) (i Bo : Nat) (x o : Ob) (l : List Ch) (A : Option Addr) (c : Nat) (w1 w2 w4 u7 u8 u9 u10 u11 u12 u13 u14 u15 u16 u17 u18 u19 u20 u21 u22 u23 u24 u25 u26 u27 u28 u29 u30 u31 u32 u33 u34 u35 u36 u37 u38 u39 u40 u41 u42 u43 u44 u45 u46 u47 u48 u49 u50 u51 u52 u53 u54 u55 u56 u57 u58 u59 u60 u61 u62 u63 u64 u65 u66 u67 u68 u69 u70 u71 u72 u73 u74 u75 u76 u77 u78 u79 u80 u81 u82 u83 u84 u85 u86 u87 : Value) {Q : Exit → Act → World → Prop} (hi : i < l.length) (hl : l.length ≤ 30) (hx : l[i] = ⟨2, x⟩) (hr : RdK chK w w.heap.size A l) (kk : Below w.heap.size w wr) (mO : AtC wr Bo (obCells o))
    (C1 : ∀ W, Below w.heap.size w W → Calls Tryz.prog 30 #[ch ⟨2, x⟩] W fun e w' => e = .returned (.bool true) ∧ Below W.heap.size W w')
    (C2 : (stateOf x o) ≠ x → ∀ W, Below w.heap.size w W → Calls Tryz.prog 30 #[ch ⟨2, (stateOf x o)⟩] W fun e w' => e = .returned (.bool false) ∧ Below W.heap.size W w')
    (C3 : ∀ W, Below w.heap.size w W → ∀ A2 c2, RdK chK W W.heap.size A2 [⟨2, x⟩] → Calls Tryz.prog 23 #[.slice A2 1 c2] W fun e w' => e = .returned (.int .i64 0) ∧ Below W.heap.size W w')
    (hQ : ∀ (x7 x8 x9 x31 x32 x33 x34 x35 x36 x37 x38 x39 x40 x41 x42 x43 x44 x45 x46 x47 x48 x49 x50 x51 x52 x53 x54 x55 x56 x57 x58 x59 x60 x61 x62 x63 x64 x65 x66 x67 x68 x69 x70 x71 x72 x73 x74 x75 x76 x77 x78 x79 x80 x81 x82 : Value) (w' : World), Below w.heap.size w w' → Q .normal { tmps := #[.slice A l.length c, w1, w2, ptr Bo, w4, .bool true, .int .i64 ((i : Int) + 1), x7, x8, x9, u10, u11, u12, u13, u14, u15, u16, u17, u18, u19, u20, u21, u22, u23, u24, u25, u26, u27, u28, u29, u30, x31, x32, x33, x34, x35, x36, x37, x38, x39, x40, x41, x42, x43, x44, x45, x46, x47, x48, x49, x50, x51, x52, x53, x54, x55, x56, x57, x58, x59, x60, x61, x62, x63, x64, x65, x66, x67, x68, x69, x70, x71, x72, x73, x74, x75, x76, x77, x78, x79, x80, x81, x82, u83, u84, u85, u86, u87], defers := [] } w') :
    Code.wp Tryz.prog aloneB Q { tmps := #[.slice A l.length c, w1, w2, ptr Bo, w4, .bool true, .int .i64 i, u7, u8, u9, u10, u11, u12, u13, u14, u15, u16, u17, u18, u19, u20, u21, u22, u23, u24, u25, u26, u27, u28, u29, u30, u31, u32, u33, u34, u35, u36, u37, u38, u39, u40, u41, u42, u43, u44, u45, u46, u47, u48, u49, u50, u51, u52, u53, u54, u55, u56, u57, u58, u59, u60, u61, u62, u63, u64, u65, u66, u67, u68, u69, u70, u71, u72, u73, u74, u75, u76, u77, u78, u79, u80, u81, u82, u83, u84, u85, u86, u87], defers := [] } wr := by
  have HQ := Lib.hid hQ
  have K1 := Lib.hid kk
  have MO := Lib.hid mO
  have CO := Lib.hid C1
  have CN := Lib.hid C2
  have CM := Lib.hid C3
  have CS := fun W => Lib.hid (state_any x o W)
  obtain ⟨B, off, rfl, hB, hcc⟩ := chs_at (hr.below kk) (by omega)
  obtain ⟨p0, p1, p2, p3, p4, p5, p6, p7, p8, p9, p10, p11, p12, p13, p14⟩ := hcc i ⟨2, x⟩ ((List.getElem?_eq_getElem hi).trans (congrArg some hx))
  have i1 : (i : Int) < l.length := by omega
  have i2 : (i : Int) ≤ 30 := by omega
  have hsz := kk.size
  dsimp only at p0 p1 p2 p3 p4 p5 p6 p7 p8 p9 p10 p11 p12 p13 p14
  clear hQ kk mO C1 C2 C3 hcc hr hx
  conv => arg 2; simp only [aloneB, TX.bodyC, Tryz.f8, TX.pathC]
  go_upto_region 21 with (first
    | (go_at_call 30; ((refine (CO.out _ (bAl K1.out _)).mono ?_); rintro e w3 ⟨rfl, q3⟩; have k3 := bThen (bAl K1.out _) q3; have mC := (AtC.new _ _ _).then q3; have lC := mC.lt; have cC := mC.c; have MO3 := Lib.hid ((MO.out.al _).then q3); have MC3 := Lib.hid mC; clear mC q3))
    | (go_at_call 23; ((refine (CM.out _ (bAl k3 _) _ _ (rdLit0 rfl rfl)).mono ?_); rintro e w4 ⟨rfl, q4⟩; have k4 := bThen (bAl k3 _) q4; have mC := (MC3.out.al _).then q4; have lC4 := mC.lt; have cC4 := mC.c; have mO := (MO3.out.al _).then q4; have lO4 := mO.lt; have cO4 := mO.c; have MC4 := Lib.hid mC; have MO4 := Lib.hid mO; clear mC mO q4))
    | (go_at_call 31; ((with_reducible refine (CS _).out.mono ?_); rintro e w5 ⟨rfl, q5⟩; have k5 := bThen (bAl k4 _) q5; have mX := (AtC.new w4 (chCells ⟨2, x⟩) 39).then q5; have lX := mX.lt; have cX := mX.c; have fX := mX.f; have MX5 := Lib.hid mX; have MC5 := Lib.hid ((MC4.out.al _).then q5); have MO5 := Lib.hid ((MO4.out.al _).then q5); clear mX q5)))
  refine alone_21 w _ 2 Bo wr.heap.size w4.heap.size x (stateOf x o) _ _ _ _ _ _ _ _ _ _ _ _ _ _ _ _ _ _ _ _ _ _ _ _ _ _ _ _ _ _ _ _ _ _ _ _ _ _ _ _ _ _ _ _ _ _ _ _ _ _ _ _ _ _ _ _ _ _ _ _ _ _ _ _ _ _ _ _ _ _ _ _ _ _ _ _ _ _ _ _ _ _ _ _ _ (bFill14 k5 (by omega) _ _ _ _ _ _ _ _ _ _ _ _ _ _) (far14 MC5.out (by omega) _ _ _ _ _ _ _ _ _ _ _ _ _ _) (fill14x MX5.out (stateOf x o)) (fun _ h2 W' kW => CN.out h2 W' kW) ?_
  intro x71 x72 x73 x74 x75 x76 x77 x78 x79 x80 x81 w11 k11
  go_wp2
  exact HQ.out _ _ _ _ _ _ _ _ _ _ _ _ _ _ _ _ _ _ _ _ _ _ _ _ _ _ _ _ _ _ _ _ _ _ _ _ _ _ _ _ _ _ _ _ _ _ _ _ _ _ _ _ _ _ _ _ k11
set_option maxHeartbeats 16000000 in
theorem alone_r2_tf (w wr : World) (i Bo : Nat) (x o : Ob) (l : List Ch) (A : Option Addr) (c : Nat) (w1 w2 w4 u7 u8 u9 u10 u11 u12 u13 u14 u15 u16 u17 u18 u19 u20 u21 u22 u23 u24 u25 u26 u27 u28 u29 u30 u31 u32 u33 u34 u35 u36 u37 u38 u39 u40 u41 u42 u43 u44 u45 u46 u47 u48 u49 u50 u51 u52 u53 u54 u55 u56 u57 u58 u59 u60 u61 u62 u63 u64 u65 u66 u67 u68 u69 u70 u71 u72 u73 u74 u75 u76 u77 u78 u79 u80 u81 u82 u83 u84 u85 u86 u87 : Value) {Q : Exit → Act → World → Prop} (hi : i < l.length) (hl : l.length ≤ 30) (hx : l[i] = ⟨2, x⟩) (hr : RdK chK w w.heap.size A l) (kk : Below w.heap.size w wr) (mO : AtC wr Bo (obCells o))
    (C1 : ∀ W, Below w.heap.size w W → Calls Tryz.prog 30 #[ch ⟨2, x⟩] W fun e w' => e = .returned (.bool true) ∧ Below W.heap.size W w')
    (C2 : (stateOf x o) ≠ x → ∀ W, Below w.heap.size w W → Calls Tryz.prog 30 #[ch ⟨2, (stateOf x o)⟩] W fun e w' => e = .returned (.bool false) ∧ Below W.heap.size W w')
    (C3 : ∀ W, Below w.heap.size w W → ∀ A2 c2, RdK chK W W.heap.size A2 [⟨2, x⟩] → Calls Tryz.prog 23 #[.slice A2 1 c2] W fun e w' => e = .returned (.int .i64 0) ∧ Below W.heap.size W w')
    (hQ : ∀ (x7 x8 x9 x31 x32 x33 x34 x35 x36 x37 x38 x39 x40 x41 x42 x43 x44 x45 x46 x47 x48 x49 x50 x51 x52 x53 x54 x55 x56 x57 x58 x59 x60 x61 x62 x63 x64 x65 x66 x67 x68 x69 x70 x71 x72 x73 x74 x75 x76 x77 x78 x79 x80 x81 x82 : Value) (w' : World), Below w.heap.size w w' → Q .normal { tmps := #[.slice A l.length c, w1, w2, ptr Bo, w4, .bool false, .int .i64 ((i : Int) + 1), x7, x8, x9, u10, u11, u12, u13, u14, u15, u16, u17, u18, u19, u20, u21, u22, u23, u24, u25, u26, u27, u28, u29, u30, x31, x32, x33, x34, x35, x36, x37, x38, x39, x40, x41, x42, x43, x44, x45, x46, x47, x48, x49, x50, x51, x52, x53, x54, x55, x56, x57, x58, x59, x60, x61, x62, x63, x64, x65, x66, x67, x68, x69, x70, x71, x72, x73, x74, x75, x76, x77, x78, x79, x80, x81, x82, u83, u84, u85, u86, u87], defers := [] } w') :
    Code.wp Tryz.prog aloneB Q { tmps := #[.slice A l.length c, w1, w2, ptr Bo, w4, .bool false, .int .i64 i, u7, u8, u9, u10, u11, u12, u13, u14, u15, u16, u17, u18, u19, u20, u21, u22, u23, u24, u25, u26, u27, u28, u29, u30, u31, u32, u33, u34, u35, u36, u37, u38, u39, u40, u41, u42, u43, u44, u45, u46, u47, u48, u49, u50, u51, u52, u53, u54, u55, u56, u57, u58, u59, u60, u61, u62, u63, u64, u65, u66, u67, u68, u69, u70, u71, u72, u73, u74, u75, u76, u77, u78, u79, u80, u81, u82, u83, u84, u85, u86, u87], defers := [] } wr := by
  have HQ := Lib.hid hQ
  have K1 := Lib.hid kk
  have MO := Lib.hid mO
  have CO := Lib.hid C1
  have CN := Lib.hid C2
  have CM := Lib.hid C3
  have CS := fun W => Lib.hid (state_any x o W)
  obtain ⟨B, off, rfl, hB, hcc⟩ := chs_at (hr.below kk) (by omega)
  obtain ⟨p0, p1, p2, p3, p4, p5, p6, p7, p8, p9, p10, p11, p12, p13, p14⟩ := hcc i ⟨2, x⟩ ((List.getElem?_eq_getElem hi).trans (congrArg some hx))
  have i1 : (i : Int) < l.length := by omega
  have i2 : (i : Int) ≤ 30 := by omega
  have hsz := kk.size
  dsimp only at p0 p1 p2 p3 p4 p5 p6 p7 p8 p9 p10 p11 p12 p13 p14
  clear hQ kk mO C1 C2 C3 hcc hr hx
  conv => arg 2; simp only [aloneB, TX.bodyC, Tryz.f8, TX.pathC]
  go_upto_region 21 with (first
    | (go_at_call 30; ((refine (CO.out _ (bAl K1.out _)).mono ?_); rintro e w3 ⟨rfl, q3⟩; have k3 := bThen (bAl K1.out _) q3; have mC := (AtC.new _ _ _).then q3; have lC := mC.lt; have cC := mC.c; have MO3 := Lib.hid ((MO.out.al _).then q3); have MC3 := Lib.hid mC; clear mC q3))
    | (go_at_call 23; ((refine (CM.out _ (bAl k3 _) _ _ (rdLit0 rfl rfl)).mono ?_); rintro e w4 ⟨rfl, q4⟩; have k4 := bThen (bAl k3 _) q4; have mC := (MC3.out.al _).then q4; have lC4 := mC.lt; have cC4 := mC.c; have mO := (MO3.out.al _).then q4; have lO4 := mO.lt; have cO4 := mO.c; have MC4 := Lib.hid mC; have MO4 := Lib.hid mO; clear mC mO q4))
    | (go_at_call 31; ((with_reducible refine (CS _).out.mono ?_); rintro e w5 ⟨rfl, q5⟩; have k5 := bThen (bAl k4 _) q5; have mX := (AtC.new w4 (chCells ⟨2, x⟩) 39).then q5; have lX := mX.lt; have cX := mX.c; have fX := mX.f; have MX5 := Lib.hid mX; have MC5 := Lib.hid ((MC4.out.al _).then q5); have MO5 := Lib.hid ((MO4.out.al _).then q5); clear mX q5)))
  refine alone_21 w _ 2 Bo wr.heap.size w4.heap.size x (stateOf x o) _ _ _ _ _ _ _ _ _ _ _ _ _ _ _ _ _ _ _ _ _ _ _ _ _ _ _ _ _ _ _ _ _ _ _ _ _ _ _ _ _ _ _ _ _ _ _ _ _ _ _ _ _ _ _ _ _ _ _ _ _ _ _ _ _ _ _ _ _ _ _ _ _ _ _ _ _ _ _ _ _ _ _ _ _ (bFill14 k5 (by omega) _ _ _ _ _ _ _ _ _ _ _ _ _ _) (far14 MC5.out (by omega) _ _ _ _ _ _ _ _ _ _ _ _ _ _) (fill14x MX5.out (stateOf x o)) (fun _ h2 W' kW => CN.out h2 W' kW) ?_
  intro x71 x72 x73 x74 x75 x76 x77 x78 x79 x80 x81 w11 k11
  go_wp2
  exact HQ.out _ _ _ _ _ _ _ _ _ _ _ _ _ _ _ _ _ _ _ _ _ _ _ _ _ _ _ _ _ _ _ _ _ _ _ _ _ _ _ _ _ _ _ _ _ _ _ _ _ _ _ _ _ _ _ _ k11
set_option maxHeartbeats 16000000 in
theorem alone_r2_ft (w wr : World) (i Bo : Nat) (x o : Ob) (l : List Ch) (A : Option Addr) (c : Nat) (w1 w2 w4 u7 u8 u9 u10 u11 u12 u13 u14 u15 u16 u17 u18 u19 u20 u21 u22 u23 u24 u25 u26 u27 u28 u29 u30 u31 u32 u33 u34 u35 u36 u37 u38 u39 u40 u41 u42 u43 u44 u45 u46 u47 u48 u49 u50 u51 u52 u53 u54 u55 u56 u57 u58 u59 u60 u61 u62 u63 u64 u65 u66 u67 u68 u69 u70 u71 u72 u73 u74 u75 u76 u77 u78 u79 u80 u81 u82 u83 u84 u85 u86 u87 : Value) {Q : Exit → Act → World → Prop} (hi : i < l.length) (hl : l.length ≤ 30) (hx : l[i] = ⟨2, x⟩) (hr : RdK chK w w.heap.size A l) (kk : Below w.heap.size w wr) (mO : AtC wr Bo (obCells o))
    (C1 : ∀ W, Below w.heap.size w W → Calls Tryz.prog 30 #[ch ⟨2, x⟩] W fun e w' => e = .returned (.bool false) ∧ Below W.heap.size W w')
    (C3 : ∀ W, Below w.heap.size w W → ∀ A2 c2, RdK chK W W.heap.size A2 [⟨2, x⟩] → Calls Tryz.prog 23 #[.slice A2 1 c2] W fun e w' => e = .returned (.int .i64 100) ∧ Below W.heap.size W w')
    (hQ : ∀ (x7 x8 x9 x31 x32 x33 x34 x35 x36 x37 x38 x39 x40 x41 x42 x43 x44 x45 x46 x47 x48 x49 x50 x51 x52 x53 x54 x55 x56 x57 x58 x59 x60 x61 x62 x63 x64 x65 x66 x67 x68 x69 x70 x71 x72 x73 x74 x75 x76 x77 x78 x79 x80 x81 x82 : Value) (w' : World), Below w.heap.size w w' → Q .normal { tmps := #[.slice A l.length c, w1, w2, ptr Bo, w4, .bool false, .int .i64 ((i : Int) + 1), x7, x8, x9, u10, u11, u12, u13, u14, u15, u16, u17, u18, u19, u20, u21, u22, u23, u24, u25, u26, u27, u28, u29, u30, x31, x32, x33, x34, x35, x36, x37, x38, x39, x40, x41, x42, x43, x44, x45, x46, x47, x48, x49, x50, x51, x52, x53, x54, x55, x56, x57, x58, x59, x60, x61, x62, x63, x64, x65, x66, x67, x68, x69, x70, x71, x72, x73, x74, x75, x76, x77, x78, x79, x80, x81, x82, u83, u84, u85, u86, u87], defers := [] } w') :
    Code.wp Tryz.prog aloneB Q { tmps := #[.slice A l.length c, w1, w2, ptr Bo, w4, .bool true, .int .i64 i, u7, u8, u9, u10, u11, u12, u13, u14, u15, u16, u17, u18, u19, u20, u21, u22, u23, u24, u25, u26, u27, u28, u29, u30, u31, u32, u33, u34, u35, u36, u37, u38, u39, u40, u41, u42, u43, u44, u45, u46, u47, u48, u49, u50, u51, u52, u53, u54, u55, u56, u57, u58, u59, u60, u61, u62, u63, u64, u65, u66, u67, u68, u69, u70, u71, u72, u73, u74, u75, u76, u77, u78, u79, u80, u81, u82, u83, u84, u85, u86, u87], defers := [] } wr := by
  have HQ := Lib.hid hQ
  have K1 := Lib.hid kk
  have MO := Lib.hid mO
  have CO := Lib.hid C1
  have CM := Lib.hid C3
  have CS := fun W => Lib.hid (state_any x o W)
  obtain ⟨B, off, rfl, hB, hcc⟩ := chs_at (hr.below kk) (by omega)
  obtain ⟨p0, p1, p2, p3, p4, p5, p6, p7, p8, p9, p10, p11, p12, p13, p14⟩ := hcc i ⟨2, x⟩ ((List.getElem?_eq_getElem hi).trans (congrArg some hx))
  have i1 : (i : Int) < l.length := by omega
  have i2 : (i : Int) ≤ 30 := by omega
  have hsz := kk.size
  dsimp only at p0 p1 p2 p3 p4 p5 p6 p7 p8 p9 p10 p11 p12 p13 p14
  clear hQ kk mO C1 C3 hcc hr hx
  conv => arg 2; simp only [aloneB, TX.bodyC, Tryz.f8, TX.pathC]
  go_upto_region 21 with (first
    | (go_at_call 30; ((refine (CO.out _ (bAl K1.out _)).mono ?_); rintro e w3 ⟨rfl, q3⟩; have k3 := bThen (bAl K1.out _) q3; have mC := (AtC.new _ _ _).then q3; have lC := mC.lt; have cC := mC.c; have MO3 := Lib.hid ((MO.out.al _).then q3); have MC3 := Lib.hid mC; clear mC q3))
    | (go_at_call 23; ((refine (CM.out _ (bAl k3 _) _ _ (rdLit0 rfl rfl)).mono ?_); rintro e w4 ⟨rfl, q4⟩; have k4 := bThen (bAl k3 _) q4; have mC := (MC3.out.al _).then q4; have lC4 := mC.lt; have cC4 := mC.c; have mO := (MO3.out.al _).then q4; have lO4 := mO.lt; have cO4 := mO.c; have MC4 := Lib.hid mC; have MO4 := Lib.hid mO; clear mC mO q4))
    | (go_at_call 31; ((with_reducible refine (CS _).out.mono ?_); rintro e w5 ⟨rfl, q5⟩; have k5 := bThen (bAl k4 _) q5; have mX := (AtC.new w4 (chCells ⟨2, x⟩) 39).then q5; have lX := mX.lt; have cX := mX.c; have fX := mX.f; have MX5 := Lib.hid mX; have MC5 := Lib.hid ((MC4.out.al _).then q5); have MO5 := Lib.hid ((MO4.out.al _).then q5); clear mX q5)))
  refine alone_21 w _ 2 Bo wr.heap.size w4.heap.size x (stateOf x o) _ _ _ _ _ _ _ _ _ _ _ _ _ _ _ _ _ _ _ _ _ _ _ _ _ _ _ _ _ _ _ _ _ _ _ _ _ _ _ _ _ _ _ _ _ _ _ _ _ _ _ _ _ _ _ _ _ _ _ _ _ _ _ _ _ _ _ _ _ _ _ _ _ _ _ _ _ _ _ _ _ _ _ _ _ (bFill14 k5 (by omega) _ _ _ _ _ _ _ _ _ _ _ _ _ _) (far14 MC5.out (by omega) _ _ _ _ _ _ _ _ _ _ _ _ _ _) (fill14x MX5.out (stateOf x o)) (fun h1 => by cases h1) ?_
  intro x71 x72 x73 x74 x75 x76 x77 x78 x79 x80 x81 w11 k11
  go_wp2
  exact HQ.out _ _ _ _ _ _ _ _ _ _ _ _ _ _ _ _ _ _ _ _ _ _ _ _ _ _ _ _ _ _ _ _ _ _ _ _ _ _ _ _ _ _ _ _ _ _ _ _ _ _ _ _ _ _ _ _ k11
set_option maxHeartbeats 16000000 in
theorem alone_r2_ff (w wr : World) (i Bo : Nat) (x o : Ob) (l : List Ch) (A : Option Addr) (c : Nat) (w1 w2 w4 u7 u8 u9 u10 u11 u12 u13 u14 u15 u16 u17 u18 u19 u20 u21 u22 u23 u24 u25 u26 u27 u28 u29 u30 u31 u32 u33 u34 u35 u36 u37 u38 u39 u40 u41 u42 u43 u44 u45 u46 u47 u48 u49 u50 u51 u52 u53 u54 u55 u56 u57 u58 u59 u60 u61 u62 u63 u64 u65 u66 u67 u68 u69 u70 u71 u72 u73 u74 u75 u76 u77 u78 u79 u80 u81 u82 u83 u84 u85 u86 u87 : Value) {Q : Exit → Act → World → Prop} (hi : i < l.length) (hl : l.length ≤ 30) (hx : l[i] = ⟨2, x⟩) (hr : RdK chK w w.heap.size A l) (kk : Below w.heap.size w wr) (mO : AtC wr Bo (obCells o))
    (C1 : ∀ W, Below w.heap.size w W → Calls Tryz.prog 30 #[ch ⟨2, x⟩] W fun e w' => e = .returned (.bool false) ∧ Below W.heap.size W w')
    (C3 : ∀ W, Below w.heap.size w W → ∀ A2 c2, RdK chK W W.heap.size A2 [⟨2, x⟩] → Calls Tryz.prog 23 #[.slice A2 1 c2] W fun e w' => e = .returned (.int .i64 100) ∧ Below W.heap.size W w')
    (hQ : ∀ (x7 x8 x9 x31 x32 x33 x34 x35 x36 x37 x38 x39 x40 x41 x42 x43 x44 x45 x46 x47 x48 x49 x50 x51 x52 x53 x54 x55 x56 x57 x58 x59 x60 x61 x62 x63 x64 x65 x66 x67 x68 x69 x70 x71 x72 x73 x74 x75 x76 x77 x78 x79 x80 x81 x82 : Value) (w' : World), Below w.heap.size w w' → Q .normal { tmps := #[.slice A l.length c, w1, w2, ptr Bo, w4, .bool false, .int .i64 ((i : Int) + 1), x7, x8, x9, u10, u11, u12, u13, u14, u15, u16, u17, u18, u19, u20, u21, u22, u23, u24, u25, u26, u27, u28, u29, u30, x31, x32, x33, x34, x35, x36, x37, x38, x39, x40, x41, x42, x43, x44, x45, x46, x47, x48, x49, x50, x51, x52, x53, x54, x55, x56, x57, x58, x59, x60, x61, x62, x63, x64, x65, x66, x67, x68, x69, x70, x71, x72, x73, x74, x75, x76, x77, x78, x79, x80, x81, x82, u83, u84, u85, u86, u87], defers := [] } w') :
    Code.wp Tryz.prog aloneB Q { tmps := #[.slice A l.length c, w1, w2, ptr Bo, w4, .bool false, .int .i64 i, u7, u8, u9, u10, u11, u12, u13, u14, u15, u16, u17, u18, u19, u20, u21, u22, u23, u24, u25, u26, u27, u28, u29, u30, u31, u32, u33, u34, u35, u36, u37, u38, u39, u40, u41, u42, u43, u44, u45, u46, u47, u48, u49, u50, u51, u52, u53, u54, u55, u56, u57, u58, u59, u60, u61, u62, u63, u64, u65, u66, u67, u68, u69, u70, u71, u72, u73, u74, u75, u76, u77, u78, u79, u80, u81, u82, u83, u84, u85, u86, u87], defers := [] } wr := by
  have HQ := Lib.hid hQ
  have K1 := Lib.hid kk
  have MO := Lib.hid mO
  have CO := Lib.hid C1
  have CM := Lib.hid C3
  have CS := fun W => Lib.hid (state_any x o W)
  obtain ⟨B, off, rfl, hB, hcc⟩ := chs_at (hr.below kk) (by omega)
  obtain ⟨p0, p1, p2, p3, p4, p5, p6, p7, p8, p9, p10, p11, p12, p13, p14⟩ := hcc i ⟨2, x⟩ ((List.getElem?_eq_getElem hi).trans (congrArg some hx))
  have i1 : (i : Int) < l.length := by omega
  have i2 : (i : Int) ≤ 30 := by omega
  have hsz := kk.size
  dsimp only at p0 p1 p2 p3 p4 p5 p6 p7 p8 p9 p10 p11 p12 p13 p14
  clear hQ kk mO C1 C3 hcc hr hx
  conv => arg 2; simp only [aloneB, TX.bodyC, Tryz.f8, TX.pathC]
  go_upto_region 21 with (first
    | (go_at_call 30; ((refine (CO.out _ (bAl K1.out _)).mono ?_); rintro e w3 ⟨rfl, q3⟩; have k3 := bThen (bAl K1.out _) q3; have mC := (AtC.new _ _ _).then q3; have lC := mC.lt; have cC := mC.c; have MO3 := Lib.hid ((MO.out.al _).then q3); have MC3 := Lib.hid mC; clear mC q3))
    | (go_at_call 23; ((refine (CM.out _ (bAl k3 _) _ _ (rdLit0 rfl rfl)).mono ?_); rintro e w4 ⟨rfl, q4⟩; have k4 := bThen (bAl k3 _) q4; have mC := (MC3.out.al _).then q4; have lC4 := mC.lt; have cC4 := mC.c; have mO := (MO3.out.al _).then q4; have lO4 := mO.lt; have cO4 := mO.c; have MC4 := Lib.hid mC; have MO4 := Lib.hid mO; clear mC mO q4))
    | (go_at_call 31; ((with_reducible refine (CS _).out.mono ?_); rintro e w5 ⟨rfl, q5⟩; have k5 := bThen (bAl k4 _) q5; have mX := (AtC.new w4 (chCells ⟨2, x⟩) 39).then q5; have lX := mX.lt; have cX := mX.c; have fX := mX.f; have MX5 := Lib.hid mX; have MC5 := Lib.hid ((MC4.out.al _).then q5); have MO5 := Lib.hid ((MO4.out.al _).then q5); clear mX q5)))
  refine alone_21 w _ 2 Bo wr.heap.size w4.heap.size x (stateOf x o) _ _ _ _ _ _ _ _ _ _ _ _ _ _ _ _ _ _ _ _ _ _ _ _ _ _ _ _ _ _ _ _ _ _ _ _ _ _ _ _ _ _ _ _ _ _ _ _ _ _ _ _ _ _ _ _ _ _ _ _ _ _ _ _ _ _ _ _ _ _ _ _ _ _ _ _ _ _ _ _ _ _ _ _ _ (bFill14 k5 (by omega) _ _ _ _ _ _ _ _ _ _ _ _ _ _) (far14 MC5.out (by omega) _ _ _ _ _ _ _ _ _ _ _ _ _ _) (fill14x MX5.out (stateOf x o)) (fun h1 => by cases h1) ?_
  intro x71 x72 x73 x74 x75 x76 x77 x78 x79 x80 x81 w11 k11
  go_wp2
  exact HQ.out _ _ _ _ _ _ _ _ _ _ _ _ _ _ _ _ _ _ _ _ _ _ _ _ _ _ _ _ _ _ _ _ _ _ _ _ _ _ _ _ _ _ _ _ _ _ _ _ _ _ _ _ _ _ _ _ k11
end Go.Proofs.YticjfbpielapeaaGreatDoor.DX
/-
  WALKS: a round of ChangeAlone's loop.
-/
namespace Go.Proofs.YticjfbpielapeaaGreatDoor.DX
open Go.RowKit HL
open IX (ptr El cellsK cellsK_at OwnK RdK strK)
open WX (hb pb rb tl_ne bs_eq)
set_option maxRecDepth 100000
set_option linter.unusedVariables false
set_option linter.unusedSimpArgs false

set_option maxHeartbeats 16000000 in
theorem alone_r3_tt (w wr : World) (i Bo : Nat) (x o : Ob) (l : List Ch) (A : Option Addr) (c : Nat) (w1 w2 w4 u7 u8 u9 u10 u11 u12 u13 u14 u15 u16 u17 u18 u19 u20 u21 u22 u23 u24 u25 u26 u27 u28 u29 u30 u31 u32 u33 u34 u35 u36 u37 u38 u39 u40 u41 u42 u43 u44 u45 u46 u47 u48 u49 u50 u51 u52 u53 u54 u55 u56 u57 u58 u59 u60 u61 u62 u63 u64 u65 u66 u67 u68 u69 u70 u71 u72 u73 u74 u75 u76 u77 u78 u79 u80 u81 u82 u83 u84 u85 u86 u87 : Value) {Q : Exit → Act → World → Prop} (hi : i < l.length) (hl : l.length ≤ 30) (hx : l[i] = ⟨3, x⟩) (hr : RdK chK w w.heap.size A l) (kk : Below w.heap.size w wr) (mO : AtC wr Bo (obCells o))
    (C1 : ∀ W, Below w.heap.size w W → Calls Tryz.prog 30 #[ch ⟨3, x⟩] W fun e w' => e = .returned (.bool true) ∧ Below W.heap.size W w')
    (C2 : (descOf x o) ≠ x → ∀ W, Below w.heap.size w W → Calls Tryz.prog 30 #[ch ⟨3, (descOf x o)⟩] W fun e w' => e = .returned (.bool false) ∧ Below W.heap.size W w')
    (C3 : ∀ W, Below w.heap.size w W → ∀ A2 c2, RdK chK W W.heap.size A2 [⟨3, x⟩] → Calls Tryz.prog 23 #[.slice A2 1 c2] W fun e w' => e = .returned (.int .i64 0) ∧ Below W.heap.size W w')
    (hQ : ∀ (x7 x8 x9 x31 x32 x33 x34 x35 x36 x37 x38 x39 x40 x41 x42 x43 x44 x45 x46 x47 x48 x49 x50 x51 x52 x53 x54 x55 x56 x57 x58 x59 x60 x61 x62 x63 x64 x65 x66 x67 x68 x69 x70 x71 x72 x73 x74 x75 x76 x77 x78 x79 x80 x81 x82 : Value) (w' : World), Below w.heap.size w w' → Q .normal { tmps := #[.slice A l.length c, w1, w2, ptr Bo, w4, .bool true, .int .i64 ((i : Int) + 1), x7, x8, x9, u10, u11, u12, u13, u14, u15, u16, u17, u18, u19, u20, u21, u22, u23, u24, u25, u26, u27, u28, u29, u30, x31, x32, x33, x34, x35, x36, x37, x38, x39, x40, x41, x42, x43, x44, x45, x46, x47, x48, x49, x50, x51, x52, x53, x54, x55, x56, x57, x58, x59, x60, x61, x62, x63, x64, x65, x66, x67, x68, x69, x70, x71, x72, x73, x74, x75, x76, x77, x78, x79, x80, x81, x82, u83, u84, u85, u86, u87], defers := [] } w') :
    Code.wp Tryz.prog aloneB Q { tmps := #[.slice A l.length c, w1, w2, ptr Bo, w4, .bool true, .int .i64 i, u7, u8, u9, u10, u11, u12, u13, u14, u15, u16, u17, u18, u19, u20, u21, u22, u23, u24, u25, u26, u27, u28, u29, u30, u31, u32, u33, u34, u35, u36, u37, u38, u39, u40, u41, u42, u43, u44, u45, u46, u47, u48, u49, u50, u51, u52, u53, u54, u55, u56, u57, u58, u59, u60, u61, u62, u63, u64, u65, u66, u67, u68, u69, u70, u71, u72, u73, u74, u75, u76, u77, u78, u79, u80, u81, u82, u83, u84, u85, u86, u87], defers := [] } wr := by
  have HQ := Lib.hid hQ
  have K1 := Lib.hid kk
  have MO := Lib.hid mO
  have CO := Lib.hid C1
  have CN := Lib.hid C2
  have CM := Lib.hid C3
  have CS := fun W => Lib.hid (desc_any x o W)
  obtain ⟨B, off, rfl, hB, hcc⟩ := chs_at (hr.below kk) (by omega)
  obtain ⟨p0, p1, p2, p3, p4, p5, p6, p7, p8, p9, p10, p11, p12, p13, p14⟩ := hcc i ⟨3, x⟩ ((List.getElem?_eq_getElem hi).trans (congrArg some hx))
  have i1 : (i : Int) < l.length := by omega
  have i2 : (i : Int) ≤ 30 := by omega
  have hsz := kk.size
  dsimp only at p0 p1 p2 p3 p4 p5 p6 p7 p8 p9 p10 p11 p12 p13 p14
  clear hQ kk mO C1 C2 C3 hcc hr hx
  conv => arg 2; simp only [aloneB, TX.bodyC, Tryz.f8, TX.pathC]
  go_upto_region 21 with (first
    | (go_at_call 30; ((refine (CO.out _ (bAl K1.out _)).mono ?_); rintro e w3 ⟨rfl, q3⟩; have k3 := bThen (bAl K1.out _) q3; have mC := (AtC.new _ _ _).then q3; have lC := mC.lt; have cC := mC.c; have MO3 := Lib.hid ((MO.out.al _).then q3); have MC3 := Lib.hid mC; clear mC q3))
    | (go_at_call 23; ((refine (CM.out _ (bAl k3 _) _ _ (rdLit0 rfl rfl)).mono ?_); rintro e w4 ⟨rfl, q4⟩; have k4 := bThen (bAl k3 _) q4; have mC := (MC3.out.al _).then q4; have lC4 := mC.lt; have cC4 := mC.c; have mO := (MO3.out.al _).then q4; have lO4 := mO.lt; have cO4 := mO.c; have MC4 := Lib.hid mC; have MO4 := Lib.hid mO; clear mC mO q4))
    | (go_at_call 32; ((with_reducible refine (CS _).out.mono ?_); rintro e w5 ⟨rfl, q5⟩; have k5 := bThen (bAl k4 _) q5; have mX := (AtC.new w4 (chCells ⟨3, x⟩) 39).then q5; have lX := mX.lt; have cX := mX.c; have fX := mX.f; have MX5 := Lib.hid mX; have MC5 := Lib.hid ((MC4.out.al _).then q5); have MO5 := Lib.hid ((MO4.out.al _).then q5); clear mX q5)))
  refine alone_21 w _ 3 Bo wr.heap.size w4.heap.size x (descOf x o) _ _ _ _ _ _ _ _ _ _ _ _ _ _ _ _ _ _ _ _ _ _ _ _ _ _ _ _ _ _ _ _ _ _ _ _ _ _ _ _ _ _ _ _ _ _ _ _ _ _ _ _ _ _ _ _ _ _ _ _ _ _ _ _ _ _ _ _ _ _ _ _ _ _ _ _ _ _ _ _ _ _ _ _ _ (bFill14 k5 (by omega) _ _ _ _ _ _ _ _ _ _ _ _ _ _) (far14 MC5.out (by omega) _ _ _ _ _ _ _ _ _ _ _ _ _ _) (fill14x MX5.out (descOf x o)) (fun _ h2 W' kW => CN.out h2 W' kW) ?_
  intro x71 x72 x73 x74 x75 x76 x77 x78 x79 x80 x81 w11 k11
  go_wp2
  exact HQ.out _ _ _ _ _ _ _ _ _ _ _ _ _ _ _ _ _ _ _ _ _ _ _ _ _ _ _ _ _ _ _ _ _ _ _ _ _ _ _ _ _ _ _ _ _ _ _ _ _ _ _ _ _ _ _ _ k11
set_option maxHeartbeats 16000000 in
theorem alone_r3_tf (w wr : World) (i Bo : Nat) (x o : Ob) (l : List Ch) (A : Option Addr) (c : Nat) (w1 w2 w4 u7 u8 u9 u10 u11 u12 u13 u14 u15 u16 u17 u18 u19 u20 u21 u22 u23 u24 u25 u26 u27 u28 u29 u30 u31 u32 u33 u34 u35 u36 u37 u38 u39 u40 u41 u42 u43 u44 u45 u46 u47 u48 u49 u50 u51 u52 u53 u54 u55 u56 u57 u58 u59 u60 u61 u62 u63 u64 u65 u66 u67 u68 u69 u70 u71 u72 u73 u74 u75 u76 u77 u78 u79 u80 u81 u82 u83 u84 u85 u86 u87 : Value) {Q : Exit → Act → World → Prop} (hi : i < l.length) (hl : l.length ≤ 30) (hx : l[i] = ⟨3, x⟩) (hr : RdK chK w w.heap.size A l) (kk : Below w.heap.size w wr) (mO : AtC wr Bo (obCells o))
    (C1 : ∀ W, Below w.heap.size w W → Calls Tryz.prog 30 #[ch ⟨3, x⟩] W fun e w' => e = .returned (.bool true) ∧ Below W.heap.size W w')
    (C2 : (descOf x o) ≠ x → ∀ W, Below w.heap.size w W → Calls Tryz.prog 30 #[ch ⟨3, (descOf x o)⟩] W fun e w' => e = .returned (.bool false) ∧ Below W.heap.size W w')
    (C3 : ∀ W, Below w.heap.size w W → ∀ A2 c2, RdK chK W W.heap.size A2 [⟨3, x⟩] → Calls Tryz.prog 23 #[.slice A2 1 c2] W fun e w' => e = .returned (.int .i64 0) ∧ Below W.heap.size W w')
    (hQ : ∀ (x7 x8 x9 x31 x32 x33 x34 x35 x36 x37 x38 x39 x40 x41 x42 x43 x44 x45 x46 x47 x48 x49 x50 x51 x52 x53 x54 x55 x56 x57 x58 x59 x60 x61 x62 x63 x64 x65 x66 x67 x68 x69 x70 x71 x72 x73 x74 x75 x76 x77 x78 x79 x80 x81 x82 : Value) (w' : World), Below w.heap.size w w' → Q .normal { tmps := #[.slice A l.length c, w1, w2, ptr Bo, w4, .bool false, .int .i64 ((i : Int) + 1), x7, x8, x9, u10, u11, u12, u13, u14, u15, u16, u17, u18, u19, u20, u21, u22, u23, u24, u25, u26, u27, u28, u29, u30, x31, x32, x33, x34, x35, x36, x37, x38, x39, x40, x41, x42, x43, x44, x45, x46, x47, x48, x49, x50, x51, x52, x53, x54, x55, x56, x57, x58, x59, x60, x61, x62, x63, x64, x65, x66, x67, x68, x69, x70, x71, x72, x73, x74, x75, x76, x77, x78, x79, x80, x81, x82, u83, u84, u85, u86, u87], defers := [] } w') :
    Code.wp Tryz.prog aloneB Q { tmps := #[.slice A l.length c, w1, w2, ptr Bo, w4, .bool false, .int .i64 i, u7, u8, u9, u10, u11, u12, u13, u14, u15, u16, u17, u18, u19, u20, u21, u22, u23, u24, u25, u26, u27, u28, u29, u30, u31, u32, u33, u34, u35, u36, u37, u38, u39, u40, u41, u42, u43, u44, u45, u46, u47, u48, u49, u50, u51, u52, u53, u54, u55, u56, u57, u58, u59, u60, u61, u62, u63, u64, u65, u66, u67, u68, u69, u70, u71, u72, u73, u74, u75, u76, u77, u78, u79, u80, u81, u82, u83, u84, u85, u86, u87], defers := [] } wr := by
  have HQ := Lib.hid hQ
  have K1 := Lib.hid kk
  have MO := Lib.hid mO
  have CO := Lib.hid C1
  have CN := Lib.hid C2
  have CM := Lib.hid C3
  have CS := fun W => Lib.hid (desc_any x o W)
  obtain ⟨B, off, rfl, hB, hcc⟩ := chs_at (hr.below kk) (by omega)
  obtain ⟨p0, p1, p2, p3, p4, p5, p6, p7, p8, p9, p10, p11, p12, p13, p14⟩ := hcc i ⟨3, x⟩ ((List.getElem?_eq_getElem hi).trans (congrArg some hx))
  have i1 : (i : Int) < l.length := by omega
  have i2 : (i : Int) ≤ 30 := by omega
  have hsz := kk.size
  dsimp only at p0 p1 p2 p3 p4 p5 p6 p7 p8 p9 p10 p11 p12 p13 p14
  clear hQ kk mO C1 C2 C3 hcc hr hx
  conv => arg 2; simp only [aloneB, TX.bodyC, Tryz.f8, TX.pathC]
  go_upto_region 21 with (first
    | (go_at_call 30; ((refine (CO.out _ (bAl K1.out _)).mono ?_); rintro e w3 ⟨rfl, q3⟩; have k3 := bThen (bAl K1.out _) q3; have mC := (AtC.new _ _ _).then q3; have lC := mC.lt; have cC := mC.c; have MO3 := Lib.hid ((MO.out.al _).then q3); have MC3 := Lib.hid mC; clear mC q3))
    | (go_at_call 23; ((refine (CM.out _ (bAl k3 _) _ _ (rdLit0 rfl rfl)).mono ?_); rintro e w4 ⟨rfl, q4⟩; have k4 := bThen (bAl k3 _) q4; have mC := (MC3.out.al _).then q4; have lC4 := mC.lt; have cC4 := mC.c; have mO := (MO3.out.al _).then q4; have lO4 := mO.lt; have cO4 := mO.c; have MC4 := Lib.hid mC; have MO4 := Lib.hid mO; clear mC mO q4))
    | (go_at_call 32; ((with_reducible refine (CS _).out.mono ?_); rintro e w5 ⟨rfl, q5⟩; have k5 := bThen (bAl k4 _) q5; have mX := (AtC.new w4 (chCells ⟨3, x⟩) 39).then q5; have lX := mX.lt; have cX := mX.c; have fX := mX.f; have MX5 := Lib.hid mX; have MC5 := Lib.hid ((MC4.out.al _).then q5); have MO5 := Lib.hid ((MO4.out.al _).then q5); clear mX q5)))
  refine alone_21 w _ 3 Bo wr.heap.size w4.heap.size x (descOf x o) _ _ _ _ _ _ _ _ _ _ _ _ _ _ _ _ _ _ _ _ _ _ _ _ _ _ _ _ _ _ _ _ _ _ _ _ _ _ _ _ _ _ _ _ _ _ _ _ _ _ _ _ _ _ _ _ _ _ _ _ _ _ _ _ _ _ _ _ _ _ _ _ _ _ _ _ _ _ _ _ _ _ _ _ _ (bFill14 k5 (by omega) _ _ _ _ _ _ _ _ _ _ _ _ _ _) (far14 MC5.out (by omega) _ _ _ _ _ _ _ _ _ _ _ _ _ _) (fill14x MX5.out (descOf x o)) (fun _ h2 W' kW => CN.out h2 W' kW) ?_
  intro x71 x72 x73 x74 x75 x76 x77 x78 x79 x80 x81 w11 k11
  go_wp2
  exact HQ.out _ _ _ _ _ _ _ _ _ _ _ _ _ _ _ _ _ _ _ _ _ _ _ _ _ _ _ _ _ _ _ _ _ _ _ _ _ _ _ _ _ _ _ _ _ _ _ _ _ _ _ _ _ _ _ _ k11
set_option maxHeartbeats 16000000 in
theorem alone_r3_ft (w wr : World) (i Bo : Nat) (x o : Ob) (l : List Ch) (A : Option Addr) (c : Nat) (w1 w2 w4 u7 u8 u9 u10 u11 u12 u13 u14 u15 u16 u17 u18 u19 u20 u21 u22 u23 u24 u25 u26 u27 u28 u29 u30 u31 u32 u33 u34 u35 u36 u37 u38 u39 u40 u41 u42 u43 u44 u45 u46 u47 u48 u49 u50 u51 u52 u53 u54 u55 u56 u57 u58 u59 u60 u61 u62 u63 u64 u65 u66 u67 u68 u69 u70 u71 u72 u73 u74 u75 u76 u77 u78 u79 u80 u81 u82 u83 u84 u85 u86 u87 : Value) {Q : Exit → Act → World → Prop} (hi : i < l.length) (hl : l.length ≤ 30) (hx : l[i] = ⟨3, x⟩) (hr : RdK chK w w.heap.size A l) (kk : Below w.heap.size w wr) (mO : AtC wr Bo (obCells o))
    (C1 : ∀ W, Below w.heap.size w W → Calls Tryz.prog 30 #[ch ⟨3, x⟩] W fun e w' => e = .returned (.bool false) ∧ Below W.heap.size W w')
    (C3 : ∀ W, Below w.heap.size w W → ∀ A2 c2, RdK chK W W.heap.size A2 [⟨3, x⟩] → Calls Tryz.prog 23 #[.slice A2 1 c2] W fun e w' => e = .returned (.int .i64 100) ∧ Below W.heap.size W w')
    (hQ : ∀ (x7 x8 x9 x31 x32 x33 x34 x35 x36 x37 x38 x39 x40 x41 x42 x43 x44 x45 x46 x47 x48 x49 x50 x51 x52 x53 x54 x55 x56 x57 x58 x59 x60 x61 x62 x63 x64 x65 x66 x67 x68 x69 x70 x71 x72 x73 x74 x75 x76 x77 x78 x79 x80 x81 x82 : Value) (w' : World), Below w.heap.size w w' → Q .normal { tmps := #[.slice A l.length c, w1, w2, ptr Bo, w4, .bool false, .int .i64 ((i : Int) + 1), x7, x8, x9, u10, u11, u12, u13, u14, u15, u16, u17, u18, u19, u20, u21, u22, u23, u24, u25, u26, u27, u28, u29, u30, x31, x32, x33, x34, x35, x36, x37, x38, x39, x40, x41, x42, x43, x44, x45, x46, x47, x48, x49, x50, x51, x52, x53, x54, x55, x56, x57, x58, x59, x60, x61, x62, x63, x64, x65, x66, x67, x68, x69, x70, x71, x72, x73, x74, x75, x76, x77, x78, x79, x80, x81, x82, u83, u84, u85, u86, u87], defers := [] } w') :
    Code.wp Tryz.prog aloneB Q { tmps := #[.slice A l.length c, w1, w2, ptr Bo, w4, .bool true, .int .i64 i, u7, u8, u9, u10, u11, u12, u13, u14, u15, u16, u17, u18, u19, u20, u21, u22, u23, u24, u25, u26, u27, u28, u29, u30, u31, u32, u33, u34, u35, u36, u37, u38, u39, u40, u41, u42, u43, u44, u45, u46, u47, u48, u49, u50, u51, u52, u53, u54, u55, u56, u57, u58, u59, u60, u61, u62, u63, u64, u65, u66, u67, u68, u69, u70, u71, u72, u73, u74, u75, u76, u77, u78, u79, u80, u81, u82, u83, u84, u85, u86, u87], defers := [] } wr := by
  have HQ := Lib.hid hQ
  have K1 := Lib.hid kk
  have MO := Lib.hid mO
  have CO := Lib.hid C1
  have CM := Lib.hid C3
  have CS := fun W => Lib.hid (desc_any x o W)
  obtain ⟨B, off, rfl, hB, hcc⟩ := chs_at (hr.below kk) (by omega)
  obtain ⟨p0, p1, p2, p3, p4, p5, p6, p7, p8, p9, p10, p11, p12, p13, p14⟩ := hcc i ⟨3, x⟩ ((List.getElem?_eq_getElem hi).trans (congrArg some hx))
  have i1 : (i : Int) < l.length := by omega
  have i2 : (i : Int) ≤ 30 := by omega
  have hsz := kk.size
  dsimp only at p0 p1 p2 p3 p4 p5 p6 p7 p8 p9 p10 p11 p12 p13 p14
  clear hQ kk mO C1 C3 hcc hr hx
  conv => arg 2; simp only [aloneB, TX.bodyC, Tryz.f8, TX.pathC]
  go_upto_region 21 with (first
    | (go_at_call 30; ((refine (CO.out _ (bAl K1.out _)).mono ?_); rintro e w3 ⟨rfl, q3⟩; have k3 := bThen (bAl K1.out _) q3; have mC := (AtC.new _ _ _).then q3; have lC := mC.lt; have cC := mC.c; have MO3 := Lib.hid ((MO.out.al _).then q3); have MC3 := Lib.hid mC; clear mC q3))
    | (go_at_call 23; ((refine (CM.out _ (bAl k3 _) _ _ (rdLit0 rfl rfl)).mono ?_); rintro e w4 ⟨rfl, q4⟩; have k4 := bThen (bAl k3 _) q4; have mC := (MC3.out.al _).then q4; have lC4 := mC.lt; have cC4 := mC.c; have mO := (MO3.out.al _).then q4; have lO4 := mO.lt; have cO4 := mO.c; have MC4 := Lib.hid mC; have MO4 := Lib.hid mO; clear mC mO q4))
    | (go_at_call 32; ((with_reducible refine (CS _).out.mono ?_); rintro e w5 ⟨rfl, q5⟩; have k5 := bThen (bAl k4 _) q5; have mX := (AtC.new w4 (chCells ⟨3, x⟩) 39).then q5; have lX := mX.lt; have cX := mX.c; have fX := mX.f; have MX5 := Lib.hid mX; have MC5 := Lib.hid ((MC4.out.al _).then q5); have MO5 := Lib.hid ((MO4.out.al _).then q5); clear mX q5)))
  refine alone_21 w _ 3 Bo wr.heap.size w4.heap.size x (descOf x o) _ _ _ _ _ _ _ _ _ _ _ _ _ _ _ _ _ _ _ _ _ _ _ _ _ _ _ _ _ _ _ _ _ _ _ _ _ _ _ _ _ _ _ _ _ _ _ _ _ _ _ _ _ _ _ _ _ _ _ _ _ _ _ _ _ _ _ _ _ _ _ _ _ _ _ _ _ _ _ _ _ _ _ _ _ (bFill14 k5 (by omega) _ _ _ _ _ _ _ _ _ _ _ _ _ _) (far14 MC5.out (by omega) _ _ _ _ _ _ _ _ _ _ _ _ _ _) (fill14x MX5.out (descOf x o)) (fun h1 => by cases h1) ?_
  intro x71 x72 x73 x74 x75 x76 x77 x78 x79 x80 x81 w11 k11
  go_wp2
  exact HQ.out _ _ _ _ _ _ _ _ _ _ _ _ _ _ _ _ _ _ _ _ _ _ _ _ _ _ _ _ _ _ _ _ _ _ _ _ _ _ _ _ _ _ _ _ _ _ _ _ _ _ _ _ _ _ _ _ k11
set_option maxHeartbeats 16000000 in
theorem alone_r3_ff (w wr : World) (i Bo : Nat) (x o : Ob) (l : List Ch) (A : Option Addr) (c : Nat) (w1 w2 w4 u7 u8 u9 u10 u11 u12 u13 u14 u15 u16 u17 u18 u19 u20 u21 u22 u23 u24 u25 u26 u27 u28 u29 u30 u31 u32 u33 u34 u35 u36 u37 u38 u39 u40 u41 u42 u43 u44 u45 u46 u47 u48 u49 u50 u51 u52 u53 u54 u55 u56 u57 u58 u59 u60 u61 u62 u63 u64 u65 u66 u67 u68 u69 u70 u71 u72 u73 u74 u75 u76 u77 u78 u79 u80 u81 u82 u83 u84 u85 u86 u87 : Value) {Q : Exit → Act → World → Prop} (hi : i < l.length) (hl : l.length ≤ 30) (hx : l[i] = ⟨3, x⟩) (hr : RdK chK w w.heap.size A l) (kk : Below w.heap.size w wr) (mO : AtC wr Bo (obCells o))
    (C1 : ∀ W, Below w.heap.size w W → Calls Tryz.prog 30 #[ch ⟨3, x⟩] W fun e w' => e = .returned (.bool false) ∧ Below W.heap.size W w')
    (C3 : ∀ W, Below w.heap.size w W → ∀ A2 c2, RdK chK W W.heap.size A2 [⟨3, x⟩] → Calls Tryz.prog 23 #[.slice A2 1 c2] W fun e w' => e = .returned (.int .i64 100) ∧ Below W.heap.size W w')
    (hQ : ∀ (x7 x8 x9 x31 x32 x33 x34 x35 x36 x37 x38 x39 x40 x41 x42 x43 x44 x45 x46 x47 x48 x49 x50 x51 x52 x53 x54 x55 x56 x57 x58 x59 x60 x61 x62 x63 x64 x65 x66 x67 x68 x69 x70 x71 x72 x73 x74 x75 x76 x77 x78 x79 x80 x81 x82 : Value) (w' : World), Below w.heap.size w w' → Q .normal { tmps := #[.slice A l.length c, w1, w2, ptr Bo, w4, .bool false, .int .i64 ((i : Int) + 1), x7, x8, x9, u10, u11, u12, u13, u14, u15, u16, u17, u18, u19, u20, u21, u22, u23, u24, u25, u26, u27, u28, u29, u30, x31, x32, x33, x34, x35, x36, x37, x38, x39, x40, x41, x42, x43, x44, x45, x46, x47, x48, x49, x50, x51, x52, x53, x54, x55, x56, x57, x58, x59, x60, x61, x62, x63, x64, x65, x66, x67, x68, x69, x70, x71, x72, x73, x74, x75, x76, x77, x78, x79, x80, x81, x82, u83, u84, u85, u86, u87], defers := [] } w') :
    Code.wp Tryz.prog aloneB Q { tmps := #[.slice A l.length c, w1, w2, ptr Bo, w4, .bool false, .int .i64 i, u7, u8, u9, u10, u11, u12, u13, u14, u15, u16, u17, u18, u19, u20, u21, u22, u23, u24, u25, u26, u27, u28, u29, u30, u31, u32, u33, u34, u35, u36, u37, u38, u39, u40, u41, u42, u43, u44, u45, u46, u47, u48, u49, u50, u51, u52, u53, u54, u55, u56, u57, u58, u59, u60, u61, u62, u63, u64, u65, u66, u67, u68, u69, u70, u71, u72, u73, u74, u75, u76, u77, u78, u79, u80, u81, u82, u83, u84, u85, u86, u87], defers := [] } wr := by
  have HQ := Lib.hid hQ
  have K1 := Lib.hid kk
  have MO := Lib.hid mO
  have CO := Lib.hid C1
  have CM := Lib.hid C3
  have CS := fun W => Lib.hid (desc_any x o W)
  obtain ⟨B, off, rfl, hB, hcc⟩ := chs_at (hr.below kk) (by omega)
  obtain ⟨p0, p1, p2, p3, p4, p5, p6, p7, p8, p9, p10, p11, p12, p13, p14⟩ := hcc i ⟨3, x⟩ ((List.getElem?_eq_getElem hi).trans (congrArg some hx))
  have i1 : (i : Int) < l.length := by omega
  have i2 : (i : Int) ≤ 30 := by omega
  have hsz := kk.size
  dsimp only at p0 p1 p2 p3 p4 p5 p6 p7 p8 p9 p10 p11 p12 p13 p14
  clear hQ kk mO C1 C3 hcc hr hx
  conv => arg 2; simp only [aloneB, TX.bodyC, Tryz.f8, TX.pathC]
  go_upto_region 21 with (first
    | (go_at_call 30; ((refine (CO.out _ (bAl K1.out _)).mono ?_); rintro e w3 ⟨rfl, q3⟩; have k3 := bThen (bAl K1.out _) q3; have mC := (AtC.new _ _ _).then q3; have lC := mC.lt; have cC := mC.c; have MO3 := Lib.hid ((MO.out.al _).then q3); have MC3 := Lib.hid mC; clear mC q3))
    | (go_at_call 23; ((refine (CM.out _ (bAl k3 _) _ _ (rdLit0 rfl rfl)).mono ?_); rintro e w4 ⟨rfl, q4⟩; have k4 := bThen (bAl k3 _) q4; have mC := (MC3.out.al _).then q4; have lC4 := mC.lt; have cC4 := mC.c; have mO := (MO3.out.al _).then q4; have lO4 := mO.lt; have cO4 := mO.c; have MC4 := Lib.hid mC; have MO4 := Lib.hid mO; clear mC mO q4))
    | (go_at_call 32; ((with_reducible refine (CS _).out.mono ?_); rintro e w5 ⟨rfl, q5⟩; have k5 := bThen (bAl k4 _) q5; have mX := (AtC.new w4 (chCells ⟨3, x⟩) 39).then q5; have lX := mX.lt; have cX := mX.c; have fX := mX.f; have MX5 := Lib.hid mX; have MC5 := Lib.hid ((MC4.out.al _).then q5); have MO5 := Lib.hid ((MO4.out.al _).then q5); clear mX q5)))
  refine alone_21 w _ 3 Bo wr.heap.size w4.heap.size x (descOf x o) _ _ _ _ _ _ _ _ _ _ _ _ _ _ _ _ _ _ _ _ _ _ _ _ _ _ _ _ _ _ _ _ _ _ _ _ _ _ _ _ _ _ _ _ _ _ _ _ _ _ _ _ _ _ _ _ _ _ _ _ _ _ _ _ _ _ _ _ _ _ _ _ _ _ _ _ _ _ _ _ _ _ _ _ _ (bFill14 k5 (by omega) _ _ _ _ _ _ _ _ _ _ _ _ _ _) (far14 MC5.out (by omega) _ _ _ _ _ _ _ _ _ _ _ _ _ _) (fill14x MX5.out (descOf x o)) (fun h1 => by cases h1) ?_
  intro x71 x72 x73 x74 x75 x76 x77 x78 x79 x80 x81 w11 k11
  go_wp2
  exact HQ.out _ _ _ _ _ _ _ _ _ _ _ _ _ _ _ _ _ _ _ _ _ _ _ _ _ _ _ _ _ _ _ _ _ _ _ _ _ _ _ _ _ _ _ _ _ _ _ _ _ _ _ _ _ _ _ _ k11
end Go.Proofs.YticjfbpielapeaaGreatDoor.DX
