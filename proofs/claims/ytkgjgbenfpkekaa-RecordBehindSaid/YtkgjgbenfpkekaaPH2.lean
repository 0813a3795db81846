/-
  The law RecordBehind walked.
-/
import Derived.Test.YtkgjgbenfpkekaaPWriteE
import Derived.Test.YtkgjgbenfpkekaaPAwake
import Derived.Test.YtkgjgbenfpkekaaPH1
import Derived.Test.YtkgjgbenfpkekaaPRow
import Derived.Deep.MidRow
import Derived.Deep.CutRange
import Derived.Test.YtkgjgbenfpkekaaPH0
namespace Go.Proofs.Ytkgjgbenfpkekaa.PX
open Go.RowKit HL
open IX (ptr El cellsK cellsK_at cellsK_len OwnK RdK Kept)
open YX (numB rdU rdB rdT rdS rdI addW intN natI rest told WAt WPt Wr RAt vS vU vI u8K Got)
open WX (obK)
open DX (Ch ch chCells chK zeroCh)
set_option maxRecDepth 100000
set_option linter.unusedVariables false
set_option linter.unusedSimpArgs false

theorem range_of {W : World} {B : Nat} {C : Array Value} (h : AtC W B C) : W.rangeAt B 0 C.toList := fun j v hv => by
  rw [Nat.zero_add, h.c j, ← hv]; exact Array.getElem?_toList.symm
theorem rd1of {α : Type} {K : El α} {W : World} {g : Nat} {C : Array Value} {x : α} (h : AtC W g C) (hC : C.toList = K.enc x) : RdK K W W.heap.size (some ⟨g, 0, none⟩) [x] :=
  .inr ⟨g, 0, rfl, h.lt, fun m u hu => by rw [Nat.zero_add, h.c m, ← Array.getElem?_toList, hC]; simpa [cellsK] using hu⟩
theorem w_lim {s : Option Bs} {o : Ob} {b : Bs} (h : codO.W s o = some b) : b.length ≤ 65536 := by
  rw [codO.w_eq] at h
  split at h
  · cases s with
    | none => cases h
    | some l =>
      unfold addW at h
      simp only at h
      split at h
      · cases h
      · injection h with h
        rw [← h, List.length_append]
        omega
  · cases h
theorem b_pos {e : En} {o : Ob} {c : Ch} {b : Bs} (h : codO.W (codC.W (codO.W (codE.W (some []) e) o) c) o = some b) : 0 < b.length := by
  cases b with
  | cons x l => simp
  | nil =>
    have := four h
    have h2 := this.2.2.2
    have : codO.B o = [] := by
      have := congrArg List.length h2
      simp only [List.length_append, List.length_nil] at this
      exact List.length_eq_zero_iff.1 (by omega)
    exfalso
    have := congrArg List.length (show objB o = [] from this)
    unfold objB at this
    simp at this
theorem nn0 {A : Option Addr} {cp : Nat} {W : World} {b : Bs} (h : RdK u8K W W.heap.size A b) (h0 : 0 < b.length) : A = none → cp = 0 := fun q => by
  rcases h with h | ⟨b', off, e2, _⟩
  · rw [h] at h0; simp at h0
  · rw [q] at e2; cases e2
theorem allE1 (x : En) : (enC x).all (·.oneCell') = true := all_oneCell_toArray (fun v hv => by simp at hv; rcases hv with rfl | rfl | rfl | rfl | rfl | rfl | rfl | rfl | rfl | rfl | rfl | rfl | rfl | rfl | rfl | rfl | rfl | rfl <;> rfl)
theorem there_new (w : World) (x : En) : (w.alloc (.cells (enC zeroEn) 43)).there w.heap.size 0 (enC x).size := fun j hj => by
  rw [Nat.zero_add]
  have m := AtC.new w (enC zeroEn) 43
  refine ⟨?_, m.f j⟩
  rw [m.c j]
  have hj : j < 18 := hj
  have : j < (enC zeroEn).size := hj
  rw [Array.getElem?_eq_getElem this]; rfl
theorem store_new (w : World) (Z C : Array Value) (T : Nat) (h : Z.toList.length = C.toList.length) : AtC (stC (w.alloc (.cells Z T)) w.heap.size 0 C.toList) w.heap.size C ∧ Below w.heap.size w (stC (w.alloc (.cells Z T)) w.heap.size 0 C.toList) := by
  refine ⟨?_, ?_⟩
  · have := at_all (W := w.alloc (.cells Z T)) (B := w.heap.size) Z.toList C.toList (by simpa using AtC.new w Z T) h
    simpa using this
  · have k : Kept w (stC (w.alloc (.cells Z T)) w.heap.size 0 C.toList) (fun _ => True) := kept_stC (fun h => absurd h (by omega)) _ _ _ (.of_below (bAl (Below.refl _ _) _))
    exact k.below (Nat.le_refl _) (fun _ _ => trivial)
def nthC : Nat → Code → Code
  | 0, c => c
  | n + 1, .seq _ b => nthC n b
  | _, c => c
def headC : Code → Code
  | .seq a _ => a
  | c => c
noncomputable def behindC : Code := match Try.f4.body with | some c => c | none => .skip
set_option maxHeartbeats 16000000 in
theorem behind_20 {K : Act → World → Prop} (ob0 : Ob) (c : Ch) (e0 : En) (w : World) (R bX bY bZ bU : Nat) (w16 : World) (u0 u1 u2 u6 u7 u8 u9 u15 u16 u17 u18 u19 u20 u21 u22 u23 u24 u25 u26 u27 u28 u29 u30 u31 u32 u33 u34 u35 u36 u37 u38 u39 u40 u41 u42 u43 u44 u45 u46 u47 u48 u49 u50 u51 u52 u53 u54 u55 u56 u57 u58 u59 u60 u61 u62 u63 u64 u65 u66 u67 u68 u69 u70 u71 u72 u73 u74 u75 u76 u77 u78 u79 u80 u81 : Value)
    (Y0 : Hid (AtC w16 bX (enC e0))) (Y1 : Hid (AtC w16 w.heap.size (obCells ob0))) (Y2 : Hid (AtC w16 (w.heap.size + 1) (chCells c))) (Y3 : Hid (AtC w16 (w.heap.size + 1 + 1) (enC e0))) (Yy : Hid (AtC w16 bY (obCells ob0))) (Yz : Hid (AtC w16 bZ (chCells c))) (Yu : Hid (AtC w16 bU (obCells ob0))) (HR16 : Hid (RAt w16 R (some []))) (K16 : Hid (Below w.heap.size w w16)) (hK : ∀ a W, Code.wp Try.prog (nthC 17 behindC) (bodyPost Try.prog Try.f4 fun e w' => e = .returned (.bool true) ∧ Below w.heap.size w w') a W → K a W) :
    Code.wp Try.prog (headC (nthC 16 behindC)) (Exit.then K (bodyPost Try.prog Try.f4 fun e w' => e = .returned (.bool true) ∧ Below w.heap.size w w')) { tmps := #[u0, u1, u2, .pointer (some ⟨w.heap.size, 0, none⟩), .pointer (some ⟨w.heap.size + 1, 0, none⟩), .pointer (some ⟨w.heap.size + 1 + 1, 0, none⟩), u6, u7, u8, u9, .pointer (some ⟨R, 0, none⟩), .pointer (some ⟨bX, 0, none⟩), .pointer (some ⟨bY, 0, none⟩), .pointer (some ⟨bZ, 0, none⟩), .pointer (some ⟨bU, 0, none⟩), u15, u16, u17, u18, u19, u20, u21, u22, u23, u24, u25, u26, u27, u28, u29, u30, u31, u32, u33, u34, u35, u36, u37, u38, u39, u40, u41, u42, u43, u44, u45, u46, u47, u48, u49, u50, u51, u52, u53, u54, u55, u56, u57, u58, u59, u60, u61, u62, u63, u64, u65, u66, u67, u68, u69, u70, u71, u72, u73, u74, u75, u76, u77, u78, u79, u80, u81], defers := [] } w16 := by
  conv => arg 2; simp only [behindC, Try.f4, nthC, headC]
  simp only [behindC, Try.f4, nthC] at hK
  have CN := Lib.hid (fun W g (q : RAt W g (some [])) => YX.end_any g (some []) W q)
  have hcX := range_of Y0.out
  have hcE := range_of Y3.out
  have yyc := Yy.out.c
  have y1c := Y1.out.c
  have yzc := Yz.out.c
  have y2c := Y2.out.c
  have yuc := Yu.out.c
  have yyl := Yy.out.lt
  have y1l := Y1.out.lt
  have yzl := Yz.out.lt
  have y2l := Y2.out.lt
  have yul := Yu.out.lt
  have hEE := fun (W : World) => eqE W e0
  have hOO : ∀ W : World, (Op.equalIn 10000 37 (ob ob0) (ob ob0)).run Try.prog W = .ok true W := fun W => by rw [DX.run_eqOb, DX.eqOb_iff.2 rfl]
  have hCC : ∀ W : World, (Op.equalIn 10000 39 (ch c) (ch c)).run Try.prog W = .ok true W := fun W => by rw [DX.run_eqCh, DX.eqCh_iff.2 rfl]
  have CNN := Lib.hid (CN.out _ _ HR16.out)
  clear CN HR16 Y0 Y1 Y2 Y3 Yy Yz Yu
  go_wp2_with (first
    | ((show wpList _ _ _ ({ dst := some 59, op := _, type := _, pos := _, after := _, guard := _ } :: _) _ _); (refine wpList_load_mid rfl _ _ rfl bX 0 rfl (enC e0).toList _ hcX Try.underlying43 rfl (by kernel_rfl) ?_))
    | ((show wpList _ _ _ ({ dst := some 60, op := _, type := _, pos := _, after := _, guard := _ } :: _) _ _); (refine wpList_load_mid rfl _ _ rfl (w.heap.size + 1 + 1) 0 rfl (enC e0).toList _ hcE Try.underlying43 rfl (by kernel_rfl) ?_))
    | (go_at_call 23; ((refine CNN.out.mono ?_); rintro e w17 ⟨rfl, rfl⟩)))
  go_ret
  exact ⟨rfl, K16.out⟩
set_option maxHeartbeats 16000000 in
theorem behind_16 {K : Act → World → Prop} (ob0 : Ob) (c : Ch) (e0 : En) (w : World) (R : Nat) (w8 : World) (b : Bs) (s1 s2 s3 : Option Bs) (u0 u1 u2 u6 u7 u8 u9 u11 u12 u13 u14 u15 u16 u17 u18 u19 u20 u21 u22 u23 u24 u25 u26 u27 u28 u29 u30 u31 u32 u33 u34 u35 u36 u37 u38 u39 u40 u41 u42 u43 u44 u45 u46 u47 u48 u49 u50 u51 u52 u53 u54 u55 u56 u57 u58 u59 u60 u61 u62 u63 u64 u65 u66 u67 u68 u69 u70 u71 u72 u73 u74 u75 u76 u77 u78 u79 u80 u81 : Value)
    (e1 : getE (some b) = (e0, s1)) (e2 : getO s1 = (ob0, s2)) (e3 : getC s2 = (c, s3)) (e4 : getO s3 = (ob0, some [])) (l1 : w.heap.size ≠ R) (l2 : w.heap.size + 1 ≠ R) (l3 : w.heap.size + 1 + 1 ≠ R) (q8 : w.heap.size ≤ R)
    (Y1 : Hid (AtC w8 w.heap.size (obCells ob0))) (Y2 : Hid (AtC w8 (w.heap.size + 1) (chCells c))) (Y3 : Hid (AtC w8 (w.heap.size + 1 + 1) (enC e0))) (HR8 : Hid (RAt w8 R (some b))) (K8 : Hid (Below w.heap.size w w8)) (hK : ∀ a W, Code.wp Try.prog (nthC 13 behindC) (bodyPost Try.prog Try.f4 fun e w' => e = .returned (.bool true) ∧ Below w.heap.size w w') a W → K a W) :
    Code.wp Try.prog (headC (nthC 12 behindC)) (Exit.then K (bodyPost Try.prog Try.f4 fun e w' => e = .returned (.bool true) ∧ Below w.heap.size w w')) { tmps := #[u0, u1, u2, .pointer (some ⟨w.heap.size, 0, none⟩), .pointer (some ⟨w.heap.size + 1, 0, none⟩), .pointer (some ⟨w.heap.size + 1 + 1, 0, none⟩), u6, u7, u8, u9, .pointer (some ⟨R, 0, none⟩), u11, u12, u13, u14, u15, u16, u17, u18, u19, u20, u21, u22, u23, u24, u25, u26, u27, u28, u29, u30, u31, u32, u33, u34, u35, u36, u37, u38, u39, u40, u41, u42, u43, u44, u45, u46, u47, u48, u49, u50, u51, u52, u53, u54, u55, u56, u57, u58, u59, u60, u61, u62, u63, u64, u65, u66, u67, u68, u69, u70, u71, u72, u73, u74, u75, u76, u77, u78, u79, u80, u81], defers := [] } w8 := by
  have CE := Lib.hid (fun W g (q : RAt W g (some b)) => getEntry_any g (some b) W q)
  have CO1 := Lib.hid (fun W g (q : RAt W g s1) => getObject_any g s1 W q)
  have CC := Lib.hid (fun W g (q : RAt W g s2) => getChange_any g s2 W q)
  have CO2 := Lib.hid (fun W g (q : RAt W g s3) => getObject_any g s3 W q)
  rw [e1] at CE; rw [e2] at CO1; rw [e3] at CC; rw [e4] at CO2
  clear e1 e2 e3 e4
  conv => arg 2; simp only [behindC, Try.f4, nthC, headC]
  simp only [behindC, Try.f4, nthC] at hK
  go_upto_region 17 with (first
    | (go_at_call 20; ((refine (CE.out _ _ HR8.out).mono ?_); rintro e w9 ⟨rfl, r9, k9⟩; have HR9 := Lib.hid r9; have X1 := Lib.hid (Y1.out.kept k9 l1); have X2 := Lib.hid (Y2.out.kept k9 l2); have X3 := Lib.hid (Y3.out.kept k9 l3); have K9 := Lib.hid ((Kept.trans (P := (· ≠ R)) (.of_below K8.out) k9).below (Nat.le_refl _) (fun k hk => show k ≠ R by omega)); have ht9 := there_new w9 e0; clear k9 r9))
    | ((show wpList _ _ _ [{ dst := none, op := _, type := _, pos := _, after := _, guard := _ }] _ _); (refine wpList_store_mid rfl _ _ _ rfl w9.heap.size 0 (enC e0) rfl rfl ht9 (by kernel_rfl) (allE1 e0) ?_)))
  clear Y1 Y2 Y3 K8 HR8 CE ht9
  have eS : (w9.alloc (.cells (enC zeroEn) 43)).setCells w9.heap.size 0 (enC e0).toList = stC (w9.alloc (.cells (enC zeroEn) 43)) w9.heap.size 0 (enC e0).toList := setCells_st _ _ _ _
  change Code.wp _ _ _ _ ((w9.alloc (.cells (enC zeroEn) 43)).setCells w9.heap.size 0 (enC e0).toList)
  rw [eS]
  have sn := store_new w9 (enC zeroEn) (enC e0) 43 rfl
  have bx : w9.heap.size ≠ R := fun q => Nat.lt_irrefl _ (q ▸ HR9.out.lt)
  have bw : w.heap.size ≤ w9.heap.size := K9.out.size
  generalize stC (w9.alloc (.cells (enC zeroEn) 43)) w9.heap.size 0 (enC e0).toList = w10 at *
  have Y0 := Lib.hid sn.1
  have Y1 := Lib.hid (X1.out.then sn.2)
  have Y2 := Lib.hid (X2.out.then sn.2)
  have Y3 := Lib.hid (X3.out.then sn.2)
  have HR10 := Lib.hid (HR9.out.below sn.2)
  have K10 := Lib.hid (bThen K9.out sn.2)
  clear sn eS X1 X2 X3 HR9 K9
  generalize w9.heap.size = bX at *
  go_upto_region 18 with (go_at_call 21; ((refine (CO1.out _ _ HR10.out).mono ?_); rintro e w11 ⟨rfl, r11, k11⟩; have HR11 := Lib.hid r11; have X0 := Lib.hid (Y0.out.kept k11 bx); have X1 := Lib.hid (Y1.out.kept k11 l1); have X2 := Lib.hid (Y2.out.kept k11 l2); have X3 := Lib.hid (Y3.out.kept k11 l3); have K11 := Lib.hid ((Kept.trans (P := (· ≠ R)) (.of_below K10.out) k11).below (Nat.le_refl _) (fun k hk => show k ≠ R by omega)); clear k11 r11))
  clear HR10 K10 Y0 Y1 Y2 Y3
  have sn : AtC (w11.alloc (.cells (obCells ob0) 37)) w11.heap.size (obCells ob0) ∧ Below w11.heap.size w11 (w11.alloc (.cells (obCells ob0) 37)) := ⟨AtC.new _ _ _, bAl (Below.refl _ _) _⟩
  have by1 : w11.heap.size ≠ R := fun q => Nat.lt_irrefl _ (q ▸ HR11.out.lt)
  change Code.wp _ _ _ _ (w11.alloc (.cells (obCells ob0) 37))
  generalize w11.alloc (.cells (obCells ob0) 37) = w12 at *
  have Yy := Lib.hid sn.1
  have Y0 := Lib.hid (X0.out.then sn.2)
  have Y1 := Lib.hid (X1.out.then sn.2)
  have Y2 := Lib.hid (X2.out.then sn.2)
  have Y3 := Lib.hid (X3.out.then sn.2)
  have HR12 := Lib.hid (HR11.out.below sn.2)
  have K12 := Lib.hid (bThen K11.out sn.2)
  have bw11 : w.heap.size ≤ w11.heap.size := K11.out.size
  clear sn X0 X1 X2 X3 HR11 K11
  generalize w11.heap.size = bY at *
  go_upto_region 19 with (go_at_call 22; ((refine (CC.out _ _ HR12.out).mono ?_); rintro e w13 ⟨rfl, r13, k13⟩; have HR13 := Lib.hid r13; have X0 := Lib.hid (Y0.out.kept k13 bx); have X1 := Lib.hid (Y1.out.kept k13 l1); have X2 := Lib.hid (Y2.out.kept k13 l2); have X3 := Lib.hid (Y3.out.kept k13 l3); have Xy := Lib.hid (Yy.out.kept k13 by1); have K13 := Lib.hid ((Kept.trans (P := (· ≠ R)) (.of_below K12.out) k13).below (Nat.le_refl _) (fun k hk => show k ≠ R by omega)); clear k13 r13))
  clear HR12 K12 Y0 Y1 Y2 Y3 Yy
  have sn : AtC (w13.alloc (.cells (chCells c) 39)) w13.heap.size (chCells c) ∧ Below w13.heap.size w13 (w13.alloc (.cells (chCells c) 39)) := ⟨AtC.new _ _ _, bAl (Below.refl _ _) _⟩
  have bz1 : w13.heap.size ≠ R := fun q => Nat.lt_irrefl _ (q ▸ HR13.out.lt)
  change Code.wp _ _ _ _ (w13.alloc (.cells (chCells c) 39))
  generalize w13.alloc (.cells (chCells c) 39) = w14 at *
  have Yz := Lib.hid sn.1
  have Y0 := Lib.hid (X0.out.then sn.2)
  have Y1 := Lib.hid (X1.out.then sn.2)
  have Y2 := Lib.hid (X2.out.then sn.2)
  have Y3 := Lib.hid (X3.out.then sn.2)
  have Yy := Lib.hid (Xy.out.then sn.2)
  have HR14 := Lib.hid (HR13.out.below sn.2)
  have K14 := Lib.hid (bThen K13.out sn.2)
  have bw13 : w.heap.size ≤ w13.heap.size := K13.out.size
  clear sn X0 X1 X2 X3 Xy HR13 K13
  generalize w13.heap.size = bZ at *
  go_upto_region 20 with (go_at_call 21; ((refine (CO2.out _ _ HR14.out).mono ?_); rintro e w15 ⟨rfl, r15, k15⟩; have HR15 := Lib.hid r15; have X0 := Lib.hid (Y0.out.kept k15 bx); have X1 := Lib.hid (Y1.out.kept k15 l1); have X2 := Lib.hid (Y2.out.kept k15 l2); have X3 := Lib.hid (Y3.out.kept k15 l3); have Xy := Lib.hid (Yy.out.kept k15 by1); have Xz := Lib.hid (Yz.out.kept k15 bz1); have K15 := Lib.hid ((Kept.trans (P := (· ≠ R)) (.of_below K14.out) k15).below (Nat.le_refl _) (fun k hk => show k ≠ R by omega)); clear k15 r15))
  clear HR14 K14 Y0 Y1 Y2 Y3 Yy Yz
  have sn : AtC (w15.alloc (.cells (obCells ob0) 37)) w15.heap.size (obCells ob0) ∧ Below w15.heap.size w15 (w15.alloc (.cells (obCells ob0) 37)) := ⟨AtC.new _ _ _, bAl (Below.refl _ _) _⟩
  have bu1 : w15.heap.size ≠ R := fun q => Nat.lt_irrefl _ (q ▸ HR15.out.lt)
  change Code.wp _ _ _ _ (w15.alloc (.cells (obCells ob0) 37))
  generalize w15.alloc (.cells (obCells ob0) 37) = w16 at *
  have Yu := Lib.hid sn.1
  have Y0 := Lib.hid (X0.out.then sn.2)
  have Y1 := Lib.hid (X1.out.then sn.2)
  have Y2 := Lib.hid (X2.out.then sn.2)
  have Y3 := Lib.hid (X3.out.then sn.2)
  have Yy := Lib.hid (Xy.out.then sn.2)
  have Yz := Lib.hid (Xz.out.then sn.2)
  have HR16 := Lib.hid (HR15.out.below sn.2)
  have K16 := Lib.hid (bThen K15.out sn.2)
  have bw15 : w.heap.size ≤ w15.heap.size := K15.out.size
  clear sn X0 X1 X2 X3 Xy Xz HR15 K15
  generalize w15.heap.size = bU at *
  exact behind_20 ob0 c e0 w R bX bY bZ bU w16 _ _ _ _ _ _ _ _ _ _ _ _ _ _ _ _ _ _ _ _ _ _ _ _ _ _ _ _ _ _ _ _ _ _ _ _ _ _ _ _ _ _ _ _ _ _ _ _ _ _ _ _ _ _ _ _ _ _ _ _ _ _ _ _ _ _ _ _ _ _ _ _ _ _ Y0 Y1 Y2 Y3 Yy Yz Yu HR16 K16 (by assumption)
set_option maxHeartbeats 16000000 in
theorem behind_walk (ob0 : Ob) (c : Ch) (e0 : En) (w : World) (fi : longAll [ob0] [c] [e0] = false → Fine ob0 ∧ FineC c ∧ FineE e0) :
    Calls Try.prog 4 #[ob ob0, ch c, en e0] w fun e w' => e = .returned (.bool true) ∧ Below w.heap.size w w' := by
  have CA := Lib.hid (fun W => awake_any W)
  have hz := YX.zero_wr
  have B0 : Hid (Below w.heap.size w (((w.alloc (.cells (obCells ob0) 37)).alloc (.cells (chCells c) 39)).alloc (.cells (enC e0) 43))) := Lib.hid (bAl (bAl (bAl (Below.refl _ _) _) _) _)
  have M1 : Hid (AtC (((w.alloc (.cells (obCells ob0) 37)).alloc (.cells (chCells c) 39)).alloc (.cells (enC e0) 43)) w.heap.size (obCells ob0)) := Lib.hid (((AtC.new _ _ _).al _).al _)
  have M2 : Hid (AtC (((w.alloc (.cells (obCells ob0) 37)).alloc (.cells (chCells c) 39)).alloc (.cells (enC e0) 43)) (w.heap.size + 1) (chCells c)) := Lib.hid ((AtC.newAt (by simp)).al _)
  have M3 : Hid (AtC (((w.alloc (.cells (obCells ob0) 37)).alloc (.cells (chCells c) 39)).alloc (.cells (enC e0) 43)) (w.heap.size + 1 + 1) (enC e0)) := Lib.hid (AtC.newAt (by simp))
  have CL := Lib.hid (fun W A1 A2 A3 (h1 : RdK obK W W.heap.size A1 [ob0]) (h2 : RdK chK W W.heap.size A2 [c]) (h3 : RdK enK W W.heap.size A3 [e0]) => longAll_any A1 A2 A3 1 1 1 [ob0] [c] [e0] W h1 h2 h3 (by simp [maxLen]) (by simp [maxLen]) (by simp [maxLen]))
  go_enter Try.func4, Try.ntmps4
  go_upto_region 1 with fail
  change Code.wp _ _ _ _ (((w.alloc (.cells (obCells ob0) 37)).alloc (.cells (chCells c) 39)).alloc (.cells (enC e0) 43))
  generalize ((w.alloc (.cells (obCells ob0) 37)).alloc (.cells (chCells c) 39)).alloc (.cells (enC e0) 43) = W0 at *
  go_upto_region 3 with (go_at_call 14; ((refine (CA.out _).mono ?_); rintro e w1 ⟨rfl, k1⟩; have N1 := Lib.hid (M1.out.then k1); have N2 := Lib.hid (M2.out.then k1); have N3 := Lib.hid (M3.out.then k1); have K1 := Lib.hid (bThen B0.out k1); clear k1))
  have n1c := N1.out.c
  have n1l := N1.out.lt
  have n2c := N2.out.c
  have n2l := N2.out.lt
  have n3l := N3.out.lt
  have hc3 := range_of ((N3.out.al (.cells (obCells ob0) 37)).al (.cells (chCells c) 39))
  have r1 := Lib.hid (rd1of (K := obK) (x := ob0) (((AtC.new w1 (obCells ob0) 37).al (.cells (chCells c) 39)).al (.cells (enC e0) 43)) rfl)
  have r2 := Lib.hid (rd1of (K := chK) (x := c) ((AtC.newAt (w := w1.alloc (.cells (obCells ob0) 37)) (B := w1.heap.size + 1) (C := chCells c) (T := 39) (by simp)).al (.cells (enC e0) 43)) rfl)
  have r3 := Lib.hid (rd1of (K := enK) (x := e0) (AtC.newAt (w := (w1.alloc (.cells (obCells ob0) 37)).alloc (.cells (chCells c) 39)) (B := w1.heap.size + 1 + 1) (C := enC e0) (T := 43) (by simp)) rfl)
  have P3 := Lib.hid (((N3.out.al (.cells (obCells ob0) 37)).al (.cells (chCells c) 39)).al (.cells (enC e0) 43))
  have P2 := Lib.hid (((N2.out.al (.cells (obCells ob0) 37)).al (.cells (chCells c) 39)).al (.cells (enC e0) 43))
  have P1 := Lib.hid (((N1.out.al (.cells (obCells ob0) 37)).al (.cells (chCells c) 39)).al (.cells (enC e0) 43))
  have KP := Lib.hid (bAl (bAl (bAl K1.out (.cells (obCells ob0) 37)) (.cells (chCells c) 39)) (.cells (enC e0) 43))
  obtain ⟨la, hla⟩ : ∃ la, longAll [ob0] [c] [e0] = la := ⟨_, rfl⟩
  rw [hla] at CL
  have n2s : Hid True := Lib.hid trivial
  have CE := Lib.hid (fun W g (q : WAt W g (some [])) (fe : FineE e0) => putEntry_any g (some []) e0 W fe q)
  have CO1 := Lib.hid (fun W g s (q : WAt W g s) (fo : Fine ob0) => putObject_any g s ob0 W fo q)
  have CC := Lib.hid (fun W g s (q : WAt W g s) (fc : FineC c) => putChange_any g s c W fc q)
  have CY := Lib.hid (fun W g s (q : WAt W g s) => bytes_any g s W q)
  cases la with
  | true =>
    go_wp2_with (first
      | ((show wpList _ _ _ ({ dst := some 21, op := _, type := _, pos := _, after := _, guard := _ } :: _) _ _); (refine wpList_load_mid rfl _ _ rfl (w.heap.size + 1 + 1) 0 rfl (enC e0).toList _ hc3 Try.underlying43 rfl (by kernel_rfl) ?_))
      | (go_at_call 7; ((refine (CL.out _ _ _ _ r1.out r2.out r3.out).mono ?_); rintro e w2 ⟨rfl, k2⟩; have K2 := Lib.hid (bThen KP.out k2); clear k2)))
    go_ret
    exact ⟨rfl, K2.out⟩
  | false =>
    go_upto_region 5 with (first
      | ((show wpList _ _ _ ({ dst := some 21, op := _, type := _, pos := _, after := _, guard := _ } :: _) _ _); (refine wpList_load_mid rfl _ _ rfl (w.heap.size + 1 + 1) 0 rfl (enC e0).toList _ hc3 Try.underlying43 rfl (by kernel_rfl) ?_))
      | (go_at_call 7; ((refine (CL.out _ _ _ _ r1.out r2.out r3.out).mono ?_); rintro e w2 ⟨rfl, k2⟩; have Q1 := Lib.hid (P1.out.then k2); have Q2 := Lib.hid (P2.out.then k2); have Q3 := Lib.hid (P3.out.then k2); have K2 := Lib.hid (bThen KP.out k2); clear k2)))
    clear n1c n1l n2c n2l n3l hc3 r1 r2 r3 P1 P2 P3 KP M1 M2 M3 N1 N2 N3 B0 K1 CL CA
    have g3 : w.heap.size + 1 + 1 < w2.heap.size := Q3.out.lt
    have HW0 : Hid (WAt (w2.alloc (.cells YX.zW 48)) w2.heap.size (some [])) := Lib.hid ⟨[], YX.p0, 0, YX.p0_len, by omega, by simp, by simp, YX.AtH.new _ _ _⟩
    have KW := Lib.hid (bAl K2.out (.cells YX.zW 48))
    have T1 := Lib.hid (Q1.out.al (.cells YX.zW 48))
    have T2 := Lib.hid (Q2.out.al (.cells YX.zW 48))
    have T3 := Lib.hid (Q3.out.al (.cells YX.zW 48))
    clear Q1 Q2 Q3 K2
    obtain ⟨fo, fc, fe⟩ := fi hla
    have hc4 := range_of T3.out
    go_upto_region 7 with (first
      | ((show wpList _ _ _ ({ dst := some 27, op := _, type := _, pos := _, after := _, guard := _ } :: _) _ _); (refine wpList_load_mid rfl _ _ rfl (w.heap.size + 1 + 1) 0 rfl (enC e0).toList _ hc4 Try.underlying43 rfl (by kernel_rfl) ?_))
      | (go_at_call 15; ((refine (CE.out _ _ HW0.out fe).mono ?_); rintro e w3 ⟨rfl, r3, k3⟩; have HW3 := Lib.hid r3; have U1 := Lib.hid (T1.out.kept k3 (show w.heap.size ≠ w2.heap.size by omega)); have U2 := Lib.hid (T2.out.kept k3 (show w.heap.size + 1 ≠ w2.heap.size by omega)); have U3 := Lib.hid (T3.out.kept k3 (show w.heap.size + 1 + 1 ≠ w2.heap.size by omega)); have K3 := Lib.hid ((Kept.trans (P := (· ≠ w2.heap.size)) (.of_below KW.out) k3).below (Nat.le_refl _) (fun k hk => show k ≠ w2.heap.size by omega)); clear r3 k3)))
    clear hc4 HW0 KW T1 T2 T3 CE
    have u1c := U1.out.c
    have u1l := U1.out.lt
    go_upto_region 8 with (go_at_call 16; ((refine (CO1.out _ _ _ HW3.out fo).mono ?_); rintro e w4 ⟨rfl, r4, k4⟩; have HW4 := Lib.hid r4; have V1 := Lib.hid (U1.out.kept k4 (show w.heap.size ≠ w2.heap.size by omega)); have V2 := Lib.hid (U2.out.kept k4 (show w.heap.size + 1 ≠ w2.heap.size by omega)); have V3 := Lib.hid (U3.out.kept k4 (show w.heap.size + 1 + 1 ≠ w2.heap.size by omega)); have K4 := Lib.hid ((Kept.trans (P := (· ≠ w2.heap.size)) (.of_below K3.out) k4).below (Nat.le_refl _) (fun k hk => show k ≠ w2.heap.size by omega)); clear r4 k4))
    clear u1c u1l U1 U2 U3 HW3 K3
    have v2c := V2.out.c
    have v2l := V2.out.lt
    go_upto_region 9 with (go_at_call 17; ((refine (CC.out _ _ _ HW4.out fc).mono ?_); rintro e w5 ⟨rfl, r5, k5⟩; have HW5 := Lib.hid r5; have U1 := Lib.hid (V1.out.kept k5 (show w.heap.size ≠ w2.heap.size by omega)); have U2 := Lib.hid (V2.out.kept k5 (show w.heap.size + 1 ≠ w2.heap.size by omega)); have U3 := Lib.hid (V3.out.kept k5 (show w.heap.size + 1 + 1 ≠ w2.heap.size by omega)); have K5 := Lib.hid ((Kept.trans (P := (· ≠ w2.heap.size)) (.of_below K4.out) k5).below (Nat.le_refl _) (fun k hk => show k ≠ w2.heap.size by omega)); clear r5 k5))
    clear v2c v2l V1 V2 V3 HW4 K4
    have u1c := U1.out.c
    have u1l := U1.out.lt
    go_upto_region 10 with (go_at_call 16; ((refine (CO1.out _ _ _ HW5.out fo).mono ?_); rintro e w6 ⟨rfl, r6, k6⟩; have HW6 := Lib.hid (show WAt w6 w2.heap.size (codO.W (codC.W (codO.W (codE.W (some []) e0) ob0) c) ob0) from r6); have V1 := Lib.hid (U1.out.kept k6 (show w.heap.size ≠ w2.heap.size by omega)); have V2 := Lib.hid (U2.out.kept k6 (show w.heap.size + 1 ≠ w2.heap.size by omega)); have V3 := Lib.hid (U3.out.kept k6 (show w.heap.size + 1 + 1 ≠ w2.heap.size by omega)); have K6 := Lib.hid ((Kept.trans (P := (· ≠ w2.heap.size)) (.of_below K5.out) k6).below (Nat.le_refl _) (fun k hk => show k ≠ w2.heap.size by omega)); clear r6 k6))
    clear u1c u1l U1 U2 U3 HW5 K5 CO1 CC
    cases hb : codO.W (codC.W (codO.W (codE.W (some []) e0) ob0) c) ob0 with
    | none =>
      rw [hb] at HW6
      have CB := Lib.hid (bts_none (CY.out _ _ _ HW6.out))
      clear CY hb
      go_wp2_with (go_at_call 18; ((refine CB.out.mono ?_); rintro e w7 ⟨rfl, k7⟩; have K7 := Lib.hid (bThen K6.out k7); clear k7))
      go_ret
      exact ⟨rfl, K7.out⟩
    | some b =>
      rw [hb] at HW6
      have CB := Lib.hid (bts_some (CY.out _ _ _ HW6.out))
      have CR := Lib.hid (fun W A c (h : RdK u8K W W.heap.size A b) (hA : A = none → c = 0) => YX.read_any A c b W h (by have := w_lim hb; omega) hA)
      have hb0 := b_pos hb
      obtain ⟨s1, s2, s3, e1, e2, e3, e4⟩ := four_read fe fo fc hb
      clear CY hb fi fo fc fe hla
      go_upto_region 16 with (first
        | (go_at_call 18; ((refine CB.out.mono ?_); rintro e w7 ⟨A, cp, rfl, h7, k7⟩; have hA : A = none → cp = 0 := nn0 h7 hb0; have CRR := Lib.hid (CR.out _ _ _ h7 hA); have X1 := Lib.hid (V1.out.then k7); have X2 := Lib.hid (V2.out.then k7); have X3 := Lib.hid (V3.out.then k7); have K7 := Lib.hid (bThen K6.out k7); clear k7 h7))
        | (go_at_call 19; ((refine CRR.out.mono ?_); rintro e w8 ⟨R, rfl, r8, hR, k8⟩; have HR8 := Lib.hid r8; have Y1 := Lib.hid (X1.out.then k8); have Y2 := Lib.hid (X2.out.then k8); have Y3 := Lib.hid (X3.out.then k8); have K8 := Lib.hid (bThen K7.out k8); have x3l := X3.out.lt; clear k8 r8)))
      clear CB CR CRR X1 X2 X3 K7 hA hb0 HW6 V1 V2 V3 K6
      have l1 : w.heap.size ≠ R := by omega
      have l2 : w.heap.size + 1 ≠ R := by omega
      have l3 : w.heap.size + 1 + 1 ≠ R := by omega
      have q8 : w.heap.size ≤ R := by omega
      clear x3l hR
      exact behind_16 ob0 c e0 w R w8 b s1 s2 s3 _ _ _ _ _ _ _ _ _ _ _ _ _ _ _ _ _ _ _ _ _ _ _ _ _ _ _ _ _ _ _ _ _ _ _ _ _ _ _ _ _ _ _ _ _ _ _ _ _ _ _ _ _ _ _ _ _ _ _ _ _ _ _ _ _ _ _ _ _ _ _ _ _ _ _ _ _ _ e1 e2 e3 e4 l1 l2 l3 q8 Y1 Y2 Y3 HR8 K8 (by assumption)
end Go.Proofs.Ytkgjgbenfpkekaa.PX
/-
  An object, a change, an entry that came in by value, and is not too long.
-/
namespace Go.Proofs.Ytkgjgbenfpkekaa
open Go.ChangeShapes Go.WideShapes Go.ChangeAt Go.RowKit
set_option maxRecDepth 100000
set_option linter.unusedVariables false

theorem open_chV {H : Type} {enc : TypeId × Value → H} {W : World} {r : Reach} {b0 : Nat} {spare : Nat → Bool} {held : Bool} {v : Value} {d : DataW H} {p : List MemPlace}
    (hv : Value.okWide Try.prog W r b0 39 v) (h : DataW.Trod enc Try.prog W 0 spare held 39 v d p) : ∃ c : DX.Ch, v = DX.ch c ∧ c.kind ≤ 255 ∧ Fine c.o := by
  obtain ⟨cs, rfl, hsz⟩ := okWide_struct Try.underlying39 hv
  have hC : Try.prog.cellsOf 39 = 15 := by kernel_rfl
  rw [hC] at hsz
  obtain ⟨fuel, hf⟩ := h
  obtain ⟨l⟩ := cs
  match l, hsz with
  | [v0, v1, v2, v3, v4, v5, v6, v7, v8, v9, v10, v11, v12, v13, v14], _ =>
    obtain ⟨x, rfl, rfl, rfl, rfl, rfl, rfl, rfl, rfl, rfl, rfl, rfl, rfl, rfl, rfl, rfl, hk, hp⟩ := open_ch1 (show DataW.trod enc Try.prog W 0 spare held fuel 39 [v0, v1, v2, v3, v4, v5, v6, v7, v8, v9, v10, v11, v12, v13, v14] = some (d, p) from hf)
    exact ⟨x, rfl, hk, hp⟩
theorem open_enV {H : Type} {enc : TypeId × Value → H} {W : World} {r : Reach} {b0 : Nat} {spare : Nat → Bool} {held : Bool} {v : Value} {d : DataW H} {p : List MemPlace}
    (hv : Value.okWide Try.prog W r b0 43 v) (h : DataW.Trod enc Try.prog W 0 spare held 43 v d p) : ∃ x : PX.En, v = PX.en x ∧ InE x := by
  obtain ⟨cs, rfl, hsz⟩ := okWide_struct Try.underlying43 hv
  have hC : Try.prog.cellsOf 43 = 18 := by kernel_rfl
  rw [hC] at hsz
  obtain ⟨fuel, hf⟩ := h
  obtain ⟨l⟩ := cs
  match l, hsz with
  | [v0, v1, v2, v3, v4, v5, v6, v7, v8, v9, v10, v11, v12, v13, v14, v15, v16, v17], _ =>
    obtain ⟨x, rfl, rfl, rfl, rfl, rfl, rfl, rfl, rfl, rfl, rfl, rfl, rfl, rfl, rfl, rfl, rfl, rfl, rfl, hp⟩ := open_en1 (show DataW.trod enc Try.prog W 0 spare held fuel 43 [v0, v1, v2, v3, v4, v5, v6, v7, v8, v9, v10, v11, v12, v13, v14, v15, v16, v17] = some (d, p) from hf)
    exact ⟨x, rfl, hp⟩
namespace PX
open DX (Ch ch chCells chK)
theorem in_of {o : Ob} (h : Go.Proofs.Ytkgjgbenfpkekaa.Fine o) : In o :=
  ⟨by have := h.kind; omega, by have := h.typ; omega, by have := h.digits; omega, by have := h.assoc; omega, by have := h.lo; omega, by have := h.hi; omega, by have := h.value; omega, by have := h.low; omega, by have := h.high; omega⟩
theorem fines {l : List Ob} {s : List Ch} {es : List En} (b1 : ∀ x ∈ l, Go.Proofs.Ytkgjgbenfpkekaa.Fine x) (b2 : ∀ x ∈ s, x.kind ≤ 255 ∧ Go.Proofs.Ytkgjgbenfpkekaa.Fine x.o) (b3 : ∀ x ∈ es, InE x) (h : longAll l s es = false) :
    (∀ x ∈ l, Fine x) ∧ (∀ x ∈ s, FineC x) ∧ (∀ x ∈ es, FineE x) := by
  simp only [longAll, Bool.or_eq_false_iff] at h
  obtain ⟨⟨⟨_, h1⟩, h2⟩, h3⟩ := h
  refine ⟨fun x hx => fine_of (in_of (b1 x hx)) ?_, fun x hx => ⟨by have := (b2 x hx).1; omega, fine_of (in_of (b2 x hx).2) ?_⟩, fun x hx => ?_⟩
  · cases e : longB x with
    | false => rfl
    | true => rw [List.any_eq_true.2 ⟨x, hx, e⟩] at h1; cases h1
  · cases e : longB x.o with
    | false => rfl
    | true => rw [List.any_eq_true.2 ⟨x, hx, e⟩] at h2; cases h2
  · cases e : longE x with
    | true => rw [List.any_eq_true.2 ⟨x, hx, e⟩] at h3; cases h3
    | false =>
      simp only [longE, Bool.or_eq_false_iff, decide_eq_false_iff_not] at e
      obtain ⟨_, c2, c3, c4⟩ := b3 x hx
      exact ⟨by rw [tx_len]; omega, fine_of (in_of c2) e.1, by omega, by omega⟩
end PX
end Go.Proofs.Ytkgjgbenfpkekaa
/-
  The law RecordBehind over what came in.
-/
namespace Go.Proofs.Ytkgjgbenfpkekaa.PX
open Go.RowKit HL
open DX (Ch ch chCells chK)
set_option maxRecDepth 100000
set_option linter.unusedVariables false

theorem behind_in (o : Ob) (c : Ch) (e : En) (w : World) (h1 : Go.Proofs.Ytkgjgbenfpkekaa.Fine o) (h2 : c.kind ≤ 255 ∧ Go.Proofs.Ytkgjgbenfpkekaa.Fine c.o) (h3 : InE e) :
    Calls Try.prog 4 #[ob o, ch c, en e] w fun e w' => e = .returned (.bool true) ∧ Below w.heap.size w w' :=
  behind_walk o c e w fun hl => by
    obtain ⟨a, b, d⟩ := fines (l := [o]) (s := [c]) (es := [e]) (fun x hx => by cases List.mem_singleton.1 hx; exact h1) (fun x hx => by cases List.mem_singleton.1 hx; exact h2) (fun x hx => by cases List.mem_singleton.1 hx; exact h3) hl
    exact ⟨a _ (List.mem_singleton.2 rfl), b _ (List.mem_singleton.2 rfl), d _ (List.mem_singleton.2 rfl)⟩
end Go.Proofs.Ytkgjgbenfpkekaa.PX
