/-
  WALKS: Apply of one change that makes an object, to a list of one, in order (the chapter's example).
-/
import Derived.Test.YtncahpbjbgcnbaaGreatDoorEO10
import Derived.BigQuiet
import Derived.Test.YtncahpbjbgcnbaaGreatDoorEO6
namespace Go.Proofs.YtncahpbjbgcnbaaGreatDoor.DX
open Go.RowKit HL
open IX (ptr El cellsK cellsK_at OwnK RdK strK)
open WX (obK obs_at hb pb rb tl_ne bs_eq findO findO_some findO_none findO_at obO ret_ob2)
set_option maxRecDepth 100000
set_option linter.unusedVariables false
set_option linter.unusedSimpArgs false

set_option maxHeartbeats 8000000 in
theorem stable_two {A : Option Addr} (a b : Ob) (c : Nat) (w : World) (h : RdK obK w w.heap.size A [a, b]) (hc : ¬ Lib.compareBytes (hb b) (hb a) < 0) :
    Calls Tryz.prog 52 #[.slice A 2 c, .int .i64 2, .func (.func 33) #[] #[]] w fun e w' => e = .returned (.tuple #[]) ∧ Below w.heap.size w w' := by
  have CI := Lib.hid (insert_two a b c w h hc)
  clear h hc
  go_enter Tryz.func52, Tryz.ntmps52
  go_wp2
  refine wp_loop_rounds 1 ?_
  rw [rounds_succ]
  go_wp2_with (go_at_call 68; ((with_reducible refine CI.out.mono ?_); rintro e w1 ⟨rfl, k1⟩))
  refine wp_loop_rounds 1 ?_
  rw [rounds_succ]
  go_wp2
  go_end0
  exact ⟨rfl, k1⟩
set_option maxHeartbeats 4000000 in
theorem sortStable_two {A : Option Addr} (a b : Ob) (c : Nat) (w : World) (h : RdK obK w w.heap.size A [a, b]) (hc : ¬ Lib.compareBytes (hb b) (hb a) < 0) :
    Calls Tryz.prog 32 #[.slice A 2 c, .func (.func 33) #[] #[]] w fun e w' => e = .returned (.tuple #[]) ∧ Below w.heap.size w w' := by
  have CI := Lib.hid (stable_two a b c w h hc)
  clear h hc
  go_enter Tryz.func32, Tryz.ntmps32
  go_wp2_with (go_at_call 52; ((with_reducible refine CI.out.mono ?_); rintro e w1 ⟨rfl, k1⟩))
  go_end0
  exact ⟨rfl, k1⟩
set_option maxHeartbeats 8000000 in
theorem apply_two (ad : Addr) (A2 : Option Addr) (d v : Ob) (c1 c2 : Nat) (w : World) (hr : RdK obK w w.heap.size (some ad) [d]) (h : RdK chK w w.heap.size A2 [⟨1, v⟩]) (hM : MeetsC ⟨1, v⟩ w)
    (hE : fitsE [d] [⟨1, v⟩] = 0) (hne : hb d ≠ hb v) (hc : ¬ Lib.compareBytes (hb v) (hb d) < 0) :
    Calls Tryz.prog 10 #[.slice (some ad) 1 c1, .slice A2 1 c2] w fun e w' => ∃ A3 c3, e = .returned (.tuple #[.slice A3 2 c3, .int .i64 0]) ∧ RdK obK w' w'.heap.size A3 [d, v] ∧ Below w.heap.size w w' := by
  have CF := fits_any (A1 := some ad) (A2 := A2) [d] c1 [⟨1, v⟩] c2 w hr (by simp) h (by simp) (fun c hc => by
    obtain rfl : c = ⟨1, v⟩ := by simpa using hc
    exact hM)
  rw [hE] at CF
  simp only [List.length_cons, List.length_nil, Nat.zero_add] at CF
  have CF := Lib.hid CF
  have CC := Lib.hid (fun W (k : Below w.heap.size w W) => show Calls Tryz.prog 30 #[.slice (some ad) 1 c1] W fun e w' => ∃ v, e = .returned v ∧ OwnK obK w' W.heap.size v [d] ∧ Below W.heap.size W w' from cloneO_any ad c1 [d] W ((hr.below k).more k.size) (by simp))
  have CP := Lib.hid (fun W own base (o1 : OwnK obK W base own [d]) (hb1 : base ≤ W.heap.size) => put_new ⟨1, v⟩ [d] own base W o1 (by simp) hb1 (fun o ho => by
    obtain rfl : o = d := by simpa using ho
    exact hne))
  have CS := Lib.hid (fun W A c (r : RdK obK W W.heap.size A [d, v]) => sortStable_two d v c W r hc)
  have H := Lib.hid h
  clear hr h hM hE hne hc
  go_enter Tryz.func10, Tryz.ntmps10
  go_wp2_with (first
    | (go_at_call 11; ((with_reducible refine CF.out.mono ?_); rintro e w1 ⟨rfl, k1⟩))
    | (go_at_call 30; ((with_reducible refine (CC.out _ k1).mono ?_); rintro e w2 ⟨v0, rfl, o2, q2⟩; have K2 := Lib.hid (bThen k1 q2); have O2 := Lib.hid (o2.base k1.size); have hb2 := q2.size; clear o2 q2)))
  go_loopw [7, 20] (fun own i wr => ((i = .int .i64 0 ∧ Hid (OwnK obK wr w.heap.size own [d])) ∨ (i = .int .i64 1 ∧ Hid (OwnK obK wr w.heap.size own [d, v]))) ∧ Below w.heap.size w wr) (fun _ i _ => 1 - (intOf i).toNat)
  case atStart => exact ⟨.inl ⟨rfl, O2⟩, K2.out⟩
  case round =>
    obtain ⟨hi, k3⟩ := hrel
    have K3 := Lib.hid k3
    rcases hi with ⟨rfl, HO⟩ | ⟨rfl, HO⟩
    · obtain ⟨b, off, rfl, hbk, hcc⟩ := chs_at (H.out.below k3) (by simp)
      obtain ⟨p0, p1, p2, p3, p4, p5, p6, p7, p8, p9, p10, p11, p12, p13, p14⟩ := hcc 0 _ rfl
      simp only [Nat.zero_mul, Nat.add_zero] at p0 p1 p2 p3 p4 p5 p6 p7 p8 p9 p10 p11 p12 p13 p14
      try dsimp only at p0 p1 p2 p3 p4 p5 p6 p7 p8 p9 p10 p11 p12 p13 p14
      clear hcc
      have hs := k3.size
      go_wp2_with (go_at_call 31; ((refine (CP.out _ _ w.heap.size (HO.out.below (bAl (Below.refl _ wr) (.cells (chCells ⟨1, v⟩) 39))) (bAl k3 (.cells (chCells ⟨1, v⟩) 39)).size).mono ?_); rintro e w4 ⟨v4, rfl, o4, q4⟩; have O4 := Lib.hid o4; have K4 := Lib.hid ((bAl k3 (.cells (chCells ⟨1, v⟩) 39)).trans q4); clear o4 q4))
      go_roundw
      case rel => exact ⟨.inr ⟨rfl, O4⟩, K4.out⟩
      case measure => simp [intOf]
    · obtain ⟨A3, c3, rfl, r3, _, _⟩ := HO.out.form
      have R3 := Lib.hid r3
      have CT := Lib.hid (CS.out wr A3 c3 r3)
      clear r3
      go_wp2_with (go_at_call 32; ((with_reducible refine CT.out.mono ?_); rintro e w5 ⟨rfl, q5⟩; have R5 := Lib.hid ((R3.out.below q5).more q5.size); have K5 := Lib.hid (bThen k3 q5); clear q5))
      go_ret2
      exact ⟨A3, c3, rfl, R5.out, K5.out⟩
end Go.Proofs.YtncahpbjbgcnbaaGreatDoor.DX
/-
  PLAIN AND WALKS: the chapter's examples of changes: their faults; the document's Same of two equal rows of objects.
-/
namespace Go.Proofs.YtncahpbjbgcnbaaGreatDoor.DX
open Go.RowKit HL
open IX (ptr El cellsK cellsK_at OwnK RdK strK)
open WX (obK obs_at hb pb rb tl_ne bs_eq findO findO_some findO_none findO_at obO ret_ob2)
set_option maxRecDepth 100000
set_option linter.unusedVariables false
set_option linter.unusedSimpArgs false

set_option maxHeartbeats 4000000 in
theorem sameO_yes (A1 A2 : Option Addr) (c1 c2 m : Nat) (l : List Ob) (w : World) (h1 : RdK obK w w.heap.size A1 l) (h2 : RdK obK w w.heap.size A2 l) (hm : l.length = m) (hn : m ≤ 1000000) :
    Calls Tryz.prog 12 #[.slice A1 m c1, .slice A2 m c2] w fun e w' => e = .returned (.bool true) ∧ Below w.heap.size w w' := by
  subst hm
  have H1 := Lib.hid h1
  have H2 := Lib.hid h2
  clear h1 h2
  go_enter Tryz.func12, Tryz.ntmps12
  go_wp2
  go_loopw [5] (fun i wr => ∃ k : Nat, i = .int .i64 k ∧ k ≤ l.length ∧ Below w.heap.size w wr) (fun i _ => l.length - (intOf i).toNat)
  case atStart => exact ⟨0, rfl, Nat.zero_le _, Below.refl _ _⟩
  case round =>
    obtain ⟨k, rfl, hk, k1⟩ := hrel
    by_cases hlt : k < l.length
    · obtain ⟨b, off, rfl, hb1, hc⟩ := obs_at (H1.out.below k1) (by omega)
      obtain ⟨b2, off2, rfl, hb2, hc2⟩ := obs_at (H2.out.below k1) (by omega)
      obtain ⟨p0, p1, p2, p3, p4, p5, p6, p7, p8, p9, p10, p11, p12, p13⟩ := hc k _ (List.getElem?_eq_getElem hlt)
      obtain ⟨q0, q1, q2, q3, q4, q5, q6, q7, q8, q9, q10, q11, q12, q13⟩ := hc2 k _ (List.getElem?_eq_getElem hlt)
      have i1 : (k : Int) < l.length := by omega
      have K1 := Lib.hid k1
      clear hc hc2 k1
      generalize l[k] = o at *
      go_wp2
      go_quiet (fail)
      go_wp2
      go_roundw
      case rel => exact ⟨k + 1, by go_num, by omega, K1.out.trans ⟨rfl, rfl, rfl, Nat.le_refl _, fun _ _ => rfl⟩⟩
      case measure => simp [intOf]; omega
    · obtain rfl : k = l.length := by omega
      have i1 : ¬ (l.length : Int) < l.length := by omega
      go_wp2
      go_ret
      exact ⟨rfl, k1⟩
theorem rdLit {α : Type} {K : El α} {W : World} {g : Nat} {C : Array Value} {T : TypeId} {l : List α} (hg : g = W.heap.size) (hC : C.toList = cellsK K l) : RdK K (W.alloc (.cells C T)) (W.alloc (.cells C T)).heap.size (some ⟨g, 0, none⟩) l := by
  subst hg
  refine .inr ⟨W.heap.size, 0, rfl, by simp, fun m u hu => ?_⟩
  rw [World.cell?_alloc_at _ _ _ _ rfl, Nat.zero_add, ← Array.getElem?_toList, hC]
  exact hu
theorem RdK.al {α : Type} {K : El α} {W : World} {A : Option Addr} {l : List α} (h : RdK K W W.heap.size A l) (o : Obj) : RdK K (W.alloc o) (W.alloc o).heap.size A l := (h.below (bAl (Below.refl _ _) o)).more (by simp)
theorem RdK.on {α : Type} {K : El α} {W W1 : World} {A : Option Addr} {l : List α} (h : RdK K W W.heap.size A l) (k : Below W.heap.size W W1) : RdK K W1 W1.heap.size A l := (h.below k).more k.size
abbrev exD : Ob := ⟨⟨#[100]⟩, 1, ⟨#[]⟩, 0, ⟨#[]⟩, 0, 0, 0, false, false, 0, 0, 0, 0⟩
abbrev exW : Ob := ⟨⟨#[118]⟩, 2, ⟨#[100]⟩, 0, ⟨#[]⟩, 0, 0, 0, false, false, 0, 0, 0, 0⟩
abbrev exS : Ob := ⟨⟨#[118]⟩, 2, ⟨#[]⟩, 0, ⟨#[]⟩, 0, 0, 0, false, false, 0, 0, 0, 0⟩
abbrev exO : Ob := ⟨⟨#[100]⟩, 2, ⟨#[]⟩, 0, ⟨#[]⟩, 0, 0, 0, false, false, 0, 0, 0, 0⟩
abbrev exG : Ob := ⟨⟨#[118]⟩, 0, ⟨#[]⟩, 0, ⟨#[]⟩, 0, 0, 0, false, false, 0, 0, 0, 0⟩
def mayT (s : ByteArray) : Bool :=
  decide (1 ≤ s.size) && decide (s.size ≤ 16) && HL.ltrI (HL.bt s 0) && (List.range s.size).all (fun k => HL.latI (HL.bt s k)) && (List.range s.size).all (fun k => decide (k + 1 < s.size → ¬ (HL.bt s k = 46 ∧ HL.bt s (k + 1) = 46))) && decide (HL.bt s (s.size - 1) ≠ 46)
theorem mayB_t (s : ByteArray) : HL.mayB s = mayT s := by
  rw [Bool.eq_iff_iff, HL.mayB_iff]
  unfold mayT HL.MayP
  simp only [Bool.and_eq_true, decide_eq_true_eq, List.all_eq_true, List.mem_range]
  constructor
  · rintro ⟨a, b, c, d, e, f⟩
    exact ⟨⟨⟨⟨⟨a, b⟩, c⟩, d⟩, fun k _ => e k⟩, f⟩
  · rintro ⟨⟨⟨⟨⟨a, b⟩, c⟩, d⟩, e⟩, f⟩
    exact ⟨a, b, c, d, fun k hk => e k (by omega) hk, f⟩
theorem fits_of {o : Ob} (h1 : kindB o.kind = true) (h2 : trimOf o = o) (h3 : o.typ ≤ 3) (h4 : o.assoc ≤ 3) : fitsB o = true := by
  cases h : fitsB o with
  | true => rfl
  | false =>
    rcases (fits_iff o).1 h with k | k | k | k
    · rw [h1] at k; cases k
    · exact absurd h2 k
    · omega
    · omega
theorem faultP_ok {o : Ob} {whole : Bool} (h1 : fitsB o = true) (h2 : HL.mayB o.handle = true) (h3 : whole = true → namedB o = true) (h4 : countsObB o = true) (h5 : orderedB o = true) (h6 : whole = true → o.has = true → hasB o.lo o.hi o.value = true) : faultP o whole = 0 := by
  unfold faultP
  rw [if_neg (by simp [h1]), if_neg, if_neg (by simp [h4]), if_neg]
  · rintro (h | ⟨a, b, c⟩)
    · rw [h5] at h; cases h
    · rw [h6 a b] at c; cases c
  · rintro (h | ⟨a, b⟩)
    · rw [h2] at h; cases h
    · rw [h3 a] at b; cases b
theorem may_d : HL.mayB ⟨#[100]⟩ = true := by rw [mayB_t]; decide +kernel
theorem may_v : HL.mayB ⟨#[118]⟩ = true := by rw [mayB_t]; decide +kernel
theorem exD_ok : faultP exD true = 0 := faultP_ok (fits_of rfl rfl (by decide) (by decide)) may_d (fun _ => by unfold namedB; simp [may_d, refersB]) (by decide +kernel) (by decide +kernel) (fun _ h => by cases h)
theorem exW_ok : faultP exW true = 0 := faultP_ok (fits_of rfl rfl (by decide) (by decide)) may_v (fun _ => by unfold namedB; simp [may_d, refersB]) (by decide +kernel) (by decide +kernel) (fun _ h => by cases h)
theorem exS_ok : faultP (descOf exS zeroOb) false = 0 := faultP_ok (fits_of rfl rfl (by decide) (by decide)) may_v (fun h => by cases h) (by decide +kernel) (by decide +kernel) (fun h => by cases h)
theorem exO_ok : faultP (descOf exO zeroOb) false = 0 := faultP_ok (fits_of rfl rfl (by decide) (by decide)) may_d (fun h => by cases h) (by decide +kernel) (by decide +kernel) (fun h => by cases h)
theorem one_1d : oneB ⟨1, exD⟩ = true := by
  unfold oneB
  rw [soundB_1 rfl, exD_ok, partOf_1, eqOb_t rfl]; rfl
theorem one_1v : oneB ⟨1, exW⟩ = true := by
  unfold oneB
  rw [soundB_1 rfl, exW_ok, partOf_1, eqOb_t rfl]; rfl
theorem one_3s : oneB ⟨3, exS⟩ = true := by
  unfold oneB
  rw [soundB_3 rfl, exS_ok]
  have e : eqOb exS (partOf 3 exS) = true := eqOb_t rfl
  show (eqOb exS (partOf 3 exS) && _) = true
  rw [e]; rfl
theorem one_3o : oneB ⟨3, exO⟩ = true := by
  unfold oneB
  rw [soundB_3 rfl, exO_ok]
  have e : eqOb exO (partOf 3 exO) = true := eqOb_t rfl
  show (eqOb exO (partOf 3 exO) && _) = true
  rw [e]; rfl
theorem one_3v : oneB ⟨3, exW⟩ = false := by
  unfold oneB
  rw [partOf_3, eqOb_f (fun h => absurd (congrArg Ob.parent h) (by decide))]; rfl
theorem mayC_one {c : Ch} (h : oneB c = true) : mayC [c] = true := mayC_iff.2 ⟨by simp, fun x hx => by
  obtain rfl : x = c := by simpa using hx
  exact h, by simp [hsC]⟩
theorem fits_a : fitsE [exD] [⟨1, exW⟩] = 0 := (fitsE_t (mayC_one one_1v)).trans (by decide +kernel)
theorem fits_b : fitsE [exD] [⟨1, exD⟩] = 71 := (fitsE_t (mayC_one one_1d)).trans (by decide +kernel)
theorem fits_c : fitsE [exD] [⟨3, exS⟩] = 70 := (fitsE_t (mayC_one one_3s)).trans (by decide +kernel)
theorem fits_d : fitsE [exD] [⟨3, exO⟩] = 40 := (fitsE_t (mayC_one one_3o)).trans (by decide +kernel)
theorem may_e : mayE [⟨3, exW⟩] = 100 := mayE_f (mayC_bad (List.mem_singleton.2 rfl) one_3v)
theorem may_f : mayE [⟨3, exS⟩, ⟨3, exS⟩] = 100 := mayE_f (mayC_two (by simp [hsC]))
theorem may_g : mayE [] = 0 := mayE_t (mayC_iff.2 ⟨by simp, by simp, by simp [hsC]⟩)
theorem undo_a : undoR [exD] [⟨1, exW⟩] = [⟨4, exG⟩] := by unfold undoR; rw [if_pos fits_a]; rfl
theorem cmp_a : ¬ Lib.compareBytes (hb exW) (hb exD) < 0 := by decide +kernel
theorem ne_a : hb exD ≠ hb exW := by decide +kernel
end Go.Proofs.YtncahpbjbgcnbaaGreatDoor.DX
/-
  WALK: the laws' awake of changes: the chapter's examples.
-/
namespace Go.Proofs.YtncahpbjbgcnbaaGreatDoor.DX
open Go.RowKit HL
open IX (ptr El cellsK cellsK_at OwnK RdK strK)
open WX (obK obs_at hb pb rb tl_ne bs_eq findO findO_some findO_none findO_at obO ret_ob2)
set_option maxRecDepth 100000
set_option linter.unusedVariables false
set_option linter.unusedSimpArgs false

theorem meets_lit {c : Ch} {W : World} (ht : Words W ∧ Kinds W) (h0 : c.kind ≤ 255) (h1 : c.o.kind ≤ 255) (h2 : c.o.typ ≤ 255) (h3 : c.o.digits ≤ 255) (h4 : c.o.assoc ≤ 255) (h5 : c.o.handle.size ≤ maxLen) (h6 : c.o.parent.size ≤ maxLen) (h7 : c.o.ref.size ≤ maxLen) : MeetsC c W := ⟨h0, h1, h2, h3, h4, h5, h6, h7, ht.1, ht.2⟩
theorem one_mem {c : Ch} {W : World} (h : MeetsC c W) : ∀ x ∈ [c], MeetsC x W := fun x hx => by
  obtain rfl : x = c := by simpa using hx
  exact h
noncomputable def awake11 : Code := TX.bodyC Tryz.f16 [1, 1, 1, 1, 1, 1, 1, 1, 1, 1, 0]
set_option maxHeartbeats 16000000 in
theorem awake_last (w w5 : World) (ht : Words w ∧ Kinds w) (D V S O gL : Nat) (u4 u5 u6 u7 u8 u11 u12 u13 u14 u15 u16 u17 u18 u19 u20 u21 u22 u23 u24 u25 u26 u27 u28 u29 u30 u31 u32 u33 u34 u35 u36 u37 u38 u39 u40 u41 u42 u43 u44 u45 u46 u47 u48 u49 u50 u51 u52 u53 u54 u55 u56 u57 u58 u59 u60 u61 u62 u63 u64 u65 u66 u67 u68 u69 u70 u71 u72 u73 u74 u75 u76 u77 u78 u79 u80 u81 u82 u83 u84 u85 u86 u87 u88 u89 u90 u91 u92 u93 u94 : Value) {Q : Exit → Act → World → Prop} (kk : Below w.heap.size w w5) (mD0 : AtC w5 D (obCells exD)) (mV0 : AtC w5 V (obCells exW)) (mS0 : AtC w5 S (chCells ⟨3, exS⟩)) (mO0 : AtC w5 O (chCells ⟨3, exO⟩)) (rL0 : RdK obK w5 w5.heap.size (some ⟨gL, 0, none⟩) [exD])
    (hQ : ∀ (x57 x58 x59 x60 x61 x62 x63 x64 x65 x66 x67 x68 x69 x70 x71 x72 x73 x74 x75 x76 x77 x78 x79 x80 x81 x82 x83 x84 x85 x86 x87 x88 x89 x90 x91 x92 x93 x94 : Value) (w' : World), Below w.heap.size w w' → Q .normal { tmps := #[.bool true, ptr D, ptr V, .slice (some ⟨gL, 0, none⟩) 1 1, u4, u5, u6, u7, u8, ptr S, ptr O, u11, u12, u13, u14, u15, u16, u17, u18, u19, u20, u21, u22, u23, u24, u25, u26, u27, u28, u29, u30, u31, u32, u33, u34, u35, u36, u37, u38, u39, u40, u41, u42, u43, u44, u45, u46, u47, u48, u49, u50, u51, u52, u53, u54, u55, u56, x57, x58, x59, x60, x61, x62, x63, x64, x65, x66, x67, x68, x69, x70, x71, x72, x73, x74, x75, x76, x77, x78, x79, x80, x81, x82, x83, x84, x85, x86, x87, x88, x89, x90, x91, x92, x93, x94], defers := [] } w') :
    Code.wp Tryz.prog awake11 Q { tmps := #[.bool false, ptr D, ptr V, .slice (some ⟨gL, 0, none⟩) 1 1, u4, u5, u6, u7, u8, ptr S, ptr O, u11, u12, u13, u14, u15, u16, u17, u18, u19, u20, u21, u22, u23, u24, u25, u26, u27, u28, u29, u30, u31, u32, u33, u34, u35, u36, u37, u38, u39, u40, u41, u42, u43, u44, u45, u46, u47, u48, u49, u50, u51, u52, u53, u54, u55, u56, u57, u58, u59, u60, u61, u62, u63, u64, u65, u66, u67, u68, u69, u70, u71, u72, u73, u74, u75, u76, u77, u78, u79, u80, u81, u82, u83, u84, u85, u86, u87, u88, u89, u90, u91, u92, u93, u94], defers := [] } w5 := by
  have HQ := Lib.hid hQ
  clear hQ
  have h0 : Below w.heap.size w w := Below.refl _ _
  have tW : ∀ W, Below w.heap.size w W → Words W ∧ Kinds W := fun W k => ⟨ht.1.then k, ht.2.then k⟩
  have CF := Lib.hid (fun W (k : Below w.heap.size w W) (x : Ch) (v : Int) (hx : ∀ W, Words W ∧ Kinds W → MeetsC x W) (hv : fitsE [exD] [x] = v) A1 A2 c1 c2 (r : RdK obK W W.heap.size A1 [exD]) (q : RdK chK W W.heap.size A2 [x]) => show Calls Tryz.prog 11 #[.slice A1 1 c1, .slice A2 1 c2] W fun e w' => e = .returned (.int .i64 v) ∧ Below W.heap.size W w' from by
    have := fits_any (A1 := A1) (A2 := A2) [exD] c1 [x] c2 W r (by simp) q (by simp) (one_mem (hx W (tW W k)))
    rw [hv] at this
    exact this)
  have CM := Lib.hid (fun W (k : Below w.heap.size w W) (l : List Ch) (n : Nat) (v : Int) (hn : l.length = n) (h8 : n ≤ 1000) (hx : ∀ x ∈ l, ∀ W, Words W ∧ Kinds W → MeetsC x W) (hv : mayE l = v) A2 c2 (q : RdK chK W W.heap.size A2 l) => show Calls Tryz.prog 20 #[.slice A2 n c2] W fun e w' => e = .returned (.int .i64 v) ∧ Below W.heap.size W w' from by
    subst hn
    have := may10_any A2 c2 l W q h8 (fun x h => hx x h W (tW W k))
    rw [hv] at this
    exact this)
  clear tW ht
  have k5 := Lib.hid kk
  have cD := mD0.c
  have MV := Lib.hid mV0
  have MS := Lib.hid mS0
  have MO := Lib.hid mO0
  have RL := Lib.hid rL0
  clear kk mD0 mV0 mS0 mO0 rL0
  conv => arg 2; simp only [awake11, TX.bodyC, Tryz.f16, TX.pathC]
  go_wp2_with fail
  go_at_call 11
  refine (CF.out _ (bAl k5.out _) ⟨1, exD⟩ 71 (fun W h => meets_lit h (by decide) (by decide) (by decide) (by decide) (by decide) (by decide) (by decide) (by decide)) fits_b _ _ _ _ (RdK.al RL.out _) (rdLit (by simp) rfl)).mono ?_
  rintro e w6 ⟨rfl, q6⟩
  have k6 := Lib.hid (bThen (bAl k5.out _) q6)
  have MV := Lib.hid ((MV.out.al _).then q6)
  have mS := (MS.out.al _).then q6
  have cS := mS.c
  have MS := Lib.hid mS
  have MO := Lib.hid ((MO.out.al _).then q6)
  have RL := Lib.hid (RdK.on (RdK.al RL.out _) q6)
  clear mS q6 cD
  go_wp2_with fail
  go_at_call 11
  refine (CF.out _ (bAl k6.out _) ⟨3, exS⟩ 70 (fun W h => meets_lit h (by decide) (by decide) (by decide) (by decide) (by decide) (by decide) (by decide) (by decide)) fits_c _ _ _ _ (RdK.al RL.out _) (rdLit (by simp) rfl)).mono ?_
  rintro e w7 ⟨rfl, q7⟩
  have k7 := Lib.hid (bThen (bAl k6.out _) q7)
  have MV := Lib.hid ((MV.out.al _).then q7)
  have MS := Lib.hid ((MS.out.al _).then q7)
  have mO := (MO.out.al _).then q7
  have cO := mO.c
  have RL := Lib.hid (RdK.on (RdK.al RL.out _) q7)
  clear mO q7 cS
  go_wp2_with fail
  go_at_call 11
  refine (CF.out _ (bAl k7.out _) ⟨3, exO⟩ 40 (fun W h => meets_lit h (by decide) (by decide) (by decide) (by decide) (by decide) (by decide) (by decide) (by decide)) fits_d _ _ _ _ (RdK.al RL.out _) (rdLit (by simp) rfl)).mono ?_
  rintro e w8 ⟨rfl, q8⟩
  have k8 := Lib.hid (bThen (bAl k7.out _) q8)
  have mV := (MV.out.al _).then q8
  have cV := mV.c
  have MS := Lib.hid ((MS.out.al _).then q8)
  clear mV q8 cO
  go_wp2_with fail
  go_at_call 20
  refine (CM.out _ (bAl k8.out _) [⟨3, exW⟩] 1 100 rfl (by decide) (fun x hx => by
    obtain rfl : x = ⟨3, exW⟩ := by simpa using hx
    exact (fun W h => meets_lit h (by decide) (by decide) (by decide) (by decide) (by decide) (by decide) (by decide) (by decide))) may_e _ _ (rdLit (by simp) rfl)).mono ?_
  rintro e w9 ⟨rfl, q9⟩
  have k9 := Lib.hid (bThen (bAl k8.out _) q9)
  have mS := (MS.out.al _).then q9
  have cS := mS.c
  clear mS q9 cV
  go_wp2_with fail
  go_at_call 20
  refine (CM.out _ (bAl k9.out _) [⟨3, exS⟩, ⟨3, exS⟩] 2 100 rfl (by decide) (fun x hx => by
    obtain rfl : x = ⟨3, exS⟩ := by simpa using hx
    exact (fun W h => meets_lit h (by decide) (by decide) (by decide) (by decide) (by decide) (by decide) (by decide) (by decide))) may_f _ _ (rdLit (by simp) rfl)).mono ?_
  rintro e w10 ⟨rfl, q10⟩
  have k10 := Lib.hid (bThen (bAl k9.out _) q10)
  clear q10 cS
  go_wp2_with fail
  go_at_call 20
  refine (CM.out _ k10.out [] 0 0 rfl (by decide) (fun x hx => by cases hx) may_g none 0 (.inl rfl)).mono ?_
  rintro e w11 ⟨rfl, q11⟩
  have k11 := Lib.hid (bThen k10.out q11)
  go_wp2_with fail
  exact HQ.out _ _ _ _ _ _ _ _ _ _ _ _ _ _ _ _ _ _ _ _ _ _ _ _ _ _ _ _ _ _ _ _ _ _ _ _ _ _ _ k11.out
set_option maxHeartbeats 16000000 in
theorem awake10_any (w : World) (ht : Words w ∧ Kinds w) : Calls Tryz.prog 16 #[] w fun e w' => e = .returned (.bool true) ∧ Below w.heap.size w w' := by
  have h0 : Below w.heap.size w w := Below.refl _ _
  have tW : ∀ W, Below w.heap.size w W → Words W ∧ Kinds W := fun W k => ⟨ht.1.then k, ht.2.then k⟩
  have CA := Lib.hid (fun W (k : Below w.heap.size w W) ad A2 c1 c2 (r : RdK obK W W.heap.size (some ad) [exD]) (q : RdK chK W W.heap.size A2 [⟨1, exW⟩]) => apply_two ad A2 exD exW c1 c2 W r q (meets_lit (tW W k) (by decide) (by decide) (by decide) (by decide) (by decide) (by decide) (by decide) (by decide)) fits_a ne_a cmp_a)
  have CU := Lib.hid (fun W (k : Below w.heap.size w W) A1 A2 c1 c2 (r : RdK obK W W.heap.size A1 [exD]) (q : RdK chK W W.heap.size A2 [⟨1, exW⟩]) => show Calls Tryz.prog 19 #[.slice A1 1 c1, .slice A2 1 c2] W fun e w' => ∃ A3 c3, e = .returned (.tuple #[.slice A3 1 c3, .int .i64 0]) ∧ RdK chK w' w'.heap.size A3 [⟨4, exG⟩] ∧ Below W.heap.size W w' from by
    have := undo_any (A1 := A1) (A2 := A2) [exD] c1 [⟨1, exW⟩] c2 W r (by simp) q (by simp) (one_mem (meets_lit (tW W k) (by decide) (by decide) (by decide) (by decide) (by decide) (by decide) (by decide) (by decide)))
    rw [undo_a, fits_a] at this
    exact this)
  have CF := Lib.hid (fun W (k : Below w.heap.size w W) (x : Ch) (v : Int) (hx : ∀ W, Words W ∧ Kinds W → MeetsC x W) (hv : fitsE [exD] [x] = v) A1 A2 c1 c2 (r : RdK obK W W.heap.size A1 [exD]) (q : RdK chK W W.heap.size A2 [x]) => show Calls Tryz.prog 11 #[.slice A1 1 c1, .slice A2 1 c2] W fun e w' => e = .returned (.int .i64 v) ∧ Below W.heap.size W w' from by
    have := fits_any (A1 := A1) (A2 := A2) [exD] c1 [x] c2 W r (by simp) q (by simp) (one_mem (hx W (tW W k)))
    rw [hv] at this
    exact this)
  have CM := Lib.hid (fun W (k : Below w.heap.size w W) (l : List Ch) (n : Nat) (v : Int) (hn : l.length = n) (h8 : n ≤ 1000) (hx : ∀ x ∈ l, ∀ W, Words W ∧ Kinds W → MeetsC x W) (hv : mayE l = v) A2 c2 (q : RdK chK W W.heap.size A2 l) => show Calls Tryz.prog 20 #[.slice A2 n c2] W fun e w' => e = .returned (.int .i64 v) ∧ Below W.heap.size W w' from by
    subst hn
    have := may10_any A2 c2 l W q h8 (fun x h => hx x h W (tW W k))
    rw [hv] at this
    exact this)
  have CO := Lib.hid (fun W => show Calls Tryz.prog 25 #[.agg #[.string ⟨#[118]⟩, .int .u8 2, .string ⟨#[100]⟩, .int .u8 0, .string ⟨#[]⟩, .int .i64 0, .int .i64 0, .int .u8 0, .bool false, .bool false, .int .i64 0, .int .i64 0, .int .i64 0, .int .u8 0]] W fun e w' => e = .returned (.agg #[.string ⟨#[118]⟩, .int .u8 2, .string ⟨#[]⟩, .int .u8 0, .string ⟨#[]⟩, .int .i64 0, .int .i64 0, .int .u8 0, .bool false, .bool false, .int .i64 0, .int .i64 0, .int .i64 0, .int .u8 0]) ∧ Below W.heap.size W w' from only_any exW W)
  have CS := Lib.hid (fun W A A' c c' (x : RdK obK W W.heap.size A [exD, exW]) (y : RdK obK W W.heap.size A' [exD, exW]) => sameO_yes A A' c c' 2 [exD, exW] W x y rfl (by decide))
  have CT := Lib.hid (fun W A A' c c' (x : RdK chK W W.heap.size A [⟨4, exG⟩]) (y : RdK chK W W.heap.size A' [⟨4, exG⟩]) => show Calls Tryz.prog 13 #[.slice A 1 c, .slice A' 1 c'] W fun e w' => e = .returned (.bool true) ∧ HL.Dr W w' from sameC_t (a := [⟨4, exG⟩]) rfl ▸ refSameC_any A A' c c' [⟨4, exG⟩] [⟨4, exG⟩] W W.heap.size x y (Nat.le_refl _) (by decide) (by decide))
  have HT := Lib.hid ht
  clear tW ht CF CM
  go_enter Tryz.func16, Tryz.ntmps16
  go_wp2_with fail
  go_at_call 10
  refine (CA.out _ (bAl (bAl (bAl (bAl h0 _) _) _) _) _ _ _ _ (RdK.al (rdLit (by simp) rfl) _) (rdLit (by simp) rfl)).mono ?_
  rintro e w1 ⟨A3, c3, rfl, r3, q1⟩
  have k1 := Lib.hid (bThen (bAl (bAl (bAl (bAl h0 _) _) _) _) q1)
  have mD := ((((AtC.newAt (w := w) (B := w.heap.size) rfl).al _).al _).al _).then q1
  have mV := (((AtC.newAt (w := w.alloc _) (B := w.heap.size + 1) (by simp)).al _).al _).then q1
  have rL := RdK.on (RdK.al (rdLit (K := obK) (l := [exD]) (g := w.heap.size + 1 + 1) (by simp) rfl) _) q1
  have rS := RdK.on (rdLit (K := chK) (l := [⟨1, exW⟩]) (g := w.heap.size + 1 + 1 + 1) (by simp) rfl) q1
  have MD := Lib.hid mD
  have MV := Lib.hid mV
  have RL := Lib.hid rL
  have RS := Lib.hid rS
  have R3 := Lib.hid r3
  clear mD mV rL rS r3 q1
  go_wp2_with fail
  go_at_call 19
  refine (CU.out _ k1.out _ _ _ _ RL.out RS.out).mono ?_
  rintro e w2 ⟨A4, c4, rfl, r4, q2⟩
  have k2 := Lib.hid (bThen k1.out q2)
  have MD := Lib.hid (MD.out.then q2)
  have mV := MV.out.then q2
  have cV := mV.c
  have MV := Lib.hid mV
  have RL := Lib.hid (RdK.on RL.out q2)
  have R3 := Lib.hid (RdK.on R3.out q2)
  have R4 := Lib.hid r4
  clear mV r4 q2
  go_wp2_with fail
  go_at_call 25
  refine (CO.out _).mono ?_
  rintro e w3 ⟨rfl, q3⟩
  have k3 := Lib.hid (bThen k2.out q3)
  have mD := MD.out.then q3
  have mV := MV.out.then q3
  have cD := mD.c
  have lD := mD.lt
  have cV3 := mV.c
  have lV := mV.lt
  have MD := Lib.hid mD
  have MV := Lib.hid mV
  have RL := Lib.hid (RdK.on RL.out q3)
  have R3 := Lib.hid (RdK.on R3.out q3)
  have R4 := Lib.hid (RdK.on R4.out q3)
  clear mD mV q3 cV
  go_wp2_with fail
  go_at_call 12
  refine (CS.out _ _ _ _ _ (RdK.al (RdK.al (RdK.al R3.out _) _) _) (rdLit (by simp) rfl)).mono ?_
  rintro e w4 ⟨rfl, q4⟩
  have k4 := Lib.hid (bThen (bAl (bAl (bAl k3.out _) _) _) q4)
  have mD := (((MD.out.al _).al _).al _).then q4
  have mV := (((MV.out.al _).al _).al _).then q4
  have MS := Lib.hid ((((AtC.newAt (w := w3) (B := w3.heap.size) rfl).al _).al _).then q4)
  have MO := Lib.hid (((AtC.newAt (w := w3.alloc _) (B := w3.heap.size + 1) (by simp)).al _).then q4)
  have RL := Lib.hid (RdK.on (RdK.al (RdK.al (RdK.al RL.out _) _) _) q4)
  have R4 := Lib.hid (RdK.on (RdK.al (RdK.al (RdK.al R4.out _) _) _) q4)
  have MD := Lib.hid mD
  have MV := Lib.hid mV
  clear mD mV q4 cD lD cV3 lV
  go_wp2_with fail
  go_at_call 13
  refine (CT.out _ _ _ _ _ (RdK.al R4.out _) (rdLit (by simp) rfl)).mono ?_
  rintro e w5 ⟨rfl, d5⟩
  have k5 := Lib.hid ((bAl k4.out _).trans (d5.below _))
  have mD := (MD.out.al _).then (d5.below _)
  have cD := mD.c
  have lD := mD.lt
  have MD := Lib.hid mD
  have MV := Lib.hid ((MV.out.al _).then (d5.below _))
  have MS := Lib.hid ((MS.out.al _).then (d5.below _))
  have MO := Lib.hid ((MO.out.al _).then (d5.below _))
  have RL := Lib.hid (RdK.on (RdK.al RL.out _) (d5.below _))
  clear mD d5
  go_upto_region 11 with (fail)
  have mD := MD.out
  refine awake_last w w5 HT.out _ _ _ _ _ _ _ _ _ _ _ _ _ _ _ _ _ _ _ _ _ _ _ _ _ _ _ _ _ _ _ _ _ _ _ _ _ _ _ _ _ _ _ _ _ _ _ _ _ _ _ _ _ _ _ _ _ _ _ _ _ _ _ _ _ _ _ _ _ _ _ _ _ _ _ _ _ _ _ _ _ _ _ _ _ _ _ _ _ _ _ _ _ _ k5.out MD.out MV.out MS.out MO.out RL.out ?_
  intro x57 x58 x59 x60 x61 x62 x63 x64 x65 x66 x67 x68 x69 x70 x71 x72 x73 x74 x75 x76 x77 x78 x79 x80 x81 x82 x83 x84 x85 x86 x87 x88 x89 x90 x91 x92 x93 x94 w11 k11
  go_wp2
  go_ret
  exact ⟨rfl, k11⟩
end Go.Proofs.YtncahpbjbgcnbaaGreatDoor.DX
