/-
  WALK: wf's refersWell.
-/
import Derived.Test.YthlalmoapbdccaaDoorWZ9
import Derived.Test.YthlalmoapbdccaaDoorWZ10
import Derived.Test.YthlalmoapbdccaaDoorWZ5
import Derived.Test.YthlalmoapbdccaaDoorWZ8
import Derived.Deep.RegionHeld3
import Derived.Deep.Cut
import Derived.Shelf.Abstract
namespace Go.Proofs.YthlalmoapbdccaaDoor.WX
open Go.RowKit HL
open IX (ptr El cellsK cellsK_at OwnK RdK strK)
open TX (Ext wp_region_ext ext_below ext_same)
set_option maxRecDepth 100000
set_option linter.unusedVariables false
set_option linter.unusedSimpArgs false

theorem txt_eq (a b : Option Bs) : ((txt a).toList == (txt b).toList) = decide (a.getD [] = b.getD []) := by
  by_cases h : a.getD [] = b.getD []
  · rw [decide_eq_true h]
    unfold txt
    rw [h]
    simp
  · rw [decide_eq_false h]
    refine tl_ne fun e => h ?_
    unfold txt at e
    have := congrArg (fun x : ByteArray => x.data.toList) e
    simpa using this
theorem tl_dec (a b : ByteArray) : (a.toList == b.toList) = decide (a.data.toList = b.data.toList) := by
  by_cases h : a = b
  · rw [h]; simp
  · rw [tl_ne h, decide_eq_false fun e => h (bs_eq e)]
theorem rb_nil {o : Ob} (h : rb o = []) : o.ref = ⟨#[]⟩ := bs_eq (by rw [show o.ref.data.toList = [] from h])
theorem refW_1 {f : Bs → Option Ob} {o : Ob} (h : rb o = []) : refW f o = true := by unfold refW; rw [if_pos h]
theorem refW_2 {f : Bs → Option Ob} {o : Ob} (h : rb o ≠ []) (h2 : refersTo o.kind (orZ (f (rb o))).kind = false) : refW f o = false := by unfold refW; rw [if_neg h, if_pos h2]
theorem refW_3 {f : Bs → Option Ob} {o : Ob} (h : rb o ≠ []) (h2 : refersTo o.kind (orZ (f (rb o))).kind = true) (h7 : o.kind = 7) : refW f o = (o.parent.toList == (orZ (f (rb o))).parent.toList) := by
  unfold refW; rw [if_neg h, if_neg (by rw [h2]; simp), if_pos h7, tl_dec]
theorem refW_4 {f : Bs → Option Ob} {o : Ob} (h : rb o ≠ []) (h2 : refersTo o.kind (orZ (f (rb o))).kind = true) (h7 : ¬ o.kind = 7) : refW f o = ((txt (climbO f 8 (hb o))).toList == (txt (climbO f 8 (hb (orZ (f (rb o)))))).toList) := by
  unfold refW; rw [if_neg h, if_neg (by rw [h2]; simp), if_neg h7, txt_eq]; rfl
/-- What a map's objects meet. -/
structure FineM (f : Bs → Option Ob) : Prop where
  handle : ∀ y o, f y = some o → o.handle.size ≤ maxLen
  parent : ∀ y o, f y = some o → o.parent.size ≤ maxLen
  kind : ∀ y o, f y = some o → o.kind ≤ 255
theorem FineM.orZ {f : Bs → Option Ob} (h : FineM f) (y : Bs) : (orZ (f y)).handle.size ≤ maxLen ∧ (orZ (f y)).kind ≤ 255 := by
  cases e : f y with
  | none => exact ⟨Nat.zero_le _, Nat.zero_le _⟩
  | some o => exact ⟨h.handle y o e, h.kind y o e⟩
set_option maxHeartbeats 8000000 in
theorem refersWell_any {A : Option Addr} (n c M m : Nat) (f : Bs → Option Ob) (o : Ob) (w : World) (hm : MapO w M m f) (hF : FineM f) (hh : o.handle.size ≤ maxLen) (hr : o.ref.size ≤ maxLen) (hk : o.kind ≤ 255) (hT : Tables w) :
    Calls Tryd.prog 86 #[.agg (viewC A n c M), ob o] w fun e w' => e = .returned (.bool (refW f o)) ∧ Below w.heap.size w w' := by
  have hb0 : Below w.heap.size w w := Below.refl _ _
  have hlk : ∀ o1 o2 : Obj, (Instr.lookup 72 (.map (some M)) (.string o.ref) false).run Tryd.prog ((w.alloc o1).alloc o2) = .ok (ob (orZ (f (rb o)))) ((w.alloc o1).alloc o2) := fun o1 o2 => (hm.then (bAl (bAl hb0 o1) o2)).look (k := rb o) hr
  have CR := Lib.hid (fun W (q : Below w.heap.size w W) => refers_any o.kind (orZ (f (rb o))).kind W hk (hF.orZ _).2 (hT.then q))
  have C1 := Lib.hid (fun W (q : Below w.heap.size w W) => mdsM_any (A := A) n c M m f o W (hm.then q) hh hF.parent)
  have C2 := Lib.hid (fun W (q : Below w.heap.size w W) => mdsM_any (A := A) n c M m f (orZ (f (rb o))) W (hm.then q) (hF.orZ _).1 hF.parent)
  have R1 := Lib.hid (fun h => refW_1 (f := f) (o := o) h)
  have R2 := Lib.hid (fun h h2 => refW_2 (f := f) (o := o) h h2)
  have R3 := Lib.hid (fun h h2 h3 => refW_3 (f := f) (o := o) h h2 h3)
  have R4 := Lib.hid (fun h h2 h3 => refW_4 (f := f) (o := o) h h2 h3)
  clear hm hF hT
  generalize orZ (f (rb o)) = p at *
  generalize climbO f 8 (hb o) = a at *
  generalize climbO f 8 (hb p) = b at *
  have vc : ∀ o2 o3 : Obj, ∀ i, (((w.alloc (.cells (viewC A n c M) 74)).alloc o2).alloc o3).cell? ⟨w.heap.size, i, none⟩ = (viewC A n c M)[i]? := fun o2 o3 => (((AtC.new w (viewC A n c M) 74).al o2).al o3).c
  have vc2 : ∀ o2 : Obj, ∀ i, ((w.alloc (.cells (viewC A n c M) 74)).alloc o2).cell? ⟨w.heap.size, i, none⟩ = (viewC A n c M)[i]? := fun o2 => ((AtC.new w (viewC A n c M) 74).al o2).c
  have mo2 : ∀ i, ((w.alloc (.cells (viewC A n c M) 74)).alloc (.cells (obCells o) 31)).cell? ⟨w.heap.size + 1, i, none⟩ = (obCells o)[i]? := (AtC.newAt (w := w.alloc (.cells (viewC A n c M) 74)) (B := w.heap.size + 1) (C := obCells o) (T := 31) (by simp)).c
  have mo3 : ∀ o3 : Obj, AtC (((w.alloc (.cells (viewC A n c M) 74)).alloc (.cells (obCells o) 31)).alloc o3) (w.heap.size + 1) (obCells o) := fun o3 => (AtC.newAt (w := w.alloc (.cells (viewC A n c M) 74)) (B := w.heap.size + 1) (C := obCells o) (T := 31) (by simp)).al o3
  have mp3 : ∀ o2 : Obj, AtC (((w.alloc (.cells (viewC A n c M) 74)).alloc o2).alloc (.cells (obCells p) 31)) (w.heap.size + 2) (obCells p) := fun o2 => AtC.newAt (w := (w.alloc (.cells (viewC A n c M) 74)).alloc o2) (B := w.heap.size + 2) (C := obCells p) (T := 31) (by simp)
  have mo := fun o3 => (mo3 o3).c
  have mp := fun o2 => (mp3 o2).c
  have hB3 : ∀ o1 o2 o3 : Obj, Below w.heap.size w (((w.alloc o1).alloc o2).alloc o3) := fun o1 o2 o3 => bAl (bAl (bAl hb0 o1) o2) o3
  have HB3 := Lib.hid hB3
  clear hB3
  by_cases hn : rb o = []
  · have i1 : o.ref.toList = [] := by rw [rb_nil hn, ByteArray.toList_eq]
    have HV := Lib.hid (R1.out hn)
    clear hn R1 R2 R3 R4 mo3 mp3
    go_enter Tryd.func86, Tryd.ntmps86
    go_wp2
    go_ret
    exact ⟨by rw [HV.out]; rfl, HB3.out _ _ _⟩
  · have i1 : o.ref.toList.isEmpty = false := ne_nil (fun e => hn (by show o.ref.data.toList = []; rw [e]))
    cases h2 : refersTo o.kind p.kind with
    | false =>
      have HV := Lib.hid (R2.out hn h2)
      rw [h2] at CR
      clear hn R1 R2 R3 R4 mo3 mp3 h2
      go_enter Tryd.func86, Tryd.ntmps86
      go_wp2_with (go_at_call 24; ((with_reducible refine (CR.out _ (HB3.out _ _ _)).mono ?_); rintro e w1 ⟨rfl, k1⟩))
      go_ret
      exact ⟨by rw [HV.out]; rfl, bThen (HB3.out _ _ _) k1⟩
    | true =>
      rw [h2] at CR
      by_cases h7 : o.kind = 7
      · have HV := Lib.hid (R3.out hn h2 h7)
        have i7 : ((o.kind : Int) == 7) = true := by simp; omega
        have M3 := Lib.hid mo3
        have P3 := Lib.hid mp3
        clear hn R1 R2 R3 R4 mo3 mp3 h2 h7
        go_enter Tryd.func86, Tryd.ntmps86
        go_wp2_with (go_at_call 24; ((with_reducible refine (CR.out _ (HB3.out _ _ _)).mono ?_); rintro e w1 ⟨rfl, k1⟩; have c1 := ((M3.out _).then k1).c; have c2 := ((P3.out _).then k1).c))
        go_ret
        exact ⟨by rw [HV.out]; rfl, bThen (HB3.out _ _ _) k1⟩
      · have HV := Lib.hid (R4.out hn h2 h7)
        have i7 : ((o.kind : Int) == 7) = false := by simp; omega
        have M3 := Lib.hid mo3
        have P3 := Lib.hid mp3
        clear hn R1 R2 R3 R4 mo3 mp3 h2 h7
        go_enter Tryd.func86, Tryd.ntmps86
        go_wp2_with (go_at_call 24; ((with_reducible refine (CR.out _ (HB3.out _ _ _)).mono ?_); rintro e w1 ⟨rfl, k1⟩; have m1 := (M3.out _).then k1; have m2 := (P3.out _).then k1; have m0 := (((AtC.new w (viewC A n c M) 74).al (.cells (obCells o) 31)).al (.cells (obCells p) 31)).then k1; have c1 := m1.c; have kk := bThen (HB3.out _ _ _) k1))
        have D1 : ∀ y : Ext w1, ∀ i, y.W.cell? ⟨w.heap.size + 1, i, none⟩ = (obCells o)[i]? := fun y => (m1.then y.b).c
        have D2 : ∀ y : Ext w1, ∀ i, y.W.cell? ⟨w.heap.size + 2, i, none⟩ = (obCells p)[i]? := fun y => (m2.then y.b).c
        have D0 : ∀ y : Ext w1, ∀ i, y.W.cell? ⟨w.heap.size, i, none⟩ = (viewC A n c M)[i]? := fun y => (m0.then y.b).c
        have KK := Lib.hid kk
        clear m0 m1 m2 c1 kk k1 hlk vc vc2 mo2 mo mp
        refine wp_region_ext (by kernel_rfl) (by kernel_rfl) ?_
        repeat (go_big_quiet_step (first
          | (go_at_call 94; with_reducible exact ext_below (C1.out _ (bThen KK.out (Ext.b _))))
          | (go_at_call 94; with_reducible exact ext_below (C2.out _ (bThen KK.out (Ext.b _))))))
        refine wpQuiet_nil ?_
        rintro _ ⟨y, rfl⟩
        go_wp2
        go_ret
        exact ⟨by rw [HV.out]; rfl, bThen KK.out y.b⟩
end Go.Proofs.YthlalmoapbdccaaDoor.WX
/-
  WALKS: wf's counts and contexts: their drawn statements.
-/
namespace Go.Proofs.YthlalmoapbdccaaDoor.WX
open Go.RowKit HL
open IX (ptr El cellsK cellsK_at OwnK RdK strK)
set_option maxRecDepth 100000
set_option linter.unusedVariables false
set_option linter.unusedSimpArgs false

abbrev plC (p : ByteArray) (s : Nat) : Array Value := #[.string p, .int .u8 (s : Int)]
theorem upd2_und {l : List Ob} {k : Nat} (hk : k < l.length) : upd2 (fun p g => und (l.take k) p g) (pb l[k]) (grp l[k].kind) (und (l.take k) (pb l[k]) (grp l[k].kind) + 1) = fun p g => und (l.take (k + 1)) p g := by
  funext p g
  rw [und_next hk]
  unfold upd2
  by_cases h : p = pb l[k] ∧ g = grp l[k].kind
  · rw [if_pos h, h.1, h.2, if_pos (by simp)]
  · have hn : ¬ (decide (pb l[k] = p) && (grp l[k].kind == g)) = true := fun q => by
      rw [Bool.and_eq_true] at q
      exact h ⟨(of_decide_eq_true q.1).symm, by have := q.2; simp at this; exact this.symm⟩
    rw [if_neg h, if_neg hn]
    rfl
noncomputable def cnt5 : Code := TX.bodyC Tryd.f68 [1, 1, 0, 1, 2, 3, 1, 1, 0, 2, 1, 0]
set_option maxHeartbeats 8000000 in
theorem cnt5_any {o : Ob} {Bo : Nat} {wo : World} {v0 v1 v2 v3 v4 v6 v7 v8 v9 v10 v11 v12 v13 v14 v15 v16 v17 v18 v19 v20 v21 v22 v23 v24 v25 v26 v27 v28 v29 v30 v31 v32 v33 v34 : Value} {Q : Exit → Act → World → Prop} (ho : AtC wo Bo (obCells o)) (hk : o.kind ≤ 255) (hT : Tables wo)
    (hQ : ∀ (Bp : Nat) (W' : World) (u15 u16 u17 u18 u19 u20 : Value), Below wo.heap.size wo W' → AtC W' Bp (plC o.parent (grp o.kind)) → wo.heap.size ≤ Bp → Q .normal { tmps := #[v0, v1, v2, v3, v4, ptr Bo, ptr Bp, v7, v8, v9, v10, v11, v12, v13, v14, u15, u16, u17, u18, u19, u20, v21, v22, v23, v24, v25, v26, v27, v28, v29, v30, v31, v32, v33, v34], defers := [] } W') :
    Code.wp Tryd.prog cnt5 Q { tmps := #[v0, v1, v2, v3, v4, ptr Bo, v6, v7, v8, v9, v10, v11, v12, v13, v14, v15, v16, v17, v18, v19, v20, v21, v22, v23, v24, v25, v26, v27, v28, v29, v30, v31, v32, v33, v34], defers := [] } wo := by
  have HQ := Lib.hid hQ
  clear hQ
  have hS : ∀ W', Below wo.heap.size wo W' → ((∀ i, W'.cell? ⟨Bo, i, none⟩ = (obCells o)[i]?) ∧ Below wo.heap.size wo W') := fun W' k => ⟨(ho.then k).c, k⟩
  have CG := Lib.hid (fun W (k : Below wo.heap.size wo W) => group_any o.kind W hk (hT.then k))
  clear ho hT
  generalize grp o.kind = g at *
  conv => arg 2; simp only [cnt5, TX.bodyC, Tryd.f68, TX.pathC]
  go_wp2_with fail
  go_region_held3 (fun W' => (∀ i, W'.cell? ⟨Bo, i, none⟩ = (obCells o)[i]?) ∧ Below wo.heap.size wo W')
    (first | with_reducible assumption | with_reducible exact hS _ (bStore (bStore (And.right ‹_ ∧ Below wo.heap.size wo w3›) (p := ⟨_, 0, none⟩) (Nat.le_refl _) _) (p := ⟨_, 1, none⟩) (Nat.le_refl _) _) | with_reducible exact hS _ (Below.refl _ _).drew | with_reducible exact hS _ (keepD (by assumption) k3) | with_reducible exact hS _ (bAl (Below.refl _ _).drew _) | with_reducible exact hS _ (bAl (Below.refl _ _) _).drew | with_reducible exact hS _ (bAl (bThen (Below.refl _ _).drew k3) _))
    ((go_at_call 37; (with_reducible refine (CG.out _ (And.right ‹_ ∧ Below wo.heap.size wo _›)).mono ?_); rintro e w3 ⟨rfl, k3⟩; first | (with_reducible have mT := (AtC.new _ _ _).drew1.then k3; have tf := mT.f; have tl := mT.lt; have tc := mT.c) | skip))
  · rename_i hH
    have hs3 : wo.heap.size ≤ w3.heap.size := by have q := k3.size; simpa using q
    exact HQ.out w3.heap.size _ _ _ _ _ _ _ hH.2 (AtC.new w3 (plC o.parent g) 103) hs3
  · rename_i hH
    have m2 := AtC.set (AtC.set mT (i := 0) (by decide) (.string o.parent)) (i := 1) (by simp) (.int .u8 (g : Int))
    exact HQ.out wo.heap.size _ _ _ _ _ _ _ hH.2 m2 (Nat.le_refl _)
noncomputable def cnt6 : Code := TX.bodyC Tryd.f68 [1, 1, 0, 1, 2, 3, 1, 1, 0, 2, 1, 1, 0]
set_option maxHeartbeats 8000000 in
theorem cnt6_any {p : ByteArray} {s M m Bp : Nat} {f : Bs → Nat → Nat} {wo : World} {v0 v1 v2 v4 v5 v7 v8 v9 v10 v11 v12 v13 v14 v15 v16 v17 v18 v19 v20 v21 v22 v23 v24 v25 v26 v27 v28 v29 v30 v31 v32 v33 v34 : Value} {Q : Exit → Act → World → Prop} (hp : AtC wo Bp (plC p s)) (hm : MapI wo M m f) (hm1 : m ≤ 10000) (hf : f p.data.toList s ≤ 10000) (hz : p.size ≤ maxLen) (hs : s ≤ 255) (hne : Bp ≠ M)
    (hQ : ∀ (W' : World) (u21 u22 u23 u24 u25 u26 : Value), MapI W' M (m + 1) (upd2 f p.data.toList s (f p.data.toList s + 1)) → IX.Kept wo W' (· ≠ M) → Q .normal { tmps := #[v0, v1, v2, .map (some M), v4, v5, ptr Bp, v7, v8, v9, v10, v11, v12, v13, v14, v15, v16, v17, v18, v19, v20, u21, u22, u23, u24, u25, u26, v27, v28, v29, v30, v31, v32, v33, v34], defers := [] } W') :
    Code.wp Tryd.prog cnt6 Q { tmps := #[v0, v1, v2, .map (some M), v4, v5, ptr Bp, v7, v8, v9, v10, v11, v12, v13, v14, v15, v16, v17, v18, v19, v20, v21, v22, v23, v24, v25, v26, v27, v28, v29, v30, v31, v32, v33, v34], defers := [] } wo := by
  have HQ := Lib.hid hQ
  clear hQ
  have kd : Below wo.heap.size wo wo.drew := (Below.refl _ _).drew
  have md := hm.then kd
  have hl0 : (Instr.lookup 101 (.map (some M)) (.agg #[.string p, .int .u8 (s : Int)]) false).run Tryd.prog wo.drew = .ok (.int .i64 (f p.data.toList s : Int)) wo.drew := md.look (p := p.data.toList) (s := s) hz hs
  obtain ⟨w1, v0, st, he, m1, q1, hst⟩ := md.entry (by omega) (p := p.data.toList) (s := s) hz hs
  have he : (Instr.mapEntry 101 (.map (some M)) (.agg #[.string p, .int .u8 (s : Int)])).run Tryd.prog wo.drew = .ok (.tuple #[v0, .int .i64 (st : Int)]) w1 := he
  have hl1 : (Instr.lookup 101 (.map (some M)) (.agg #[.string p, .int .u8 (s : Int)]) false).run Tryd.prog w1 = .ok (.int .i64 (f p.data.toList s : Int)) w1 := m1.look (p := p.data.toList) (s := s) hz hs
  obtain ⟨w3, hs3, m3, q3⟩ := hst (f p.data.toList s + 1) (by omega) w1 rfl
  have hs3 : (Instr.entryStore 101 (.map (some M)) (.int .i64 (st : Int)) (.int .i64 ((f p.data.toList s : Int) + 1))).run Tryd.prog w1 = .ok () w3 := hs3
  have ew : IntKind.i64.wrap ((f p.data.toList s : Int) + 1) = (f p.data.toList s : Int) + 1 := IntWalk.i64_in _ (by omega)
  have pd := hp.then kd
  have pc0 := pd.c
  have pc1 : ∀ i, w1.cell? ⟨Bp, i, none⟩ = (plC p s)[i]? := (q1.atC pd hne).c
  have QK : IX.Kept wo w3 (· ≠ M) := (IX.Kept.of_below kd : IX.Kept wo wo.drew (· ≠ M)).trans (q1.trans q3)
  have M3 := Lib.hid m3
  have Q3 := Lib.hid QK
  clear hm md m1 q1 hst m3 q3 hp pd QK kd
  generalize f p.data.toList s = c at *
  conv => arg 2; simp only [cnt6, TX.bodyC, Tryd.f68, TX.pathC]
  go_wp2_with fail
  go_region
  exact HQ.out _ _ _ _ _ _ _ M3.out Q3.out
noncomputable def ctx7 : Code := TX.bodyC Tryd.f71 [1, 1, 0, 1, 2, 3, 1, 1, 0, 2, 1, 1, 1, 0]
set_option maxHeartbeats 8000000 in
theorem ctx7_any {p : ByteArray} {s M m Bp : Nat} {f : Bs → Nat → Nat} {wo : World} {v0 v1 v2 v4 v5 v7 v8 v9 v10 v11 v12 v13 v14 v15 v16 v17 v18 v19 v20 v21 v22 v23 v24 v25 v26 v27 v28 v29 v30 v31 v32 v33 : Value} {Q : Exit → Act → World → Prop} (hp : AtC wo Bp (plC p s)) (hm : MapI wo M m f) (hm1 : m ≤ 10000) (hf : f p.data.toList s ≤ 10000) (hz : p.size ≤ maxLen) (hs : s ≤ 255) (hne : Bp ≠ M)
    (hQ : ∀ (W' : World) (u23 u24 u25 u26 u27 u28 : Value), MapI W' M (m + 1) (upd2 f p.data.toList s (f p.data.toList s + 1)) → IX.Kept wo W' (· ≠ M) → Q .normal { tmps := #[v0, v1, v2, .map (some M), v4, v5, ptr Bp, v7, v8, v9, v10, v11, v12, v13, v14, v15, v16, v17, v18, v19, v20, v21, v22, u23, u24, u25, u26, u27, u28, v29, v30, v31, v32, v33], defers := [] } W') :
    Code.wp Tryd.prog ctx7 Q { tmps := #[v0, v1, v2, .map (some M), v4, v5, ptr Bp, v7, v8, v9, v10, v11, v12, v13, v14, v15, v16, v17, v18, v19, v20, v21, v22, v23, v24, v25, v26, v27, v28, v29, v30, v31, v32, v33], defers := [] } wo := by
  have HQ := Lib.hid hQ
  clear hQ
  have kd : Below wo.heap.size wo wo.drew := (Below.refl _ _).drew
  have md := hm.then kd
  have hl0 : (Instr.lookup 101 (.map (some M)) (.agg #[.string p, .int .u8 (s : Int)]) false).run Tryd.prog wo.drew = .ok (.int .i64 (f p.data.toList s : Int)) wo.drew := md.look (p := p.data.toList) (s := s) hz hs
  obtain ⟨w1, v0, st, he, m1, q1, hst⟩ := md.entry (by omega) (p := p.data.toList) (s := s) hz hs
  have he : (Instr.mapEntry 101 (.map (some M)) (.agg #[.string p, .int .u8 (s : Int)])).run Tryd.prog wo.drew = .ok (.tuple #[v0, .int .i64 (st : Int)]) w1 := he
  have hl1 : (Instr.lookup 101 (.map (some M)) (.agg #[.string p, .int .u8 (s : Int)]) false).run Tryd.prog w1 = .ok (.int .i64 (f p.data.toList s : Int)) w1 := m1.look (p := p.data.toList) (s := s) hz hs
  obtain ⟨w3, hs3, m3, q3⟩ := hst (f p.data.toList s + 1) (by omega) w1 rfl
  have hs3 : (Instr.entryStore 101 (.map (some M)) (.int .i64 (st : Int)) (.int .i64 ((f p.data.toList s : Int) + 1))).run Tryd.prog w1 = .ok () w3 := hs3
  have ew : IntKind.i64.wrap ((f p.data.toList s : Int) + 1) = (f p.data.toList s : Int) + 1 := IntWalk.i64_in _ (by omega)
  have pd := hp.then kd
  have pc0 := pd.c
  have pc1 : ∀ i, w1.cell? ⟨Bp, i, none⟩ = (plC p s)[i]? := (q1.atC pd hne).c
  have QK : IX.Kept wo w3 (· ≠ M) := (IX.Kept.of_below kd : IX.Kept wo wo.drew (· ≠ M)).trans (q1.trans q3)
  have M3 := Lib.hid m3
  have Q3 := Lib.hid QK
  clear hm md m1 q1 hst m3 q3 hp pd QK kd
  generalize f p.data.toList s = c at *
  conv => arg 2; simp only [ctx7, TX.bodyC, Tryd.f71, TX.pathC]
  go_wp2_with fail
  go_region
  exact HQ.out _ _ _ _ _ _ _ M3.out Q3.out
end Go.Proofs.YthlalmoapbdccaaDoor.WX
/-
  WALKS: wf's rules 4 and 7.
-/
namespace Go.Proofs.YthlalmoapbdccaaDoor.WX
open Go.RowKit HL
open IX (ptr El cellsK cellsK_at OwnK RdK strK)
open TX (Ext wp_region_ext ext_below ext_same)
set_option maxRecDepth 100000
set_option linter.unusedVariables false
set_option linter.unusedSimpArgs false

theorem und_len (l : List Ob) (k : Nat) (p : Bs) (g : Nat) : und (l.take k) p g ≤ k := by
  unfold und
  refine Nat.le_trans (List.length_filter_le _ _) ?_
  rw [List.length_take]; omega
theorem counts_t {l : List Ob} {k : Nat} (hk : k < l.length) (h : overK l k = true) : countsB l = true := List.any_eq_true.2 ⟨k, List.mem_range.2 hk, h⟩
theorem counts_f {l : List Ob} (h : ∀ j, j < l.length → overK l j = false) : countsB l = false := List.any_eq_false.2 fun k hk => by rw [h k (List.mem_range.1 hk)]; simp
theorem over_at' {l : List Ob} {k : Nat} (hk : k < l.length) : overK l k = decide (most l[k].kind < und (l.take (k + 1)) (pb l[k]) (grp l[k].kind)) := by
  unfold overK
  rw [List.getElem?_eq_getElem hk]
theorem prev_all {l : List Ob} {p : Nat → Bool} {k : Nat} (h : ∀ j, j < k → p j = false) (hk : p k = false) : ∀ j, j < k + 1 → p j = false := fun j hj => by
  rcases Nat.lt_succ_iff_lt_or_eq.1 hj with q | rfl
  · exact h j q
  · exact hk
set_option maxHeartbeats 16000000 in
theorem counts_any {A : Option Addr} (l : List Ob) (c M : Nat) (w : World) (hr : RdK obK w w.heap.size A l) (hl : l.length ≤ 1000) (ho : ∀ o ∈ l, o.parent.size ≤ maxLen ∧ o.kind ≤ 255) (hT : Tables w) :
    Calls Tryd.prog 68 #[.agg (viewC A l.length c M)] w fun e w' => e = .returned (.int .i64 (if countsB l = true then 51 else 0)) ∧ Below w.heap.size w w' := by
  have hb0 : Below w.heap.size w w := Below.refl _ _
  have HR := Lib.hid hr
  have HO := Lib.hid ho
  have HTB := Lib.hid hT
  clear hr ho hT
  obtain ⟨r, hr⟩ : ∃ r : Int, (if countsB l = true then (51 : Int) else 0) = r := ⟨_, rfl⟩
  rw [hr]
  have HRES := Lib.hid hr
  clear hr
  have hmm := @run_makeMap Tryd.prog
  have vc : ∀ o2 : Obj, ∀ i, ((w.alloc (.cells (viewC A l.length c M) 74)).alloc o2).cell? ⟨w.heap.size, i, none⟩ = (viewC A l.length c M)[i]? := fun o2 => ((AtC.new w (viewC A l.length c M) 74).al o2).c
  have M2 := Lib.hid (MapI.made (w.alloc (.cells (viewC A l.length c M) 74)))
  have B2 := Lib.hid (bAl (bAl hb0 (.cells (viewC A l.length c M) 74)) (.map #[] 0))
  go_enter Tryd.func68, Tryd.ntmps68
  go_wp2
  go_loopw [11] (fun i wr => ∃ k : Nat, i = .int .i64 k ∧ k ≤ l.length ∧ MapI wr (w.heap.size + 1) k (fun p g => und (l.take k) p g) ∧ Hid (∀ j, j < k → overK l j = false) ∧ Below w.heap.size w wr) (fun i _ => l.length - (intOf i).toNat)
  case atStart => exact ⟨0, rfl, Nat.zero_le _, by simpa [und] using M2.out, Lib.hid (fun j hj => absurd hj (Nat.not_lt_zero _)), B2.out⟩
  case round =>
    obtain ⟨k, rfl, hk, hm, HN, k1⟩ := hrel
    have K1 := Lib.hid k1
    have HM := Lib.hid hm
    clear hm
    by_cases hlt : k < l.length
    · have i1 : (k : Int) < l.length := by omega
      obtain ⟨b, off, rfl, hbk, hc⟩ := obs_at (HR.out.below k1) (by omega)
      obtain ⟨c0, c1, c2, c3, c4, c5, c6, c7, c8, c9, c10, c11, c12, c13⟩ := hc k _ (List.getElem?_eq_getElem hlt)
      obtain ⟨hz, hk255⟩ := HO.out _ (List.getElem_mem hlt)
      have HU := Lib.hid (upd2_und hlt)
      have HOV := Lib.hid (over_at' hlt)
      have hle : und (l.take k) (pb l[k]) (grp l[k].kind) ≤ 1000 := Nat.le_trans (und_len _ _ _ _) (by omega)
      have HT1 := Lib.hid ((HTB.out.then k1).then (bAl (Below.refl _ _) (.cells (obCells l[k]) 31)))
      clear hc k1
      generalize l[k] = o at *
      have hg255 : grp o.kind ≤ 255 := Nat.le_trans (grp_le _) (by decide)
      have HM1 := Lib.hid (HM.out.then (bAl (Below.refl _ _) (.cells (obCells o) 31)))
      have mo := AtC.new wr (obCells o) 31
      have hM1 := HM.out.lt
      clear HM
      go_upto_region 5 with (fail)
      refine cnt5_any mo hk255 HT1.out ?_
      intro Bp W5 u15 u16 u17 u18 u19 u20 kb mp hBp
      have HM5 := HM1.out.then kb
      have mo5 := mo.then kb
      have HT5 := Lib.hid (HT1.out.then kb)
      have KB := Lib.hid (bThen (bAl K1.out _) kb)
      simp at hBp
      clear kb mo HM1
      go_upto_region 6 with (fail)
      refine cnt6_any mp HM5 (by omega) (Nat.le_trans hle (by omega)) hz hg255 (by omega) ?_
      intro W6 u21 u22 u23 u24 u25 u26 hm6 q6
      have hm6 : MapI W6 (w.heap.size + 1) (k + 1) (fun p g => und (l.take (k + 1)) p g) := by rw [← HU.out]; exact hm6
      have K6 : Below w.heap.size w W6 := KB.out.trans (IX.Kept.below q6 KB.out.size fun j hj => by omega)
      have mo6 := q6.atC mo5 (by omega)
      have mp6 := q6.atC mp (by omega)
      have CM := Lib.hid (fun W (q : Below W6.heap.size W6 W) => most_any o.kind W hk255 ((HTB.out.then K6).then q))
      have hlk : ∀ y : Ext W6, (Instr.lookup 101 (.map (some (w.heap.size + 1))) (.agg #[.string o.parent, .int .u8 (grp o.kind : Int)]) false).run Tryd.prog y.W = .ok (.int .i64 (und (l.take (k + 1)) (pb o) (grp o.kind) : Nat)) y.W := fun y => (hm6.then y.b).look (p := pb o) (s := grp o.kind) hz hg255
      have D1 : ∀ y : Ext W6, ∀ i, y.W.cell? ⟨wr.heap.size, i, none⟩ = (obCells o)[i]? := fun y => (mo6.then y.b).c
      have D2 : ∀ y : Ext W6, ∀ i, y.W.cell? ⟨Bp, i, none⟩ = (plC o.parent (grp o.kind))[i]? := fun y => (mp6.then y.b).c
      have HM6 := Lib.hid hm6
      have HK6 := Lib.hid K6
      clear hm6 q6 mo6 mp6 K6 KB HT5 mo5 HM5 mp hbk hle
      generalize und (l.take (k + 1)) (pb o) (grp o.kind) = n at *
      generalize most o.kind = q at *
      generalize grp o.kind = g at *
      go_upto_region 7 with (fail)
      refine wp_region_ext (by kernel_rfl) (by kernel_rfl) ?_
      repeat (go_big_quiet_step ((go_at_call 38; with_reducible exact ext_below (CM.out _ (Ext.b _)))))
      refine wpQuiet_nil ?_
      rintro _ ⟨y, rfl⟩
      clear hlk D1 D2 CM
      by_cases hov : q < n
      · have i7 : (q : Int) < (n : Int) := by omega
        have HV : Hid (r = 51) := Lib.hid (by rw [← HRES.out, counts_t hlt (by rw [HOV.out]; exact decide_eq_true hov)]; rfl)
        go_wp2
        go_ret
        exact ⟨by rw [HV.out]; rfl, bThen HK6.out y.b⟩
      · have i7 : ¬ (q : Int) < (n : Int) := by omega
        have HN2 := Lib.hid (prev_all (l := l) HN.out (by rw [HOV.out]; exact decide_eq_false hov))
        go_wp2
        go_roundw
        case rel => exact ⟨k + 1, by go_num, by omega, HM6.out.then y.b, HN2, bThen HK6.out y.b⟩
        case measure => simp [intOf]; omega
    · obtain rfl : k = l.length := by omega
      have i1 : ¬ (l.length : Int) < l.length := by omega
      have HV : Hid (r = 0) := Lib.hid (by rw [← HRES.out, counts_f HN.out]; rfl)
      go_wp2
      go_ret
      exact ⟨by rw [HV.out]; rfl, k1⟩
theorem yes_len (l : List Ob) (k : Nat) (p : Bs) (t : Nat) : yesN (l.take k) p t ≤ k := by
  unfold yesN
  refine Nat.le_trans (List.length_filter_le _ _) ?_
  rw [List.length_take]; omega
theorem yes_next {l : List Ob} {k : Nat} (hk : k < l.length) (p : Bs) (t : Nat) : yesN (l.take (k + 1)) p t = yesN (l.take k) p t + if yes p t l[k] = true then 1 else 0 := by
  unfold yesN
  rw [List.take_succ_eq_append_getElem hk, List.filter_append, List.length_append]
  congr 1
  by_cases q : yes p t l[k] = true
  · rw [if_pos q, List.filter_cons, if_pos q]; rfl
  · rw [if_neg q, List.filter_cons, if_neg q]; rfl
theorem upd2_yes {l : List Ob} {k : Nat} (hk : k < l.length) (ha : l[k].assoc = 2) : upd2 (fun p t => yesN (l.take k) p t) (pb l[k]) l[k].typ (yesN (l.take k) (pb l[k]) l[k].typ + 1) = fun p t => yesN (l.take (k + 1)) p t := by
  funext p t
  rw [yes_next hk]
  unfold upd2
  by_cases h : p = pb l[k] ∧ t = l[k].typ
  · rw [if_pos h, h.1, h.2, if_pos (by simp [yes, ha])]
  · have hn : ¬ yes p t l[k] = true := fun q => by
      simp only [yes, Bool.and_eq_true, decide_eq_true_eq, beq_iff_eq] at q
      exact h ⟨q.1.2.symm, q.2.symm⟩
    rw [if_neg h, if_neg hn]
    rfl
theorem yes_no {l : List Ob} {k : Nat} (hk : k < l.length) (ha : l[k].assoc ≠ 2) : (fun p t => yesN (l.take (k + 1)) p t) = fun p t => yesN (l.take k) p t := by
  funext p t
  rw [yes_next hk, if_neg (by simp [yes, ha])]
  rfl
theorem ctx_t {l : List Ob} {k : Nat} (hk : k < l.length) (h : ctxK l k = true) : ctxB l = true := List.any_eq_true.2 ⟨k, List.mem_range.2 hk, h⟩
theorem ctx_f {l : List Ob} (h : ∀ j, j < l.length → ctxK l j = false) : ctxB l = false := List.any_eq_false.2 fun k hk => by rw [h k (List.mem_range.1 hk)]; simp
theorem ctx_at {l : List Ob} {k : Nat} (hk : k < l.length) : ctxK l k = ((l[k].assoc == 2) && decide (1 < yesN (l.take (k + 1)) (pb l[k]) l[k].typ)) := by
  unfold ctxK
  rw [List.getElem?_eq_getElem hk]
set_option maxHeartbeats 16000000 in
theorem contexts_any {A : Option Addr} (l : List Ob) (c M : Nat) (w : World) (hr : RdK obK w w.heap.size A l) (hl : l.length ≤ 1000) (ho : ∀ o ∈ l, o.parent.size ≤ maxLen ∧ o.typ ≤ 255) :
    Calls Tryd.prog 71 #[.agg (viewC A l.length c M)] w fun e w' => e = .returned (.int .i64 (if ctxB l = true then 92 else 0)) ∧ Below w.heap.size w w' := by
  have hb0 : Below w.heap.size w w := Below.refl _ _
  have HR := Lib.hid hr
  have HO := Lib.hid ho
  clear hr ho
  obtain ⟨r, hr⟩ : ∃ r : Int, (if ctxB l = true then (92 : Int) else 0) = r := ⟨_, rfl⟩
  rw [hr]
  have HRES := Lib.hid hr
  clear hr
  have hmm := @run_makeMap Tryd.prog
  have vc : ∀ o2 : Obj, ∀ i, ((w.alloc (.cells (viewC A l.length c M) 74)).alloc o2).cell? ⟨w.heap.size, i, none⟩ = (viewC A l.length c M)[i]? := fun o2 => ((AtC.new w (viewC A l.length c M) 74).al o2).c
  have M2 := Lib.hid (MapI.made (w.alloc (.cells (viewC A l.length c M) 74)))
  have B2 := Lib.hid (bAl (bAl hb0 (.cells (viewC A l.length c M) 74)) (.map #[] 0))
  go_enter Tryd.func71, Tryd.ntmps71
  go_wp2
  go_loopw [11] (fun i wr => ∃ k : Nat, i = .int .i64 k ∧ k ≤ l.length ∧ MapI wr (w.heap.size + 1) k (fun p t => yesN (l.take k) p t) ∧ Hid (∀ j, j < k → ctxK l j = false) ∧ Below w.heap.size w wr) (fun i _ => l.length - (intOf i).toNat)
  case atStart => exact ⟨0, rfl, Nat.zero_le _, by simpa [yesN] using M2.out, Lib.hid (fun j hj => absurd hj (Nat.not_lt_zero _)), B2.out⟩
  case round =>
    obtain ⟨k, rfl, hk, hm, HN, k1⟩ := hrel
    have K1 := Lib.hid k1
    have HM := Lib.hid hm
    clear hm
    by_cases hlt : k < l.length
    · have i1 : (k : Int) < l.length := by omega
      obtain ⟨b, off, rfl, hbk, hc⟩ := obs_at (HR.out.below k1) (by omega)
      obtain ⟨c0, c1, c2, c3, c4, c5, c6, c7, c8, c9, c10, c11, c12, c13⟩ := hc k _ (List.getElem?_eq_getElem hlt)
      obtain ⟨hz, ht255⟩ := HO.out _ (List.getElem_mem hlt)
      have HU := Lib.hid (fun h => upd2_yes hlt h)
      have HY := Lib.hid (fun h => yes_no hlt h)
      have HOV := Lib.hid (ctx_at hlt)
      have hle : yesN (l.take k) (pb l[k]) l[k].typ ≤ 1000 := Nat.le_trans (yes_len _ _ _ _) (by omega)
      clear hc k1
      generalize l[k] = o at *
      have HM1 := Lib.hid (HM.out.then (bAl (Below.refl _ _) (.cells (obCells o) 31)))
      have mo := AtC.new wr (obCells o) 31
      have co := mo.c
      have hM1 := HM.out.lt
      clear HM
      by_cases ha : o.assoc = 2
      · have i2 : ((o.assoc : Int) != 2) = false := by simp; omega
        have HU2 := Lib.hid (HU.out ha)
        have HM2 := Lib.hid (HM1.out.then (bAl (Below.refl _ _) (.cells (plC o.parent o.typ) 103)))
        have MP2 := Lib.hid (AtC.newAt (w := wr.alloc (.cells (obCells o) 31)) (B := wr.heap.size + 1) (C := plC o.parent o.typ) (T := 103) (by simp))
        have KB := Lib.hid (bAl (bAl K1.out (.cells (obCells o) 31)) (.cells (plC o.parent o.typ) 103))
        have hov2 : Hid (ctxK l k = decide (1 < yesN (l.take (k + 1)) (pb o) o.typ)) := Lib.hid (by rw [HOV.out, ha]; rfl)
        clear ha HU HY HM1 mo HOV
        go_upto_region 7 with (fail)
        refine ctx7_any MP2.out HM2.out (by omega) (Nat.le_trans hle (by omega)) hz ht255 (by omega) ?_
        intro W6 u23 u24 u25 u26 u27 u28 hm6 q6
        have hm6 : MapI W6 (w.heap.size + 1) (k + 1) (fun p t => yesN (l.take (k + 1)) p t) := by rw [← HU2.out]; exact hm6
        have K6 : Below w.heap.size w W6 := KB.out.trans (IX.Kept.below q6 KB.out.size fun j hj => by omega)
        have mp6 := (q6.atC MP2.out (by omega)).c
        have hlk : (Instr.lookup 101 (.map (some (w.heap.size + 1))) (.agg #[.string o.parent, .int .u8 (o.typ : Int)]) false).run Tryd.prog W6 = .ok (.int .i64 (yesN (l.take (k + 1)) (pb o) o.typ : Nat)) W6 := hm6.look (p := pb o) (s := o.typ) hz ht255
        have HM6 := Lib.hid hm6
        have HK6 := Lib.hid K6
        clear hm6 q6 K6 KB HM2 MP2 hbk hle
        generalize yesN (l.take (k + 1)) (pb o) o.typ = n at *
        by_cases hov : 1 < n
        · have i7 : (1 : Int) < (n : Int) := by omega
          have HV : Hid (r = 92) := Lib.hid (by rw [← HRES.out, ctx_t hlt (by rw [hov2.out]; exact decide_eq_true hov)]; rfl)
          go_wp2
          go_ret
          exact ⟨by rw [HV.out]; rfl, HK6.out⟩
        · have i7 : ¬ (1 : Int) < (n : Int) := by omega
          have HN2 := Lib.hid (prev_all (l := l) HN.out (by rw [hov2.out]; exact decide_eq_false hov))
          go_wp2
          go_roundw
          case rel => exact ⟨k + 1, by go_num, by omega, HM6.out, HN2, HK6.out⟩
          case measure => simp [intOf]; omega
      · have i2 : ((o.assoc : Int) != 2) = true := by simp; omega
        have HM2 : Hid (MapI (wr.alloc (.cells (obCells o) 31)) (w.heap.size + 1) (k + 1) (fun p t => yesN (l.take (k + 1)) p t)) := Lib.hid (by rw [HY.out ha]; exact HM1.out.more)
        have HN2 := Lib.hid (prev_all (l := l) HN.out (by rw [HOV.out]; simp [ha]))
        clear ha HU HY HOV HM1
        go_wp2
        go_roundw
        case rel => exact ⟨k + 1, by go_num, by omega, HM2.out, HN2, bAl K1.out _⟩
        case measure => simp [intOf]; omega
    · obtain rfl : k = l.length := by omega
      have i1 : ¬ (l.length : Int) < l.length := by omega
      have HV : Hid (r = 0) := Lib.hid (by rw [← HRES.out, ctx_f HN.out]; rfl)
      go_wp2
      go_ret
      exact ⟨by rw [HV.out]; rfl, k1⟩
end Go.Proofs.YthlalmoapbdccaaDoor.WX
/-
  WALKS: wf's rules 5 and 6.
-/
namespace Go.Proofs.YthlalmoapbdccaaDoor.WX
open Go.RowKit HL
open IX (ptr El cellsK cellsK_at OwnK RdK strK)
set_option maxRecDepth 100000
set_option linter.unusedVariables false
set_option linter.unusedSimpArgs false

noncomputable def outLim (f : Bs → Option Ob) (o : Ob) : Bool := !inLim f o
set_option maxHeartbeats 4000000 in
theorem each1L_any {A : Option Addr} (o : Ob) (B V M m n c : Nat) (f : Bs → Option Ob) (w : World) (hB : B < w.heap.size) (hb : w.cell? ⟨B, 0, none⟩ = some (.func (.func 87) #[] #[ptr V])) (hV : V < w.heap.size) (hc1 : w.cell? ⟨V, 1, none⟩ = some (.map (some M))) (hm : MapO w M m f)
    (hF : FineM f) (hh : o.handle.size ≤ maxLen) (hrf : o.ref.size ≤ maxLen) (hk : o.kind ≤ 255) (hT : Tables w) :
    Calls Tryd.prog 93 #[ob o, ptr B] w fun e w' => e = .returned (.bool (outLim f o)) ∧ Below w.heap.size w w' := by
  have hb0 : Below w.heap.size w w := Below.refl _ _
  have b1 := bAl hb0 (.cells (obCells o) 31)
  have CP := Lib.hid (limits1_any o V M m f (w.alloc (.cells (obCells o) 31)) (Nat.lt_of_lt_of_le hV b1.size) ((b1.cell (p := ⟨V, 1, none⟩) hV).trans hc1) (hm.then b1) hrf)
  have HV : Hid (outLim f o = !inLim f o) := Lib.hid rfl
  have mc := (AtC.new w (obCells o) 31).c
  clear hm hT hV b1 hF
  generalize outLim f o = s at *
  generalize inLim f o = r at *
  go_enter Tryd.func93, Tryd.ntmps93
  go_wp2_with (go_at_call 87; ((with_reducible refine CP.out.mono ?_); rintro e w3 ⟨rfl, k3⟩))
  go_ret
  exact ⟨by rw [HV.out]; rfl, bThen (bAl hb0 _) k3⟩
set_option maxHeartbeats 8000000 in
theorem limits_any {A : Option Addr} (l : List Ob) (c M m : Nat) (f : Bs → Option Ob) (w : World) (hr : RdK obK w w.heap.size A l) (hl : l.length ≤ 1000) (hm : MapO w M m f)
    (hF : FineM f) (ho : ∀ o ∈ l, o.handle.size ≤ maxLen ∧ o.ref.size ≤ maxLen ∧ o.kind ≤ 255) (hT : Tables w) :
    Calls Tryd.prog 70 #[.agg (viewC A l.length c M)] w fun e w' => e = .returned (.int .i64 (if l.any (outLim f) = true then 91 else 0)) ∧ Below w.heap.size w w' := by
  have hb0 : Below w.heap.size w w := Below.refl _ _
  have m1 := AtC.new w (viewC A l.length c M) 74
  have CE : Hid (Calls Tryd.prog 84 #[.agg (viewC A l.length c M), .func (.func 87) #[] #[ptr w.heap.size], .int .i64 91] (w.alloc (.cells (viewC A l.length c M) 74)) fun e w' => e = .returned (.int .i64 (if l.any (outLim f) = true then 91 else 0)) ∧ Below (w.alloc (.cells (viewC A l.length c M) 74)).heap.size (w.alloc (.cells (viewC A l.length c M) 74)) w') := Lib.hid (by
    have b1 : Below w.heap.size w (w.alloc (.cells (viewC A l.length c M) 74)) := bAl hb0 _
    generalize w.alloc (.cells (viewC A l.length c M) 74) = W at *
    have hVlt := m1.lt
    have hV1 := m1.c 1
    have bW : Below W.heap.size W W := Below.refl _ _
    have b2 : Below W.heap.size W ((W.alloc (.cells (viewC A l.length c M) 74)).alloc (.cells #[.func (.func 87) #[] #[ptr w.heap.size]] 32)) := bAl (bAl bW _) _
    have mB := AtC.newAt (w := W.alloc (.cells (viewC A l.length c M) 74)) (B := W.heap.size + 1) (C := #[.func (.func 87) #[] #[ptr w.heap.size]]) (T := 32) (by simp)
    have CC := Lib.hid (containsE_any l c (W.heap.size + 1) (outLim f) _ ((hr.below (b1.trans (b2.mono b1.size))).more (b1.trans (b2.mono b1.size)).size) (by omega) (fun o hoo W2 q => by
      obtain ⟨h1, h2, h3⟩ := ho o hoo
      have b3 : Below W.heap.size W W2 := b2.trans (q.mono b2.size)
      have b4 : Below w.heap.size w W2 := b1.trans (b3.mono b1.size)
      exact each1L_any (A := A) o (W.heap.size + 1) w.heap.size M m l.length c f W2 (mB.then q).lt ((mB.then q).c 0) (Nat.lt_of_lt_of_le hVlt b3.size) ((b3.cell (p := ⟨w.heap.size, 1, none⟩) hVlt).trans hV1) (hm.then b4) hF h1 h2 h3 (hT.then b4)))
    have vc := (AtC.new W (viewC A l.length c M) 74).c
    have vl := (AtC.new W (viewC A l.length c M) 74).lt
    clear hr hm ho hT m1 b1 mB hV1 b2 hF
    generalize l.any (outLim f) = r at *
    cases r with
    | true =>
      go_enter Tryd.func84, Tryd.ntmps84
      go_wp2_with (go_at_call 92; ((with_reducible refine CC.out.mono ?_); rintro e w3 ⟨rfl, k3⟩))
      go_ret
      exact ⟨rfl, bThen (bAl (bAl bW _) _) k3⟩
    | false =>
      go_enter Tryd.func84, Tryd.ntmps84
      go_wp2_with (go_at_call 92; ((with_reducible refine CC.out.mono ?_); rintro e w3 ⟨rfl, k3⟩))
      go_ret
      exact ⟨rfl, bThen (bAl (bAl bW _) _) k3⟩)
  have mc := m1.c
  clear hr hm ho hT m1 hF
  generalize (if l.any (outLim f) = true then (91 : Int) else 0) = r at *
  go_enter Tryd.func70, Tryd.ntmps70
  go_wp2_with (go_at_call 84; ((with_reducible refine CE.out.mono ?_); rintro e w3 ⟨rfl, k3⟩))
  go_ret
  exact ⟨rfl, bThen (bAl hb0 _) k3⟩

noncomputable def noRef (f : Bs → Option Ob) (o : Ob) : Bool := !refW f o
set_option maxHeartbeats 4000000 in
theorem each1R_any {A : Option Addr} (o : Ob) (B V M m n c : Nat) (f : Bs → Option Ob) (w : World) (hB : B < w.heap.size) (hb : w.cell? ⟨B, 0, none⟩ = some (.func (.func 86) #[.agg (viewC A n c M)] #[])) (hV : V < w.heap.size)  (hm : MapO w M m f)
    (hF : FineM f) (hh : o.handle.size ≤ maxLen) (hrf : o.ref.size ≤ maxLen) (hk : o.kind ≤ 255) (hT : Tables w) :
    Calls Tryd.prog 93 #[ob o, ptr B] w fun e w' => e = .returned (.bool (noRef f o)) ∧ Below w.heap.size w w' := by
  have hb0 : Below w.heap.size w w := Below.refl _ _
  have b1 := bAl hb0 (.cells (obCells o) 31)
  have CP := Lib.hid (refersWell_any (A := A) n c M m f o (w.alloc (.cells (obCells o) 31)) (hm.then b1) hF hh hrf hk (hT.then b1))
  have HV : Hid (noRef f o = !refW f o) := Lib.hid rfl
  have mc := (AtC.new w (obCells o) 31).c
  clear hm hT hV b1 hF
  generalize noRef f o = s at *
  generalize refW f o = r at *
  go_enter Tryd.func93, Tryd.ntmps93
  go_wp2_with (go_at_call 86; ((with_reducible refine CP.out.mono ?_); rintro e w3 ⟨rfl, k3⟩))
  go_ret
  exact ⟨by rw [HV.out]; rfl, bThen (bAl hb0 _) k3⟩
set_option maxHeartbeats 8000000 in
theorem refs_any {A : Option Addr} (l : List Ob) (c M m : Nat) (f : Bs → Option Ob) (w : World) (hr : RdK obK w w.heap.size A l) (hl : l.length ≤ 1000) (hm : MapO w M m f)
    (hF : FineM f) (ho : ∀ o ∈ l, o.handle.size ≤ maxLen ∧ o.ref.size ≤ maxLen ∧ o.kind ≤ 255) (hT : Tables w) :
    Calls Tryd.prog 69 #[.agg (viewC A l.length c M)] w fun e w' => e = .returned (.int .i64 (if l.any (noRef f) = true then 90 else 0)) ∧ Below w.heap.size w w' := by
  have hb0 : Below w.heap.size w w := Below.refl _ _
  have m1 := AtC.new w (viewC A l.length c M) 74
  have CE : Hid (Calls Tryd.prog 84 #[.agg (viewC A l.length c M), .func (.func 86) #[.agg (viewC A l.length c M)] #[], .int .i64 90] (w.alloc (.cells (viewC A l.length c M) 74)) fun e w' => e = .returned (.int .i64 (if l.any (noRef f) = true then 90 else 0)) ∧ Below (w.alloc (.cells (viewC A l.length c M) 74)).heap.size (w.alloc (.cells (viewC A l.length c M) 74)) w') := Lib.hid (by
    have b1 : Below w.heap.size w (w.alloc (.cells (viewC A l.length c M) 74)) := bAl hb0 _
    generalize w.alloc (.cells (viewC A l.length c M) 74) = W at *
    have hVlt := m1.lt
    have hV1 := m1.c 1
    have bW : Below W.heap.size W W := Below.refl _ _
    have b2 : Below W.heap.size W ((W.alloc (.cells (viewC A l.length c M) 74)).alloc (.cells #[.func (.func 86) #[.agg (viewC A l.length c M)] #[]] 32)) := bAl (bAl bW _) _
    have mB := AtC.newAt (w := W.alloc (.cells (viewC A l.length c M) 74)) (B := W.heap.size + 1) (C := #[.func (.func 86) #[.agg (viewC A l.length c M)] #[]]) (T := 32) (by simp)
    have CC := Lib.hid (containsE_any l c (W.heap.size + 1) (noRef f) _ ((hr.below (b1.trans (b2.mono b1.size))).more (b1.trans (b2.mono b1.size)).size) (by omega) (fun o hoo W2 q => by
      obtain ⟨h1, h2, h3⟩ := ho o hoo
      have b3 : Below W.heap.size W W2 := b2.trans (q.mono b2.size)
      have b4 : Below w.heap.size w W2 := b1.trans (b3.mono b1.size)
      exact each1R_any (A := A) o (W.heap.size + 1) w.heap.size M m l.length c f W2 (mB.then q).lt ((mB.then q).c 0) (Nat.lt_of_lt_of_le hVlt b3.size)  (hm.then b4) hF h1 h2 h3 (hT.then b4)))
    have vc := (AtC.new W (viewC A l.length c M) 74).c
    have vl := (AtC.new W (viewC A l.length c M) 74).lt
    clear hr hm ho hT m1 b1 mB hV1 b2 hF
    generalize l.any (noRef f) = r at *
    cases r with
    | true =>
      go_enter Tryd.func84, Tryd.ntmps84
      go_wp2_with (go_at_call 92; ((with_reducible refine CC.out.mono ?_); rintro e w3 ⟨rfl, k3⟩))
      go_ret
      exact ⟨rfl, bThen (bAl (bAl bW _) _) k3⟩
    | false =>
      go_enter Tryd.func84, Tryd.ntmps84
      go_wp2_with (go_at_call 92; ((with_reducible refine CC.out.mono ?_); rintro e w3 ⟨rfl, k3⟩))
      go_ret
      exact ⟨rfl, bThen (bAl (bAl bW _) _) k3⟩)
  have mc := m1.c
  clear hr hm ho hT m1 hF
  generalize (if l.any (noRef f) = true then (90 : Int) else 0) = r at *
  go_enter Tryd.func69, Tryd.ntmps69
  go_wp2_with (go_at_call 84; ((with_reducible refine CE.out.mono ?_); rintro e w3 ⟨rfl, k3⟩))
  go_ret
  exact ⟨rfl, bThen (bAl hb0 _) k3⟩
end Go.Proofs.YthlalmoapbdccaaDoor.WX
/-
  WALKS: wf's verdict, Check, Rule, Well.
-/
namespace Go.Proofs.YthlalmoapbdccaaDoor.WX
open Go.RowKit HL
open IX (ptr El cellsK cellsK_at OwnK RdK strK)
set_option maxRecDepth 100000
set_option linter.unusedVariables false
set_option linter.unusedSimpArgs false

/-- What the list's objects meet. -/
structure MeetsL (l : List Ob) (w : World) : Prop where
  len : l.length ≤ 1000
  o : ∀ o ∈ l, Meets o w
  t : Tables w
theorem MeetsL.then {l : List Ob} {w W : World} (h : MeetsL l w) (k : Below w.heap.size w W) : MeetsL l W := ⟨h.len, fun o ho => (h.o o ho).then k, h.t.then k⟩
theorem fineM_last {l : List Ob} {w : World} (h : MeetsL l w) : FineM (lastO l) :=
  ⟨fun y o e => (h.o o (lastK_mem l l.length (Nat.le_refl _) y o e).1).handle, fun y o e => (h.o o (lastK_mem l l.length (Nat.le_refl _) y o e).1).parent, fun y o e => (h.o o (lastK_mem l l.length (Nat.le_refl _) y o e).1).kind⟩
/-- What rule i + 1 tells. -/
noncomputable def ruleE (l : List Ob) (i : Nat) : Int := match i with
  | 0 => (fltK l l.length).2
  | 1 => if twiceB l = true then 71 else 0
  | 2 => if l.any (noStand (lastO l)) = true then 50 else 0
  | 3 => if countsB l = true then 51 else 0
  | 4 => if l.any (noRef (lastO l)) = true then 90 else 0
  | 5 => if l.any (outLim (lastO l)) = true then 91 else 0
  | _ => if ctxB l = true then 92 else 0
theorem ruleE_0 (l : List Ob) : ruleE l 0 = (fltK l l.length).2 := rfl
/-- The first rule from i on that tells an error. -/
noncomputable def verK (l : List Ob) : Nat → Nat → Nat × Int
  | 0, _ => (0, 0)
  | n + 1, i => if ruleE l i ≠ 0 then (i + 1, ruleE l i) else verK l n (i + 1)
theorem if_err {b : Bool} {e : Int} (he : e ≠ 0) : (if b = true then e else 0) ≠ 0 ↔ b = true := by cases b <;> simp [he]
theorem verK_R (l : List Ob) : verK l 7 0 = verR l := by
  unfold verR
  by_cases h0 : (fltK l l.length).2 ≠ 0
  · rw [if_pos h0]
    unfold verK
    rw [if_pos (show ruleE l 0 ≠ 0 from h0)]
    rfl
  · rw [if_neg h0]
    have e5 : (fun o => !refW (lastO l) o) = noRef (lastO l) := rfl
    have e6 : (fun o => !inLim (lastO l) o) = outLim (lastO l) := rfl
    rw [e5, e6]
    simp only [verK]
    rw [if_neg (show ¬ ruleE l 0 ≠ 0 from h0)]
    simp only [ruleE, if_err (b := twiceB l) (e := 71) (by decide), if_err (b := l.any (noStand (lastO l))) (e := 50) (by decide), if_err (b := countsB l) (e := 51) (by decide), if_err (b := l.any (noRef (lastO l))) (e := 90) (by decide), if_err (b := l.any (outLim (lastO l))) (e := 91) (by decide), if_err (b := ctxB l) (e := 92) (by decide)]
    cases twiceB l <;> cases l.any (noStand (lastO l)) <;> cases countsB l <;> cases l.any (noRef (lastO l)) <;> cases l.any (outLim (lastO l)) <;> cases ctxB l <;> simp
def ruleF (i : Nat) : FuncId := match i with
  | 0 => 65
  | 1 => 66
  | 2 => 67
  | 3 => 68
  | 4 => 69
  | 5 => 70
  | _ => 71
theorem rule_any {A : Option Addr} (l : List Ob) (c M : Nat) (i : Nat) (w : World) (hr : RdK obK w w.heap.size A l) (h : MeetsL l w) (hm : MapO w M l.length (lastO l)) :
    Calls Tryd.prog (ruleF i) #[.agg (viewC A l.length c M)] w fun e w' => e = .returned (.int .i64 (ruleE l i)) ∧ Below w.heap.size w w' := by
  have hF := fineM_last h
  match i with
  | 0 => exact faults_any l c M w hr h.len (fun o ho W k => (h.o o ho).then k)
  | 1 => exact handles_any l c M l.length w h.len hm
  | 2 => exact parents_any l c M l.length (lastO l) w hr h.len hm (fun o ho => ⟨(h.o o ho).parent, (h.o o ho).kind, (hF.orZ _).2⟩) h.t
  | 3 => exact counts_any l c M w hr h.len (fun o ho => ⟨(h.o o ho).parent, (h.o o ho).kind⟩) h.t
  | 4 => exact refs_any l c M l.length (lastO l) w hr h.len hm hF (fun o ho => ⟨(h.o o ho).handle, (h.o o ho).ref, (h.o o ho).kind⟩) h.t
  | 5 => exact limits_any l c M l.length (lastO l) w hr h.len hm hF (fun o ho => ⟨(h.o o ho).handle, (h.o o ho).ref, (h.o o ho).kind⟩) h.t
  | n + 6 => exact contexts_any l c M w hr h.len (fun o ho => ⟨(h.o o ho).parent, (h.o o ho).typ⟩)
/-- The seven rules' functions. -/
abbrev ruleV : Array Value := #[.func (.func 65) #[] #[], .func (.func 66) #[] #[], .func (.func 67) #[] #[], .func (.func 68) #[] #[], .func (.func 69) #[] #[], .func (.func 70) #[] #[], .func (.func 71) #[] #[]]
theorem rules_any (w : World) : Calls Tryd.prog 50 #[] w fun e w' => ∃ B, e = .returned (.slice (some ⟨B, 0, none⟩) 7 7) ∧ AtC w' B ruleV ∧ Below w.heap.size w w' := by
  have hb0 : Below w.heap.size w w := Below.refl _ _
  go_enter Tryd.func50, Tryd.ntmps50
  go_wp2
  go_ret
  exact ⟨_, rfl, AtC.new _ _ _, bAl hb0 _⟩
theorem ruleF_enters (i : Nat) : ∀ (args : Array Value) (w : World), (callFunc (ruleF i) args).run Tryd.prog w = .ok (.enter (ruleF i) args) w := by
  match i with
  | 0 => exact enters_of Tryd.func65 (by kernel_rfl) rfl
  | 1 => exact enters_of Tryd.func66 (by kernel_rfl) rfl
  | 2 => exact enters_of Tryd.func67 (by kernel_rfl) rfl
  | 3 => exact enters_of Tryd.func68 (by kernel_rfl) rfl
  | 4 => exact enters_of Tryd.func69 (by kernel_rfl) rfl
  | 5 => exact enters_of Tryd.func70 (by kernel_rfl) rfl
  | n + 6 => exact enters_of Tryd.func71 (by kernel_rfl) rfl
theorem ruleV_at {k : Nat} (hk : k < 7) : ruleV[k]? = some (.func (.func (ruleF k)) #[] #[]) := by
  match k, hk with
  | 0, _ => rfl
  | 1, _ => rfl
  | 2, _ => rfl
  | 3, _ => rfl
  | 4, _ => rfl
  | 5, _ => rfl
  | 6, _ => rfl
set_option maxHeartbeats 16000000 in
theorem verdict_any {A : Option Addr} (l : List Ob) (c : Nat) (w : World) (hr : RdK obK w w.heap.size A l) (h : MeetsL l w) :
    Calls Tryd.prog 27 #[.slice A l.length c] w fun e w' => e = .returned (.tuple #[.int .i64 ((verR l).1 : Nat), .int .i64 (verR l).2]) ∧ Below w.heap.size w w' := by
  have hb0 : Below w.heap.size w w := Below.refl _ _
  have CL := Lib.hid (look_any l c w hr h.len (fun o ho => (h.o o ho).handle))
  have CR := Lib.hid (fun W => rules_any W)
  have CQ := Lib.hid (fun M W (q : Below w.heap.size w W) (hm : MapO W M l.length (lastO l)) i => rule_any l c M i W ((hr.below q).more q.size) (h.then q) hm)
  obtain ⟨res, hres⟩ : ∃ r, verK l 7 0 = r := ⟨_, rfl⟩
  have HRES := Lib.hid hres
  rw [← verK_R, hres]
  clear hr h hres
  go_enter Tryd.func27, Tryd.ntmps27
  go_wp2_with (first
    | (go_at_call 49; ((with_reducible refine CL.out.mono ?_); rintro e w1 ⟨M, rfl, hm, k1⟩; have HM := Lib.hid hm; have K1 := Lib.hid k1; clear hm k1))
    | (go_at_call 50; ((with_reducible refine (CR.out _).mono ?_); rintro e w2 ⟨B, rfl, hv, k2⟩; have HV := Lib.hid hv; have K2 := Lib.hid (bThen (bAl K1.out _) k2); have HM2 := Lib.hid ((HM.out.then (bAl (Below.refl _ _) _)).then k2); have MV := Lib.hid ((AtC.new w1 (viewC A l.length c M) 74).then k2); clear hv k2)))
  go_loopw [12] (fun i wr => ∃ k : Nat, i = .int .i64 k ∧ k ≤ 7 ∧ Hid (verK l (7 - k) k = res) ∧ Below w2.heap.size w2 wr) (fun i _ => 7 - (intOf i).toNat)
  case atStart => exact ⟨0, rfl, by omega, HRES, Below.refl _ _⟩
  case round =>
    obtain ⟨k, rfl, hk, hv, k3⟩ := hrel
    have K3 := Lib.hid k3
    by_cases hlt : k < 7
    · have i1 : (k : Int) < 7 := by omega
      have mv := (MV.out.then k3).c
      have mr := ((HV.out.then k3).c k).trans (ruleV_at hlt)
      have HENT := ruleF_enters k
      have CC := CQ.out M wr (bThen K2.out k3) (HM2.out.then k3) k
      have HS : Hid (res = if ruleE l k ≠ 0 then (k + 1, ruleE l k) else verK l (7 - (k + 1)) (k + 1)) := Lib.hid (by
        have := hv.out
        rw [show 7 - k = (7 - (k + 1)) + 1 by omega] at this
        exact this.symm)
      clear hv k3
      generalize ruleF k = f at *
      generalize ruleE l k = e at *
      have CC := Lib.hid CC
      by_cases he : e = 0
      · subst he
        have HV2 : Hid (res = verK l (7 - (k + 1)) (k + 1)) := Lib.hid (by rw [HS.out]; simp)
        clear HS
        go_wp2_with ((with_reducible refine CC.out.mono ?_); rintro e w4 ⟨rfl, k4⟩)
        go_roundw
        case rel => exact ⟨k + 1, by go_num, by omega, Lib.hid HV2.out.symm, bThen K3.out k4⟩
        case measure => simp [intOf]; omega
      · have g0 : (e != 0) = true := by simpa using he
        have HV2 : Hid (res = (k + 1, e)) := Lib.hid (by rw [HS.out, if_pos he])
        clear HS he
        go_wp2_with ((with_reducible refine CC.out.mono ?_); rintro e w4 ⟨rfl, k4⟩)
        go_ret2
        exact ⟨by rw [HV2.out]; rfl, bThen (bThen K2.out K3.out) k4⟩
    · obtain rfl : k = 7 := by omega
      have HV2 : Hid (res = (0, 0)) := Lib.hid hv.out.symm
      clear hv
      go_wp2
      go_ret2
      exact ⟨by rw [HV2.out]; rfl, bThen K2.out k3⟩
set_option maxHeartbeats 4000000 in
theorem check_any {A : Option Addr} (l : List Ob) (c : Nat) (w : World) (hr : RdK obK w w.heap.size A l) (h : MeetsL l w) :
    Calls Tryd.prog 11 #[.slice A l.length c] w fun e w' => e = .returned (.int .i64 (verR l).2) ∧ Below w.heap.size w w' := by
  have CC := Lib.hid (verdict_any l c w hr h)
  clear hr h
  generalize verR l = r at *
  go_enter Tryd.func11, Tryd.ntmps11
  go_wp2_with (go_at_call 27; ((with_reducible refine CC.out.mono ?_); rintro e w4 ⟨rfl, k4⟩))
  go_ret
  exact ⟨rfl, k4⟩
set_option maxHeartbeats 4000000 in
theorem ruleN_any {A : Option Addr} (l : List Ob) (c : Nat) (w : World) (hr : RdK obK w w.heap.size A l) (h : MeetsL l w) :
    Calls Tryd.prog 12 #[.slice A l.length c] w fun e w' => e = .returned (.int .i64 ((verR l).1 : Nat)) ∧ Below w.heap.size w w' := by
  have CC := Lib.hid (verdict_any l c w hr h)
  clear hr h
  generalize verR l = r at *
  go_enter Tryd.func12, Tryd.ntmps12
  go_wp2_with (go_at_call 27; ((with_reducible refine CC.out.mono ?_); rintro e w4 ⟨rfl, k4⟩))
  go_ret
  exact ⟨rfl, k4⟩
set_option maxHeartbeats 4000000 in
theorem well_any {A : Option Addr} (l : List Ob) (c : Nat) (w : World) (hr : RdK obK w w.heap.size A l) (h : MeetsL l w) :
    Calls Tryd.prog 13 #[.slice A l.length c] w fun e w' => e = .returned (.bool ((verR l).2 == 0)) ∧ Below w.heap.size w w' := by
  have CC := Lib.hid (check_any l c w hr h)
  clear hr h
  generalize verR l = r at *
  go_enter Tryd.func13, Tryd.ntmps13
  go_wp2_with (go_at_call 11; ((with_reducible refine CC.out.mono ?_); rintro e w4 ⟨rfl, k4⟩))
  go_ret
  exact ⟨rfl, k4⟩
end Go.Proofs.YthlalmoapbdccaaDoor.WX
