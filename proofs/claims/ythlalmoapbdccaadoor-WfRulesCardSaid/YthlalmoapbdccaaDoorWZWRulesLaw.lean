/-
  WALK: the law WfRules.
-/
import Derived.Test.YthlalmoapbdccaaDoorWZWU8
namespace Go.Proofs.YthlalmoapbdccaaDoor.WX
open Go.RowKit HL
open IX (ptr El cellsK cellsK_at OwnK RdK strK)
open TX (Ext wp_region_ext ext_below ext_same)
set_option maxRecDepth 100000
set_option linter.unusedVariables false
set_option linter.unusedSimpArgs false

theorem fine_ob {l : List Ob} (hF : ∀ o ∈ l, Fine o) (x : Bs) : (obO (findO l x)).kind ≤ 255 := by
  cases e : findO l x with
  | none => exact Nat.zero_le _
  | some o => exact (hF o (findO_some e).1).kind
theorem tl_eq (a b : ByteArray) : (a.toList == b.toList) = decide (a.data.toList = b.data.toList) := by
  rw [ByteArray.toList_eq, ByteArray.toList_eq]
  rw [Bool.eq_iff_iff]; simp
theorem nd_ne {l : List Ob} (hn : (l.map hb).Nodup) {k j : Nat} {x o : Ob} (hk : l[k]? = some x) (hj : l[j]? = some o) (hne : k ≠ j) : (x.handle.toList == o.handle.toList) = false := by
  rw [tl_eq, decide_eq_false_iff_not]
  intro e
  obtain ⟨h1, rfl⟩ := List.getElem?_eq_some_iff.1 hk
  obtain ⟨h2, rfl⟩ := List.getElem?_eq_some_iff.1 hj
  rw [List.nodup_iff_pairwise_ne, List.pairwise_iff_getElem] at hn
  rcases Nat.lt_or_gt_of_ne hne with q | q
  · exact hn k j (by simpa using h1) (by simpa using h2) q (by simpa using e)
  · exact hn j k (by simpa using h2) (by simpa using h1) q (by simpa using e.symm)
theorem may_call {l : List Ob} (h : Wl l) {o : Ob} (ho : o ∈ l) {W : World} (hm : MeetsL l W) : Calls Tryd.prog 19 #[ob o] W fun e w' => e = .returned (.int .i64 0) ∧ Below W.heap.size W w' := by
  have := objMay_any (hm.o o ho)
  rw [h.own o ho] at this
  exact this
theorem find_call {l : List Ob} (h : Wl l) {o : Ob} (ho : o ∈ l) {A : Option Addr} (c : Nat) {W : World} (r : RdK obK W W.heap.size A l) (hl : l.length ≤ 100) : Calls Tryd.prog 20 #[.slice A l.length c, .string o.parent] W fun e w' => e = .returned (.tuple #[ob (obO (findO l (pb o))), .bool (decide (o.kind ≠ 1))]) ∧ Below W.heap.size W w' := by
  have := find_any l c o.parent W r (by omega)
  rw [is_p h ho] at this
  exact this
theorem stand_call {l : List Ob} (h : Wl l) (hF : ∀ o ∈ l, Fine o) {o : Ob} (ho : o ∈ l) {W : World} (ht : Tables W) : Calls Tryd.prog 22 #[ob o, ob (obO (findO l (pb o)))] W fun e w' => e = .returned (.int .i64 0) ∧ Below W.heap.size W w' := by
  have := stand_any o (obO (findO l (pb o))) W (hF o ho).kind (fine_ob hF _) ht
  rw [stand_p h ho] at this
  exact this
theorem room_call {l : List Ob} (h : Wl l) (hF : ∀ o ∈ l, Fine o) {j : Nat} (hj : j < l.length) (hl : l.length ≤ 100) {W : World} (ht : Tables W) (A : Option Addr) (c n : Nat) (hn : (sibs l (pb l[j]) j l.length).length = n) (r : RdU W W.heap.size A (sibs l (pb l[j]) j l.length)) :
    Calls Tryd.prog 23 #[.int .u8 l[j].kind, .slice A n c] W fun e w' => e = .returned (.int .i64 0) ∧ Below W.heap.size W w' := by
  subst hn
  have hsl := sibs_len l (pb l[j]) j l.length
  have := room_any (A := A) l[j].kind (sibs l (pb l[j]) j l.length) c W.heap.size W (hF _ (List.getElem_mem hj)).kind r (Nat.le_refl _) (fun x hx => by
    obtain ⟨o, ho, e⟩ := sibs_mem hx
    rw [← e]; exact (hF o ho).kind) (by omega) ht
  rw [room_ok h hj] at this
  exact this
set_option maxHeartbeats 64000000 in
theorem rules_walk (A : Option Addr) (c : Nat) (l : List Ob) (w : World) (h1 : RdK obK w w.heap.size A l) (n1 : l.length ≤ maxLen) (hF : ∀ o ∈ l, Fine o) (ht : Tables w ∧ Kinds w) :
    Calls Tryd.prog 8 #[.slice A l.length c] w fun e w' => e = .returned (.bool true) ∧ Below w.heap.size w w' := by
  have CA := Lib.hid (awake9_any w ht)
  have L1 := Lib.hid (fun W (k : Below w.heap.size w W) => longO_any A c l W ((h1.below k).more k.size) n1)
  cases e1 : longO l with
  | true =>
    rw [e1] at L1
    clear e1 h1 hF ht
    go_enter Tryd.func8, Tryd.ntmps8
    go_wp2_with (first
      | (go_at_call 17; ((with_reducible refine CA.out.mono ?_); rintro e w1 ⟨rfl, k1⟩))
      | (go_at_call 9; ((with_reducible refine (L1.out _ k1).mono ?_); rintro e w2 ⟨rfl, k2⟩)))
    go_ret
    exact ⟨rfl, bThen k1 k2⟩
  | false =>
    have nl := (longO_out e1).1
    have hM : ∀ W, Below w.heap.size w W → MeetsL l W := fun W q => (meetsL_of (by omega) hF ht).then q
    have CW := Lib.hid (fun W (q : Below w.heap.size w W) => well_any (A := A) l c W ((h1.below q).more q.size) (hM W q))
    cases e2 : (verR l).2 == 0 with
    | false =>
      rw [e1] at L1
      rw [e2] at CW
      clear e1 e2 h1 hF ht
      go_enter Tryd.func8, Tryd.ntmps8
      go_wp2_with (first
        | (go_at_call 17; ((with_reducible refine CA.out.mono ?_); rintro e w1 ⟨rfl, k1⟩))
        | (go_at_call 9; ((with_reducible refine (L1.out _ k1).mono ?_); rintro e w2 ⟨rfl, q2⟩; have k2 := bThen k1 q2))
        | (go_at_call 13; ((with_reducible refine (CW.out _ k2).mono ?_); rintro e w3 ⟨rfl, q3⟩; have k3 := bThen k2 q3)))
      go_ret
      exact ⟨rfl, k3⟩
    | true =>
      rw [e1] at L1
      rw [e2] at CW
      have HW : Wl l := wl_iff.1 (by simpa using e2)
      have H1 := Lib.hid h1
      have HT := Lib.hid (fun W (k : Below w.heap.size w W) => tabs_then ht k)
      have HM := Lib.hid hM
      have HF := Lib.hid hF
      have CF := Lib.hid (fun x W (q : Below w.heap.size w W) => find_any (A := A) l c x W ((h1.below q).more q.size) (by omega))
      have CD := Lib.hid (fun x W (q : Below w.heap.size w W) => mds_any (A := A) l c x W ((h1.below q).more q.size) (by omega))
      have HWL := Lib.hid HW
      clear e1 e2 h1 hF ht hM HW n1
      go_enter Tryd.func8, Tryd.ntmps8
      go_wp2_with (first
        | (go_at_call 17; ((with_reducible refine CA.out.mono ?_); rintro e w1 ⟨rfl, k1⟩))
        | (go_at_call 9; ((with_reducible refine (L1.out _ k1).mono ?_); rintro e w2 ⟨rfl, q2⟩; have k2 := bThen k1 q2))
        | (go_at_call 13; ((with_reducible refine (CW.out _ k2).mono ?_); rintro e w3 ⟨rfl, q3⟩; have K3 := Lib.hid (bThen k2 q3))))
      clear CA CW L1
      go_loopw [3] (fun v wr => ∃ j : Nat, v = .int .i64 j ∧ j ≤ l.length ∧ Below w.heap.size w wr) (fun v _ => l.length - (intOf v).toNat)
      case atStart => exact ⟨0, rfl, Nat.zero_le _, K3.out⟩
      case round =>
        obtain ⟨j, rfl, hj, k4⟩ := hrel
        have K4 := Lib.hid k4
        by_cases hlt : j < l.length
        · have i1 : (j : Int) < (l.length : Int) := by omega
          obtain ⟨b, off, rfl, hbk, hc⟩ := obs_at (H1.out.below k4) (by omega)
          obtain ⟨c0, c1, c2, c3, c4, c5, c6, c7, c8, c9, c10, c11, c12, c13⟩ := hc j _ (List.getElem?_eq_getElem hlt)
          have ho := List.getElem_mem hlt
          have HO := Lib.hid ho
          have HN := Lib.hid hlt
          have CM := Lib.hid (fun W (q : Below w.heap.size w W) => may_call HWL.out ho (HM.out W q))
          have CS := Lib.hid (fun W (q : Below w.heap.size w W) => stand_call HWL.out HF.out ho (HT.out W q).1)
          have CP : Hid (∀ W, Below w.heap.size w W → Calls Tryd.prog 20 #[.slice (some ⟨b, off, none⟩) l.length c, .string l[j].parent] W fun e w' => e = .returned (.tuple #[ob (obO (findO l (pb l[j]))), .bool (decide (l[j].kind ≠ 1))]) ∧ Below W.heap.size W w') := Lib.hid (fun W q => find_call HWL.out ho c ((H1.out.below q).more q.size) nl)
          have CR := Lib.hid (fun W (q : Below w.heap.size w W) => room_call HWL.out HF.out hlt nl (HT.out W q).1)
          have HJ := Lib.hid (List.getElem?_eq_getElem hlt)
          clear hc k4
          generalize l[j] = o at *
          have hk : (decide (o.kind ≠ 1) != decide (o.kind ≠ 1)) = false := by simp
          have hpk : ((o.kind : Int) != 1) = decide (o.kind ≠ 1) := by rw [Bool.eq_iff_iff]; simp; omega
          generalize obO (findO l (pb o)) = p at *
          generalize decide (o.kind ≠ 1) = bk at *
          go_wp2_with (first
            | (go_at_call 20; ((with_reducible refine (CP.out _ (bAl K4.out _)).mono ?_); rintro e w5 ⟨rfl, q5⟩; have K5 := Lib.hid (bThen (bAl K4.out _) q5); have m5 := ((AtC.new wr (obCells o) 31).then q5); have M5 := Lib.hid m5; have m5c := m5.c; have mp5 := (AtC.new w5 (obCells p) 31).c; have m5a := (m5.al (.cells (obCells p) 31)).c; clear m5))
            | (go_at_call 19; ((with_reducible refine (CM.out _ (bAl K5.out _)).mono ?_); rintro e w6 ⟨rfl, q6⟩; have K6 := Lib.hid (bThen (bAl K5.out _) q6); have M6 := Lib.hid ((M5.out.al (.cells (obCells p) 31)).then q6); have m6c := M6.out.c; have P6 := Lib.hid ((AtC.new w5 (obCells p) 31).then q6); have p6c := P6.out.c; clear m5c mp5 m5a))
            | (go_at_call 22; ((with_reducible refine (CS.out _ K6.out).mono ?_); rintro e w7 ⟨rfl, q7⟩; have K7 := Lib.hid (bThen K6.out q7); have M7 := Lib.hid (M6.out.then q7); clear m6c p6c)))
          clear M5 M6 P6 K5 K6 K4 CM CS CP q5 q6 q7 c0 c1 c2 c3 c4 c5 c6 c7 c8 c9 c10 c11 c12 c13 hk hpk
          generalize wr.heap.size = Bo at *
          go_loopw [7, 8] (fun kv v wq => ∃ k : Nat, v = .int .i64 k ∧ k ≤ l.length ∧ Hid (OwnK u8K wq w7.heap.size kv (sibs l (pb o) j k)) ∧ Below w7.heap.size w7 wq) (fun _ v _ => l.length - (intOf v).toNat)
          case atStart => exact ⟨0, rfl, Nat.zero_le _, Lib.hid (OwnK.nil_ u8K w7 w7.heap.size), Below.refl _ _⟩
          case round =>
            obtain ⟨k, rfl, hk, HK, k8⟩ := hrel
            have K8 := Lib.hid k8
            by_cases hkl : k < l.length
            · have i2 : (k : Int) < (l.length : Int) := by omega
              obtain ⟨b', off', e', hbk', hc'⟩ := obs_at (H1.out.below (bThen K7.out k8)) (by omega)
              injection e' with e'
              injection e' with e1 e2
              subst e1 e2
              obtain ⟨d0, d1, d2, _⟩ := hc' k _ (List.getElem?_eq_getElem hkl)
              have HX := Lib.hid (List.getElem?_eq_getElem hkl)
              have HNX := Lib.hid (sibs_next (p := pb o) (i := j) hkl)
              have zz : Below w.heap.size w wr := bThen K7.out k8
              have D0 := Lib.hid (fun W (q : Below wr.heap.size wr W) => (q.cell (p := ⟨b, off + k * 14, none⟩) (Nat.lt_of_lt_of_le hbk' zz.size)).trans d0)
              have D1 := Lib.hid (fun W (q : Below wr.heap.size wr W) => (q.cell (p := ⟨b, off + k * 14 + 1, none⟩) (Nat.lt_of_lt_of_le hbk' zz.size)).trans d1)
              have D2 := Lib.hid (fun W (q : Below wr.heap.size wr W) => (q.cell (p := ⟨b, off + k * 14 + 2, none⟩) (Nat.lt_of_lt_of_le hbk' zz.size)).trans d2)
              have M8 := Lib.hid (M7.out.then k8)
              clear hc' d0 d1 d2 zz k8
              generalize l[k] = x at *
              have r2 : ∀ y : Ext wr, y.W.cell? ⟨b, off + k * 14 + 2, none⟩ = some (.string x.parent) := fun y => D2.out _ y.b
              have rm : ∀ y : Ext wr, ∀ i, y.W.cell? ⟨Bo, i, none⟩ = (obCells o)[i]? := fun y => (M8.out.then y.b).c
              by_cases hp : x.parent = o.parent
              · have ep : (x.parent.toList == o.parent.toList) = true := by rw [hp]; simp
                by_cases hkj : k = j
                · have i3 : ((k : Int) != (j : Int)) = false := by simp; omega
                  have HK2 : Hid (sibs l (pb o) j (k + 1) = sibs l (pb o) j k) := Lib.hid (by rw [HNX.out, if_neg (fun z => z.2 hkj), List.append_nil])
                  clear hp hkj HNX
                  go_wp2
                  refine wp_region_ext (by kernel_rfl) (by kernel_rfl) ?_
                  repeat (go_big_quiet_step (fail))
                  refine wpQuiet_nil ?_
                  rintro _ ⟨y, rfl⟩
                  clear r2 rm
                  go_wp2
                  go_roundw
                  case rel => exact ⟨k + 1, by go_num, by omega, Lib.hid (by rw [HK2.out]; exact HK.out.below y.b), bThen K8.out y.b⟩
                  case measure => simp [intOf]; omega
                · have i3 : ((k : Int) != (j : Int)) = true := by simp; omega
                  have HK2 : Hid (sibs l (pb o) j (k + 1) = sibs l (pb o) j k ++ [x.kind]) := Lib.hid (by rw [HNX.out, if_pos ⟨by show x.parent.data.toList = _; rw [hp], hkj⟩])
                  have i4 := nd_ne HWL.out.nd HX.out HJ.out hkj
                  have HLN := Lib.hid (sibs_len l (pb o) j k)
                  clear hp hkj HNX
                  go_wp2
                  refine wp_region_ext (by kernel_rfl) (by kernel_rfl) ?_
                  repeat (go_big_quiet_step (fail))
                  refine wpQuiet_nil ?_
                  rintro _ ⟨y, rfl⟩
                  have r1 := D1.out _ y.b
                  have HO2 := Lib.hid ((HK.out.below y.b).below (bAl (Below.refl _ y.W) (.cells #[.int .u8 x.kind] 5)))
                  have hz8 : w7.heap.size ≤ (y.W.alloc (.cells #[.int .u8 x.kind] 5)).heap.size := by have := K8.out.size; have := y.b.size; simp; omega
                  clear r2 rm
                  go_wp2_with (at_builtin; refine IX.wpList_spreadK u8K rfl (.tmp 76) (.tmp 82) rfl w7.heap.size _ (sibs l (pb o) j k) rfl HO2.out (y.W.heap.size + 1) (some ⟨y.W.heap.size, 0, none⟩) 1 1 [x.kind] rfl rfl (RdK.lit y.W x.kind #[.int .u8 x.kind] rfl _) ?c1 hz8 ?_)
                  case c1 => have := HLN.out; simp; omega
                  intro v' w9 o9 g9 _
                  have k9 : Below w7.heap.size w7 w9 := (bAl (bThen K8.out y.b) (.cells #[.int .u8 x.kind] 5)).grown g9 hz8 (fun i hi => (HO2.out.lt i hi).1)
                  have K9 := Lib.hid k9
                  have O9 := Lib.hid o9
                  have M9 := Lib.hid (M7.out.then k9)
                  obtain ⟨b2, off2, e2, hb2, hc2⟩ := obs_at (H1.out.below (bThen K7.out k9)) (by omega)
                  injection e2 with e2
                  injection e2 with e3 e4
                  subst e3 e4
                  obtain ⟨f0, _⟩ := hc2 k _ HX.out
                  have hsz9 := (bThen K7.out k9).size
                  have rx : ∀ z : Ext w9, z.W.cell? ⟨b, off + k * 14, none⟩ = some (.string x.handle) := fun z => (z.b.cell (p := ⟨b, off + k * 14, none⟩) (Nat.lt_of_lt_of_le hb2 hsz9)).trans f0
                  have ro : ∀ z : Ext w9, ∀ i, z.W.cell? ⟨Bo, i, none⟩ = (obCells o)[i]? := fun z => (M9.out.then z.b).c
                  clear o9 g9 k9 hc2 f0 HO2 hz8 r1
                  go_wp2
                  refine wp_region_ext (by kernel_rfl) (by kernel_rfl) ?_
                  repeat (go_big_quiet_step (fail))
                  refine wpQuiet_nil ?_
                  rintro _ ⟨z, rfl⟩
                  clear rx ro
                  go_wp2
                  go_roundw
                  case rel => exact ⟨k + 1, by go_num, by omega, Lib.hid (by rw [HK2.out]; exact O9.out.below z.b), bThen K9.out z.b⟩
                  case measure => simp [intOf]; omega
              · have ep : (x.parent.toList == o.parent.toList) = false := tl_ne hp
                have HK2 : Hid (sibs l (pb o) j (k + 1) = sibs l (pb o) j k) := Lib.hid (by rw [HNX.out, if_neg (fun z => hp (bs_eq z.1)), List.append_nil])
                clear hp HNX
                go_wp2
                refine wp_region_ext (by kernel_rfl) (by kernel_rfl) ?_
                repeat (go_big_quiet_step (fail))
                refine wpQuiet_nil ?_
                rintro _ ⟨y, rfl⟩
                clear r2 rm
                go_wp2
                go_roundw
                case rel => exact ⟨k + 1, by go_num, by omega, Lib.hid (by rw [HK2.out]; exact HK.out.below y.b), bThen K8.out y.b⟩
                case measure => simp [intOf]; omega
            · obtain rfl : k = l.length := by omega
              have i2 : ¬ (l.length : Int) < (l.length : Int) := by omega
              obtain ⟨A9, c9, rfl, r9, _, _⟩ := HK.out.form
              have R9 := Lib.hid (RdK.kinds r9)
              have M8 := Lib.hid (M7.out.then k8)
              have m8 := M8.out.c
              have K8 := Lib.hid (bThen K7.out k8)
              have CRm := Lib.hid (CR.out wr K8.out _ c9 _ rfl R9.out)
              clear r9 HK CR R9 k8
              by_cases hr : rb o = []
              · have i5 : o.ref.toList = [] := by rw [rb_nil hr, ByteArray.toList_eq]
                clear hr
                go_wp2_with (go_at_call 23; ((with_reducible refine CRm.out.mono ?_); rintro e w8 ⟨rfl, q8⟩; have K9 := Lib.hid (bThen K8.out q8); have m9 := (M8.out.then q8).c; clear m8))
                go_roundw
                case rel => exact ⟨j + 1, by go_num, by omega, K9.out⟩
                case measure => simp [intOf]; omega
              · have i5 : o.ref.toList.isEmpty = false := ne_nil (fun e => hr (by show o.ref.data.toList = []; rw [e]))
                obtain ⟨t, et, h2, ⟨d, hd1, hd2, hd0⟩, h8⟩ := ref_ok HWL.out HO.out hr
                have CF2 : Hid (∀ W, Below w.heap.size w W → Calls Tryd.prog 20 #[.slice (some ⟨b, off, none⟩) l.length c, .string o.ref] W fun e w' => e = .returned (.tuple #[ob t, .bool true]) ∧ Below W.heap.size W w') := Lib.hid (fun W q => by
                  have := CF.out o.ref W q
                  rw [show findO l o.ref.data.toList = some t from et] at this
                  exact this)
                have CD1 : Hid (∀ W, Below w.heap.size w W → Calls Tryd.prog 21 #[.slice (some ⟨b, off, none⟩) l.length c, .string o.handle] W fun e w' => e = .returned (.tuple #[.string (txt (some d)), .bool true]) ∧ Below W.heap.size W w') := Lib.hid (fun W q => by
                  have := CD.out o.handle W q
                  rw [show climbO (findO l) 8 o.handle.data.toList = some d from hd1] at this
                  exact this)
                have CD2 : Hid (∀ W, Below w.heap.size w W → Calls Tryd.prog 21 #[.slice (some ⟨b, off, none⟩) l.length c, .string o.ref] W fun e w' => e = .returned (.tuple #[.string (txt (some d)), .bool true]) ∧ Below W.heap.size W w') := Lib.hid (fun W q => by
                  have := CD.out o.ref W q
                  rw [show climbO (findO l) 8 o.ref.data.toList = some d from hd2] at this
                  exact this)
                have CRf : Hid (∀ W, Below w.heap.size w W → Calls Tryd.prog 24 #[.int .u8 o.kind, .int .u8 t.kind] W fun e w' => e = .returned (.bool true) ∧ Below W.heap.size W w') := Lib.hid (fun W q => by
                  have := refers_any o.kind t.kind W (HF.out _ HO.out).kind (HF.out _ (findO_some et).1).kind (HT.out W q).1
                  rw [h2] at this
                  exact this)
                have i6 : (txt (some d)).toList.isEmpty = false := ne_nil (fun e => hd0 (by
                  have := congrArg (fun z : ByteArray => z.data.toList) e
                  simpa [txt] using this))
                generalize txt (some d) = md at *
                clear hd1 hd2 hd0 h2 et hr CF CD
                by_cases h9 : o.kind = 8
                · have i8 : ((o.kind : Int) == 8) = true := by simp; omega
                  obtain ⟨i9, i10⟩ := h8 h9
                  clear h9 h8
                  go_wp2_with (first
                    | (go_at_call 23; ((with_reducible refine CRm.out.mono ?_); rintro e w8 ⟨rfl, q8⟩; have K9 := Lib.hid (bThen K8.out q8); have M9 := Lib.hid (M8.out.then q8); have m9 := M9.out.c; clear m8))
                    | (go_at_call 20; ((with_reducible refine (CF2.out _ K9.out).mono ?_); rintro e w10 ⟨rfl, q10⟩; have K10 := Lib.hid (bAl (bThen K9.out q10) (.cells (obCells t) 31)); have M10 := Lib.hid ((M9.out.then q10).al (.cells (obCells t) 31)); have m10 := M10.out.c; have T10 := Lib.hid (AtC.new w10 (obCells t) 31); clear m9)))
                  go_at_call 21
                  refine (CD1.out _ K10.out).mono ?_
                  rintro e w11 ⟨rfl, q11⟩
                  have K11 := Lib.hid (bThen K10.out q11)
                  have M11 := Lib.hid (M10.out.then q11)
                  have m11 := M11.out.c
                  have T11 := Lib.hid (T10.out.then q11)
                  clear m10 q11
                  go_wp2_with fail
                  go_at_call 21
                  refine (CD2.out _ K11.out).mono ?_
                  rintro e w12 ⟨rfl, q12⟩
                  have K12 := Lib.hid (bThen K11.out q12)
                  have M12 := Lib.hid (M11.out.then q12)
                  have m12 := M12.out.c
                  have T12 := Lib.hid (T11.out.then q12)
                  have t12 := T12.out.c
                  clear m11 q12
                  go_wp2_with (go_at_call 24; ((with_reducible refine (CRf.out _ K12.out).mono ?_); rintro e w13 ⟨rfl, q13⟩; have K13 := Lib.hid (bThen K12.out q13); have m13 := (M12.out.then q13).c; have t13 := (T12.out.then q13).c; clear m12 t12))
                  go_roundw
                  case rel => exact ⟨j + 1, by go_num, by omega, K13.out⟩
                  case measure => simp [intOf]; omega
                · have i8 : ((o.kind : Int) == 8) = false := by simp; omega
                  clear h9 h8
                  go_wp2_with (first
                    | (go_at_call 23; ((with_reducible refine CRm.out.mono ?_); rintro e w8 ⟨rfl, q8⟩; have K9 := Lib.hid (bThen K8.out q8); have M9 := Lib.hid (M8.out.then q8); have m9 := M9.out.c; clear m8))
                    | (go_at_call 20; ((with_reducible refine (CF2.out _ K9.out).mono ?_); rintro e w10 ⟨rfl, q10⟩; have K10 := Lib.hid (bAl (bThen K9.out q10) (.cells (obCells t) 31)); have M10 := Lib.hid ((M9.out.then q10).al (.cells (obCells t) 31)); have m10 := M10.out.c; have T10 := Lib.hid (AtC.new w10 (obCells t) 31); clear m9)))
                  go_at_call 21
                  refine (CD1.out _ K10.out).mono ?_
                  rintro e w11 ⟨rfl, q11⟩
                  have K11 := Lib.hid (bThen K10.out q11)
                  have M11 := Lib.hid (M10.out.then q11)
                  have m11 := M11.out.c
                  have T11 := Lib.hid (T10.out.then q11)
                  clear m10 q11
                  go_wp2_with fail
                  go_at_call 21
                  refine (CD2.out _ K11.out).mono ?_
                  rintro e w12 ⟨rfl, q12⟩
                  have K12 := Lib.hid (bThen K11.out q12)
                  have M12 := Lib.hid (M11.out.then q12)
                  have m12 := M12.out.c
                  have T12 := Lib.hid (T11.out.then q12)
                  have t12 := T12.out.c
                  clear m11 q12
                  go_wp2_with (go_at_call 24; ((with_reducible refine (CRf.out _ K12.out).mono ?_); rintro e w13 ⟨rfl, q13⟩; have K13 := Lib.hid (bThen K12.out q13); have m13 := (M12.out.then q13).c; have t13 := (T12.out.then q13).c; clear m12 t12))
                  go_roundw
                  case rel => exact ⟨j + 1, by go_num, by omega, K13.out⟩
                  case measure => simp [intOf]; omega
        · obtain rfl : j = l.length := by omega
          have i1 : ¬ (l.length : Int) < (l.length : Int) := by omega
          go_wp2
          go_ret
          exact ⟨rfl, k4⟩
end Go.Proofs.YthlalmoapbdccaaDoor.WX
