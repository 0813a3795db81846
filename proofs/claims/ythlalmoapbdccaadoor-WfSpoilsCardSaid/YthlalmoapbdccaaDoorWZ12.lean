/-
  WALKS: the document's Mds, under, own of lists.
-/
import Derived.Test.YthlalmoapbdccaaDoorWZ7
import Derived.Test.YthlalmoapbdccaaDoorWZ10
import Derived.Test.YthlalmoapbdccaaDoorWZ5
import Derived.Test.YthlalmoapbdccaaDoorWZOMay
import Derived.Test.YthlalmoapbdccaaDoorWZ0
import Derived.Deep.Cut
import Derived.Test.YthlalmoapbdccaaDoorWZ11
namespace Go.Proofs.YthlalmoapbdccaaDoor.WX
open Go.RowKit HL
open IX (ptr El cellsK cellsK_at OwnK RdK strK)
open TX (Ext wp_region_ext ext_below ext_same)
set_option maxRecDepth 100000
set_option linter.unusedVariables false
set_option linter.unusedSimpArgs false

set_option maxHeartbeats 8000000 in
theorem refMds_any {A : Option Addr} (l : List Ob) (c : Nat) (x : ByteArray) (w : World) (hr : RdK obK w w.heap.size A l) (hl : l.length ≤ 1000000) :
    Calls Tryd.prog 64 #[.slice A l.length c, .string x] w fun e w' => e = .returned (.tuple #[.string (txt (climbO (findO l) 8 x.data.toList)), .bool (climbO (findO l) 8 x.data.toList).isSome]) ∧ Below w.heap.size w w' := by
  have CM := Lib.hid (fun (y : ByteArray) W (q : Below w.heap.size w W) => DX.refFind_any l c y W ((hr.below q).more q.size) hl)
  clear hr
  obtain ⟨res, hres⟩ : ∃ r, climbO (findO l) 8 x.data.toList = r := ⟨_, rfl⟩
  rw [hres]
  have HRES := Lib.hid hres
  clear hres
  go_enter Tryd.func64, Tryd.ntmps64
  go_wp2
  go_loopw [1, 6] (fun hv i wr => ∃ (k : Nat) (y : ByteArray), hv = .string y ∧ i = .int .i64 k ∧ k ≤ 8 ∧ Hid (climbO (findO l) (8 - k) y.data.toList = res) ∧ Below w.heap.size w wr) (fun _ i _ => 8 - (intOf i).toNat)
  case atStart => exact ⟨0, x, rfl, rfl, by omega, HRES, Below.refl _ _⟩
  case round =>
    obtain ⟨k, y, rfl, rfl, hk, hr2, k1⟩ := hrel
    have K1 := Lib.hid k1
    by_cases hlt : k < 8
    · have i1 : (k : Int) < 8 := by omega
      have CC := CM.out y wr k1
      have h8 : 8 - k = (8 - (k + 1)) + 1 := by omega
      have HS : Hid (res = match findO l y.data.toList with
        | none => none
        | some o => if o.kind = 1 then some (hb o) else climbO (findO l) (8 - (k + 1)) (pb o)) := Lib.hid (by
          have := hr2.out
          rw [h8] at this
          exact this.symm)
      clear k1 hr2 h8 HRES
      cases hf : findO l y.data.toList with
      | none =>
        rw [hf] at CC
        have CC := Lib.hid CC
        have HV : Hid (res = none) := Lib.hid (by rw [HS.out, hf])
        clear hf HS
        generalize obO none = o at *
        go_wp2_with (go_at_call 43; ((with_reducible refine CC.out.mono ?_); rintro e w3 ⟨rfl, k3⟩))
        go_ret2
        exact ⟨by rw [HV.out]; rfl, bAl (bThen K1.out k3) _⟩
      | some o =>
        rw [hf] at CC
        have hy : o.handle = y := bs_eq (findO_some hf).2
        have CC : Hid (Calls Tryd.prog 43 #[.slice A l.length c, .string y] wr fun e w' => e = .returned (.tuple #[ob o, .bool true]) ∧ Below wr.heap.size wr w') := Lib.hid CC
        by_cases hk1 : o.kind = 1
        · have HV : Hid (res = some (hb o)) := Lib.hid (by rw [HS.out, hf]; simp [hk1])
          have HT : Hid (txt (some (hb o)) = y) := Lib.hid (by rw [← hy]; rfl)
          have i2 : (o.kind : Int) = 1 := by omega
          clear hf HS hk1 hy
          go_wp2_with (go_at_call 43; ((with_reducible refine CC.out.mono ?_); rintro e w3 ⟨rfl, k3⟩; have mc := (AtC.new w3 (obCells o) 31).c))
          go_ret2
          exact ⟨by rw [HV.out, HT.out]; rfl, bAl (bThen K1.out k3) _⟩
        · have HV : Hid (res = climbO (findO l) (8 - (k + 1)) (pb o)) := Lib.hid (by rw [HS.out, hf]; simp [hk1])
          have i2 : ¬ (o.kind : Int) = 1 := by omega
          clear hf HS hk1 hy
          go_wp2_with (go_at_call 43; ((with_reducible refine CC.out.mono ?_); rintro e w3 ⟨rfl, k3⟩; have mc := (AtC.new w3 (obCells o) 31).c))
          go_roundw
          case rel => exact ⟨k + 1, o.parent, rfl, by go_num, by omega, Lib.hid HV.out.symm, bAl (bThen K1.out k3) _⟩
          case measure => simp [intOf]; omega
    · obtain rfl : k = 8 := by omega
      have HV : Hid (res = none) := Lib.hid hr2.out.symm
      clear hr2 HRES k1
      go_wp2
      go_ret2
      exact ⟨by rw [HV.out]; rfl, K1.out⟩
set_option maxHeartbeats 8000000 in
theorem refUnder_any9 {A : Option Addr} (l : List Ob) (c : Nat) (p : ByteArray) (g : Nat) (w : World) (hr : RdK obK w w.heap.size A l) (hl : l.length ≤ 1000) (hg : g ≤ 255) :
    Calls Tryd.prog 45 #[.slice A l.length c, .string p, .int .u8 g] w fun e w' => e = .returned (.int .i64 (und l p.data.toList g : Nat)) ∧ w = w' := by
  have HR := Lib.hid hr
  have CG := fun k => Lib.hid (refGroup_any k w)
  clear hr
  go_enter Tryd.func45, Tryd.ntmps45
  go_wp2
  go_loop [7, 8] (fun n i => ∃ k : Nat, i = .int .i64 k ∧ k ≤ l.length ∧ n = .int .i64 (und (l.take k) p.data.toList g : Nat)) (fun _ i => l.length - (intOf i).toNat)
  case atStart => exact ⟨0, rfl, Nat.zero_le _, rfl⟩
  case round =>
    obtain ⟨k, rfl, hk, rfl⟩ := hrel
    have hcl : und (l.take k) p.data.toList g ≤ k := by
      unfold und
      refine Nat.le_trans (List.length_filter_le _ _) ?_
      rw [List.length_take]; omega
    by_cases hlt : k < l.length
    · have i1 : (k : Int) < l.length := by omega
      obtain ⟨b, off, rfl, hbk, hc⟩ := obs_at HR.out (by omega)
      obtain ⟨c0, c1, c2, c3, c4, c5, c6, c7, c8, c9, c10, c11, c12, c13⟩ := hc k _ (List.getElem?_eq_getElem hlt)
      have HS := Lib.hid (und_next hlt p.data.toList g)
      clear hc
      generalize l[k] = x at *
      have C := Lib.hid (CG x.kind).out
      generalize hq : und (l.take k) p.data.toList g = q at *
      clear hq
      by_cases hp : x.parent = p
      · have ep : (x.parent.toList == p.toList) = true := by rw [hp]; simp
        by_cases he : grp x.kind = g
        · have HS2 : Hid (und (l.take (k + 1)) p.data.toList g = q + 1) := Lib.hid (by rw [HS.out, if_pos (by simp [hp, he])])
          have hb : ((grp x.kind : Int) == (g : Int)) = true := by simp; omega
          clear hp he HS
          go_wp2_with (go_at_call 46; ((with_reducible refine C.out.mono ?_); rintro e w1 ⟨rfl, rfl⟩))
          go_round
          case rel => exact ⟨k + 1, by go_num, by omega, by rw [HS2.out]; go_num⟩
          case measure => simp [intOf]; omega
        · have HS2 : Hid (und (l.take (k + 1)) p.data.toList g = q) := Lib.hid (by rw [HS.out, if_neg (by simp [he])]; rfl)
          have hb : ((grp x.kind : Int) == (g : Int)) = false := by simp; omega
          clear hp he HS
          go_wp2_with (go_at_call 46; ((with_reducible refine C.out.mono ?_); rintro e w1 ⟨rfl, rfl⟩))
          go_round
          case rel => exact ⟨k + 1, by go_num, by omega, by rw [HS2.out]⟩
          case measure => simp [intOf]; omega
      · have ep := tl_ne hp
        have HS2 : Hid (und (l.take (k + 1)) p.data.toList g = q) := Lib.hid (by
          rw [HS.out, if_neg (by
            intro h
            rw [Bool.and_eq_true] at h
            exact hp (bs_eq (of_decide_eq_true h.1)))]; rfl)
        clear hp HS
        go_wp2
        go_round
        case rel => exact ⟨k + 1, by go_num, by omega, by rw [HS2.out]⟩
        case measure => simp [intOf]; omega
    · have e : k = l.length := by omega
      subst e
      have i1 : ¬ (l.length : Int) < l.length := by omega
      have HV : Hid (und (l.take l.length) p.data.toList g = und l p.data.toList g) := Lib.hid (by rw [List.take_length])
      go_wp2
      go_ret
      exact ⟨by rw [← HV.out]; rfl, rfl⟩
end Go.Proofs.YthlalmoapbdccaaDoor.WX
/-
  WALK: the document's own of lists: rule 1.
-/
namespace Go.Proofs.YthlalmoapbdccaaDoor.WX
open Go.RowKit HL
open IX (ptr El cellsK cellsK_at OwnK RdK strK)
open TX (Ext wp_region_ext ext_below ext_same)
set_option maxRecDepth 100000
set_option linter.unusedVariables false
set_option linter.unusedSimpArgs false

/-- What own holds, behind k objects. -/
def AtIs (l : List Ob) (k : Nat) (a : Int) : Prop := (a = -1 ∧ fltK l k = (⟨#[]⟩, 0)) ∨ (∃ j, ∃ h : j < l.length, a = j ∧ fltK l k = (l[j].handle, faultP l[j] true) ∧ faultP l[j] true ≠ 0)
theorem at_0 {l : List Ob} {k : Nat} {a : Int} (hk : k < l.length) (h : AtIs l k a) (e : faultP l[k] true = 0) : AtIs l (k + 1) a := by
  have hs : fltK l (k + 1) = fltK l k := by rw [fltK_next hk]; unfold fltS; rw [if_pos e]
  unfold AtIs
  rw [hs]
  exact h
theorem at_1 {l : List Ob} {k : Nat} (hk : k < l.length) (h : AtIs l k (-1)) (e : faultP l[k] true ≠ 0) : AtIs l (k + 1) k := by
  refine .inr ⟨k, hk, rfl, ?_, e⟩
  have hz : fltK l k = (⟨#[]⟩, 0) := by
    rcases h with ⟨_, q⟩ | ⟨j, _, q, _⟩
    · exact q
    · omega
  rw [fltK_next hk, hz]
  unfold fltS
  rw [if_neg e, if_pos rfl]
theorem at_j {l : List Ob} {k j : Nat} (hk : k < l.length) (hj : j < l.length) (h : AtIs l k j) (e : faultP l[k] true ≠ 0) :
    (Lib.compareBytes (hb l[k]) (hb l[j]) < 0 → AtIs l (k + 1) k) ∧ (¬ Lib.compareBytes (hb l[k]) (hb l[j]) < 0 → AtIs l (k + 1) j) := by
  obtain ⟨hq, hf⟩ : fltK l k = (l[j].handle, faultP l[j] true) ∧ faultP l[j] true ≠ 0 := by
    rcases h with ⟨q, _⟩ | ⟨i, hi, q, q2, q3⟩
    · omega
    · obtain rfl : i = j := by omega
      exact ⟨q2, q3⟩
  have hb2 : Op.bytesLess l[k].handle.toList l[j].handle.toList = decide (hb l[k] < hb l[j]) := by
    rw [bytesLess_eq, ByteArray.toList_eq, ByteArray.toList_eq]
  constructor
  · intro hc
    have hlt : hb l[k] < hb l[j] := by
      rcases cmp_cases (hb l[k]) (hb l[j]) with ⟨_, q⟩ | ⟨q, _⟩ | ⟨q, _⟩
      · exact q
      · omega
      · omega
    refine .inr ⟨k, hk, rfl, ?_, e⟩
    rw [fltK_next hk, hq]
    unfold fltS
    rw [if_neg e, if_neg hf, if_pos (by rw [hb2]; exact decide_eq_true hlt)]
  · intro hc
    have hlt : ¬ hb l[k] < hb l[j] := fun q => hc (by rw [cmp_lt.2 q]; decide)
    refine .inr ⟨j, hj, rfl, ?_, hf⟩
    rw [fltK_next hk, hq]
    unfold fltS
    rw [if_neg e, if_neg hf, if_neg (by rw [hb2]; simpa using hlt)]
set_option maxHeartbeats 16000000 in
theorem refOwn_any {A : Option Addr} (l : List Ob) (c : Nat) (w : World) (hr : RdK obK w w.heap.size A l) (hl : l.length ≤ 1000) (hm : ∀ o ∈ l, Meets o w) :
    Calls Tryd.prog 25 #[.slice A l.length c] w fun e w' => e = .returned (.int .i64 (fltK l l.length).2) ∧ Below w.heap.size w w' := by
  have HR := Lib.hid hr
  have HM := Lib.hid hm
  clear hr hm
  go_enter Tryd.func25, Tryd.ntmps25
  go_wp2
  go_loopw [3, 4] (fun a i wr => ∃ (k : Nat) (b : Int), i = .int .i64 k ∧ a = .int .i64 b ∧ k ≤ l.length ∧ Hid (AtIs l k b) ∧ Below w.heap.size w wr) (fun _ i _ => l.length - (intOf i).toNat)
  case atStart => exact ⟨0, -1, rfl, rfl, Nat.zero_le _, Lib.hid (.inl ⟨rfl, fltK_0 l⟩), Below.refl _ _⟩
  case round =>
    obtain ⟨k, a, rfl, rfl, hk, ha, k1⟩ := hrel
    have K1 := Lib.hid k1
    by_cases hlt : k < l.length
    · have i1 : (k : Int) < l.length := by omega
      obtain ⟨b, off, rfl, hbk, hc⟩ := obs_at (HR.out.below k1) (by omega)
      obtain ⟨c0, c1, c2, c3, c4, c5, c6, c7, c8, c9, c10, c11, c12, c13⟩ := hc k _ (List.getElem?_eq_getElem hlt)
      have CM := Lib.hid (refOMay_any ((HM.out _ (List.getElem_mem hlt)).then k1))
      have h0 := Lib.hid (fun e => at_0 hlt ha.out e)
      by_cases he : faultP l[k] true = 0
      · have HN := Lib.hid (h0.out he)
        rw [he] at CM
        clear hc k1 h0 he
        generalize l[k] = o at *
        go_wp2_with (go_at_call 41; ((with_reducible refine CM.out.mono ?_); rintro e w3 ⟨rfl, k3⟩; have K3 := Lib.hid (bThen K1.out k3)))
        go_roundw
        case rel => exact ⟨k + 1, a, by go_num, rfl, by omega, HN, K3.out⟩
        case measure => simp [intOf]; omega
      · have hcmp : ∀ j, ∀ hj : j < l.length, (l[k].handle.size ≤ maxLen ∧ l[j].handle.size ≤ maxLen) := fun j hj => ⟨(HM.out _ (List.getElem_mem hlt)).handle, (HM.out _ (List.getElem_mem hj)).handle⟩
        rcases ha.out with ⟨rfl, _⟩ | ⟨j, hj, rfl, _⟩
        · have HN := Lib.hid (at_1 hlt ha.out he)
          have g0 : (faultP l[k] true == 0) = false := by simpa using he
          have D0 : ∀ w3, Below wr.heap.size wr w3 → ∀ y : Ext w3, y.W.cell? ⟨b, off + k * 14, none⟩ = some (.string l[k].handle) := fun w3 k3 y => by
            rw [(bThen k3 y.b).cell (p := ⟨b, off + k * 14, none⟩) (Nat.lt_of_lt_of_le hbk k1.size)]; exact c0
          have HD0 := Lib.hid D0
          clear hc k1 h0 hcmp D0
          generalize faultP l[k] true = fe at *
          generalize l[k] = o at *
          go_upto_region 6 with (go_at_call 41; ((with_reducible refine CM.out.mono ?_); rintro e w3 ⟨rfl, k3⟩; have K3 := Lib.hid (bThen K1.out k3); have d0 := HD0.out _ k3))
          refine wp_region_ext (by kernel_rfl) (by kernel_rfl) ?_
          repeat (go_big_quiet_step (fail))
          refine wpQuiet_nil ?_
          rintro _ ⟨y, rfl⟩
          go_wp2
          go_roundw
          case rel => exact ⟨k + 1, k, by go_num, rfl, by omega, HN, bThen K3.out y.b⟩
          case measure => simp [intOf]; omega
        · have HJ := Lib.hid (at_j hlt hj ha.out he)
          have g0 : (faultP l[k] true == 0) = false := by simpa using he
          have j0 : ¬ (j : Int) < 0 := by omega
          have j1 : (j : Int) < l.length := by omega
          have j2 : (0 : Int) ≤ j := by omega
          obtain ⟨d0, _⟩ := hc j _ (List.getElem?_eq_getElem hj)
          have D0 : ∀ w3, Below wr.heap.size wr w3 → ∀ y : Ext w3, y.W.cell? ⟨b, off + k * 14, none⟩ = some (.string l[k].handle) := fun w3 k3 y => by
            rw [(bThen k3 y.b).cell (p := ⟨b, off + k * 14, none⟩) (Nat.lt_of_lt_of_le hbk k1.size)]; exact c0
          have D1 : ∀ w3, Below wr.heap.size wr w3 → ∀ y : Ext w3, y.W.cell? ⟨b, off + j * 14, none⟩ = some (.string l[j].handle) := fun w3 k3 y => by
            rw [(bThen k3 y.b).cell (p := ⟨b, off + j * 14, none⟩) (Nat.lt_of_lt_of_le hbk k1.size)]; exact d0
          have CC := Lib.hid (fun W => refCompare_any l[k].handle l[j].handle W (hcmp j hj).1 (hcmp j hj).2)
          have HD0 := Lib.hid D0
          have HD1 := Lib.hid D1
          clear hc k1 h0 hcmp D0 D1 d0
          by_cases hcm : Lib.compareBytes (hb l[k]) (hb l[j]) < 0
          · have HN := Lib.hid (HJ.out.1 hcm)
            have i5 : Lib.compareBytes l[k].handle.data.toList l[j].handle.data.toList < 0 := hcm
            clear HJ hcm
            generalize faultP l[k] true = fe at *
            generalize Lib.compareBytes l[k].handle.data.toList l[j].handle.data.toList = cm at *
            generalize l[j] = oj at *
            generalize l[k] = o at *
            go_upto_region 6 with (go_at_call 41; ((with_reducible refine CM.out.mono ?_); rintro e w3 ⟨rfl, k3⟩; have K3 := Lib.hid (bThen K1.out k3); have d0 := HD0.out _ k3; have d1 := HD1.out _ k3))
            have j3 : decide ((j : Int) < 0) = false := decide_eq_false (by omega)
            refine wp_region_ext (by kernel_rfl) (by kernel_rfl) ?_
            repeat (go_big_quiet_step ((go_at_call 42; with_reducible exact ext_below ((CC.out _).mono fun _ _ ⟨h1, h2⟩ => ⟨h1, h2.below _⟩))))
            refine wpQuiet_nil ?_
            rintro _ ⟨y, rfl⟩
            go_wp2
            go_roundw
            case rel => exact ⟨k + 1, k, by go_num, rfl, by omega, HN, bThen K3.out y.b⟩
            case measure => simp [intOf]; omega
          · have HN := Lib.hid (HJ.out.2 hcm)
            have i5 : ¬ Lib.compareBytes l[k].handle.data.toList l[j].handle.data.toList < 0 := hcm
            clear HJ hcm
            generalize faultP l[k] true = fe at *
            generalize Lib.compareBytes l[k].handle.data.toList l[j].handle.data.toList = cm at *
            generalize l[j] = oj at *
            generalize l[k] = o at *
            go_upto_region 6 with (go_at_call 41; ((with_reducible refine CM.out.mono ?_); rintro e w3 ⟨rfl, k3⟩; have K3 := Lib.hid (bThen K1.out k3); have d0 := HD0.out _ k3; have d1 := HD1.out _ k3))
            have j3 : decide ((j : Int) < 0) = false := decide_eq_false (by omega)
            refine wp_region_ext (by kernel_rfl) (by kernel_rfl) ?_
            repeat (go_big_quiet_step ((go_at_call 42; with_reducible exact ext_below ((CC.out _).mono fun _ _ ⟨h1, h2⟩ => ⟨h1, h2.below _⟩))))
            refine wpQuiet_nil ?_
            rintro _ ⟨y, rfl⟩
            go_wp2
            go_roundw
            case rel => exact ⟨k + 1, j, by go_num, rfl, by omega, HN, bThen K3.out y.b⟩
            case measure => simp [intOf]; omega
    · obtain rfl : k = l.length := by omega
      have i1 : ¬ (l.length : Int) < l.length := by omega
      rcases ha.out with ⟨rfl, hz⟩ | ⟨j, hj, rfl, hz, _⟩
      · have HV : Hid ((fltK l l.length).2 = 0) := Lib.hid (by rw [hz])
        clear hz
        go_wp2
        go_ret
        exact ⟨by rw [HV.out]; rfl, k1⟩
      · have HV : Hid ((fltK l l.length).2 = faultP l[j] true) := Lib.hid (by rw [hz])
        have j0 : ¬ (j : Int) < 0 := by omega
        have j1 : (j : Int) < l.length := by omega
        have j2 : (0 : Int) ≤ j := by omega
        obtain ⟨b, off, rfl, hbk, hc⟩ := obs_at (HR.out.below k1) (by omega)
        obtain ⟨c0, c1, c2, c3, c4, c5, c6, c7, c8, c9, c10, c11, c12, c13⟩ := hc j _ (List.getElem?_eq_getElem hj)
        have CM := Lib.hid (refOMay_any ((HM.out _ (List.getElem_mem hj)).then k1))
        clear hc hz
        generalize faultP l[j] true = fe at *
        generalize l[j] = o at *
        go_wp2_with (go_at_call 41; ((with_reducible refine CM.out.mono ?_); rintro e w3 ⟨rfl, k3⟩))
        go_ret
        exact ⟨by rw [HV.out]; rfl, bThen K1.out k3⟩
end Go.Proofs.YthlalmoapbdccaaDoor.WX
/-
  WALKS: the document's refers; breaks by rules 2 to 5.
-/
namespace Go.Proofs.YthlalmoapbdccaaDoor.WX
open Go.RowKit HL
open IX (ptr El cellsK cellsK_at OwnK RdK strK)
open TX (Ext wp_region_ext ext_below ext_same)
set_option maxRecDepth 100000
set_option linter.unusedVariables false
set_option linter.unusedSimpArgs false

theorem refR_1 {f : Bs → Option Ob} {o : Ob} (h : refersB o.kind = false) : refR f o = true := by unfold refR; rw [if_pos h]
theorem refR_2 {f : Bs → Option Ob} {o : Ob} (h : refersB o.kind = true) (e : f (rb o) = none) : refR f o = false := by unfold refR; rw [if_neg (by rw [h]; simp), e]
theorem refR_3 {f : Bs → Option Ob} {o t : Ob} (h : refersB o.kind = true) (e : f (rb o) = some t) (h2 : refersTo o.kind t.kind = false) : refR f o = false := by unfold refR; rw [if_neg (by rw [h]; simp), e]; simp only; rw [if_pos h2]
theorem refR_4 {f : Bs → Option Ob} {o t : Ob} (h : refersB o.kind = true) (e : f (rb o) = some t) (h2 : refersTo o.kind t.kind = true) (h7 : o.kind = 7) : refR f o = (t.parent.toList == o.parent.toList) := by
  unfold refR; rw [if_neg (by rw [h]; simp), e]; simp only; rw [if_neg (by rw [h2]; simp), if_pos h7, tl_dec]
theorem refR_5 {f : Bs → Option Ob} {o t : Ob} (h : refersB o.kind = true) (e : f (rb o) = some t) (h2 : refersTo o.kind t.kind = true) (h7 : ¬ o.kind = 7) : refR f o = ((txt (climbO f 8 (hb o))).toList == (txt (climbO f 8 (rb o))).toList) := by
  unfold refR; rw [if_neg (by rw [h]; simp), e]; simp only; rw [if_neg (by rw [h2]; simp), if_neg h7, txt_eq]; rfl
set_option maxHeartbeats 16000000 in
theorem refRefers9_any {A : Option Addr} (l : List Ob) (c : Nat) (o : Ob) (w : World) (hr : RdK obK w w.heap.size A l) (hl : l.length ≤ 1000) (hk : o.kind ≤ 255) :
    Calls Tryd.prog 48 #[.slice A l.length c, ob o] w fun e w' => e = .returned (.bool (refR (findO l) o)) ∧ Below w.heap.size w w' := by
  have hb0 : Below w.heap.size w w := Below.refl _ _
  have HB1 := Lib.hid (bAl hb0 (.cells (obCells o) 31))
  have M0 := Lib.hid (AtC.new w (obCells o) 31)
  have mc := (AtC.new w (obCells o) 31).c
  have C4 := Lib.hid (fun W => refRefers_any o.kind W hk)
  have C5 := Lib.hid (fun k W => refRefers5_any o.kind k W)
  have CF := Lib.hid (fun W (q : Below w.heap.size w W) => DX.refFind_any l c o.ref W ((hr.below q).more q.size) (by omega))
  have CM1 := Lib.hid (fun W (q : Below w.heap.size w W) => refMds_any l c o.handle W ((hr.below q).more q.size) (by omega))
  have CM2 := Lib.hid (fun W (q : Below w.heap.size w W) => refMds_any l c o.ref W ((hr.below q).more q.size) (by omega))
  have R1 := Lib.hid (fun h => refR_1 (f := findO l) (o := o) h)
  have R2 := Lib.hid (fun h e => refR_2 (f := findO l) (o := o) h e)
  have R3 := Lib.hid (fun t h e h2 => refR_3 (f := findO l) (o := o) (t := t) h e h2)
  have R4 := Lib.hid (fun t h e h2 h7 => refR_4 (f := findO l) (o := o) (t := t) h e h2 h7)
  have R5 := Lib.hid (fun t h e h2 h7 => refR_5 (f := findO l) (o := o) (t := t) h e h2 h7)
  clear hr
  cases h1 : refersB o.kind with
  | false =>
    have HV := Lib.hid (R1.out h1)
    rw [h1] at C4
    clear R1 R2 R3 R4 R5 h1
    go_enter Tryd.func48, Tryd.ntmps48
    go_wp2_with (go_at_call 62; ((with_reducible refine (C4.out _).mono ?_); rintro e w1 ⟨rfl, rfl⟩))
    go_ret
    exact ⟨by rw [HV.out]; rfl, HB1.out⟩
  | true =>
    rw [h1] at C4
    cases hf : findO l (rb o) with
    | none =>
      have HV := Lib.hid (R2.out h1 hf)
      have CF : Hid (∀ W, Below w.heap.size w W → Calls Tryd.prog 43 #[.slice A l.length c, .string o.ref] W fun e w' => e = .returned (.tuple #[ob zeroOb, .bool false]) ∧ Below W.heap.size W w') := Lib.hid (fun W q => by
        have := CF.out W q
        rw [show findO l o.ref.data.toList = none from hf] at this
        exact this)
      clear R1 R2 R3 R4 R5 h1 hf
      generalize zeroOb = z at *
      go_enter Tryd.func48, Tryd.ntmps48
      go_wp2_with (first
        | (go_at_call 62; ((with_reducible refine (C4.out _).mono ?_); rintro e w1 ⟨rfl, rfl⟩))
        | (go_at_call 43; ((with_reducible refine (CF.out _ HB1.out).mono ?_); rintro e w2 ⟨rfl, k2⟩)))
      go_ret
      exact ⟨by rw [HV.out]; rfl, bAl (bThen HB1.out k2) _⟩
    | some t =>
      have CF : Hid (∀ W, Below w.heap.size w W → Calls Tryd.prog 43 #[.slice A l.length c, .string o.ref] W fun e w' => e = .returned (.tuple #[ob t, .bool true]) ∧ Below W.heap.size W w') := Lib.hid (fun W q => by
        have := CF.out W q
        rw [show findO l o.ref.data.toList = some t from hf] at this
        exact this)
      have C5 := Lib.hid (fun W => C5.out t.kind W)
      cases h2 : refersTo o.kind t.kind with
      | false =>
        have HV := Lib.hid (R3.out t h1 hf h2)
        rw [h2] at C5
        clear R1 R2 R3 R4 R5 h1 h2 hf
        go_enter Tryd.func48, Tryd.ntmps48
        go_wp2_with (first
          | (go_at_call 62; ((with_reducible refine (C4.out _).mono ?_); rintro e w1 ⟨rfl, rfl⟩))
          | (go_at_call 63; ((with_reducible refine (C5.out _).mono ?_); rintro e w1 ⟨rfl, rfl⟩))
          | (go_at_call 43; ((with_reducible refine (CF.out _ HB1.out).mono ?_); rintro e w2 ⟨rfl, k2⟩; have m2 := ((M0.out.then k2).al (.cells (obCells t) 31)).c; have mt := (AtC.new w2 (obCells t) 31).c)))
        go_ret
        exact ⟨by rw [HV.out]; rfl, bAl (bThen HB1.out k2) _⟩
      | true =>
        rw [h2] at C5
        by_cases h7 : o.kind = 7
        · have HV := Lib.hid (R4.out t h1 hf h2 h7)
          have i7 : ((o.kind : Int) == 7) = true := by simp; omega
          clear R1 R2 R3 R4 R5 h1 h2 hf h7
          go_enter Tryd.func48, Tryd.ntmps48
          go_wp2_with (first
            | (go_at_call 62; ((with_reducible refine (C4.out _).mono ?_); rintro e w1 ⟨rfl, rfl⟩))
            | (go_at_call 63; ((with_reducible refine (C5.out _).mono ?_); rintro e w1 ⟨rfl, rfl⟩))
            | (go_at_call 43; ((with_reducible refine (CF.out _ HB1.out).mono ?_); rintro e w2 ⟨rfl, k2⟩; have m2 := ((M0.out.then k2).al (.cells (obCells t) 31)).c; have mt := (AtC.new w2 (obCells t) 31).c)))
          go_ret
          exact ⟨by rw [HV.out]; rfl, bAl (bThen HB1.out k2) _⟩
        · have HV := Lib.hid (R5.out t h1 hf h2 h7)
          have i7 : ((o.kind : Int) == 7) = false := by simp; omega
          have CM1 : Hid (∀ W, Below w.heap.size w W → Calls Tryd.prog 64 #[.slice A l.length c, .string o.handle] W fun e w' => e = .returned (.tuple #[.string (txt (climbO (findO l) 8 (hb o))), .bool (climbO (findO l) 8 (hb o)).isSome]) ∧ Below W.heap.size W w') := CM1
          have CM2 : Hid (∀ W, Below w.heap.size w W → Calls Tryd.prog 64 #[.slice A l.length c, .string o.ref] W fun e w' => e = .returned (.tuple #[.string (txt (climbO (findO l) 8 (rb o))), .bool (climbO (findO l) 8 (rb o)).isSome]) ∧ Below W.heap.size W w') := CM2
          generalize climbO (findO l) 8 (hb o) = a at *
          generalize climbO (findO l) 8 (rb o) = b at *
          have tok : Unit := ()
          clear R1 R2 R3 R4 R5 h1 h2 hf h7
          go_enter Tryd.func48, Tryd.ntmps48
          go_wp2_with (first
            | (go_at_call 62; ((with_reducible refine (C4.out _).mono ?_); rintro e w1 ⟨rfl, rfl⟩))
            | (go_at_call 63; ((with_reducible refine (C5.out _).mono ?_); rintro e w1 ⟨rfl, rfl⟩))
            | (go_at_call 43; ((with_reducible refine (CF.out _ HB1.out).mono ?_); rintro e w2 ⟨rfl, k2⟩; have m2 := ((M0.out.then k2).al (.cells (obCells t) 31)).c; have mt := (AtC.new w2 (obCells t) 31).c; have K2 := Lib.hid (bAl (bThen HB1.out k2) (.cells (obCells t) 31)); have MM := Lib.hid ((M0.out.then k2).al (.cells (obCells t) 31))))
            | (go_at_call 64; ((with_reducible refine (CM1.out _ K2.out).mono ?_); rintro e w3 ⟨rfl, k3⟩; have m3 := (MM.out.then k3).c; have K3 := Lib.hid (bThen K2.out k3)))
            | (go_at_call 64; ((with_reducible refine (CM2.out _ K3.out).mono ?_); rintro e w4 ⟨rfl, k4⟩)))
          go_ret
          exact ⟨by rw [HV.out]; rfl, bThen K3.out k4⟩
end Go.Proofs.YthlalmoapbdccaaDoor.WX
