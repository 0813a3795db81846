/-
  WALK: wf's laws' renamed.
-/
import Derived.Test.YthlalmoapbdccaaDoorWZ14
namespace Go.Proofs.YthlalmoapbdccaaDoor.WX
open Go.RowKit HL
open IX (ptr El cellsK cellsK_at OwnK RdK strK)
set_option maxRecDepth 100000
set_option linter.unusedVariables false
set_option linter.unusedSimpArgs false

theorem ne_nil' {s : ByteArray} (h : s.data.toList ≠ []) : s.toList.isEmpty = false := by
  rw [ByteArray.toList_eq]
  cases e : s.data.toList with
  | nil => exact absurd e h
  | cons a l => rfl
theorem map_next {l : List Ob} {k : Nat} (hk : k < l.length) (f : Ob → Ob) : (l.take (k + 1)).map f = (l.take k).map f ++ [f l[k]] := by
  rw [List.take_succ_eq_append_getElem hk, List.map_append]; rfl
set_option maxHeartbeats 32000000 in
theorem renamed_any {A : Option Addr} (l : List Ob) (c : Nat) (s : ByteArray) (w : World) (hr : RdK obK w w.heap.size A l) (hl : l.length ≤ 100) (hs : s.size ≤ 10) (hz : ∀ o ∈ l, longB o = false) :
    Calls Tryd.prog 18 #[.slice A l.length c, .string s] w fun e w' => ∃ v, e = .returned v ∧ OwnK obK w' w.heap.size v (l.map (ren s)) ∧ Below w.heap.size w w' := by
  have HR := Lib.hid hr
  have HZ := Lib.hid hz
  clear hr hz
  go_enter Tryd.func18, Tryd.ntmps18
  go_wp2
  go_loopw [5, 6] (fun ov v wr => ∃ k : Nat, v = .int .i64 k ∧ k ≤ l.length ∧ Hid (OwnK obK wr w.heap.size ov ((l.take k).map (ren s))) ∧ Below w.heap.size w wr) (fun _ v _ => l.length - (intOf v).toNat)
  case atStart => exact ⟨0, rfl, Nat.zero_le _, Lib.hid (OwnK.nil_ obK _ _), Below.refl _ _⟩
  case round =>
    obtain ⟨k, rfl, hk, HO, k1⟩ := hrel
    have K1 := Lib.hid k1
    by_cases hlt : k < l.length
    · have i1 : (k : Int) < (l.length : Int) := by omega
      obtain ⟨b, off, rfl, hbk, hc⟩ := obs_at (HR.out.below k1) (by omega)
      obtain ⟨c0, c1, c2, c3, c4, c5, c6, c7, c8, c9, c10, c11, c12, c13⟩ := hc k _ (List.getElem?_eq_getElem hlt)
      have HN := Lib.hid (map_next hlt (ren s))
      obtain ⟨z1, z2, z3⟩ := longB_out (HZ.out _ (List.getElem_mem hlt))
      have hln : ((l.take k).map (ren s)).length ≤ 100 := by rw [List.length_map, List.length_take]; omega
      have HLN := Lib.hid hln
      clear hc hln k1
      generalize l[k] = x at *
      generalize (l.take k).map (ren s) = t at *
      obtain ⟨hd, kd, pa, ty, rf, lo, hi, dg, on, has, va, lw, hg, ac⟩ := x
      dsimp only at c0 c1 c2 c3 c4 c5 c6 c7 c8 c9 c10 c11 c12 c13 z1 z2 z3
      have hc1 : t.length + 1 ≤ 1000000 := by have := HLN.out; omega
      have hm1 : hd.size + s.size ≤ maxLen := by unfold maxLen; omega
      have hm2 : pa.size + s.size ≤ maxLen := by unfold maxLen; omega
      have hm3 : rf.size + s.size ≤ maxLen := by unfold maxLen; omega
      by_cases hp : pa.data.toList = []
      · have ip : pa.toList = [] := by rw [ByteArray.toList_eq]; exact hp
        by_cases hq : rf.data.toList = []
        · have iq : rf.toList = [] := by rw [ByteArray.toList_eq]; exact hq
          have HE : Hid (ren s ⟨hd, kd, pa, ty, rf, lo, hi, dg, on, has, va, lw, hg, ac⟩ = ⟨hd ++ s, kd, pa, ty, rf, lo, hi, dg, on, has, va, lw, hg, ac⟩) := Lib.hid (by unfold ren; simp only [if_pos hp, if_pos hq])
          have HO2 := Lib.hid (HO.out.below (bAl (bAl (Below.refl wr.heap.size wr) (.cells (obCells ⟨hd ++ s, kd, pa, ty, rf, lo, hi, dg, on, has, va, lw, hg, ac⟩) 31)) (.cells (obCells ⟨hd ++ s, kd, pa, ty, rf, lo, hi, dg, on, has, va, lw, hg, ac⟩) 31)))
          have RL : Hid (RdK obK ((wr.alloc (.cells (obCells ⟨hd ++ s, kd, pa, ty, rf, lo, hi, dg, on, has, va, lw, hg, ac⟩) 31)).alloc (.cells (obCells ⟨hd ++ s, kd, pa, ty, rf, lo, hi, dg, on, has, va, lw, hg, ac⟩) 31)) ((wr.alloc (.cells (obCells ⟨hd ++ s, kd, pa, ty, rf, lo, hi, dg, on, has, va, lw, hg, ac⟩) 31)).alloc (.cells (obCells ⟨hd ++ s, kd, pa, ty, rf, lo, hi, dg, on, has, va, lw, hg, ac⟩) 31)).heap.size (some ⟨wr.heap.size + 1, 0, none⟩) [⟨hd ++ s, kd, pa, ty, rf, lo, hi, dg, on, has, va, lw, hg, ac⟩]) := Lib.hid (rdLit (by simp) rfl)
          have hz8 : w.heap.size ≤ ((wr.alloc (.cells (obCells ⟨hd ++ s, kd, pa, ty, rf, lo, hi, dg, on, has, va, lw, hg, ac⟩) 31)).alloc (.cells (obCells ⟨hd ++ s, kd, pa, ty, rf, lo, hi, dg, on, has, va, lw, hg, ac⟩) 31)).heap.size := by have := K1.out.size; simp; omega
          have KA := Lib.hid (bAl (bAl K1.out (.cells (obCells ⟨hd ++ s, kd, pa, ty, rf, lo, hi, dg, on, has, va, lw, hg, ac⟩) 31)) (.cells (obCells ⟨hd ++ s, kd, pa, ty, rf, lo, hi, dg, on, has, va, lw, hg, ac⟩) 31))
          clear hp hq
          go_wp2_with (at_builtin; refine IX.wpList_spreadK obK rfl (.tmp 39) (.tmp 41) rfl w.heap.size _ t rfl HO2.out _ (some ⟨wr.heap.size + 1, 0, none⟩) 1 1 [⟨hd ++ s, kd, pa, ty, rf, lo, hi, dg, on, has, va, lw, hg, ac⟩] rfl rfl RL.out hc1 hz8 ?_)
          intro v' w9 o9 g9 _
          have K9 := Lib.hid (KA.out.grown g9 hz8 (fun i hi => (HO2.out.lt i hi).1))
          have O9 := Lib.hid o9
          clear o9 g9 c0 c1 c2 c3 c4 c5 c6 c7 c8 c9 c10 c11 c12 c13 HO2 RL KA hz8
          go_wp2
          go_roundw
          case rel => exact ⟨k + 1, by go_num, by omega, Lib.hid (by rw [HN.out, HE.out]; exact O9.out), K9.out⟩
          case measure => simp [intOf]; omega
        · have iq : rf.toList.isEmpty = false := ne_nil' hq
          have HE : Hid (ren s ⟨hd, kd, pa, ty, rf, lo, hi, dg, on, has, va, lw, hg, ac⟩ = ⟨hd ++ s, kd, pa, ty, rf ++ s, lo, hi, dg, on, has, va, lw, hg, ac⟩) := Lib.hid (by unfold ren; simp only [if_pos hp, if_neg hq])
          have HO2 := Lib.hid (HO.out.below (bAl (bAl (Below.refl wr.heap.size wr) (.cells (obCells ⟨hd ++ s, kd, pa, ty, rf ++ s, lo, hi, dg, on, has, va, lw, hg, ac⟩) 31)) (.cells (obCells ⟨hd ++ s, kd, pa, ty, rf ++ s, lo, hi, dg, on, has, va, lw, hg, ac⟩) 31)))
          have RL : Hid (RdK obK ((wr.alloc (.cells (obCells ⟨hd ++ s, kd, pa, ty, rf ++ s, lo, hi, dg, on, has, va, lw, hg, ac⟩) 31)).alloc (.cells (obCells ⟨hd ++ s, kd, pa, ty, rf ++ s, lo, hi, dg, on, has, va, lw, hg, ac⟩) 31)) ((wr.alloc (.cells (obCells ⟨hd ++ s, kd, pa, ty, rf ++ s, lo, hi, dg, on, has, va, lw, hg, ac⟩) 31)).alloc (.cells (obCells ⟨hd ++ s, kd, pa, ty, rf ++ s, lo, hi, dg, on, has, va, lw, hg, ac⟩) 31)).heap.size (some ⟨wr.heap.size + 1, 0, none⟩) [⟨hd ++ s, kd, pa, ty, rf ++ s, lo, hi, dg, on, has, va, lw, hg, ac⟩]) := Lib.hid (rdLit (by simp) rfl)
          have hz8 : w.heap.size ≤ ((wr.alloc (.cells (obCells ⟨hd ++ s, kd, pa, ty, rf ++ s, lo, hi, dg, on, has, va, lw, hg, ac⟩) 31)).alloc (.cells (obCells ⟨hd ++ s, kd, pa, ty, rf ++ s, lo, hi, dg, on, has, va, lw, hg, ac⟩) 31)).heap.size := by have := K1.out.size; simp; omega
          have KA := Lib.hid (bAl (bAl K1.out (.cells (obCells ⟨hd ++ s, kd, pa, ty, rf ++ s, lo, hi, dg, on, has, va, lw, hg, ac⟩) 31)) (.cells (obCells ⟨hd ++ s, kd, pa, ty, rf ++ s, lo, hi, dg, on, has, va, lw, hg, ac⟩) 31))
          clear hp hq
          go_wp2_with (at_builtin; refine IX.wpList_spreadK obK rfl (.tmp 39) (.tmp 41) rfl w.heap.size _ t rfl HO2.out _ (some ⟨wr.heap.size + 1, 0, none⟩) 1 1 [⟨hd ++ s, kd, pa, ty, rf ++ s, lo, hi, dg, on, has, va, lw, hg, ac⟩] rfl rfl RL.out hc1 hz8 ?_)
          intro v' w9 o9 g9 _
          have K9 := Lib.hid (KA.out.grown g9 hz8 (fun i hi => (HO2.out.lt i hi).1))
          have O9 := Lib.hid o9
          clear o9 g9 c0 c1 c2 c3 c4 c5 c6 c7 c8 c9 c10 c11 c12 c13 HO2 RL KA hz8
          go_wp2
          go_roundw
          case rel => exact ⟨k + 1, by go_num, by omega, Lib.hid (by rw [HN.out, HE.out]; exact O9.out), K9.out⟩
          case measure => simp [intOf]; omega
      · have ip : pa.toList.isEmpty = false := ne_nil' hp
        by_cases hq : rf.data.toList = []
        · have iq : rf.toList = [] := by rw [ByteArray.toList_eq]; exact hq
          have HE : Hid (ren s ⟨hd, kd, pa, ty, rf, lo, hi, dg, on, has, va, lw, hg, ac⟩ = ⟨hd ++ s, kd, pa ++ s, ty, rf, lo, hi, dg, on, has, va, lw, hg, ac⟩) := Lib.hid (by unfold ren; simp only [if_neg hp, if_pos hq])
          have HO2 := Lib.hid (HO.out.below (bAl (bAl (Below.refl wr.heap.size wr) (.cells (obCells ⟨hd ++ s, kd, pa ++ s, ty, rf, lo, hi, dg, on, has, va, lw, hg, ac⟩) 31)) (.cells (obCells ⟨hd ++ s, kd, pa ++ s, ty, rf, lo, hi, dg, on, has, va, lw, hg, ac⟩) 31)))
          have RL : Hid (RdK obK ((wr.alloc (.cells (obCells ⟨hd ++ s, kd, pa ++ s, ty, rf, lo, hi, dg, on, has, va, lw, hg, ac⟩) 31)).alloc (.cells (obCells ⟨hd ++ s, kd, pa ++ s, ty, rf, lo, hi, dg, on, has, va, lw, hg, ac⟩) 31)) ((wr.alloc (.cells (obCells ⟨hd ++ s, kd, pa ++ s, ty, rf, lo, hi, dg, on, has, va, lw, hg, ac⟩) 31)).alloc (.cells (obCells ⟨hd ++ s, kd, pa ++ s, ty, rf, lo, hi, dg, on, has, va, lw, hg, ac⟩) 31)).heap.size (some ⟨wr.heap.size + 1, 0, none⟩) [⟨hd ++ s, kd, pa ++ s, ty, rf, lo, hi, dg, on, has, va, lw, hg, ac⟩]) := Lib.hid (rdLit (by simp) rfl)
          have hz8 : w.heap.size ≤ ((wr.alloc (.cells (obCells ⟨hd ++ s, kd, pa ++ s, ty, rf, lo, hi, dg, on, has, va, lw, hg, ac⟩) 31)).alloc (.cells (obCells ⟨hd ++ s, kd, pa ++ s, ty, rf, lo, hi, dg, on, has, va, lw, hg, ac⟩) 31)).heap.size := by have := K1.out.size; simp; omega
          have KA := Lib.hid (bAl (bAl K1.out (.cells (obCells ⟨hd ++ s, kd, pa ++ s, ty, rf, lo, hi, dg, on, has, va, lw, hg, ac⟩) 31)) (.cells (obCells ⟨hd ++ s, kd, pa ++ s, ty, rf, lo, hi, dg, on, has, va, lw, hg, ac⟩) 31))
          clear hp hq
          go_wp2_with (at_builtin; refine IX.wpList_spreadK obK rfl (.tmp 39) (.tmp 41) rfl w.heap.size _ t rfl HO2.out _ (some ⟨wr.heap.size + 1, 0, none⟩) 1 1 [⟨hd ++ s, kd, pa ++ s, ty, rf, lo, hi, dg, on, has, va, lw, hg, ac⟩] rfl rfl RL.out hc1 hz8 ?_)
          intro v' w9 o9 g9 _
          have K9 := Lib.hid (KA.out.grown g9 hz8 (fun i hi => (HO2.out.lt i hi).1))
          have O9 := Lib.hid o9
          clear o9 g9 c0 c1 c2 c3 c4 c5 c6 c7 c8 c9 c10 c11 c12 c13 HO2 RL KA hz8
          go_wp2
          go_roundw
          case rel => exact ⟨k + 1, by go_num, by omega, Lib.hid (by rw [HN.out, HE.out]; exact O9.out), K9.out⟩
          case measure => simp [intOf]; omega
        · have iq : rf.toList.isEmpty = false := ne_nil' hq
          have HE : Hid (ren s ⟨hd, kd, pa, ty, rf, lo, hi, dg, on, has, va, lw, hg, ac⟩ = ⟨hd ++ s, kd, pa ++ s, ty, rf ++ s, lo, hi, dg, on, has, va, lw, hg, ac⟩) := Lib.hid (by unfold ren; simp only [if_neg hp, if_neg hq])
          have HO2 := Lib.hid (HO.out.below (bAl (bAl (Below.refl wr.heap.size wr) (.cells (obCells ⟨hd ++ s, kd, pa ++ s, ty, rf ++ s, lo, hi, dg, on, has, va, lw, hg, ac⟩) 31)) (.cells (obCells ⟨hd ++ s, kd, pa ++ s, ty, rf ++ s, lo, hi, dg, on, has, va, lw, hg, ac⟩) 31)))
          have RL : Hid (RdK obK ((wr.alloc (.cells (obCells ⟨hd ++ s, kd, pa ++ s, ty, rf ++ s, lo, hi, dg, on, has, va, lw, hg, ac⟩) 31)).alloc (.cells (obCells ⟨hd ++ s, kd, pa ++ s, ty, rf ++ s, lo, hi, dg, on, has, va, lw, hg, ac⟩) 31)) ((wr.alloc (.cells (obCells ⟨hd ++ s, kd, pa ++ s, ty, rf ++ s, lo, hi, dg, on, has, va, lw, hg, ac⟩) 31)).alloc (.cells (obCells ⟨hd ++ s, kd, pa ++ s, ty, rf ++ s, lo, hi, dg, on, has, va, lw, hg, ac⟩) 31)).heap.size (some ⟨wr.heap.size + 1, 0, none⟩) [⟨hd ++ s, kd, pa ++ s, ty, rf ++ s, lo, hi, dg, on, has, va, lw, hg, ac⟩]) := Lib.hid (rdLit (by simp) rfl)
          have hz8 : w.heap.size ≤ ((wr.alloc (.cells (obCells ⟨hd ++ s, kd, pa ++ s, ty, rf ++ s, lo, hi, dg, on, has, va, lw, hg, ac⟩) 31)).alloc (.cells (obCells ⟨hd ++ s, kd, pa ++ s, ty, rf ++ s, lo, hi, dg, on, has, va, lw, hg, ac⟩) 31)).heap.size := by have := K1.out.size; simp; omega
          have KA := Lib.hid (bAl (bAl K1.out (.cells (obCells ⟨hd ++ s, kd, pa ++ s, ty, rf ++ s, lo, hi, dg, on, has, va, lw, hg, ac⟩) 31)) (.cells (obCells ⟨hd ++ s, kd, pa ++ s, ty, rf ++ s, lo, hi, dg, on, has, va, lw, hg, ac⟩) 31))
          clear hp hq
          go_wp2_with (at_builtin; refine IX.wpList_spreadK obK rfl (.tmp 39) (.tmp 41) rfl w.heap.size _ t rfl HO2.out _ (some ⟨wr.heap.size + 1, 0, none⟩) 1 1 [⟨hd ++ s, kd, pa ++ s, ty, rf ++ s, lo, hi, dg, on, has, va, lw, hg, ac⟩] rfl rfl RL.out hc1 hz8 ?_)
          intro v' w9 o9 g9 _
          have K9 := Lib.hid (KA.out.grown g9 hz8 (fun i hi => (HO2.out.lt i hi).1))
          have O9 := Lib.hid o9
          clear o9 g9 c0 c1 c2 c3 c4 c5 c6 c7 c8 c9 c10 c11 c12 c13 HO2 RL KA hz8
          go_wp2
          go_roundw
          case rel => exact ⟨k + 1, by go_num, by omega, Lib.hid (by rw [HN.out, HE.out]; exact O9.out), K9.out⟩
          case measure => simp [intOf]; omega
    · obtain rfl : k = l.length := by omega
      have i1 : ¬ (l.length : Int) < (l.length : Int) := by omega
      have HE := Lib.hid HO.out
      rw [List.take_length] at HE
      clear HO
      go_wp2
      go_ret
      exact ⟨_, rfl, HE.out, k1⟩
end Go.Proofs.YthlalmoapbdccaaDoor.WX
