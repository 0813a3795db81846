/-
  WALKS: the document's Above, New.
-/
import Derived.Test.YtlfbjgeobibnhaaGreatDoorQZ12
import Derived.Test.YtlfbjgeobibnhaaGreatDoorQZ10
import Derived.Deep.OwnRows
import Derived.Deep.RegionHeld3
import Derived.Test.YtlfbjgeobibnhaaGreatDoorQZ9
namespace Go.Proofs.YtlfbjgeobibnhaaGreatDoor.TX
open Go.RowKit HL
open IX (ptr El cellsK cellsK_at OwnK IxAt Rw numOf mayS strK RdK keys)
set_option maxRecDepth 100000
set_option linter.unusedVariables false
set_option linter.unusedSimpArgs false
theorem may_nil : mayS [] = false := by
  cases z : mayS [] with
  | false => rfl
  | true =>
    have z2 : Go.Proofs.YtlfbjgeobibnhaaGreatDoor.HL.mayB ⟨#[]⟩ = true := z
    have h1 := (Go.Proofs.YtlfbjgeobibnhaaGreatDoor.HL.mayB_iff.1 z2).1
    exact absurd h1 (by decide)
theorem there_nil {s : Sl} (wf : Wf s) : there s [] = false := by
  cases z : there s [] with
  | false => rfl
  | true =>
    obtain ⟨a, h1, h2, _⟩ := there_t z
    have := wf.may _ _ h1
    rw [h2, may_nil] at this
    cases this
theorem above_not {s : Sl} (wf : Wf s) {h : Bs} (e : there s h = false) : above s h = [] := by
  unfold above upL
  rw [(slotN_f e).2]
  have : there s (pb zeroOb) = false := there_nil wf
  rw [this]
  rfl
theorem fill_kept {W : World} {B : Nat} (v0 v1 v2 v3 v4 v5 v6 v7 v8 v9 v10 v11 v12 v13 : Value) : IX.Kept W ((((((((((((((W.setCell ⟨B, 0, none⟩ v0).setCell ⟨B, 1, none⟩ v1).setCell ⟨B, 2, none⟩ v2).setCell ⟨B, 3, none⟩ v3).setCell ⟨B, 4, none⟩ v4).setCell ⟨B, 5, none⟩ v5).setCell ⟨B, 6, none⟩ v6).setCell ⟨B, 7, none⟩ v7).setCell ⟨B, 8, none⟩ v8).setCell ⟨B, 9, none⟩ v9).setCell ⟨B, 10, none⟩ v10).setCell ⟨B, 11, none⟩ v11).setCell ⟨B, 12, none⟩ v12).setCell ⟨B, 13, none⟩ v13) (· ≠ B) :=
  ((((((((((((((IX.Kept.refl W _).set (fun _ q => q rfl) _).set (fun _ q => q rfl) _).set (fun _ q => q rfl) _).set (fun _ q => q rfl) _).set (fun _ q => q rfl) _).set (fun _ q => q rfl) _).set (fun _ q => q rfl) _).set (fun _ q => q rfl) _).set (fun _ q => q rfl) _).set (fun _ q => q rfl) _).set (fun _ q => q rfl) _).set (fun _ q => q rfl) _).set (fun _ q => q rfl) _).set (fun _ q => q rfl) _
section
variable {w : World} {b0 X BT BL : Nat} {s : Sl}
set_option maxHeartbeats 8000000 in
theorem rAbove_any (h : RT w b0 X BT BL s) (x : ByteArray) : Calls Tryz.prog 37 #[ptr X, .string x] w fun e w' => ∃ v', e = .returned v' ∧ OwnK strK w' w.heap.size v' (above s x.data.toList) ∧ Below w.heap.size w w' := by
  have C1 := Lib.hid (rAt_any h x)
  have HT := Lib.hid (fun W (q : Below w.heap.size w W) => h.then q)
  have WFS := Lib.hid h.wf
  obtain ⟨y, hy⟩ : ∃ y, obAt s x.data.toList = y := ⟨_, rfl⟩
  have HR : Hid (above s x.data.toList = upL s 65 [] (pb y)) := Lib.hid (by rw [← hy]; rfl)
  rw [hy] at C1
  clear h hy
  cases hx : there s x.data.toList with
  | false =>
    have HE := Lib.hid (above_not WFS.out hx)
    rw [hx] at C1
    clear hx HR
    go_enter Tryz.func37, Tryz.ntmps37
    go_wp2_with (go_at_call 28; ((with_reducible refine C1.out.mono ?_); rintro e w1 ⟨rfl, k1⟩; have K1 := Lib.hid (bAl k1 (.cells (obCells y) 33))))
    go_loopw [5, 7] (fun out is wr => out = .slice none 0 0 ∧ is = .bool false ∧ Below w.heap.size w wr) (fun _ _ _ => 0)
    case atStart => exact ⟨rfl, rfl, K1.out⟩
    case round =>
      obtain ⟨rfl, rfl, k2⟩ := hrel
      have K2 := Lib.hid k2
      clear k2
      go_wp2
      go_ret
      exact ⟨_, rfl, by rw [HE.out]; exact OwnK.nil_ _ _ _, K2.out⟩
  | true =>
    rw [hx] at C1
    generalize above s x.data.toList = res at *
    clear hx
    go_enter Tryz.func37, Tryz.ntmps37
    go_wp2_with (go_at_call 28; ((with_reducible refine C1.out.mono ?_); rintro e w1 ⟨rfl, k1⟩; have K1 := Lib.hid (bAl k1 (.cells (obCells y) 33)); have M1 := Lib.hid (AtC.new w1 (obCells y) 33); have HLT : Hid (w.heap.size ≤ w1.heap.size) := Lib.hid k1.size; clear k1))
    generalize w1.alloc (.cells (obCells y) 33) = w2 at *
    generalize w1.heap.size = B6 at *
    go_loopw [5, 7] (fun out is wr => ∃ (n : Nat) (acc : List Bs) (z : Ob) (A : Option Addr) (c : Nat), out = .slice A acc.length c ∧ is = .bool true ∧ OwnK strK wr w.heap.size (.slice A acc.length c) acc ∧ AtC wr B6 (obCells z) ∧ Below w.heap.size w wr ∧ Hid (res = upL s n acc (pb z)) ∧ acc.length + n = 65 ∧ acc.Nodup ∧ (∀ x ∈ acc, there s x = true) ∧ (∀ j, (Value.slice A acc.length c).ownBlock = some j → j ≠ B6)) (fun out _ _ => 65 - lenV out)
    case atStart => exact ⟨65, [], y, none, 0, rfl, rfl, OwnK.nil_ _ _ _, M1.out, K1.out, HR, rfl, List.nodup_nil, by simp, by simp [Value.ownBlock]⟩
    case round =>
      obtain ⟨n, acc, z, A, c, rfl, rfl, o1, m1, hb1, HR1, hn1, hnd, hth, hne⟩ := hrel
      have hal := acc_len hnd hth WFS.out.ln
      obtain ⟨m, rfl⟩ : ∃ m, n = m + 1 := ⟨n - 1, by omega⟩
      have HR2 : Hid (res = if there s (pb z) = true then (if pb z ∈ acc then acc else upL s m (acc ++ [pb z]) (pb (obAt s (pb z)))) else acc) := Lib.hid HR1.out
      have oc := m1.c
      have O1 := Lib.hid o1
      have MM1 := Lib.hid m1
      have HBB := Lib.hid hb1
      have HND := Lib.hid hnd
      have HTH := Lib.hid hth
      have HNE := Lib.hid hne
      have CP := Lib.hid (rAt_any (HT.out _ hb1) z.parent)
      clear o1 m1 hb1 hnd hth HR1 hne C1 HR K1 M1
      obtain ⟨q, hq⟩ : ∃ q, obAt s z.parent.data.toList = q := ⟨_, rfl⟩
      rw [hq] at CP
      have hq2 : obAt s (pb z) = q := hq
      rw [hq2] at HR2
      clear hq hq2
      have hlb : w.heap.size ≤ B6 := HLT.out
      cases ht : there s z.parent.data.toList with
      | false =>
        have ht2 : there s (pb z) = false := ht
        have HE : Hid (res = acc) := Lib.hid (by rw [HR2.out, ht2]; simp)
        rw [ht] at CP
        clear ht ht2 HR2
        go_wp2_with (go_at_call 28; ((with_reducible refine CP.out.mono ?_); rintro e w3 ⟨rfl, k3⟩; have M3 := MM1.out.then k3; have mc3 := M3.c; have mf3 := M3.f; have ml3 := M3.lt; have K3 := Lib.hid (bThen HBB.out k3); have O3 := Lib.hid (O1.out.below k3)))
        go_ret
        exact ⟨_, rfl, by rw [HE.out]; exact O3.out.kept (fill_kept _ _ _ _ _ _ _ _ _ _ _ _ _ _) (fun b e => HNE.out b e), bFill K3.out HLT.out _ _ _ _ _ _ _ _ _ _ _ _ _ _⟩
      | true =>
        have ht2 : there s (pb z) = true := ht
        have HTT := Lib.hid ht2
        rw [ht] at CP
        have HR3 : Hid (res = if pb z ∈ acc then acc else upL s m (acc ++ [pb z]) (pb q)) := Lib.hid (by rw [HR2.out, if_pos ht2])
        clear ht ht2 HR2
        have CC := Lib.hid (fun W (k : OwnK strK W w.heap.size (.slice A acc.length c) acc) => Go.Proofs.YtlfbjgeobibnhaaGreatDoor.HL.has_any A c acc z.parent.data.toList W.heap.size W (by
          obtain ⟨_, _, e8, rd, _⟩ := k.form
          cases e8
          exact rd.strs) (by unfold maxLen; omega))
        by_cases hin : pb z ∈ acc
        · have HE : Hid (res = acc) := Lib.hid (by rw [HR3.out, if_pos hin])
          have CC : Hid (∀ W, OwnK strK W w.heap.size (.slice A acc.length c) acc → Calls Tryz.prog 60 #[.slice A acc.length c, .string z.parent] W fun e w' => e = .returned (.bool true) ∧ W = w') := Lib.hid (fun W k => by have := CC.out W k; rw [decide_eq_true hin] at this; exact this)
          clear hin HR3
          go_wp2_with (first
            | (go_at_call 28; ((with_reducible refine CP.out.mono ?_); rintro e w3 ⟨rfl, k3⟩; have M3 := MM1.out.then k3; have mc3 := M3.c; have mf3 := M3.f; have ml3 := M3.lt; have K3 := Lib.hid (bThen HBB.out k3); have O3 := Lib.hid (O1.out.below k3)))
            | (go_at_call 60; (refine (CC.out _ (O3.out.kept (fill_kept _ _ _ _ _ _ _ _ _ _ _ _ _ _) (fun b e => HNE.out b e))).mono ?_; rintro e w4 ⟨rfl, rfl⟩)))
          go_ret
          exact ⟨_, rfl, by rw [HE.out]; exact O3.out.kept (fill_kept _ _ _ _ _ _ _ _ _ _ _ _ _ _) (fun b e => HNE.out b e), bFill K3.out HLT.out _ _ _ _ _ _ _ _ _ _ _ _ _ _⟩
        · have HE : Hid (res = upL s m (acc ++ [pb z]) (pb q)) := Lib.hid (by rw [HR3.out, if_neg hin])
          have CC : Hid (∀ W, OwnK strK W w.heap.size (.slice A acc.length c) acc → Calls Tryz.prog 60 #[.slice A acc.length c, .string z.parent] W fun e w' => e = .returned (.bool false) ∧ W = w') := Lib.hid (fun W k => by have := CC.out W k; rw [decide_eq_false hin] at this; exact this)
          have HIN := Lib.hid hin
          clear hin HR3
          go_wp2_with (first
            | (go_at_call 28; ((with_reducible refine CP.out.mono ?_); rintro e w3 ⟨rfl, k3⟩; have M3 := MM1.out.then k3; have mc3 := M3.c; have mf3 := M3.f; have ml3 := M3.lt; have K3 := Lib.hid (bThen HBB.out k3); have O3 := Lib.hid (O1.out.below k3); have M3 := Lib.hid M3))
            | (go_at_call 60; (refine (CC.out _ (O3.out.kept (fill_kept _ _ _ _ _ _ _ _ _ _ _ _ _ _) (fun b e => HNE.out b e))).mono ?_; rintro e w4 ⟨rfl, e4⟩; have O4 := Lib.hid (e4 ▸ (O3.out.kept (fill_kept _ _ _ _ _ _ _ _ _ _ _ _ _ _) (fun b e => HNE.out b e)) : OwnK strK w4 w.heap.size (.slice A acc.length c) acc); have M4 := Lib.hid (e4 ▸ (AtC.fill M3.out rfl _ _ _ _ _ _ _ _ _ _ _ _ _ _) : AtC w4 B6 (obCells q)); have K4 := Lib.hid (e4 ▸ (bFill K3.out HLT.out _ _ _ _ _ _ _ _ _ _ _ _ _ _) : Below w.heap.size w w4); clear e4))
            | (at_builtin; refine IX.wpList_spreadK strK rfl (.tmp 32) (.tmp 34) rfl w.heap.size _ acc rfl (O4.out.below (bAl (Below.refl _ w4) _)) (w4.heap.size + 1) (some ⟨w4.heap.size, 0, none⟩) 1 1 [pb z] rfl rfl (RdK.lit (K := strK) w4 (pb z) #[.string z.parent] rfl 9) ?c1 ?c2 ?_))
          case c1 => show acc.length + 1 ≤ 1000000; omega
          case c2 => have := K4.out.size; simp; omega
          intro v' w5 o5 g5 f5
          have K5 := Lib.hid ((bAl K4.out (.cells #[.string z.parent] 9)).grown g5 (by have := K4.out.size; simp; omega) (fun j hj => (O1.out.lt j hj).1))
          have mm5 := ((M4.out.al (.cells #[.string z.parent] 9)).kept (P := fun k => (Value.slice A acc.length c).ownBlock ≠ some k) ⟨g5.os, g5.tape, g5.output, g5.size, fun k hk e => g5.block k hk (fun q => e q.symm)⟩ (fun e => HNE.out _ e rfl))
          have MM5 := Lib.hid mm5
          have HB6 : Hid (B6 < w4.heap.size) := Lib.hid M4.out.lt
          have O5 := Lib.hid o5
          have F5 := Lib.hid f5
          obtain ⟨A', c', e', _, _⟩ := o5.form
          clear o5 f5 g5 mm5
          go_wp2
          go_roundw
          case rel =>
            have hne' : ∀ j, v'.ownBlock = some j → j ≠ B6 := fun j e => by
              rcases F5.out with f | f
              · rw [f] at e; exact HNE.out j e
              · rw [f] at e; injection e with e; have := HB6.out; try simp at e
                omega
            have ok6 := O5.out
            rw [e'] at ok6 hne'
            exact ⟨m, acc ++ [pb z], q, A', c', e', rfl, ok6, MM5.out, K5.out, Lib.hid HE.out, by simp; omega, List.nodup_append.2 ⟨HND.out, by simp, fun a ha b hb e => by simp at hb; subst hb; subst e; exact HIN.out ha⟩, fun x hx => (List.mem_append.1 hx).elim (HTH.out x) (fun hx => (show x = pb z by simpa using hx) ▸ HTT.out), hne'⟩
          case measure => rw [e']; simp [lenV]; omega
end
/-! ## New -/
theorem info_ob : ∃ i, Tryz.prog.info? 33 = some i ∧ i.zero = some (ob zeroOb) ∧ i.size = 14 ∧ i.bytes ≤ 1000 := ⟨(Tryz.prog.info? 33).get!, by kernel_rfl, by kernel_rfl, by kernel_rfl, of_decide_eq_true (by kernel_rfl)⟩
theorem make_ob (n : Nat) (hn : n ≤ 64) (w : World) : (Instr.makeSlice 38 (.int .i64 (n : Int)) (.int .i64 (n : Int))).run Tryz.prog w = .ok (.slice (some ⟨w.heap.size, 0, none⟩) n n) (w.alloc (.cells (slC (freeS n)) 33)) := by
  obtain ⟨i, hi, hz, hs, hb⟩ := info_ob
  have hr := run_make (P := Tryz.prog) w 38 33 i (ob zeroOb) Tryz.underlying38 hi hz .i64 .i64 (n : Int) (n : Int) (by omega) (Int.le_refl _) (by
    have : (i.bytes : Int) ≤ 1000 := by omega
    have h2 : (n : Int) ≤ 64 := by omega
    have h3 : (0 : Int) ≤ i.bytes := by omega
    have := Int.mul_le_mul this h2 (by omega) (by omega)
    omega) (by omega)
  simp only [Int.toNat_natCast, hs] at hr
  rw [hr]
  congr 3
  have hc : (ob zeroOb).cells = obCells zeroOb := rfl
  apply Array.ext
  · rw [size_madeCells, slC_len]; simp [freeS]
  · intro i h1 h2
    have hi : i < n * 14 := by rw [size_madeCells] at h1; exact h1
    have hm : i % 14 < 14 := Nat.mod_lt _ (by decide)
    have e1 := slC_at (s := freeS n) (k := i / 14) (x := none) (by have h9 : i / 14 < n := (by omega); simp [freeS, h9]) (i := i % 14) hm
    rw [show i / 14 * 14 + i % 14 = i by omega, Array.getElem?_eq_getElem h2] at e1
    have e2 : (obCells (obOf none))[i % 14]? = some ((obCells zeroOb)[i % 14]'hm) := Array.getElem?_eq_getElem hm
    have e3 : (madeCells (ob zeroOb).cells (n * 14))[i] = (obCells zeroOb)[i % 14]'hm := by
      simp only [madeCells, Array.getElem_map, Array.getElem_range, hc]
      exact getElem!_pos (obCells zeroOb) (i % 14) hm
    rw [e3]
    exact (Option.some.inj (e1.trans e2)).symm
theorem make_bo (n : Nat) (hn : n ≤ 64) (w : World) : (Instr.makeSlice 56 (.int .i64 (n : Int)) (.int .i64 (n : Int))).run Tryz.prog w = .ok (.slice (some ⟨w.heap.size, 0, none⟩) n n) (w.alloc (.cells (tkC (freeS n)) 4)) := by
  have h := run_make_row' (P := Tryz.prog) 56 4 (.bool false) 1 Tryz.underlying56 (by kernel_rfl) rfl .i64 .i64 n (by omega) (by omega) w
  rw [h]
  congr 3
  apply Array.ext'
  simp only [madeCells, tkC, freeS]
  apply List.ext_getElem
  · simp
  · intro i h1 h2; simp [Nat.mod_one]
set_option maxHeartbeats 4000000 in
theorem rNew_yes (n : Nat) (w : World) (h1 : 1 ≤ n) (h2 : n ≤ 64) : Calls Tryz.prog 7 #[.int .i64 n] w fun e w' => ∃ X BT BL, e = .returned (.tuple #[ptr X, .int .i64 0]) ∧ RT w' w.heap.size X BT BL (freeS n) ∧ Below w.heap.size w w' := by
  have i1 : ¬ (n : Int) < 1 := by omega
  have i2 : ¬ (64 : Int) < n := by omega
  have hb := make_bo n h2
  have hi := make_ob n h2
  have HWF : Hid (Wf (freeS n)) := Lib.hid (by
    have e : ∀ i a, ¬ In (freeS n) i a := fun i a q => by
      unfold In freeS at q
      rw [List.getElem?_replicate] at q
      split at q <;> simp at q
    exact ⟨fun i j a b q => absurd q (e i a), fun i a q => absurd q (e i a), fun i a q => absurd q (e i a), by simp [freeS]; exact h2⟩)
  have HLN : Hid ((freeS n).length = n) := Lib.hid (by simp [freeS])
  go_enter Tryz.func7, Tryz.ntmps7
  go_wp2
  go_region_held3 (fun w' => True) (go_keep) (fail)
  · go_wp2
    go_ret2
    refine ⟨w.heap.size + 1 + 1, w.heap.size, w.heap.size + 1, rfl, ⟨?_, ?_, ?_, by omega, by omega, by omega, by omega, by omega, by omega, HWF.out⟩, ((((Below.refl _ _).alloc (Nat.le_refl _) _).alloc (by simp) _).alloc (by simp; omega) _).drew⟩
    · rw [HLN.out]; exact (AtC.newAt (by simp)).drew1
    · exact (((AtC.new w (tkC (freeS n)) 4).al _).al _).drew1
    · exact ((AtC.newAt (w := w.alloc (.cells (tkC (freeS n)) 4)) (C := slC (freeS n)) (T := 33) (by simp)).al _).drew1
  · go_wp2
    go_ret2
    refine ⟨w.heap.size + 1 + 1, w.heap.size + 1, w.heap.size, rfl, ⟨?_, ?_, ?_, by omega, by omega, by omega, by omega, by omega, by omega, HWF.out⟩, ((((Below.refl _ _).alloc (Nat.le_refl _) _).alloc (by simp) _).alloc (by simp; omega) _).drew⟩
    · rw [HLN.out]; exact (AtC.newAt (by simp)).drew1
    · exact ((AtC.newAt (w := w.alloc (.cells (slC (freeS n)) 33)) (C := tkC (freeS n)) (T := 4) (by simp)).al _).drew1
    · exact (((AtC.new w (slC (freeS n)) 33).al _).al _).drew1
theorem rNew_no (n : Int) (w : World) (h : n < 1 ∨ 64 < n) : Calls Tryz.prog 7 #[.int .i64 n] w fun e w' => e = .returned (.tuple #[.pointer none, .int .i64 2]) ∧ w = w' := by
  by_cases h1 : n < 1
  · clear h
    go_enter Tryz.func7, Tryz.ntmps7
    go_wp2
    go_ret2
    exact ⟨rfl, rfl⟩
  · have h2 : 64 < n := by omega
    clear h
    go_enter Tryz.func7, Tryz.ntmps7
    go_wp2
    go_ret2
    exact ⟨rfl, rfl⟩
end Go.Proofs.YtlfbjgeobibnhaaGreatDoor.TX
/-
  WALKS: the document's Add, Set, Remove.
-/
namespace Go.Proofs.YtlfbjgeobibnhaaGreatDoor.TX
open Go.RowKit HL
open IX (ptr El cellsK cellsK_at OwnK IxAt Rw numOf mayS strK RdK keys)
set_option maxRecDepth 100000
set_option linter.unusedVariables false
set_option linter.unusedSimpArgs false
section
variable {w : World} {b0 X BT BL : Nat} {s : Sl}
set_option maxHeartbeats 4000000 in
theorem rSet_any (h : RT w b0 X BT BL s) (o : Ob) (hp : (pb o).length ≤ 100) : Calls Tryz.prog 24 #[ptr X, ob o] w fun e w' => e = .returned (.int .i64 (hasE s (hb o))) ∧ RT w' b0 X BT BL (setS s o) ∧ RK BT BL w w' := by
  have hb0 : Below w.heap.size w w := Below.refl _ _
  have CF := Lib.hid (fun W (q : Below w.heap.size w W) => rSlot_any (h.then q) o.handle)
  have hA := h.then (bAl hb0 (.cells (obCells o) 33))
  have M0 := Lib.hid (AtC.new w (obCells o) 33)
  have KA : Hid (RK BT BL w (w.alloc (.cells (obCells o) 33))) := Lib.hid (.of_below (bAl hb0 _))
  cases e : there s o.handle.data.toList with
  | false =>
    have HE : Hid (hasE s (TX.hb o) = 70 ∧ setS s o = s) := Lib.hid ⟨by unfold hasE; rw [if_neg (by rw [e]; simp)], by unfold setS; rw [if_neg (by rw [e]; simp)]⟩
    rw [e, (slotN_f e).1] at CF
    have HA := Lib.hid hA
    have mc := M0.out.c
    clear e h hA
    go_enter Tryz.func24, Tryz.ntmps24
    go_wp2_with (go_at_call 30; ((with_reducible refine (CF.out _ (bAl hb0 _)).mono ?_); rintro e w1 ⟨rfl, rfl⟩))
    go_ret
    exact ⟨by rw [HE.out.1]; rfl, by rw [HE.out.2]; exact HA.out, KA.out⟩
  | true =>
    obtain ⟨a, h1, h2, h3, h4⟩ := there_t e
    have wf2 : Wf (s.set (slotN s (TX.hb o)) (some o)) := h.wf.add h1.lt (fun j b hj e2 => h.wf.nd j _ b a hj h1 (by rw [e2, h2])) (by have := h.wf.may _ _ h1; rw [h2] at this; exact this) hp
    have HE : Hid (hasE s (TX.hb o) = 0 ∧ setS s o = s.set (slotN s (TX.hb o)) (some o)) := Lib.hid ⟨by unfold hasE; rw [if_pos e], by unfold setS; rw [if_pos e]⟩
    rw [e] at CF
    have HF : Hid (RT (put14 (w.alloc (.cells (obCells o) 33)) BL (slotN s (TX.hb o) * 14) o) b0 X BT BL (s.set (slotN s (TX.hb o)) (some o)) ∧ RK BT BL w (put14 (w.alloc (.cells (obCells o) 33)) BL (slotN s (TX.hb o) * 14) o)) := Lib.hid ⟨hA.obj h1 wf2, KA.out.obj _ _⟩
    have x1 := hA.c1
    have hk := h1.lt
    have hln : s.length ≤ 64 := h.wf.ln
    obtain ⟨c0, c1, c2, c3, c4, c5, c6, c7, c8, c9, c10, c11, c12, c13⟩ := hA.ob (show s[slotN s (TX.hb o)]? = some (some a) from h1) (o := a) rfl
    have f0 := hA.l.f
    have mc := M0.out.c
    clear e h h1 h2 h3 h4 wf2 hA
    generalize slotN s (TX.hb o) = k at *
    generalize s.set k (some o) = s2 at *
    have hk2 : (k : Int) < s.length := by omega
    go_enter Tryz.func24, Tryz.ntmps24
    go_wp2_with (go_at_call 30; ((with_reducible refine (CF.out _ (bAl hb0 _)).mono ?_); rintro e w1 ⟨rfl, rfl⟩))
    go_region
    all_goals (go_wp2_with fail; go_ret; exact ⟨by rw [HE.out.1]; rfl, by rw [HE.out.2]; exact HF.out.1.then (Below.refl _ _).drew, IX.Kept.then HF.out.2 (Below.refl _ _).drew⟩)
set_option maxHeartbeats 4000000 in
theorem rRem_any (h : RT w b0 X BT BL s) (x : ByteArray) : Calls Tryz.prog 26 #[ptr X, .string x] w fun e w' => e = .returned (.int .i64 (hasE s x.data.toList)) ∧ RT w' b0 X BT BL (remS s x.data.toList) ∧ RK BT BL w w' := by
  have CF := Lib.hid (rSlot_any h x)
  cases e : there s x.data.toList with
  | false =>
    have HE : Hid (hasE s x.data.toList = 70 ∧ remS s x.data.toList = s) := Lib.hid ⟨by unfold hasE; rw [if_neg (by rw [e]; simp)], by unfold remS; rw [if_neg (by rw [e]; simp)]⟩
    rw [e, (slotN_f e).1] at CF
    have HA := Lib.hid h
    clear e h
    go_enter Tryz.func26, Tryz.ntmps26
    go_wp2_with (go_at_call 30; ((with_reducible refine CF.out.mono ?_); rintro e w1 ⟨rfl, rfl⟩))
    go_ret
    exact ⟨by rw [HE.out.1]; rfl, by rw [HE.out.2]; exact HA.out, IX.Kept.refl _ _⟩
  | true =>
    obtain ⟨a, h1, h2, h3, h4⟩ := there_t e
    have HE : Hid (hasE s x.data.toList = 0 ∧ remS s x.data.toList = s.set (slotN s x.data.toList) none) := Lib.hid ⟨by unfold hasE; rw [if_pos e], by unfold remS; rw [if_pos e]⟩
    rw [e] at CF
    have HF : Hid (RT (put14 (w.setCell ⟨BT, slotN s x.data.toList, none⟩ (.bool false)) BL (slotN s x.data.toList * 14) zeroOb) b0 X BT BL (s.set (slotN s x.data.toList) none) ∧ RK BT BL w (put14 (w.setCell ⟨BT, slotN s x.data.toList, none⟩ (.bool false)) BL (slotN s x.data.toList * 14) zeroOb)) := Lib.hid ⟨h.put h1.lt none (h.wf.del h1.lt) rfl rfl, RK.put (IX.Kept.refl _ _) _ _ _⟩
    have x0 := h.c0
    have hk := h1.lt
    have hln : s.length ≤ 64 := h.wf.ln
    have t0 := h.tk (show s[slotN s x.data.toList]? = some (some a) from h1)
    have t1 := h.t.f
    have x1 : (w.setCell ⟨BT, slotN s x.data.toList, none⟩ (.bool false)).cell? ⟨X, 1, none⟩ = some (.slice (some ⟨BL, 0, none⟩) s.length s.length) := (h.c.store (p := ⟨BT, slotN s x.data.toList, none⟩) h.n1.symm _).c 1
    have hl2 := h.l.store (p := ⟨BT, slotN s x.data.toList, none⟩) h.n3 (.bool false)
    obtain ⟨c0, c1, c2, c3, c4, c5, c6, c7, c8, c9, c10, c11, c12, c13⟩ := slC_cells hl2 (show s[slotN s x.data.toList]? = some (some a) from h1) (o := a) rfl
    have f0 := hl2.f
    clear e h h1 h2 h3 h4 hl2
    generalize slotN s x.data.toList = k at *
    generalize s.set k none = s2 at *
    have hk2 : (k : Int) < s.length := by omega
    simp only [Option.isSome_some] at t0
    go_enter Tryz.func26, Tryz.ntmps26
    go_wp2_with (go_at_call 30; ((with_reducible refine CF.out.mono ?_); rintro e w1 ⟨rfl, rfl⟩))
    go_ret
    exact ⟨by rw [HE.out.1]; rfl, by rw [HE.out.2]; exact HF.out.1, HF.out.2⟩
end
end Go.Proofs.YtlfbjgeobibnhaaGreatDoor.TX
/-
  WALK: the document's Add.
-/
namespace Go.Proofs.YtlfbjgeobibnhaaGreatDoor.TX
open Go.RowKit HL
open IX (ptr El cellsK cellsK_at OwnK IxAt Rw numOf mayS strK RdK keys)
set_option maxRecDepth 100000
set_option linter.unusedVariables false
set_option linter.unusedSimpArgs false
theorem tkOf_getD {s : Sl} {k : Nat} {y : Option Ob} (h : s[k]? = some y) : (tkOf s).getD k false = y.isSome := by
  simp [tkOf, List.getD_eq_getElem?_getD, h]
section
variable {w : World} {b0 X BT BL : Nat} {s : Sl}
set_option maxHeartbeats 8000000 in
theorem rAdd_any (h : RT w b0 X BT BL s) (o : Ob) (hz : o.handle.size ≤ maxLen) (hp : (pb o).length ≤ 100) : Calls Tryz.prog 22 #[ptr X, ob o] w fun e w' => e = .returned (.int .i64 (addE s o)) ∧ RT w' b0 X BT BL (addS s o) ∧ RK BT BL w w' := by
  have hb0 : Below w.heap.size w w := Below.refl _ _
  have CY := Lib.hid (fun W => Go.Proofs.YtlfbjgeobibnhaaGreatDoor.HL.refMay_any o.handle W hz)
  have M0 := Lib.hid (AtC.new w (obCells o) 33)
  have mc := M0.out.c
  have HH := Lib.hid h
  cases hy : mayS (TX.hb o) with
  | false =>
    have HE : Hid (addE s o = 10 ∧ addS s o = s) := Lib.hid (by
      have e : addE s o = 10 := by unfold addE; rw [hy]; rfl
      exact ⟨e, by unfold addS; rw [if_neg (by rw [e]; decide)]⟩)
    have hy' : Go.Proofs.YtlfbjgeobibnhaaGreatDoor.HL.mayB o.handle = false := hy
    rw [hy'] at CY
    clear hy hy' h
    go_enter Tryz.func22, Tryz.ntmps22
    go_wp2_with (go_at_call 50; ((with_reducible refine (CY.out _).mono ?_); rintro e w1 ⟨rfl, rfl⟩))
    go_ret
    exact ⟨by rw [HE.out.1]; rfl, by rw [HE.out.2]; exact HH.out.then (bAl hb0 _), .of_below (bAl hb0 _)⟩
  | true =>
    have hy' : Go.Proofs.YtlfbjgeobibnhaaGreatDoor.HL.mayB o.handle = true := hy
    rw [hy'] at CY
    have CA := Lib.hid (rAt_any (h.then (bAl hb0 (.cells (obCells o) 33))) o.handle)
    have HMY := Lib.hid hy
    clear hy'
    cases ht : there s (TX.hb o) with
    | true =>
      have HE : Hid (addE s o = 71 ∧ addS s o = s) := Lib.hid (by
        have e : addE s o = 71 := by unfold addE; rw [if_pos hy, if_pos ht]
        exact ⟨e, by unfold addS; rw [if_neg (by rw [e]; decide)]⟩)
      have ht' : there s o.handle.data.toList = true := ht
      rw [ht'] at CA
      clear hy ht ht' h
      generalize obAt s o.handle.data.toList = a at *
      go_enter Tryz.func22, Tryz.ntmps22
      go_wp2_with (first
        | (go_at_call 50; ((with_reducible refine (CY.out _).mono ?_); rintro e w1 ⟨rfl, rfl⟩))
        | (go_at_call 28; ((with_reducible refine CA.out.mono ?_); rintro e w2 ⟨rfl, k2⟩)))
      go_ret
      exact ⟨by rw [HE.out.1]; rfl, by rw [HE.out.2]; exact HH.out.then (bAl (bThen (bAl hb0 _) k2) _), .of_below (bAl (bThen (bAl hb0 _) k2) _)⟩
    | false =>
      have HT := Lib.hid ht
      have ht' : there s o.handle.data.toList = false := ht
      rw [ht'] at CA
      have hln : s.length ≤ 64 := h.wf.ln
      have HNE : Hid (w.heap.size ≠ BT ∧ w.heap.size ≠ BL) := Lib.hid ⟨by have := h.t.lt; omega, by have := h.l.lt; omega⟩
      clear hy ht ht' h
      generalize obAt s o.handle.data.toList = a at *
      go_enter Tryz.func22, Tryz.ntmps22
      go_wp2_with (first
        | (go_at_call 50; ((with_reducible refine (CY.out _).mono ?_); rintro e w1 ⟨rfl, rfl⟩))
        | (go_at_call 28; ((with_reducible refine CA.out.mono ?_); rintro e w2 ⟨rfl, k2⟩)))
      have K5 : Hid (Below w.heap.size w (w2.alloc (.cells (obCells a) 33))) := Lib.hid (bAl (bThen (bAl hb0 _) k2) _)
      have M5 : Hid (AtC (w2.alloc (.cells (obCells a) 33)) w.heap.size (obCells o)) := Lib.hid ((M0.out.then k2).al _)
      clear k2 mc CA CY
      generalize w2.alloc (.cells (obCells a) 33) = w5 at *
      have R5 := Lib.hid (HH.out.then K5.out)
      have x0 := R5.out.c0
      have x1 := R5.out.c1
      go_loop [7] (fun i => ∃ k : Nat, i = .int .i64 k ∧ k ≤ s.length ∧ ∀ j, j < k → (tkOf s).getD j false = true) (fun i => s.length - (intOf i).toNat)
      case atStart => exact ⟨0, rfl, Nat.zero_le _, fun j hj => by omega⟩
      case round =>
        obtain ⟨k, rfl, hk, hfull⟩ := hrel
        have HF := Lib.hid hfull
        clear hfull
        by_cases hlt : k < s.length
        · have i1 : (k : Int) < s.length := by omega
          obtain ⟨y, hy⟩ : ∃ y, s[k]? = some y := ⟨_, List.getElem?_eq_getElem hlt⟩
          have ct := R5.out.tk hy
          cases y with
          | some b =>
            have HR : Hid (∀ j, j < k + 1 → (tkOf s).getD j false = true) := Lib.hid (fun j hj => by
              by_cases e : j = k
              · subst e; rw [tkOf_getD hy]; rfl
              · exact HF.out j (by omega))
            simp only [Option.isSome_some] at ct
            clear hy
            go_wp2
            go_round
            case rel => exact ⟨k + 1, by go_num, by omega, HR.out⟩
            case measure => simp [intOf]; omega
          | none =>
            have hfr : freeIx (tkOf s) = k := free_at (by rw [tk_len]; exact hlt) HF.out (by rw [tkOf_getD hy]; rfl)
            have e0 : addE s o = 0 := addE_0.2 ⟨HMY.out, HT.out, by rw [hfr]; exact hlt⟩
            have wf2 : Wf (s.set k (some o)) := R5.out.wf.add hlt (fun j c hj e => absurd e (slotO_none.1 (there_f HT.out) j c hj)) HMY.out hp
            have HE : Hid (addE s o = 0 ∧ addS s o = s.set k (some o)) := Lib.hid ⟨e0, by unfold addS; rw [if_pos e0, hfr]⟩
            have HP : Hid (RT (put14 (w5.setCell ⟨BT, k, none⟩ (.bool true)) BL (k * 14) o) b0 X BT BL (s.set k (some o)) ∧ RK BT BL w (put14 (w5.setCell ⟨BT, k, none⟩ (.bool true)) BL (k * 14) o)) := Lib.hid ⟨R5.out.put hlt (some o) wf2 rfl rfl, RK.put (IX.Kept.of_below K5.out) _ _ _⟩
            have t1 := R5.out.t.f
            have y1 : (w5.setCell ⟨BT, k, none⟩ (.bool true)).cell? ⟨X, 1, none⟩ = some (.slice (some ⟨BL, 0, none⟩) s.length s.length) := (R5.out.c.store (p := ⟨BT, k, none⟩) R5.out.n1.symm _).c 1
            have hl2 := R5.out.l.store (p := ⟨BT, k, none⟩) R5.out.n3 (.bool true)
            have mo := (M5.out.store (p := ⟨BT, k, none⟩) HNE.out.1.symm (.bool true)).c
            obtain ⟨c0, c1, c2, c3, c4, c5, c6, c7, c8, c9, c10, c11, c12, c13⟩ := slC_cells hl2 hy (o := zeroOb) rfl
            have f0 := hl2.f
            simp only [Option.isSome_none] at ct
            clear hy hfr e0 wf2 hl2
            generalize s.set k (some o) = s2 at *
            go_wp2
            go_region
            all_goals (go_wp2_with fail; go_ret; exact ⟨by rw [HE.out.1]; rfl, by rw [HE.out.2]; exact HP.out.1.then (Below.refl _ _).drew, IX.Kept.then HP.out.2 (Below.refl _ _).drew⟩)
        · have hfr : freeIx (tkOf s) = s.length := by rw [← tk_len s]; exact free_none (fun i hi => HF.out i (by rw [tk_len] at hi; omega))
          have HE : Hid (addE s o = 4 ∧ addS s o = s) := Lib.hid (by
            have e : addE s o = 4 := by unfold addE; rw [if_pos HMY.out, HT.out, if_neg (by simp), if_neg (by omega)]
            exact ⟨e, by unfold addS; rw [if_neg (by rw [e]; decide)]⟩)
          obtain rfl : k = s.length := by omega
          have i1 : ¬ (s.length : Int) < s.length := by omega
          clear hfr
          go_wp2
          go_ret
          exact ⟨by rw [HE.out.1]; rfl, by rw [HE.out.2]; exact R5.out, .of_below K5.out⟩
end
end Go.Proofs.YtlfbjgeobibnhaaGreatDoor.TX
