/-
  WALKS: Stand, the document's.
-/
import Derived.Test.YthlalmoapbdccaaDoorWZ6
import Derived.Test.YthlalmoapbdccaaDoorWZ2
import Derived.Deep.RegionHeld3
namespace Go.Proofs.YthlalmoapbdccaaDoor
open Go.RowKit
set_option maxRecDepth 100000
set_option linter.unusedVariables false
set_option linter.unusedSimpArgs false

theorem str_ne {a b : ByteArray} (h : a ≠ b) : (a.toList == b.toList) = false := by
  rw [beq_eq_false_iff_ne, ne_eq, ByteArray.toList_eq, ByteArray.toList_eq]
  intro e; apply h
  obtain ⟨⟨x⟩⟩ := a
  obtain ⟨⟨y⟩⟩ := b
  simp at e; rw [e]
theorem of_nil {a : ByteArray} (h : a.toList = []) : a = ⟨#[]⟩ := by
  rw [ByteArray.toList_eq] at h
  obtain ⟨⟨x⟩⟩ := a
  simp at h; rw [h]
theorem zero_of {p : Ob} (hk : p.kind = 0) (h1 : p.handle.toList = []) (h2 : p.parent.toList = []) (h3 : p.typ = 0) (h4 : p.ref.toList = []) (h5 : p.lo = 0) (h6 : p.hi = 0) (h7 : p.digits = 0) (h8 : ¬ p.on = true) (h9 : ¬ p.has = true) (h10 : p.value = 0) (h11 : p.low = 0) (h12 : p.high = 0) (h13 : p.assoc = 0) : p = zeroOb := by
  obtain ⟨a, b, c, d, e, f, g, i, j, k, l, m, n, o⟩ := p
  dsimp only at *
  rw [of_nil h1, of_nil h2, of_nil h4, hk, h3, h5, h6, h7, h10, h11, h12, h13]
  simp at h8 h9
  rw [h8, h9]; rfl
theorem of_zero {p : Ob} (h : p = zeroOb) : p.handle.toList = [] ∧ p.parent.toList = [] ∧ p.typ = 0 ∧ p.ref.toList = [] ∧ p.lo = 0 ∧ p.hi = 0 ∧ p.digits = 0 ∧ ¬ p.on = true ∧ ¬ p.has = true ∧ p.value = 0 ∧ p.low = 0 ∧ p.high = 0 ∧ p.assoc = 0 := by
  have e : (⟨#[]⟩ : ByteArray).toList = [] := by rw [ByteArray.toList_eq]
  subst h
  exact ⟨e, e, rfl, e, rfl, rfl, rfl, by decide, by decide, rfl, rfl, rfl, rfl⟩
/-- What Stand tells. -/
noncomputable def standE (o p : Ob) : Nat := by
  classical
  exact if kdB o.kind = false then 40 else if underB o.kind p.kind = false ∨ o.parent ≠ p.handle ∨ (p.kind = 0 ∧ p ≠ zeroOb) then 50 else 0
theorem stand_kind {o p : Ob} (h : kdB o.kind = false) : standE o p = 40 := by unfold standE; rw [if_pos h]
theorem stand_no {o p : Ob} (h : kdB o.kind = true) (q : underB o.kind p.kind = false ∨ o.parent ≠ p.handle ∨ (p.kind = 0 ∧ p ≠ zeroOb)) : standE o p = 50 := by unfold standE; rw [if_neg (by simp [h]), if_pos q]
theorem stand_ok {o p : Ob} (h : kdB o.kind = true) (hu : underB o.kind p.kind = true) (hp : o.parent = p.handle) (hz : p.kind = 0 → p = zeroOb) : standE o p = 0 := by
  unfold standE
  rw [if_neg (by simp [h]), if_neg]
  rintro (q | q | q)
  · rw [hu] at q; cases q
  · exact q hp
  · exact q.2 (hz q.1)
set_option maxHeartbeats 4000000 in
theorem stand_any (o p : Ob) (w : World) (hk : o.kind ≤ 255) (hp : p.kind ≤ 255) (hw : Tables w) :
    Calls Tryd.prog 22 #[ob o, ob p] w fun e w' => e = .returned (.int .i64 (standE o p)) ∧ Below w.heap.size w w' := by
  have CE := Lib.hid (fun W (q : Below w.heap.size w W) => exists_any o.kind W hk (hw.then q))
  have CU := Lib.hid (fun W (q : Below w.heap.size w W) => under_any o.kind p.kind W hk hp (hw.then q))
  have hb0 := bAl (bAl (Below.refl w.heap.size w) (.cells (obCells o) 31)) (.cells (obCells p) 31)
  have m1 := (AtC.new w (obCells o) 31).al (.cells (obCells p) 31)
  have m2 := AtC.newAt (w := w.alloc (.cells (obCells o) 31)) (B := w.heap.size + 1) (C := obCells p) (T := 31) (by simp)
  have HP : ∀ W', Below ((w.alloc (.cells (obCells o) 31)).alloc (.cells (obCells p) 31)).heap.size ((w.alloc (.cells (obCells o) 31)).alloc (.cells (obCells p) 31)) W' → AtC W' w.heap.size (obCells o) ∧ AtC W' (w.heap.size + 1) (obCells p) := fun W' k => ⟨m1.then k, m2.then k⟩
  have HPP := Lib.hid HP
  clear HP m1 m2 hw
  rcases (show kdB o.kind = false ∨ kdB o.kind = true by cases kdB o.kind <;> simp) with h | h
  · have HV : Hid (standE o p = 40) := Lib.hid (stand_kind h)
    rw [h] at CE
    clear h
    go_enter Tryd.func22, Tryd.ntmps22
    go_wp2_with (go_at_call 34; ((with_reducible refine (CE.out _ hb0).mono ?_); rintro e w1 ⟨rfl, rfl⟩))
    go_ret
    exact ⟨by rw [HV.out]; rfl, hb0⟩
  · rw [h] at CE
    rcases (show underB o.kind p.kind = false ∨ underB o.kind p.kind = true by cases underB o.kind p.kind <;> simp) with hu | hu
    · have HV : Hid (standE o p = 50) := Lib.hid (stand_no h (.inl hu))
      rw [hu] at CU
      clear h hu
      go_enter Tryd.func22, Tryd.ntmps22
      go_wp2_with (first | (go_at_call 34; ((with_reducible refine (CE.out _ hb0).mono ?_); rintro e w1 ⟨rfl, rfl⟩)) | (go_at_call 35; ((with_reducible refine (CU.out _ hb0).mono ?_); rintro e w1 ⟨rfl, k1⟩; have hb1 := bThen hb0 k1; have q := HPP.out _ k1; have c1 := q.1.c; have c2 := q.2.c)))
      go_ret
      exact ⟨by rw [HV.out]; rfl, hb1⟩
    · rw [hu] at CU
      by_cases hph : o.parent = p.handle
      · by_cases hz : p.kind = 0
        · have i1 : ((p.kind : Int) == 0) = true := by simp; omega
          have i2 : (o.parent.toList == p.handle.toList) = true := by simp [hph]
          have i3 : (o.parent.toList != p.handle.toList) = false := by simp [hph]
          by_cases hz0 : p = zeroOb
          · have HV : Hid (standE o p = 0) := Lib.hid (stand_ok h hu hph (fun _ => hz0))
            have HZ := Lib.hid (of_zero hz0)
            clear h hu hph hz hz0
            go_enter Tryd.func22, Tryd.ntmps22
            go_wp2_with (first | (go_at_call 34; ((with_reducible refine (CE.out _ hb0).mono ?_); rintro e w1 ⟨rfl, rfl⟩)) | (go_at_call 35; ((with_reducible refine (CU.out _ hb0).mono ?_); rintro e w1 ⟨rfl, k1⟩; have hb1 := bThen hb0 k1; have q := HPP.out _ k1; have c1 := q.1.c; have c2 := q.2.c; have l1 := q.1.lt; have l2 := q.2.lt)))
            all_goals first
              | (go_ret; exact ⟨by rw [HV.out]; rfl, hb1⟩)
              | (exfalso; obtain ⟨z1, z2, z3, z4, z5, z6, z7, z8, z9, z10, z11, z12, z13⟩ := HZ.out; contradiction)
          · have HV : Hid (standE o p = 50) := Lib.hid (stand_no h (.inr (.inr ⟨hz, hz0⟩)))
            have HZ := Lib.hid hz
            have HN := Lib.hid hz0
            clear h hu hph hz hz0
            go_enter Tryd.func22, Tryd.ntmps22
            go_wp2_with (first | (go_at_call 34; ((with_reducible refine (CE.out _ hb0).mono ?_); rintro e w1 ⟨rfl, rfl⟩)) | (go_at_call 35; ((with_reducible refine (CU.out _ hb0).mono ?_); rintro e w1 ⟨rfl, k1⟩; have hb1 := bThen hb0 k1; have q := HPP.out _ k1; have c1 := q.1.c; have c2 := q.2.c; have l1 := q.1.lt; have l2 := q.2.lt)))
            all_goals try (go_ret; exact ⟨by rw [HV.out]; rfl, hb1⟩)
            exfalso
            exact HN.out (zero_of HZ.out (by assumption) (by assumption) (by assumption) (by assumption) (by assumption) (by assumption) (by assumption) (by assumption) (by assumption) (by assumption) (by assumption) (by assumption) (by assumption))
        · have HV : Hid (standE o p = 0) := Lib.hid (stand_ok h hu hph (fun q => absurd q hz))
          have i1 : ((p.kind : Int) == 0) = false := by simp; omega
          have i2 : (o.parent.toList == p.handle.toList) = true := by simp [hph]
          have i3 : (o.parent.toList != p.handle.toList) = false := by simp [hph]
          clear h hu hz hph
          go_enter Tryd.func22, Tryd.ntmps22
          go_wp2_with (first | (go_at_call 34; ((with_reducible refine (CE.out _ hb0).mono ?_); rintro e w1 ⟨rfl, rfl⟩)) | (go_at_call 35; ((with_reducible refine (CU.out _ hb0).mono ?_); rintro e w1 ⟨rfl, k1⟩; have hb1 := bThen hb0 k1; have q := HPP.out _ k1; have c1 := q.1.c; have c2 := q.2.c)))
          go_ret
          exact ⟨by rw [HV.out]; rfl, hb1⟩
      · have HV : Hid (standE o p = 50) := Lib.hid (stand_no h (.inr (.inl hph)))
        have i2 : (o.parent.toList == p.handle.toList) = false := by
          exact str_ne hph
        have i3 : (o.parent.toList != p.handle.toList) = true := by simp [bne, i2]
        clear h hu hph
        go_enter Tryd.func22, Tryd.ntmps22
        go_wp2_with (first | (go_at_call 34; ((with_reducible refine (CE.out _ hb0).mono ?_); rintro e w1 ⟨rfl, rfl⟩)) | (go_at_call 35; ((with_reducible refine (CU.out _ hb0).mono ?_); rintro e w1 ⟨rfl, k1⟩; have hb1 := bThen hb0 k1; have q := HPP.out _ k1; have c1 := q.1.c; have c2 := q.2.c; have l1 := q.1.lt; have l2 := q.2.lt)))
        go_ret
        exact ⟨by rw [HV.out]; rfl, hb1⟩
end Go.Proofs.YthlalmoapbdccaaDoor
