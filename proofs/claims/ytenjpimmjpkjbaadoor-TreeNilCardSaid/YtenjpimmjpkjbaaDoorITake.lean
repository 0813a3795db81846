/-
  WALKS: the library's Delete at rows, Take of an index.
-/
import Derived.Test.YtenjpimmjpkjbaaDoorIPut
namespace Go.Proofs.YtenjpimmjpkjbaaDoor.IX
open Go.RowKit HL
set_option maxRecDepth 100000
set_option linter.unusedVariables false
set_option linter.unusedSimpArgs false

theorem zero_row (W : World) : (zeroValue 81).run Tryd.prog W = .ok (.agg #[.string ByteArray.empty, .int .i64 0]) W := by kernel_rfl
set_option maxHeartbeats 2000000 in
theorem delete_any (g cap m i : Nat) (l : List Rw) (w : World) (hl : l.length = m + 1) (ho : OwnP w 0 (.slice (some ⟨g, 0, none⟩) (m + 1) cap) l) (hi : i ≤ m) (hm : m ≤ 1000000) :
    Calls Tryd.prog 57 #[.slice (some ⟨g, 0, none⟩) (m + 1) cap, .int .i64 (i : Int), .int .i64 ((i : Int) + 1)] w fun e w' =>
      e = .returned (.slice (some ⟨g, 0, none⟩) m cap) ∧ OwnP w' 0 (.slice (some ⟨g, 0, none⟩) m cap) (l.take i ++ l.drop (i + 1)) ∧ Kept w w' (fun k => k ≠ g) := by
  obtain ⟨_, _, e5, rd5, hcap, hmax⟩ := OwnK.form (K := rowK) ho
  simp only [hl, Value.slice.injEq, true_and] at e5
  obtain ⟨rfl, rfl⟩ := e5
  rw [hl] at hcap
  unfold maxLen at hmax
  obtain ⟨A3, c3, s3, _, _, p3, _, q3⟩ := slice_fromK rowK rd5 hl (p := i + 1) (by omega) hcap
  rw [show m + 1 - (i + 1) = m - i by omega] at s3
  have s3' : ∀ W, (Instr.slice 82 (.slice (some ⟨g, 0, none⟩) (m + 1) cap) (some (.int .i64 ((i : Int) + 1))) none none).run Tryd.prog W = .ok (.slice A3 (m - i) c3) W := s3
  have s2' : ∀ W, (Instr.slice 82 (.slice (some ⟨g, 0, none⟩) (m + 1) cap) none (some (.int .i64 (i : Int))) none).run Tryd.prog W = .ok (.slice (some ⟨g, 0, none⟩) i cap) W := fun W => slice_toK rowK (by omega) hcap W
  have hp : i < m → A3 = some ⟨g, (i + 1) * rowK.size, none⟩ := fun h0 => by rw [p3 (by omega) _ rfl, addr_lit, Nat.zero_add]
  have hne : A3 ≠ none := q3 (by simp)
  have hwr : IntKind.i64.wrap ((i : Int) + 1) = (i : Int) + 1 := IntWalk.i64_in _ (by omega)
  have O := Lib.hid ho
  have HP := Lib.hid hp
  have HN := Lib.hid hne
  have HLL := Lib.hid hl
  clear ho hp hne s3 p3 q3 rd5 hl
  go_enter Tryd.func57, Tryd.ntmps57
  go_wp2
  have O' : Hid (OwnK rowK w.drew 0 (.slice (some ⟨g, 0, none⟩) (m + 1) cap) l) := Lib.hid (show OwnK rowK w 0 (.slice (some ⟨g, 0, none⟩) (m + 1) cap) l from O.out)
  go_still_tail 6, (by kernel_rfl)
  change wpList _ _ _ _ _ w.drew
  have k1 : Kept w w.drew (fun k => k ≠ g) := ⟨rfl, rfl, rfl, Nat.le_refl _, fun _ _ _ => rfl⟩
  generalize w.drew = w1 at *
  refine wpList_closeK rowK rfl (.tmp 22) (.tmp 25) rfl 0 g cap l m i HLL.out O'.out hi A3 c3 rfl rfl HP.out HN.out ?_
  intro w2 o2 g2
  obtain ⟨w3, hcl, o3, g3⟩ := run_clearK rowK w2 0 g cap m (cap - m) _ o2 (by omega) _ zero_row rfl (by intro u hu; simp [Value.cells] at hu; rcases hu with rfl | rfl <;> rfl)
  have hcl' : ∀ ty, (Builtin.clear_ #[82] ty #[.slice (some ⟨g, m * 2, none⟩) 1 (cap - m)]).run Tryd.prog w2 = .ok (.tuple #[]) w3 := hcl
  have k3 := (k1.grown g2 (fun k e _ p => by simp at e; exact p e.symm)).grown g3 (fun k e _ p => by simp at e; exact p e.symm)
  have O3 := Lib.hid o3
  have K3 := Lib.hid k3
  clear hcl o2 o3 g2 g3 k1 k3 s2' s3' hwr O'
  go_wp2
  go_ret
  refine ⟨rfl, ?_, K3.out⟩
  have e : (l.take i ++ l.drop (i + 1)).length = m := by have := HLL.out; simp; omega
  have o := O3.out
  unfold OwnK at o
  unfold OwnP
  rw [e] at o ⊢
  exact o
noncomputable def takeE (l : List Rw) (h : Bs) : Int := if hasB l h = true then 0 else 70
noncomputable def takeL (l : List Rw) (h : Bs) : List Rw := if hasB l h = true then del l h else l
set_option maxHeartbeats 2000000 in
theorem take_any (B : Nat) (v : Value) (l : List Rw) (h : Bs) (w : World) (hA : IxAt w B v l) (hn : l.length ≤ 100000) :
    Calls Tryd.prog 37 #[ptr B, str h] w fun e w' => ∃ v', e = .returned (.tuple #[.int .i64 (numOf l h), .int .i64 (takeE l h)]) ∧ IxAt w' B v' (takeL l h) ∧ (∀ k, v'.ownBlock = some k → v.ownBlock = some k ∨ w.heap.size ≤ k) ∧ Kept w w' (fun k => k ≠ B ∧ v.ownBlock ≠ some k) := by
  have C := Lib.hid (seek_any B v l h w hA (by omega))
  have CM := Lib.hid (fun W q => made_any B v W (hA.a.then q))
  have hb : Below w.heap.size w w := Below.refl _ _
  have HA := Lib.hid hA
  cases k : hasB l h with
  | false =>
    have HV := Lib.hid (show takeE l h = 70 ∧ takeL l h = l ∧ numOf l h = 0 by simp [takeE, takeL, numOf, k])
    rw [k] at C
    generalize takeE l h = a at *
    generalize takeL l h = b at *
    generalize numOf l h = c at *
    clear hA k
    go_enter Tryd.func37, Tryd.ntmps37
    go_wp2_with (first
      | (go_at_call 51; ((with_reducible refine C.out.mono ?_); rintro e w1 ⟨rfl, k1⟩; replace hb := bThen hb k1))
      | (go_at_call 55; ((with_reducible refine (CM.out _ hb).mono ?_); rintro e w2 ⟨rfl, rfl⟩)))
    go_ret2
    refine ⟨v, by rw [HV.out.1, HV.out.2.2]; rfl, by rw [HV.out.2.1]; exact HA.out.then hb, fun k h => .inl h, .of_below hb⟩
  | true =>
    obtain ⟨hp, _⟩ := has_at hA.up k
    have HV := Lib.hid (show takeE l h = 0 ∧ takeL l h = l.take (plc l h) ++ l.drop (plc l h + 1) ∧ numOf l h = l[plc l h].2 from ⟨by simp [takeE, k], by simp [takeL, k, del], numOf_t k hp⟩)
    have HU := Lib.hid (up_del hA.up h)
    unfold del at HU
    rw [k] at C
    obtain ⟨m, hm⟩ : ∃ m, l.length = m + 1 := ⟨l.length - 1, by omega⟩
    obtain ⟨g, cap, rfl, _, hgl, hcap⟩ := (OwnP.k.1 hA.r).some_ hm
    have hne : g ≠ B := fun e => hA.ne (by rw [e]; rfl)
    obtain ⟨_, _, e5, rd, _⟩ := hA.rows
    simp only [hm, Value.slice.injEq, true_and] at e5
    obtain ⟨rfl, rfl⟩ := e5
    obtain ⟨b, off, eb, hbb, hcc⟩ := rd.at_ (by omega)
    simp only [Option.some.injEq, Addr.mk.injEq, and_true] at eb
    obtain ⟨rfl, rfl⟩ := eb
    have Q := Lib.hid (hcc _ _ (List.getElem?_eq_getElem hp))
    have CD := Lib.hid (fun W (q : Below w.heap.size w W) (i : Nat) (hi : i ≤ m) => delete_any g cap m i l W hm (hA.then q).r hi (by omega))
    have hi : plc l h ≤ m := by omega
    have HM := Lib.hid hm
    have i1 : (plc l h : Int) < (m : Int) + 1 := by omega
    have hm6 : m ≤ 1000000 := by omega
    clear hA k hm rd hcc hn
    generalize l[plc l h] = r at *
    generalize takeE l h = a at *
    generalize takeL l h = b at *
    generalize numOf l h = c at *
    clear hp
    generalize plc l h = i at *
    go_enter Tryd.func37, Tryd.ntmps37
    go_wp2_with (first
      | (go_at_call 51; ((with_reducible refine C.out.mono ?_); rintro e w1 ⟨rfl, k1⟩; replace hb := bThen hb k1))
      | (go_at_call 55; ((with_reducible refine (CM.out _ hb).mono ?_); rintro e w2 ⟨rfl, rfl⟩; have c1 := ix_c1 (HA.out.then hb).a; have q1 := (hb.cell (p := ⟨g, 0 + i * 2 + 1, none⟩) hbb).trans Q.out.2; rw [Nat.zero_add] at q1))
      | (go_at_call 57; ((with_reducible refine (CD.out _ hb i hi).mono ?_); rintro e w3 ⟨rfl, o3, k3⟩; have m3 := k3.atC (HA.out.then hb).a (fun e => hne e.symm); have c3 := ix_c1 m3; have f3 := m3.f 1; have O3 := Lib.hid o3; have M3 := Lib.hid m3; have K3 := Lib.hid k3; clear o3 m3 k3)))
    go_ret2
    have hmm : (l.take i ++ l.drop (i + 1)).length = m := by have := HM.out; simp; omega
    refine ⟨.slice (some ⟨g, 0, none⟩) m cap, by rw [HV.out.1, HV.out.2.2]; rfl, ?_, fun k e => .inl e, ?_⟩
    · rw [HV.out.2.1]
      have q := M3.out.set (i := 1) (by show 1 < 2; omega) (.slice (some ⟨g, 0, none⟩) m cap)
      refine ⟨q, ?_, fun e => hne (by simpa [Value.ownBlock] using e), HU.out⟩
      exact OwnK.kept (K := rowK) O3.out ((Kept.refl w3 (fun k => k ≠ B)).set (fun _ p => p rfl) _) (fun b e => by simp [Value.ownBlock] at e; omega)
    · refine (((Kept.of_below hb).trans K3.out).weak ?_).set (fun _ p => p.1 rfl) _
      intro k p e
      exact p.2 (by rw [e]; rfl)
end Go.Proofs.YtenjpimmjpkjbaaDoor.IX
