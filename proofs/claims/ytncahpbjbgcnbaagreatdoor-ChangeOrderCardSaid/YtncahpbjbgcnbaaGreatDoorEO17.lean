/-
  WALKS: the program's put where the object is there and stays: another one stands in its place.
-/
import Derived.Test.YtncahpbjbgcnbaaGreatDoorEO16
namespace Go.Proofs.YtncahpbjbgcnbaaGreatDoor.DX
open Go.RowKit HL
open IX (ptr El cellsK cellsK_at cellsK_app cellsK_cons OwnK RdK strK Kept addr_lit)
open WX (obK obs_at hb pb rb tl_ne bs_eq findO findO_some findO_none findO_at obO ret_ob2)
open KX (kept_drew)
set_option maxRecDepth 100000
set_option linter.unusedVariables false
set_option linter.unusedSimpArgs false

set_option maxHeartbeats 8000000 in
theorem put_set (c : Ch) (l : List Ob) (v : Value) (base k m : Nat) (w : World) (h : OwnK obK w base v l) (hm : l.length = m + 1) (hn : l.length ≤ 100000) (hbase : base ≤ w.heap.size) (hf : FirstAt l (hc c) k) (o : Ob) (ho : l[k]? = some o) (hd : doneB c = true) :
    Calls Tryz.prog 31 #[v, ch c] w fun e w' => ∃ v', e = .returned v' ∧ OwnK obK w' base v' (l.set k (doneO o c)) ∧ Below base w w' := by
  obtain ⟨g, cap, rfl, hgb, hgl, hcap⟩ := h.some_ hm
  obtain ⟨A, cap', e5, hr, hcap5, _⟩ := h.form
  simp only [Value.slice.injEq] at e5
  obtain ⟨rfl, e6, rfl⟩ := e5
  have hk := hf.1
  have hb0 : Below w.heap.size w w := Below.refl _ _
  obtain ⟨b, off, eb, hbl, hcc⟩ := obs_at hr (by omega)
  simp only [Option.some.injEq, Addr.mk.injEq, and_true] at eb
  obtain ⟨rfl, rfl⟩ := eb
  have hcell := hcc k _ ho
  have CP : Hid (∀ W, Below w.heap.size w W → Calls Tryz.prog 50 #[.slice (some ⟨g, 0, none⟩) (m + 1) cap, .string c.o.handle] W fun e w' => e = .returned (.int .i64 (k : Int)) ∧ Below W.heap.size W w') := Lib.hid (fun W q => by
    rw [← hm]
    exact (place_any l cap c.o.handle W ((hr.below q).more q.size) (by omega)).mono fun e2 w' ⟨⟨i, he, hi⟩, k9⟩ => ⟨by
      rcases hi with ⟨j, e, hj⟩ | ⟨z, hno⟩
      · rw [he, e, firstAt_one hj hf]
      · exact absurd hf.2.2 (hno _ (List.getElem_mem hk)), k9⟩)
  have HO := Lib.hid h
  have HM := Lib.hid hm
  have hkm : k ≤ m := by omega
  have i1 : (k : Int) < (m : Int) + 1 := by omega
  have CD := Lib.hid (fun W => done_any o c W)
  rw [hd] at CD
  have OS : Hid (∀ W, Below w.heap.size w W → OwnK obK (KX.putC W g (k * 14) (obCells (doneO o c)).toList) base (.slice (some ⟨g, 0, none⟩) (m + 1) cap) (l.set k (doneO o c))) := Lib.hid (fun W q => by
    have h2 := h.below q
    rw [← hm] at h2 ⊢
    exact own_set h2 hk _)
  have OC : Hid (∀ W, Below w.heap.size w W → (∀ i, W.frozen? ⟨g, i, none⟩ = false)) := Lib.hid (fun W q => own_thaw (h.below q))
  clear h hr hf hcc hm hn e6 hcap5 ho
  generalize doneO o c = o2 at *
  go_enter Tryz.func31, Tryz.ntmps31
  go_wp2_with (first
    | (go_at_call 50; ((with_reducible refine (CP.out _ (bAl hb0 _)).mono ?_); rintro e w3 ⟨rfl, q3⟩; have mC := (AtC.new _ _ _).then q3; have k3 := bThen (bAl hb0 _) q3)))
  have hS : ∀ W', Below w3.heap.size w3 W' → ((W'.cell? ⟨g, k * 14, none⟩ = some (.string o.handle) ∧ (∀ i, i < 14 → W'.cell? ⟨g, k * 14 + i, none⟩ = (obCells o)[i]?) ∧ (∀ i, W'.cell? ⟨w.heap.size, i, none⟩ = (chCells c)[i]?)) ∧ Below w3.heap.size w3 W') := fun W' q => by
    have cl := fun (i : Nat) => (bThen k3 q).cell (p := ⟨g, k * 14 + i, none⟩) hgl
    simp only [Nat.zero_add] at hcell
    obtain ⟨c0, c1, c2, c3, c4, c5, c6, c7, c8, c9, c10, c11, c12, c13⟩ := hcell
    refine ⟨⟨(cl 0).trans c0, fun i hi => ?_, (mC.then q).c⟩, q⟩
    rw [cl i]
    rcases i with _ | _ | _ | _ | _ | _ | _ | _ | _ | _ | _ | _ | _ | _ | i
    · exact c0
    · exact c1
    · exact c2
    · exact c3
    · exact c4
    · exact c5
    · exact c6
    · exact c7
    · exact c8
    · exact c9
    · exact c10
    · exact c11
    · exact c12
    · exact c13
    · omega
  have K3 := Lib.hid k3
  have K3g := Lib.hid (Nat.lt_of_lt_of_le hgl k3.size)
  clear mC k3 hcell
  generalize w3 = wo at *
  have MT : ∀ w4, Below (wo.alloc (.cells #[.string ⟨#[]⟩, .int .u8 0, .string ⟨#[]⟩, .int .u8 0, .string ⟨#[]⟩, .int .i64 0, .int .i64 0, .int .u8 0, .bool false, .bool false, .int .i64 0, .int .i64 0, .int .i64 0, .int .u8 0] 35)).drew.heap.size (wo.alloc (.cells #[.string ⟨#[]⟩, .int .u8 0, .string ⟨#[]⟩, .int .u8 0, .string ⟨#[]⟩, .int .i64 0, .int .i64 0, .int .u8 0, .bool false, .bool false, .int .i64 0, .int .i64 0, .int .i64 0, .int .u8 0] 35)).drew w4 → AtC w4 wo.heap.size #[.string ⟨#[]⟩, .int .u8 0, .string ⟨#[]⟩, .int .u8 0, .string ⟨#[]⟩, .int .i64 0, .int .i64 0, .int .u8 0, .bool false, .bool false, .int .i64 0, .int .i64 0, .int .i64 0, .int .u8 0] := fun w4 k4 => (AtC.new wo _ _).drew1.then k4
  clear CP HO HM hb0
  go_region_held3 (fun W' => ((W'.cell? ⟨g, k * 14, none⟩ = some (.string o.handle) ∧ (∀ i, i < 14 → W'.cell? ⟨g, k * 14 + i, none⟩ = (obCells o)[i]?) ∧ (∀ i, W'.cell? ⟨w.heap.size, i, none⟩ = (chCells c)[i]?)) ∧ Below wo.heap.size wo W'))
    (first | with_reducible assumption | with_reducible exact hS _ (bFill (And.right ‹_ ∧ Below wo.heap.size wo w4›) (Nat.le_refl _) _ _ _ _ _ _ _ _ _ _ _ _ _ _) | with_reducible exact hS _ (Below.refl _ _).drew | with_reducible exact hS _ (keepD (by assumption) k4) | with_reducible exact hS _ (bAl (Below.refl _ _).drew _) | with_reducible exact hS _ (bAl (Below.refl _ _) _).drew | with_reducible exact hS _ (bAl (bThen (Below.refl _ _).drew k4) _))
    ((go_at_call 14; (with_reducible refine (CD.out _).mono ?_); rintro e w4 ⟨rfl, k4⟩; first | (with_reducible have mT := MT _ k4; have tf := mT.f; have tl := mT.lt; have tc := mT.c) | skip))
  · rename_i hH
    have mN : AtC _ _ (obCells o2) := AtC.new w4 (obCells o2) 35
    have K5 := Lib.hid (bThen K3.out hH.2)
    have r0 := hH.1.1
    have rI := hH.1.2.1
    have mNc := mN.c
    clear hH mN
    generalize w4.alloc _ = W7 at *
    have fz := OC.out _ K5.out
    have HP := Lib.hid (OS.out _ K5.out)
    have HB := Lib.hid (own_kept (g := g) (l := l) (k := k) (x := o2) hgb (K5.out.mono hbase))
    obtain ⟨w8, hw8⟩ : ∃ w8, KX.putC W7 g (k * 14) (obCells o2).toList = w8 := ⟨_, rfl⟩
    rw [hw8] at HP HB
    simp only [KX.putC, Nat.add_assoc, Nat.reduceAdd] at hw8
    have HW8 := Lib.hid hw8
    clear hw8
    go_wp2
    go_ret
    rw [HW8.out]
    exact ⟨_, rfl, HP.out, HB.out⟩
  · rename_i hH
    have mN : AtC _ _ (obCells o2) := mT.fill rfl _ _ _ _ _ _ _ _ _ _ _ _ _ _
    have K5 := Lib.hid (bThen K3.out hH.2)
    have r0 := hH.1.1
    have rI := hH.1.2.1
    have mNc := mN.c
    clear hH mN mT tf tl tc
    generalize World.setCell _ _ _ = W7 at *
    have fz := OC.out _ K5.out
    have HP := Lib.hid (OS.out _ K5.out)
    have HB := Lib.hid (own_kept (g := g) (l := l) (k := k) (x := o2) hgb (K5.out.mono hbase))
    obtain ⟨w8, hw8⟩ : ∃ w8, KX.putC W7 g (k * 14) (obCells o2).toList = w8 := ⟨_, rfl⟩
    rw [hw8] at HP HB
    simp only [KX.putC, Nat.add_assoc, Nat.reduceAdd] at hw8
    have HW8 := Lib.hid hw8
    clear hw8
    go_wp2
    go_ret
    rw [HW8.out]
    exact ⟨_, rfl, HP.out, HB.out⟩
end Go.Proofs.YtncahpbjbgcnbaaGreatDoor.DX
/-
  WALKS: the program's put, whole.
-/
namespace Go.Proofs.YtncahpbjbgcnbaaGreatDoor.DX
open Go.RowKit HL
open IX (ptr El cellsK cellsK_at cellsK_app cellsK_cons OwnK RdK strK Kept addr_lit)
open WX (obK obs_at hb pb rb tl_ne bs_eq findO findO_some findO_none findO_at obO ret_ob2)
set_option maxRecDepth 100000
set_option linter.unusedVariables false
set_option linter.unusedSimpArgs false

theorem firstAt_or (l : List Ob) (x : Bs) : (∃ k, FirstAt l x k) ∨ ∀ a ∈ l, hb a ≠ x := by
  induction l with
  | nil => exact .inr (by simp)
  | cons o l ih =>
    by_cases h : hb o = x
    · exact .inl ⟨0, by simp, by simp, by simpa using h⟩
    · rcases ih with ⟨k, h1, h2, h3⟩ | h2
      · refine .inl ⟨k + 1, by simpa using h1, fun a ha => ?_, by simpa using h3⟩
        rw [List.take_succ_cons] at ha
        rcases List.mem_cons.1 ha with rfl | ha
        · exact h
        · exact h2 a ha
      · refine .inr (fun a ha => ?_)
        rcases List.mem_cons.1 ha with rfl | ha
        · exact h
        · exact h2 a ha
/-- What one change makes of a list: the program's. -/
noncomputable def putP (l : List Ob) (c : Ch) : List Ob := @dite _ (∃ k, FirstAt l (hc c) k) (Classical.propDecidable _) (fun h => putAt l c h.choose h.choose_spec.1) (fun _ => l ++ [c.o])
theorem putP_new {l : List Ob} {c : Ch} (h : ∀ a ∈ l, hb a ≠ hc c) : putP l c = l ++ [c.o] := by
  unfold putP
  rw [dif_neg]
  rintro ⟨k, h1, _, h3⟩
  exact h _ (List.getElem_mem h1) h3
theorem putP_at {l : List Ob} {c : Ch} {k : Nat} (h : FirstAt l (hc c) k) : putP l c = putAt l c k h.1 := by
  unfold putP
  have hk : ∃ k, FirstAt l (hc c) k := ⟨k, h⟩
  rw [dif_pos hk]
  have e : hk.choose = k := firstAt_one hk.choose_spec h
  unfold putAt
  simp only [e]
theorem putP_len (l : List Ob) (c : Ch) : (putP l c).length ≤ l.length + 1 := by
  rcases firstAt_or l (hc c) with ⟨k, h⟩ | h
  · rw [putP_at h]
    unfold putAt
    split
    · simp
    · simp; omega
  · rw [putP_new h]; simp
theorem put_any (c : Ch) (l : List Ob) (v : Value) (base : Nat) (w : World) (h : OwnK obK w base v l) (hn : l.length ≤ 100000) (hbase : base ≤ w.heap.size) :
    Calls Tryz.prog 31 #[v, ch c] w fun e w' => ∃ v', e = .returned v' ∧ OwnK obK w' base v' (putP l c) ∧ Below base w w' := by
  rcases firstAt_or l (hc c) with ⟨k, hk⟩ | hk
  · obtain ⟨m, hm⟩ : ∃ m, l.length = m + 1 := ⟨l.length - 1, by have := hk.1; omega⟩
    rw [putP_at hk]
    unfold putAt
    by_cases hd : doneB c = true
    · rw [if_pos hd]
      exact put_set c l v base k m w h hm hn hbase hk _ (List.getElem?_eq_getElem hk.1) hd
    · rw [if_neg hd]
      exact put_gone c l v base k m w h hm hn hbase hk (by simpa using hd)
  · rw [putP_new hk]
    exact put_new c l v base w h hn hbase hk
end Go.Proofs.YtncahpbjbgcnbaaGreatDoor.DX
