/-
  WALKS: whether changes can be done to a list of objects: the program's Fits and the document's.
-/
import Derived.Test.YtncahpbjbgcnbaaGreatDoorEO9
import Derived.Test.YtncahpbjbgcnbaaGreatDoorEO8
import Derived.Test.YtncahpbjbgcnbaaGreatDoorEO0
import Derived.Laws.Cover3
import Derived.Test.YtncahpbjbgcnbaaGreatDoorEO7
import Derived.Test.YtncahpbjbgcnbaaGreatDoorEO2
namespace Go.Proofs.YtncahpbjbgcnbaaGreatDoor.DX
open Go.RowKit HL
open IX (ptr El cellsK cellsK_at OwnK RdK strK)
open WX (obK obs_at hb pb rb tl_ne bs_eq findO findO_some findO_none findO_at obO ret_ob2)
set_option maxRecDepth 100000
set_option linter.unusedVariables false
set_option linter.unusedSimpArgs false

/-- The error of a change that cannot be done to a list. -/
def fitI (l : List Ob) (c : Ch) : Int := fitB (obO (findO l (hc c))) (findO l (hc c)).isSome c
/-- The first error. -/
def fitsF (l : List Ob) (s : List Ch) : Int := ((s.map (fitI l)).find? (· != 0)).getD 0
noncomputable def fitsE (l : List Ob) (s : List Ch) : Int := if mayC s = true then fitsF l s else 100
theorem fitsE_f {l : List Ob} {s : List Ch} (h : mayC s = false) : fitsE l s = 100 := by unfold fitsE; rw [h]; rfl
theorem fitsE_t {l : List Ob} {s : List Ch} (h : mayC s = true) : fitsE l s = fitsF l s := if_pos h
theorem fitsE_0 {l : List Ob} {s : List Ch} (h : fitsE l s = 0) : mayC s = true ∧ fitsF l s = 0 := by
  cases e : mayC s with
  | false => rw [fitsE_f e] at h; cases h
  | true => exact ⟨rfl, by rwa [fitsE_t e] at h⟩
theorem fitsF_at {l : List Ob} {s : List Ch} {k : Nat} (hk : k < s.length) (hn : ∀ c ∈ s.take k, fitI l c = 0) (h : fitI l s[k] ≠ 0) : fitsF l s = fitI l s[k] := by
  have e : s = s.take k ++ s[k] :: s.drop (k + 1) := by rw [List.getElem_cons_drop, List.take_append_drop]
  unfold fitsF
  conv => lhs; rw [e]
  rw [List.map_append, List.find?_append, List.find?_eq_none.2 (by intro x hx; obtain ⟨c, hc, rfl⟩ := List.mem_map.1 hx; simp [hn c hc]), List.map_cons, List.find?_cons_of_pos (by simpa using h)]
  rfl
theorem fitsF_none {l : List Ob} {s : List Ch} (hn : ∀ c ∈ s, fitI l c = 0) : fitsF l s = 0 := by
  unfold fitsF
  rw [List.find?_eq_none.2 (by simpa using hn)]
  rfl
theorem fitsF_zero {l : List Ob} {s : List Ch} (h : fitsF l s = 0) : ∀ c ∈ s, fitI l c = 0 := by
  intro c hc
  unfold fitsF at h
  cases e : (s.map (fitI l)).find? (· != 0) with
  | none =>
    have := List.find?_eq_none.1 e (fitI l c) (List.mem_map.2 ⟨c, hc, rfl⟩)
    simpa using this
  | some x =>
    rw [e] at h
    have := List.find?_some e
    simp at this h
    exact absurd h this
theorem kind_of_one {c : Ch} (h : oneB c = true) : c.kind = 1 ∨ c.kind = 2 ∨ c.kind = 3 ∨ c.kind = 4 := by
  unfold oneB at h
  by_cases h1 : c.kind = 1
  · exact .inl h1
  · by_cases h2 : c.kind = 2
    · exact .inr (.inl h2)
    · by_cases h3 : c.kind = 3
      · exact .inr (.inr (.inl h3))
      · by_cases h4 : c.kind = 4
        · exact .inr (.inr (.inr h4))
        · rw [soundB_n h1 h2 h3 h4, Bool.and_false] at h; cases h
theorem mayC_kind {s : List Ch} (h : mayC s = true) : ∀ c ∈ s, c.kind = 1 ∨ c.kind = 2 ∨ c.kind = 3 ∨ c.kind = 4 := fun c hc => kind_of_one ((mayC_iff.1 h).2.1 c hc)
set_option maxHeartbeats 8000000 in
theorem fits_any {A1 A2 : Option Addr} (l : List Ob) (c1 : Nat) (s : List Ch) (c2 : Nat) (w : World) (hr : RdK obK w w.heap.size A1 l) (hl : l.length ≤ 1000000) (h : RdK chK w w.heap.size A2 s) (hn : s.length ≤ 1000) (hM : ∀ c ∈ s, MeetsC c w) :
    Calls Tryz.prog 11 #[.slice A1 l.length c1, .slice A2 s.length c2] w fun e w' => e = .returned (.int .i64 (fitsE l s)) ∧ Below w.heap.size w w' := by
  have CM := may10_any A2 c2 s w h hn hM
  cases e : mayC s with
  | false =>
    have HV := Lib.hid (fitsE_f (l := l) e)
    rw [mayE_f e] at CM
    have CM := Lib.hid CM
    clear e hr h hM
    go_enter Tryz.func11, Tryz.ntmps11
    go_wp2_with (go_at_call 20; ((with_reducible refine CM.out.mono ?_); rintro e w1 ⟨rfl, k1⟩))
    go_ret
    exact ⟨by rw [HV.out]; rfl, k1⟩
  | true =>
    rw [mayE_t e] at CM
    have CM := Lib.hid CM
    have HK := Lib.hid (mayC_kind e)
    have HE := Lib.hid (fitsE_t (l := l) e)
    have CF := Lib.hid (fun W (k : Below w.heap.size w W) (c : Ch) (hk : c.kind = 1 ∨ c.kind = 2 ∨ c.kind = 3 ∨ c.kind = 4) => fit_any (obO (findO l (hc c))) (findO l (hc c)).isSome c l.length c1 W hk (fun W2 k2 => findP_any (A := A1) l c1 c.o.handle W2 ((hr.below (bThen k k2)).more (bThen k k2).size) hl))
    have H := Lib.hid h
    clear e hr h hM
    go_enter Tryz.func11, Tryz.ntmps11
    go_wp2_with (go_at_call 20; ((with_reducible refine CM.out.mono ?_); rintro e w1 ⟨rfl, k1⟩; have K1 := Lib.hid k1; clear k1))
    go_loopw [16] (fun i wr => ∃ k : Nat, i = .int .i64 k ∧ k ≤ s.length ∧ Hid (∀ c ∈ s.take k, fitI l c = 0) ∧ Below w.heap.size w wr) (fun i _ => s.length - (intOf i).toNat)
    case atStart => exact ⟨0, rfl, Nat.zero_le _, Lib.hid (by simp), K1.out⟩
    case round =>
      obtain ⟨k, rfl, hk, HN, k2⟩ := hrel
      have K2 := Lib.hid k2
      by_cases hlt : k < s.length
      · obtain ⟨b, off, rfl, hbk, hcc⟩ := chs_at (H.out.below k2) (by omega)
        obtain ⟨p0, p1, p2, p3, p4, p5, p6, p7, p8, p9, p10, p11, p12, p13, p14⟩ := hcc k _ (List.getElem?_eq_getElem hlt)
        have i1 : (k : Int) < s.length := by omega
        have CX := fun W q => show Calls Tryz.prog 35 #[.slice A1 l.length c1, ch s[k]] W fun e w' => e = .returned (.int .i64 (fitI l s[k])) ∧ Below W.heap.size W w' from CF.out W q s[k] (HK.out _ (List.getElem_mem hlt))
        have HF : Hid (fitI l s[k] ≠ 0 → fitsE l s = fitI l s[k]) := Lib.hid (fun q => HE.out.trans (fitsF_at hlt HN.out q))
        have HT : Hid (fitI l s[k] = 0 → ∀ a ∈ s.take (k + 1), fitI l a = 0) := Lib.hid (fun q a ha => by
          rw [List.take_succ_eq_append_getElem hlt] at ha
          rcases List.mem_append.1 ha with h | h
          · exact HN.out a h
          · obtain rfl : a = s[k] := by simpa using h
            exact q)
        clear hcc
        generalize fitI l s[k] = v at *
        generalize s[k] = x at *
        by_cases hv : v = 0
        · subst hv
          have HV := Lib.hid (HT.out rfl)
          have CX := Lib.hid CX
          clear HF HT
          go_wp2_with (go_at_call 35; ((with_reducible refine (CX.out _ (bAl K2.out _)).mono ?_); rintro e w3 ⟨rfl, k3⟩))
          go_roundw
          case rel => exact ⟨k + 1, by go_num, by omega, HV, bThen (bAl K2.out _) k3⟩
          case measure => simp [intOf]; omega
        · have HV := Lib.hid (HF.out hv)
          have hv1 : (v != 0) = true := by simpa using hv
          have CX := Lib.hid CX
          clear HF HT
          go_wp2_with (go_at_call 35; ((with_reducible refine (CX.out _ (bAl K2.out _)).mono ?_); rintro e w3 ⟨rfl, k3⟩))
          go_ret
          exact ⟨by rw [HV.out]; rfl, bThen (bAl K2.out _) k3⟩
      · obtain rfl : k = s.length := by omega
        have i1 : ¬ (s.length : Int) < s.length := by omega
        have HV : Hid (fitsE l s = 0) := Lib.hid (HE.out.trans (fitsF_none (by have := HN.out; rwa [List.take_length] at this)))
        go_wp2
        go_ret
        exact ⟨by rw [HV.out]; rfl, k2⟩
set_option maxHeartbeats 8000000 in
theorem refFits_any {A1 A2 : Option Addr} (l : List Ob) (c1 : Nat) (s : List Ch) (c2 : Nat) (w : World) (hr : RdK obK w w.heap.size A1 l) (hl : l.length ≤ 1000000) (h : RdK chK w w.heap.size A2 s) (hn : s.length ≤ 1000) (hM : ∀ c ∈ s, MeetsC c w) :
    Calls Tryz.prog 28 #[.slice A1 l.length c1, .slice A2 s.length c2] w fun e w' => e = .returned (.int .i64 (fitsE l s)) ∧ Below w.heap.size w w' := by
  have CM := refMay10_any A2 c2 s w h hn hM
  cases e : mayC s with
  | false =>
    have HV := Lib.hid (fitsE_f (l := l) e)
    rw [mayE_f e] at CM
    have CM := Lib.hid CM
    clear e hr h hM
    go_enter Tryz.func28, Tryz.ntmps28
    go_wp2_with (go_at_call 48; ((with_reducible refine CM.out.mono ?_); rintro e w1 ⟨rfl, k1⟩))
    go_ret
    exact ⟨by rw [HV.out]; rfl, k1⟩
  | true =>
    rw [mayE_t e] at CM
    have CM := Lib.hid CM
    have HK := Lib.hid (mayC_kind e)
    have HE := Lib.hid (fitsE_t (l := l) e)
    have CF := Lib.hid (fun W (k : Below w.heap.size w W) (c : Ch) (hk : c.kind = 1 ∨ c.kind = 2 ∨ c.kind = 3 ∨ c.kind = 4) => refFit_any (obO (findO l (hc c))) (findO l (hc c)).isSome c l.length c1 W hk (fun W2 k2 => refFind_any (A := A1) l c1 c.o.handle W2 ((hr.below (bThen k k2)).more (bThen k k2).size) hl))
    have H := Lib.hid h
    clear e hr h hM
    go_enter Tryz.func28, Tryz.ntmps28
    go_wp2_with (go_at_call 48; ((with_reducible refine CM.out.mono ?_); rintro e w1 ⟨rfl, k1⟩; have K1 := Lib.hid k1; clear k1))
    go_loopw [6] (fun i wr => ∃ k : Nat, i = .int .i64 k ∧ k ≤ s.length ∧ Hid (∀ c ∈ s.take k, fitI l c = 0) ∧ Below w.heap.size w wr) (fun i _ => s.length - (intOf i).toNat)
    case atStart => exact ⟨0, rfl, Nat.zero_le _, Lib.hid (by simp), K1.out⟩
    case round =>
      obtain ⟨k, rfl, hk, HN, k2⟩ := hrel
      have K2 := Lib.hid k2
      by_cases hlt : k < s.length
      · obtain ⟨b, off, rfl, hbk, hcc⟩ := chs_at (H.out.below k2) (by omega)
        obtain ⟨p0, p1, p2, p3, p4, p5, p6, p7, p8, p9, p10, p11, p12, p13, p14⟩ := hcc k _ (List.getElem?_eq_getElem hlt)
        have i1 : (k : Int) < s.length := by omega
        have CX := fun W q => show Calls Tryz.prog 49 #[.slice A1 l.length c1, ch s[k]] W fun e w' => e = .returned (.int .i64 (fitI l s[k])) ∧ Below W.heap.size W w' from CF.out W q s[k] (HK.out _ (List.getElem_mem hlt))
        have HF : Hid (fitI l s[k] ≠ 0 → fitsE l s = fitI l s[k]) := Lib.hid (fun q => HE.out.trans (fitsF_at hlt HN.out q))
        have HT : Hid (fitI l s[k] = 0 → ∀ a ∈ s.take (k + 1), fitI l a = 0) := Lib.hid (fun q a ha => by
          rw [List.take_succ_eq_append_getElem hlt] at ha
          rcases List.mem_append.1 ha with h | h
          · exact HN.out a h
          · obtain rfl : a = s[k] := by simpa using h
            exact q)
        clear hcc
        generalize fitI l s[k] = v at *
        generalize s[k] = x at *
        by_cases hv : v = 0
        · subst hv
          have HV := Lib.hid (HT.out rfl)
          have CX := Lib.hid CX
          clear HF HT
          go_wp2_with (go_at_call 49; ((with_reducible refine (CX.out _ K2.out).mono ?_); rintro e w3 ⟨rfl, k3⟩))
          go_roundw
          case rel => exact ⟨k + 1, by go_num, by omega, HV, bThen K2.out k3⟩
          case measure => simp [intOf]; omega
        · have HV := Lib.hid (HF.out hv)
          have hv1 : (v != 0) = true := by simpa using hv
          have CX := Lib.hid CX
          clear HF HT
          go_wp2_with (go_at_call 49; ((with_reducible refine (CX.out _ K2.out).mono ?_); rintro e w3 ⟨rfl, k3⟩))
          go_ret
          exact ⟨by rw [HV.out]; rfl, bThen K2.out k3⟩
      · obtain rfl : k = s.length := by omega
        have i1 : ¬ (s.length : Int) < s.length := by omega
        have HV : Hid (fitsE l s = 0) := Lib.hid (HE.out.trans (fitsF_none (by have := HN.out; rwa [List.take_length] at this)))
        go_wp2
        go_ret
        exact ⟨by rw [HV.out]; rfl, k2⟩
end Go.Proofs.YtncahpbjbgcnbaaGreatDoor.DX
/-
  WALKS: what awake wants of Apply: a clone, one object put behind, and two objects in order sorted.
-/
namespace Go.Proofs.YtncahpbjbgcnbaaGreatDoor.DX
open Go.RowKit HL
open IX (ptr El cellsK cellsK_at OwnK RdK strK)
open WX (obK obs_at hb pb rb tl_ne bs_eq findO findO_some findO_none findO_at obO ret_ob2)
open TX (Ext wp_region_ext ext_below ext_same)
set_option maxRecDepth 100000
set_option linter.unusedVariables false
set_option linter.unusedSimpArgs false

theorem eql_slice_nil {P : Program} (w : World) (t e : TypeId) (a : Option Addr) (l c : Nat) (h : P.underlying t = some (.slice e)) : (binOp .eql t (.slice a l c) (.slice none 0 0)).run P w = .ok (.bool a.isNone) w := by
  simp only [binOp]
  simp [run_equal_slice_nil w t e a l c h]
set_option maxHeartbeats 4000000 in
theorem cloneO_any (ad : Addr) (c : Nat) (l : List Ob) (w : World) (h : RdK obK w w.heap.size (some ad) l) (hn : l.length ≤ 100000) :
    Calls Tryz.prog 30 #[.slice (some ad) l.length c] w fun e w' => ∃ v, e = .returned v ∧ OwnK obK w' w.heap.size v l ∧ Below w.heap.size w w' := by
  have O0 := Lib.hid (OwnK.lit (K := obK) w w.heap.size (Nat.le_refl _))
  have hb1 := bAl (Below.refl w.heap.size w) (.cells #[] 35)
  have R0 := Lib.hid (h.below hb1)
  have hq : w.heap.size ≤ (w.alloc (.cells #[] 35)).heap.size := hb1.size
  have HB := Lib.hid hb1
  have HN : Hid (([] : List Ob).length + l.length ≤ 1000000) := Lib.hid (by simp; omega)
  have hE : ∀ W, (binOp .eql 22 (.slice (some ad) l.length c) (.slice none 0 0)).run Tryz.prog W = .ok (.bool false) W := fun W => eql_slice_nil W _ _ (some ad) _ _ Tryz.underlying22
  clear h hb1
  go_enter Tryz.func30, Tryz.ntmps30
  go_wp2_with (at_builtin; refine IX.wpList_spreadK obK rfl (.tmp 5) (.tmp 6) rfl w.heap.size _ [] rfl O0.out w.heap.size (some ad) l.length c l rfl rfl R0.out HN.out hq ?_)
  intro v' w5 o5 g5 f5
  have b5 := Lib.hid (HB.out.grown g5 hq (fun a ha => (O0.out.lt a ha).1))
  have O5 := Lib.hid o5
  clear o5 g5
  go_wp2
  go_ret
  exact ⟨_, rfl, by simpa using O5.out, b5.out⟩
set_option maxHeartbeats 4000000 in
theorem put_new (c : Ch) (l : List Ob) (v : Value) (base : Nat) (w : World) (h : OwnK obK w base v l) (hn : l.length ≤ 100000) (hbase : base ≤ w.heap.size) (hf : ∀ o ∈ l, hb o ≠ hc c) :
    Calls Tryz.prog 31 #[v, ch c] w fun e w' => ∃ v', e = .returned v' ∧ OwnK obK w' base v' (l ++ [c.o]) ∧ Below base w w' := by
  obtain ⟨A, cap, rfl, hr, hcap, _⟩ := h.form
  have hb0 : Below w.heap.size w w := Below.refl _ _
  have CP : Hid (∀ W, Below w.heap.size w W → Calls Tryz.prog 50 #[.slice A l.length cap, .string c.o.handle] W fun e w' => e = .returned (.int .i64 (-1)) ∧ Below W.heap.size W w') := Lib.hid (fun W q => (place_any l cap c.o.handle W ((hr.below q).more q.size) (by omega)).mono fun e2 w' ⟨⟨i, he, hi⟩, k⟩ => ⟨by
    rcases hi with ⟨j, _, hlt, _, hj⟩ | ⟨z, _⟩
    · exact absurd hj (hf _ (List.getElem_mem hlt))
    · rw [he, z], k⟩)
  have HO := Lib.hid h
  clear h hr hf
  go_enter Tryz.func31, Tryz.ntmps31
  go_wp2_with (first
    | (go_at_call 50; ((with_reducible refine (CP.out _ (bAl hb0 _)).mono ?_); rintro e w3 ⟨rfl, q3⟩; have mC := (AtC.new _ _ _).then q3; have mc := mC.c; have ml := mC.lt; clear mC; have k3 := Lib.hid (bThen (bAl hb0 _) q3); have OM := Lib.hid ((HO.out.below (bAl hb0 (.cells (chCells c) 39))).below q3); clear q3))
    | (at_builtin; refine IX.wpList_spreadK obK rfl (.tmp 15) (.tmp 18) rfl base _ l rfl (OM.out.below (bAl (Below.refl _ w3) (.cells (obCells c.o) 35))) (w3.heap.size + 1) (some ⟨w3.heap.size, 0, none⟩) 1 1 [c.o] rfl rfl (RdK.lit (K := obK) w3 c.o (obCells c.o) rfl 35) ?c1 ?c2 ?_))
  case c1 => simp; omega
  case c2 => exact Nat.le_trans hbase (bAl k3.out (.cells (obCells c.o) 35)).size
  intro v' w5 o5 g5 f5
  have b5 := Lib.hid (((bAl k3.out (.cells (obCells c.o) 35)).mono hbase).grown g5 (Nat.le_trans hbase (bAl k3.out (.cells (obCells c.o) 35)).size) (fun a ha => (HO.out.lt a ha).1))
  have O5 := Lib.hid o5
  clear o5 g5
  go_wp2
  go_ret
  exact ⟨_, rfl, O5.out, b5.out⟩
set_option maxHeartbeats 4000000 in
theorem cmp1_any (a b : Ob) (w : World) : Calls Tryz.prog 33 #[ob a, ob b] w fun e w' => e = .returned (.int .i64 (Lib.compareBytes (hb a) (hb b))) ∧ Below w.heap.size w w' := by
  have h0 : Below w.heap.size w w := Below.refl _ _
  have C := fun W => Lib.hid (compare_any a.handle b.handle W)
  go_enter Tryz.func33, Tryz.ntmps33
  go_wp2_with (go_at_call 34; ((with_reducible refine (C _).out.mono ?_); rintro e w1 ⟨rfl, rfl⟩))
  go_ret
  exact ⟨rfl, bAl (bAl h0 _) _⟩
set_option maxHeartbeats 8000000 in
theorem insert_two {A : Option Addr} (a b : Ob) (c : Nat) (w : World) (h : RdK obK w w.heap.size A [a, b]) (hc : ¬ Lib.compareBytes (hb b) (hb a) < 0) :
    Calls Tryz.prog 68 #[.slice A 2 c, .int .i64 0, .int .i64 2, .func (.func 33) #[] #[]] w fun e w' => e = .returned (.tuple #[]) ∧ Below w.heap.size w w' := by
  have H := Lib.hid h
  have CC := Lib.hid (fun W => cmp1_any b a W)
  clear h
  generalize Lib.compareBytes (hb b) (hb a) = r at *
  go_enter Tryz.func68, Tryz.ntmps68
  go_wp2
  go_loopw [8] (fun i wr => ∃ k : Nat, i = .int .i64 k ∧ (k = 1 ∨ k = 2) ∧ Below w.heap.size w wr) (fun i _ => 2 - (intOf i).toNat)
  case atStart => exact ⟨1, rfl, .inl rfl, Below.refl _ _⟩
  case round =>
    obtain ⟨k, rfl, hk, k1⟩ := hrel
    have K1 := Lib.hid k1
    rcases hk with rfl | rfl
    · go_wp2
      go_loopw [9] (fun i wq => i = .int .i64 1 ∧ Below w.heap.size w wq) (fun i _ => 0)
      case atStart => exact ⟨rfl, K1.out⟩
      case round =>
        obtain ⟨rfl, kq⟩ := hrel
        have KQ := Lib.hid kq
        obtain ⟨B, off, rfl, hB, hcc⟩ := obs_at (H.out.below kq) (by simp)
        have ha := hcc 0 a rfl
        have hb2 := hcc 1 b rfl
        simp only [Nat.zero_mul, Nat.one_mul, Nat.add_zero] at ha hb2
        have hBq : B < wr.heap.size := Nat.lt_of_lt_of_le hB kq.size
        have pa := fun (y : Ext wr) (i : Nat) => y.b.cell (p := ⟨B, off + i, none⟩) hBq
        have pb := fun (y : Ext wr) (i : Nat) => y.b.cell (p := ⟨B, off + 14 + i, none⟩) hBq
        have p0 := fun y : Ext wr => (y.b.cell (p := ⟨B, off, none⟩) hBq).trans ha.1
        have q0 := fun y : Ext wr => (y.b.cell (p := ⟨B, off + 14, none⟩) hBq).trans hb2.1
        have p1 := fun y : Ext wr => (pa y 1).trans ha.2.1
        have q1 := fun y : Ext wr => (pb y 1).trans hb2.2.1
        have p2 := fun y : Ext wr => (pa y 2).trans ha.2.2.1
        have q2 := fun y : Ext wr => (pb y 2).trans hb2.2.2.1
        have p3 := fun y : Ext wr => (pa y 3).trans ha.2.2.2.1
        have q3 := fun y : Ext wr => (pb y 3).trans hb2.2.2.2.1
        have p4 := fun y : Ext wr => (pa y 4).trans ha.2.2.2.2.1
        have q4 := fun y : Ext wr => (pb y 4).trans hb2.2.2.2.2.1
        have p5 := fun y : Ext wr => (pa y 5).trans ha.2.2.2.2.2.1
        have q5 := fun y : Ext wr => (pb y 5).trans hb2.2.2.2.2.2.1
        have p6 := fun y : Ext wr => (pa y 6).trans ha.2.2.2.2.2.2.1
        have q6 := fun y : Ext wr => (pb y 6).trans hb2.2.2.2.2.2.2.1
        have p7 := fun y : Ext wr => (pa y 7).trans ha.2.2.2.2.2.2.2.1
        have q7 := fun y : Ext wr => (pb y 7).trans hb2.2.2.2.2.2.2.2.1
        have p8 := fun y : Ext wr => (pa y 8).trans ha.2.2.2.2.2.2.2.2.1
        have q8 := fun y : Ext wr => (pb y 8).trans hb2.2.2.2.2.2.2.2.2.1
        have p9 := fun y : Ext wr => (pa y 9).trans ha.2.2.2.2.2.2.2.2.2.1
        have q9 := fun y : Ext wr => (pb y 9).trans hb2.2.2.2.2.2.2.2.2.2.1
        have p10 := fun y : Ext wr => (pa y 10).trans ha.2.2.2.2.2.2.2.2.2.2.1
        have q10 := fun y : Ext wr => (pb y 10).trans hb2.2.2.2.2.2.2.2.2.2.2.1
        have p11 := fun y : Ext wr => (pa y 11).trans ha.2.2.2.2.2.2.2.2.2.2.2.1
        have q11 := fun y : Ext wr => (pb y 11).trans hb2.2.2.2.2.2.2.2.2.2.2.2.1
        have p12 := fun y : Ext wr => (pa y 12).trans ha.2.2.2.2.2.2.2.2.2.2.2.2.1
        have q12 := fun y : Ext wr => (pb y 12).trans hb2.2.2.2.2.2.2.2.2.2.2.2.2.1
        have p13 := fun y : Ext wr => (pa y 13).trans ha.2.2.2.2.2.2.2.2.2.2.2.2.2
        have q13 := fun y : Ext wr => (pb y 13).trans hb2.2.2.2.2.2.2.2.2.2.2.2.2.2
        have hr0 : decide (r < 0) = false := by simpa using hc
        clear ha hb2 hcc pa pb
        go_wp2_with fail
        refine wp_region_ext (by kernel_rfl) (by kernel_rfl) ?_
        repeat (go_big_quiet_step ((go_at_call 33; exact ext_below (CC.out _))))
        refine wpQuiet_nil ?_
        rintro _ ⟨y, rfl⟩
        have ky := Lib.hid (bThen KQ.out y.b)
        go_wp2
        go_roundw
        case rel => exact ⟨2, by go_num, .inr rfl, ky.out⟩
        case measure => simp [intOf]
    · go_wp2
      go_end0
      exact ⟨rfl, k1⟩
end Go.Proofs.YtncahpbjbgcnbaaGreatDoor.DX
/-
  WALK: the laws' Long of a list of objects.
-/
namespace Go.Proofs.YtncahpbjbgcnbaaGreatDoor.DX
open Go.RowKit HL
open IX (ptr El cellsK cellsK_at OwnK RdK strK)
open WX (obK obs_at hb pb rb tl_ne bs_eq)
set_option maxRecDepth 100000
set_option linter.unusedVariables false
set_option linter.unusedSimpArgs false

def longO (l : List Ob) : Bool := decide (100 < l.length) || l.any fun c => longB c
theorem longO_out {l : List Ob} (h : longO l = false) : l.length ≤ 100 ∧ ∀ c ∈ l, longB c = false := by
  simp [longO] at h
  exact ⟨by omega, h.2⟩
set_option maxHeartbeats 4000000 in
theorem longO_any (A : Option Addr) (c : Nat) (l : List Ob) (w : World) (h : RdK obK w w.heap.size A l) (hn : l.length ≤ maxLen) : Calls Tryz.prog 7 #[.slice A l.length c] w fun e w' => e = .returned (.bool (longO l)) ∧ Below w.heap.size w w' := by
  unfold maxLen at hn
  have H := Lib.hid h
  clear h
  by_cases h30 : 100 < l.length
  · have HV : Hid (longO l = true) := Lib.hid (by simp [longO]; omega)
    have i0 : (100 : Int) < l.length := by omega
    go_enter Tryz.func7, Tryz.ntmps7
    go_wp2
    go_ret
    exact ⟨by rw [HV.out]; rfl, Below.refl _ _⟩
  · have i0 : ¬ (100 : Int) < l.length := by omega
    have HN30 := Lib.hid h30
    clear h30
    go_enter Tryz.func7, Tryz.ntmps7
    go_wp2
    go_loopw [3] (fun i wr => ∃ k : Nat, i = .int .i64 k ∧ k ≤ l.length ∧ Hid (∀ a ∈ l.take k, longB a = false) ∧ Below w.heap.size w wr) (fun i _ => l.length - (intOf i).toNat)
    case atStart => exact ⟨0, rfl, Nat.zero_le _, Lib.hid (by simp), Below.refl _ _⟩
    case round =>
      obtain ⟨k, rfl, hk, HN, k1⟩ := hrel
      by_cases hlt : k < l.length
      · obtain ⟨b, off, rfl, hbk, hc⟩ := obs_at (H.out.below k1) (by omega)
        obtain ⟨p0, p1, p2, p3, p4, p5, p6, p7, p8, p9, p10, p11, p12, p13⟩ := hc k _ (List.getElem?_eq_getElem hlt)
        have i1 : (k : Int) < l.length := by omega
        have HA : Hid (longB l[k] = true → longO l = true) := Lib.hid (fun q => by
          unfold longO
          rw [show (l.any fun c => longB c) = true from List.any_eq_true.2 ⟨_, List.getElem_mem hlt, q⟩, Bool.or_true])
        have HT : Hid (longB l[k] = false → ∀ a ∈ l.take (k + 1), longB a = false) := Lib.hid (fun q a ha => by
          rw [List.take_succ_eq_append_getElem hlt] at ha
          rcases List.mem_append.1 ha with h | h
          · exact HN.out a h
          · obtain rfl : a = l[k] := by simpa using h
            exact q)
        have K1 := Lib.hid k1
        clear hc k1
        generalize l[k] = x at *
        have CL := fun W => Lib.hid (long_any x W)
        cases hx : longB x with
        | true =>
          rw [hx] at CL
          have HV := Lib.hid (HA.out hx)
          clear hx HA HT
          go_wp2_with (go_at_call 27; ((with_reducible refine (CL _).out.mono ?_); rintro e w3 ⟨rfl, k3⟩))
          go_ret
          exact ⟨by rw [HV.out]; rfl, bThen K1.out k3⟩
        | false =>
          rw [hx] at CL
          have HV := Lib.hid (HT.out hx)
          clear hx HA HT
          go_wp2_with (go_at_call 27; ((with_reducible refine (CL _).out.mono ?_); rintro e w3 ⟨rfl, k3⟩))
          go_roundw
          case rel => exact ⟨k + 1, by go_num, by omega, HV, bThen K1.out k3⟩
          case measure => simp [intOf]; omega
      · obtain rfl : k = l.length := by omega
        have i1 : ¬ (l.length : Int) < l.length := by omega
        have HV : Hid (longO l = false) := Lib.hid (by
          have h1 := HN.out
          rw [List.take_length] at h1
          unfold longO
          rw [decide_eq_false HN30.out, Bool.false_or, List.any_eq_false]
          intro a ha
          simp [h1 a ha])
        go_wp2
        go_ret
        exact ⟨by rw [HV.out]; rfl, k1⟩
end Go.Proofs.YtncahpbjbgcnbaaGreatDoor.DX
/-
  WALK: what undoes changes: the program's Undo.
-/
namespace Go.Proofs.YtncahpbjbgcnbaaGreatDoor.DX
open Go.RowKit HL
open IX (ptr El cellsK cellsK_at cellsK_inv cellsK_len cellsK_app OwnK RdK strK)
open WX (obK obs_at hb pb rb tl_ne bs_eq findO findO_some findO_none findO_at obO ret_ob2)
set_option maxRecDepth 100000
set_option linter.unusedVariables false
set_option linter.unusedSimpArgs false

theorem fill15At {W : World} {g off : Nat} {C : Array Value} (h : AtC W g C) (hl : off + 15 ≤ C.size) (v0 v1 v2 v3 v4 v5 v6 v7 v8 v9 v10 v11 v12 v13 v14 : Value) :
    ∃ C' : Array Value, C'.size = C.size ∧ AtC (((((((((((((((W.setCell ⟨g, off, none⟩ v0).setCell ⟨g, off + 1, none⟩ v1).setCell ⟨g, off + 2, none⟩ v2).setCell ⟨g, off + 3, none⟩ v3).setCell ⟨g, off + 4, none⟩ v4).setCell ⟨g, off + 5, none⟩ v5).setCell ⟨g, off + 6, none⟩ v6).setCell ⟨g, off + 7, none⟩ v7).setCell ⟨g, off + 8, none⟩ v8).setCell ⟨g, off + 9, none⟩ v9).setCell ⟨g, off + 10, none⟩ v10).setCell ⟨g, off + 11, none⟩ v11).setCell ⟨g, off + 12, none⟩ v12).setCell ⟨g, off + 13, none⟩ v13).setCell ⟨g, off + 14, none⟩ v14) g C' ∧ (∀ i, i < off → C'[i]? = C[i]?) ∧ (∀ i, i < 15 → C'[off + i]? = [v0, v1, v2, v3, v4, v5, v6, v7, v8, v9, v10, v11, v12, v13, v14][i]?) ∧ (∀ i, off + 15 ≤ i → C'[i]? = C[i]?) := by
  obtain ⟨C', h1, h2, h3, h4, h5⟩ := putC_at [v0, v1, v2, v3, v4, v5, v6, v7, v8, v9, v10, v11, v12, v13, v14] off h hl
  simp only [putC, Nat.add_assoc, Nat.reduceAdd] at h2
  exact ⟨C', h1, h2, h3, h4, h5⟩
theorem bFill15At {w W : World} {g off : Nat} (h : Below w.heap.size w W) (hg : w.heap.size ≤ g) (v0 v1 v2 v3 v4 v5 v6 v7 v8 v9 v10 v11 v12 v13 v14 : Value) : Below w.heap.size w (((((((((((((((W.setCell ⟨g, off, none⟩ v0).setCell ⟨g, off + 1, none⟩ v1).setCell ⟨g, off + 2, none⟩ v2).setCell ⟨g, off + 3, none⟩ v3).setCell ⟨g, off + 4, none⟩ v4).setCell ⟨g, off + 5, none⟩ v5).setCell ⟨g, off + 6, none⟩ v6).setCell ⟨g, off + 7, none⟩ v7).setCell ⟨g, off + 8, none⟩ v8).setCell ⟨g, off + 9, none⟩ v9).setCell ⟨g, off + 10, none⟩ v10).setCell ⟨g, off + 11, none⟩ v11).setCell ⟨g, off + 12, none⟩ v12).setCell ⟨g, off + 13, none⟩ v13).setCell ⟨g, off + 14, none⟩ v14) := by
  have := putC_below hg [v0, v1, v2, v3, v4, v5, v6, v7, v8, v9, v10, v11, v12, v13, v14] off h
  simpa only [putC, Nat.add_assoc, Nat.reduceAdd] using this
theorem cells15 {W : World} {g off : Nat} {C : Array Value} (h : AtC W g C) (hl : off + 15 ≤ C.size) : ∃ u0 u1 u2 u3 u4 u5 u6 u7 u8 u9 u10 u11 u12 u13 u14 : Value, W.cell? ⟨g, off, none⟩ = some u0 ∧ W.cell? ⟨g, off + 1, none⟩ = some u1 ∧ W.cell? ⟨g, off + 2, none⟩ = some u2 ∧ W.cell? ⟨g, off + 3, none⟩ = some u3 ∧ W.cell? ⟨g, off + 4, none⟩ = some u4 ∧ W.cell? ⟨g, off + 5, none⟩ = some u5 ∧ W.cell? ⟨g, off + 6, none⟩ = some u6 ∧ W.cell? ⟨g, off + 7, none⟩ = some u7 ∧ W.cell? ⟨g, off + 8, none⟩ = some u8 ∧ W.cell? ⟨g, off + 9, none⟩ = some u9 ∧ W.cell? ⟨g, off + 10, none⟩ = some u10 ∧ W.cell? ⟨g, off + 11, none⟩ = some u11 ∧ W.cell? ⟨g, off + 12, none⟩ = some u12 ∧ W.cell? ⟨g, off + 13, none⟩ = some u13 ∧ W.cell? ⟨g, off + 14, none⟩ = some u14 :=
  ⟨C[off]'(by omega), C[off + 1]'(by omega), C[off + 2]'(by omega), C[off + 3]'(by omega), C[off + 4]'(by omega), C[off + 5]'(by omega), C[off + 6]'(by omega), C[off + 7]'(by omega), C[off + 8]'(by omega), C[off + 9]'(by omega), C[off + 10]'(by omega), C[off + 11]'(by omega), C[off + 12]'(by omega), C[off + 13]'(by omega), C[off + 14]'(by omega), by rw [h.c]; simp, by rw [h.c]; simp, by rw [h.c]; simp, by rw [h.c]; simp, by rw [h.c]; simp, by rw [h.c]; simp, by rw [h.c]; simp, by rw [h.c]; simp, by rw [h.c]; simp, by rw [h.c]; simp, by rw [h.c]; simp, by rw [h.c]; simp, by rw [h.c]; simp, by rw [h.c]; simp, by rw [h.c]; simp⟩
theorem made_K {α : Type} {K : El α} {w : World} {base g n : Nat} {cs : List Value} (h : w.ownsRow base K.e K.size (.slice (some ⟨g, 0, none⟩) n n) n cs) : ∃ C : Array Value, AtC w g C ∧ C.size = n * K.size := by
  rcases h.2 with ⟨e0, _⟩ | ⟨g', cap', cur, hv, _, hb, h1, h2, h3, h4⟩
  · cases e0
  · cases hv
    exact ⟨cur, ⟨(Array.getElem?_eq_some_iff.1 hb).1, fun i => cell_of_row w g i cur _ (0, 0) hb, fun i => by simp [World.frozen?, hb]⟩, h3⟩
/-- What undoes a change of a list. -/
def undoC (l : List Ob) (c : Ch) : Ch := backC (obO (findO l (hc c))) c
def undoL (l : List Ob) (s : List Ch) : List Ch := s.map (undoC l)
theorem undoL_len (l : List Ob) (s : List Ch) : (undoL l s).length = s.length := by simp [undoL]
theorem undoL_take {l : List Ob} {s : List Ch} {k : Nat} (h : k < s.length) : (undoL l s).take (k + 1) = (undoL l s).take k ++ [undoC l s[k]] := by
  unfold undoL
  rw [List.take_succ_eq_append_getElem (by simpa using h), List.getElem_map]
/-- What Undo tells. -/
noncomputable def undoR (l : List Ob) (s : List Ch) : List Ch := if fitsE l s = 0 then undoL l s else []
/-- The cells hold the first k of a row of changes. -/
def Filled (C : Array Value) (k : Nat) (r : List Ch) : Prop := ∀ (m : Nat) (u : Value), (cellsK chK (r.take k))[m]? = some u → C[m]? = some u
theorem Filled.step {C C' : Array Value} {k : Nat} {r : List Ch} {x : Ch} (h : Filled C k r) (hk : k < r.length) (hx : r.take (k + 1) = r.take k ++ [x]) (h1 : ∀ i, i < k * 15 → C'[i]? = C[i]?) (h2 : ∀ i, i < 15 → C'[k * 15 + i]? = (chCells x).toList[i]?) : Filled C' (k + 1) r := by
  intro m u hu
  rw [hx, cellsK_app] at hu
  have hl : (cellsK chK (r.take k)).length = k * 15 := by rw [cellsK_len, List.length_take, Nat.min_eq_left (by omega)]; rfl
  by_cases hm : m < k * 15
  · rw [List.getElem?_append_left (by omega)] at hu
    rw [h1 m hm]; exact h m u hu
  · rw [List.getElem?_append_right (by omega), hl] at hu
    have hu2 : (chCells x).toList[m - k * 15]? = some u := by simpa [cellsK, chK] using hu
    have hi : m - k * 15 < 15 := (List.getElem?_eq_some_iff.1 hu2).1
    have := h2 (m - k * 15) hi
    rw [show k * 15 + (m - k * 15) = m by omega] at this
    rw [this]; exact hu2
set_option maxHeartbeats 16000000 in
theorem undo_any {A1 A2 : Option Addr} (l : List Ob) (c1 : Nat) (s : List Ch) (c2 : Nat) (w : World) (hr : RdK obK w w.heap.size A1 l) (hl : l.length ≤ 1000000) (h : RdK chK w w.heap.size A2 s) (hn : s.length ≤ 1000) (hM : ∀ c ∈ s, MeetsC c w) :
    Calls Tryz.prog 19 #[.slice A1 l.length c1, .slice A2 s.length c2] w fun e w' => ∃ A3 c3, e = .returned (.tuple #[.slice A3 (undoR l s).length c3, .int .i64 (fitsE l s)]) ∧ RdK chK w' w'.heap.size A3 (undoR l s) ∧ Below w.heap.size w w' := by
  have CF := Lib.hid (fits_any l c1 s c2 w hr hl h hn hM)
  by_cases h0 : fitsE l s = 0
  · have HU : Hid (undoR l s = undoL l s) := Lib.hid (if_pos h0)
    rw [HU.out]
    rw [h0] at CF ⊢
    have HR := Lib.hid hr
    have H := Lib.hid h
    have HK := Lib.hid (fun c hc => (hM c hc).kind)
    have hbb : chK.i.bytes * s.length ≤ 281474976710656 := Nat.le_trans (Nat.mul_le_mul (show chK.i.bytes ≤ 1000 from chK.hb ▸ chK.small) hn) (by decide)
    have HBB := Lib.hid hbb
    clear h0 hr h hM HU hbb
    go_enter Tryz.func19, Tryz.ntmps19
    go_wp2_with (first
      | (go_at_call 11; ((with_reducible refine CF.out.mono ?_); rintro e w1 ⟨rfl, k1⟩; have K1 := Lib.hid k1))
      | (at_make; refine wpList_make_full _ rfl _ _ 23 rfl w1.heap.size 39 chK.i chK.z 15 chK.ht chK.hi chK.hz chK.hs .i64 .i64 (s.length : Int) (s.length : Int) s.length rfl rfl rfl rfl HBB.out (by unfold maxLen; omega) (Nat.le_refl _) ?_; intro w2 r2 g2; obtain ⟨C0, m0, z0⟩ := made_K (K := chK) r2; have M0 := Lib.hid m0; have Z0 := Lib.hid z0; have K2 := Lib.hid (bThen k1 (below_grown_none g2)); have hg0 := k1.size; clear r2 g2 m0 z0))
    go_loopw [23] (fun i wr => ∃ k : Nat, i = .int .i64 k ∧ k ≤ s.length ∧ (∃ C : Array Value, Hid (C.size = s.length * 15) ∧ Hid (AtC wr w1.heap.size C) ∧ Hid (Filled C k (undoL l s))) ∧ Below w.heap.size w wr) (fun i _ => s.length - (intOf i).toNat)
    case atStart => exact ⟨0, rfl, Nat.zero_le _, ⟨C0, Z0, M0, Lib.hid (fun m u hu => by simp [cellsK] at hu)⟩, K2.out⟩
    case round =>
      obtain ⟨k, rfl, hk, ⟨C, HC, MC, HF⟩, k3⟩ := hrel
      have K3 := Lib.hid k3
      by_cases hlt : k < s.length
      · obtain ⟨b, off, rfl, hbk, hcc⟩ := chs_at (H.out.below k3) (by omega)
        obtain ⟨p0, p1, p2, p3, p4, p5, p6, p7, p8, p9, p10, p11, p12, p13, p14⟩ := hcc k _ (List.getElem?_eq_getElem hlt)
        have i1 : (k : Int) < s.length := by omega
        have CFI := fun W (q : Below w.heap.size w W) => findP_any (A := A1) l c1 (s[k]).o.handle W ((HR.out.below q).more q.size) hl
        have HX := Lib.hid (undoL_take (l := l) hlt)
        have hXe : undoC l s[k] = backC (obO (findO l (s[k]).o.handle.data.toList)) s[k] := rfl
        rw [hXe] at HX
        have hk255 := HK.out _ (List.getElem_mem hlt)
        have HZ : Hid (k * 15 + 15 ≤ C.size) := Lib.hid (by rw [HC.out]; omega)
        have HL : Hid (k < (undoL l s).length) := Lib.hid (by rw [undoL_len]; exact hlt)
        clear hcc hXe
        generalize s[k] = x at *
        generalize obO (findO l x.o.handle.data.toList) = was at *
        generalize (findO l x.o.handle.data.toList).isSome = there at *
        have CFI := Lib.hid CFI
        have CB := Lib.hid (fun W => back_any was x W hk255)
        generalize backC was x = y at *
        clear hk255
        go_wp2_with (first
          | (go_at_call 42; ((with_reducible refine (CFI.out _ (bAl k3 _)).mono ?_); rintro e w3 ⟨rfl, q3⟩; have k4 := bThen (bAl k3 _) q3; have mX := (AtC.new _ _ _).then q3; have xc := mX.c; have xl := mX.lt; have MG := Lib.hid ((MC.out.al _).then q3); clear mX q3))
          | (go_at_call 43; ((with_reducible refine (CB.out _).mono ?_); rintro e w4 ⟨rfl, q4⟩; have k5 := bThen (bAl k4 _) q4; have mH := (MG.out.al _).then q4; have gf := mH.f; have gl := mH.lt; obtain ⟨u0, u1, u2, u3, u4, u5, u6, u7, u8, u9, u10, u11, u12, u13, u14, cq0, cq1, cq2, cq3, cq4, cq5, cq6, cq7, cq8, cq9, cq10, cq11, cq12, cq13, cq14⟩ := cells15 mH HZ.out; have MH := Lib.hid mH; clear mH q4)))
        obtain ⟨C', z1, m1, f1, f2, _⟩ := fill15At (off := k * 15) MH.out HZ.out (.int .u8 y.kind) (.string y.o.handle) (.int .u8 y.o.kind) (.string y.o.parent) (.int .u8 y.o.typ) (.string y.o.ref) (.int .i64 y.o.lo) (.int .i64 y.o.hi) (.int .u8 y.o.digits) (.bool y.o.on) (.bool y.o.has) (.int .i64 y.o.value) (.int .i64 y.o.low) (.int .i64 y.o.high) (.int .u8 y.o.assoc)
        have Z1 := Lib.hid (z1.trans HC.out)
        have M1 := Lib.hid m1
        have F1 := Lib.hid (HF.out.step HL.out HX.out f1 f2)
        have B1 := Lib.hid (bFill15At (off := k * 15) k5 hg0 (.int .u8 y.kind) (.string y.o.handle) (.int .u8 y.o.kind) (.string y.o.parent) (.int .u8 y.o.typ) (.string y.o.ref) (.int .i64 y.o.lo) (.int .i64 y.o.hi) (.int .u8 y.o.digits) (.bool y.o.on) (.bool y.o.has) (.int .i64 y.o.value) (.int .i64 y.o.low) (.int .i64 y.o.high) (.int .u8 y.o.assoc))
        clear f1 f2 m1 z1
        go_roundw
        case rel => exact ⟨k + 1, by go_num, by omega, ⟨C', Z1, M1, F1⟩, B1.out⟩
        case measure => simp [intOf]; omega
      · obtain rfl : k = s.length := by omega
        have i1 : ¬ (s.length : Int) < s.length := by omega
        have HRd : Hid (RdK chK wr wr.heap.size (some ⟨w1.heap.size, 0, none⟩) (undoL l s)) := Lib.hid (.inr ⟨w1.heap.size, 0, rfl, MC.out.lt, fun m u hu => by
          rw [Nat.zero_add, MC.out.c m]
          exact HF.out m u (by rw [List.take_of_length_le (by rw [undoL_len]; exact Nat.le_refl _)]; exact hu)⟩)
        have HLn := Lib.hid (undoL_len l s)
        go_wp2
        go_ret2
        refine ⟨some ⟨w1.heap.size, 0, none⟩, ⟨s.length, ?_⟩, HRd.out, k3⟩
        rw [HLn.out]; rfl
  · have HU : Hid (undoR l s = []) := Lib.hid (if_neg h0)
    rw [HU.out]
    have hv1 : (fitsE l s != 0) = true := by simpa using h0
    clear hr h hM HU
    generalize fitsE l s = v at *
    go_enter Tryz.func19, Tryz.ntmps19
    go_wp2_with (go_at_call 11; ((with_reducible refine CF.out.mono ?_); rintro e w1 ⟨rfl, k1⟩))
    go_ret2
    exact ⟨none, 0, rfl, .inl rfl, k1⟩
end Go.Proofs.YtncahpbjbgcnbaaGreatDoor.DX
/-
  WALK: what undoes changes: the document's Undo.
-/
namespace Go.Proofs.YtncahpbjbgcnbaaGreatDoor.DX
open Go.RowKit HL
open IX (ptr El cellsK cellsK_at cellsK_inv cellsK_len cellsK_app OwnK RdK strK)
open WX (obK obs_at hb pb rb tl_ne bs_eq findO findO_some findO_none findO_at obO ret_ob2)
set_option maxRecDepth 100000
set_option linter.unusedVariables false
set_option linter.unusedSimpArgs false

theorem backC_1 (was o : Ob) : backC was ⟨1, o⟩ = ⟨4, { zeroOb with handle := o.handle }⟩ := rfl
theorem backC_2 (was o : Ob) : backC was ⟨2, o⟩ = ⟨2, stateOf was zeroOb⟩ := rfl
theorem backC_3 (was o : Ob) : backC was ⟨3, o⟩ = ⟨3, descOf was zeroOb⟩ := rfl
theorem backC_4 (was o : Ob) : backC was ⟨4, o⟩ = ⟨1, was⟩ := rfl
theorem fitsE_kind {l : List Ob} {s : List Ch} (h : fitsE l s = 0) : ∀ c ∈ s, c.kind = 1 ∨ c.kind = 2 ∨ c.kind = 3 ∨ c.kind = 4 := mayC_kind (fitsE_0 h).1
theorem rq_ch (W : World) (c : Ch) : RdK chK (W.alloc (.cells (chCells c) 39)) (W.heap.size + 1) (some ⟨W.heap.size, 0, none⟩) [c] := RdK.lit (K := chK) W c (chCells c) rfl 39
theorem rq_ch2 (W : World) (o : Obj) (c : Ch) : RdK chK ((W.alloc o).alloc (.cells (chCells c) 39)) (W.heap.size + 1 + 1) (some ⟨W.heap.size + 1, 0, none⟩) [c] := by
  have := rq_ch (W.alloc o) c
  have e : (W.alloc o).heap.size = W.heap.size + 1 := by simp
  rw [e] at this
  exact this
end Go.Proofs.YtncahpbjbgcnbaaGreatDoor.DX
