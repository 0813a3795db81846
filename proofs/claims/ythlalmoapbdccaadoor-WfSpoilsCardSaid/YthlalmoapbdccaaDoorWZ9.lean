/-
  WALKS: wf's each (ContainsFunc over the closure that says no), rule 3's closure.
-/
import Derived.Test.YthlalmoapbdccaaDoorWZ8
import Derived.Test.YthlalmoapbdccaaDoorWZ7
import Derived.Test.YthlalmoapbdccaaDoorWZCStand
namespace Go.Proofs.YthlalmoapbdccaaDoor.WX
open Go.RowKit HL
open IX (ptr El cellsK cellsK_at OwnK RdK strK)
set_option maxRecDepth 100000
set_option linter.unusedVariables false
set_option linter.unusedSimpArgs false

set_option maxHeartbeats 4000000 in
theorem indexE_any {A : Option Addr} (l : List Ob) (c : Nat) (B : Nat) (p : Ob → Bool) (w : World) (hr : RdK obK w w.heap.size A l) (hl : l.length ≤ 1000000)
    (hC : ∀ o ∈ l, ∀ W, Below w.heap.size w W → Calls Tryd.prog 93 #[ob o, ptr B] W fun e w' => e = .returned (.bool (p o)) ∧ Below W.heap.size W w') :
    Calls Tryd.prog 30 #[.slice A l.length c, .func (.func 93) #[] #[ptr B]] w fun e w' => (∃ i : Int, e = .returned (.int .i64 i) ∧ decide (0 ≤ i) = l.any p) ∧ Below w.heap.size w w' := by
  have HR := Lib.hid hr
  have C1 := Lib.hid hC
  clear hr hC
  go_enter Tryd.func30, Tryd.ntmps30
  go_wp2
  go_loopw [8] (fun i wr => ∃ k : Nat, i = .int .i64 k ∧ k ≤ l.length ∧ (∀ a ∈ l.take k, p a = false) ∧ Below w.heap.size w wr) (fun i _ => l.length - (intOf i).toNat)
  case atStart => exact ⟨0, rfl, Nat.zero_le _, by simp, Below.refl _ _⟩
  case round =>
    obtain ⟨k, rfl, hk, hn, k1⟩ := hrel
    have HN := Lib.hid hn
    have K1 := Lib.hid k1
    clear hn
    by_cases hlt : k < l.length
    · have i1 : (k : Int) < l.length := by omega
      obtain ⟨b, off, rfl, hbk, hc⟩ := obs_at (HR.out.below k1) (by omega)
      obtain ⟨c0, c1, c2, c3, c4, c5, c6, c7, c8, c9, c10, c11, c12, c13⟩ := hc k _ (List.getElem?_eq_getElem hlt)
      have CC := C1.out l[k] (List.getElem_mem hlt) wr k1
      have HF : Hid (p l[k] = true → l.any p = true) := Lib.hid (fun q => List.any_eq_true.2 ⟨_, List.getElem_mem hlt, q⟩)
      have HT : Hid (p l[k] = false → ∀ a ∈ l.take (k + 1), p a = false) := Lib.hid (fun q a ha => by
        rw [List.take_succ_eq_append_getElem hlt] at ha
        rcases List.mem_append.1 ha with h | h
        · exact HN.out a h
        · obtain rfl : a = l[k] := by simpa using h
          exact q)
      clear hc k1
      generalize l[k] = o at *
      cases hp : p o with
      | true =>
        rw [hp] at CC
        have CC := Lib.hid CC
        have HV := Lib.hid (HF.out hp)
        clear hp HT HF
        go_wp2_with (go_at_call 93; ((with_reducible refine CC.out.mono ?_); rintro e w3 ⟨rfl, k3⟩))
        go_ret
        exact ⟨⟨k, rfl, by rw [HV.out]; exact decide_eq_true (by omega)⟩, bThen K1.out k3⟩
      | false =>
        rw [hp] at CC
        have CC := Lib.hid CC
        have HV := Lib.hid (HT.out hp)
        clear hp HT HF
        go_wp2_with (go_at_call 93; ((with_reducible refine CC.out.mono ?_); rintro e w3 ⟨rfl, k3⟩))
        go_roundw
        case rel => exact ⟨k + 1, by go_num, by omega, HV.out, bThen K1.out k3⟩
        case measure => simp [intOf]; omega
    · obtain rfl : k = l.length := by omega
      have i1 : ¬ (l.length : Int) < l.length := by omega
      have HV : Hid (l.any p = false) := Lib.hid (List.any_eq_false.2 fun a ha => by
        have := HN.out
        rw [List.take_length] at this
        simp [this a ha])
      go_wp2
      go_ret
      exact ⟨⟨-1, rfl, by rw [HV.out]; rfl⟩, K1.out⟩
set_option maxHeartbeats 2000000 in
theorem containsE_any {A : Option Addr} (l : List Ob) (c : Nat) (B : Nat) (p : Ob → Bool) (w : World) (hr : RdK obK w w.heap.size A l) (hl : l.length ≤ 1000000)
    (hC : ∀ o ∈ l, ∀ W, Below w.heap.size w W → Calls Tryd.prog 93 #[ob o, ptr B] W fun e w' => e = .returned (.bool (p o)) ∧ Below W.heap.size W w') :
    Calls Tryd.prog 92 #[.slice A l.length c, .func (.func 93) #[] #[ptr B]] w fun e w' => e = .returned (.bool (l.any p)) ∧ Below w.heap.size w w' := by
  have C := Lib.hid (indexE_any l c B p w hr hl hC)
  clear hr hC
  generalize l.any p = r at *
  go_enter Tryd.func92, Tryd.ntmps92
  go_wp2_with (go_at_call 30; ((with_reducible refine C.out.mono ?_); rintro e w3 ⟨⟨i, rfl, hi⟩, k3⟩))
  go_ret
  exact ⟨by rw [← hi]; rfl, k3⟩
end Go.Proofs.YthlalmoapbdccaaDoor.WX
/-
  WALKS: wf's rule 3.
-/
namespace Go.Proofs.YthlalmoapbdccaaDoor.WX
open Go.RowKit HL
open IX (ptr El cellsK cellsK_at OwnK RdK strK)
set_option maxRecDepth 100000
set_option linter.unusedVariables false
set_option linter.unusedSimpArgs false

set_option maxHeartbeats 4000000 in
theorem parents1_any {A : Option Addr} (o : Ob) (V M m n c : Nat) (f : Bs → Option Ob) (w : World) (hV : V < w.heap.size) (hc1 : w.cell? ⟨V, 1, none⟩ = some (.map (some M))) (hm : MapO w M m f)
    (hp : o.parent.size ≤ maxLen) (hk : o.kind ≤ 255) (hpk : (orZ (f (pb o))).kind ≤ 255) (hT : Tables w) :
    Calls Tryd.prog 85 #[ob o, ptr V] w fun e w' => e = .returned (.bool ((standE o (orZ (f (pb o))) : Int) == 0)) ∧ Below w.heap.size w w' := by
  have hb0 : Below w.heap.size w w := Below.refl _ _
  have hm2 := hm.then (bAl hb0 (.cells (obCells o) 31))
  have hlk : (Instr.lookup 72 (.map (some M)) (.string o.parent) false).run Tryd.prog (w.alloc (.cells (obCells o) 31)) = .ok (ob (orZ (f (pb o)))) (w.alloc (.cells (obCells o) 31)) := hm2.look (k := pb o) hp
  have CS := Lib.hid (stand_any o (orZ (f (pb o))) (w.alloc (.cells (obCells o) 31)) hk hpk (hT.then (bAl hb0 _)))
  have mc := (AtC.new w (obCells o) 31).c
  clear hm hm2 hT
  generalize orZ (f (pb o)) = p at *
  generalize standE o p = r at *
  go_enter Tryd.func85, Tryd.ntmps85
  go_wp2_with (go_at_call 22; ((with_reducible refine CS.out.mono ?_); rintro e w3 ⟨rfl, k3⟩))
  go_ret
  exact ⟨rfl, bThen (bAl hb0 _) k3⟩
set_option maxHeartbeats 4000000 in
theorem each1P_any {A : Option Addr} (o : Ob) (B V M m : Nat) (f : Bs → Option Ob) (w : World) (hB : B < w.heap.size) (hb : w.cell? ⟨B, 0, none⟩ = some (.func (.func 85) #[] #[ptr V])) (hV : V < w.heap.size) (hc1 : w.cell? ⟨V, 1, none⟩ = some (.map (some M))) (hm : MapO w M m f)
    (hp : o.parent.size ≤ maxLen) (hk : o.kind ≤ 255) (hpk : (orZ (f (pb o))).kind ≤ 255) (hT : Tables w) :
    Calls Tryd.prog 93 #[ob o, ptr B] w fun e w' => e = .returned (.bool (!((standE o (orZ (f (pb o))) : Int) == 0))) ∧ Below w.heap.size w w' := by
  have hb0 : Below w.heap.size w w := Below.refl _ _
  have b1 := bAl hb0 (.cells (obCells o) 31)
  have CP := Lib.hid (parents1_any (A := none) o V M m 0 0 f (w.alloc (.cells (obCells o) 31)) (Nat.lt_of_lt_of_le hV b1.size) ((b1.cell (p := ⟨V, 1, none⟩) hV).trans hc1) (hm.then b1) hp hk hpk (hT.then b1))
  have mc := (AtC.new w (obCells o) 31).c
  clear hm hT hc1 hV b1
  generalize standE o (orZ (f (pb o))) = r at *
  go_enter Tryd.func93, Tryd.ntmps93
  go_wp2_with (go_at_call 85; ((with_reducible refine CP.out.mono ?_); rintro e w3 ⟨rfl, k3⟩))
  go_ret
  exact ⟨rfl, bThen (bAl hb0 _) k3⟩
abbrev viewC (A : Option Addr) (n c M : Nat) : Array Value := #[.slice A n c, .map (some M)]
noncomputable def noStand (f : Bs → Option Ob) (o : Ob) : Bool := !((standE o (orZ (f (pb o))) : Int) == 0)
set_option maxHeartbeats 8000000 in
theorem parents_any {A : Option Addr} (l : List Ob) (c M m : Nat) (f : Bs → Option Ob) (w : World) (hr : RdK obK w w.heap.size A l) (hl : l.length ≤ 1000) (hm : MapO w M m f)
    (ho : ∀ o ∈ l, o.parent.size ≤ maxLen ∧ o.kind ≤ 255 ∧ (orZ (f (pb o))).kind ≤ 255) (hT : Tables w) :
    Calls Tryd.prog 67 #[.agg (viewC A l.length c M)] w fun e w' => e = .returned (.int .i64 (if l.any (noStand f) = true then 50 else 0)) ∧ Below w.heap.size w w' := by
  have hb0 : Below w.heap.size w w := Below.refl _ _
  have m1 := AtC.new w (viewC A l.length c M) 74
  have CE : Hid (Calls Tryd.prog 84 #[.agg (viewC A l.length c M), .func (.func 85) #[] #[ptr w.heap.size], .int .i64 50] (w.alloc (.cells (viewC A l.length c M) 74)) fun e w' => e = .returned (.int .i64 (if l.any (noStand f) = true then 50 else 0)) ∧ Below (w.alloc (.cells (viewC A l.length c M) 74)).heap.size (w.alloc (.cells (viewC A l.length c M) 74)) w') := Lib.hid (by
    have b1 : Below w.heap.size w (w.alloc (.cells (viewC A l.length c M) 74)) := bAl hb0 _
    generalize w.alloc (.cells (viewC A l.length c M) 74) = W at *
    have hVlt := m1.lt
    have hV1 := m1.c 1
    have bW : Below W.heap.size W W := Below.refl _ _
    have b2 : Below W.heap.size W ((W.alloc (.cells (viewC A l.length c M) 74)).alloc (.cells #[.func (.func 85) #[] #[ptr w.heap.size]] 32)) := bAl (bAl bW _) _
    have mB := AtC.newAt (w := W.alloc (.cells (viewC A l.length c M) 74)) (B := W.heap.size + 1) (C := #[.func (.func 85) #[] #[ptr w.heap.size]]) (T := 32) (by simp)
    have CC := Lib.hid (containsE_any l c (W.heap.size + 1) (noStand f) _ ((hr.below (b1.trans (b2.mono b1.size))).more (b1.trans (b2.mono b1.size)).size) (by omega) (fun o hoo W2 q => by
      obtain ⟨h1, h2, h3⟩ := ho o hoo
      have b3 : Below W.heap.size W W2 := b2.trans (q.mono b2.size)
      have b4 : Below w.heap.size w W2 := b1.trans (b3.mono b1.size)
      exact each1P_any (A := none) o (W.heap.size + 1) w.heap.size M m f W2 (mB.then q).lt ((mB.then q).c 0) (Nat.lt_of_lt_of_le hVlt b3.size) ((b3.cell (p := ⟨w.heap.size, 1, none⟩) hVlt).trans hV1) (hm.then b4) h1 h2 h3 (hT.then b4)))
    have vc := (AtC.new W (viewC A l.length c M) 74).c
    have vl := (AtC.new W (viewC A l.length c M) 74).lt
    clear hr hm ho hT m1 b1 mB hV1 b2
    generalize l.any (noStand f) = r at *
    cases r with
    | true =>
      go_enter Tryd.func84, Tryd.ntmps84
      go_wp2_with (go_at_call 92; ((with_reducible refine CC.out.mono ?_); rintro e w3 ⟨rfl, k3⟩))
      go_ret
      exact ⟨rfl, bThen (bAl (bAl bW _) _) k3⟩
    | false =>
      go_enter Tryd.func84, Tryd.ntmps84
      go_wp2_with (go_at_call 92; ((with_reducible refine CC.out.mono ?_); rintro e w3 ⟨rfl, k3⟩))
      go_ret
      exact ⟨rfl, bThen (bAl (bAl bW _) _) k3⟩)
  have mc := m1.c
  clear hr hm ho hT m1
  generalize (if l.any (noStand f) = true then (50 : Int) else 0) = r at *
  go_enter Tryd.func67, Tryd.ntmps67
  go_wp2_with (go_at_call 84; ((with_reducible refine CE.out.mono ?_); rintro e w3 ⟨rfl, k3⟩))
  go_ret
  exact ⟨rfl, bThen (bAl hb0 _) k3⟩
end Go.Proofs.YthlalmoapbdccaaDoor.WX
/-
  WALK: wf's rule 2: a handle that is there twice.
-/
namespace Go.Proofs.YthlalmoapbdccaaDoor.WX
open Go.RowKit HL
open IX (ptr El cellsK cellsK_at OwnK RdK strK)
set_option maxRecDepth 100000
set_option linter.unusedVariables false
set_option linter.unusedSimpArgs false

def once : List Bs → List Bs
  | [] => []
  | a :: l => if a ∈ l then once l else a :: once l
theorem mem_once {x : Bs} : ∀ {l : List Bs}, x ∈ once l ↔ x ∈ l
  | [] => Iff.rfl
  | a :: l => by
    unfold once
    have ih := mem_once (x := x) (l := l)
    split
    · rename_i h
      rw [ih, List.mem_cons]
      constructor
      · exact .inr
      · rintro (rfl | q)
        · exact h
        · exact q
    · rw [List.mem_cons, List.mem_cons, ih]
theorem nodup_once : ∀ (l : List Bs), (once l).Nodup
  | [] => List.nodup_nil
  | a :: l => by
    unfold once
    split
    · exact nodup_once l
    · rename_i h
      exact List.nodup_cons.2 ⟨fun q => h (mem_once.1 q), nodup_once l⟩
theorem once_le : ∀ (l : List Bs), (once l).length ≤ l.length ∧ ((once l).length = l.length ↔ l.Nodup)
  | [] => ⟨Nat.le_refl _, by simp [once]⟩
  | a :: l => by
    obtain ⟨h1, h2⟩ := once_le l
    unfold once
    split
    · rename_i h
      refine ⟨by simp; omega, ?_⟩
      constructor
      · intro q; simp at q; omega
      · intro q; exact absurd h (List.nodup_cons.1 q).1
    · rename_i h
      refine ⟨by simp; omega, ?_⟩
      rw [List.nodup_cons]
      simp [h2, h]
/-- A handle is there twice. -/
def twiceB (l : List Ob) : Bool := decide ((once (l.map hb)).length < l.length)
theorem twice_f {l : List Ob} : twiceB l = false ↔ (l.map hb).Nodup := by
  have := once_le (l.map hb)
  rw [List.length_map] at this
  unfold twiceB
  rw [decide_eq_false_iff_not, ← this.2]
  omega
theorem lastK_some (l : List Ob) : ∀ (k : Nat), k ≤ l.length → ∀ x, (lastK l k x).isSome = true ↔ x ∈ (l.take k).map hb := by
  intro k
  induction k with
  | zero => intro _ x; rw [lastK_0]; simp
  | succ k ih =>
    intro hk x
    have hlt : k < l.length := by omega
    rw [lastK_next hlt, List.take_succ_eq_append_getElem hlt, List.map_append, List.mem_append]
    by_cases e : x = hb l[k]
    · subst e
      rw [upd_same]
      simp
    · rw [upd_other _ _ e, ih (by omega) x]
      simp [e]
theorem lastO_some {l : List Ob} {x : Bs} : (lastO l x).isSome = true ↔ x ∈ l.map hb := by
  have := lastK_some l l.length (Nat.le_refl _) x
  rwa [List.take_length] at this
set_option maxHeartbeats 4000000 in
theorem handles_any {A : Option Addr} (l : List Ob) (c M m : Nat) (w : World) (hl : l.length ≤ 1000) (hm : MapO w M m (lastO l)) :
    Calls Tryd.prog 66 #[.agg (viewC A l.length c M)] w fun e w' => e = .returned (.int .i64 (if twiceB l = true then 71 else 0)) ∧ Below w.heap.size w w' := by
  have hb0 : Below w.heap.size w w := Below.refl _ _
  have hlen := (hm.then (bAl hb0 (.cells (viewC A l.length c M) 74))).len (nodup_once (l.map hb)) (fun x => mem_once.trans lastO_some.symm) 3
  have HT : Hid (twiceB l = decide ((once (l.map hb)).length < l.length)) := Lib.hid rfl
  obtain ⟨r, hr⟩ : ∃ r : Int, (if twiceB l = true then (71 : Int) else 0) = r := ⟨_, rfl⟩
  rw [hr]
  have HR := Lib.hid hr
  clear hr
  have hle : (once (l.map hb)).length ≤ l.length := by simpa using (once_le (l.map hb)).1
  clear hm
  generalize (once (l.map hb)).length = n at *
  have vc := (AtC.new w (viewC A l.length c M) 74).c
  by_cases h : n < l.length
  · have i1 : (n : Int) < l.length := by omega
    go_enter Tryd.func66, Tryd.ntmps66
    go_wp2
    go_ret
    exact ⟨by rw [← HR.out, HT.out]; simp [h], bAl hb0 _⟩
  · have i1 : ¬ (n : Int) < l.length := by omega
    go_enter Tryd.func66, Tryd.ntmps66
    go_wp2
    go_ret
    exact ⟨by rw [← HR.out, HT.out]; simp [h], bAl hb0 _⟩
end Go.Proofs.YthlalmoapbdccaaDoor.WX
/-
  WALKS: wf's rule 6.
-/
namespace Go.Proofs.YthlalmoapbdccaaDoor.WX
open Go.RowKit HL
open IX (ptr El cellsK cellsK_at OwnK RdK strK)
set_option maxRecDepth 100000
set_option linter.unusedVariables false
set_option linter.unusedSimpArgs false

noncomputable def inLim (f : Bs → Option Ob) (o : Ob) : Bool := ((o.kind : Int) != 8) || (decide ((orZ (f (rb o))).lo ≤ o.low) && decide (o.high ≤ (orZ (f (rb o))).hi))
set_option maxHeartbeats 4000000 in
theorem limits1_any (o : Ob) (V M m : Nat) (f : Bs → Option Ob) (w : World) (hV : V < w.heap.size) (hc1 : w.cell? ⟨V, 1, none⟩ = some (.map (some M))) (hm : MapO w M m f) (hp : o.ref.size ≤ maxLen) :
    Calls Tryd.prog 87 #[ob o, ptr V] w fun e w' => e = .returned (.bool (inLim f o)) ∧ Below w.heap.size w w' := by
  have hb0 : Below w.heap.size w w := Below.refl _ _
  have hm2 := hm.then (bAl hb0 (.cells (obCells o) 31))
  have hlk : (Instr.lookup 72 (.map (some M)) (.string o.ref) false).run Tryd.prog (w.alloc (.cells (obCells o) 31)) = .ok (ob (orZ (f (rb o)))) (w.alloc (.cells (obCells o) 31)) := hm2.look (k := rb o) hp
  have HE : Hid (inLim f o = (((o.kind : Int) != 8) || (decide ((orZ (f (rb o))).lo ≤ o.low) && decide (o.high ≤ (orZ (f (rb o))).hi)))) := Lib.hid rfl
  have mc := ((AtC.new w (obCells o) 31).al (.cells (obCells (orZ (f (rb o)))) 31)).c
  have m0 := (AtC.new w (obCells o) 31).c
  have mp := (AtC.newAt (w := w.alloc (.cells (obCells o) 31)) (B := w.heap.size + 1) (C := obCells (orZ (f (rb o)))) (T := 31) (by simp)).c
  clear hm hm2
  generalize inLim f o = r at *
  generalize orZ (f (rb o)) = p at *
  by_cases h1 : o.kind = 8
  · by_cases h2 : p.lo ≤ o.low
    · have HV : Hid (r = decide (o.high ≤ p.hi)) := Lib.hid (by rw [HE.out]; simp [h1, h2])
      have i1 : ((o.kind : Int) != 8) = false := by simp; omega
      clear HE h1
      go_enter Tryd.func87, Tryd.ntmps87
      go_wp2
      go_ret
      exact ⟨by rw [HV.out]; rfl, bAl (bAl hb0 _) _⟩
    · have HV : Hid (r = false) := Lib.hid (by rw [HE.out]; simp [h1, h2])
      have i1 : ((o.kind : Int) != 8) = false := by simp; omega
      clear HE h1
      go_enter Tryd.func87, Tryd.ntmps87
      go_wp2
      go_ret
      exact ⟨by rw [HV.out]; rfl, bAl (bAl hb0 _) _⟩
  · have HV : Hid (r = true) := Lib.hid (by
      rw [HE.out]
      have q : ((o.kind : Int) != 8) = true := by simp; omega
      rw [q]; rfl)
    have i1 : ¬ (o.kind : Int) = 8 := by omega
    clear HE h1
    go_enter Tryd.func87, Tryd.ntmps87
    go_wp2
    go_ret
    exact ⟨by rw [HV.out]; rfl, bAl (bAl hb0 _) _⟩
end Go.Proofs.YthlalmoapbdccaaDoor.WX
/-
  WALKS: wf's find, mds, climb over the map.
-/
namespace Go.Proofs.YthlalmoapbdccaaDoor.WX
open Go.RowKit HL
open IX (ptr El cellsK cellsK_at OwnK RdK strK)
set_option maxRecDepth 100000
set_option linter.unusedVariables false
set_option linter.unusedSimpArgs false

theorem orZ_obO (x : Option Ob) : orZ x = obO x := rfl
set_option maxHeartbeats 4000000 in
theorem findM_any {A : Option Addr} (n c M m : Nat) (f : Bs → Option Ob) (x : ByteArray) (w : World) (hm : MapO w M m f) (hx : x.size ≤ maxLen) :
    Calls Tryd.prog 108 #[.agg (viewC A n c M), .string x] w fun e w' => e = .returned (.tuple #[ob (orZ (f x.data.toList)), .bool (f x.data.toList).isSome]) ∧ Below w.heap.size w w' := by
  have hb0 : Below w.heap.size w w := Below.refl _ _
  have hlk : ∀ o1 o2 : Obj, (Instr.lookup 72 (.map (some M)) (.string x) true).run Tryd.prog ((w.alloc o1).alloc o2) = .ok (.tuple #[ob (orZ (f x.data.toList)), .bool (f x.data.toList).isSome]) ((w.alloc o1).alloc o2) := fun o1 o2 => (hm.then (bAl (bAl hb0 o1) o2)).look_ok (k := x.data.toList) hx
  have vc : ∀ o2 : Obj, ∀ i, ((w.alloc (.cells (viewC A n c M) 74)).alloc o2).cell? ⟨w.heap.size, i, none⟩ = (viewC A n c M)[i]? := fun o2 => ((AtC.new w (viewC A n c M) 74).al o2).c
  clear hm
  generalize orZ (f x.data.toList) = p at *
  generalize (f x.data.toList).isSome = b at *
  have mp : ∀ o2 : Obj, ∀ i, (((w.alloc (.cells (viewC A n c M) 74)).alloc o2).alloc (.cells (obCells p) 31)).cell? ⟨w.heap.size + 2, i, none⟩ = (obCells p)[i]? := fun o2 => (AtC.newAt (w := (w.alloc (.cells (viewC A n c M) 74)).alloc o2) (B := w.heap.size + 2) (C := obCells p) (T := 31) (by simp)).c
  go_enter Tryd.func108, Tryd.ntmps108
  go_wp2
  exact ret_ob2 (o := p) rfl rfl rfl rfl ((AtC.newAt (w := w.alloc (.cells (viewC A n c M) 74)) (B := w.heap.size + 1) (C := obCells p) (T := 31) (by simp)).al (.cells (obCells p) 31)) ⟨rfl, bAl (bAl (bAl hb0 _) _) _⟩
set_option maxHeartbeats 8000000 in
theorem climbM_any {A : Option Addr} (n c M m : Nat) (f : Bs → Option Ob) (x : ByteArray) (w : World) (hm : MapO w M m f) (hx : x.size ≤ maxLen) (hz : ∀ y o, f y = some o → o.parent.size ≤ maxLen) :
    Calls Tryd.prog 32 #[.func (.func 108) #[.agg (viewC A n c M)] #[], .string x] w fun e w' => e = .returned (.tuple #[.string (txt (climbO f 8 x.data.toList)), .bool (climbO f 8 x.data.toList).isSome]) ∧ Below w.heap.size w w' := by
  have CM := Lib.hid (fun (y : ByteArray) (hy : y.size ≤ maxLen) W (q : Below w.heap.size w W) => findM_any (A := A) n c M m f y W (hm.then q) hy)
  have HX := Lib.hid hx
  have HZ := Lib.hid hz
  clear hm hx hz
  obtain ⟨res, hres⟩ : ∃ r, climbO f 8 x.data.toList = r := ⟨_, rfl⟩
  rw [hres]
  have HRES := Lib.hid hres
  clear hres
  go_enter Tryd.func32, Tryd.ntmps32
  go_wp2
  go_loopw [1, 8] (fun hv i wr => ∃ (k : Nat) (y : ByteArray), hv = .string y ∧ i = .int .i64 k ∧ k ≤ 8 ∧ Hid (climbO f (8 - k) y.data.toList = res) ∧ Hid (y.size ≤ maxLen) ∧ Below w.heap.size w wr) (fun _ i _ => 8 - (intOf i).toNat)
  case atStart => exact ⟨0, x, rfl, rfl, by omega, HRES, HX, Below.refl _ _⟩
  case round =>
    obtain ⟨k, y, rfl, rfl, hk, hr2, hy, k1⟩ := hrel
    have K1 := Lib.hid k1
    by_cases hlt : k < 8
    · have i1 : (k : Int) < 8 := by omega
      have CC := CM.out y hy.out wr k1
      have h8 : 8 - k = (8 - (k + 1)) + 1 := by omega
      have HS : Hid (res = match f y.data.toList with
        | none => none
        | some o => if o.kind = 1 then some (hb o) else climbO f (8 - (k + 1)) (pb o)) := Lib.hid (by
          have := hr2.out
          rw [h8] at this
          exact this.symm)
      clear k1 hr2 h8 HRES
      cases hf : f y.data.toList with
      | none =>
        rw [hf] at CC
        have CC := Lib.hid CC
        have HV : Hid (res = none) := Lib.hid (by rw [HS.out, hf])
        clear hf HS
        generalize orZ none = o at *
        go_wp2_with (go_at_call 108; ((with_reducible refine CC.out.mono ?_); rintro e w3 ⟨rfl, k3⟩))
        go_ret2
        exact ⟨by rw [HV.out]; rfl, bAl (bThen K1.out k3) _⟩
      | some o =>
        rw [hf] at CC
        have HP := Lib.hid (HZ.out _ _ hf)
        have CC : Hid (Calls Tryd.prog 108 #[.agg (viewC A n c M), .string y] wr fun e w' => e = .returned (.tuple #[ob o, .bool true]) ∧ Below wr.heap.size wr w') := Lib.hid CC
        by_cases hk1 : o.kind = 1
        · have HV : Hid (res = some (hb o)) := Lib.hid (by rw [HS.out, hf]; simp [hk1])
          have i2 : (o.kind : Int) = 1 := by omega
          clear hf HS hk1
          go_wp2_with (go_at_call 108; ((with_reducible refine CC.out.mono ?_); rintro e w3 ⟨rfl, k3⟩; have mc := (AtC.new w3 (obCells o) 31).c))
          go_ret2
          exact ⟨by rw [HV.out]; rfl, bAl (bThen K1.out k3) _⟩
        · have HV : Hid (res = climbO f (8 - (k + 1)) (pb o)) := Lib.hid (by rw [HS.out, hf]; simp [hk1])
          have i2 : ¬ (o.kind : Int) = 1 := by omega
          clear hf HS hk1
          go_wp2_with (go_at_call 108; ((with_reducible refine CC.out.mono ?_); rintro e w3 ⟨rfl, k3⟩; have mc := (AtC.new w3 (obCells o) 31).c))
          go_roundw
          case rel => exact ⟨k + 1, o.parent, rfl, by go_num, by omega, Lib.hid HV.out.symm, HP, bAl (bThen K1.out k3) _⟩
          case measure => simp [intOf]; omega
    · obtain rfl : k = 8 := by omega
      have HV : Hid (res = none) := Lib.hid hr2.out.symm
      clear hr2 HRES k1
      go_wp2
      go_ret2
      exact ⟨by rw [HV.out]; rfl, K1.out⟩
set_option maxHeartbeats 4000000 in
theorem mdsM_any {A : Option Addr} (n c M m : Nat) (f : Bs → Option Ob) (o : Ob) (w : World) (hm : MapO w M m f) (hx : o.handle.size ≤ maxLen) (hz : ∀ y o, f y = some o → o.parent.size ≤ maxLen) :
    Calls Tryd.prog 94 #[.agg (viewC A n c M), ob o] w fun e w' => e = .returned (.string (txt (climbO f 8 (hb o)))) ∧ Below w.heap.size w w' := by
  have hb0 : Below w.heap.size w w := Below.refl _ _
  have CC := Lib.hid (fun W (q : Below w.heap.size w W) => climbM_any (A := A) n c M m f o.handle W (hm.then q) hx hz)
  have vc := ((AtC.new w (viewC A n c M) 74).al (.cells (obCells o) 31)).c
  have mo := (AtC.newAt (w := w.alloc (.cells (viewC A n c M) 74)) (B := w.heap.size + 1) (C := obCells o) (T := 31) (by simp)).c
  clear hm hz
  show Calls _ _ _ _ fun e w' => e = .returned (.string (txt (climbO f 8 o.handle.data.toList))) ∧ _
  generalize climbO f 8 o.handle.data.toList = res at *
  go_enter Tryd.func94, Tryd.ntmps94
  go_wp2_with (go_at_call 32; ((with_reducible refine (CC.out _ (bAl (bAl hb0 _) _)).mono ?_); rintro e w3 ⟨rfl, k3⟩))
  go_ret
  exact ⟨rfl, bThen (bAl (bAl hb0 _) _) k3⟩
end Go.Proofs.YthlalmoapbdccaaDoor.WX
