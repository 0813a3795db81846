/-
  WALK: the program's Text.
-/
import Derived.Test.YtonhijonnonmbaaDoorOMayP
import Derived.Test.YtonhijonnonmbaaDoorOTextMath
import Derived.Test.YtonhijonnonmbaaDoorOOwn
namespace Go.Proofs.YtonhijonnonmbaaDoor
open Go.RowKit HL
set_option maxRecDepth 100000
set_option linter.unusedVariables false

noncomputable def textR (o : Ob) : Value := if faultP o true = 0 then .tuple #[.string (textOf o), .int .i64 0] else .tuple #[.string ⟨#[]⟩, .int .i64 (faultP o true)]
theorem textR_bad {o : Ob} (h : ¬ faultP o true = 0) : textR o = .tuple #[.string ⟨#[]⟩, .int .i64 (faultP o true)] := by simp [textR, h]
theorem textR_ok {o : Ob} (h : faultP o true = 0) : textR o = .tuple #[.string (textOf o), .int .i64 0] := by simp [textR, h]
theorem OwnS.lit2 (W : World) (base : Nat) (a b : List UInt8) (hb : base ≤ W.heap.size) : OwnS (W.alloc (.cells #[.string ⟨a.toArray⟩, .string ⟨b.toArray⟩] 9)) base (.slice (some ⟨W.heap.size, 0, none⟩) 2 2) [a, b] := World.ownsRow_lit W #[.string ⟨a.toArray⟩, .string ⟨b.toArray⟩] 2 hb (by unfold maxLen; omega) rfl
theorem join_strs (A : Option Addr) (c : Nat) (xs : List (List UInt8)) (w : World) (h : Strs w w.heap.size A xs) (hne : xs ≠ []) (hcap : xs.length ≤ c) (hl : xs.length ≤ 100) (hj : (Lib.join xs [32]).length ≤ 1000000) :
    Calls Tryd.prog 16 #[.slice A xs.length c, .string ⟨#[32]⟩] w fun e w' => e = .returned (str (Lib.join xs [32])) ∧ Below w.heap.size w w' := by
  rcases h with h | ⟨b, off, rfl, hb, hc⟩
  · exact absurd h hne
  · have hm : (xs.map fun l => (⟨l.toArray⟩ : ByteArray)).map (·.data.toList) = xs := by rw [List.map_map]; simp [Function.comp_def]
    have C := Tryd.strings_Join b off c (xs.map fun l => ⟨l.toArray⟩) ⟨#[32]⟩ w (fun j x hx => by
      rw [List.getElem?_map] at hx
      obtain ⟨y, hy, rfl⟩ := Option.map_eq_some_iff.1 hx
      exact hc j y hy) hb (by simp; omega) (by simpa using hcap) (by rw [hm]; show (Lib.join xs [32]).length ≤ _; omega)
    rw [hm, List.length_map] at C
    exact C
theorem str_of (s : ByteArray) : Value.string s = str s.data.toList := rfl
set_option maxHeartbeats 4000000 in
theorem text_bad {o : Ob} {w : World} (h : Meets o w) (hr : ¬ faultP o true = 0) : Calls Tryd.prog 6 #[ob o] w fun e w' => e = .returned (textR o) ∧ Below w.heap.size w w' := by
  have hb : Below w.heap.size w w := Below.refl _ _
  have C1 := Lib.hid (fun W (k : Below w.heap.size w W) => objMay_any (h.then k))
  rw [textR_bad hr]
  clear h
  generalize faultP o true = r at *
  go_enter Tryd.func6, Tryd.ntmps6
  go_wp2_with (go_at_call 11; ((with_reducible refine (C1.out _ (bAl hb _)).mono ?_); rintro e w1 ⟨rfl, k⟩; replace hb := bThen (bAl hb _) k))
  go_ret2
  exact ⟨rfl, hb⟩
set_option maxHeartbeats 8000000 in
theorem text_ok {o : Ob} {w : World} (h : Meets o w) (SM : Small o) (hp : Pow w) (hr : faultP o true = 0) : Calls Tryd.prog 6 #[ob o] w fun e w' => e = .returned (textR o) ∧ Below w.heap.size w w' := by
  have hb : Below w.heap.size w w := Below.refl _ _
  have C1 := Lib.hid (fun W (k : Below w.heap.size w W) => hr ▸ objMay_any (h.then k))
  have CW := Lib.hid (fun W (k : Below w.heap.size w W) => wordB_any o.kind W h.kind (h.words.then k))
  have CF := fun W => Lib.hid (fields_any W)
  have HP := Lib.hid hp
  have h1 := h.typ
  have h5 := h.digits
  have h11 := h.assoc
  rw [textR_ok hr]
  clear h hp
  go_enter Tryd.func6, Tryd.ntmps6
  go_wp2_with fail
  go_at_call 11
  with_reducible refine (C1.out _ (bAl hb _)).mono ?_
  rintro e W0 ⟨rfl, k⟩
  have mO := (AtC.new w (obCells o) 23).then k
  replace hb := bThen (bAl hb _) k
  clear k C1
  go_wp2_with fail
  refine wp_region_held_drew (S := fun w' => (∀ i, w'.cell? ⟨w.heap.size, i, none⟩ = (obCells o)[i]?) ∧ Below W0.heap.size W0 w') (by kernel_rfl) ⟨(mO.drew1).c, (Below.refl _ _).drew⟩ (fun hHeld0 => ?_)
  refine wpAnyH_take (i := 0) (oi := { dst := some 13, op := Op.fieldAddr 23 (Operand.tmp 1) 1, type := 0, pos := "object.go:133", after := #[], guard := none }) (v := ?vvr1n0) rfl (by kernel_rfl) (by kernel_rfl) (by kernel_rfl) (fun _ _ _ h => h) (Or.inl ⟨by rfl, ?hyr1n0⟩) (by assumption) ?restr1n0
  case hyr1n0 => (intro w hSw; (try dsimp only at hSw); go_simp; try with_reducible rfl)
  simp only [Act.put, List.setIfInBounds_toArray, List.set_cons_zero, List.set_cons_succ]
  refine wpAnyH_take (i := 1) (oi := { dst := some 14, op := Op.load 5 (Operand.tmp 13), type := 5, pos := "object.go:133", after := #[{ on := 0, ground := Ground.data }], guard := none }) (v := ?vvr1n1) rfl (by kernel_rfl) (by kernel_rfl) (by kernel_rfl) (fun _ _ _ h => h) (Or.inl ⟨by rfl, ?hyr1n1⟩) (by assumption) ?restr1n1
  case hyr1n1 => (intro w hSw; (try dsimp only at hSw); go_simp; try with_reducible rfl)
  simp only [Act.put, List.setIfInBounds_toArray, List.set_cons_zero, List.set_cons_succ]
  refine wpAnyH_take (i := 3) (oi := { dst := some 16, op := Op.fieldAddr 23 (Operand.tmp 1) 0, type := 0, pos := "object.go:133", after := #[], guard := none }) (v := ?vvr1n3) rfl (by kernel_rfl) (by kernel_rfl) (by kernel_rfl) (fun _ _ _ h => h) (Or.inl ⟨by rfl, ?hyr1n3⟩) (by assumption) ?restr1n3
  case hyr1n3 => (intro w hSw; (try dsimp only at hSw); go_simp; try with_reducible rfl)
  simp only [Act.put, List.setIfInBounds_toArray, List.set_cons_zero, List.set_cons_succ]
  refine wpAnyH_take (i := 4) (oi := { dst := some 17, op := Op.load 9 (Operand.tmp 16), type := 9, pos := "object.go:133", after := #[{ on := 3, ground := Ground.data }], guard := none }) (v := ?vvr1n4) rfl (by kernel_rfl) (by kernel_rfl) (by kernel_rfl) (fun _ _ _ h => h) (Or.inl ⟨by rfl, ?hyr1n4⟩) (by assumption) ?restr1n4
  case hyr1n4 => (intro w hSw; (try dsimp only at hSw); go_simp; try with_reducible rfl)
  simp only [Act.put, List.setIfInBounds_toArray, List.set_cons_zero, List.set_cons_succ]
  refine wpAnyH_ready (rs := [2]) (by kernel_rfl) (by simp) ?_
  refine AllReadyH.cons (o := { dst := some 15, op := Op.call { callee := Callee.value (Operand.func 12), args := #[Operand.tmp 14], argTypes := #[5] }, type := 9, pos := "object.go:133", after := #[{ on := 1, ground := Ground.data }], guard := none }) rfl (fun K hK => ?_) AllReadyH.nil
  go_simp
  refine (CW.out _ (bThen hb hHeld0.2)).mono ?_
  rintro e w3 ⟨rfl, k3⟩
  go_wp2_with fail
  refine hK.out _ _ ⟨(mO.then (keepD hHeld0 k3)).c, keepD hHeld0 k3⟩ (fun hHeld1 => ?_)
  clear hK K hHeld0
  try simp only [Act.put, List.setIfInBounds_toArray, List.set_cons_zero, List.set_cons_succ]
  refine wpAnyH_ready (rs := [5]) (by kernel_rfl) (by simp) ?_
  refine AllReadyH.cons (o := { dst := some 18, op := Op.buildSlice 38 2 #[(0, Operand.tmp 15), (1, Operand.tmp 17)], type := 38, pos := "object.go:133", after := #[{ on := 2, ground := Ground.data }, { on := 4, ground := Ground.data }], guard := none }) rfl (fun K hK => ?_) AllReadyH.nil
  go_simp
  refine hK.out _ _ ⟨((mO.then hHeld1.2).al _).c, hHeld1.2.alloc hHeld1.2.size _⟩ (fun hHeld2 => ?_)
  clear hK K hHeld1
  try simp only [Act.put, List.setIfInBounds_toArray, List.set_cons_zero, List.set_cons_succ]
  refine wpAnyH_take (i := 6) (oi := { dst := some 5, op := Op.assign (Operand.tmp 18), type := 38, pos := "object.go:133", after := #[{ on := 5, ground := Ground.data }, { on := 2, ground := Ground.chain }, { on := 0, ground := Ground.phase }, { on := 1, ground := Ground.phase }, { on := 2, ground := Ground.phase }, { on := 3, ground := Ground.phase }, { on := 4, ground := Ground.phase }, { on := 5, ground := Ground.phase }], guard := none }) (v := ?vvr1n6) rfl (by kernel_rfl) (by kernel_rfl) (by kernel_rfl) (fun _ _ _ h => h) (Or.inl ⟨by rfl, ?hyr1n6⟩) (by assumption) ?restr1n6
  case hyr1n6 => (intro w hSw; (try dsimp only at hSw); go_simp; try with_reducible rfl)
  simp only [Act.put, List.setIfInBounds_toArray, List.set_cons_zero, List.set_cons_succ]
  refine wpAnyH_done (by kernel_rfl) ?_ _
  have q3 : Below W0.heap.size W0 w3 := (Below.refl _ _).drew.trans k3
  replace mO := mO.then q3
  replace hb := bThen hb q3
  have HO := Lib.hid (OwnS.lit2 w3 (w.heap.size + 1) (wordOf o.kind).data.toList o.handle.data.toList mO.lt)
  have mO2 := mO.al (.cells #[.string (wordOf o.kind), .string o.handle] 9)
  have hb2 := bAl hb (.cells #[.string (wordOf o.kind), .string o.handle] 9)
  clear hHeld2 k3 q3 mO hb CW
  go_wp2_with (go_at_call 13; ((with_reducible refine (CF _).out.mono ?_); rintro e w4 ⟨rfl, k4⟩; have mO := mO2.then k4; have hb := bThen hb2 k4; have HO4 := Lib.hid (HO.out.below k4)))
  clear mO2 hb2 HO k4 CF
  go_loopw [5, 20] (fun v i wr => ∃ k : Nat, k ≤ 12 ∧ i = .int .i64 k ∧ Hid (OwnS wr (w.heap.size + 1) v (piecesTo o k)) ∧ AtC wr w.heap.size (obCells o) ∧ Below w.heap.size w wr) (fun _ i _ => 12 - (intOf i).toNat)
  case atStart => exact ⟨0, by omega, rfl, HO4, mO, hb⟩
  case round =>
    clear hb mO HO4
    obtain ⟨k, hk, rfl, HO, mO, hb⟩ := hrel
    by_cases hlt : k < 12
    · rcases (show k = 0 ∨ k = 1 ∨ k = 2 ∨ k = 3 ∨ k = 4 ∨ k = 5 ∨ k = 6 ∨ k = 7 ∨ k = 8 ∨ k = 9 ∨ k = 10 ∨ k = 11 by omega) with rfl | rfl | rfl | rfl | rfl | rfl | rfl | rfl | rfl | rfl | rfl | rfl
      · have C := Lib.hid (fun W h => zero0 o w.heap.size W h)
        have I := idx0
        have HM := Lib.hid (show piecesTo o (0 + 1) = if o.parent.toList.isEmpty then piecesTo o 0 else piecesTo o 0 ++ [pieceL o 0] from rfl)
        have CT := fun W (m : AtC W w.heap.size (obCells o)) (k : Below w.heap.size w W) => Lib.hid (ftext0 o w.heap.size W m (HP.out.then k))
        have HS := Lib.hid (show (ftext o 0).size ≤ 1000 from ftext_len SM 0 (by omega))
        have HE : (⟨#[112, 97, 114, 101, 110, 116]⟩ : ByteArray) ++ ⟨#[61]⟩ ++ ftext o 0 = ⟨(pieceL o 0).toArray⟩ := ByteArray.ext (by rw [ByteArray.data_append, ByteArray.data_append]; apply Array.toList_inj.1; simp [pieceL, fnameL])
        have HQ := Lib.hid (fun q hq => HO.out.lt q hq)
        have HL := Lib.hid (show (piecesTo o 0).length ≤ 1000000 from Nat.le_trans (pieces_len o 0).2 (by decide))
        generalize o.parent.toList.isEmpty = z at *
        generalize piecesTo o 0 = ps at *
        generalize pieceL o 0 = pc at *
        generalize ftext o 0 = tx at *
        clear hlt hk h1 h5 h11 SM hr HP
        cases z
        · go_wp2_with (go_at_call 14; ((with_reducible refine (C.out _ (mO.al _)).mono ?_); rintro e w2 ⟨rfl, k3⟩; have mF := (AtC.new _ _ _).then k3; replace HO := Lib.hid (HO.out.below (bThen (bAl (Below.refl _ _) _) k3)); replace mO := (mO.al _).then k3; replace hb := bThen (bAl hb _) k3))
          clear k3 C
          refine wp_region_held_drew (S := fun w' => AtC w' wr.heap.size #[.int .u16 1, .string ⟨#[112, 97, 114, 101, 110, 116]⟩, .func (.func 28) #[] #[], .nilFunc, .nilFunc, .nilFunc] ∧ AtC w' w.heap.size (obCells o)) (by kernel_rfl) ⟨mF.drew1, mO.drew1⟩ (fun hHeld0 => ?_)
          refine wpAnyH_take (i := 0) (oi := { dst := some 26, op := Op.move (Operand.tmp 5), type := 38, pos := "object.go:136", after := #[], guard := none }) (v := ?vvr2n0) rfl (by kernel_rfl) (by kernel_rfl) (by kernel_rfl) (fun _ _ _ h => h) (Or.inl ⟨by rfl, ?hyr2n0⟩) (by assumption) ?restr2n0
          case hyr2n0 => (intro w hSw; (try dsimp only at hSw); have fc := hSw.1.c; have oc := hSw.2.c; go_simp; try with_reducible rfl)
          simp only [Act.put, List.setIfInBounds_toArray, List.set_cons_zero, List.set_cons_succ]
          refine wpAnyH_take (i := 1) (oi := { dst := some 27, op := Op.fieldAddr 46 (Operand.tmp 7) 1, type := 0, pos := "object.go:136", after := #[], guard := none }) (v := ?vvr2n1) rfl (by kernel_rfl) (by kernel_rfl) (by kernel_rfl) (fun _ _ _ h => h) (Or.inl ⟨by rfl, ?hyr2n1⟩) (by assumption) ?restr2n1
          case hyr2n1 => (intro w hSw; (try dsimp only at hSw); have fc := hSw.1.c; have oc := hSw.2.c; go_simp; try with_reducible rfl)
          simp only [Act.put, List.setIfInBounds_toArray, List.set_cons_zero, List.set_cons_succ]
          refine wpAnyH_take (i := 2) (oi := { dst := some 28, op := Op.load 9 (Operand.tmp 27), type := 9, pos := "object.go:136", after := #[{ on := 1, ground := Ground.data }], guard := none }) (v := ?vvr2n2) rfl (by kernel_rfl) (by kernel_rfl) (by kernel_rfl) (fun _ _ _ h => h) (Or.inl ⟨by rfl, ?hyr2n2⟩) (by assumption) ?restr2n2
          case hyr2n2 => (intro w hSw; (try dsimp only at hSw); have fc := hSw.1.c; have oc := hSw.2.c; go_simp; try with_reducible rfl)
          simp only [Act.put, List.setIfInBounds_toArray, List.set_cons_zero, List.set_cons_succ]
          refine wpAnyH_take (i := 3) (oi := { dst := some 29, op := Op.binOp BinOp.add 9 (Operand.tmp 28) (Operand.const (Value.string { data := #[61] })) 9, type := 9, pos := "object.go:136", after := #[{ on := 2, ground := Ground.data }], guard := none }) (v := ?vvr2n3) rfl (by kernel_rfl) (by kernel_rfl) (by kernel_rfl) (fun _ _ _ h => h) (Or.inl ⟨by rfl, ?hyr2n3⟩) (by assumption) ?restr2n3
          case hyr2n3 => (intro w hSw; (try dsimp only at hSw); have fc := hSw.1.c; have oc := hSw.2.c; go_simp; try with_reducible rfl)
          simp only [Act.put, List.setIfInBounds_toArray, List.set_cons_zero, List.set_cons_succ]
          refine wpAnyH_take (i := 4) (oi := { dst := some 30, op := Op.load 46 (Operand.tmp 7), type := 46, pos := "object.go:136", after := #[], guard := none }) (v := ?vvr2n4) rfl (by kernel_rfl) (by kernel_rfl) (by kernel_rfl) (fun _ _ _ h => h) (Or.inl ⟨by rfl, ?hyr2n4⟩) (by assumption) ?restr2n4
          case hyr2n4 => (intro w hSw; (try dsimp only at hSw); have fc := hSw.1.c; have oc := hSw.2.c; go_simp; try with_reducible rfl)
          simp only [Act.put, List.setIfInBounds_toArray, List.set_cons_zero, List.set_cons_succ]
          refine wpAnyH_ready (rs := [5]) (by kernel_rfl) (by simp) ?_
          refine AllReadyH.cons (o := { dst := some 31, op := Op.call { callee := Callee.value (Operand.func 15), args := #[Operand.tmp 30, Operand.tmp 1], argTypes := #[46, 50] }, type := 9, pos := "object.go:136", after := #[{ on := 4, ground := Ground.data }], guard := none }) rfl (fun K hK => ?_) AllReadyH.nil
          go_simp
          refine (CT _ hHeld0.2 hb.drew).out.mono ?_
          rintro e w3 ⟨rfl, k3⟩
          go_wp2_with fail
          refine hK.out _ _ ⟨hHeld0.1.then k3, hHeld0.2.then k3⟩ (fun hHeld1 => ?_)
          clear hK K hHeld0
          try simp only [Act.put, List.setIfInBounds_toArray, List.set_cons_zero, List.set_cons_succ]
          refine wpAnyH_take (i := 6) (oi := { dst := some 32, op := Op.binOp BinOp.add 9 (Operand.tmp 29) (Operand.tmp 31) 9, type := 9, pos := "object.go:136", after := #[{ on := 3, ground := Ground.data }, { on := 5, ground := Ground.data }], guard := none }) (v := str pc) rfl (by kernel_rfl) (by kernel_rfl) (by kernel_rfl) (fun _ _ _ h => h) (Or.inl ⟨by rfl, ?hyr2n6⟩) (by assumption) ?restr2n6
          case hyr2n6 => (intro w hSw; (try dsimp only at hSw); have fc := hSw.1.c; have oc := hSw.2.c; go_simp; have := HS.out; omega)
          simp only [Act.put, List.setIfInBounds_toArray, List.set_cons_zero, List.set_cons_succ]
          refine wpAnyH_ready (rs := [7]) (by kernel_rfl) (by simp) ?_
          refine AllReadyH.cons (o := { dst := some 33, op := Op.buildSlice 38 1 #[(0, Operand.tmp 32)], type := 38, pos := "object.go:136", after := #[{ on := 6, ground := Ground.data }], guard := none }) rfl (fun K hK => ?_) AllReadyH.nil
          go_simp
          refine hK.out _ _ ⟨hHeld1.1.al _, hHeld1.2.al _⟩ (fun hHeld2 => ?_)
          clear hK K hHeld1
          try simp only [Act.put, List.setIfInBounds_toArray, List.set_cons_zero, List.set_cons_succ]
          refine wpAnyH_ready (rs := [8]) (by kernel_rfl) (by simp) ?_
          refine AllReadyH.cons (o := { dst := some 34, op := Op.call { callee := Callee.builtin Builtin.append, args := #[Operand.tmp 26, Operand.tmp 33], argTypes := #[38, 38] }, type := 38, pos := "object.go:136", after := #[{ on := 0, ground := Ground.data }, { on := 7, ground := Ground.data }, { on := 5, ground := Ground.chain }], guard := none }) rfl (fun K hK => ?_) AllReadyH.nil
          refine step_one rfl _ _ rfl (w.heap.size + 1) _ ps rfl (HO.out.below ((Below.refl _ _).drew.trans (k3.mono (Nat.le_refl _)) |>.alloc (by have := k3.size; simpa using this) _)) w3.heap.size 1 pc rfl (by simp) HL.out hHeld2.2.lt ?_
          intro v5 w5 o5 g5
          refine hK.out _ _ ⟨AtC.grown hHeld2.1 g5 (fun q hq => by have := HQ.out q hq; omega), AtC.grown hHeld2.2 g5 (fun q hq => by have := HQ.out q hq; omega)⟩ (fun hHeld3 => ?_)
          clear hK K hHeld2
          try simp only [Act.put, List.setIfInBounds_toArray, List.set_cons_zero, List.set_cons_succ]
          refine wpAnyH_take (i := 9) (oi := { dst := some 5, op := Op.assign (Operand.tmp 34), type := 38, pos := "object.go:136", after := #[{ on := 8, ground := Ground.data }, { on := 8, ground := Ground.chain }, { on := 0, ground := Ground.phase }, { on := 1, ground := Ground.phase }, { on := 2, ground := Ground.phase }, { on := 3, ground := Ground.phase }, { on := 4, ground := Ground.phase }, { on := 5, ground := Ground.phase }, { on := 6, ground := Ground.phase }, { on := 7, ground := Ground.phase }, { on := 8, ground := Ground.phase }], guard := none }) (v := ?vvr2n9) rfl (by kernel_rfl) (by kernel_rfl) (by kernel_rfl) (fun _ _ _ h => h) (Or.inl ⟨by rfl, ?hyr2n9⟩) (by assumption) ?restr2n9
          case hyr2n9 => (intro w hSw; (try dsimp only at hSw); have fc := hSw.1.c; have oc := hSw.2.c; go_simp; try with_reducible rfl)
          simp only [Act.put, List.setIfInBounds_toArray, List.set_cons_zero, List.set_cons_succ]
          refine wpAnyH_done (by kernel_rfl) ?_ _
          go_wp2_with fail
          go_roundw
          case rel => exact ⟨1, by omega, rfl, Lib.hid (by rw [HM.out]; exact o5), hHeld3.2, (((hb.drew.trans (k3.mono hb.size)).alloc (Nat.le_trans hb.size k3.size) _).grown g5 (by have a1 := k3.size; have a2 := hb.size; simp at a1 ⊢; omega) (fun q hq => by have := HQ.out q hq; omega))⟩
          case measure => simp [intOf]
        · go_wp2_with (go_at_call 14; ((with_reducible refine (C.out _ (mO.al _)).mono ?_); rintro e w2 ⟨rfl, k3⟩; replace HO := Lib.hid (HO.out.below (bThen (bAl (Below.refl _ _) _) k3)); replace mO := (mO.al _).then k3; replace hb := bThen (bAl hb _) k3))
          go_roundw
          case rel => exact ⟨1, by omega, rfl, Lib.hid (by rw [HM.out]; exact HO.out), mO, hb⟩
          case measure => simp [intOf]
      · have C := Lib.hid (fun W h => zero1 o w.heap.size W h h1)
        have I := idx1
        have HM := Lib.hid (show piecesTo o (1 + 1) = if ((o.typ : Int) == 0) then piecesTo o 1 else piecesTo o 1 ++ [pieceL o 1] from rfl)
        have CT := fun W (m : AtC W w.heap.size (obCells o)) (k : Below w.heap.size w W) => Lib.hid (ftext1 o w.heap.size W m (HP.out.then k) h1)
        have HS := Lib.hid (show (ftext o 1).size ≤ 1000 from ftext_len SM 1 (by omega))
        have HE : (⟨#[116, 121, 112, 101]⟩ : ByteArray) ++ ⟨#[61]⟩ ++ ftext o 1 = ⟨(pieceL o 1).toArray⟩ := ByteArray.ext (by rw [ByteArray.data_append, ByteArray.data_append]; apply Array.toList_inj.1; simp [pieceL, fnameL])
        have HQ := Lib.hid (fun q hq => HO.out.lt q hq)
        have HL := Lib.hid (show (piecesTo o 1).length ≤ 1000000 from Nat.le_trans (pieces_len o 1).2 (by decide))
        generalize ((o.typ : Int) == 0) = z at *
        generalize piecesTo o 1 = ps at *
        generalize pieceL o 1 = pc at *
        generalize ftext o 1 = tx at *
        clear hlt hk h1 h5 h11 SM hr HP
        cases z
        · go_wp2_with (go_at_call 14; ((with_reducible refine (C.out _ (mO.al _)).mono ?_); rintro e w2 ⟨rfl, k3⟩; have mF := (AtC.new _ _ _).then k3; replace HO := Lib.hid (HO.out.below (bThen (bAl (Below.refl _ _) _) k3)); replace mO := (mO.al _).then k3; replace hb := bThen (bAl hb _) k3))
          clear k3 C
          refine wp_region_held_drew (S := fun w' => AtC w' wr.heap.size #[.int .u16 2, .string ⟨#[116, 121, 112, 101]⟩, .nilFunc, .nilFunc, .func (.func 29) #[] #[], .nilFunc] ∧ AtC w' w.heap.size (obCells o)) (by kernel_rfl) ⟨mF.drew1, mO.drew1⟩ (fun hHeld0 => ?_)
          refine wpAnyH_take (i := 0) (oi := { dst := some 26, op := Op.move (Operand.tmp 5), type := 38, pos := "object.go:136", after := #[], guard := none }) (v := ?vvr3n0) rfl (by kernel_rfl) (by kernel_rfl) (by kernel_rfl) (fun _ _ _ h => h) (Or.inl ⟨by rfl, ?hyr3n0⟩) (by assumption) ?restr3n0
          case hyr3n0 => (intro w hSw; (try dsimp only at hSw); have fc := hSw.1.c; have oc := hSw.2.c; go_simp; try with_reducible rfl)
          simp only [Act.put, List.setIfInBounds_toArray, List.set_cons_zero, List.set_cons_succ]
          refine wpAnyH_take (i := 1) (oi := { dst := some 27, op := Op.fieldAddr 46 (Operand.tmp 7) 1, type := 0, pos := "object.go:136", after := #[], guard := none }) (v := ?vvr3n1) rfl (by kernel_rfl) (by kernel_rfl) (by kernel_rfl) (fun _ _ _ h => h) (Or.inl ⟨by rfl, ?hyr3n1⟩) (by assumption) ?restr3n1
          case hyr3n1 => (intro w hSw; (try dsimp only at hSw); have fc := hSw.1.c; have oc := hSw.2.c; go_simp; try with_reducible rfl)
          simp only [Act.put, List.setIfInBounds_toArray, List.set_cons_zero, List.set_cons_succ]
          refine wpAnyH_take (i := 2) (oi := { dst := some 28, op := Op.load 9 (Operand.tmp 27), type := 9, pos := "object.go:136", after := #[{ on := 1, ground := Ground.data }], guard := none }) (v := ?vvr3n2) rfl (by kernel_rfl) (by kernel_rfl) (by kernel_rfl) (fun _ _ _ h => h) (Or.inl ⟨by rfl, ?hyr3n2⟩) (by assumption) ?restr3n2
          case hyr3n2 => (intro w hSw; (try dsimp only at hSw); have fc := hSw.1.c; have oc := hSw.2.c; go_simp; try with_reducible rfl)
          simp only [Act.put, List.setIfInBounds_toArray, List.set_cons_zero, List.set_cons_succ]
          refine wpAnyH_take (i := 3) (oi := { dst := some 29, op := Op.binOp BinOp.add 9 (Operand.tmp 28) (Operand.const (Value.string { data := #[61] })) 9, type := 9, pos := "object.go:136", after := #[{ on := 2, ground := Ground.data }], guard := none }) (v := ?vvr3n3) rfl (by kernel_rfl) (by kernel_rfl) (by kernel_rfl) (fun _ _ _ h => h) (Or.inl ⟨by rfl, ?hyr3n3⟩) (by assumption) ?restr3n3
          case hyr3n3 => (intro w hSw; (try dsimp only at hSw); have fc := hSw.1.c; have oc := hSw.2.c; go_simp; try with_reducible rfl)
          simp only [Act.put, List.setIfInBounds_toArray, List.set_cons_zero, List.set_cons_succ]
          refine wpAnyH_take (i := 4) (oi := { dst := some 30, op := Op.load 46 (Operand.tmp 7), type := 46, pos := "object.go:136", after := #[], guard := none }) (v := ?vvr3n4) rfl (by kernel_rfl) (by kernel_rfl) (by kernel_rfl) (fun _ _ _ h => h) (Or.inl ⟨by rfl, ?hyr3n4⟩) (by assumption) ?restr3n4
          case hyr3n4 => (intro w hSw; (try dsimp only at hSw); have fc := hSw.1.c; have oc := hSw.2.c; go_simp; try with_reducible rfl)
          simp only [Act.put, List.setIfInBounds_toArray, List.set_cons_zero, List.set_cons_succ]
          refine wpAnyH_ready (rs := [5]) (by kernel_rfl) (by simp) ?_
          refine AllReadyH.cons (o := { dst := some 31, op := Op.call { callee := Callee.value (Operand.func 15), args := #[Operand.tmp 30, Operand.tmp 1], argTypes := #[46, 50] }, type := 9, pos := "object.go:136", after := #[{ on := 4, ground := Ground.data }], guard := none }) rfl (fun K hK => ?_) AllReadyH.nil
          go_simp
          refine (CT _ hHeld0.2 hb.drew).out.mono ?_
          rintro e w3 ⟨rfl, k3⟩
          go_wp2_with fail
          refine hK.out _ _ ⟨hHeld0.1.then k3, hHeld0.2.then k3⟩ (fun hHeld1 => ?_)
          clear hK K hHeld0
          try simp only [Act.put, List.setIfInBounds_toArray, List.set_cons_zero, List.set_cons_succ]
          refine wpAnyH_take (i := 6) (oi := { dst := some 32, op := Op.binOp BinOp.add 9 (Operand.tmp 29) (Operand.tmp 31) 9, type := 9, pos := "object.go:136", after := #[{ on := 3, ground := Ground.data }, { on := 5, ground := Ground.data }], guard := none }) (v := str pc) rfl (by kernel_rfl) (by kernel_rfl) (by kernel_rfl) (fun _ _ _ h => h) (Or.inl ⟨by rfl, ?hyr3n6⟩) (by assumption) ?restr3n6
          case hyr3n6 => (intro w hSw; (try dsimp only at hSw); have fc := hSw.1.c; have oc := hSw.2.c; go_simp; have := HS.out; omega)
          simp only [Act.put, List.setIfInBounds_toArray, List.set_cons_zero, List.set_cons_succ]
          refine wpAnyH_ready (rs := [7]) (by kernel_rfl) (by simp) ?_
          refine AllReadyH.cons (o := { dst := some 33, op := Op.buildSlice 38 1 #[(0, Operand.tmp 32)], type := 38, pos := "object.go:136", after := #[{ on := 6, ground := Ground.data }], guard := none }) rfl (fun K hK => ?_) AllReadyH.nil
          go_simp
          refine hK.out _ _ ⟨hHeld1.1.al _, hHeld1.2.al _⟩ (fun hHeld2 => ?_)
          clear hK K hHeld1
          try simp only [Act.put, List.setIfInBounds_toArray, List.set_cons_zero, List.set_cons_succ]
          refine wpAnyH_ready (rs := [8]) (by kernel_rfl) (by simp) ?_
          refine AllReadyH.cons (o := { dst := some 34, op := Op.call { callee := Callee.builtin Builtin.append, args := #[Operand.tmp 26, Operand.tmp 33], argTypes := #[38, 38] }, type := 38, pos := "object.go:136", after := #[{ on := 0, ground := Ground.data }, { on := 7, ground := Ground.data }, { on := 5, ground := Ground.chain }], guard := none }) rfl (fun K hK => ?_) AllReadyH.nil
          refine step_one rfl _ _ rfl (w.heap.size + 1) _ ps rfl (HO.out.below ((Below.refl _ _).drew.trans (k3.mono (Nat.le_refl _)) |>.alloc (by have := k3.size; simpa using this) _)) w3.heap.size 1 pc rfl (by simp) HL.out hHeld2.2.lt ?_
          intro v5 w5 o5 g5
          refine hK.out _ _ ⟨AtC.grown hHeld2.1 g5 (fun q hq => by have := HQ.out q hq; omega), AtC.grown hHeld2.2 g5 (fun q hq => by have := HQ.out q hq; omega)⟩ (fun hHeld3 => ?_)
          clear hK K hHeld2
          try simp only [Act.put, List.setIfInBounds_toArray, List.set_cons_zero, List.set_cons_succ]
          refine wpAnyH_take (i := 9) (oi := { dst := some 5, op := Op.assign (Operand.tmp 34), type := 38, pos := "object.go:136", after := #[{ on := 8, ground := Ground.data }, { on := 8, ground := Ground.chain }, { on := 0, ground := Ground.phase }, { on := 1, ground := Ground.phase }, { on := 2, ground := Ground.phase }, { on := 3, ground := Ground.phase }, { on := 4, ground := Ground.phase }, { on := 5, ground := Ground.phase }, { on := 6, ground := Ground.phase }, { on := 7, ground := Ground.phase }, { on := 8, ground := Ground.phase }], guard := none }) (v := ?vvr3n9) rfl (by kernel_rfl) (by kernel_rfl) (by kernel_rfl) (fun _ _ _ h => h) (Or.inl ⟨by rfl, ?hyr3n9⟩) (by assumption) ?restr3n9
          case hyr3n9 => (intro w hSw; (try dsimp only at hSw); have fc := hSw.1.c; have oc := hSw.2.c; go_simp; try with_reducible rfl)
          simp only [Act.put, List.setIfInBounds_toArray, List.set_cons_zero, List.set_cons_succ]
          refine wpAnyH_done (by kernel_rfl) ?_ _
          go_wp2_with fail
          go_roundw
          case rel => exact ⟨2, by omega, rfl, Lib.hid (by rw [HM.out]; exact o5), hHeld3.2, (((hb.drew.trans (k3.mono hb.size)).alloc (Nat.le_trans hb.size k3.size) _).grown g5 (by have a1 := k3.size; have a2 := hb.size; simp at a1 ⊢; omega) (fun q hq => by have := HQ.out q hq; omega))⟩
          case measure => simp [intOf]
        · go_wp2_with (go_at_call 14; ((with_reducible refine (C.out _ (mO.al _)).mono ?_); rintro e w2 ⟨rfl, k3⟩; replace HO := Lib.hid (HO.out.below (bThen (bAl (Below.refl _ _) _) k3)); replace mO := (mO.al _).then k3; replace hb := bThen (bAl hb _) k3))
          go_roundw
          case rel => exact ⟨2, by omega, rfl, Lib.hid (by rw [HM.out]; exact HO.out), mO, hb⟩
          case measure => simp [intOf]
      · have C := Lib.hid (fun W h => zero2 o w.heap.size W h)
        have I := idx2
        have HM := Lib.hid (show piecesTo o (2 + 1) = if o.ref.toList.isEmpty then piecesTo o 2 else piecesTo o 2 ++ [pieceL o 2] from rfl)
        have CT := fun W (m : AtC W w.heap.size (obCells o)) (k : Below w.heap.size w W) => Lib.hid (ftext2 o w.heap.size W m (HP.out.then k))
        have HS := Lib.hid (show (ftext o 2).size ≤ 1000 from ftext_len SM 2 (by omega))
        have HE : (⟨#[114, 101, 102]⟩ : ByteArray) ++ ⟨#[61]⟩ ++ ftext o 2 = ⟨(pieceL o 2).toArray⟩ := ByteArray.ext (by rw [ByteArray.data_append, ByteArray.data_append]; apply Array.toList_inj.1; simp [pieceL, fnameL])
        have HQ := Lib.hid (fun q hq => HO.out.lt q hq)
        have HL := Lib.hid (show (piecesTo o 2).length ≤ 1000000 from Nat.le_trans (pieces_len o 2).2 (by decide))
        generalize o.ref.toList.isEmpty = z at *
        generalize piecesTo o 2 = ps at *
        generalize pieceL o 2 = pc at *
        generalize ftext o 2 = tx at *
        clear hlt hk h1 h5 h11 SM hr HP
        cases z
        · go_wp2_with (go_at_call 14; ((with_reducible refine (C.out _ (mO.al _)).mono ?_); rintro e w2 ⟨rfl, k3⟩; have mF := (AtC.new _ _ _).then k3; replace HO := Lib.hid (HO.out.below (bThen (bAl (Below.refl _ _) _) k3)); replace mO := (mO.al _).then k3; replace hb := bThen (bAl hb _) k3))
          clear k3 C
          refine wp_region_held_drew (S := fun w' => AtC w' wr.heap.size #[.int .u16 4, .string ⟨#[114, 101, 102]⟩, .func (.func 30) #[] #[], .nilFunc, .nilFunc, .nilFunc] ∧ AtC w' w.heap.size (obCells o)) (by kernel_rfl) ⟨mF.drew1, mO.drew1⟩ (fun hHeld0 => ?_)
          refine wpAnyH_take (i := 0) (oi := { dst := some 26, op := Op.move (Operand.tmp 5), type := 38, pos := "object.go:136", after := #[], guard := none }) (v := ?vvr4n0) rfl (by kernel_rfl) (by kernel_rfl) (by kernel_rfl) (fun _ _ _ h => h) (Or.inl ⟨by rfl, ?hyr4n0⟩) (by assumption) ?restr4n0
          case hyr4n0 => (intro w hSw; (try dsimp only at hSw); have fc := hSw.1.c; have oc := hSw.2.c; go_simp; try with_reducible rfl)
          simp only [Act.put, List.setIfInBounds_toArray, List.set_cons_zero, List.set_cons_succ]
          refine wpAnyH_take (i := 1) (oi := { dst := some 27, op := Op.fieldAddr 46 (Operand.tmp 7) 1, type := 0, pos := "object.go:136", after := #[], guard := none }) (v := ?vvr4n1) rfl (by kernel_rfl) (by kernel_rfl) (by kernel_rfl) (fun _ _ _ h => h) (Or.inl ⟨by rfl, ?hyr4n1⟩) (by assumption) ?restr4n1
          case hyr4n1 => (intro w hSw; (try dsimp only at hSw); have fc := hSw.1.c; have oc := hSw.2.c; go_simp; try with_reducible rfl)
          simp only [Act.put, List.setIfInBounds_toArray, List.set_cons_zero, List.set_cons_succ]
          refine wpAnyH_take (i := 2) (oi := { dst := some 28, op := Op.load 9 (Operand.tmp 27), type := 9, pos := "object.go:136", after := #[{ on := 1, ground := Ground.data }], guard := none }) (v := ?vvr4n2) rfl (by kernel_rfl) (by kernel_rfl) (by kernel_rfl) (fun _ _ _ h => h) (Or.inl ⟨by rfl, ?hyr4n2⟩) (by assumption) ?restr4n2
          case hyr4n2 => (intro w hSw; (try dsimp only at hSw); have fc := hSw.1.c; have oc := hSw.2.c; go_simp; try with_reducible rfl)
          simp only [Act.put, List.setIfInBounds_toArray, List.set_cons_zero, List.set_cons_succ]
          refine wpAnyH_take (i := 3) (oi := { dst := some 29, op := Op.binOp BinOp.add 9 (Operand.tmp 28) (Operand.const (Value.string { data := #[61] })) 9, type := 9, pos := "object.go:136", after := #[{ on := 2, ground := Ground.data }], guard := none }) (v := ?vvr4n3) rfl (by kernel_rfl) (by kernel_rfl) (by kernel_rfl) (fun _ _ _ h => h) (Or.inl ⟨by rfl, ?hyr4n3⟩) (by assumption) ?restr4n3
          case hyr4n3 => (intro w hSw; (try dsimp only at hSw); have fc := hSw.1.c; have oc := hSw.2.c; go_simp; try with_reducible rfl)
          simp only [Act.put, List.setIfInBounds_toArray, List.set_cons_zero, List.set_cons_succ]
          refine wpAnyH_take (i := 4) (oi := { dst := some 30, op := Op.load 46 (Operand.tmp 7), type := 46, pos := "object.go:136", after := #[], guard := none }) (v := ?vvr4n4) rfl (by kernel_rfl) (by kernel_rfl) (by kernel_rfl) (fun _ _ _ h => h) (Or.inl ⟨by rfl, ?hyr4n4⟩) (by assumption) ?restr4n4
          case hyr4n4 => (intro w hSw; (try dsimp only at hSw); have fc := hSw.1.c; have oc := hSw.2.c; go_simp; try with_reducible rfl)
          simp only [Act.put, List.setIfInBounds_toArray, List.set_cons_zero, List.set_cons_succ]
          refine wpAnyH_ready (rs := [5]) (by kernel_rfl) (by simp) ?_
          refine AllReadyH.cons (o := { dst := some 31, op := Op.call { callee := Callee.value (Operand.func 15), args := #[Operand.tmp 30, Operand.tmp 1], argTypes := #[46, 50] }, type := 9, pos := "object.go:136", after := #[{ on := 4, ground := Ground.data }], guard := none }) rfl (fun K hK => ?_) AllReadyH.nil
          go_simp
          refine (CT _ hHeld0.2 hb.drew).out.mono ?_
          rintro e w3 ⟨rfl, k3⟩
          go_wp2_with fail
          refine hK.out _ _ ⟨hHeld0.1.then k3, hHeld0.2.then k3⟩ (fun hHeld1 => ?_)
          clear hK K hHeld0
          try simp only [Act.put, List.setIfInBounds_toArray, List.set_cons_zero, List.set_cons_succ]
          refine wpAnyH_take (i := 6) (oi := { dst := some 32, op := Op.binOp BinOp.add 9 (Operand.tmp 29) (Operand.tmp 31) 9, type := 9, pos := "object.go:136", after := #[{ on := 3, ground := Ground.data }, { on := 5, ground := Ground.data }], guard := none }) (v := str pc) rfl (by kernel_rfl) (by kernel_rfl) (by kernel_rfl) (fun _ _ _ h => h) (Or.inl ⟨by rfl, ?hyr4n6⟩) (by assumption) ?restr4n6
          case hyr4n6 => (intro w hSw; (try dsimp only at hSw); have fc := hSw.1.c; have oc := hSw.2.c; go_simp; have := HS.out; omega)
          simp only [Act.put, List.setIfInBounds_toArray, List.set_cons_zero, List.set_cons_succ]
          refine wpAnyH_ready (rs := [7]) (by kernel_rfl) (by simp) ?_
          refine AllReadyH.cons (o := { dst := some 33, op := Op.buildSlice 38 1 #[(0, Operand.tmp 32)], type := 38, pos := "object.go:136", after := #[{ on := 6, ground := Ground.data }], guard := none }) rfl (fun K hK => ?_) AllReadyH.nil
          go_simp
          refine hK.out _ _ ⟨hHeld1.1.al _, hHeld1.2.al _⟩ (fun hHeld2 => ?_)
          clear hK K hHeld1
          try simp only [Act.put, List.setIfInBounds_toArray, List.set_cons_zero, List.set_cons_succ]
          refine wpAnyH_ready (rs := [8]) (by kernel_rfl) (by simp) ?_
          refine AllReadyH.cons (o := { dst := some 34, op := Op.call { callee := Callee.builtin Builtin.append, args := #[Operand.tmp 26, Operand.tmp 33], argTypes := #[38, 38] }, type := 38, pos := "object.go:136", after := #[{ on := 0, ground := Ground.data }, { on := 7, ground := Ground.data }, { on := 5, ground := Ground.chain }], guard := none }) rfl (fun K hK => ?_) AllReadyH.nil
          refine step_one rfl _ _ rfl (w.heap.size + 1) _ ps rfl (HO.out.below ((Below.refl _ _).drew.trans (k3.mono (Nat.le_refl _)) |>.alloc (by have := k3.size; simpa using this) _)) w3.heap.size 1 pc rfl (by simp) HL.out hHeld2.2.lt ?_
          intro v5 w5 o5 g5
          refine hK.out _ _ ⟨AtC.grown hHeld2.1 g5 (fun q hq => by have := HQ.out q hq; omega), AtC.grown hHeld2.2 g5 (fun q hq => by have := HQ.out q hq; omega)⟩ (fun hHeld3 => ?_)
          clear hK K hHeld2
          try simp only [Act.put, List.setIfInBounds_toArray, List.set_cons_zero, List.set_cons_succ]
          refine wpAnyH_take (i := 9) (oi := { dst := some 5, op := Op.assign (Operand.tmp 34), type := 38, pos := "object.go:136", after := #[{ on := 8, ground := Ground.data }, { on := 8, ground := Ground.chain }, { on := 0, ground := Ground.phase }, { on := 1, ground := Ground.phase }, { on := 2, ground := Ground.phase }, { on := 3, ground := Ground.phase }, { on := 4, ground := Ground.phase }, { on := 5, ground := Ground.phase }, { on := 6, ground := Ground.phase }, { on := 7, ground := Ground.phase }, { on := 8, ground := Ground.phase }], guard := none }) (v := ?vvr4n9) rfl (by kernel_rfl) (by kernel_rfl) (by kernel_rfl) (fun _ _ _ h => h) (Or.inl ⟨by rfl, ?hyr4n9⟩) (by assumption) ?restr4n9
          case hyr4n9 => (intro w hSw; (try dsimp only at hSw); have fc := hSw.1.c; have oc := hSw.2.c; go_simp; try with_reducible rfl)
          simp only [Act.put, List.setIfInBounds_toArray, List.set_cons_zero, List.set_cons_succ]
          refine wpAnyH_done (by kernel_rfl) ?_ _
          go_wp2_with fail
          go_roundw
          case rel => exact ⟨3, by omega, rfl, Lib.hid (by rw [HM.out]; exact o5), hHeld3.2, (((hb.drew.trans (k3.mono hb.size)).alloc (Nat.le_trans hb.size k3.size) _).grown g5 (by have a1 := k3.size; have a2 := hb.size; simp at a1 ⊢; omega) (fun q hq => by have := HQ.out q hq; omega))⟩
          case measure => simp [intOf]
        · go_wp2_with (go_at_call 14; ((with_reducible refine (C.out _ (mO.al _)).mono ?_); rintro e w2 ⟨rfl, k3⟩; replace HO := Lib.hid (HO.out.below (bThen (bAl (Below.refl _ _) _) k3)); replace mO := (mO.al _).then k3; replace hb := bThen (bAl hb _) k3))
          go_roundw
          case rel => exact ⟨3, by omega, rfl, Lib.hid (by rw [HM.out]; exact HO.out), mO, hb⟩
          case measure => simp [intOf]
      · have C := Lib.hid (fun W h => zero3 o w.heap.size W h)
        have I := idx3
        have HM := Lib.hid (show piecesTo o (3 + 1) = if (o.lo == 0) then piecesTo o 3 else piecesTo o 3 ++ [pieceL o 3] from rfl)
        have CT := fun W (m : AtC W w.heap.size (obCells o)) (k : Below w.heap.size w W) => Lib.hid (ftext3 o w.heap.size W m (HP.out.then k) SM.lo)
        have HS := Lib.hid (show (ftext o 3).size ≤ 1000 from ftext_len SM 3 (by omega))
        have HE : (⟨#[108, 111]⟩ : ByteArray) ++ ⟨#[61]⟩ ++ ftext o 3 = ⟨(pieceL o 3).toArray⟩ := ByteArray.ext (by rw [ByteArray.data_append, ByteArray.data_append]; apply Array.toList_inj.1; simp [pieceL, fnameL])
        have HQ := Lib.hid (fun q hq => HO.out.lt q hq)
        have HL := Lib.hid (show (piecesTo o 3).length ≤ 1000000 from Nat.le_trans (pieces_len o 3).2 (by decide))
        generalize (o.lo == 0) = z at *
        generalize piecesTo o 3 = ps at *
        generalize pieceL o 3 = pc at *
        generalize ftext o 3 = tx at *
        clear hlt hk h1 h5 h11 SM hr HP
        cases z
        · go_wp2_with (go_at_call 14; ((with_reducible refine (C.out _ (mO.al _)).mono ?_); rintro e w2 ⟨rfl, k3⟩; have mF := (AtC.new _ _ _).then k3; replace HO := Lib.hid (HO.out.below (bThen (bAl (Below.refl _ _) _) k3)); replace mO := (mO.al _).then k3; replace hb := bThen (bAl hb _) k3))
          clear k3 C
          refine wp_region_held_drew (S := fun w' => AtC w' wr.heap.size #[.int .u16 8, .string ⟨#[108, 111]⟩, .nilFunc, .func (.func 31) #[] #[], .nilFunc, .nilFunc] ∧ AtC w' w.heap.size (obCells o)) (by kernel_rfl) ⟨mF.drew1, mO.drew1⟩ (fun hHeld0 => ?_)
          refine wpAnyH_take (i := 0) (oi := { dst := some 26, op := Op.move (Operand.tmp 5), type := 38, pos := "object.go:136", after := #[], guard := none }) (v := ?vvr5n0) rfl (by kernel_rfl) (by kernel_rfl) (by kernel_rfl) (fun _ _ _ h => h) (Or.inl ⟨by rfl, ?hyr5n0⟩) (by assumption) ?restr5n0
          case hyr5n0 => (intro w hSw; (try dsimp only at hSw); have fc := hSw.1.c; have oc := hSw.2.c; go_simp; try with_reducible rfl)
          simp only [Act.put, List.setIfInBounds_toArray, List.set_cons_zero, List.set_cons_succ]
          refine wpAnyH_take (i := 1) (oi := { dst := some 27, op := Op.fieldAddr 46 (Operand.tmp 7) 1, type := 0, pos := "object.go:136", after := #[], guard := none }) (v := ?vvr5n1) rfl (by kernel_rfl) (by kernel_rfl) (by kernel_rfl) (fun _ _ _ h => h) (Or.inl ⟨by rfl, ?hyr5n1⟩) (by assumption) ?restr5n1
          case hyr5n1 => (intro w hSw; (try dsimp only at hSw); have fc := hSw.1.c; have oc := hSw.2.c; go_simp; try with_reducible rfl)
          simp only [Act.put, List.setIfInBounds_toArray, List.set_cons_zero, List.set_cons_succ]
          refine wpAnyH_take (i := 2) (oi := { dst := some 28, op := Op.load 9 (Operand.tmp 27), type := 9, pos := "object.go:136", after := #[{ on := 1, ground := Ground.data }], guard := none }) (v := ?vvr5n2) rfl (by kernel_rfl) (by kernel_rfl) (by kernel_rfl) (fun _ _ _ h => h) (Or.inl ⟨by rfl, ?hyr5n2⟩) (by assumption) ?restr5n2
          case hyr5n2 => (intro w hSw; (try dsimp only at hSw); have fc := hSw.1.c; have oc := hSw.2.c; go_simp; try with_reducible rfl)
          simp only [Act.put, List.setIfInBounds_toArray, List.set_cons_zero, List.set_cons_succ]
          refine wpAnyH_take (i := 3) (oi := { dst := some 29, op := Op.binOp BinOp.add 9 (Operand.tmp 28) (Operand.const (Value.string { data := #[61] })) 9, type := 9, pos := "object.go:136", after := #[{ on := 2, ground := Ground.data }], guard := none }) (v := ?vvr5n3) rfl (by kernel_rfl) (by kernel_rfl) (by kernel_rfl) (fun _ _ _ h => h) (Or.inl ⟨by rfl, ?hyr5n3⟩) (by assumption) ?restr5n3
          case hyr5n3 => (intro w hSw; (try dsimp only at hSw); have fc := hSw.1.c; have oc := hSw.2.c; go_simp; try with_reducible rfl)
          simp only [Act.put, List.setIfInBounds_toArray, List.set_cons_zero, List.set_cons_succ]
          refine wpAnyH_take (i := 4) (oi := { dst := some 30, op := Op.load 46 (Operand.tmp 7), type := 46, pos := "object.go:136", after := #[], guard := none }) (v := ?vvr5n4) rfl (by kernel_rfl) (by kernel_rfl) (by kernel_rfl) (fun _ _ _ h => h) (Or.inl ⟨by rfl, ?hyr5n4⟩) (by assumption) ?restr5n4
          case hyr5n4 => (intro w hSw; (try dsimp only at hSw); have fc := hSw.1.c; have oc := hSw.2.c; go_simp; try with_reducible rfl)
          simp only [Act.put, List.setIfInBounds_toArray, List.set_cons_zero, List.set_cons_succ]
          refine wpAnyH_ready (rs := [5]) (by kernel_rfl) (by simp) ?_
          refine AllReadyH.cons (o := { dst := some 31, op := Op.call { callee := Callee.value (Operand.func 15), args := #[Operand.tmp 30, Operand.tmp 1], argTypes := #[46, 50] }, type := 9, pos := "object.go:136", after := #[{ on := 4, ground := Ground.data }], guard := none }) rfl (fun K hK => ?_) AllReadyH.nil
          go_simp
          refine (CT _ hHeld0.2 hb.drew).out.mono ?_
          rintro e w3 ⟨rfl, k3⟩
          go_wp2_with fail
          refine hK.out _ _ ⟨hHeld0.1.then k3, hHeld0.2.then k3⟩ (fun hHeld1 => ?_)
          clear hK K hHeld0
          try simp only [Act.put, List.setIfInBounds_toArray, List.set_cons_zero, List.set_cons_succ]
          refine wpAnyH_take (i := 6) (oi := { dst := some 32, op := Op.binOp BinOp.add 9 (Operand.tmp 29) (Operand.tmp 31) 9, type := 9, pos := "object.go:136", after := #[{ on := 3, ground := Ground.data }, { on := 5, ground := Ground.data }], guard := none }) (v := str pc) rfl (by kernel_rfl) (by kernel_rfl) (by kernel_rfl) (fun _ _ _ h => h) (Or.inl ⟨by rfl, ?hyr5n6⟩) (by assumption) ?restr5n6
          case hyr5n6 => (intro w hSw; (try dsimp only at hSw); have fc := hSw.1.c; have oc := hSw.2.c; go_simp; have := HS.out; omega)
          simp only [Act.put, List.setIfInBounds_toArray, List.set_cons_zero, List.set_cons_succ]
          refine wpAnyH_ready (rs := [7]) (by kernel_rfl) (by simp) ?_
          refine AllReadyH.cons (o := { dst := some 33, op := Op.buildSlice 38 1 #[(0, Operand.tmp 32)], type := 38, pos := "object.go:136", after := #[{ on := 6, ground := Ground.data }], guard := none }) rfl (fun K hK => ?_) AllReadyH.nil
          go_simp
          refine hK.out _ _ ⟨hHeld1.1.al _, hHeld1.2.al _⟩ (fun hHeld2 => ?_)
          clear hK K hHeld1
          try simp only [Act.put, List.setIfInBounds_toArray, List.set_cons_zero, List.set_cons_succ]
          refine wpAnyH_ready (rs := [8]) (by kernel_rfl) (by simp) ?_
          refine AllReadyH.cons (o := { dst := some 34, op := Op.call { callee := Callee.builtin Builtin.append, args := #[Operand.tmp 26, Operand.tmp 33], argTypes := #[38, 38] }, type := 38, pos := "object.go:136", after := #[{ on := 0, ground := Ground.data }, { on := 7, ground := Ground.data }, { on := 5, ground := Ground.chain }], guard := none }) rfl (fun K hK => ?_) AllReadyH.nil
          refine step_one rfl _ _ rfl (w.heap.size + 1) _ ps rfl (HO.out.below ((Below.refl _ _).drew.trans (k3.mono (Nat.le_refl _)) |>.alloc (by have := k3.size; simpa using this) _)) w3.heap.size 1 pc rfl (by simp) HL.out hHeld2.2.lt ?_
          intro v5 w5 o5 g5
          refine hK.out _ _ ⟨AtC.grown hHeld2.1 g5 (fun q hq => by have := HQ.out q hq; omega), AtC.grown hHeld2.2 g5 (fun q hq => by have := HQ.out q hq; omega)⟩ (fun hHeld3 => ?_)
          clear hK K hHeld2
          try simp only [Act.put, List.setIfInBounds_toArray, List.set_cons_zero, List.set_cons_succ]
          refine wpAnyH_take (i := 9) (oi := { dst := some 5, op := Op.assign (Operand.tmp 34), type := 38, pos := "object.go:136", after := #[{ on := 8, ground := Ground.data }, { on := 8, ground := Ground.chain }, { on := 0, ground := Ground.phase }, { on := 1, ground := Ground.phase }, { on := 2, ground := Ground.phase }, { on := 3, ground := Ground.phase }, { on := 4, ground := Ground.phase }, { on := 5, ground := Ground.phase }, { on := 6, ground := Ground.phase }, { on := 7, ground := Ground.phase }, { on := 8, ground := Ground.phase }], guard := none }) (v := ?vvr5n9) rfl (by kernel_rfl) (by kernel_rfl) (by kernel_rfl) (fun _ _ _ h => h) (Or.inl ⟨by rfl, ?hyr5n9⟩) (by assumption) ?restr5n9
          case hyr5n9 => (intro w hSw; (try dsimp only at hSw); have fc := hSw.1.c; have oc := hSw.2.c; go_simp; try with_reducible rfl)
          simp only [Act.put, List.setIfInBounds_toArray, List.set_cons_zero, List.set_cons_succ]
          refine wpAnyH_done (by kernel_rfl) ?_ _
          go_wp2_with fail
          go_roundw
          case rel => exact ⟨4, by omega, rfl, Lib.hid (by rw [HM.out]; exact o5), hHeld3.2, (((hb.drew.trans (k3.mono hb.size)).alloc (Nat.le_trans hb.size k3.size) _).grown g5 (by have a1 := k3.size; have a2 := hb.size; simp at a1 ⊢; omega) (fun q hq => by have := HQ.out q hq; omega))⟩
          case measure => simp [intOf]
        · go_wp2_with (go_at_call 14; ((with_reducible refine (C.out _ (mO.al _)).mono ?_); rintro e w2 ⟨rfl, k3⟩; replace HO := Lib.hid (HO.out.below (bThen (bAl (Below.refl _ _) _) k3)); replace mO := (mO.al _).then k3; replace hb := bThen (bAl hb _) k3))
          go_roundw
          case rel => exact ⟨4, by omega, rfl, Lib.hid (by rw [HM.out]; exact HO.out), mO, hb⟩
          case measure => simp [intOf]
      · have C := Lib.hid (fun W h => zero4 o w.heap.size W h)
        have I := idx4
        have HM := Lib.hid (show piecesTo o (4 + 1) = if (o.hi == 0) then piecesTo o 4 else piecesTo o 4 ++ [pieceL o 4] from rfl)
        have CT := fun W (m : AtC W w.heap.size (obCells o)) (k : Below w.heap.size w W) => Lib.hid (ftext4 o w.heap.size W m (HP.out.then k) SM.hi)
        have HS := Lib.hid (show (ftext o 4).size ≤ 1000 from ftext_len SM 4 (by omega))
        have HE : (⟨#[104, 105]⟩ : ByteArray) ++ ⟨#[61]⟩ ++ ftext o 4 = ⟨(pieceL o 4).toArray⟩ := ByteArray.ext (by rw [ByteArray.data_append, ByteArray.data_append]; apply Array.toList_inj.1; simp [pieceL, fnameL])
        have HQ := Lib.hid (fun q hq => HO.out.lt q hq)
        have HL := Lib.hid (show (piecesTo o 4).length ≤ 1000000 from Nat.le_trans (pieces_len o 4).2 (by decide))
        generalize (o.hi == 0) = z at *
        generalize piecesTo o 4 = ps at *
        generalize pieceL o 4 = pc at *
        generalize ftext o 4 = tx at *
        clear hlt hk h1 h5 h11 SM hr HP
        cases z
        · go_wp2_with (go_at_call 14; ((with_reducible refine (C.out _ (mO.al _)).mono ?_); rintro e w2 ⟨rfl, k3⟩; have mF := (AtC.new _ _ _).then k3; replace HO := Lib.hid (HO.out.below (bThen (bAl (Below.refl _ _) _) k3)); replace mO := (mO.al _).then k3; replace hb := bThen (bAl hb _) k3))
          clear k3 C
          refine wp_region_held_drew (S := fun w' => AtC w' wr.heap.size #[.int .u16 16, .string ⟨#[104, 105]⟩, .nilFunc, .func (.func 32) #[] #[], .nilFunc, .nilFunc] ∧ AtC w' w.heap.size (obCells o)) (by kernel_rfl) ⟨mF.drew1, mO.drew1⟩ (fun hHeld0 => ?_)
          refine wpAnyH_take (i := 0) (oi := { dst := some 26, op := Op.move (Operand.tmp 5), type := 38, pos := "object.go:136", after := #[], guard := none }) (v := ?vvr6n0) rfl (by kernel_rfl) (by kernel_rfl) (by kernel_rfl) (fun _ _ _ h => h) (Or.inl ⟨by rfl, ?hyr6n0⟩) (by assumption) ?restr6n0
          case hyr6n0 => (intro w hSw; (try dsimp only at hSw); have fc := hSw.1.c; have oc := hSw.2.c; go_simp; try with_reducible rfl)
          simp only [Act.put, List.setIfInBounds_toArray, List.set_cons_zero, List.set_cons_succ]
          refine wpAnyH_take (i := 1) (oi := { dst := some 27, op := Op.fieldAddr 46 (Operand.tmp 7) 1, type := 0, pos := "object.go:136", after := #[], guard := none }) (v := ?vvr6n1) rfl (by kernel_rfl) (by kernel_rfl) (by kernel_rfl) (fun _ _ _ h => h) (Or.inl ⟨by rfl, ?hyr6n1⟩) (by assumption) ?restr6n1
          case hyr6n1 => (intro w hSw; (try dsimp only at hSw); have fc := hSw.1.c; have oc := hSw.2.c; go_simp; try with_reducible rfl)
          simp only [Act.put, List.setIfInBounds_toArray, List.set_cons_zero, List.set_cons_succ]
          refine wpAnyH_take (i := 2) (oi := { dst := some 28, op := Op.load 9 (Operand.tmp 27), type := 9, pos := "object.go:136", after := #[{ on := 1, ground := Ground.data }], guard := none }) (v := ?vvr6n2) rfl (by kernel_rfl) (by kernel_rfl) (by kernel_rfl) (fun _ _ _ h => h) (Or.inl ⟨by rfl, ?hyr6n2⟩) (by assumption) ?restr6n2
          case hyr6n2 => (intro w hSw; (try dsimp only at hSw); have fc := hSw.1.c; have oc := hSw.2.c; go_simp; try with_reducible rfl)
          simp only [Act.put, List.setIfInBounds_toArray, List.set_cons_zero, List.set_cons_succ]
          refine wpAnyH_take (i := 3) (oi := { dst := some 29, op := Op.binOp BinOp.add 9 (Operand.tmp 28) (Operand.const (Value.string { data := #[61] })) 9, type := 9, pos := "object.go:136", after := #[{ on := 2, ground := Ground.data }], guard := none }) (v := ?vvr6n3) rfl (by kernel_rfl) (by kernel_rfl) (by kernel_rfl) (fun _ _ _ h => h) (Or.inl ⟨by rfl, ?hyr6n3⟩) (by assumption) ?restr6n3
          case hyr6n3 => (intro w hSw; (try dsimp only at hSw); have fc := hSw.1.c; have oc := hSw.2.c; go_simp; try with_reducible rfl)
          simp only [Act.put, List.setIfInBounds_toArray, List.set_cons_zero, List.set_cons_succ]
          refine wpAnyH_take (i := 4) (oi := { dst := some 30, op := Op.load 46 (Operand.tmp 7), type := 46, pos := "object.go:136", after := #[], guard := none }) (v := ?vvr6n4) rfl (by kernel_rfl) (by kernel_rfl) (by kernel_rfl) (fun _ _ _ h => h) (Or.inl ⟨by rfl, ?hyr6n4⟩) (by assumption) ?restr6n4
          case hyr6n4 => (intro w hSw; (try dsimp only at hSw); have fc := hSw.1.c; have oc := hSw.2.c; go_simp; try with_reducible rfl)
          simp only [Act.put, List.setIfInBounds_toArray, List.set_cons_zero, List.set_cons_succ]
          refine wpAnyH_ready (rs := [5]) (by kernel_rfl) (by simp) ?_
          refine AllReadyH.cons (o := { dst := some 31, op := Op.call { callee := Callee.value (Operand.func 15), args := #[Operand.tmp 30, Operand.tmp 1], argTypes := #[46, 50] }, type := 9, pos := "object.go:136", after := #[{ on := 4, ground := Ground.data }], guard := none }) rfl (fun K hK => ?_) AllReadyH.nil
          go_simp
          refine (CT _ hHeld0.2 hb.drew).out.mono ?_
          rintro e w3 ⟨rfl, k3⟩
          go_wp2_with fail
          refine hK.out _ _ ⟨hHeld0.1.then k3, hHeld0.2.then k3⟩ (fun hHeld1 => ?_)
          clear hK K hHeld0
          try simp only [Act.put, List.setIfInBounds_toArray, List.set_cons_zero, List.set_cons_succ]
          refine wpAnyH_take (i := 6) (oi := { dst := some 32, op := Op.binOp BinOp.add 9 (Operand.tmp 29) (Operand.tmp 31) 9, type := 9, pos := "object.go:136", after := #[{ on := 3, ground := Ground.data }, { on := 5, ground := Ground.data }], guard := none }) (v := str pc) rfl (by kernel_rfl) (by kernel_rfl) (by kernel_rfl) (fun _ _ _ h => h) (Or.inl ⟨by rfl, ?hyr6n6⟩) (by assumption) ?restr6n6
          case hyr6n6 => (intro w hSw; (try dsimp only at hSw); have fc := hSw.1.c; have oc := hSw.2.c; go_simp; have := HS.out; omega)
          simp only [Act.put, List.setIfInBounds_toArray, List.set_cons_zero, List.set_cons_succ]
          refine wpAnyH_ready (rs := [7]) (by kernel_rfl) (by simp) ?_
          refine AllReadyH.cons (o := { dst := some 33, op := Op.buildSlice 38 1 #[(0, Operand.tmp 32)], type := 38, pos := "object.go:136", after := #[{ on := 6, ground := Ground.data }], guard := none }) rfl (fun K hK => ?_) AllReadyH.nil
          go_simp
          refine hK.out _ _ ⟨hHeld1.1.al _, hHeld1.2.al _⟩ (fun hHeld2 => ?_)
          clear hK K hHeld1
          try simp only [Act.put, List.setIfInBounds_toArray, List.set_cons_zero, List.set_cons_succ]
          refine wpAnyH_ready (rs := [8]) (by kernel_rfl) (by simp) ?_
          refine AllReadyH.cons (o := { dst := some 34, op := Op.call { callee := Callee.builtin Builtin.append, args := #[Operand.tmp 26, Operand.tmp 33], argTypes := #[38, 38] }, type := 38, pos := "object.go:136", after := #[{ on := 0, ground := Ground.data }, { on := 7, ground := Ground.data }, { on := 5, ground := Ground.chain }], guard := none }) rfl (fun K hK => ?_) AllReadyH.nil
          refine step_one rfl _ _ rfl (w.heap.size + 1) _ ps rfl (HO.out.below ((Below.refl _ _).drew.trans (k3.mono (Nat.le_refl _)) |>.alloc (by have := k3.size; simpa using this) _)) w3.heap.size 1 pc rfl (by simp) HL.out hHeld2.2.lt ?_
          intro v5 w5 o5 g5
          refine hK.out _ _ ⟨AtC.grown hHeld2.1 g5 (fun q hq => by have := HQ.out q hq; omega), AtC.grown hHeld2.2 g5 (fun q hq => by have := HQ.out q hq; omega)⟩ (fun hHeld3 => ?_)
          clear hK K hHeld2
          try simp only [Act.put, List.setIfInBounds_toArray, List.set_cons_zero, List.set_cons_succ]
          refine wpAnyH_take (i := 9) (oi := { dst := some 5, op := Op.assign (Operand.tmp 34), type := 38, pos := "object.go:136", after := #[{ on := 8, ground := Ground.data }, { on := 8, ground := Ground.chain }, { on := 0, ground := Ground.phase }, { on := 1, ground := Ground.phase }, { on := 2, ground := Ground.phase }, { on := 3, ground := Ground.phase }, { on := 4, ground := Ground.phase }, { on := 5, ground := Ground.phase }, { on := 6, ground := Ground.phase }, { on := 7, ground := Ground.phase }, { on := 8, ground := Ground.phase }], guard := none }) (v := ?vvr6n9) rfl (by kernel_rfl) (by kernel_rfl) (by kernel_rfl) (fun _ _ _ h => h) (Or.inl ⟨by rfl, ?hyr6n9⟩) (by assumption) ?restr6n9
          case hyr6n9 => (intro w hSw; (try dsimp only at hSw); have fc := hSw.1.c; have oc := hSw.2.c; go_simp; try with_reducible rfl)
          simp only [Act.put, List.setIfInBounds_toArray, List.set_cons_zero, List.set_cons_succ]
          refine wpAnyH_done (by kernel_rfl) ?_ _
          go_wp2_with fail
          go_roundw
          case rel => exact ⟨5, by omega, rfl, Lib.hid (by rw [HM.out]; exact o5), hHeld3.2, (((hb.drew.trans (k3.mono hb.size)).alloc (Nat.le_trans hb.size k3.size) _).grown g5 (by have a1 := k3.size; have a2 := hb.size; simp at a1 ⊢; omega) (fun q hq => by have := HQ.out q hq; omega))⟩
          case measure => simp [intOf]
        · go_wp2_with (go_at_call 14; ((with_reducible refine (C.out _ (mO.al _)).mono ?_); rintro e w2 ⟨rfl, k3⟩; replace HO := Lib.hid (HO.out.below (bThen (bAl (Below.refl _ _) _) k3)); replace mO := (mO.al _).then k3; replace hb := bThen (bAl hb _) k3))
          go_roundw
          case rel => exact ⟨5, by omega, rfl, Lib.hid (by rw [HM.out]; exact HO.out), mO, hb⟩
          case measure => simp [intOf]
      · have C := Lib.hid (fun W h => zero5 o w.heap.size W h h5)
        have I := idx5
        have HM := Lib.hid (show piecesTo o (5 + 1) = if ((o.digits : Int) == 0) then piecesTo o 5 else piecesTo o 5 ++ [pieceL o 5] from rfl)
        have CT := fun W (m : AtC W w.heap.size (obCells o)) (k : Below w.heap.size w W) => Lib.hid (ftext5 o w.heap.size W m (HP.out.then k) h5)
        have HS := Lib.hid (show (ftext o 5).size ≤ 1000 from ftext_len SM 5 (by omega))
        have HE : (⟨#[100, 105, 103, 105, 116, 115]⟩ : ByteArray) ++ ⟨#[61]⟩ ++ ftext o 5 = ⟨(pieceL o 5).toArray⟩ := ByteArray.ext (by rw [ByteArray.data_append, ByteArray.data_append]; apply Array.toList_inj.1; simp [pieceL, fnameL])
        have HQ := Lib.hid (fun q hq => HO.out.lt q hq)
        have HL := Lib.hid (show (piecesTo o 5).length ≤ 1000000 from Nat.le_trans (pieces_len o 5).2 (by decide))
        generalize ((o.digits : Int) == 0) = z at *
        generalize piecesTo o 5 = ps at *
        generalize pieceL o 5 = pc at *
        generalize ftext o 5 = tx at *
        clear hlt hk h1 h5 h11 SM hr HP
        cases z
        · go_wp2_with (go_at_call 14; ((with_reducible refine (C.out _ (mO.al _)).mono ?_); rintro e w2 ⟨rfl, k3⟩; have mF := (AtC.new _ _ _).then k3; replace HO := Lib.hid (HO.out.below (bThen (bAl (Below.refl _ _) _) k3)); replace mO := (mO.al _).then k3; replace hb := bThen (bAl hb _) k3))
          clear k3 C
          refine wp_region_held_drew (S := fun w' => AtC w' wr.heap.size #[.int .u16 32, .string ⟨#[100, 105, 103, 105, 116, 115]⟩, .nilFunc, .nilFunc, .func (.func 33) #[] #[], .nilFunc] ∧ AtC w' w.heap.size (obCells o)) (by kernel_rfl) ⟨mF.drew1, mO.drew1⟩ (fun hHeld0 => ?_)
          refine wpAnyH_take (i := 0) (oi := { dst := some 26, op := Op.move (Operand.tmp 5), type := 38, pos := "object.go:136", after := #[], guard := none }) (v := ?vvr7n0) rfl (by kernel_rfl) (by kernel_rfl) (by kernel_rfl) (fun _ _ _ h => h) (Or.inl ⟨by rfl, ?hyr7n0⟩) (by assumption) ?restr7n0
          case hyr7n0 => (intro w hSw; (try dsimp only at hSw); have fc := hSw.1.c; have oc := hSw.2.c; go_simp; try with_reducible rfl)
          simp only [Act.put, List.setIfInBounds_toArray, List.set_cons_zero, List.set_cons_succ]
          refine wpAnyH_take (i := 1) (oi := { dst := some 27, op := Op.fieldAddr 46 (Operand.tmp 7) 1, type := 0, pos := "object.go:136", after := #[], guard := none }) (v := ?vvr7n1) rfl (by kernel_rfl) (by kernel_rfl) (by kernel_rfl) (fun _ _ _ h => h) (Or.inl ⟨by rfl, ?hyr7n1⟩) (by assumption) ?restr7n1
          case hyr7n1 => (intro w hSw; (try dsimp only at hSw); have fc := hSw.1.c; have oc := hSw.2.c; go_simp; try with_reducible rfl)
          simp only [Act.put, List.setIfInBounds_toArray, List.set_cons_zero, List.set_cons_succ]
          refine wpAnyH_take (i := 2) (oi := { dst := some 28, op := Op.load 9 (Operand.tmp 27), type := 9, pos := "object.go:136", after := #[{ on := 1, ground := Ground.data }], guard := none }) (v := ?vvr7n2) rfl (by kernel_rfl) (by kernel_rfl) (by kernel_rfl) (fun _ _ _ h => h) (Or.inl ⟨by rfl, ?hyr7n2⟩) (by assumption) ?restr7n2
          case hyr7n2 => (intro w hSw; (try dsimp only at hSw); have fc := hSw.1.c; have oc := hSw.2.c; go_simp; try with_reducible rfl)
          simp only [Act.put, List.setIfInBounds_toArray, List.set_cons_zero, List.set_cons_succ]
          refine wpAnyH_take (i := 3) (oi := { dst := some 29, op := Op.binOp BinOp.add 9 (Operand.tmp 28) (Operand.const (Value.string { data := #[61] })) 9, type := 9, pos := "object.go:136", after := #[{ on := 2, ground := Ground.data }], guard := none }) (v := ?vvr7n3) rfl (by kernel_rfl) (by kernel_rfl) (by kernel_rfl) (fun _ _ _ h => h) (Or.inl ⟨by rfl, ?hyr7n3⟩) (by assumption) ?restr7n3
          case hyr7n3 => (intro w hSw; (try dsimp only at hSw); have fc := hSw.1.c; have oc := hSw.2.c; go_simp; try with_reducible rfl)
          simp only [Act.put, List.setIfInBounds_toArray, List.set_cons_zero, List.set_cons_succ]
          refine wpAnyH_take (i := 4) (oi := { dst := some 30, op := Op.load 46 (Operand.tmp 7), type := 46, pos := "object.go:136", after := #[], guard := none }) (v := ?vvr7n4) rfl (by kernel_rfl) (by kernel_rfl) (by kernel_rfl) (fun _ _ _ h => h) (Or.inl ⟨by rfl, ?hyr7n4⟩) (by assumption) ?restr7n4
          case hyr7n4 => (intro w hSw; (try dsimp only at hSw); have fc := hSw.1.c; have oc := hSw.2.c; go_simp; try with_reducible rfl)
          simp only [Act.put, List.setIfInBounds_toArray, List.set_cons_zero, List.set_cons_succ]
          refine wpAnyH_ready (rs := [5]) (by kernel_rfl) (by simp) ?_
          refine AllReadyH.cons (o := { dst := some 31, op := Op.call { callee := Callee.value (Operand.func 15), args := #[Operand.tmp 30, Operand.tmp 1], argTypes := #[46, 50] }, type := 9, pos := "object.go:136", after := #[{ on := 4, ground := Ground.data }], guard := none }) rfl (fun K hK => ?_) AllReadyH.nil
          go_simp
          refine (CT _ hHeld0.2 hb.drew).out.mono ?_
          rintro e w3 ⟨rfl, k3⟩
          go_wp2_with fail
          refine hK.out _ _ ⟨hHeld0.1.then k3, hHeld0.2.then k3⟩ (fun hHeld1 => ?_)
          clear hK K hHeld0
          try simp only [Act.put, List.setIfInBounds_toArray, List.set_cons_zero, List.set_cons_succ]
          refine wpAnyH_take (i := 6) (oi := { dst := some 32, op := Op.binOp BinOp.add 9 (Operand.tmp 29) (Operand.tmp 31) 9, type := 9, pos := "object.go:136", after := #[{ on := 3, ground := Ground.data }, { on := 5, ground := Ground.data }], guard := none }) (v := str pc) rfl (by kernel_rfl) (by kernel_rfl) (by kernel_rfl) (fun _ _ _ h => h) (Or.inl ⟨by rfl, ?hyr7n6⟩) (by assumption) ?restr7n6
          case hyr7n6 => (intro w hSw; (try dsimp only at hSw); have fc := hSw.1.c; have oc := hSw.2.c; go_simp; have := HS.out; omega)
          simp only [Act.put, List.setIfInBounds_toArray, List.set_cons_zero, List.set_cons_succ]
          refine wpAnyH_ready (rs := [7]) (by kernel_rfl) (by simp) ?_
          refine AllReadyH.cons (o := { dst := some 33, op := Op.buildSlice 38 1 #[(0, Operand.tmp 32)], type := 38, pos := "object.go:136", after := #[{ on := 6, ground := Ground.data }], guard := none }) rfl (fun K hK => ?_) AllReadyH.nil
          go_simp
          refine hK.out _ _ ⟨hHeld1.1.al _, hHeld1.2.al _⟩ (fun hHeld2 => ?_)
          clear hK K hHeld1
          try simp only [Act.put, List.setIfInBounds_toArray, List.set_cons_zero, List.set_cons_succ]
          refine wpAnyH_ready (rs := [8]) (by kernel_rfl) (by simp) ?_
          refine AllReadyH.cons (o := { dst := some 34, op := Op.call { callee := Callee.builtin Builtin.append, args := #[Operand.tmp 26, Operand.tmp 33], argTypes := #[38, 38] }, type := 38, pos := "object.go:136", after := #[{ on := 0, ground := Ground.data }, { on := 7, ground := Ground.data }, { on := 5, ground := Ground.chain }], guard := none }) rfl (fun K hK => ?_) AllReadyH.nil
          refine step_one rfl _ _ rfl (w.heap.size + 1) _ ps rfl (HO.out.below ((Below.refl _ _).drew.trans (k3.mono (Nat.le_refl _)) |>.alloc (by have := k3.size; simpa using this) _)) w3.heap.size 1 pc rfl (by simp) HL.out hHeld2.2.lt ?_
          intro v5 w5 o5 g5
          refine hK.out _ _ ⟨AtC.grown hHeld2.1 g5 (fun q hq => by have := HQ.out q hq; omega), AtC.grown hHeld2.2 g5 (fun q hq => by have := HQ.out q hq; omega)⟩ (fun hHeld3 => ?_)
          clear hK K hHeld2
          try simp only [Act.put, List.setIfInBounds_toArray, List.set_cons_zero, List.set_cons_succ]
          refine wpAnyH_take (i := 9) (oi := { dst := some 5, op := Op.assign (Operand.tmp 34), type := 38, pos := "object.go:136", after := #[{ on := 8, ground := Ground.data }, { on := 8, ground := Ground.chain }, { on := 0, ground := Ground.phase }, { on := 1, ground := Ground.phase }, { on := 2, ground := Ground.phase }, { on := 3, ground := Ground.phase }, { on := 4, ground := Ground.phase }, { on := 5, ground := Ground.phase }, { on := 6, ground := Ground.phase }, { on := 7, ground := Ground.phase }, { on := 8, ground := Ground.phase }], guard := none }) (v := ?vvr7n9) rfl (by kernel_rfl) (by kernel_rfl) (by kernel_rfl) (fun _ _ _ h => h) (Or.inl ⟨by rfl, ?hyr7n9⟩) (by assumption) ?restr7n9
          case hyr7n9 => (intro w hSw; (try dsimp only at hSw); have fc := hSw.1.c; have oc := hSw.2.c; go_simp; try with_reducible rfl)
          simp only [Act.put, List.setIfInBounds_toArray, List.set_cons_zero, List.set_cons_succ]
          refine wpAnyH_done (by kernel_rfl) ?_ _
          go_wp2_with fail
          go_roundw
          case rel => exact ⟨6, by omega, rfl, Lib.hid (by rw [HM.out]; exact o5), hHeld3.2, (((hb.drew.trans (k3.mono hb.size)).alloc (Nat.le_trans hb.size k3.size) _).grown g5 (by have a1 := k3.size; have a2 := hb.size; simp at a1 ⊢; omega) (fun q hq => by have := HQ.out q hq; omega))⟩
          case measure => simp [intOf]
        · go_wp2_with (go_at_call 14; ((with_reducible refine (C.out _ (mO.al _)).mono ?_); rintro e w2 ⟨rfl, k3⟩; replace HO := Lib.hid (HO.out.below (bThen (bAl (Below.refl _ _) _) k3)); replace mO := (mO.al _).then k3; replace hb := bThen (bAl hb _) k3))
          go_roundw
          case rel => exact ⟨6, by omega, rfl, Lib.hid (by rw [HM.out]; exact HO.out), mO, hb⟩
          case measure => simp [intOf]
      · have C := Lib.hid (fun W h => zero6 o w.heap.size W h)
        have I := idx6
        have HM := Lib.hid (show piecesTo o (6 + 1) = if (boolI o.on == 0) then piecesTo o 6 else piecesTo o 6 ++ [pieceL o 6] from rfl)
        have CT := fun W (m : AtC W w.heap.size (obCells o)) (k : Below w.heap.size w W) => Lib.hid (ftext6 o w.heap.size W m (HP.out.then k))
        have HS := Lib.hid (show (ftext o 6).size ≤ 1000 from ftext_len SM 6 (by omega))
        have HE : (⟨#[111, 110]⟩ : ByteArray) ++ ⟨#[61]⟩ ++ ftext o 6 = ⟨(pieceL o 6).toArray⟩ := ByteArray.ext (by rw [ByteArray.data_append, ByteArray.data_append]; apply Array.toList_inj.1; simp [pieceL, fnameL])
        have HQ := Lib.hid (fun q hq => HO.out.lt q hq)
        have HL := Lib.hid (show (piecesTo o 6).length ≤ 1000000 from Nat.le_trans (pieces_len o 6).2 (by decide))
        generalize (boolI o.on == 0) = z at *
        generalize piecesTo o 6 = ps at *
        generalize pieceL o 6 = pc at *
        generalize ftext o 6 = tx at *
        clear hlt hk h1 h5 h11 SM hr HP
        cases z
        · go_wp2_with (go_at_call 14; ((with_reducible refine (C.out _ (mO.al _)).mono ?_); rintro e w2 ⟨rfl, k3⟩; have mF := (AtC.new _ _ _).then k3; replace HO := Lib.hid (HO.out.below (bThen (bAl (Below.refl _ _) _) k3)); replace mO := (mO.al _).then k3; replace hb := bThen (bAl hb _) k3))
          clear k3 C
          refine wp_region_held_drew (S := fun w' => AtC w' wr.heap.size #[.int .u16 64, .string ⟨#[111, 110]⟩, .nilFunc, .nilFunc, .nilFunc, .func (.func 34) #[] #[]] ∧ AtC w' w.heap.size (obCells o)) (by kernel_rfl) ⟨mF.drew1, mO.drew1⟩ (fun hHeld0 => ?_)
          refine wpAnyH_take (i := 0) (oi := { dst := some 26, op := Op.move (Operand.tmp 5), type := 38, pos := "object.go:136", after := #[], guard := none }) (v := ?vvr8n0) rfl (by kernel_rfl) (by kernel_rfl) (by kernel_rfl) (fun _ _ _ h => h) (Or.inl ⟨by rfl, ?hyr8n0⟩) (by assumption) ?restr8n0
          case hyr8n0 => (intro w hSw; (try dsimp only at hSw); have fc := hSw.1.c; have oc := hSw.2.c; go_simp; try with_reducible rfl)
          simp only [Act.put, List.setIfInBounds_toArray, List.set_cons_zero, List.set_cons_succ]
          refine wpAnyH_take (i := 1) (oi := { dst := some 27, op := Op.fieldAddr 46 (Operand.tmp 7) 1, type := 0, pos := "object.go:136", after := #[], guard := none }) (v := ?vvr8n1) rfl (by kernel_rfl) (by kernel_rfl) (by kernel_rfl) (fun _ _ _ h => h) (Or.inl ⟨by rfl, ?hyr8n1⟩) (by assumption) ?restr8n1
          case hyr8n1 => (intro w hSw; (try dsimp only at hSw); have fc := hSw.1.c; have oc := hSw.2.c; go_simp; try with_reducible rfl)
          simp only [Act.put, List.setIfInBounds_toArray, List.set_cons_zero, List.set_cons_succ]
          refine wpAnyH_take (i := 2) (oi := { dst := some 28, op := Op.load 9 (Operand.tmp 27), type := 9, pos := "object.go:136", after := #[{ on := 1, ground := Ground.data }], guard := none }) (v := ?vvr8n2) rfl (by kernel_rfl) (by kernel_rfl) (by kernel_rfl) (fun _ _ _ h => h) (Or.inl ⟨by rfl, ?hyr8n2⟩) (by assumption) ?restr8n2
          case hyr8n2 => (intro w hSw; (try dsimp only at hSw); have fc := hSw.1.c; have oc := hSw.2.c; go_simp; try with_reducible rfl)
          simp only [Act.put, List.setIfInBounds_toArray, List.set_cons_zero, List.set_cons_succ]
          refine wpAnyH_take (i := 3) (oi := { dst := some 29, op := Op.binOp BinOp.add 9 (Operand.tmp 28) (Operand.const (Value.string { data := #[61] })) 9, type := 9, pos := "object.go:136", after := #[{ on := 2, ground := Ground.data }], guard := none }) (v := ?vvr8n3) rfl (by kernel_rfl) (by kernel_rfl) (by kernel_rfl) (fun _ _ _ h => h) (Or.inl ⟨by rfl, ?hyr8n3⟩) (by assumption) ?restr8n3
          case hyr8n3 => (intro w hSw; (try dsimp only at hSw); have fc := hSw.1.c; have oc := hSw.2.c; go_simp; try with_reducible rfl)
          simp only [Act.put, List.setIfInBounds_toArray, List.set_cons_zero, List.set_cons_succ]
          refine wpAnyH_take (i := 4) (oi := { dst := some 30, op := Op.load 46 (Operand.tmp 7), type := 46, pos := "object.go:136", after := #[], guard := none }) (v := ?vvr8n4) rfl (by kernel_rfl) (by kernel_rfl) (by kernel_rfl) (fun _ _ _ h => h) (Or.inl ⟨by rfl, ?hyr8n4⟩) (by assumption) ?restr8n4
          case hyr8n4 => (intro w hSw; (try dsimp only at hSw); have fc := hSw.1.c; have oc := hSw.2.c; go_simp; try with_reducible rfl)
          simp only [Act.put, List.setIfInBounds_toArray, List.set_cons_zero, List.set_cons_succ]
          refine wpAnyH_ready (rs := [5]) (by kernel_rfl) (by simp) ?_
          refine AllReadyH.cons (o := { dst := some 31, op := Op.call { callee := Callee.value (Operand.func 15), args := #[Operand.tmp 30, Operand.tmp 1], argTypes := #[46, 50] }, type := 9, pos := "object.go:136", after := #[{ on := 4, ground := Ground.data }], guard := none }) rfl (fun K hK => ?_) AllReadyH.nil
          go_simp
          refine (CT _ hHeld0.2 hb.drew).out.mono ?_
          rintro e w3 ⟨rfl, k3⟩
          go_wp2_with fail
          refine hK.out _ _ ⟨hHeld0.1.then k3, hHeld0.2.then k3⟩ (fun hHeld1 => ?_)
          clear hK K hHeld0
          try simp only [Act.put, List.setIfInBounds_toArray, List.set_cons_zero, List.set_cons_succ]
          refine wpAnyH_take (i := 6) (oi := { dst := some 32, op := Op.binOp BinOp.add 9 (Operand.tmp 29) (Operand.tmp 31) 9, type := 9, pos := "object.go:136", after := #[{ on := 3, ground := Ground.data }, { on := 5, ground := Ground.data }], guard := none }) (v := str pc) rfl (by kernel_rfl) (by kernel_rfl) (by kernel_rfl) (fun _ _ _ h => h) (Or.inl ⟨by rfl, ?hyr8n6⟩) (by assumption) ?restr8n6
          case hyr8n6 => (intro w hSw; (try dsimp only at hSw); have fc := hSw.1.c; have oc := hSw.2.c; go_simp; have := HS.out; omega)
          simp only [Act.put, List.setIfInBounds_toArray, List.set_cons_zero, List.set_cons_succ]
          refine wpAnyH_ready (rs := [7]) (by kernel_rfl) (by simp) ?_
          refine AllReadyH.cons (o := { dst := some 33, op := Op.buildSlice 38 1 #[(0, Operand.tmp 32)], type := 38, pos := "object.go:136", after := #[{ on := 6, ground := Ground.data }], guard := none }) rfl (fun K hK => ?_) AllReadyH.nil
          go_simp
          refine hK.out _ _ ⟨hHeld1.1.al _, hHeld1.2.al _⟩ (fun hHeld2 => ?_)
          clear hK K hHeld1
          try simp only [Act.put, List.setIfInBounds_toArray, List.set_cons_zero, List.set_cons_succ]
          refine wpAnyH_ready (rs := [8]) (by kernel_rfl) (by simp) ?_
          refine AllReadyH.cons (o := { dst := some 34, op := Op.call { callee := Callee.builtin Builtin.append, args := #[Operand.tmp 26, Operand.tmp 33], argTypes := #[38, 38] }, type := 38, pos := "object.go:136", after := #[{ on := 0, ground := Ground.data }, { on := 7, ground := Ground.data }, { on := 5, ground := Ground.chain }], guard := none }) rfl (fun K hK => ?_) AllReadyH.nil
          refine step_one rfl _ _ rfl (w.heap.size + 1) _ ps rfl (HO.out.below ((Below.refl _ _).drew.trans (k3.mono (Nat.le_refl _)) |>.alloc (by have := k3.size; simpa using this) _)) w3.heap.size 1 pc rfl (by simp) HL.out hHeld2.2.lt ?_
          intro v5 w5 o5 g5
          refine hK.out _ _ ⟨AtC.grown hHeld2.1 g5 (fun q hq => by have := HQ.out q hq; omega), AtC.grown hHeld2.2 g5 (fun q hq => by have := HQ.out q hq; omega)⟩ (fun hHeld3 => ?_)
          clear hK K hHeld2
          try simp only [Act.put, List.setIfInBounds_toArray, List.set_cons_zero, List.set_cons_succ]
          refine wpAnyH_take (i := 9) (oi := { dst := some 5, op := Op.assign (Operand.tmp 34), type := 38, pos := "object.go:136", after := #[{ on := 8, ground := Ground.data }, { on := 8, ground := Ground.chain }, { on := 0, ground := Ground.phase }, { on := 1, ground := Ground.phase }, { on := 2, ground := Ground.phase }, { on := 3, ground := Ground.phase }, { on := 4, ground := Ground.phase }, { on := 5, ground := Ground.phase }, { on := 6, ground := Ground.phase }, { on := 7, ground := Ground.phase }, { on := 8, ground := Ground.phase }], guard := none }) (v := ?vvr8n9) rfl (by kernel_rfl) (by kernel_rfl) (by kernel_rfl) (fun _ _ _ h => h) (Or.inl ⟨by rfl, ?hyr8n9⟩) (by assumption) ?restr8n9
          case hyr8n9 => (intro w hSw; (try dsimp only at hSw); have fc := hSw.1.c; have oc := hSw.2.c; go_simp; try with_reducible rfl)
          simp only [Act.put, List.setIfInBounds_toArray, List.set_cons_zero, List.set_cons_succ]
          refine wpAnyH_done (by kernel_rfl) ?_ _
          go_wp2_with fail
          go_roundw
          case rel => exact ⟨7, by omega, rfl, Lib.hid (by rw [HM.out]; exact o5), hHeld3.2, (((hb.drew.trans (k3.mono hb.size)).alloc (Nat.le_trans hb.size k3.size) _).grown g5 (by have a1 := k3.size; have a2 := hb.size; simp at a1 ⊢; omega) (fun q hq => by have := HQ.out q hq; omega))⟩
          case measure => simp [intOf]
        · go_wp2_with (go_at_call 14; ((with_reducible refine (C.out _ (mO.al _)).mono ?_); rintro e w2 ⟨rfl, k3⟩; replace HO := Lib.hid (HO.out.below (bThen (bAl (Below.refl _ _) _) k3)); replace mO := (mO.al _).then k3; replace hb := bThen (bAl hb _) k3))
          go_roundw
          case rel => exact ⟨7, by omega, rfl, Lib.hid (by rw [HM.out]; exact HO.out), mO, hb⟩
          case measure => simp [intOf]
      · have C := Lib.hid (fun W h => zero7 o w.heap.size W h)
        have I := idx7
        have HM := Lib.hid (show piecesTo o (7 + 1) = if (boolI o.has == 0) then piecesTo o 7 else piecesTo o 7 ++ [pieceL o 7] from rfl)
        have CT := fun W (m : AtC W w.heap.size (obCells o)) (k : Below w.heap.size w W) => Lib.hid (ftext7 o w.heap.size W m (HP.out.then k))
        have HS := Lib.hid (show (ftext o 7).size ≤ 1000 from ftext_len SM 7 (by omega))
        have HE : (⟨#[104, 97, 115]⟩ : ByteArray) ++ ⟨#[61]⟩ ++ ftext o 7 = ⟨(pieceL o 7).toArray⟩ := ByteArray.ext (by rw [ByteArray.data_append, ByteArray.data_append]; apply Array.toList_inj.1; simp [pieceL, fnameL])
        have HQ := Lib.hid (fun q hq => HO.out.lt q hq)
        have HL := Lib.hid (show (piecesTo o 7).length ≤ 1000000 from Nat.le_trans (pieces_len o 7).2 (by decide))
        generalize (boolI o.has == 0) = z at *
        generalize piecesTo o 7 = ps at *
        generalize pieceL o 7 = pc at *
        generalize ftext o 7 = tx at *
        clear hlt hk h1 h5 h11 SM hr HP
        cases z
        · go_wp2_with (go_at_call 14; ((with_reducible refine (C.out _ (mO.al _)).mono ?_); rintro e w2 ⟨rfl, k3⟩; have mF := (AtC.new _ _ _).then k3; replace HO := Lib.hid (HO.out.below (bThen (bAl (Below.refl _ _) _) k3)); replace mO := (mO.al _).then k3; replace hb := bThen (bAl hb _) k3))
          clear k3 C
          refine wp_region_held_drew (S := fun w' => AtC w' wr.heap.size #[.int .u16 128, .string ⟨#[104, 97, 115]⟩, .nilFunc, .nilFunc, .nilFunc, .func (.func 35) #[] #[]] ∧ AtC w' w.heap.size (obCells o)) (by kernel_rfl) ⟨mF.drew1, mO.drew1⟩ (fun hHeld0 => ?_)
          refine wpAnyH_take (i := 0) (oi := { dst := some 26, op := Op.move (Operand.tmp 5), type := 38, pos := "object.go:136", after := #[], guard := none }) (v := ?vvr9n0) rfl (by kernel_rfl) (by kernel_rfl) (by kernel_rfl) (fun _ _ _ h => h) (Or.inl ⟨by rfl, ?hyr9n0⟩) (by assumption) ?restr9n0
          case hyr9n0 => (intro w hSw; (try dsimp only at hSw); have fc := hSw.1.c; have oc := hSw.2.c; go_simp; try with_reducible rfl)
          simp only [Act.put, List.setIfInBounds_toArray, List.set_cons_zero, List.set_cons_succ]
          refine wpAnyH_take (i := 1) (oi := { dst := some 27, op := Op.fieldAddr 46 (Operand.tmp 7) 1, type := 0, pos := "object.go:136", after := #[], guard := none }) (v := ?vvr9n1) rfl (by kernel_rfl) (by kernel_rfl) (by kernel_rfl) (fun _ _ _ h => h) (Or.inl ⟨by rfl, ?hyr9n1⟩) (by assumption) ?restr9n1
          case hyr9n1 => (intro w hSw; (try dsimp only at hSw); have fc := hSw.1.c; have oc := hSw.2.c; go_simp; try with_reducible rfl)
          simp only [Act.put, List.setIfInBounds_toArray, List.set_cons_zero, List.set_cons_succ]
          refine wpAnyH_take (i := 2) (oi := { dst := some 28, op := Op.load 9 (Operand.tmp 27), type := 9, pos := "object.go:136", after := #[{ on := 1, ground := Ground.data }], guard := none }) (v := ?vvr9n2) rfl (by kernel_rfl) (by kernel_rfl) (by kernel_rfl) (fun _ _ _ h => h) (Or.inl ⟨by rfl, ?hyr9n2⟩) (by assumption) ?restr9n2
          case hyr9n2 => (intro w hSw; (try dsimp only at hSw); have fc := hSw.1.c; have oc := hSw.2.c; go_simp; try with_reducible rfl)
          simp only [Act.put, List.setIfInBounds_toArray, List.set_cons_zero, List.set_cons_succ]
          refine wpAnyH_take (i := 3) (oi := { dst := some 29, op := Op.binOp BinOp.add 9 (Operand.tmp 28) (Operand.const (Value.string { data := #[61] })) 9, type := 9, pos := "object.go:136", after := #[{ on := 2, ground := Ground.data }], guard := none }) (v := ?vvr9n3) rfl (by kernel_rfl) (by kernel_rfl) (by kernel_rfl) (fun _ _ _ h => h) (Or.inl ⟨by rfl, ?hyr9n3⟩) (by assumption) ?restr9n3
          case hyr9n3 => (intro w hSw; (try dsimp only at hSw); have fc := hSw.1.c; have oc := hSw.2.c; go_simp; try with_reducible rfl)
          simp only [Act.put, List.setIfInBounds_toArray, List.set_cons_zero, List.set_cons_succ]
          refine wpAnyH_take (i := 4) (oi := { dst := some 30, op := Op.load 46 (Operand.tmp 7), type := 46, pos := "object.go:136", after := #[], guard := none }) (v := ?vvr9n4) rfl (by kernel_rfl) (by kernel_rfl) (by kernel_rfl) (fun _ _ _ h => h) (Or.inl ⟨by rfl, ?hyr9n4⟩) (by assumption) ?restr9n4
          case hyr9n4 => (intro w hSw; (try dsimp only at hSw); have fc := hSw.1.c; have oc := hSw.2.c; go_simp; try with_reducible rfl)
          simp only [Act.put, List.setIfInBounds_toArray, List.set_cons_zero, List.set_cons_succ]
          refine wpAnyH_ready (rs := [5]) (by kernel_rfl) (by simp) ?_
          refine AllReadyH.cons (o := { dst := some 31, op := Op.call { callee := Callee.value (Operand.func 15), args := #[Operand.tmp 30, Operand.tmp 1], argTypes := #[46, 50] }, type := 9, pos := "object.go:136", after := #[{ on := 4, ground := Ground.data }], guard := none }) rfl (fun K hK => ?_) AllReadyH.nil
          go_simp
          refine (CT _ hHeld0.2 hb.drew).out.mono ?_
          rintro e w3 ⟨rfl, k3⟩
          go_wp2_with fail
          refine hK.out _ _ ⟨hHeld0.1.then k3, hHeld0.2.then k3⟩ (fun hHeld1 => ?_)
          clear hK K hHeld0
          try simp only [Act.put, List.setIfInBounds_toArray, List.set_cons_zero, List.set_cons_succ]
          refine wpAnyH_take (i := 6) (oi := { dst := some 32, op := Op.binOp BinOp.add 9 (Operand.tmp 29) (Operand.tmp 31) 9, type := 9, pos := "object.go:136", after := #[{ on := 3, ground := Ground.data }, { on := 5, ground := Ground.data }], guard := none }) (v := str pc) rfl (by kernel_rfl) (by kernel_rfl) (by kernel_rfl) (fun _ _ _ h => h) (Or.inl ⟨by rfl, ?hyr9n6⟩) (by assumption) ?restr9n6
          case hyr9n6 => (intro w hSw; (try dsimp only at hSw); have fc := hSw.1.c; have oc := hSw.2.c; go_simp; have := HS.out; omega)
          simp only [Act.put, List.setIfInBounds_toArray, List.set_cons_zero, List.set_cons_succ]
          refine wpAnyH_ready (rs := [7]) (by kernel_rfl) (by simp) ?_
          refine AllReadyH.cons (o := { dst := some 33, op := Op.buildSlice 38 1 #[(0, Operand.tmp 32)], type := 38, pos := "object.go:136", after := #[{ on := 6, ground := Ground.data }], guard := none }) rfl (fun K hK => ?_) AllReadyH.nil
          go_simp
          refine hK.out _ _ ⟨hHeld1.1.al _, hHeld1.2.al _⟩ (fun hHeld2 => ?_)
          clear hK K hHeld1
          try simp only [Act.put, List.setIfInBounds_toArray, List.set_cons_zero, List.set_cons_succ]
          refine wpAnyH_ready (rs := [8]) (by kernel_rfl) (by simp) ?_
          refine AllReadyH.cons (o := { dst := some 34, op := Op.call { callee := Callee.builtin Builtin.append, args := #[Operand.tmp 26, Operand.tmp 33], argTypes := #[38, 38] }, type := 38, pos := "object.go:136", after := #[{ on := 0, ground := Ground.data }, { on := 7, ground := Ground.data }, { on := 5, ground := Ground.chain }], guard := none }) rfl (fun K hK => ?_) AllReadyH.nil
          refine step_one rfl _ _ rfl (w.heap.size + 1) _ ps rfl (HO.out.below ((Below.refl _ _).drew.trans (k3.mono (Nat.le_refl _)) |>.alloc (by have := k3.size; simpa using this) _)) w3.heap.size 1 pc rfl (by simp) HL.out hHeld2.2.lt ?_
          intro v5 w5 o5 g5
          refine hK.out _ _ ⟨AtC.grown hHeld2.1 g5 (fun q hq => by have := HQ.out q hq; omega), AtC.grown hHeld2.2 g5 (fun q hq => by have := HQ.out q hq; omega)⟩ (fun hHeld3 => ?_)
          clear hK K hHeld2
          try simp only [Act.put, List.setIfInBounds_toArray, List.set_cons_zero, List.set_cons_succ]
          refine wpAnyH_take (i := 9) (oi := { dst := some 5, op := Op.assign (Operand.tmp 34), type := 38, pos := "object.go:136", after := #[{ on := 8, ground := Ground.data }, { on := 8, ground := Ground.chain }, { on := 0, ground := Ground.phase }, { on := 1, ground := Ground.phase }, { on := 2, ground := Ground.phase }, { on := 3, ground := Ground.phase }, { on := 4, ground := Ground.phase }, { on := 5, ground := Ground.phase }, { on := 6, ground := Ground.phase }, { on := 7, ground := Ground.phase }, { on := 8, ground := Ground.phase }], guard := none }) (v := ?vvr9n9) rfl (by kernel_rfl) (by kernel_rfl) (by kernel_rfl) (fun _ _ _ h => h) (Or.inl ⟨by rfl, ?hyr9n9⟩) (by assumption) ?restr9n9
          case hyr9n9 => (intro w hSw; (try dsimp only at hSw); have fc := hSw.1.c; have oc := hSw.2.c; go_simp; try with_reducible rfl)
          simp only [Act.put, List.setIfInBounds_toArray, List.set_cons_zero, List.set_cons_succ]
          refine wpAnyH_done (by kernel_rfl) ?_ _
          go_wp2_with fail
          go_roundw
          case rel => exact ⟨8, by omega, rfl, Lib.hid (by rw [HM.out]; exact o5), hHeld3.2, (((hb.drew.trans (k3.mono hb.size)).alloc (Nat.le_trans hb.size k3.size) _).grown g5 (by have a1 := k3.size; have a2 := hb.size; simp at a1 ⊢; omega) (fun q hq => by have := HQ.out q hq; omega))⟩
          case measure => simp [intOf]
        · go_wp2_with (go_at_call 14; ((with_reducible refine (C.out _ (mO.al _)).mono ?_); rintro e w2 ⟨rfl, k3⟩; replace HO := Lib.hid (HO.out.below (bThen (bAl (Below.refl _ _) _) k3)); replace mO := (mO.al _).then k3; replace hb := bThen (bAl hb _) k3))
          go_roundw
          case rel => exact ⟨8, by omega, rfl, Lib.hid (by rw [HM.out]; exact HO.out), mO, hb⟩
          case measure => simp [intOf]
      · have C := Lib.hid (fun W h => zero8 o w.heap.size W h)
        have I := idx8
        have HM := Lib.hid (show piecesTo o (8 + 1) = if (o.value == 0) then piecesTo o 8 else piecesTo o 8 ++ [pieceL o 8] from rfl)
        have CT := fun W (m : AtC W w.heap.size (obCells o)) (k : Below w.heap.size w W) => Lib.hid (ftext8 o w.heap.size W m (HP.out.then k) SM.value)
        have HS := Lib.hid (show (ftext o 8).size ≤ 1000 from ftext_len SM 8 (by omega))
        have HE : (⟨#[118, 97, 108, 117, 101]⟩ : ByteArray) ++ ⟨#[61]⟩ ++ ftext o 8 = ⟨(pieceL o 8).toArray⟩ := ByteArray.ext (by rw [ByteArray.data_append, ByteArray.data_append]; apply Array.toList_inj.1; simp [pieceL, fnameL])
        have HQ := Lib.hid (fun q hq => HO.out.lt q hq)
        have HL := Lib.hid (show (piecesTo o 8).length ≤ 1000000 from Nat.le_trans (pieces_len o 8).2 (by decide))
        generalize (o.value == 0) = z at *
        generalize piecesTo o 8 = ps at *
        generalize pieceL o 8 = pc at *
        generalize ftext o 8 = tx at *
        clear hlt hk h1 h5 h11 SM hr HP
        cases z
        · go_wp2_with (go_at_call 14; ((with_reducible refine (C.out _ (mO.al _)).mono ?_); rintro e w2 ⟨rfl, k3⟩; have mF := (AtC.new _ _ _).then k3; replace HO := Lib.hid (HO.out.below (bThen (bAl (Below.refl _ _) _) k3)); replace mO := (mO.al _).then k3; replace hb := bThen (bAl hb _) k3))
          clear k3 C
          refine wp_region_held_drew (S := fun w' => AtC w' wr.heap.size #[.int .u16 256, .string ⟨#[118, 97, 108, 117, 101]⟩, .nilFunc, .func (.func 36) #[] #[], .nilFunc, .nilFunc] ∧ AtC w' w.heap.size (obCells o)) (by kernel_rfl) ⟨mF.drew1, mO.drew1⟩ (fun hHeld0 => ?_)
          refine wpAnyH_take (i := 0) (oi := { dst := some 26, op := Op.move (Operand.tmp 5), type := 38, pos := "object.go:136", after := #[], guard := none }) (v := ?vvr10n0) rfl (by kernel_rfl) (by kernel_rfl) (by kernel_rfl) (fun _ _ _ h => h) (Or.inl ⟨by rfl, ?hyr10n0⟩) (by assumption) ?restr10n0
          case hyr10n0 => (intro w hSw; (try dsimp only at hSw); have fc := hSw.1.c; have oc := hSw.2.c; go_simp; try with_reducible rfl)
          simp only [Act.put, List.setIfInBounds_toArray, List.set_cons_zero, List.set_cons_succ]
          refine wpAnyH_take (i := 1) (oi := { dst := some 27, op := Op.fieldAddr 46 (Operand.tmp 7) 1, type := 0, pos := "object.go:136", after := #[], guard := none }) (v := ?vvr10n1) rfl (by kernel_rfl) (by kernel_rfl) (by kernel_rfl) (fun _ _ _ h => h) (Or.inl ⟨by rfl, ?hyr10n1⟩) (by assumption) ?restr10n1
          case hyr10n1 => (intro w hSw; (try dsimp only at hSw); have fc := hSw.1.c; have oc := hSw.2.c; go_simp; try with_reducible rfl)
          simp only [Act.put, List.setIfInBounds_toArray, List.set_cons_zero, List.set_cons_succ]
          refine wpAnyH_take (i := 2) (oi := { dst := some 28, op := Op.load 9 (Operand.tmp 27), type := 9, pos := "object.go:136", after := #[{ on := 1, ground := Ground.data }], guard := none }) (v := ?vvr10n2) rfl (by kernel_rfl) (by kernel_rfl) (by kernel_rfl) (fun _ _ _ h => h) (Or.inl ⟨by rfl, ?hyr10n2⟩) (by assumption) ?restr10n2
          case hyr10n2 => (intro w hSw; (try dsimp only at hSw); have fc := hSw.1.c; have oc := hSw.2.c; go_simp; try with_reducible rfl)
          simp only [Act.put, List.setIfInBounds_toArray, List.set_cons_zero, List.set_cons_succ]
          refine wpAnyH_take (i := 3) (oi := { dst := some 29, op := Op.binOp BinOp.add 9 (Operand.tmp 28) (Operand.const (Value.string { data := #[61] })) 9, type := 9, pos := "object.go:136", after := #[{ on := 2, ground := Ground.data }], guard := none }) (v := ?vvr10n3) rfl (by kernel_rfl) (by kernel_rfl) (by kernel_rfl) (fun _ _ _ h => h) (Or.inl ⟨by rfl, ?hyr10n3⟩) (by assumption) ?restr10n3
          case hyr10n3 => (intro w hSw; (try dsimp only at hSw); have fc := hSw.1.c; have oc := hSw.2.c; go_simp; try with_reducible rfl)
          simp only [Act.put, List.setIfInBounds_toArray, List.set_cons_zero, List.set_cons_succ]
          refine wpAnyH_take (i := 4) (oi := { dst := some 30, op := Op.load 46 (Operand.tmp 7), type := 46, pos := "object.go:136", after := #[], guard := none }) (v := ?vvr10n4) rfl (by kernel_rfl) (by kernel_rfl) (by kernel_rfl) (fun _ _ _ h => h) (Or.inl ⟨by rfl, ?hyr10n4⟩) (by assumption) ?restr10n4
          case hyr10n4 => (intro w hSw; (try dsimp only at hSw); have fc := hSw.1.c; have oc := hSw.2.c; go_simp; try with_reducible rfl)
          simp only [Act.put, List.setIfInBounds_toArray, List.set_cons_zero, List.set_cons_succ]
          refine wpAnyH_ready (rs := [5]) (by kernel_rfl) (by simp) ?_
          refine AllReadyH.cons (o := { dst := some 31, op := Op.call { callee := Callee.value (Operand.func 15), args := #[Operand.tmp 30, Operand.tmp 1], argTypes := #[46, 50] }, type := 9, pos := "object.go:136", after := #[{ on := 4, ground := Ground.data }], guard := none }) rfl (fun K hK => ?_) AllReadyH.nil
          go_simp
          refine (CT _ hHeld0.2 hb.drew).out.mono ?_
          rintro e w3 ⟨rfl, k3⟩
          go_wp2_with fail
          refine hK.out _ _ ⟨hHeld0.1.then k3, hHeld0.2.then k3⟩ (fun hHeld1 => ?_)
          clear hK K hHeld0
          try simp only [Act.put, List.setIfInBounds_toArray, List.set_cons_zero, List.set_cons_succ]
          refine wpAnyH_take (i := 6) (oi := { dst := some 32, op := Op.binOp BinOp.add 9 (Operand.tmp 29) (Operand.tmp 31) 9, type := 9, pos := "object.go:136", after := #[{ on := 3, ground := Ground.data }, { on := 5, ground := Ground.data }], guard := none }) (v := str pc) rfl (by kernel_rfl) (by kernel_rfl) (by kernel_rfl) (fun _ _ _ h => h) (Or.inl ⟨by rfl, ?hyr10n6⟩) (by assumption) ?restr10n6
          case hyr10n6 => (intro w hSw; (try dsimp only at hSw); have fc := hSw.1.c; have oc := hSw.2.c; go_simp; have := HS.out; omega)
          simp only [Act.put, List.setIfInBounds_toArray, List.set_cons_zero, List.set_cons_succ]
          refine wpAnyH_ready (rs := [7]) (by kernel_rfl) (by simp) ?_
          refine AllReadyH.cons (o := { dst := some 33, op := Op.buildSlice 38 1 #[(0, Operand.tmp 32)], type := 38, pos := "object.go:136", after := #[{ on := 6, ground := Ground.data }], guard := none }) rfl (fun K hK => ?_) AllReadyH.nil
          go_simp
          refine hK.out _ _ ⟨hHeld1.1.al _, hHeld1.2.al _⟩ (fun hHeld2 => ?_)
          clear hK K hHeld1
          try simp only [Act.put, List.setIfInBounds_toArray, List.set_cons_zero, List.set_cons_succ]
          refine wpAnyH_ready (rs := [8]) (by kernel_rfl) (by simp) ?_
          refine AllReadyH.cons (o := { dst := some 34, op := Op.call { callee := Callee.builtin Builtin.append, args := #[Operand.tmp 26, Operand.tmp 33], argTypes := #[38, 38] }, type := 38, pos := "object.go:136", after := #[{ on := 0, ground := Ground.data }, { on := 7, ground := Ground.data }, { on := 5, ground := Ground.chain }], guard := none }) rfl (fun K hK => ?_) AllReadyH.nil
          refine step_one rfl _ _ rfl (w.heap.size + 1) _ ps rfl (HO.out.below ((Below.refl _ _).drew.trans (k3.mono (Nat.le_refl _)) |>.alloc (by have := k3.size; simpa using this) _)) w3.heap.size 1 pc rfl (by simp) HL.out hHeld2.2.lt ?_
          intro v5 w5 o5 g5
          refine hK.out _ _ ⟨AtC.grown hHeld2.1 g5 (fun q hq => by have := HQ.out q hq; omega), AtC.grown hHeld2.2 g5 (fun q hq => by have := HQ.out q hq; omega)⟩ (fun hHeld3 => ?_)
          clear hK K hHeld2
          try simp only [Act.put, List.setIfInBounds_toArray, List.set_cons_zero, List.set_cons_succ]
          refine wpAnyH_take (i := 9) (oi := { dst := some 5, op := Op.assign (Operand.tmp 34), type := 38, pos := "object.go:136", after := #[{ on := 8, ground := Ground.data }, { on := 8, ground := Ground.chain }, { on := 0, ground := Ground.phase }, { on := 1, ground := Ground.phase }, { on := 2, ground := Ground.phase }, { on := 3, ground := Ground.phase }, { on := 4, ground := Ground.phase }, { on := 5, ground := Ground.phase }, { on := 6, ground := Ground.phase }, { on := 7, ground := Ground.phase }, { on := 8, ground := Ground.phase }], guard := none }) (v := ?vvr10n9) rfl (by kernel_rfl) (by kernel_rfl) (by kernel_rfl) (fun _ _ _ h => h) (Or.inl ⟨by rfl, ?hyr10n9⟩) (by assumption) ?restr10n9
          case hyr10n9 => (intro w hSw; (try dsimp only at hSw); have fc := hSw.1.c; have oc := hSw.2.c; go_simp; try with_reducible rfl)
          simp only [Act.put, List.setIfInBounds_toArray, List.set_cons_zero, List.set_cons_succ]
          refine wpAnyH_done (by kernel_rfl) ?_ _
          go_wp2_with fail
          go_roundw
          case rel => exact ⟨9, by omega, rfl, Lib.hid (by rw [HM.out]; exact o5), hHeld3.2, (((hb.drew.trans (k3.mono hb.size)).alloc (Nat.le_trans hb.size k3.size) _).grown g5 (by have a1 := k3.size; have a2 := hb.size; simp at a1 ⊢; omega) (fun q hq => by have := HQ.out q hq; omega))⟩
          case measure => simp [intOf]
        · go_wp2_with (go_at_call 14; ((with_reducible refine (C.out _ (mO.al _)).mono ?_); rintro e w2 ⟨rfl, k3⟩; replace HO := Lib.hid (HO.out.below (bThen (bAl (Below.refl _ _) _) k3)); replace mO := (mO.al _).then k3; replace hb := bThen (bAl hb _) k3))
          go_roundw
          case rel => exact ⟨9, by omega, rfl, Lib.hid (by rw [HM.out]; exact HO.out), mO, hb⟩
          case measure => simp [intOf]
      · have C := Lib.hid (fun W h => zero9 o w.heap.size W h)
        have I := idx9
        have HM := Lib.hid (show piecesTo o (9 + 1) = if (o.low == 0) then piecesTo o 9 else piecesTo o 9 ++ [pieceL o 9] from rfl)
        have CT := fun W (m : AtC W w.heap.size (obCells o)) (k : Below w.heap.size w W) => Lib.hid (ftext9 o w.heap.size W m (HP.out.then k) SM.low)
        have HS := Lib.hid (show (ftext o 9).size ≤ 1000 from ftext_len SM 9 (by omega))
        have HE : (⟨#[108, 111, 119]⟩ : ByteArray) ++ ⟨#[61]⟩ ++ ftext o 9 = ⟨(pieceL o 9).toArray⟩ := ByteArray.ext (by rw [ByteArray.data_append, ByteArray.data_append]; apply Array.toList_inj.1; simp [pieceL, fnameL])
        have HQ := Lib.hid (fun q hq => HO.out.lt q hq)
        have HL := Lib.hid (show (piecesTo o 9).length ≤ 1000000 from Nat.le_trans (pieces_len o 9).2 (by decide))
        generalize (o.low == 0) = z at *
        generalize piecesTo o 9 = ps at *
        generalize pieceL o 9 = pc at *
        generalize ftext o 9 = tx at *
        clear hlt hk h1 h5 h11 SM hr HP
        cases z
        · go_wp2_with (go_at_call 14; ((with_reducible refine (C.out _ (mO.al _)).mono ?_); rintro e w2 ⟨rfl, k3⟩; have mF := (AtC.new _ _ _).then k3; replace HO := Lib.hid (HO.out.below (bThen (bAl (Below.refl _ _) _) k3)); replace mO := (mO.al _).then k3; replace hb := bThen (bAl hb _) k3))
          clear k3 C
          refine wp_region_held_drew (S := fun w' => AtC w' wr.heap.size #[.int .u16 512, .string ⟨#[108, 111, 119]⟩, .nilFunc, .func (.func 37) #[] #[], .nilFunc, .nilFunc] ∧ AtC w' w.heap.size (obCells o)) (by kernel_rfl) ⟨mF.drew1, mO.drew1⟩ (fun hHeld0 => ?_)
          refine wpAnyH_take (i := 0) (oi := { dst := some 26, op := Op.move (Operand.tmp 5), type := 38, pos := "object.go:136", after := #[], guard := none }) (v := ?vvr11n0) rfl (by kernel_rfl) (by kernel_rfl) (by kernel_rfl) (fun _ _ _ h => h) (Or.inl ⟨by rfl, ?hyr11n0⟩) (by assumption) ?restr11n0
          case hyr11n0 => (intro w hSw; (try dsimp only at hSw); have fc := hSw.1.c; have oc := hSw.2.c; go_simp; try with_reducible rfl)
          simp only [Act.put, List.setIfInBounds_toArray, List.set_cons_zero, List.set_cons_succ]
          refine wpAnyH_take (i := 1) (oi := { dst := some 27, op := Op.fieldAddr 46 (Operand.tmp 7) 1, type := 0, pos := "object.go:136", after := #[], guard := none }) (v := ?vvr11n1) rfl (by kernel_rfl) (by kernel_rfl) (by kernel_rfl) (fun _ _ _ h => h) (Or.inl ⟨by rfl, ?hyr11n1⟩) (by assumption) ?restr11n1
          case hyr11n1 => (intro w hSw; (try dsimp only at hSw); have fc := hSw.1.c; have oc := hSw.2.c; go_simp; try with_reducible rfl)
          simp only [Act.put, List.setIfInBounds_toArray, List.set_cons_zero, List.set_cons_succ]
          refine wpAnyH_take (i := 2) (oi := { dst := some 28, op := Op.load 9 (Operand.tmp 27), type := 9, pos := "object.go:136", after := #[{ on := 1, ground := Ground.data }], guard := none }) (v := ?vvr11n2) rfl (by kernel_rfl) (by kernel_rfl) (by kernel_rfl) (fun _ _ _ h => h) (Or.inl ⟨by rfl, ?hyr11n2⟩) (by assumption) ?restr11n2
          case hyr11n2 => (intro w hSw; (try dsimp only at hSw); have fc := hSw.1.c; have oc := hSw.2.c; go_simp; try with_reducible rfl)
          simp only [Act.put, List.setIfInBounds_toArray, List.set_cons_zero, List.set_cons_succ]
          refine wpAnyH_take (i := 3) (oi := { dst := some 29, op := Op.binOp BinOp.add 9 (Operand.tmp 28) (Operand.const (Value.string { data := #[61] })) 9, type := 9, pos := "object.go:136", after := #[{ on := 2, ground := Ground.data }], guard := none }) (v := ?vvr11n3) rfl (by kernel_rfl) (by kernel_rfl) (by kernel_rfl) (fun _ _ _ h => h) (Or.inl ⟨by rfl, ?hyr11n3⟩) (by assumption) ?restr11n3
          case hyr11n3 => (intro w hSw; (try dsimp only at hSw); have fc := hSw.1.c; have oc := hSw.2.c; go_simp; try with_reducible rfl)
          simp only [Act.put, List.setIfInBounds_toArray, List.set_cons_zero, List.set_cons_succ]
          refine wpAnyH_take (i := 4) (oi := { dst := some 30, op := Op.load 46 (Operand.tmp 7), type := 46, pos := "object.go:136", after := #[], guard := none }) (v := ?vvr11n4) rfl (by kernel_rfl) (by kernel_rfl) (by kernel_rfl) (fun _ _ _ h => h) (Or.inl ⟨by rfl, ?hyr11n4⟩) (by assumption) ?restr11n4
          case hyr11n4 => (intro w hSw; (try dsimp only at hSw); have fc := hSw.1.c; have oc := hSw.2.c; go_simp; try with_reducible rfl)
          simp only [Act.put, List.setIfInBounds_toArray, List.set_cons_zero, List.set_cons_succ]
          refine wpAnyH_ready (rs := [5]) (by kernel_rfl) (by simp) ?_
          refine AllReadyH.cons (o := { dst := some 31, op := Op.call { callee := Callee.value (Operand.func 15), args := #[Operand.tmp 30, Operand.tmp 1], argTypes := #[46, 50] }, type := 9, pos := "object.go:136", after := #[{ on := 4, ground := Ground.data }], guard := none }) rfl (fun K hK => ?_) AllReadyH.nil
          go_simp
          refine (CT _ hHeld0.2 hb.drew).out.mono ?_
          rintro e w3 ⟨rfl, k3⟩
          go_wp2_with fail
          refine hK.out _ _ ⟨hHeld0.1.then k3, hHeld0.2.then k3⟩ (fun hHeld1 => ?_)
          clear hK K hHeld0
          try simp only [Act.put, List.setIfInBounds_toArray, List.set_cons_zero, List.set_cons_succ]
          refine wpAnyH_take (i := 6) (oi := { dst := some 32, op := Op.binOp BinOp.add 9 (Operand.tmp 29) (Operand.tmp 31) 9, type := 9, pos := "object.go:136", after := #[{ on := 3, ground := Ground.data }, { on := 5, ground := Ground.data }], guard := none }) (v := str pc) rfl (by kernel_rfl) (by kernel_rfl) (by kernel_rfl) (fun _ _ _ h => h) (Or.inl ⟨by rfl, ?hyr11n6⟩) (by assumption) ?restr11n6
          case hyr11n6 => (intro w hSw; (try dsimp only at hSw); have fc := hSw.1.c; have oc := hSw.2.c; go_simp; have := HS.out; omega)
          simp only [Act.put, List.setIfInBounds_toArray, List.set_cons_zero, List.set_cons_succ]
          refine wpAnyH_ready (rs := [7]) (by kernel_rfl) (by simp) ?_
          refine AllReadyH.cons (o := { dst := some 33, op := Op.buildSlice 38 1 #[(0, Operand.tmp 32)], type := 38, pos := "object.go:136", after := #[{ on := 6, ground := Ground.data }], guard := none }) rfl (fun K hK => ?_) AllReadyH.nil
          go_simp
          refine hK.out _ _ ⟨hHeld1.1.al _, hHeld1.2.al _⟩ (fun hHeld2 => ?_)
          clear hK K hHeld1
          try simp only [Act.put, List.setIfInBounds_toArray, List.set_cons_zero, List.set_cons_succ]
          refine wpAnyH_ready (rs := [8]) (by kernel_rfl) (by simp) ?_
          refine AllReadyH.cons (o := { dst := some 34, op := Op.call { callee := Callee.builtin Builtin.append, args := #[Operand.tmp 26, Operand.tmp 33], argTypes := #[38, 38] }, type := 38, pos := "object.go:136", after := #[{ on := 0, ground := Ground.data }, { on := 7, ground := Ground.data }, { on := 5, ground := Ground.chain }], guard := none }) rfl (fun K hK => ?_) AllReadyH.nil
          refine step_one rfl _ _ rfl (w.heap.size + 1) _ ps rfl (HO.out.below ((Below.refl _ _).drew.trans (k3.mono (Nat.le_refl _)) |>.alloc (by have := k3.size; simpa using this) _)) w3.heap.size 1 pc rfl (by simp) HL.out hHeld2.2.lt ?_
          intro v5 w5 o5 g5
          refine hK.out _ _ ⟨AtC.grown hHeld2.1 g5 (fun q hq => by have := HQ.out q hq; omega), AtC.grown hHeld2.2 g5 (fun q hq => by have := HQ.out q hq; omega)⟩ (fun hHeld3 => ?_)
          clear hK K hHeld2
          try simp only [Act.put, List.setIfInBounds_toArray, List.set_cons_zero, List.set_cons_succ]
          refine wpAnyH_take (i := 9) (oi := { dst := some 5, op := Op.assign (Operand.tmp 34), type := 38, pos := "object.go:136", after := #[{ on := 8, ground := Ground.data }, { on := 8, ground := Ground.chain }, { on := 0, ground := Ground.phase }, { on := 1, ground := Ground.phase }, { on := 2, ground := Ground.phase }, { on := 3, ground := Ground.phase }, { on := 4, ground := Ground.phase }, { on := 5, ground := Ground.phase }, { on := 6, ground := Ground.phase }, { on := 7, ground := Ground.phase }, { on := 8, ground := Ground.phase }], guard := none }) (v := ?vvr11n9) rfl (by kernel_rfl) (by kernel_rfl) (by kernel_rfl) (fun _ _ _ h => h) (Or.inl ⟨by rfl, ?hyr11n9⟩) (by assumption) ?restr11n9
          case hyr11n9 => (intro w hSw; (try dsimp only at hSw); have fc := hSw.1.c; have oc := hSw.2.c; go_simp; try with_reducible rfl)
          simp only [Act.put, List.setIfInBounds_toArray, List.set_cons_zero, List.set_cons_succ]
          refine wpAnyH_done (by kernel_rfl) ?_ _
          go_wp2_with fail
          go_roundw
          case rel => exact ⟨10, by omega, rfl, Lib.hid (by rw [HM.out]; exact o5), hHeld3.2, (((hb.drew.trans (k3.mono hb.size)).alloc (Nat.le_trans hb.size k3.size) _).grown g5 (by have a1 := k3.size; have a2 := hb.size; simp at a1 ⊢; omega) (fun q hq => by have := HQ.out q hq; omega))⟩
          case measure => simp [intOf]
        · go_wp2_with (go_at_call 14; ((with_reducible refine (C.out _ (mO.al _)).mono ?_); rintro e w2 ⟨rfl, k3⟩; replace HO := Lib.hid (HO.out.below (bThen (bAl (Below.refl _ _) _) k3)); replace mO := (mO.al _).then k3; replace hb := bThen (bAl hb _) k3))
          go_roundw
          case rel => exact ⟨10, by omega, rfl, Lib.hid (by rw [HM.out]; exact HO.out), mO, hb⟩
          case measure => simp [intOf]
      · have C := Lib.hid (fun W h => zero10 o w.heap.size W h)
        have I := idx10
        have HM := Lib.hid (show piecesTo o (10 + 1) = if (o.high == 0) then piecesTo o 10 else piecesTo o 10 ++ [pieceL o 10] from rfl)
        have CT := fun W (m : AtC W w.heap.size (obCells o)) (k : Below w.heap.size w W) => Lib.hid (ftext10 o w.heap.size W m (HP.out.then k) SM.high)
        have HS := Lib.hid (show (ftext o 10).size ≤ 1000 from ftext_len SM 10 (by omega))
        have HE : (⟨#[104, 105, 103, 104]⟩ : ByteArray) ++ ⟨#[61]⟩ ++ ftext o 10 = ⟨(pieceL o 10).toArray⟩ := ByteArray.ext (by rw [ByteArray.data_append, ByteArray.data_append]; apply Array.toList_inj.1; simp [pieceL, fnameL])
        have HQ := Lib.hid (fun q hq => HO.out.lt q hq)
        have HL := Lib.hid (show (piecesTo o 10).length ≤ 1000000 from Nat.le_trans (pieces_len o 10).2 (by decide))
        generalize (o.high == 0) = z at *
        generalize piecesTo o 10 = ps at *
        generalize pieceL o 10 = pc at *
        generalize ftext o 10 = tx at *
        clear hlt hk h1 h5 h11 SM hr HP
        cases z
        · go_wp2_with (go_at_call 14; ((with_reducible refine (C.out _ (mO.al _)).mono ?_); rintro e w2 ⟨rfl, k3⟩; have mF := (AtC.new _ _ _).then k3; replace HO := Lib.hid (HO.out.below (bThen (bAl (Below.refl _ _) _) k3)); replace mO := (mO.al _).then k3; replace hb := bThen (bAl hb _) k3))
          clear k3 C
          refine wp_region_held_drew (S := fun w' => AtC w' wr.heap.size #[.int .u16 1024, .string ⟨#[104, 105, 103, 104]⟩, .nilFunc, .func (.func 38) #[] #[], .nilFunc, .nilFunc] ∧ AtC w' w.heap.size (obCells o)) (by kernel_rfl) ⟨mF.drew1, mO.drew1⟩ (fun hHeld0 => ?_)
          refine wpAnyH_take (i := 0) (oi := { dst := some 26, op := Op.move (Operand.tmp 5), type := 38, pos := "object.go:136", after := #[], guard := none }) (v := ?vvr12n0) rfl (by kernel_rfl) (by kernel_rfl) (by kernel_rfl) (fun _ _ _ h => h) (Or.inl ⟨by rfl, ?hyr12n0⟩) (by assumption) ?restr12n0
          case hyr12n0 => (intro w hSw; (try dsimp only at hSw); have fc := hSw.1.c; have oc := hSw.2.c; go_simp; try with_reducible rfl)
          simp only [Act.put, List.setIfInBounds_toArray, List.set_cons_zero, List.set_cons_succ]
          refine wpAnyH_take (i := 1) (oi := { dst := some 27, op := Op.fieldAddr 46 (Operand.tmp 7) 1, type := 0, pos := "object.go:136", after := #[], guard := none }) (v := ?vvr12n1) rfl (by kernel_rfl) (by kernel_rfl) (by kernel_rfl) (fun _ _ _ h => h) (Or.inl ⟨by rfl, ?hyr12n1⟩) (by assumption) ?restr12n1
          case hyr12n1 => (intro w hSw; (try dsimp only at hSw); have fc := hSw.1.c; have oc := hSw.2.c; go_simp; try with_reducible rfl)
          simp only [Act.put, List.setIfInBounds_toArray, List.set_cons_zero, List.set_cons_succ]
          refine wpAnyH_take (i := 2) (oi := { dst := some 28, op := Op.load 9 (Operand.tmp 27), type := 9, pos := "object.go:136", after := #[{ on := 1, ground := Ground.data }], guard := none }) (v := ?vvr12n2) rfl (by kernel_rfl) (by kernel_rfl) (by kernel_rfl) (fun _ _ _ h => h) (Or.inl ⟨by rfl, ?hyr12n2⟩) (by assumption) ?restr12n2
          case hyr12n2 => (intro w hSw; (try dsimp only at hSw); have fc := hSw.1.c; have oc := hSw.2.c; go_simp; try with_reducible rfl)
          simp only [Act.put, List.setIfInBounds_toArray, List.set_cons_zero, List.set_cons_succ]
          refine wpAnyH_take (i := 3) (oi := { dst := some 29, op := Op.binOp BinOp.add 9 (Operand.tmp 28) (Operand.const (Value.string { data := #[61] })) 9, type := 9, pos := "object.go:136", after := #[{ on := 2, ground := Ground.data }], guard := none }) (v := ?vvr12n3) rfl (by kernel_rfl) (by kernel_rfl) (by kernel_rfl) (fun _ _ _ h => h) (Or.inl ⟨by rfl, ?hyr12n3⟩) (by assumption) ?restr12n3
          case hyr12n3 => (intro w hSw; (try dsimp only at hSw); have fc := hSw.1.c; have oc := hSw.2.c; go_simp; try with_reducible rfl)
          simp only [Act.put, List.setIfInBounds_toArray, List.set_cons_zero, List.set_cons_succ]
          refine wpAnyH_take (i := 4) (oi := { dst := some 30, op := Op.load 46 (Operand.tmp 7), type := 46, pos := "object.go:136", after := #[], guard := none }) (v := ?vvr12n4) rfl (by kernel_rfl) (by kernel_rfl) (by kernel_rfl) (fun _ _ _ h => h) (Or.inl ⟨by rfl, ?hyr12n4⟩) (by assumption) ?restr12n4
          case hyr12n4 => (intro w hSw; (try dsimp only at hSw); have fc := hSw.1.c; have oc := hSw.2.c; go_simp; try with_reducible rfl)
          simp only [Act.put, List.setIfInBounds_toArray, List.set_cons_zero, List.set_cons_succ]
          refine wpAnyH_ready (rs := [5]) (by kernel_rfl) (by simp) ?_
          refine AllReadyH.cons (o := { dst := some 31, op := Op.call { callee := Callee.value (Operand.func 15), args := #[Operand.tmp 30, Operand.tmp 1], argTypes := #[46, 50] }, type := 9, pos := "object.go:136", after := #[{ on := 4, ground := Ground.data }], guard := none }) rfl (fun K hK => ?_) AllReadyH.nil
          go_simp
          refine (CT _ hHeld0.2 hb.drew).out.mono ?_
          rintro e w3 ⟨rfl, k3⟩
          go_wp2_with fail
          refine hK.out _ _ ⟨hHeld0.1.then k3, hHeld0.2.then k3⟩ (fun hHeld1 => ?_)
          clear hK K hHeld0
          try simp only [Act.put, List.setIfInBounds_toArray, List.set_cons_zero, List.set_cons_succ]
          refine wpAnyH_take (i := 6) (oi := { dst := some 32, op := Op.binOp BinOp.add 9 (Operand.tmp 29) (Operand.tmp 31) 9, type := 9, pos := "object.go:136", after := #[{ on := 3, ground := Ground.data }, { on := 5, ground := Ground.data }], guard := none }) (v := str pc) rfl (by kernel_rfl) (by kernel_rfl) (by kernel_rfl) (fun _ _ _ h => h) (Or.inl ⟨by rfl, ?hyr12n6⟩) (by assumption) ?restr12n6
          case hyr12n6 => (intro w hSw; (try dsimp only at hSw); have fc := hSw.1.c; have oc := hSw.2.c; go_simp; have := HS.out; omega)
          simp only [Act.put, List.setIfInBounds_toArray, List.set_cons_zero, List.set_cons_succ]
          refine wpAnyH_ready (rs := [7]) (by kernel_rfl) (by simp) ?_
          refine AllReadyH.cons (o := { dst := some 33, op := Op.buildSlice 38 1 #[(0, Operand.tmp 32)], type := 38, pos := "object.go:136", after := #[{ on := 6, ground := Ground.data }], guard := none }) rfl (fun K hK => ?_) AllReadyH.nil
          go_simp
          refine hK.out _ _ ⟨hHeld1.1.al _, hHeld1.2.al _⟩ (fun hHeld2 => ?_)
          clear hK K hHeld1
          try simp only [Act.put, List.setIfInBounds_toArray, List.set_cons_zero, List.set_cons_succ]
          refine wpAnyH_ready (rs := [8]) (by kernel_rfl) (by simp) ?_
          refine AllReadyH.cons (o := { dst := some 34, op := Op.call { callee := Callee.builtin Builtin.append, args := #[Operand.tmp 26, Operand.tmp 33], argTypes := #[38, 38] }, type := 38, pos := "object.go:136", after := #[{ on := 0, ground := Ground.data }, { on := 7, ground := Ground.data }, { on := 5, ground := Ground.chain }], guard := none }) rfl (fun K hK => ?_) AllReadyH.nil
          refine step_one rfl _ _ rfl (w.heap.size + 1) _ ps rfl (HO.out.below ((Below.refl _ _).drew.trans (k3.mono (Nat.le_refl _)) |>.alloc (by have := k3.size; simpa using this) _)) w3.heap.size 1 pc rfl (by simp) HL.out hHeld2.2.lt ?_
          intro v5 w5 o5 g5
          refine hK.out _ _ ⟨AtC.grown hHeld2.1 g5 (fun q hq => by have := HQ.out q hq; omega), AtC.grown hHeld2.2 g5 (fun q hq => by have := HQ.out q hq; omega)⟩ (fun hHeld3 => ?_)
          clear hK K hHeld2
          try simp only [Act.put, List.setIfInBounds_toArray, List.set_cons_zero, List.set_cons_succ]
          refine wpAnyH_take (i := 9) (oi := { dst := some 5, op := Op.assign (Operand.tmp 34), type := 38, pos := "object.go:136", after := #[{ on := 8, ground := Ground.data }, { on := 8, ground := Ground.chain }, { on := 0, ground := Ground.phase }, { on := 1, ground := Ground.phase }, { on := 2, ground := Ground.phase }, { on := 3, ground := Ground.phase }, { on := 4, ground := Ground.phase }, { on := 5, ground := Ground.phase }, { on := 6, ground := Ground.phase }, { on := 7, ground := Ground.phase }, { on := 8, ground := Ground.phase }], guard := none }) (v := ?vvr12n9) rfl (by kernel_rfl) (by kernel_rfl) (by kernel_rfl) (fun _ _ _ h => h) (Or.inl ⟨by rfl, ?hyr12n9⟩) (by assumption) ?restr12n9
          case hyr12n9 => (intro w hSw; (try dsimp only at hSw); have fc := hSw.1.c; have oc := hSw.2.c; go_simp; try with_reducible rfl)
          simp only [Act.put, List.setIfInBounds_toArray, List.set_cons_zero, List.set_cons_succ]
          refine wpAnyH_done (by kernel_rfl) ?_ _
          go_wp2_with fail
          go_roundw
          case rel => exact ⟨11, by omega, rfl, Lib.hid (by rw [HM.out]; exact o5), hHeld3.2, (((hb.drew.trans (k3.mono hb.size)).alloc (Nat.le_trans hb.size k3.size) _).grown g5 (by have a1 := k3.size; have a2 := hb.size; simp at a1 ⊢; omega) (fun q hq => by have := HQ.out q hq; omega))⟩
          case measure => simp [intOf]
        · go_wp2_with (go_at_call 14; ((with_reducible refine (C.out _ (mO.al _)).mono ?_); rintro e w2 ⟨rfl, k3⟩; replace HO := Lib.hid (HO.out.below (bThen (bAl (Below.refl _ _) _) k3)); replace mO := (mO.al _).then k3; replace hb := bThen (bAl hb _) k3))
          go_roundw
          case rel => exact ⟨11, by omega, rfl, Lib.hid (by rw [HM.out]; exact HO.out), mO, hb⟩
          case measure => simp [intOf]
      · have C := Lib.hid (fun W h => zero11 o w.heap.size W h h11)
        have I := idx11
        have HM := Lib.hid (show piecesTo o (11 + 1) = if ((o.assoc : Int) == 0) then piecesTo o 11 else piecesTo o 11 ++ [pieceL o 11] from rfl)
        have CT := fun W (m : AtC W w.heap.size (obCells o)) (k : Below w.heap.size w W) => Lib.hid (ftext11 o w.heap.size W m (HP.out.then k) h11)
        have HS := Lib.hid (show (ftext o 11).size ≤ 1000 from ftext_len SM 11 (by omega))
        have HE : (⟨#[97, 115, 115, 111, 99]⟩ : ByteArray) ++ ⟨#[61]⟩ ++ ftext o 11 = ⟨(pieceL o 11).toArray⟩ := ByteArray.ext (by rw [ByteArray.data_append, ByteArray.data_append]; apply Array.toList_inj.1; simp [pieceL, fnameL])
        have HQ := Lib.hid (fun q hq => HO.out.lt q hq)
        have HL := Lib.hid (show (piecesTo o 11).length ≤ 1000000 from Nat.le_trans (pieces_len o 11).2 (by decide))
        generalize ((o.assoc : Int) == 0) = z at *
        generalize piecesTo o 11 = ps at *
        generalize pieceL o 11 = pc at *
        generalize ftext o 11 = tx at *
        clear hlt hk h1 h5 h11 SM hr HP
        cases z
        · go_wp2_with (go_at_call 14; ((with_reducible refine (C.out _ (mO.al _)).mono ?_); rintro e w2 ⟨rfl, k3⟩; have mF := (AtC.new _ _ _).then k3; replace HO := Lib.hid (HO.out.below (bThen (bAl (Below.refl _ _) _) k3)); replace mO := (mO.al _).then k3; replace hb := bThen (bAl hb _) k3))
          clear k3 C
          refine wp_region_held_drew (S := fun w' => AtC w' wr.heap.size #[.int .u16 2048, .string ⟨#[97, 115, 115, 111, 99]⟩, .nilFunc, .nilFunc, .func (.func 39) #[] #[], .nilFunc] ∧ AtC w' w.heap.size (obCells o)) (by kernel_rfl) ⟨mF.drew1, mO.drew1⟩ (fun hHeld0 => ?_)
          refine wpAnyH_take (i := 0) (oi := { dst := some 26, op := Op.move (Operand.tmp 5), type := 38, pos := "object.go:136", after := #[], guard := none }) (v := ?vvr13n0) rfl (by kernel_rfl) (by kernel_rfl) (by kernel_rfl) (fun _ _ _ h => h) (Or.inl ⟨by rfl, ?hyr13n0⟩) (by assumption) ?restr13n0
          case hyr13n0 => (intro w hSw; (try dsimp only at hSw); have fc := hSw.1.c; have oc := hSw.2.c; go_simp; try with_reducible rfl)
          simp only [Act.put, List.setIfInBounds_toArray, List.set_cons_zero, List.set_cons_succ]
          refine wpAnyH_take (i := 1) (oi := { dst := some 27, op := Op.fieldAddr 46 (Operand.tmp 7) 1, type := 0, pos := "object.go:136", after := #[], guard := none }) (v := ?vvr13n1) rfl (by kernel_rfl) (by kernel_rfl) (by kernel_rfl) (fun _ _ _ h => h) (Or.inl ⟨by rfl, ?hyr13n1⟩) (by assumption) ?restr13n1
          case hyr13n1 => (intro w hSw; (try dsimp only at hSw); have fc := hSw.1.c; have oc := hSw.2.c; go_simp; try with_reducible rfl)
          simp only [Act.put, List.setIfInBounds_toArray, List.set_cons_zero, List.set_cons_succ]
          refine wpAnyH_take (i := 2) (oi := { dst := some 28, op := Op.load 9 (Operand.tmp 27), type := 9, pos := "object.go:136", after := #[{ on := 1, ground := Ground.data }], guard := none }) (v := ?vvr13n2) rfl (by kernel_rfl) (by kernel_rfl) (by kernel_rfl) (fun _ _ _ h => h) (Or.inl ⟨by rfl, ?hyr13n2⟩) (by assumption) ?restr13n2
          case hyr13n2 => (intro w hSw; (try dsimp only at hSw); have fc := hSw.1.c; have oc := hSw.2.c; go_simp; try with_reducible rfl)
          simp only [Act.put, List.setIfInBounds_toArray, List.set_cons_zero, List.set_cons_succ]
          refine wpAnyH_take (i := 3) (oi := { dst := some 29, op := Op.binOp BinOp.add 9 (Operand.tmp 28) (Operand.const (Value.string { data := #[61] })) 9, type := 9, pos := "object.go:136", after := #[{ on := 2, ground := Ground.data }], guard := none }) (v := ?vvr13n3) rfl (by kernel_rfl) (by kernel_rfl) (by kernel_rfl) (fun _ _ _ h => h) (Or.inl ⟨by rfl, ?hyr13n3⟩) (by assumption) ?restr13n3
          case hyr13n3 => (intro w hSw; (try dsimp only at hSw); have fc := hSw.1.c; have oc := hSw.2.c; go_simp; try with_reducible rfl)
          simp only [Act.put, List.setIfInBounds_toArray, List.set_cons_zero, List.set_cons_succ]
          refine wpAnyH_take (i := 4) (oi := { dst := some 30, op := Op.load 46 (Operand.tmp 7), type := 46, pos := "object.go:136", after := #[], guard := none }) (v := ?vvr13n4) rfl (by kernel_rfl) (by kernel_rfl) (by kernel_rfl) (fun _ _ _ h => h) (Or.inl ⟨by rfl, ?hyr13n4⟩) (by assumption) ?restr13n4
          case hyr13n4 => (intro w hSw; (try dsimp only at hSw); have fc := hSw.1.c; have oc := hSw.2.c; go_simp; try with_reducible rfl)
          simp only [Act.put, List.setIfInBounds_toArray, List.set_cons_zero, List.set_cons_succ]
          refine wpAnyH_ready (rs := [5]) (by kernel_rfl) (by simp) ?_
          refine AllReadyH.cons (o := { dst := some 31, op := Op.call { callee := Callee.value (Operand.func 15), args := #[Operand.tmp 30, Operand.tmp 1], argTypes := #[46, 50] }, type := 9, pos := "object.go:136", after := #[{ on := 4, ground := Ground.data }], guard := none }) rfl (fun K hK => ?_) AllReadyH.nil
          go_simp
          refine (CT _ hHeld0.2 hb.drew).out.mono ?_
          rintro e w3 ⟨rfl, k3⟩
          go_wp2_with fail
          refine hK.out _ _ ⟨hHeld0.1.then k3, hHeld0.2.then k3⟩ (fun hHeld1 => ?_)
          clear hK K hHeld0
          try simp only [Act.put, List.setIfInBounds_toArray, List.set_cons_zero, List.set_cons_succ]
          refine wpAnyH_take (i := 6) (oi := { dst := some 32, op := Op.binOp BinOp.add 9 (Operand.tmp 29) (Operand.tmp 31) 9, type := 9, pos := "object.go:136", after := #[{ on := 3, ground := Ground.data }, { on := 5, ground := Ground.data }], guard := none }) (v := str pc) rfl (by kernel_rfl) (by kernel_rfl) (by kernel_rfl) (fun _ _ _ h => h) (Or.inl ⟨by rfl, ?hyr13n6⟩) (by assumption) ?restr13n6
          case hyr13n6 => (intro w hSw; (try dsimp only at hSw); have fc := hSw.1.c; have oc := hSw.2.c; go_simp; have := HS.out; omega)
          simp only [Act.put, List.setIfInBounds_toArray, List.set_cons_zero, List.set_cons_succ]
          refine wpAnyH_ready (rs := [7]) (by kernel_rfl) (by simp) ?_
          refine AllReadyH.cons (o := { dst := some 33, op := Op.buildSlice 38 1 #[(0, Operand.tmp 32)], type := 38, pos := "object.go:136", after := #[{ on := 6, ground := Ground.data }], guard := none }) rfl (fun K hK => ?_) AllReadyH.nil
          go_simp
          refine hK.out _ _ ⟨hHeld1.1.al _, hHeld1.2.al _⟩ (fun hHeld2 => ?_)
          clear hK K hHeld1
          try simp only [Act.put, List.setIfInBounds_toArray, List.set_cons_zero, List.set_cons_succ]
          refine wpAnyH_ready (rs := [8]) (by kernel_rfl) (by simp) ?_
          refine AllReadyH.cons (o := { dst := some 34, op := Op.call { callee := Callee.builtin Builtin.append, args := #[Operand.tmp 26, Operand.tmp 33], argTypes := #[38, 38] }, type := 38, pos := "object.go:136", after := #[{ on := 0, ground := Ground.data }, { on := 7, ground := Ground.data }, { on := 5, ground := Ground.chain }], guard := none }) rfl (fun K hK => ?_) AllReadyH.nil
          refine step_one rfl _ _ rfl (w.heap.size + 1) _ ps rfl (HO.out.below ((Below.refl _ _).drew.trans (k3.mono (Nat.le_refl _)) |>.alloc (by have := k3.size; simpa using this) _)) w3.heap.size 1 pc rfl (by simp) HL.out hHeld2.2.lt ?_
          intro v5 w5 o5 g5
          refine hK.out _ _ ⟨AtC.grown hHeld2.1 g5 (fun q hq => by have := HQ.out q hq; omega), AtC.grown hHeld2.2 g5 (fun q hq => by have := HQ.out q hq; omega)⟩ (fun hHeld3 => ?_)
          clear hK K hHeld2
          try simp only [Act.put, List.setIfInBounds_toArray, List.set_cons_zero, List.set_cons_succ]
          refine wpAnyH_take (i := 9) (oi := { dst := some 5, op := Op.assign (Operand.tmp 34), type := 38, pos := "object.go:136", after := #[{ on := 8, ground := Ground.data }, { on := 8, ground := Ground.chain }, { on := 0, ground := Ground.phase }, { on := 1, ground := Ground.phase }, { on := 2, ground := Ground.phase }, { on := 3, ground := Ground.phase }, { on := 4, ground := Ground.phase }, { on := 5, ground := Ground.phase }, { on := 6, ground := Ground.phase }, { on := 7, ground := Ground.phase }, { on := 8, ground := Ground.phase }], guard := none }) (v := ?vvr13n9) rfl (by kernel_rfl) (by kernel_rfl) (by kernel_rfl) (fun _ _ _ h => h) (Or.inl ⟨by rfl, ?hyr13n9⟩) (by assumption) ?restr13n9
          case hyr13n9 => (intro w hSw; (try dsimp only at hSw); have fc := hSw.1.c; have oc := hSw.2.c; go_simp; try with_reducible rfl)
          simp only [Act.put, List.setIfInBounds_toArray, List.set_cons_zero, List.set_cons_succ]
          refine wpAnyH_done (by kernel_rfl) ?_ _
          go_wp2_with fail
          go_roundw
          case rel => exact ⟨12, by omega, rfl, Lib.hid (by rw [HM.out]; exact o5), hHeld3.2, (((hb.drew.trans (k3.mono hb.size)).alloc (Nat.le_trans hb.size k3.size) _).grown g5 (by have a1 := k3.size; have a2 := hb.size; simp at a1 ⊢; omega) (fun q hq => by have := HQ.out q hq; omega))⟩
          case measure => simp [intOf]
        · go_wp2_with (go_at_call 14; ((with_reducible refine (C.out _ (mO.al _)).mono ?_); rintro e w2 ⟨rfl, k3⟩; replace HO := Lib.hid (HO.out.below (bThen (bAl (Below.refl _ _) _) k3)); replace mO := (mO.al _).then k3; replace hb := bThen (bAl hb _) k3))
          go_roundw
          case rel => exact ⟨12, by omega, rfl, Lib.hid (by rw [HM.out]; exact HO.out), mO, hb⟩
          case measure => simp [intOf]
    · obtain rfl : k = 12 := by omega
      obtain ⟨A, c, rfl, hst, _, hcap⟩ := HO.out.form
      have CJ := Lib.hid (join_strs A c (piecesTo o 12) wr hst (by intro e; have := (pieces_len o 12).1; rw [e] at this; simp at this) hcap (Nat.le_trans (pieces_len o 12).2 (by decide)) (by rw [pieces_join]; exact Nat.le_trans (text_len SM 12 (by omega)) (by decide)))
      rw [pieces_join] at CJ
      clear hst hcap HO SM
      go_wp2_with (go_at_call 16; ((with_reducible refine CJ.out.mono ?_); rintro e w5 ⟨rfl, k5⟩; replace hb := bThen hb k5))
      go_ret2
      exact ⟨rfl, hb⟩
theorem otext_any {o : Ob} {w : World} (h : Meets o w) (SM : Small o) (hp : Pow w) : Calls Tryd.prog 6 #[ob o] w fun e w' => e = .returned (textR o) ∧ Below w.heap.size w w' := by
  by_cases hr : faultP o true = 0
  · exact text_ok h SM hp hr
  · exact text_bad h hr
end Go.Proofs.YtonhijonnonmbaaDoor
