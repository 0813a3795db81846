/-
  THE LAW HandleParts: its walk.
-/
import Derived.Test.YtnpifjplfipmcaaHAwake
import Derived.Test.YtnpifjplfipmcaaHPartsMath
import Derived.Deep.RegionHeld3
namespace Go.Proofs.Ytnpifjplfipmcaa
open Go.RowKit
set_option maxRecDepth 100000
set_option linter.unusedVariables false
set_option linter.unusedSimpArgs false

def joinTo (l : List Bs) (k : Nat) : Bs := Lib.join (l.take k) [46]
theorem joinTo_one (l : List Bs) (h : 0 < l.length) : joinTo l 1 = l[0] := by
  unfold joinTo
  rw [List.take_succ_eq_append_getElem h]
  simp [Lib.join_one]
theorem joinTo_succ (l : List Bs) (k : Nat) (h : k < l.length) (h0 : 0 < k) : joinTo l (k + 1) = joinTo l k ++ [46] ++ l[k] := by
  unfold joinTo
  rw [List.take_succ_eq_append_getElem h, join_snoc' 46 _ _ (by
    intro e
    have : (l.take k).length = 0 := by rw [e]; rfl
    rw [List.length_take] at this
    omega)]

set_option maxHeartbeats 40000000 in
theorem parts_walk_t (a b : ByteArray) (h1 : a.size ≤ 100) (h2 : b.size ≤ 100) (hm : mayB a = true) (w : World) :
    Calls Try.prog 9 #[.string a, .string b] w fun e w' => e = .returned (.bool true) ∧ Below w.heap.size w w' := by
  have hM := mayB_iff.1 hm
  have hl := splitL_le a 46
  have hl0 : 0 < (splitL a 46).length := by simp [splitL]
  have HA := Lib.hid (join_split a 46)
  have hsz : a.size ≤ maxLen := by unfold maxLen; omega
  have CP := Lib.hid (fun W => parts_t a W (by omega) hm)
  have hPN := Lib.hid (fun x (hx : x ∈ splitL a 46) => List.length_pos_iff.2 (part_ne hM x hx))
  have hPM := Lib.hid (fun x (hx : x ∈ splitL a 46) (h0 : 0 < x.length) => part_may hM (x := x) hx h0)
  have hPL := Lib.hid (part_len' a 46)
  have hPS := Lib.hid hM.2.1
  have hBP := Lib.hid (both_parts a b)
  obtain ⟨l, hL⟩ : ∃ l, splitL a 46 = l := ⟨_, rfl⟩
  rw [hL] at hl hl0 CP hPN hPM hPL hBP
  have HA' : Hid (joinTo l l.length = a.data.toList) := Lib.hid (by
    have := HA.out
    unfold joinTo
    rw [List.take_of_length_le (Nat.le_refl _), ← hL]
    exact this)
  clear hM HA hL
  have hlH := Lib.hid hl
  go_enter Try.func9, Try.ntmps9
  go_wp2_with (first | (go_at_call 31; refine (awake_any _).mono ?_; rintro e w0 ⟨rfl, hb⟩) | (go_at_call 15; refine (CP.out _).mono ?_; rintro e w1 ⟨v1, rfl, o1, b1⟩; obtain ⟨A1, c1, rfl, s1, _, _⟩ := o1.form; replace hb := hb.trans (b1.mono hb.size)) | (go_at_call 10; refine (may_any _ _ hsz).mono ?_; rintro e w2 ⟨rfl, b2⟩; replace hb := hb.trans (b2.mono hb.size)))
  have S1 := Lib.hid ((s1.below b2).more b2.size)
  clear s1 o1 b1 b2
  go_loopw [6, 7] (fun s i wr => ∃ (k : Nat) (t : Bs), i = .int .i64 k ∧ s = str t ∧ Hid (t = joinTo l k) ∧ t.length ≤ 17 * k ∧ k ≤ l.length ∧ Below w2.heap.size w2 wr) (fun _ i _ => l.length - (intOf i).toNat)
  case atStart => exact ⟨0, [], rfl, rfl, Lib.hid (by simp [joinTo, Lib.join_nil]), by simp, Nat.zero_le _, Below.refl _ _⟩
  case round =>
    obtain ⟨k, t, rfl, rfl, HT, htl, hk, hbr⟩ := hrel
    by_cases hlt : k < l.length
    · obtain ⟨b, o, rfl, _, hcc⟩ := (S1.out.below hbr).at_ (by omega)
      have hx := hcc k _ (List.getElem?_eq_getElem hlt)
      have hx0 := hPN.out _ (List.getElem_mem hlt)
      have hxm := hPM.out _ (List.getElem_mem hlt) hx0
      have hxl := hPL.out _ (List.getElem_mem hlt)
      have hps := hPS.out
      have CM := fun W => Lib.hid (may_any ⟨(l[k]).toArray⟩ W (by show (l[k]).length ≤ _; unfold maxLen; omega))
      clear hcc
      have HJ1 : Hid (k = 0 → l[k] = joinTo l (k + 1)) := Lib.hid fun e => by subst e; exact (joinTo_one l hlt).symm
      have HJ2 : Hid (0 < k → t ++ [46] ++ l[k] = joinTo l (k + 1)) := Lib.hid fun h => by rw [joinTo_succ l k hlt h, HT.out]
      generalize hxe : l[k] = x at hx hx0 hxm hxl CM HJ1 HJ2
      clear hxe
      have hbl : b < wr.heap.size := World.block_lt_of_cell? wr _ hx
      cases x with
      | nil => simp at hx0
      | cons y r =>
      have hne : ¬ (y :: r) = ([] : Bs) := by simp
      simp only [List.getElem_cons_zero] at hxm
      have hxl' : r.length + 1 ≤ 16 := by rw [List.length_cons] at hxl; omega
      have hbl' : b < wr.drew.heap.size := hbl
      clear hxl hx0
      have g0 : 0 < (⟨(y :: r).toArray⟩ : ByteArray).size := Nat.succ_pos _
      have hm3 : (mayB ⟨(y :: r).toArray⟩ = true ∧ (97 : Int) ≤ ↑((⟨(y :: r).toArray⟩ : ByteArray)[0]'g0).toNat ∧ (↑((⟨(y :: r).toArray⟩ : ByteArray)[0]'g0).toNat : Int) ≤ 122)
          ∨ (mayB ⟨(y :: r).toArray⟩ = false ∧ ¬ (97 : Int) ≤ ↑((⟨(y :: r).toArray⟩ : ByteArray)[0]'g0).toNat)
          ∨ (mayB ⟨(y :: r).toArray⟩ = false ∧ (97 : Int) ≤ ↑((⟨(y :: r).toArray⟩ : ByteArray)[0]'g0).toNat ∧ ¬ (↑((⟨(y :: r).toArray⟩ : ByteArray)[0]'g0).toNat : Int) ≤ 122) := by
        have hxm' : mayB ⟨(y :: r).toArray⟩ = ltrI (y.toNat : Int) := hxm
        show (_ ∧ (97 : Int) ≤ (y.toNat : Int) ∧ (y.toNat : Int) ≤ 122) ∨ (_ ∧ ¬ (97 : Int) ≤ (y.toNat : Int)) ∨ (_ ∧ (97 : Int) ≤ (y.toNat : Int) ∧ ¬ (y.toNat : Int) ≤ 122)
        rw [hxm']
        by_cases hlb : ltrI (y.toNat : Int) = true
        · exact .inl ⟨hlb, (ltrI_t.1 hlb).1, (ltrI_t.1 hlb).2⟩
        · have hlf : ltrI (y.toNat : Int) = false := by simpa using hlb
          by_cases q : (97 : Int) ≤ (y.toNat : Int)
          · exact .inr (.inr ⟨hlf, q, fun q2 => hlb (ltrI_t.2 ⟨q, q2⟩)⟩)
          · exact .inr (.inl ⟨hlf, q⟩)
      clear hxm
      -- CASES
      by_cases hk0 : k = 0
      · subst hk0
        have HT0 := HT.out
        simp only [joinTo, List.take_zero, Lib.join_nil] at HT0
        subst HT0
        rw [Nat.add_zero] at hx
        have HJ3 : Hid (y :: r = joinTo l 1) := Lib.hid (HJ1.out rfl)
        clear HT HJ2 HJ1
        rcases hm3 with ⟨hm', g1, g2⟩ | ⟨hm', g1⟩ | ⟨hm', g1, g2⟩
        · go_wp2_with fail
          refine wp_region_held_drew (S := fun w' => w'.cell? ⟨b, o, none⟩ = some (str (y :: r)) ∧ Below w2.heap.size w2 w') (by kernel_rfl) ⟨hx, hbr.drew⟩ (fun hHeld => ?_)
          refine wpAnyH_take (i := 0) (oi := { dst := some 43, op := Op.move (Operand.tmp 5), type := 25, pos := "outright.go:115", after := #[], guard := none }) (v := ?vvc1n0) rfl (by kernel_rfl) (by kernel_rfl) (by kernel_rfl) (fun _ _ _ h => h) (Or.inl ⟨by rfl, ?hyc1n0⟩) (by assumption) ?restc1n0
          case hyc1n0 => (intro w hSw; (try dsimp only at hSw); go_simp; try with_reducible rfl)
          simp only [Act.put, List.setIfInBounds_toArray, List.set_cons_zero, List.set_cons_succ]
          refine wpAnyH_take (i := 1) (oi := { dst := some 44, op := Op.move (Operand.tmp 7), type := 3, pos := "outright.go:115", after := #[], guard := none }) (v := ?vvc1n1) rfl (by kernel_rfl) (by kernel_rfl) (by kernel_rfl) (fun _ _ _ h => h) (Or.inl ⟨by rfl, ?hyc1n1⟩) (by assumption) ?restc1n1
          case hyc1n1 => (intro w hSw; (try dsimp only at hSw); go_simp; try with_reducible rfl)
          simp only [Act.put, List.setIfInBounds_toArray, List.set_cons_zero, List.set_cons_succ]
          refine wpAnyH_take (i := 2) (oi := { dst := some 45, op := Op.indexAddr 25 (Operand.tmp 43) (Operand.tmp 44), type := 0, pos := "outright.go:115", after := #[{ on := 0, ground := Ground.data }, { on := 1, ground := Ground.data }], guard := none }) (v := ?vvc1n2) rfl (by kernel_rfl) (by kernel_rfl) (by kernel_rfl) (fun _ _ _ h => h) (Or.inl ⟨by rfl, ?hyc1n2⟩) (by assumption) ?restc1n2
          case hyc1n2 => (intro w hSw; (try dsimp only at hSw); go_simp; try with_reducible rfl)
          simp only [Act.put, List.setIfInBounds_toArray, List.set_cons_zero, List.set_cons_succ]
          refine wpAnyH_take (i := 3) (oi := { dst := some 46, op := Op.load 9 (Operand.tmp 45), type := 9, pos := "outright.go:115", after := #[{ on := 2, ground := Ground.data }], guard := none }) (v := ?vvc1n3) rfl (by kernel_rfl) (by kernel_rfl) (by kernel_rfl) (fun _ _ _ h => h) (Or.inl ⟨by rfl, ?hyc1n3⟩) (by assumption) ?restc1n3
          case hyc1n3 => (intro w hSw; (try dsimp only at hSw); go_simp; try with_reducible rfl)
          simp only [Act.put, List.setIfInBounds_toArray, List.set_cons_zero, List.set_cons_succ]
          refine wpAnyH_take (i := 4) (oi := { dst := some 47, op := Op.binOp BinOp.eql 9 (Operand.tmp 46) (Operand.const (Value.string { data := #[] })) 9, type := 4, pos := "outright.go:115", after := #[{ on := 3, ground := Ground.data }], guard := none }) (v := ?vvc1n4) rfl (by kernel_rfl) (by kernel_rfl) (by kernel_rfl) (fun _ _ _ h => h) (Or.inl ⟨by rfl, ?hyc1n4⟩) (by assumption) ?restc1n4
          case hyc1n4 => (intro w hSw; (try dsimp only at hSw); go_simp; try with_reducible rfl)
          simp only [Act.put, List.setIfInBounds_toArray, List.set_cons_zero, List.set_cons_succ]
          refine wpAnyH_take (i := 5) (oi := { dst := some 48, op := Op.move (Operand.tmp 47), type := 4, pos := "outright.go:115", after := #[{ on := 4, ground := Ground.data }], guard := none }) (v := ?vvc1n5) rfl (by kernel_rfl) (by kernel_rfl) (by kernel_rfl) (fun _ _ _ h => h) (Or.inl ⟨by rfl, ?hyc1n5⟩) (by assumption) ?restc1n5
          case hyc1n5 => (intro w hSw; (try dsimp only at hSw); go_simp; try with_reducible rfl)
          simp only [Act.put, List.setIfInBounds_toArray, List.set_cons_zero, List.set_cons_succ]
          refine wpAnyH_take (i := 6) (oi := { dst := some 49, op := Op.move (Operand.tmp 5), type := 25, pos := "outright.go:115", after := #[{ on := 5, ground := Ground.guard }], guard := some (5, false) }) (v := ?vvc1n6) rfl (by kernel_rfl) (by kernel_rfl) (by kernel_rfl) (fun _ _ _ h => h) (Or.inl ⟨by rfl, ?hyc1n6⟩) (by assumption) ?restc1n6
          case hyc1n6 => (intro w hSw; (try dsimp only at hSw); go_simp; try with_reducible rfl)
          simp only [Act.put, List.setIfInBounds_toArray, List.set_cons_zero, List.set_cons_succ]
          refine wpAnyH_take (i := 7) (oi := { dst := some 50, op := Op.move (Operand.tmp 7), type := 3, pos := "outright.go:115", after := #[{ on := 5, ground := Ground.guard }], guard := some (5, false) }) (v := ?vvc1n7) rfl (by kernel_rfl) (by kernel_rfl) (by kernel_rfl) (fun _ _ _ h => h) (Or.inl ⟨by rfl, ?hyc1n7⟩) (by assumption) ?restc1n7
          case hyc1n7 => (intro w hSw; (try dsimp only at hSw); go_simp; try with_reducible rfl)
          simp only [Act.put, List.setIfInBounds_toArray, List.set_cons_zero, List.set_cons_succ]
          refine wpAnyH_take (i := 8) (oi := { dst := some 51, op := Op.indexAddr 25 (Operand.tmp 49) (Operand.tmp 50), type := 0, pos := "outright.go:115", after := #[{ on := 6, ground := Ground.data }, { on := 7, ground := Ground.data }, { on := 5, ground := Ground.guard }], guard := some (5, false) }) (v := ?vvc1n8) rfl (by kernel_rfl) (by kernel_rfl) (by kernel_rfl) (fun _ _ _ h => h) (Or.inl ⟨by rfl, ?hyc1n8⟩) (by assumption) ?restc1n8
          case hyc1n8 => (intro w hSw; (try dsimp only at hSw); go_simp; try with_reducible rfl)
          simp only [Act.put, List.setIfInBounds_toArray, List.set_cons_zero, List.set_cons_succ]
          refine wpAnyH_take (i := 9) (oi := { dst := some 52, op := Op.load 9 (Operand.tmp 51), type := 9, pos := "outright.go:115", after := #[{ on := 8, ground := Ground.data }, { on := 5, ground := Ground.guard }], guard := some (5, false) }) (v := ?vvc1n9) rfl (by kernel_rfl) (by kernel_rfl) (by kernel_rfl) (fun _ _ _ h => h) (Or.inl ⟨by rfl, ?hyc1n9⟩) (by assumption) ?restc1n9
          case hyc1n9 => (intro w hSw; (try dsimp only at hSw); go_simp; try with_reducible rfl)
          simp only [Act.put, List.setIfInBounds_toArray, List.set_cons_zero, List.set_cons_succ]
          refine wpAnyH_take (i := 11) (oi := { dst := some 54, op := Op.move (Operand.tmp 5), type := 25, pos := "outright.go:115", after := #[{ on := 5, ground := Ground.guard }], guard := some (5, false) }) (v := ?vvc1n11) rfl (by kernel_rfl) (by kernel_rfl) (by kernel_rfl) (fun _ _ _ h => h) (Or.inl ⟨by rfl, ?hyc1n11⟩) (by assumption) ?restc1n11
          case hyc1n11 => (intro w hSw; (try dsimp only at hSw); go_simp; try with_reducible rfl)
          simp only [Act.put, List.setIfInBounds_toArray, List.set_cons_zero, List.set_cons_succ]
          refine wpAnyH_take (i := 12) (oi := { dst := some 55, op := Op.move (Operand.tmp 7), type := 3, pos := "outright.go:115", after := #[{ on := 5, ground := Ground.guard }], guard := some (5, false) }) (v := ?vvc1n12) rfl (by kernel_rfl) (by kernel_rfl) (by kernel_rfl) (fun _ _ _ h => h) (Or.inl ⟨by rfl, ?hyc1n12⟩) (by assumption) ?restc1n12
          case hyc1n12 => (intro w hSw; (try dsimp only at hSw); go_simp; try with_reducible rfl)
          simp only [Act.put, List.setIfInBounds_toArray, List.set_cons_zero, List.set_cons_succ]
          refine wpAnyH_take (i := 13) (oi := { dst := some 56, op := Op.indexAddr 25 (Operand.tmp 54) (Operand.tmp 55), type := 0, pos := "outright.go:115", after := #[{ on := 11, ground := Ground.data }, { on := 12, ground := Ground.data }, { on := 5, ground := Ground.guard }], guard := some (5, false) }) (v := ?vvc1n13) rfl (by kernel_rfl) (by kernel_rfl) (by kernel_rfl) (fun _ _ _ h => h) (Or.inl ⟨by rfl, ?hyc1n13⟩) (by assumption) ?restc1n13
          case hyc1n13 => (intro w hSw; (try dsimp only at hSw); go_simp; try with_reducible rfl)
          simp only [Act.put, List.setIfInBounds_toArray, List.set_cons_zero, List.set_cons_succ]
          refine wpAnyH_take (i := 14) (oi := { dst := some 57, op := Op.load 9 (Operand.tmp 56), type := 9, pos := "outright.go:115", after := #[{ on := 13, ground := Ground.data }, { on := 5, ground := Ground.guard }], guard := some (5, false) }) (v := ?vvc1n14) rfl (by kernel_rfl) (by kernel_rfl) (by kernel_rfl) (fun _ _ _ h => h) (Or.inl ⟨by rfl, ?hyc1n14⟩) (by assumption) ?restc1n14
          case hyc1n14 => (intro w hSw; (try dsimp only at hSw); go_simp; try with_reducible rfl)
          simp only [Act.put, List.setIfInBounds_toArray, List.set_cons_zero, List.set_cons_succ]
          refine wpAnyH_take (i := 15) (oi := { dst := some 58, op := Op.index 9 (Operand.tmp 57) (Operand.const (Value.int IntKind.i64 0)), type := 5, pos := "outright.go:115", after := #[{ on := 14, ground := Ground.data }, { on := 5, ground := Ground.guard }], guard := some (5, false) }) (v := ?vvc1n15) rfl (by kernel_rfl) (by kernel_rfl) (by kernel_rfl) (fun _ _ _ h => h) (Or.inl ⟨by rfl, ?hyc1n15⟩) (by assumption) ?restc1n15
          case hyc1n15 => (intro w hSw; (try dsimp only at hSw); go_simp; try with_reducible rfl)
          simp only [Act.put, List.setIfInBounds_toArray, List.set_cons_zero, List.set_cons_succ]
          refine wpAnyH_take (i := 16) (oi := { dst := some 59, op := Op.binOp BinOp.geq 5 (Operand.tmp 58) (Operand.const (Value.int IntKind.u8 97)) 5, type := 4, pos := "outright.go:115", after := #[{ on := 15, ground := Ground.data }, { on := 5, ground := Ground.guard }], guard := some (5, false) }) (v := ?vvc1n16) rfl (by kernel_rfl) (by kernel_rfl) (by kernel_rfl) (fun _ _ _ h => h) (Or.inl ⟨by rfl, ?hyc1n16⟩) (by assumption) ?restc1n16
          case hyc1n16 => (intro w hSw; (try dsimp only at hSw); go_simp; try with_reducible rfl)
          simp only [Act.put, List.setIfInBounds_toArray, List.set_cons_zero, List.set_cons_succ]
          refine wpAnyH_ready (rs := [10]) (by kernel_rfl) (by simp) ?_
          refine AllReadyH.cons (o := { dst := some 53, op := Op.call { callee := Callee.value (Operand.func 10), args := #[Operand.tmp 52], argTypes := #[9] }, type := 4, pos := "outright.go:115", after := #[{ on := 9, ground := Ground.data }, { on := 5, ground := Ground.chain }, { on := 5, ground := Ground.guard }], guard := some (5, false) }) rfl (fun K hK => ?_) AllReadyH.nil
          go_simp
          refine (CM _).out.mono ?_
          rintro e w7 ⟨rfl, b7⟩
          go_wp2_with fail
          refine hK.out _ _ ⟨(b7.cell (p := ⟨b, o, none⟩) hbl').trans hx, hbr.drew.trans (b7.mono hbr.size)⟩ (fun hHeld2 => ?_)
          clear hK K hHeld
          try simp only [Act.put, List.setIfInBounds_toArray, List.set_cons_zero, List.set_cons_succ]
          refine wpAnyH_take (i := 17) (oi := { dst := some 60, op := Op.move (Operand.tmp 59), type := 4, pos := "outright.go:115", after := #[{ on := 16, ground := Ground.data }, { on := 10, ground := Ground.chain }, { on := 5, ground := Ground.guard }], guard := some (5, false) }) (v := ?vvc1n17) rfl (by kernel_rfl) (by kernel_rfl) (by kernel_rfl) (fun _ _ _ h => h) (Or.inl ⟨by rfl, ?hyc1n17⟩) (by assumption) ?restc1n17
          case hyc1n17 => (intro w hSw; (try dsimp only at hSw); go_simp; try with_reducible rfl)
          simp only [Act.put, List.setIfInBounds_toArray, List.set_cons_zero, List.set_cons_succ]
          refine wpAnyH_take (i := 18) (oi := { dst := some 61, op := Op.move (Operand.tmp 5), type := 25, pos := "outright.go:115", after := #[{ on := 17, ground := Ground.guard }], guard := some (17, true) }) (v := ?vvc1n18) rfl (by kernel_rfl) (by kernel_rfl) (by kernel_rfl) (fun _ _ _ h => h) (Or.inl ⟨by rfl, ?hyc1n18⟩) (by assumption) ?restc1n18
          case hyc1n18 => (intro w hSw; (try dsimp only at hSw); go_simp; try with_reducible rfl)
          simp only [Act.put, List.setIfInBounds_toArray, List.set_cons_zero, List.set_cons_succ]
          refine wpAnyH_take (i := 19) (oi := { dst := some 62, op := Op.move (Operand.tmp 7), type := 3, pos := "outright.go:115", after := #[{ on := 17, ground := Ground.guard }], guard := some (17, true) }) (v := ?vvc1n19) rfl (by kernel_rfl) (by kernel_rfl) (by kernel_rfl) (fun _ _ _ h => h) (Or.inl ⟨by rfl, ?hyc1n19⟩) (by assumption) ?restc1n19
          case hyc1n19 => (intro w hSw; (try dsimp only at hSw); go_simp; try with_reducible rfl)
          simp only [Act.put, List.setIfInBounds_toArray, List.set_cons_zero, List.set_cons_succ]
          refine wpAnyH_take (i := 20) (oi := { dst := some 63, op := Op.indexAddr 25 (Operand.tmp 61) (Operand.tmp 62), type := 0, pos := "outright.go:115", after := #[{ on := 18, ground := Ground.data }, { on := 19, ground := Ground.data }, { on := 17, ground := Ground.guard }], guard := some (17, true) }) (v := ?vvc1n20) rfl (by kernel_rfl) (by kernel_rfl) (by kernel_rfl) (fun _ _ _ h => h) (Or.inl ⟨by rfl, ?hyc1n20⟩) (by assumption) ?restc1n20
          case hyc1n20 => (intro w hSw; (try dsimp only at hSw); go_simp; try with_reducible rfl)
          simp only [Act.put, List.setIfInBounds_toArray, List.set_cons_zero, List.set_cons_succ]
          refine wpAnyH_take (i := 21) (oi := { dst := some 64, op := Op.load 9 (Operand.tmp 63), type := 9, pos := "outright.go:115", after := #[{ on := 20, ground := Ground.data }, { on := 17, ground := Ground.guard }], guard := some (17, true) }) (v := ?vvc1n21) rfl (by kernel_rfl) (by kernel_rfl) (by kernel_rfl) (fun _ _ _ h => h) (Or.inl ⟨by rfl, ?hyc1n21⟩) (by assumption) ?restc1n21
          case hyc1n21 => (intro w hSw; (try dsimp only at hSw); go_simp; try with_reducible rfl)
          simp only [Act.put, List.setIfInBounds_toArray, List.set_cons_zero, List.set_cons_succ]
          refine wpAnyH_take (i := 22) (oi := { dst := some 65, op := Op.index 9 (Operand.tmp 64) (Operand.const (Value.int IntKind.i64 0)), type := 5, pos := "outright.go:115", after := #[{ on := 21, ground := Ground.data }, { on := 17, ground := Ground.guard }], guard := some (17, true) }) (v := ?vvc1n22) rfl (by kernel_rfl) (by kernel_rfl) (by kernel_rfl) (fun _ _ _ h => h) (Or.inl ⟨by rfl, ?hyc1n22⟩) (by assumption) ?restc1n22
          case hyc1n22 => (intro w hSw; (try dsimp only at hSw); go_simp; try with_reducible rfl)
          simp only [Act.put, List.setIfInBounds_toArray, List.set_cons_zero, List.set_cons_succ]
          refine wpAnyH_take (i := 23) (oi := { dst := some 66, op := Op.binOp BinOp.leq 5 (Operand.tmp 65) (Operand.const (Value.int IntKind.u8 122)) 5, type := 4, pos := "outright.go:115", after := #[{ on := 22, ground := Ground.data }, { on := 17, ground := Ground.guard }], guard := some (17, true) }) (v := ?vvc1n23) rfl (by kernel_rfl) (by kernel_rfl) (by kernel_rfl) (fun _ _ _ h => h) (Or.inl ⟨by rfl, ?hyc1n23⟩) (by assumption) ?restc1n23
          case hyc1n23 => (intro w hSw; (try dsimp only at hSw); go_simp; try with_reducible rfl)
          simp only [Act.put, List.setIfInBounds_toArray, List.set_cons_zero, List.set_cons_succ]
          refine wpAnyH_take (i := 24) (oi := { dst := some 67, op := Op.pick (Operand.tmp 60) (Operand.tmp 66) (Operand.const (Value.bool false)), type := 4, pos := "outright.go:115", after := #[{ on := 17, ground := Ground.data }, { on := 23, ground := Ground.data }, { on := 5, ground := Ground.guard }], guard := some (5, false) }) (v := ?vvc1n24) rfl (by kernel_rfl) (by kernel_rfl) (by kernel_rfl) (fun _ _ _ h => h) (Or.inl ⟨by rfl, ?hyc1n24⟩) (by assumption) ?restc1n24
          case hyc1n24 => (intro w hSw; (try dsimp only at hSw); go_simp; try with_reducible rfl)
          simp only [Act.put, List.setIfInBounds_toArray, List.set_cons_zero, List.set_cons_succ]
          refine wpAnyH_take (i := 25) (oi := { dst := some 68, op := Op.binOp BinOp.neq 4 (Operand.tmp 53) (Operand.tmp 67) 4, type := 4, pos := "outright.go:115", after := #[{ on := 10, ground := Ground.data }, { on := 24, ground := Ground.data }, { on := 5, ground := Ground.guard }], guard := some (5, false) }) (v := ?vvc1n25) rfl (by kernel_rfl) (by kernel_rfl) (by kernel_rfl) (fun _ _ _ h => h) (Or.inl ⟨by rfl, ?hyc1n25⟩) (by assumption) ?restc1n25
          case hyc1n25 => (intro w hSw; (try dsimp only at hSw); go_simp; try with_reducible rfl)
          simp only [Act.put, List.setIfInBounds_toArray, List.set_cons_zero, List.set_cons_succ]
          refine wpAnyH_take (i := 26) (oi := { dst := some 69, op := Op.pick (Operand.tmp 48) (Operand.const (Value.bool true)) (Operand.tmp 68), type := 4, pos := "outright.go:115", after := #[{ on := 5, ground := Ground.data }, { on := 25, ground := Ground.data }], guard := none }) (v := ?vvc1n26) rfl (by kernel_rfl) (by kernel_rfl) (by kernel_rfl) (fun _ _ _ h => h) (Or.inl ⟨by rfl, ?hyc1n26⟩) (by assumption) ?restc1n26
          case hyc1n26 => (intro w hSw; (try dsimp only at hSw); go_simp; try with_reducible rfl)
          simp only [Act.put, List.setIfInBounds_toArray, List.set_cons_zero, List.set_cons_succ]
          refine wpAnyH_done (by kernel_rfl) ?_ _
          all_goals
            go_wp2_with fail
            go_roundw
            case rel => exact ⟨1, y :: r, by go_num, congrArg Value.string (bytes_add [] _), HJ3, (by rw [List.length_cons]; omega), by omega, hHeld2.2⟩
            case measure => simp [intOf]; omega
        · have G := Lib.hid (decide_eq_false g1)
          clear g1
          go_wp2_with fail
          have g1 := G.out
          refine wp_region_held_drew (S := fun w' => w'.cell? ⟨b, o, none⟩ = some (str (y :: r)) ∧ Below w2.heap.size w2 w') (by kernel_rfl) ⟨hx, hbr.drew⟩ (fun hHeld => ?_)
          refine wpAnyH_take (i := 0) (oi := { dst := some 43, op := Op.move (Operand.tmp 5), type := 25, pos := "outright.go:115", after := #[], guard := none }) (v := ?vvc2n0) rfl (by kernel_rfl) (by kernel_rfl) (by kernel_rfl) (fun _ _ _ h => h) (Or.inl ⟨by rfl, ?hyc2n0⟩) (by assumption) ?restc2n0
          case hyc2n0 => (intro w hSw; (try dsimp only at hSw); go_simp; try with_reducible rfl)
          simp only [Act.put, List.setIfInBounds_toArray, List.set_cons_zero, List.set_cons_succ]
          refine wpAnyH_take (i := 1) (oi := { dst := some 44, op := Op.move (Operand.tmp 7), type := 3, pos := "outright.go:115", after := #[], guard := none }) (v := ?vvc2n1) rfl (by kernel_rfl) (by kernel_rfl) (by kernel_rfl) (fun _ _ _ h => h) (Or.inl ⟨by rfl, ?hyc2n1⟩) (by assumption) ?restc2n1
          case hyc2n1 => (intro w hSw; (try dsimp only at hSw); go_simp; try with_reducible rfl)
          simp only [Act.put, List.setIfInBounds_toArray, List.set_cons_zero, List.set_cons_succ]
          refine wpAnyH_take (i := 2) (oi := { dst := some 45, op := Op.indexAddr 25 (Operand.tmp 43) (Operand.tmp 44), type := 0, pos := "outright.go:115", after := #[{ on := 0, ground := Ground.data }, { on := 1, ground := Ground.data }], guard := none }) (v := ?vvc2n2) rfl (by kernel_rfl) (by kernel_rfl) (by kernel_rfl) (fun _ _ _ h => h) (Or.inl ⟨by rfl, ?hyc2n2⟩) (by assumption) ?restc2n2
          case hyc2n2 => (intro w hSw; (try dsimp only at hSw); go_simp; try with_reducible rfl)
          simp only [Act.put, List.setIfInBounds_toArray, List.set_cons_zero, List.set_cons_succ]
          refine wpAnyH_take (i := 3) (oi := { dst := some 46, op := Op.load 9 (Operand.tmp 45), type := 9, pos := "outright.go:115", after := #[{ on := 2, ground := Ground.data }], guard := none }) (v := ?vvc2n3) rfl (by kernel_rfl) (by kernel_rfl) (by kernel_rfl) (fun _ _ _ h => h) (Or.inl ⟨by rfl, ?hyc2n3⟩) (by assumption) ?restc2n3
          case hyc2n3 => (intro w hSw; (try dsimp only at hSw); go_simp; try with_reducible rfl)
          simp only [Act.put, List.setIfInBounds_toArray, List.set_cons_zero, List.set_cons_succ]
          refine wpAnyH_take (i := 4) (oi := { dst := some 47, op := Op.binOp BinOp.eql 9 (Operand.tmp 46) (Operand.const (Value.string { data := #[] })) 9, type := 4, pos := "outright.go:115", after := #[{ on := 3, ground := Ground.data }], guard := none }) (v := ?vvc2n4) rfl (by kernel_rfl) (by kernel_rfl) (by kernel_rfl) (fun _ _ _ h => h) (Or.inl ⟨by rfl, ?hyc2n4⟩) (by assumption) ?restc2n4
          case hyc2n4 => (intro w hSw; (try dsimp only at hSw); go_simp; try with_reducible rfl)
          simp only [Act.put, List.setIfInBounds_toArray, List.set_cons_zero, List.set_cons_succ]
          refine wpAnyH_take (i := 5) (oi := { dst := some 48, op := Op.move (Operand.tmp 47), type := 4, pos := "outright.go:115", after := #[{ on := 4, ground := Ground.data }], guard := none }) (v := ?vvc2n5) rfl (by kernel_rfl) (by kernel_rfl) (by kernel_rfl) (fun _ _ _ h => h) (Or.inl ⟨by rfl, ?hyc2n5⟩) (by assumption) ?restc2n5
          case hyc2n5 => (intro w hSw; (try dsimp only at hSw); go_simp; try with_reducible rfl)
          simp only [Act.put, List.setIfInBounds_toArray, List.set_cons_zero, List.set_cons_succ]
          refine wpAnyH_take (i := 6) (oi := { dst := some 49, op := Op.move (Operand.tmp 5), type := 25, pos := "outright.go:115", after := #[{ on := 5, ground := Ground.guard }], guard := some (5, false) }) (v := ?vvc2n6) rfl (by kernel_rfl) (by kernel_rfl) (by kernel_rfl) (fun _ _ _ h => h) (Or.inl ⟨by rfl, ?hyc2n6⟩) (by assumption) ?restc2n6
          case hyc2n6 => (intro w hSw; (try dsimp only at hSw); go_simp; try with_reducible rfl)
          simp only [Act.put, List.setIfInBounds_toArray, List.set_cons_zero, List.set_cons_succ]
          refine wpAnyH_take (i := 7) (oi := { dst := some 50, op := Op.move (Operand.tmp 7), type := 3, pos := "outright.go:115", after := #[{ on := 5, ground := Ground.guard }], guard := some (5, false) }) (v := ?vvc2n7) rfl (by kernel_rfl) (by kernel_rfl) (by kernel_rfl) (fun _ _ _ h => h) (Or.inl ⟨by rfl, ?hyc2n7⟩) (by assumption) ?restc2n7
          case hyc2n7 => (intro w hSw; (try dsimp only at hSw); go_simp; try with_reducible rfl)
          simp only [Act.put, List.setIfInBounds_toArray, List.set_cons_zero, List.set_cons_succ]
          refine wpAnyH_take (i := 8) (oi := { dst := some 51, op := Op.indexAddr 25 (Operand.tmp 49) (Operand.tmp 50), type := 0, pos := "outright.go:115", after := #[{ on := 6, ground := Ground.data }, { on := 7, ground := Ground.data }, { on := 5, ground := Ground.guard }], guard := some (5, false) }) (v := ?vvc2n8) rfl (by kernel_rfl) (by kernel_rfl) (by kernel_rfl) (fun _ _ _ h => h) (Or.inl ⟨by rfl, ?hyc2n8⟩) (by assumption) ?restc2n8
          case hyc2n8 => (intro w hSw; (try dsimp only at hSw); go_simp; try with_reducible rfl)
          simp only [Act.put, List.setIfInBounds_toArray, List.set_cons_zero, List.set_cons_succ]
          refine wpAnyH_take (i := 9) (oi := { dst := some 52, op := Op.load 9 (Operand.tmp 51), type := 9, pos := "outright.go:115", after := #[{ on := 8, ground := Ground.data }, { on := 5, ground := Ground.guard }], guard := some (5, false) }) (v := ?vvc2n9) rfl (by kernel_rfl) (by kernel_rfl) (by kernel_rfl) (fun _ _ _ h => h) (Or.inl ⟨by rfl, ?hyc2n9⟩) (by assumption) ?restc2n9
          case hyc2n9 => (intro w hSw; (try dsimp only at hSw); go_simp; try with_reducible rfl)
          simp only [Act.put, List.setIfInBounds_toArray, List.set_cons_zero, List.set_cons_succ]
          refine wpAnyH_take (i := 11) (oi := { dst := some 54, op := Op.move (Operand.tmp 5), type := 25, pos := "outright.go:115", after := #[{ on := 5, ground := Ground.guard }], guard := some (5, false) }) (v := ?vvc2n11) rfl (by kernel_rfl) (by kernel_rfl) (by kernel_rfl) (fun _ _ _ h => h) (Or.inl ⟨by rfl, ?hyc2n11⟩) (by assumption) ?restc2n11
          case hyc2n11 => (intro w hSw; (try dsimp only at hSw); go_simp; try with_reducible rfl)
          simp only [Act.put, List.setIfInBounds_toArray, List.set_cons_zero, List.set_cons_succ]
          refine wpAnyH_take (i := 12) (oi := { dst := some 55, op := Op.move (Operand.tmp 7), type := 3, pos := "outright.go:115", after := #[{ on := 5, ground := Ground.guard }], guard := some (5, false) }) (v := ?vvc2n12) rfl (by kernel_rfl) (by kernel_rfl) (by kernel_rfl) (fun _ _ _ h => h) (Or.inl ⟨by rfl, ?hyc2n12⟩) (by assumption) ?restc2n12
          case hyc2n12 => (intro w hSw; (try dsimp only at hSw); go_simp; try with_reducible rfl)
          simp only [Act.put, List.setIfInBounds_toArray, List.set_cons_zero, List.set_cons_succ]
          refine wpAnyH_take (i := 13) (oi := { dst := some 56, op := Op.indexAddr 25 (Operand.tmp 54) (Operand.tmp 55), type := 0, pos := "outright.go:115", after := #[{ on := 11, ground := Ground.data }, { on := 12, ground := Ground.data }, { on := 5, ground := Ground.guard }], guard := some (5, false) }) (v := ?vvc2n13) rfl (by kernel_rfl) (by kernel_rfl) (by kernel_rfl) (fun _ _ _ h => h) (Or.inl ⟨by rfl, ?hyc2n13⟩) (by assumption) ?restc2n13
          case hyc2n13 => (intro w hSw; (try dsimp only at hSw); go_simp; try with_reducible rfl)
          simp only [Act.put, List.setIfInBounds_toArray, List.set_cons_zero, List.set_cons_succ]
          refine wpAnyH_take (i := 14) (oi := { dst := some 57, op := Op.load 9 (Operand.tmp 56), type := 9, pos := "outright.go:115", after := #[{ on := 13, ground := Ground.data }, { on := 5, ground := Ground.guard }], guard := some (5, false) }) (v := ?vvc2n14) rfl (by kernel_rfl) (by kernel_rfl) (by kernel_rfl) (fun _ _ _ h => h) (Or.inl ⟨by rfl, ?hyc2n14⟩) (by assumption) ?restc2n14
          case hyc2n14 => (intro w hSw; (try dsimp only at hSw); go_simp; try with_reducible rfl)
          simp only [Act.put, List.setIfInBounds_toArray, List.set_cons_zero, List.set_cons_succ]
          refine wpAnyH_take (i := 15) (oi := { dst := some 58, op := Op.index 9 (Operand.tmp 57) (Operand.const (Value.int IntKind.i64 0)), type := 5, pos := "outright.go:115", after := #[{ on := 14, ground := Ground.data }, { on := 5, ground := Ground.guard }], guard := some (5, false) }) (v := ?vvc2n15) rfl (by kernel_rfl) (by kernel_rfl) (by kernel_rfl) (fun _ _ _ h => h) (Or.inl ⟨by rfl, ?hyc2n15⟩) (by assumption) ?restc2n15
          case hyc2n15 => (intro w hSw; (try dsimp only at hSw); go_simp; try with_reducible rfl)
          simp only [Act.put, List.setIfInBounds_toArray, List.set_cons_zero, List.set_cons_succ]
          refine wpAnyH_take (i := 16) (oi := { dst := some 59, op := Op.binOp BinOp.geq 5 (Operand.tmp 58) (Operand.const (Value.int IntKind.u8 97)) 5, type := 4, pos := "outright.go:115", after := #[{ on := 15, ground := Ground.data }, { on := 5, ground := Ground.guard }], guard := some (5, false) }) (v := ?vvc2n16) rfl (by kernel_rfl) (by kernel_rfl) (by kernel_rfl) (fun _ _ _ h => h) (Or.inl ⟨by rfl, ?hyc2n16⟩) (by assumption) ?restc2n16
          case hyc2n16 => (intro w hSw; (try dsimp only at hSw); go_simp; try with_reducible rfl)
          simp only [Act.put, List.setIfInBounds_toArray, List.set_cons_zero, List.set_cons_succ]
          refine wpAnyH_ready (rs := [10]) (by kernel_rfl) (by simp) ?_
          refine AllReadyH.cons (o := { dst := some 53, op := Op.call { callee := Callee.value (Operand.func 10), args := #[Operand.tmp 52], argTypes := #[9] }, type := 4, pos := "outright.go:115", after := #[{ on := 9, ground := Ground.data }, { on := 5, ground := Ground.chain }, { on := 5, ground := Ground.guard }], guard := some (5, false) }) rfl (fun K hK => ?_) AllReadyH.nil
          go_simp
          refine (CM _).out.mono ?_
          rintro e w7 ⟨rfl, b7⟩
          go_wp2_with fail
          refine hK.out _ _ ⟨(b7.cell (p := ⟨b, o, none⟩) hbl').trans hx, hbr.drew.trans (b7.mono hbr.size)⟩ (fun hHeld2 => ?_)
          clear hK K hHeld
          try simp only [Act.put, List.setIfInBounds_toArray, List.set_cons_zero, List.set_cons_succ]
          refine wpAnyH_take (i := 17) (oi := { dst := some 60, op := Op.move (Operand.tmp 59), type := 4, pos := "outright.go:115", after := #[{ on := 16, ground := Ground.data }, { on := 10, ground := Ground.chain }, { on := 5, ground := Ground.guard }], guard := some (5, false) }) (v := ?vvc2n17) rfl (by kernel_rfl) (by kernel_rfl) (by kernel_rfl) (fun _ _ _ h => h) (Or.inl ⟨by rfl, ?hyc2n17⟩) (by assumption) ?restc2n17
          case hyc2n17 => (intro w hSw; (try dsimp only at hSw); go_simp; try with_reducible rfl)
          simp only [Act.put, List.setIfInBounds_toArray, List.set_cons_zero, List.set_cons_succ]
          refine wpAnyH_take (i := 18) (oi := { dst := some 61, op := Op.move (Operand.tmp 5), type := 25, pos := "outright.go:115", after := #[{ on := 17, ground := Ground.guard }], guard := some (17, true) }) (v := undef) rfl (by kernel_rfl) (by kernel_rfl) (by kernel_rfl) (fun _ _ _ h => h) (Or.inr ⟨by rfl, rfl⟩) (by assumption) ?_
          simp only [Act.put, List.setIfInBounds_toArray, List.set_cons_zero, List.set_cons_succ]
          refine wpAnyH_take (i := 19) (oi := { dst := some 62, op := Op.move (Operand.tmp 7), type := 3, pos := "outright.go:115", after := #[{ on := 17, ground := Ground.guard }], guard := some (17, true) }) (v := undef) rfl (by kernel_rfl) (by kernel_rfl) (by kernel_rfl) (fun _ _ _ h => h) (Or.inr ⟨by rfl, rfl⟩) (by assumption) ?_
          simp only [Act.put, List.setIfInBounds_toArray, List.set_cons_zero, List.set_cons_succ]
          refine wpAnyH_take (i := 20) (oi := { dst := some 63, op := Op.indexAddr 25 (Operand.tmp 61) (Operand.tmp 62), type := 0, pos := "outright.go:115", after := #[{ on := 18, ground := Ground.data }, { on := 19, ground := Ground.data }, { on := 17, ground := Ground.guard }], guard := some (17, true) }) (v := undef) rfl (by kernel_rfl) (by kernel_rfl) (by kernel_rfl) (fun _ _ _ h => h) (Or.inr ⟨by rfl, rfl⟩) (by assumption) ?_
          simp only [Act.put, List.setIfInBounds_toArray, List.set_cons_zero, List.set_cons_succ]
          refine wpAnyH_take (i := 21) (oi := { dst := some 64, op := Op.load 9 (Operand.tmp 63), type := 9, pos := "outright.go:115", after := #[{ on := 20, ground := Ground.data }, { on := 17, ground := Ground.guard }], guard := some (17, true) }) (v := undef) rfl (by kernel_rfl) (by kernel_rfl) (by kernel_rfl) (fun _ _ _ h => h) (Or.inr ⟨by rfl, rfl⟩) (by assumption) ?_
          simp only [Act.put, List.setIfInBounds_toArray, List.set_cons_zero, List.set_cons_succ]
          refine wpAnyH_take (i := 22) (oi := { dst := some 65, op := Op.index 9 (Operand.tmp 64) (Operand.const (Value.int IntKind.i64 0)), type := 5, pos := "outright.go:115", after := #[{ on := 21, ground := Ground.data }, { on := 17, ground := Ground.guard }], guard := some (17, true) }) (v := undef) rfl (by kernel_rfl) (by kernel_rfl) (by kernel_rfl) (fun _ _ _ h => h) (Or.inr ⟨by rfl, rfl⟩) (by assumption) ?_
          simp only [Act.put, List.setIfInBounds_toArray, List.set_cons_zero, List.set_cons_succ]
          refine wpAnyH_take (i := 23) (oi := { dst := some 66, op := Op.binOp BinOp.leq 5 (Operand.tmp 65) (Operand.const (Value.int IntKind.u8 122)) 5, type := 4, pos := "outright.go:115", after := #[{ on := 22, ground := Ground.data }, { on := 17, ground := Ground.guard }], guard := some (17, true) }) (v := undef) rfl (by kernel_rfl) (by kernel_rfl) (by kernel_rfl) (fun _ _ _ h => h) (Or.inr ⟨by rfl, rfl⟩) (by assumption) ?_
          simp only [Act.put, List.setIfInBounds_toArray, List.set_cons_zero, List.set_cons_succ]
          refine wpAnyH_take (i := 24) (oi := { dst := some 67, op := Op.pick (Operand.tmp 60) (Operand.tmp 66) (Operand.const (Value.bool false)), type := 4, pos := "outright.go:115", after := #[{ on := 17, ground := Ground.data }, { on := 23, ground := Ground.data }, { on := 5, ground := Ground.guard }], guard := some (5, false) }) (v := ?vvc2n24) rfl (by kernel_rfl) (by kernel_rfl) (by kernel_rfl) (fun _ _ _ h => h) (Or.inl ⟨by rfl, ?hyc2n24⟩) (by assumption) ?restc2n24
          case hyc2n24 => (intro w hSw; (try dsimp only at hSw); go_simp; try with_reducible rfl)
          simp only [Act.put, List.setIfInBounds_toArray, List.set_cons_zero, List.set_cons_succ]
          refine wpAnyH_take (i := 25) (oi := { dst := some 68, op := Op.binOp BinOp.neq 4 (Operand.tmp 53) (Operand.tmp 67) 4, type := 4, pos := "outright.go:115", after := #[{ on := 10, ground := Ground.data }, { on := 24, ground := Ground.data }, { on := 5, ground := Ground.guard }], guard := some (5, false) }) (v := ?vvc2n25) rfl (by kernel_rfl) (by kernel_rfl) (by kernel_rfl) (fun _ _ _ h => h) (Or.inl ⟨by rfl, ?hyc2n25⟩) (by assumption) ?restc2n25
          case hyc2n25 => (intro w hSw; (try dsimp only at hSw); go_simp; try with_reducible rfl)
          simp only [Act.put, List.setIfInBounds_toArray, List.set_cons_zero, List.set_cons_succ]
          refine wpAnyH_take (i := 26) (oi := { dst := some 69, op := Op.pick (Operand.tmp 48) (Operand.const (Value.bool true)) (Operand.tmp 68), type := 4, pos := "outright.go:115", after := #[{ on := 5, ground := Ground.data }, { on := 25, ground := Ground.data }], guard := none }) (v := ?vvc2n26) rfl (by kernel_rfl) (by kernel_rfl) (by kernel_rfl) (fun _ _ _ h => h) (Or.inl ⟨by rfl, ?hyc2n26⟩) (by assumption) ?restc2n26
          case hyc2n26 => (intro w hSw; (try dsimp only at hSw); go_simp; try with_reducible rfl)
          simp only [Act.put, List.setIfInBounds_toArray, List.set_cons_zero, List.set_cons_succ]
          refine wpAnyH_done (by kernel_rfl) ?_ _
          all_goals
            go_wp2_with fail
            go_roundw
            case rel => exact ⟨1, y :: r, by go_num, congrArg Value.string (bytes_add [] _), HJ3, (by rw [List.length_cons]; omega), by omega, hHeld2.2⟩
            case measure => simp [intOf]; omega
        · have G := Lib.hid (decide_eq_false g2)
          clear g2
          go_wp2_with fail
          have g2 := G.out
          refine wp_region_held_drew (S := fun w' => w'.cell? ⟨b, o, none⟩ = some (str (y :: r)) ∧ Below w2.heap.size w2 w') (by kernel_rfl) ⟨hx, hbr.drew⟩ (fun hHeld => ?_)
          refine wpAnyH_take (i := 0) (oi := { dst := some 43, op := Op.move (Operand.tmp 5), type := 25, pos := "outright.go:115", after := #[], guard := none }) (v := ?vvc3n0) rfl (by kernel_rfl) (by kernel_rfl) (by kernel_rfl) (fun _ _ _ h => h) (Or.inl ⟨by rfl, ?hyc3n0⟩) (by assumption) ?restc3n0
          case hyc3n0 => (intro w hSw; (try dsimp only at hSw); go_simp; try with_reducible rfl)
          simp only [Act.put, List.setIfInBounds_toArray, List.set_cons_zero, List.set_cons_succ]
          refine wpAnyH_take (i := 1) (oi := { dst := some 44, op := Op.move (Operand.tmp 7), type := 3, pos := "outright.go:115", after := #[], guard := none }) (v := ?vvc3n1) rfl (by kernel_rfl) (by kernel_rfl) (by kernel_rfl) (fun _ _ _ h => h) (Or.inl ⟨by rfl, ?hyc3n1⟩) (by assumption) ?restc3n1
          case hyc3n1 => (intro w hSw; (try dsimp only at hSw); go_simp; try with_reducible rfl)
          simp only [Act.put, List.setIfInBounds_toArray, List.set_cons_zero, List.set_cons_succ]
          refine wpAnyH_take (i := 2) (oi := { dst := some 45, op := Op.indexAddr 25 (Operand.tmp 43) (Operand.tmp 44), type := 0, pos := "outright.go:115", after := #[{ on := 0, ground := Ground.data }, { on := 1, ground := Ground.data }], guard := none }) (v := ?vvc3n2) rfl (by kernel_rfl) (by kernel_rfl) (by kernel_rfl) (fun _ _ _ h => h) (Or.inl ⟨by rfl, ?hyc3n2⟩) (by assumption) ?restc3n2
          case hyc3n2 => (intro w hSw; (try dsimp only at hSw); go_simp; try with_reducible rfl)
          simp only [Act.put, List.setIfInBounds_toArray, List.set_cons_zero, List.set_cons_succ]
          refine wpAnyH_take (i := 3) (oi := { dst := some 46, op := Op.load 9 (Operand.tmp 45), type := 9, pos := "outright.go:115", after := #[{ on := 2, ground := Ground.data }], guard := none }) (v := ?vvc3n3) rfl (by kernel_rfl) (by kernel_rfl) (by kernel_rfl) (fun _ _ _ h => h) (Or.inl ⟨by rfl, ?hyc3n3⟩) (by assumption) ?restc3n3
          case hyc3n3 => (intro w hSw; (try dsimp only at hSw); go_simp; try with_reducible rfl)
          simp only [Act.put, List.setIfInBounds_toArray, List.set_cons_zero, List.set_cons_succ]
          refine wpAnyH_take (i := 4) (oi := { dst := some 47, op := Op.binOp BinOp.eql 9 (Operand.tmp 46) (Operand.const (Value.string { data := #[] })) 9, type := 4, pos := "outright.go:115", after := #[{ on := 3, ground := Ground.data }], guard := none }) (v := ?vvc3n4) rfl (by kernel_rfl) (by kernel_rfl) (by kernel_rfl) (fun _ _ _ h => h) (Or.inl ⟨by rfl, ?hyc3n4⟩) (by assumption) ?restc3n4
          case hyc3n4 => (intro w hSw; (try dsimp only at hSw); go_simp; try with_reducible rfl)
          simp only [Act.put, List.setIfInBounds_toArray, List.set_cons_zero, List.set_cons_succ]
          refine wpAnyH_take (i := 5) (oi := { dst := some 48, op := Op.move (Operand.tmp 47), type := 4, pos := "outright.go:115", after := #[{ on := 4, ground := Ground.data }], guard := none }) (v := ?vvc3n5) rfl (by kernel_rfl) (by kernel_rfl) (by kernel_rfl) (fun _ _ _ h => h) (Or.inl ⟨by rfl, ?hyc3n5⟩) (by assumption) ?restc3n5
          case hyc3n5 => (intro w hSw; (try dsimp only at hSw); go_simp; try with_reducible rfl)
          simp only [Act.put, List.setIfInBounds_toArray, List.set_cons_zero, List.set_cons_succ]
          refine wpAnyH_take (i := 6) (oi := { dst := some 49, op := Op.move (Operand.tmp 5), type := 25, pos := "outright.go:115", after := #[{ on := 5, ground := Ground.guard }], guard := some (5, false) }) (v := ?vvc3n6) rfl (by kernel_rfl) (by kernel_rfl) (by kernel_rfl) (fun _ _ _ h => h) (Or.inl ⟨by rfl, ?hyc3n6⟩) (by assumption) ?restc3n6
          case hyc3n6 => (intro w hSw; (try dsimp only at hSw); go_simp; try with_reducible rfl)
          simp only [Act.put, List.setIfInBounds_toArray, List.set_cons_zero, List.set_cons_succ]
          refine wpAnyH_take (i := 7) (oi := { dst := some 50, op := Op.move (Operand.tmp 7), type := 3, pos := "outright.go:115", after := #[{ on := 5, ground := Ground.guard }], guard := some (5, false) }) (v := ?vvc3n7) rfl (by kernel_rfl) (by kernel_rfl) (by kernel_rfl) (fun _ _ _ h => h) (Or.inl ⟨by rfl, ?hyc3n7⟩) (by assumption) ?restc3n7
          case hyc3n7 => (intro w hSw; (try dsimp only at hSw); go_simp; try with_reducible rfl)
          simp only [Act.put, List.setIfInBounds_toArray, List.set_cons_zero, List.set_cons_succ]
          refine wpAnyH_take (i := 8) (oi := { dst := some 51, op := Op.indexAddr 25 (Operand.tmp 49) (Operand.tmp 50), type := 0, pos := "outright.go:115", after := #[{ on := 6, ground := Ground.data }, { on := 7, ground := Ground.data }, { on := 5, ground := Ground.guard }], guard := some (5, false) }) (v := ?vvc3n8) rfl (by kernel_rfl) (by kernel_rfl) (by kernel_rfl) (fun _ _ _ h => h) (Or.inl ⟨by rfl, ?hyc3n8⟩) (by assumption) ?restc3n8
          case hyc3n8 => (intro w hSw; (try dsimp only at hSw); go_simp; try with_reducible rfl)
          simp only [Act.put, List.setIfInBounds_toArray, List.set_cons_zero, List.set_cons_succ]
          refine wpAnyH_take (i := 9) (oi := { dst := some 52, op := Op.load 9 (Operand.tmp 51), type := 9, pos := "outright.go:115", after := #[{ on := 8, ground := Ground.data }, { on := 5, ground := Ground.guard }], guard := some (5, false) }) (v := ?vvc3n9) rfl (by kernel_rfl) (by kernel_rfl) (by kernel_rfl) (fun _ _ _ h => h) (Or.inl ⟨by rfl, ?hyc3n9⟩) (by assumption) ?restc3n9
          case hyc3n9 => (intro w hSw; (try dsimp only at hSw); go_simp; try with_reducible rfl)
          simp only [Act.put, List.setIfInBounds_toArray, List.set_cons_zero, List.set_cons_succ]
          refine wpAnyH_take (i := 11) (oi := { dst := some 54, op := Op.move (Operand.tmp 5), type := 25, pos := "outright.go:115", after := #[{ on := 5, ground := Ground.guard }], guard := some (5, false) }) (v := ?vvc3n11) rfl (by kernel_rfl) (by kernel_rfl) (by kernel_rfl) (fun _ _ _ h => h) (Or.inl ⟨by rfl, ?hyc3n11⟩) (by assumption) ?restc3n11
          case hyc3n11 => (intro w hSw; (try dsimp only at hSw); go_simp; try with_reducible rfl)
          simp only [Act.put, List.setIfInBounds_toArray, List.set_cons_zero, List.set_cons_succ]
          refine wpAnyH_take (i := 12) (oi := { dst := some 55, op := Op.move (Operand.tmp 7), type := 3, pos := "outright.go:115", after := #[{ on := 5, ground := Ground.guard }], guard := some (5, false) }) (v := ?vvc3n12) rfl (by kernel_rfl) (by kernel_rfl) (by kernel_rfl) (fun _ _ _ h => h) (Or.inl ⟨by rfl, ?hyc3n12⟩) (by assumption) ?restc3n12
          case hyc3n12 => (intro w hSw; (try dsimp only at hSw); go_simp; try with_reducible rfl)
          simp only [Act.put, List.setIfInBounds_toArray, List.set_cons_zero, List.set_cons_succ]
          refine wpAnyH_take (i := 13) (oi := { dst := some 56, op := Op.indexAddr 25 (Operand.tmp 54) (Operand.tmp 55), type := 0, pos := "outright.go:115", after := #[{ on := 11, ground := Ground.data }, { on := 12, ground := Ground.data }, { on := 5, ground := Ground.guard }], guard := some (5, false) }) (v := ?vvc3n13) rfl (by kernel_rfl) (by kernel_rfl) (by kernel_rfl) (fun _ _ _ h => h) (Or.inl ⟨by rfl, ?hyc3n13⟩) (by assumption) ?restc3n13
          case hyc3n13 => (intro w hSw; (try dsimp only at hSw); go_simp; try with_reducible rfl)
          simp only [Act.put, List.setIfInBounds_toArray, List.set_cons_zero, List.set_cons_succ]
          refine wpAnyH_take (i := 14) (oi := { dst := some 57, op := Op.load 9 (Operand.tmp 56), type := 9, pos := "outright.go:115", after := #[{ on := 13, ground := Ground.data }, { on := 5, ground := Ground.guard }], guard := some (5, false) }) (v := ?vvc3n14) rfl (by kernel_rfl) (by kernel_rfl) (by kernel_rfl) (fun _ _ _ h => h) (Or.inl ⟨by rfl, ?hyc3n14⟩) (by assumption) ?restc3n14
          case hyc3n14 => (intro w hSw; (try dsimp only at hSw); go_simp; try with_reducible rfl)
          simp only [Act.put, List.setIfInBounds_toArray, List.set_cons_zero, List.set_cons_succ]
          refine wpAnyH_take (i := 15) (oi := { dst := some 58, op := Op.index 9 (Operand.tmp 57) (Operand.const (Value.int IntKind.i64 0)), type := 5, pos := "outright.go:115", after := #[{ on := 14, ground := Ground.data }, { on := 5, ground := Ground.guard }], guard := some (5, false) }) (v := ?vvc3n15) rfl (by kernel_rfl) (by kernel_rfl) (by kernel_rfl) (fun _ _ _ h => h) (Or.inl ⟨by rfl, ?hyc3n15⟩) (by assumption) ?restc3n15
          case hyc3n15 => (intro w hSw; (try dsimp only at hSw); go_simp; try with_reducible rfl)
          simp only [Act.put, List.setIfInBounds_toArray, List.set_cons_zero, List.set_cons_succ]
          refine wpAnyH_take (i := 16) (oi := { dst := some 59, op := Op.binOp BinOp.geq 5 (Operand.tmp 58) (Operand.const (Value.int IntKind.u8 97)) 5, type := 4, pos := "outright.go:115", after := #[{ on := 15, ground := Ground.data }, { on := 5, ground := Ground.guard }], guard := some (5, false) }) (v := ?vvc3n16) rfl (by kernel_rfl) (by kernel_rfl) (by kernel_rfl) (fun _ _ _ h => h) (Or.inl ⟨by rfl, ?hyc3n16⟩) (by assumption) ?restc3n16
          case hyc3n16 => (intro w hSw; (try dsimp only at hSw); go_simp; try with_reducible rfl)
          simp only [Act.put, List.setIfInBounds_toArray, List.set_cons_zero, List.set_cons_succ]
          refine wpAnyH_ready (rs := [10]) (by kernel_rfl) (by simp) ?_
          refine AllReadyH.cons (o := { dst := some 53, op := Op.call { callee := Callee.value (Operand.func 10), args := #[Operand.tmp 52], argTypes := #[9] }, type := 4, pos := "outright.go:115", after := #[{ on := 9, ground := Ground.data }, { on := 5, ground := Ground.chain }, { on := 5, ground := Ground.guard }], guard := some (5, false) }) rfl (fun K hK => ?_) AllReadyH.nil
          go_simp
          refine (CM _).out.mono ?_
          rintro e w7 ⟨rfl, b7⟩
          go_wp2_with fail
          refine hK.out _ _ ⟨(b7.cell (p := ⟨b, o, none⟩) hbl').trans hx, hbr.drew.trans (b7.mono hbr.size)⟩ (fun hHeld2 => ?_)
          clear hK K hHeld
          try simp only [Act.put, List.setIfInBounds_toArray, List.set_cons_zero, List.set_cons_succ]
          refine wpAnyH_take (i := 17) (oi := { dst := some 60, op := Op.move (Operand.tmp 59), type := 4, pos := "outright.go:115", after := #[{ on := 16, ground := Ground.data }, { on := 10, ground := Ground.chain }, { on := 5, ground := Ground.guard }], guard := some (5, false) }) (v := ?vvc3n17) rfl (by kernel_rfl) (by kernel_rfl) (by kernel_rfl) (fun _ _ _ h => h) (Or.inl ⟨by rfl, ?hyc3n17⟩) (by assumption) ?restc3n17
          case hyc3n17 => (intro w hSw; (try dsimp only at hSw); go_simp; try with_reducible rfl)
          simp only [Act.put, List.setIfInBounds_toArray, List.set_cons_zero, List.set_cons_succ]
          refine wpAnyH_take (i := 18) (oi := { dst := some 61, op := Op.move (Operand.tmp 5), type := 25, pos := "outright.go:115", after := #[{ on := 17, ground := Ground.guard }], guard := some (17, true) }) (v := ?vvc3n18) rfl (by kernel_rfl) (by kernel_rfl) (by kernel_rfl) (fun _ _ _ h => h) (Or.inl ⟨by rfl, ?hyc3n18⟩) (by assumption) ?restc3n18
          case hyc3n18 => (intro w hSw; (try dsimp only at hSw); go_simp; try with_reducible rfl)
          simp only [Act.put, List.setIfInBounds_toArray, List.set_cons_zero, List.set_cons_succ]
          refine wpAnyH_take (i := 19) (oi := { dst := some 62, op := Op.move (Operand.tmp 7), type := 3, pos := "outright.go:115", after := #[{ on := 17, ground := Ground.guard }], guard := some (17, true) }) (v := ?vvc3n19) rfl (by kernel_rfl) (by kernel_rfl) (by kernel_rfl) (fun _ _ _ h => h) (Or.inl ⟨by rfl, ?hyc3n19⟩) (by assumption) ?restc3n19
          case hyc3n19 => (intro w hSw; (try dsimp only at hSw); go_simp; try with_reducible rfl)
          simp only [Act.put, List.setIfInBounds_toArray, List.set_cons_zero, List.set_cons_succ]
          refine wpAnyH_take (i := 20) (oi := { dst := some 63, op := Op.indexAddr 25 (Operand.tmp 61) (Operand.tmp 62), type := 0, pos := "outright.go:115", after := #[{ on := 18, ground := Ground.data }, { on := 19, ground := Ground.data }, { on := 17, ground := Ground.guard }], guard := some (17, true) }) (v := ?vvc3n20) rfl (by kernel_rfl) (by kernel_rfl) (by kernel_rfl) (fun _ _ _ h => h) (Or.inl ⟨by rfl, ?hyc3n20⟩) (by assumption) ?restc3n20
          case hyc3n20 => (intro w hSw; (try dsimp only at hSw); go_simp; try with_reducible rfl)
          simp only [Act.put, List.setIfInBounds_toArray, List.set_cons_zero, List.set_cons_succ]
          refine wpAnyH_take (i := 21) (oi := { dst := some 64, op := Op.load 9 (Operand.tmp 63), type := 9, pos := "outright.go:115", after := #[{ on := 20, ground := Ground.data }, { on := 17, ground := Ground.guard }], guard := some (17, true) }) (v := ?vvc3n21) rfl (by kernel_rfl) (by kernel_rfl) (by kernel_rfl) (fun _ _ _ h => h) (Or.inl ⟨by rfl, ?hyc3n21⟩) (by assumption) ?restc3n21
          case hyc3n21 => (intro w hSw; (try dsimp only at hSw); go_simp; try with_reducible rfl)
          simp only [Act.put, List.setIfInBounds_toArray, List.set_cons_zero, List.set_cons_succ]
          refine wpAnyH_take (i := 22) (oi := { dst := some 65, op := Op.index 9 (Operand.tmp 64) (Operand.const (Value.int IntKind.i64 0)), type := 5, pos := "outright.go:115", after := #[{ on := 21, ground := Ground.data }, { on := 17, ground := Ground.guard }], guard := some (17, true) }) (v := ?vvc3n22) rfl (by kernel_rfl) (by kernel_rfl) (by kernel_rfl) (fun _ _ _ h => h) (Or.inl ⟨by rfl, ?hyc3n22⟩) (by assumption) ?restc3n22
          case hyc3n22 => (intro w hSw; (try dsimp only at hSw); go_simp; try with_reducible rfl)
          simp only [Act.put, List.setIfInBounds_toArray, List.set_cons_zero, List.set_cons_succ]
          refine wpAnyH_take (i := 23) (oi := { dst := some 66, op := Op.binOp BinOp.leq 5 (Operand.tmp 65) (Operand.const (Value.int IntKind.u8 122)) 5, type := 4, pos := "outright.go:115", after := #[{ on := 22, ground := Ground.data }, { on := 17, ground := Ground.guard }], guard := some (17, true) }) (v := ?vvc3n23) rfl (by kernel_rfl) (by kernel_rfl) (by kernel_rfl) (fun _ _ _ h => h) (Or.inl ⟨by rfl, ?hyc3n23⟩) (by assumption) ?restc3n23
          case hyc3n23 => (intro w hSw; (try dsimp only at hSw); go_simp; try with_reducible rfl)
          simp only [Act.put, List.setIfInBounds_toArray, List.set_cons_zero, List.set_cons_succ]
          refine wpAnyH_take (i := 24) (oi := { dst := some 67, op := Op.pick (Operand.tmp 60) (Operand.tmp 66) (Operand.const (Value.bool false)), type := 4, pos := "outright.go:115", after := #[{ on := 17, ground := Ground.data }, { on := 23, ground := Ground.data }, { on := 5, ground := Ground.guard }], guard := some (5, false) }) (v := ?vvc3n24) rfl (by kernel_rfl) (by kernel_rfl) (by kernel_rfl) (fun _ _ _ h => h) (Or.inl ⟨by rfl, ?hyc3n24⟩) (by assumption) ?restc3n24
          case hyc3n24 => (intro w hSw; (try dsimp only at hSw); go_simp; try with_reducible rfl)
          simp only [Act.put, List.setIfInBounds_toArray, List.set_cons_zero, List.set_cons_succ]
          refine wpAnyH_take (i := 25) (oi := { dst := some 68, op := Op.binOp BinOp.neq 4 (Operand.tmp 53) (Operand.tmp 67) 4, type := 4, pos := "outright.go:115", after := #[{ on := 10, ground := Ground.data }, { on := 24, ground := Ground.data }, { on := 5, ground := Ground.guard }], guard := some (5, false) }) (v := ?vvc3n25) rfl (by kernel_rfl) (by kernel_rfl) (by kernel_rfl) (fun _ _ _ h => h) (Or.inl ⟨by rfl, ?hyc3n25⟩) (by assumption) ?restc3n25
          case hyc3n25 => (intro w hSw; (try dsimp only at hSw); go_simp; try with_reducible rfl)
          simp only [Act.put, List.setIfInBounds_toArray, List.set_cons_zero, List.set_cons_succ]
          refine wpAnyH_take (i := 26) (oi := { dst := some 69, op := Op.pick (Operand.tmp 48) (Operand.const (Value.bool true)) (Operand.tmp 68), type := 4, pos := "outright.go:115", after := #[{ on := 5, ground := Ground.data }, { on := 25, ground := Ground.data }], guard := none }) (v := ?vvc3n26) rfl (by kernel_rfl) (by kernel_rfl) (by kernel_rfl) (fun _ _ _ h => h) (Or.inl ⟨by rfl, ?hyc3n26⟩) (by assumption) ?restc3n26
          case hyc3n26 => (intro w hSw; (try dsimp only at hSw); go_simp; try with_reducible rfl)
          simp only [Act.put, List.setIfInBounds_toArray, List.set_cons_zero, List.set_cons_succ]
          refine wpAnyH_done (by kernel_rfl) ?_ _
          all_goals
            go_wp2_with fail
            go_roundw
            case rel => exact ⟨1, y :: r, by go_num, congrArg Value.string (bytes_add [] _), HJ3, (by rw [List.length_cons]; omega), by omega, hHeld2.2⟩
            case measure => simp [intOf]; omega
      · have hk1 : 0 < k := by omega
        have HJ3 : Hid (t ++ [46] ++ (y :: r) = joinTo l (k + 1)) := Lib.hid (HJ2.out hk1)
        clear HJ1 HJ2 HT
        rcases hm3 with ⟨hm', g1, g2⟩ | ⟨hm', g1⟩ | ⟨hm', g1, g2⟩
        · go_wp2_with fail
          refine wp_region_held_drew (S := fun w' => w'.cell? ⟨b, o + k, none⟩ = some (str (y :: r)) ∧ Below w2.heap.size w2 w') (by kernel_rfl) ⟨hx, hbr.drew⟩ (fun hHeld => ?_)
          refine wpAnyH_take (i := 0) (oi := { dst := some 43, op := Op.move (Operand.tmp 5), type := 25, pos := "outright.go:115", after := #[], guard := none }) (v := ?vvc4n0) rfl (by kernel_rfl) (by kernel_rfl) (by kernel_rfl) (fun _ _ _ h => h) (Or.inl ⟨by rfl, ?hyc4n0⟩) (by assumption) ?restc4n0
          case hyc4n0 => (intro w hSw; (try dsimp only at hSw); go_simp; try with_reducible rfl)
          simp only [Act.put, List.setIfInBounds_toArray, List.set_cons_zero, List.set_cons_succ]
          refine wpAnyH_take (i := 1) (oi := { dst := some 44, op := Op.move (Operand.tmp 7), type := 3, pos := "outright.go:115", after := #[], guard := none }) (v := ?vvc4n1) rfl (by kernel_rfl) (by kernel_rfl) (by kernel_rfl) (fun _ _ _ h => h) (Or.inl ⟨by rfl, ?hyc4n1⟩) (by assumption) ?restc4n1
          case hyc4n1 => (intro w hSw; (try dsimp only at hSw); go_simp; try with_reducible rfl)
          simp only [Act.put, List.setIfInBounds_toArray, List.set_cons_zero, List.set_cons_succ]
          refine wpAnyH_take (i := 2) (oi := { dst := some 45, op := Op.indexAddr 25 (Operand.tmp 43) (Operand.tmp 44), type := 0, pos := "outright.go:115", after := #[{ on := 0, ground := Ground.data }, { on := 1, ground := Ground.data }], guard := none }) (v := ?vvc4n2) rfl (by kernel_rfl) (by kernel_rfl) (by kernel_rfl) (fun _ _ _ h => h) (Or.inl ⟨by rfl, ?hyc4n2⟩) (by assumption) ?restc4n2
          case hyc4n2 => (intro w hSw; (try dsimp only at hSw); go_simp; try with_reducible rfl)
          simp only [Act.put, List.setIfInBounds_toArray, List.set_cons_zero, List.set_cons_succ]
          refine wpAnyH_take (i := 3) (oi := { dst := some 46, op := Op.load 9 (Operand.tmp 45), type := 9, pos := "outright.go:115", after := #[{ on := 2, ground := Ground.data }], guard := none }) (v := ?vvc4n3) rfl (by kernel_rfl) (by kernel_rfl) (by kernel_rfl) (fun _ _ _ h => h) (Or.inl ⟨by rfl, ?hyc4n3⟩) (by assumption) ?restc4n3
          case hyc4n3 => (intro w hSw; (try dsimp only at hSw); go_simp; try with_reducible rfl)
          simp only [Act.put, List.setIfInBounds_toArray, List.set_cons_zero, List.set_cons_succ]
          refine wpAnyH_take (i := 4) (oi := { dst := some 47, op := Op.binOp BinOp.eql 9 (Operand.tmp 46) (Operand.const (Value.string { data := #[] })) 9, type := 4, pos := "outright.go:115", after := #[{ on := 3, ground := Ground.data }], guard := none }) (v := ?vvc4n4) rfl (by kernel_rfl) (by kernel_rfl) (by kernel_rfl) (fun _ _ _ h => h) (Or.inl ⟨by rfl, ?hyc4n4⟩) (by assumption) ?restc4n4
          case hyc4n4 => (intro w hSw; (try dsimp only at hSw); go_simp; try with_reducible rfl)
          simp only [Act.put, List.setIfInBounds_toArray, List.set_cons_zero, List.set_cons_succ]
          refine wpAnyH_take (i := 5) (oi := { dst := some 48, op := Op.move (Operand.tmp 47), type := 4, pos := "outright.go:115", after := #[{ on := 4, ground := Ground.data }], guard := none }) (v := ?vvc4n5) rfl (by kernel_rfl) (by kernel_rfl) (by kernel_rfl) (fun _ _ _ h => h) (Or.inl ⟨by rfl, ?hyc4n5⟩) (by assumption) ?restc4n5
          case hyc4n5 => (intro w hSw; (try dsimp only at hSw); go_simp; try with_reducible rfl)
          simp only [Act.put, List.setIfInBounds_toArray, List.set_cons_zero, List.set_cons_succ]
          refine wpAnyH_take (i := 6) (oi := { dst := some 49, op := Op.move (Operand.tmp 5), type := 25, pos := "outright.go:115", after := #[{ on := 5, ground := Ground.guard }], guard := some (5, false) }) (v := ?vvc4n6) rfl (by kernel_rfl) (by kernel_rfl) (by kernel_rfl) (fun _ _ _ h => h) (Or.inl ⟨by rfl, ?hyc4n6⟩) (by assumption) ?restc4n6
          case hyc4n6 => (intro w hSw; (try dsimp only at hSw); go_simp; try with_reducible rfl)
          simp only [Act.put, List.setIfInBounds_toArray, List.set_cons_zero, List.set_cons_succ]
          refine wpAnyH_take (i := 7) (oi := { dst := some 50, op := Op.move (Operand.tmp 7), type := 3, pos := "outright.go:115", after := #[{ on := 5, ground := Ground.guard }], guard := some (5, false) }) (v := ?vvc4n7) rfl (by kernel_rfl) (by kernel_rfl) (by kernel_rfl) (fun _ _ _ h => h) (Or.inl ⟨by rfl, ?hyc4n7⟩) (by assumption) ?restc4n7
          case hyc4n7 => (intro w hSw; (try dsimp only at hSw); go_simp; try with_reducible rfl)
          simp only [Act.put, List.setIfInBounds_toArray, List.set_cons_zero, List.set_cons_succ]
          refine wpAnyH_take (i := 8) (oi := { dst := some 51, op := Op.indexAddr 25 (Operand.tmp 49) (Operand.tmp 50), type := 0, pos := "outright.go:115", after := #[{ on := 6, ground := Ground.data }, { on := 7, ground := Ground.data }, { on := 5, ground := Ground.guard }], guard := some (5, false) }) (v := ?vvc4n8) rfl (by kernel_rfl) (by kernel_rfl) (by kernel_rfl) (fun _ _ _ h => h) (Or.inl ⟨by rfl, ?hyc4n8⟩) (by assumption) ?restc4n8
          case hyc4n8 => (intro w hSw; (try dsimp only at hSw); go_simp; try with_reducible rfl)
          simp only [Act.put, List.setIfInBounds_toArray, List.set_cons_zero, List.set_cons_succ]
          refine wpAnyH_take (i := 9) (oi := { dst := some 52, op := Op.load 9 (Operand.tmp 51), type := 9, pos := "outright.go:115", after := #[{ on := 8, ground := Ground.data }, { on := 5, ground := Ground.guard }], guard := some (5, false) }) (v := ?vvc4n9) rfl (by kernel_rfl) (by kernel_rfl) (by kernel_rfl) (fun _ _ _ h => h) (Or.inl ⟨by rfl, ?hyc4n9⟩) (by assumption) ?restc4n9
          case hyc4n9 => (intro w hSw; (try dsimp only at hSw); go_simp; try with_reducible rfl)
          simp only [Act.put, List.setIfInBounds_toArray, List.set_cons_zero, List.set_cons_succ]
          refine wpAnyH_take (i := 11) (oi := { dst := some 54, op := Op.move (Operand.tmp 5), type := 25, pos := "outright.go:115", after := #[{ on := 5, ground := Ground.guard }], guard := some (5, false) }) (v := ?vvc4n11) rfl (by kernel_rfl) (by kernel_rfl) (by kernel_rfl) (fun _ _ _ h => h) (Or.inl ⟨by rfl, ?hyc4n11⟩) (by assumption) ?restc4n11
          case hyc4n11 => (intro w hSw; (try dsimp only at hSw); go_simp; try with_reducible rfl)
          simp only [Act.put, List.setIfInBounds_toArray, List.set_cons_zero, List.set_cons_succ]
          refine wpAnyH_take (i := 12) (oi := { dst := some 55, op := Op.move (Operand.tmp 7), type := 3, pos := "outright.go:115", after := #[{ on := 5, ground := Ground.guard }], guard := some (5, false) }) (v := ?vvc4n12) rfl (by kernel_rfl) (by kernel_rfl) (by kernel_rfl) (fun _ _ _ h => h) (Or.inl ⟨by rfl, ?hyc4n12⟩) (by assumption) ?restc4n12
          case hyc4n12 => (intro w hSw; (try dsimp only at hSw); go_simp; try with_reducible rfl)
          simp only [Act.put, List.setIfInBounds_toArray, List.set_cons_zero, List.set_cons_succ]
          refine wpAnyH_take (i := 13) (oi := { dst := some 56, op := Op.indexAddr 25 (Operand.tmp 54) (Operand.tmp 55), type := 0, pos := "outright.go:115", after := #[{ on := 11, ground := Ground.data }, { on := 12, ground := Ground.data }, { on := 5, ground := Ground.guard }], guard := some (5, false) }) (v := ?vvc4n13) rfl (by kernel_rfl) (by kernel_rfl) (by kernel_rfl) (fun _ _ _ h => h) (Or.inl ⟨by rfl, ?hyc4n13⟩) (by assumption) ?restc4n13
          case hyc4n13 => (intro w hSw; (try dsimp only at hSw); go_simp; try with_reducible rfl)
          simp only [Act.put, List.setIfInBounds_toArray, List.set_cons_zero, List.set_cons_succ]
          refine wpAnyH_take (i := 14) (oi := { dst := some 57, op := Op.load 9 (Operand.tmp 56), type := 9, pos := "outright.go:115", after := #[{ on := 13, ground := Ground.data }, { on := 5, ground := Ground.guard }], guard := some (5, false) }) (v := ?vvc4n14) rfl (by kernel_rfl) (by kernel_rfl) (by kernel_rfl) (fun _ _ _ h => h) (Or.inl ⟨by rfl, ?hyc4n14⟩) (by assumption) ?restc4n14
          case hyc4n14 => (intro w hSw; (try dsimp only at hSw); go_simp; try with_reducible rfl)
          simp only [Act.put, List.setIfInBounds_toArray, List.set_cons_zero, List.set_cons_succ]
          refine wpAnyH_take (i := 15) (oi := { dst := some 58, op := Op.index 9 (Operand.tmp 57) (Operand.const (Value.int IntKind.i64 0)), type := 5, pos := "outright.go:115", after := #[{ on := 14, ground := Ground.data }, { on := 5, ground := Ground.guard }], guard := some (5, false) }) (v := ?vvc4n15) rfl (by kernel_rfl) (by kernel_rfl) (by kernel_rfl) (fun _ _ _ h => h) (Or.inl ⟨by rfl, ?hyc4n15⟩) (by assumption) ?restc4n15
          case hyc4n15 => (intro w hSw; (try dsimp only at hSw); go_simp; try with_reducible rfl)
          simp only [Act.put, List.setIfInBounds_toArray, List.set_cons_zero, List.set_cons_succ]
          refine wpAnyH_take (i := 16) (oi := { dst := some 59, op := Op.binOp BinOp.geq 5 (Operand.tmp 58) (Operand.const (Value.int IntKind.u8 97)) 5, type := 4, pos := "outright.go:115", after := #[{ on := 15, ground := Ground.data }, { on := 5, ground := Ground.guard }], guard := some (5, false) }) (v := ?vvc4n16) rfl (by kernel_rfl) (by kernel_rfl) (by kernel_rfl) (fun _ _ _ h => h) (Or.inl ⟨by rfl, ?hyc4n16⟩) (by assumption) ?restc4n16
          case hyc4n16 => (intro w hSw; (try dsimp only at hSw); go_simp; try with_reducible rfl)
          simp only [Act.put, List.setIfInBounds_toArray, List.set_cons_zero, List.set_cons_succ]
          refine wpAnyH_ready (rs := [10]) (by kernel_rfl) (by simp) ?_
          refine AllReadyH.cons (o := { dst := some 53, op := Op.call { callee := Callee.value (Operand.func 10), args := #[Operand.tmp 52], argTypes := #[9] }, type := 4, pos := "outright.go:115", after := #[{ on := 9, ground := Ground.data }, { on := 5, ground := Ground.chain }, { on := 5, ground := Ground.guard }], guard := some (5, false) }) rfl (fun K hK => ?_) AllReadyH.nil
          go_simp
          refine (CM _).out.mono ?_
          rintro e w7 ⟨rfl, b7⟩
          go_wp2_with fail
          refine hK.out _ _ ⟨(b7.cell (p := ⟨b, o + k, none⟩) hbl').trans hx, hbr.drew.trans (b7.mono hbr.size)⟩ (fun hHeld2 => ?_)
          clear hK K hHeld
          try simp only [Act.put, List.setIfInBounds_toArray, List.set_cons_zero, List.set_cons_succ]
          refine wpAnyH_take (i := 17) (oi := { dst := some 60, op := Op.move (Operand.tmp 59), type := 4, pos := "outright.go:115", after := #[{ on := 16, ground := Ground.data }, { on := 10, ground := Ground.chain }, { on := 5, ground := Ground.guard }], guard := some (5, false) }) (v := ?vvc4n17) rfl (by kernel_rfl) (by kernel_rfl) (by kernel_rfl) (fun _ _ _ h => h) (Or.inl ⟨by rfl, ?hyc4n17⟩) (by assumption) ?restc4n17
          case hyc4n17 => (intro w hSw; (try dsimp only at hSw); go_simp; try with_reducible rfl)
          simp only [Act.put, List.setIfInBounds_toArray, List.set_cons_zero, List.set_cons_succ]
          refine wpAnyH_take (i := 18) (oi := { dst := some 61, op := Op.move (Operand.tmp 5), type := 25, pos := "outright.go:115", after := #[{ on := 17, ground := Ground.guard }], guard := some (17, true) }) (v := ?vvc4n18) rfl (by kernel_rfl) (by kernel_rfl) (by kernel_rfl) (fun _ _ _ h => h) (Or.inl ⟨by rfl, ?hyc4n18⟩) (by assumption) ?restc4n18
          case hyc4n18 => (intro w hSw; (try dsimp only at hSw); go_simp; try with_reducible rfl)
          simp only [Act.put, List.setIfInBounds_toArray, List.set_cons_zero, List.set_cons_succ]
          refine wpAnyH_take (i := 19) (oi := { dst := some 62, op := Op.move (Operand.tmp 7), type := 3, pos := "outright.go:115", after := #[{ on := 17, ground := Ground.guard }], guard := some (17, true) }) (v := ?vvc4n19) rfl (by kernel_rfl) (by kernel_rfl) (by kernel_rfl) (fun _ _ _ h => h) (Or.inl ⟨by rfl, ?hyc4n19⟩) (by assumption) ?restc4n19
          case hyc4n19 => (intro w hSw; (try dsimp only at hSw); go_simp; try with_reducible rfl)
          simp only [Act.put, List.setIfInBounds_toArray, List.set_cons_zero, List.set_cons_succ]
          refine wpAnyH_take (i := 20) (oi := { dst := some 63, op := Op.indexAddr 25 (Operand.tmp 61) (Operand.tmp 62), type := 0, pos := "outright.go:115", after := #[{ on := 18, ground := Ground.data }, { on := 19, ground := Ground.data }, { on := 17, ground := Ground.guard }], guard := some (17, true) }) (v := ?vvc4n20) rfl (by kernel_rfl) (by kernel_rfl) (by kernel_rfl) (fun _ _ _ h => h) (Or.inl ⟨by rfl, ?hyc4n20⟩) (by assumption) ?restc4n20
          case hyc4n20 => (intro w hSw; (try dsimp only at hSw); go_simp; try with_reducible rfl)
          simp only [Act.put, List.setIfInBounds_toArray, List.set_cons_zero, List.set_cons_succ]
          refine wpAnyH_take (i := 21) (oi := { dst := some 64, op := Op.load 9 (Operand.tmp 63), type := 9, pos := "outright.go:115", after := #[{ on := 20, ground := Ground.data }, { on := 17, ground := Ground.guard }], guard := some (17, true) }) (v := ?vvc4n21) rfl (by kernel_rfl) (by kernel_rfl) (by kernel_rfl) (fun _ _ _ h => h) (Or.inl ⟨by rfl, ?hyc4n21⟩) (by assumption) ?restc4n21
          case hyc4n21 => (intro w hSw; (try dsimp only at hSw); go_simp; try with_reducible rfl)
          simp only [Act.put, List.setIfInBounds_toArray, List.set_cons_zero, List.set_cons_succ]
          refine wpAnyH_take (i := 22) (oi := { dst := some 65, op := Op.index 9 (Operand.tmp 64) (Operand.const (Value.int IntKind.i64 0)), type := 5, pos := "outright.go:115", after := #[{ on := 21, ground := Ground.data }, { on := 17, ground := Ground.guard }], guard := some (17, true) }) (v := ?vvc4n22) rfl (by kernel_rfl) (by kernel_rfl) (by kernel_rfl) (fun _ _ _ h => h) (Or.inl ⟨by rfl, ?hyc4n22⟩) (by assumption) ?restc4n22
          case hyc4n22 => (intro w hSw; (try dsimp only at hSw); go_simp; try with_reducible rfl)
          simp only [Act.put, List.setIfInBounds_toArray, List.set_cons_zero, List.set_cons_succ]
          refine wpAnyH_take (i := 23) (oi := { dst := some 66, op := Op.binOp BinOp.leq 5 (Operand.tmp 65) (Operand.const (Value.int IntKind.u8 122)) 5, type := 4, pos := "outright.go:115", after := #[{ on := 22, ground := Ground.data }, { on := 17, ground := Ground.guard }], guard := some (17, true) }) (v := ?vvc4n23) rfl (by kernel_rfl) (by kernel_rfl) (by kernel_rfl) (fun _ _ _ h => h) (Or.inl ⟨by rfl, ?hyc4n23⟩) (by assumption) ?restc4n23
          case hyc4n23 => (intro w hSw; (try dsimp only at hSw); go_simp; try with_reducible rfl)
          simp only [Act.put, List.setIfInBounds_toArray, List.set_cons_zero, List.set_cons_succ]
          refine wpAnyH_take (i := 24) (oi := { dst := some 67, op := Op.pick (Operand.tmp 60) (Operand.tmp 66) (Operand.const (Value.bool false)), type := 4, pos := "outright.go:115", after := #[{ on := 17, ground := Ground.data }, { on := 23, ground := Ground.data }, { on := 5, ground := Ground.guard }], guard := some (5, false) }) (v := ?vvc4n24) rfl (by kernel_rfl) (by kernel_rfl) (by kernel_rfl) (fun _ _ _ h => h) (Or.inl ⟨by rfl, ?hyc4n24⟩) (by assumption) ?restc4n24
          case hyc4n24 => (intro w hSw; (try dsimp only at hSw); go_simp; try with_reducible rfl)
          simp only [Act.put, List.setIfInBounds_toArray, List.set_cons_zero, List.set_cons_succ]
          refine wpAnyH_take (i := 25) (oi := { dst := some 68, op := Op.binOp BinOp.neq 4 (Operand.tmp 53) (Operand.tmp 67) 4, type := 4, pos := "outright.go:115", after := #[{ on := 10, ground := Ground.data }, { on := 24, ground := Ground.data }, { on := 5, ground := Ground.guard }], guard := some (5, false) }) (v := ?vvc4n25) rfl (by kernel_rfl) (by kernel_rfl) (by kernel_rfl) (fun _ _ _ h => h) (Or.inl ⟨by rfl, ?hyc4n25⟩) (by assumption) ?restc4n25
          case hyc4n25 => (intro w hSw; (try dsimp only at hSw); go_simp; try with_reducible rfl)
          simp only [Act.put, List.setIfInBounds_toArray, List.set_cons_zero, List.set_cons_succ]
          refine wpAnyH_take (i := 26) (oi := { dst := some 69, op := Op.pick (Operand.tmp 48) (Operand.const (Value.bool true)) (Operand.tmp 68), type := 4, pos := "outright.go:115", after := #[{ on := 5, ground := Ground.data }, { on := 25, ground := Ground.data }], guard := none }) (v := ?vvc4n26) rfl (by kernel_rfl) (by kernel_rfl) (by kernel_rfl) (fun _ _ _ h => h) (Or.inl ⟨by rfl, ?hyc4n26⟩) (by assumption) ?restc4n26
          case hyc4n26 => (intro w hSw; (try dsimp only at hSw); go_simp; try with_reducible rfl)
          simp only [Act.put, List.setIfInBounds_toArray, List.set_cons_zero, List.set_cons_succ]
          refine wpAnyH_done (by kernel_rfl) ?_ _
          all_goals
            go_wp2_with fail
            go_roundw
            case rel => exact ⟨k + 1, t ++ [46] ++ (y :: r), by go_num, by first | rfl | (rw [← bytes_add]) | simp [bytes_add], HJ3, (by rw [List.length_append, List.length_append, List.length_singleton, List.length_cons]; omega), by omega, hHeld2.2⟩
            case measure => simp [intOf]; omega
        · have G := Lib.hid (decide_eq_false g1)
          clear g1
          go_wp2_with fail
          have g1 := G.out
          refine wp_region_held_drew (S := fun w' => w'.cell? ⟨b, o + k, none⟩ = some (str (y :: r)) ∧ Below w2.heap.size w2 w') (by kernel_rfl) ⟨hx, hbr.drew⟩ (fun hHeld => ?_)
          refine wpAnyH_take (i := 0) (oi := { dst := some 43, op := Op.move (Operand.tmp 5), type := 25, pos := "outright.go:115", after := #[], guard := none }) (v := ?vvc5n0) rfl (by kernel_rfl) (by kernel_rfl) (by kernel_rfl) (fun _ _ _ h => h) (Or.inl ⟨by rfl, ?hyc5n0⟩) (by assumption) ?restc5n0
          case hyc5n0 => (intro w hSw; (try dsimp only at hSw); go_simp; try with_reducible rfl)
          simp only [Act.put, List.setIfInBounds_toArray, List.set_cons_zero, List.set_cons_succ]
          refine wpAnyH_take (i := 1) (oi := { dst := some 44, op := Op.move (Operand.tmp 7), type := 3, pos := "outright.go:115", after := #[], guard := none }) (v := ?vvc5n1) rfl (by kernel_rfl) (by kernel_rfl) (by kernel_rfl) (fun _ _ _ h => h) (Or.inl ⟨by rfl, ?hyc5n1⟩) (by assumption) ?restc5n1
          case hyc5n1 => (intro w hSw; (try dsimp only at hSw); go_simp; try with_reducible rfl)
          simp only [Act.put, List.setIfInBounds_toArray, List.set_cons_zero, List.set_cons_succ]
          refine wpAnyH_take (i := 2) (oi := { dst := some 45, op := Op.indexAddr 25 (Operand.tmp 43) (Operand.tmp 44), type := 0, pos := "outright.go:115", after := #[{ on := 0, ground := Ground.data }, { on := 1, ground := Ground.data }], guard := none }) (v := ?vvc5n2) rfl (by kernel_rfl) (by kernel_rfl) (by kernel_rfl) (fun _ _ _ h => h) (Or.inl ⟨by rfl, ?hyc5n2⟩) (by assumption) ?restc5n2
          case hyc5n2 => (intro w hSw; (try dsimp only at hSw); go_simp; try with_reducible rfl)
          simp only [Act.put, List.setIfInBounds_toArray, List.set_cons_zero, List.set_cons_succ]
          refine wpAnyH_take (i := 3) (oi := { dst := some 46, op := Op.load 9 (Operand.tmp 45), type := 9, pos := "outright.go:115", after := #[{ on := 2, ground := Ground.data }], guard := none }) (v := ?vvc5n3) rfl (by kernel_rfl) (by kernel_rfl) (by kernel_rfl) (fun _ _ _ h => h) (Or.inl ⟨by rfl, ?hyc5n3⟩) (by assumption) ?restc5n3
          case hyc5n3 => (intro w hSw; (try dsimp only at hSw); go_simp; try with_reducible rfl)
          simp only [Act.put, List.setIfInBounds_toArray, List.set_cons_zero, List.set_cons_succ]
          refine wpAnyH_take (i := 4) (oi := { dst := some 47, op := Op.binOp BinOp.eql 9 (Operand.tmp 46) (Operand.const (Value.string { data := #[] })) 9, type := 4, pos := "outright.go:115", after := #[{ on := 3, ground := Ground.data }], guard := none }) (v := ?vvc5n4) rfl (by kernel_rfl) (by kernel_rfl) (by kernel_rfl) (fun _ _ _ h => h) (Or.inl ⟨by rfl, ?hyc5n4⟩) (by assumption) ?restc5n4
          case hyc5n4 => (intro w hSw; (try dsimp only at hSw); go_simp; try with_reducible rfl)
          simp only [Act.put, List.setIfInBounds_toArray, List.set_cons_zero, List.set_cons_succ]
          refine wpAnyH_take (i := 5) (oi := { dst := some 48, op := Op.move (Operand.tmp 47), type := 4, pos := "outright.go:115", after := #[{ on := 4, ground := Ground.data }], guard := none }) (v := ?vvc5n5) rfl (by kernel_rfl) (by kernel_rfl) (by kernel_rfl) (fun _ _ _ h => h) (Or.inl ⟨by rfl, ?hyc5n5⟩) (by assumption) ?restc5n5
          case hyc5n5 => (intro w hSw; (try dsimp only at hSw); go_simp; try with_reducible rfl)
          simp only [Act.put, List.setIfInBounds_toArray, List.set_cons_zero, List.set_cons_succ]
          refine wpAnyH_take (i := 6) (oi := { dst := some 49, op := Op.move (Operand.tmp 5), type := 25, pos := "outright.go:115", after := #[{ on := 5, ground := Ground.guard }], guard := some (5, false) }) (v := ?vvc5n6) rfl (by kernel_rfl) (by kernel_rfl) (by kernel_rfl) (fun _ _ _ h => h) (Or.inl ⟨by rfl, ?hyc5n6⟩) (by assumption) ?restc5n6
          case hyc5n6 => (intro w hSw; (try dsimp only at hSw); go_simp; try with_reducible rfl)
          simp only [Act.put, List.setIfInBounds_toArray, List.set_cons_zero, List.set_cons_succ]
          refine wpAnyH_take (i := 7) (oi := { dst := some 50, op := Op.move (Operand.tmp 7), type := 3, pos := "outright.go:115", after := #[{ on := 5, ground := Ground.guard }], guard := some (5, false) }) (v := ?vvc5n7) rfl (by kernel_rfl) (by kernel_rfl) (by kernel_rfl) (fun _ _ _ h => h) (Or.inl ⟨by rfl, ?hyc5n7⟩) (by assumption) ?restc5n7
          case hyc5n7 => (intro w hSw; (try dsimp only at hSw); go_simp; try with_reducible rfl)
          simp only [Act.put, List.setIfInBounds_toArray, List.set_cons_zero, List.set_cons_succ]
          refine wpAnyH_take (i := 8) (oi := { dst := some 51, op := Op.indexAddr 25 (Operand.tmp 49) (Operand.tmp 50), type := 0, pos := "outright.go:115", after := #[{ on := 6, ground := Ground.data }, { on := 7, ground := Ground.data }, { on := 5, ground := Ground.guard }], guard := some (5, false) }) (v := ?vvc5n8) rfl (by kernel_rfl) (by kernel_rfl) (by kernel_rfl) (fun _ _ _ h => h) (Or.inl ⟨by rfl, ?hyc5n8⟩) (by assumption) ?restc5n8
          case hyc5n8 => (intro w hSw; (try dsimp only at hSw); go_simp; try with_reducible rfl)
          simp only [Act.put, List.setIfInBounds_toArray, List.set_cons_zero, List.set_cons_succ]
          refine wpAnyH_take (i := 9) (oi := { dst := some 52, op := Op.load 9 (Operand.tmp 51), type := 9, pos := "outright.go:115", after := #[{ on := 8, ground := Ground.data }, { on := 5, ground := Ground.guard }], guard := some (5, false) }) (v := ?vvc5n9) rfl (by kernel_rfl) (by kernel_rfl) (by kernel_rfl) (fun _ _ _ h => h) (Or.inl ⟨by rfl, ?hyc5n9⟩) (by assumption) ?restc5n9
          case hyc5n9 => (intro w hSw; (try dsimp only at hSw); go_simp; try with_reducible rfl)
          simp only [Act.put, List.setIfInBounds_toArray, List.set_cons_zero, List.set_cons_succ]
          refine wpAnyH_take (i := 11) (oi := { dst := some 54, op := Op.move (Operand.tmp 5), type := 25, pos := "outright.go:115", after := #[{ on := 5, ground := Ground.guard }], guard := some (5, false) }) (v := ?vvc5n11) rfl (by kernel_rfl) (by kernel_rfl) (by kernel_rfl) (fun _ _ _ h => h) (Or.inl ⟨by rfl, ?hyc5n11⟩) (by assumption) ?restc5n11
          case hyc5n11 => (intro w hSw; (try dsimp only at hSw); go_simp; try with_reducible rfl)
          simp only [Act.put, List.setIfInBounds_toArray, List.set_cons_zero, List.set_cons_succ]
          refine wpAnyH_take (i := 12) (oi := { dst := some 55, op := Op.move (Operand.tmp 7), type := 3, pos := "outright.go:115", after := #[{ on := 5, ground := Ground.guard }], guard := some (5, false) }) (v := ?vvc5n12) rfl (by kernel_rfl) (by kernel_rfl) (by kernel_rfl) (fun _ _ _ h => h) (Or.inl ⟨by rfl, ?hyc5n12⟩) (by assumption) ?restc5n12
          case hyc5n12 => (intro w hSw; (try dsimp only at hSw); go_simp; try with_reducible rfl)
          simp only [Act.put, List.setIfInBounds_toArray, List.set_cons_zero, List.set_cons_succ]
          refine wpAnyH_take (i := 13) (oi := { dst := some 56, op := Op.indexAddr 25 (Operand.tmp 54) (Operand.tmp 55), type := 0, pos := "outright.go:115", after := #[{ on := 11, ground := Ground.data }, { on := 12, ground := Ground.data }, { on := 5, ground := Ground.guard }], guard := some (5, false) }) (v := ?vvc5n13) rfl (by kernel_rfl) (by kernel_rfl) (by kernel_rfl) (fun _ _ _ h => h) (Or.inl ⟨by rfl, ?hyc5n13⟩) (by assumption) ?restc5n13
          case hyc5n13 => (intro w hSw; (try dsimp only at hSw); go_simp; try with_reducible rfl)
          simp only [Act.put, List.setIfInBounds_toArray, List.set_cons_zero, List.set_cons_succ]
          refine wpAnyH_take (i := 14) (oi := { dst := some 57, op := Op.load 9 (Operand.tmp 56), type := 9, pos := "outright.go:115", after := #[{ on := 13, ground := Ground.data }, { on := 5, ground := Ground.guard }], guard := some (5, false) }) (v := ?vvc5n14) rfl (by kernel_rfl) (by kernel_rfl) (by kernel_rfl) (fun _ _ _ h => h) (Or.inl ⟨by rfl, ?hyc5n14⟩) (by assumption) ?restc5n14
          case hyc5n14 => (intro w hSw; (try dsimp only at hSw); go_simp; try with_reducible rfl)
          simp only [Act.put, List.setIfInBounds_toArray, List.set_cons_zero, List.set_cons_succ]
          refine wpAnyH_take (i := 15) (oi := { dst := some 58, op := Op.index 9 (Operand.tmp 57) (Operand.const (Value.int IntKind.i64 0)), type := 5, pos := "outright.go:115", after := #[{ on := 14, ground := Ground.data }, { on := 5, ground := Ground.guard }], guard := some (5, false) }) (v := ?vvc5n15) rfl (by kernel_rfl) (by kernel_rfl) (by kernel_rfl) (fun _ _ _ h => h) (Or.inl ⟨by rfl, ?hyc5n15⟩) (by assumption) ?restc5n15
          case hyc5n15 => (intro w hSw; (try dsimp only at hSw); go_simp; try with_reducible rfl)
          simp only [Act.put, List.setIfInBounds_toArray, List.set_cons_zero, List.set_cons_succ]
          refine wpAnyH_take (i := 16) (oi := { dst := some 59, op := Op.binOp BinOp.geq 5 (Operand.tmp 58) (Operand.const (Value.int IntKind.u8 97)) 5, type := 4, pos := "outright.go:115", after := #[{ on := 15, ground := Ground.data }, { on := 5, ground := Ground.guard }], guard := some (5, false) }) (v := ?vvc5n16) rfl (by kernel_rfl) (by kernel_rfl) (by kernel_rfl) (fun _ _ _ h => h) (Or.inl ⟨by rfl, ?hyc5n16⟩) (by assumption) ?restc5n16
          case hyc5n16 => (intro w hSw; (try dsimp only at hSw); go_simp; try with_reducible rfl)
          simp only [Act.put, List.setIfInBounds_toArray, List.set_cons_zero, List.set_cons_succ]
          refine wpAnyH_ready (rs := [10]) (by kernel_rfl) (by simp) ?_
          refine AllReadyH.cons (o := { dst := some 53, op := Op.call { callee := Callee.value (Operand.func 10), args := #[Operand.tmp 52], argTypes := #[9] }, type := 4, pos := "outright.go:115", after := #[{ on := 9, ground := Ground.data }, { on := 5, ground := Ground.chain }, { on := 5, ground := Ground.guard }], guard := some (5, false) }) rfl (fun K hK => ?_) AllReadyH.nil
          go_simp
          refine (CM _).out.mono ?_
          rintro e w7 ⟨rfl, b7⟩
          go_wp2_with fail
          refine hK.out _ _ ⟨(b7.cell (p := ⟨b, o + k, none⟩) hbl').trans hx, hbr.drew.trans (b7.mono hbr.size)⟩ (fun hHeld2 => ?_)
          clear hK K hHeld
          try simp only [Act.put, List.setIfInBounds_toArray, List.set_cons_zero, List.set_cons_succ]
          refine wpAnyH_take (i := 17) (oi := { dst := some 60, op := Op.move (Operand.tmp 59), type := 4, pos := "outright.go:115", after := #[{ on := 16, ground := Ground.data }, { on := 10, ground := Ground.chain }, { on := 5, ground := Ground.guard }], guard := some (5, false) }) (v := ?vvc5n17) rfl (by kernel_rfl) (by kernel_rfl) (by kernel_rfl) (fun _ _ _ h => h) (Or.inl ⟨by rfl, ?hyc5n17⟩) (by assumption) ?restc5n17
          case hyc5n17 => (intro w hSw; (try dsimp only at hSw); go_simp; try with_reducible rfl)
          simp only [Act.put, List.setIfInBounds_toArray, List.set_cons_zero, List.set_cons_succ]
          refine wpAnyH_take (i := 18) (oi := { dst := some 61, op := Op.move (Operand.tmp 5), type := 25, pos := "outright.go:115", after := #[{ on := 17, ground := Ground.guard }], guard := some (17, true) }) (v := undef) rfl (by kernel_rfl) (by kernel_rfl) (by kernel_rfl) (fun _ _ _ h => h) (Or.inr ⟨by rfl, rfl⟩) (by assumption) ?_
          simp only [Act.put, List.setIfInBounds_toArray, List.set_cons_zero, List.set_cons_succ]
          refine wpAnyH_take (i := 19) (oi := { dst := some 62, op := Op.move (Operand.tmp 7), type := 3, pos := "outright.go:115", after := #[{ on := 17, ground := Ground.guard }], guard := some (17, true) }) (v := undef) rfl (by kernel_rfl) (by kernel_rfl) (by kernel_rfl) (fun _ _ _ h => h) (Or.inr ⟨by rfl, rfl⟩) (by assumption) ?_
          simp only [Act.put, List.setIfInBounds_toArray, List.set_cons_zero, List.set_cons_succ]
          refine wpAnyH_take (i := 20) (oi := { dst := some 63, op := Op.indexAddr 25 (Operand.tmp 61) (Operand.tmp 62), type := 0, pos := "outright.go:115", after := #[{ on := 18, ground := Ground.data }, { on := 19, ground := Ground.data }, { on := 17, ground := Ground.guard }], guard := some (17, true) }) (v := undef) rfl (by kernel_rfl) (by kernel_rfl) (by kernel_rfl) (fun _ _ _ h => h) (Or.inr ⟨by rfl, rfl⟩) (by assumption) ?_
          simp only [Act.put, List.setIfInBounds_toArray, List.set_cons_zero, List.set_cons_succ]
          refine wpAnyH_take (i := 21) (oi := { dst := some 64, op := Op.load 9 (Operand.tmp 63), type := 9, pos := "outright.go:115", after := #[{ on := 20, ground := Ground.data }, { on := 17, ground := Ground.guard }], guard := some (17, true) }) (v := undef) rfl (by kernel_rfl) (by kernel_rfl) (by kernel_rfl) (fun _ _ _ h => h) (Or.inr ⟨by rfl, rfl⟩) (by assumption) ?_
          simp only [Act.put, List.setIfInBounds_toArray, List.set_cons_zero, List.set_cons_succ]
          refine wpAnyH_take (i := 22) (oi := { dst := some 65, op := Op.index 9 (Operand.tmp 64) (Operand.const (Value.int IntKind.i64 0)), type := 5, pos := "outright.go:115", after := #[{ on := 21, ground := Ground.data }, { on := 17, ground := Ground.guard }], guard := some (17, true) }) (v := undef) rfl (by kernel_rfl) (by kernel_rfl) (by kernel_rfl) (fun _ _ _ h => h) (Or.inr ⟨by rfl, rfl⟩) (by assumption) ?_
          simp only [Act.put, List.setIfInBounds_toArray, List.set_cons_zero, List.set_cons_succ]
          refine wpAnyH_take (i := 23) (oi := { dst := some 66, op := Op.binOp BinOp.leq 5 (Operand.tmp 65) (Operand.const (Value.int IntKind.u8 122)) 5, type := 4, pos := "outright.go:115", after := #[{ on := 22, ground := Ground.data }, { on := 17, ground := Ground.guard }], guard := some (17, true) }) (v := undef) rfl (by kernel_rfl) (by kernel_rfl) (by kernel_rfl) (fun _ _ _ h => h) (Or.inr ⟨by rfl, rfl⟩) (by assumption) ?_
          simp only [Act.put, List.setIfInBounds_toArray, List.set_cons_zero, List.set_cons_succ]
          refine wpAnyH_take (i := 24) (oi := { dst := some 67, op := Op.pick (Operand.tmp 60) (Operand.tmp 66) (Operand.const (Value.bool false)), type := 4, pos := "outright.go:115", after := #[{ on := 17, ground := Ground.data }, { on := 23, ground := Ground.data }, { on := 5, ground := Ground.guard }], guard := some (5, false) }) (v := ?vvc5n24) rfl (by kernel_rfl) (by kernel_rfl) (by kernel_rfl) (fun _ _ _ h => h) (Or.inl ⟨by rfl, ?hyc5n24⟩) (by assumption) ?restc5n24
          case hyc5n24 => (intro w hSw; (try dsimp only at hSw); go_simp; try with_reducible rfl)
          simp only [Act.put, List.setIfInBounds_toArray, List.set_cons_zero, List.set_cons_succ]
          refine wpAnyH_take (i := 25) (oi := { dst := some 68, op := Op.binOp BinOp.neq 4 (Operand.tmp 53) (Operand.tmp 67) 4, type := 4, pos := "outright.go:115", after := #[{ on := 10, ground := Ground.data }, { on := 24, ground := Ground.data }, { on := 5, ground := Ground.guard }], guard := some (5, false) }) (v := ?vvc5n25) rfl (by kernel_rfl) (by kernel_rfl) (by kernel_rfl) (fun _ _ _ h => h) (Or.inl ⟨by rfl, ?hyc5n25⟩) (by assumption) ?restc5n25
          case hyc5n25 => (intro w hSw; (try dsimp only at hSw); go_simp; try with_reducible rfl)
          simp only [Act.put, List.setIfInBounds_toArray, List.set_cons_zero, List.set_cons_succ]
          refine wpAnyH_take (i := 26) (oi := { dst := some 69, op := Op.pick (Operand.tmp 48) (Operand.const (Value.bool true)) (Operand.tmp 68), type := 4, pos := "outright.go:115", after := #[{ on := 5, ground := Ground.data }, { on := 25, ground := Ground.data }], guard := none }) (v := ?vvc5n26) rfl (by kernel_rfl) (by kernel_rfl) (by kernel_rfl) (fun _ _ _ h => h) (Or.inl ⟨by rfl, ?hyc5n26⟩) (by assumption) ?restc5n26
          case hyc5n26 => (intro w hSw; (try dsimp only at hSw); go_simp; try with_reducible rfl)
          simp only [Act.put, List.setIfInBounds_toArray, List.set_cons_zero, List.set_cons_succ]
          refine wpAnyH_done (by kernel_rfl) ?_ _
          all_goals
            go_wp2_with fail
            go_roundw
            case rel => exact ⟨k + 1, t ++ [46] ++ (y :: r), by go_num, by first | rfl | (rw [← bytes_add]) | simp [bytes_add], HJ3, (by rw [List.length_append, List.length_append, List.length_singleton, List.length_cons]; omega), by omega, hHeld2.2⟩
            case measure => simp [intOf]; omega
        · have G := Lib.hid (decide_eq_false g2)
          clear g2
          go_wp2_with fail
          have g2 := G.out
          refine wp_region_held_drew (S := fun w' => w'.cell? ⟨b, o + k, none⟩ = some (str (y :: r)) ∧ Below w2.heap.size w2 w') (by kernel_rfl) ⟨hx, hbr.drew⟩ (fun hHeld => ?_)
          refine wpAnyH_take (i := 0) (oi := { dst := some 43, op := Op.move (Operand.tmp 5), type := 25, pos := "outright.go:115", after := #[], guard := none }) (v := ?vvc6n0) rfl (by kernel_rfl) (by kernel_rfl) (by kernel_rfl) (fun _ _ _ h => h) (Or.inl ⟨by rfl, ?hyc6n0⟩) (by assumption) ?restc6n0
          case hyc6n0 => (intro w hSw; (try dsimp only at hSw); go_simp; try with_reducible rfl)
          simp only [Act.put, List.setIfInBounds_toArray, List.set_cons_zero, List.set_cons_succ]
          refine wpAnyH_take (i := 1) (oi := { dst := some 44, op := Op.move (Operand.tmp 7), type := 3, pos := "outright.go:115", after := #[], guard := none }) (v := ?vvc6n1) rfl (by kernel_rfl) (by kernel_rfl) (by kernel_rfl) (fun _ _ _ h => h) (Or.inl ⟨by rfl, ?hyc6n1⟩) (by assumption) ?restc6n1
          case hyc6n1 => (intro w hSw; (try dsimp only at hSw); go_simp; try with_reducible rfl)
          simp only [Act.put, List.setIfInBounds_toArray, List.set_cons_zero, List.set_cons_succ]
          refine wpAnyH_take (i := 2) (oi := { dst := some 45, op := Op.indexAddr 25 (Operand.tmp 43) (Operand.tmp 44), type := 0, pos := "outright.go:115", after := #[{ on := 0, ground := Ground.data }, { on := 1, ground := Ground.data }], guard := none }) (v := ?vvc6n2) rfl (by kernel_rfl) (by kernel_rfl) (by kernel_rfl) (fun _ _ _ h => h) (Or.inl ⟨by rfl, ?hyc6n2⟩) (by assumption) ?restc6n2
          case hyc6n2 => (intro w hSw; (try dsimp only at hSw); go_simp; try with_reducible rfl)
          simp only [Act.put, List.setIfInBounds_toArray, List.set_cons_zero, List.set_cons_succ]
          refine wpAnyH_take (i := 3) (oi := { dst := some 46, op := Op.load 9 (Operand.tmp 45), type := 9, pos := "outright.go:115", after := #[{ on := 2, ground := Ground.data }], guard := none }) (v := ?vvc6n3) rfl (by kernel_rfl) (by kernel_rfl) (by kernel_rfl) (fun _ _ _ h => h) (Or.inl ⟨by rfl, ?hyc6n3⟩) (by assumption) ?restc6n3
          case hyc6n3 => (intro w hSw; (try dsimp only at hSw); go_simp; try with_reducible rfl)
          simp only [Act.put, List.setIfInBounds_toArray, List.set_cons_zero, List.set_cons_succ]
          refine wpAnyH_take (i := 4) (oi := { dst := some 47, op := Op.binOp BinOp.eql 9 (Operand.tmp 46) (Operand.const (Value.string { data := #[] })) 9, type := 4, pos := "outright.go:115", after := #[{ on := 3, ground := Ground.data }], guard := none }) (v := ?vvc6n4) rfl (by kernel_rfl) (by kernel_rfl) (by kernel_rfl) (fun _ _ _ h => h) (Or.inl ⟨by rfl, ?hyc6n4⟩) (by assumption) ?restc6n4
          case hyc6n4 => (intro w hSw; (try dsimp only at hSw); go_simp; try with_reducible rfl)
          simp only [Act.put, List.setIfInBounds_toArray, List.set_cons_zero, List.set_cons_succ]
          refine wpAnyH_take (i := 5) (oi := { dst := some 48, op := Op.move (Operand.tmp 47), type := 4, pos := "outright.go:115", after := #[{ on := 4, ground := Ground.data }], guard := none }) (v := ?vvc6n5) rfl (by kernel_rfl) (by kernel_rfl) (by kernel_rfl) (fun _ _ _ h => h) (Or.inl ⟨by rfl, ?hyc6n5⟩) (by assumption) ?restc6n5
          case hyc6n5 => (intro w hSw; (try dsimp only at hSw); go_simp; try with_reducible rfl)
          simp only [Act.put, List.setIfInBounds_toArray, List.set_cons_zero, List.set_cons_succ]
          refine wpAnyH_take (i := 6) (oi := { dst := some 49, op := Op.move (Operand.tmp 5), type := 25, pos := "outright.go:115", after := #[{ on := 5, ground := Ground.guard }], guard := some (5, false) }) (v := ?vvc6n6) rfl (by kernel_rfl) (by kernel_rfl) (by kernel_rfl) (fun _ _ _ h => h) (Or.inl ⟨by rfl, ?hyc6n6⟩) (by assumption) ?restc6n6
          case hyc6n6 => (intro w hSw; (try dsimp only at hSw); go_simp; try with_reducible rfl)
          simp only [Act.put, List.setIfInBounds_toArray, List.set_cons_zero, List.set_cons_succ]
          refine wpAnyH_take (i := 7) (oi := { dst := some 50, op := Op.move (Operand.tmp 7), type := 3, pos := "outright.go:115", after := #[{ on := 5, ground := Ground.guard }], guard := some (5, false) }) (v := ?vvc6n7) rfl (by kernel_rfl) (by kernel_rfl) (by kernel_rfl) (fun _ _ _ h => h) (Or.inl ⟨by rfl, ?hyc6n7⟩) (by assumption) ?restc6n7
          case hyc6n7 => (intro w hSw; (try dsimp only at hSw); go_simp; try with_reducible rfl)
          simp only [Act.put, List.setIfInBounds_toArray, List.set_cons_zero, List.set_cons_succ]
          refine wpAnyH_take (i := 8) (oi := { dst := some 51, op := Op.indexAddr 25 (Operand.tmp 49) (Operand.tmp 50), type := 0, pos := "outright.go:115", after := #[{ on := 6, ground := Ground.data }, { on := 7, ground := Ground.data }, { on := 5, ground := Ground.guard }], guard := some (5, false) }) (v := ?vvc6n8) rfl (by kernel_rfl) (by kernel_rfl) (by kernel_rfl) (fun _ _ _ h => h) (Or.inl ⟨by rfl, ?hyc6n8⟩) (by assumption) ?restc6n8
          case hyc6n8 => (intro w hSw; (try dsimp only at hSw); go_simp; try with_reducible rfl)
          simp only [Act.put, List.setIfInBounds_toArray, List.set_cons_zero, List.set_cons_succ]
          refine wpAnyH_take (i := 9) (oi := { dst := some 52, op := Op.load 9 (Operand.tmp 51), type := 9, pos := "outright.go:115", after := #[{ on := 8, ground := Ground.data }, { on := 5, ground := Ground.guard }], guard := some (5, false) }) (v := ?vvc6n9) rfl (by kernel_rfl) (by kernel_rfl) (by kernel_rfl) (fun _ _ _ h => h) (Or.inl ⟨by rfl, ?hyc6n9⟩) (by assumption) ?restc6n9
          case hyc6n9 => (intro w hSw; (try dsimp only at hSw); go_simp; try with_reducible rfl)
          simp only [Act.put, List.setIfInBounds_toArray, List.set_cons_zero, List.set_cons_succ]
          refine wpAnyH_take (i := 11) (oi := { dst := some 54, op := Op.move (Operand.tmp 5), type := 25, pos := "outright.go:115", after := #[{ on := 5, ground := Ground.guard }], guard := some (5, false) }) (v := ?vvc6n11) rfl (by kernel_rfl) (by kernel_rfl) (by kernel_rfl) (fun _ _ _ h => h) (Or.inl ⟨by rfl, ?hyc6n11⟩) (by assumption) ?restc6n11
          case hyc6n11 => (intro w hSw; (try dsimp only at hSw); go_simp; try with_reducible rfl)
          simp only [Act.put, List.setIfInBounds_toArray, List.set_cons_zero, List.set_cons_succ]
          refine wpAnyH_take (i := 12) (oi := { dst := some 55, op := Op.move (Operand.tmp 7), type := 3, pos := "outright.go:115", after := #[{ on := 5, ground := Ground.guard }], guard := some (5, false) }) (v := ?vvc6n12) rfl (by kernel_rfl) (by kernel_rfl) (by kernel_rfl) (fun _ _ _ h => h) (Or.inl ⟨by rfl, ?hyc6n12⟩) (by assumption) ?restc6n12
          case hyc6n12 => (intro w hSw; (try dsimp only at hSw); go_simp; try with_reducible rfl)
          simp only [Act.put, List.setIfInBounds_toArray, List.set_cons_zero, List.set_cons_succ]
          refine wpAnyH_take (i := 13) (oi := { dst := some 56, op := Op.indexAddr 25 (Operand.tmp 54) (Operand.tmp 55), type := 0, pos := "outright.go:115", after := #[{ on := 11, ground := Ground.data }, { on := 12, ground := Ground.data }, { on := 5, ground := Ground.guard }], guard := some (5, false) }) (v := ?vvc6n13) rfl (by kernel_rfl) (by kernel_rfl) (by kernel_rfl) (fun _ _ _ h => h) (Or.inl ⟨by rfl, ?hyc6n13⟩) (by assumption) ?restc6n13
          case hyc6n13 => (intro w hSw; (try dsimp only at hSw); go_simp; try with_reducible rfl)
          simp only [Act.put, List.setIfInBounds_toArray, List.set_cons_zero, List.set_cons_succ]
          refine wpAnyH_take (i := 14) (oi := { dst := some 57, op := Op.load 9 (Operand.tmp 56), type := 9, pos := "outright.go:115", after := #[{ on := 13, ground := Ground.data }, { on := 5, ground := Ground.guard }], guard := some (5, false) }) (v := ?vvc6n14) rfl (by kernel_rfl) (by kernel_rfl) (by kernel_rfl) (fun _ _ _ h => h) (Or.inl ⟨by rfl, ?hyc6n14⟩) (by assumption) ?restc6n14
          case hyc6n14 => (intro w hSw; (try dsimp only at hSw); go_simp; try with_reducible rfl)
          simp only [Act.put, List.setIfInBounds_toArray, List.set_cons_zero, List.set_cons_succ]
          refine wpAnyH_take (i := 15) (oi := { dst := some 58, op := Op.index 9 (Operand.tmp 57) (Operand.const (Value.int IntKind.i64 0)), type := 5, pos := "outright.go:115", after := #[{ on := 14, ground := Ground.data }, { on := 5, ground := Ground.guard }], guard := some (5, false) }) (v := ?vvc6n15) rfl (by kernel_rfl) (by kernel_rfl) (by kernel_rfl) (fun _ _ _ h => h) (Or.inl ⟨by rfl, ?hyc6n15⟩) (by assumption) ?restc6n15
          case hyc6n15 => (intro w hSw; (try dsimp only at hSw); go_simp; try with_reducible rfl)
          simp only [Act.put, List.setIfInBounds_toArray, List.set_cons_zero, List.set_cons_succ]
          refine wpAnyH_take (i := 16) (oi := { dst := some 59, op := Op.binOp BinOp.geq 5 (Operand.tmp 58) (Operand.const (Value.int IntKind.u8 97)) 5, type := 4, pos := "outright.go:115", after := #[{ on := 15, ground := Ground.data }, { on := 5, ground := Ground.guard }], guard := some (5, false) }) (v := ?vvc6n16) rfl (by kernel_rfl) (by kernel_rfl) (by kernel_rfl) (fun _ _ _ h => h) (Or.inl ⟨by rfl, ?hyc6n16⟩) (by assumption) ?restc6n16
          case hyc6n16 => (intro w hSw; (try dsimp only at hSw); go_simp; try with_reducible rfl)
          simp only [Act.put, List.setIfInBounds_toArray, List.set_cons_zero, List.set_cons_succ]
          refine wpAnyH_ready (rs := [10]) (by kernel_rfl) (by simp) ?_
          refine AllReadyH.cons (o := { dst := some 53, op := Op.call { callee := Callee.value (Operand.func 10), args := #[Operand.tmp 52], argTypes := #[9] }, type := 4, pos := "outright.go:115", after := #[{ on := 9, ground := Ground.data }, { on := 5, ground := Ground.chain }, { on := 5, ground := Ground.guard }], guard := some (5, false) }) rfl (fun K hK => ?_) AllReadyH.nil
          go_simp
          refine (CM _).out.mono ?_
          rintro e w7 ⟨rfl, b7⟩
          go_wp2_with fail
          refine hK.out _ _ ⟨(b7.cell (p := ⟨b, o + k, none⟩) hbl').trans hx, hbr.drew.trans (b7.mono hbr.size)⟩ (fun hHeld2 => ?_)
          clear hK K hHeld
          try simp only [Act.put, List.setIfInBounds_toArray, List.set_cons_zero, List.set_cons_succ]
          refine wpAnyH_take (i := 17) (oi := { dst := some 60, op := Op.move (Operand.tmp 59), type := 4, pos := "outright.go:115", after := #[{ on := 16, ground := Ground.data }, { on := 10, ground := Ground.chain }, { on := 5, ground := Ground.guard }], guard := some (5, false) }) (v := ?vvc6n17) rfl (by kernel_rfl) (by kernel_rfl) (by kernel_rfl) (fun _ _ _ h => h) (Or.inl ⟨by rfl, ?hyc6n17⟩) (by assumption) ?restc6n17
          case hyc6n17 => (intro w hSw; (try dsimp only at hSw); go_simp; try with_reducible rfl)
          simp only [Act.put, List.setIfInBounds_toArray, List.set_cons_zero, List.set_cons_succ]
          refine wpAnyH_take (i := 18) (oi := { dst := some 61, op := Op.move (Operand.tmp 5), type := 25, pos := "outright.go:115", after := #[{ on := 17, ground := Ground.guard }], guard := some (17, true) }) (v := ?vvc6n18) rfl (by kernel_rfl) (by kernel_rfl) (by kernel_rfl) (fun _ _ _ h => h) (Or.inl ⟨by rfl, ?hyc6n18⟩) (by assumption) ?restc6n18
          case hyc6n18 => (intro w hSw; (try dsimp only at hSw); go_simp; try with_reducible rfl)
          simp only [Act.put, List.setIfInBounds_toArray, List.set_cons_zero, List.set_cons_succ]
          refine wpAnyH_take (i := 19) (oi := { dst := some 62, op := Op.move (Operand.tmp 7), type := 3, pos := "outright.go:115", after := #[{ on := 17, ground := Ground.guard }], guard := some (17, true) }) (v := ?vvc6n19) rfl (by kernel_rfl) (by kernel_rfl) (by kernel_rfl) (fun _ _ _ h => h) (Or.inl ⟨by rfl, ?hyc6n19⟩) (by assumption) ?restc6n19
          case hyc6n19 => (intro w hSw; (try dsimp only at hSw); go_simp; try with_reducible rfl)
          simp only [Act.put, List.setIfInBounds_toArray, List.set_cons_zero, List.set_cons_succ]
          refine wpAnyH_take (i := 20) (oi := { dst := some 63, op := Op.indexAddr 25 (Operand.tmp 61) (Operand.tmp 62), type := 0, pos := "outright.go:115", after := #[{ on := 18, ground := Ground.data }, { on := 19, ground := Ground.data }, { on := 17, ground := Ground.guard }], guard := some (17, true) }) (v := ?vvc6n20) rfl (by kernel_rfl) (by kernel_rfl) (by kernel_rfl) (fun _ _ _ h => h) (Or.inl ⟨by rfl, ?hyc6n20⟩) (by assumption) ?restc6n20
          case hyc6n20 => (intro w hSw; (try dsimp only at hSw); go_simp; try with_reducible rfl)
          simp only [Act.put, List.setIfInBounds_toArray, List.set_cons_zero, List.set_cons_succ]
          refine wpAnyH_take (i := 21) (oi := { dst := some 64, op := Op.load 9 (Operand.tmp 63), type := 9, pos := "outright.go:115", after := #[{ on := 20, ground := Ground.data }, { on := 17, ground := Ground.guard }], guard := some (17, true) }) (v := ?vvc6n21) rfl (by kernel_rfl) (by kernel_rfl) (by kernel_rfl) (fun _ _ _ h => h) (Or.inl ⟨by rfl, ?hyc6n21⟩) (by assumption) ?restc6n21
          case hyc6n21 => (intro w hSw; (try dsimp only at hSw); go_simp; try with_reducible rfl)
          simp only [Act.put, List.setIfInBounds_toArray, List.set_cons_zero, List.set_cons_succ]
          refine wpAnyH_take (i := 22) (oi := { dst := some 65, op := Op.index 9 (Operand.tmp 64) (Operand.const (Value.int IntKind.i64 0)), type := 5, pos := "outright.go:115", after := #[{ on := 21, ground := Ground.data }, { on := 17, ground := Ground.guard }], guard := some (17, true) }) (v := ?vvc6n22) rfl (by kernel_rfl) (by kernel_rfl) (by kernel_rfl) (fun _ _ _ h => h) (Or.inl ⟨by rfl, ?hyc6n22⟩) (by assumption) ?restc6n22
          case hyc6n22 => (intro w hSw; (try dsimp only at hSw); go_simp; try with_reducible rfl)
          simp only [Act.put, List.setIfInBounds_toArray, List.set_cons_zero, List.set_cons_succ]
          refine wpAnyH_take (i := 23) (oi := { dst := some 66, op := Op.binOp BinOp.leq 5 (Operand.tmp 65) (Operand.const (Value.int IntKind.u8 122)) 5, type := 4, pos := "outright.go:115", after := #[{ on := 22, ground := Ground.data }, { on := 17, ground := Ground.guard }], guard := some (17, true) }) (v := ?vvc6n23) rfl (by kernel_rfl) (by kernel_rfl) (by kernel_rfl) (fun _ _ _ h => h) (Or.inl ⟨by rfl, ?hyc6n23⟩) (by assumption) ?restc6n23
          case hyc6n23 => (intro w hSw; (try dsimp only at hSw); go_simp; try with_reducible rfl)
          simp only [Act.put, List.setIfInBounds_toArray, List.set_cons_zero, List.set_cons_succ]
          refine wpAnyH_take (i := 24) (oi := { dst := some 67, op := Op.pick (Operand.tmp 60) (Operand.tmp 66) (Operand.const (Value.bool false)), type := 4, pos := "outright.go:115", after := #[{ on := 17, ground := Ground.data }, { on := 23, ground := Ground.data }, { on := 5, ground := Ground.guard }], guard := some (5, false) }) (v := ?vvc6n24) rfl (by kernel_rfl) (by kernel_rfl) (by kernel_rfl) (fun _ _ _ h => h) (Or.inl ⟨by rfl, ?hyc6n24⟩) (by assumption) ?restc6n24
          case hyc6n24 => (intro w hSw; (try dsimp only at hSw); go_simp; try with_reducible rfl)
          simp only [Act.put, List.setIfInBounds_toArray, List.set_cons_zero, List.set_cons_succ]
          refine wpAnyH_take (i := 25) (oi := { dst := some 68, op := Op.binOp BinOp.neq 4 (Operand.tmp 53) (Operand.tmp 67) 4, type := 4, pos := "outright.go:115", after := #[{ on := 10, ground := Ground.data }, { on := 24, ground := Ground.data }, { on := 5, ground := Ground.guard }], guard := some (5, false) }) (v := ?vvc6n25) rfl (by kernel_rfl) (by kernel_rfl) (by kernel_rfl) (fun _ _ _ h => h) (Or.inl ⟨by rfl, ?hyc6n25⟩) (by assumption) ?restc6n25
          case hyc6n25 => (intro w hSw; (try dsimp only at hSw); go_simp; try with_reducible rfl)
          simp only [Act.put, List.setIfInBounds_toArray, List.set_cons_zero, List.set_cons_succ]
          refine wpAnyH_take (i := 26) (oi := { dst := some 69, op := Op.pick (Operand.tmp 48) (Operand.const (Value.bool true)) (Operand.tmp 68), type := 4, pos := "outright.go:115", after := #[{ on := 5, ground := Ground.data }, { on := 25, ground := Ground.data }], guard := none }) (v := ?vvc6n26) rfl (by kernel_rfl) (by kernel_rfl) (by kernel_rfl) (fun _ _ _ h => h) (Or.inl ⟨by rfl, ?hyc6n26⟩) (by assumption) ?restc6n26
          case hyc6n26 => (intro w hSw; (try dsimp only at hSw); go_simp; try with_reducible rfl)
          simp only [Act.put, List.setIfInBounds_toArray, List.set_cons_zero, List.set_cons_succ]
          refine wpAnyH_done (by kernel_rfl) ?_ _
          all_goals
            go_wp2_with fail
            go_roundw
            case rel => exact ⟨k + 1, t ++ [46] ++ (y :: r), by go_num, by first | rfl | (rw [← bytes_add]) | simp [bytes_add], HJ3, (by rw [List.length_append, List.length_append, List.length_singleton, List.length_cons]; omega), by omega, hHeld2.2⟩
            case measure => simp [intOf]; omega
    · have hks : k = l.length := by omega
      subst hks
      have hta : t = a.data.toList := HT.out.trans HA'.out
      have hss : str t = Value.string a := congrArg Value.string (by rw [hta])
      rw [hss]
      have hszb : b.size ≤ maxLen := by unfold maxLen; omega
      have CA := fun W => Lib.hid (by have := may_any a W hsz; rw [hm] at this; exact this)
      have hMa := Lib.hid (mayB_iff.1 hm)
      clear HT hta hss HA' hPN hPM hPL CP
      cases mb : mayB b
      · have CB := fun W => Lib.hid (by have := may_any b W hszb; rw [mb] at this; exact this)
        clear mb hMa
        go_wp2_with (first | (go_at_call_of 10 (Value.string a); refine (CA _).out.mono ?_; rintro e w7 ⟨rfl, b7⟩; replace hbr := hbr.trans (b7.mono hbr.size)) | (go_at_call_of 10 (Value.string b); refine (CB _).out.mono ?_; rintro e w8 ⟨rfl, b8⟩; replace hbr := hbr.trans (b8.mono hbr.size)))
        go_ret
        exact ⟨rfl, hb.trans (hbr.mono hb.size)⟩
      · have CB := fun W => Lib.hid (by have := may_any b W hszb; rw [mb] at this; exact this)
        have hMb := mayB_iff.1 mb
        have HBM := both_may hMa.out hMb
        have HBS := both_size a b
        have hbl2 := splitL_le b 46
        have hbs := hMb.2.1
        have has := hPS.out
        have hszB : (both a b).size ≤ maxLen := by unfold maxLen; omega
        have HBP := hBP.out
        have hl := hlH.out
        have CPb := fun W => Lib.hid (parts_t b W (by omega) mb)
        have hdr : ∀ {P : Prop}, P → P := fun h => h
        by_cases h16 : (both a b).size ≤ 16
        · have hBt : mayB (both a b) = true := by rw [HBM]; exact decide_eq_true h16
          have CPB := fun W => Lib.hid (show Calls Try.prog 15 #[.string (a ++ ⟨#[46]⟩ ++ b)] W _ from by have := parts_t (both a b) W (by omega) hBt; rw [HBP] at this; exact this)
          have CBB := fun W => Lib.hid (show Calls Try.prog 10 #[.string (a ++ ⟨#[46]⟩ ++ b)] W _ from by have := may_any (both a b) W hszB; rw [hBt] at this; exact this)
          have hI : (a.size : Int) + 1 + b.size ≤ 16 := by omega
          have hN : a.size + 1 + b.size ≤ 16 := by omega
          have hJ : (((a ++ ⟨#[46]⟩ ++ b : ByteArray).size : Nat) : Int) ≤ 16 := by have : (a ++ ⟨#[46]⟩ ++ b : ByteArray).size ≤ 16 := h16; omega
          have hK : (a ++ ⟨#[46]⟩ ++ b : ByteArray).size ≤ 16 := h16
          have hwr : IntKind.i64.wrap ((l.length : Int) + ((splitL b 46).length : Int)) = (l.length : Int) + ((splitL b 46).length : Int) := IntWalk.i64_in _ (by omega)
          clear mb hMa hMb HBM HBS hszB hBP HBP hBt h16 hdr
          go_wp2_with (first | (go_at_call_of 10 (Value.string a); refine (CA _).out.mono ?_; rintro e w7 ⟨rfl, b7⟩; replace hbr := hbr.trans (b7.mono hbr.size)) | (go_at_call_of 10 (Value.string b); refine (CB _).out.mono ?_; rintro e w8 ⟨rfl, b8⟩; replace hbr := hbr.trans (b8.mono hbr.size)) | (go_at_call 10; refine (CBB _).out.mono ?_; rintro e w9 ⟨rfl, b9⟩; replace hbr := hbr.trans (b9.mono hbr.size)) | (go_at_call_of 15 (Value.string b); refine (CPb _).out.mono ?_; rintro e w11 ⟨v11, rfl, o11, b11⟩; obtain ⟨A11, c11, rfl, s11, _, _⟩ := o11.form; clear s11 o11; replace hbr := hbr.trans (b11.mono hbr.size)) | (go_at_call 15; refine (CPB _).out.mono ?_; rintro e w10 ⟨v10, rfl, o10, b10⟩; obtain ⟨A10, c10, rfl, s10, _, _⟩ := o10.form; clear s10 o10; replace hbr := hbr.trans (b10.mono hbr.size)))
          go_ret
          exact ⟨rfl, hb.trans (hbr.mono hb.size)⟩
        · have hBf : mayB (both a b) = false := by rw [HBM]; exact decide_eq_false h16
          have CBB := fun W => Lib.hid (show Calls Try.prog 10 #[.string (a ++ ⟨#[46]⟩ ++ b)] W _ from by have := may_any (both a b) W hszB; rw [hBf] at this; exact this)
          have hI : ¬ (a.size : Int) + 1 + b.size ≤ 16 := by omega
          have hN : ¬ a.size + 1 + b.size ≤ 16 := by omega
          clear mb hMa hMb HBM HBS hszB hBP HBP hBf h16 hdr CPb
          go_wp2_with (first | (go_at_call_of 10 (Value.string a); refine (CA _).out.mono ?_; rintro e w7 ⟨rfl, b7⟩; replace hbr := hbr.trans (b7.mono hbr.size)) | (go_at_call_of 10 (Value.string b); refine (CB _).out.mono ?_; rintro e w8 ⟨rfl, b8⟩; replace hbr := hbr.trans (b8.mono hbr.size)) | (go_at_call 10; refine (CBB _).out.mono ?_; rintro e w9 ⟨rfl, b9⟩; replace hbr := hbr.trans (b9.mono hbr.size)))
          go_ret
          exact ⟨rfl, hb.trans (hbr.mono hb.size)⟩

set_option maxHeartbeats 4000000 in
theorem parts_walk_f (a b : ByteArray) (h1 : a.size ≤ 100) (h2 : b.size ≤ 100) (hm : mayB a = false) (w : World) :
    Calls Try.prog 9 #[.string a, .string b] w fun e w' => e = .returned (.bool true) ∧ Below w.heap.size w w' := by
  have hsz : a.size ≤ maxLen := by unfold maxLen; omega
  have CP := fun W => Lib.hid (parts_f a W hsz hm)
  have CA := fun W => Lib.hid (by have := may_any a W hsz; rw [hm] at this; exact this)
  clear hm
  go_enter Try.func9, Try.ntmps9
  go_wp2_with (first | (go_at_call 31; refine (awake_any _).mono ?_; rintro e w0 ⟨rfl, hb⟩) | (go_at_call 15; refine (CP _).out.mono ?_; rintro e w1 ⟨rfl, b1⟩; replace hb := hb.trans (b1.mono hb.size); clear b1) | (go_at_call 10; refine (CA _).out.mono ?_; rintro e w2 ⟨rfl, b2⟩; replace hb := hb.trans (b2.mono hb.size); clear b2))
  go_loopw [6, 7] (fun s i wr => s = .string ⟨#[]⟩ ∧ i = .int .i64 0 ∧ Below w.heap.size w wr) (fun _ _ _ => 0)
  case atStart => exact ⟨rfl, rfl, hb⟩
  case round =>
    obtain ⟨rfl, rfl, hbr⟩ := hrel
    go_wp2_with (first | (go_at_call 10; refine (CA _).out.mono ?_; rintro e w2 ⟨rfl, b2⟩; replace hbr := hbr.trans (b2.mono hbr.size); clear b2))
    go_ret
    exact ⟨rfl, hbr⟩
set_option maxHeartbeats 4000000 in
theorem parts_walk (a b : ByteArray) (ha : a.size ≤ maxLen) (hb : b.size ≤ maxLen) (w : World) :
    Calls Try.prog 9 #[.string a, .string b] w fun e w' => e = .returned (.bool true) ∧ Below w.heap.size w w' := by
  by_cases h1 : a.size ≤ 100
  · by_cases h2 : b.size ≤ 100
    · cases hm : mayB a
      · exact parts_walk_f a b h1 h2 hm w
      · exact parts_walk_t a b h1 h2 hm w
    · have hl1 : (a.size : Int) ≤ 100 := by omega
      have hl2 : (100 : Int) < b.size := by omega
      go_enter Try.func9, Try.ntmps9
      go_wp2_with (first | (go_at_call 31; refine (awake_any _).mono ?_; rintro e w0 ⟨rfl, hb⟩))
      go_ret
      exact ⟨rfl, hb⟩
  · have hl1 : (100 : Int) < a.size := by omega
    go_enter Try.func9, Try.ntmps9
    go_wp2_with (first | (go_at_call 31; refine (awake_any _).mono ?_; rintro e w0 ⟨rfl, hb⟩))
    go_ret
    exact ⟨rfl, hb⟩
end Go.Proofs.Ytnpifjplfipmcaa
