/-
  WALK: the law's awake: the chapter's examples.
-/
import Derived.Test.YtkgjgbenfpkekaaLRep
import Derived.Test.YtkgjgbenfpkekaaJJoin
import Derived.Test.YtkgjgbenfpkekaaJSame
import Derived.Test.YtkgjgbenfpkekaaJSplit
import Derived.Test.YtkgjgbenfpkekaaPTel
namespace Go.Proofs.Ytkgjgbenfpkekaa.JX
open Go.RowKit HL
open IX (ptr El cellsK cellsK_at cellsK_len OwnK RdK Kept wpList_spreadK)
open YX (numB rdU rdB addW told rest u8K RAt u8 vU numB_lo intN)
open PX (RowAt TelB Txt bts_telB nOf Bts rp rpC repB repW report_any putsW)
open DX (Ch chK)
set_option maxRecDepth 100000
set_option linter.unusedVariables false
set_option linter.unusedSimpArgs false

theorem rd_lits {α : Type} {K : El α} (w : World) (l : List α) (C : Array Value) (hC : C.toList = cellsK K l) (T : TypeId) : RdK K (w.alloc (.cells C T)) (w.heap.size + 1) (some ⟨w.heap.size, 0, none⟩) l :=
  .inr ⟨w.heap.size, 0, rfl, by omega, fun m u hu => by rw [World.cell?_alloc_at _ _ _ _ rfl, Nat.zero_add, ← Array.getElem?_toList, hC]; exact hu⟩
abbrev F2 : List Bs := [[5, 6], [7]]
abbrev L2 (w : World) : List Sl3 := [⟨some ⟨w.heap.size, 0, none⟩, 2, 2⟩, ⟨some ⟨w.heap.size + 1, 0, none⟩, 1, 1⟩]
abbrev W2 (w : World) : World := ((w.alloc (.cells #[.int .u8 5, .int .u8 6] 5)).alloc (.cells #[.int .u8 7] 5)).alloc (.cells #[.slice (some ⟨w.heap.size, 0, none⟩) 2 2, .slice (some ⟨w.heap.size + 1, 0, none⟩) 1 1] 26)
theorem fr_lit (w : World) : RdK slK (W2 w) (W2 w).heap.size (some ⟨w.heap.size + 1 + 1, 0, none⟩) (L2 w) ∧ Frs (W2 w) (W2 w).heap.size (L2 w) F2 ∧ Below w.heap.size w (W2 w) := by
  have b1 := bAl (Below.refl w.heap.size w) (.cells #[.int .u8 5, .int .u8 6] 5)
  have b2 := bAl b1 (.cells #[.int .u8 7] 5)
  have b3 := bAl b2 (.cells #[.slice (some ⟨w.heap.size, 0, none⟩) 2 2, .slice (some ⟨w.heap.size + 1, 0, none⟩) 1 1] 26)
  have r1 := rd_lits (K := u8K) w [5, 6] #[.int .u8 5, .int .u8 6] rfl 5
  have r2 := rd_lits (K := u8K) (w.alloc (.cells #[.int .u8 5, .int .u8 6] 5)) [7] #[.int .u8 7] rfl 5
  have r3 := rd_lits (K := slK) ((w.alloc (.cells #[.int .u8 5, .int .u8 6] 5)).alloc (.cells #[.int .u8 7] 5)) (L2 w) #[.slice (some ⟨w.heap.size, 0, none⟩) 2 2, .slice (some ⟨w.heap.size + 1, 0, none⟩) 1 1] rfl 26
  have s1 : (w.alloc (.cells #[.int .u8 5, .int .u8 6] 5)).heap.size = w.heap.size + 1 := by simp
  have s2 : ((w.alloc (.cells #[.int .u8 5, .int .u8 6] 5)).alloc (.cells #[.int .u8 7] 5)).heap.size = w.heap.size + 1 + 1 := by simp
  have s3 : (W2 w).heap.size = w.heap.size + 1 + 1 + 1 := by simp
  rw [s2] at r3
  have e1 : RdK u8K (W2 w) (W2 w).heap.size (some ⟨w.heap.size, 0, none⟩) [5, 6] := by
    have q1 := r1.below (w' := (w.alloc (.cells #[.int .u8 5, .int .u8 6] 5)).alloc (.cells #[.int .u8 7] 5)) (by have := bAl (Below.refl (w.alloc (.cells #[.int .u8 5, .int .u8 6] 5)).heap.size (w.alloc (.cells #[.int .u8 5, .int .u8 6] 5))) (.cells #[.int .u8 7] 5); rwa [s1] at this)
    have q2 := (q1.more (B' := w.heap.size + 1 + 1) (by omega)).below (w' := W2 w) (by have := bAl (Below.refl ((w.alloc (.cells #[.int .u8 5, .int .u8 6] 5)).alloc (.cells #[.int .u8 7] 5)).heap.size ((w.alloc (.cells #[.int .u8 5, .int .u8 6] 5)).alloc (.cells #[.int .u8 7] 5))) (.cells #[.slice (some ⟨w.heap.size, 0, none⟩) 2 2, .slice (some ⟨w.heap.size + 1, 0, none⟩) 1 1] 26); rwa [s2] at this)
    exact q2.more (by omega)
  have e2 : RdK u8K (W2 w) (W2 w).heap.size (some ⟨w.heap.size + 1, 0, none⟩) [7] := by
    rw [s1] at r2
    have q2 := r2.below (w' := W2 w) (by have := bAl (Below.refl ((w.alloc (.cells #[.int .u8 5, .int .u8 6] 5)).alloc (.cells #[.int .u8 7] 5)).heap.size ((w.alloc (.cells #[.int .u8 5, .int .u8 6] 5)).alloc (.cells #[.int .u8 7] 5))) (.cells #[.slice (some ⟨w.heap.size, 0, none⟩) 2 2, .slice (some ⟨w.heap.size + 1, 0, none⟩) 1 1] 26); rwa [s2] at this)
    exact q2.more (by omega)
  refine ⟨r3.more (by omega), ?_, b3⟩
  exact (((Frs.nil (W2 w) (W2 w).heap.size).snoc (x := ⟨some ⟨w.heap.size, 0, none⟩, 2, 2⟩) (f := [5, 6]) rfl e1 (Nat.le_refl 2)).snoc (x := ⟨some ⟨w.heap.size + 1, 0, none⟩, 1, 1⟩) (f := [7]) rfl e2 (Nat.le_refl 1))
theorem join2 : joinB F2 = [2, 5, 6, 1, 7] := by simp [joinB, numB_lo]
theorem joinF2 : joinF F2 = some [2, 5, 6, 1, 7] := by
  have h : okF F2 = true := by decide
  rw [joinF_ok h, join2]; rfl
theorem splitF2 : splitF [2, 5, 6, 1, 7] = some F2 := by
  have h : okF F2 = true := by decide
  have := split_join h
  rw [join2] at this
  unfold splitF
  rw [if_neg (by decide)]; exact this
theorem rdU0 : rdU [0] = some (0, []) := by
  have := YX.rdU_num (n := 0) (by decide) []
  simpa [numB_lo] using this
theorem splitF0 : splitF [0] = none := by
  unfold splitF
  rw [if_neg (by decide)]
  exact splitL_no (by simp) (by unfold cutF; rw [rdU0]; simp)
theorem joinF0 : joinF [] = some [] := by rfl
theorem rep3 : repB 3 [] false = some [114, 6, 0, 0] := by
  simp [repB, repW, putsW, addW, intN, numB_lo]
set_option maxHeartbeats 8000000 in
theorem awake14_any (w : World) : Calls Try.prog 29 #[] w fun e w' => e = .returned (.bool true) ∧ Below w.heap.size w w' := by
  have CR : Hid (∀ W, Calls Try.prog 58 #[.agg #[.int .i64 3, .slice none 0 0, .bool false]] W (TelB W 0 [114, 6, 0, 0])) := Lib.hid (fun W => by
    have := (report_any 3 none 0 [] false W (by decide) (.inl rfl) (fun x hx => by cases hx) (by decide)).mono fun _ _ => bts_telB
    rw [rep3] at this
    exact this)
  have CJ : Hid (∀ W A L c, RdK slK W W.heap.size A L → Frs W W.heap.size L F2 → Calls Try.prog 24 #[.slice A 2 c] W (TelB W 0 [2, 5, 6, 1, 7])) := Lib.hid (fun W A L c h f => by
    have := (join_any A c L F2 W h f (by decide)).mono fun _ _ => bts_telB
    rw [joinF2] at this
    exact this)
  have CJ0 : Hid (∀ W, Calls Try.prog 24 #[.slice none 0 0] W fun e w' => ∃ A c, e = .returned (.tuple #[.slice A 0 c, .int .i64 0]) ∧ Below W.heap.size W w') := Lib.hid (fun W => by
    have := join_any none 0 [] [] W (.inl rfl) (Frs.nil _ _) (by decide)
    rw [joinF0] at this
    exact this.mono fun e w' ⟨v, n, he, hb, k⟩ => by
      cases hb with
      | yes' v l hr => obtain ⟨A, c, rfl, _⟩ := hr; exact ⟨A, c, he, k⟩)
  have CS1 : Hid (∀ W A c, RdK u8K W W.heap.size A [2, 5, 6, 1, 7] → (A = none → c = 0) → Calls Try.prog 26 #[.slice A 5 c] W fun e w' => ∃ A' c' L, e = .returned (.tuple #[.slice A' 2 c', .int .i64 0]) ∧ RdK slK w' w'.heap.size A' L ∧ Frs w' w'.heap.size L F2 ∧ Below W.heap.size W w') := Lib.hid (fun W A c h h0 => by
    have := split_any A c [2, 5, 6, 1, 7] W h (by decide) h0
    rw [splitF2] at this
    exact this.mono fun e w' ⟨v, L, he, o, f, k⟩ => by
      obtain ⟨A', c', rfl, r, _⟩ := o.form
      have hl : L.length = 2 := f.1
      rw [hl] at he
      exact ⟨A', c', L, he, r, f.frs, k⟩)
  have CS2 : Hid (∀ W A c, RdK u8K W W.heap.size A [0] → (A = none → c = 0) → Calls Try.prog 26 #[.slice A 1 c] W fun e w' => e = .returned (.tuple #[.slice none 0 0, .int .i64 120]) ∧ Below W.heap.size W w') := Lib.hid (fun W A c h h0 => by
    have := split_any A c [0] W h (by decide) h0
    rw [splitF0] at this
    exact this)
  have CM := Lib.hid (fun W A1 A2 c1 c2 L1 L3 (h1 : RdK slK W W.heap.size A1 L1) (f1 : Frs W W.heap.size L1 F2) (h2 : RdK slK W W.heap.size A2 L3) (f2 : Frs W W.heap.size L3 F2) => sameF_yes A1 A2 c1 c2 2 L1 L3 F2 W h1 f1 h2 f2 rfl (by decide))
  have hz : ∀ W : World, True := fun _ => trivial
  go_enter Try.func29, Try.ntmps29
  go_upto_region 6 with (first
    | (go_at_call 58; ((with_reducible refine (CR.out _).mono ?_); rintro e w1 ⟨v1, rfl, t1, k1⟩; have T1 := Lib.hid t1; have K1 := Lib.hid k1; clear t1 k1))
    | (go_at_call 24; first
      | ((with_reducible refine (CJ.out _ (some ⟨w1.heap.size + 1 + 1, 0, none⟩) (L2 w1) 2 (fr_lit w1).1 (fr_lit w1).2.1).mono ?_); rintro e w2 ⟨v2, rfl, t2, k2⟩; have b2 := bThen (fr_lit w1).2.2 k2; have T1b := Lib.hid (T1.out.below b2); have T2 := Lib.hid t2; have K2 := Lib.hid (bThen K1.out b2); clear t2 k2 b2)
      | ((with_reducible refine (CJ0.out _).mono ?_); rintro e w5 ⟨A5, c5, rfl, k5⟩; have K5 := Lib.hid (bThen K4.out k5); have K35 := Lib.hid (bThen K34.out k5); clear k5))
    | (go_at_call 26; first
      | ((with_reducible refine (CS1.out _ _ _ ((rd_lits (K := u8K) w2 [2, 5, 6, 1, 7] #[.int .u8 2, .int .u8 5, .int .u8 6, .int .u8 1, .int .u8 7] rfl 5).more (by simp)) (fun q => by cases q)).mono ?_); rintro e w3 ⟨A3, c3, L3, rfl, r3, f3, k3⟩; have R3 := Lib.hid r3; have F3 := Lib.hid f3; have b3 := bThen (bAl (Below.refl w2.heap.size w2) (.cells #[.int .u8 2, .int .u8 5, .int .u8 6, .int .u8 1, .int .u8 7] 5)) k3; have B23 := Lib.hid b3; have K3 := Lib.hid (bThen K2.out b3); clear r3 f3 k3 b3)
      | ((with_reducible refine (CS2.out _ _ _ ((rd_lits (K := u8K) w3 [0] #[.int .u8 0] rfl 5).more (by simp)) (fun q => by cases q)).mono ?_); rintro e w4 ⟨rfl, k4⟩; have b4 := bThen (bAl (Below.refl w3.heap.size w3) (.cells #[.int .u8 0] 5)) k4; have K34 := Lib.hid b4; have K4 := Lib.hid (bThen K3.out b4); clear k4 b4)))
  have cv1 : (convert 26 9 v1).run Try.prog w5 = .ok (str [114, 6, 0, 0]) w5 := T1b.out _ (bThen B23.out K35.out)
  have cv2 : (convert 26 9 v2).run Try.prog w5 = .ok (str [2, 5, 6, 1, 7]) w5 := T2.out _ (bThen B23.out K35.out)
  have b35 := Lib.hid (bThen K35.out (fr_lit w5).2.2)
  have CM5 := Lib.hid (CM.out _ A3 (some ⟨w5.heap.size + 1 + 1, 0, none⟩) c3 2 L3 (L2 w5) ((R3.out.below b35.out).more b35.out.size) ((F3.out.below b35.out).more b35.out.size) (fr_lit w5).1 (fr_lit w5).2.1)
  clear CR CJ CJ0 CS1 CS2 CM
  go_wp2_with (go_at_call 28; ((with_reducible refine CM5.out.mono ?_); rintro e w6 ⟨rfl, k6⟩; have K6 := Lib.hid (bThen K5.out (bThen (fr_lit w5).2.2 k6)); clear k6))
  go_ret
  exact ⟨by first | rfl | simp, K6.out⟩
end Go.Proofs.Ytkgjgbenfpkekaa.JX
