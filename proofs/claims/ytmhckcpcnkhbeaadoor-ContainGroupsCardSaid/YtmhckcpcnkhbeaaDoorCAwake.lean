/-
  WALK: the laws' awake: the chapter's examples.
-/
import Derived.Test.YtmhckcpcnkhbeaaDoorCLevels
import Derived.Test.YtmhckcpcnkhbeaaDoorCSame
import Derived.Test.YtmhckcpcnkhbeaaDoorCCount2
import Derived.Test.YtmhckcpcnkhbeaaDoorCKeep
import Derived.Test.YtmhckcpcnkhbeaaDoorCTwoLaw
namespace Go.Proofs.YtmhckcpcnkhbeaaDoor
open Go.RowKit
set_option maxRecDepth 100000
set_option linter.unusedVariables false
set_option linter.unusedSimpArgs false

def lst (n : Nat) : List Nat := (List.range n).map fun i => 6 + i % 3
theorem lst_succ (n : Nat) : lst (n + 1) = lst n ++ [6 + n % 3] := by unfold lst; rw [List.range_succ, List.map_append]; rfl
theorem lst_len (n : Nat) : (lst n).length = n := by simp [lst]
theorem lst_le (n : Nat) : ∀ x ∈ lst n, x ≤ 255 := by
  intro x hx
  obtain ⟨i, _, rfl⟩ := List.mem_map.1 hx
  omega
theorem lit_rd (w : World) (cs : List Nat) : RdU (w.alloc (.cells (cs.map u8).toArray 5)) (w.alloc (.cells (cs.map u8).toArray 5)).heap.size (some ⟨w.heap.size, 0, none⟩) cs :=
  .inr ⟨w.heap.size, 0, rfl, by simp, fun j x hx => by rw [World.cell?_alloc_at _ _ _ _ rfl]; simp [hx]⟩
theorem wpList_oneV {ops : Array Oper} {rest : List Oper} {o : Oper} {a : Act} {Q : Exit → Act → World → Prop} (w : World) (hgd : o.guard = none) (s x : Operand)
    (ho : o.op = .call { callee := .builtin .append, args := #[s, x], argTypes := #[22, 22] }) (base : Nat) (v : Value) (l : List Nat) (hs : a.eval s = v) (hown : OwnU w base v l)
    (n : Nat) (hx : a.eval x = .slice (some ⟨w.heap.size, 0, none⟩) 1 1) (hl : l.length ≤ 1000000) (hbase : base ≤ w.heap.size) (y : Value) (hy : u8 n = y)
    (h : ∀ v' w', OwnU w' base v' (l ++ [n]) → Below base w w' → wpList Tryd.prog ops Q rest (a.put o.dst v') w') : wpList Tryd.prog ops Q (o :: rest) a (w.alloc (.cells #[y] 5)) := by
  subst hy; exact wpList_one w hgd s x ho base v l hs hown n hx hl hbase h
theorem count16 : countE (lst 16) = 0 := by decide +kernel
theorem count17 : countE (lst 16 ++ [8]) = 51 := by decide +kernel
theorem room16 : roomE 7 (lst 16) = 51 := by decide +kernel
set_option maxHeartbeats 4000000 in
theorem awake_any (w : World) (hw : Tables w) : Calls Tryd.prog 33 #[] w fun e w' => e = .returned (.bool true) ∧ Below w.heap.size w w' := by
  have hb : Below w.heap.size w w := Below.refl _ _
  have CL : Hid (Calls Tryd.prog 16 #[.int .u8 5] w fun e w' => e = .returned (.tuple #[.int .i64 2, .int .i64 3]) ∧ Below w.heap.size w w') := Lib.hid (levels_any 5 w (by omega) hw)
  have CK : Hid (∀ W, Below w.heap.size w W → Calls Tryd.prog 11 #[.int .u8 3] W fun e w' => ∃ v, e = .returned v ∧ OwnU w' W.heap.size v [4] ∧ Below W.heap.size W w') := Lib.hid (fun W q => kids_any 3 W (by omega) (hw.then q))
  have CP : Hid (∀ W, Below w.heap.size w W → Calls Tryd.prog 10 #[.int .u8 5] W fun e w' => ∃ v, e = .returned v ∧ OwnU w' W.heap.size v [1, 2] ∧ Below W.heap.size W w') := Lib.hid (fun W q => parents_any 5 W (by omega) (hw.then q))
  have HW := Lib.hid hw
  clear hw
  go_enter Tryd.func33, Tryd.ntmps33
  go_wp2_with (go_at_call 16; ((with_reducible refine CL.out.mono ?_); rintro e w1 ⟨rfl, k1⟩; replace hb := bThen hb k1))
  go_loopw [3, 4] (fun v i wr => ∃ n : Nat, n ≤ 16 ∧ i = .int .i64 n ∧ OwnU wr w.heap.size v (lst n) ∧ Below w.heap.size w wr) (fun _ i _ => 16 - (intOf i).toNat)
  case atStart => exact ⟨0, by omega, rfl, OwnU.nil_ _ _, hb⟩
  case round =>
    obtain ⟨n, hn, rfl, hown, hbr⟩ := hrel
    have HO := Lib.hid hown
    clear hown hb k1
    by_cases hlt : n < 16
    · have i1 : (n : Int) < 16 := by omega
      have HL := Lib.hid (lst_len n)
      have HS := Lib.hid (lst_succ n)
      have HY : Hid (u8 (6 + n % 3) = .int .u8 (6 + (n : Int) % 3)) := Lib.hid (by unfold u8; congr 1)
      go_wp2_with (at_builtin; refine wpList_oneV wr rfl (.tmp 13) (.tmp 18) rfl w.heap.size u3 (lst n) rfl HO.out (6 + n % 3) rfl ?c1 hbr.size _ HY.out ?_)
      case c1 => have := HL.out; omega
      intro v' w3 o3 k3
      have HO3 := Lib.hid o3
      clear o3
      go_wp2
      go_roundw
      case rel => exact ⟨n + 1, by omega, by go_num, by rw [HS.out]; exact HO3.out, hbr.trans k3⟩
      case measure => simp [intOf]; omega
    · have e : n = 16 := by omega
      subst e
      have HE := Lib.hid (lst_len 16)
      have HX := Lib.hid (lst_le 16)
      have H0 := Lib.hid count16
      have H1 := Lib.hid count17
      have H2 := Lib.hid room16
      have HX2 : Hid (∀ x ∈ lst 16 ++ [8], x ≤ 255) := Lib.hid (by
        intro x hx
        rcases List.mem_append.1 hx with h | h
        · exact lst_le 16 x h
        · simp at h; omega)
      generalize lst 16 = L at *
      clear CL
      obtain ⟨A, c, rfl, rd, _, _⟩ := HO.out.form
      rw [HE.out] at HO ⊢
      have RD := Lib.hid rd
      clear rd
      go_wp2_with fail
      go_at_call 11
      with_reducible refine (CK.out _ hbr).mono ?_
      rintro e w2 ⟨v2, rfl, o2, k2⟩
      have hb2 := bThen hbr k2
      obtain ⟨A2, c2, e2, r2, _, _⟩ := o2.form
      have R2 : Hid (Calls Tryd.prog 12 #[.slice A2 1 c2, .slice (some ⟨w2.heap.size, 0, none⟩) 1 1] (w2.alloc (.cells #[.int .u8 4] 5)) fun e w' => e = .returned (.bool true) ∧ w2.alloc (.cells #[.int .u8 4] 5) = w') :=
        Lib.hid (same_self (a := [4]) c2 1 (w2.alloc (.cells #[.int .u8 4] 5)) (r2.below (bAl (Below.refl _ _) _)) (lit_rd w2 [4]) (by simp))
      have e2' : v2 = .slice A2 1 c2 := e2
      clear o2 r2 e2
      subst e2'
      go_wp2_with (go_at_call 12; ((with_reducible refine R2.out.mono ?_); rintro e w3 ⟨rfl, rfl⟩))
      go_at_call 10
      with_reducible refine (CP.out _ (bAl hb2 _)).mono ?_
      rintro e w4 ⟨v4, rfl, o4, k4⟩
      have hb4 := bThen (bAl hb2 _) k4
      obtain ⟨A4, c4, e4, r4, _, _⟩ := o4.form
      have R4 : Hid (Calls Tryd.prog 12 #[.slice A4 2 c4, .slice (some ⟨w4.heap.size, 0, none⟩) 2 2] (w4.alloc (.cells #[.int .u8 1, .int .u8 2] 5)) fun e w' => e = .returned (.bool true) ∧ w4.alloc (.cells #[.int .u8 1, .int .u8 2] 5) = w') :=
        Lib.hid (same_self (a := [1, 2]) c4 2 (w4.alloc (.cells #[.int .u8 1, .int .u8 2] 5)) (r4.below (bAl (Below.refl _ _) _)) (lit_rd w4 [1, 2]) (by simp))
      have e4' : v4 = .slice A4 2 c4 := e4
      clear o4 r4 e4
      subst e4'
      have hb5 := bAl hb4 (.cells #[.int .u8 1, .int .u8 2] 5)
      have kk := bAl (bThen (bAl k2 (.cells #[.int .u8 4] 5)) k4) (.cells #[.int .u8 1, .int .u8 2] 5)
      have C5 := count_any L c wr.heap.size _ (RD.out.below kk) kk.size HX.out (by rw [HE.out]; omega) (HW.out.then hb5)
      rw [H0.out, HE.out] at C5
      have HC5 : Hid (Calls Tryd.prog 26 #[.slice A 16 c] (w4.alloc (.cells #[.int .u8 1, .int .u8 2] 5)) fun e w' => e = .returned (.int .i64 0) ∧ Below (w4.alloc (.cells #[.int .u8 1, .int .u8 2] 5)).heap.size (w4.alloc (.cells #[.int .u8 1, .int .u8 2] 5)) w') := Lib.hid C5
      clear C5
      go_wp2_with (go_at_call 12; ((with_reducible refine R4.out.mono ?_); rintro e w5 ⟨rfl, rfl⟩))
      go_at_call 26
      with_reducible refine HC5.out.mono ?_
      rintro e w6 ⟨rfl, k6⟩
      have hb6 := bThen hb5 k6
      obtain ⟨v7, w7, hrun, o7, o6, k7⟩ := run_keep w6 22 (HO.out.below (bThen kk k6)) 8 (by rw [HE.out]; omega) hb6.size
      obtain ⟨A7, c7, e7, r7, _, _⟩ := o7.form
      have hl7 : (L ++ [8]).length = 17 := by rw [List.length_append, HE.out]; rfl
      have e7' : v7 = .slice A7 17 c7 := by rw [e7, hl7]
      have hb7 : Below w.heap.size w w7 := hb6.trans (k7.mono (Nat.le_refl _))
      have C7 := count_any (L ++ [8]) c7 w7.heap.size w7 r7 (Nat.le_refl _) HX2.out (by rw [hl7]; omega) (HW.out.then hb7)
      rw [H1.out, hl7] at C7
      have HC7 : Hid (Calls Tryd.prog 26 #[.slice A7 17 c7] w7 fun e w' => e = .returned (.int .i64 51) ∧ Below w7.heap.size w7 w') := Lib.hid C7
      obtain ⟨A8, c8, e8, r8, _, _⟩ := o6.form
      rw [HE.out] at e8
      obtain ⟨rfl, _, rfl⟩ := Value.slice.inj e8
      have HC8 : Hid (∀ W, Below w7.heap.size w7 W → Calls Tryd.prog 28 #[.int .u8 7, .slice A 16 c] W fun e w' => e = .returned (.int .i64 51) ∧ Below W.heap.size W w') := Lib.hid (fun W q => by
        have C8 := room_any 7 L c w7.heap.size W (by omega) (r8.below q) q.size HX.out (by rw [HE.out]; omega) (HW.out.then (bThen hb7 q))
        rw [H2.out, HE.out] at C8
        exact C8)
      have hrun' : (Builtin.append_ #[22, 22] 22 #[.slice A 16 c, .slice (some ⟨w6.heap.size, 0, none⟩) 1 1]).run Tryd.prog (w6.alloc (.cells #[.int .u8 8] 5)) = .ok (.slice A7 17 c7) w7 := by rw [← e7']; exact hrun
      have HRUN := Lib.hid hrun'
      clear hrun hrun' C7 o7 o6 e7 e7' hl7 r7 r8 e8 k7
      go_wp2_with (first
        | (at_builtin; refine wpList_run (by rfl) (.tmp 42) (.tmp 43) rfl _ _ _ _ rfl rfl HRUN.out ?_)
        | (go_at_call 26; ((with_reducible refine HC7.out.mono ?_); rintro e w8 ⟨rfl, k8⟩; replace hb7 := bThen hb7 k8))
        | (go_at_call 28; ((with_reducible refine (HC8.out _ k8).mono ?_); rintro e w9 ⟨rfl, k9⟩; replace hb7 := bThen hb7 k9)))
      go_ret
      exact ⟨rfl, hb7⟩
end Go.Proofs.YtmhckcpcnkhbeaaDoor
