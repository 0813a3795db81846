/-
  WALKS: kindsThat, Parents, Kids; the document's Parents, Kids.
-/
import Derived.Test.YtmhckcpcnkhbeaaDoorCKit
import Derived.Test.YtmhckcpcnkhbeaaDoorCRow
import Derived.Test.YtmhckcpcnkhbeaaDoorCRef
import Derived.Shelf.Abstract
namespace Go.Proofs.YtmhckcpcnkhbeaaDoor
open Go.RowKit
set_option maxRecDepth 100000
set_option linter.unusedVariables false
set_option linter.unusedSimpArgs false

theorem fil_t {p : Nat → Bool} {n : Nat} (h : kdB n = true) (hp : p n = true) : fil p (n + 1) = fil p n ++ [n] := by rw [fil_succ, h, hp]; rfl
theorem fil_f {p : Nat → Bool} {n : Nat} (h : kdB n = true) (hp : p n = false) : fil p (n + 1) = fil p n := by rw [fil_succ, h, hp]; simp
theorem fil_n {p : Nat → Bool} {n : Nat} (h : kdB n = false) : fil p (n + 1) = fil p n := by rw [fil_succ, h]; simp
set_option maxHeartbeats 2000000 in
theorem kinds_any (f : Nat) (p : Nat → Bool) (B : Nat) (w : World) (hw : Tables w) (hent : ∀ (args : Array Value) (w : World), (callFunc f args).run Tryd.prog w = .ok (.enter f args) w)
    (HC : ∀ W, Below w.heap.size w W → ∀ k : Nat, 1 ≤ k → k ≤ 9 → Calls Tryd.prog f #[.int .u8 k, .pointer (some ⟨B, 0, none⟩)] W fun e W' => e = .returned (.bool (p k)) ∧ Below W.heap.size W W') :
    Calls Tryd.prog 35 #[.func (.func f) #[] #[.pointer (some ⟨B, 0, none⟩)]] w fun e w' => ∃ v, e = .returned v ∧ OwnU w' w.heap.size v (fil p 10) ∧ Below w.heap.size w w' := by
  have HCH := Lib.hid HC
  have HE := Lib.hid (fun W (q : Below w.heap.size w W) (k : Nat) hk => exists_any k W hk (hw.then q))
  clear HC hw
  go_enter Tryd.func35, Tryd.ntmps35
  go_wp2
  go_loopw [3, 5] (fun v i wr => ∃ n : Nat, n ≤ 10 ∧ i = .int .u8 n ∧ OwnU wr w.heap.size v (fil p n) ∧ Below w.heap.size w wr) (fun _ i _ => 10 - (intOf i).toNat)
  case atStart => exact ⟨0, by omega, rfl, OwnU.nil_ _ _, Below.refl _ _⟩
  case round =>
    obtain ⟨n, hn, rfl, hown, hb⟩ := hrel
    have HO := Lib.hid hown
    clear hown
    by_cases hlt : n < 10
    · have i1 : (n : Int) < 10 := by omega
      have CE := Lib.hid (HE.out wr hb n (by omega))
      cases hk : kdB n with
      | false =>
        rw [hk] at CE
        have HF := Lib.hid (fil_n (p := p) hk)
        clear hk
        go_wp2_with (go_at_call 38; ((with_reducible refine CE.out.mono ?_); rintro e w1 ⟨rfl, rfl⟩))
        go_roundw
        case rel => exact ⟨n + 1, by omega, by go_num, by rw [HF.out]; exact HO.out, hb⟩
        case measure => simp [intOf]; omega
      | true =>
        rw [hk] at CE
        have h19 := kdB_iff.1 hk
        have CF := Lib.hid (HCH.out wr hb n h19.1 h19.2)
        cases hp : p n with
        | false =>
          rw [hp] at CF
          have HF := Lib.hid (fil_f hk hp)
          clear hk hp
          go_wp2_with (first
            | (go_at_call 38; ((with_reducible refine CE.out.mono ?_); rintro e w1 ⟨rfl, rfl⟩))
            | ((with_reducible refine CF.out.mono ?_); rintro e w2 ⟨rfl, k2⟩))
          go_roundw
          case rel => exact ⟨n + 1, by omega, by go_num, by rw [HF.out]; exact HO.out.below k2, bThen hb k2⟩
          case measure => simp [intOf]; omega
        | true =>
          rw [hp] at CF
          have HF := Lib.hid (fil_t hk hp)
          have HL := Lib.hid (fil_len p n)
          clear hk hp
          go_wp2_with (first
            | (go_at_call 38; ((with_reducible refine CE.out.mono ?_); rintro e w1 ⟨rfl, rfl⟩))
            | ((with_reducible refine CF.out.mono ?_); rintro e w2 ⟨rfl, k2⟩)
            | (at_builtin; refine wpList_one w2 rfl (.tmp 15) (.tmp 17) rfl w.heap.size u3 (fil p n) rfl (HO.out.below k2) n rfl ?c1 (bThen hb k2).size ?_))
          case c1 => have := HL.out; omega
          intro v' w3 o3 k3
          have HO3 := Lib.hid o3
          clear o3
          go_wp2
          go_roundw
          case rel => exact ⟨n + 1, by omega, by go_num, by rw [HF.out]; exact HO3.out, (bThen hb k2).trans k3⟩
          case measure => simp [intOf]; omega
    · have e : n = 10 := by omega
      subst e
      go_wp2
      go_ret
      exact ⟨_, rfl, HO.out, hb⟩
theorem parents1_any (k p B : Nat) (w : World) (hk : k ≤ 255) (hp : p ≤ 255) (hw : Tables w) (hc : w.cell? ⟨B, 0, none⟩ = some (u8 k)) :
    Calls Tryd.prog 36 #[.int .u8 p, .pointer (some ⟨B, 0, none⟩)] w fun e w' => e = .returned (.bool (underB k p)) ∧ Below w.heap.size w w' := by
  have C := Lib.hid (under_any k p w hk hp hw)
  clear hw
  go_enter Tryd.func36, Tryd.ntmps36
  go_wp2_with (go_at_call 18; ((with_reducible refine C.out.mono ?_); rintro e w1 ⟨rfl, k1⟩))
  go_ret
  exact ⟨rfl, k1⟩
theorem kids1_any (k p B : Nat) (w : World) (hk : k ≤ 255) (hp : p ≤ 255) (hw : Tables w) (hc : w.cell? ⟨B, 0, none⟩ = some (u8 k)) :
    Calls Tryd.prog 37 #[.int .u8 p, .pointer (some ⟨B, 0, none⟩)] w fun e w' => e = .returned (.bool (kdB k && underB p k)) ∧ Below w.heap.size w w' := by
  have C := Lib.hid (under_any p k w hp hk hw)
  have CE := Lib.hid (exists_any k w hk hw)
  clear hw
  cases h : kdB k with
  | false =>
    rw [h] at CE
    clear h
    go_enter Tryd.func37, Tryd.ntmps37
    go_wp2_with (go_at_call 38; ((with_reducible refine CE.out.mono ?_); rintro e w1 ⟨rfl, rfl⟩))
    go_ret
    exact ⟨by simp, Below.refl _ _⟩
  | true =>
    rw [h] at CE
    clear h
    go_enter Tryd.func37, Tryd.ntmps37
    go_wp2_with (first | (go_at_call 38; ((with_reducible refine CE.out.mono ?_); rintro e w1 ⟨rfl, rfl⟩)) | (go_at_call 18; ((with_reducible refine C.out.mono ?_); rintro e w1 ⟨rfl, k1⟩)))
    go_ret
    exact ⟨by simp, k1⟩
theorem parents_any (k : Nat) (w : World) (hk : k ≤ 255) (hw : Tables w) : Calls Tryd.prog 10 #[.int .u8 k] w fun e w' => ∃ v, e = .returned v ∧ OwnU w' w.heap.size v (parentsL k) ∧ Below w.heap.size w w' := by
  have hb := bAl (Below.refl w.heap.size w) (.cells #[u8 k] 5)
  have h0 : (w.alloc (.cells #[u8 k] 5)).cell? ⟨w.heap.size, 0, none⟩ = some (u8 k) := World.cell?_alloc_at _ _ _ _ rfl
  have C := kinds_any 36 (fun p => underB k p) w.heap.size (w.alloc (.cells #[u8 k] 5)) (hw.al _) (enters_of Tryd.func36 (by kernel_rfl) rfl)
    (fun W q p h1 h2 => parents1_any k p _ W hk (by omega) ((hw.al _).then q) (by rw [q.cell (by simp)]; exact h0))
  rw [fil_parents] at C
  have HC := Lib.hid C
  clear C h0
  go_enter Tryd.func10, Tryd.ntmps10
  go_wp2_with (go_at_call 35; ((with_reducible refine HC.out.mono ?_); rintro e w1 ⟨v, rfl, o1, k1⟩; have HO := Lib.hid o1; clear o1))
  go_ret
  exact ⟨_, rfl, HO.out.base (by simp), bThen hb k1⟩
theorem kids_any (k : Nat) (w : World) (hk : k ≤ 255) (hw : Tables w) : Calls Tryd.prog 11 #[.int .u8 k] w fun e w' => ∃ v, e = .returned v ∧ OwnU w' w.heap.size v (kidsL k) ∧ Below w.heap.size w w' := by
  have hb := bAl (Below.refl w.heap.size w) (.cells #[u8 k] 5)
  have h0 : (w.alloc (.cells #[u8 k] 5)).cell? ⟨w.heap.size, 0, none⟩ = some (u8 k) := World.cell?_alloc_at _ _ _ _ rfl
  have C := kinds_any 37 (fun p => kdB k && underB p k) w.heap.size (w.alloc (.cells #[u8 k] 5)) (hw.al _) (enters_of Tryd.func37 (by kernel_rfl) rfl)
    (fun W q p h1 h2 => kids1_any k p _ W hk (by omega) ((hw.al _).then q) (by rw [q.cell (by simp)]; exact h0))
  rw [fil_kids] at C
  have HC := Lib.hid C
  clear C h0
  go_enter Tryd.func11, Tryd.ntmps11
  go_wp2_with (go_at_call 35; ((with_reducible refine HC.out.mono ?_); rintro e w1 ⟨v, rfl, o1, k1⟩; have HO := Lib.hid o1; clear o1))
  go_ret
  exact ⟨_, rfl, HO.out.base (by simp), bThen hb k1⟩
set_option maxHeartbeats 2000000 in
theorem refParents_any (k : Nat) (w : World) : Calls Tryd.prog 13 #[.int .u8 k] w fun e w' => ∃ v, e = .returned v ∧ OwnU w' w.heap.size v (parentsL k) ∧ Below w.heap.size w w' := by
  have HCH := fun p W => Lib.hid (refUnder_any k p W)
  have HZ := Lib.hid (fil_parents k)
  have h1 : fil (fun p => underB k p) 1 = [] := rfl
  go_enter Tryd.func13, Tryd.ntmps13
  go_wp2
  go_loopw [3, 4] (fun v i wr => ∃ n : Nat, 1 ≤ n ∧ n ≤ 10 ∧ i = .int .u8 n ∧ OwnU wr w.heap.size v (fil (fun p => underB k p) n) ∧ Below w.heap.size w wr) (fun _ i _ => 10 - (intOf i).toNat)
  case atStart => exact ⟨1, by omega, by omega, rfl, by rw [h1]; exact OwnU.nil_ _ _, Below.refl _ _⟩
  case round =>
    obtain ⟨n, hn1, hn, rfl, hown, hb⟩ := hrel
    have HO := Lib.hid hown
    clear hown h1
    by_cases hlt : n < 10
    · have i1 : (n : Int) < 10 := by omega
      have hk : kdB n = true := kdB_t hn1 (by omega)
      have C := Lib.hid (HCH n wr).out
      cases hp : underB k n with
      | false =>
        rw [hp] at C
        have HF := Lib.hid (fil_f (p := fun p => underB k p) hk hp)
        clear hk hp
        go_wp2_with (go_at_call 19; ((with_reducible refine C.out.mono ?_); rintro e w1 ⟨rfl, rfl⟩))
        go_roundw
        case rel => exact ⟨n + 1, by omega, by omega, by go_num, by rw [HF.out]; exact HO.out, hb⟩
        case measure => simp [intOf]; omega
      | true =>
        rw [hp] at C
        have HF := Lib.hid (fil_t (p := fun p => underB k p) hk hp)
        have HL := Lib.hid (fil_len (fun p => underB k p) n)
        clear hk hp
        go_wp2_with (first
          | (go_at_call 19; ((with_reducible refine C.out.mono ?_); rintro e w1 ⟨rfl, rfl⟩))
          | (at_builtin; refine wpList_one wr rfl (.tmp 12) (.tmp 14) rfl w.heap.size u3 (fil (fun p => underB k p) n) rfl HO.out n rfl ?c1 hb.size ?_))
        case c1 => have := HL.out; omega
        intro v' w3 o3 k3
        have HO3 := Lib.hid o3
        clear o3
        go_wp2
        go_roundw
        case rel => exact ⟨n + 1, by omega, by omega, by go_num, by rw [HF.out]; exact HO3.out, hb.trans k3⟩
        case measure => simp [intOf]; omega
    · have e : n = 10 := by omega
      subst e
      go_wp2
      go_ret
      exact ⟨_, rfl, by rw [← HZ.out]; exact HO.out, hb⟩
set_option maxHeartbeats 2000000 in
theorem refKids_any (k : Nat) (w : World) : Calls Tryd.prog 14 #[.int .u8 k] w fun e w' => ∃ v, e = .returned v ∧ OwnU w' w.heap.size v (kidsL k) ∧ Below w.heap.size w w' := by
  have HCH := fun p W => Lib.hid (refUnder_any p k W)
  have CK := fun W => Lib.hid (known_any k W)
  have HZ := Lib.hid (fil_kids k)
  have h1 : fil (fun c => kdB k && underB c k) 1 = [] := rfl
  go_enter Tryd.func14, Tryd.ntmps14
  go_wp2
  go_loopw [3, 4] (fun v i wr => ∃ n : Nat, 1 ≤ n ∧ n ≤ 10 ∧ i = .int .u8 n ∧ OwnU wr w.heap.size v (fil (fun c => kdB k && underB c k) n) ∧ Below w.heap.size w wr) (fun _ i _ => 10 - (intOf i).toNat)
  case atStart => exact ⟨1, by omega, by omega, rfl, by rw [h1]; exact OwnU.nil_ _ _, Below.refl _ _⟩
  case round =>
    obtain ⟨n, hn1, hn, rfl, hown, hb⟩ := hrel
    have HO := Lib.hid hown
    clear hown h1
    by_cases hlt : n < 10
    · have i1 : (n : Int) < 10 := by omega
      have hk : kdB n = true := kdB_t hn1 (by omega)
      have C := Lib.hid (HCH n wr).out
      have CN := Lib.hid (CK wr).out
      rcases (show kdB k = false ∨ kdB k = true by cases kdB k <;> simp) with hq | hq
      · rw [hq] at CN
        have HF := Lib.hid (fil_f (p := fun c => kdB k && underB c k) hk (by simp [hq]))
        clear hk hq
        go_wp2_with (go_at_call 39; ((with_reducible refine CN.out.mono ?_); rintro e w1 ⟨rfl, rfl⟩))
        go_roundw
        case rel => exact ⟨n + 1, by omega, by omega, by go_num, by rw [HF.out]; exact HO.out, hb⟩
        case measure => simp [intOf]; omega
      · rw [hq] at CN
        rcases (show underB n k = false ∨ underB n k = true by cases underB n k <;> simp) with hp | hp
        · rw [hp] at C
          have HF := Lib.hid (fil_f (p := fun c => kdB k && underB c k) hk (by simp [hp]))
          clear hk hp hq
          go_wp2_with (first | (go_at_call 39; ((with_reducible refine CN.out.mono ?_); rintro e w1 ⟨rfl, rfl⟩)) | (go_at_call 19; ((with_reducible refine C.out.mono ?_); rintro e w1 ⟨rfl, rfl⟩)))
          go_roundw
          case rel => exact ⟨n + 1, by omega, by omega, by go_num, by rw [HF.out]; exact HO.out, hb⟩
          case measure => simp [intOf]; omega
        · rw [hp] at C
          have HF := Lib.hid (fil_t (p := fun c => kdB k && underB c k) hk (by simp [hp, hq]))
          have HL := Lib.hid (fil_len (fun c => kdB k && underB c k) n)
          clear hk hp hq
          go_wp2_with (first
            | (go_at_call 39; ((with_reducible refine CN.out.mono ?_); rintro e w1 ⟨rfl, rfl⟩))
            | (go_at_call 19; ((with_reducible refine C.out.mono ?_); rintro e w1 ⟨rfl, rfl⟩))
            | (at_builtin; refine wpList_one wr rfl (.tmp 16) (.tmp 18) rfl w.heap.size u3 (fil (fun c => kdB k && underB c k) n) rfl HO.out n rfl ?c1 hb.size ?_))
          case c1 => have := HL.out; omega
          intro v' w3 o3 k3
          have HO3 := Lib.hid o3
          clear o3
          go_wp2
          go_roundw
          case rel => exact ⟨n + 1, by omega, by omega, by go_num, by rw [HF.out]; exact HO3.out, hb.trans k3⟩
          case measure => simp [intOf]; omega
    · have e : n = 10 := by omega
      subst e
      go_wp2
      go_ret
      exact ⟨_, rfl, by rw [← HZ.out]; exact HO.out, hb⟩
end Go.Proofs.YtmhckcpcnkhbeaaDoor
