/-
  WALKS: a stamp's text, and what a text tells: the document's.
-/
import Derived.Test.YthdphdmiafkkgaaDoorUParse
namespace Go.Proofs.YthdphdmiafkkgaaDoor.UX
open Go.RowKit FixMath
set_option maxRecDepth 100000
set_option linter.unusedVariables false
set_option linter.unusedSimpArgs false

set_option maxHeartbeats 2000000 in
theorem refDigits_any (n : Nat) : ∀ (w : World), n ≤ 1048576 → Calls Tryd.prog 23 #[.int .i64 n] w fun e w' => e = .returned (str (nt n)) ∧ Below w.heap.size w w' := by
  induction n using Nat.strongRecOn with
  | _ n ih =>
    intro w hn
    have hb : Below w.heap.size w w := Below.refl _ _
    by_cases h : n < 10
    · have HV := Lib.hid (nt_one h)
      have hm : (n : Int) % 10 = n := by omega
      have hconv := conv_dig n w
      rw [hm] at hconv
      generalize nt n = V at *
      clear ih hm
      go_enter Tryd.func23, Tryd.ntmps23
      go_wp2
      go_ret
      exact ⟨by rw [HV.out]; rfl, bAl hb _⟩
    · have HV := Lib.hid (nt_more (n := n) (by omega))
      obtain ⟨a, ha⟩ : ∃ a, n / 10 = a := ⟨_, rfl⟩
      obtain ⟨b, hbq⟩ : ∃ b, n % 10 = b := ⟨_, rfl⟩
      have C1 := Lib.hid (fun W => ih a (by omega) W (by omega))
      have C2 := Lib.hid (fun W => ih b (by omega) W (by omega))
      have HB := Lib.hid (show nt b = [dig n] by rw [nt_one (by omega)]; unfold dig; rw [show b % 10 = n % 10 by omega])
      have l1 := nt_len7 (n := a) (by omega)
      have l2 := nt_len7 (n := b) (by omega)
      rw [ha] at HV
      have i1 : (n : Int).tdiv 10 = (a : Int) := by rw [Int.tdiv_eq_ediv_of_nonneg (by omega)]; omega
      have i2 : (n : Int).tmod 10 = (b : Int) := by rw [Int.tmod_eq_emod_of_nonneg (by omega)]; omega
      have i3 : (n : Int) / 10 = (a : Int) := by omega
      have i4 : (n : Int) % 10 = (b : Int) := by omega
      generalize nt n = V at *
      generalize nt a = x at *
      generalize nt b = y at *
      clear ih ha hbq
      go_enter Tryd.func23, Tryd.ntmps23
      go_wp2_with (go_at_call 23; first | ((with_reducible refine (C1.out _).mono ?_); rintro e w1 ⟨rfl, k1⟩; replace hb := bThen hb k1) | ((with_reducible refine (C2.out _).mono ?_); rintro e w1 ⟨rfl, k1⟩; replace hb := bThen hb k1))
      go_ret
      exact ⟨by rw [HV.out, ← HB.out]; exact congrArg (fun s => Ending.returned (.string s)) (bytes_add x y), hb⟩
set_option maxHeartbeats 2000000 in
theorem refText15_any (d s : Int) (w : World) : Calls Tryd.prog 14 #[sp d s] w fun e w' => e = .returned (txV d s) ∧ Below w.heap.size w w' := by
  have hb : Below w.heap.size w w := Below.refl _ _
  have C := fun W => Lib.hid (refMay15_any d s W)
  cases h1 : mayS d s
  · have HV := Lib.hid (txV_n h1)
    rw [h1] at C; clear h1
    generalize txV d s = V at *
    go_enter Tryd.func14, Tryd.ntmps14
    go_wp2_with (go_at_call 21; ((with_reducible refine (C _).out.mono ?_); rintro e w1 ⟨rfl, k1⟩; replace hb := bThen (bAl hb _) k1))
    go_ret2
    exact ⟨by rw [HV.out]; rfl, hb⟩
  · have bd := may_bd h1
    rw [h1] at C
    obtain ⟨d, rfl⟩ := Int.eq_ofNat_of_zero_le bd.1
    obtain ⟨s, rfl⟩ := Int.eq_ofNat_of_zero_le bd.2.2.1
    have HV := Lib.hid (txV_y h1)
    have C1 := Lib.hid (fun (W : World) => refDigits_any d W (by omega))
    have C2 := Lib.hid (fun (W : World) => refDigits_any s W (by omega))
    have l1 := nt_len7 (n := d) (by omega)
    have l2 := nt_len7 (n := s) (by omega)
    have HX : Hid (txS d s = nt d ++ 46 :: nt s) := Lib.hid rfl
    clear h1 bd
    generalize txV d s = V at *
    generalize txS d s = T at *
    generalize nt d = x at *
    generalize nt s = y at *
    have a1 : (9223372036854775807 < x.length + 1) = False := by simp; omega
    have a2 : (9223372036854775807 < x.length + 1 + y.length) = False := by simp; omega
    generalize (d : Int) = d at *
    generalize (s : Int) = s at *
    go_enter Tryd.func14, Tryd.ntmps14
    go_wp2_with (go_at_call 21; ((with_reducible refine (C _).out.mono ?_); rintro e w1 ⟨rfl, k1⟩; have m0 := (At2.new _ _ _ _).then k1; replace hb := bThen (bAl hb _) k1))
    go_region_held3 (fun w' => w'.cell? ⟨w.heap.size, 0, none⟩ = some (.int .i64 d) ∧ w'.cell? ⟨w.heap.size, 1, none⟩ = some (.int .i64 s) ∧ w.heap.size < w'.heap.size ∧ Below w.heap.size w w')
      (first | exact begin1 m0 hb | exact keep1 (by assumption) k1)
      (first
      | (go_at_call 23; first | ((with_reducible refine (C1.out _).mono ?_); rintro e w1 ⟨rfl, k1⟩) | ((with_reducible refine (C2.out _).mono ?_); rintro e w1 ⟨rfl, k1⟩)))
    go_wp2_with fail
    go_ret2
    exact ⟨by rw [HV.out, HX.out]; exact congrArg (fun s => Ending.returned (.tuple #[.string s, .int .i64 0])) (tx_bytes x y), ‹_ ∧ _ ∧ _ ∧ Below w.heap.size w _›.2.2.2⟩
open Classical in
noncomputable def rnV (l : Bs) : Value := if isNum l then .tuple #[.int .i64 (val l), .bool true] else .tuple #[.int .i64 0, .bool false]
theorem rnV_n {l : Bs} (h : ¬ isNum l) : rnV l = .tuple #[.int .i64 0, .bool false] := by unfold rnV; rw [if_neg h]
theorem rnV_y {l : Bs} (h : isNum l) : rnV l = .tuple #[.int .i64 (val l), .bool true] := by unfold rnV; rw [if_pos h]
theorem u_at (s : ByteArray) (k : Nat) (h : k < s.size) : s.data.toList[k]'(by simpa using h) = s[k] := rfl
theorem u_len (s : ByteArray) : s.data.toList.length = s.size := by simp
theorem val_pow7 {l : Bs} {k : Nat} (h : ∀ c ∈ l.take k, isDig c = true) (hk : k ≤ 6) : val (l.take k) < 1000000 := by
  have h1 := val_lt _ h
  have h2 : 10 ^ (l.take k).length ≤ 10 ^ 6 := Nat.pow_le_pow_right (by omega) (by rw [List.length_take]; omega)
  omega
set_option maxHeartbeats 4000000 in
theorem refNumber_any (s : ByteArray) (w : World) (hs : s.size ≤ maxLen) : Calls Tryd.prog 26 #[.string s] w fun e w' => e = .returned (rnV s.data.toList) ∧ w = w' := by
  unfold maxLen at hs
  obtain ⟨V, hV⟩ : ∃ V, rnV s.data.toList = V := ⟨_, rfl⟩
  rw [hV]
  have HN : Hid (¬ isNum s.data.toList → V = .tuple #[.int .i64 0, .bool false]) := Lib.hid (fun h => by rw [← hV]; exact rnV_n h)
  have HY : Hid (isNum s.data.toList → V = .tuple #[.int .i64 (val s.data.toList), .bool true]) := Lib.hid (fun h => by rw [← hV]; exact rnV_y h)
  clear hV
  by_cases h1 : 1 ≤ s.size
  · by_cases h7 : s.size ≤ 7
    · have hpos : 0 < s.size := by omega
      have hfirst : s.data.toList[0]? = some (s[0]'hpos) := by rw [List.getElem?_eq_getElem (by simpa using hpos)]; rfl
      have i1 : ¬ s.size < 1 := by omega
      have i2 : ¬ 7 < s.size := by omega
      by_cases hz : 1 < s.size ∧ (s[0]'hpos) = 48
      · obtain ⟨z1, z2⟩ := hz
        have HV := Lib.hid (HN.out (by rintro ⟨_, _, _, h⟩; exact h ⟨by rw [u_len]; exact z1, by rw [hfirst, z2]⟩))
        have c48 : (((s[0]'hpos).toNat : Int) == 48) = true := by rw [z2]; rfl
        clear z2 hfirst
        go_enter Tryd.func26, Tryd.ntmps26
        go_wp2
        go_ret2
        exact ⟨by rw [HV.out]; rfl, rfl⟩
      · have HZ : Hid (¬ (1 < s.data.toList.length ∧ s.data.toList[0]? = some 48)) := Lib.hid (by rw [u_len, hfirst]; rintro ⟨a, b⟩; exact hz ⟨a, by simpa using b⟩)
        have hc : (((s[0]'hpos).toNat : Int) == 48) = true ∧ ¬ 1 < s.size ∨ (((s[0]'hpos).toNat : Int) == 48) = false := by
          by_cases e : (s[0]'hpos) = 48
          · exact .inl ⟨by rw [e]; rfl, fun q => hz ⟨q, e⟩⟩
          · right
            have e3 : (s[0]'hpos).toNat ≠ 48 := fun x => e (UInt8.toNat_inj.1 (x.trans rfl))
            simp; omega
        clear hz hfirst
        rcases hc with ⟨c1, c2⟩ | c1
        all_goals
          go_enter Tryd.func26, Tryd.ntmps26
          go_wp2
          go_loop [4, 5] (fun n i => ∃ (k v : Nat), i = .int .i64 k ∧ n = .int .i64 v ∧ k ≤ s.size ∧ Hid (v = val (s.data.toList.take k)) ∧ Hid (∀ c ∈ s.data.toList.take k, isDig c = true)) (fun _ i => s.size - (intOf i).toNat)
          case atStart => exact ⟨0, 0, rfl, rfl, Nat.zero_le _, Lib.hid rfl, Lib.hid (by simp)⟩
          case round =>
            obtain ⟨k, v, rfl, rfl, hk, HVk, HD⟩ := hrel
            by_cases hlt : k < s.size
            · have hlt' : k < s.data.toList.length := by rw [u_len]; exact hlt
              have hc := (s[k]'hlt).toNat_lt
              by_cases hdig : isDig (s[k]'hlt) = true
              · have hv : v < 1000000 := by rw [HVk.out]; exact val_pow7 HD.out (by omega)
                have HV' : Hid (10 * v + ((s[k]'hlt).toNat - 48) = val (s.data.toList.take (k + 1))) := Lib.hid (by rw [List.take_succ_eq_append_getElem hlt', val_snoc, ← HVk.out, u_at _ _ hlt])
                have HD' : Hid (∀ c ∈ s.data.toList.take (k + 1), isDig c = true) := Lib.hid (by
                  intro c hm
                  rw [List.take_succ_eq_append_getElem hlt'] at hm
                  rcases List.mem_append.1 hm with hm | hm
                  · exact HD.out c hm
                  · rw [List.mem_singleton.1 hm, u_at _ _ hlt]; exact hdig)
                have hd2 := hdig
                simp only [isDig, decide_eq_true_eq] at hd2
                obtain ⟨d1, d2⟩ := hd2
                clear hdig hlt' HD HVk
                go_wp2
                go_round
                case rel => exact ⟨k + 1, _, by go_num, by go_num, by omega, HV', HD'⟩
                case measure => simp [intOf]; omega
              · have HV := Lib.hid (HN.out (by rintro ⟨_, _, h, _⟩; exact hdig (by rw [← u_at _ _ hlt]; exact h _ (List.getElem_mem hlt'))))
                have hcs : (s[k]'hlt).toNat < 48 ∨ (¬ (s[k]'hlt).toNat < 48 ∧ 57 < (s[k]'hlt).toNat) := by
                  simp only [isDig, decide_eq_true_eq] at hdig
                  omega
                clear hdig hlt'
                rcases hcs with d1 | ⟨d1, d2⟩
                all_goals
                  go_wp2
                  go_ret2
                  exact ⟨by rw [HV.out]; rfl, rfl⟩
            · obtain rfl : k = s.size := by omega
              have e : s.data.toList.take s.size = s.data.toList := List.take_of_length_le (by rw [u_len]; omega)
              have HV := Lib.hid (HY.out ⟨by rw [u_len]; exact h1, by rw [u_len]; exact h7, by have := HD.out; rwa [e] at this, HZ.out⟩)
              rw [← e, ← HVk.out] at HV
              go_wp2
              go_ret2
              exact ⟨by rw [HV.out]; rfl, rfl⟩
    · have HV := Lib.hid (HN.out (by rintro ⟨_, h, _, _⟩; rw [u_len] at h; exact h7 h))
      have i1 : ¬ s.size < 1 := by omega
      have i2 : 7 < s.size := by omega
      go_enter Tryd.func26, Tryd.ntmps26
      go_wp2
      go_ret2
      exact ⟨by rw [HV.out]; rfl, rfl⟩
  · have HV := Lib.hid (HN.out (by rintro ⟨h, _, _, _⟩; rw [u_len] at h; exact h1 h))
    have i1 : s.size < 1 := by omega
    go_enter Tryd.func26, Tryd.ntmps26
    go_wp2
    go_ret2
    exact ⟨by rw [HV.out]; rfl, rfl⟩
end Go.Proofs.YthdphdmiafkkgaaDoor.UX
