/-
  WALKS: the document's reader: Uint, Int, Text.
-/
import Derived.Test.YtkgjgbenfpkekaaYRefRd
namespace Go.Proofs.Ytkgjgbenfpkekaa.YX
open Go.RowKit HL
open IX (ptr El cellsK cellsK_at cellsK_len OwnK RdK Kept slice_toK slice_fromK)
set_option maxRecDepth 100000
set_option linter.unusedVariables false
set_option linter.unusedSimpArgs false

/-- What bytes are worth, seven bits each. -/
def valP : Bs → Nat
  | [] => 0
  | b :: r => b.toNat % 128 + 128 * valP r
theorem valP_snoc (l : Bs) (b : UInt8) : valP (l ++ [b]) = valP l + b.toNat % 128 * 128 ^ l.length := by
  induction l with
  | nil => simp [valP]
  | cons x l ih =>
    simp only [List.cons_append, valP, ih, List.length_cons, Nat.pow_succ]
    rw [Nat.mul_add, ← Nat.add_assoc, Nat.mul_comm (128 ^ l.length) 128, Nat.mul_left_comm]
theorem numB_form : ∀ n : Nat, ∃ t b, numB n = t ++ [b] ∧ b.toNat < 128 ∧ (∀ x ∈ t, 128 ≤ x.toNat) ∧ valP (numB n) = n := by
  intro n
  induction n using Nat.strongRecOn with
  | ind n ih =>
    by_cases h : n < 128
    · refine ⟨[], UInt8.ofNat n, by rw [numB_lo h]; rfl, by rw [u8n (by omega)]; exact h, by simp, ?_⟩
      rw [numB_lo h]; simp only [valP]; rw [u8n (by omega)]; omega
    · obtain ⟨t, b, e, hb, ht, hv⟩ := ih (n / 128) (by omega)
      refine ⟨UInt8.ofNat (n % 128 + 128) :: t, b, by rw [numB_hi h, e]; rfl, hb, fun x hx => ?_, ?_⟩
      · rcases List.mem_cons.1 hx with rfl | hx
        · rw [u8n (by omega)]; omega
        · exact ht x hx
      · rw [numB_hi h]; simp only [valP]; rw [u8n (by omega), hv]; omega
/-- Of no number: the first bytes have all more behind them. -/
theorem rdU_none {l : Bs} {k : Nat} (hk : k = 10 ∨ k = l.length) (h : ∀ x ∈ l.take k, 128 ≤ x.toNat) : rdU l = none := by
  cases e : rdU l with
  | none => rfl
  | some y =>
    obtain ⟨v, r⟩ := y
    obtain ⟨e1, hv⟩ := rdU_inv e
    obtain ⟨t, b, e2, hb, ht, _⟩ := numB_form v
    have hlen := numB_len64 hv
    rw [e2, List.length_append] at hlen
    simp at hlen
    have hle : (t ++ [b]).length ≤ k := by
      rcases hk with rfl | rfl
      · simp; omega
      · rw [e1, e2]; simp
    have hm : b ∈ l.take k := by
      rw [e1, e2, List.take_append, List.take_of_length_le hle]
      simp
    have := h b hm
    omega
/-- At the first byte behind which there is none more. -/
theorem rdU_first {l : Bs} {k : Nat} (hk : k < 10) (hl : k < l.length) (h : ∀ x ∈ l.take k, 128 ≤ x.toNat) (hb : l[k].toNat < 128) :
    rdU l = if numB (valP (l.take (k + 1)) % 18446744073709551616) = l.take (k + 1) then some (valP (l.take (k + 1)) % 18446744073709551616, l.drop (k + 1)) else none := by
  split
  · rename_i e
    have := rdU_num (n := valP (l.take (k + 1)) % 18446744073709551616) (Nat.mod_lt _ (by decide)) (l.drop (k + 1))
    rw [e, List.take_append_drop] at this
    exact this
  · rename_i e
    cases q : rdU l with
    | none => rfl
    | some y =>
      exfalso
      apply e
      obtain ⟨v, r⟩ := y
      obtain ⟨e1, hv⟩ := rdU_inv q
      obtain ⟨t, b, e2, hb2, ht, hval⟩ := numB_form v
      have hk2 : t.length = k := by
        rcases Nat.lt_trichotomy t.length k with q | q | q
        · exfalso
          have hm : b ∈ l.take k := by
            rw [e1, e2, List.take_append, List.take_of_length_le (by simp; omega)]
            simp
          have := h b hm
          omega
        · exact q
        · exfalso
          have hm : l[k] ∈ t := by
            have : l[k]? = t[k]? := by
              rw [e1, e2, List.append_assoc, List.getElem?_append_left q]
            rw [List.getElem?_eq_getElem hl, List.getElem?_eq_getElem q] at this
            simp only [Option.some.injEq] at this
            rw [this]; exact List.getElem_mem q
          have := ht _ hm
          omega
      have e3 : l.take (k + 1) = numB v := by
        rw [e1, List.take_append, e2, List.take_of_length_le (by simp; omega)]
        simp [hk2]
      rw [e3, hval, Nat.mod_eq_of_lt hv]
/-- One byte more, as the loop reckons. -/
theorem val_next (l : Bs) (b : UInt8) :
    IntKind.u64.wrap (((valP l % 18446744073709551616 : Nat) : Int) + IntKind.u64.wrap ((b.toNat : Int) % 128 * ((128 ^ l.length % 18446744073709551616 : Nat) : Int))) = ((valP (l ++ [b]) % 18446744073709551616 : Nat) : Int) := by
  have e : ∀ x : Nat, IntKind.u64.wrap (x : Int) = ((x % 18446744073709551616 : Nat) : Int) := fun x => by
    simp [IntKind.wrap, IntKind.bits, IntKind.signed]
  have e1 : ((b.toNat : Int) % 128 * ((128 ^ l.length % 18446744073709551616 : Nat) : Int)) = ((b.toNat % 128 * (128 ^ l.length % 18446744073709551616) : Nat) : Int) := by rw [Int.natCast_mul]; rfl
  rw [e1, e, ← Int.natCast_add, e, valP_snoc]
  congr 1
  rw [Nat.add_mod, Nat.mod_mod, Nat.mod_mod, Nat.add_mod (valP l), Nat.mul_mod (b.toNat % 128) (128 ^ l.length), Nat.mul_mod (b.toNat % 128) (128 ^ l.length % 18446744073709551616), Nat.mod_mod]
theorem unit_next (k : Nat) : IntKind.u64.wrap (((128 ^ k % 18446744073709551616 : Nat) : Int) * 128) = ((128 ^ (k + 1) % 18446744073709551616 : Nat) : Int) := by
  have e : ∀ x : Nat, IntKind.u64.wrap (x : Int) = ((x % 18446744073709551616 : Nat) : Int) := fun x => by
    simp [IntKind.wrap, IntKind.bits, IntKind.signed]
  have e1 : (((128 ^ k % 18446744073709551616 : Nat) : Int) * 128) = (((128 ^ k % 18446744073709551616) * 128 : Nat) : Int) := by rw [Int.natCast_mul]; rfl
  rw [e1, e, Nat.pow_succ]
  congr 1
  rw [Nat.mul_mod, Nat.mod_mod, ← Nat.mul_mod]
theorem eq_str {X Y : Bs} (h : X ≠ Y) : ((⟨X.toArray⟩ : ByteArray).toList == (⟨Y.toArray⟩ : ByteArray).toList) = false := by
  rw [ByteArray.toList_eq, ByteArray.toList_eq]
  simpa using h
theorem bD1 (w : World) : Below w.heap.size w w.drew := ⟨rfl, rfl, rfl, Nat.le_refl _, fun _ _ => rfl⟩
theorem told_none {α : Type} (z : α) {f : Bs → Option (α × Bs)} {l : Bs} (h : f l = none) : told z f (some l) = z ∧ rest f (some l) = none := by simp [told, rest, h]
theorem told_some {α : Type} (z : α) {f : Bs → Option (α × Bs)} {l : Bs} {v : α} {r : Bs} (h : f l = some (v, r)) : told z f (some l) = v ∧ rest f (some l) = some r := by simp [told, rest, h]
set_option maxHeartbeats 4000000 in
theorem rUint_no (B : Nat) (w : World) (h : RAt w B none) : Calls Try.prog 57 #[ptr B] w fun e w' => e = .returned (vU 0) ∧ RAt w' B none ∧ Kept w w' (· ≠ B) := by
  have CF := Lib.hid (rfail_any B w h.bad)
  have h : AtC w B #[.slice none 0 0, .bool true] := h
  have c0 := h.c 0
  clear h
  go_enter Try.func57, Try.ntmps57
  go_wp2
  go_loopw [5] (fun n wr => n = .int .i64 0 ∧ wr = w) (fun n _ => 0)
  case atStart => exact ⟨rfl, rfl⟩
  case round =>
    obtain ⟨rfl, rfl⟩ := hrel
    go_wp2_with (go_at_call 83; ((refine CF.out.mono ?_); rintro e w1 ⟨rfl, h1, k1⟩; have H1 := Lib.hid (And.intro h1 k1); clear h1 k1))
    go_ret
    exact ⟨rfl, H1.out.1, H1.out.2⟩
set_option maxHeartbeats 8000000 in
theorem rUint_some (B : Nat) (l : Bs) (w : World) (h : RAt w B (some l)) (hmax : l.length ≤ 1000000) : Calls Try.prog 57 #[ptr B] w fun e w' => e = .returned (vU (told (0 : Nat) rdU (some l))) ∧ RAt w' B (rest rdU (some l)) ∧ Kept w w' (· ≠ B) := by
  have CF := Lib.hid (fun (W : World) (q : Bad W B) => rfail_any B W q)
  have CU := Lib.hid (fun n (q : n < 18446744073709551616) => refU_any n q)
  have HR := Lib.hid h
  obtain ⟨A, c, h1, h2, h3⟩ := h
  have H := Lib.hid (And.intro h1 h2)
  clear h1 h2
  obtain ⟨tv, htv⟩ : ∃ v, told (0 : Nat) rdU (some l) = v := ⟨_, rfl⟩
  obtain ⟨ts, hts⟩ : ∃ s, rest rdU (some l) = s := ⟨_, rfl⟩
  rw [htv, hts]
  have HTV := Lib.hid (And.intro htv hts)
  clear htv hts
  go_enter Try.func57, Try.ntmps57
  go_wp2
  go_loopw [3, 4, 5] (fun nv uv iv wr => ∃ k : Nat, k ≤ 10 ∧ k ≤ l.length ∧ nv = .int .u64 ((valP (l.take k) % 18446744073709551616 : Nat) : Int) ∧ uv = .int .u64 ((128 ^ k % 18446744073709551616 : Nat) : Int) ∧ iv = .int .i64 k ∧ Hid (∀ x ∈ l.take k, 128 ≤ x.toNat) ∧ Below w.heap.size w wr) (fun _ _ iv _ => 10 - (intOf iv).toNat)
  case atStart => exact ⟨0, by omega, by omega, by simp [valP], by simp, rfl, Lib.hid (by simp), Below.refl _ _⟩
  case round =>
    obtain ⟨k, hk, hkl, rfl, rfl, rfl, HN, k1⟩ := hrel
    have K1 := Lib.hid k1
    have hr := H.out.1.then k1
    have c0 := hr.c 0
    have f0 := hr.f 0
    have HRr := Lib.hid (HR.out.below k1)
    have HA := Lib.hid (And.intro hr (H.out.2.below (k1.mono (Nat.le_of_lt H.out.1.lt))))
    clear hr k1
    by_cases hend : k = 10 ∨ k = l.length
    · have hnone := rdU_none hend HN.out
      have ht := told_none (0 : Nat) hnone
      rw [HTV.out.1, HTV.out.2] at ht
      have HT0 := Lib.hid ht
      have i1 : ¬ ((k : Int) < 10 ∧ (k : Int) < (l.length : Int)) := by omega
      clear ht hnone
      generalize valP (List.take k l) % 18446744073709551616 = a at *
      generalize 128 ^ k % 18446744073709551616 = u at *
      by_cases h10 : k = 10
      · subst h10
        go_wp2_with (go_at_call 83; ((refine (CF.out _ HRr.out.bad).mono ?_); rintro e w1 ⟨rfl, h1, k1⟩; have H1 := Lib.hid (And.intro h1 (Kept.trans (.of_below K1.out) k1)); clear h1 k1))
        go_ret
        exact ⟨by rw [HT0.out.1]; rfl, by rw [HT0.out.2]; exact H1.out.1, H1.out.2⟩
      · have i2 : (k : Int) < 10 := by omega
        have i3 : ¬ (k : Int) < (l.length : Int) := by omega
        clear i1 hend
        generalize l.length = m at *
        go_wp2_with (go_at_call 83; ((refine (CF.out _ HRr.out.bad).mono ?_); rintro e w1 ⟨rfl, h1, k1⟩; have H1 := Lib.hid (And.intro h1 (Kept.trans (.of_below K1.out) k1)); clear h1 k1))
        go_ret
        exact ⟨by rw [HT0.out.1]; rfl, by rw [HT0.out.2]; exact H1.out.1, H1.out.2⟩
    · have hlt : k < l.length := by omega
      have i2 : (k : Int) < 10 := by omega
      have i3 : (k : Int) < (l.length : Int) := by omega
      have hA0 := HA.out.2
      obtain ⟨b1, off, rfl, hb1, hc⟩ := (rdY hA0).at_ (by omega)
      have cc := hc k _ (List.getElem?_eq_getElem hlt)
      have HF := Lib.hid (fun (q : l[k].toNat < 128) => rdU_first (by omega) hlt HN.out q)
      have hsn : l.take (k + 1) = l.take k ++ [l[k]] := List.take_succ_eq_append_getElem hlt
      have hlen : (l.take k).length = k := by rw [List.length_take]; omega
      have HV := Lib.hid (val_next (l.take k) l[k])
      rw [hlen, ← hsn] at HV
      have HU := Lib.hid (unit_next k)
      have HNN : Hid (128 ≤ l[k].toNat → ∀ x ∈ l.take (k + 1), 128 ≤ x.toNat) := Lib.hid (fun q x hx => by
        rw [hsn] at hx
        rcases List.mem_append.1 hx with h | h
        · exact HN.out x h
        · obtain rfl : x = l[k] := by simpa using h
          exact q)
      clear hc hsn hlen hA0
      generalize l[k] = b at *
      obtain ⟨a, ha⟩ : ∃ a, a = valP (l.take k) % 18446744073709551616 := ⟨_, rfl⟩
      obtain ⟨u, hu⟩ : ∃ u, u = 128 ^ k % 18446744073709551616 := ⟨_, rfl⟩
      obtain ⟨a2, ha2⟩ : ∃ a, a = valP (l.take (k + 1)) % 18446744073709551616 := ⟨_, rfl⟩
      obtain ⟨u2, hu2⟩ : ∃ u, u = 128 ^ (k + 1) % 18446744073709551616 := ⟨_, rfl⟩
      have eV := HV.out
      have eU := HU.out
      rw [← ha, ← hu, ← ha2] at eV
      rw [← hu, ← hu2] at eU
      rw [← ha, ← hu]
      have HA2 := Lib.hid ha2
      have HU2 := Lib.hid hu2
      have ha2lt : a2 < 18446744073709551616 := by rw [ha2]; exact Nat.mod_lt _ (by decide)
      clear ha hu ha2 hu2 HV HU
      have eW : IntKind.u64.wrap (b.toNat : Int) = (b.toNat : Int) := wU (by have := u8lt b; omega)
      by_cases hb : b.toNat < 128
      · have j1 : ¬ (128 : Int) ≤ (b.toNat : Int) := by omega
        have HF := Lib.hid (HF.out hb)
        have CU1 := Lib.hid (fun (W : World) => CU.out a2 ha2lt a2 W rfl)
        have hP : ∀ w', Below wr.heap.size wr w' → w'.cell? ⟨B, 0, none⟩ = some (.slice (some ⟨b1, off, none⟩) l.length c) := fun w' q => ((HA.out.1.then q).c 0).trans rfl
        have hks : k + 1 ≤ l.length := hlt
        have eK : IntKind.i64.wrap ((k : Int) + 1) = (k : Int) + 1 := wI (by omega) (by omega)
        have hlt1 : (l.take (k + 1)).length = k + 1 := by rw [List.length_take]; omega
        have hts : ∀ W, (Instr.slice 26 (.slice (some ⟨b1, off, none⟩) l.length c) none (some (.int .i64 ((k : Int) + 1))) none).run Try.prog W = .ok (.slice (some ⟨b1, off, none⟩) (k + 1) c) W := fun W => slice_toK u8K (A := some ⟨b1, off, none⟩) (n := l.length) (c := c) hks h3 W
        have hcb0 := conv_str (c := c) (RdK.take HA.out.2 (k + 1)) hlt1
        have hcb1 : (convert 26 9 (.slice (some ⟨b1, off, none⟩) (k + 1) c)).run Try.prog wr.drew = .ok (str (l.take (k + 1))) wr.drew := conv_str (w := wr.drew) (c := c) (RdK.take (IX.RdK.below HA.out.2 ⟨rfl, rfl, rfl, Nat.le_refl _, fun _ _ => rfl⟩) (k + 1)) hlt1
        obtain ⟨A2, c2, s1, s2, s3, _⟩ := slice_fromK u8K (c := c) HA.out.2 rfl hks h3
        have hs1 : ∀ W, (Instr.slice 26 (.slice (some ⟨b1, off, none⟩) l.length c) (some (.int .i64 ((k : Int) + 1))) none none).run Try.prog W = .ok (.slice A2 (l.length - (k + 1)) c2) W := fun W => s1 W
        have hdl : (l.drop (k + 1)).length = l.length - (k + 1) := List.length_drop
        have HS2 := Lib.hid s2
        have hnlen := numB_len64 ha2lt
        clear s1 s2
        by_cases he : numB a2 = l.take (k + 1)
        · have hcmp : ((⟨(numB a2).toArray⟩ : ByteArray).toList == (⟨(l.take (k + 1)).toArray⟩ : ByteArray).toList) = true := by rw [he]; simp
          have hcmp2 : (numB a2 == l.take (k + 1)) = true := by rw [he]; simp
          have HT0 : Hid (a2 = tv ∧ some (l.drop (k + 1)) = ts) := Lib.hid (by
            have q := HF.out
            rw [← HA2.out, if_pos he] at q
            have z := told_some (0 : Nat) q
            rw [HTV.out.1, HTV.out.2] at z
            exact ⟨z.1.symm, z.2.symm⟩)
          clear he
          go_wp2
          clear cc
          go_region_with (first
            | (go_at_call 32; (refine (CU1.out _).mono ?_); rintro e w3 ⟨v3, rfl, o3, k3⟩; obtain ⟨A3, c3, rfl, r3, _, _⟩ := o3.form; have hcv3 := conv_str (c := c3) r3 rfl; have hB3 : Below wr.heap.size wr w3 := bThen (bD1 wr) k3; have hcb3 := conv_str (c := c) (RdK.take (IX.RdK.below HA.out.2 (hB3.mono (Nat.le_of_lt HA.out.1.lt))) (k + 1)) hlt1; have q3 := hP _ hB3; clear o3 r3))
          all_goals
            have hh := Lib.hid (And.intro q3 hB3)
            have z0 := (HA.out.1.then hh.out.2).f 0
            have HE := Lib.hid (rat_set (HA.out.1.then hh.out.2) rfl (HS2.out _ (IX.RdK.below HA.out.2 (hh.out.2.mono (Nat.le_of_lt HA.out.1.lt)))) hdl s3)
            go_wp2
            go_ret
            exact ⟨by rw [← HT0.out.1]; rfl, by rw [← HT0.out.2]; exact HE.out, kset2 (.of_below (bThen K1.out hh.out.2)) _⟩
        · have hcmp := eq_str he
          have hcmp2 : (numB a2 == l.take (k + 1)) = false := by simpa using he
          have HT0 : Hid (0 = tv ∧ none = ts) := Lib.hid (by
            have q := HF.out
            rw [← HA2.out, if_neg he] at q
            have z := told_none (0 : Nat) q
            rw [HTV.out.1, HTV.out.2] at z
            exact ⟨z.1.symm, z.2.symm⟩)
          clear he
          go_wp2
          clear cc
          go_region_with (first
            | (go_at_call 32; (refine (CU1.out _).mono ?_); rintro e w3 ⟨v3, rfl, o3, k3⟩; obtain ⟨A3, c3, rfl, r3, _, _⟩ := o3.form; have hcv3 := conv_str (c := c3) r3 rfl; have hB3 : Below wr.heap.size wr w3 := bThen (bD1 wr) k3; have hcb3 := conv_str (c := c) (RdK.take (IX.RdK.below HA.out.2 (hB3.mono (Nat.le_of_lt HA.out.1.lt))) (k + 1)) hlt1; have q3 := hP _ hB3; clear o3 r3))
          all_goals
            have hh := Lib.hid (And.intro q3 hB3)
            have HB3 := Lib.hid (HRr.out.below hh.out.2).bad
            go_wp2_with (go_at_call 83; ((refine (CF.out _ HB3.out).mono ?_); rintro e w4 ⟨rfl, h4, k4⟩; have H4 := Lib.hid (And.intro h4 (Kept.trans (.of_below (bThen K1.out hh.out.2)) k4)); clear h4 k4))
            go_ret
            exact ⟨by rw [← HT0.out.1]; rfl, by rw [← HT0.out.2]; exact H4.out.1, H4.out.2⟩
      · have j1 : (128 : Int) ≤ (b.toNat : Int) := by omega
        have HN2 := Lib.hid (HNN.out (by omega))
        go_wp2
        refine ⟨⟨k + 1, by omega, by omega, ?_, ?_, by simp, HN2, K1.out⟩, by simp [intOf]; omega⟩
        · rw [← HA2.out]
        · rw [← HU2.out]
end Go.Proofs.Ytkgjgbenfpkekaa.YX
