/-
  WALK: the document's Uint, where what is left lies below a given block.
-/
import Derived.Test.YtkgjgbenfpkekaaYRefUint
namespace Go.Proofs.Ytkgjgbenfpkekaa.YX
open Go.RowKit HL
open IX (ptr El cellsK cellsK_at cellsK_len OwnK RdK Kept slice_toK slice_fromK)
set_option maxRecDepth 100000
set_option linter.unusedVariables false
set_option linter.unusedSimpArgs false

def RAtL (w : World) (B b0 : Nat) (s : Option Bs) : Prop :=
  match s with
  | some l => ∃ A c, AtC w B #[.slice A l.length c, .bool false] ∧ RdK u8K w b0 A l ∧ l.length ≤ c
  | none => AtC w B #[.slice none 0 0, .bool true]
theorem RAtL.at_ {w : World} {B b0 : Nat} {s : Option Bs} (hb0 : b0 ≤ B) (h : RAtL w B b0 s) : RAt w B s := by
  cases s with
  | none => exact h
  | some l => obtain ⟨A, c, h1, h2, h3⟩ := h; exact ⟨A, c, h1, h2.more hb0, h3⟩
theorem RAtL.bad {w : World} {B b0 : Nat} {s : Option Bs} (h : RAtL w B b0 s) : Bad w B := by
  cases s with
  | none => exact ⟨_, _, h⟩
  | some l => obtain ⟨A, c, h1, _⟩ := h; exact ⟨_, _, h1⟩
theorem RAtL.below {w w' : World} {B b0 : Nat} {s : Option Bs} (h : RAtL w B b0 s) (k : Below w.heap.size w w') : RAtL w' B b0 s := by
  cases s with
  | none => exact AtC.then h k
  | some l =>
    obtain ⟨A, c, h1, h2, h3⟩ := h
    refine ⟨A, c, h1.then k, ?_, h3⟩
    rcases h2 with q | ⟨b, off, e, hb, hc⟩
    · exact .inl q
    · refine .inr ⟨b, off, e, hb, fun m u hu => ?_⟩
      have := hc m u hu
      exact (k.cell (p := ⟨b, off + m, none⟩) (World.block_lt_of_cell? _ _ this)).trans this
theorem ratL_set {W : World} {B b0 : Nat} (hb0 : b0 ≤ B) {v y : Value} {A2 : Option Addr} {n c2 : Nat} {l : Bs} (h : AtC W B #[v, y]) (hy : y = .bool false) (hr : RdK u8K W b0 A2 l) (hn : l.length = n) (hc : n ≤ c2) : RAtL (W.setCell ⟨B, 0, none⟩ (.slice A2 n c2)) B b0 (some l) := by
  subst hn; subst hy
  refine ⟨A2, c2, h.set (by simp) _, ?_, hc⟩
  rcases hr with h1 | ⟨b, off, rfl, hb, hcell⟩
  · exact .inl h1
  · refine .inr ⟨b, off, rfl, hb, fun m u hu => ?_⟩
    rw [World.cell?_setCell_other (h := fun e => by injection e; omega)]
    exact hcell m u hu
set_option maxHeartbeats 8000000 in
theorem rUintL_some (B b0 : Nat) (hb0 : b0 ≤ B) (l : Bs) (w : World) (h : RAtL w B b0 (some l)) (hmax : l.length ≤ 1000000) : Calls Try.prog 57 #[ptr B] w fun e w' => e = .returned (vU (told (0 : Nat) rdU (some l))) ∧ RAtL w' B b0 (rest rdU (some l)) ∧ Kept w w' (· ≠ B) := by
  have CF := Lib.hid (fun (W : World) (q : Bad W B) => rfail_any B W q)
  have CU := Lib.hid (fun n (q : n < 18446744073709551616) => refU_any n q)
  have HR := Lib.hid h
  obtain ⟨A, c, h1, h2, h3⟩ := h
  have H := Lib.hid (And.intro h1 h2)
  clear h1 h2
  obtain ⟨tv, htv⟩ : ∃ v, told (0 : Nat) rdU (some l) = v := ⟨_, rfl⟩
  obtain ⟨ts, hts⟩ : ∃ s, rest rdU (some l) = s := ⟨_, rfl⟩
  rw [htv, hts]
  have HTV := Lib.hid (And.intro htv hts)
  clear htv hts
  go_enter Try.func57, Try.ntmps57
  go_wp2
  go_loopw [3, 4, 5] (fun nv uv iv wr => ∃ k : Nat, k ≤ 10 ∧ k ≤ l.length ∧ nv = .int .u64 ((valP (l.take k) % 18446744073709551616 : Nat) : Int) ∧ uv = .int .u64 ((128 ^ k % 18446744073709551616 : Nat) : Int) ∧ iv = .int .i64 k ∧ Hid (∀ x ∈ l.take k, 128 ≤ x.toNat) ∧ Below w.heap.size w wr) (fun _ _ iv _ => 10 - (intOf iv).toNat)
  case atStart => exact ⟨0, by omega, by omega, by simp [valP], by simp, rfl, Lib.hid (by simp), Below.refl _ _⟩
  case round =>
    obtain ⟨k, hk, hkl, rfl, rfl, rfl, HN, k1⟩ := hrel
    have K1 := Lib.hid k1
    have hr := H.out.1.then k1
    have c0 := hr.c 0
    have f0 := hr.f 0
    have HRr := Lib.hid (HR.out.below k1)
    have HA := Lib.hid (And.intro hr (H.out.2.below (k1.mono (Nat.le_trans hb0 (Nat.le_of_lt H.out.1.lt)))))
    clear hr k1
    by_cases hend : k = 10 ∨ k = l.length
    · have hnone := rdU_none hend HN.out
      have ht := told_none (0 : Nat) hnone
      rw [HTV.out.1, HTV.out.2] at ht
      have HT0 := Lib.hid ht
      have i1 : ¬ ((k : Int) < 10 ∧ (k : Int) < (l.length : Int)) := by omega
      clear ht hnone
      generalize valP (List.take k l) % 18446744073709551616 = a at *
      generalize 128 ^ k % 18446744073709551616 = u at *
      by_cases h10 : k = 10
      · subst h10
        go_wp2_with (go_at_call 83; ((refine (CF.out _ HRr.out.bad).mono ?_); rintro e w1 ⟨rfl, h1, k1⟩; have H1 := Lib.hid (And.intro h1 (Kept.trans (.of_below K1.out) k1)); clear h1 k1))
        go_ret
        exact ⟨by rw [HT0.out.1]; rfl, by rw [HT0.out.2]; exact H1.out.1, H1.out.2⟩
      · have i2 : (k : Int) < 10 := by omega
        have i3 : ¬ (k : Int) < (l.length : Int) := by omega
        clear i1 hend
        generalize l.length = m at *
        go_wp2_with (go_at_call 83; ((refine (CF.out _ HRr.out.bad).mono ?_); rintro e w1 ⟨rfl, h1, k1⟩; have H1 := Lib.hid (And.intro h1 (Kept.trans (.of_below K1.out) k1)); clear h1 k1))
        go_ret
        exact ⟨by rw [HT0.out.1]; rfl, by rw [HT0.out.2]; exact H1.out.1, H1.out.2⟩
    · have hlt : k < l.length := by omega
      have i2 : (k : Int) < 10 := by omega
      have i3 : (k : Int) < (l.length : Int) := by omega
      have hA0 := HA.out.2
      obtain ⟨b1, off, rfl, hb1, hc⟩ := (rdY hA0).at_ (by omega)
      have cc := hc k _ (List.getElem?_eq_getElem hlt)
      have HF := Lib.hid (fun (q : l[k].toNat < 128) => rdU_first (by omega) hlt HN.out q)
      have hsn : l.take (k + 1) = l.take k ++ [l[k]] := List.take_succ_eq_append_getElem hlt
      have hlen : (l.take k).length = k := by rw [List.length_take]; omega
      have HV := Lib.hid (val_next (l.take k) l[k])
      rw [hlen, ← hsn] at HV
      have HU := Lib.hid (unit_next k)
      have HNN : Hid (128 ≤ l[k].toNat → ∀ x ∈ l.take (k + 1), 128 ≤ x.toNat) := Lib.hid (fun q x hx => by
        rw [hsn] at hx
        rcases List.mem_append.1 hx with h | h
        · exact HN.out x h
        · obtain rfl : x = l[k] := by simpa using h
          exact q)
      clear hc hsn hlen hA0
      generalize l[k] = b at *
      obtain ⟨a, ha⟩ : ∃ a, a = valP (l.take k) % 18446744073709551616 := ⟨_, rfl⟩
      obtain ⟨u, hu⟩ : ∃ u, u = 128 ^ k % 18446744073709551616 := ⟨_, rfl⟩
      obtain ⟨a2, ha2⟩ : ∃ a, a = valP (l.take (k + 1)) % 18446744073709551616 := ⟨_, rfl⟩
      obtain ⟨u2, hu2⟩ : ∃ u, u = 128 ^ (k + 1) % 18446744073709551616 := ⟨_, rfl⟩
      have eV := HV.out
      have eU := HU.out
      rw [← ha, ← hu, ← ha2] at eV
      rw [← hu, ← hu2] at eU
      rw [← ha, ← hu]
      have HA2 := Lib.hid ha2
      have HU2 := Lib.hid hu2
      have ha2lt : a2 < 18446744073709551616 := by rw [ha2]; exact Nat.mod_lt _ (by decide)
      clear ha hu ha2 hu2 HV HU
      have eW : IntKind.u64.wrap (b.toNat : Int) = (b.toNat : Int) := wU (by have := u8lt b; omega)
      by_cases hb : b.toNat < 128
      · have j1 : ¬ (128 : Int) ≤ (b.toNat : Int) := by omega
        have HF := Lib.hid (HF.out hb)
        have CU1 := Lib.hid (fun (W : World) => CU.out a2 ha2lt a2 W rfl)
        have hP : ∀ w', Below wr.heap.size wr w' → w'.cell? ⟨B, 0, none⟩ = some (.slice (some ⟨b1, off, none⟩) l.length c) := fun w' q => ((HA.out.1.then q).c 0).trans rfl
        have hks : k + 1 ≤ l.length := hlt
        have eK : IntKind.i64.wrap ((k : Int) + 1) = (k : Int) + 1 := wI (by omega) (by omega)
        have hlt1 : (l.take (k + 1)).length = k + 1 := by rw [List.length_take]; omega
        have hts : ∀ W, (Instr.slice 26 (.slice (some ⟨b1, off, none⟩) l.length c) none (some (.int .i64 ((k : Int) + 1))) none).run Try.prog W = .ok (.slice (some ⟨b1, off, none⟩) (k + 1) c) W := fun W => slice_toK u8K (A := some ⟨b1, off, none⟩) (n := l.length) (c := c) hks h3 W
        have hcb0 := conv_str (c := c) (RdK.take HA.out.2 (k + 1)) hlt1
        have hcb1 : (convert 26 9 (.slice (some ⟨b1, off, none⟩) (k + 1) c)).run Try.prog wr.drew = .ok (str (l.take (k + 1))) wr.drew := conv_str (w := wr.drew) (c := c) (RdK.take (IX.RdK.below HA.out.2 ⟨rfl, rfl, rfl, Nat.le_refl _, fun _ _ => rfl⟩) (k + 1)) hlt1
        obtain ⟨A2, c2, s1, s2, s3, _⟩ := slice_fromK u8K (c := c) HA.out.2 rfl hks h3
        have hs1 : ∀ W, (Instr.slice 26 (.slice (some ⟨b1, off, none⟩) l.length c) (some (.int .i64 ((k : Int) + 1))) none none).run Try.prog W = .ok (.slice A2 (l.length - (k + 1)) c2) W := fun W => s1 W
        have hdl : (l.drop (k + 1)).length = l.length - (k + 1) := List.length_drop
        have HS2 := Lib.hid s2
        have hnlen := numB_len64 ha2lt
        clear s1 s2
        by_cases he : numB a2 = l.take (k + 1)
        · have hcmp : ((⟨(numB a2).toArray⟩ : ByteArray).toList == (⟨(l.take (k + 1)).toArray⟩ : ByteArray).toList) = true := by rw [he]; simp
          have hcmp2 : (numB a2 == l.take (k + 1)) = true := by rw [he]; simp
          have HT0 : Hid (a2 = tv ∧ some (l.drop (k + 1)) = ts) := Lib.hid (by
            have q := HF.out
            rw [← HA2.out, if_pos he] at q
            have z := told_some (0 : Nat) q
            rw [HTV.out.1, HTV.out.2] at z
            exact ⟨z.1.symm, z.2.symm⟩)
          clear he
          go_wp2
          clear cc
          go_region_with (first
            | (go_at_call 32; (refine (CU1.out _).mono ?_); rintro e w3 ⟨v3, rfl, o3, k3⟩; obtain ⟨A3, c3, rfl, r3, _, _⟩ := o3.form; have hcv3 := conv_str (c := c3) r3 rfl; have hB3 : Below wr.heap.size wr w3 := bThen (bD1 wr) k3; have hcb3 := conv_str (c := c) (RdK.take (IX.RdK.below HA.out.2 (hB3.mono (Nat.le_trans hb0 (Nat.le_of_lt HA.out.1.lt)))) (k + 1)) hlt1; have q3 := hP _ hB3; clear o3 r3))
          all_goals
            have hh := Lib.hid (And.intro q3 hB3)
            have z0 := (HA.out.1.then hh.out.2).f 0
            have HE := Lib.hid (ratL_set hb0 (HA.out.1.then hh.out.2) rfl (HS2.out _ (IX.RdK.below HA.out.2 (hh.out.2.mono (Nat.le_trans hb0 (Nat.le_of_lt HA.out.1.lt))))) hdl s3)
            go_wp2
            go_ret
            exact ⟨by rw [← HT0.out.1]; rfl, by rw [← HT0.out.2]; exact HE.out, kset2 (.of_below (bThen K1.out hh.out.2)) _⟩
        · have hcmp := eq_str he
          have hcmp2 : (numB a2 == l.take (k + 1)) = false := by simpa using he
          have HT0 : Hid (0 = tv ∧ none = ts) := Lib.hid (by
            have q := HF.out
            rw [← HA2.out, if_neg he] at q
            have z := told_none (0 : Nat) q
            rw [HTV.out.1, HTV.out.2] at z
            exact ⟨z.1.symm, z.2.symm⟩)
          clear he
          go_wp2
          clear cc
          go_region_with (first
            | (go_at_call 32; (refine (CU1.out _).mono ?_); rintro e w3 ⟨v3, rfl, o3, k3⟩; obtain ⟨A3, c3, rfl, r3, _, _⟩ := o3.form; have hcv3 := conv_str (c := c3) r3 rfl; have hB3 : Below wr.heap.size wr w3 := bThen (bD1 wr) k3; have hcb3 := conv_str (c := c) (RdK.take (IX.RdK.below HA.out.2 (hB3.mono (Nat.le_trans hb0 (Nat.le_of_lt HA.out.1.lt)))) (k + 1)) hlt1; have q3 := hP _ hB3; clear o3 r3))
          all_goals
            have hh := Lib.hid (And.intro q3 hB3)
            have HB3 := Lib.hid (HRr.out.below hh.out.2).bad
            go_wp2_with (go_at_call 83; ((refine (CF.out _ HB3.out).mono ?_); rintro e w4 ⟨rfl, h4, k4⟩; have H4 := Lib.hid (And.intro h4 (Kept.trans (.of_below (bThen K1.out hh.out.2)) k4)); clear h4 k4))
            go_ret
            exact ⟨by rw [← HT0.out.1]; rfl, by rw [← HT0.out.2]; exact H4.out.1, H4.out.2⟩
      · have j1 : (128 : Int) ≤ (b.toNat : Int) := by omega
        have HN2 := Lib.hid (HNN.out (by omega))
        go_wp2
        refine ⟨⟨k + 1, by omega, by omega, ?_, ?_, by simp, HN2, K1.out⟩, by simp [intOf]; omega⟩
        · rw [← HA2.out]
        · rw [← HU2.out]
end Go.Proofs.Ytkgjgbenfpkekaa.YX
