/-
  WALKS: the document's index: Place, Find, At; rows of numbers that are the same.
-/
import Derived.Test.YtpdhfogmdhnoeaaIFrom
namespace Go.Proofs.Ytpdhfogmdhnoeaa.IX
open Go.RowKit HL
set_option maxRecDepth 100000
set_option linter.unusedVariables false
set_option linter.unusedSimpArgs false

/-- The document's index at block X: its texts in vH, its numbers in vN. -/
structure RfAt (w : World) (X : Nat) (vH vN : Value) (l : List Rw) : Prop where
  a : AtC w X #[vH, vN]
  h : OwnK strK w 0 vH (keys l)
  n : OwnK intK w 0 vN (nums l)
  nh : vH.ownBlock ≠ some X
  nn : vN.ownBlock ≠ some X
  up : Up l
theorem RfAt.kept {w w' : World} {P : Nat → Prop} {X : Nat} {vH vN : Value} {l : List Rw} (q : RfAt w X vH vN l) (k : Kept w w' P) (h1 : P X) (h2 : ∀ b, vH.ownBlock = some b → P b) (h3 : ∀ b, vN.ownBlock = some b → P b) : RfAt w' X vH vN l :=
  ⟨k.atC q.a h1, q.h.kept k h2, q.n.kept k h3, q.nh, q.nn, q.up⟩
theorem RfAt.then {w w' : World} {X : Nat} {vH vN : Value} {l : List Rw} (q : RfAt w X vH vN l) (k : Below w.heap.size w w') : RfAt w' X vH vN l := q.kept (P := fun _ => True) (.of_below k) trivial (fun _ _ => trivial) (fun _ _ => trivial)
theorem RfAt.c0 {w : World} {X : Nat} {vH vN : Value} {l : List Rw} (q : RfAt w X vH vN l) : w.cell? ⟨X, 0, none⟩ = some vH := q.a.c 0
theorem RfAt.c1 {w : World} {X : Nat} {vH vN : Value} {l : List Rw} (q : RfAt w X vH vN l) : w.cell? ⟨X, 1, none⟩ = some vN := q.a.c 1
theorem RfAt.formH {w : World} {X : Nat} {vH vN : Value} {l : List Rw} (q : RfAt w X vH vN l) : ∃ A c, vH = .slice A l.length c ∧ RdK strK w w.heap.size A (keys l) ∧ l.length ≤ c := by
  obtain ⟨A, c, e, r, hc, _⟩ := q.h.form
  rw [keys_len] at e hc
  exact ⟨A, c, e, r, hc⟩
theorem RfAt.formN {w : World} {X : Nat} {vH vN : Value} {l : List Rw} (q : RfAt w X vH vN l) : ∃ A c, vN = .slice A l.length c ∧ RdK intK w w.heap.size A (nums l) ∧ l.length ≤ c := by
  obtain ⟨A, c, e, r, hc, _⟩ := q.n.form
  rw [nums_len] at e hc
  exact ⟨A, c, e, r, hc⟩
theorem plc_step {l : List Rw} {h : Bs} {k : Nat} (hk : k < l.length) : plc (l.take (k + 1)) h = plc (l.take k) h + if l[k].1 < h then 1 else 0 := by
  rw [List.take_succ_eq_append_getElem hk]
  unfold plc
  rw [List.countP_append]
  by_cases q : l[k].1 < h <;> simp [q]
set_option maxHeartbeats 1000000 in
theorem rPlace_any (X : Nat) (vH vN : Value) (l : List Rw) (h : Bs) (w : World) (hR : RfAt w X vH vN l) (hn : l.length ≤ 1000000) (hh : h.length ≤ maxLen) (hk : ∀ r ∈ l, r.1.length ≤ maxLen) :
    Calls Try.prog 36 #[ptr X, str h] w fun e w' => e = .returned (.int .i64 (plc l h)) ∧ Below w.heap.size w w' := by
  obtain ⟨A, c, rfl, rd, _⟩ := hR.formH
  have HR := Lib.hid hR
  have HRD := Lib.hid rd.strs
  have HL := Lib.hid hk
  have hb0 : Below w.heap.size w w := Below.refl _ _
  clear hR rd hk
  go_enter Try.func36, Try.ntmps36
  go_wp2
  go_loopw [5, 6] (fun m i wr => ∃ k q : Nat, i = .int .i64 k ∧ m = .int .i64 q ∧ Hid (q = plc (l.take k) h) ∧ q ≤ k ∧ k ≤ l.length ∧ Below w.heap.size w wr) (fun _ i _ => l.length - (intOf i).toNat)
  case atStart => exact ⟨0, 0, rfl, rfl, Lib.hid (by simp [plc]), Nat.le_refl _, Nat.zero_le _, hb0⟩
  case round =>
    obtain ⟨k, q, rfl, rfl, HQ, hq, hk, hb⟩ := hrel
    have c0 := (HR.out.then hb).c0
    by_cases hlt : k < l.length
    · obtain ⟨b, off, rfl, hbb, hcc⟩ := (HRD.out.below (hb.mono (Nat.le_refl _))).at_ (by rw [keys_len]; omega)
      have q1 := hcc k _ (keys_get hlt)
      have i1 : (k : Int) < l.length := by omega
      have HS := Lib.hid (plc_step (h := h) hlt)
      have C := Lib.hid (fun W => refCompare_any ⟨l[k].1.toArray⟩ ⟨h.toArray⟩ W (HL.out _ (List.getElem_mem hlt)) hh)
      have HC := Lib.hid (cmp_neg (a := l[k].1) (h := h))
      clear hcc c0
      have c0 := (HR.out.then hb).c0
      generalize l[k] = r at *
      have C : Hid (∀ W, Calls Try.prog 47 #[str r.1, str h] W fun e w' => e = .returned (.int .i64 (Lib.compareBytes r.1 h)) ∧ Dr W w') := C
      by_cases hx : r.1 < h
      · have hz := HC.out.2 hx
        have HQ2 : Hid (q + 1 = plc (l.take (k + 1)) h) := Lib.hid (by rw [HS.out, if_pos hx, HQ.out])
        generalize Lib.compareBytes r.1 h = z at *
        go_wp2_with (go_at_call 47; ((with_reducible refine (C.out _).mono ?_); rintro e w1 ⟨rfl, k1⟩; replace hb := bThen hb (k1.below _)))
        go_roundw
        case rel => exact ⟨k + 1, q + 1, by go_num, by go_num, HQ2, by omega, by omega, hb⟩
        case measure => simp [intOf]; omega
      · have hz := mt HC.out.1 hx
        have HQ2 : Hid (q = plc (l.take (k + 1)) h) := Lib.hid (by rw [HS.out, if_neg hx, HQ.out]; rfl)
        generalize Lib.compareBytes r.1 h = z at *
        go_wp2_with (go_at_call 47; ((with_reducible refine (C.out _).mono ?_); rintro e w1 ⟨rfl, k1⟩; replace hb := bThen hb (k1.below _)))
        go_roundw
        case rel => exact ⟨k + 1, q, by go_num, rfl, HQ2, by omega, by omega, hb⟩
        case measure => simp [intOf]; omega
    · obtain rfl : k = l.length := by omega
      have HQ2 : Hid (q = plc l h) := Lib.hid (by have := HQ.out; rwa [List.take_length] at this)
      go_wp2
      go_ret
      exact ⟨by rw [← HQ2.out]; rfl, hb⟩
set_option maxHeartbeats 1000000 in
theorem rFind_any (X : Nat) (vH vN : Value) (l : List Rw) (h : Bs) (w : World) (hR : RfAt w X vH vN l) (hn : l.length ≤ 1000000) :
    Calls Try.prog 35 #[ptr X, str h] w fun e w' => e = .returned (.tuple #[.int .i64 (numOf l h), .bool (hasB l h)]) ∧ w = w' := by
  obtain ⟨A, c, rfl, rd, _⟩ := hR.formH
  obtain ⟨A2, c2, rfl, rd2, _⟩ := hR.formN
  have c0 := hR.c0
  have c1 := hR.c1
  have HU := Lib.hid hR.up
  have HRD := Lib.hid rd.strs
  have HRN := Lib.hid rd2.ints
  clear hR rd rd2
  go_enter Try.func35, Try.ntmps35
  go_wp2
  go_loop [6] (fun i => ∃ k : Nat, i = .int .i64 k ∧ k ≤ l.length ∧ Hid (∀ j (hj : j < l.length), j < k → l[j].1 ≠ h)) (fun i => l.length - (intOf i).toNat)
  case atStart => exact ⟨0, rfl, Nat.zero_le _, Lib.hid (fun j _ hj => absurd hj (Nat.not_lt_zero _))⟩
  case round =>
    obtain ⟨k, rfl, hk, HN⟩ := hrel
    by_cases hlt : k < l.length
    · obtain ⟨b, off, rfl, hbb, hcc⟩ := HRD.out.at_ (by rw [keys_len]; omega)
      have q1 := hcc k _ (keys_get hlt)
      obtain ⟨b2, off2, rfl, _, hcc2⟩ := HRN.out.at_ (by rw [nums_len]; omega)
      have q2 := hcc2 k _ (nums_get hlt)
      have i1 : (k : Int) < l.length := by omega
      clear hcc hcc2
      by_cases he : l[k].1 = h
      · have HV : Hid (numOf l h = l[k].2 ∧ hasB l h = true) := Lib.hid (by rw [← he]; exact ⟨numOf_at HU.out hlt, has_of hlt rfl⟩)
        have hb : (l[k].1 == h) = true := by simpa using he
        clear he
        generalize l[k] = r at *
        go_wp2
        go_ret2
        exact ⟨by rw [HV.out.1, HV.out.2]; rfl, rfl⟩
      · have hb : (l[k].1 == h) = false := by simpa using he
        have HN2 : Hid (∀ j (hj : j < l.length), j < k + 1 → l[j].1 ≠ h) := Lib.hid (fun j hj h2 => by
          by_cases e : j = k
          · subst e; exact he
          · exact HN.out j hj (by omega))
        clear he
        generalize l[k] = r at *
        go_wp2
        go_round
        case rel => exact ⟨k + 1, by go_num, by omega, HN2⟩
        case measure => simp [intOf]; omega
    · have hf : hasB l h = false := hasB_f.2 (fun q => by
        obtain ⟨r, hr, rfl⟩ := List.mem_map.1 q
        obtain ⟨j, hj, rfl⟩ := List.getElem_of_mem hr
        exact HN.out j hj (by omega) rfl)
      have HV := Lib.hid (show numOf l h = 0 ∧ hasB l h = false from ⟨numOf_f hf, hf⟩)
      clear hf
      go_wp2
      go_ret2
      exact ⟨by rw [HV.out.1, HV.out.2]; rfl, rfl⟩
set_option maxHeartbeats 1000000 in
theorem rAt_any (X : Nat) (vH vN : Value) (l : List Rw) (i : Int) (w : World) (hR : RfAt w X vH vN l) (hn : l.length ≤ 1000000) :
    Calls Try.prog 39 #[ptr X, .int .i64 i] w fun e w' => e = .returned (.tuple #[str (atH l i), .int .i64 (atN l i), .bool (inB l i)]) ∧ Below w.heap.size w w' := by
  obtain ⟨A, c, rfl, rd, _⟩ := hR.formH
  obtain ⟨A2, c2, rfl, rd2, _⟩ := hR.formN
  have c0 := hR.c0
  have c1 := hR.c1
  by_cases h0 : 0 ≤ i
  · obtain ⟨k, rfl⟩ := Int.eq_ofNat_of_zero_le h0
    by_cases hk : k < l.length
    · obtain ⟨e1, e2⟩ := at_nat hk
      have HV := Lib.hid (show atH l k = l[k].1 ∧ atN l k = l[k].2 ∧ inB l k = true from ⟨e1, e2, inB_nat l k hk⟩)
      obtain ⟨b, off, rfl, hbb, hcc⟩ := rd.strs.at_ (by rw [keys_len]; omega)
      have q1 := hcc k _ (keys_get hk)
      obtain ⟨b2, off2, rfl, _, hcc2⟩ := rd2.ints.at_ (by rw [nums_len]; omega)
      have q2 := hcc2 k _ (nums_get hk)
      have i1 : (k : Int) < l.length := by omega
      clear hR rd rd2 hcc hcc2 e1 e2 h0
      generalize l[k] = r at *
      generalize atH l k = x at *
      generalize atN l k = y at *
      generalize inB l k = z at *
      go_enter Try.func39, Try.ntmps39
      go_wp2
      go_quiet (fail)
      go_wp2
      go_ret3
      exact ⟨by rw [HV.out.1, HV.out.2.1, HV.out.2.2]; rfl, bDrew (Below.refl _ _) _⟩
    · have i1 : ¬ (k : Int) < l.length := by omega
      have HV := Lib.hid (show atH l k = [] ∧ atN l k = 0 ∧ inB l k = false by simp [atH, atN, inB, i1])
      clear hR rd rd2
      go_enter Try.func39, Try.ntmps39
      go_wp2
      go_ret3
      exact ⟨by rw [HV.out.1, HV.out.2.1, HV.out.2.2]; rfl, Below.refl _ _⟩
  · have HV := Lib.hid (show atH l i = [] ∧ atN l i = 0 ∧ inB l i = false by simp [atH, atN, inB, h0])
    clear hR rd rd2
    go_enter Try.func39, Try.ntmps39
    go_wp2
    go_ret3
    exact ⟨by rw [HV.out.1, HV.out.2.1, HV.out.2.2]; rfl, Below.refl _ _⟩
set_option maxHeartbeats 1000000 in
/-- Two rows of the same numbers. -/
theorem iSame_any (A1 A2 : Option Addr) (c1 c2 n : Nat) (xs : List Int) (w : World) (B : Nat) (h1 : RdI w B A1 xs) (h2 : RdI w B A2 xs) (hl : xs.length = n) (hn : n ≤ 1000000) :
    Calls Try.prog 40 #[.slice A1 n c1, .slice A2 n c2] w fun e w' => e = .returned (.bool true) ∧ Below w.heap.size w w' := by
  subst hl
  have hb0 : Below w.heap.size w w := Below.refl _ _
  have H1 := Lib.hid h1
  have H2 := Lib.hid h2
  clear h1 h2
  go_enter Try.func40, Try.ntmps40
  go_wp2
  go_loopw [5] (fun i wr => ∃ k q : Nat, i = .int .i64 k ∧ k ≤ xs.length ∧ wr = w.drewN q) (fun i _ => xs.length - (intOf i).toNat)
  case atStart => exact ⟨0, 0, rfl, Nat.zero_le _, rfl⟩
  case round =>
    obtain ⟨k, q, rfl, hk, rfl⟩ := hrel
    by_cases hlt : k < xs.length
    · obtain ⟨b1, o1, rfl, _, hc1⟩ := H1.out.at_ (by omega)
      obtain ⟨b2, o2, rfl, _, hc2⟩ := H2.out.at_ (by omega)
      have hx1 := hc1 k _ (List.getElem?_eq_getElem hlt)
      have hx2 := hc2 k _ (List.getElem?_eq_getElem hlt)
      have i1 : (k : Int) < (xs.length : Int) := by omega
      clear hc1 hc2
      generalize xs[k] = z at *
      go_wp2
      go_quiet (fail)
      go_wp2
      go_roundw
      case rel => exact ⟨k + 1, _, by go_num, by omega, rfl⟩
      case measure => simp [intOf]; omega
    · obtain rfl : k = xs.length := by omega
      go_wp2
      go_ret
      exact ⟨rfl, bDrew hb0 _⟩
end Go.Proofs.Ytpdhfogmdhnoeaa.IX
