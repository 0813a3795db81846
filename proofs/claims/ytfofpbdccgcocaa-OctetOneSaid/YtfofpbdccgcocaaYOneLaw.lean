/-
  The law OctetOne walked.
-/
import Derived.Test.YtfofpbdccgcocaaYBackLaw
import Derived.Deep.QuietTactic
namespace Go.Proofs.Ytfofpbdccgcocaa.YX
open Go.RowKit HL
open IX (ptr El cellsK cellsK_at cellsK_len OwnK RdK Kept slice_toK slice_fromK)
set_option maxRecDepth 100000
set_option linter.unusedVariables false
set_option linter.unusedSimpArgs false

/-- What is read of bytes, kind by kind: the things, and what is left, or none: it has failed. -/
def readL (b : Bs) (ks : Bs) : Option (List Th × Bs) := ks.foldl (fun s k => s.bind fun x => (rdK k.toNat x.2).map fun y => (x.1 ++ [⟨k.toNat, y.1.1, y.1.2⟩], y.2)) (some ([], b))
theorem readL_next {b ks : Bs} {i : Nat} (h : i < ks.length) : readL b (ks.take (i + 1)) = (readL b (ks.take i)).bind fun x => (rdK (ks[i]).toNat x.2).map fun y => (x.1 ++ [⟨(ks[i]).toNat, y.1.1, y.1.2⟩], y.2) := by
  unfold readL
  rw [List.take_succ_eq_append_getElem h, List.foldl_append]; rfl
/-- One read more. -/
theorem one_step {b r : Bs} {l : List Th} {k : UInt8} {v : Nat × Bs} {r2 : Bs} (h : b = enc l ++ r) (hl : ∀ x ∈ l, ThOk x ∧ x.s.length ≤ 255) (hb : b.length ≤ 3000) (h2 : rdK k.toNat r = some (v, r2)) :
    b = enc (l ++ [⟨k.toNat, v.1, v.2⟩]) ++ r2 ∧ (∀ x ∈ l ++ [(⟨k.toNat, v.1, v.2⟩ : Th)], ThOk x ∧ x.s.length ≤ 255) ∧ r2.length < r.length ∧ wrL (some []) (l ++ [⟨k.toNat, v.1, v.2⟩]) = some (b.take (b.length - r2.length)) := by
  obtain ⟨e, ok, hs, _⟩ := rdK_inv (u8lt k) h2
  have e1 : b = enc (l ++ [⟨k.toNat, v.1, v.2⟩]) ++ r2 := by
    rw [h, e, enc_app, List.append_assoc]; simp [enc]
  have hall : ∀ x ∈ l ++ [(⟨k.toNat, v.1, v.2⟩ : Th)], ThOk x ∧ x.s.length ≤ 255 := fun x hx => by
    rcases List.mem_append.1 hx with q | q
    · exact hl x q
    · obtain rfl : x = _ := by simpa using q
      exact ⟨ok, hs⟩
  have hlen := congrArg List.length e1
  rw [List.length_append] at hlen
  refine ⟨e1, hall, ?_, ?_⟩
  · have := thB_pos ⟨k.toNat, v.1, v.2⟩
    have := congrArg List.length e
    rw [List.length_append] at this; omega
  · have := wrL_ok (l := l ++ [⟨k.toNat, v.1, v.2⟩]) (a := []) (fun x hx _ => (hall x hx).2) (by rw [List.nil_append]; omega)
    rw [this, List.nil_append]
    congr 1
    conv => rhs; rw [e1]
    rw [List.take_append_of_le_length (by rw [← e1]; omega)]
    exact (List.take_of_length_le (by rw [← e1]; omega)).symm
/-- A row of things of one's own reads. -/
theorem own_rd {w : World} {base : Nat} {v : Value} {l : List Th} (h : OwnK thK w base v l) : ∃ A c, v = .slice A l.length c ∧ RdT w w.heap.size A l := by
  obtain ⟨A, c, e, r, _⟩ := h.form
  exact ⟨A, c, e, rdT_of r⟩
theorem rdLitT (W : World) (g : Nat) (hg : g = W.heap.size) (x : Th) : RdK thK (W.alloc (.cells (thC x) 32)) (g + 1) (some ⟨g, 0, none⟩) [x] := by
  subst hg
  exact RdK.lit (K := thK) W x (thC x) rfl 32
set_option maxHeartbeats 16000000 in
theorem one_walk (A1 : Option Addr) (b : Bs) (c1 : Nat) (hlc : b.length ≤ c1) (hn1 : A1 = none → c1 = 0) (A : Option Addr) (ks : Bs) (c : Nat) (w : World) (hb : RdK u8K w w.heap.size A1 b) (h : RdK u8K w w.heap.size A ks) :
    Calls Try.prog 7 #[.slice A1 b.length c1, .slice A ks.length c] w fun e w' => e = .returned (.bool true) ∧ Below w.heap.size w w' := by
  have CA := Lib.hid (awake_any w)
  have HR := Lib.hid h
  have HB := Lib.hid hb
  clear h hb
  by_cases hg1 : 3000 < b.length
  · have i1 : (3000 : Int) < (b.length : Int) := by omega
    go_enter Try.func7, Try.ntmps7
    go_wp2_with (go_at_call 24; ((with_reducible refine CA.out.mono ?_); rintro e w1 ⟨rfl, k1⟩; have K1 := Lib.hid k1; clear k1))
    go_ret
    exact ⟨rfl, K1.out⟩
  by_cases hg2 : 400 < ks.length
  · have i1 : ¬ (3000 : Int) < (b.length : Int) := by omega
    have i2 : (400 : Int) < (ks.length : Int) := by omega
    go_enter Try.func7, Try.ntmps7
    go_wp2_with (go_at_call 24; ((with_reducible refine CA.out.mono ?_); rintro e w1 ⟨rfl, k1⟩; have K1 := Lib.hid k1; clear k1))
    go_ret
    exact ⟨rfl, K1.out⟩
  have i1 : ¬ (3000 : Int) < (b.length : Int) := by omega
  have i2 : ¬ (400 : Int) < (ks.length : Int) := by omega
  have CR := Lib.hid (fun (W : World) (q : Below w.heap.size w W) => read_any A1 c1 b W ((HB.out.below q).more q.size) (by omega) hn1)
  go_enter Try.func7, Try.ntmps7
  go_wp2_with (first
    | (go_at_call 24; ((with_reducible refine CA.out.mono ?_); rintro e w1 ⟨rfl, k1⟩; have K1 := Lib.hid k1; clear k1))
    | (go_at_call 13; ((with_reducible refine (CR.out _ K1.out).mono ?_); rintro e w2 ⟨B, rfl, h2, hB, k2⟩; have H2 := Lib.hid h2; have K2 := Lib.hid (bThen K1.out k2); have QB := Lib.hid (show w.heap.size ≤ B from Nat.le_trans K1.out.size hB); clear h2 hB k2)))
  go_loopw [6, 7] (fun lv iv wr => ∃ (k : Nat) (ls : List Th) (r : Bs), iv = .int .i64 k ∧ k ≤ ks.length ∧ Hid (b = enc ls ++ r ∧ (∀ x ∈ ls, ThOk x ∧ x.s.length ≤ 255) ∧ ls.length = k) ∧ Hid (RAt wr B (some r)) ∧ Hid (OwnK thK wr (B + 1) lv ls) ∧ Hid (Below w.heap.size w wr)) (fun _ iv _ => ks.length - (intOf iv).toNat)
  case atStart => exact ⟨0, [], b, rfl, Nat.zero_le _, Lib.hid ⟨rfl, fun x hx => (by cases hx), rfl⟩, H2, Lib.hid (OwnK.nil_ thK w2 _), K2⟩
  case round =>
    obtain ⟨k, ls, r, rfl, hk, HE, HA, HO, HK⟩ := hrel
    by_cases hlt : k < ks.length
    · have j1 : (k : Int) < (ks.length : Int) := by omega
      obtain ⟨b1, off, rfl, hb1, hc⟩ := (rdY (HR.out.below HK.out)).at_ (by omega)
      have d0 := hc k _ (List.getElem?_eq_getElem hlt)
      have hw1 : b1 < wr.heap.size := Nat.lt_of_lt_of_le hb1 HK.out.size
      have nb1 : b1 ≠ B := by have := QB.out; omega
      have CL : Hid (Calls Try.prog 16 #[ptr B] wr fun e w' => e = .returned (.int .i64 (r.length : Nat)) ∧ wr = w') := Lib.hid (left_any B (some r) wr HA.out)
      generalize ks[k] = kb at *
      have CT := Lib.hid (take_any B kb.toNat (some r) wr HA.out)
      clear hc
      cases hrd : rdK kb.toNat r with
      | none =>
        have hth : thOf kb.toNat (some r) = ⟨kb.toNat, 0, []⟩ := by
          unfold thOf; rw [(told_none z0 hrd).1]
        rw [hth, (told_none z0 hrd).2] at CT
        have CF := Lib.hid (fun W (q : RAt W B none) => failed_any B none W q)
        have CL2 := Lib.hid (fun W (q : RAt W B none) => left_any B none W q)
        have CE := Lib.hid (fun W (q : RAt W B none) => end_any B none W q)
        clear hth hrd
        go_wp2_with (first
          | (go_at_call 16; ((with_reducible refine CL.out.mono ?_); rintro e wa ⟨rfl, rfl⟩))
          | (go_at_call 27; ((with_reducible refine CT.out.mono ?_); rintro e wb ⟨rfl, hb, kb⟩; have HB2 := Lib.hid hb; have KB := Lib.hid (HK.out.trans (kb.below HK.out.size (fun i hi => by show i ≠ B; have := QB.out; omega))); clear hb kb))
          | (go_at_call 15; ((refine (CF.out _ (HB2.out.below (bAl (Below.refl _ _) _))).mono ?_); rintro e wc ⟨rfl, rfl⟩))
          | (go_at_call 16; ((refine (CL2.out _ (HB2.out.below (bAl (Below.refl _ _) _))).mono ?_); rintro e wc ⟨rfl, rfl⟩))
          | (go_at_call 17; ((refine (CE.out _ (HB2.out.below (bAl (Below.refl _ _) _))).mono ?_); rintro e wc ⟨rfl, rfl⟩)))
        go_ret
        exact ⟨rfl, bThen KB.out (bAl (Below.refl _ _) _)⟩
      | some y =>
        obtain ⟨v, r2⟩ := y
        obtain ⟨s1, s2, s3, s4⟩ := one_step HE.out.1 HE.out.2.1 (by omega) hrd
        have hth : thOf kb.toNat (some r) = ⟨kb.toNat, v.1, v.2⟩ := by
          unfold thOf; rw [(told_some z0 hrd).1]
        rw [hth, (told_some z0 hrd).2] at CT
        have hls := HE.out.2.2
        have j2 : ¬ ((r.length : Int) ≤ (r2.length : Int)) := by omega
        have CF : Hid (∀ W, RAt W B (some r2) → Calls Try.prog 15 #[ptr B] W fun e w' => e = .returned (.bool false) ∧ W = w') := Lib.hid (fun W (q : RAt W B (some r2)) => failed_any B (some r2) W q)
        have CL2 : Hid (∀ W, RAt W B (some r2) → Calls Try.prog 16 #[ptr B] W fun e w' => e = .returned (.int .i64 (r2.length : Nat)) ∧ W = w') := Lib.hid (fun W (q : RAt W B (some r2)) => left_any B (some r2) W q)
        obtain ⟨x, hx⟩ : ∃ x : Th, x = ⟨kb.toNat, v.1, v.2⟩ := ⟨_, rfl⟩
        rw [← hx] at CT s1 s2 s4
        obtain ⟨n1, hn1⟩ : ∃ n1, b.length - r2.length = n1 := ⟨_, rfl⟩
        rw [hn1] at s4
        have hr2b : r2.length ≤ b.length := by have := congrArg List.length s1; rw [List.length_append] at this; omega
        have hout : (b.take n1).length = n1 := by rw [List.length_take]; omega
        have eN : IntKind.i64.wrap ((b.length : Int) - (r2.length : Int)) = (n1 : Int) := by rw [wI (by omega) (by omega)]; omega
        have HS := Lib.hid (And.intro s1 (And.intro s2 s4))
        have hlv := HO.out.lt
        have HO2 := Lib.hid (fun (w' : World) (q : Kept wr w' (· ≠ B)) => HO.out.kept q (fun b' e => by show b' ≠ B; have := (hlv b' e).1; omega))
        clear hth hrd hx s1 s2 s4 hlv
        go_wp2_with (first
          | (go_at_call 27; ((with_reducible refine CT.out.mono ?_); rintro e wb ⟨rfl, hb, kb⟩; have HB2 := Lib.hid hb; have HO3 := Lib.hid (HO2.out wb kb); have KB := Lib.hid (HK.out.trans (kb.below HK.out.size (fun i hi => by show i ≠ B; have := QB.out; omega))); have mS := AtC.new wb (thC x) 32; have c0 := mS.c 0; have c1' := mS.c 1; have c2' := mS.c 2; have z3 := Lib.hid (bAl (Below.refl wb.heap.size wb) (.cells (thC x) 32)); clear hb kb mS))
          | (go_at_call 15; ((refine (CF.out _ (HB2.out.below z3.out)).mono ?_); rintro e wc ⟨rfl, rfl⟩))
          | (go_at_call 16; ((with_reducible refine CL.out.mono ?_); rintro e wa ⟨rfl, rfl⟩))
          | (go_at_call 16; ((refine (CL2.out _ (HB2.out.below z3.out)).mono ?_); rintro e wc ⟨rfl, rfl⟩))
          | (at_builtin; refine IX.wpList_spreadK thK rfl (.tmp 64) (.tmp 66) rfl (B + 1) _ ls rfl ((HO3.out.below z3.out).below (bAl (Below.refl _ _) _)) (wb.heap.size + 1 + 1) (some ⟨wb.heap.size + 1, 0, none⟩) 1 1 [x] rfl rfl (rdLitT _ (wb.heap.size + 1) (by simp) x) ?c1 ?c2 ?_))
        case c1 => simp; omega
        case c2 => have := HB2.out.lt; simp; omega
        intro v5 w5 o5 g5 f5
        have b45 : Below w.heap.size w ((wb.alloc (.cells (thC x) 32)).alloc (.cells (thC x) 32)) := bThen (bThen KB.out z3.out) (bAl (Below.refl _ _) _)
        have hlv := HO3.out.lt
        have K5 := Lib.hid (b45.grown g5 b45.size (fun a ha => by have := (hlv a ha).1; have := QB.out; omega))
        have k45 : Kept ((wb.alloc (.cells (thC x) 32)).alloc (.cells (thC x) 32)) w5 (fun j => j ≤ B) := (Kept.refl _ _).grown g5 (fun a ha _ q => by have := (hlv a ha).1; have q : a ≤ B := q; omega)
        have R5 := Lib.hid (((HB2.out.below z3.out).below (bAl (Below.refl _ _) (.cells (thC x) 32))).kept k45 (fun j hj => hj))
        have O5 := Lib.hid o5
        obtain ⟨A5, c5, e5, r5⟩ := own_rd o5
        have hl5 : (ls ++ [x]).length = k + 1 := by simp [hls]
        subst e5
        have CW : Hid (Calls Try.prog 25 #[.slice A5 (ls ++ [x]).length c5] w5 fun e w' => Told w5 (some (b.take n1)) e w') := Lib.hid (by
          have := wrote_any (ls ++ [x]) (fun y hy => (HS.out.2.1 y hy).1) (fun y hy => by have := (HS.out.2.1 y hy).2; omega) (by rw [hl5]; omega) A5 c5 w5 r5
          rw [HS.out.2.2] at this; exact this)
        rw [hl5] at *
        clear o5 g5 f5 r5 b45 hlv k45
        go_wp2_with (go_at_call 25; ((with_reducible refine CW.out.mono ?_); rintro e w6 ⟨k6, v6, rfl, g6⟩; obtain ⟨g, cg, ev, rg, hcg, hg5, hg6, _⟩ := g6.rd; rw [hout] at ev; subst ev; have R6 := Lib.hid (R5.out.below k6); have K6 := Lib.hid (bThen K5.out k6); have O6 := Lib.hid (O5.out.below k6); have RG := Lib.hid rg; have RB := Lib.hid (HB.out.below (bThen K5.out k6)); clear k6 g6 rg))
        have hcv1 : ∀ n, (convert 28 9 (.slice (some ⟨g, 0, none⟩) n1 cg)).run Try.prog (w6.drewN n) = .ok (str (b.take n1)) (w6.drewN n) := fun n => conv_str (IX.RdK.below RG.out (bDrew (Below.refl _ _) n)) hout
        have hcv2 : ∀ n, (convert 28 9 (.slice A1 n1 c1)).run Try.prog (w6.drewN n) = .ok (str (b.take n1)) (w6.drewN n) := fun n => conv_str (RdK.take (IX.RdK.below RB.out ⟨rfl, rfl, rfl, Nat.le_refl _, fun _ _ => rfl⟩) n1) hout
        have hsl : ∀ W, (Instr.slice 28 (.slice A1 b.length c1) none (some (.int .i64 n1)) none).run Try.prog W = .ok (.slice A1 n1 c1) W := fun W => slice_toK u8K (by omega) hlc W
        go_quiet ((go_at_call 16; exact Calls.quiet_of_same ((CL2.out _ (R6.out.below (bDrew (Below.refl _ _) _))).mono fun _ _ h => ⟨h.1, h.2.symm⟩)))
        go_wp2
        exact ⟨⟨k + 1, ls ++ [x], r2, by simp, by omega, Lib.hid ⟨HS.out.1, HS.out.2.1, by simp [hls]⟩, Lib.hid (RAt.below R6.out (bDrew (Below.refl _ _) _)), Lib.hid (OwnK.below O6.out (bDrew (Below.refl _ _) _)), Lib.hid (bDrew K6.out _)⟩, by simp [intOf]; omega⟩
    · obtain rfl : k = ks.length := by omega
      have j1 : ¬ (ks.length : Int) < (ks.length : Int) := by omega
      have E := end_any B (some r) wr HA.out
      have CL : Hid (Calls Try.prog 16 #[ptr B] wr fun e w' => e = .returned (.int .i64 (r.length : Nat)) ∧ wr = w') := Lib.hid (left_any B (some r) wr HA.out)
      cases r with
      | nil =>
        have CE : Hid (Calls Try.prog 17 #[ptr B] wr fun e w' => e = .returned (.int .i64 0) ∧ wr = w') := Lib.hid E
        clear E
        go_wp2_with (first
          | (go_at_call 17; ((with_reducible refine CE.out.mono ?_); rintro e wa ⟨rfl, rfl⟩))
          | (go_at_call 16; ((with_reducible refine CL.out.mono ?_); rintro e wa ⟨rfl, rfl⟩)))
        go_ret
        exact ⟨by first | rfl | simp, HK.out⟩
      | cons y r =>
        have CE : Hid (Calls Try.prog 17 #[ptr B] wr fun e w' => e = .returned (.int .i64 120) ∧ wr = w') := Lib.hid E
        clear E
        have hne : ¬ ((r.length : Int) + 1 = 0) := by omega
        go_wp2_with (first
          | (go_at_call 17; ((with_reducible refine CE.out.mono ?_); rintro e wa ⟨rfl, rfl⟩))
          | (go_at_call 16; ((with_reducible refine CL.out.mono ?_); rintro e wa ⟨rfl, rfl⟩)))
        go_ret
        exact ⟨by first | rfl | (simp; done) | (simp; omega), HK.out⟩
end Go.Proofs.Ytfofpbdccgcocaa.YX
