/-
  The law OctetReads walked.
-/
import Derived.Test.YtfofpbdccgcocaaYBackLaw
namespace Go.Proofs.Ytfofpbdccgcocaa.YX
open Go.RowKit HL
open IX (ptr El cellsK cellsK_at cellsK_len OwnK RdK Kept slice_toK slice_fromK)
set_option maxRecDepth 100000
set_option linter.unusedVariables false
set_option linter.unusedSimpArgs false

/-- Read, and that what it made hangs on no older memory. -/
theorem read_new (A : Option Addr) (c : Nat) (l : Bs) (w : World) (h : RdK u8K w w.heap.size A l) (hn : l.length ≤ 1000000) (hA : A = none → c = 0) :
    Calls Try.prog 13 #[.slice A l.length c] w fun e w' => ∃ B, e = .returned (ptr B) ∧ RAt w' B (some l) ∧ w.heap.size ≤ B ∧ Below w.heap.size w w' ∧ (∀ (w2 : World) (P : Nat → Prop), Kept w' w2 P → (∀ j, w.heap.size ≤ j → P j) → RAt w2 B (some l)) := by
  have C := Lib.hid (cloneY A c l w h hn hA)
  clear h
  go_enter Try.func13, Try.ntmps13
  go_wp2_with (go_at_call 37; ((refine C.out.mono ?_); rintro e w1 ⟨A2, c2, rfl, hr, hc, k1, hnew⟩; have H1 := Lib.hid (And.intro hr (And.intro hc (And.intro k1 hnew))); clear hr hc k1 hnew))
  go_ret
  obtain ⟨hr, hc, k1, hnew⟩ := H1.out
  have hb := bAl (Below.refl w1.heap.size w1) (.cells #[.slice A2 l.length c2, .bool false] 69)
  refine ⟨w1.heap.size, rfl, ⟨A2, c2, AtC.new _ _ _, hr.below hb, hc⟩, k1.size, bAl k1 _, fun w2 P k hP => ⟨A2, c2, (AtC.new _ _ _).kept k (hP _ k1.size), ?_, hc⟩⟩
  have hlt : w1.heap.size ≤ (w1.alloc (.cells #[.slice A2 l.length c2, .bool false] 69)).heap.size := hb.size
  exact IX.RdK.kept (hr.below hb) k hlt (fun a q => hP _ (hnew a q))
theorem RAt.form {w : World} {B : Nat} {s : Option Bs} (h : RAt w B s) : ∃ A c, AtC w B #[.slice A (s.getD []).length c, .bool s.isNone] := by
  cases s with
  | none => exact ⟨none, 0, h⟩
  | some l => obtain ⟨A, c, h1, _⟩ := h; exact ⟨A, c, h1⟩
theorem rdK_len {k : Nat} {l : Bs} {v : Nat × Bs} {r : Bs} (h : rdK k l = some (v, r)) : r.length < l.length := by
  have e : rdK (k % 5) l = rdK k l := by simp [rdK]
  have hk := Nat.mod_lt k (show 0 < 5 by decide)
  obtain ⟨e2, _⟩ := rdK_inv (k := k % 5) (by omega) (e.trans h)
  have := thB_pos ⟨k % 5, v.1, v.2⟩
  rw [e2, List.length_append]; omega
theorem Lim.rest {s : Option Bs} (h : Lim s) (k : Nat) : Lim (rest (rdK k) s) := by
  cases s with
  | none => exact h
  | some l =>
    cases e : rdK k l with
    | none => rw [(told_none z0 e).2]; simp [Lim]
    | some y =>
      obtain ⟨v, r⟩ := y
      rw [(told_some z0 e).2]
      have := rdK_len e
      have h2 : l.length ≤ 1000000 := h
      show r.length ≤ 1000000
      omega
/-- What is left behind reads of these kinds. -/
def runK (s : Option Bs) (ks : Bs) : Option Bs := ks.foldl (fun s k => rest (rdK k.toNat) s) s
theorem runK_next {s : Option Bs} {ks : Bs} {i : Nat} (h : i < ks.length) : runK s (ks.take (i + 1)) = rest (rdK (ks[i]).toNat) (runK s (ks.take i)) := by
  unfold runK
  rw [List.take_succ_eq_append_getElem h, List.foldl_append]; rfl
theorem runK_lim {s : Option Bs} (h : Lim s) (ks : Bs) : Lim (runK s ks) := by
  induction ks generalizing s with
  | nil => exact h
  | cons k ks ih => exact ih (h.rest k.toNat)
/-- A row of one's own, as a block. -/
theorem own_block {w : World} {base : Nat} {v : Value} {l : Bs} (h : OwnK u8K w base v l) (h0 : 0 < l.length) : ∃ g c cur, v = .slice (some ⟨g, 0, none⟩) l.length c ∧ base ≤ g ∧ AtH w g 5 cur ∧ l.length ≤ cur.size := by
  rcases h.2 with ⟨_, e⟩ | ⟨g, cap, cur, e, hg, hh, hn, hc, hs, ht⟩
  · omega
  · have hs2 : cur.size = cap * 1 := hs
    exact ⟨g, cap, cur, e, hg, hh, by omega⟩
set_option maxHeartbeats 8000000 in
theorem reads_walk (A : Option Addr) (l : Bs) (c : Nat) (A2 : Option Addr) (ks : Bs) (c2 : Nat) (w : World) (h : RdK u8K w w.heap.size A l) (hA : A = none → c = 0) (hlc : l.length ≤ c) (h2 : RdK u8K w w.heap.size A2 ks) :
    Calls Try.prog 4 #[.slice A l.length c, .slice A2 ks.length c2] w fun e w' => e = .returned (.bool true) ∧ Below w.heap.size w w' := by
  by_cases hg1 : 3000 < l.length
  · have i1 : (3000 : Int) < (l.length : Int) := by omega
    clear h h2
    go_enter Try.func4, Try.ntmps4
    go_wp2
    go_ret
    exact ⟨rfl, Below.refl _ _⟩
  by_cases hg2 : 400 < ks.length
  · have i1 : ¬ (3000 : Int) < (l.length : Int) := by omega
    have i2 : (400 : Int) < (ks.length : Int) := by omega
    clear h h2
    go_enter Try.func4, Try.ntmps4
    go_wp2
    go_ret
    exact ⟨rfl, Below.refl _ _⟩
  have i1 : ¬ (3000 : Int) < (l.length : Int) := by omega
  have i2 : ¬ (400 : Int) < (ks.length : Int) := by omega
  have O0 := Lib.hid (OwnK.lit (K := u8K) w w.heap.size (Nat.le_refl _))
  have hb1 := bAl (Below.refl w.heap.size w) (.cells #[] 5)
  have R0 := Lib.hid (h.below hb1)
  have RA := Lib.hid h
  have RK := Lib.hid h2
  have HB := Lib.hid hb1
  have hq : w.heap.size ≤ (w.alloc (.cells #[] 5)).heap.size := hb1.size
  clear h h2 hb1
  go_enter Try.func4, Try.ntmps4
  go_wp2_with (at_builtin; refine IX.wpList_spreadK u8K rfl (.tmp 18) (.tmp 19) rfl w.heap.size _ [] rfl O0.out w.heap.size A l.length c l rfl rfl R0.out ?c1 hq ?_)
  case c1 => first | omega | (simp; omega)
  intro v' w5 o5 g5 f5
  try rw [List.nil_append] at o5
  have b5 := HB.out.grown g5 hq (fun a ha => (O0.out.lt a ha).1)
  have hlt5 := o5.lt
  obtain ⟨A5, c5, e5, r5, hc5, _⟩ := o5.form
  have hn5 : A5 = none → c5 = 0 := fun q => own_none (by rw [← e5]; exact o5) q
  have CR := Lib.hid (read_new A5 c5 l w5 r5 (by omega) hn5)
  have O5 := Lib.hid o5
  have B5 := Lib.hid b5
  subst e5
  clear o5 g5 f5 r5 b5 hlt5
  go_wp2_with (go_at_call 13; ((with_reducible refine CR.out.mono ?_); rintro e w6 ⟨B, rfl, h6, hB6, k6, hf6⟩; have H6 := Lib.hid h6; have F6 := Lib.hid hf6; have K6 := Lib.hid k6; have Q6 := Lib.hid hB6; clear h6 hf6 k6 hB6))
  have KX := Lib.hid (bAl (Below.refl w6.heap.size w6) (.cells #[.slice A l.length c, .bool false] 42))
  have MX := Lib.hid (AtC.new w6 #[.slice A l.length c, .bool false] 42)
  go_loopw [8] (fun i wr => ∃ k : Nat, i = .int .i64 k ∧ k ≤ l.length ∧ Hid (0 < l.length → ∃ g cur, A5 = some ⟨g, 0, none⟩ ∧ w.heap.size ≤ g ∧ g < w5.heap.size ∧ AtH wr g 5 cur ∧ l.length ≤ cur.size ∧ Kept (w6.alloc (.cells #[.slice A l.length c, .bool false] 42)) wr (· ≠ g)) ∧ Hid (l.length = 0 → wr = (w6.alloc (.cells #[.slice A l.length c, .bool false] 42)))) (fun i _ => l.length - (intOf i).toNat)
  case atStart =>
    refine ⟨0, rfl, Nat.zero_le _, Lib.hid (fun q => ?_), Lib.hid (fun _ => rfl)⟩
    obtain ⟨g, c, cur, e, hg, hh, hsz⟩ := own_block O5.out q
    cases e
    exact ⟨g, cur, rfl, hg, hh.lt, (hh.below K6.out).below KX.out, hsz, Kept.refl _ _⟩
  case round =>
    obtain ⟨k, rfl, hk, HG, HZ⟩ := hrel
    by_cases hlt : k < l.length
    · have j1 : (k : Int) < (l.length : Int) := by omega
      obtain ⟨g, cur, rfl, hg, hg5, hat, hsz, kp⟩ := HG.out (by omega)
      have hc := hat.at_.c k
      have hf := hat.at_.f k
      have hex : ∃ u, cur[k]? = some u := ⟨_, Array.getElem?_eq_getElem (by omega)⟩
      obtain ⟨u, hu⟩ := hex
      rw [hu] at hc
      have HA := Lib.hid hat
      have KP := Lib.hid kp
      clear hat kp hu
      go_wp2
      go_roundw
      case rel => exact ⟨k + 1, by go_num, by omega, Lib.hid (fun _ => ⟨g, _, rfl, hg, hg5, HA.out.set k (.int .u8 77), by simpa using hsz, kset2 KP.out _⟩), Lib.hid (fun q => by omega)⟩
      case measure => simp [intOf]; omega
    · obtain rfl : k = l.length := by omega
      have j1 : ¬ (l.length : Int) < (l.length : Int) := by omega
      -- both readers, behind the loop
      have hpair : RAt wr B (some l) ∧ RAt wr w6.heap.size (some l) ∧ Below w.heap.size w wr ∧ RdK u8K wr w.heap.size A2 ks := by
        have kx := KX.out
        by_cases h0 : l.length = 0
        · have e := HZ.out h0
          subst e
          have bw : Below w.heap.size w (w6.alloc (.cells #[.slice A l.length c, .bool false] 42)) := bThen (bThen B5.out K6.out) kx
          exact ⟨H6.out.below kx, ⟨A, c, MX.out, (RA.out.below bw).more (Nat.le_trans B5.out.size K6.out.size), hlc⟩, bw, RK.out.below bw⟩
        · obtain ⟨g, cur, rfl, hg, hg5, hat, hsz, kp⟩ := HG.out (by omega)
          have hB : B < w6.heap.size := H6.out.lt
          have bw : Below w.heap.size w wr := (bThen (bThen B5.out K6.out) kx).trans (kp.below (Nat.le_trans (Nat.le_trans B5.out.size K6.out.size) kx.size) (fun j hj => by show j ≠ g; omega))
          refine ⟨F6.out wr _ (Kept.trans (.of_below kx) kp) (fun j hj => by show j ≠ g; omega), ⟨A, c, MX.out.kept kp (by show w6.heap.size ≠ g; have := K6.out.size; omega), (RA.out.below bw).more (Nat.le_trans B5.out.size K6.out.size), hlc⟩, bw, RK.out.below bw⟩
      have hBX : B < w6.heap.size := H6.out.lt
      have hBw : w.heap.size ≤ B := Nat.le_trans B5.out.size Q6.out
      have hXw : w.heap.size ≤ w6.heap.size := Nat.le_trans B5.out.size K6.out.size
      have HP := Lib.hid hpair
      generalize w6.heap.size = X at *
      clear hpair HG HZ KX MX
      go_wp2
      have hl0 : Lim (some l) := by show l.length ≤ 1000000; omega
      go_loopw [9] (fun i wq => ∃ k : Nat, i = .int .i64 k ∧ k ≤ ks.length ∧ Hid (RAt wq B (runK (some l) (ks.take k)) ∧ RAt wq X (runK (some l) (ks.take k)) ∧ Below w.heap.size w wq)) (fun i _ => ks.length - (intOf i).toNat)
      case atStart => exact ⟨0, rfl, Nat.zero_le _, Lib.hid ⟨HP.out.1, HP.out.2.1, HP.out.2.2.1⟩⟩
      case round =>
        obtain ⟨k, rfl, hk, HS⟩ := hrel
        by_cases hlt : k < ks.length
        · have j1 : (k : Int) < (ks.length : Int) := by omega
          obtain ⟨b2, off, rfl, hb2, hc2⟩ := (rdY (RK.out.below HS.out.2.2)).at_ (by omega)
          have ck := hc2 k _ (List.getElem?_eq_getElem hlt)
          have CS := Lib.hid (fun (W : World) (q : RAt W B (runK (some l) (ks.take k))) (q2 : RAt W X (runK (some l) (ks.take k))) => same_any B X (ks[k]).toNat _ (runK_lim hl0 _) (by omega) W q q2)
          have HN := Lib.hid (runK_next (s := some l) hlt)
          rw [← HN.out] at CS
          clear hc2
          generalize ks[k] = kb at *
          obtain ⟨s2, hs2⟩ : ∃ s2, runK (some l) (ks.take (k + 1)) = s2 := ⟨_, rfl⟩
          rw [hs2] at CS
          have HS2 := Lib.hid hs2
          clear hs2 HN
          have CF := Lib.hid (fun W (q : RAt W B s2) => failed_any B s2 W q)
          have CL := Lib.hid (fun W (q : RAt W B s2) => left_any B s2 W q)
          have CE := Lib.hid (fun W (q : RAt W B s2) => end_any B s2 W q)
          have CD := Lib.hid (fun W (q : RAt W X s2) => rDone_any X s2 W q)
          obtain ⟨nl, hnl⟩ : ∃ nl, (s2.getD []).length = nl := ⟨_, rfl⟩
          obtain ⟨nf, hnf⟩ : ∃ nf, s2.isNone = nf := ⟨_, rfl⟩
          obtain ⟨nd, hnd⟩ : ∃ nd, doneB s2 = nd := ⟨_, rfl⟩
          rw [hnf] at CF
          rw [hnl] at CL
          rw [hnd] at CE CD
          obtain ⟨ne, hne, hne2⟩ : ∃ ne : Int, (if nd then (0 : Int) else 120) = ne ∧ ((ne == 0) = nd) := ⟨_, rfl, by cases nd <;> rfl⟩
          rw [hne] at CE
          have HNL := Lib.hid (And.intro hnl hnf)
          clear hnl hnf hnd hne
          go_wp2
          go_region_with (first
            | (go_at_call 14; (refine (CS.out _ (HS.out.1.below (bD1_ _)) (HS.out.2.1.below (bD1_ _))).mono ?_); rintro e w8 ⟨rfl, q1, q2, k8⟩; have hform := q2.form; rw [HNL.out.1, HNL.out.2] at hform; obtain ⟨A8, c8, m8⟩ := hform; have d0 := m8.c 0; have d1 := m8.c 1; have Q1 := Lib.hid q1; have Q2 := Lib.hid q2; have K8 := Lib.hid k8; clear q1 q2 k8 m8)
            | (go_at_call 15; (refine (CF.out _ Q1.out).mono ?_); rintro e w9 ⟨rfl, rfl⟩)
            | (go_at_call 16; (refine (CL.out _ Q1.out).mono ?_); rintro e w9 ⟨rfl, rfl⟩)
            | (go_at_call 17; (refine (CE.out _ Q1.out).mono ?_); rintro e w9 ⟨rfl, rfl⟩)
            | (go_at_call 18; (refine (CD.out _ Q2.out).mono ?_); rintro e w9 ⟨rfl, rfl⟩))
          all_goals
            have KE := Lib.hid ((bThen HS.out.2.2 (bD1_ wr)).trans (K8.out.below (bThen HS.out.2.2 (bD1_ wr)).size (fun i hi => ⟨by omega, by omega⟩)))
            go_wp2
            go_roundw
            case rel => exact ⟨k + 1, by go_num, by omega, Lib.hid ⟨by rw [HS2.out]; exact Q1.out, by rw [HS2.out]; exact Q2.out, KE.out⟩⟩
            case measure => simp [intOf]; omega
        · obtain rfl : k = ks.length := by omega
          have j1 : ¬ (ks.length : Int) < (ks.length : Int) := by omega
          have E := end_any B _ wr HS.out.1
          have D := rDone_any X _ wr HS.out.2.1
          cases hd : doneB (runK (some l) (ks.take ks.length)) with
          | true =>
            rw [hd] at E D
            have E1 : Hid (Calls Try.prog 17 #[ptr B] wr fun e w' => e = .returned (.int .i64 0) ∧ wr = w') := Lib.hid E
            have D1 := Lib.hid D
            clear E D hd
            go_wp2_with (first
              | (go_at_call 17; ((refine E1.out.mono ?_); rintro e wa ⟨rfl, rfl⟩))
              | (go_at_call 18; ((refine D1.out.mono ?_); rintro e wa ⟨rfl, rfl⟩)))
            go_ret
            exact ⟨rfl, HS.out.2.2⟩
          | false =>
            rw [hd] at E D
            have E1 : Hid (Calls Try.prog 17 #[ptr B] wr fun e w' => e = .returned (.int .i64 120) ∧ wr = w') := Lib.hid E
            have D1 := Lib.hid D
            clear E D hd
            go_wp2_with (first
              | (go_at_call 17; ((refine E1.out.mono ?_); rintro e wa ⟨rfl, rfl⟩))
              | (go_at_call 18; ((refine D1.out.mono ?_); rintro e wa ⟨rfl, rfl⟩)))
            go_ret
            exact ⟨rfl, HS.out.2.2⟩
end Go.Proofs.Ytfofpbdccgcocaa.YX
