/-
  WALK: the law ContainGroups.
-/
import Derived.Test.YtmhckcpcnkhbeaaDoorCAwake
namespace Go.Proofs.YtmhckcpcnkhbeaaDoor
open Go.RowKit
set_option maxRecDepth 100000
set_option linter.unusedVariables false
set_option linter.unusedSimpArgs false

theorem cnt_rep (n k g : Nat) : cnt (List.replicate n k) g = if grp k = g then n else 0 := by
  unfold cnt
  rw [List.filter_replicate]
  by_cases e : grp k = g <;> simp [e]
theorem all_rep (n k : Nat) (h : kdB k = true) : (List.replicate n k).all kdB = true := by
  rw [List.all_eq_true]
  intro x hx
  rw [(List.mem_replicate.1 hx).2]; exact h
theorem most_grp2 {k : Nat} (h : kdB k = true) : most (grp k) = most k := by
  have := kdB_iff.1 h
  exact (show ∀ k, k < 10 → most (grp k) = most k by decide +kernel) k (by omega)
theorem grp_grp2 {k : Nat} (h : kdB k = true) : grp (grp k) = grp k := by
  have := kdB_iff.1 h
  exact (show ∀ k, k < 10 → grp (grp k) = grp k by decide +kernel) k (by omega)
theorem grp_le_self (k : Nat) : grp k ≤ k := by
  unfold grp; split <;> omega
theorem over_rep {n k : Nat} (h : kdB k = true) : overB (List.replicate n k) = decide (most k < n) := by
  rw [Bool.eq_iff_iff]
  unfold overB
  rw [List.any_eq_true, decide_eq_true_eq]
  constructor
  · rintro ⟨g, _, h2⟩
    have h2 : most g < cnt (List.replicate n k) g := by simpa using h2
    rw [cnt_rep] at h2
    by_cases e : grp k = g
    · subst e
      rw [if_pos rfl, most_grp2 h] at h2; exact h2
    · rw [if_neg e] at h2; omega
  · intro h2
    refine ⟨grp k, by have := grp_le k; simp; omega, ?_⟩
    have : most (grp k) < cnt (List.replicate n k) (grp k) := by rw [cnt_rep, if_pos rfl, most_grp2 h]; exact h2
    simpa using this
theorem count_rep {n k : Nat} (h : kdB k = true) : countE (List.replicate n k) = if n ≤ most k then 0 else 51 := by
  unfold countE
  rw [all_rep n k h, over_rep h]
  by_cases e : n ≤ most k
  · rw [if_pos e]; simp; omega
  · rw [if_neg e]; simp; omega
theorem room_rep {n k o : Nat} (h : kdB k = true) (ho : kdB o = true) : roomE o (List.replicate n k) = if grp k = grp o then (if n < most k then 0 else 51) else 0 := by
  unfold roomE
  rw [all_rep n k h, ho, cnt_rep]
  by_cases e : grp k = grp o
  · have em : most o = most k := by rw [← most_grp2 h, ← most_grp2 ho, e]
    rw [if_pos e, if_pos e, em]
    by_cases q : n < most k
    · rw [if_pos q]; simp; omega
    · rw [if_neg q]; simp; omega
  · rw [if_neg e, if_neg e]
    have := most_pos ho
    simp; omega
theorem parents_grp {k o : Nat} (h : kdB k = true) (ho : kdB o = true) (e : grp k = grp o) : parentsL k = parentsL o := by
  have h1 := kdB_iff.1 h
  have h2 := kdB_iff.1 ho
  have := (show ∀ k, k < 10 → ∀ o, o < 10 → (grp k != grp o || parentsL k == parentsL o || k == 0 || o == 0) = true by decide +kernel) k (by omega) o (by omega)
  have k0 : (k == 0) = false := by simp; omega
  have o0 : (o == 0) = false := by simp; omega
  rw [k0, o0, e] at this
  simpa using this
theorem one_kind {k : Nat} (h : kdB k = false) : countE [k] = 40 ∧ roomE k [] = 40 := by
  constructor
  · unfold countE; simp [h]
  · unfold roomE; simp [h]
theorem rep_snoc (n k : Nat) : List.replicate n k ++ [k] = List.replicate (n + 1) k := List.replicate_succ'.symm
theorem grp_zero2 (o : Nat) : grp o = 0 ↔ kdB o = false := by
  constructor
  · intro h
    cases e : kdB o with
    | false => rfl
    | true => have := grp_pos e; omega
  · intro h; exact (none_of h).2.2.1
set_option maxHeartbeats 8000000 in
theorem groups_none (k o a : Nat) (w : World) (hk : k ≤ 255) (ho : o ≤ 255) (ha : a ≤ 255) (hw : Tables w) (hkd : kdB k = false) :
    Calls Tryd.prog 8 #[.int .u8 k, .int .u8 o, .int .u8 a] w fun e w' => e = .returned (.bool true) ∧ Below w.heap.size w w' := by
  have hb : Below w.heap.size w w := Below.refl _ _
  have CA := Lib.hid (awake_any w hw)
  have C1 := Lib.hid (fun W (q : Below w.heap.size w W) => group_any k W hk (hw.then q))
  have C2 := Lib.hid (fun W (q : Below w.heap.size w W) => group_any o W ho (hw.then q))
  have C3 := Lib.hid (fun W (q : Below w.heap.size w W) => most_any k W hk (hw.then q))
  have C5 : Hid (∀ W, Below w.heap.size w W → Calls Tryd.prog 26 #[.slice (some ⟨W.heap.size, 0, none⟩) 1 1] (W.alloc (.cells #[.int .u8 k] 5)) fun e w' => e = .returned (.int .i64 40) ∧ Below (W.alloc (.cells #[.int .u8 k] 5)).heap.size (W.alloc (.cells #[.int .u8 k] 5)) w') := Lib.hid (fun W q => by
    have := count_any [k] 1 _ (W.alloc (.cells #[u8 k] 5)) (lit_rd W [k]) (Nat.le_refl _) (by simp; exact hk) (by simp) (hw.then (bAl q _))
    rw [(one_kind hkd).1] at this
    exact this)
  have C6 : Hid (∀ W, Below w.heap.size w W → Calls Tryd.prog 28 #[.int .u8 k, .slice none 0 0] W fun e w' => e = .returned (.int .i64 40) ∧ Below W.heap.size W w') := Lib.hid (fun W q => by
    have := room_any k [] 0 w.heap.size W hk (A := none) (.inl rfl) q.size (by simp) (by simp) (hw.then q)
    rw [(one_kind hkd).2] at this
    exact this)
  obtain ⟨_, _, z1, _, z2, _⟩ := none_of hkd
  have C1' : Hid (∀ W, Below w.heap.size w W → Calls Tryd.prog 22 #[.int .u8 k] W fun e w' => e = .returned (.int .u8 0) ∧ Below W.heap.size W w') := by rw [z1] at C1; exact C1
  have C3' : Hid (∀ W, Below w.heap.size w W → Calls Tryd.prog 24 #[.int .u8 k] W fun e w' => e = .returned (.int .i64 0) ∧ Below W.heap.size W w') := by rw [z2] at C3; exact C3
  clear hw hkd z1 z2 C1 C3
  go_enter Tryd.func8, Tryd.ntmps8
  go_wp2_with (first
    | (go_at_call 33; ((with_reducible refine CA.out.mono ?_); rintro e w1 ⟨rfl, k1⟩; replace hb := bThen hb k1))
    | (go_at_call 22; first | ((with_reducible refine (C1'.out _ hb).mono ?_); rintro e w2 ⟨rfl, k2⟩; replace hb := bThen hb k2) | ((with_reducible refine (C2.out _ hb).mono ?_); rintro e w2 ⟨rfl, k2⟩; replace hb := bThen hb k2))
    | (go_at_call 24; ((with_reducible refine (C3'.out _ hb).mono ?_); rintro e w2 ⟨rfl, k2⟩; replace hb := bThen hb k2))
    | (go_at_call 26; ((with_reducible refine (C5.out _ hb).mono ?_); rintro e w2 ⟨rfl, k2⟩; replace hb := bThen (bAl hb _) k2))
    | (go_at_call 28; ((with_reducible refine (C6.out _ hb).mono ?_); rintro e w2 ⟨rfl, k2⟩; replace hb := bThen hb k2)))
  all_goals (go_ret; exact ⟨rfl, hb⟩)
set_option maxHeartbeats 16000000 in
theorem groups_ne (k o a : Nat) (w : World) (hk : k ≤ 255) (ho : o ≤ 255) (ha : a ≤ 255) (hw : Tables w) (hkd : kdB k = true) (hne : grp k ≠ grp o) :
    Calls Tryd.prog 8 #[.int .u8 k, .int .u8 o, .int .u8 a] w fun e w' => e = .returned (.bool true) ∧ Below w.heap.size w w' := by
  have hb : Below w.heap.size w w := Below.refl _ _
  have CA := Lib.hid (awake_any w hw)
  have C1 := Lib.hid (fun W (q : Below w.heap.size w W) => group_any k W hk (hw.then q))
  have C2 := Lib.hid (fun W (q : Below w.heap.size w W) => group_any o W ho (hw.then q))
  have C3 := Lib.hid (fun W (q : Below w.heap.size w W) => most_any k W hk (hw.then q))
  have C4 := Lib.hid (fun W (q : Below w.heap.size w W) => most_any o W ho (hw.then q))
  have C9 := Lib.hid (fun W (q : Below w.heap.size w W) => group_any (grp k) W (by have := grp_le k; omega) (hw.then q))
  rw [grp_grp2 hkd] at C9
  have HW := Lib.hid hw
  have hgs := grp_le_self k
  have hgp := grp_pos hkd
  have g0 : ((grp k : Int) == 0) = false := by rw [beq_eq_false_iff_ne]; omega
  have g1 : ((grp k : Int) != (grp k : Int)) = false := by simp
  have g2 : ¬ (k : Int) < (grp k : Int) := by omega
  have HX := Lib.hid (fun n => fun (x : Nat) (hx : x ∈ List.replicate n k) => show x ≤ 255 by rw [(List.mem_replicate.1 hx).2]; exact hk)
  have n1 : ((grp k : Int) == (grp o : Int)) = false := by rw [beq_eq_false_iff_ne]; omega
  have n2 : ((grp k : Int) != (grp o : Int)) = true := by rw [bne_iff_ne]; omega
  have HCR := Lib.hid (fun n => count_rep (n := n) hkd)
  have HRR := Lib.hid (fun n (q : kdB o = true) => (room_rep (n := n) hkd q).trans (if_neg hne))
  have HZ := Lib.hid (@grp_zero2 o)
  have hml := most_le k
  clear hw hne hkd
  generalize most k = m at *
  generalize most o = mo at *
  generalize grp k = g at *
  generalize grp o = h at *
  have gd : decide (k < g) = false := by simp; omega
  go_enter Tryd.func8, Tryd.ntmps8
  go_wp2_with (first
    | (go_at_call 33; ((with_reducible refine CA.out.mono ?_); rintro e w1 ⟨rfl, k1⟩; replace hb := bThen hb k1))
    | (go_at_call 22; first | ((with_reducible refine (C1.out _ hb).mono ?_); rintro e w2 ⟨rfl, k2⟩; replace hb := bThen hb k2) | ((with_reducible refine (C2.out _ hb).mono ?_); rintro e w2 ⟨rfl, k2⟩; replace hb := bThen hb k2) | ((with_reducible refine (C9.out _ hb).mono ?_); rintro e w2 ⟨rfl, k2⟩; replace hb := bThen hb k2))
    | (go_at_call 24; first | ((with_reducible refine (C3.out _ hb).mono ?_); rintro e w2 ⟨rfl, k2⟩; replace hb := bThen hb k2) | ((with_reducible refine (C4.out _ hb).mono ?_); rintro e w2 ⟨rfl, k2⟩; replace hb := bThen hb k2)))
  have hn41 : a % 41 ≤ 40 := by omega
  have en : (a : Int) % 41 = ((a % 41 : Nat) : Int) := by omega
  rw [en]
  clear en
  generalize a % 41 = n at *
  go_loopw [10, 11] (fun v i wr => ∃ j : Nat, j ≤ n ∧ i = .int .i64 j ∧ OwnU wr w2.heap.size v (List.replicate j k) ∧ Below w2.heap.size w2 wr) (fun _ i _ => 41 - (intOf i).toNat)
  case atStart => exact ⟨0, Nat.zero_le _, rfl, OwnU.nil_ _ _, Below.refl _ _⟩
  case round =>
    obtain ⟨j, hj, rfl, hown, hbr⟩ := hrel
    have HO := Lib.hid hown
    have hbw := bThen hb hbr
    clear hown
    by_cases hlt : j < n
    · have i1 : (j : Int) < n := by omega
      have HLN : Hid ((List.replicate j k).length = j) := Lib.hid (by simp)
      have HS := Lib.hid (rep_snoc j k)
      go_wp2_with (at_builtin; refine wpList_one wr rfl (.tmp 71) (.tmp 73) rfl w2.heap.size u10 _ rfl HO.out k rfl ?c1 hbr.size ?_)
      case c1 => have := HLN.out; omega
      intro v' w3 o3 k3
      have HO3 := Lib.hid o3
      clear o3
      go_wp2
      go_roundw
      case rel => first | exact ⟨j + 1, by omega, by go_num, by rw [← HS.out]; exact HO3.out, hbr.trans k3⟩ | ((repeat apply Exists.intro); refine ⟨?_, rfl⟩; exact ⟨j + 1, by omega, by go_num, by rw [← HS.out]; exact HO3.out, hbr.trans k3⟩)
      case measure => simp [intOf]; omega
    · have ej : j = n := by omega
      subst ej
      have i1 : ¬ (j : Int) < j := by omega
      obtain ⟨Al, cl, hu, rl, _, _⟩ := HO.out.form
      rw [List.length_replicate] at hu
      have CC := Lib.hid (by
        have := count_any (List.replicate j k) cl wr.heap.size wr rl (Nat.le_refl _) (HX.out j) (by rw [List.length_replicate]; omega) (HW.out.then hbw)
        rw [HCR.out j, List.length_replicate] at this
        exact this)
      have CR : Hid (kdB o = true → ∀ W, Below wr.heap.size wr W → Calls Tryd.prog 28 #[.int .u8 o, .slice Al j cl] W fun e w' => e = .returned (.int .i64 (0 : Nat)) ∧ Below W.heap.size W w') := Lib.hid (fun hoo W q => by
        have := room_any o (List.replicate j k) cl wr.heap.size W ho (rl.below q) q.size (HX.out j) (by rw [List.length_replicate]; omega) (HW.out.then (bThen hbw q))
        rw [HRR.out j hoo, List.length_replicate] at this
        exact this)
      clear rl HO HX HCR HRR CA C1 C2 C9
      subst hu
      by_cases h0 : h = 0
      · have z1 : ((h : Int) == 0) = true := by simp; omega
        clear HZ
        by_cases hjm : j ≤ m
        · have q1 : (j : Int) ≤ (m : Int) := by omega
          have q2 : decide (j ≤ m) = true := decide_eq_true hjm
          have CC2 : Hid (Calls Tryd.prog 26 #[.slice Al j cl] wr fun e w' => e = .returned (.int .i64 0) ∧ Below wr.heap.size wr w') := by rw [if_pos hjm] at CC; exact CC
          clear CC
          clear CR
          go_wp2_with (first
            | (go_at_call 26; ((with_reducible refine CC2.out.mono ?_); rintro e w5 ⟨rfl, k5⟩; replace hbw := bThen hbw k5))
            | (go_at_call 24; ((with_reducible refine (C3.out _ hbw).mono ?_); rintro e w5' ⟨rfl, k5'⟩; replace hbw := bThen hbw k5'; (try replace k5 := bThen k5 k5'))))
          all_goals (go_ret; exact ⟨rfl, hbw⟩)
        · have q1 : ¬ (j : Int) ≤ (m : Int) := by omega
          have q2 : decide (j ≤ m) = false := decide_eq_false hjm
          have CC2 : Hid (Calls Tryd.prog 26 #[.slice Al j cl] wr fun e w' => e = .returned (.int .i64 51) ∧ Below wr.heap.size wr w') := by rw [if_neg hjm] at CC; exact CC
          clear CC
          clear CR
          go_wp2_with (first
            | (go_at_call 26; ((with_reducible refine CC2.out.mono ?_); rintro e w5 ⟨rfl, k5⟩; replace hbw := bThen hbw k5))
            | (go_at_call 24; ((with_reducible refine (C3.out _ hbw).mono ?_); rintro e w5' ⟨rfl, k5'⟩; replace hbw := bThen hbw k5'; (try replace k5 := bThen k5 k5'))))
          all_goals (go_ret; exact ⟨rfl, hbw⟩)
      · have z1 : ((h : Int) == 0) = false := by simp; omega
        have hoo : kdB o = true := by
          cases e : kdB o with
          | true => rfl
          | false => exact absurd (HZ.out.2 e) h0
        have CRo := Lib.hid (CR.out hoo)
        clear HZ h0 hoo
        by_cases hjm : j ≤ m
        · have q1 : (j : Int) ≤ (m : Int) := by omega
          have q2 : decide (j ≤ m) = true := decide_eq_true hjm
          have CC2 : Hid (Calls Tryd.prog 26 #[.slice Al j cl] wr fun e w' => e = .returned (.int .i64 0) ∧ Below wr.heap.size wr w') := by rw [if_pos hjm] at CC; exact CC
          clear CC
          have CR2 : Hid (∀ W, Below wr.heap.size wr W → Calls Tryd.prog 28 #[.int .u8 o, .slice Al j cl] W fun e w' => e = .returned (.int .i64 0) ∧ Below W.heap.size W w') := CRo
          clear CR
          go_wp2_with (first
            | (go_at_call 26; ((with_reducible refine CC2.out.mono ?_); rintro e w5 ⟨rfl, k5⟩; replace hbw := bThen hbw k5))
            | (go_at_call 24; ((with_reducible refine (C3.out _ hbw).mono ?_); rintro e w5' ⟨rfl, k5'⟩; replace hbw := bThen hbw k5'; (try replace k5 := bThen k5 k5')))
            | (go_at_call 28; ((with_reducible refine (CR2.out _ k5).mono ?_); rintro e w6 ⟨rfl, k6⟩; replace hbw := bThen hbw k6)))
          all_goals (go_ret; exact ⟨rfl, hbw⟩)
        · have q1 : ¬ (j : Int) ≤ (m : Int) := by omega
          have q2 : decide (j ≤ m) = false := decide_eq_false hjm
          have CC2 : Hid (Calls Tryd.prog 26 #[.slice Al j cl] wr fun e w' => e = .returned (.int .i64 51) ∧ Below wr.heap.size wr w') := by rw [if_neg hjm] at CC; exact CC
          clear CC
          have CR2 : Hid (∀ W, Below wr.heap.size wr W → Calls Tryd.prog 28 #[.int .u8 o, .slice Al j cl] W fun e w' => e = .returned (.int .i64 0) ∧ Below W.heap.size W w') := CRo
          clear CR
          go_wp2_with (first
            | (go_at_call 26; ((with_reducible refine CC2.out.mono ?_); rintro e w5 ⟨rfl, k5⟩; replace hbw := bThen hbw k5))
            | (go_at_call 24; ((with_reducible refine (C3.out _ hbw).mono ?_); rintro e w5' ⟨rfl, k5'⟩; replace hbw := bThen hbw k5'; (try replace k5 := bThen k5 k5')))
            | (go_at_call 28; ((with_reducible refine (CR2.out _ k5).mono ?_); rintro e w6 ⟨rfl, k6⟩; replace hbw := bThen hbw k6)))
          all_goals (go_ret; exact ⟨rfl, hbw⟩)
set_option maxHeartbeats 16000000 in
theorem groups_eq (k o a : Nat) (w : World) (hk : k ≤ 255) (ho : o ≤ 255) (ha : a ≤ 255) (hw : Tables w) (hkd : kdB k = true) (hoo : kdB o = true) (he : grp k = grp o) :
    Calls Tryd.prog 8 #[.int .u8 k, .int .u8 o, .int .u8 a] w fun e w' => e = .returned (.bool true) ∧ Below w.heap.size w w' := by
  have hb : Below w.heap.size w w := Below.refl _ _
  have CA := Lib.hid (awake_any w hw)
  have C1 := Lib.hid (fun W (q : Below w.heap.size w W) => group_any k W hk (hw.then q))
  have C2 := Lib.hid (fun W (q : Below w.heap.size w W) => group_any o W ho (hw.then q))
  have C3 := Lib.hid (fun W (q : Below w.heap.size w W) => most_any k W hk (hw.then q))
  have C4 := Lib.hid (fun W (q : Below w.heap.size w W) => most_any o W ho (hw.then q))
  have C9 := Lib.hid (fun W (q : Below w.heap.size w W) => group_any (grp k) W (by have := grp_le k; omega) (hw.then q))
  rw [grp_grp2 hkd] at C9
  have HW := Lib.hid hw
  have hgs := grp_le_self k
  have hgp := grp_pos hkd
  have g0 : ((grp k : Int) == 0) = false := by rw [beq_eq_false_iff_ne]; omega
  have g1 : ((grp k : Int) != (grp k : Int)) = false := by simp
  have g2 : ¬ (k : Int) < (grp k : Int) := by omega
  have HX := Lib.hid (fun n => fun (x : Nat) (hx : x ∈ List.replicate n k) => show x ≤ 255 by rw [(List.mem_replicate.1 hx).2]; exact hk)
  have HOO := Lib.hid hoo
  have CP1 := Lib.hid (fun W (q : Below w.heap.size w W) => parents_any k W hk (hw.then q))
  have CP2 := Lib.hid (fun W (q : Below w.heap.size w W) => parents_any o W ho (hw.then q))
  rw [← parents_grp hkd hoo he] at CP2
  have HPL := Lib.hid (parents_le k)
  have em : most o = most k := by rw [← most_grp2 hkd, ← most_grp2 hoo, he]
  rw [em] at C4
  rw [← he] at C2
  have n1 : ((grp k : Int) == (grp k : Int)) = true := by simp
  have HCR := Lib.hid (fun n => count_rep (n := n) hkd)
  have HRR := Lib.hid (fun n (q : kdB o = true) => (room_rep (n := n) hkd q).trans (if_pos he))
  have hml := most_le k
  clear hw he hoo em hkd
  generalize most k = m at *
  generalize parentsL k = P at *
  generalize grp k = g at *
  have gd : decide (k < g) = false := by simp; omega
  go_enter Tryd.func8, Tryd.ntmps8
  go_wp2_with (first
    | (go_at_call 33; ((with_reducible refine CA.out.mono ?_); rintro e w1 ⟨rfl, k1⟩; replace hb := bThen hb k1))
    | (go_at_call 22; first | ((with_reducible refine (C1.out _ hb).mono ?_); rintro e w2 ⟨rfl, k2⟩; replace hb := bThen hb k2) | ((with_reducible refine (C2.out _ hb).mono ?_); rintro e w2 ⟨rfl, k2⟩; replace hb := bThen hb k2) | ((with_reducible refine (C9.out _ hb).mono ?_); rintro e w2 ⟨rfl, k2⟩; replace hb := bThen hb k2))
    | (go_at_call 24; first | ((with_reducible refine (C3.out _ hb).mono ?_); rintro e w2 ⟨rfl, k2⟩; replace hb := bThen hb k2) | ((with_reducible refine (C4.out _ hb).mono ?_); rintro e w2 ⟨rfl, k2⟩; replace hb := bThen hb k2)))
  have q0 := hb
  go_at_call 10
  with_reducible refine (CP1.out _ hb).mono ?_
  rintro e w4 ⟨v4, rfl, o4, k4⟩
  obtain ⟨A4, c4, rfl, r4, _, _⟩ := o4.form
  have R4 := Lib.hid r4
  replace hb := bThen hb k4
  clear o4 r4
  go_wp2_with fail
  go_at_call 10
  with_reducible refine (CP2.out _ hb).mono ?_
  rintro e w5 ⟨v5, rfl, o5, k5⟩
  obtain ⟨A5, c5, rfl, r5, _, _⟩ := o5.form
  have CS := Lib.hid (same_self c4 c5 w5 (R4.out.below k5) r5 HPL.out)
  replace hb := bThen hb k5
  clear o5 r5 R4 k4 k5 q0
  go_wp2_with (first
    | (go_at_call 12; ((with_reducible refine CS.out.mono ?_); rintro e w6 ⟨rfl, rfl⟩))
    | (go_at_call 22; ((with_reducible refine (C9.out _ hb).mono ?_); rintro e w2 ⟨rfl, k2⟩; replace hb := bThen hb k2))
    | (go_at_call 24; first | ((with_reducible refine (C3.out _ hb).mono ?_); rintro e w2 ⟨rfl, k2⟩; replace hb := bThen hb k2) | ((with_reducible refine (C4.out _ hb).mono ?_); rintro e w2 ⟨rfl, k2⟩; replace hb := bThen hb k2)))
  have hn41 : a % 41 ≤ 40 := by omega
  have en : (a : Int) % 41 = ((a % 41 : Nat) : Int) := by omega
  rw [en]
  clear en
  generalize a % 41 = n at *
  go_loopw [10, 11] (fun v i wr => ∃ j : Nat, j ≤ n ∧ i = .int .i64 j ∧ OwnU wr w2.heap.size v (List.replicate j k) ∧ Below w2.heap.size w2 wr) (fun _ i _ => 41 - (intOf i).toNat)
  case atStart => exact ⟨0, Nat.zero_le _, rfl, OwnU.nil_ _ _, Below.refl _ _⟩
  case round =>
    obtain ⟨j, hj, rfl, hown, hbr⟩ := hrel
    have HO := Lib.hid hown
    have hbw := bThen hb hbr
    clear hown
    by_cases hlt : j < n
    · have i1 : (j : Int) < n := by omega
      have HLN : Hid ((List.replicate j k).length = j) := Lib.hid (by simp)
      have HS := Lib.hid (rep_snoc j k)
      go_wp2_with (at_builtin; refine wpList_one wr rfl (.tmp 71) (.tmp 73) rfl w2.heap.size u10 _ rfl HO.out k rfl ?c1 hbr.size ?_)
      case c1 => have := HLN.out; omega
      intro v' w3 o3 k3
      have HO3 := Lib.hid o3
      clear o3
      go_wp2
      go_roundw
      case rel => first | exact ⟨j + 1, by omega, by go_num, by rw [← HS.out]; exact HO3.out, hbr.trans k3⟩ | ((repeat apply Exists.intro); refine ⟨?_, rfl⟩; exact ⟨j + 1, by omega, by go_num, by rw [← HS.out]; exact HO3.out, hbr.trans k3⟩)
      case measure => simp [intOf]; omega
    · have ej : j = n := by omega
      subst ej
      have i1 : ¬ (j : Int) < j := by omega
      obtain ⟨Al, cl, hu, rl, _, _⟩ := HO.out.form
      rw [List.length_replicate] at hu
      have CC := Lib.hid (by
        have := count_any (List.replicate j k) cl wr.heap.size wr rl (Nat.le_refl _) (HX.out j) (by rw [List.length_replicate]; omega) (HW.out.then hbw)
        rw [HCR.out j, List.length_replicate] at this
        exact this)
      have CR : Hid (kdB o = true → ∀ W, Below wr.heap.size wr W → Calls Tryd.prog 28 #[.int .u8 o, .slice Al j cl] W fun e w' => e = .returned (.int .i64 (if j < m then 0 else 51 : Nat)) ∧ Below W.heap.size W w') := Lib.hid (fun hoo W q => by
        have := room_any o (List.replicate j k) cl wr.heap.size W ho (rl.below q) q.size (HX.out j) (by rw [List.length_replicate]; omega) (HW.out.then (bThen hbw q))
        rw [HRR.out j hoo, List.length_replicate] at this
        exact this)
      clear rl HO HX HCR HRR CA C1 C2 C9
      subst hu
      have CRo := Lib.hid (CR.out HOO.out)
      by_cases hjl : j < m
      · have p1 : (j : Int) < (m : Int) := by omega
        have p2 : decide (j < m) = true := decide_eq_true hjl
        have hjm : j ≤ m := by omega
        have CRp : Hid (∀ W, Below wr.heap.size wr W → Calls Tryd.prog 28 #[.int .u8 o, .slice Al j cl] W fun e w' => e = .returned (.int .i64 0) ∧ Below W.heap.size W w') := by rw [if_pos hjl] at CRo; exact CRo
        clear CRo hjl
        have q1 : (j : Int) ≤ (m : Int) := by omega
        have q2 : decide (j ≤ m) = true := decide_eq_true hjm
        have CC2 : Hid (Calls Tryd.prog 26 #[.slice Al j cl] wr fun e w' => e = .returned (.int .i64 0) ∧ Below wr.heap.size wr w') := by rw [if_pos hjm] at CC; exact CC
        clear CC
        have CR2 : Hid (∀ W, Below wr.heap.size wr W → Calls Tryd.prog 28 #[.int .u8 o, .slice Al j cl] W fun e w' => e = .returned (.int .i64 0) ∧ Below W.heap.size W w') := CRp
        clear CR
        go_wp2_with (first
          | (go_at_call 26; ((with_reducible refine CC2.out.mono ?_); rintro e w5 ⟨rfl, k5⟩; replace hbw := bThen hbw k5))
          | (go_at_call 24; ((with_reducible refine (C3.out _ hbw).mono ?_); rintro e w5' ⟨rfl, k5'⟩; replace hbw := bThen hbw k5'; (try replace k5 := bThen k5 k5')))
          | (go_at_call 28; ((with_reducible refine (CR2.out _ k5).mono ?_); rintro e w6 ⟨rfl, k6⟩; replace hbw := bThen hbw k6)))
        all_goals (go_ret; exact ⟨rfl, hbw⟩)
      · have p1 : ¬ (j : Int) < (m : Int) := by omega
        have p2 : decide (j < m) = false := decide_eq_false hjl
        have CRn : Hid (∀ W, Below wr.heap.size wr W → Calls Tryd.prog 28 #[.int .u8 o, .slice Al j cl] W fun e w' => e = .returned (.int .i64 51) ∧ Below W.heap.size W w') := by rw [if_neg hjl] at CRo; exact CRo
        clear CRo
        by_cases hjm : j ≤ m
        · have q1 : (j : Int) ≤ (m : Int) := by omega
          have q2 : decide (j ≤ m) = true := decide_eq_true hjm
          have CC2 : Hid (Calls Tryd.prog 26 #[.slice Al j cl] wr fun e w' => e = .returned (.int .i64 0) ∧ Below wr.heap.size wr w') := by rw [if_pos hjm] at CC; exact CC
          clear CC
          have CR2 : Hid (∀ W, Below wr.heap.size wr W → Calls Tryd.prog 28 #[.int .u8 o, .slice Al j cl] W fun e w' => e = .returned (.int .i64 51) ∧ Below W.heap.size W w') := CRn
          clear CR
          go_wp2_with (first
            | (go_at_call 26; ((with_reducible refine CC2.out.mono ?_); rintro e w5 ⟨rfl, k5⟩; replace hbw := bThen hbw k5))
            | (go_at_call 24; ((with_reducible refine (C3.out _ hbw).mono ?_); rintro e w5' ⟨rfl, k5'⟩; replace hbw := bThen hbw k5'; (try replace k5 := bThen k5 k5')))
            | (go_at_call 28; ((with_reducible refine (CR2.out _ k5).mono ?_); rintro e w6 ⟨rfl, k6⟩; replace hbw := bThen hbw k6)))
          all_goals (go_ret; exact ⟨rfl, hbw⟩)
        · have q1 : ¬ (j : Int) ≤ (m : Int) := by omega
          have q2 : decide (j ≤ m) = false := decide_eq_false hjm
          have CC2 : Hid (Calls Tryd.prog 26 #[.slice Al j cl] wr fun e w' => e = .returned (.int .i64 51) ∧ Below wr.heap.size wr w') := by rw [if_neg hjm] at CC; exact CC
          clear CC
          have CR2 : Hid (∀ W, Below wr.heap.size wr W → Calls Tryd.prog 28 #[.int .u8 o, .slice Al j cl] W fun e w' => e = .returned (.int .i64 51) ∧ Below W.heap.size W w') := CRn
          clear CR
          go_wp2_with (first
            | (go_at_call 26; ((with_reducible refine CC2.out.mono ?_); rintro e w5 ⟨rfl, k5⟩; replace hbw := bThen hbw k5))
            | (go_at_call 24; ((with_reducible refine (C3.out _ hbw).mono ?_); rintro e w5' ⟨rfl, k5'⟩; replace hbw := bThen hbw k5'; (try replace k5 := bThen k5 k5')))
            | (go_at_call 28; ((with_reducible refine (CR2.out _ k5).mono ?_); rintro e w6 ⟨rfl, k6⟩; replace hbw := bThen hbw k6)))
          all_goals (go_ret; exact ⟨rfl, hbw⟩)
theorem groups_walk (k o a : Nat) (w : World) (hk : k ≤ 255) (ho : o ≤ 255) (ha : a ≤ 255) (hw : Tables w) :
    Calls Tryd.prog 8 #[.int .u8 k, .int .u8 o, .int .u8 a] w fun e w' => e = .returned (.bool true) ∧ Below w.heap.size w w' := by
  cases hkd : kdB k with
  | false => exact groups_none k o a w hk ho ha hw hkd
  | true =>
    by_cases he : grp k = grp o
    · have hoo : kdB o = true := by
        cases e : kdB o with
        | true => rfl
        | false => have := grp_pos hkd; rw [he, (none_of e).2.2.1] at this; omega
      exact groups_eq k o a w hk ho ha hw hkd hoo he
    · exact groups_ne k o a w hk ho ha hw hkd he
end Go.Proofs.YtmhckcpcnkhbeaaDoor
