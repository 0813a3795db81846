/-
  WALKS: reads, same, take of the law's.
-/
import Derived.Test.YtfofpbdccgcocaaYLaw
import Derived.Deep.RegionWith
namespace Go.Proofs.Ytfofpbdccgcocaa.YX
open Go.RowKit HL
open IX (ptr El cellsK cellsK_at cellsK_len OwnK RdK Kept slice_toK slice_fromK)
set_option maxRecDepth 100000
set_option linter.unusedVariables false
set_option linter.unusedSimpArgs false

abbrev z0 : Nat × Bs := (0, [])
theorem rest_map {α β : Type} (g : α → β) {f : Bs → Option (α × Bs)} {f2 : Bs → Option (β × Bs)} (h : ∀ l, f2 l = (f l).map fun x => (g x.1, x.2)) (z : α) (z2 : β) (hz : z2 = g z) (s : Option Bs) : rest f2 s = rest f s ∧ told z2 f2 s = g (told z f s) := by
  cases s with
  | none => exact ⟨rfl, hz⟩
  | some l =>
    have q := h l
    cases e : f l with
    | none => rw [e] at q; rw [(told_none z2 q).1, (told_none z2 q).2, (told_none z e).1, (told_none z e).2]; exact ⟨rfl, hz⟩
    | some y => rw [e] at q; obtain ⟨v, r⟩ := y; rw [(told_some z2 q).1, (told_some z2 q).2, (told_some z e).1, (told_some z e).2]; exact ⟨rfl, rfl⟩
theorem rk0 {k : Nat} (h : k % 5 = 0) (s : Option Bs) : rest (rdK k) s = rest rdB s ∧ told z0 (rdK k) s = (told 0 rdB s, []) := rest_map (fun n : Nat => (n, ([] : Bs))) (fun l => by simp [rdK, h]) 0 z0 rfl s
theorem rk1 {k : Nat} (h : k % 5 = 1) (s : Option Bs) : rest (rdK k) s = rest rdT s ∧ told z0 (rdK k) s = (told 0 rdT s, []) := rest_map (fun n : Nat => (n, ([] : Bs))) (fun l => by simp [rdK, h]) 0 z0 rfl s
theorem rk2 {k : Nat} (h : k % 5 = 2) (s : Option Bs) : rest (rdK k) s = rest rdU s ∧ told z0 (rdK k) s = (told 0 rdU s, []) := rest_map (fun n : Nat => (n, ([] : Bs))) (fun l => by simp [rdK, h]) 0 z0 rfl s
theorem rk3 {k : Nat} (h : k % 5 = 3) (s : Option Bs) : rest (rdK k) s = rest rdI s ∧ told z0 (rdK k) s = (toU (told 0 rdI s), []) := rest_map (fun n : Int => (toU n, ([] : Bs))) (fun l => by simp [rdK, rdI, h, Option.map_map, Function.comp_def]) 0 z0 rfl s
theorem rk4 {k : Nat} (h : k % 5 = 4) (s : Option Bs) : rest (rdK k) s = rest rdS s ∧ told z0 (rdK k) s = (0, told [] rdS s) := rest_map (fun n : Bs => (0, n)) (fun l => by simp [rdK, h]) [] z0 rfl s
theorem told_I (s : Option Bs) : -9223372036854775808 ≤ told (0 : Int) rdI s ∧ told (0 : Int) rdI s < 9223372036854775808 := by
  rw [(rdI_told s).1]; exact natI_ge (told_lt s)
theorem told_B (s : Option Bs) : told (0 : Nat) rdB s < 256 := by
  cases s with
  | none => simp [told]
  | some l => cases l with
    | nil => simp [told, rdB]
    | cons b r => exact u8lt b
theorem told_T (s : Option Bs) : told (0 : Nat) rdT s ≤ 1 := by
  cases s with
  | none => simp [told]
  | some l =>
    cases e : rdT l with
    | none => rw [(told_none 0 e).1]; omega
    | some y =>
      obtain ⟨v, r⟩ := y
      rw [(told_some 0 e).1]
      cases l with
      | nil => simp [rdT] at e
      | cons b r2 => simp only [rdT] at e; split at e <;> simp at e; omega

set_option maxHeartbeats 4000000 in
theorem reads_0 (B : Nat) (s : Option Bs) (x : Th) (hx : ThOk x) (hk : x.k % 5 = 0) (w : World) (h : RAt w B s) : Calls Try.prog 26 #[ptr B, th x] w fun e w' => ∃ t, e = .returned (.bool t) ∧ Hid (told z0 (rdK x.k) s = thV x → t = true) ∧ RAt w' B (rest (rdK x.k) s) ∧ Kept w w' (· ≠ B) := by
  have b1 := bAl (Below.refl w.heap.size w) (.cells (thC x) 32)
  have hB := h.lt
  have h1 := h.below b1
  have mA := AtC.new w (thC x) 32
  have c0 := mA.c 0
  have c1 := mA.c 1
  have c2 := mA.c 2
  have e1 : (x.k : Int) % 5 = 0 := by omega
  have eb := byte_wrap (n := x.n)
  have CB := Lib.hid (fun W (q : RAt W B s) => octet_any2 B s W q)
  rw [(rk0 hk s).1, (rk0 hk s).2]
  obtain ⟨tv, htv⟩ : ∃ v, told (0 : Nat) rdB s = v := ⟨_, rfl⟩
  obtain ⟨ts, hts⟩ : ∃ v, rest rdB s = v := ⟨_, rfl⟩
  rw [htv, hts] at CB ⊢
  have HT : Hid ((tv, ([] : Bs)) = thV x → (((tv : Nat) : Int) == (x.n : Int) % 256) = true) := Lib.hid (fun q => by
      have q2 : tv = x.n % 256 := by simpa [thV, hk] using q
      subst q2; simp)
  have HA := Lib.hid (And.intro mA h1)
  have B1 := Lib.hid b1
  clear htv hts h h1 mA b1
  go_enter Try.func26, Try.ntmps26
  go_wp2
  go_region_with (first
    | (go_at_call 19; (refine (CB.out _ (HA.out.2.below (bD1_ _))).mono ?_); rintro e w3 ⟨rfl, q3, k3⟩; have mA3 := (HA.out.1.then (bD1_ _)).kept k3 (by show w.heap.size ≠ B; omega); have d0 := mA3.c 0; have d1 := mA3.c 1; have d2 := mA3.c 2; have Q3 := Lib.hid q3; have K3 := Lib.hid (Kept.trans (.of_below (bThen B1.out (bD1_ _))) k3); clear mA3 q3 k3))
  all_goals
    go_wp2
    go_ret
    exact ⟨_, rfl, HT, Q3.out, K3.out⟩

set_option maxHeartbeats 4000000 in
theorem reads_1 (B : Nat) (s : Option Bs) (x : Th) (hx : ThOk x) (hk : x.k % 5 = 1) (w : World) (h : RAt w B s) : Calls Try.prog 26 #[ptr B, th x] w fun e w' => ∃ t, e = .returned (.bool t) ∧ Hid (told z0 (rdK x.k) s = thV x → t = true) ∧ RAt w' B (rest (rdK x.k) s) ∧ Kept w w' (· ≠ B) := by
  have b1 := bAl (Below.refl w.heap.size w) (.cells (thC x) 32)
  have hB := h.lt
  have h1 := h.below b1
  have mA := AtC.new w (thC x) 32
  have c0 := mA.c 0
  have c1 := mA.c 1
  have c2 := mA.c 2
  have e1 : (x.k : Int) % 5 = 1 := by omega
  have CB := Lib.hid (fun W (q : RAt W B s) => truth_any2 B s W q)
  rw [(rk1 hk s).1, (rk1 hk s).2]
  obtain ⟨tv, htv⟩ : ∃ v, told (0 : Nat) rdT s = v := ⟨_, rfl⟩
  obtain ⟨ts, hts⟩ : ∃ v, rest rdT s = v := ⟨_, rfl⟩
  rw [htv, hts] at CB ⊢
  have HT : Hid ((tv, ([] : Bs)) = thV x → (((tv == 1) == ((x.n : Int) % 2 == 1))) = true) := Lib.hid (fun q => by
      have q2 : tv = x.n % 2 := by simpa [thV, hk] using q
      subst q2; simp; rcases (show x.n % 2 = 0 ∨ x.n % 2 = 1 by omega) with h | h <;> simp [h] <;> omega)
  have HA := Lib.hid (And.intro mA h1)
  have B1 := Lib.hid b1
  clear htv hts h h1 mA b1
  go_enter Try.func26, Try.ntmps26
  go_wp2
  go_region_with (first
    | (go_at_call 20; (refine (CB.out _ (HA.out.2.below (bD1_ _))).mono ?_); rintro e w3 ⟨rfl, q3, k3⟩; have mA3 := (HA.out.1.then (bD1_ _)).kept k3 (by show w.heap.size ≠ B; omega); have d0 := mA3.c 0; have d1 := mA3.c 1; have d2 := mA3.c 2; have Q3 := Lib.hid q3; have K3 := Lib.hid (Kept.trans (.of_below (bThen B1.out (bD1_ _))) k3); clear mA3 q3 k3))
  all_goals
    go_wp2
    go_ret
    exact ⟨_, rfl, HT, Q3.out, K3.out⟩

set_option maxHeartbeats 4000000 in
theorem reads_2 (B : Nat) (s : Option Bs) (x : Th) (hx : ThOk x) (hk : x.k % 5 = 2) (w : World) (h : RAt w B s) : Calls Try.prog 26 #[ptr B, th x] w fun e w' => ∃ t, e = .returned (.bool t) ∧ Hid (told z0 (rdK x.k) s = thV x → t = true) ∧ RAt w' B (rest (rdK x.k) s) ∧ Kept w w' (· ≠ B) := by
  have b1 := bAl (Below.refl w.heap.size w) (.cells (thC x) 32)
  have hB := h.lt
  have h1 := h.below b1
  have mA := AtC.new w (thC x) 32
  have c0 := mA.c 0
  have c1 := mA.c 1
  have c2 := mA.c 2
  have e1 : (x.k : Int) % 5 = 2 := by omega
  have CB := Lib.hid (fun W (q : RAt W B s) => unsigned_any2 B s W q)
  rw [(rk2 hk s).1, (rk2 hk s).2]
  obtain ⟨tv, htv⟩ : ∃ v, told (0 : Nat) rdU s = v := ⟨_, rfl⟩
  obtain ⟨ts, hts⟩ : ∃ v, rest rdU s = v := ⟨_, rfl⟩
  rw [htv, hts] at CB ⊢
  have HT : Hid ((tv, ([] : Bs)) = thV x → (((tv : Nat) : Int) == (x.n : Int)) = true) := Lib.hid (fun q => by
      have q2 : tv = x.n := by simpa [thV, hk] using q
      subst q2; simp)
  have HA := Lib.hid (And.intro mA h1)
  have B1 := Lib.hid b1
  clear htv hts h h1 mA b1
  go_enter Try.func26, Try.ntmps26
  go_wp2
  go_region_with (first
    | (go_at_call 21; (refine (CB.out _ (HA.out.2.below (bD1_ _))).mono ?_); rintro e w3 ⟨rfl, q3, k3⟩; have mA3 := (HA.out.1.then (bD1_ _)).kept k3 (by show w.heap.size ≠ B; omega); have d0 := mA3.c 0; have d1 := mA3.c 1; have d2 := mA3.c 2; have Q3 := Lib.hid q3; have K3 := Lib.hid (Kept.trans (.of_below (bThen B1.out (bD1_ _))) k3); clear mA3 q3 k3))
  all_goals
    go_wp2
    go_ret
    exact ⟨_, rfl, HT, Q3.out, K3.out⟩

set_option maxHeartbeats 4000000 in
theorem reads_3 (B : Nat) (s : Option Bs) (x : Th) (hx : ThOk x) (hk : x.k % 5 = 3) (w : World) (h : RAt w B s) : Calls Try.prog 26 #[ptr B, th x] w fun e w' => ∃ t, e = .returned (.bool t) ∧ Hid (told z0 (rdK x.k) s = thV x → t = true) ∧ RAt w' B (rest (rdK x.k) s) ∧ Kept w w' (· ≠ B) := by
  have b1 := bAl (Below.refl w.heap.size w) (.cells (thC x) 32)
  have hB := h.lt
  have h1 := h.below b1
  have mA := AtC.new w (thC x) 32
  have c0 := mA.c 0
  have c1 := mA.c 1
  have c2 := mA.c 2
  have e1 : (x.k : Int) % 5 = 3 := by omega
  have ei := i64_toI hx.n
  have CB := Lib.hid (fun W (q : RAt W B s) => signed_any2 B s W q)
  rw [(rk3 hk s).1, (rk3 hk s).2]
  obtain ⟨tv, htv⟩ : ∃ v, told (0 : Int) rdI s = v := ⟨_, rfl⟩
  obtain ⟨ts, hts⟩ : ∃ v, rest rdI s = v := ⟨_, rfl⟩
  have HI := told_I s
  rw [htv] at HI
  rw [htv, hts] at CB ⊢
  have HT : Hid ((toU tv, ([] : Bs)) = thV x → (tv == toI x.n) = true) := Lib.hid (fun q => by
      have q2 : toU tv = x.n := by simpa [thV, hk] using q
      rw [← q2, toI_toU (HI.1) (HI.2)]; simp)
  have HA := Lib.hid (And.intro mA h1)
  have B1 := Lib.hid b1
  clear htv hts h h1 mA b1
  go_enter Try.func26, Try.ntmps26
  go_wp2
  go_region_with (first
    | (go_at_call 22; (refine (CB.out _ (HA.out.2.below (bD1_ _))).mono ?_); rintro e w3 ⟨rfl, q3, k3⟩; have mA3 := (HA.out.1.then (bD1_ _)).kept k3 (by show w.heap.size ≠ B; omega); have d0 := mA3.c 0; have d1 := mA3.c 1; have d2 := mA3.c 2; have Q3 := Lib.hid q3; have K3 := Lib.hid (Kept.trans (.of_below (bThen B1.out (bD1_ _))) k3); clear mA3 q3 k3))
  all_goals
    go_wp2
    go_ret
    exact ⟨_, rfl, HT, Q3.out, K3.out⟩

set_option maxHeartbeats 4000000 in
theorem reads_4 (B : Nat) (s : Option Bs) (x : Th) (hx : ThOk x) (hk : x.k % 5 = 4) (w : World) (h : RAt w B s) : Calls Try.prog 26 #[ptr B, th x] w fun e w' => ∃ t, e = .returned (.bool t) ∧ Hid (told z0 (rdK x.k) s = thV x → t = true) ∧ RAt w' B (rest (rdK x.k) s) ∧ Kept w w' (· ≠ B) := by
  have b1 := bAl (Below.refl w.heap.size w) (.cells (thC x) 32)
  have hB := h.lt
  have h1 := h.below b1
  have mA := AtC.new w (thC x) 32
  have c0 := mA.c 0
  have c1 := mA.c 1
  have c2 := mA.c 2
  have e1 : (x.k : Int) % 5 = 4 := by omega
  have CB := Lib.hid (fun W (q : RAt W B s) => text_any2 B s W q)
  rw [(rk4 hk s).1, (rk4 hk s).2]
  obtain ⟨tv, htv⟩ : ∃ v, told ([] : Bs) rdS s = v := ⟨_, rfl⟩
  obtain ⟨ts, hts⟩ : ∃ v, rest rdS s = v := ⟨_, rfl⟩
  rw [htv, hts] at CB ⊢
  have HT : Hid (((0 : Nat), tv) = thV x → (tv == x.s) = true) := Lib.hid (fun q => by
      have q2 : tv = x.s := by simpa [thV, hk] using q
      subst q2; simp)
  have HA := Lib.hid (And.intro mA h1)
  have B1 := Lib.hid b1
  clear htv hts h h1 mA b1
  go_enter Try.func26, Try.ntmps26
  go_wp2
  go_region_with (first
    | (go_at_call 23; (refine (CB.out _ (HA.out.2.below (bD1_ _))).mono ?_); rintro e w3 ⟨rfl, q3, k3⟩; have mA3 := (HA.out.1.then (bD1_ _)).kept k3 (by show w.heap.size ≠ B; omega); have d0 := mA3.c 0; have d1 := mA3.c 1; have d2 := mA3.c 2; have Q3 := Lib.hid q3; have K3 := Lib.hid (Kept.trans (.of_below (bThen B1.out (bD1_ _))) k3); clear mA3 q3 k3))
  all_goals
    go_wp2
    go_ret
    exact ⟨_, rfl, HT, Q3.out, K3.out⟩

theorem reads_any (B : Nat) (s : Option Bs) (x : Th) (hx : ThOk x) (w : World) (h : RAt w B s) : Calls Try.prog 26 #[ptr B, th x] w fun e w' => ∃ t, e = .returned (.bool t) ∧ Hid (told z0 (rdK x.k) s = thV x → t = true) ∧ RAt w' B (rest (rdK x.k) s) ∧ Kept w w' (· ≠ B) := by
  have := Nat.mod_lt x.k (show 0 < 5 by decide)
  rcases (show x.k % 5 = 0 ∨ x.k % 5 = 1 ∨ x.k % 5 = 2 ∨ x.k % 5 = 3 ∨ x.k % 5 = 4 by omega) with q | q | q | q | q
  · exact reads_0 B s x hx q w h
  · exact reads_1 B s x hx q w h
  · exact reads_2 B s x hx q w h
  · exact reads_3 B s x hx q w h
  · exact reads_4 B s x hx q w h
end Go.Proofs.Ytfofpbdccgcocaa.YX
