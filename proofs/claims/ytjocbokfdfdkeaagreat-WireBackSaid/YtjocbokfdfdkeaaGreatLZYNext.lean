/-
  WALKS: Failed; next of the five kinds, with its deferred closures; Byte, Truth, Uint, Int, Text of a reader.
-/
import Derived.Test.YtjocbokfdfdkeaaGreatLZYText
import Derived.Tactics2
namespace Go.Proofs.YtjocbokfdfdkeaaGreat.YX
open Go.RowKit HL
open IX (ptr El cellsK cellsK_at cellsK_len OwnK RdK Kept slice_toK slice_fromK)
set_option maxRecDepth 100000
set_option linter.unusedVariables false
set_option linter.unusedSimpArgs false

theorem failed_nil (w : World) : Calls Tryz.prog 124 #[.pointer none] w fun e w' => e = .returned (.bool true) ∧ w = w' := by
  go_enter Tryz.func124, Tryz.ntmps124
  go_wp2
  go_ret
  exact ⟨rfl, rfl⟩
theorem failed_any (B : Nat) (s : Option Bs) (w : World) (h : RAt w B s) : Calls Tryz.prog 124 #[ptr B] w fun e w' => e = .returned (.bool (s.isNone)) ∧ w = w' := by
  cases s with
  | none =>
    have h : AtC w B #[.slice none 0 0, .bool true] := h
    have c1 := h.c 1
    clear h
    go_enter Tryz.func124, Tryz.ntmps124
    go_wp2
    go_ret
    exact ⟨rfl, rfl⟩
  | some l =>
    obtain ⟨A, c, h1, h2, h3⟩ := h
    have c1 := h1.c 1
    clear h1 h2
    go_enter Tryz.func124, Tryz.ntmps124
    go_wp2
    go_ret
    exact ⟨rfl, rfl⟩
theorem kset2 {w W : World} {B i : Nat} (h : Kept w W (· ≠ B)) (v : Value) : Kept w (W.setCell ⟨B, i, none⟩ v) (· ≠ B) := h.set (B := B) (fun _ h => h rfl) v
theorem bad_none {W : World} {B : Nat} {x y : Value} (h : AtC W B #[x, y]) : RAt ((W.setCell ⟨B, 0, none⟩ (.slice none 0 0)).setCell ⟨B, 1, none⟩ (.bool true)) B none :=
  (h.set (i := 0) (by simp) _).set (i := 1) (by simp) _
/-- What a reader is behind a read. -/
def rest {α : Type} (f : Bs → Option (α × Bs)) (s : Option Bs) : Option Bs := s.bind fun l => (f l).map (·.2)
/-- What is told. -/
def told {α : Type} (z : α) (f : Bs → Option (α × Bs)) (s : Option Bs) : α := ((s.bind f).map (·.1)).getD z
theorem octet_rd (B : Nat) (l : Bs) (w : World) (h : RAt w B (some l)) : Calls Tryz.prog 111 #[ptr B] w fun e w' => Rd w B (fun n : Nat => Value.int .u8 (n : Int)) (rdB l) e w' := by
  cases l with
  | nil => exact (octet_no B w h).mono fun e w' ⟨he, hw⟩ => by subst he; subst hw; exact Rd.no rfl h.bad (Kept.refl _ _)
  | cons b r => exact (octet_yes B b r w h).mono fun e w' ⟨he, h1, k⟩ => by subst he; exact Rd.yes2 (v := b.toNat) rfl rfl h1 k
theorem truth_rd (B : Nat) (l : Bs) (w : World) (h : RAt w B (some l)) : Calls Tryz.prog 118 #[ptr B] w fun e w' => Rd w B (fun n : Nat => Value.bool (n == 1)) (rdT l) e w' := by
  cases l with
  | nil => exact (truth_no B w h).mono fun e w' ⟨he, hw⟩ => by subst he; subst hw; exact Rd.no rfl h.bad (Kept.refl _ _)
  | cons b r =>
    by_cases hb : b.toNat ≤ 1
    · exact (truth_yes B b r w hb h).mono fun e w' ⟨he, h1, k⟩ => by subst he; exact Rd.yes2 (v := b.toNat) (by simp [rdT, hb]) rfl h1 k
    · exact (truth_bad B b r w hb h).mono fun e w' ⟨he, h1, k⟩ => by subst he; exact Rd.no (by simp [rdT, hb]) h1.bad k

theorem octet_catch (p : Addr) (B : Nat) (u : TypeId) (pv : Value) (older : List PanicEntry) (w : World) (hc : w.cell? p = some (ptr B)) (hB : Bad w B) :
    CallsD Tryz.prog 125 #[.pointer (some p)] (.panicking ({ v := .iface u pv, recovered := false } :: older)) w fun e u' w' =>
      e = .returned (.tuple #[]) ∧ u' = .panicking ({ v := .iface u pv, recovered := true } :: older) ∧ RAt w' B none ∧ Kept w w' (· ≠ B) := by
  obtain ⟨x, y, h1⟩ := hB
  have c0 := h1.c 0
  have c1 := h1.c 1
  have f0 := h1.f 0
  have f1 := h1.f 1
  have H := Lib.hid h1
  clear h1
  refine callsD_of_wpS Tryz.func125 rfl fun c₀ cs hu => ?_
  apply wpS_seq
  apply wpS_region
  simp [wpOpsS, go_sem, recoverD, hu, Tryz.ntmps125, Exit.thenS]
  refine wpS_cond (t := true) (by simp [Act.eval, Array.replicate]) ?_
  simp only [if_true]
  apply wpS_region
  simp [wpOpsS, go_sem, hc, c0, c1, f0, f1, bodyPostS, results, Tryz.results125]
  exact ⟨bad_none H.out, kset2 (kset _) _⟩
theorem octet_idle (p : Addr) (w : World) :
    CallsD Tryz.prog 125 #[.pointer (some p)] .returning w fun e u' w' => e = .returned (.tuple #[]) ∧ u' = .returning ∧ w' = w := by
  refine callsD_of_wpS Tryz.func125 rfl fun c₀ cs hu => ?_
  apply wpS_seq
  apply wpS_region
  simp [wpOpsS, go_sem, recoverD, hu, Tryz.ntmps125, Exit.thenS]
  refine wpS_cond (t := false) (by simp [Act.eval, Array.replicate]) ?_
  simp only [Bool.false_eq_true, if_false]
  refine wpS_of_wp (wp_skip ?_)
  cases c₀
  simp_all [bodyPostS, results, Tryz.results125]
set_option maxHeartbeats 1000000 in
theorem octet_next_some (B : Nat) (l : Bs) (w : World) (h : RAt w B (some l)) : Calls Tryz.prog 110 #[ptr B, .func (.func 111) #[] #[]] w fun e w' => e = .returned ((fun n : Nat => Value.int .u8 (n : Int)) (told (0 : Nat) rdB (some l))) ∧ RAt w' B (rest rdB (some l)) ∧ Kept w w' (· ≠ B) := by
  have hmf : ∀ (fn : Fn) (first cap : Array Value) (w : World), (Instr.makeFunc fn first cap).run Tryz.prog w = .ok (.func fn first cap) w := fun _ _ _ _ => rfl
  have H := Lib.hid h
  have hB := h.lt
  clear h
  have CF := Lib.hid (failed_any B (some l))
  have k0 : Kept w (w.alloc (.cells #[ptr B] 122)) (· ≠ B) := .of_below (bAl (Below.refl _ _) _)
  have hW : RAt (w.alloc (.cells #[ptr B] 122)) B (some l) := H.out.below (bAl (Below.refl _ _) _)
  have mc := (AtC.new w #[ptr B] 122).c 0
  cases hv : rdB l with
  | none =>
    have C : Hid (Calls Tryz.prog 111 #[ptr B] (w.alloc (.cells #[ptr B] 122)) fun e w' => e = pan ∧ Bad w' B ∧ Kept (w.alloc (.cells #[ptr B] 122)) w' (· ≠ B)) := Lib.hid ((octet_rd B l _ hW).mono fun e w' q => by rw [hv] at q; exact q)
    have HT : Hid ((0 : Nat) = told (0 : Nat) rdB (some l) ∧ none = rest rdB (some l)) := Lib.hid (by simp [told, rest, hv])
    have HW := Lib.hid hW
    clear hv hW
    go_enter_defers Tryz.func110, Tryz.ntmps110
    go_wp2_with (first
      | (go_at_call 124; ((refine (CF.out _ HW.out).mono ?_); rintro e w1 ⟨rfl, rfl⟩))
      | (go_at_call 111; ((refine C.out.mono ?_); rintro e w2 ⟨rfl, h2, k2⟩; have H2 := Lib.hid h2; have K2 := Lib.hid k2; clear h2 k2)))
    refine leaves_cons (f := 125) (args := #[.pointer (some ⟨w.heap.size, 0, none⟩)]) (by simp) (by simp [go_sem]) ?_
    refine (octet_catch ⟨w.heap.size, 0, none⟩ B _ _ [] _ ?_ H2.out).mono ?_
    · exact (K2.out.cell (by simp) (by omega)).trans mc
    rintro e u' w'' ⟨rfl, rfl, h3, k3⟩
    have h4 : RAt w'' B (rest rdB (some l)) := by rw [← HT.out.2]; exact h3
    have k4 := (k0.trans K2.out).trans k3
    have HZ : Hid ((fun n : Nat => Value.int .u8 (n : Int)) (0 : Nat) = (fun n : Nat => Value.int .u8 (n : Int)) (told (0 : Nat) rdB (some l))) := Lib.hid (by rw [← HT.out.1])
    simp [Leaves, settle, results, Tryz.results110, go_sem]
    exact ⟨by have hz := HZ.out; simpa using hz, h4, k4⟩
  | some x =>
    obtain ⟨v, r⟩ := x
    have C : Hid (Calls Tryz.prog 111 #[ptr B] (w.alloc (.cells #[ptr B] 122)) fun e w' => e = .returned ((fun n : Nat => Value.int .u8 (n : Int)) v) ∧ RAt w' B (some r) ∧ Kept (w.alloc (.cells #[ptr B] 122)) w' (· ≠ B)) := Lib.hid ((octet_rd B l _ hW).mono fun e w' q => by rw [hv] at q; exact q)
    have HT : Hid (v = told (0 : Nat) rdB (some l) ∧ some r = rest rdB (some l)) := Lib.hid (by simp [told, rest, hv])
    have HW := Lib.hid hW
    clear hv hW
    go_enter_defers Tryz.func110, Tryz.ntmps110
    go_wp2_with (first
      | (go_at_call 124; ((refine (CF.out _ HW.out).mono ?_); rintro e w1 ⟨rfl, rfl⟩))
      | (go_at_call 111; ((refine C.out.mono ?_); rintro e w2 ⟨rfl, h2, k2⟩; have H2 := Lib.hid h2; have K2 := Lib.hid k2; clear h2 k2)))
    refine leaves_cons (f := 125) (args := #[.pointer (some ⟨w.heap.size, 0, none⟩)]) (by simp) (by simp [go_sem]) ?_
    refine (octet_idle ⟨w.heap.size, 0, none⟩ _).mono ?_
    rintro e u' w'' ⟨rfl, rfl, rfl⟩
    have h4 : RAt w'' B (rest rdB (some l)) := by rw [← HT.out.2]; exact H2.out
    have k4 := (k0.trans K2.out)
    have HZ : Hid ((fun n : Nat => Value.int .u8 (n : Int)) v = (fun n : Nat => Value.int .u8 (n : Int)) (told (0 : Nat) rdB (some l))) := Lib.hid (by rw [← HT.out.1])
    simp [Leaves, settle, results, Tryz.results110, go_sem]
    exact ⟨by have hz := HZ.out; simpa using hz, h4, k4⟩

theorem truth_catch (p : Addr) (B : Nat) (u : TypeId) (pv : Value) (older : List PanicEntry) (w : World) (hc : w.cell? p = some (ptr B)) (hB : Bad w B) :
    CallsD Tryz.prog 130 #[.pointer (some p)] (.panicking ({ v := .iface u pv, recovered := false } :: older)) w fun e u' w' =>
      e = .returned (.tuple #[]) ∧ u' = .panicking ({ v := .iface u pv, recovered := true } :: older) ∧ RAt w' B none ∧ Kept w w' (· ≠ B) := by
  obtain ⟨x, y, h1⟩ := hB
  have c0 := h1.c 0
  have c1 := h1.c 1
  have f0 := h1.f 0
  have f1 := h1.f 1
  have H := Lib.hid h1
  clear h1
  refine callsD_of_wpS Tryz.func130 rfl fun c₀ cs hu => ?_
  apply wpS_seq
  apply wpS_region
  simp [wpOpsS, go_sem, recoverD, hu, Tryz.ntmps130, Exit.thenS]
  refine wpS_cond (t := true) (by simp [Act.eval, Array.replicate]) ?_
  simp only [if_true]
  apply wpS_region
  simp [wpOpsS, go_sem, hc, c0, c1, f0, f1, bodyPostS, results, Tryz.results130]
  exact ⟨bad_none H.out, kset2 (kset _) _⟩
theorem truth_idle (p : Addr) (w : World) :
    CallsD Tryz.prog 130 #[.pointer (some p)] .returning w fun e u' w' => e = .returned (.tuple #[]) ∧ u' = .returning ∧ w' = w := by
  refine callsD_of_wpS Tryz.func130 rfl fun c₀ cs hu => ?_
  apply wpS_seq
  apply wpS_region
  simp [wpOpsS, go_sem, recoverD, hu, Tryz.ntmps130, Exit.thenS]
  refine wpS_cond (t := false) (by simp [Act.eval, Array.replicate]) ?_
  simp only [Bool.false_eq_true, if_false]
  refine wpS_of_wp (wp_skip ?_)
  cases c₀
  simp_all [bodyPostS, results, Tryz.results130]
set_option maxHeartbeats 1000000 in
theorem truth_next_some (B : Nat) (l : Bs) (w : World) (h : RAt w B (some l)) : Calls Tryz.prog 117 #[ptr B, .func (.func 118) #[] #[]] w fun e w' => e = .returned ((fun n : Nat => Value.bool (n == 1)) (told (0 : Nat) rdT (some l))) ∧ RAt w' B (rest rdT (some l)) ∧ Kept w w' (· ≠ B) := by
  have hmf : ∀ (fn : Fn) (first cap : Array Value) (w : World), (Instr.makeFunc fn first cap).run Tryz.prog w = .ok (.func fn first cap) w := fun _ _ _ _ => rfl
  have H := Lib.hid h
  have hB := h.lt
  clear h
  have CF := Lib.hid (failed_any B (some l))
  have k0 : Kept w (w.alloc (.cells #[ptr B] 122)) (· ≠ B) := .of_below (bAl (Below.refl _ _) _)
  have hW : RAt (w.alloc (.cells #[ptr B] 122)) B (some l) := H.out.below (bAl (Below.refl _ _) _)
  have mc := (AtC.new w #[ptr B] 122).c 0
  cases hv : rdT l with
  | none =>
    have C : Hid (Calls Tryz.prog 118 #[ptr B] (w.alloc (.cells #[ptr B] 122)) fun e w' => e = pan ∧ Bad w' B ∧ Kept (w.alloc (.cells #[ptr B] 122)) w' (· ≠ B)) := Lib.hid ((truth_rd B l _ hW).mono fun e w' q => by rw [hv] at q; exact q)
    have HT : Hid ((0 : Nat) = told (0 : Nat) rdT (some l) ∧ none = rest rdT (some l)) := Lib.hid (by simp [told, rest, hv])
    have HW := Lib.hid hW
    clear hv hW
    go_enter_defers Tryz.func117, Tryz.ntmps117
    go_wp2_with (first
      | (go_at_call 124; ((refine (CF.out _ HW.out).mono ?_); rintro e w1 ⟨rfl, rfl⟩))
      | (go_at_call 118; ((refine C.out.mono ?_); rintro e w2 ⟨rfl, h2, k2⟩; have H2 := Lib.hid h2; have K2 := Lib.hid k2; clear h2 k2)))
    refine leaves_cons (f := 130) (args := #[.pointer (some ⟨w.heap.size, 0, none⟩)]) (by simp) (by simp [go_sem]) ?_
    refine (truth_catch ⟨w.heap.size, 0, none⟩ B _ _ [] _ ?_ H2.out).mono ?_
    · exact (K2.out.cell (by simp) (by omega)).trans mc
    rintro e u' w'' ⟨rfl, rfl, h3, k3⟩
    have h4 : RAt w'' B (rest rdT (some l)) := by rw [← HT.out.2]; exact h3
    have k4 := (k0.trans K2.out).trans k3
    have HZ : Hid ((fun n : Nat => Value.bool (n == 1)) (0 : Nat) = (fun n : Nat => Value.bool (n == 1)) (told (0 : Nat) rdT (some l))) := Lib.hid (by rw [← HT.out.1])
    simp [Leaves, settle, results, Tryz.results117, go_sem]
    exact ⟨by have hz := HZ.out; simpa using hz, h4, k4⟩
  | some x =>
    obtain ⟨v, r⟩ := x
    have C : Hid (Calls Tryz.prog 118 #[ptr B] (w.alloc (.cells #[ptr B] 122)) fun e w' => e = .returned ((fun n : Nat => Value.bool (n == 1)) v) ∧ RAt w' B (some r) ∧ Kept (w.alloc (.cells #[ptr B] 122)) w' (· ≠ B)) := Lib.hid ((truth_rd B l _ hW).mono fun e w' q => by rw [hv] at q; exact q)
    have HT : Hid (v = told (0 : Nat) rdT (some l) ∧ some r = rest rdT (some l)) := Lib.hid (by simp [told, rest, hv])
    have HW := Lib.hid hW
    clear hv hW
    go_enter_defers Tryz.func117, Tryz.ntmps117
    go_wp2_with (first
      | (go_at_call 124; ((refine (CF.out _ HW.out).mono ?_); rintro e w1 ⟨rfl, rfl⟩))
      | (go_at_call 118; ((refine C.out.mono ?_); rintro e w2 ⟨rfl, h2, k2⟩; have H2 := Lib.hid h2; have K2 := Lib.hid k2; clear h2 k2)))
    refine leaves_cons (f := 130) (args := #[.pointer (some ⟨w.heap.size, 0, none⟩)]) (by simp) (by simp [go_sem]) ?_
    refine (truth_idle ⟨w.heap.size, 0, none⟩ _).mono ?_
    rintro e u' w'' ⟨rfl, rfl, rfl⟩
    have h4 : RAt w'' B (rest rdT (some l)) := by rw [← HT.out.2]; exact H2.out
    have k4 := (k0.trans K2.out)
    have HZ : Hid ((fun n : Nat => Value.bool (n == 1)) v = (fun n : Nat => Value.bool (n == 1)) (told (0 : Nat) rdT (some l))) := Lib.hid (by rw [← HT.out.1])
    simp [Leaves, settle, results, Tryz.results117, go_sem]
    exact ⟨by have hz := HZ.out; simpa using hz, h4, k4⟩

theorem unsigned_catch (p : Addr) (B : Nat) (u : TypeId) (pv : Value) (older : List PanicEntry) (w : World) (hc : w.cell? p = some (ptr B)) (hB : Bad w B) :
    CallsD Tryz.prog 131 #[.pointer (some p)] (.panicking ({ v := .iface u pv, recovered := false } :: older)) w fun e u' w' =>
      e = .returned (.tuple #[]) ∧ u' = .panicking ({ v := .iface u pv, recovered := true } :: older) ∧ RAt w' B none ∧ Kept w w' (· ≠ B) := by
  obtain ⟨x, y, h1⟩ := hB
  have c0 := h1.c 0
  have c1 := h1.c 1
  have f0 := h1.f 0
  have f1 := h1.f 1
  have H := Lib.hid h1
  clear h1
  refine callsD_of_wpS Tryz.func131 rfl fun c₀ cs hu => ?_
  apply wpS_seq
  apply wpS_region
  simp [wpOpsS, go_sem, recoverD, hu, Tryz.ntmps131, Exit.thenS]
  refine wpS_cond (t := true) (by simp [Act.eval, Array.replicate]) ?_
  simp only [if_true]
  apply wpS_region
  simp [wpOpsS, go_sem, hc, c0, c1, f0, f1, bodyPostS, results, Tryz.results131]
  exact ⟨bad_none H.out, kset2 (kset _) _⟩
theorem unsigned_idle (p : Addr) (w : World) :
    CallsD Tryz.prog 131 #[.pointer (some p)] .returning w fun e u' w' => e = .returned (.tuple #[]) ∧ u' = .returning ∧ w' = w := by
  refine callsD_of_wpS Tryz.func131 rfl fun c₀ cs hu => ?_
  apply wpS_seq
  apply wpS_region
  simp [wpOpsS, go_sem, recoverD, hu, Tryz.ntmps131, Exit.thenS]
  refine wpS_cond (t := false) (by simp [Act.eval, Array.replicate]) ?_
  simp only [Bool.false_eq_true, if_false]
  refine wpS_of_wp (wp_skip ?_)
  cases c₀
  simp_all [bodyPostS, results, Tryz.results131]
set_option maxHeartbeats 1000000 in
theorem unsigned_next_some (B : Nat) (l : Bs) (w : World) (h : RAt w B (some l)) : Calls Tryz.prog 119 #[ptr B, .func (.func 120) #[] #[]] w fun e w' => e = .returned (vU (told (0 : Nat) rdU (some l))) ∧ RAt w' B (rest rdU (some l)) ∧ Kept w w' (· ≠ B) := by
  have hmf : ∀ (fn : Fn) (first cap : Array Value) (w : World), (Instr.makeFunc fn first cap).run Tryz.prog w = .ok (.func fn first cap) w := fun _ _ _ _ => rfl
  have H := Lib.hid h
  have hB := h.lt
  clear h
  have CF := Lib.hid (failed_any B (some l))
  have k0 : Kept w (w.alloc (.cells #[ptr B] 122)) (· ≠ B) := .of_below (bAl (Below.refl _ _) _)
  have hW : RAt (w.alloc (.cells #[ptr B] 122)) B (some l) := H.out.below (bAl (Below.refl _ _) _)
  have mc := (AtC.new w #[ptr B] 122).c 0
  cases hv : rdU l with
  | none =>
    have C : Hid (Calls Tryz.prog 120 #[ptr B] (w.alloc (.cells #[ptr B] 122)) fun e w' => e = pan ∧ Bad w' B ∧ Kept (w.alloc (.cells #[ptr B] 122)) w' (· ≠ B)) := Lib.hid ((unsigned_any B l _ hW).mono fun e w' q => by rw [hv] at q; exact q)
    have HT : Hid ((0 : Nat) = told (0 : Nat) rdU (some l) ∧ none = rest rdU (some l)) := Lib.hid (by simp [told, rest, hv])
    have HW := Lib.hid hW
    clear hv hW
    go_enter_defers Tryz.func119, Tryz.ntmps119
    go_wp2_with (first
      | (go_at_call 124; ((refine (CF.out _ HW.out).mono ?_); rintro e w1 ⟨rfl, rfl⟩))
      | (go_at_call 120; ((refine C.out.mono ?_); rintro e w2 ⟨rfl, h2, k2⟩; have H2 := Lib.hid h2; have K2 := Lib.hid k2; clear h2 k2)))
    refine leaves_cons (f := 131) (args := #[.pointer (some ⟨w.heap.size, 0, none⟩)]) (by simp) (by simp [go_sem]) ?_
    refine (unsigned_catch ⟨w.heap.size, 0, none⟩ B _ _ [] _ ?_ H2.out).mono ?_
    · exact (K2.out.cell (by simp) (by omega)).trans mc
    rintro e u' w'' ⟨rfl, rfl, h3, k3⟩
    have h4 : RAt w'' B (rest rdU (some l)) := by rw [← HT.out.2]; exact h3
    have k4 := (k0.trans K2.out).trans k3
    have HZ : Hid (vU (0 : Nat) = vU (told (0 : Nat) rdU (some l))) := Lib.hid (by rw [← HT.out.1])
    simp [Leaves, settle, results, Tryz.results119, go_sem]
    exact ⟨by have hz := HZ.out; simpa using hz, h4, k4⟩
  | some x =>
    obtain ⟨v, r⟩ := x
    have C : Hid (Calls Tryz.prog 120 #[ptr B] (w.alloc (.cells #[ptr B] 122)) fun e w' => e = .returned (vU v) ∧ RAt w' B (some r) ∧ Kept (w.alloc (.cells #[ptr B] 122)) w' (· ≠ B)) := Lib.hid ((unsigned_any B l _ hW).mono fun e w' q => by rw [hv] at q; exact q)
    have HT : Hid (v = told (0 : Nat) rdU (some l) ∧ some r = rest rdU (some l)) := Lib.hid (by simp [told, rest, hv])
    have HW := Lib.hid hW
    clear hv hW
    go_enter_defers Tryz.func119, Tryz.ntmps119
    go_wp2_with (first
      | (go_at_call 124; ((refine (CF.out _ HW.out).mono ?_); rintro e w1 ⟨rfl, rfl⟩))
      | (go_at_call 120; ((refine C.out.mono ?_); rintro e w2 ⟨rfl, h2, k2⟩; have H2 := Lib.hid h2; have K2 := Lib.hid k2; clear h2 k2)))
    refine leaves_cons (f := 131) (args := #[.pointer (some ⟨w.heap.size, 0, none⟩)]) (by simp) (by simp [go_sem]) ?_
    refine (unsigned_idle ⟨w.heap.size, 0, none⟩ _).mono ?_
    rintro e u' w'' ⟨rfl, rfl, rfl⟩
    have h4 : RAt w'' B (rest rdU (some l)) := by rw [← HT.out.2]; exact H2.out
    have k4 := (k0.trans K2.out)
    have HZ : Hid (vU v = vU (told (0 : Nat) rdU (some l))) := Lib.hid (by rw [← HT.out.1])
    simp [Leaves, settle, results, Tryz.results119, go_sem]
    exact ⟨by have hz := HZ.out; simpa using hz, h4, k4⟩

theorem signed_catch (p : Addr) (B : Nat) (u : TypeId) (pv : Value) (older : List PanicEntry) (w : World) (hc : w.cell? p = some (ptr B)) (hB : Bad w B) :
    CallsD Tryz.prog 129 #[.pointer (some p)] (.panicking ({ v := .iface u pv, recovered := false } :: older)) w fun e u' w' =>
      e = .returned (.tuple #[]) ∧ u' = .panicking ({ v := .iface u pv, recovered := true } :: older) ∧ RAt w' B none ∧ Kept w w' (· ≠ B) := by
  obtain ⟨x, y, h1⟩ := hB
  have c0 := h1.c 0
  have c1 := h1.c 1
  have f0 := h1.f 0
  have f1 := h1.f 1
  have H := Lib.hid h1
  clear h1
  refine callsD_of_wpS Tryz.func129 rfl fun c₀ cs hu => ?_
  apply wpS_seq
  apply wpS_region
  simp [wpOpsS, go_sem, recoverD, hu, Tryz.ntmps129, Exit.thenS]
  refine wpS_cond (t := true) (by simp [Act.eval, Array.replicate]) ?_
  simp only [if_true]
  apply wpS_region
  simp [wpOpsS, go_sem, hc, c0, c1, f0, f1, bodyPostS, results, Tryz.results129]
  exact ⟨bad_none H.out, kset2 (kset _) _⟩
theorem signed_idle (p : Addr) (w : World) :
    CallsD Tryz.prog 129 #[.pointer (some p)] .returning w fun e u' w' => e = .returned (.tuple #[]) ∧ u' = .returning ∧ w' = w := by
  refine callsD_of_wpS Tryz.func129 rfl fun c₀ cs hu => ?_
  apply wpS_seq
  apply wpS_region
  simp [wpOpsS, go_sem, recoverD, hu, Tryz.ntmps129, Exit.thenS]
  refine wpS_cond (t := false) (by simp [Act.eval, Array.replicate]) ?_
  simp only [Bool.false_eq_true, if_false]
  refine wpS_of_wp (wp_skip ?_)
  cases c₀
  simp_all [bodyPostS, results, Tryz.results129]
set_option maxHeartbeats 1000000 in
theorem signed_next_some (B : Nat) (l : Bs) (w : World) (h : RAt w B (some l)) : Calls Tryz.prog 115 #[ptr B, .func (.func 116) #[] #[]] w fun e w' => e = .returned (vI (told (0 : Int) rdI (some l))) ∧ RAt w' B (rest rdI (some l)) ∧ Kept w w' (· ≠ B) := by
  have hmf : ∀ (fn : Fn) (first cap : Array Value) (w : World), (Instr.makeFunc fn first cap).run Tryz.prog w = .ok (.func fn first cap) w := fun _ _ _ _ => rfl
  have H := Lib.hid h
  have hB := h.lt
  clear h
  have CF := Lib.hid (failed_any B (some l))
  have k0 : Kept w (w.alloc (.cells #[ptr B] 122)) (· ≠ B) := .of_below (bAl (Below.refl _ _) _)
  have hW : RAt (w.alloc (.cells #[ptr B] 122)) B (some l) := H.out.below (bAl (Below.refl _ _) _)
  have mc := (AtC.new w #[ptr B] 122).c 0
  cases hv : rdI l with
  | none =>
    have C : Hid (Calls Tryz.prog 116 #[ptr B] (w.alloc (.cells #[ptr B] 122)) fun e w' => e = pan ∧ Bad w' B ∧ Kept (w.alloc (.cells #[ptr B] 122)) w' (· ≠ B)) := Lib.hid ((signed_any B l _ hW).mono fun e w' q => by rw [hv] at q; exact q)
    have HT : Hid ((0 : Int) = told (0 : Int) rdI (some l) ∧ none = rest rdI (some l)) := Lib.hid (by simp [told, rest, hv])
    have HW := Lib.hid hW
    clear hv hW
    go_enter_defers Tryz.func115, Tryz.ntmps115
    go_wp2_with (first
      | (go_at_call 124; ((refine (CF.out _ HW.out).mono ?_); rintro e w1 ⟨rfl, rfl⟩))
      | (go_at_call 116; ((refine C.out.mono ?_); rintro e w2 ⟨rfl, h2, k2⟩; have H2 := Lib.hid h2; have K2 := Lib.hid k2; clear h2 k2)))
    refine leaves_cons (f := 129) (args := #[.pointer (some ⟨w.heap.size, 0, none⟩)]) (by simp) (by simp [go_sem]) ?_
    refine (signed_catch ⟨w.heap.size, 0, none⟩ B _ _ [] _ ?_ H2.out).mono ?_
    · exact (K2.out.cell (by simp) (by omega)).trans mc
    rintro e u' w'' ⟨rfl, rfl, h3, k3⟩
    have h4 : RAt w'' B (rest rdI (some l)) := by rw [← HT.out.2]; exact h3
    have k4 := (k0.trans K2.out).trans k3
    have HZ : Hid (vI (0 : Int) = vI (told (0 : Int) rdI (some l))) := Lib.hid (by rw [← HT.out.1])
    simp [Leaves, settle, results, Tryz.results115, go_sem]
    exact ⟨by have hz := HZ.out; simpa using hz, h4, k4⟩
  | some x =>
    obtain ⟨v, r⟩ := x
    have C : Hid (Calls Tryz.prog 116 #[ptr B] (w.alloc (.cells #[ptr B] 122)) fun e w' => e = .returned (vI v) ∧ RAt w' B (some r) ∧ Kept (w.alloc (.cells #[ptr B] 122)) w' (· ≠ B)) := Lib.hid ((signed_any B l _ hW).mono fun e w' q => by rw [hv] at q; exact q)
    have HT : Hid (v = told (0 : Int) rdI (some l) ∧ some r = rest rdI (some l)) := Lib.hid (by simp [told, rest, hv])
    have HW := Lib.hid hW
    clear hv hW
    go_enter_defers Tryz.func115, Tryz.ntmps115
    go_wp2_with (first
      | (go_at_call 124; ((refine (CF.out _ HW.out).mono ?_); rintro e w1 ⟨rfl, rfl⟩))
      | (go_at_call 116; ((refine C.out.mono ?_); rintro e w2 ⟨rfl, h2, k2⟩; have H2 := Lib.hid h2; have K2 := Lib.hid k2; clear h2 k2)))
    refine leaves_cons (f := 129) (args := #[.pointer (some ⟨w.heap.size, 0, none⟩)]) (by simp) (by simp [go_sem]) ?_
    refine (signed_idle ⟨w.heap.size, 0, none⟩ _).mono ?_
    rintro e u' w'' ⟨rfl, rfl, rfl⟩
    have h4 : RAt w'' B (rest rdI (some l)) := by rw [← HT.out.2]; exact H2.out
    have k4 := (k0.trans K2.out)
    have HZ : Hid (vI v = vI (told (0 : Int) rdI (some l))) := Lib.hid (by rw [← HT.out.1])
    simp [Leaves, settle, results, Tryz.results115, go_sem]
    exact ⟨by have hz := HZ.out; simpa using hz, h4, k4⟩

theorem text_catch (p : Addr) (B : Nat) (u : TypeId) (pv : Value) (older : List PanicEntry) (w : World) (hc : w.cell? p = some (ptr B)) (hB : Bad w B) :
    CallsD Tryz.prog 127 #[.pointer (some p)] (.panicking ({ v := .iface u pv, recovered := false } :: older)) w fun e u' w' =>
      e = .returned (.tuple #[]) ∧ u' = .panicking ({ v := .iface u pv, recovered := true } :: older) ∧ RAt w' B none ∧ Kept w w' (· ≠ B) := by
  obtain ⟨x, y, h1⟩ := hB
  have c0 := h1.c 0
  have c1 := h1.c 1
  have f0 := h1.f 0
  have f1 := h1.f 1
  have H := Lib.hid h1
  clear h1
  refine callsD_of_wpS Tryz.func127 rfl fun c₀ cs hu => ?_
  apply wpS_seq
  apply wpS_region
  simp [wpOpsS, go_sem, recoverD, hu, Tryz.ntmps127, Exit.thenS]
  refine wpS_cond (t := true) (by simp [Act.eval, Array.replicate]) ?_
  simp only [if_true]
  apply wpS_region
  simp [wpOpsS, go_sem, hc, c0, c1, f0, f1, bodyPostS, results, Tryz.results127]
  exact ⟨bad_none H.out, kset2 (kset _) _⟩
theorem text_idle (p : Addr) (w : World) :
    CallsD Tryz.prog 127 #[.pointer (some p)] .returning w fun e u' w' => e = .returned (.tuple #[]) ∧ u' = .returning ∧ w' = w := by
  refine callsD_of_wpS Tryz.func127 rfl fun c₀ cs hu => ?_
  apply wpS_seq
  apply wpS_region
  simp [wpOpsS, go_sem, recoverD, hu, Tryz.ntmps127, Exit.thenS]
  refine wpS_cond (t := false) (by simp [Act.eval, Array.replicate]) ?_
  simp only [Bool.false_eq_true, if_false]
  refine wpS_of_wp (wp_skip ?_)
  cases c₀
  simp_all [bodyPostS, results, Tryz.results127]
set_option maxHeartbeats 1000000 in
theorem text_next_some (B : Nat) (l : Bs) (w : World) (h : RAt w B (some l)) : Calls Tryz.prog 112 #[ptr B, .func (.func 113) #[] #[]] w fun e w' => e = .returned (vS (told ([] : Bs) rdS (some l))) ∧ RAt w' B (rest rdS (some l)) ∧ Kept w w' (· ≠ B) := by
  have hmf : ∀ (fn : Fn) (first cap : Array Value) (w : World), (Instr.makeFunc fn first cap).run Tryz.prog w = .ok (.func fn first cap) w := fun _ _ _ _ => rfl
  have H := Lib.hid h
  have hB := h.lt
  clear h
  have CF := Lib.hid (failed_any B (some l))
  have k0 : Kept w (w.alloc (.cells #[ptr B] 122)) (· ≠ B) := .of_below (bAl (Below.refl _ _) _)
  have hW : RAt (w.alloc (.cells #[ptr B] 122)) B (some l) := H.out.below (bAl (Below.refl _ _) _)
  have mc := (AtC.new w #[ptr B] 122).c 0
  cases hv : rdS l with
  | none =>
    have C : Hid (Calls Tryz.prog 113 #[ptr B] (w.alloc (.cells #[ptr B] 122)) fun e w' => e = pan ∧ Bad w' B ∧ Kept (w.alloc (.cells #[ptr B] 122)) w' (· ≠ B)) := Lib.hid ((text_any B l _ hW).mono fun e w' q => by rw [hv] at q; exact q)
    have HT : Hid (([] : Bs) = told ([] : Bs) rdS (some l) ∧ none = rest rdS (some l)) := Lib.hid (by simp [told, rest, hv])
    have HW := Lib.hid hW
    clear hv hW
    go_enter_defers Tryz.func112, Tryz.ntmps112
    go_wp2_with (first
      | (go_at_call 124; ((refine (CF.out _ HW.out).mono ?_); rintro e w1 ⟨rfl, rfl⟩))
      | (go_at_call 113; ((refine C.out.mono ?_); rintro e w2 ⟨rfl, h2, k2⟩; have H2 := Lib.hid h2; have K2 := Lib.hid k2; clear h2 k2)))
    refine leaves_cons (f := 127) (args := #[.pointer (some ⟨w.heap.size, 0, none⟩)]) (by simp) (by simp [go_sem]) ?_
    refine (text_catch ⟨w.heap.size, 0, none⟩ B _ _ [] _ ?_ H2.out).mono ?_
    · exact (K2.out.cell (by simp) (by omega)).trans mc
    rintro e u' w'' ⟨rfl, rfl, h3, k3⟩
    have h4 : RAt w'' B (rest rdS (some l)) := by rw [← HT.out.2]; exact h3
    have k4 := (k0.trans K2.out).trans k3
    have HZ : Hid (vS ([] : Bs) = vS (told ([] : Bs) rdS (some l))) := Lib.hid (by rw [← HT.out.1])
    simp [Leaves, settle, results, Tryz.results112, go_sem]
    exact ⟨by have hz := HZ.out; simpa using hz, h4, k4⟩
  | some x =>
    obtain ⟨v, r⟩ := x
    have C : Hid (Calls Tryz.prog 113 #[ptr B] (w.alloc (.cells #[ptr B] 122)) fun e w' => e = .returned (vS v) ∧ RAt w' B (some r) ∧ Kept (w.alloc (.cells #[ptr B] 122)) w' (· ≠ B)) := Lib.hid ((text_any B l _ hW).mono fun e w' q => by rw [hv] at q; exact q)
    have HT : Hid (v = told ([] : Bs) rdS (some l) ∧ some r = rest rdS (some l)) := Lib.hid (by simp [told, rest, hv])
    have HW := Lib.hid hW
    clear hv hW
    go_enter_defers Tryz.func112, Tryz.ntmps112
    go_wp2_with (first
      | (go_at_call 124; ((refine (CF.out _ HW.out).mono ?_); rintro e w1 ⟨rfl, rfl⟩))
      | (go_at_call 113; ((refine C.out.mono ?_); rintro e w2 ⟨rfl, h2, k2⟩; have H2 := Lib.hid h2; have K2 := Lib.hid k2; clear h2 k2)))
    refine leaves_cons (f := 127) (args := #[.pointer (some ⟨w.heap.size, 0, none⟩)]) (by simp) (by simp [go_sem]) ?_
    refine (text_idle ⟨w.heap.size, 0, none⟩ _).mono ?_
    rintro e u' w'' ⟨rfl, rfl, rfl⟩
    have h4 : RAt w'' B (rest rdS (some l)) := by rw [← HT.out.2]; exact H2.out
    have k4 := (k0.trans K2.out)
    have HZ : Hid (vS v = vS (told ([] : Bs) rdS (some l))) := Lib.hid (by rw [← HT.out.1])
    simp [Leaves, settle, results, Tryz.results112, go_sem]
    exact ⟨by have hz := HZ.out; simpa using hz, h4, k4⟩
end Go.Proofs.YtjocbokfdfdkeaaGreat.YX
