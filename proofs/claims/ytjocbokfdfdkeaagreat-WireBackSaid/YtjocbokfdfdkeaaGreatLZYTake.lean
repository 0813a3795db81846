/-
  WALKS: must, take, octet, truth of a reader.
-/
import Derived.Test.YtjocbokfdfdkeaaGreatLZYKit
import Derived.WalkLawsBesides
namespace Go.Proofs.YtjocbokfdfdkeaaGreat.YX
open Go.RowKit HL
open IX (ptr El cellsK cellsK_at cellsK_len OwnK RdK Kept slice_toK slice_fromK)
set_option maxRecDepth 100000
set_option linter.unusedVariables false
set_option linter.unusedSimpArgs false

/-- A failure, raised. -/
abbrev pan : Ending := .panicked [{ v := .iface 190 (.agg #[]), recovered := false }]
theorem must_yes (t : Bool) (ht : t = true) (w : World) : Calls Tryz.prog 128 #[.bool t] w fun e w' => e = .returned (.tuple #[]) ∧ w = w' := by
  subst ht
  go_enter Tryz.func128, Tryz.ntmps128
  go_wp2
  go_end0
  exact ⟨rfl, rfl⟩
theorem must_no (t : Bool) (ht : t = false) (w : World) : Calls Tryz.prog 128 #[.bool t] w fun e w' => e = pan ∧ w = w' := by
  subst ht
  go_enter Tryz.func128, Tryz.ntmps128
  go_wp2
  exact ⟨rfl, rfl, rfl⟩
/-- What a failed read leaves of a reader: its block. -/
def Bad (w : World) (B : Nat) : Prop := ∃ x y, AtC w B #[x, y]
theorem RAt.bad {w : World} {B : Nat} {s : Option Bs} (h : RAt w B s) : Bad w B := by
  cases s with
  | none => exact ⟨_, _, h⟩
  | some l => obtain ⟨A, c, h1, _⟩ := h; exact ⟨_, _, h1⟩
/-- A reader left behind a store into its first cell. -/
theorem rat_set {W : World} {B : Nat} {v y : Value} {A2 : Option Addr} {n c2 : Nat} {l : Bs} (h : AtC W B #[v, y]) (hy : y = .bool false) (hr : RdK u8K W B A2 l) (hn : l.length = n) (hc : n ≤ c2) : RAt (W.setCell ⟨B, 0, none⟩ (.slice A2 n c2)) B (some l) := by
  subst hn; subst hy
  refine ⟨A2, c2, h.set (by simp) _, ?_, hc⟩
  rcases hr with h1 | ⟨b, off, rfl, hb, hcell⟩
  · exact .inl h1
  · refine .inr ⟨b, off, rfl, hb, fun m u hu => ?_⟩
    rw [World.cell?_setCell_other (h := fun e => by injection e; omega)]
    exact hcell m u hu
theorem RdK.setB {W : World} {B i : Nat} {v : Value} {A : Option Addr} {l : Bs} (h : RdK u8K W B A l) : RdK u8K (W.setCell ⟨B, i, none⟩ v) B A l := by
  rcases h with h1 | ⟨b, off, rfl, hb, hcell⟩
  · exact .inl h1
  · refine .inr ⟨b, off, rfl, hb, fun m u hu => ?_⟩
    rw [World.cell?_setCell_other (h := fun e => by injection e; omega)]
    exact hcell m u hu
theorem RdK.take {w : World} {B : Nat} {A : Option Addr} {l : Bs} (h : RdK u8K w B A l) (n : Nat) : RdK u8K w B A (l.take n) := by
  refine rdY_back ?_
  rcases rdY h with h1 | ⟨b, off, rfl, hb, hcell⟩
  · exact .inl (by rw [h1]; simp)
  · refine .inr ⟨b, off, rfl, hb, fun j x hx => hcell j x ?_⟩
    rw [List.getElem?_take] at hx
    split at hx
    · exact hx
    · cases hx
theorem kset {W : World} {B i : Nat} (v : Value) : Kept W (W.setCell ⟨B, i, none⟩ v) (· ≠ B) := (Kept.refl W _).set (B := B) (fun _ h => h rfl) v
set_option maxHeartbeats 1000000 in
theorem take_no (B n : Nat) (j : Int) (hj : j = n) (l : Bs) (w : World) (h : RAt w B (some l)) (hn : l.length < n) : Calls Tryz.prog 126 #[ptr B, .int .i64 j] w fun e w' => e = pan ∧ w = w' := by
  obtain ⟨A, c, h1, h2, h3⟩ := h
  have c0 := h1.c 0
  have C := Lib.hid must_no
  have i1 : ¬ ((n : Int) ≤ (l.length : Int)) := by omega
  have i2 : decide ((n : Int) ≤ (l.length : Int)) = false := decide_eq_false i1
  subst hj
  clear h1 h2
  generalize l.length = m at *
  go_enter Tryz.func126, Tryz.ntmps126
  go_wp2_with (go_at_call 128; ((refine (C.out _ (by first | rfl | exact i2) _).mono ?_); rintro e w1 ⟨rfl, rfl⟩))
  exact ⟨rfl, rfl, rfl⟩
set_option maxHeartbeats 1000000 in
theorem take_yes (B n : Nat) (j : Int) (hj : j = n) (l : Bs) (w : World) (h : RAt w B (some l)) (hn : n ≤ l.length) : Calls Tryz.prog 126 #[ptr B, .int .i64 j] w fun e w' => ∃ A c, e = .returned (.slice A n c) ∧ RdK u8K w' B A (l.take n) ∧ RAt w' B (some (l.drop n)) ∧ Kept w w' (· ≠ B) := by
  obtain ⟨A, c, h1, h2, h3⟩ := h
  have c0 := h1.c 0
  have f0 := h1.f 0
  have C := Lib.hid must_yes
  have i1 : ((n : Int) ≤ (l.length : Int)) := by omega
  have i2 : decide ((n : Int) ≤ (l.length : Int)) = true := decide_eq_true i1
  subst hj
  obtain ⟨A2, c2, s1, s2, s3, _⟩ := slice_fromK u8K (c := c) h2 rfl hn h3
  have t1 := slice_toK u8K (A := A) (n := l.length) (c := c) hn h3
  have hs1 : ∀ W, (Instr.slice 39 (.slice A l.length c) (some (.int .i64 n)) none none).run Tryz.prog W = .ok (.slice A2 (l.length - n) c2) W := s1
  have ht1 : ∀ W, (Instr.slice 39 (.slice A l.length c) none (some (.int .i64 n)) none).run Tryz.prog W = .ok (.slice A n c) W := t1
  clear s1 t1
  have H := Lib.hid (And.intro h1 h2)
  have H2 := Lib.hid s2
  have hl : (l.drop n).length = l.length - n := List.length_drop
  have ht : (l.take n).length = n := by rw [List.length_take]; omega
  clear h1 h2 s2
  generalize l.length = m at *
  go_enter Tryz.func126, Tryz.ntmps126
  go_wp2_with (go_at_call 128; ((refine (C.out _ (by first | rfl | exact i2) _).mono ?_); rintro e w1 ⟨rfl, rfl⟩))
  go_ret
  exact ⟨A, c, rfl, RdK.setB (RdK.take H.out.2 n), rat_set H.out.1 rfl (H2.out _ H.out.2) hl s3, kset _⟩
theorem octet_no (B : Nat) (w : World) (h : RAt w B (some [])) : Calls Tryz.prog 111 #[ptr B] w fun e w' => e = pan ∧ w = w' := by
  have C := Lib.hid (take_no B 1 1 rfl [] w h (by simp))
  clear h
  go_enter Tryz.func111, Tryz.ntmps111
  go_wp2_with (go_at_call 126; ((with_reducible refine C.out.mono ?_); rintro e w1 ⟨rfl, rfl⟩))
  exact ⟨rfl, rfl, rfl⟩
theorem octet_yes (B : Nat) (b : UInt8) (r : Bs) (w : World) (h : RAt w B (some (b :: r))) : Calls Tryz.prog 111 #[ptr B] w fun e w' => e = .returned (u8 b) ∧ RAt w' B (some r) ∧ Kept w w' (· ≠ B) := by
  have C := Lib.hid (take_yes B 1 1 rfl (b :: r) w h (by simp))
  clear h
  go_enter Tryz.func111, Tryz.ntmps111
  go_wp2_with (go_at_call 126; ((with_reducible refine C.out.mono ?_); rintro e w1 ⟨A, c, rfl, hr, h1, k1⟩; obtain ⟨b1, off, rfl, hb, hc⟩ := (rdY hr).at_ (by simp); have c0 := hc 0 b rfl; simp only [Nat.add_zero] at c0; have H1 := Lib.hid h1; clear h1 hr hc))
  go_ret
  exact ⟨rfl, H1.out, k1⟩
theorem truth_no (B : Nat) (w : World) (h : RAt w B (some [])) : Calls Tryz.prog 118 #[ptr B] w fun e w' => e = pan ∧ w = w' := by
  have C := Lib.hid (octet_no B w h)
  clear h
  go_enter Tryz.func118, Tryz.ntmps118
  go_wp2_with (go_at_call 111; ((with_reducible refine C.out.mono ?_); rintro e w1 ⟨rfl, rfl⟩))
  exact ⟨rfl, rfl, rfl⟩
theorem truth_bad (B : Nat) (b : UInt8) (r : Bs) (w : World) (hb : ¬ b.toNat ≤ 1) (h : RAt w B (some (b :: r))) : Calls Tryz.prog 118 #[ptr B] w fun e w' => e = pan ∧ RAt w' B (some r) ∧ Kept w w' (· ≠ B) := by
  have C := Lib.hid (octet_yes B b r w h)
  have CM := Lib.hid must_no
  have i2 : decide ((b.toNat : Int) ≤ 1) = false := decide_eq_false (by omega)
  clear h hb
  go_enter Tryz.func118, Tryz.ntmps118
  go_wp2_with (first
    | (go_at_call 111; ((with_reducible refine C.out.mono ?_); rintro e w1 ⟨rfl, h1, k1⟩; have H1 := Lib.hid h1; clear h1))
    | (go_at_call 128; ((refine (CM.out _ (by first | rfl | exact i2) _).mono ?_); rintro e w2 ⟨rfl, rfl⟩)))
  exact ⟨rfl, rfl, H1.out, k1⟩
theorem truth_yes (B : Nat) (b : UInt8) (r : Bs) (w : World) (hb : b.toNat ≤ 1) (h : RAt w B (some (b :: r))) : Calls Tryz.prog 118 #[ptr B] w fun e w' => e = .returned (.bool (b.toNat == 1)) ∧ RAt w' B (some r) ∧ Kept w w' (· ≠ B) := by
  have C := Lib.hid (octet_yes B b r w h)
  have CM := Lib.hid must_yes
  have i2 : decide ((b.toNat : Int) ≤ 1) = true := decide_eq_true (by omega)
  have i3 : ((b.toNat : Int) == 1) = (b.toNat == 1) := by rw [Bool.eq_iff_iff]; simp; omega
  clear h hb
  go_enter Tryz.func118, Tryz.ntmps118
  go_wp2_with (first
    | (go_at_call 111; ((with_reducible refine C.out.mono ?_); rintro e w1 ⟨rfl, h1, k1⟩; have H1 := Lib.hid h1; clear h1))
    | (go_at_call 128; ((refine (CM.out _ (by first | rfl | exact i2) _).mono ?_); rintro e w2 ⟨rfl, rfl⟩)))
  go_ret
  exact ⟨by first | rfl | simp [i3], H1.out, k1⟩
end Go.Proofs.YtjocbokfdfdkeaaGreat.YX
