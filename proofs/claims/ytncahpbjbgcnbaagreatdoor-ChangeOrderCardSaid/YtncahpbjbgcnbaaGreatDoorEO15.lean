/-
  WALK: the library's symMerge at objects, whole.
-/
import Derived.Test.YtncahpbjbgcnbaaGreatDoorEOKSym
import Derived.Test.YtncahpbjbgcnbaaGreatDoorEOKSymB
import Derived.Test.YtncahpbjbgcnbaaGreatDoorEO13
namespace Go.Proofs.YtncahpbjbgcnbaaGreatDoor.KX
open Go.RowKit HL
open IX (Kept)
open WX (obK hb)
set_option maxRecDepth 100000
set_option linter.unusedVariables false

theorem sym_at (g cap n : Nat) (hn2 : n ≤ 100000) : ∀ d, SymAt g cap n d := by
  intro d
  induction d with
  | zero =>
    intro a m b P X Y R w hd hr ha hm hb hn hX hY
    omega
  | succ d ih =>
    intro a m b P X Y R w hd hr ha hm hb hn hX hY uX uY hA
    by_cases h1 : X.length = 1
    · obtain ⟨x, rfl⟩ := List.length_eq_one_iff.1 h1
      have := sym_left g cap n a m b P x Y R w (by simpa using hr) ha (by simpa using hm) hb hn hn2 uY (fun y hy => hA x (by simp) y hy)
      simpa only [List.cons_append, List.nil_append] using this
    · by_cases h2 : Y.length = 1
      · obtain ⟨y, rfl⟩ := List.length_eq_one_iff.1 h2
        have := sym_right g cap n a m b P y X R w (by simpa using hr) ha hm h1 (by simpa using hb) hn hn2 uX (fun x hx => hA x hx y (by simp))
        refine this.mono ?_
        rintro e w1 ⟨he, ⟨S, p, u, r⟩, k⟩
        exact ⟨he, ⟨S, (List.perm_append_singleton y X).trans p, u, r⟩, k⟩
      · exact sym_general g cap n d a m b P X Y R w ih hd hr ha hm hb hn hn2 (by omega) (by omega) uX uY hA
/-- What symMerge says. -/
theorem symMerge_any (g cap n a m b : Nat) (P X Y R : List Tg) (w : World) (hr : Row w g (mapF (P ++ X ++ Y ++ R))) (ha : P.length = a) (hm : a + X.length = m) (hb : m + Y.length = b) (hn : b + R.length = n) (hn2 : n ≤ 100000) (hX : 0 < X.length) (hY : 0 < Y.length) (uX : Up X) (uY : Up Y) (hA : Ahead X Y) :
    Calls Tryz.prog 69 #[.slice (some ⟨g, 0, none⟩) n cap, .int .i64 a, .int .i64 m, .int .i64 b, cmpF] w fun e w' => e = .returned (.tuple #[]) ∧ (∃ S', (X ++ Y).Perm S' ∧ Up S' ∧ Row w' g (mapF (P ++ S' ++ R))) ∧ Kept w w' (· ≠ g) :=
  sym_at g cap n hn2 (b - a) a m b P X Y R w (Nat.le_refl _) hr ha hm hb hn hX hY uX uY hA
end Go.Proofs.YtncahpbjbgcnbaaGreatDoor.KX
/-
  WALK: the library's stable sort at objects.
-/
namespace Go.Proofs.YtncahpbjbgcnbaaGreatDoor.KX
open Go.RowKit HL
open IX (Kept)
open WX (obK hb)
set_option maxRecDepth 100000
set_option linter.unusedVariables false
set_option linter.unusedSimpArgs false

def I1 (T0 : List Tg) (g A : Nat) (W : World) : Prop := ∃ B R, (∀ p ∈ B, Blk 20 p) ∧ T0 = fst_ B ++ R ∧ (snd_ B).length = A ∧ Row W g (mapF (snd_ B ++ R))
def I2 (T0 : List Tg) (g bs : Nat) (W : World) : Prop := ∃ B E T, Runs bs B E T0 T ∧ Row W g (mapF T)
def I3 (T0 : List Tg) (g bs A : Nat) (W : World) : Prop := ∃ D B E R0 R, (∀ p ∈ D, Blk (2 * bs) p) ∧ Runs bs B E R0 R ∧ T0 = fst_ D ++ R0 ∧ (snd_ D).length = A ∧ Row W g (mapF (snd_ D ++ R))
theorem I2.start {T0 : List Tg} {g bs : Nat} {W : World} (h : I2 T0 g bs W) : I3 T0 g bs 0 W := by
  obtain ⟨B, E, T, r, w⟩ := h
  exact ⟨[], B, E, T0, T, fun _ h => (by cases h), r, by simp [fst_], by simp [snd_], by simpa [snd_] using w⟩
theorem I2.done {T0 : List Tg} {g bs n : Nat} {W : World} (h : I2 T0 g bs W) (hn : T0.length = n) (hb : n ≤ bs) (h0 : 0 < bs) : ∃ T, T0.Perm T ∧ Up T ∧ Row W g (mapF T) := by
  obtain ⟨B, E, T, r, w⟩ := h
  have := r.all.length_eq
  exact ⟨T, r.all, r.one (by omega) h0, w⟩
theorem I3.skip {T0 : List Tg} {g bs A n : Nat} {W : World} (h : I3 T0 g bs A W) (hn : T0.length = n) (hb : n ≤ A + bs) (h0 : 0 < bs) : I2 T0 g (2 * bs) W := by
  obtain ⟨D, B, E, R0, R, hD, r, e, l, w⟩ := h
  have h1 := r.all.length_eq
  have h2 := fs_length hD
  have h3 := congrArg List.length e
  rw [List.length_append] at h3
  have hR : R.length ≤ bs := by omega
  have u := r.one hR h0
  exact ⟨D, (R0, R), snd_ D ++ R, ⟨hD, by show R.length < 2 * bs; omega, r.all, u, e, rfl⟩, w⟩
theorem ins_call {T0 : List Tg} {g cap n A A2 : Nat} {W : World} (h : I1 T0 g A W) (hn : T0.length = n) (hn2 : n ≤ 100000) (hi : Inc T0) (hA : A + 20 = A2) (hb : A2 ≤ n) :
    Calls Tryz.prog 68 #[.slice (some ⟨g, 0, none⟩) n cap, .int .i64 A, .int .i64 A2, cmpF] W fun e w' => e = .returned (.tuple #[]) ∧ I1 T0 g A2 w' ∧ Kept W w' (· ≠ g) := by
  obtain ⟨B, R, hB, e, l, r⟩ := h
  have h2 := fs_length hB
  have h3 := congrArg List.length e
  rw [List.length_append] at h3
  have eR : R.take 20 ++ R.drop 20 = R := List.take_append_drop 20 R
  have hS : (R.take 20).length = 20 := by rw [List.length_take]; omega
  have hD : (R.drop 20).length = R.length - 20 := List.length_drop
  rw [← eR] at e
  have hI := inc_mid (e ▸ hi)
  refine (insertion_any g cap n A A2 (snd_ B) (R.take 20) (R.drop 20) W (by rw [List.append_assoc, eR]; exact r) l (by omega) (by omega) hn2 hI).mono ?_
  rintro e1 w1 ⟨he, ⟨S, p, u, r1⟩, k⟩
  refine ⟨he, ⟨B ++ [(R.take 20, S)], R.drop 20, blk_snoc hB ⟨by rw [← p.length_eq]; exact hS, p, u⟩, by rw [fst_snoc, List.append_assoc]; exact e, by rw [snd_snoc, List.length_append, ← p.length_eq, hS]; omega, by rw [snd_snoc]; exact r1⟩, k⟩
theorem ins_last {T0 : List Tg} {g cap n A : Nat} {W : World} (h : I1 T0 g A W) (hn : T0.length = n) (hn2 : n ≤ 100000) (hi : Inc T0) (hA : A ≤ n) (hb : n < A + 20) :
    Calls Tryz.prog 68 #[.slice (some ⟨g, 0, none⟩) n cap, .int .i64 A, .int .i64 n, cmpF] W fun e w' => e = .returned (.tuple #[]) ∧ I2 T0 g 20 w' ∧ Kept W w' (· ≠ g) := by
  obtain ⟨B, R, hB, e, l, r⟩ := h
  have h2 := fs_length hB
  have h3 := congrArg List.length e
  rw [List.length_append] at h3
  have hI : Inc R := inc_mid (R := []) (by rw [List.append_nil, ← e]; exact hi)
  refine (insertion_any g cap n A n (snd_ B) R [] W (by rw [List.append_nil]; exact r) l (by omega) (by rw [List.length_nil]; omega) hn2 hI).mono ?_
  rintro e1 w1 ⟨he, ⟨S, p, u, r1⟩, k⟩
  rw [List.append_nil] at r1
  exact ⟨he, ⟨B, (R, S), snd_ B ++ S, ⟨hB, by show S.length < 20; rw [← p.length_eq]; omega, p, u, e, rfl⟩, r1⟩, k⟩
theorem merge_call {T0 : List Tg} {g cap n bs A M A2 : Nat} {W : World} (h : I3 T0 g bs A W) (hn : T0.length = n) (hn2 : n ≤ 100000) (hi : Inc T0) (h0 : 0 < bs) (hM : A + bs = M) (hA : A + 2 * bs = A2) (hb : A2 ≤ n) :
    Calls Tryz.prog 69 #[.slice (some ⟨g, 0, none⟩) n cap, .int .i64 A, .int .i64 M, .int .i64 A2, cmpF] W fun e w' => e = .returned (.tuple #[]) ∧ I3 T0 g bs A2 w' ∧ Kept W w' (· ≠ g) := by
  obtain ⟨D, B, E, R0, R, hD, r, e, l, rw_⟩ := h
  have h1 := r.all.length_eq
  have h2 := fs_length hD
  have h3 := congrArg List.length e
  rw [List.length_append] at h3
  have h4 := snd_length r.blk
  have h5 := congrArg List.length r.t
  rw [List.length_append, h4] at h5
  have h6 := r.short
  match B, r, h4, h5 with
  | [], r, h4, h5 => simp at h5; omega
  | [p], r, h4, h5 => simp at h5; omega
  | p :: q :: B, r, h4, h5 =>
    have hp := r.blk p (by simp)
    have hq := r.blk q (by simp)
    have hB : ∀ x ∈ B, Blk bs x := fun x hx => r.blk x (by simp [hx])
    have hlp := hp.len
    have hlq := hq.len
    have eR : R = p.2 ++ q.2 ++ (snd_ B ++ E.2) := by rw [r.t]; simp [snd_]
    have eR0 : R0 = p.1 ++ q.1 ++ (fst_ B ++ E.1) := by rw [r.t0]; simp [fst_]
    have hA1 : Ahead p.2 q.2 := ahead_of (A := fst_ D) (D := fst_ B ++ E.1) (by rw [e, eR0] at hi; simpa only [List.append_assoc] using hi) hp.perm hq.perm
    have hR := congrArg List.length eR
    simp only [List.length_append] at hR
    refine (symMerge_any g cap n A M A2 (snd_ D) p.2 q.2 (snd_ B ++ E.2) W (by rw [eR] at rw_; simpa only [List.append_assoc] using rw_) l (by omega) (by omega) (by rw [List.length_append]; omega) hn2 (by omega) (by omega) hp.up hq.up hA1).mono ?_
    rintro e1 w1 ⟨he, ⟨S, pm, u, r1⟩, k⟩
    have hS := pm.length_eq
    rw [List.length_append] at hS
    refine ⟨he, ⟨D ++ [(p.1 ++ q.1, S)], B, E, fst_ B ++ E.1, snd_ B ++ E.2, blk_snoc hD ⟨by show S.length = _; omega, (hp.perm.append hq.perm).trans pm, u⟩, ⟨hB, h6, r.perm, r.up, rfl, rfl⟩, by rw [fst_snoc, e, eR0]; simp only [List.append_assoc], by rw [snd_snoc, List.length_append]; show _ + S.length = _; omega, by rw [snd_snoc]; exact r1⟩, k⟩
theorem merge_last {T0 : List Tg} {g cap n bs A M : Nat} {W : World} (h : I3 T0 g bs A W) (hn : T0.length = n) (hn2 : n ≤ 100000) (hi : Inc T0) (h0 : 0 < bs) (hM : A + bs = M) (hm : M < n) (hb : n < A + 2 * bs) :
    Calls Tryz.prog 69 #[.slice (some ⟨g, 0, none⟩) n cap, .int .i64 A, .int .i64 M, .int .i64 n, cmpF] W fun e w' => e = .returned (.tuple #[]) ∧ I2 T0 g (2 * bs) w' ∧ Kept W w' (· ≠ g) := by
  obtain ⟨D, B, E, R0, R, hD, r, e, l, rw_⟩ := h
  have h1 := r.all.length_eq
  have h2 := fs_length hD
  have h3 := congrArg List.length e
  rw [List.length_append] at h3
  have h4 := snd_length r.blk
  have h5 := congrArg List.length r.t
  rw [List.length_append, h4] at h5
  have h6 := r.short
  match B, r, h4, h5 with
  | [], r, h4, h5 => simp at h5; omega
  | p :: q :: B, r, h4, h5 =>
    have : (p :: q :: B).length * bs = B.length * bs + 2 * bs := by simp only [List.length_cons, Nat.succ_mul]; omega
    omega
  | [p], r, h4, h5 =>
    have hp := r.blk p (by simp)
    have hlp := hp.len
    have eR : R = p.2 ++ E.2 := by rw [r.t]; simp [snd_]
    have eR0 : R0 = p.1 ++ E.1 := by rw [r.t0]; simp [fst_]
    have hA1 : Ahead p.2 E.2 := ahead_of (A := fst_ D) (D := []) (by rw [e, eR0] at hi; simpa only [List.append_assoc, List.append_nil] using hi) hp.perm r.perm
    have hR := congrArg List.length eR
    simp only [List.length_append] at hR
    refine (symMerge_any g cap n A M n (snd_ D) p.2 E.2 [] W (by rw [eR] at rw_; simpa only [List.append_assoc, List.append_nil] using rw_) l (by omega) (by omega) (by rw [List.length_nil]; omega) hn2 (by omega) (by omega) hp.up r.up hA1).mono ?_
    rintro e1 w1 ⟨he, ⟨S, pm, u, r1⟩, k⟩
    have hS := pm.length_eq
    rw [List.length_append] at hS
    rw [List.append_nil] at r1
    exact ⟨he, ⟨D, (p.1 ++ E.1, S), snd_ D ++ S, ⟨hD, by show S.length < _; omega, (hp.perm.append r.perm).trans pm, u, by rw [e, eR0], rfl⟩, r1⟩, k⟩
set_option maxHeartbeats 32000000 in
theorem stable_any (g cap n : Nat) (T0 : List Tg) (w : World) (hrow : Row w g (mapF T0)) (hn : T0.length = n) (hn2 : n ≤ 100000) (hi : Inc T0) :
    Calls Tryz.prog 52 #[.slice (some ⟨g, 0, none⟩) n cap, .int .i64 n, cmpF] w fun e w' => e = .returned (.tuple #[]) ∧ (∃ T, T0.Perm T ∧ Up T ∧ Row w' g (mapF T)) ∧ Kept w w' (· ≠ g) := by
  have HI0 : Hid (I1 T0 g 0 w) := Lib.hid ⟨[], T0, fun _ h => (by cases h), by simp [fst_], by simp [snd_], by simpa [snd_] using hrow⟩
  have C1 := Lib.hid (fun A A2 W h1 h2 h => ins_call (g := g) (cap := cap) (A := A) (A2 := A2) (W := W) h hn hn2 hi h1 h2)
  have C2 := Lib.hid (fun A W h1 h2 h => ins_last (g := g) (cap := cap) (A := A) (W := W) h hn hn2 hi h1 h2)
  have C3 := Lib.hid (fun bs A M A2 W h0 h1 h2 h3 h => merge_call (g := g) (cap := cap) (bs := bs) (A := A) (M := M) (A2 := A2) (W := W) h hn hn2 hi h0 h1 h2 h3)
  have C4 := Lib.hid (fun bs A M W h0 h1 h2 h3 h => merge_last (g := g) (cap := cap) (bs := bs) (A := A) (M := M) (W := W) h hn hn2 hi h0 h1 h2 h3)
  have S1 := Lib.hid (fun bs A W h0 h1 h => I3.skip (g := g) (bs := bs) (A := A) (W := W) h hn h0 h1)
  have D1 := Lib.hid (fun bs W h0 h1 h => I2.done (g := g) (bs := bs) (W := W) h hn h0 h1)
  obtain ⟨E, hE⟩ : ∃ E : World → Prop, E = fun w' => ∃ T, T0.Perm T ∧ Up T ∧ Row w' g (mapF T) := ⟨_, rfl⟩
  have e2 : ∀ W, (∃ T, T0.Perm T ∧ Up T ∧ Row W g (mapF T)) = E W := fun W => by rw [hE]
  simp only [e2] at D1 ⊢
  clear e2 hE hrow hi hn
  go_enter Tryz.func52, Tryz.ntmps52
  go_wp2
  go_loopw [7, 8] (fun av bv wr => ∃ A A2 : Nat, av = .int .i64 A ∧ bv = .int .i64 A2 ∧ A + 20 = A2 ∧ A ≤ n ∧ Hid (I1 T0 g A wr) ∧ Hid (Kept w wr (· ≠ g))) (fun av _ _ => n - (intOf av).toNat)
  case atStart => exact ⟨0, 20, rfl, rfl, rfl, Nat.zero_le _, HI0, Lib.hid (Kept.refl w _)⟩
  case round =>
    obtain ⟨A, A2, rfl, rfl, hA, hAn, HI, KW⟩ := hrel
    by_cases hle : A2 ≤ n
    · have i1 : (A2 : Int) ≤ (n : Int) := by omega
      have i1d : decide ((A2 : Int) ≤ (n : Int)) = true := decide_eq_true i1
      obtain ⟨A3, hA3⟩ : ∃ A3, A2 + 20 = A3 := ⟨_, rfl⟩
      have hw : IntKind.i64.wrap ((A2 : Int) + 20) = (A3 : Int) := by rw [IntWalk.i64_in _ (by omega)]; omega
      have CI := Lib.hid (C1.out A A2 wr hA hle HI.out)
      go_wp2_with (go_at_call 68; ((with_reducible refine CI.out.mono ?_); rintro e w2 ⟨rfl, r2, k2⟩; have R2 := Lib.hid r2; have K2 := Lib.hid (KW.out.trans k2); clear r2 k2))
      go_roundw
      case rel => exact ⟨A2, A3, rfl, rfl, hA3, hle, R2, K2⟩
      case measure => simp [intOf]; omega
    · have i1 : ¬ (A2 : Int) ≤ (n : Int) := by omega
      have i1d : decide ((A2 : Int) ≤ (n : Int)) = false := decide_eq_false i1
      have CI := Lib.hid (C2.out A wr hAn (by omega) HI.out)
      clear HI
      go_wp2_with (go_at_call 68; ((with_reducible refine CI.out.mono ?_); rintro e w2 ⟨rfl, r2, k2⟩; have R2 := Lib.hid r2; have K2 := Lib.hid (KW.out.trans k2); clear r2 k2; clear CI KW))
      go_loopw [6, 7, 8, 9] (fun sv av bv mv wr => ∃ bs : Nat, sv = .int .i64 bs ∧ 20 ≤ bs ∧ bs ≤ 400000 ∧ Hid (I2 T0 g bs wr) ∧ Hid (Kept w wr (· ≠ g))) (fun sv _ _ _ _ => n - (intOf sv).toNat)
      case atStart => exact ⟨20, rfl, by omega, by omega, R2, K2⟩
      case round =>
        obtain ⟨bs, rfl, hb1, hb2, HI, KW⟩ := hrel
        by_cases hlt : bs < n
        · have i2 : (bs : Int) < (n : Int) := by omega
          have i2d : decide ((bs : Int) < (n : Int)) = true := decide_eq_true i2
          obtain ⟨b2, hb3⟩ : ∃ b2, 2 * bs = b2 := ⟨_, rfl⟩
          have hw1 : IntKind.i64.wrap (2 * (bs : Int)) = (b2 : Int) := by rw [IntWalk.i64_in _ (by omega)]; omega
          have hw2 : IntKind.i64.wrap ((bs : Int) * 2) = (b2 : Int) := by rw [IntWalk.i64_in _ (by omega)]; omega
          have HI3 := Lib.hid HI.out.start
          clear HI
          go_wp2
          go_loopw [7, 8] (fun av bv wr => ∃ A A2 : Nat, av = .int .i64 A ∧ bv = .int .i64 A2 ∧ A + b2 = A2 ∧ A ≤ n ∧ Hid (I3 T0 g bs A wr) ∧ Hid (Kept w wr (· ≠ g))) (fun av _ _ => n - (intOf av).toNat)
          case atStart => exact ⟨0, b2, rfl, rfl, by omega, Nat.zero_le _, HI3, KW⟩
          case round =>
            obtain ⟨A, A2, rfl, rfl, hA, hAn, HI, KW⟩ := hrel
            obtain ⟨M, hM⟩ : ∃ M, A + bs = M := ⟨_, rfl⟩
            have hwM : IntKind.i64.wrap ((A : Int) + (bs : Int)) = (M : Int) := by rw [IntWalk.i64_in _ (by omega)]; omega
            by_cases hle : A2 ≤ n
            · have i3 : (A2 : Int) ≤ (n : Int) := by omega
              have i3d : decide ((A2 : Int) ≤ (n : Int)) = true := decide_eq_true i3
              obtain ⟨A3, hA3⟩ : ∃ A3, A2 + b2 = A3 := ⟨_, rfl⟩
              have hw3 : IntKind.i64.wrap ((A2 : Int) + (b2 : Int)) = (A3 : Int) := by rw [IntWalk.i64_in _ (by omega)]; omega
              have CI := Lib.hid (C3.out bs A M A2 wr (by omega) hM (by omega) hle HI.out)
              go_wp2_with (go_at_call 69; ((with_reducible refine CI.out.mono ?_); rintro e w3 ⟨rfl, r3, k3⟩; have R3 := Lib.hid r3; have K3 := Lib.hid (KW.out.trans k3); clear r3 k3))
              go_roundw
              case rel => exact ⟨A2, A3, rfl, rfl, hA3, hle, R3, K3⟩
              case measure => simp [intOf]; omega
            · have i3 : ¬ (A2 : Int) ≤ (n : Int) := by omega
              have i3d : decide ((A2 : Int) ≤ (n : Int)) = false := decide_eq_false i3
              by_cases hm : M < n
              · have i4 : (M : Int) < (n : Int) := by omega
                have i4d : decide ((M : Int) < (n : Int)) = true := decide_eq_true i4
                have CI := Lib.hid (C4.out bs A M wr (by omega) hM hm (by omega) HI.out)
                rw [hb3] at CI
                clear HI
                go_wp2_with (go_at_call 69; ((with_reducible refine CI.out.mono ?_); rintro e w3 ⟨rfl, r3, k3⟩; have R3 := Lib.hid r3; have K3 := Lib.hid (KW.out.trans k3); clear r3 k3))
                go_roundw
                case rel => exact ⟨b2, rfl, by omega, by omega, R3, K3⟩
                case measure => simp [intOf]; omega
              · have i4 : ¬ (M : Int) < (n : Int) := by omega
                have i4d : decide ((M : Int) < (n : Int)) = false := decide_eq_false i4
                have R3 := Lib.hid (S1.out bs A wr (by omega) (by omega) HI.out)
                rw [hb3] at R3
                clear HI
                go_wp2
                go_roundw
                case rel => exact ⟨b2, rfl, by omega, by omega, R3, KW⟩
                case measure => simp [intOf]; omega
        · have i2 : ¬ (bs : Int) < (n : Int) := by omega
          have i2d : decide ((bs : Int) < (n : Int)) = false := decide_eq_false i2
          have HF := Lib.hid (D1.out bs wr (by omega) (by omega) HI.out)
          clear HI
          go_wp2
          go_end0
          exact ⟨rfl, HF.out, KW.out⟩
end Go.Proofs.YtncahpbjbgcnbaaGreatDoor.KX
/-
  WALK: slices.SortStableFunc at objects: those of one handle as they stood.
-/
namespace Go.Proofs.YtncahpbjbgcnbaaGreatDoor.KX
open Go.RowKit HL
open IX (Kept)
open WX (obK hb)
set_option maxRecDepth 100000
set_option linter.unusedVariables false
set_option linter.unusedSimpArgs false

/-- Each with its place. -/
def numb : List Ob → Nat → List Tg
  | [], _ => []
  | x :: l, k => (x, k) :: numb l (k + 1)
theorem numb_fst : ∀ (l : List Ob) (k : Nat), mapF (numb l k) = l
  | [], _ => rfl
  | x :: l, k => by simp only [numb, mapF, List.map_cons]; rw [show List.map Prod.fst (numb l (k + 1)) = l from numb_fst l (k + 1)]
theorem numb_length (l : List Ob) (k : Nat) : (numb l k).length = l.length := by
  have := congrArg List.length (numb_fst l k)
  simpa [mapF] using this
theorem numb_ge : ∀ (l : List Ob) (k : Nat), ∀ p ∈ numb l k, k ≤ p.2
  | [], _, p, h => by cases h
  | x :: l, k, p, h => by
    rcases List.mem_cons.1 h with rfl | h
    · exact Nat.le_refl _
    · exact Nat.le_of_succ_le (numb_ge l (k + 1) p h)
theorem numb_inc : ∀ (l : List Ob) (k : Nat), Inc (numb l k)
  | [], _ => List.Pairwise.nil
  | x :: l, k => List.pairwise_cons.2 ⟨fun p hp => numb_ge l (k + 1) p hp, numb_inc l (k + 1)⟩
/-- Sorted by the handles, those of one handle as they stood: said of the objects with their places. -/
def Sorted (l l' : List Ob) : Prop := ∃ T, (numb l 0).Perm T ∧ Up T ∧ l' = mapF T
theorem sorted_one {l a b : List Ob} (ha : Sorted l a) (hb : Sorted l b) : a = b := by
  obtain ⟨S, p, u, rfl⟩ := ha
  obtain ⟨T, q, v, rfl⟩ := hb
  rw [up_uniq (p.symm.trans q) u v]
set_option maxHeartbeats 8000000 in
theorem sortStable_any (g cap : Nat) (l : List Ob) (w : World) (hrow : Row w g l) (hn2 : l.length ≤ 100000) :
    Calls Tryz.prog 32 #[.slice (some ⟨g, 0, none⟩) l.length cap, cmpF] w fun e w' => e = .returned (.tuple #[]) ∧ (∃ l', Sorted l l' ∧ Row w' g l') ∧ Kept w w' (· ≠ g) := by
  have C := Lib.hid (stable_any g cap l.length (numb l 0) w (by rw [numb_fst]; exact hrow) (numb_length l 0) hn2 (numb_inc l 0))
  obtain ⟨n, hn⟩ : ∃ n, l.length = n := ⟨_, rfl⟩
  rw [hn] at C hn2 ⊢
  go_enter Tryz.func32, Tryz.ntmps32
  go_wp2_with (go_at_call 52; ((with_reducible refine C.out.mono ?_); rintro e w1 ⟨rfl, r1, k1⟩; have R1 := Lib.hid r1; have K1 := Lib.hid k1; clear r1 k1))
  go_end0
  obtain ⟨T, p, u, r⟩ := R1.out
  exact ⟨rfl, ⟨mapF T, ⟨T, p, u, rfl⟩, r⟩, K1.out⟩
end Go.Proofs.YtncahpbjbgcnbaaGreatDoor.KX
