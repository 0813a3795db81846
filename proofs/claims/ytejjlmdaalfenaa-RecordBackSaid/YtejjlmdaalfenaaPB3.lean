/-
  The law RecordBack walked.
-/
import Derived.Test.YtejjlmdaalfenaaPB2
import Derived.Test.YtejjlmdaalfenaaPReadO
import Derived.Test.YtejjlmdaalfenaaPAwake
import Derived.Test.YtejjlmdaalfenaaPB1
import Derived.Test.YtejjlmdaalfenaaPRest
import Derived.Test.YtejjlmdaalfenaaPB0
namespace Go.Proofs.Ytejjlmdaalfenaa.PX
open Go.RowKit HL
open IX (ptr El cellsK cellsK_at cellsK_len OwnK RdK Kept)
open YX (numB rdU rdB rdT rdS rdI addW intN natI rest told WAt WPt Wr RAt vS vU vI u8K Got)
open WX (obK)
open DX (Ch ch chCells chK)
set_option maxRecDepth 100000
set_option linter.unusedVariables false
set_option linter.unusedSimpArgs false

/-- What was written is read. -/
structure BkO (A : Option Addr) (l : List Ob) (c : Nat) (w : World) (n : Nat) : Prop where
  wr : ∀ W, Below w.heap.size w W → Calls Try.prog 9 #[.slice A l.length c] W fun e w' => ∃ A1 c1, e = .returned (.tuple #[.slice A1 n c1, .int .i64 0]) ∧ (∀ W2, Below w'.heap.size w' W2 → Calls Try.prog 25 #[.slice A1 n c1] W2 fun e w3 => ∃ A2 c2, e = .returned (.tuple #[.slice A2 l.length c2, .int .i64 0]) ∧ RdK obK w3 w3.heap.size A2 l ∧ Below W2.heap.size W2 w3) ∧ Below W.heap.size W w'
  same : ∀ W A2 c2, Below w.heap.size w W → RdK obK W W.heap.size A2 l → Calls Try.prog 26 #[.slice A l.length c, .slice A2 l.length c2] W fun e w' => e = .returned (.bool true) ∧ Below W.heap.size W w'
theorem lsBO_yes {P : Program} {f : Nat} {args : Array Value} {w : World} {l : List Ob} (h : Calls P f args w fun e w' => ∃ v n, e = .returned (.tuple #[v, .int .i64 n]) ∧ LsO w' v n (some l) ∧ Below w.heap.size w w') : Calls P f args w fun e w' => ∃ A c, e = .returned (.tuple #[.slice A l.length c, .int .i64 0]) ∧ RdK obK w' w'.heap.size A l ∧ Below w.heap.size w w' :=
  h.mono fun e w' ⟨v, n, he, hb, k⟩ => by
    cases hb with
    | yes A c _ hr => exact ⟨A, c, he, hr, k⟩
theorem bkO {A : Option Addr} {l : List Ob} {c : Nat} {w : World} (h : RdK obK w w.heap.size A l) (hf : ∀ x ∈ l, Fine x) (hn : l.length ≤ 80) :
    (∀ W, Below w.heap.size w W → Calls Try.prog 9 #[.slice A l.length c] W fun e w' => e = .returned (.tuple #[.slice none 0 0, .int .i64 3]) ∧ Below W.heap.size W w') ∨ ∃ n, BkO A l c w n := by
  have CW := fun W (k : Below w.heap.size w W) => lawO_any A c l W ((h.below k).more k.size) hf (by omega)
  cases e : writeL codO l with
  | none =>
    refine .inl (fun W k => ?_)
    have := CW W k
    rw [e] at this
    exact bts_none this
  | some b =>
    obtain ⟨eb, _, _, hlim⟩ := writeL_some codO e
    have hb : b.length ≤ 65536 := by rw [eb]; exact hlim
    refine .inr ⟨b.length, fun W k => ?_, fun W A2 c2 k hr => sameO_yes A A2 c c2 l.length l W ((h.below k).more k.size) hr rfl (by omega)⟩
    have := CW W k
    rw [e] at this
    have h0 : 1 ≤ b.length := by
      rw [eb]; unfold listB; rw [List.length_append]; have := YX.numB_pos l.length; omega
    refine (bts_some this).mono fun e' w' ⟨A1, c1, he, hr, k1⟩ => ⟨A1, c1, he, fun W2 k2 => ?_, k1⟩
    have hA : A1 = none → c1 = 0 := fun q => by
      rcases hr with h | ⟨b', off, e2, _⟩
      · rw [h] at h0; simp at h0
      · rw [q] at e2; cases e2
    have := rlawO_any A1 c1 b W2 ((hr.below k2).more k2.size) (by omega) hA
    rw [readL_B codO hf e] at this
    exact lsBO_yes this
/-- What was written is read. -/
structure BkC (A : Option Addr) (l : List Ch) (c : Nat) (w : World) (n : Nat) : Prop where
  wr : ∀ W, Below w.heap.size w W → Calls Try.prog 11 #[.slice A l.length c] W fun e w' => ∃ A1 c1, e = .returned (.tuple #[.slice A1 n c1, .int .i64 0]) ∧ (∀ W2, Below w'.heap.size w' W2 → Calls Try.prog 27 #[.slice A1 n c1] W2 fun e w3 => ∃ A2 c2, e = .returned (.tuple #[.slice A2 l.length c2, .int .i64 0]) ∧ RdK chK w3 w3.heap.size A2 l ∧ Below W2.heap.size W2 w3) ∧ Below W.heap.size W w'
  same : ∀ W A2 c2, Below w.heap.size w W → RdK chK W W.heap.size A2 l → Calls Try.prog 28 #[.slice A l.length c, .slice A2 l.length c2] W fun e w' => e = .returned (.bool true) ∧ Below W.heap.size W w'
theorem lsBC_yes {P : Program} {f : Nat} {args : Array Value} {w : World} {l : List Ch} (h : Calls P f args w fun e w' => ∃ v n, e = .returned (.tuple #[v, .int .i64 n]) ∧ LsC w' v n (some l) ∧ Below w.heap.size w w') : Calls P f args w fun e w' => ∃ A c, e = .returned (.tuple #[.slice A l.length c, .int .i64 0]) ∧ RdK chK w' w'.heap.size A l ∧ Below w.heap.size w w' :=
  h.mono fun e w' ⟨v, n, he, hb, k⟩ => by
    cases hb with
    | yes A c _ hr => exact ⟨A, c, he, hr, k⟩
theorem bkC {A : Option Addr} {l : List Ch} {c : Nat} {w : World} (h : RdK chK w w.heap.size A l) (hf : ∀ x ∈ l, FineC x) (hn : l.length ≤ 80) :
    (∀ W, Below w.heap.size w W → Calls Try.prog 11 #[.slice A l.length c] W fun e w' => e = .returned (.tuple #[.slice none 0 0, .int .i64 3]) ∧ Below W.heap.size W w') ∨ ∃ n, BkC A l c w n := by
  have CW := fun W (k : Below w.heap.size w W) => lawC_any A c l W ((h.below k).more k.size) hf (by omega)
  cases e : writeL codC l with
  | none =>
    refine .inl (fun W k => ?_)
    have := CW W k
    rw [e] at this
    exact bts_none this
  | some b =>
    obtain ⟨eb, _, _, hlim⟩ := writeL_some codC e
    have hb : b.length ≤ 65536 := by rw [eb]; exact hlim
    refine .inr ⟨b.length, fun W k => ?_, fun W A2 c2 k hr => sameC_yes A A2 c c2 l.length l W ((h.below k).more k.size) hr rfl (by omega)⟩
    have := CW W k
    rw [e] at this
    have h0 : 1 ≤ b.length := by
      rw [eb]; unfold listB; rw [List.length_append]; have := YX.numB_pos l.length; omega
    refine (bts_some this).mono fun e' w' ⟨A1, c1, he, hr, k1⟩ => ⟨A1, c1, he, fun W2 k2 => ?_, k1⟩
    have hA : A1 = none → c1 = 0 := fun q => by
      rcases hr with h | ⟨b', off, e2, _⟩
      · rw [h] at h0; simp at h0
      · rw [q] at e2; cases e2
    have := rlawC_any A1 c1 b W2 ((hr.below k2).more k2.size) (by omega) hA
    rw [readL_B codC hf e] at this
    exact lsBC_yes this
/-- What was written is read. -/
structure BkE (A : Option Addr) (l : List En) (c : Nat) (w : World) (n : Nat) : Prop where
  wr : ∀ W, Below w.heap.size w W → Calls Try.prog 13 #[.slice A l.length c] W fun e w' => ∃ A1 c1, e = .returned (.tuple #[.slice A1 n c1, .int .i64 0]) ∧ (∀ W2, Below w'.heap.size w' W2 → Calls Try.prog 29 #[.slice A1 n c1] W2 fun e w3 => ∃ A2 c2, e = .returned (.tuple #[.slice A2 l.length c2, .int .i64 0]) ∧ RdK enK w3 w3.heap.size A2 l ∧ Below W2.heap.size W2 w3) ∧ Below W.heap.size W w'
  same : ∀ W A2 c2, Below w.heap.size w W → RdK enK W W.heap.size A2 l → Calls Try.prog 30 #[.slice A l.length c, .slice A2 l.length c2] W fun e w' => e = .returned (.bool true) ∧ Below W.heap.size W w'
theorem lsBE_yes {P : Program} {f : Nat} {args : Array Value} {w : World} {l : List En} (h : Calls P f args w fun e w' => ∃ v n, e = .returned (.tuple #[v, .int .i64 n]) ∧ LsE w' v n (some l) ∧ Below w.heap.size w w') : Calls P f args w fun e w' => ∃ A c, e = .returned (.tuple #[.slice A l.length c, .int .i64 0]) ∧ RdK enK w' w'.heap.size A l ∧ Below w.heap.size w w' :=
  h.mono fun e w' ⟨v, n, he, hb, k⟩ => by
    cases hb with
    | yes A c _ hr => exact ⟨A, c, he, hr, k⟩
theorem bkE {A : Option Addr} {l : List En} {c : Nat} {w : World} (h : RdK enK w w.heap.size A l) (hf : ∀ x ∈ l, FineE x) (hn : l.length ≤ 80) :
    (∀ W, Below w.heap.size w W → Calls Try.prog 13 #[.slice A l.length c] W fun e w' => e = .returned (.tuple #[.slice none 0 0, .int .i64 3]) ∧ Below W.heap.size W w') ∨ ∃ n, BkE A l c w n := by
  have CW := fun W (k : Below w.heap.size w W) => lawE_any A c l W ((h.below k).more k.size) hf (by omega)
  cases e : writeL codE l with
  | none =>
    refine .inl (fun W k => ?_)
    have := CW W k
    rw [e] at this
    exact bts_none this
  | some b =>
    obtain ⟨eb, _, _, hlim⟩ := writeL_some codE e
    have hb : b.length ≤ 65536 := by rw [eb]; exact hlim
    refine .inr ⟨b.length, fun W k => ?_, fun W A2 c2 k hr => sameE_yes A A2 c c2 l.length l W ((h.below k).more k.size) hr rfl (by omega)⟩
    have := CW W k
    rw [e] at this
    have h0 : 1 ≤ b.length := by
      rw [eb]; unfold listB; rw [List.length_append]; have := YX.numB_pos l.length; omega
    refine (bts_some this).mono fun e' w' ⟨A1, c1, he, hr, k1⟩ => ⟨A1, c1, he, fun W2 k2 => ?_, k1⟩
    have hA : A1 = none → c1 = 0 := fun q => by
      rcases hr with h | ⟨b', off, e2, _⟩
      · rw [h] at h0; simp at h0
      · rw [q] at e2; cases e2
    have := rlawE_any A1 c1 b W2 ((hr.below k2).more k2.size) (by omega) hA
    rw [readL_B codE hf e] at this
    exact lsBE_yes this
set_option maxHeartbeats 16000000 in
theorem back_walk (A1 A2 A3 : Option Addr) (c1 c2 c3 : Nat) (l : List Ob) (s : List Ch) (es : List En) (w : World) (h1 : RdK obK w w.heap.size A1 l) (h2 : RdK chK w w.heap.size A2 s) (h3 : RdK enK w w.heap.size A3 es) (m1 : l.length ≤ maxLen) (m2 : s.length ≤ maxLen) (m3 : es.length ≤ maxLen)
    (f1 : longAll l s es = false → (∀ x ∈ l, Fine x) ∧ (∀ x ∈ s, FineC x) ∧ (∀ x ∈ es, FineE x)) :
    Calls Try.prog 5 #[.slice A1 l.length c1, .slice A2 s.length c2, .slice A3 es.length c3] w fun e w' => e = .returned (.bool true) ∧ Below w.heap.size w w' := by
  have CA := Lib.hid (awake_any w)
  have CL := Lib.hid (fun W (k : Below w.heap.size w W) => longAll_any A1 A2 A3 c1 c2 c3 l s es W ((h1.below k).more k.size) ((h2.below k).more k.size) ((h3.below k).more k.size) m1 m2 m3)
  cases hla : longAll l s es with
  | true =>
    rw [hla] at CL
    clear h1 h2 h3 hla f1
    go_enter Try.func5, Try.ntmps5
    go_wp2_with (first
      | (go_at_call 24; ((refine CA.out.mono ?_); rintro e w1 ⟨rfl, k1⟩; have K1 := Lib.hid k1; clear k1))
      | (go_at_call 8; ((with_reducible refine (CL.out _ K1.out).mono ?_); rintro e w2 ⟨rfl, k2⟩; have K2 := Lib.hid (bThen K1.out k2); clear k2)))
    go_ret
    exact ⟨rfl, K2.out⟩
  | false =>
    rw [hla] at CL
    obtain ⟨fo, fc, fe⟩ := f1 hla
    have hlen : l.length ≤ 80 ∧ s.length ≤ 80 ∧ es.length ≤ 80 := by
      simp only [longAll, Bool.or_eq_false_iff, decide_eq_false_iff_not] at hla
      omega
    have SO := bkO (c := c1) h1 fo hlen.1
    have SC := bkC (c := c2) h2 fc hlen.2.1
    have SE := bkE (c := c3) h3 fe hlen.2.2
    clear h1 h2 h3 hla f1 fo fc fe hlen m1 m2 m3
    rcases SO with HO | ⟨nO, HO⟩ <;> rcases SC with HC | ⟨nC, HC⟩ <;> rcases SE with HE | ⟨nE, HE⟩
    all_goals
      replace HO := Lib.hid HO
      replace HC := Lib.hid HC
      replace HE := Lib.hid HE
      go_enter Try.func5, Try.ntmps5
    · go_wp2_with (first
      | (go_at_call 24; ((refine CA.out.mono ?_); rintro e w1 ⟨rfl, k1⟩; have K1 := Lib.hid k1; clear k1))
      | (go_at_call 8; ((with_reducible refine (CL.out _ K1.out).mono ?_); rintro e w2 ⟨rfl, k2⟩; have K2 := Lib.hid (bThen K1.out k2); clear k2))
      | (go_at_call 9; ((with_reducible refine (HO.out _ K2.out).mono ?_); rintro e wx ⟨rfl, kx⟩; have KO := Lib.hid (bThen K2.out kx); clear kx))
      | (go_at_call 11; ((with_reducible refine (HC.out _ KO.out).mono ?_); rintro e wx ⟨rfl, kx⟩; have KC := Lib.hid (bThen KO.out kx); clear kx))
      | (go_at_call 13; ((with_reducible refine (HE.out _ KC.out).mono ?_); rintro e wx ⟨rfl, kx⟩; have KE := Lib.hid (bThen KC.out kx); clear kx)))
      go_ret
      exact ⟨rfl, KE.out⟩
    · go_wp2_with (first
      | (go_at_call 24; ((refine CA.out.mono ?_); rintro e w1 ⟨rfl, k1⟩; have K1 := Lib.hid k1; clear k1))
      | (go_at_call 8; ((with_reducible refine (CL.out _ K1.out).mono ?_); rintro e w2 ⟨rfl, k2⟩; have K2 := Lib.hid (bThen K1.out k2); clear k2))
      | (go_at_call 9; ((with_reducible refine (HO.out _ K2.out).mono ?_); rintro e wx ⟨rfl, kx⟩; have KO := Lib.hid (bThen K2.out kx); clear kx))
      | (go_at_call 11; ((with_reducible refine (HC.out _ KO.out).mono ?_); rintro e wx ⟨rfl, kx⟩; have KC := Lib.hid (bThen KO.out kx); clear kx))
      | (go_at_call 13; ((with_reducible refine (HE.out.wr _ KC.out).mono ?_); rintro e wx ⟨AE1, cE1, rfl, rx, kx⟩; have KE := Lib.hid (bThen KC.out kx); have RE0 := Lib.hid rx; have BE0 := Lib.hid (Below.refl wx.heap.size wx); clear kx rx))
      | (go_at_call 29; ((with_reducible refine (RE0.out _ BE0.out).mono ?_); rintro e wx ⟨AE2, cE2, rfl, rx, kx⟩; have KE2 := Lib.hid (bThen KE.out kx); have XE := Lib.hid rx; clear kx rx))
      | (go_at_call 30; ((with_reducible refine (HE.out.same _ _ _ KE2.out XE.out).mono ?_); rintro e wx ⟨rfl, kx⟩; have KE3 := Lib.hid (bThen KE2.out kx); clear kx)))
      go_ret
      exact ⟨rfl, KE3.out⟩
    · go_wp2_with (first
      | (go_at_call 24; ((refine CA.out.mono ?_); rintro e w1 ⟨rfl, k1⟩; have K1 := Lib.hid k1; clear k1))
      | (go_at_call 8; ((with_reducible refine (CL.out _ K1.out).mono ?_); rintro e w2 ⟨rfl, k2⟩; have K2 := Lib.hid (bThen K1.out k2); clear k2))
      | (go_at_call 9; ((with_reducible refine (HO.out _ K2.out).mono ?_); rintro e wx ⟨rfl, kx⟩; have KO := Lib.hid (bThen K2.out kx); clear kx))
      | (go_at_call 11; ((with_reducible refine (HC.out.wr _ KO.out).mono ?_); rintro e wx ⟨AC1, cC1, rfl, rx, kx⟩; have KC := Lib.hid (bThen KO.out kx); have RC0 := Lib.hid rx; have BC0 := Lib.hid (Below.refl wx.heap.size wx); clear kx rx))
      | (go_at_call 13; ((with_reducible refine (HE.out _ KC.out).mono ?_); rintro e wx ⟨rfl, kx⟩; have KE := Lib.hid (bThen KC.out kx); have BCE := Lib.hid (bThen BC0.out kx); clear kx))
      | (go_at_call 27; ((with_reducible refine (RC0.out _ BCE.out).mono ?_); rintro e wx ⟨AC2, cC2, rfl, rx, kx⟩; have KC2 := Lib.hid (bThen KE.out kx); have XC := Lib.hid rx; clear kx rx))
      | (go_at_call 28; ((with_reducible refine (HC.out.same _ _ _ KC2.out XC.out).mono ?_); rintro e wx ⟨rfl, kx⟩; have KC3 := Lib.hid (bThen KC2.out kx); clear kx)))
      go_ret
      exact ⟨rfl, KC3.out⟩
    · go_wp2_with (first
      | (go_at_call 24; ((refine CA.out.mono ?_); rintro e w1 ⟨rfl, k1⟩; have K1 := Lib.hid k1; clear k1))
      | (go_at_call 8; ((with_reducible refine (CL.out _ K1.out).mono ?_); rintro e w2 ⟨rfl, k2⟩; have K2 := Lib.hid (bThen K1.out k2); clear k2))
      | (go_at_call 9; ((with_reducible refine (HO.out _ K2.out).mono ?_); rintro e wx ⟨rfl, kx⟩; have KO := Lib.hid (bThen K2.out kx); clear kx))
      | (go_at_call 11; ((with_reducible refine (HC.out.wr _ KO.out).mono ?_); rintro e wx ⟨AC1, cC1, rfl, rx, kx⟩; have KC := Lib.hid (bThen KO.out kx); have RC0 := Lib.hid rx; have BC0 := Lib.hid (Below.refl wx.heap.size wx); clear kx rx))
      | (go_at_call 13; ((with_reducible refine (HE.out.wr _ KC.out).mono ?_); rintro e wx ⟨AE1, cE1, rfl, rx, kx⟩; have KE := Lib.hid (bThen KC.out kx); have RE0 := Lib.hid rx; have BE0 := Lib.hid (Below.refl wx.heap.size wx); have BCE := Lib.hid (bThen BC0.out kx); clear kx rx))
      | (go_at_call 27; ((with_reducible refine (RC0.out _ BCE.out).mono ?_); rintro e wx ⟨AC2, cC2, rfl, rx, kx⟩; have KC2 := Lib.hid (bThen KE.out kx); have XC := Lib.hid rx; have BECr := Lib.hid (bThen BE0.out kx); clear kx rx))
      | (go_at_call 28; ((with_reducible refine (HC.out.same _ _ _ KC2.out XC.out).mono ?_); rintro e wx ⟨rfl, kx⟩; have KC3 := Lib.hid (bThen KC2.out kx); have BECs := Lib.hid (bThen BECr.out kx); clear kx))
      | (go_at_call 29; ((with_reducible refine (RE0.out _ BECs.out).mono ?_); rintro e wx ⟨AE2, cE2, rfl, rx, kx⟩; have KE2 := Lib.hid (bThen KC3.out kx); have XE := Lib.hid rx; clear kx rx))
      | (go_at_call 30; ((with_reducible refine (HE.out.same _ _ _ KE2.out XE.out).mono ?_); rintro e wx ⟨rfl, kx⟩; have KE3 := Lib.hid (bThen KE2.out kx); clear kx)))
      go_ret
      exact ⟨rfl, KE3.out⟩
    · go_wp2_with (first
      | (go_at_call 24; ((refine CA.out.mono ?_); rintro e w1 ⟨rfl, k1⟩; have K1 := Lib.hid k1; clear k1))
      | (go_at_call 8; ((with_reducible refine (CL.out _ K1.out).mono ?_); rintro e w2 ⟨rfl, k2⟩; have K2 := Lib.hid (bThen K1.out k2); clear k2))
      | (go_at_call 9; ((with_reducible refine (HO.out.wr _ K2.out).mono ?_); rintro e wx ⟨AO1, cO1, rfl, rx, kx⟩; have KO := Lib.hid (bThen K2.out kx); have RO0 := Lib.hid rx; have BO0 := Lib.hid (Below.refl wx.heap.size wx); clear kx rx))
      | (go_at_call 11; ((with_reducible refine (HC.out _ KO.out).mono ?_); rintro e wx ⟨rfl, kx⟩; have KC := Lib.hid (bThen KO.out kx); have BOC := Lib.hid (bThen BO0.out kx); clear kx))
      | (go_at_call 13; ((with_reducible refine (HE.out _ KC.out).mono ?_); rintro e wx ⟨rfl, kx⟩; have KE := Lib.hid (bThen KC.out kx); have BOE := Lib.hid (bThen BOC.out kx); clear kx))
      | (go_at_call 25; ((with_reducible refine (RO0.out _ BOE.out).mono ?_); rintro e wx ⟨AO2, cO2, rfl, rx, kx⟩; have KO2 := Lib.hid (bThen KE.out kx); have XO := Lib.hid rx; clear kx rx))
      | (go_at_call 26; ((with_reducible refine (HO.out.same _ _ _ KO2.out XO.out).mono ?_); rintro e wx ⟨rfl, kx⟩; have KO3 := Lib.hid (bThen KO2.out kx); clear kx)))
      go_ret
      exact ⟨rfl, KO3.out⟩
    · go_wp2_with (first
      | (go_at_call 24; ((refine CA.out.mono ?_); rintro e w1 ⟨rfl, k1⟩; have K1 := Lib.hid k1; clear k1))
      | (go_at_call 8; ((with_reducible refine (CL.out _ K1.out).mono ?_); rintro e w2 ⟨rfl, k2⟩; have K2 := Lib.hid (bThen K1.out k2); clear k2))
      | (go_at_call 9; ((with_reducible refine (HO.out.wr _ K2.out).mono ?_); rintro e wx ⟨AO1, cO1, rfl, rx, kx⟩; have KO := Lib.hid (bThen K2.out kx); have RO0 := Lib.hid rx; have BO0 := Lib.hid (Below.refl wx.heap.size wx); clear kx rx))
      | (go_at_call 11; ((with_reducible refine (HC.out _ KO.out).mono ?_); rintro e wx ⟨rfl, kx⟩; have KC := Lib.hid (bThen KO.out kx); have BOC := Lib.hid (bThen BO0.out kx); clear kx))
      | (go_at_call 13; ((with_reducible refine (HE.out.wr _ KC.out).mono ?_); rintro e wx ⟨AE1, cE1, rfl, rx, kx⟩; have KE := Lib.hid (bThen KC.out kx); have RE0 := Lib.hid rx; have BE0 := Lib.hid (Below.refl wx.heap.size wx); have BOE := Lib.hid (bThen BOC.out kx); clear kx rx))
      | (go_at_call 25; ((with_reducible refine (RO0.out _ BOE.out).mono ?_); rintro e wx ⟨AO2, cO2, rfl, rx, kx⟩; have KO2 := Lib.hid (bThen KE.out kx); have XO := Lib.hid rx; have BEOr := Lib.hid (bThen BE0.out kx); clear kx rx))
      | (go_at_call 26; ((with_reducible refine (HO.out.same _ _ _ KO2.out XO.out).mono ?_); rintro e wx ⟨rfl, kx⟩; have KO3 := Lib.hid (bThen KO2.out kx); have BEOs := Lib.hid (bThen BEOr.out kx); clear kx))
      | (go_at_call 29; ((with_reducible refine (RE0.out _ BEOs.out).mono ?_); rintro e wx ⟨AE2, cE2, rfl, rx, kx⟩; have KE2 := Lib.hid (bThen KO3.out kx); have XE := Lib.hid rx; clear kx rx))
      | (go_at_call 30; ((with_reducible refine (HE.out.same _ _ _ KE2.out XE.out).mono ?_); rintro e wx ⟨rfl, kx⟩; have KE3 := Lib.hid (bThen KE2.out kx); clear kx)))
      go_ret
      exact ⟨rfl, KE3.out⟩
    · go_wp2_with (first
      | (go_at_call 24; ((refine CA.out.mono ?_); rintro e w1 ⟨rfl, k1⟩; have K1 := Lib.hid k1; clear k1))
      | (go_at_call 8; ((with_reducible refine (CL.out _ K1.out).mono ?_); rintro e w2 ⟨rfl, k2⟩; have K2 := Lib.hid (bThen K1.out k2); clear k2))
      | (go_at_call 9; ((with_reducible refine (HO.out.wr _ K2.out).mono ?_); rintro e wx ⟨AO1, cO1, rfl, rx, kx⟩; have KO := Lib.hid (bThen K2.out kx); have RO0 := Lib.hid rx; have BO0 := Lib.hid (Below.refl wx.heap.size wx); clear kx rx))
      | (go_at_call 11; ((with_reducible refine (HC.out.wr _ KO.out).mono ?_); rintro e wx ⟨AC1, cC1, rfl, rx, kx⟩; have KC := Lib.hid (bThen KO.out kx); have RC0 := Lib.hid rx; have BC0 := Lib.hid (Below.refl wx.heap.size wx); have BOC := Lib.hid (bThen BO0.out kx); clear kx rx))
      | (go_at_call 13; ((with_reducible refine (HE.out _ KC.out).mono ?_); rintro e wx ⟨rfl, kx⟩; have KE := Lib.hid (bThen KC.out kx); have BOE := Lib.hid (bThen BOC.out kx); have BCE := Lib.hid (bThen BC0.out kx); clear kx))
      | (go_at_call 25; ((with_reducible refine (RO0.out _ BOE.out).mono ?_); rintro e wx ⟨AO2, cO2, rfl, rx, kx⟩; have KO2 := Lib.hid (bThen KE.out kx); have XO := Lib.hid rx; have BCOr := Lib.hid (bThen BCE.out kx); clear kx rx))
      | (go_at_call 26; ((with_reducible refine (HO.out.same _ _ _ KO2.out XO.out).mono ?_); rintro e wx ⟨rfl, kx⟩; have KO3 := Lib.hid (bThen KO2.out kx); have BCOs := Lib.hid (bThen BCOr.out kx); clear kx))
      | (go_at_call 27; ((with_reducible refine (RC0.out _ BCOs.out).mono ?_); rintro e wx ⟨AC2, cC2, rfl, rx, kx⟩; have KC2 := Lib.hid (bThen KO3.out kx); have XC := Lib.hid rx; clear kx rx))
      | (go_at_call 28; ((with_reducible refine (HC.out.same _ _ _ KC2.out XC.out).mono ?_); rintro e wx ⟨rfl, kx⟩; have KC3 := Lib.hid (bThen KC2.out kx); clear kx)))
      go_ret
      exact ⟨rfl, KC3.out⟩
    · go_wp2_with (first
      | (go_at_call 24; ((refine CA.out.mono ?_); rintro e w1 ⟨rfl, k1⟩; have K1 := Lib.hid k1; clear k1))
      | (go_at_call 8; ((with_reducible refine (CL.out _ K1.out).mono ?_); rintro e w2 ⟨rfl, k2⟩; have K2 := Lib.hid (bThen K1.out k2); clear k2))
      | (go_at_call 9; ((with_reducible refine (HO.out.wr _ K2.out).mono ?_); rintro e wx ⟨AO1, cO1, rfl, rx, kx⟩; have KO := Lib.hid (bThen K2.out kx); have RO0 := Lib.hid rx; have BO0 := Lib.hid (Below.refl wx.heap.size wx); clear kx rx))
      | (go_at_call 11; ((with_reducible refine (HC.out.wr _ KO.out).mono ?_); rintro e wx ⟨AC1, cC1, rfl, rx, kx⟩; have KC := Lib.hid (bThen KO.out kx); have RC0 := Lib.hid rx; have BC0 := Lib.hid (Below.refl wx.heap.size wx); have BOC := Lib.hid (bThen BO0.out kx); clear kx rx))
      | (go_at_call 13; ((with_reducible refine (HE.out.wr _ KC.out).mono ?_); rintro e wx ⟨AE1, cE1, rfl, rx, kx⟩; have KE := Lib.hid (bThen KC.out kx); have RE0 := Lib.hid rx; have BE0 := Lib.hid (Below.refl wx.heap.size wx); have BOE := Lib.hid (bThen BOC.out kx); have BCE := Lib.hid (bThen BC0.out kx); clear kx rx))
      | (go_at_call 25; ((with_reducible refine (RO0.out _ BOE.out).mono ?_); rintro e wx ⟨AO2, cO2, rfl, rx, kx⟩; have KO2 := Lib.hid (bThen KE.out kx); have XO := Lib.hid rx; have BCOr := Lib.hid (bThen BCE.out kx); have BEOr := Lib.hid (bThen BE0.out kx); clear kx rx))
      | (go_at_call 26; ((with_reducible refine (HO.out.same _ _ _ KO2.out XO.out).mono ?_); rintro e wx ⟨rfl, kx⟩; have KO3 := Lib.hid (bThen KO2.out kx); have BCOs := Lib.hid (bThen BCOr.out kx); have BEOs := Lib.hid (bThen BEOr.out kx); clear kx))
      | (go_at_call 27; ((with_reducible refine (RC0.out _ BCOs.out).mono ?_); rintro e wx ⟨AC2, cC2, rfl, rx, kx⟩; have KC2 := Lib.hid (bThen KO3.out kx); have XC := Lib.hid rx; have BECr := Lib.hid (bThen BEOs.out kx); clear kx rx))
      | (go_at_call 28; ((with_reducible refine (HC.out.same _ _ _ KC2.out XC.out).mono ?_); rintro e wx ⟨rfl, kx⟩; have KC3 := Lib.hid (bThen KC2.out kx); have BECs := Lib.hid (bThen BECr.out kx); clear kx))
      | (go_at_call 29; ((with_reducible refine (RE0.out _ BECs.out).mono ?_); rintro e wx ⟨AE2, cE2, rfl, rx, kx⟩; have KE2 := Lib.hid (bThen KC3.out kx); have XE := Lib.hid rx; clear kx rx))
      | (go_at_call 30; ((with_reducible refine (HE.out.same _ _ _ KE2.out XE.out).mono ?_); rintro e wx ⟨rfl, kx⟩; have KE3 := Lib.hid (bThen KE2.out kx); clear kx)))
      go_ret
      exact ⟨rfl, KE3.out⟩
end Go.Proofs.Ytejjlmdaalfenaa.PX
/-
  PLAIN: four things, written one behind the other, are read as what they were.
-/
namespace Go.Proofs.Ytejjlmdaalfenaa.PX
open Go.RowKit HL
open YX (numB rdU rdB rdT rdS rdI addW intN natI rest told)
open DX (Ch)
set_option maxRecDepth 100000
set_option linter.unusedVariables false
set_option linter.unusedSimpArgs false

theorem four {e : En} {o : Ob} {c : Ch} {b : Bs} (h : codO.W (codC.W (codO.W (codE.W (some []) e) o) c) o = some b) :
    codE.short e = true ∧ codO.short o = true ∧ codC.short c = true ∧ b = codE.B e ++ (codO.B o ++ (codC.B c ++ (codO.B o ++ []))) := by
  rw [codO.w_eq, codC.w_eq, codO.w_eq, codE.w_eq] at h
  cases h1 : codO.short o with
  | false => rw [h1] at h; simp at h
  | true =>
    cases h2 : codC.short c with
    | false =>
      rw [h1, h2] at h
      simp [addW] at h
    | true =>
      cases h3 : codE.short e with
      | false => rw [h1, h2, h3] at h; simp [addW] at h
      | true =>
        rw [h1, h2, h3] at h
        simp only [if_true] at h
        refine ⟨rfl, rfl, rfl, ?_⟩
        rw [addW_app, addW_app, addW_app] at h
        simp only [addW, List.nil_append] at h
        split at h
        · cases h
        · injection h with h
          rw [← h]
          simp [List.append_assoc]
theorem four_read {e : En} {o : Ob} {c : Ch} {b : Bs} (fe : FineE e) (fo : Fine o) (fc : FineC c) (h : codO.W (codC.W (codO.W (codE.W (some []) e) o) c) o = some b) :
    ∃ s1 s2 s3, getE (some b) = (e, s1) ∧ getO s1 = (o, s2) ∧ getC s2 = (c, s3) ∧ getO s3 = (o, some []) := by
  obtain ⟨h1, h2, h3, rfl⟩ := four h
  exact ⟨_, _, _, codE.rd_B e fe h1 _, codO.rd_B o fo h2 _, codC.rd_B c fc h3 _, codO.rd_B o fo h2 _⟩
/-- What came in, and isn't too long. -/
structure In (o : Ob) : Prop where
  kind : o.kind < 256
  typ : o.typ < 256
  digits : o.digits < 256
  assoc : o.assoc < 256
  lo : -9223372036854775808 ≤ o.lo ∧ o.lo < 9223372036854775808
  hi : -9223372036854775808 ≤ o.hi ∧ o.hi < 9223372036854775808
  value : -9223372036854775808 ≤ o.value ∧ o.value < 9223372036854775808
  low : -9223372036854775808 ≤ o.low ∧ o.low < 9223372036854775808
  high : -9223372036854775808 ≤ o.high ∧ o.high < 9223372036854775808
theorem tx_len (b : ByteArray) : (tx b).length = b.size := rfl
theorem fine_of {o : Ob} (h : In o) (hl : longB o = false) : Fine o := by
  simp only [longB, Bool.or_eq_false_iff, decide_eq_false_iff_not] at hl
  exact ⟨h.kind, h.typ, h.digits, h.assoc, h.lo, h.hi, h.value, h.low, h.high, by rw [tx_len]; omega, by rw [tx_len]; omega, by rw [tx_len]; omega⟩
end Go.Proofs.Ytejjlmdaalfenaa.PX
/-
  The law RecordBack over what came in.
-/
namespace Go.Proofs.Ytejjlmdaalfenaa.PX
open Go.RowKit HL
open IX (RdK)
open WX (obK)
open DX (Ch ch chCells chK)
set_option maxRecDepth 100000
set_option linter.unusedVariables false

theorem in_of {o : Ob} (h : Go.Proofs.Ytejjlmdaalfenaa.Fine o) : In o :=
  ⟨by have := h.kind; omega, by have := h.typ; omega, by have := h.digits; omega, by have := h.assoc; omega, by have := h.lo; omega, by have := h.hi; omega, by have := h.value; omega, by have := h.low; omega, by have := h.high; omega⟩
theorem fines {l : List Ob} {s : List Ch} {es : List En} (b1 : ∀ x ∈ l, Go.Proofs.Ytejjlmdaalfenaa.Fine x) (b2 : ∀ x ∈ s, x.kind ≤ 255 ∧ Go.Proofs.Ytejjlmdaalfenaa.Fine x.o) (b3 : ∀ x ∈ es, InE x) (h : longAll l s es = false) :
    (∀ x ∈ l, Fine x) ∧ (∀ x ∈ s, FineC x) ∧ (∀ x ∈ es, FineE x) := by
  simp only [longAll, Bool.or_eq_false_iff] at h
  obtain ⟨⟨⟨_, h1⟩, h2⟩, h3⟩ := h
  refine ⟨fun x hx => fine_of (in_of (b1 x hx)) ?_, fun x hx => ⟨by have := (b2 x hx).1; omega, fine_of (in_of (b2 x hx).2) ?_⟩, fun x hx => ?_⟩
  · cases e : longB x with
    | false => rfl
    | true => rw [List.any_eq_true.2 ⟨x, hx, e⟩] at h1; cases h1
  · cases e : longB x.o with
    | false => rfl
    | true => rw [List.any_eq_true.2 ⟨x, hx, e⟩] at h2; cases h2
  · cases e : longE x with
    | true => rw [List.any_eq_true.2 ⟨x, hx, e⟩] at h3; cases h3
    | false =>
      simp only [longE, Bool.or_eq_false_iff, decide_eq_false_iff_not] at e
      obtain ⟨_, c2, c3, c4⟩ := b3 x hx
      exact ⟨by rw [tx_len]; omega, fine_of (in_of c2) e.1, by omega, by omega⟩
theorem back_in (A1 A2 A3 : Option Addr) (c1 c2 c3 : Nat) (l : List Ob) (s : List Ch) (es : List En) (w : World) (h1 : RdK obK w w.heap.size A1 l) (h2 : RdK chK w w.heap.size A2 s) (h3 : RdK enK w w.heap.size A3 es) (m1 : l.length ≤ maxLen) (m2 : s.length ≤ maxLen) (m3 : es.length ≤ maxLen)
    (b1 : ∀ x ∈ l, Go.Proofs.Ytejjlmdaalfenaa.Fine x) (b2 : ∀ x ∈ s, x.kind ≤ 255 ∧ Go.Proofs.Ytejjlmdaalfenaa.Fine x.o) (b3 : ∀ x ∈ es, InE x) :
    Calls Try.prog 5 #[.slice A1 l.length c1, .slice A2 s.length c2, .slice A3 es.length c3] w fun e w' => e = .returned (.bool true) ∧ Below w.heap.size w w' :=
  back_walk A1 A2 A3 c1 c2 c3 l s es w h1 h2 h3 m1 m2 m3 (fines b1 b2 b3)
end Go.Proofs.Ytejjlmdaalfenaa.PX
