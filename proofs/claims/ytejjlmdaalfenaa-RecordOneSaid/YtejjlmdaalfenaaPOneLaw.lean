/-
  The law RecordOne walked.
-/
import Derived.Test.YtejjlmdaalfenaaPReadE
import Derived.Test.YtejjlmdaalfenaaPReadC
import Derived.Test.YtejjlmdaalfenaaPReadO
import Derived.Test.YtejjlmdaalfenaaPAwake
import Derived.OwnWalk
namespace Go.Proofs.Ytejjlmdaalfenaa.PX
open Go.RowKit HL
open IX (ptr El cellsK cellsK_at cellsK_len OwnK RdK Kept slice_toK)
open YX (numB rdU rdB rdT rdS rdI addW intN natI rest told WAt WPt Wr RAt vS vU vI u8K Got)
open WX (obK)
open DX (Ch ch chCells chK)
set_option maxRecDepth 100000
set_option linter.unusedVariables false
set_option linter.unusedSimpArgs false

theorem place_of (i : Int) (n : Nat) (hn : n ≤ 4000) : ∃ (u : Int) (k : Nat), IntKind.u64.wrap i = u ∧ 0 ≤ u ∧ (u % ((n : Int) + 1)) = (k : Int) ∧ k ≤ n := by
  have h0 : (0 : Int) ≤ IntKind.u64.wrap i := by
    simp only [IntKind.wrap]
    exact Int.emod_nonneg _ (by decide)
  refine ⟨IntKind.u64.wrap i, (IntKind.u64.wrap i % ((n : Int) + 1)).toNat, rfl, h0, ?_, ?_⟩
  · have := Int.emod_nonneg (IntKind.u64.wrap i) (b := (n : Int) + 1) (by omega)
    omega
  · have := Int.emod_lt_of_pos (IntKind.u64.wrap i) (b := (n : Int) + 1) (by omega)
    have := Int.emod_nonneg (IntKind.u64.wrap i) (b := (n : Int) + 1) (by omega)
    omega
theorem rd_take {α : Type} {K : El α} {w : World} {B : Nat} {A : Option Addr} {l : List α} (h : RdK K w B A l) (k : Nat) : RdK K w B A (l.take k) := by
  rcases h with rfl | ⟨b, off, e, hb, hc⟩
  · exact .inl (by simp)
  · refine .inr ⟨b, off, e, hb, fun m u hu => hc m u ?_⟩
    have e2 : cellsK K l = cellsK K (l.take k) ++ cellsK K (l.drop k) := by rw [← IX.cellsK_app, List.take_append_drop]
    rw [e2, List.getElem?_append_left (List.getElem?_eq_some_iff.1 hu).1]
    exact hu
theorem rd_none {α : Type} {K : El α} {w : World} {B : Nat} {A : Option Addr} {l : List α} (h : RdK K w B A l) : A = none → l = [] := fun e => by
  rcases h with h | ⟨b, off, e2, _⟩
  · exact h
  · rw [e] at e2; cases e2
/-- What a part of the bytes is read as. -/
theorem cut_read {α : Type} (C : Cod α) {b : Bs} {l : List α} (h : readL C b = some l) {k : Nat} (hk : k ≤ b.length) (hne : k ≠ b.length) : readL C (b.take k) = none := by
  cases e : readL C (b.take k) with
  | none => rfl
  | some l2 =>
    exfalso
    have h2 : readL C (b.take k ++ b.drop k) = some l := by rw [List.take_append_drop]; exact h
    have := readL_one C e h2
    have hl := congrArg List.length this
    rw [List.length_drop] at hl
    simp at hl
    omega
theorem long_read {α : Type} (C : Cod α) {b : Bs} {l : List α} (h : readL C b = some l) (x : UInt8) : readL C (b ++ [x]) = none := by
  cases e : readL C (b ++ [x]) with
  | none => rfl
  | some l2 => have := readL_one C h e; cases this
/-- The calls of one part of the law. -/
structure SecO (A : Option Addr) (b : Bs) (c kk gc : Nat) (x : UInt8) (w : World) (l : List Ob) : Prop where
  rd : ∀ W, Below w.heap.size w W → Calls Try.prog 25 #[.slice A b.length c] W fun e w' => ∃ A1 c1, e = .returned (.tuple #[.slice A1 l.length c1, .int .i64 0]) ∧ RdK obK w' w'.heap.size A1 l ∧ Below W.heap.size W w'
  wr : ∀ W A1 c1, RdK obK W W.heap.size A1 l → Calls Try.prog 9 #[.slice A1 l.length c1] W fun e w' => ∃ A2 c2, e = .returned (.tuple #[.slice A2 b.length c2, .int .i64 0]) ∧ RdK u8K w' w'.heap.size A2 b ∧ Below W.heap.size W w'
  cut : ∀ W, Below w.heap.size w W → Calls Try.prog 25 #[.slice A kk c] W fun e w' => ∃ v, e = .returned (.tuple #[v, .int .i64 (gc : Int)]) ∧ Below W.heap.size W w'
  lg : ∀ W A3 n3 c3, RdK u8K W W.heap.size A3 (b ++ [x]) → n3 = b.length + 1 → Calls Try.prog 25 #[.slice A3 n3 c3] W fun e w' => ∃ v, e = .returned (.tuple #[v, .int .i64 120]) ∧ Below W.heap.size W w'
theorem lsO_tell {P : Program} {f : Nat} {args : Array Value} {w : World} {r : Option (List Ob)} (h : Calls P f args w fun e w' => ∃ v n, e = .returned (.tuple #[v, .int .i64 n]) ∧ LsO w' v n r ∧ Below w.heap.size w w') : Calls P f args w fun e w' => ∃ v, e = .returned (.tuple #[v, .int .i64 (if r.isSome then 0 else 120)]) ∧ Below w.heap.size w w' :=
  h.mono fun e w' ⟨v, n, he, hb, k⟩ => by cases hb <;> exact ⟨_, he, k⟩
theorem lsO_yes {P : Program} {f : Nat} {args : Array Value} {w : World} {l : List Ob} (h : Calls P f args w fun e w' => ∃ v n, e = .returned (.tuple #[v, .int .i64 n]) ∧ LsO w' v n (some l) ∧ Below w.heap.size w w') : Calls P f args w fun e w' => ∃ A c, e = .returned (.tuple #[.slice A l.length c, .int .i64 0]) ∧ RdK obK w' w'.heap.size A l ∧ Below w.heap.size w w' :=
  h.mono fun e w' ⟨v, n, he, hb, k⟩ => by
    cases hb with
    | yes A c _ hr => exact ⟨A, c, he, hr, k⟩
theorem secO {A : Option Addr} {b : Bs} {c kk gc : Nat} {x : UInt8} {w : World} (h : RdK u8K w w.heap.size A b) (hA : A = none → c = 0) (hb : b.length ≤ 3000) (hk : kk ≤ b.length) (hg : gc = if kk = b.length then 0 else 120) :
    (∀ W, Below w.heap.size w W → Calls Try.prog 25 #[.slice A b.length c] W fun e w' => ∃ v, e = .returned (.tuple #[v, .int .i64 120]) ∧ Below W.heap.size W w') ∨ ∃ l, l.length ≤ 64 ∧ SecO A b c kk gc x w l := by
  have CR := fun W (k : Below w.heap.size w W) => rlawO_any A c b W ((h.below k).more k.size) (by omega) hA
  cases e : readL codO b with
  | none =>
    refine .inl (fun W k => ?_)
    have := lsO_tell (CR W k)
    rw [e] at this
    exact this
  | some l =>
    obtain ⟨hw, hf⟩ := readL_inv codO e
    have h64 := (writeL_some codO hw).2.1
    refine .inr ⟨l, h64, fun W k => ?_, fun W A1 c1 hr => ?_, fun W k => ?_, fun W A3 n3 c3 hr hn => ?_⟩
    · have := CR W k
      rw [e] at this
      exact lsO_yes this
    · have := lawO_any A1 c1 l W hr hf (by omega)
      rw [hw] at this
      exact bts_some this
    · have := lsO_tell (rlawO_any A c (b.take kk) W (rd_take ((h.below k).more k.size) kk) (by rw [List.length_take]; omega) hA)
      rw [List.length_take, Nat.min_eq_left hk] at this
      by_cases q : kk = b.length
      · rw [q, List.take_length, e] at this
        rw [hg, if_pos q, q]; exact this
      · rw [cut_read codO e hk q] at this
        rw [hg, if_neg q]; exact this
    · subst hn
      have := lsO_tell (rlawO_any A3 c3 (b ++ [x]) W hr (by simp; omega) (fun q => absurd (rd_none hr q) (by simp)))
      rw [long_read codO e] at this
      have hl : (b ++ [x]).length = b.length + 1 := by simp
      rw [hl] at this
      exact this
/-- The calls of one part of the law. -/
structure SecC (A : Option Addr) (b : Bs) (c kk gc : Nat) (x : UInt8) (w : World) (l : List Ch) : Prop where
  rd : ∀ W, Below w.heap.size w W → Calls Try.prog 27 #[.slice A b.length c] W fun e w' => ∃ A1 c1, e = .returned (.tuple #[.slice A1 l.length c1, .int .i64 0]) ∧ RdK chK w' w'.heap.size A1 l ∧ Below W.heap.size W w'
  wr : ∀ W A1 c1, RdK chK W W.heap.size A1 l → Calls Try.prog 11 #[.slice A1 l.length c1] W fun e w' => ∃ A2 c2, e = .returned (.tuple #[.slice A2 b.length c2, .int .i64 0]) ∧ RdK u8K w' w'.heap.size A2 b ∧ Below W.heap.size W w'
  cut : ∀ W, Below w.heap.size w W → Calls Try.prog 27 #[.slice A kk c] W fun e w' => ∃ v, e = .returned (.tuple #[v, .int .i64 (gc : Int)]) ∧ Below W.heap.size W w'
  lg : ∀ W A3 n3 c3, RdK u8K W W.heap.size A3 (b ++ [x]) → n3 = b.length + 1 → Calls Try.prog 27 #[.slice A3 n3 c3] W fun e w' => ∃ v, e = .returned (.tuple #[v, .int .i64 120]) ∧ Below W.heap.size W w'
theorem lsC_tell {P : Program} {f : Nat} {args : Array Value} {w : World} {r : Option (List Ch)} (h : Calls P f args w fun e w' => ∃ v n, e = .returned (.tuple #[v, .int .i64 n]) ∧ LsC w' v n r ∧ Below w.heap.size w w') : Calls P f args w fun e w' => ∃ v, e = .returned (.tuple #[v, .int .i64 (if r.isSome then 0 else 120)]) ∧ Below w.heap.size w w' :=
  h.mono fun e w' ⟨v, n, he, hb, k⟩ => by cases hb <;> exact ⟨_, he, k⟩
theorem lsC_yes {P : Program} {f : Nat} {args : Array Value} {w : World} {l : List Ch} (h : Calls P f args w fun e w' => ∃ v n, e = .returned (.tuple #[v, .int .i64 n]) ∧ LsC w' v n (some l) ∧ Below w.heap.size w w') : Calls P f args w fun e w' => ∃ A c, e = .returned (.tuple #[.slice A l.length c, .int .i64 0]) ∧ RdK chK w' w'.heap.size A l ∧ Below w.heap.size w w' :=
  h.mono fun e w' ⟨v, n, he, hb, k⟩ => by
    cases hb with
    | yes A c _ hr => exact ⟨A, c, he, hr, k⟩
theorem secC {A : Option Addr} {b : Bs} {c kk gc : Nat} {x : UInt8} {w : World} (h : RdK u8K w w.heap.size A b) (hA : A = none → c = 0) (hb : b.length ≤ 3000) (hk : kk ≤ b.length) (hg : gc = if kk = b.length then 0 else 120) :
    (∀ W, Below w.heap.size w W → Calls Try.prog 27 #[.slice A b.length c] W fun e w' => ∃ v, e = .returned (.tuple #[v, .int .i64 120]) ∧ Below W.heap.size W w') ∨ ∃ l, l.length ≤ 64 ∧ SecC A b c kk gc x w l := by
  have CR := fun W (k : Below w.heap.size w W) => rlawC_any A c b W ((h.below k).more k.size) (by omega) hA
  cases e : readL codC b with
  | none =>
    refine .inl (fun W k => ?_)
    have := lsC_tell (CR W k)
    rw [e] at this
    exact this
  | some l =>
    obtain ⟨hw, hf⟩ := readL_inv codC e
    have h64 := (writeL_some codC hw).2.1
    refine .inr ⟨l, h64, fun W k => ?_, fun W A1 c1 hr => ?_, fun W k => ?_, fun W A3 n3 c3 hr hn => ?_⟩
    · have := CR W k
      rw [e] at this
      exact lsC_yes this
    · have := lawC_any A1 c1 l W hr hf (by omega)
      rw [hw] at this
      exact bts_some this
    · have := lsC_tell (rlawC_any A c (b.take kk) W (rd_take ((h.below k).more k.size) kk) (by rw [List.length_take]; omega) hA)
      rw [List.length_take, Nat.min_eq_left hk] at this
      by_cases q : kk = b.length
      · rw [q, List.take_length, e] at this
        rw [hg, if_pos q, q]; exact this
      · rw [cut_read codC e hk q] at this
        rw [hg, if_neg q]; exact this
    · subst hn
      have := lsC_tell (rlawC_any A3 c3 (b ++ [x]) W hr (by simp; omega) (fun q => absurd (rd_none hr q) (by simp)))
      rw [long_read codC e] at this
      have hl : (b ++ [x]).length = b.length + 1 := by simp
      rw [hl] at this
      exact this
/-- The calls of one part of the law. -/
structure SecE (A : Option Addr) (b : Bs) (c kk gc : Nat) (x : UInt8) (w : World) (l : List En) : Prop where
  rd : ∀ W, Below w.heap.size w W → Calls Try.prog 29 #[.slice A b.length c] W fun e w' => ∃ A1 c1, e = .returned (.tuple #[.slice A1 l.length c1, .int .i64 0]) ∧ RdK enK w' w'.heap.size A1 l ∧ Below W.heap.size W w'
  wr : ∀ W A1 c1, RdK enK W W.heap.size A1 l → Calls Try.prog 13 #[.slice A1 l.length c1] W fun e w' => ∃ A2 c2, e = .returned (.tuple #[.slice A2 b.length c2, .int .i64 0]) ∧ RdK u8K w' w'.heap.size A2 b ∧ Below W.heap.size W w'
  cut : ∀ W, Below w.heap.size w W → Calls Try.prog 29 #[.slice A kk c] W fun e w' => ∃ v, e = .returned (.tuple #[v, .int .i64 (gc : Int)]) ∧ Below W.heap.size W w'
  lg : ∀ W A3 n3 c3, RdK u8K W W.heap.size A3 (b ++ [x]) → n3 = b.length + 1 → Calls Try.prog 29 #[.slice A3 n3 c3] W fun e w' => ∃ v, e = .returned (.tuple #[v, .int .i64 120]) ∧ Below W.heap.size W w'
theorem lsE_tell {P : Program} {f : Nat} {args : Array Value} {w : World} {r : Option (List En)} (h : Calls P f args w fun e w' => ∃ v n, e = .returned (.tuple #[v, .int .i64 n]) ∧ LsE w' v n r ∧ Below w.heap.size w w') : Calls P f args w fun e w' => ∃ v, e = .returned (.tuple #[v, .int .i64 (if r.isSome then 0 else 120)]) ∧ Below w.heap.size w w' :=
  h.mono fun e w' ⟨v, n, he, hb, k⟩ => by cases hb <;> exact ⟨_, he, k⟩
theorem lsE_yes {P : Program} {f : Nat} {args : Array Value} {w : World} {l : List En} (h : Calls P f args w fun e w' => ∃ v n, e = .returned (.tuple #[v, .int .i64 n]) ∧ LsE w' v n (some l) ∧ Below w.heap.size w w') : Calls P f args w fun e w' => ∃ A c, e = .returned (.tuple #[.slice A l.length c, .int .i64 0]) ∧ RdK enK w' w'.heap.size A l ∧ Below w.heap.size w w' :=
  h.mono fun e w' ⟨v, n, he, hb, k⟩ => by
    cases hb with
    | yes A c _ hr => exact ⟨A, c, he, hr, k⟩
theorem secE {A : Option Addr} {b : Bs} {c kk gc : Nat} {x : UInt8} {w : World} (h : RdK u8K w w.heap.size A b) (hA : A = none → c = 0) (hb : b.length ≤ 3000) (hk : kk ≤ b.length) (hg : gc = if kk = b.length then 0 else 120) :
    (∀ W, Below w.heap.size w W → Calls Try.prog 29 #[.slice A b.length c] W fun e w' => ∃ v, e = .returned (.tuple #[v, .int .i64 120]) ∧ Below W.heap.size W w') ∨ ∃ l, l.length ≤ 64 ∧ SecE A b c kk gc x w l := by
  have CR := fun W (k : Below w.heap.size w W) => rlawE_any A c b W ((h.below k).more k.size) (by omega) hA
  cases e : readL codE b with
  | none =>
    refine .inl (fun W k => ?_)
    have := lsE_tell (CR W k)
    rw [e] at this
    exact this
  | some l =>
    obtain ⟨hw, hf⟩ := readL_inv codE e
    have h64 := (writeL_some codE hw).2.1
    refine .inr ⟨l, h64, fun W k => ?_, fun W A1 c1 hr => ?_, fun W k => ?_, fun W A3 n3 c3 hr hn => ?_⟩
    · have := CR W k
      rw [e] at this
      exact lsE_yes this
    · have := lawE_any A1 c1 l W hr hf (by omega)
      rw [hw] at this
      exact bts_some this
    · have := lsE_tell (rlawE_any A c (b.take kk) W (rd_take ((h.below k).more k.size) kk) (by rw [List.length_take]; omega) hA)
      rw [List.length_take, Nat.min_eq_left hk] at this
      by_cases q : kk = b.length
      · rw [q, List.take_length, e] at this
        rw [hg, if_pos q, q]; exact this
      · rw [cut_read codE e hk q] at this
        rw [hg, if_neg q]; exact this
    · subst hn
      have := lsE_tell (rlawE_any A3 c3 (b ++ [x]) W hr (by simp; omega) (fun q => absurd (rd_none hr q) (by simp)))
      rw [long_read codE e] at this
      have hl : (b ++ [x]).length = b.length + 1 := by simp
      rw [hl] at this
      exact this
set_option maxHeartbeats 16000000 in
theorem one_walk (A : Option Addr) (c : Nat) (b : Bs) (i : Int) (x : UInt8) (w : World) (h : RdK u8K w w.heap.size A b) (hA : A = none → c = 0) (hc : b.length ≤ c) (hm : b.length ≤ maxLen) :
    Calls Try.prog 6 #[.slice A b.length c, .int .i64 i, .int .u8 (x.toNat : Int)] w fun e w' => e = .returned (.bool true) ∧ Below w.heap.size w w' := by
  have CA := Lib.hid (awake_any w)
  by_cases hl : 3000 < b.length
  · have i1 : (3000 : Int) < (b.length : Int) := by omega
    clear h
    go_enter Try.func6, Try.ntmps6
    go_wp2_with (go_at_call 24; ((refine CA.out.mono ?_); rintro e w1 ⟨rfl, k1⟩; have K1 := Lib.hid k1; clear k1))
    go_ret
    exact ⟨rfl, K1.out⟩
  · have i1 : ¬ (3000 : Int) < (b.length : Int) := by omega
    obtain ⟨u, kk, hu, hu0, hkk, hkl⟩ := place_of i b.length (by omega)
    have hwr : IntKind.u64.wrap ((b.length : Int) + 1) = (b.length : Int) + 1 := IntWalk.u64_in _ (by omega)
    have hwk : IntKind.i64.wrap (kk : Int) = (kk : Int) := IntWalk.i64_in _ (by omega)
    have hsl : ∀ W, (Instr.slice 26 (.slice A b.length c) none (some (.int .i64 (kk : Int))) none).run Try.prog W = .ok (.slice A kk c) W := fun W => slice_toK u8K hkl hc W
    obtain ⟨gc, hgc⟩ : ∃ gc : Nat, gc = if kk = b.length then 0 else 120 := ⟨_, rfl⟩
    have SO := secO (x := x) h hA (by omega) hkl hgc
    have SC := secC (x := x) h hA (by omega) hkl hgc
    have SE := secE (x := x) h hA (by omega) hkl hgc
    have hL : b.length ≤ 3000 := by omega
    have HR := Lib.hid h
    obtain ⟨t, hb1, hb2⟩ : ∃ t, ((gc : Int) == 0) = t ∧ ((kk : Int) == (b.length : Int)) = t := by
      by_cases q : kk = b.length
      · exact ⟨true, by rw [hgc, if_pos q]; rfl, by rw [q]; simp⟩
      · exact ⟨false, by rw [hgc, if_neg q]; rfl, by simp; omega⟩
    obtain ⟨n9, hn9⟩ : ∃ n9, (b ++ [x]).length = n9 := ⟨_, rfl⟩
    have hl9 : n9 = b.length + 1 := by rw [← hn9]; simp
    have HL9 := Lib.hid hn9
    have HLL := Lib.hid hL
    clear h hA hc hm hl hkl hgc hn9 hL
    have HSO := Lib.hid SO
    have HSC := Lib.hid SC
    have HSE := Lib.hid SE
    clear SO SC SE
    go_enter Try.func6, Try.ntmps6
    go_wp2_with (first
      | (go_at_call 24; ((refine CA.out.mono ?_); rintro e w1 ⟨rfl, k1⟩; have K1 := Lib.hid k1; clear k1))
      | (at_builtin; refine IX.wpList_spreadK u8K rfl (.tmp 46) (.tmp 47) rfl w.heap.size _ [] rfl (IX.OwnK.lit w1 w.heap.size K1.out.size) w.heap.size A b.length c b rfl rfl (HR.out.below (bAl K1.out (.cells #[] 5))) ?c1 ?c2 ?_))
    case c1 => have := HLL.out; simp; omega
    case c2 => exact (bAl K1.out _).size
    intro v6 w6 o6 g6 f6
    have b6 := Lib.hid ((bAl K1.out (.cells #[] 5)).grown g6 (bAl K1.out (.cells #[] 5)).size (fun a ha => ((IX.OwnK.lit (K := u8K) w1 w.heap.size K1.out.size).lt a ha).1))
    have O6 := Lib.hid o6
    clear o6 g6 f6
    go_wp2_with (at_builtin; refine IX.wpList_spreadK u8K rfl (.tmp 48) (.tmp 50) rfl w.heap.size _ b rfl (O6.out.below (bAl (Below.refl _ _) (.cells #[YX.u8 x] 5))) (w6.heap.size + 1) (some ⟨w6.heap.size, 0, none⟩) 1 1 [x] rfl rfl (YX.rd1 w6 x rfl) ?c3 ?c4 ?_)
    case c3 => have := HLL.out; simp; omega
    case c4 => exact (bAl b6.out _).size
    intro v7 w7 o7 g7 f7
    have K0 := Lib.hid ((bAl b6.out (.cells #[YX.u8 x] 5)).grown g7 (bAl b6.out (.cells #[YX.u8 x] 5)).size (fun a ha => (O6.out.lt a ha).1))
    obtain ⟨A9, c9, e9, r9, _, _⟩ := IX.OwnK.form o7
    rw [HL9.out] at e9
    subst e9
    have RL0 := Lib.hid r9
    clear o7 g7 f7 r9 b6 O6 K1 CA
    have HOC : ((∀ W, Below w.heap.size w W → Calls Try.prog 25 #[.slice A b.length c] W fun e w' => ∃ v, e = .returned (.tuple #[v, .int .i64 120]) ∧ Below W.heap.size W w') ∨ ∃ l, l.length ≤ 64 ∧ SecO A b c kk gc x w l) := HSO.out
    rcases HOC with HO | ⟨lO, hO, HO⟩ <;> rcases HSC.out with HC | ⟨lC, hC, HC⟩ <;> rcases HSE.out with HE | ⟨lE, hE, HE⟩
    all_goals
      replace HO := Lib.hid HO
      replace HC := Lib.hid HC
      replace HE := Lib.hid HE
    all_goals clear HSO HSC HSE
    · go_wp2_with (first
      | (go_at_call 25; ((with_reducible refine (HO.out _ K0.out).mono ?_); rintro e wx ⟨vO, rfl, kx⟩; have KO := Lib.hid (bThen K0.out kx); have RLO := Lib.hid ((RL0.out.below kx).more kx.size); clear kx))
      | (go_at_call 27; ((with_reducible refine (HC.out _ KO.out).mono ?_); rintro e wx ⟨vC, rfl, kx⟩; have KC := Lib.hid (bThen KO.out kx); have RLC := Lib.hid ((RLO.out.below kx).more kx.size); clear kx))
      | (go_at_call 29; ((with_reducible refine (HE.out _ KC.out).mono ?_); rintro e wx ⟨vE, rfl, kx⟩; have KE := Lib.hid (bThen KC.out kx); have RLE := Lib.hid ((RLC.out.below kx).more kx.size); clear kx)))
      go_ret
      exact ⟨rfl, KE.out⟩
    · go_wp2_with (first
      | (go_at_call 25; ((with_reducible refine (HO.out _ K0.out).mono ?_); rintro e wx ⟨vO, rfl, kx⟩; have KO := Lib.hid (bThen K0.out kx); have RLO := Lib.hid ((RL0.out.below kx).more kx.size); clear kx))
      | (go_at_call 27; ((with_reducible refine (HC.out _ KO.out).mono ?_); rintro e wx ⟨vC, rfl, kx⟩; have KC := Lib.hid (bThen KO.out kx); have RLC := Lib.hid ((RLO.out.below kx).more kx.size); clear kx))
      | (go_at_call 29; first
        | ((with_reducible refine (HE.out.lg _ _ _ _ RLE3.out rfl).mono ?_); rintro e wx ⟨vE4, rfl, kx⟩; have KE := Lib.hid (bThen KE3.out kx); have RLE := Lib.hid ((RLE3.out.below kx).more kx.size); have cv1 := YX.conv_str (c := cE2) ((RBE3.out.below kx).more kx.size) rfl; have cv2 := YX.conv_str (c := c) ((HR.out.below KE.out).more KE.out.size) rfl; clear kx)
        | ((with_reducible refine (HE.out.cut _ KE2.out).mono ?_); rintro e wx ⟨vE3, rfl, kx⟩; have KE3 := Lib.hid (bThen KE2.out kx); have RLE3 := Lib.hid ((RLE2.out.below kx).more kx.size); have RBE3 := Lib.hid ((RBE2.out.below kx).more kx.size); clear kx)
        | ((with_reducible refine (HE.out.rd _ KC.out).mono ?_); rintro e wx ⟨AE1, cE1, rfl, rx, kx⟩; have RXE := Lib.hid rx; have KE1 := Lib.hid (bThen KC.out kx); have RLE1 := Lib.hid ((RLC.out.below kx).more kx.size); clear kx rx))
      | (go_at_call 13; ((with_reducible refine (HE.out.wr _ _ _ RXE.out).mono ?_); rintro e wx ⟨AE2, cE2, rfl, rx, kx⟩; have RBE2 := Lib.hid rx; have KE2 := Lib.hid (bThen KE1.out kx); have RLE2 := Lib.hid ((RLE1.out.below kx).more kx.size); clear kx rx)))
      go_ret
      exact ⟨rfl, KE.out⟩
    · go_wp2_with (first
      | (go_at_call 25; ((with_reducible refine (HO.out _ K0.out).mono ?_); rintro e wx ⟨vO, rfl, kx⟩; have KO := Lib.hid (bThen K0.out kx); have RLO := Lib.hid ((RL0.out.below kx).more kx.size); clear kx))
      | (go_at_call 27; first
        | ((with_reducible refine (HC.out.lg _ _ _ _ RLC3.out rfl).mono ?_); rintro e wx ⟨vC4, rfl, kx⟩; have KC := Lib.hid (bThen KC3.out kx); have RLC := Lib.hid ((RLC3.out.below kx).more kx.size); have cv1 := YX.conv_str (c := cC2) ((RBC3.out.below kx).more kx.size) rfl; have cv2 := YX.conv_str (c := c) ((HR.out.below KC.out).more KC.out.size) rfl; clear kx)
        | ((with_reducible refine (HC.out.cut _ KC2.out).mono ?_); rintro e wx ⟨vC3, rfl, kx⟩; have KC3 := Lib.hid (bThen KC2.out kx); have RLC3 := Lib.hid ((RLC2.out.below kx).more kx.size); have RBC3 := Lib.hid ((RBC2.out.below kx).more kx.size); clear kx)
        | ((with_reducible refine (HC.out.rd _ KO.out).mono ?_); rintro e wx ⟨AC1, cC1, rfl, rx, kx⟩; have RXC := Lib.hid rx; have KC1 := Lib.hid (bThen KO.out kx); have RLC1 := Lib.hid ((RLO.out.below kx).more kx.size); clear kx rx))
      | (go_at_call 11; ((with_reducible refine (HC.out.wr _ _ _ RXC.out).mono ?_); rintro e wx ⟨AC2, cC2, rfl, rx, kx⟩; have RBC2 := Lib.hid rx; have KC2 := Lib.hid (bThen KC1.out kx); have RLC2 := Lib.hid ((RLC1.out.below kx).more kx.size); clear kx rx))
      | (go_at_call 29; ((with_reducible refine (HE.out _ KC.out).mono ?_); rintro e wx ⟨vE, rfl, kx⟩; have KE := Lib.hid (bThen KC.out kx); have RLE := Lib.hid ((RLC.out.below kx).more kx.size); clear kx)))
      go_ret
      exact ⟨rfl, KE.out⟩
    · go_wp2_with (first
      | (go_at_call 25; ((with_reducible refine (HO.out _ K0.out).mono ?_); rintro e wx ⟨vO, rfl, kx⟩; have KO := Lib.hid (bThen K0.out kx); have RLO := Lib.hid ((RL0.out.below kx).more kx.size); clear kx))
      | (go_at_call 27; first
        | ((with_reducible refine (HC.out.lg _ _ _ _ RLC3.out rfl).mono ?_); rintro e wx ⟨vC4, rfl, kx⟩; have KC := Lib.hid (bThen KC3.out kx); have RLC := Lib.hid ((RLC3.out.below kx).more kx.size); have cv1 := YX.conv_str (c := cC2) ((RBC3.out.below kx).more kx.size) rfl; have cv2 := YX.conv_str (c := c) ((HR.out.below KC.out).more KC.out.size) rfl; clear kx)
        | ((with_reducible refine (HC.out.cut _ KC2.out).mono ?_); rintro e wx ⟨vC3, rfl, kx⟩; have KC3 := Lib.hid (bThen KC2.out kx); have RLC3 := Lib.hid ((RLC2.out.below kx).more kx.size); have RBC3 := Lib.hid ((RBC2.out.below kx).more kx.size); clear kx)
        | ((with_reducible refine (HC.out.rd _ KO.out).mono ?_); rintro e wx ⟨AC1, cC1, rfl, rx, kx⟩; have RXC := Lib.hid rx; have KC1 := Lib.hid (bThen KO.out kx); have RLC1 := Lib.hid ((RLO.out.below kx).more kx.size); clear kx rx))
      | (go_at_call 11; ((with_reducible refine (HC.out.wr _ _ _ RXC.out).mono ?_); rintro e wx ⟨AC2, cC2, rfl, rx, kx⟩; have RBC2 := Lib.hid rx; have KC2 := Lib.hid (bThen KC1.out kx); have RLC2 := Lib.hid ((RLC1.out.below kx).more kx.size); clear kx rx))
      | (go_at_call 29; first
        | ((with_reducible refine (HE.out.lg _ _ _ _ RLE3.out rfl).mono ?_); rintro e wx ⟨vE4, rfl, kx⟩; have KE := Lib.hid (bThen KE3.out kx); have RLE := Lib.hid ((RLE3.out.below kx).more kx.size); have cv1 := YX.conv_str (c := cE2) ((RBE3.out.below kx).more kx.size) rfl; have cv2 := YX.conv_str (c := c) ((HR.out.below KE.out).more KE.out.size) rfl; clear kx)
        | ((with_reducible refine (HE.out.cut _ KE2.out).mono ?_); rintro e wx ⟨vE3, rfl, kx⟩; have KE3 := Lib.hid (bThen KE2.out kx); have RLE3 := Lib.hid ((RLE2.out.below kx).more kx.size); have RBE3 := Lib.hid ((RBE2.out.below kx).more kx.size); clear kx)
        | ((with_reducible refine (HE.out.rd _ KC.out).mono ?_); rintro e wx ⟨AE1, cE1, rfl, rx, kx⟩; have RXE := Lib.hid rx; have KE1 := Lib.hid (bThen KC.out kx); have RLE1 := Lib.hid ((RLC.out.below kx).more kx.size); clear kx rx))
      | (go_at_call 13; ((with_reducible refine (HE.out.wr _ _ _ RXE.out).mono ?_); rintro e wx ⟨AE2, cE2, rfl, rx, kx⟩; have RBE2 := Lib.hid rx; have KE2 := Lib.hid (bThen KE1.out kx); have RLE2 := Lib.hid ((RLE1.out.below kx).more kx.size); clear kx rx)))
      go_ret
      exact ⟨rfl, KE.out⟩
    · go_wp2_with (first
      | (go_at_call 25; first
        | ((with_reducible refine (HO.out.lg _ _ _ _ RLO3.out rfl).mono ?_); rintro e wx ⟨vO4, rfl, kx⟩; have KO := Lib.hid (bThen KO3.out kx); have RLO := Lib.hid ((RLO3.out.below kx).more kx.size); have cv1 := YX.conv_str (c := cO2) ((RBO3.out.below kx).more kx.size) rfl; have cv2 := YX.conv_str (c := c) ((HR.out.below KO.out).more KO.out.size) rfl; clear kx)
        | ((with_reducible refine (HO.out.cut _ KO2.out).mono ?_); rintro e wx ⟨vO3, rfl, kx⟩; have KO3 := Lib.hid (bThen KO2.out kx); have RLO3 := Lib.hid ((RLO2.out.below kx).more kx.size); have RBO3 := Lib.hid ((RBO2.out.below kx).more kx.size); clear kx)
        | ((with_reducible refine (HO.out.rd _ K0.out).mono ?_); rintro e wx ⟨AO1, cO1, rfl, rx, kx⟩; have RXO := Lib.hid rx; have KO1 := Lib.hid (bThen K0.out kx); have RLO1 := Lib.hid ((RL0.out.below kx).more kx.size); clear kx rx))
      | (go_at_call 9; ((with_reducible refine (HO.out.wr _ _ _ RXO.out).mono ?_); rintro e wx ⟨AO2, cO2, rfl, rx, kx⟩; have RBO2 := Lib.hid rx; have KO2 := Lib.hid (bThen KO1.out kx); have RLO2 := Lib.hid ((RLO1.out.below kx).more kx.size); clear kx rx))
      | (go_at_call 27; ((with_reducible refine (HC.out _ KO.out).mono ?_); rintro e wx ⟨vC, rfl, kx⟩; have KC := Lib.hid (bThen KO.out kx); have RLC := Lib.hid ((RLO.out.below kx).more kx.size); clear kx))
      | (go_at_call 29; ((with_reducible refine (HE.out _ KC.out).mono ?_); rintro e wx ⟨vE, rfl, kx⟩; have KE := Lib.hid (bThen KC.out kx); have RLE := Lib.hid ((RLC.out.below kx).more kx.size); clear kx)))
      go_ret
      exact ⟨rfl, KE.out⟩
    · go_wp2_with (first
      | (go_at_call 25; first
        | ((with_reducible refine (HO.out.lg _ _ _ _ RLO3.out rfl).mono ?_); rintro e wx ⟨vO4, rfl, kx⟩; have KO := Lib.hid (bThen KO3.out kx); have RLO := Lib.hid ((RLO3.out.below kx).more kx.size); have cv1 := YX.conv_str (c := cO2) ((RBO3.out.below kx).more kx.size) rfl; have cv2 := YX.conv_str (c := c) ((HR.out.below KO.out).more KO.out.size) rfl; clear kx)
        | ((with_reducible refine (HO.out.cut _ KO2.out).mono ?_); rintro e wx ⟨vO3, rfl, kx⟩; have KO3 := Lib.hid (bThen KO2.out kx); have RLO3 := Lib.hid ((RLO2.out.below kx).more kx.size); have RBO3 := Lib.hid ((RBO2.out.below kx).more kx.size); clear kx)
        | ((with_reducible refine (HO.out.rd _ K0.out).mono ?_); rintro e wx ⟨AO1, cO1, rfl, rx, kx⟩; have RXO := Lib.hid rx; have KO1 := Lib.hid (bThen K0.out kx); have RLO1 := Lib.hid ((RL0.out.below kx).more kx.size); clear kx rx))
      | (go_at_call 9; ((with_reducible refine (HO.out.wr _ _ _ RXO.out).mono ?_); rintro e wx ⟨AO2, cO2, rfl, rx, kx⟩; have RBO2 := Lib.hid rx; have KO2 := Lib.hid (bThen KO1.out kx); have RLO2 := Lib.hid ((RLO1.out.below kx).more kx.size); clear kx rx))
      | (go_at_call 27; ((with_reducible refine (HC.out _ KO.out).mono ?_); rintro e wx ⟨vC, rfl, kx⟩; have KC := Lib.hid (bThen KO.out kx); have RLC := Lib.hid ((RLO.out.below kx).more kx.size); clear kx))
      | (go_at_call 29; first
        | ((with_reducible refine (HE.out.lg _ _ _ _ RLE3.out rfl).mono ?_); rintro e wx ⟨vE4, rfl, kx⟩; have KE := Lib.hid (bThen KE3.out kx); have RLE := Lib.hid ((RLE3.out.below kx).more kx.size); have cv1 := YX.conv_str (c := cE2) ((RBE3.out.below kx).more kx.size) rfl; have cv2 := YX.conv_str (c := c) ((HR.out.below KE.out).more KE.out.size) rfl; clear kx)
        | ((with_reducible refine (HE.out.cut _ KE2.out).mono ?_); rintro e wx ⟨vE3, rfl, kx⟩; have KE3 := Lib.hid (bThen KE2.out kx); have RLE3 := Lib.hid ((RLE2.out.below kx).more kx.size); have RBE3 := Lib.hid ((RBE2.out.below kx).more kx.size); clear kx)
        | ((with_reducible refine (HE.out.rd _ KC.out).mono ?_); rintro e wx ⟨AE1, cE1, rfl, rx, kx⟩; have RXE := Lib.hid rx; have KE1 := Lib.hid (bThen KC.out kx); have RLE1 := Lib.hid ((RLC.out.below kx).more kx.size); clear kx rx))
      | (go_at_call 13; ((with_reducible refine (HE.out.wr _ _ _ RXE.out).mono ?_); rintro e wx ⟨AE2, cE2, rfl, rx, kx⟩; have RBE2 := Lib.hid rx; have KE2 := Lib.hid (bThen KE1.out kx); have RLE2 := Lib.hid ((RLE1.out.below kx).more kx.size); clear kx rx)))
      go_ret
      exact ⟨rfl, KE.out⟩
    · go_wp2_with (first
      | (go_at_call 25; first
        | ((with_reducible refine (HO.out.lg _ _ _ _ RLO3.out rfl).mono ?_); rintro e wx ⟨vO4, rfl, kx⟩; have KO := Lib.hid (bThen KO3.out kx); have RLO := Lib.hid ((RLO3.out.below kx).more kx.size); have cv1 := YX.conv_str (c := cO2) ((RBO3.out.below kx).more kx.size) rfl; have cv2 := YX.conv_str (c := c) ((HR.out.below KO.out).more KO.out.size) rfl; clear kx)
        | ((with_reducible refine (HO.out.cut _ KO2.out).mono ?_); rintro e wx ⟨vO3, rfl, kx⟩; have KO3 := Lib.hid (bThen KO2.out kx); have RLO3 := Lib.hid ((RLO2.out.below kx).more kx.size); have RBO3 := Lib.hid ((RBO2.out.below kx).more kx.size); clear kx)
        | ((with_reducible refine (HO.out.rd _ K0.out).mono ?_); rintro e wx ⟨AO1, cO1, rfl, rx, kx⟩; have RXO := Lib.hid rx; have KO1 := Lib.hid (bThen K0.out kx); have RLO1 := Lib.hid ((RL0.out.below kx).more kx.size); clear kx rx))
      | (go_at_call 9; ((with_reducible refine (HO.out.wr _ _ _ RXO.out).mono ?_); rintro e wx ⟨AO2, cO2, rfl, rx, kx⟩; have RBO2 := Lib.hid rx; have KO2 := Lib.hid (bThen KO1.out kx); have RLO2 := Lib.hid ((RLO1.out.below kx).more kx.size); clear kx rx))
      | (go_at_call 27; first
        | ((with_reducible refine (HC.out.lg _ _ _ _ RLC3.out rfl).mono ?_); rintro e wx ⟨vC4, rfl, kx⟩; have KC := Lib.hid (bThen KC3.out kx); have RLC := Lib.hid ((RLC3.out.below kx).more kx.size); have cv1 := YX.conv_str (c := cC2) ((RBC3.out.below kx).more kx.size) rfl; have cv2 := YX.conv_str (c := c) ((HR.out.below KC.out).more KC.out.size) rfl; clear kx)
        | ((with_reducible refine (HC.out.cut _ KC2.out).mono ?_); rintro e wx ⟨vC3, rfl, kx⟩; have KC3 := Lib.hid (bThen KC2.out kx); have RLC3 := Lib.hid ((RLC2.out.below kx).more kx.size); have RBC3 := Lib.hid ((RBC2.out.below kx).more kx.size); clear kx)
        | ((with_reducible refine (HC.out.rd _ KO.out).mono ?_); rintro e wx ⟨AC1, cC1, rfl, rx, kx⟩; have RXC := Lib.hid rx; have KC1 := Lib.hid (bThen KO.out kx); have RLC1 := Lib.hid ((RLO.out.below kx).more kx.size); clear kx rx))
      | (go_at_call 11; ((with_reducible refine (HC.out.wr _ _ _ RXC.out).mono ?_); rintro e wx ⟨AC2, cC2, rfl, rx, kx⟩; have RBC2 := Lib.hid rx; have KC2 := Lib.hid (bThen KC1.out kx); have RLC2 := Lib.hid ((RLC1.out.below kx).more kx.size); clear kx rx))
      | (go_at_call 29; ((with_reducible refine (HE.out _ KC.out).mono ?_); rintro e wx ⟨vE, rfl, kx⟩; have KE := Lib.hid (bThen KC.out kx); have RLE := Lib.hid ((RLC.out.below kx).more kx.size); clear kx)))
      go_ret
      exact ⟨rfl, KE.out⟩
    · go_wp2_with (first
      | (go_at_call 25; first
        | ((with_reducible refine (HO.out.lg _ _ _ _ RLO3.out rfl).mono ?_); rintro e wx ⟨vO4, rfl, kx⟩; have KO := Lib.hid (bThen KO3.out kx); have RLO := Lib.hid ((RLO3.out.below kx).more kx.size); have cv1 := YX.conv_str (c := cO2) ((RBO3.out.below kx).more kx.size) rfl; have cv2 := YX.conv_str (c := c) ((HR.out.below KO.out).more KO.out.size) rfl; clear kx)
        | ((with_reducible refine (HO.out.cut _ KO2.out).mono ?_); rintro e wx ⟨vO3, rfl, kx⟩; have KO3 := Lib.hid (bThen KO2.out kx); have RLO3 := Lib.hid ((RLO2.out.below kx).more kx.size); have RBO3 := Lib.hid ((RBO2.out.below kx).more kx.size); clear kx)
        | ((with_reducible refine (HO.out.rd _ K0.out).mono ?_); rintro e wx ⟨AO1, cO1, rfl, rx, kx⟩; have RXO := Lib.hid rx; have KO1 := Lib.hid (bThen K0.out kx); have RLO1 := Lib.hid ((RL0.out.below kx).more kx.size); clear kx rx))
      | (go_at_call 9; ((with_reducible refine (HO.out.wr _ _ _ RXO.out).mono ?_); rintro e wx ⟨AO2, cO2, rfl, rx, kx⟩; have RBO2 := Lib.hid rx; have KO2 := Lib.hid (bThen KO1.out kx); have RLO2 := Lib.hid ((RLO1.out.below kx).more kx.size); clear kx rx))
      | (go_at_call 27; first
        | ((with_reducible refine (HC.out.lg _ _ _ _ RLC3.out rfl).mono ?_); rintro e wx ⟨vC4, rfl, kx⟩; have KC := Lib.hid (bThen KC3.out kx); have RLC := Lib.hid ((RLC3.out.below kx).more kx.size); have cv1 := YX.conv_str (c := cC2) ((RBC3.out.below kx).more kx.size) rfl; have cv2 := YX.conv_str (c := c) ((HR.out.below KC.out).more KC.out.size) rfl; clear kx)
        | ((with_reducible refine (HC.out.cut _ KC2.out).mono ?_); rintro e wx ⟨vC3, rfl, kx⟩; have KC3 := Lib.hid (bThen KC2.out kx); have RLC3 := Lib.hid ((RLC2.out.below kx).more kx.size); have RBC3 := Lib.hid ((RBC2.out.below kx).more kx.size); clear kx)
        | ((with_reducible refine (HC.out.rd _ KO.out).mono ?_); rintro e wx ⟨AC1, cC1, rfl, rx, kx⟩; have RXC := Lib.hid rx; have KC1 := Lib.hid (bThen KO.out kx); have RLC1 := Lib.hid ((RLO.out.below kx).more kx.size); clear kx rx))
      | (go_at_call 11; ((with_reducible refine (HC.out.wr _ _ _ RXC.out).mono ?_); rintro e wx ⟨AC2, cC2, rfl, rx, kx⟩; have RBC2 := Lib.hid rx; have KC2 := Lib.hid (bThen KC1.out kx); have RLC2 := Lib.hid ((RLC1.out.below kx).more kx.size); clear kx rx))
      | (go_at_call 29; first
        | ((with_reducible refine (HE.out.lg _ _ _ _ RLE3.out rfl).mono ?_); rintro e wx ⟨vE4, rfl, kx⟩; have KE := Lib.hid (bThen KE3.out kx); have RLE := Lib.hid ((RLE3.out.below kx).more kx.size); have cv1 := YX.conv_str (c := cE2) ((RBE3.out.below kx).more kx.size) rfl; have cv2 := YX.conv_str (c := c) ((HR.out.below KE.out).more KE.out.size) rfl; clear kx)
        | ((with_reducible refine (HE.out.cut _ KE2.out).mono ?_); rintro e wx ⟨vE3, rfl, kx⟩; have KE3 := Lib.hid (bThen KE2.out kx); have RLE3 := Lib.hid ((RLE2.out.below kx).more kx.size); have RBE3 := Lib.hid ((RBE2.out.below kx).more kx.size); clear kx)
        | ((with_reducible refine (HE.out.rd _ KC.out).mono ?_); rintro e wx ⟨AE1, cE1, rfl, rx, kx⟩; have RXE := Lib.hid rx; have KE1 := Lib.hid (bThen KC.out kx); have RLE1 := Lib.hid ((RLC.out.below kx).more kx.size); clear kx rx))
      | (go_at_call 13; ((with_reducible refine (HE.out.wr _ _ _ RXE.out).mono ?_); rintro e wx ⟨AE2, cE2, rfl, rx, kx⟩; have RBE2 := Lib.hid rx; have KE2 := Lib.hid (bThen KE1.out kx); have RLE2 := Lib.hid ((RLE1.out.below kx).more kx.size); clear kx rx)))
      go_ret
      exact ⟨rfl, KE.out⟩
theorem one_walk8 (A : Option Addr) (c : Nat) (b : Bs) (i : Int) (e : Nat) (he : e ≤ 255) (w : World) (h : RdK u8K w w.heap.size A b) (hA : A = none → c = 0) (hc : b.length ≤ c) (hm : b.length ≤ maxLen) :
    Calls Try.prog 6 #[.slice A b.length c, .int .i64 i, .int .u8 (e : Int)] w fun e w' => e = .returned (.bool true) ∧ Below w.heap.size w w' := by
  have := one_walk A c b i (UInt8.ofNat e) w h hA hc hm
  rw [YX.u8n (by omega)] at this
  exact this
--@body
end Go.Proofs.Ytejjlmdaalfenaa.PX
