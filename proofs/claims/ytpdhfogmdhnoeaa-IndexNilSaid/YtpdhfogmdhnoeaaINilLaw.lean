/-
  WALK: the law IndexNil.
-/
import Derived.Test.YtpdhfogmdhnoeaaINil
namespace Go.Proofs.Ytpdhfogmdhnoeaa.IX
open Go.RowKit HL
set_option maxRecDepth 100000
set_option linter.unusedVariables false
set_option linter.unusedSimpArgs false

set_option maxHeartbeats 4000000 in
theorem nil_walk (h : Bs) (k : Int) (w : World) : Calls Try.prog 5 #[str h, .int .i64 k] w fun e w' => e = .returned (.bool true) ∧ Below w.heap.size w w' := by
  by_cases hl : 100 < h.length
  · have i1 : (100 : Int) < h.length := by omega
    go_enter Try.func5, Try.ntmps5
    go_wp2
    go_ret
    exact ⟨rfl, Below.refl _ _⟩
  have i1 : ¬ (100 : Int) < h.length := by omega
  have hz := zero_ix
  go_enter Try.func5, Try.ntmps5
  go_wp2
  have m1 := (AtC.new w #[.pointer none, .slice none 0 0] 52).al (.cells #[.pointer none, ptr w.heap.size] 24)
  have m2 := AtC.newAt (w := w.alloc (.cells #[.pointer none, .slice none 0 0] 52)) (B := w.heap.size + 1) (C := #[.pointer none, ptr w.heap.size]) (T := 24) (by simp)
  have hb := ((Below.refl w.heap.size w).alloc (Nat.le_refl _) (.cells #[.pointer none, .slice none 0 0] 52)).alloc (by simp) (.cells #[.pointer none, ptr w.heap.size] 24)
  have M1 := Lib.hid m1
  have M2 := Lib.hid m2
  have HB := Lib.hid hb
  clear m1 m2 hb
  generalize (w.alloc (.cells #[.pointer none, .slice none 0 0] 52)).alloc (.cells #[.pointer none, ptr w.heap.size] 24) = w2 at *
  go_loopw [7] (fun i wr => ∃ n : Nat, i = .int .i64 n ∧ n ≤ 2 ∧ Below w2.heap.size w2 wr) (fun i _ => 2 - (intOf i).toNat)
  case atStart => exact ⟨0, rfl, by omega, Below.refl _ _⟩
  case round =>
    obtain ⟨n, rfl, hn, hb1⟩ := hrel
    have HB1 := Lib.hid hb1
    by_cases h0 : n < 2
    · obtain ⟨v, HV, HU⟩ : ∃ v, (#[.pointer none, ptr w.heap.size] : Array Value)[n]? = some v ∧ Unm wr v := by
        rcases (show n = 0 ∨ n = 1 by omega) with rfl | rfl
        · exact ⟨_, rfl, .inl rfl⟩
        · exact ⟨_, rfl, .inr ⟨_, rfl, ((M1.out.then hb1).c 0), (M1.out.then hb1).lt⟩⟩
      have i1 : (n : Int) < 2 := by omega
      have x0 := ((M2.out.then hb1).c n).trans HV
      have U := Lib.hid (fun W (q : Below wr.heap.size wr W) => HU.then q)
      have X := Lib.hid (fun W (q : Below wr.heap.size wr W) => ((M2.out.then (bThen hb1 q)).c n).trans HV)
      clear HV HU hb1
      have hc : Below wr.heap.size wr wr := Below.refl _ _
      go_wp2_with (first
        | (go_at_call 11; ((with_reducible refine (take_no v h _ (U.out _ hc)).mono ?_); rintro e w5 ⟨rfl, k5⟩; replace hc := bThen hc k5; have x1 := X.out _ hc))
        | (go_at_call 22; ((with_reducible refine (find_no v h _ (U.out _ hc)).mono ?_); rintro e w6 ⟨rfl, k5⟩; replace hc := bThen hc k5; have x2 := X.out _ hc))
        | (go_at_call 23; ((with_reducible refine (at_no v k _ (U.out _ hc)).mono ?_); rintro e w5 ⟨rfl, rfl⟩))
        | (go_at_call 24; ((with_reducible refine (lawFrom_no v h _ (U.out _ hc)).mono ?_); rintro e w7 ⟨A7, c7, v7, rfl, k5⟩; replace hc := bThen hc k5; have x3 := X.out _ hc))
        | (go_at_call 13; ((with_reducible refine (put_un v h k _ (U.out _ hc)).mono ?_); rintro e w8 ⟨rfl, k5⟩; replace hc := bThen hc k5; have x4 := X.out _ hc))
        | (go_at_call 25; ((with_reducible refine (place_no v h _ (U.out _ hc)).mono ?_); rintro e w9 ⟨rfl, k5⟩; replace hc := bThen hc k5; have x5 := X.out _ hc))
        | (go_at_call 21; ((with_reducible refine (many_no v _ (U.out _ hc)).mono ?_); rintro e w5 ⟨rfl, rfl⟩))
        | (go_at_call 19; ((with_reducible refine (all_no v _ (U.out _ hc)).mono ?_); rintro e w10 ⟨A8, c8, rfl, k5⟩; replace hc := bThen hc k5; have x6 := X.out _ hc)))
      go_roundw
      case rel => exact ⟨n + 1, by go_num, by omega, bThen HB1.out hc⟩
      case measure => simp [intOf]; omega
    · have e : n = 2 := by omega
      subst e
      go_wp2_with (go_at_call 17; ((with_reducible refine (copy_no _).mono ?_); rintro e w5 ⟨rfl, rfl⟩))
      go_ret
      exact ⟨rfl, HB.out.trans (HB1.out.mono HB.out.size)⟩
end Go.Proofs.Ytpdhfogmdhnoeaa.IX
