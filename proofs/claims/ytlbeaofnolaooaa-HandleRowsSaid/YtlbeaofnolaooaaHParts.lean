/-
  slices.Collect of an iterator; Parts.
-/
import Derived.Test.YtlbeaofnolaooaaHPieces
namespace Go.Proofs.Ytlbeaofnolaooaa
open Go.RowKit
set_option maxRecDepth 100000
set_option linter.unusedVariables false
set_option linter.unusedSimpArgs false

attribute [local go_sem] Oper.semAt_some

set_option maxHeartbeats 2000000 in
theorem appendSeq_in (F : Fence) (n : Nat) (h47 : F.fn 47) (hro : F.round = none) (hn : 3 ≤ n) (gf : Nat) (lb : Array Value) (hFg : F.fn gf) (eg : ∀ args w, (callFunc gf args).run Try.prog w = .ok (.enter gf args) w)
    (S Sp : List (List UInt8) → Prop) (N : Nat) (hN : N ≤ 1048576) (w : World) (hseq : SeqStopsK F (n - 1) Try.prog gf lb (fun x : List UInt8 => #[str x]) (Kept w.heap.size) S Sp N w) :
    CallsIn F n Try.prog 47 #[.slice none 0 0, .func (.func gf) #[] lb] w fun e W' => ∃ v xs, e = .returned v ∧ S xs ∧ OwnS W' w.heap.size v xs ∧ Below w.heap.size w W' := by
  have h1 : 1 ≤ n := by omega
  obtain ⟨i0, hi, hz0, hz1, hz2⟩ := info_parts info_str
  refine callsIn_of_wp_marks Try.func47 rfl h47 ?_ hro
  simp only [Try.ntmps47, List.size_toArray, List.length_cons, List.length_nil, Nat.reduceAdd, Nat.reduceSub, Array.replicate_succ, Array.replicate_zero, List.push_toArray, List.append_toArray, List.nil_append, List.cons_append]
  gi_wp2
  have bO := Boxed.new w 25 (.slice none 0 0)
  have hB0 : Below w.heap.size w (w.alloc (.cells #[.slice none 0 0] 25)) := (Below.refl _ w).alloc (Nat.le_refl _) _
  refine wpIn_rangeFunc_ownG hro h1 (gf := gf) (lb := lb) rfl hFg eg hseq Kept.t (Kept.b (by simp)) hB0 (fun _ => rfl)
    (fun pre W => (∃ v, Boxed W w.heap.size 25 v ∧ W.ownsRow w.heap.size 9 1 v pre.length (pre.map str) ∧ True) ∧ Below w.heap.size w W)
    (fun _ _ _ => False)
    (OwnFrom.and (Own.from (holdsRow_own w.heap.size w.heap.size 25 9 1 (fun pre : List (List UInt8) => pre.length) (fun pre => pre.map str) (fun pre v => True)) _) (ownFrom_below (Nat.le_refl _) (by simp)))
    (fun _ _ _ _ _ hs _ _ => hs)
    ⟨⟨_, bO, World.ownsRow_nil _ _ _ _, trivial⟩, hB0⟩
    (fun x => { tmps := #[.slice none 0 0, .func (.func gf) #[] lb, .pointer (some ⟨w.heap.size, 0, none⟩), undef, .slice none 0 0, str x, .func (.func gf) #[] lb, str x, undef, undef, undef, undef, undef], defers := [] }) ?assign ?body ?done ?stop
  case assign =>
    intro l x W K hK
    gi_wp2
    exact hK
  case body =>
    rintro l pre x W ⟨⟨v, hv, hrow, _⟩, hB⟩ hlt
    have hc := hv.cell
    gi_wp2_with (gi_at_builtin; refine wpListIn_append_own _ rfl _ _ 25 rfl w.heap.size 9 i0 (.string ByteArray.empty) 1 16 Try.underlying25 hi hz0 hz1 hz2 rfl (by decide) _ _ _ rfl (hrow.alloc _) ⟨W.heap.size, 0, none⟩ 1 1 [str x] rfl rfl (cell_one_new _ _ _) (by simp [Value.oneCell']) (by unfold maxLen; omega) (by omega) (by have := hB.size; simp; omega) ?_; intro v' w1 hown' hgrow _; obtain ⟨g', cap', rfl⟩ := ownsRow_succ hown'; obtain ⟨hv1, hv2, hr2, hk2, hb2⟩ := hv.appended (by decide) hrow hB.size (Nat.le_refl _) hown' hgrow; have hc1 := hv1.cell; have hf1 := hv1.frozen)
    exact ⟨hk2.from _, ⟨hb2, hk2.walks⟩, ⟨_, hv2, by simpa using hr2, trivial⟩, hB.trans hb2⟩
  case done =>
    rintro D ys W hD hS ⟨⟨v, hv, hrow, _⟩, hB⟩ hK
    have hc := hv.cell
    gi_wp2
    refine ⟨by simp, .inl ⟨_, _, rfl, run_takeDeferred hK, ?_⟩⟩
    exact ⟨_, results_tmp rfl _ _ _, v, ys, rfl, hS, ownsRow_putObj hrow _ hK rfl, hB.trans (belowK_b (w := w) (Nat.le_refl _) W D _ _ (by simp at hD; omega) hK rfl rfl)⟩
  case stop =>
    rintro D c pre W _ _ h _
    exact h.elim
theorem pieces_any (s : ByteArray) (c : Int) (w : World) :
    Calls Try.prog 38 #[.string s, .int .i32 c] w fun e w' => e = .returned (.func (.func 48) #[] #[.pointer (some ⟨w.heap.size, 0, none⟩), .pointer (some ⟨w.heap.size + 1, 0, none⟩)]) ∧ (w.alloc (.cells #[.string s] 9)).alloc (.cells #[.int .i32 c] 21) = w' :=
  callsIn_wide.1 (pieces_in Fence.wide 9 trivial rfl s c w)

theorem pieces_seq (Bs Bm : Nat) (s : ByteArray) (c : Int) (hc0 : 0 ≤ c) (hc : c < 128) (hs : s.size ≤ maxLen) (w : World) (hBs : Bs < w.heap.size) (hBm : Bm < w.heap.size)
    (hcs : w.cell? ⟨Bs, 0, none⟩ = some (.string s)) (hcm : w.cell? ⟨Bm, 0, none⟩ = some (.int .i32 c)) :
    SeqStopsK Fence.wide (9 - 1) Try.prog 48 #[.pointer (some ⟨Bs, 0, none⟩), .pointer (some ⟨Bm, 0, none⟩)] (fun x : List UInt8 => #[str x]) (Kept w.heap.size) (fun ys => ys = splitL s c) (fun pre => pre <+: splitL s c) (splitL s c).length w :=
  pieces_stops Fence.wide _ trivial rfl (by omega) Bs Bm w.heap.size s c hc0 hc hs w hBs hBm (Nat.le_refl _) hcs hcm

theorem collect_any (Bs Bm : Nat) (s : ByteArray) (c : Int) (hc0 : 0 ≤ c) (hc : c < 128) (hs : s.size ≤ 1000000) (w : World) (hBs : Bs < w.heap.size) (hBm : Bm < w.heap.size)
    (hcs : w.cell? ⟨Bs, 0, none⟩ = some (.string s)) (hcm : w.cell? ⟨Bm, 0, none⟩ = some (.int .i32 c)) :
    Calls Try.prog 37 #[.func (.func 48) #[] #[.pointer (some ⟨Bs, 0, none⟩), .pointer (some ⟨Bm, 0, none⟩)]] w fun e W' => ∃ v, e = .returned v ∧ OwnS W' w.heap.size v (splitL s c) ∧ Below w.heap.size w W' := by
  have hl := splitL_le s c
  have hap := callsIn_wide.1 (appendSeq_in Fence.wide 9 trivial rfl (by omega) 48 #[.pointer (some ⟨Bs, 0, none⟩), .pointer (some ⟨Bm, 0, none⟩)] trivial (enters_of Try.func48 (by kernel_rfl) rfl) _ _ _ (by omega) w (pieces_seq Bs Bm s c hc0 hc (by unfold maxLen; omega) w hBs hBm hcs hcm))
  have HA := Lib.hid hap
  clear hap hcs hcm
  go_enter Try.func37, Try.ntmps37
  go_wp2_with (go_at_call 47; refine HA.out.mono ?_; rintro e w' ⟨v, xs, rfl, rfl, ho, hb⟩)
  go_ret
  exact ⟨_, rfl, ho, hb⟩

theorem parts_f (s : ByteArray) (w : World) (hs : s.size ≤ maxLen) (h : mayB s = false) :
    Calls Try.prog 15 #[.string s] w fun e w' => e = .returned (.slice none 0 0) ∧ Below w.heap.size w w' := by
  go_enter Try.func15, Try.ntmps15
  go_wp2_with (first | (go_at_call 10; refine (may_any _ _ hs).mono ?_; rintro e w1 ⟨rfl, hb1⟩))
  go_ret
  exact ⟨rfl, hb1⟩

set_option maxHeartbeats 400000 in
theorem parts_t (s : ByteArray) (w : World) (hs : s.size ≤ 1000000) (h : mayB s = true) :
    Calls Try.prog 15 #[.string s] w fun e w' => ∃ v, e = .returned v ∧ OwnS w' w.heap.size v (splitL s 46) ∧ Below w.heap.size w w' := by
  have hsz : s.size ≤ maxLen := by unfold maxLen; omega
  go_enter Try.func15, Try.ntmps15
  go_wp2_with (first | (go_at_call 10; refine (may_any _ _ hsz).mono ?_; rintro e w1 ⟨rfl, hb1⟩) | (go_at_call 38; refine (pieces_any _ _ _).mono ?_; rintro e w2 ⟨rfl, rfl⟩))
  have c1 := collect_any w1.heap.size (w1.heap.size + 1) s 46 (by omega) (by omega) hs ((w1.alloc (.cells #[.string s] 9)).alloc (.cells #[.int .i32 46] 21)) (by simp; omega) (by simp) (by rw [World.cell?_alloc_past _ _ _ (by simp), World.cell?_alloc_at _ _ _ _ rfl]; rfl) (by rw [World.cell?_alloc_at _ _ _ _ (by simp)]; rfl)
  have C1 := Lib.hid c1
  clear c1
  go_wp2_with (go_at_call 37; refine C1.out.mono ?_; rintro e w3 ⟨v, rfl, ho, hb3⟩)
  go_ret
  have hb2 : Below w.heap.size w ((w1.alloc (.cells #[.string s] 9)).alloc (.cells #[.int .i32 46] 21)) := (hb1.alloc hb1.size _).alloc (by have := hb1.size; simp; omega) _
  refine ⟨_, rfl, ho.base hb2.size, hb2.trans (hb3.mono hb2.size)⟩

theorem same_nil (w : World) : Calls Try.prog 14 #[.slice none 0 0, .slice none 0 0] w fun e w' => e = .returned (.bool true) ∧ Dr w w' := by
  have h := same_any none none 0 0 [] [] w 0 (Strs.nil_ _ _ _) (Strs.nil_ _ _ _) (Nat.zero_le _) (Nat.zero_le _)
  rw [sameB_t rfl] at h
  exact h

/-! ### The law -/
set_option maxHeartbeats 1000000 in
theorem tells_walk (a0 : ByteArray) (a1 : ByteArray) (w0 : a0.size ≤ maxLen) (w1 : a1.size ≤ maxLen) (w : World) :
    Calls Try.prog 3 #[.string a0, .string a1] w fun e w' => e = .returned (.bool true) ∧ Below w.heap.size w w' := by
  have m0 := w0
  have m1 := w1
  unfold maxLen at m0 m1
  by_cases hl : 1000 < a0.size ∨ 1000 < a1.size
  · by_cases h1 : 1000 < a0.size
    · clear hl w0 w1
      go_enter Try.func3, Try.ntmps3
      go_wp2
      go_ret
      exact ⟨rfl, Below.refl _ _⟩
    · have h2 : 1000 < a1.size := by omega
      clear hl w0 w1
      go_enter Try.func3, Try.ntmps3
      go_wp2
      go_ret
      exact ⟨rfl, Below.refl _ _⟩
  · have h1 : a0.size ≤ 1000 := by omega
    have h2 : a1.size ≤ 1000 := by omega
    clear hl
    by_cases hm : mayB a0 = true
    · have hle := splitL_le a0 46
      have hsl : (splitL a0 46).length ≤ maxLen := by unfold maxLen; omega
      have hsame : sameB (splitL a0 46) (splitL a0 46) = true := sameB_t rfl
      go_enter Try.func3, Try.ntmps3
      go_wp2_with (first | (go_at_call 10; refine (may_any _ _ w0).mono ?_; rintro e wa ⟨rfl, ba⟩) | (go_at_call 11; refine (refMay_any _ _ w0).mono ?_; rintro e w' ⟨rfl, rfl⟩) | (go_at_call 12; refine (compare_any _ _ _).mono ?_; rintro e w' ⟨rfl, rfl⟩) | (go_at_call 13; refine (refCompare_any _ _ _ w0 w1).mono ?_; rintro e wb ⟨rfl, db⟩) | (go_at_call 15; refine (parts_t _ _ (by omega) hm).mono ?_; rintro e wc ⟨vc, rfl, oc, bc⟩; obtain ⟨Ac, cc, rfl, sc, gc⟩ := oc.form) | (go_at_call 16; refine (refParts_t _ _ (by omega) hm).mono ?_; rintro e wd ⟨vd, rfl, od, bd⟩; obtain ⟨Ad, cd, rfl, sd, gd⟩ := od.form) | (go_at_call 14; refine (same_any _ _ _ _ _ _ _ _ ((sc.below bd).more bd.size) sd hsl hsl).mono ?_; rintro e we ⟨rfl, de⟩))
      go_ret
      have b1 := ba.trans ((db.below w.heap.size).trans ((bc.mono (by have := ba.size; have := (db.below 0).size; omega)).trans ((bd.mono (by have := ba.size; have := (db.below 0).size; have := bc.size; omega)).trans (de.below _))))
      exact ⟨rfl, b1⟩
    · have hm : mayB a0 = false := by simpa using hm
      go_enter Try.func3, Try.ntmps3
      go_wp2_with (first | (go_at_call 10; refine (may_any _ _ w0).mono ?_; rintro e wa ⟨rfl, ba⟩) | (go_at_call 11; refine (refMay_any _ _ w0).mono ?_; rintro e w' ⟨rfl, rfl⟩) | (go_at_call 12; refine (compare_any _ _ _).mono ?_; rintro e w' ⟨rfl, rfl⟩) | (go_at_call 13; refine (refCompare_any _ _ _ w0 w1).mono ?_; rintro e wb ⟨rfl, db⟩) | (go_at_call 15; refine (parts_f _ _ w0 hm).mono ?_; rintro e wc ⟨rfl, bc⟩) | (go_at_call 16; refine (refParts_f _ _ w0 hm).mono ?_; rintro e wd ⟨rfl, rfl⟩) | (go_at_call 14; refine (same_nil _).mono ?_; rintro e we ⟨rfl, de⟩))
      go_ret
      have b1 := ba.trans ((db.below w.heap.size).trans ((bc.mono (by have := ba.size; have := (db.below 0).size; omega)).trans (de.below _)))
      exact ⟨rfl, b1⟩
end Go.Proofs.Ytlbeaofnolaooaa
