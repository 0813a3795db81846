/-
  WALK: the chapter's examples ('awake'): true, and nothing that was there is written.
-/
import Derived.Test.YtlbeaofnolaooaaHParse2
namespace Go.Proofs.Ytlbeaofnolaooaa
open Go.RowKit
set_option maxRecDepth 100000
set_option linter.unusedVariables false
set_option linter.unusedSimpArgs false

def mayC (s : ByteArray) : Bool :=
  decide (1 ≤ s.size) && decide (s.size ≤ 16) && ltrI (bt s 0) && (List.range s.size).all (fun k => latI (bt s k)) && (List.range s.size).all (fun k => decide (k + 1 < s.size → ¬ (bt s k = 46 ∧ bt s (k + 1) = 46))) && decide (bt s (s.size - 1) ≠ 46)
theorem mayB_c (s : ByteArray) : mayB s = mayC s := by
  rw [Bool.eq_iff_iff, mayB_iff]
  unfold mayC MayP
  simp only [Bool.and_eq_true, decide_eq_true_eq, List.all_eq_true, List.mem_range]
  constructor
  · rintro ⟨a, b, c, d, e, f⟩
    exact ⟨⟨⟨⟨⟨a, b⟩, c⟩, d⟩, fun k _ => e k⟩, f⟩
  · rintro ⟨⟨⟨⟨⟨a, b⟩, c⟩, d⟩, e⟩, f⟩
    exact ⟨a, b, c, d, fun k hk => e k (by omega) hk, f⟩

theorem Strs.alloc {w : World} {B : Nat} {A : Option Addr} {xs : List (List UInt8)} (h : Strs w B A xs) (hB : B ≤ w.heap.size) (o : Obj) : Strs (w.alloc o) B A xs :=
  h.keep fun b o' hb => World.cell?_of_block (a := ⟨b, o', none⟩) (Below.heap_alloc w o b (Nat.lt_of_lt_of_le hb hB))
theorem strs_new (w : World) (xs : List Bs) (cs : Array Value) (h : cs = (xs.map str).toArray) : Strs (w.alloc (.cells cs 9)) (w.heap.size + 1) (some ⟨w.heap.size, 0, none⟩) xs := by
  subst h
  refine .inr ⟨w.heap.size, 0, rfl, by omega, fun j x hx => ?_⟩
  rw [World.cell?_alloc_at _ _ _ _ rfl]
  simp [hx]

theorem same_len (A1 A2 : Option Addr) (c1 c2 n m : Nat) (xs ys : List Bs) (w : World) (B : Nat) (h1 : Strs w B A1 xs) (h2 : Strs w B A2 ys) (hn : xs.length = n) (hm : ys.length = m) (hn1 : n ≤ maxLen) (hm1 : m ≤ maxLen) :
    Calls Try.prog 14 #[.slice A1 n c1, .slice A2 m c2] w fun e w' => e = .returned (.bool (sameB xs ys)) ∧ Dr w w' := by
  subst hn hm
  exact same_any A1 A2 c1 c2 xs ys w B h1 h2 hn1 hm1

theorem ex_merge (A1 A2 : Option Addr) (c1 c2 : Nat) (w : World) (h1 : Strs w w.heap.size A1 [[98], [97]]) (h2 : Strs w w.heap.size A2 [[99], [97]]) :
    Calls Try.prog 19 #[.slice A1 2 c1, .slice A2 2 c2] w fun e w' => ∃ A c, e = .returned (.slice A 3 c) ∧ Strs w' w'.heap.size A [[97], [98], [99]] ∧ Below w.heap.size w w' := by
  have hs : sortU ([[98], [97]] ++ [[99], [97]]) = [[97], [98], [99]] := (sortU_eq (a := [[97], [98], [99]]) (by decide) (fun x => by
    simp only [List.cons_append, List.nil_append, List.mem_cons, List.not_mem_nil, or_false]
    constructor
    · rintro (rfl | rfl | rfl) <;> simp
    · rintro (rfl | rfl | rfl | rfl) <;> simp)).symm
  refine (merge_any A1 A2 c1 c2 [[98], [97]] [[99], [97]] w h1 h2 (by decide) (by decide)).mono ?_
  rintro e w' ⟨g, cap, rfl, _, hr, hb⟩
  rw [hs] at hr ⊢
  exact ⟨_, _, rfl, hr.strs, hb⟩

theorem ex_parts (w : World) : Calls Try.prog 15 #[.string ⟨#[109, 100, 115, 48, 46, 118, 109, 100, 45, 49]⟩] w fun e w' => ∃ A c, e = .returned (.slice A 2 c) ∧ Strs w' w'.heap.size A [[109, 100, 115, 48], [118, 109, 100, 45, 49]] ∧ Below w.heap.size w w' := by
  have hm : mayB ⟨#[109, 100, 115, 48, 46, 118, 109, 100, 45, 49]⟩ = true := by rw [mayB_c]; decide +kernel
  have hs : splitL ⟨#[109, 100, 115, 48, 46, 118, 109, 100, 45, 49]⟩ 46 = [[109, 100, 115, 48], [118, 109, 100, 45, 49]] := by decide +kernel
  refine (parts_t _ w (by decide) hm).mono ?_
  rintro e w' ⟨v, rfl, ho, hb⟩
  rw [hs] at ho
  obtain ⟨A, c, rfl, hst, _, _⟩ := ho.form
  exact ⟨A, c, rfl, hst, hb⟩

theorem ex_parse1 (w : World) : Calls Try.prog 29 #[.string ⟨#[98, 32, 97]⟩] w fun e w' => ∃ A c, e = .returned (.tuple #[.slice A 2 c, .int .i64 0]) ∧ Strs w' w'.heap.size A [[98], [97]] ∧ Below w.heap.size w w' := by
  have hs : splitL ⟨#[98, 32, 97]⟩ 32 = [[98], [97]] := by decide +kernel
  have ho : okT (splitL ⟨#[98, 32, 97]⟩ 32) = true := by
    rw [hs]
    refine okT_t fun x hx => ?_
    simp only [List.mem_cons, List.not_mem_nil, or_false] at hx
    unfold mayS
    rw [mayB_c]
    rcases hx with rfl | rfl <;> decide +kernel
  refine (parse_ok _ w (by decide) (by decide) ho).mono ?_
  rintro e w' ⟨v, rfl, ho, hb⟩
  rw [hs] at ho
  obtain ⟨A, c, rfl, hst, _, _⟩ := ho.form
  exact ⟨A, c, rfl, hst, hb⟩

theorem ex_parse2 (w : World) : Calls Try.prog 29 #[.string ⟨#[98, 32, 32, 97]⟩] w fun e w' => e = .returned (.tuple #[.slice none 0 0, .int .i64 10]) ∧ Below w.heap.size w w' := by
  have hs : splitL ⟨#[98, 32, 32, 97]⟩ 32 = [[98], [], [97]] := by decide +kernel
  have ho : okT (splitL ⟨#[98, 32, 32, 97]⟩ 32) = false := by
    rw [hs]
    refine okT_f (x := []) (by simp) ?_
    unfold mayS
    rw [mayB_c]
    decide +kernel
  exact parse_bad _ w (by decide) (by decide) ho

theorem ex_text (w : World) : Calls Try.prog 27 #[.slice none 0 0] w fun e w' => e = .returned (.tuple #[.string ⟨#[45]⟩, .int .i64 0]) ∧ Below w.heap.size w w' := by
  refine (text_any none 0 [] w (.inl rfl) (Nat.le_refl _) (by decide) (fun x hx => by cases hx)).mono ?_
  rintro e w' ⟨rfl, hb⟩
  exact ⟨by rw [textR_t (okT_t (fun x hx => by cases hx)) (s := [45]) (by simp [textS])], hb⟩
set_option maxHeartbeats 2000000 in
theorem awake_any (w : World) : Calls Try.prog 31 #[] w fun e w' => e = .returned (.bool true) ∧ Below w.heap.size w w' := by
  have s1 : sameB [[109, 100, 115, 48], [118, 109, 100, 45, 49]] [[109, 100, 115, 48], [118, 109, 100, 45, 49]] = true := sameB_t rfl
  have s2 : sameB [[97], [98], [99]] [[97], [98], [99]] = true := sameB_t rfl
  have s3 : sameB [[98], [97]] [[98], [97]] = true := sameB_t rfl
  have m1 : mayB ⟨#[97, 46]⟩ = false := by rw [mayB_c]; decide +kernel
  have m2 : mayB ⟨#[97, 46, 46, 98]⟩ = false := by rw [mayB_c]; decide +kernel
  have m3 : mayB ⟨#[49, 97]⟩ = false := by rw [mayB_c]; decide +kernel
  have m4 : mayB ⟨#[65]⟩ = false := by rw [mayB_c]; decide +kernel
  have m5 : mayB ⟨#[97, 98, 99, 100, 101, 102, 103, 104, 105, 106, 107, 108, 109, 110, 111, 112, 113]⟩ = false := by rw [mayB_c]; decide +kernel
  have m6 : mayB ⟨#[97, 98, 99, 100, 101, 102, 103, 104, 105, 106, 107, 108, 109, 110, 111, 112]⟩ = true := by rw [mayB_c]; decide +kernel
  go_enter Try.func31, Try.ntmps31
  go_wp2_with fail
  refine (ex_parse1 _).mono ?_
  rintro e wa ⟨A1, k1, rfl, st1, b1⟩
  go_wp2_with fail
  refine (ex_parse2 _).mono ?_
  rintro e wb ⟨rfl, b2⟩
  go_wp2_with fail
  refine (ex_text _).mono ?_
  rintro e wc ⟨rfl, b3⟩
  go_wp2_with fail
  refine (ex_parts _).mono ?_
  rintro e wd ⟨A2, k2, rfl, st2, b4⟩
  go_wp2_with fail
  have hb := b1.trans ((b2.mono b1.size).trans ((b3.mono (Nat.le_trans b1.size b2.size)).trans (b4.mono (Nat.le_trans b1.size (Nat.le_trans b2.size b3.size)))))
  have ha := b2.trans ((b3.mono b2.size).trans (b4.mono (Nat.le_trans b2.size b3.size)))
  clear b1 b2 b3 b4
  refine (same_len A2 (some ⟨wd.heap.size, 0, none⟩) k2 2 2 2 [[109, 100, 115, 48], [118, 109, 100, 45, 49]] [[109, 100, 115, 48], [118, 109, 100, 45, 49]] _ (wd.heap.size + 1) ((st2.alloc (Nat.le_refl _) _).more (by omega)) (strs_new wd [[109, 100, 115, 48], [118, 109, 100, 45, 49]] _ rfl) rfl rfl (by decide) (by decide)).mono ?_
  rintro e we ⟨rfl, d1⟩
  have hb := (hb.alloc hb.size _).trans (d1.below _)
  have ha := (ha.alloc ha.size _).trans (d1.below _)
  clear d1 st2
  go_wp2_with (go_at_call 10; refine (may_any _ _ (by decide)).mono ?_; rintro e wf ⟨rfl, bf⟩; replace hb := hb.trans (bf.mono hb.size); replace ha := ha.trans (bf.mono ha.size); clear bf)
  have n1 := strs_new wf [[98], [97]] _ rfl
  have n2 := strs_new (wf.alloc (.cells #[.string ⟨#[98]⟩, .string ⟨#[97]⟩] 9)) [[99], [97]] _ rfl
  rw [World.size_alloc] at n2
  have n3 := n1.alloc (by simp) (.cells #[.string ⟨#[99]⟩, .string ⟨#[97]⟩] 9)
  refine (ex_merge _ _ _ _ _ (n3.more (by simp)) (n2.more (by simp))).mono ?_
  rintro e wh ⟨A3, k3, rfl, st3, b5⟩
  have hb := ((hb.alloc hb.size (.cells #[.string ⟨#[98]⟩, .string ⟨#[97]⟩] 9)).alloc (by have := hb.size; simp; omega) (.cells #[.string ⟨#[99]⟩, .string ⟨#[97]⟩] 9)).trans (b5.mono (by have := hb.size; simp; omega))
  have ha := ((ha.alloc ha.size (.cells #[.string ⟨#[98]⟩, .string ⟨#[97]⟩] 9)).alloc (by have := ha.size; simp; omega) (.cells #[.string ⟨#[99]⟩, .string ⟨#[97]⟩] 9)).trans (b5.mono (by have := ha.size; simp; omega))
  clear n1 n2 n3 b5
  go_wp2_with fail
  refine (same_len A3 (some ⟨wh.heap.size, 0, none⟩) k3 3 3 3 [[97], [98], [99]] [[97], [98], [99]] _ (wh.heap.size + 1) ((st3.alloc (Nat.le_refl _) _).more (by omega)) (strs_new wh [[97], [98], [99]] _ rfl) rfl rfl (by decide) (by decide)).mono ?_
  rintro e wi ⟨rfl, d2⟩
  have hb := (hb.alloc hb.size _).trans (d2.below _)
  have ha := (ha.alloc ha.size _).trans (d2.below _)
  clear d2 st3
  go_wp2_with fail
  refine (same_len A1 (some ⟨wi.heap.size, 0, none⟩) k1 2 2 2 [[98], [97]] [[98], [97]] _ (wi.heap.size + 1) (((st1.below ha).more ha.size).alloc (Nat.le_refl _) _ |>.more (by omega)) (strs_new wi [[98], [97]] _ rfl) rfl rfl (by decide) (by decide)).mono ?_
  rintro e wj ⟨rfl, d3⟩
  have hb := (hb.alloc hb.size _).trans (d3.below _)
  clear d3 st1 ha
  go_wp2
  go_ret
  exact ⟨rfl, hb⟩
end Go.Proofs.Ytlbeaofnolaooaa
