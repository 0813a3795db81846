/-
  WALK: the law TreeNil.
-/
import Derived.Test.YtenjpimmjpkjbaaDoorRNil
import Derived.Test.YtenjpimmjpkjbaaDoorRNilReg
import Derived.Deep.RegionHeld3
import Derived.Deep.CutRange
namespace Go.Proofs.YtenjpimmjpkjbaaDoor.TX
open Go.RowKit HL
open IX (ptr)
set_option maxRecDepth 100000
set_option linter.unusedVariables false
set_option linter.unusedSimpArgs false

theorem zero_0 : Tryd.zeroCells31[0]? = some (.pointer none) := by kernel_rfl
set_option maxHeartbeats 4000000 in
theorem nil_walk (o : Ob) (w : World) : Calls Tryd.prog 3 #[ob o] w fun e w' => e = .returned (.bool true) ∧ Below w.heap.size w w' := by
  have CL := Lib.hid (fun W => long_any o W)
  have hb : Below w.heap.size w w := Below.refl _ _
  cases hl : longB o with
  | true =>
    rw [hl] at CL
    go_enter Tryd.func3, Tryd.ntmps3
    go_wp2_with (go_at_call 8; ((with_reducible refine (CL.out _).mono ?_); rintro e w1 ⟨rfl, k1⟩; replace hb := bThen (bAl hb _) k1))
    go_ret
    exact ⟨rfl, hb⟩
  | false =>
    rw [hl] at CL
    clear hl
    have MO := Lib.hid (AtC.new w (obCells o) 23)
    go_enter Tryd.func3, Tryd.ntmps3
    go_wp2_with (go_at_call 8; ((with_reducible refine (CL.out _).mono ?_); rintro e w1 ⟨rfl, k1⟩; replace hb := bThen (bAl hb _) k1; have mO := MO.out.then k1))
    have M1 := Lib.hid ((AtC.new w1 Tryd.zeroCells31 31).al (.cells #[.pointer none, ptr w1.heap.size] 25))
    have M2 := Lib.hid (AtC.newAt (w := w1.alloc (.cells Tryd.zeroCells31 31)) (B := w1.heap.size + 1) (C := #[.pointer none, ptr w1.heap.size]) (T := 25) (by simp))
    have M0 := Lib.hid ((mO.al (.cells Tryd.zeroCells31 31)).al (.cells #[.pointer none, ptr w1.heap.size] 25))
    have HB := Lib.hid (bAl (bAl hb (.cells Tryd.zeroCells31 31)) (.cells #[.pointer none, ptr w1.heap.size] 25))
    clear mO hb MO
    generalize (w1.alloc (.cells Tryd.zeroCells31 31)).alloc (.cells #[.pointer none, ptr w1.heap.size] 25) = w2 at *
    go_loopw [5] (fun i wr => ∃ n : Nat, i = .int .i64 n ∧ n ≤ 2 ∧ Below w2.heap.size w2 wr) (fun i _ => 2 - (intOf i).toNat)
    case atStart => exact ⟨0, rfl, by omega, Below.refl _ _⟩
    case round =>
      obtain ⟨n, rfl, hn, hb1⟩ := hrel
      have HB1 := Lib.hid hb1
      by_cases h0 : n < 2
      · obtain ⟨p, HV, HU⟩ : ∃ p, (#[.pointer none, ptr w1.heap.size] : Array Value)[n]? = some (.pointer p) ∧ Unm wr (.pointer p) := by
          rcases (show n = 0 ∨ n = 1 by omega) with rfl | rfl
          · exact ⟨_, rfl, .inl rfl⟩
          · exact ⟨_, rfl, .inr ⟨_, rfl, ((M1.out.then hb1).c 0).trans zero_0, (M1.out.then hb1).lt⟩⟩
        have i1 : (n : Int) < 2 := by omega
        have x0 := ((M2.out.then hb1).c n).trans HV
        have U := Lib.hid (fun W (q : Below wr.heap.size wr W) => HU.then q)
        have X := Lib.hid (fun W (q : Below wr.heap.size wr W) => ((M2.out.then (bThen hb1 q)).c n).trans HV)
        have m0 := (M0.out.then hb1)
        have c0 := m0.c
        have f0 := m0.f
        have l0 := m0.lt
        clear HV HU hb1
        have hc : Below wr.heap.size wr wr := Below.refl _ _
        go_upto_region 8 with (fail)
        go_cut [6, 7] from 16 to 125 (fun s6 s7 W => s7 = .bool false ∧ Below wr.heap.size wr W)
        case first =>
          have hP : ∀ w', Below wr.heap.size wr w' → (w'.cell? ⟨w1.heap.size + 1, n, none⟩ = some (.pointer p) ∧ ∀ i, w'.cell? ⟨w.heap.size, i, none⟩ = (obCells o)[i]?) ∧ Below wr.heap.size wr w' := fun w' q => ⟨⟨X.out _ q, (m0.then q).c⟩, q⟩
          go_region_held3 (fun w' => (w'.cell? ⟨w1.heap.size + 1, n, none⟩ = some (.pointer p) ∧ ∀ i, w'.cell? ⟨w.heap.size, i, none⟩ = (obCells o)[i]?) ∧ Below wr.heap.size wr w')
            (first | with_reducible assumption | with_reducible exact hP _ hc.drew | with_reducible exact hP _ (bAl hc _).drew | with_reducible exact hP _ (bFill q5 (Nat.le_refl _) _ _ _ _ _ _ _ _ _ _ _ _ _ _) | with_reducible exact hP _ (bAl (‹_ ∧ Below wr.heap.size wr _›).2 _) | with_reducible exact hP _ q5 | with_reducible exact hP _ (bAl q5 _))
            ((go_at_call 9; ((with_reducible refine (at_no (.pointer p) _ _ (U.out _ (‹_ ∧ Below wr.heap.size wr _›).2)).mono ?_); rintro e w5 ⟨rfl, k5⟩; have q5 := bThen (‹_ ∧ Below wr.heap.size wr _›).2 k5; (first | (with_reducible have mT := (AtC.new wr _ _).drew1.then k5; have tc := mT.c; have tf := mT.f; have tl := mT.lt; clear mT) | skip); clear k5)))
          all_goals (have hQ := (‹_ ∧ Below wr.heap.size wr _›).2; go_wp2_with fail; go_meet; case rel => exact ⟨rfl, hQ⟩)
        case rest =>
          obtain ⟨rfl, hw⟩ := hcut
          have xs : ∀ x : Ext wc, x.W.cell? ⟨w1.heap.size + 1, n, none⟩ = some (.pointer p) := fun x => X.out _ (bThen hw x.b)
          have cs : ∀ x : Ext wc, ∀ i, x.W.cell? ⟨w.heap.size, i, none⟩ = (obCells o)[i]? := fun x => ((m0.then hw).then x.b).c
          have UX := Lib.hid (fun x : Ext wc => U.out _ (bThen hw x.b))
          clear x0 X U m0 c0 f0 l0
          go_wp2
          refine wp_region_ext (by kernel_rfl) (by kernel_rfl) ?_
          repeat (go_big_quiet_step ((go_at_call 10; exact ext_same (slot_no _ _ _ (UX.out _)))))
          refine wpQuiet_nil ?_
          rintro _ ⟨x, rfl⟩
          have xs2 : ∀ y : Ext x.W, y.W.cell? ⟨w1.heap.size + 1, n, none⟩ = some (.pointer p) := fun y => xs ⟨y.W, bThen x.b y.b⟩
          have cs2 : ∀ y : Ext x.W, ∀ i, y.W.cell? ⟨w.heap.size, i, none⟩ = (obCells o)[i]? := fun y => cs ⟨y.W, bThen x.b y.b⟩
          have UY : Hid (∀ y : Ext x.W, Unm y.W (.pointer p)) := Lib.hid (fun y => UX.out ⟨y.W, bThen x.b y.b⟩)
          have hw2 := bThen hw x.b
          clear xs cs UX hw
          generalize x.W = wx at *
          go_wp2
          refine nil_region h0 xs2 cs2 UY.out ?_
          intro u42 u43 u44 u45 u46 u47 u48 u49 u50 u51 u52 u53 u54 u55 u56 u57 u58 u59 u60 u61 u62 u63 u64 u65 u66 u67 u68 u69 u70 u71 u72 u73 u74 u75 u76 u77 u78 u79 u80 u81 u82 u83 u84 u85 u86 u87 u88 u89 u90 u91 u92 u93 u94 u95 u96 u97 u98 u99 u100 u101 u102 u103 u104 u105 u106 u107 u108 u109 u110 u111 u112 u113 u114 u115 u116 u117 u118 u119 u120 u121 u122 u123 u124 w' hy
          have hw3 := bThen hw2 hy
          clear hy
          clear xs2 cs2 UY hw2
          go_wp2
          go_roundw
          case rel => (repeat apply Exists.intro); exact ⟨⟨n + 1, by go_num, by omega, bThen HB1.out hw3⟩, rfl⟩
          case measure => simp [intOf]; omega
      · have e : n = 2 := by omega
        subst e
        go_wp2_with (go_at_call 20; ((with_reducible refine (copy_no _).mono ?_); rintro e w5 ⟨rfl, rfl⟩))
        go_ret
        exact ⟨rfl, HB.out.trans (HB1.out.mono HB.out.size)⟩
end Go.Proofs.YtenjpimmjpkjbaaDoor.TX
