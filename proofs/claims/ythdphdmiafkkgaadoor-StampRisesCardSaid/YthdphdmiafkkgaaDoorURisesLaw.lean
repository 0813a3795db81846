/-
  The law StampRises walked.
-/
import Derived.Test.YthdphdmiafkkgaaDoorUAwake
import Derived.OwnWalk
import Derived.RangeFuncNested
import Derived.Deep.CutRange
import Derived.Deep.RegionHeld3
namespace Go.Proofs.YthdphdmiafkkgaaDoor.UX
open Go.RowKit FixMath
open IX (El RdK OwnK wpList_spreadK Kept cellsK cellsK_at)
open YX (u8K rdY)
set_option maxRecDepth 100000
set_option linter.unusedVariables false
set_option linter.unusedSimpArgs false

/-- A stamp in a row of stamps. -/
noncomputable def stK : El (Int × Int) where
  T := 43
  e := 23
  size := 2
  bytes := (IX.infoOf 23).bytes
  z := sp 0 0
  i := IX.infoOf 23
  enc := fun x => [.int .i64 x.1, .int .i64 x.2]
  el := by kernel_rfl
  ht := Tryd.underlying43
  hi := by kernel_rfl
  hz := by kernel_rfl
  hs := by kernel_rfl
  hb := by kernel_rfl
  hzs := rfl
  pos := by decide
  len := fun _ => rfl
  one := fun _ u hu => by simp at hu; rcases hu with rfl | rfl <;> rfl
  small := of_decide_eq_true (by kernel_rfl)
theorem sts_at {w : World} {B : Nat} {A : Option Addr} {l : List (Int × Int)} (h : RdK stK w B A l) (h0 : 0 < l.length) : ∃ b off, A = some ⟨b, off, none⟩ ∧ b < B ∧ ∀ j c, l[j]? = some c → w.cell? ⟨b, off + j * 2, none⟩ = some (.int .i64 c.1) ∧ w.cell? ⟨b, off + j * 2 + 1, none⟩ = some (.int .i64 c.2) := by
  rcases h with rfl | ⟨b, off, e, hb, hc⟩
  · simp at h0
  · refine ⟨b, off, e, hb, fun j c hx => ?_⟩
    have q : ∀ (i : Nat) (u : Value), (stK.enc c)[i]? = some u → w.cell? ⟨b, off + j * 2 + i, none⟩ = some u := fun i u hu => by
      have := hc _ _ (cellsK_at stK hx (i := i) (u := u) hu)
      rw [Nat.add_assoc]; exact this
    exact ⟨q 0 _ rfl, q 1 _ rfl⟩
theorem st_lit (w : World) (base : Nat) (hb : base ≤ w.heap.size) (x y : Int) : OwnK stK (w.alloc (.cells #[.int .i64 x, .int .i64 y] 23)) base (.slice (some ⟨w.heap.size, 0, none⟩) 1 1) [(x, y)] := by
  have := World.ownsRow_lit (e := stK.e) (size := stK.size) (base := base) w #[.int .i64 x, .int .i64 y] 1 hb (by unfold maxLen; decide) (by rfl)
  exact this
theorem up1 {p q x y X Y : Int} (h : p ≤ x ∧ q ≤ y) (k : ofS x y X Y = 1) : ofS p q X Y = 1 ∧ ofS X Y p q = 2 ∧ p ≤ X ∧ q ≤ Y := by
  rw [ofS_ahead] at k
  rw [ofS_ahead, ofS_behind]
  omega
theorem _root_.Go.Proofs.YthdphdmiafkkgaaDoor.At2.upto2 {W W1 : World} {B B' : Nat} {a b : Int} (h : At2 W B a b) (k : Below B' W W1) (hB : B < B') : At2 W1 B a b :=
  ⟨Nat.lt_of_lt_of_le h.lt k.size, by rw [k.cell (p := ⟨B, 0, none⟩) hB]; exact h.c0, by rw [k.cell (p := ⟨B, 1, none⟩) hB]; exact h.c1, by rw [k.frozen (p := ⟨B, 0, none⟩) hB]; exact h.f0, by rw [k.frozen (p := ⟨B, 1, none⟩) hB]; exact h.f1⟩
theorem ofS_self (x y : Int) : ofS x y x y = 0 := by unfold ofS; rw [if_pos ⟨rfl, rfl⟩]
theorem eqS_00 : eqS 0 0 0 0 = true := by decide
set_option maxHeartbeats 8000000 in
theorem rises_walk (d s : Int) (A : Option Addr) (l : Bs) (c : Nat) (w : World) (hE : Env w) (h : RdK u8K w w.heap.size A l) (hm : l.length ≤ maxLen) : Calls Tryd.prog 5 #[sp d s, .slice A l.length c] w fun e w' => e = .returned (.bool true) ∧ Below w.heap.size w w' := by
  unfold maxLen at hm
  have hb : Below w.heap.size w w := Below.refl _ _
  have CA := Lib.hid (awake15_any _ (hE.then (bAl hb (.cells #[.int .i64 d, .int .i64 s] 23))))
  by_cases h60 : 60 < l.length
  · have i1 : (60 : Int) < (l.length : Int) := by omega
    clear hE
    go_enter Tryd.func5, Tryd.ntmps5
    go_wp2_with (go_at_call 17; ((refine CA.out.mono ?_); rintro e w1 ⟨rfl, k1⟩; replace hb := bThen (bAl hb _) k1))
    go_ret
    exact ⟨rfl, hb⟩
  · have i1 : ¬ (60 : Int) < (l.length : Int) := by omega
    have HR := Lib.hid h
    have CN := Lib.hid (fun (x y : Int) (k : Nat) (W : World) (q : Below w.heap.size w W) => stNext_any x y k W (hE.then q).adds)
    have CO := Lib.hid (fun (x y X Y : Int) (W : World) => stOf_any x y X Y W)
    clear h hE
    go_enter Tryd.func5, Tryd.ntmps5
    go_wp2_with (go_at_call 17; ((refine CA.out.mono ?_); rintro e w1 ⟨rfl, k1⟩; have hb1 := bThen (bAl hb _) k1; have m1 := (At2.new w d s 23).then k1; have m10 := m1.c0; have m11 := m1.c1; have m1l := m1.lt))
    have O1 := st_lit w1 w1.heap.size (Nat.le_refl _) d s
    have hb2 := bAl hb1 (.cells #[.int .i64 d, .int .i64 s] 23)
    have m2 := m1.al (.cells #[.int .i64 d, .int .i64 s] 23)
    obtain ⟨base, hbase⟩ : ∃ base, w1.heap.size = base := ⟨_, rfl⟩
    have hbl : w.heap.size < base := by omega
    have hbs : base ≤ (w1.alloc (.cells #[.int .i64 d, .int .i64 s] 23)).heap.size := by simp; omega
    rw [hbase] at O1
    have HB := Lib.hid hbase
    clear hbase m10 m11
    go_loopw [5, 6] (fun v i wr => ∃ (k : Nat) (x y : Int) (L : List (Int × Int)), i = .int .i64 k ∧ k ≤ l.length ∧ At2 wr w.heap.size x y ∧ Hid (OwnK stK wr base v L) ∧ L.length ≤ k + 1 ∧ Hid (∀ p ∈ L, p.1 ≤ x ∧ p.2 ≤ y) ∧ base ≤ wr.heap.size ∧ Below w.heap.size w wr) (fun _ i _ => l.length - (intOf i).toNat)
    case atStart => exact ⟨0, d, s, [(d, s)], rfl, Nat.zero_le _, m2, Lib.hid (by rw [HB.out] ; exact O1), by simp, Lib.hid (by simp), hbs, hb2⟩
    case round =>
      obtain ⟨k, x, y, L, rfl, hk, m, HO, hL, HU, hbz, hbr⟩ := hrel
      have j0 : (0 : Int) ≤ (k : Int) := by omega
      have ml := m.lt; have m0 := m.c0; have m1 := m.c1
      by_cases hlt : k < l.length
      · have j1 : (k : Int) < (l.length : Int) := by omega
        obtain ⟨b, off, rfl, hB, hcc⟩ := (rdY (HR.out.below hbr)).at_ (by omega)
        have hcell := hcc k l[k] (List.getElem?_eq_getElem hlt)
        replace hcell : wr.cell? ⟨b, off + k, none⟩ = some (.int .u8 (l[k].toNat : Int)) := hcell
        have u := l[k].toNat_lt
        obtain ⟨z, hz⟩ : ∃ z, l[k].toNat = z := ⟨_, rfl⟩
        rw [hz] at hcell u
        obtain ⟨e0, he⟩ : ∃ e0, nxE x y z = e0 := ⟨_, rfl⟩
        have C1 := Lib.hid (fun (W : World) (q : Below w.heap.size w W) => CN.out x y z W q)
        rw [nx_eq he] at C1
        have hcases := nxE_cases x y z
        rw [he] at hcases
        have HUP := Lib.hid (fun (h0 : e0 = 0) => nx_ahead (he.trans h0))
        have HZE := Lib.hid (fun (h0 : e0 ≠ 0) => nx_none (he ▸ h0 : nxE x y z ≠ 0))
        clear hz hcc he
        obtain ⟨X, hX⟩ : ∃ X, nxD x y z = X := ⟨_, rfl⟩
        obtain ⟨Y, hY⟩ : ∃ Y, nxS x y z = Y := ⟨_, rfl⟩
        rw [hX, hY] at C1 HUP HZE
        clear hX hY
        have hbl2 : b < wr.heap.size := World.block_lt_of_cell? _ _ hcell
        have hS : ∀ W', Below wr.heap.size wr W' → ((W'.cell? ⟨b, off + k, none⟩ = some (.int .u8 (z : Int)) ∧ W'.cell? ⟨w.heap.size, 0, none⟩ = some (.int .i64 x) ∧ W'.cell? ⟨w.heap.size, 1, none⟩ = some (.int .i64 y)) ∧ Below wr.heap.size wr W') := fun W' q => ⟨⟨(q.cell (p := ⟨b, _, none⟩) hbl2).trans hcell, (q.cell (p := ⟨w.heap.size, _, none⟩) ml).trans m0, (q.cell (p := ⟨w.heap.size, _, none⟩) ml).trans m1⟩, q⟩
        go_wp2_with fail
        go_region_held3 (fun W' => (W'.cell? ⟨b, off + k, none⟩ = some (.int .u8 (z : Int)) ∧ W'.cell? ⟨w.heap.size, 0, none⟩ = some (.int .i64 x) ∧ W'.cell? ⟨w.heap.size, 1, none⟩ = some (.int .i64 y)) ∧ Below wr.heap.size wr W')
          (first | with_reducible exact hS _ (bSet (And.right ‹_ ∧ Below wr.heap.size wr w3›) (Nat.le_refl _) _ _) | with_reducible exact hS _ (Below.refl _ _).drew | with_reducible exact hS _ (keepD (by assumption) k3) | with_reducible exact hS _ (bAl (Below.refl _ _).drew _) | with_reducible exact hS _ (bAl (Below.refl _ _) _).drew | with_reducible exact hS _ (bAl (bThen (Below.refl _ _).drew k3) _))
          ((go_at_call 11; (with_reducible refine (C1.out _ (bThen hbr (And.right ‹_ ∧ Below wr.heap.size wr _›))).mono ?_); rintro e w3 ⟨rfl, k3⟩; first | (with_reducible have mT := (AtC.new _ _ _).drew1.then k3; have tf := mT.f; have tl := mT.lt; have tc := mT.c) | skip))
        · rename_i hH
          have K4 := hH.2
          have n4 : At2 _ w3.heap.size X Y := At2.new w3 X Y 23
          have q4 : w.heap.size < w3.heap.size := (by have q := k3.size; simp at q; omega)
          generalize (w3.alloc (.cells #[.int .i64 X, .int .i64 Y] 23)) = W4 at K4 n4 ⊢
          generalize w3.heap.size = B4 at n4 q4 ⊢
          clear hH hS
          have t := m.then K4
          have hb4 := bThen hbr K4
          have HO4 := Lib.hid (HO.out.below K4)
          have n40 := n4.c0; have n41 := n4.c1; have n4l := n4.lt
          have t0 := t.c0; have t1 := t.c1; have tl := t.lt; have tf0 := t.f0; have tf1 := t.f1
          have hz4 := Nat.le_trans hbz K4.size
          rcases hcases with rfl | rfl | rfl
          · have UP := HUP.out rfl
            obtain ⟨Aw, cw, rfl, rw_, hcw, hcm⟩ := HO4.out.form
            have RW := Lib.hid rw_
            clear rw_
            go_wp2_with fail
            go_loopw [9] (fun i wi => ∃ j : Nat, i = .int .i64 j ∧ j ≤ L.length ∧ Below W4.heap.size W4 wi) (fun i _ => L.length - (intOf i).toNat)
            case atStart => exact ⟨0, rfl, Nat.zero_le _, Below.refl _ _⟩
            case round =>
              obtain ⟨j, rfl, hj, hbi⟩ := hrel
              have o0 : (0 : Int) ≤ (j : Int) := by omega
              have ti := t.then hbi
              have ni := n4.then hbi
              by_cases hjl : j < L.length
              · have o1 : (j : Int) < (L.length : Int) := by omega
                obtain ⟨g, of, rfl, hg, hcg⟩ := sts_at ((RW.out.below hbi).more hbi.size) (by omega)
                obtain ⟨ca, cb⟩ := hcg j L[j] (List.getElem?_eq_getElem hjl)
                have hup := up1 (HU.out L[j] (List.getElem_mem hjl)) UP
                generalize L[j].1 = p at *
                generalize L[j].2 = q at *
                have D1 := Lib.hid (fun W => CO.out p q X Y W)
                have D2 := Lib.hid (fun W => CO.out X Y p q W)
                rw [hup.1] at D1
                rw [hup.2.1] at D2
                have ni0 := ni.c0; have ni1 := ni.c1; have nil := ni.lt
                have hT : ∀ W', Below wr.heap.size wr W' → ((W'.cell? ⟨g, of + j * 2, none⟩ = some (.int .i64 p) ∧ W'.cell? ⟨g, of + j * 2 + 1, none⟩ = some (.int .i64 q) ∧ W'.cell? ⟨B4, 0, none⟩ = some (.int .i64 X) ∧ W'.cell? ⟨B4, 1, none⟩ = some (.int .i64 Y)) ∧ Below wr.heap.size wr W') := fun W' qq => ⟨⟨(qq.cell (p := ⟨g, _, none⟩) hg).trans ca, (qq.cell (p := ⟨g, _, none⟩) hg).trans cb, (qq.cell (p := ⟨B4, _, none⟩) nil).trans ni0, (qq.cell (p := ⟨B4, _, none⟩) nil).trans ni1⟩, qq⟩
                clear hcg hup
                go_wp2_with fail
                go_region_held3 (fun W' => (W'.cell? ⟨g, of + j * 2, none⟩ = some (.int .i64 p) ∧ W'.cell? ⟨g, of + j * 2 + 1, none⟩ = some (.int .i64 q) ∧ W'.cell? ⟨B4, 0, none⟩ = some (.int .i64 X) ∧ W'.cell? ⟨B4, 1, none⟩ = some (.int .i64 Y)) ∧ Below wr.heap.size wr W')
                  (first | with_reducible exact hT _ (Below.refl _ _).drew | with_reducible exact hT _ (keepD (by assumption) k3))
                  (first
                  | (go_at_call 18; first | ((with_reducible refine (D1.out _).mono ?_); rintro e w3 ⟨rfl, k3⟩) | ((with_reducible refine (D2.out _).mono ?_); rintro e w3 ⟨rfl, k3⟩)))
                rename_i hH
                have K5 := bThen hbi hH.2
                clear hH hT
                go_wp2
                go_roundw
                case rel => exact ⟨j + 1, by go_num, by omega, K5⟩
                case measure => simp [intOf]; omega
              · obtain rfl : j = L.length := by omega
                have o1 : ¬ (L.length : Int) < (L.length : Int) := by omega
                have HO5 := Lib.hid (HO4.out.below hbi)
                have hb5 := bThen hb4 hbi
                have ni0 := ni.c0; have ni1 := ni.c1; have nil := ni.lt
                have ti0 := ti.c0; have ti1 := ti.c1; have til := ti.lt; have tif0 := ti.f0; have tif1 := ti.f1
                have hz5 := Nat.le_trans hz4 hbi.size
                have hne : ¬ B4 = w.heap.size := by omega
                have hne2 : ¬ w.heap.size = B4 := by omega
                have hs6 : ((wr.setCell ⟨w.heap.size, 0, none⟩ (.int .i64 X)).setCell ⟨w.heap.size, 1, none⟩ (.int .i64 Y)).heap.size = wr.heap.size := by simp
                have k6 : Kept wr ((wr.setCell ⟨w.heap.size, 0, none⟩ (.int .i64 X)).setCell ⟨w.heap.size, 1, none⟩ (.int .i64 Y)) (· ≠ w.heap.size) := ((Kept.refl _ _).set (fun _ q => q rfl) _).set (fun _ q => q rfl) _
                have HO6 : Hid (OwnK stK (((wr.setCell ⟨w.heap.size, 0, none⟩ (.int .i64 X)).setCell ⟨w.heap.size, 1, none⟩ (.int .i64 Y)).alloc (.cells #[.int .i64 X, .int .i64 Y] 23)) base (.slice Aw L.length cw) L) := Lib.hid ((HO5.out.kept k6 (fun g hg => by have := (HO5.out.lt g hg).1; show g ≠ w.heap.size; omega)).below (bAl (Below.refl _ _) _))
                have HL6 : Hid (RdK stK (((wr.setCell ⟨w.heap.size, 0, none⟩ (.int .i64 X)).setCell ⟨w.heap.size, 1, none⟩ (.int .i64 Y)).alloc (.cells #[.int .i64 X, .int .i64 Y] 23)) (wr.heap.size + 1) (some ⟨wr.heap.size, 0, none⟩) [(X, Y)]) := Lib.hid (by
                  have q := IX.RdK.lit (K := stK) ((wr.setCell ⟨w.heap.size, 0, none⟩ (.int .i64 X)).setCell ⟨w.heap.size, 1, none⟩ (.int .i64 Y)) (X, Y) #[.int .i64 X, .int .i64 Y] rfl 23
                  rw [hs6] at q; exact q)
                have B6 := Lib.hid (bAl (bSet hb5 (Nat.le_refl _) (.int .i64 X) (.int .i64 Y)) (.cells #[.int .i64 X, .int .i64 Y] 23))
                have T6 := Lib.hid ((ti.set X Y).al (.cells #[.int .i64 X, .int .i64 Y] 23))
                have HUN : Hid (∀ p ∈ L ++ [(X, Y)], p.1 ≤ X ∧ p.2 ≤ Y) := Lib.hid (by
                  intro p hp
                  rcases List.mem_append.1 hp with hp | hp
                  · exact (up1 (HU.out p hp) UP).2.2
                  · rw [List.mem_singleton.1 hp]; exact ⟨Int.le_refl _, Int.le_refl _⟩)
                clear hs6 k6
                go_upto_region 8 with (at_builtin; (refine wpList_spreadK stK rfl (.tmp 60) (.tmp 62) rfl base _ L rfl HO6.out (wr.heap.size + 1) (some ⟨wr.heap.size, 0, none⟩) 1 1 [(X, Y)] rfl rfl HL6.out ?c1 ?c2 ?_))
                case c1 => (first | omega | (simp; omega))
                case c2 => (first | omega | (simp; omega))
                intro v7 w7 o7 g7 f7
                have K7 := Lib.hid (B6.out.grown g7 (by have := hb5.size; simp; omega) (fun a ha => by have := (HO6.out.lt a ha).1; omega))
                have T7 := Lib.hid (At2.upto2 T6.out ((Below.refl base _).grown g7 (by simp; omega) (fun a ha => (HO6.out.lt a ha).1)) hbl)
                have hz7 : base ≤ w7.heap.size := by have := g7.size; simp at this; omega
                have O7 := Lib.hid o7
                clear o7 g7 f7
                go_wp2
                go_roundw
                case rel => exact ⟨k + 1, X, Y, L ++ [(X, Y)], by go_num, by omega, T7.out, O7, by simp; omega, HUN, hz7, K7.out⟩
                case measure => simp [intOf]; omega
          · obtain ⟨e1, e2⟩ := HZE.out (by decide)
            subst e1 e2
            have hQ := fun W => (run_eqSt W 0 0 0 0).trans (by rw [eqS_00])
            go_wp2
            go_roundw
            case rel => exact ⟨k + 1, x, y, L, by go_num, by omega, t, HO4, by omega, HU, hz4, hb4⟩
            case measure => simp [intOf]; omega
          · obtain ⟨e1, e2⟩ := HZE.out (by decide)
            subst e1 e2
            have hQ := fun W => (run_eqSt W 0 0 0 0).trans (by rw [eqS_00])
            go_wp2
            go_roundw
            case rel => exact ⟨k + 1, x, y, L, by go_num, by omega, t, HO4, by omega, HU, hz4, hb4⟩
            case measure => simp [intOf]; omega
        · rename_i hH
          have K4 := hH.2
          have n4 : At2 _ wr.heap.size X Y := At2.set (a := 0) (b := 0) ⟨mT.lt, mT.c 0, mT.c 1, mT.f 0, mT.f 1⟩ X Y
          have q4 : w.heap.size < wr.heap.size := ml
          generalize ((w3.setCell ⟨wr.heap.size, 0, none⟩ (.int .i64 X)).setCell ⟨wr.heap.size, 1, none⟩ (.int .i64 Y)) = W4 at K4 n4 ⊢
          generalize wr.heap.size = B4 at n4 q4 ⊢
          clear hH hS
          have t := m.then K4
          have hb4 := bThen hbr K4
          have HO4 := Lib.hid (HO.out.below K4)
          have n40 := n4.c0; have n41 := n4.c1; have n4l := n4.lt
          have t0 := t.c0; have t1 := t.c1; have tl := t.lt; have tf0 := t.f0; have tf1 := t.f1
          have hz4 := Nat.le_trans hbz K4.size
          rcases hcases with rfl | rfl | rfl
          · have UP := HUP.out rfl
            obtain ⟨Aw, cw, rfl, rw_, hcw, hcm⟩ := HO4.out.form
            have RW := Lib.hid rw_
            clear rw_
            go_wp2_with fail
            go_loopw [9] (fun i wi => ∃ j : Nat, i = .int .i64 j ∧ j ≤ L.length ∧ Below W4.heap.size W4 wi) (fun i _ => L.length - (intOf i).toNat)
            case atStart => exact ⟨0, rfl, Nat.zero_le _, Below.refl _ _⟩
            case round =>
              obtain ⟨j, rfl, hj, hbi⟩ := hrel
              have o0 : (0 : Int) ≤ (j : Int) := by omega
              have ti := t.then hbi
              have ni := n4.then hbi
              by_cases hjl : j < L.length
              · have o1 : (j : Int) < (L.length : Int) := by omega
                obtain ⟨g, of, rfl, hg, hcg⟩ := sts_at ((RW.out.below hbi).more hbi.size) (by omega)
                obtain ⟨ca, cb⟩ := hcg j L[j] (List.getElem?_eq_getElem hjl)
                have hup := up1 (HU.out L[j] (List.getElem_mem hjl)) UP
                generalize L[j].1 = p at *
                generalize L[j].2 = q at *
                have D1 := Lib.hid (fun W => CO.out p q X Y W)
                have D2 := Lib.hid (fun W => CO.out X Y p q W)
                rw [hup.1] at D1
                rw [hup.2.1] at D2
                have ni0 := ni.c0; have ni1 := ni.c1; have nil := ni.lt
                have hT : ∀ W', Below wr.heap.size wr W' → ((W'.cell? ⟨g, of + j * 2, none⟩ = some (.int .i64 p) ∧ W'.cell? ⟨g, of + j * 2 + 1, none⟩ = some (.int .i64 q) ∧ W'.cell? ⟨B4, 0, none⟩ = some (.int .i64 X) ∧ W'.cell? ⟨B4, 1, none⟩ = some (.int .i64 Y)) ∧ Below wr.heap.size wr W') := fun W' qq => ⟨⟨(qq.cell (p := ⟨g, _, none⟩) hg).trans ca, (qq.cell (p := ⟨g, _, none⟩) hg).trans cb, (qq.cell (p := ⟨B4, _, none⟩) nil).trans ni0, (qq.cell (p := ⟨B4, _, none⟩) nil).trans ni1⟩, qq⟩
                clear hcg hup
                go_wp2_with fail
                go_region_held3 (fun W' => (W'.cell? ⟨g, of + j * 2, none⟩ = some (.int .i64 p) ∧ W'.cell? ⟨g, of + j * 2 + 1, none⟩ = some (.int .i64 q) ∧ W'.cell? ⟨B4, 0, none⟩ = some (.int .i64 X) ∧ W'.cell? ⟨B4, 1, none⟩ = some (.int .i64 Y)) ∧ Below wr.heap.size wr W')
                  (first | with_reducible exact hT _ (Below.refl _ _).drew | with_reducible exact hT _ (keepD (by assumption) k3))
                  (first
                  | (go_at_call 18; first | ((with_reducible refine (D1.out _).mono ?_); rintro e w3 ⟨rfl, k3⟩) | ((with_reducible refine (D2.out _).mono ?_); rintro e w3 ⟨rfl, k3⟩)))
                rename_i hH
                have K5 := bThen hbi hH.2
                clear hH hT
                go_wp2
                go_roundw
                case rel => exact ⟨j + 1, by go_num, by omega, K5⟩
                case measure => simp [intOf]; omega
              · obtain rfl : j = L.length := by omega
                have o1 : ¬ (L.length : Int) < (L.length : Int) := by omega
                have HO5 := Lib.hid (HO4.out.below hbi)
                have hb5 := bThen hb4 hbi
                have ni0 := ni.c0; have ni1 := ni.c1; have nil := ni.lt
                have ti0 := ti.c0; have ti1 := ti.c1; have til := ti.lt; have tif0 := ti.f0; have tif1 := ti.f1
                have hz5 := Nat.le_trans hz4 hbi.size
                have hne : ¬ B4 = w.heap.size := by omega
                have hne2 : ¬ w.heap.size = B4 := by omega
                have hs6 : ((wr.setCell ⟨w.heap.size, 0, none⟩ (.int .i64 X)).setCell ⟨w.heap.size, 1, none⟩ (.int .i64 Y)).heap.size = wr.heap.size := by simp
                have k6 : Kept wr ((wr.setCell ⟨w.heap.size, 0, none⟩ (.int .i64 X)).setCell ⟨w.heap.size, 1, none⟩ (.int .i64 Y)) (· ≠ w.heap.size) := ((Kept.refl _ _).set (fun _ q => q rfl) _).set (fun _ q => q rfl) _
                have HO6 : Hid (OwnK stK (((wr.setCell ⟨w.heap.size, 0, none⟩ (.int .i64 X)).setCell ⟨w.heap.size, 1, none⟩ (.int .i64 Y)).alloc (.cells #[.int .i64 X, .int .i64 Y] 23)) base (.slice Aw L.length cw) L) := Lib.hid ((HO5.out.kept k6 (fun g hg => by have := (HO5.out.lt g hg).1; show g ≠ w.heap.size; omega)).below (bAl (Below.refl _ _) _))
                have HL6 : Hid (RdK stK (((wr.setCell ⟨w.heap.size, 0, none⟩ (.int .i64 X)).setCell ⟨w.heap.size, 1, none⟩ (.int .i64 Y)).alloc (.cells #[.int .i64 X, .int .i64 Y] 23)) (wr.heap.size + 1) (some ⟨wr.heap.size, 0, none⟩) [(X, Y)]) := Lib.hid (by
                  have q := IX.RdK.lit (K := stK) ((wr.setCell ⟨w.heap.size, 0, none⟩ (.int .i64 X)).setCell ⟨w.heap.size, 1, none⟩ (.int .i64 Y)) (X, Y) #[.int .i64 X, .int .i64 Y] rfl 23
                  rw [hs6] at q; exact q)
                have B6 := Lib.hid (bAl (bSet hb5 (Nat.le_refl _) (.int .i64 X) (.int .i64 Y)) (.cells #[.int .i64 X, .int .i64 Y] 23))
                have T6 := Lib.hid ((ti.set X Y).al (.cells #[.int .i64 X, .int .i64 Y] 23))
                have HUN : Hid (∀ p ∈ L ++ [(X, Y)], p.1 ≤ X ∧ p.2 ≤ Y) := Lib.hid (by
                  intro p hp
                  rcases List.mem_append.1 hp with hp | hp
                  · exact (up1 (HU.out p hp) UP).2.2
                  · rw [List.mem_singleton.1 hp]; exact ⟨Int.le_refl _, Int.le_refl _⟩)
                clear hs6 k6
                go_upto_region 8 with (at_builtin; (refine wpList_spreadK stK rfl (.tmp 60) (.tmp 62) rfl base _ L rfl HO6.out (wr.heap.size + 1) (some ⟨wr.heap.size, 0, none⟩) 1 1 [(X, Y)] rfl rfl HL6.out ?c1 ?c2 ?_))
                case c1 => (first | omega | (simp; omega))
                case c2 => (first | omega | (simp; omega))
                intro v7 w7 o7 g7 f7
                have K7 := Lib.hid (B6.out.grown g7 (by have := hb5.size; simp; omega) (fun a ha => by have := (HO6.out.lt a ha).1; omega))
                have T7 := Lib.hid (At2.upto2 T6.out ((Below.refl base _).grown g7 (by simp; omega) (fun a ha => (HO6.out.lt a ha).1)) hbl)
                have hz7 : base ≤ w7.heap.size := by have := g7.size; simp at this; omega
                have O7 := Lib.hid o7
                clear o7 g7 f7
                go_wp2
                go_roundw
                case rel => exact ⟨k + 1, X, Y, L ++ [(X, Y)], by go_num, by omega, T7.out, O7, by simp; omega, HUN, hz7, K7.out⟩
                case measure => simp [intOf]; omega
          · obtain ⟨e1, e2⟩ := HZE.out (by decide)
            subst e1 e2
            have hQ := fun W => (run_eqSt W 0 0 0 0).trans (by rw [eqS_00])
            go_wp2
            go_roundw
            case rel => exact ⟨k + 1, x, y, L, by go_num, by omega, t, HO4, by omega, HU, hz4, hb4⟩
            case measure => simp [intOf]; omega
          · obtain ⟨e1, e2⟩ := HZE.out (by decide)
            subst e1 e2
            have hQ := fun W => (run_eqSt W 0 0 0 0).trans (by rw [eqS_00])
            go_wp2
            go_roundw
            case rel => exact ⟨k + 1, x, y, L, by go_num, by omega, t, HO4, by omega, HU, hz4, hb4⟩
            case measure => simp [intOf]; omega
      · have j1 : ¬ (k : Int) < (l.length : Int) := by omega
        have C2 := Lib.hid (fun W => CO.out x y x y W)
        rw [ofS_self] at C2
        go_wp2_with (go_at_call 18; ((refine (C2.out _).mono ?_); rintro e w5 ⟨rfl, k5⟩; have hb5 := bThen hbr k5))
        go_ret
        exact ⟨rfl, hb5⟩
end Go.Proofs.YthdphdmiafkkgaaDoor.UX
