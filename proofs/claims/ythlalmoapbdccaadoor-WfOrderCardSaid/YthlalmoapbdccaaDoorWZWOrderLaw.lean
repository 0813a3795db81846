/-
  WALK: the law WfOrder.
-/
import Derived.Test.YthlalmoapbdccaaDoorWZWStore
namespace Go.Proofs.YthlalmoapbdccaaDoor.WX
open Go.RowKit HL
open IX (ptr El cellsK cellsK_at OwnK RdK strK)
open TX (Ext wp_region_ext ext_below ext_same)
set_option maxRecDepth 100000
set_option linter.unusedVariables false
set_option linter.unusedSimpArgs false

theorem place_in2 (i : Int) (n : Nat) (h0 : 0 < n) (hn : n ≤ 1000) : ∃ (u : Int) (k : Nat), IntKind.u64.wrap i = u ∧ 0 ≤ u ∧ (u % (n : Int)) = (k : Int) ∧ k < n := by
  obtain ⟨m, rfl⟩ : ∃ m, n = m + 1 := ⟨n - 1, by omega⟩
  obtain ⟨u, k, h1, h2, h3, h4⟩ := place_of i m (by omega)
  exact ⟨u, k, h1, h2, by rw [← h3]; push_cast; rfl, by omega⟩
/-- No two of the first k have one handle. -/
def Apart (l : List Ob) (i : Nat) : Prop := ∀ a b, a < b → b < i → ∀ x y, l[a]? = some x → l[b]? = some y → hb x ≠ hb y
theorem apart_nd {l : List Ob} (h : Apart l l.length) : (l.map hb).Nodup := by
  rw [List.nodup_iff_pairwise_ne, List.pairwise_iff_getElem]
  intro i j hi hj hij
  rw [List.getElem_map, List.getElem_map]
  rw [List.length_map] at hi hj
  exact h i j hij hj _ _ (List.getElem?_eq_getElem hi) (List.getElem?_eq_getElem hj)
theorem not_nd {l : List Ob} {a b : Nat} {x y : Ob} (hab : a < b) (ha : l[a]? = some x) (hb' : l[b]? = some y) (e : hb x = hb y) : ¬ (l.map hb).Nodup := by
  intro hn
  obtain ⟨h1, rfl⟩ := List.getElem?_eq_some_iff.1 ha
  obtain ⟨h2, rfl⟩ := List.getElem?_eq_some_iff.1 hb'
  rw [List.nodup_iff_pairwise_ne, List.pairwise_iff_getElem] at hn
  exact hn a b (by simpa using h1) (by simpa using h2) hab (by simpa using e)
theorem back_next {l : List Ob} {k : Nat} (hk : k < l.length) : (l.drop (k + 1)).reverse ++ [l[k]] = (l.drop k).reverse := by
  rw [← List.getElem_cons_drop hk, List.reverse_cons]
theorem perm_meets {l l' : List Ob} (hp : l.Perm l') (hF : ∀ o ∈ l, Fine o) (hl : l.length ≤ 100) {W : World} (ht : Tables W ∧ Kinds W) : MeetsL l' W :=
  meetsL_of (by rw [← hp.length_eq]; omega) (fun o ho => hF o (hp.mem_iff.2 ho)) ht
theorem perm_check {l l' : List Ob} {v : Nat × Int} (hv : verR l = v) (hp : l.Perm l') (hn : (l.map hb).Nodup) (hF : ∀ o ∈ l, Fine o) (hl : l.length ≤ 100) {W : World} (ht : Tables W ∧ Kinds W) {A : Option Addr} (c : Nat) (r : RdK obK W W.heap.size A l') :
    Calls Tryd.prog 11 #[.slice A l.length c] W fun e w' => e = .returned (.int .i64 v.2) ∧ Below W.heap.size W w' := by
  have := check_any l' c W r (perm_meets hp hF hl ht)
  rw [ver_perm hp hn, hv, ← hp.length_eq] at this
  exact this
theorem perm_rule {l l' : List Ob} {v : Nat × Int} (hv : verR l = v) (hp : l.Perm l') (hn : (l.map hb).Nodup) (hF : ∀ o ∈ l, Fine o) (hl : l.length ≤ 100) {W : World} (ht : Tables W ∧ Kinds W) {A : Option Addr} (c : Nat) (r : RdK obK W W.heap.size A l') :
    Calls Tryd.prog 12 #[.slice A l.length c] W fun e w' => e = .returned (.int .i64 (v.1 : Nat)) ∧ Below W.heap.size W w' := by
  have := ruleN_any l' c W r (perm_meets hp hF hl ht)
  rw [ver_perm hp hn, hv, ← hp.length_eq] at this
  exact this
set_option maxHeartbeats 64000000 in
theorem order_walk (A : Option Addr) (c : Nat) (l : List Ob) (ia ib : Int) (w : World) (h1 : RdK obK w w.heap.size A l) (n1 : l.length ≤ maxLen) (hF : ∀ o ∈ l, Fine o) (ht : Tables w ∧ Kinds w) :
    Calls Tryd.prog 5 #[.slice A l.length c, .int .i64 ia, .int .i64 ib] w fun e w' => e = .returned (.bool true) ∧ Below w.heap.size w w' := by
  have CA := Lib.hid (awake9_any w ht)
  have L1 := Lib.hid (fun W (k : Below w.heap.size w W) => longO_any A c l W ((h1.below k).more k.size) n1)
  cases e1 : longO l with
  | true =>
    rw [e1] at L1
    clear e1 h1 hF ht
    go_enter Tryd.func5, Tryd.ntmps5
    go_wp2_with (first
      | (go_at_call 17; ((with_reducible refine CA.out.mono ?_); rintro e w1 ⟨rfl, k1⟩))
      | (go_at_call 9; ((with_reducible refine (L1.out _ k1).mono ?_); rintro e w2 ⟨rfl, k2⟩)))
    go_ret
    exact ⟨rfl, bThen k1 k2⟩
  | false =>
    have nl := (longO_out e1).1
    have hM : ∀ (m : List Ob), m.length ≤ 1000 → (∀ x ∈ m, Fine x) → ∀ W, Below w.heap.size w W → MeetsL m W := fun m hm hx W q => (meetsL_of hm hx ht).then q
    rw [e1] at L1
    by_cases h0 : l.length = 0
    · have i0 : ((l.length : Int) == 0) = true := by rw [h0]; rfl
      clear e1 h1 hF ht h0
      go_enter Tryd.func5, Tryd.ntmps5
      go_wp2_with (first
        | (go_at_call 17; ((with_reducible refine CA.out.mono ?_); rintro e w1 ⟨rfl, k1⟩))
        | (go_at_call 9; ((with_reducible refine (L1.out _ k1).mono ?_); rintro e w2 ⟨rfl, k2⟩)))
      go_ret
      exact ⟨rfl, bThen k1 k2⟩
    · have i0 : ((l.length : Int) == 0) = false := by rw [beq_eq_false_iff_ne]; omega
      have H1 := Lib.hid h1
      have HF := Lib.hid hF
      have HT := Lib.hid (fun W (k : Below w.heap.size w W) => tabs_then ht k)
      have CW := Lib.hid (fun W (q : Below w.heap.size w W) => well_any (A := A) l c W ((h1.below q).more q.size) (hM l (by omega) hF W q))
      have CR := Lib.hid (fun W (q : Below w.heap.size w W) => ruleN_any (A := A) l c W ((h1.below q).more q.size) (hM l (by omega) hF W q))
      have CC := Lib.hid (fun W (q : Below w.heap.size w W) => check_any (A := A) l c W ((h1.below q).more q.size) (hM l (by omega) hF W q))
      have HT2 := Lib.hid (fun hn => ver_twice (l := l) hn)
      obtain ⟨ua, ka, hua, hua0, hka, hkal⟩ := place_in2 ia l.length (by omega) (by omega)
      obtain ⟨ub, kb, hub, hub0, hkb, hkbl⟩ := place_in2 ib l.length (by omega) (by omega)
      obtain ⟨v, hv⟩ : ∃ v, verR l = v := ⟨_, rfl⟩
      have HV := Lib.hid hv
      rw [hv] at CW CR CC HT2
      have hw1 : IntKind.u64.wrap (l.length : Int) = (l.length : Int) := IntWalk.u64_in _ (by omega)
      have hw3 : IntKind.i64.wrap (ka : Int) = (ka : Int) := IntWalk.i64_in _ (by omega)
      have hw4 : IntKind.i64.wrap (kb : Int) = (kb : Int) := IntWalk.i64_in _ (by omega)
      clear e1 h1 hF ht hM hv n1 h0
      go_enter Tryd.func5, Tryd.ntmps5
      go_wp2_with (first
        | (go_at_call 17; ((with_reducible refine CA.out.mono ?_); rintro e w1 ⟨rfl, k1⟩))
        | (go_at_call 9; ((with_reducible refine (L1.out _ k1).mono ?_); rintro e w2 ⟨rfl, q2⟩; have K2 := Lib.hid (bThen k1 q2))))
      clear CA L1
      go_loopw [7] (fun v wr => ∃ i : Nat, v = .int .i64 i ∧ i ≤ l.length ∧ Hid (Apart l i) ∧ Below w.heap.size w wr) (fun v _ => l.length - (intOf v).toNat)
      case atStart => exact ⟨0, rfl, Nat.zero_le _, Lib.hid (fun a b _ h => absurd h (Nat.not_lt_zero _)), K2.out⟩
      case round =>
        obtain ⟨i, rfl, hi, HA, k3⟩ := hrel
        have K3 := Lib.hid k3
        by_cases hil : i < l.length
        · have i1 : (i : Int) < (l.length : Int) := by omega
          clear k3
          go_wp2
          go_loopw [8] (fun v wr => ∃ k : Nat, v = .int .i64 k ∧ k ≤ i ∧ Hid (∀ a, a < k → ∀ x y, l[a]? = some x → l[i]? = some y → hb x ≠ hb y) ∧ Below w.heap.size w wr) (fun v _ => i - (intOf v).toNat)
          case atStart => exact ⟨0, rfl, Nat.zero_le _, Lib.hid (fun a h => absurd h (Nat.not_lt_zero _)), K3.out⟩
          case round =>
            obtain ⟨k, rfl, hk, HB, k4⟩ := hrel
            have K4 := Lib.hid k4
            by_cases hki : k < i
            · have i2 : (k : Int) < (i : Int) := by omega
              have i3 : (k : Int) < (l.length : Int) := by omega
              obtain ⟨b, off, rfl, hbk, hc⟩ := obs_at (H1.out.below k4) (by omega)
              obtain ⟨c0, _⟩ := hc k _ (List.getElem?_eq_getElem (by omega))
              obtain ⟨d0, _⟩ := hc i _ (List.getElem?_eq_getElem hil)
              have HX := Lib.hid (List.getElem?_eq_getElem (show k < l.length by omega))
              have HY := Lib.hid (List.getElem?_eq_getElem hil)
              have rc : ∀ y : Ext wr, y.W.cell? ⟨b, off + k * 14, none⟩ = some (.string (l[k]'(by omega)).handle) := fun y => (y.b.cell (p := ⟨b, off + k * 14, none⟩) (Nat.lt_of_lt_of_le hbk k4.size)).trans c0
              have rd : ∀ y : Ext wr, y.W.cell? ⟨b, off + i * 14, none⟩ = some (.string l[i].handle) := fun y => (y.b.cell (p := ⟨b, off + i * 14, none⟩) (Nat.lt_of_lt_of_le hbk k4.size)).trans d0
              clear hc c0 d0 k4
              generalize l[k]'(by omega) = x at *
              generalize l[i] = z at *
              by_cases he : x.handle = z.handle
              · have ee : (x.handle.toList == z.handle.toList) = true := by rw [he]; simp
                have HN := HT2.out (not_nd hki HX.out HY.out (by show x.handle.data.toList = _; rw [he]))
                obtain ⟨v1, v2⟩ := v
                obtain ⟨hv2, hv1⟩ := HN
                have j1 : (v2 == 0) = false := by simpa using hv2
                have j2 : (v1 : Int) ≤ 2 := by simp only at hv1; omega
                have j3 : (1 : Int) ≤ (v1 : Int) := by simp only at hv1; omega
                simp only [j1] at CW
                clear he hv2 hv1
                go_wp2
                refine wp_region_ext (by kernel_rfl) (by kernel_rfl) ?_
                repeat (go_big_quiet_step (fail))
                refine wpQuiet_nil ?_
                rintro _ ⟨y, rfl⟩
                have K5 := Lib.hid (bThen K4.out y.b)
                clear rc rd
                go_wp2_with (go_at_call 13; ((with_reducible refine (CW.out _ K5.out).mono ?_); rintro e w6 ⟨rfl, q6⟩; have K6 := Lib.hid (bThen K5.out q6)))
                go_at_call 12
                refine (CR.out _ K6.out).mono ?_
                rintro e w7 ⟨rfl, q7⟩
                have K7 := Lib.hid (bThen K6.out q7)
                go_wp2_with fail
                go_at_call 12
                refine (CR.out _ K7.out).mono ?_
                rintro e w8 ⟨rfl, q8⟩
                have K8 := Lib.hid (bThen K7.out q8)
                go_wp2_with fail
                go_ret
                exact ⟨rfl, K8.out⟩
              · have ee : (x.handle.toList == z.handle.toList) = false := tl_ne he
                have HB2 : Hid (∀ a, a < k + 1 → ∀ x y, l[a]? = some x → l[i]? = some y → hb x ≠ hb y) := Lib.hid (fun a ha x' y' hx hy => by
                  rcases Nat.lt_succ_iff_lt_or_eq.1 ha with q | rfl
                  · exact HB.out a q x' y' hx hy
                  · rw [HX.out] at hx
                    rw [HY.out] at hy
                    cases hx
                    cases hy
                    exact fun e => he (bs_eq e))
                clear he
                go_wp2
                refine wp_region_ext (by kernel_rfl) (by kernel_rfl) ?_
                repeat (go_big_quiet_step (fail))
                refine wpQuiet_nil ?_
                rintro _ ⟨y, rfl⟩
                clear rc rd
                go_wp2
                go_roundw
                case rel => exact ⟨k + 1, by go_num, by omega, HB2, bThen K4.out y.b⟩
                case measure => simp [intOf]; omega
            · obtain rfl : k = i := by omega
              have i2 : ¬ (k : Int) < (k : Int) := by omega
              have HA2 : Hid (Apart l (k + 1)) := Lib.hid (fun a b hab hbk x y hx hy => by
                rcases Nat.lt_succ_iff_lt_or_eq.1 hbk with q | rfl
                · exact HA.out a b hab q x y hx hy
                · exact HB.out a hab x y hx hy)
              go_wp2
              go_roundw
              case rel => exact ⟨k + 1, by go_num, by omega, HA2, k4⟩
              case measure => simp [intOf]; omega
        · obtain rfl : i = l.length := by omega
          have i1 : ¬ (l.length : Int) < (l.length : Int) := by omega
          have HND := Lib.hid (apart_nd HA.out)
          have hq : IntKind.i64.wrap ((l.length : Int) - 1) = (l.length : Int) - 1 := IntWalk.i64_in _ (by omega)
          clear HA CW HT2 k3
          have CB := Lib.hid (fun W (q : Below w.heap.size w W) A' c' (r : RdK obK W W.heap.size A' l.reverse) => perm_check HV.out (List.reverse_perm l).symm HND.out HF.out nl (HT.out W q) c' r)
          have CBR := Lib.hid (fun W (q : Below w.heap.size w W) A' c' (r : RdK obK W W.heap.size A' l.reverse) => perm_rule HV.out (List.reverse_perm l).symm HND.out HF.out nl (HT.out W q) c' r)
          have CT := Lib.hid (fun W (q : Below w.heap.size w W) A' c' (r : RdK obK W W.heap.size A' ((l.set ka l[kb]).set kb l[ka])) => perm_check HV.out (swap_perm (List.getElem?_eq_getElem hkal) (List.getElem?_eq_getElem hkbl)) HND.out HF.out nl (HT.out W q) c' r)
          go_wp2
          generalize wr.heap.size = zr at *
          go_loopw [9, 10] (fun bv v wr2 => ∃ k : Nat, v = .int .i64 ((k : Int) - 1) ∧ k ≤ l.length ∧ Hid (OwnK obK wr2 w.heap.size bv (l.drop k).reverse) ∧ Below w.heap.size w wr2) (fun _ v _ => (intOf v + 1).toNat)
          case atStart => exact ⟨l.length, rfl, Nat.le_refl _, Lib.hid (by rw [List.drop_length]; exact OwnK.nil_ obK _ _), K3.out⟩
          case round =>
            obtain ⟨k, rfl, hk, HO, k5⟩ := hrel
            have K5 := Lib.hid k5
            cases k with
            | zero =>
              have i2 : ¬ (0 : Int) ≤ ((0 : Nat) : Int) - 1 := by omega
              have HB := Lib.hid HO.out
              rw [List.drop_zero] at HB
              have O0 := Lib.hid (OwnK.lit (K := obK) wr wr.heap.size (Nat.le_refl _))
              have ka := bAl k5 (.cells #[] 31)
              have KA := Lib.hid ka
              obtain ⟨A7, c7, e7, r7, _, _⟩ := HB.out.form
              rw [List.length_reverse] at e7
              subst e7
              have R7 := Lib.hid r7
              clear r7 k5
              have hd1 : ([] : List Ob).length + l.length ≤ 1000000 := by simp; omega
              have hd2 : wr.heap.size ≤ (wr.alloc (.cells #[] 31)).heap.size := by simp
              go_wp2_with (at_builtin; refine IX.wpList_spreadK obK rfl (.tmp 76) (.tmp 77) rfl wr.heap.size _ [] rfl O0.out (wr.alloc (.cells #[] 31)).heap.size A l.length c l rfl rfl ((H1.out.below ka).more ka.size) hd1 hd2 ?_)
              intro v' w6 o6 g6 _
              have k6 : Below w.heap.size w w6 := KA.out.grown g6 KA.out.size (fun k hk => by have := K5.out.size; simp [Value.ownBlock] at hk; omega)
              have kr : Below wr.heap.size wr w6 := (bAl (Below.refl _ wr) (.cells #[] 31)).grown g6 (by simp) (fun k hk => by simp [Value.ownBlock] at hk; omega)
              obtain ⟨g, cap, C, rfl, hcap, hg, at6, bg6⟩ := own_at o6 (by simpa using (show 0 < l.length by omega))
              have K6 := Lib.hid k6
              have R8 := Lib.hid kr
              have HAT := Lib.hid at6
              have HBG := Lib.hid bg6
              have hgw := Nat.le_trans K5.out.size hg
              clear o6 g6 k6 kr O0 KA ka HO HB at6 bg6
              go_wp2
              refine wp_region_ext (by kernel_rfl) (by kernel_rfl) ?_
              repeat (go_big_quiet_step (fail))
              refine wpQuiet_nil ?_
              rintro _ ⟨y, rfl⟩
              have hat := HAT.out.then y.b
              have K7 : Hid (Below w.heap.size w y.W) := Lib.hid (bThen K6.out y.b)
              have KR := Lib.hid (R8.out.trans (y.b.mono R8.out.size))
              obtain ⟨b, off, rfl, hbk, hc⟩ := obs_at (H1.out.below K7.out) (by omega)
              have HXA := Lib.hid (List.getElem?_eq_getElem hkal)
              have HXB := Lib.hid (List.getElem?_eq_getElem hkbl)
              obtain ⟨c0, c1, c2, c3, c4, c5, c6, c7, c8, c9, c10, c11, c12, c13⟩ := hc ka _ HXA.out
              obtain ⟨d0, d1, d2, d3, d4, d5, d6, d7, d8, d9, d10, d11, d12, d13⟩ := hc kb _ HXB.out
              obtain ⟨C2, at2, bg2⟩ := beg_put (x := l[kb]) HBG.out hat hkal
              obtain ⟨C3, at3, bg3⟩ := beg_put (x := l[ka]) bg2 at2 (by rw [List.length_set]; exact hkbl)
              have hCs : ka * 14 + 14 ≤ C.size := by have := HBG.out.1; omega
              have HCB : Hid (kb * 14 + 14 ≤ C.size) := Lib.hid (by have := HBG.out.1; omega)
              have hCs2 : kb * 14 + 14 ≤ C2.size := by have := bg2.1; rw [List.length_set] at this; omega
              have j1 : (ka : Int) < (l.length : Int) := by omega
              have j2 : (kb : Int) < (l.length : Int) := by omega
              have j3 : (0 : Int) ≤ (ka : Int) := by omega
              have j4 : (0 : Int) ≤ (kb : Int) := by omega
              have HAT2 := Lib.hid hat
              have HAT3 := Lib.hid at2
              have HAT4 := Lib.hid at3
              have HBG3 := Lib.hid bg3
              clear hc HBG HAT bg2 bg3 at2 at3 hat
              generalize l[ka] = xa at *
              generalize l[kb] = xb at *
              have HB1 := Lib.hid (putC_below hgw (obCells xa).toList (kb * 14) (putC_below hgw (obCells xb).toList (ka * 14) K7.out))
              have HB2 := Lib.hid (putC_below hg (obCells xa).toList (kb * 14) (putC_below hg (obCells xb).toList (ka * 14) KR.out))
              obtain ⟨w7, hw7⟩ : ∃ w7, putC (putC y.W g (ka * 14) (obCells xb).toList) g (kb * 14) (obCells xa).toList = w7 := ⟨_, rfl⟩
              rw [hw7] at HB1 HB2 HAT4
              simp only [putC, Nat.add_assoc, Nat.reduceAdd] at hw7
              have HW7 := Lib.hid hw7
              clear hw7
              go_wp2
              have hfz := HAT2.out.f
              have hlt := HAT2.out.lt
              have cA : ∀ i, i < 14 → y.W.cell? ⟨g, ka * 14 + i, none⟩ = some (C[ka * 14 + i]?.getD undef) := fun i hi => by
                rw [HAT2.out.c, Array.getElem?_eq_getElem (by omega)]; rfl
              have cA0 : y.W.cell? ⟨g, ka * 14, none⟩ = some (C[ka * 14]?.getD undef) := cA 0 (by decide)
              have cB : ∀ i, i < 14 → y.W.cell? ⟨g, kb * 14 + i, none⟩ = some (C[kb * 14 + i]?.getD undef) := fun i hi => by
                rw [HAT2.out.c, Array.getElem?_eq_getElem (by have := HCB.out; omega)]; rfl
              have cB0 : y.W.cell? ⟨g, kb * 14, none⟩ = some (C[kb * 14]?.getD undef) := cB 0 (by decide)
              by_cases hab : ka = kb
              · subst hab
                obtain rfl : xa = xb := Option.some.inj (HXA.out.symm.trans HXB.out)
                clear cB cB0 d0 d1 d2 d3 d4 d5 d6 d7 d8 d9 d10 d11 d12 d13
                go_region_law (fail)
                all_goals
                  rw [HW7.out]
                  have R9 := Lib.hid (HBG3.out.rd HAT4.out.drew1)
                  have RB := Lib.hid ((R7.out.below HB2.out.drew).more HB2.out.drew.size)
                  have K9 := Lib.hid HB1.out.drew
                  generalize w7.drew = w9 at *
                  clear HB1 HB2 HAT4 HBG3 HW7 HAT2 HAT3 K7 KR R7 R8 c0 c1 c2 c3 c4 c5 c6 c7 c8 c9 c10 c11 c12 c13 cA cA0 hfz hlt
                  go_wp2_with fail
                  go_at_call 11
                  refine (CB.out _ K9.out _ _ RB.out).mono ?_
                  rintro e x1 ⟨rfl, q⟩
                  have K := Lib.hid (bThen K9.out q)
                  have R9 := Lib.hid (RdK.on R9.out q)
                  have RB := Lib.hid (RdK.on RB.out q)
                  clear q
                  go_wp2_with fail
                  go_at_call 11
                  refine (CC.out _ K.out).mono ?_
                  rintro e x2 ⟨rfl, q⟩
                  have K := Lib.hid (bThen K.out q)
                  have R9 := Lib.hid (RdK.on R9.out q)
                  have RB := Lib.hid (RdK.on RB.out q)
                  clear q
                  go_wp2_with fail
                  go_at_call 11
                  refine (CT.out _ K.out _ _ R9.out).mono ?_
                  rintro e x3 ⟨rfl, q⟩
                  have K := Lib.hid (bThen K.out q)
                  have RB := Lib.hid (RdK.on RB.out q)
                  clear q
                  go_wp2_with fail
                  go_at_call 11
                  refine (CC.out _ K.out).mono ?_
                  rintro e x4 ⟨rfl, q⟩
                  have K := Lib.hid (bThen K.out q)
                  have RB := Lib.hid (RdK.on RB.out q)
                  clear q
                  go_wp2_with fail
                  go_at_call 12
                  refine (CBR.out _ K.out _ _ RB.out).mono ?_
                  rintro e x5 ⟨rfl, q⟩
                  have K := Lib.hid (bThen K.out q)
                  clear q
                  go_wp2_with fail
                  go_at_call 12
                  refine (CR.out _ K.out).mono ?_
                  rintro e x6 ⟨rfl, q⟩
                  have K := Lib.hid (bThen K.out q)
                  clear q
                  go_wp2_with fail
                  go_ret
                  exact ⟨by simp, K.out⟩
              · have n0 : ∀ i j, i < 14 → j < 14 → (kb * 14 + i = ka * 14 + j) = False := fun i j _ _ => by
                  rw [eq_iff_iff, iff_false]; omega
                have n1 : ∀ j, j < 14 → (kb * 14 = ka * 14 + j) = False := fun j _ => by
                  rw [eq_iff_iff, iff_false]; omega
                have n2 : ∀ i, i < 14 → (kb * 14 + i = ka * 14) = False := fun i _ => by
                  rw [eq_iff_iff, iff_false]; omega
                have n3 : (kb * 14 = ka * 14) = False := by
                  rw [eq_iff_iff, iff_false]; omega
                go_region_law (fail)
                all_goals
                  rw [HW7.out]
                  have R9 := Lib.hid (HBG3.out.rd HAT4.out.drew1)
                  have RB := Lib.hid ((R7.out.below HB2.out.drew).more HB2.out.drew.size)
                  have K9 := Lib.hid HB1.out.drew
                  generalize w7.drew = w9 at *
                  clear HB1 HB2 HAT4 HBG3 HW7 HAT2 HAT3 K7 KR R7 R8 c0 c1 c2 c3 c4 c5 c6 c7 c8 c9 c10 c11 c12 c13 d0 d1 d2 d3 d4 d5 d6 d7 d8 d9 d10 d11 d12 d13 cA cA0 cB cB0 hfz hlt n0 n1 n2 n3
                  go_wp2_with fail
                  go_at_call 11
                  refine (CB.out _ K9.out _ _ RB.out).mono ?_
                  rintro e x1 ⟨rfl, q⟩
                  have K := Lib.hid (bThen K9.out q)
                  have R9 := Lib.hid (RdK.on R9.out q)
                  have RB := Lib.hid (RdK.on RB.out q)
                  clear q
                  go_wp2_with fail
                  go_at_call 11
                  refine (CC.out _ K.out).mono ?_
                  rintro e x2 ⟨rfl, q⟩
                  have K := Lib.hid (bThen K.out q)
                  have R9 := Lib.hid (RdK.on R9.out q)
                  have RB := Lib.hid (RdK.on RB.out q)
                  clear q
                  go_wp2_with fail
                  go_at_call 11
                  refine (CT.out _ K.out _ _ R9.out).mono ?_
                  rintro e x3 ⟨rfl, q⟩
                  have K := Lib.hid (bThen K.out q)
                  have RB := Lib.hid (RdK.on RB.out q)
                  clear q
                  go_wp2_with fail
                  go_at_call 11
                  refine (CC.out _ K.out).mono ?_
                  rintro e x4 ⟨rfl, q⟩
                  have K := Lib.hid (bThen K.out q)
                  have RB := Lib.hid (RdK.on RB.out q)
                  clear q
                  go_wp2_with fail
                  go_at_call 12
                  refine (CBR.out _ K.out _ _ RB.out).mono ?_
                  rintro e x5 ⟨rfl, q⟩
                  have K := Lib.hid (bThen K.out q)
                  clear q
                  go_wp2_with fail
                  go_at_call 12
                  refine (CR.out _ K.out).mono ?_
                  rintro e x6 ⟨rfl, q⟩
                  have K := Lib.hid (bThen K.out q)
                  clear q
                  go_wp2_with fail
                  go_ret
                  exact ⟨by simp, K.out⟩
            | succ k =>
              have i2 : (0 : Int) ≤ ((k + 1 : Nat) : Int) - 1 := by omega
              have i3 : ((k + 1 : Nat) : Int) - 1 = (k : Int) := by omega
              have hlk : k < l.length := by omega
              have i4 : (k : Int) < (l.length : Int) := by omega
              have i5 : (0 : Int) ≤ (k : Int) := by omega
              have hw5 : IntKind.i64.wrap ((k : Int) - 1) = (k : Int) - 1 := IntWalk.i64_in _ (by omega)
              obtain ⟨b, off, rfl, hbk, hc⟩ := obs_at (H1.out.below k5) (by omega)
              obtain ⟨c0, c1, c2, c3, c4, c5, c6, c7, c8, c9, c10, c11, c12, c13⟩ := hc k _ (List.getElem?_eq_getElem hlk)
              have HBN := Lib.hid (back_next hlk)
              have hln : (l.drop (k + 1)).reverse.length ≤ 100 := by rw [List.length_reverse, List.length_drop]; omega
              have HLN := Lib.hid hln
              clear hc hln
              rw [i3] at *
              generalize l[k] = x at *
              generalize (l.drop (k + 1)).reverse = t at *
              have HO2 := Lib.hid (HO.out.below (bAl (Below.refl _ wr) (.cells (obCells x) 31)))
              have hz8 : w.heap.size ≤ (wr.alloc (.cells (obCells x) 31)).heap.size := by have := K5.out.size; simp; omega
              go_wp2_with (at_builtin; refine IX.wpList_spreadK obK rfl (.tmp 66) (.tmp 71) rfl w.heap.size _ t rfl HO2.out (wr.heap.size + 1) (some ⟨wr.heap.size, 0, none⟩) 1 1 [x] rfl rfl (RdK.lit wr x (obCells x) rfl _) ?c1 hz8 ?_)
              case c1 => have := HLN.out; simp; omega
              intro v' w9 o9 g9 _
              have K9 := Lib.hid ((bAl K5.out (.cells (obCells x) 31)).grown g9 hz8 (fun i hi => (HO2.out.lt i hi).1))
              have O9 := Lib.hid o9
              clear o9 g9 c0 c1 c2 c3 c4 c5 c6 c7 c8 c9 c10 c11 c12 c13
              go_wp2
              go_roundw
              case rel => exact ⟨k, by go_num, by omega, Lib.hid (by rw [← HBN.out]; exact O9.out), K9.out⟩
              case measure => simp [intOf]
end Go.Proofs.YthlalmoapbdccaaDoor.WX
