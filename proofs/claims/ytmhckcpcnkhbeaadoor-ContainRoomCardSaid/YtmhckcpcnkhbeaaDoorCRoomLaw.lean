/-
  WALK: the law ContainRoom.
-/
import Derived.Test.YtmhckcpcnkhbeaaDoorCAwake
namespace Go.Proofs.YtmhckcpcnkhbeaaDoor
open Go.RowKit
set_option maxRecDepth 100000
set_option linter.unusedVariables false
set_option linter.unusedSimpArgs false

theorem cnt_perm {l m : List Nat} (h : l.Perm m) (g : Nat) : cnt l g = cnt m g := (h.filter _).length_eq
theorem all_perm {l m : List Nat} (h : l.Perm m) : l.all kdB = m.all kdB := by
  rw [Bool.eq_iff_iff, List.all_eq_true, List.all_eq_true]
  exact ⟨fun q x hx => q x (h.mem_iff.2 hx), fun q x hx => q x (h.mem_iff.1 hx)⟩
theorem over_perm {l m : List Nat} (h : l.Perm m) : overB l = overB m := by
  unfold overB
  congr 1
  funext g
  rw [cnt_perm h g]
theorem count_perm {l m : List Nat} (h : l.Perm m) : countE l = countE m := by unfold countE; rw [all_perm h, over_perm h]
theorem room_perm {l m : List Nat} (h : l.Perm m) (k : Nat) : roomE k l = roomE k m := by unfold roomE; rw [all_perm h, cnt_perm h]
theorem cnt_add (l : List Nat) (k g : Nat) : cnt (l ++ [k]) g = cnt l g + if grp k = g then 1 else 0 := by
  unfold cnt
  rw [List.filter_append, List.length_append]
  by_cases e : grp k = g <;> simp [e]
theorem over_iff (l : List Nat) : overB l = true ↔ ∃ g, g < 10 ∧ most g < cnt l g := by
  unfold overB
  rw [List.any_eq_true]
  constructor
  · rintro ⟨g, h1, h2⟩; exact ⟨g, by simpa using h1, by simpa using h2⟩
  · rintro ⟨g, h1, h2⟩; exact ⟨g, by simpa using h1, by simpa using h2⟩
/-- What the law asks of Count, Room, and of Count of one more. -/
theorem room_law (l : List Nat) (k : Nat) : (countE l = 0 → countE (l ++ [k]) = roomE k l ∧ (countE (l ++ [k]) = 0 → grp k ≠ 0)) ∧ (countE l ≠ 0 → countE (l ++ [k]) ≠ 0) := by
  have hall : (l ++ [k]).all kdB = (l.all kdB && kdB k) := by simp [List.all_append]
  unfold countE roomE
  rw [hall]
  cases hl : l.all kdB with
  | false => simp
  | true =>
    cases hk : kdB k with
    | false => simp
    | true =>
      simp only [Bool.and_self, if_true]
      have hgk := grp_pos hk
      have ho : overB (l ++ [k]) = true ↔ overB l = true ∨ most k ≤ cnt l (grp k) := by
        rw [over_iff, over_iff]
        constructor
        · rintro ⟨g, h1, h2⟩
          rw [cnt_add] at h2
          by_cases e : grp k = g
          · subst e
            rw [if_pos rfl, show most (grp k) = most k by unfold most; rw [show grp (grp k) = grp k from by
              have := kdB_iff.1 hk
              exact (show ∀ k, k < 10 → grp (grp k) = grp k by decide +kernel) k (by omega)]] at h2
            exact .inr (by omega)
          · rw [if_neg e] at h2
            exact .inl ⟨g, h1, by omega⟩
        · rintro (⟨g, h1, h2⟩ | h)
          · exact ⟨g, h1, by rw [cnt_add]; omega⟩
          · refine ⟨grp k, by omega, ?_⟩
            rw [cnt_add, if_pos rfl, show most (grp k) = most k by unfold most; rw [show grp (grp k) = grp k from by
              have := kdB_iff.1 hk
              exact (show ∀ k, k < 10 → grp (grp k) = grp k by decide +kernel) k (by omega)]]
            omega
      cases hol : overB l with
      | true =>
        rw [hol] at ho
        rw [ho.2 (.inl rfl)]
        simp
      | false =>
        rw [hol] at ho
        by_cases hm : most k ≤ cnt l (grp k)
        · rw [ho.2 (.inr hm)]; simp [hm]
        · have : overB (l ++ [k]) = false := by
            cases h : overB (l ++ [k]) with
            | false => rfl
            | true => rcases ho.1 h with q | q
                      · cases q
                      · exact absurd q hm
          rw [this]; simp [hm]; omega
theorem room_less (x k : Nat) (l : List Nat) (h : roomE k (x :: l) = 0) : roomE k l = 0 := by
  unfold roomE at *
  have hc : cnt l (grp k) ≤ cnt (x :: l) (grp k) := by
    unfold cnt
    rw [List.filter_cons]
    split <;> simp
  rw [List.all_cons] at h
  cases h1 : kdB x <;> cases h2 : l.all kdB <;> cases h3 : kdB k <;> simp [h1, h2, h3] at h ⊢
  omega
theorem elem_u8s : Tryd.prog.elem 22 = 5 := by kernel_rfl
theorem under_u8s : Tryd.prog.underlying 22 = some (.slice (Tryd.prog.elem 22)) := by kernel_rfl
theorem size_u8 (W : World) : (sizeOf 5).run Tryd.prog W = .ok 1 W := by kernel_rfl
/-- l[p:], whatever the row. -/
theorem slice_fromU {w : World} {B c p : Nat} {A : Option Addr} {l : List Nat} (h : RdU w B A l) (hc : l.length ≤ c) (hp : p ≤ l.length) :
    ∃ A2 c2, (∀ W, (Instr.slice 22 (.slice A l.length c) (some (.int .i64 p)) none none).run Tryd.prog W = .ok (.slice A2 (l.length - p) c2) W) ∧ RdU w B A2 (l.drop p) := by
  refine ⟨if c = p then A else A.map (·.add p), c - p, fun W => ?_, ?_⟩
  · rw [run_slice_l W 22 A l.length c under_u8s .i64 (p : Int) (by omega) (by omega), elem_u8s, size_u8]
    simp [Result.andThen, sliced]
  · by_cases e : p = l.length
    · exact .inl (List.drop_eq_nil_of_le (by omega))
    · rw [if_neg (by omega)]
      obtain ⟨b, o, rfl, hb, hcell⟩ := h.at_ (by omega)
      refine .inr ⟨b, o + p, ?_, hb, fun j x hx => ?_⟩
      · unfold Addr.add
        simp only [Option.map_some]
        split
        · rename_i h0; subst h0; rfl
        · rfl
      · rw [List.getElem?_drop] at hx
        rw [Nat.add_assoc]; exact hcell _ _ hx
/-- 'append([]uint8{}, l...)', whatever the row: a row of the call's own. -/
theorem run_copyU (w : World) (ty : TypeId) {B : Nat} {A : Option Addr} {l : List Nat} (h : RdU w B A l) (hB : B ≤ w.heap.size) (c : Nat) (hl : l.length ≤ 1000000) :
    ∃ v' w', (Builtin.append_ #[22, 22] ty #[.slice (some ⟨w.heap.size, 0, none⟩) 0 0, .slice A l.length c]).run Tryd.prog (w.alloc (.cells #[] 5)) = .ok v' w' ∧ OwnU w' w.heap.size v' l ∧ Below w.heap.size w w' := by
  obtain ⟨i0, hi, hz0, hz1, hz2⟩ := info_parts info_u8
  have hown : (w.alloc (.cells #[] 5)).ownsRow w.heap.size 5 1 (.slice (some ⟨w.heap.size, 0, none⟩) 0 0) 0 [] := World.ownsRow_lit w #[] 0 (Nat.le_refl _) (Nat.zero_le _) rfl
  have hb0 : Below w.heap.size w (w.alloc (.cells #[] 5)) := bAl (Below.refl _ _) _
  by_cases h0 : l = []
  · subst h0
    have hr : (Builtin.append_ #[22, 22] ty #[.slice (some ⟨w.heap.size, 0, none⟩) 0 0, .slice A 0 c]).run Tryd.prog (w.alloc (.cells #[] 5)) = .ok (.slice (some ⟨w.heap.size, 0, none⟩) 0 0) (w.alloc (.cells #[] 5)) := by
      cases A <;> simp [Builtin.append_, run_underlying Tryd.underlying22, sizeOf, typeInfo, hi, Builtin.lenOf, Builtin.firstCells, loadCells, loadCellsFrom, storeCells]
    exact ⟨_, _, hr, hown, hb0⟩
  · obtain ⟨b, o, rfl, hb, hcell⟩ := h.at_ (List.length_pos_iff.2 h0)
    obtain ⟨v', w', hrun, h2, h3, _⟩ := run_append_own (P := Tryd.prog) (w.alloc (.cells #[] 5)) w.heap.size 22 ty 5 i0 (.int .u8 0) 1 1 Tryd.underlying22 hi hz0 hz1 hz2 rfl (by decide) _ 0 [] hown ⟨b, o, none⟩ l.length c (l.map u8) (by simp) (by
      intro j u hu
      rw [List.getElem?_map] at hu
      obtain ⟨x, hx, rfl⟩ := Option.map_eq_some_iff.1 hu
      rw [show (⟨b, o, none⟩ : Addr).add j = ⟨b, o + j, none⟩ by unfold Addr.add; split <;> simp_all]
      rw [World.cell?_alloc_past _ _ _ (by show b < _; omega)]
      exact hcell j x hx) (by intro u hu; obtain ⟨x, _, rfl⟩ := List.mem_map.1 hu; rfl) (by unfold maxLen; omega) (by omega) (by simp)
    refine ⟨v', w', hrun, by unfold OwnU; simpa using h2, hb0.grown h3 (by simp) (fun k hk => by simp [Value.ownBlock] at hk; omega)⟩
theorem back_step {l : List Nat} {q : Nat} (h : q < l.length) : (l.drop (q + 1)).reverse ++ [l[q]] = (l.drop q).reverse := by
  rw [List.drop_eq_getElem_cons h, List.reverse_cons]
set_option maxHeartbeats 8000000 in
theorem room_walk {A : Option Addr} (l : List Nat) (c k : Nat) (w : World) (hk : k ≤ 255) (hr : RdU w w.heap.size A l) (hx : ∀ x ∈ l, x ≤ 255) (hm : l.length ≤ maxLen) (hc : l.length ≤ c) (hw : Tables w) :
    Calls Tryd.prog 7 #[.slice A l.length c, .int .u8 k] w fun e w' => e = .returned (.bool true) ∧ Below w.heap.size w w' := by
  unfold maxLen at hm
  have hb : Below w.heap.size w w := Below.refl _ _
  have CA := Lib.hid (awake_any w hw)
  by_cases hl : 200 < l.length
  · have i1 : (200 : Int) < l.length := by omega
    clear hw hr hx
    go_enter Tryd.func7, Tryd.ntmps7
    go_wp2_with (go_at_call 33; ((with_reducible refine CA.out.mono ?_); rintro e w1 ⟨rfl, k1⟩; replace hb := bThen hb k1))
    go_ret
    exact ⟨rfl, hb⟩
  · have i1 : ¬ (200 : Int) < l.length := by omega
    have C1 := Lib.hid (fun W (q : Below w.heap.size w W) => count_any l c w.heap.size W (hr.below q) q.size hx (by omega) (hw.then q))
    have C2 := Lib.hid (fun W (q : Below w.heap.size w W) => room_any k l c w.heap.size W hk (hr.below q) q.size hx (by omega) (hw.then q))
    have HR := Lib.hid hr
    have HX := Lib.hid hx
    have HW := Lib.hid hw
    have HLW := Lib.hid (room_law l k)
    have HLS := Lib.hid (room_less · k ·)
    have PE := Lib.hid (fun m (h : l.Perm m) => And.intro (count_perm h) (room_perm h k))
    clear hr hx hw
    go_enter Tryd.func7, Tryd.ntmps7
    go_wp2_with (first
      | (go_at_call 33; ((with_reducible refine CA.out.mono ?_); rintro e w1 ⟨rfl, k1⟩; replace hb := bThen hb k1))
      | (go_at_call 26; ((with_reducible refine (C1.out _ hb).mono ?_); rintro e w2 ⟨rfl, k2⟩; replace hb := bThen hb k2))
      | (go_at_call 28; ((with_reducible refine (C2.out _ hb).mono ?_); rintro e w3 ⟨rfl, k3⟩; replace hb := bThen hb k3)))
    clear k1 k2 k3
    go_loopw [7, 8] (fun v i wr => ∃ m : Nat, m ≤ l.length ∧ i = .int .i64 ((m : Int) - 1) ∧ OwnU wr w3.heap.size v (l.drop m).reverse ∧ Below w3.heap.size w3 wr) (fun _ i _ => ((intOf i) + 1).toNat)
    case atStart => exact ⟨l.length, Nat.le_refl _, rfl, by rw [List.drop_length]; exact OwnU.nil_ _ _, Below.refl _ _⟩
    case round =>
      obtain ⟨m, hml, hi, hown, hbr⟩ := hrel
      have hbw := bThen hb hbr
      have HO := Lib.hid hown
      clear hown
      rcases m with _ | q
      · have hi2 : u8 = .int .i64 (-1) := by rw [hi]; rfl
        clear hi
        subst hi2
        have hO := HO.out
        rw [List.drop_zero] at hO
        obtain ⟨Ab, cb, hu7, rb, _, _⟩ := hO.form
        rw [List.length_reverse] at hu7
        have C3 := Lib.hid (fun W (q : Below wr.heap.size wr W) => by
          have := count_any l.reverse cb wr.heap.size W (rb.below q) q.size (fun x hx => HX.out x (List.mem_reverse.1 hx)) (by rw [List.length_reverse]; omega) (HW.out.then (bThen hbw q))
          rw [List.length_reverse, ← (PE.out _ (List.reverse_perm l).symm).1] at this
          exact this)
        have C4 := Lib.hid (fun W (q : Below wr.heap.size wr W) => by
          have := room_any k l.reverse cb wr.heap.size W hk (rb.below q) q.size (fun x hx => HX.out x (List.mem_reverse.1 hx)) (by rw [List.length_reverse]; omega) (HW.out.then (bThen hbw q))
          rw [List.length_reverse, ← (PE.out _ (List.reverse_perm l).symm).2] at this
          exact this)
        have CG := Lib.hid (fun W (q : Below w.heap.size w W) => group_any k W hk (HW.out.then q))
        have HD : Hid (l ≠ [] → roomE k l = 0 → roomE k (l.drop 1) = 0) := Lib.hid (fun h1 h2 => by
          cases l with
          | nil => exact absurd rfl h1
          | cons x t => exact HLS.out x t h2)
        have C6 : Hid (∀ (A6 : Option Addr) (c6 B : Nat) (W : World), RdU W B A6 (l ++ [k]) → B ≤ W.heap.size → Below w.heap.size w W → Calls Tryd.prog 26 #[.slice A6 (l.length + 1) c6] W fun e w' => e = .returned (.int .i64 (countE (l ++ [k]))) ∧ Below W.heap.size W w') := Lib.hid (fun A6 c6 B W r6 hB q => by
          have hl1 : (l ++ [k]).length = l.length + 1 := by simp
          have := count_any (l ++ [k]) c6 B W r6 hB (fun x hx => by
            rcases List.mem_append.1 hx with h | h
            · exact HX.out x h
            · simp at h; omega) (by rw [hl1]; omega) (HW.out.then q)
          rw [hl1] at this
          exact this)
        clear hO rb HLS PE CA C1 C2 HO
        subst hu7
        go_wp2_with (go_at_call 26; ((with_reducible refine (C3.out _ (Below.refl _ _)).mono ?_); rintro e w4 ⟨rfl, k4⟩))
        go_at_call 28
        with_reducible refine (C4.out _ k4).mono ?_
        rintro e w5 ⟨rfl, k5⟩
        have hb5 := bThen (bThen hbw k4) k5
        obtain ⟨v6, w6, hrun, o6, k6⟩ := run_copyU w5 22 (HR.out.below hb5) hb5.size c (by omega)
        have hb6 := bThen hb5 k6
        have HRUN := Lib.hid hrun
        have HO6 := Lib.hid o6
        have K6 := Lib.hid k6
        clear hrun o6 k6 C3 C4 k4 k5
        have HB6 : Hid (w5.heap.size ≤ w6.heap.size) := Lib.hid K6.out.size
        go_wp2_with (first
          | (at_builtin; refine wpList_run (by rfl) (.tmp 46) (.tmp 47) rfl _ _ _ _ rfl rfl HRUN.out ?_)
          | (at_builtin; refine wpList_one w6 rfl (.tmp 48) (.tmp 50) rfl w5.heap.size v6 l rfl HO6.out k rfl ?c1 HB6.out ?_))
        case c1 => omega
        intro v7 w7 o7 k7
        have hb7 : Below w.heap.size w w7 := hb6.trans (k7.mono hb5.size)
        obtain ⟨Am, cm, hv7, rm, _, _⟩ := o7.form
        have C8 := Lib.hid (C6.out Am cm w7.heap.size w7 rm (Nat.le_refl _) hb7)
        have e7 : v7 = .slice Am (l.length + 1) cm := by rw [hv7]; simp
        clear o7 rm hv7 k7 C6 HRUN HO6 K6 HB6
        subst e7
        have C70 : Hid (l ≠ [] → roomE k l = 0 → ∃ A5 c5, (∀ W, (Instr.slice 22 (.slice A l.length c) (some (.int .i64 1)) none none).run Tryd.prog W = .ok (.slice A5 (l.length - 1) c5) W) ∧ ∀ W, Below w.heap.size w W → Calls Tryd.prog 28 #[.int .u8 k, .slice A5 (l.length - 1) c5] W fun e w' => e = .returned (.int .i64 0) ∧ Below W.heap.size W w') := Lib.hid (fun h1 h2 => by
          obtain ⟨A5, c5, hsl0, r5⟩ := slice_fromU (p := 1) HR.out hc (List.length_pos_iff.2 h1)
          refine ⟨A5, c5, hsl0, fun W q => ?_⟩
          have hdl : (l.drop 1).length = l.length - 1 := by rw [List.length_drop]
          have := room_any k (l.drop 1) c5 w.heap.size W hk (r5.below q) q.size (fun x hx => HX.out x (List.mem_of_mem_drop hx)) (by omega) (HW.out.then q)
          rw [hdl, HD.out h1 h2] at this
          exact this)
        generalize hE : countE l = e0 at *
        generalize roomE k l = f at *
        generalize countE (l ++ [k]) = g at *
        generalize grp k = gr at *
        clear hE HD
        have hb8 := hb7
        go_wp2_with fail
        go_at_call 26
        with_reducible refine C8.out.mono ?_
        rintro e w8 ⟨rfl, k8⟩
        replace hb8 := bThen hb8 k8
        clear C8
        by_cases he : e0 = 0
        · by_cases hf : f = 0
          · by_cases hnil : l = []
            · have je : ((e0 : Int) == 0) = true := by simp; omega
              have je2 : ((e0 : Int) != 0) = false := by simp; omega
              have hgf := (HLW.out.1 he).1
              have jg1 : ((g : Int) != (f : Int)) = false := by simp; omega
              have jg3 : ((g : Int) == (f : Int)) = true := by simp; omega
              have jg2 : ((g : Int) == 0) = true := by simp; omega
              have hgr := (HLW.out.1 he).2 (by omega)
              have jr : ((gr : Int) == 0) = false := by simp; omega
              have jf : ((f : Int) != 0) = false := by simp; omega
              have jf2 : ((f : Int) == 0) = true := by simp; omega
              have jl : ((l.length : Int) == 0) = true := by simp [hnil]
              clear he hf hnil hgf hgr
              go_wp2_with (first
                | (go_at_call 22; ((with_reducible refine (CG.out _ hb8).mono ?_); rintro e1 w9 ⟨rfl, k9⟩; replace hb8 := bThen hb8 k9)))
              all_goals (go_ret; exact ⟨rfl, hb8⟩)
            · have je : ((e0 : Int) == 0) = true := by simp; omega
              have je2 : ((e0 : Int) != 0) = false := by simp; omega
              have hgf := (HLW.out.1 he).1
              have jg1 : ((g : Int) != (f : Int)) = false := by simp; omega
              have jg3 : ((g : Int) == (f : Int)) = true := by simp; omega
              have jg2 : ((g : Int) == 0) = true := by simp; omega
              have hgr := (HLW.out.1 he).2 (by omega)
              have jr : ((gr : Int) == 0) = false := by simp; omega
              have jf : ((f : Int) != 0) = false := by simp; omega
              have jf2 : ((f : Int) == 0) = true := by simp; omega
              have jl : ((l.length : Int) == 0) = false := by rw [beq_eq_false_iff_ne]; have := List.length_pos_iff.2 hnil; omega
              obtain ⟨A5, c5, hsl, C7'⟩ := C70.out hnil hf
              have C7 := Lib.hid C7'
              clear C7'
              clear he hf hnil hgf hgr
              go_wp2_with (first
                | (go_at_call 22; ((with_reducible refine (CG.out _ hb8).mono ?_); rintro e1 w9 ⟨rfl, k9⟩; replace hb8 := bThen hb8 k9))
                | (go_at_call 28; ((with_reducible refine (C7.out _ hb8).mono ?_); rintro e1 w9 ⟨rfl, k9⟩; replace hb8 := bThen hb8 k9)))
              all_goals (go_ret; exact ⟨rfl, hb8⟩)
          · have je : ((e0 : Int) == 0) = true := by simp; omega
            have je2 : ((e0 : Int) != 0) = false := by simp; omega
            have hgf := (HLW.out.1 he).1
            have jg1 : ((g : Int) != (f : Int)) = false := by simp; omega
            have jg3 : ((g : Int) == (f : Int)) = true := by simp; omega
            have jg2 : ((g : Int) == 0) = false := by simp; omega
            have jf : ((f : Int) != 0) = true := by simp; omega
            have jf2 : ((f : Int) == 0) = false := by simp; omega
            clear he hf hgf
            go_wp2_with (first
              | (go_at_call 22; ((with_reducible refine (CG.out _ hb8).mono ?_); rintro e1 w9 ⟨rfl, k9⟩; replace hb8 := bThen hb8 k9)))
            all_goals (go_ret; exact ⟨rfl, hb8⟩)
        · by_cases hf : f = 0
          · by_cases hnil : l = []
            · have je : ((e0 : Int) == 0) = false := by simp; omega
              have je2 : ((e0 : Int) != 0) = true := by simp; omega
              have hgn := HLW.out.2 he
              have jg2 : ((g : Int) == 0) = false := by simp; omega
              have jf : ((f : Int) != 0) = false := by simp; omega
              have jf2 : ((f : Int) == 0) = true := by simp; omega
              have jl : ((l.length : Int) == 0) = true := by simp [hnil]
              clear he hf hnil hgn
              go_wp2_with (first
                | (go_at_call 22; ((with_reducible refine (CG.out _ hb8).mono ?_); rintro e1 w9 ⟨rfl, k9⟩; replace hb8 := bThen hb8 k9)))
              all_goals (go_ret; exact ⟨rfl, hb8⟩)
            · have je : ((e0 : Int) == 0) = false := by simp; omega
              have je2 : ((e0 : Int) != 0) = true := by simp; omega
              have hgn := HLW.out.2 he
              have jg2 : ((g : Int) == 0) = false := by simp; omega
              have jf : ((f : Int) != 0) = false := by simp; omega
              have jf2 : ((f : Int) == 0) = true := by simp; omega
              have jl : ((l.length : Int) == 0) = false := by rw [beq_eq_false_iff_ne]; have := List.length_pos_iff.2 hnil; omega
              obtain ⟨A5, c5, hsl, C7'⟩ := C70.out hnil hf
              have C7 := Lib.hid C7'
              clear C7'
              clear he hf hnil hgn
              go_wp2_with (first
                | (go_at_call 22; ((with_reducible refine (CG.out _ hb8).mono ?_); rintro e1 w9 ⟨rfl, k9⟩; replace hb8 := bThen hb8 k9))
                | (go_at_call 28; ((with_reducible refine (C7.out _ hb8).mono ?_); rintro e1 w9 ⟨rfl, k9⟩; replace hb8 := bThen hb8 k9)))
              all_goals (go_ret; exact ⟨rfl, hb8⟩)
          · have je : ((e0 : Int) == 0) = false := by simp; omega
            have je2 : ((e0 : Int) != 0) = true := by simp; omega
            have hgn := HLW.out.2 he
            have jg2 : ((g : Int) == 0) = false := by simp; omega
            have jf : ((f : Int) != 0) = true := by simp; omega
            have jf2 : ((f : Int) == 0) = false := by simp; omega
            clear he hf hgn
            go_wp2_with (first
              | (go_at_call 22; ((with_reducible refine (CG.out _ hb8).mono ?_); rintro e1 w9 ⟨rfl, k9⟩; replace hb8 := bThen hb8 k9)))
            all_goals (go_ret; exact ⟨rfl, hb8⟩)
      · have hi2 : u8 = .int .i64 (q : Int) := by rw [hi]; congr 1 <;> omega
        clear hi
        subst hi2
        have hq : q < l.length := by omega
        obtain ⟨b, o, rfl, hbl, hcc⟩ := HR.out.at_ (by omega)
        have hx := (hbw.cell (p := ⟨b, o + q, none⟩) hbl).trans (hcc q _ (List.getElem?_eq_getElem hq))
        have HS := Lib.hid (back_step hq)
        have hln : (l.drop (q + 1)).reverse.length ≤ 1000000 := by rw [List.length_reverse, List.length_drop]; omega
        have j1 : (q : Int) < l.length := by omega
        clear hcc
        generalize l[q] = x at *
        go_wp2_with (at_builtin; refine wpList_one wr rfl (.tmp 28) (.tmp 33) rfl w3.heap.size u7 _ rfl HO.out x rfl hln hbr.size ?_)
        intro v' w4 o4 k4
        have HO4 := Lib.hid o4
        clear o4
        go_wp2
        go_roundw
        case rel => exact ⟨q, by omega, rfl, by rw [← HS.out]; exact HO4.out, hbr.trans k4⟩
        case measure => simp [intOf] <;> omega
end Go.Proofs.YtmhckcpcnkhbeaaDoor
