/-
  WALK: the law ChangeOrder.
-/
import Derived.Test.YtncahpbjbgcnbaaGreatDoorEODAll
namespace Go.Proofs.YtncahpbjbgcnbaaGreatDoor.DX
open Go.RowKit HL
open IX (ptr El cellsK cellsK_at OwnK RdK strK slice_fromK slice_toK)
open WX (obK obs_at hb pb rb tl_ne bs_eq)
open KX (Sorted)
set_option maxRecDepth 100000
set_option linter.unusedVariables false
set_option linter.unusedSimpArgs false

theorem rd_none {α : Type} {K : El α} {w : World} {B : Nat} {A : Option Addr} {l : List α} (h : RdK K w B A l) : A = none → l = [] := fun e => by
  rcases h with h | ⟨b, off, e2, _⟩
  · exact h
  · rw [e] at e2; cases e2
theorem rd_take {α : Type} {K : El α} {w : World} {B : Nat} {A : Option Addr} {l : List α} (h : RdK K w B A l) (k : Nat) : RdK K w B A (l.take k) := by
  rcases h with rfl | ⟨b, off, e, hb, hc⟩
  · exact .inl (by simp)
  · refine .inr ⟨b, off, e, hb, fun m u hu => hc m u ?_⟩
    have e2 : cellsK K l = cellsK K (l.take k) ++ cellsK K (l.drop k) := by rw [← IX.cellsK_app, List.take_append_drop]
    rw [e2, List.getElem?_append_left (List.getElem?_eq_some_iff.1 hu).1]
    exact hu
theorem sorted_len {l l' : List Ob} (h : Sorted l l') : l'.length = l.length := by
  obtain ⟨T, hp, _, rfl⟩ := h
  have := hp.length_eq
  rw [KX.numb_length] at this
  simp [KX.mapF, ← this]
theorem place_of (i : Int) (n : Nat) (hn : n ≤ 1000) : ∃ (u : Int) (k : Nat), IntKind.u64.wrap i = u ∧ 0 ≤ u ∧ (u % ((n : Int) + 1)) = (k : Int) ∧ k ≤ n := by
  have h0 : (0 : Int) ≤ IntKind.u64.wrap i := by
    simp only [IntKind.wrap]
    exact Int.emod_nonneg _ (by decide)
  refine ⟨IntKind.u64.wrap i, (IntKind.u64.wrap i % ((n : Int) + 1)).toNat, rfl, h0, ?_, ?_⟩
  · have := Int.emod_nonneg (IntKind.u64.wrap i) (b := (n : Int) + 1) (by omega)
    omega
  · have := Int.emod_lt_of_pos (IntKind.u64.wrap i) (b := (n : Int) + 1) (by omega)
    have := Int.emod_nonneg (IntKind.u64.wrap i) (b := (n : Int) + 1) (by omega)
    omega
theorem apply_form {A1 A2 : Option Addr} (l : List Ob) (s : List Ch) (c1 c2 n p : Nat) (w : World) (hn : l.length = n) (hp : s.length = p) (hr : RdK obK w w.heap.size A1 l) (hl : n ≤ 90000) (h : RdK chK w w.heap.size A2 s) (hs : p ≤ 1000) (hM : ∀ c ∈ s, MeetsC c w)
    (hE : fitsE l s = 0) :
    Calls Tryz.prog 10 #[.slice A1 n c1, .slice A2 p c2] w fun e w' => ∃ A3 c3 m a, e = .returned (.tuple #[.slice A3 m c3, .int .i64 0]) ∧ (a.length = m ∧ m ≤ n + 1000 ∧ Sorted (s.foldl putP l) a) ∧ RdK obK w' w'.heap.size A3 a ∧ Below w.heap.size w w' := by
  subst hn hp
  refine (apply_any l s c1 c2 w hr (rd_none hr) hl h hs hM hE).mono fun e w' ⟨A3, c3, a, h1, h2, h3, k⟩ => ⟨A3, c3, _, a, h1, ⟨sorted_len h2, ?_, h2⟩, h3, k⟩
  have := foldl_putP_len s l
  omega
theorem apply_none {A1 A2 : Option Addr} (l : List Ob) (s : List Ch) (c1 c2 n p : Nat) (w : World) (hn : l.length = n) (hp : s.length = p) (hr : RdK obK w w.heap.size A1 l) (hl : n ≤ 90000) (h : RdK chK w w.heap.size A2 s) (hs : p ≤ 1000) (hM : ∀ c ∈ s, MeetsC c w)
    (hE : ¬ fitsE l s = 0) :
    Calls Tryz.prog 10 #[.slice A1 n c1, .slice A2 p c2] w fun e w' => e = .returned (.tuple #[.slice none 0 0, .int .i64 (fitsE l s)]) ∧ Below w.heap.size w w' := by
  subst hn hp
  exact apply_no l s c1 c2 w hr (by omega) h hs hM hE
theorem rising_ex (A : Option Addr) (c n : Nat) (l : List Ob) (w : World) (hn : l.length = n) (h : RdK obK w w.heap.size A l) (hl : n ≤ 1000000) (hs : ∀ o ∈ l, o.handle.size ≤ maxLen) :
    Calls Tryz.prog 17 #[.slice A n c] w fun e w' => (∃ b, e = .returned (.bool b)) ∧ Below w.heap.size w w' := by
  subst hn
  exact (rising10_any A c l w h hl hs).mono fun e w' ⟨h1, h2⟩ => ⟨h1.elim (fun h => ⟨false, h⟩) (fun h => ⟨true, h⟩), h2⟩
set_option maxHeartbeats 16000000 in
theorem order_walk (A1 A2 : Option Addr) (c1 c2 : Nat) (l : List Ob) (s : List Ch) (i : Int) (w : World) (h1 : RdK obK w w.heap.size A1 l) (h2 : RdK chK w w.heap.size A2 s) (n1 : l.length ≤ maxLen) (n2 : s.length ≤ maxLen) (hc2 : s.length ≤ c2)
    (hF : ∀ c ∈ s, c.kind ≤ 255 ∧ Fine c.o) (ht : Words w ∧ Kinds w) :
    Calls Tryz.prog 6 #[.slice A1 l.length c1, .slice A2 s.length c2, .int .i64 i] w fun e w' => e = .returned (.bool true) ∧ Below w.heap.size w w' := by
  have CA := Lib.hid (awake10_any w ht)
  have L1 := Lib.hid (fun W (k : Below w.heap.size w W) => longO_any A1 c1 l W ((h1.below k).more k.size) n1)
  have L2 := Lib.hid (fun W (k : Below w.heap.size w W) => longC_any A2 c2 s W ((h2.below k).more k.size) n2)
  cases e1 : longO l with
  | true =>
    rw [e1] at L1
    clear e1 h1 h2 hF ht
    go_enter Tryz.func6, Tryz.ntmps6
    go_wp2_with (first
      | (go_at_call 16; ((with_reducible refine CA.out.mono ?_); rintro e w1 ⟨rfl, k1⟩))
      | (go_at_call 7; ((with_reducible refine (L1.out _ k1).mono ?_); rintro e w2 ⟨rfl, q2⟩; have k2 := bThen k1 q2)))
    go_ret
    exact ⟨rfl, k2⟩
  | false =>
    cases e2 : longC s with
    | true =>
      rw [e1] at L1
      rw [e2] at L2
      clear e1 e2 h1 h2 hF ht
      go_enter Tryz.func6, Tryz.ntmps6
      go_wp2_with (first
        | (go_at_call 16; ((with_reducible refine CA.out.mono ?_); rintro e w1 ⟨rfl, k1⟩))
        | (go_at_call 7; ((with_reducible refine (L1.out _ k1).mono ?_); rintro e w2 ⟨rfl, q2⟩; have k2 := bThen k1 q2))
        | (go_at_call 8; ((with_reducible refine (L2.out _ k2).mono ?_); rintro e w3 ⟨rfl, q3⟩; have k3 := bThen k2 q3)))
      go_ret
      exact ⟨rfl, k3⟩
    | false =>
      have nl := (longO_out e1).1
      have nm := (longC_out e2).1
      have hM := meetsC_of e2 hF ht
      have hsh : ∀ o ∈ l, o.handle.size ≤ maxLen := fun o ho => Nat.le_trans (longB_out ((longO_out e1).2 o ho)).1 (by unfold maxLen; omega)
      have hMk : ∀ W, Below w.heap.size w W → ∀ c ∈ s, MeetsC c W := fun W k c hc => (hM c hc).then k
      have hRB : ∀ c ∈ s.reverse, c ∈ s := fun c hc => List.mem_reverse.1 hc
      have H1 := Lib.hid h1
      have H2 := Lib.hid h2
      obtain ⟨n, hn⟩ : ∃ n, l.length = n := ⟨_, rfl⟩
      obtain ⟨p, hp⟩ : ∃ p, s.length = p := ⟨_, rfl⟩
      have hpr : s.reverse.length = p := by rw [List.length_reverse, hp]
      obtain ⟨u, k, hu, hu0, hk, hkl⟩ := place_of i p (by omega)
      have hM3 := Lib.hid hMk
      have hwr : IntKind.u64.wrap ((p : Int) + 1) = (p : Int) + 1 := IntWalk.u64_in _ (by omega)
      have hwk : IntKind.i64.wrap (k : Int) = (k : Int) := IntWalk.i64_in _ (by omega)
      rw [e1] at L1
      rw [e2] at L2
      rw [hn] at L1 nl ⊢
      rw [hp] at L2 nm hc2 ⊢
      have HPL := Lib.hid hp
      have HNL := Lib.hid hn
      have HPR := Lib.hid hpr
      have HRB := Lib.hid hRB
      have HSH : Hid (∀ o ∈ l, o.handle.size ≤ maxLen) := Lib.hid hsh
      clear e1 e2 h1 h2 hF ht hM hMk hRB hsh n1 n2 hn hp hpr
      go_enter Tryz.func6, Tryz.ntmps6
      go_wp2_with (first
        | (go_at_call 16; ((with_reducible refine CA.out.mono ?_); rintro e w1 ⟨rfl, k1⟩))
        | (go_at_call 7; ((with_reducible refine (L1.out _ k1).mono ?_); rintro e w2 ⟨rfl, q2⟩; have k2 := bThen k1 q2))
        | (go_at_call 8; ((with_reducible refine (L2.out _ k2).mono ?_); rintro e w3 ⟨rfl, q3⟩; have k3 := bThen k2 q3)))
      have K3 := Lib.hid k3
      clear CA L1 L2 q2 q3 k1 k2 k3
      go_loopw [7, 8] (fun own v wr => ∃ j : Nat, v = .int .i64 ((j : Int) - 1) ∧ j ≤ p ∧ Hid (OwnK chK wr w.heap.size own (s.drop j).reverse) ∧ Below w.heap.size w wr) (fun _ v _ => ((intOf v) + 1).toNat)
      case atStart => exact ⟨p, by go_num, Nat.le_refl _, Lib.hid (by rw [List.drop_of_length_le (by rw [HPL.out]; exact Nat.le_refl _)]; exact OwnK.nil_ chK _ _), K3.out⟩
      case round =>
        obtain ⟨j, rfl, hj, HO, k4⟩ := hrel
        rcases j with _ | q
        · have K4 := Lib.hid k4
          have HO2 := HO.out
          rw [List.drop_zero] at HO2
          obtain ⟨A7, c7, rfl, r7, _, _⟩ := HO2.form
          rw [HPR.out]
          have R7 := Lib.hid r7
          clear HO HO2 r7
          by_cases hE : fitsE l s = 0
          · have hE2 : fitsE l s.reverse = 0 := (fitsE_perm (List.reverse_perm s).symm).1.1 hE
            have C1 := Lib.hid (fun W (k : Below w.heap.size w W) => apply_form (A1 := A1) (A2 := A2) l s c1 c2 n p W HNL.out HPL.out ((H1.out.below k).more k.size) (by omega) ((H2.out.below k).more k.size) (by omega) (hM3.out W k) hE)
            have C2 := Lib.hid (fun W (k : Below w.heap.size w W) (r : RdK chK W W.heap.size A7 s.reverse) => apply_form (A1 := A1) (A2 := A7) l s.reverse c1 c7 n p W HNL.out HPR.out ((H1.out.below k).more k.size) (by omega) r (by omega) (fun c hc => hM3.out W k c (HRB.out c hc)) hE2)
            have C3 := Lib.hid (fun W (k' : Below w.heap.size w W) => apply_form (A1 := A1) (A2 := A2) l (s.take k) c1 c2 n k W HNL.out (by rw [List.length_take, HPL.out]; omega) ((H1.out.below k').more k'.size) (by omega) ((rd_take (H2.out.below k') k).more k'.size) (by omega) (fun c hc => hM3.out W k' c (List.mem_of_mem_take hc)) (part_first hE k))
            obtain ⟨A8, c8, s8, r8, _⟩ := slice_fromK chK H2.out HPL.out hkl hc2
            have s8' : ∀ W, (Instr.slice 23 (.slice A2 p c2) (some (.int .i64 (k : Int))) none none).run Tryz.prog W = .ok (.slice A8 (p - k) c8) W := s8
            have s2' : ∀ W, (Instr.slice 23 (.slice A2 p c2) none (some (.int .i64 (k : Int))) none).run Tryz.prog W = .ok (.slice A2 k c2) W := fun W => slice_toK chK hkl hc2 W
            have R8 := Lib.hid r8
            have CRI := Lib.hid (fun W (k' : Below w.heap.size w W) => (rising_ex A1 c1 n l W HNL.out ((H1.out.below k').more k'.size) (by omega) (HSH.out)))
            have HE := Lib.hid hE
            clear hE hE2 s8 r8
            go_wp2_with (first
              | (go_at_call 10; first
                | ((with_reducible refine (C1.out _ k4).mono ?_); rintro e w5 ⟨A3, c3, m3, a3, rfl, fa, ra, q5⟩; have k5 := bThen k4 q5; have FA := Lib.hid fa; have RA := Lib.hid ra; have R7b := Lib.hid ((R7.out.below q5).more q5.size); clear fa ra q5)
                | ((with_reducible refine (C2.out _ k5 R7b.out).mono ?_); rintro e w6 ⟨A4, c4, m4, a4, rfl, fb, rb, q6⟩; have k6 := bThen k5 q6; have RA2 := Lib.hid ((RA.out.below q6).more q6.size); have RB := Lib.hid rb; obtain rfl : a3 = a4 := order_one (List.reverse_perm s).symm HE.out FA.out.2.2 fb.2.2; obtain rfl : m3 = m4 := FA.out.1.symm.trans fb.1; clear fb rb q6))
              | (go_at_call 12; (with_reducible refine (sameO_yes A3 A4 c3 c4 m3 a3 w6 RA2.out RB.out FA.out.1 (by have := FA.out.2.1; omega)).mono ?_); rintro e w7 ⟨rfl, q7⟩; have k7 := bThen k6 q7; have RA3 := Lib.hid ((RA2.out.below q7).more q7.size); clear q7)
              | (go_at_call 17; (with_reducible refine (CRI.out _ k7).mono ?_); rintro e w8 ⟨⟨bb, rfl⟩, q8⟩; have k8 := bThen k7 q8; have RA4 := Lib.hid ((RA3.out.below q8).more q8.size); clear q8))
            · try go_wp2
              go_ret
              exact ⟨rfl, k8⟩
            · with_reducible refine (C3.out _ k8).mono ?_
              rintro e w9 ⟨A9, c9, m9, a9, rfl, f9, r9, q9⟩
              have k9 := bThen k8 q9
              have F9 := Lib.hid f9
              have RA5 := Lib.hid ((RA4.out.below q9).more q9.size)
              have C4 := Lib.hid (apply_form (A1 := A9) (A2 := A8) a9 (s.drop k) c9 c8 m9 (p - k) w9 f9.1 (by rw [List.length_drop, HPL.out]) r9 (by have := f9.2.1; omega) ((R8.out w9 (H2.out.below k9)).more k9.size) (by omega) (fun c hc => hM3.out w9 k9 c (List.mem_of_mem_drop hc)) (part_rest HE.out k f9.2.2))
              clear f9 r9 q9 C3 C1 C2
              go_wp2_with (first
                | (go_at_call 10; ((with_reducible refine C4.out.mono ?_); rintro e w10 ⟨A10, c10, m10, a10, rfl, f10, r10, q10⟩; have k10 := bThen k9 q10; have RA6 := Lib.hid ((RA5.out.below q10).more q10.size); have R10 := Lib.hid r10; obtain rfl : a10 = a3 := part_both HE.out k F9.out.2.2 f10.2.2 FA.out.2.2; obtain rfl : m10 = m3 := f10.1.symm.trans FA.out.1; clear f10 r10 q10))
                | (go_at_call 12; (with_reducible refine (sameO_yes A10 A3 c10 c3 m10 a10 w10 R10.out RA6.out FA.out.1 (by have := FA.out.2.1; omega)).mono ?_); rintro e w11 ⟨rfl, q11⟩; have k11 := bThen k10 q11))
              go_ret
              exact ⟨rfl, k11⟩
          · have hE2 : ¬ fitsE l s.reverse = 0 := fun h => hE ((fitsE_perm (List.reverse_perm s).symm).1.2 h)
            have hI := (fitsE_perm (l := l) (List.reverse_perm s).symm).2
            have C1 := Lib.hid (fun W (k : Below w.heap.size w W) => apply_none (A1 := A1) (A2 := A2) l s c1 c2 n p W HNL.out HPL.out ((H1.out.below k).more k.size) (by omega) ((H2.out.below k).more k.size) (by omega) (hM3.out W k) hE)
            have C2 := Lib.hid (fun W (k : Below w.heap.size w W) (r : RdK chK W W.heap.size A7 s.reverse) => apply_none (A1 := A1) (A2 := A7) l s.reverse c1 c7 n p W HNL.out HPR.out ((H1.out.below k).more k.size) (by omega) r (by omega) (fun c hc => hM3.out W k c (HRB.out c hc)) hE2)
            generalize fitsE l s = fe at *
            generalize fitsE l s.reverse = ge at *
            have CSN := Lib.hid (fun W => sameO_yes none none 0 0 0 [] W (.inl rfl) (.inl rfl) rfl (by omega))
            by_cases h100 : fe = 100
            · have g100 : ge = 100 := hI.1 h100
              subst h100 g100
              clear hI
              go_wp2_with (first
                | (go_at_call 10; first
                  | ((with_reducible refine (C1.out _ k4).mono ?_); rintro e w5 ⟨rfl, q5⟩; have k5 := bThen k4 q5; have R7b := Lib.hid ((R7.out.below q5).more q5.size); clear q5)
                  | ((with_reducible refine (C2.out _ k5 R7b.out).mono ?_); rintro e w6 ⟨rfl, q6⟩; have k6 := bThen k5 q6; clear q6))
                | (go_at_call 12; (with_reducible refine (CSN.out _).mono ?_); rintro e w7 ⟨rfl, q7⟩; have k7 := bThen k6 q7))
              go_ret
              exact ⟨rfl, k7⟩
            · have g100 : ¬ ge = 100 := fun h => h100 (hI.2 h)
              have b1 : (fe == 0) = false := by simpa using hE
              have b2 : (ge == 0) = false := by simpa using hE2
              have b3 : (fe == 100) = false := by simpa using h100
              have b4 : (ge == 100) = false := by simpa using g100
              clear hI
              go_wp2_with (first
                | (go_at_call 10; first
                  | ((with_reducible refine (C1.out _ k4).mono ?_); rintro e w5 ⟨rfl, q5⟩; have k5 := bThen k4 q5; have R7b := Lib.hid ((R7.out.below q5).more q5.size); clear q5)
                  | ((with_reducible refine (C2.out _ k5 R7b.out).mono ?_); rintro e w6 ⟨rfl, q6⟩; have k6 := bThen k5 q6; clear q6))
                | (go_at_call 12; (with_reducible refine (CSN.out _).mono ?_); rintro e w7 ⟨rfl, q7⟩; have k7 := bThen k6 q7))
              go_ret
              exact ⟨rfl, k7⟩
        · have ev : ((q + 1 : Nat) : Int) - 1 = (q : Int) := by omega
          rw [ev]
          have K4 := Lib.hid k4
          have hq : q < s.length := by rw [HPL.out]; omega
          obtain ⟨b, off, rfl, hbk, hcc⟩ := chs_at (H2.out.below k4) (by omega)
          obtain ⟨p0, p1, p2, p3, p4, p5, p6, p7, p8, p9, p10, p11, p12, p13, p14⟩ := hcc q _ (List.getElem?_eq_getElem hq)
          have HR : Hid ((s.drop q).reverse = (s.drop (q + 1)).reverse ++ [s[q]]) := Lib.hid (by rw [List.drop_eq_getElem_cons hq, List.reverse_cons])
          have HLN : Hid ((s.drop (q + 1)).reverse.length + 1 ≤ 1000000) := Lib.hid (by have := HPL.out; simp; omega)
          clear hcc
          generalize s[q] = c at *
          generalize (s.drop (q + 1)).reverse = r at *
          have i1 : (q : Int) < (p : Int) := by omega
          have hwq : IntKind.i64.wrap ((q : Int) - 1) = (q : Int) - 1 := IntWalk.i64_in _ (by omega)
          obtain ⟨A7, c7, rfl, r7, _, _⟩ := HO.out.form
          clear r7
          have hs4 := k4.size
          go_wp2_with (at_builtin; refine IX.wpList_spreadK chK rfl (.tmp 33) (.tmp 38) rfl w.heap.size _ r rfl (HO.out.below (bAl (Below.refl _ wr) (.cells (chCells c) 39))) (wr.heap.size + 1) (some ⟨wr.heap.size, 0, none⟩) 1 1 [c] rfl rfl (RdK.lit (K := chK) wr c (chCells c) rfl 39) HLN.out ?c2 ?_)
          case c2 => exact Nat.le_trans hs4 (by simp)
          intro v' w5 o5 g5 f5
          have b5 := Lib.hid ((bAl K4.out (.cells (chCells c) 39)).grown g5 (bAl K4.out (.cells (chCells c) 39)).size (fun a ha => (HO.out.lt a ha).1))
          have O5 := Lib.hid o5
          clear o5 g5
          go_wp2
          go_roundw
          case rel => exact ⟨q, rfl, by omega, Lib.hid (by rw [HR.out]; exact O5.out), b5.out⟩
          case measure => first | (simp [intOf]; done) | (simp [intOf]; omega)
end Go.Proofs.YtncahpbjbgcnbaaGreatDoor.DX
