/-
  WALK: the law IndexGone.
-/
import Derived.Test.YtpdhfogmdhnoeaaIOrder
namespace Go.Proofs.Ytpdhfogmdhnoeaa.IX
open Go.RowKit HL
set_option maxRecDepth 100000
set_option linter.unusedVariables false
set_option linter.unusedSimpArgs false

theorem str_row : strK.e ≠ rowK.e := by
  show (9 : TypeId) ≠ 70
  decide
/-- Besides, what All told at the list l0. -/
structure FG (w0 W : World) (B : Nat) (v : Value) (l : List Rw) (iv : Value) (inn : List Act1) (wv : Value) (l0 : List Rw) : Prop where
  f : FI w0 W B v l iv inn
  o : OwnK strK W w0.heap.size wv (keys l0)
  ne : wv.ownBlock ≠ some B
theorem FG.then {w0 W W1 : World} {B : Nat} {v iv wv : Value} {l l0 : List Rw} {inn : List Act1} (h : FG w0 W B v l iv inn wv l0) (k : Below W.heap.size W W1) : FG w0 W1 B v l iv inn wv l0 := ⟨h.f.then k, h.o.below k, h.ne⟩
theorem FG.ix {w0 W W1 : World} {B : Nat} {v iv v1 wv : Value} {l l1 l0 : List Rw} {inn : List Act1} (h : FG w0 W B v l iv inn wv l0) (a1 : IxAt W1 B v1 l1) (f1 : ∀ k, v1.ownBlock = some k → v.ownBlock = some k ∨ W.heap.size ≤ k) (k1 : Kept W W1 (fun k => k ≠ B ∧ v.ownBlock ≠ some k)) : FG w0 W1 B v1 l1 iv inn wv l0 :=
  ⟨h.f.ix a1 f1 k1, h.o.kept k1 (fun b e => ⟨fun q => h.ne (q ▸ e), own_apartK str_row h.o (OwnP.k.1 h.f.a.r) b e⟩), h.ne⟩
theorem FI.was {w0 W : World} {B : Nat} {v iv : Value} {l : List Rw} {inn : List Act1} (h : FI w0 W B v l iv inn) (hn : l.length ≤ 300) :
    Calls Try.prog 19 #[ptr B] W fun e w' => ∃ A c, e = .returned (.slice A l.length c) ∧ FG w0 w' B v l iv inn (.slice A l.length c) l :=
  (all_form B v l W h.a (by omega)).mono fun e w' ⟨A, c, he, ho, hb⟩ => ⟨A, c, he, h.then hb, ho.base h.bel.size, fun e => by have := (ho.lt _ e).1; have := h.a.a.lt; omega⟩
/-- All, and the list that was told ahead, are the same. -/
theorem FG.all {w0 W : World} {B : Nat} {v iv : Value} {l : List Rw} {inn : List Act1} {A : Option Addr} {c m : Nat} (h : FG w0 W B v l iv inn (.slice A m c) l) (hm : l.length = m) (hn : m ≤ 300) :
    Calls Try.prog 19 #[ptr B] W fun e w' => ∃ A2 c2, e = .returned (.slice A2 m c2) ∧ FG w0 w' B v l iv inn (.slice A m c) l ∧ Calls Try.prog 29 #[.slice A2 m c2, .slice A m c] w' fun e w2 => e = .returned (.bool true) ∧ FG w0 w2 B v l iv inn (.slice A m c) l := by
  subst hm
  refine (all_form B v l W h.f.a (by omega)).mono ?_
  rintro e w' ⟨A2, c2, rfl, ho, hb⟩
  have h2 := h.then hb
  refine ⟨A2, c2, rfl, h2, (same_yes A2 A c2 c l.length (keys l) w' ho.rd h2.o.rd (keys_len l) (by omega)).mono ?_⟩
  rintro e w2 ⟨rfl, hb2⟩
  exact ⟨rfl, h2.then hb2⟩
theorem ins_at (l : List Rw) (h : Bs) (n : Int) : ∃ hp : plc l h < (ins l h n).length, (ins l h n)[plc l h] = (h, n) := by
  have hp := plc_le l h
  refine ⟨by rw [ins_len]; omega, ?_⟩
  unfold ins
  rw [List.getElem_append_right (by simp; omega)]
  simp [Nat.min_eq_left hp]
theorem ins_lo (l : List Rw) (h : Bs) (n : Int) {i : Nat} (hi : i < l.length) (h2 : i < plc l h) : ∃ hp : i < (ins l h n).length, (ins l h n)[i] = l[i] := by
  refine ⟨by rw [ins_len]; omega, ?_⟩
  unfold ins
  rw [List.getElem_append_left (by simp; omega)]
  simp
theorem ins_hi (l : List Rw) (h : Bs) (n : Int) {i : Nat} (hi : i < l.length) (h2 : plc l h ≤ i) : ∃ hp : i + 1 < (ins l h n).length, (ins l h n)[i + 1] = l[i] := by
  have hp := plc_le l h
  refine ⟨by rw [ins_len]; omega, ?_⟩
  unfold ins
  rw [List.getElem_append_right (by simp; omega)]
  simp only [List.length_take, Nat.min_eq_left hp]
  rw [List.getElem_cons]
  split
  · omega
  · simp only [List.getElem_drop]
    congr 1; omega
theorem plc_ins {l : List Rw} (u : Up l) {h : Bs} {n : Int} (k : hasB l h = false) : plc (ins l h n) h = plc l h := by
  obtain ⟨hp, e⟩ := ins_at l h n
  have := plc_self (up_ins u n k) hp
  rw [e] at this
  exact this
theorem plc_ins_of {l : List Rw} (u : Up l) {h : Bs} {n : Int} (k : hasB l h = false) {i : Nat} (hi : i < l.length) : plc (ins l h n) l[i].1 = if plc l h ≤ i then i + 1 else i := by
  by_cases q : plc l h ≤ i
  · obtain ⟨hp, e⟩ := ins_hi l h n hi q
    have := plc_self (up_ins u n k) hp
    rw [e] at this
    rw [this, if_pos q]
  · obtain ⟨hp, e⟩ := ins_lo l h n hi (by omega)
    have := plc_self (up_ins u n k) hp
    rw [e] at this
    rw [this, if_neg q]
theorem del_ins {l : List Rw} (u : Up l) {h : Bs} {n : Int} (k : hasB l h = false) : del (ins l h n) h = l := by
  have hp := plc_le l h
  unfold del
  rw [plc_ins u k]
  unfold ins
  have e1 : (l.take (plc l h)).length = plc l h := by rw [List.length_take, Nat.min_eq_left hp]
  rw [List.take_append_of_le_length (by omega), List.take_of_length_le (by omega), List.drop_append, e1, List.drop_of_length_le (by omega), List.nil_append, show plc l h + 1 - plc l h = 1 by omega, List.drop_succ_cons, List.drop_zero, List.take_append_drop]
set_option maxHeartbeats 8000000 in
theorem gone_walk {A : Option Addr} (l : List Act1) (c : Nat) (h : Bs) (n : Int) (w : World) (hr : RdA w w.heap.size A l) (hm : l.length ≤ maxLen) (hx : ∀ x ∈ l, x.h.length ≤ maxLen) (hh : h.length ≤ maxLen) :
    Calls Try.prog 7 #[.slice A l.length c, str h, .int .i64 n] w fun e w' => e = .returned (.bool true) ∧ Below w.heap.size w w' := by
  have hh2 := hh
  unfold maxLen at hh2
  have CA := Lib.hid (awake_any w)
  have CL := Lib.hid (fun W (q : Below w.heap.size w W) => long_any A c l W ((hr.below q).more q.size) hm hx)
  cases hl : longB l with
  | true =>
    rw [hl] at CL
    clear hl
    go_enter Try.func7, Try.ntmps7
    go_wp2_with (first
      | (go_at_call 26; ((with_reducible refine CA.out.mono ?_); rintro e w1 ⟨rfl, k1⟩))
      | (go_at_call 9; ((with_reducible refine (CL.out _ k1).mono ?_); rintro e w2 ⟨rfl, rfl⟩)))
    go_ret
    exact ⟨rfl, k1⟩
  | false =>
    obtain ⟨l1, l2⟩ := longB_f hl
    rw [hl] at CL
    clear hl
    by_cases hl : 100 < h.length
    · have i1 : (100 : Int) < h.length := by omega
      go_enter Try.func7, Try.ntmps7
      go_wp2_with (first
        | (go_at_call 26; ((with_reducible refine CA.out.mono ?_); rintro e w1 ⟨rfl, k1⟩))
        | (go_at_call 9; ((with_reducible refine (CL.out _ k1).mono ?_); rintro e w2 ⟨rfl, rfl⟩)))
      go_ret
      exact ⟨rfl, k1⟩
    have i1 : ¬ (100 : Int) < h.length := by omega
    have CF := Lib.hid (fun W (q : Below w.heap.size w W) => filled_any l c W ((hr.below q).more q.size) l1 l2)
    clear hr hx l2 hl
    go_enter Try.func7, Try.ntmps7
    go_wp2_with (first
      | (go_at_call 26; ((with_reducible refine CA.out.mono ?_); rintro e w1 ⟨rfl, k1⟩))
      | (go_at_call 9; ((with_reducible refine (CL.out _ k1).mono ?_); rintro e w2 ⟨rfl, rfl⟩))
      | (go_at_call 27; ((with_reducible refine (CF.out _ k1).mono ?_); rintro e w3 ⟨v, l', inn, A', c', rfl, f3, hL, hn, hi⟩; have F3 := Lib.hid f3; have HL := Lib.hid hL; have HN : Hid (inn.length = l'.length) := Lib.hid hL.len; clear f3 hL hi; rw [HN.out] at F3 ⊢; generalize hBe : w1.heap.size = B at F3 ⊢; clear hBe))
      | (go_at_call 19; ((with_reducible refine (F3.out.was (by omega)).mono ?_); rintro e w5 ⟨A5, c5, rfl, f5⟩; have F5 := Lib.hid f5; have HK1 := Lib.hid k1; clear f5 F3 k1)))
    clear CA CL CF
    have CP := Lib.hid (put_any B v l' h n _ F5.out.f.a (by omega) hh)
    by_cases hp : putE l' h n = 0
    · obtain ⟨hy, hn0, hf⟩ := (putE_0 _ _ _).1 hp
      have e2 : putL l' h n = ins l' h n := by simp [putL, hy, hn0, hf]
      rw [hp, e2] at CP
      have Q1 := Lib.hid (plc_ins (n := n) HL.out.up hf)
      have Q2 := Lib.hid (fun i (hi : i < l'.length) => plc_ins_of (n := n) HL.out.up hf hi)
      have U2 := up_ins HL.out.up n hf
      have Q3 : Hid (∀ a ∈ inn, hasB (ins l' h n) a.h = true ∧ numOf (ins l' h n) a.h = a.n) := Lib.hid (fun a ha => by
        have q := mem_row U2 (mem_ins.2 (.inr (HL.out.mem a ha)))
        exact ⟨q.1, q.2.1⟩)
      have q4 := mem_row U2 (mem_ins.2 (.inl rfl) : (h, n) ∈ ins l' h n)
      have Q4 : Hid (numOf (ins l' h n) h = n ∧ takeE (ins l' h n) h = 0 ∧ takeL (ins l' h n) h = l') := Lib.hid ⟨q4.2.1, by simp [takeE_0, q4.1], by simp [takeL, q4.1, del_ins HL.out.up hf]⟩
      have Q5 : Hid (takeE l' h = 70 ∧ takeL l' h = l') := Lib.hid ⟨by simp [takeE_0, hf], takeL_no hf⟩
      have hpl := plc_le l' h
      have LL : Hid ((ins l' h n).length = l'.length + 1) := Lib.hid (ins_len _ _ _)
      clear hp hy hn0 hf e2 U2 q4
      generalize ins l' h n = l2 at *
      generalize plc l' h = p at *
      have ll2 : l2.length ≤ 300 := by have := LL.out; omega
      go_wp2_with (first
        | (go_at_call 13; ((with_reducible refine CP.out.mono ?_); rintro e w6 ⟨v6, rfl, a, f, k⟩; have F6 := Lib.hid (F5.out.ix a f k); have CPl := Lib.hid (place_any B v6 l2 h w6 a (by omega)); rw [Q1.out] at CPl; clear a f k CP F5))
        | (go_at_call 25; ((with_reducible refine CPl.out.mono ?_); rintro e w7 ⟨rfl, k7⟩; have F7 := Lib.hid (F6.out.then k7); clear k7 CPl F6)))
      go_loopw [12] (fun i wr => ∃ k : Nat, i = .int .i64 k ∧ k ≤ l'.length ∧ FG w1 wr B v6 l2 (.slice A' l'.length c') inn (.slice A5 l'.length c5) l') (fun i _ => l'.length - (intOf i).toNat)
      case atStart => exact ⟨0, rfl, Nat.zero_le _, F7.out⟩
      case round =>
        obtain ⟨k, rfl, hk, hF⟩ := hrel
        have HF := Lib.hid hF
        clear hF F7
        by_cases hlt : k < l'.length
        · have i2 : (k : Int) < l'.length := by omega
          have hlt2 : k < inn.length := by rw [HN.out]; exact hlt
          obtain ⟨_, _, e8, rd, _⟩ := HF.out.f.o.form
          rw [HN.out] at e8
          simp only [Value.slice.injEq, true_and] at e8
          obtain ⟨rfl, rfl⟩ := e8
          obtain ⟨b2, o2, rfl, hb2, hc2⟩ := rd.acts.at_ (by omega)
          have HC := Lib.hid (fun W (q : Below wr.heap.size wr W) => (⟨(q.cell (p := ⟨b2, _, none⟩) hb2).trans (hc2 k _ (List.getElem?_eq_getElem hlt2)).2.1, (q.cell (p := ⟨b2, _, none⟩) hb2).trans (hc2 k _ (List.getElem?_eq_getElem hlt2)).2.2⟩ : W.cell? ⟨b2, o2 + k * 3 + 1, none⟩ = some (str inn[k].h) ∧ W.cell? ⟨b2, o2 + k * 3 + 2, none⟩ = some (.int .i64 inn[k].n)))
          have hr := Q3.out _ (List.getElem_mem hlt2)
          clear hc2 rd
          generalize inn[k] = y at *
          have CFi := Lib.hid (find_any B v6 l2 y.h wr HF.out.f.a (by omega))
          rw [hr.1, hr.2] at CFi
          clear hr
          obtain ⟨x1, x2⟩ := HC.out _ (Below.refl wr.heap.size wr)
          go_wp2_with (go_at_call 22; ((with_reducible refine CFi.out.mono ?_); rintro e w8 ⟨rfl, k8⟩; obtain ⟨x3, x4⟩ := HC.out _ k8; have F8 := Lib.hid (HF.out.then k8); clear k8))
          go_roundw
          case rel => exact ⟨k + 1, by go_num, by omega, F8.out⟩
          case measure => simp [intOf]; omega
        · have e : k = l'.length := by omega
          subst e
          clear Q1 Q3
          go_wp2
          go_loopw [15] (fun i wr => ∃ k : Nat, i = .int .i64 k ∧ k ≤ l'.length ∧ FG w1 wr B v6 l2 (.slice A' l'.length c') inn (.slice A5 l'.length c5) l') (fun i _ => l'.length - (intOf i).toNat)
          case atStart => exact ⟨0, rfl, Nat.zero_le _, HF.out⟩
          case round =>
            obtain ⟨k, rfl, hk, hF⟩ := hrel
            have HF2 := Lib.hid hF
            clear hF HF
            by_cases hlt : k < l'.length
            · have i2 : (k : Int) < l'.length := by omega
              obtain ⟨_, _, e8, rd, _⟩ := HF2.out.o.form
              rw [keys_len] at e8
              simp only [Value.slice.injEq, true_and] at e8
              obtain ⟨rfl, rfl⟩ := e8
              obtain ⟨b2, o2, rfl, hb2, hc2⟩ := rd.strs.at_ (by rw [keys_len]; omega)
              have x1 := hc2 k _ (keys_get hlt)
              have hq := Q2.out k hlt
              clear hc2 rd
              have CPl := Lib.hid (place_any B v6 l2 l'[k].1 _ HF2.out.f.a (by omega))
              rw [hq] at CPl
              clear hq
              generalize l'[k] = y at *
              by_cases hpk : p ≤ k
              · have i3 : (p : Int) ≤ k := by omega
                rw [if_pos hpk] at CPl
                go_wp2_with (go_at_call 25; ((with_reducible refine CPl.out.mono ?_); rintro e w8 ⟨rfl, k8⟩; have F8 := Lib.hid (HF2.out.then k8); clear k8))
                go_roundw
                case rel => exact ⟨k + 1, by go_num, by omega, F8.out⟩
                case measure => simp [intOf]; omega
              · have i3 : ¬ (p : Int) ≤ k := by omega
                rw [if_neg hpk] at CPl
                go_wp2_with (go_at_call 25; ((with_reducible refine CPl.out.mono ?_); rintro e w8 ⟨rfl, k8⟩; have F8 := Lib.hid (HF2.out.then k8); clear k8))
                go_roundw
                case rel => exact ⟨k + 1, by go_num, by omega, F8.out⟩
                case measure => simp [intOf]; omega
            · have e : k = l'.length := by omega
              subst e
              have CT := Lib.hid (take_any B v6 l2 h _ HF2.out.f.a (by omega))
              rw [Q4.out.1, Q4.out.2.1, Q4.out.2.2] at CT
              have hn3 : l'.length ≤ 300 := by omega
              clear Q2 Q4
              go_wp2_with (first
                | (go_at_call 11; ((with_reducible refine CT.out.mono ?_); rintro e w9 ⟨v9, rfl, a, f, k⟩; have F9 := Lib.hid (HF2.out.ix a f k); have CT2 := Lib.hid (take_any B v9 l' h _ a (by omega)); rw [Q5.out.1, Q5.out.2] at CT2; clear a f k CT))
                | (go_at_call 11; ((with_reducible refine CT2.out.mono ?_); rintro e w10 ⟨v10, rfl, a, f, k⟩; have F10 := Lib.hid (F9.out.ix a f k); clear a f k CT2))
                | (go_at_call 19; ((with_reducible refine (F10.out.all rfl hn3).mono ?_); rintro e w11 ⟨A11, c11, rfl, f11, C11⟩; have F11 := Lib.hid f11; have C11 := Lib.hid C11; clear f11))
                | (go_at_call 29; ((with_reducible refine C11.out.mono ?_); rintro e w12 ⟨rfl, f12⟩)))
              go_ret
              exact ⟨rfl, bThen HK1.out f12.f.bel⟩
    · have e2 : putL l' h n = l' := putL_no hp
      rw [e2] at CP
      clear e2
      generalize putE l' h n = ee at *
      have hn3 : l'.length ≤ 300 := by omega
      go_wp2_with (first
        | (go_at_call 13; ((with_reducible refine CP.out.mono ?_); rintro e w6 ⟨v6, rfl, a, f, k⟩; have F6 := Lib.hid (F5.out.ix a f k); clear a f k))
        | (go_at_call 19; ((with_reducible refine (F6.out.all rfl hn3).mono ?_); rintro e w7 ⟨A7, c7, rfl, f7, C7⟩; have F7 := Lib.hid f7; have C7 := Lib.hid C7; clear f7))
        | (go_at_call 29; ((with_reducible refine C7.out.mono ?_); rintro e w8 ⟨rfl, f8⟩)))
      go_ret
      exact ⟨rfl, bThen HK1.out f8.f.bel⟩
end Go.Proofs.Ytpdhfogmdhnoeaa.IX
