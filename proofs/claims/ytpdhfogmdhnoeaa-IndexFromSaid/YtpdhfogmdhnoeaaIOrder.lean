/-
  WALK: the law IndexOrder.
-/
import Derived.Test.YtpdhfogmdhnoeaaIAwake
import Derived.Test.YtpdhfogmdhnoeaaIRising
namespace Go.Proofs.Ytpdhfogmdhnoeaa.IX
open Go.RowKit HL
set_option maxRecDepth 100000
set_option linter.unusedVariables false
set_option linter.unusedSimpArgs false

theorem RdA.more {w : World} {B B' : Nat} {A : Option Addr} {l : List Act1} (h : RdA w B A l) (k : B ≤ B') : RdA w B' A l := by
  rcases h with h | ⟨b, off, e, hb, hc⟩
  · exact .inl h
  · exact .inr ⟨b, off, e, by omega, hc⟩
theorem FI.all {w0 W : World} {B : Nat} {v iv : Value} {l : List Rw} {inn : List Act1} (h : FI w0 W B v l iv inn) (hn : l.length ≤ 300) :
    Calls Try.prog 19 #[ptr B] W fun e w' => ∃ A c, e = .returned (.slice A l.length c) ∧ OwnK strK w' W.heap.size (.slice A l.length c) (keys l) ∧ FI w0 w' B v l iv inn ∧ Below W.heap.size W w' :=
  (all_form B v l W h.a (by omega)).mono fun e w' ⟨A, c, he, ho, hb⟩ => ⟨A, c, he, ho, h.then hb, hb⟩
theorem rising_yes {A : Option Addr} {c n : Nat} {l : List Rw} {w : World} (h : RdK strK w w.heap.size A (keys l)) (hu : Up l) (hn : l.length = n) (hm : n ≤ 300) :
    Calls Try.prog 28 #[.slice A n c] w fun e w' => e = .returned (.bool true) ∧ Below w.heap.size w w' := by
  subst hn
  have q := rising_any A c (keys l) w.heap.size w h.strs (by rw [keys_len]; unfold maxLen; omega)
  rw [keys_len] at q
  refine q.mono ?_
  rintro e w' ⟨rfl, hd⟩
  have hu' : Asc (keys l) := hu
  exact ⟨by simp [hu'], hd.below _⟩
set_option maxHeartbeats 8000000 in
theorem order_walk {A : Option Addr} (l : List Act1) (c : Nat) (w : World) (hr : RdA w w.heap.size A l) (hm : l.length ≤ maxLen) (hx : ∀ x ∈ l, x.h.length ≤ maxLen) :
    Calls Try.prog 6 #[.slice A l.length c] w fun e w' => e = .returned (.bool true) ∧ Below w.heap.size w w' := by
  have CA := Lib.hid (awake_any w)
  have CL := Lib.hid (fun W (q : Below w.heap.size w W) => long_any A c l W ((hr.below q).more q.size) hm hx)
  cases hl : longB l with
  | true =>
    rw [hl] at CL
    clear hl
    go_enter Try.func6, Try.ntmps6
    go_wp2_with (first
      | (go_at_call 26; ((with_reducible refine CA.out.mono ?_); rintro e w1 ⟨rfl, k1⟩))
      | (go_at_call 9; ((with_reducible refine (CL.out _ k1).mono ?_); rintro e w2 ⟨rfl, rfl⟩)))
    go_ret
    exact ⟨rfl, k1⟩
  | false =>
    obtain ⟨l1, l2⟩ := longB_f hl
    rw [hl] at CL
    clear hl
    have CF := Lib.hid (fun W (q : Below w.heap.size w W) => filled_any l c W ((hr.below q).more q.size) l1 l2)
    clear hr hx l2
    go_enter Try.func6, Try.ntmps6
    go_wp2_with (first
      | (go_at_call 26; ((with_reducible refine CA.out.mono ?_); rintro e w1 ⟨rfl, k1⟩))
      | (go_at_call 9; ((with_reducible refine (CL.out _ k1).mono ?_); rintro e w2 ⟨rfl, rfl⟩))
      | (go_at_call 27; ((with_reducible refine (CF.out _ k1).mono ?_); rintro e w3 ⟨v, l', inn, A', c', rfl, f3, hL, hn, hi⟩; have F3 := Lib.hid f3; have HL := Lib.hid hL; have HN : Hid (inn.length = l'.length) := Lib.hid hL.len; clear f3 hL hi; rw [HN.out] at F3 ⊢; generalize hBe : w1.heap.size = B at F3 ⊢; clear hBe))
      | (go_at_call 21; ((with_reducible refine (many_any B v l' _ F3.out.a).mono ?_); rintro e w4 ⟨rfl, rfl⟩))
      | (go_at_call 19; ((with_reducible refine (F3.out.all (by omega)).mono ?_); rintro e w5 ⟨A5, c5, rfl, o5, f5, _⟩; have O5 := Lib.hid o5; have F5 := Lib.hid f5; clear o5 f5))
      | (go_at_call 28; ((with_reducible refine (rising_yes O5.out.rd HL.out.up rfl (by omega)).mono ?_); rintro e w6 ⟨rfl, k6⟩; have F6 := Lib.hid (F5.out.then k6); clear k6)))
    have HK1 := Lib.hid k1
    clear CA CL CF k1
    go_loopw [7] (fun i wr => ∃ k : Nat, i = .int .i64 k ∧ k ≤ l'.length ∧ FI w1 wr B v l' (.slice A' l'.length c') inn) (fun i _ => l'.length - (intOf i).toNat)
    case atStart => exact ⟨0, rfl, Nat.zero_le _, F6.out⟩
    case round =>
      obtain ⟨k, rfl, hk, hF⟩ := hrel
      have HF := Lib.hid hF
      clear hF F6 F5 O5 F3
      by_cases hlt : k < l'.length
      · have i2 : (k : Int) < l'.length := by omega
        have hlt2 : k < inn.length := by rw [HN.out]; exact hlt
        have HB0 := Lib.hid (Below.refl wr.heap.size wr)
        obtain ⟨_, _, e8, rd, _⟩ := HF.out.o.form
        rw [HN.out] at e8
        simp only [Value.slice.injEq, true_and] at e8
        obtain ⟨rfl, rfl⟩ := e8
        obtain ⟨b2, o2, rfl, hb2, hc2⟩ := rd.acts.at_ (by omega)
        have HC := Lib.hid (fun W (q : Below wr.heap.size wr W) => (⟨(q.cell (p := ⟨b2, _, none⟩) hb2).trans (hc2 k _ (List.getElem?_eq_getElem hlt2)).2.1, (q.cell (p := ⟨b2, _, none⟩) hb2).trans (hc2 k _ (List.getElem?_eq_getElem hlt2)).2.2⟩ : W.cell? ⟨b2, o2 + k * 3 + 1, none⟩ = some (str inn[k].h) ∧ W.cell? ⟨b2, o2 + k * 3 + 2, none⟩ = some (.int .i64 inn[k].n)))
        have hr := HL.out.row (List.getElem_mem hlt2)
        have hpl := plc_le l' inn[k].h
        clear hc2 rd
        generalize inn[k] = y at *
        have CFi := Lib.hid (find_any B v l' y.h wr HF.out.a (by omega))
        have CPl := Lib.hid (fun W (q : Below wr.heap.size wr W) => place_any B v l' y.h W (HF.out.a.then q) (by omega))
        have CAt := Lib.hid (fun W (q : Below wr.heap.size wr W) => at_any B v l' (plc l' y.h) W (HF.out.a.then q) (by omega))
        rw [hr.1, hr.2.1] at CFi
        rw [hr.2.2.1, hr.2.2.2.1, hr.2.2.2.2] at CAt
        clear hr hpl
        generalize plc l' y.h = p at *
        obtain ⟨x1, x2⟩ := HC.out _ HB0.out
        have HZ := Lib.hid (fun W (q : Below wr.heap.size wr W) => HF.out.then q)
        go_wp2_with (first
          | (go_at_call 22; ((with_reducible refine CFi.out.mono ?_); rintro e w7 ⟨rfl, k7⟩; obtain ⟨x3, x4⟩ := HC.out _ k7; have K7 := Lib.hid k7; clear k7))
          | (go_at_call 25; ((with_reducible refine (CPl.out _ K7.out).mono ?_); rintro e w8 ⟨rfl, k8⟩; have K8 := Lib.hid (bThen K7.out k8); clear k8))
          | (go_at_call 23; ((with_reducible refine (CAt.out _ K8.out).mono ?_); rintro e w9 ⟨rfl, k9⟩; have K9 := Lib.hid (bThen K8.out k9); obtain ⟨x5, x6⟩ := HC.out _ K9.out; clear k9)))
        go_roundw
        case rel => exact ⟨k + 1, by go_num, by omega, HZ.out _ K9.out⟩
        case measure => simp [intOf]; omega
      · have e : k = l'.length := by omega
        subst e
        go_wp2
        go_ret
        exact ⟨rfl, bThen HK1.out HF.out.bel⟩
end Go.Proofs.Ytpdhfogmdhnoeaa.IX
