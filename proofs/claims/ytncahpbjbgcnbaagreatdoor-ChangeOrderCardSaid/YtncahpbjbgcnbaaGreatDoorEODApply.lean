/-
  WALKS: the program's Apply at any list and any set.
-/
import Derived.Test.YtncahpbjbgcnbaaGreatDoorEO17
import Derived.Test.YtncahpbjbgcnbaaGreatDoorEO15
namespace Go.Proofs.YtncahpbjbgcnbaaGreatDoor.DX
open Go.RowKit HL
open IX (ptr El cellsK cellsK_at cellsK_app cellsK_cons OwnK RdK strK Kept addr_lit)
open WX (obK obs_at hb pb rb tl_ne bs_eq findO findO_some findO_none findO_at obO ret_ob2)
open KX (Row Beg Sorted sortStable_any)
set_option maxRecDepth 100000
set_option linter.unusedVariables false
set_option linter.unusedSimpArgs false

theorem row_rd {W : World} {g : Nat} {l : List Ob} (h : Row W g l) : RdK obK W W.heap.size (some ⟨g, 0, none⟩) l := by
  obtain ⟨C, a, b⟩ := h
  refine .inr ⟨g, 0, rfl, a.lt, fun m u hu => ?_⟩
  rw [Nat.zero_add, a.c m]
  exact b.2 m u hu
theorem own_row {w : World} {base g n cap : Nat} {l : List Ob} (h : OwnK obK w base (.slice (some ⟨g, 0, none⟩) n cap) l) : Row w g l ∧ base ≤ g ∧ n = l.length := by
  have hlt := h.lt
  rcases h.2 with ⟨e, _⟩ | ⟨g', cap', cur, e, hg, hh, hn, hc, hs, ht⟩
  · simp at e
  · simp only [Value.slice.injEq, Option.some.injEq, Addr.mk.injEq] at e
    obtain ⟨⟨rfl, _⟩, rfl, rfl⟩ := e
    refine ⟨⟨cur, ⟨(hlt g rfl).2, fun i => cell_of_row w g i cur _ (0, 0) hh, fun i => by simp [World.frozen?, hh]⟩, ?_, fun m u hu => ?_⟩, hg, rfl⟩
    · have := congrArg List.length ht
      rw [List.length_take, IX.cellsK_len] at this
      have e : obK.size = 14 := rfl
      rw [e] at this
      simp at this
      omega
    · rw [← ht, List.getElem?_take] at hu
      split at hu
      · simpa using hu
      · cases hu
set_option maxHeartbeats 2000000 in
theorem cloneO_nil (c : Nat) (w : World) : Calls Tryz.prog 30 #[.slice none 0 c] w fun e w' => e = .returned (.slice none 0 0) ∧ w' = w := by
  have hE : ∀ W, (binOp .eql 22 (.slice none 0 c) (.slice none 0 0)).run Tryz.prog W = .ok (.bool true) W := fun W => eql_slice_nil W _ _ none _ _ Tryz.underlying22
  go_enter Tryz.func30, Tryz.ntmps30
  go_wp2
  go_ret
  exact ⟨rfl, rfl⟩
theorem cloneO_all {A : Option Addr} (c : Nat) (l : List Ob) (w : World) (h : RdK obK w w.heap.size A l) (hA : A = none → l = []) (hn : l.length ≤ 100000) :
    Calls Tryz.prog 30 #[.slice A l.length c] w fun e w' => ∃ v, e = .returned v ∧ OwnK obK w' w.heap.size v l ∧ Below w.heap.size w w' := by
  cases A with
  | some ad => exact cloneO_any ad c l w h hn
  | none =>
    obtain rfl := hA rfl
    exact (cloneO_nil c w).mono fun e w' ⟨h1, h2⟩ => ⟨_, h1, by rw [h2]; exact OwnK.nil_ obK w _, by rw [h2]; exact Below.refl _ _⟩
set_option maxHeartbeats 2000000 in
theorem insert_nil (w : World) : Calls Tryz.prog 68 #[.slice none 0 0, .int .i64 0, .int .i64 0, .func (.func 33) #[] #[]] w fun e w' => e = .returned (.tuple #[]) ∧ w' = w := by
  go_enter Tryz.func68, Tryz.ntmps68
  go_wp2
  refine wp_loop_rounds 1 ?_
  rw [rounds_succ]
  go_wp2
  go_end0
  exact ⟨rfl, rfl⟩
set_option maxHeartbeats 2000000 in
theorem stable_nil (w : World) : Calls Tryz.prog 52 #[.slice none 0 0, .int .i64 0, .func (.func 33) #[] #[]] w fun e w' => e = .returned (.tuple #[]) ∧ w' = w := by
  have CI := Lib.hid (insert_nil w)
  go_enter Tryz.func52, Tryz.ntmps52
  go_wp2
  refine wp_loop_rounds 1 ?_
  rw [rounds_succ]
  go_wp2_with (go_at_call 68; ((with_reducible refine CI.out.mono ?_); rintro e w1 ⟨rfl, rfl⟩))
  refine wp_loop_rounds 1 ?_
  rw [rounds_succ]
  go_wp2
  go_end0
  exact ⟨rfl, rfl⟩
set_option maxHeartbeats 2000000 in
theorem sortStable_nil (w : World) : Calls Tryz.prog 32 #[.slice none 0 0, .func (.func 33) #[] #[]] w fun e w' => e = .returned (.tuple #[]) ∧ w' = w := by
  have CI := Lib.hid (stable_nil w)
  go_enter Tryz.func32, Tryz.ntmps32
  go_wp2_with (go_at_call 52; ((with_reducible refine CI.out.mono ?_); rintro e w1 ⟨rfl, rfl⟩))
  go_end0
  exact ⟨rfl, rfl⟩
/-- The sort of a row of one's own. -/
theorem sortStable_own {v : Value} {base : Nat} (l : List Ob) (w : World) (h : OwnK obK w base v l) (hn : l.length ≤ 100000) (hbase : base ≤ w.heap.size) :
    ∃ A c, v = .slice A l.length c ∧ Calls Tryz.prog 32 #[.slice A l.length c, .func (.func 33) #[] #[]] w fun e w' => e = .returned (.tuple #[]) ∧ (∃ l', Sorted l l' ∧ RdK obK w' w'.heap.size A l') ∧ Below base w w' := by
  rcases h.2 with ⟨e, e0⟩ | ⟨g, cap, cur, e, _⟩
  · subst e
    obtain rfl : l = [] := List.eq_nil_of_length_eq_zero e0
    exact ⟨none, 0, rfl, (sortStable_nil w).mono fun e w' ⟨h1, h2⟩ => ⟨h1, ⟨[], ⟨[], .nil, List.Pairwise.nil, rfl⟩, .inl rfl⟩, by rw [h2]; exact Below.refl _ _⟩⟩
  · subst e
    obtain ⟨hr, hg, _⟩ := own_row h
    refine ⟨_, _, rfl, (sortStable_any g cap l w hr hn).mono fun e w' ⟨h1, ⟨l', h2, h3⟩, k⟩ => ⟨h1, ⟨l', h2, row_rd h3⟩, k.below hbase (fun i hi => ?_)⟩⟩
    show i ≠ g
    omega
set_option maxHeartbeats 4000000 in
theorem apply_no {A1 A2 : Option Addr} (l : List Ob) (s : List Ch) (c1 c2 : Nat) (w : World) (hr : RdK obK w w.heap.size A1 l) (hl : l.length ≤ 1000000) (h : RdK chK w w.heap.size A2 s) (hn : s.length ≤ 1000) (hM : ∀ c ∈ s, MeetsC c w)
    (hE : fitsE l s ≠ 0) :
    Calls Tryz.prog 10 #[.slice A1 l.length c1, .slice A2 s.length c2] w fun e w' => e = .returned (.tuple #[.slice none 0 0, .int .i64 (fitsE l s)]) ∧ Below w.heap.size w w' := by
  have CF := Lib.hid (fits_any l c1 s c2 w hr hl h hn hM)
  have hE2 : ¬ fitsE l s = 0 := hE
  clear hr h hM hE
  generalize fitsE l s = e0 at *
  go_enter Tryz.func10, Tryz.ntmps10
  go_wp2_with (go_at_call 11; ((with_reducible refine CF.out.mono ?_); rintro e w1 ⟨rfl, k1⟩))
  go_ret2
  exact ⟨rfl, k1⟩
theorem foldl_take_succ {α β : Type} (f : β → α → β) (b : β) (s : List α) (i : Nat) (hi : i < s.length) : (s.take (i + 1)).foldl f b = f ((s.take i).foldl f b) s[i] := by
  rw [List.take_succ_eq_append_getElem hi, List.foldl_append]; rfl
theorem foldl_putP_len (s : List Ch) : ∀ l : List Ob, (s.foldl putP l).length ≤ l.length + s.length := by
  induction s with
  | nil => intro l; simp
  | cons c s ih => intro l; have h1 := ih (putP l c); have h2 := putP_len l c; simp only [List.foldl_cons, List.length_cons]; omega
set_option maxHeartbeats 8000000 in
theorem apply_any {A1 A2 : Option Addr} (l : List Ob) (s : List Ch) (c1 c2 : Nat) (w : World) (hr : RdK obK w w.heap.size A1 l) (hA : A1 = none → l = []) (hl : l.length ≤ 90000) (h : RdK chK w w.heap.size A2 s) (hn : s.length ≤ 1000) (hM : ∀ c ∈ s, MeetsC c w)
    (hE : fitsE l s = 0) :
    Calls Tryz.prog 10 #[.slice A1 l.length c1, .slice A2 s.length c2] w fun e w' => ∃ A3 c3 l', e = .returned (.tuple #[.slice A3 (s.foldl putP l).length c3, .int .i64 0]) ∧ Sorted (s.foldl putP l) l' ∧ RdK obK w' w'.heap.size A3 l' ∧ Below w.heap.size w w' := by
  have CF := fits_any l c1 s c2 w hr (by omega) h hn hM
  rw [hE] at CF
  have CF := Lib.hid CF
  have CC := Lib.hid (fun W (k : Below w.heap.size w W) => cloneO_all c1 l W ((hr.below k).more k.size) hA (by omega))
  have CP := Lib.hid (fun W own (r : List Ob) (c : Ch) (o1 : OwnK obK W w.heap.size own r) (hr1 : r.length ≤ 100000) (hb1 : w.heap.size ≤ W.heap.size) => put_any c r own w.heap.size W o1 hr1 hb1)
  have H := Lib.hid h
  have LP : Hid (∀ i, ((s.take i).foldl putP l).length ≤ 100000) := Lib.hid (fun i => by
    have := foldl_putP_len (s.take i) l
    have h2 : (s.take i).length ≤ s.length := List.length_take_le' _ _
    omega)
  have LT := Lib.hid (fun i (hi : i < s.length) => foldl_take_succ putP l s i hi)
  clear hr h hM hE hA
  go_enter Tryz.func10, Tryz.ntmps10
  go_wp2_with (first
    | (go_at_call 11; ((with_reducible refine CF.out.mono ?_); rintro e w1 ⟨rfl, k1⟩))
    | (go_at_call 30; ((with_reducible refine (CC.out _ k1).mono ?_); rintro e w2 ⟨v0, rfl, o2, q2⟩; have K2 := Lib.hid (bThen k1 q2); have O2 := Lib.hid (o2.base k1.size); clear o2 q2)))
  go_loopw [7, 20] (fun own i wr => (∃ k : Nat, i = .int .i64 k ∧ k ≤ s.length ∧ Hid (OwnK obK wr w.heap.size own ((s.take k).foldl putP l))) ∧ Below w.heap.size w wr) (fun _ i _ => s.length - (intOf i).toNat)
  case atStart => exact ⟨⟨0, rfl, Nat.zero_le _, O2⟩, K2.out⟩
  case round =>
    obtain ⟨⟨k, rfl, hk, HO⟩, k3⟩ := hrel
    have K3 := Lib.hid k3
    by_cases hlt : k < s.length
    · obtain ⟨b, off, rfl, hbk, hcc⟩ := chs_at (H.out.below k3) (by omega)
      obtain ⟨p0, p1, p2, p3, p4, p5, p6, p7, p8, p9, p10, p11, p12, p13, p14⟩ := hcc k _ (List.getElem?_eq_getElem hlt)
      have ek := LT.out k hlt
      have HL := LP.out k
      clear hcc
      generalize s[k] = c at *
      have i1 : (k : Int) < (s.length : Int) := by omega
      have hs := k3.size
      generalize (s.take k).foldl putP l = r at *
      have EK := Lib.hid ek
      clear ek
      go_wp2_with (go_at_call 31; ((refine (CP.out _ _ r c (HO.out.below (bAl (Below.refl _ wr) (.cells (chCells c) 39))) HL (bAl k3 (.cells (chCells c) 39)).size).mono ?_); rintro e w4 ⟨v4, rfl, o4, q4⟩; have O4 := Lib.hid o4; have K4 := Lib.hid ((bAl k3 (.cells (chCells c) 39)).trans q4); clear o4 q4))
      go_roundw
      case rel => exact ⟨⟨k + 1, by go_num, by omega, Lib.hid (by rw [EK.out]; exact O4.out)⟩, K4.out⟩
      case measure => simp [intOf]; omega
    · obtain rfl : k = s.length := by omega
      have i1 : ¬ ((s.length : Int) < (s.length : Int)) := by omega
      have HL := LP.out s.length
      rw [List.take_length] at HO HL
      obtain ⟨A3, c3, rfl, ct⟩ := sortStable_own (s.foldl putP l) wr HO.out HL k3.size
      have CT := Lib.hid ct
      clear ct
      obtain ⟨r, hr9⟩ : ∃ r, s.foldl putP l = r := ⟨_, rfl⟩
      rw [hr9] at CT HO HL ⊢
      have HR := Lib.hid hr9
      clear hr9
      go_wp2_with (go_at_call 32; ((with_reducible refine CT.out.mono ?_); rintro e w5 ⟨rfl, ⟨l5, s5, r5⟩, q5⟩; have R5 := Lib.hid r5; have S5 := Lib.hid s5; have K5 := Lib.hid (k3.trans q5); clear q5 r5 s5))
      go_ret2
      try rw [HR.out]
      exact ⟨A3, c3, l5, rfl, S5.out, R5.out, K5.out⟩
end Go.Proofs.YtncahpbjbgcnbaaGreatDoor.DX
