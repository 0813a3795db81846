/-
  WALK: the document's Without, out of what is said of its Sort (RefSortSaid: walked elsewhere).
-/
import Derived.Test.YtlbeaofnolaooaaHAwake
import Derived.Test.YtlbeaofnolaooaaHInsert
namespace Go.Proofs.Ytlbeaofnolaooaa
open Go.RowKit
set_option maxRecDepth 100000
set_option linter.unusedVariables false
set_option linter.unusedSimpArgs false

def RefSortSaid : Prop := ∀ (A : Option Addr) (c : Nat) (xs : List Bs) (W : World), Strs W W.heap.size A xs → xs.length ≤ 200 → (∀ x ∈ xs, x.length ≤ 100) →
  Calls Try.prog 23 #[.slice A xs.length c] W fun e w' => ∃ v, e = .returned v ∧ OwnS w' W.heap.size v (sortU xs) ∧ Below W.heap.size W w'

theorem filter_succ_t {l : List Bs} {k : Nat} {p : Bs → Bool} (h : k < l.length) (hp : p l[k] = true) : (l.take (k + 1)).filter p = (l.take k).filter p ++ [l[k]] := by
  rw [List.take_succ_eq_append_getElem h, List.filter_append]
  simp [hp]
theorem filter_succ_f {l : List Bs} {k : Nat} {p : Bs → Bool} (h : k < l.length) (hp : p l[k] = false) : (l.take (k + 1)).filter p = (l.take k).filter p := by
  rw [List.take_succ_eq_append_getElem h, List.filter_append]
  simp [hp]
theorem filter_le (l : List Bs) (k : Nat) (p : Bs → Bool) (h : k ≤ l.length) : ((l.take k).filter p).length ≤ k :=
  Nat.le_trans (List.length_filter_le _ _) (by rw [List.length_take]; omega)

set_option maxHeartbeats 2000000 in
theorem refWithout_any (CS : RefSortSaid) (A1 A2 : Option Addr) (c1 c2 : Nat) (xs ys : List Bs) (w : World) (h1 : Strs w w.heap.size A1 xs) (h2 : Strs w w.heap.size A2 ys) (hn : xs.length ≤ 200) (hm : ys.length ≤ 200) (he : ∀ x ∈ xs, x.length ≤ 100) :
    Calls Try.prog 25 #[.slice A1 xs.length c1, .slice A2 ys.length c2] w fun e w' => ∃ v, e = .returned v ∧ OwnS w' w.heap.size v (withoutU xs ys) ∧ Below w.heap.size w w' := by
  obtain ⟨i0, hi, hz0, hz1, hz2⟩ := info_parts info_str
  have HCS := Lib.hid CS
  have H1 := Lib.hid h1
  have H2 := Lib.hid h2
  have HE := Lib.hid he
  clear CS h1 h2 he
  have HW : Hid (sortU (xs.filter fun x => !decide (x ∈ ys)) = withoutU xs ys) := Lib.hid (sortU_filter xs ys)
  go_enter Try.func25, Try.ntmps25
  go_wp2
  go_loopw [5, 6] (fun v i wr => ∃ (k : Nat) (zs : List Bs), i = .int .i64 k ∧ k ≤ xs.length ∧ Hid (zs = (xs.take k).filter fun x => !decide (x ∈ ys)) ∧ zs.length ≤ k ∧ OwnS wr w.heap.size v zs ∧ Below w.heap.size w wr) (fun _ i _ => xs.length - (intOf i).toNat)
  case atStart => exact ⟨0, [], rfl, Nat.zero_le _, Lib.hid (by simp), Nat.le_refl _, OwnS.nil_ w _, Below.refl _ _⟩
  case round =>
    obtain ⟨k, zs, rfl, hk, HZ, hzl, hown, hb⟩ := hrel
    by_cases hlt : k < xs.length
    · obtain ⟨b, o, rfl, _, hcc⟩ := (H1.out.below hb).at_ (by omega)
      have hx := hcc k _ (List.getElem?_eq_getElem hlt)
      have CH := fun W (hW : Strs W w.heap.size A2 ys) => Lib.hid (has_any A2 c2 ys xs[k] _ W hW (by unfold maxLen; omega))
      have S2 := Lib.hid (H2.out.below hb)
      clear hcc
      by_cases hm' : xs[k] ∈ ys
      · have hd : decide (xs[k] ∈ ys) = true := decide_eq_true hm'
        have HZ2 : Hid (zs = (xs.take (k + 1)).filter fun x => !decide (x ∈ ys)) := Lib.hid (by rw [filter_succ_f hlt (by simp [hm']), HZ.out])
        have HO := Lib.hid hown
        clear hm' hown
        go_wp2_with (go_at_call 44; refine (CH _ S2.out).out.mono ?_; rintro e w1 ⟨rfl, rfl⟩)
        go_roundw
        case rel => exact ⟨k + 1, zs, by go_num, by omega, HZ2, by omega, HO.out, hb⟩
        case measure => simp [intOf]; omega
      · have hd : decide (xs[k] ∈ ys) = false := decide_eq_false hm'
        have HZ2 : Hid (zs ++ [xs[k]] = (xs.take (k + 1)).filter fun x => !decide (x ∈ ys)) := Lib.hid (by rw [filter_succ_t hlt (by simp [hm']), HZ.out])
        clear hm'
        go_wp2_with (first | (go_at_call 44; refine (CH _ S2.out).out.mono ?_; rintro e w1 ⟨rfl, rfl⟩) | (at_builtin; refine wpList_append_own _ rfl _ _ 25 rfl w.heap.size 9 i0 (.string ByteArray.empty) 1 16 Try.underlying25 hi hz0 hz1 hz2 rfl (by decide) _ _ _ rfl (hown.alloc _) ⟨wr.heap.size, 0, none⟩ 1 1 [str xs[k]] rfl rfl ?c1A ?c2A ?c3A ?c4A ?c5A ?_))
        case c1A => exact (cell_one_new _ _ _)
        case c2A => exact str_one _ rfl
        case c3A => unfold maxLen; omega
        case c4A => omega
        case c5A => have := hb.size; simp; omega
        intro v' w1 hown1 hg1 _
        have hb1 := below_append hb (Nat.le_refl _) hown (Nat.le_refl _) hg1
        have HO1 := Lib.hid (OwnS.more hown1 rfl)
        clear hown1 hg1 hown
        go_wp2
        go_roundw
        case rel => exact ⟨k + 1, _, by go_num, by omega, HZ2, by rw [List.length_append, List.length_singleton]; omega, HO1.out, hb1⟩
        case measure => simp [intOf]; omega
    · have hks : k = xs.length := by omega
      subst hks
      rw [List.take_of_length_le (Nat.le_refl _)] at HZ
      obtain ⟨A, c, rfl, s0, _, _⟩ := hown.form
      have hsz : sortU zs = withoutU xs ys := by rw [HZ.out, HW.out]
      have c0 := HCS.out A c zs wr s0 (by omega) (fun x hx => HE.out x (by rw [HZ.out] at hx; exact (List.mem_filter.1 hx).1))
      rw [hsz] at c0
      have C0 := Lib.hid c0
      clear c0 hsz
      have HZ3 : Hid (zs = xs.filter fun x => !decide (x ∈ ys)) := HZ
      clear HZ s0 hown
      go_wp2_with (go_at_call 23; refine C0.out.mono ?_; rintro e w2 ⟨v2, rfl, o2, b2⟩; have HO2 := Lib.hid o2; clear o2)
      go_ret
      exact ⟨_, rfl, HO2.out.base hb.size, hb.trans (b2.mono hb.size)⟩
end Go.Proofs.Ytlbeaofnolaooaa
