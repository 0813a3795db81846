/-
  A row of kinds, and an array of four, that came in as an argument.
-/
import Derived.Test.YtmhckcpcnkhbeaaDoorCRow
import Derived.Test.YtmhckcpcnkhbeaaDoorOOpen
import Derived.OpenShut
import Derived.ProofKit
namespace Go.Proofs.YtmhckcpcnkhbeaaDoor
open Go.ChangeShapes Go.WideShapes Go.ChangeAt Go.RowKit
set_option maxRecDepth 100000

theorem cells_u8 : Tryd.prog.cellsOf 5 = 1 := by kernel_rfl
/-- WHAT A ROW OF KINDS THAT CAME IN GIVES. -/
theorem open_row {H : Type} {enc : TypeId × Value → H} {W : World} {b0 : Nat} {spare : Nat → Bool} {held : Bool} {v : Value} {d : DataW H} {p : List MemPlace}
    (hv : Value.okWide Tryd.prog W .any b0 22 v) (h : DataW.Trod enc Tryd.prog W 0 spare held 22 v d p) :
    ∃ (A : Option Addr) (l : List Nat) (c : Nat), v = .slice A l.length c ∧ RdU W W.heap.size A l ∧ (∀ x ∈ l, x ≤ 255) ∧ l.length ≤ maxLen ∧ l.length ≤ c := by
  obtain ⟨a1, len, cap, rfl⟩ := okWide_slice Tryd.underlying22 hv
  obtain ⟨fuel, hf⟩ := h
  rcases open_ints Tryd.underlying22 Tryd.underlying5 cells_u8 hf with ⟨hcs, _⟩ | ⟨a, len', cap', zs, hcs, _, hl, hm, hz, _, hcell, hwz⟩
  · simp [Value.cells] at hcs
    obtain ⟨rfl, rfl, rfl⟩ := hcs
    exact ⟨none, [], 0, rfl, .inl rfl, fun _ h => (by cases h), Nat.zero_le _, Nat.zero_le _⟩
  · simp [Value.cells] at hcs
    obtain ⟨rfl, rfl, rfl⟩ := hcs
    have hzl : len ≤ zs.length := by rw [hz]; split <;> omega
    have hlen : ((zs.take len).map Int.toNat).length = len := by simp; omega
    refine ⟨some a, (zs.take len).map Int.toNat, cap, by rw [hlen], ?_, fun x hx => ?_, by rw [hlen]; omega, by rw [hlen]; exact hl⟩
    · by_cases h0 : len = 0
      · subst h0; exact .inl (by simp)
      · have c0 := hcell 0 (by omega)
        obtain ⟨b, off, spot⟩ := a
        have hspot : spot = none := by simpa [Addr.add] using World.cell?_spot c0
        subst hspot
        refine .inr ⟨b, off, rfl, by simpa [Addr.add] using World.block_lt_of_cell? W _ c0, fun j x hx => ?_⟩
        have hj : j < len := by
          have := (List.getElem?_eq_some_iff.1 hx).1
          rw [hlen] at this; exact this
        have hc := hcell j (by omega)
        have hadd : (⟨b, off, none⟩ : Addr).add j = ⟨b, off + j, none⟩ := by unfold Addr.add; split <;> simp_all
        rw [hadd] at hc
        rw [hc]
        have hj2 : j < zs.length := by omega
        rw [List.getElem?_map, List.getElem?_take, if_pos hj, List.getElem?_eq_getElem hj2] at hx
        simp only [Option.map_some, Option.some.injEq] at hx
        rw [List.getD_eq_getElem?_getD, List.getElem?_eq_getElem hj2, ← hx]
        obtain ⟨n, e, _⟩ := u8_open (hwz _ (List.getElem_mem hj2))
        simp [e]
    · obtain ⟨z, hz2, rfl⟩ := List.mem_map.1 hx
      obtain ⟨n, e, hn⟩ := u8_open (hwz _ (List.mem_of_mem_take hz2))
      simp [e]; omega
/-- WHAT AN ARRAY OF FOUR NUMBERS GIVES. -/
theorem open_four {H : Type} {enc : TypeId × Value → H} {W : World} {b0 : Nat} {spare : Nat → Bool} {held : Bool} {v : Value} {d : DataW H} {p : List MemPlace}
    (hv : Value.okWide Tryd.prog W .any b0 43 v) (h : DataW.Trod enc Tryd.prog W 0 spare held 43 v d p) :
    ∃ a b c e : Nat, v = .agg #[u8 a, u8 b, u8 c, u8 e] ∧ a ≤ 255 ∧ b ≤ 255 ∧ c ≤ 255 ∧ e ≤ 255 := by
  obtain ⟨cs, rfl, hsz⟩ : ∃ cs, v = .agg cs ∧ cs.size = Tryd.prog.cellsOf 43 := by
    simp only [Value.okWide, Tryd.underlying43] at hv
    obtain ⟨cs, h1, h2, _⟩ := hv
    exact ⟨cs, h1, h2⟩
  have hC : Tryd.prog.cellsOf 43 = 4 := by kernel_rfl
  rw [hC] at hsz
  obtain ⟨fuel, hf⟩ := h
  obtain ⟨xs, m1, _, _, hlen, hn3, hel⟩ := DataW.trod_array Tryd.underlying43 hf
  rw [cells_u8] at hel
  obtain ⟨l⟩ := cs
  match l, hsz with
  | [c0, c1, c2, c3], _ =>
    have g : ∀ (i : Nat) (x : Value), ([c0, c1, c2, c3] : List Value)[(i : Nat)]? = some x → ∃ n : Nat, x = u8 n ∧ n ≤ 255 := by
      intro i x hx
      have hi : i < 4 := by have := (List.getElem?_eq_some_iff.1 hx).1; simpa using this
      have h1 := hel i hi
      rw [List.getElem?_eq_getElem (by omega)] at h1
      have e1 : ((Value.agg #[c0, c1, c2, c3]).cells.toList.drop (i * 1)).take 1 = [x] := by
        rcases (show i = 0 ∨ i = 1 ∨ i = 2 ∨ i = 3 by omega) with rfl | rfl | rfl | rfl <;> simp [Value.cells] at hx ⊢ <;> exact hx
      rw [e1] at h1
      obtain ⟨z, e, _, q⟩ := DataW.trod_int Tryd.underlying5 h1
      obtain rfl := (List.cons.inj e).1
      obtain ⟨n, rfl, hn⟩ := u8_open q
      exact ⟨n, rfl, hn⟩
    obtain ⟨a, rfl, ha⟩ := g 0 _ rfl
    obtain ⟨b, rfl, hb⟩ := g 1 _ rfl
    obtain ⟨c, rfl, hc⟩ := g 2 _ rfl
    obtain ⟨e, rfl, he⟩ := g 3 _ rfl
    exact ⟨a, b, c, e, rfl, ha, hb, hc, he⟩
end Go.Proofs.YtmhckcpcnkhbeaaDoor
