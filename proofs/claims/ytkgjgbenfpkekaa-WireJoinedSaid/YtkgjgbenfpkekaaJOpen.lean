/-
  A row of rows of bytes that came in as an argument.
-/
import Derived.Test.YtkgjgbenfpkekaaJKit
import Derived.Test.YtkgjgbenfpkekaaPOpenB
import Derived.Deep.SlicePairs
import Derived.OpenShut
import Derived.ProofKit
namespace Go.Proofs.Ytkgjgbenfpkekaa
open Go.ChangeShapes Go.WideShapes Go.ChangeAt Go.RowKit
open IX (RdK)
set_option maxRecDepth 100000
set_option linter.unusedVariables false

theorem open_fr1 {H : Type} {enc : TypeId × Value → H} {W : World} {spare : Nat → Bool} {held : Bool} {n : Nat} {y : DataW H × List MemPlace} {cs : List Value}
    (h2 : DataW.trod enc Try.prog W 0 spare held n 26 cs = some y) :
    ∃ (x : JX.Sl3) (f : YX.Bs), cs = [.slice x.A x.n x.c] ∧ x.n = f.length ∧ RdK YX.u8K W W.heap.size x.A f ∧ f.length ≤ x.c ∧ f.length ≤ maxLen := by
  rcases open_ints Try.underlying26 Try.underlying5 cells_u8_ h2 with ⟨hcs, _⟩ | ⟨a, len, cap, zs, hcs, _, hl, hm, hz, _, hcell, hwz⟩
  · exact ⟨⟨none, 0, 0⟩, [], hcs, rfl, .inl rfl, Nat.le_refl _, Nat.zero_le _⟩
  · have hzl : len ≤ zs.length := by rw [hz]; split <;> omega
    have hlen : ((zs.take len).map fun z => UInt8.ofNat z.toNat).length = len := by simp; omega
    refine ⟨⟨some a, len, cap⟩, (zs.take len).map fun z => UInt8.ofNat z.toNat, hcs, hlen.symm, YX.rdY_back ?_, by rw [hlen]; exact hl, by rw [hlen]; omega⟩
    by_cases h0 : len = 0
    · subst h0; exact .inl (by simp)
    · have c0 := hcell 0 (by omega)
      obtain ⟨b, off, spot⟩ := a
      have hspot : spot = none := by simpa [Addr.add] using World.cell?_spot c0
      subst hspot
      refine .inr ⟨b, off, rfl, by simpa [Addr.add] using World.block_lt_of_cell? W _ c0, fun j x hx => ?_⟩
      have hj : j < len := by
        have := (List.getElem?_eq_some_iff.1 hx).1
        rw [hlen] at this; exact this
      have hc := hcell j (by omega)
      have hadd : (⟨b, off, none⟩ : Addr).add j = ⟨b, off + j, none⟩ := by unfold Addr.add; split <;> simp_all
      rw [hadd] at hc
      rw [hc]
      have hj2 : j < zs.length := by omega
      rw [List.getElem?_map, List.getElem?_take, if_pos hj, List.getElem?_eq_getElem hj2] at hx
      simp only [Option.map_some, Option.some.injEq] at hx
      rw [List.getD_eq_getElem?_getD, List.getElem?_eq_getElem hj2, ← hx]
      obtain ⟨y, e⟩ := u8_of (hwz _ (List.getElem_mem hj2))
      simp [e]
theorem open_frs {H : Type} {enc : TypeId × Value → H} {W : World} {b0 : Nat} {spare : Nat → Bool} {held : Bool} {v : Value} {d : DataW H} {p : List MemPlace}
    (hv : Value.okWide Try.prog W .any b0 60 v) (h : DataW.Trod enc Try.prog W 0 spare held 60 v d p) :
    ∃ (A : Option Addr) (L : List JX.Sl3) (l : List YX.Bs) (c : Nat), v = .slice A l.length c ∧ RdK JX.slK W W.heap.size A L ∧ JX.Frs W W.heap.size L l ∧ (∀ f ∈ l, f.length ≤ maxLen) ∧ l.length ≤ maxLen ∧ l.length ≤ c := by
  obtain ⟨a1, len, cap, rfl⟩ := okWide_slice Try.underlying60 hv
  obtain ⟨fuel, hf⟩ := h
  rcases Go.Deep.open_slice Try.underlying60 hf with ⟨hcs, _⟩ | ⟨a, len', cap', m, n, D, Pl, hcs, _, hl, hm, hmm, _, hc⟩
  · simp [Value.cells] at hcs
    obtain ⟨rfl, rfl, rfl⟩ := hcs
    exact ⟨none, [], [], 0, rfl, .inl rfl, JX.Frs.nil _ _, fun _ h => (by cases h), Nat.zero_le _, Nat.zero_le _⟩
  · simp [Value.cells] at hcs
    obtain ⟨rfl, rfl, rfl⟩ := hcs
    have hlm : len ≤ m := by rw [hmm]; split <;> omega
    have ce : Try.prog.cellsOf 26 = 1 := by kernel_rfl
    have hex : ∀ i, i < m → ∃ p : JX.Sl3 × YX.Bs, W.cell? (a.add i) = some (.slice p.1.A p.1.n p.1.c) ∧ p.1.n = p.2.length ∧ RdK YX.u8K W W.heap.size p.1.A p.2 ∧ p.2.length ≤ p.1.c ∧ p.2.length ≤ maxLen := by
      intro i hi
      obtain ⟨cs', h1, h2⟩ := hc i hi
      rw [ce] at h1
      obtain ⟨_, hlen, hcell⟩ := World.cells?_some h1
      obtain ⟨x, f, rfl, e1, e2, e3, e4⟩ := open_fr1 h2
      refine ⟨(x, f), ?_, e1, e2, e3, e4⟩
      have q := hcell 0 (by omega)
      rw [Go.Deep.add_add] at q
      simpa using q
    have hch : ∃ g : Nat → JX.Sl3 × YX.Bs, ∀ i, i < m → W.cell? (a.add i) = some (.slice (g i).1.A (g i).1.n (g i).1.c) ∧ (g i).1.n = (g i).2.length ∧ RdK YX.u8K W W.heap.size (g i).1.A (g i).2 ∧ (g i).2.length ≤ (g i).1.c ∧ (g i).2.length ≤ maxLen :=
      ⟨fun i => if h : i < m then Classical.choose (hex i h) else (⟨none, 0, 0⟩, []), fun i hi => by simp only [hi, dif_pos]; exact Classical.choose_spec (hex i hi)⟩
    obtain ⟨g, hg⟩ := hch
    refine ⟨some a, (List.range len).map (fun i => (g i).1), (List.range len).map (fun i => (g i).2), cap, by simp, ?_, ⟨by simp, fun i x f hx hf => ?_⟩, fun f hf => ?_, by simp; omega, by simp; exact hl⟩
    · by_cases h0 : len = 0
      · subst h0; exact .inl (by simp)
      · have c0 := (hg 0 (by omega)).1
        obtain ⟨b, off, spot⟩ := a
        have hspot : spot = none := by simpa [Addr.add] using World.cell?_spot c0
        subst hspot
        refine .inr ⟨b, off, rfl, by simpa [Addr.add] using World.block_lt_of_cell? W _ c0, fun q u hu => ?_⟩
        obtain ⟨j, i, x, rfl, hx, hu2⟩ := IX.cellsK_inv JX.slK hu
        have hj : j < len := by have := (List.getElem?_eq_some_iff.1 hx).1; simpa using this
        have hi0 : i = 0 := by
          have := (List.getElem?_eq_some_iff.1 hu2).1
          rw [JX.slK.len] at this
          have e : JX.slK.size = 1 := rfl
          omega
        subst hi0
        have q0 := (hg j (by omega)).1
        have hadd : ∀ k, (⟨b, off, none⟩ : Addr).add k = ⟨b, off + k, none⟩ := fun k => by unfold Addr.add; split <;> simp_all
        rw [hadd] at q0
        have e1 : j * JX.slK.size + 0 = j := by show j * 1 + 0 = j; omega
        rw [e1, q0]
        simp [hj] at hx
        subst hx
        exact hu2
    · have hi : i < len := by have := (List.getElem?_eq_some_iff.1 hx).1; simpa using this
      simp [hi] at hx hf
      subst hx hf
      have := hg i (by omega)
      exact ⟨this.2.1, this.2.2.1, this.2.2.2.1⟩
    · obtain ⟨i, hi, rfl⟩ := List.mem_map.1 hf
      have := List.mem_range.1 hi
      exact (hg i (by omega)).2.2.2.2
end Go.Proofs.Ytkgjgbenfpkekaa
