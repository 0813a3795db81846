/-
  A row of acts that came in as an argument.
-/
import Derived.Test.YtpdhfogmdhnoeaaIActs
import Derived.Deep.SlicePairs
import Derived.OpenShut
import Derived.ProofKit
namespace Go.Proofs.Ytpdhfogmdhnoeaa
open Go.ChangeShapes Go.WideShapes Go.ChangeAt Go.RowKit
set_option maxRecDepth 100000

theorem open_acts {H : Type} {enc : TypeId × Value → H} {W : World} {b0 : Nat} {spare : Nat → Bool} {held : Bool} {v : Value} {d : DataW H} {p : List MemPlace}
    (hv : Value.okWide Try.prog W .any b0 22 v) (h : DataW.Trod enc Try.prog W 0 spare held 22 v d p) :
    ∃ (A : Option Addr) (l : List IX.Act1) (c : Nat), v = .slice A l.length c ∧ IX.RdA W W.heap.size A l ∧ (∀ x ∈ l, x.h.length ≤ maxLen) ∧ l.length ≤ maxLen ∧ l.length ≤ c := by
  obtain ⟨a1, len, cap, rfl⟩ := okWide_slice Try.underlying22 hv
  obtain ⟨fuel, hf⟩ := h
  rcases Go.Deep.open_slice Try.underlying22 hf with ⟨hcs, _⟩ | ⟨a, len', cap', m, n, D, Pl, hcs, _, hl, hm, hmm, _, hc⟩
  · simp [Value.cells] at hcs
    obtain ⟨rfl, rfl, rfl⟩ := hcs
    exact ⟨none, [], 0, rfl, .inl rfl, fun _ h => (by cases h), Nat.zero_le _, Nat.zero_le _⟩
  · simp [Value.cells] at hcs
    obtain ⟨rfl, rfl, rfl⟩ := hcs
    have hlm : len ≤ m := by rw [hmm]; split <;> omega
    have ce : Try.prog.cellsOf 32 = 3 := by kernel_rfl
    have ct : Try.prog.cellsOf 4 = 1 := by kernel_rfl
    have ch : Try.prog.cellsOf 9 = 1 := by kernel_rfl
    have ci : Try.prog.cellsOf 3 = 1 := by kernel_rfl
    have hex : ∀ i, i < m → ∃ x : IX.Act1, W.cell? (a.add (i * 3)) = some (.bool x.take) ∧ W.cell? (a.add (i * 3 + 1)) = some (HL.str x.h) ∧ W.cell? (a.add (i * 3 + 2)) = some (.int .i64 x.n) ∧ x.h.length ≤ maxLen := by
      intro i hi
      obtain ⟨cs', h1, h2⟩ := hc i hi
      rw [ce] at h1
      obtain ⟨_, hlen, hcell⟩ := World.cells?_some h1
      obtain ⟨xs, k, _, _, _, hxl, hf⟩ := DataW.trod_struct Try.underlying32 h2
      match xs, hxl, cs', hlen with
      | [y0, y1, y2], _, [v0, v1, v2], _ =>
        have g0 := hf 0 _ rfl
        have g1 := hf 1 _ rfl
        have g2 := hf 2 _ rfl
        simp [ct, ch, ci] at g0 g1 g2
        obtain ⟨x0, e0, -⟩ := DataW.trod_bool Try.underlying4 g0
        obtain ⟨x1, e1, -, q1⟩ := DataW.trod_string Try.underlying9 g1
        obtain ⟨x2, e2, -, q2⟩ := DataW.trod_int Try.underlying3 g2
        simp at e0 e1 e2
        subst e0; subst e1; subst e2
        have c0 := hcell 0 (by omega)
        have c1 := hcell 1 (by omega)
        have c2 := hcell 2 (by omega)
        rw [Go.Deep.add_add] at c0 c1 c2
        exact ⟨⟨x0, x1.data.toList, x2⟩, by simpa using c0, by simpa using c1, by simpa using c2, by simpa using q1⟩
    have hch : ∃ f : Nat → IX.Act1, ∀ i, i < m → W.cell? (a.add (i * 3)) = some (.bool (f i).take) ∧ W.cell? (a.add (i * 3 + 1)) = some (HL.str (f i).h) ∧ W.cell? (a.add (i * 3 + 2)) = some (.int .i64 (f i).n) ∧ (f i).h.length ≤ maxLen :=
      ⟨fun i => if h : i < m then Classical.choose (hex i h) else ⟨false, [], 0⟩, fun i hi => by simp only [hi, dif_pos]; exact Classical.choose_spec (hex i hi)⟩
    obtain ⟨f, hf2⟩ := hch
    refine ⟨some a, (List.range len).map f, cap, by simp, ?_, fun x hx => ?_, by simp; omega, by simp; exact hl⟩
    · by_cases h0 : len = 0
      · subst h0; exact .inl (by simp)
      · have c0 := (hf2 0 (by omega)).1
        obtain ⟨b, off, spot⟩ := a
        have hspot : spot = none := by simpa [Addr.add] using World.cell?_spot c0
        subst hspot
        refine .inr ⟨b, off, rfl, by simpa [Addr.add] using World.block_lt_of_cell? W _ c0, fun j x hx => ?_⟩
        have hj : j < len := by have := (List.getElem?_eq_some_iff.1 hx).1; simpa using this
        obtain ⟨q0, q1, q2, _⟩ := hf2 j (by omega)
        have hadd : ∀ k, (⟨b, off, none⟩ : Addr).add k = ⟨b, off + k, none⟩ := fun k => by unfold Addr.add; split <;> simp_all
        rw [hadd] at q0 q1 q2
        simp [hj] at hx
        subst hx
        exact ⟨q0, by rw [Nat.add_assoc]; exact q1, by rw [Nat.add_assoc]; exact q2⟩
    · obtain ⟨i, hi, rfl⟩ := List.mem_map.1 hx
      have := List.mem_range.1 hi
      exact (hf2 i (by omega)).2.2.2
end Go.Proofs.Ytpdhfogmdhnoeaa
