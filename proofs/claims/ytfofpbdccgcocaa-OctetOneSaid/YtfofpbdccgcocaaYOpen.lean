/-
  Bytes, things, a thing that came in as an argument.
-/
import Derived.Test.YtfofpbdccgcocaaYAwake
import Derived.Deep.SlicePairs
import Derived.OpenShut
import Derived.ProofKit
import Derived.Lib.SmallJoins
namespace Go.Proofs.Ytfofpbdccgcocaa
open Go.ChangeShapes Go.WideShapes Go.ChangeAt Go.RowKit Go.Joins
open IX (RdK)
set_option maxRecDepth 100000
set_option linter.unusedVariables false

theorem cells_u8_ : Try.prog.cellsOf 5 = 1 := by kernel_rfl
theorem u8_of {x : Int} (h : (Lit.int .u8 x).wf = true) : ∃ b : UInt8, x = (b.toNat : Int) := by
  simp [Lit.wf, show IntKind.u8.min = 0 from rfl, show IntKind.u8.max = 255 from rfl] at h
  exact ⟨UInt8.ofNat x.toNat, by rw [YX.u8n (by omega)]; omega⟩
theorem u64_of {x : Int} (h : (Lit.int .u64 x).wf = true) : ∃ n : Nat, x = (n : Int) ∧ n < 18446744073709551616 := by
  simp [Lit.wf, show IntKind.u64.min = 0 from rfl, show IntKind.u64.max = 18446744073709551615 from rfl] at h
  exact ⟨x.toNat, by omega, by omega⟩
theorem open_bytes {H : Type} {enc : TypeId × Value → H} {W : World} {b0 : Nat} {spare : Nat → Bool} {held : Bool} {v : Value} {d : DataW H} {p : List MemPlace}
    (hv : Value.okWide Try.prog W .any b0 28 v) (h : DataW.Trod enc Try.prog W 0 spare held 28 v d p) :
    ∃ (A : Option Addr) (l : YX.Bs) (c : Nat), v = .slice A l.length c ∧ RdK YX.u8K W W.heap.size A l ∧ l.length ≤ maxLen ∧ l.length ≤ c ∧ (A = none → c = 0) := by
  obtain ⟨a1, len, cap, rfl⟩ := okWide_slice Try.underlying28 hv
  obtain ⟨fuel, hf⟩ := h
  rcases open_ints Try.underlying28 Try.underlying5 cells_u8_ hf with ⟨hcs, _⟩ | ⟨a, len', cap', zs, hcs, _, hl, hm, hz, _, hcell, hwz⟩
  · simp [Value.cells] at hcs
    obtain ⟨rfl, rfl, rfl⟩ := hcs
    exact ⟨none, [], 0, rfl, .inl rfl, Nat.zero_le _, Nat.zero_le _, fun _ => rfl⟩
  · simp [Value.cells] at hcs
    obtain ⟨rfl, rfl, rfl⟩ := hcs
    have hzl : len ≤ zs.length := by rw [hz]; split <;> omega
    have hlen : ((zs.take len).map fun z => UInt8.ofNat z.toNat).length = len := by simp; omega
    refine ⟨some a, (zs.take len).map fun z => UInt8.ofNat z.toNat, cap, by rw [hlen], YX.rdY_back ?_, by rw [hlen]; omega, by rw [hlen]; exact hl, fun q => (by cases q)⟩
    by_cases h0 : len = 0
    · subst h0; exact .inl (by simp)
    · have c0 := hcell 0 (by omega)
      obtain ⟨b, off, spot⟩ := a
      have hspot : spot = none := by simpa [Addr.add] using World.cell?_spot c0
      subst hspot
      refine .inr ⟨b, off, rfl, by simpa [Addr.add] using World.block_lt_of_cell? W _ c0, fun j x hx => ?_⟩
      have hj : j < len := by
        have := (List.getElem?_eq_some_iff.1 hx).1
        rw [hlen] at this; exact this
      have hc := hcell j (by omega)
      have hadd : (⟨b, off, none⟩ : Addr).add j = ⟨b, off + j, none⟩ := by unfold Addr.add; split <;> simp_all
      rw [hadd] at hc
      rw [hc]
      have hj2 : j < zs.length := by omega
      rw [List.getElem?_map, List.getElem?_take, if_pos hj, List.getElem?_eq_getElem hj2] at hx
      simp only [Option.map_some, Option.some.injEq] at hx
      rw [List.getD_eq_getElem?_getD, List.getElem?_eq_getElem hj2, ← hx]
      obtain ⟨y, e⟩ := u8_of (hwz _ (List.getElem_mem hj2))
      simp [e]
theorem open_things {H : Type} {enc : TypeId × Value → H} {W : World} {b0 : Nat} {spare : Nat → Bool} {held : Bool} {v : Value} {d : DataW H} {p : List MemPlace}
    (hv : Value.okWide Try.prog W .any b0 22 v) (h : DataW.Trod enc Try.prog W 0 spare held 22 v d p) :
    ∃ (A : Option Addr) (l : List YX.Th) (c : Nat), v = .slice A l.length c ∧ YX.RdT W W.heap.size A l ∧ (∀ x ∈ l, YX.ThOk x) ∧ l.length ≤ maxLen ∧ l.length ≤ c := by
  obtain ⟨a1, len, cap, rfl⟩ := okWide_slice Try.underlying22 hv
  obtain ⟨fuel, hf⟩ := h
  rcases Go.Deep.open_slice Try.underlying22 hf with ⟨hcs, _⟩ | ⟨a, len', cap', m, n, D, Pl, hcs, _, hl, hm, hmm, _, hc⟩
  · simp [Value.cells] at hcs
    obtain ⟨rfl, rfl, rfl⟩ := hcs
    exact ⟨none, [], 0, rfl, .inl rfl, fun _ h => (by cases h), Nat.zero_le _, Nat.zero_le _⟩
  · simp [Value.cells] at hcs
    obtain ⟨rfl, rfl, rfl⟩ := hcs
    have hlm : len ≤ m := by rw [hmm]; split <;> omega
    have ce : Try.prog.cellsOf 32 = 3 := by kernel_rfl
    have ct : Try.prog.cellsOf 5 = 1 := by kernel_rfl
    have ch : Try.prog.cellsOf 30 = 1 := by kernel_rfl
    have ci : Try.prog.cellsOf 9 = 1 := by kernel_rfl
    have hex : ∀ i, i < m → ∃ x : YX.Th, W.cell? (a.add (i * 3)) = some (.int .u8 (x.k : Int)) ∧ W.cell? (a.add (i * 3 + 1)) = some (.int .u64 (x.n : Int)) ∧ W.cell? (a.add (i * 3 + 2)) = some (HL.str x.s) ∧ YX.ThOk x := by
      intro i hi
      obtain ⟨cs', h1, h2⟩ := hc i hi
      rw [ce] at h1
      obtain ⟨_, hlen, hcell⟩ := World.cells?_some h1
      obtain ⟨xs, k, _, _, _, hxl, hf⟩ := DataW.trod_struct Try.underlying32 h2
      match xs, hxl, cs', hlen with
      | [y0, y1, y2], _, [v0, v1, v2], _ =>
        have g0 := hf 0 _ rfl
        have g1 := hf 1 _ rfl
        have g2 := hf 2 _ rfl
        simp [ct, ch, ci] at g0 g1 g2
        obtain ⟨x0, e0, -, q0⟩ := DataW.trod_int Try.underlying5 g0
        obtain ⟨x1, e1, -, q1⟩ := DataW.trod_int Try.underlying30 g1
        obtain ⟨x2, e2, -, q2⟩ := DataW.trod_string Try.underlying9 g2
        simp at e0 e1 e2
        subst e0; subst e1; subst e2
        have c0 := hcell 0 (by omega)
        have c1 := hcell 1 (by omega)
        have c2 := hcell 2 (by omega)
        rw [Go.Deep.add_add] at c0 c1 c2
        obtain ⟨y, rfl⟩ := u8_of q0
        obtain ⟨z, rfl, hz⟩ := u64_of q1
        exact ⟨⟨y.toNat, z, x2.data.toList⟩, by simpa using c0, by simpa using c1, by simpa using c2, ⟨y.toNat_lt, hz⟩⟩
    have hch : ∃ f : Nat → YX.Th, ∀ i, i < m → W.cell? (a.add (i * 3)) = some (.int .u8 ((f i).k : Int)) ∧ W.cell? (a.add (i * 3 + 1)) = some (.int .u64 ((f i).n : Int)) ∧ W.cell? (a.add (i * 3 + 2)) = some (HL.str (f i).s) ∧ YX.ThOk (f i) :=
      ⟨fun i => if h : i < m then Classical.choose (hex i h) else ⟨0, 0, []⟩, fun i hi => by simp only [hi, dif_pos]; exact Classical.choose_spec (hex i hi)⟩
    obtain ⟨f, hf2⟩ := hch
    refine ⟨some a, (List.range len).map f, cap, by simp, ?_, fun x hx => ?_, by simp; omega, by simp; exact hl⟩
    · by_cases h0 : len = 0
      · subst h0; exact .inl (by simp)
      · have c0 := (hf2 0 (by omega)).1
        obtain ⟨b, off, spot⟩ := a
        have hspot : spot = none := by simpa [Addr.add] using World.cell?_spot c0
        subst hspot
        refine .inr ⟨b, off, rfl, by simpa [Addr.add] using World.block_lt_of_cell? W _ c0, fun j x hx => ?_⟩
        have hj : j < len := by have := (List.getElem?_eq_some_iff.1 hx).1; simpa using this
        obtain ⟨q0, q1, q2, _⟩ := hf2 j (by omega)
        have hadd : ∀ k, (⟨b, off, none⟩ : Addr).add k = ⟨b, off + k, none⟩ := fun k => by unfold Addr.add; split <;> simp_all
        rw [hadd] at q0 q1 q2
        simp [hj] at hx
        subst hx
        exact ⟨q0, by rw [Nat.add_assoc]; exact q1, by rw [Nat.add_assoc]; exact q2⟩
    · obtain ⟨i, hi, rfl⟩ := List.mem_map.1 hx
      have := List.mem_range.1 hi
      exact (hf2 i (by omega)).2.2.2
theorem open_thing {H : Type} {enc : TypeId × Value → H} {W : World} {b0 : Nat} {spare : Nat → Bool} {held : Bool} {v : Value} {d : DataW H} {p : List MemPlace}
    (hv : Value.okWide Try.prog W .any b0 32 v) (h : DataW.Trod enc Try.prog W 0 spare held 32 v d p) :
    ∃ x : YX.Th, v = YX.th x ∧ YX.ThOk x := by
  obtain ⟨v0, v1, v2, y0, y1, y2, n, rfl, hd, hp, h0, h1, h2⟩ := open_agg3 Try.underlying32 (by kernel_rfl) (by kernel_rfl) hv h
  obtain ⟨x0, e0, -, q0⟩ := DataW.trod_int Try.underlying5 h0
  obtain ⟨x1, e1, -, q1⟩ := DataW.trod_int Try.underlying30 h1
  obtain ⟨x2, e2, -, q2⟩ := DataW.trod_string Try.underlying9 h2
  simp at e0 e1 e2
  subst e0; subst e1; subst e2
  obtain ⟨y, rfl⟩ := u8_of q0
  obtain ⟨z, rfl, hz⟩ := u64_of q1
  exact ⟨⟨y.toNat, z, x2.data.toList⟩, rfl, ⟨y.toNat_lt, hz⟩⟩
end Go.Proofs.Ytfofpbdccgcocaa
