/-
  WALK: the calls of a law on its tree, as seen from a world R behind which the law's own rows stand.
-/
import Derived.Test.YtlfbjgeobibnhaaDoorRZRSameO
import Derived.Test.YtlfbjgeobibnhaaDoorRZRGoneM
namespace Go.Proofs.YtlfbjgeobibnhaaDoor.TX
open Go.RowKit HL
open IX (ptr El cellsK cellsK_at OwnK IxAt Rw numOf mayS strK RdK keys)
set_option maxRecDepth 100000
set_option linter.unusedVariables false
set_option linter.unusedSimpArgs false

/-- A tree behind calls since R: what stood at R in blocks that aren't the tree's stands. -/
structure GW (w R W : World) (L0 L : Lay) (s : Sl) (d : Nat) : Prop where
  t : Tree W w.heap.size L s
  k : Step R W d L0 L
  b : Below w.heap.size w W
  n : L0.n ≤ 300
section
variable {w R W W' : World} {L0 L L' : Lay} {s s' : Sl} {d : Nat}
theorem GW.start (h : TH w R L s 300) : GW w R R L L s 0 := ⟨h.t, .of_below (Below.refl _ _), h.b, h.n⟩
theorem GW.then (g : GW w R W L0 L s d) (k : Below W.heap.size W W') : GW w R W' L0 L s d := ⟨g.t.then k, g.k.then k, bThen g.b k, g.n⟩
theorem GW.call (g : GW w R W L0 L s d) (t : Tree W' w.heap.size L' s') (k : Step W W' 2 L L') : GW w R W' L0 L' s' (d + 2) :=
  ⟨t, g.k.trans k, g.b.trans (k.grown g.t.t (Nat.le_refl _) g.b.size), g.n⟩
theorem GW.box (g : GW w R W L0 L s d) {B : Nat} {C : Array Value} (h : AtC R B C) (hB : L0.g B = .other) : AtC W B C := g.k.k.atC h hB
theorem GW.row (g : GW w R W L0 L s d) {α : Type} {K : El α} {base : Nat} {v : Value} {l : List α} (h : OwnK K R base v l) (hB : ∀ j, v.ownBlock = some j → L0.g j = .other) : OwnK K W base v l := h.kept g.k.k hB
theorem GW.sm (g : GW w R W L0 L s d) (hd : d ≤ 1000) : L.n ≤ 900000 := by have := g.k.n; have := g.n; omega
theorem GW.at_ (g : GW w R W L0 L s d) (x : ByteArray) : Calls Tryd.prog 9 #[ptr L0.T, .string x] W fun e W' => e = .returned (.tuple #[ob (obAt s x.data.toList), .bool (there s x.data.toList)]) ∧ Below W.heap.size W W' := by
  have q := at_any g.t x
  rw [g.k.t] at q
  exact q
theorem GW.many (g : GW w R W L0 L s d) : Calls Tryd.prog 14 #[ptr L0.T] W fun e W' => e = .returned (.int .i64 ((rowsOf s none).length : Int)) ∧ W = W' := by
  have q := many_tr g.t.t
  rw [g.k.t] at q
  exact q
theorem GW.all (g : GW w R W L0 L s d) {m : Nat} (hm : (rowsOf s none).length = m) : Calls Tryd.prog 16 #[ptr L0.T] W fun e W' => ∃ A c, e = .returned (.slice A m c) ∧ OwnK obK W' W.heap.size (.slice A m c) (obsR s (rowsOf s none)) ∧ Below W.heap.size W W' := by
  have q := all_any g.t
  rw [g.k.t] at q
  exact calls_form (by rw [obsR, List.length_map]; exact hm) q
theorem GW.walk (g : GW w R W L0 L s d) {m : Nat} (hm : (walkL s).length = m) : Calls Tryd.prog 17 #[ptr L0.T] W fun e W' => ∃ A c, e = .returned (.slice A m c) ∧ OwnK obK W' W.heap.size (.slice A m c) (walkL s) ∧ Below W.heap.size W W' := by
  have q := walk_any g.t
  rw [g.k.t] at q
  exact calls_form hm q
theorem GW.add (g : GW w R W L0 L s d) (hd : d ≤ 1000) (hW : Words w) (hK : Kinds w) {o : Ob} (hz : o.handle.size ≤ maxLen) (hp : (pb o).length ≤ 100) {a : Int} {s' : Sl} (h1 : addE s o = a) (h2 : addS s o = s') :
    Calls Tryd.prog 11 #[ptr L0.T, ob o] W fun e W' => ∃ L', e = .returned (.int .i64 a) ∧ GW w R W' L0 L' s' (d + 2) := by
  have q := add_any g.t g.b.size (hW.then g.b) (hK.then g.b) o hz hp (g.sm hd)
  rw [g.k.t, h1, h2] at q
  exact q.mono fun e W' ⟨L', he, t, k⟩ => ⟨L', he, g.call t k⟩
theorem GW.set (g : GW w R W L0 L s d) (hd : d ≤ 1000) {o : Ob} (hp : (pb o).length ≤ 100) {a : Int} {s' : Sl} (h1 : hasE s (hb o) = a) (h2 : setS s o = s') :
    Calls Tryd.prog 12 #[ptr L0.T, ob o] W fun e W' => ∃ L', e = .returned (.int .i64 a) ∧ GW w R W' L0 L' s' (d + 2) := by
  have q := set_any g.t g.b.size o hp (g.sm hd)
  rw [g.k.t, h1, h2] at q
  exact q.mono fun e W' ⟨L', he, t, k⟩ => ⟨L', he, g.call t k⟩
theorem GW.rem (g : GW w R W L0 L s d) (hd : d ≤ 1000) {x : ByteArray} {a : Int} {s' : Sl} (h1 : hasE s x.data.toList = a) (h2 : remS s x.data.toList = s') :
    Calls Tryd.prog 13 #[ptr L0.T, .string x] W fun e W' => ∃ L', e = .returned (.int .i64 a) ∧ GW w R W' L0 L' s' (d + 2) := by
  have q := remove_any g.t g.b.size x (g.sm hd)
  rw [g.k.t, h1, h2] at q
  exact q.mono fun e W' ⟨L', he, t, k⟩ => ⟨L', he, g.call t k⟩
end
end Go.Proofs.YtlfbjgeobibnhaaDoor.TX
