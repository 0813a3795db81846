/-
  PLAIN: a row of objects in a block, from its beginning; whole objects stored into it.
-/
import Derived.Test.YtncahpbjbgcnbaaGreatDoorEO2
import Derived.Test.YtncahpbjbgcnbaaGreatDoorEO1
import Derived.Test.YtncahpbjbgcnbaaGreatDoorEO6
import Derived.Test.YtncahpbjbgcnbaaGreatDoorEO13
namespace Go.Proofs.YtncahpbjbgcnbaaGreatDoor.KX
open Go.RowKit HL
open IX (ptr El cellsK cellsK_at cellsK_inv OwnK RdK strK Kept)
open WX (obK)
set_option maxRecDepth 100000
set_option linter.unusedVariables false
set_option linter.unusedSimpArgs false

/-- The cells stored from off on. -/
def putC (W : World) (g : Nat) : Nat → List Value → World
  | _, [] => W
  | off, v :: vs => putC (W.setCell ⟨g, off, none⟩ v) g (off + 1) vs
theorem putC_at {g : Nat} : ∀ (vs : List Value) (off : Nat) {W : World} {C : Array Value}, AtC W g C → off + vs.length ≤ C.size →
    ∃ C' : Array Value, C'.size = C.size ∧ AtC (putC W g off vs) g C' ∧ (∀ i, i < off → C'[i]? = C[i]?) ∧ (∀ i, i < vs.length → C'[off + i]? = vs[i]?) ∧ (∀ i, off + vs.length ≤ i → C'[i]? = C[i]?)
  | [], off, W, C, h, hl => ⟨C, rfl, h, fun _ _ => rfl, fun i hi => by simp at hi, fun _ _ => rfl⟩
  | v :: vs, off, W, C, h, hl => by
    have hl' : off + 1 + vs.length ≤ (C.setIfInBounds off v).size := by simp at hl ⊢; omega
    obtain ⟨C', h1, h2, h3, h4, h5⟩ := putC_at vs (off + 1) (h.set (i := off) (by simp at hl; omega) v) hl'
    refine ⟨C', by simpa using h1, h2, fun i hi => ?_, fun i hi => ?_, fun i hi => ?_⟩
    · rw [h3 i (by omega), Array.getElem?_setIfInBounds_ne (by omega)]
    · cases i with
      | zero =>
        have hlt : off < C.size := by simp at hl; omega
        rw [Nat.add_zero, h3 off (by omega)]; simp [hlt]
      | succ i =>
        have := h4 i (by simpa using hi)
        rw [show off + (i + 1) = off + 1 + i by omega, this]; rfl
    · have hi2 : off + 1 + vs.length ≤ i := by simp at hi; omega
      rw [h5 i hi2, Array.getElem?_setIfInBounds_ne (by omega)]
theorem putC_kept {w : World} {g : Nat} : ∀ (vs : List Value) (off : Nat) {W : World}, Kept w W (· ≠ g) → Kept w (putC W g off vs) (· ≠ g)
  | [], _, _, h => h
  | v :: vs, off, W, h => putC_kept vs (off + 1) (h.set (fun _ q => q rfl) v)
/-- The cells of a block begin with the row's. -/
def Beg (C : Array Value) (l : List Ob) : Prop := l.length * 14 ≤ C.size ∧ ∀ (m : Nat) (u : Value), (cellsK obK l)[m]? = some u → C[m]? = some u
/-- The row lies in block g. -/
def Row (W : World) (g : Nat) (l : List Ob) : Prop := ∃ C, AtC W g C ∧ Beg C l
theorem Row.kept {w W : World} {g : Nat} {l : List Ob} {P : Nat → Prop} (h : Row w g l) (k : Kept w W P) (hp : P g) : Row W g l := by
  obtain ⟨C, a, b⟩ := h
  exact ⟨C, k.atC a hp, b⟩
theorem Row.then {w W : World} {g : Nat} {l : List Ob} (h : Row w g l) (k : Below w.heap.size w W) : Row W g l := by
  obtain ⟨C, a, b⟩ := h
  exact ⟨C, a.then k, b⟩
theorem beg_put {W : World} {g k : Nat} {C : Array Value} {l : List Ob} {x : Ob} (h : Beg C l) (a : AtC W g C) (hk : k < l.length) : ∃ C', AtC (putC W g (k * 14) (obCells x).toList) g C' ∧ Beg C' (l.set k x) := by
  have hC := h.1
  have hk14 : k * 14 + 14 ≤ C.size := by omega
  obtain ⟨C', h1, h2, h3, h4, h5⟩ := putC_at (obCells x).toList (k * 14) a (by show k * 14 + 14 ≤ _; omega)
  refine ⟨C', h2, by rw [List.length_set, h1]; exact hC, fun m u hu => ?_⟩
  obtain ⟨j, i, y, rfl, hy, hu2⟩ := cellsK_inv obK hu
  have hi : i < 14 := by
    have := (List.getElem?_eq_some_iff.1 hu2).1
    rwa [obK.len] at this
  have e : obK.size = 14 := rfl
  rw [e]
  by_cases hj : j = k
  · subst hj
    rw [List.getElem?_set_self hk] at hy
    cases hy
    rw [h4 i hi]
    exact hu2
  · rw [List.getElem?_set_ne (fun z => hj z.symm)] at hy
    have hc := h.2 _ _ (cellsK_at obK hy hu2)
    rw [e] at hc
    rcases Nat.lt_or_gt_of_ne hj with q | q
    · rw [h3 _ (by omega)]; exact hc
    · rw [h5 _ (by show k * 14 + 14 ≤ _; omega)]; exact hc
theorem row_swap {W : World} {g p q : Nat} {C : Array Value} {l : List Ob} {x y : Ob} (a : AtC W g C) (b : Beg C l) (hp : p < l.length) (hq : q < l.length) : Row (putC (putC W g (p * 14) (obCells y).toList) g (q * 14) (obCells x).toList) g ((l.set p y).set q x) := by
  obtain ⟨C1, a1, b1⟩ := beg_put (x := y) b a hp
  obtain ⟨C2, a2, b2⟩ := beg_put (x := x) b1 a1 (by rw [List.length_set]; exact hq)
  exact ⟨C2, a2, b2⟩
/-- An object's cells in its row. -/
theorem row_cells {W : World} {g p : Nat} {C : Array Value} {l : List Ob} {x : Ob} (a : AtC W g C) (b : Beg C l) (hx : l[p]? = some x) : ∀ i u, (obCells x)[i]? = some u → W.cell? ⟨g, p * 14 + i, none⟩ = some u := fun i u hu => by
  rw [a.c]
  have hu2 : (obK.enc x)[i]? = some u := by rw [← hu]; exact Array.getElem?_toList
  exact b.2 _ _ (cellsK_at obK hx hu2)
theorem row_cells14 {W : World} {g p : Nat} {C : Array Value} {l : List Ob} {x : Ob} (a : AtC W g C) (b : Beg C l) (hx : l[p]? = some x) : W.cell? ⟨g, p * 14, none⟩ = some (.string x.handle) ∧ W.cell? ⟨g, p * 14 + 1, none⟩ = some (.int .u8 x.kind) ∧ W.cell? ⟨g, p * 14 + 2, none⟩ = some (.string x.parent) ∧ W.cell? ⟨g, p * 14 + 3, none⟩ = some (.int .u8 x.typ) ∧ W.cell? ⟨g, p * 14 + 4, none⟩ = some (.string x.ref) ∧ W.cell? ⟨g, p * 14 + 5, none⟩ = some (.int .i64 x.lo) ∧ W.cell? ⟨g, p * 14 + 6, none⟩ = some (.int .i64 x.hi) ∧ W.cell? ⟨g, p * 14 + 7, none⟩ = some (.int .u8 x.digits) ∧ W.cell? ⟨g, p * 14 + 8, none⟩ = some (.bool x.on) ∧ W.cell? ⟨g, p * 14 + 9, none⟩ = some (.bool x.has) ∧ W.cell? ⟨g, p * 14 + 10, none⟩ = some (.int .i64 x.value) ∧ W.cell? ⟨g, p * 14 + 11, none⟩ = some (.int .i64 x.low) ∧ W.cell? ⟨g, p * 14 + 12, none⟩ = some (.int .i64 x.high) ∧ W.cell? ⟨g, p * 14 + 13, none⟩ = some (.int .u8 x.assoc) := by
  have q := row_cells a b hx
  exact ⟨q 0 _ rfl, q 1 _ rfl, q 2 _ rfl, q 3 _ rfl, q 4 _ rfl, q 5 _ rfl, q 6 _ rfl, q 7 _ rfl, q 8 _ rfl, q 9 _ rfl, q 10 _ rfl, q 11 _ rfl, q 12 _ rfl, q 13 _ rfl⟩
/-- What the stores of a swap want: the one's cells are there, and none is the other's. -/
theorem apart_cells {p q : Nat} (h : p ≠ q) : (∀ i j, i < 14 → j < 14 → (q * 14 + i = p * 14 + j) = False) ∧ (∀ j, j < 14 → (q * 14 = p * 14 + j) = False) ∧ (∀ i, i < 14 → (q * 14 + i = p * 14) = False) ∧ (q * 14 = p * 14) = False :=
  ⟨fun i j _ _ => by rw [eq_iff_iff, iff_false]; omega, fun j _ => by rw [eq_iff_iff, iff_false]; omega, fun i _ => by rw [eq_iff_iff, iff_false]; omega, by rw [eq_iff_iff, iff_false]; omega⟩
theorem kept_drew {w W : World} {P : Nat → Prop} (h : Kept w W P) : Kept w W.drew P := ⟨h.os, h.tape, h.output, h.size, h.block⟩
theorem Row.drew {W : World} {g : Nat} {l : List Ob} (h : Row W g l) : Row W.drew g l := by
  obtain ⟨C, a, b⟩ := h
  exact ⟨C, a.drew1, b⟩
end Go.Proofs.YtncahpbjbgcnbaaGreatDoor.KX
/-
  WALK: the library's swapRange at objects.
-/
namespace Go.Proofs.YtncahpbjbgcnbaaGreatDoor.KX
open Go.RowKit HL
open IX (ptr El cellsK cellsK_at cellsK_inv OwnK RdK strK Kept)
open WX (obK hb)
open TX (Ext wp_region_ext ext_below ext_same)
set_option maxRecDepth 100000
set_option linter.unusedVariables false
set_option linter.unusedSimpArgs false

theorem sr_split {P U M V R : List Ob} {i : Nat} (hu : i < U.length) (hv : i < V.length) : P ++ (V.take i ++ U.drop i) ++ M ++ (U.take i ++ V.drop i) ++ R = (P ++ V.take i) ++ U[i] :: (U.drop (i + 1) ++ M ++ U.take i) ++ V[i] :: (V.drop (i + 1) ++ R) := by
  rw [← List.getElem_cons_drop hu, ← List.getElem_cons_drop hv]
  simp only [List.append_assoc, List.cons_append]
theorem sr_join {P U M V R : List Ob} {i : Nat} (hu : i < U.length) (hv : i < V.length) : (P ++ V.take i) ++ V[i] :: (U.drop (i + 1) ++ M ++ U.take i) ++ U[i] :: (V.drop (i + 1) ++ R) = P ++ (V.take (i + 1) ++ U.drop (i + 1)) ++ M ++ (U.take (i + 1) ++ V.drop (i + 1)) ++ R := by
  rw [List.take_succ_eq_append_getElem hu, List.take_succ_eq_append_getElem hv]
  simp only [List.append_assoc, List.cons_append, List.nil_append]
set_option maxHeartbeats 16000000 in
theorem swapRange_any (cmpV : Value) (g cap n a b k : Nat) (P U M V R : List Ob) (w : World) (hrow : Row w g (P ++ U ++ M ++ V ++ R)) (ha : P.length = a) (hU : U.length = k) (hV : V.length = k) (hb : a + k + M.length = b) (hn : (P ++ U ++ M ++ V ++ R).length = n) (hn2 : n ≤ 100000) :
    Calls Tryz.prog 99 #[.slice (some ⟨g, 0, none⟩) n cap, .int .i64 a, .int .i64 b, .int .i64 k, cmpV] w fun e w' => e = .returned (.tuple #[]) ∧ Row w' g (P ++ V ++ M ++ U ++ R) ∧ Kept w w' (· ≠ g) := by
  obtain ⟨E, hE⟩ : ∃ E, P ++ V ++ M ++ U ++ R = E := ⟨_, rfl⟩
  rw [hE]
  have HEND := Lib.hid hE
  clear hE
  have HRW := Lib.hid hrow
  have hlen : P.length + U.length + M.length + V.length + R.length = n := by rw [← hn]; simp only [List.length_append]
  have HLEN := Lib.hid hlen
  have HA := Lib.hid ha
  have HU := Lib.hid hU
  have HV := Lib.hid hV
  have HB := Lib.hid hb
  have hbk : b + k ≤ n := by omega
  have hak : a + k ≤ b := by omega
  clear hrow hn hlen ha hU hV hb
  go_enter Tryz.func99, Tryz.ntmps99
  go_wp2
  go_loopw [10] (fun v wr => ∃ i : Nat, v = .int .i64 i ∧ i ≤ k ∧ Hid (Row wr g (P ++ (V.take i ++ U.drop i) ++ M ++ (U.take i ++ V.drop i) ++ R)) ∧ Hid (Kept w wr (· ≠ g))) (fun v _ => k - (intOf v).toNat)
  case atStart => exact ⟨0, rfl, Nat.zero_le _, Lib.hid (by simpa using HRW.out), Lib.hid (Kept.refl w _)⟩
  case round =>
    obtain ⟨i, rfl, hi, HS, KW⟩ := hrel
    by_cases hlt : i < k
    · have i1 : (i : Int) < (k : Int) := by omega
      have hu : i < U.length := by rw [HU.out]; exact hlt
      have hv : i < V.length := by rw [HV.out]; exact hlt
      have hs := HS.out
      rw [sr_split hu hv] at hs
      have HJ := Lib.hid (sr_join (P := P) (M := M) (R := R) hu hv)
      have hA : (P ++ V.take i).length = a + i := by rw [List.length_append, List.length_take, HA.out]; omega
      have hB : (P ++ V.take i).length + 1 + (U.drop (i + 1) ++ M ++ U.take i).length = b + i := by
        have := HB.out; have := HA.out; have := HU.out
        simp only [List.length_append, List.length_take, List.length_drop]; omega
      have hL : ((P ++ V.take i) ++ U[i] :: (U.drop (i + 1) ++ M ++ U.take i) ++ V[i] :: (V.drop (i + 1) ++ R)).length = n := by
        have := HLEN.out; have := HB.out; have := HA.out; have := HU.out; have := HV.out
        simp only [List.length_append, List.length_cons, List.length_take, List.length_drop]; omega
      obtain ⟨p, hp⟩ : ∃ p, a + i = p := ⟨_, rfl⟩
      obtain ⟨q, hq⟩ : ∃ q, b + i = q := ⟨_, rfl⟩
      have hxp := get_1 (P ++ V.take i) (U.drop (i + 1) ++ M ++ U.take i) (V.drop (i + 1) ++ R) U[i] V[i] p (by rw [hA, hp])
      have hxq := get_2 (P ++ V.take i) (U.drop (i + 1) ++ M ++ U.take i) (V.drop (i + 1) ++ R) U[i] V[i] q (by rw [hB, hq])
      have HSW := Lib.hid (swap_at (P ++ V.take i) (U.drop (i + 1) ++ M ++ U.take i) (V.drop (i + 1) ++ R) U[i] V[i] p q (by rw [hA, hp]) (by rw [hB, hq]))
      rw [HJ.out] at HSW
      obtain ⟨C, hat, hbg⟩ := hs
      have hpq : p ≠ q := by omega
      have hpl : p < ((P ++ V.take i) ++ U[i] :: (U.drop (i + 1) ++ M ++ U.take i) ++ V[i] :: (V.drop (i + 1) ++ R)).length := by omega
      have hql : q < ((P ++ V.take i) ++ U[i] :: (U.drop (i + 1) ++ M ++ U.take i) ++ V[i] :: (V.drop (i + 1) ++ R)).length := by omega
      have hw1 : IntKind.i64.wrap ((a : Int) + (i : Int)) = (p : Int) := by rw [IntWalk.i64_in _ (by omega)]; omega
      have hw2 : IntKind.i64.wrap ((b : Int) + (i : Int)) = (q : Int) := by rw [IntWalk.i64_in _ (by omega)]; omega
      have j1 : (p : Int) < (n : Int) := by omega
      have j2 : (q : Int) < (n : Int) := by omega
      clear HS HJ hA hB hL hp hq
      generalize (P ++ V.take i) ++ U[i] :: (U.drop (i + 1) ++ M ++ U.take i) ++ V[i] :: (V.drop (i + 1) ++ R) = L at *
      generalize U[i] = xp at *
      generalize V[i] = xq at *
      obtain ⟨c0, c1, c2, c3, c4, c5, c6, c7, c8, c9, c10, c11, c12, c13⟩ := row_cells14 hat hbg hxp
      obtain ⟨d0, d1, d2, d3, d4, d5, d6, d7, d8, d9, d10, d11, d12, d13⟩ := row_cells14 hat hbg hxq
      obtain ⟨m0, m1, m2, m3⟩ := apart_cells hpq
      have hfz := hat.f
      have hlz := hat.lt
      have e1 : ∀ i, i < 14 → ∃ v, wr.cell? ⟨g, p * 14 + i, none⟩ = some v := fun i hi => by
        rw [hat.c, Array.getElem?_eq_getElem (by have := hbg.1; omega)]; exact ⟨_, rfl⟩
      have HR := Lib.hid (row_swap (x := xp) (y := xq) hat hbg hpl hql)
      have HK := Lib.hid (putC_kept (obCells xp).toList (q * 14) (putC_kept (obCells xq).toList (p * 14) KW.out))
      obtain ⟨w7, hw7⟩ : ∃ w7, putC (putC wr g (p * 14) (obCells xq).toList) g (q * 14) (obCells xp).toList = w7 := ⟨_, rfl⟩
      rw [hw7] at HR HK
      simp only [putC, Nat.add_assoc, Nat.reduceAdd] at hw7
      have HW7 := Lib.hid hw7
      clear hw7 e1 hat hbg hxp hxq hpl hql
      go_wp2
      go_region_law (fail)
      all_goals
        rw [HW7.out]
        have R7 := Lib.hid HR.out.drew
        have K7 := Lib.hid (kept_drew HK.out)
        generalize w7.drew = w9 at *
        clear HR HK HW7 KW c0 c1 c2 c3 c4 c5 c6 c7 c8 c9 c10 c11 c12 c13 d0 d1 d2 d3 d4 d5 d6 d7 d8 d9 d10 d11 d12 d13 m0 m1 m2 m3 hfz hlz
        go_wp2
        go_roundw
        case rel => exact ⟨i + 1, by go_num, by omega, Lib.hid (by rw [← HSW.out]; exact R7.out), K7⟩
        case measure => simp [intOf]; omega
    · obtain rfl : i = k := by omega
      have i1 : ¬ (i : Int) < (i : Int) := by omega
      have HE : Hid (Row wr g E) := Lib.hid (by
        have := HS.out
        have h1 := HV.out
        have h2 := HU.out
        have d1 : V.drop i = [] := List.drop_eq_nil_of_le (by omega)
        have d2 : U.drop i = [] := List.drop_eq_nil_of_le (by omega)
        have t1 : V.take i = V := List.take_of_length_le (by omega)
        have t2 : U.take i = U := List.take_of_length_le (by omega)
        rw [d1, d2, t1, t2, List.append_nil, List.append_nil] at this
        rw [← HEND.out]
        exact this)
      clear HS
      go_wp2
      go_end0
      exact ⟨rfl, HE.out, KW.out⟩
end Go.Proofs.YtncahpbjbgcnbaaGreatDoor.KX
/-
  WALK: the library's rotate at objects.
-/
namespace Go.Proofs.YtncahpbjbgcnbaaGreatDoor.KX
open Go.RowKit HL
open IX (ptr El cellsK cellsK_at cellsK_inv OwnK RdK strK Kept)
open WX (obK hb)
set_option maxRecDepth 100000
set_option linter.unusedVariables false
set_option linter.unusedSimpArgs false

set_option maxHeartbeats 16000000 in
theorem rotate_any (cmpV : Value) (g cap n a m b : Nat) (P X Y R : List Ob) (w : World) (hrow : Row w g (P ++ X ++ Y ++ R)) (ha : P.length = a) (hm : a + X.length = m) (hb : m + Y.length = b) (hX : 0 < X.length) (hY : 0 < Y.length) (hn : (P ++ X ++ Y ++ R).length = n) (hn2 : n ≤ 100000) :
    Calls Tryz.prog 90 #[.slice (some ⟨g, 0, none⟩) n cap, .int .i64 a, .int .i64 m, .int .i64 b, cmpV] w fun e w' => e = .returned (.tuple #[]) ∧ Row w' g (P ++ Y ++ X ++ R) ∧ Kept w w' (· ≠ g) := by
  obtain ⟨E, hE⟩ : ∃ E, P ++ Y ++ X ++ R = E := ⟨_, rfl⟩
  rw [hE]
  have hlen : P.length + X.length + Y.length + R.length = n := by rw [← hn]; simp only [List.length_append]
  have HLEN := Lib.hid hlen
  obtain ⟨i0, hi0⟩ : ∃ i, X.length = i := ⟨_, rfl⟩
  obtain ⟨j0, hj0⟩ : ∃ j, Y.length = j := ⟨_, rfl⟩
  have HST : Hid (∃ P' X' Y' R' : List Ob, X'.length = i0 ∧ Y'.length = j0 ∧ P'.length + i0 = m ∧ P' ++ Y' ++ X' ++ R' = E ∧ P'.length + i0 + j0 + R'.length = n ∧ Row w g (P' ++ X' ++ Y' ++ R')) := Lib.hid ⟨P, X, Y, R, hi0, hj0, by omega, hE, by omega, hrow⟩
  have hw1 : IntKind.i64.wrap ((m : Int) - (a : Int)) = (i0 : Int) := by rw [IntWalk.i64_in _ (by omega)]; omega
  have hw2 : IntKind.i64.wrap ((b : Int) - (m : Int)) = (j0 : Int) := by rw [IntWalk.i64_in _ (by omega)]; omega
  have hi1 : 0 < i0 := by omega
  have hj1 : 0 < j0 := by omega
  have hmn : m ≤ n := by omega
  clear hrow hE hlen hm hb hn hX hY hi0 hj0 ha HLEN
  go_enter Tryz.func90, Tryz.ntmps90
  go_wp2
  go_loopw [10, 11] (fun iv jv wr => ∃ i j : Nat, iv = .int .i64 i ∧ jv = .int .i64 j ∧ 0 < i ∧ 0 < j ∧ Hid (∃ P' X' Y' R' : List Ob, X'.length = i ∧ Y'.length = j ∧ P'.length + i = m ∧ P' ++ Y' ++ X' ++ R' = E ∧ P'.length + i + j + R'.length = n ∧ Row wr g (P' ++ X' ++ Y' ++ R')) ∧ Hid (Kept w wr (· ≠ g))) (fun iv jv _ => (intOf iv).toNat + (intOf jv).toNat)
  case atStart => exact ⟨i0, j0, rfl, rfl, hi1, hj1, HST, Lib.hid (Kept.refl w _)⟩
  case round =>
    obtain ⟨i, j, rfl, rfl, hi, hj, HS, KW⟩ := hrel
    obtain ⟨P', X', Y', R', hX, hY, hP, hE, hN, hR⟩ := HS.out
    obtain ⟨p, hp⟩ : ∃ p, P'.length = p := ⟨_, rfl⟩
    have hmi : IntKind.i64.wrap ((m : Int) - (i : Int)) = (p : Int) := by rw [IntWalk.i64_in _ (by omega)]; omega
    by_cases hij : i = j
    · subst hij
      have i1 : ((i : Int) != (i : Int)) = false := by simp
      have CS := swapRange_any cmpV g cap n p m i P' X' [] Y' R' wr (by simpa using hR) hp hX hY (by simp; omega) (by simp only [List.length_append, List.length_nil]; omega) hn2
      have HE := Lib.hid (by rw [← hE]; simp : P' ++ Y' ++ [] ++ X' ++ R' = E)
      rw [HE.out] at CS
      have CS := Lib.hid CS
      clear HS hX hY hP hE hN hR hp HE
      go_wp2_with (go_at_call 99; ((with_reducible refine CS.out.mono ?_); rintro e w2 ⟨rfl, r2, k2⟩; have R2 := Lib.hid r2; have K2 := Lib.hid (KW.out.trans k2); clear r2 k2))
      go_end0
      exact ⟨rfl, R2.out, K2.out⟩
    · have i1 : ((i : Int) != (j : Int)) = true := by simp; omega
      by_cases hlt : j < i
      · have i2 : (j : Int) < (i : Int) := by omega
        have hd : (X'.drop j).length = i - j := by rw [List.length_drop]; omega
        have ht : (X'.take j).length = j := by rw [List.length_take]; omega
        have eX : X'.take j ++ X'.drop j = X' := List.take_append_drop j X'
        have CS := swapRange_any cmpV g cap n p m j P' (X'.take j) (X'.drop j) Y' R' wr (by rw [List.append_assoc P' (X'.take j), eX]; exact hR) hp ht hY (by omega) (by simp only [List.length_append]; omega) hn2
        have CS := Lib.hid CS
        obtain ⟨d, hdd⟩ : ∃ d, i - j = d := ⟨_, rfl⟩
        have hw3 : IntKind.i64.wrap ((i : Int) - (j : Int)) = (d : Int) := by rw [IntWalk.i64_in _ (by omega)]; omega
        have HNX : Hid (∀ W, Row W g (P' ++ Y' ++ X'.drop j ++ X'.take j ++ R') → ∃ P' X' Y' R' : List Ob, X'.length = d ∧ Y'.length = j ∧ P'.length + d = m ∧ P' ++ Y' ++ X' ++ R' = E ∧ P'.length + d + j + R'.length = n ∧ Row W g (P' ++ X' ++ Y' ++ R')) := Lib.hid (fun W r => ⟨P' ++ Y', X'.drop j, X'.take j, R', by omega, ht, by rw [List.length_append]; omega, by rw [← hE, List.append_assoc (P' ++ Y') (X'.take j), eX], by rw [List.length_append]; omega, r⟩)
        have hd0 : 0 < d := by omega
        clear HS hX hY hP hE hN hR hp hd ht eX hij
        generalize P' ++ Y' ++ X'.drop j ++ X'.take j ++ R' = Z at *
        go_wp2_with (go_at_call 99; ((with_reducible refine CS.out.mono ?_); rintro e w2 ⟨rfl, r2, k2⟩; have R2 := Lib.hid r2; have K2 := Lib.hid (KW.out.trans k2); clear r2 k2))
        go_roundw
        case rel => exact ⟨d, j, rfl, rfl, hd0, hj, Lib.hid (HNX.out _ R2.out), K2⟩
        case measure => simp [intOf]; omega
      · have i2 : ¬ (j : Int) < (i : Int) := by omega
        obtain ⟨d, hdd⟩ : ∃ d, j - i = d := ⟨_, rfl⟩
        have hd : (Y'.drop d).length = i := by rw [List.length_drop]; omega
        have ht : (Y'.take d).length = d := by rw [List.length_take]; omega
        have eY : Y'.take d ++ Y'.drop d = Y' := List.take_append_drop d Y'
        obtain ⟨q, hq⟩ : ∃ q, m + d = q := ⟨_, rfl⟩
        have CS := swapRange_any cmpV g cap n p q i P' X' (Y'.take d) (Y'.drop d) R' wr (by rw [List.append_assoc (P' ++ X') (Y'.take d), eY]; exact hR) hp hX hd (by omega) (by simp only [List.length_append]; omega) hn2
        have CS := Lib.hid CS
        have hw3 : IntKind.i64.wrap ((j : Int) - (i : Int)) = (d : Int) := by rw [IntWalk.i64_in _ (by omega)]; omega
        have hw4 : IntKind.i64.wrap ((m : Int) + (j : Int)) = (m : Int) + (j : Int) := IntWalk.i64_in _ (by omega)
        have hw5 : IntKind.i64.wrap ((m : Int) + (j : Int) - (i : Int)) = (q : Int) := by rw [IntWalk.i64_in _ (by omega)]; omega
        have HNX : Hid (∀ W, Row W g (P' ++ Y'.drop d ++ Y'.take d ++ X' ++ R') → ∃ P' X' Y' R' : List Ob, X'.length = i ∧ Y'.length = d ∧ P'.length + i = m ∧ P' ++ Y' ++ X' ++ R' = E ∧ P'.length + i + d + R'.length = n ∧ Row W g (P' ++ X' ++ Y' ++ R')) := Lib.hid (fun W r => ⟨P', Y'.drop d, Y'.take d, X' ++ R', hd, ht, by omega, by rw [← hE, ← eY]; simp only [List.append_assoc, List.take_append_drop], by rw [List.length_append]; omega, by simpa only [List.append_assoc] using r⟩)
        have hd0 : 0 < d := by omega
        clear HS hX hY hP hE hN hR hp hd ht eY hij
        generalize P' ++ Y'.drop d ++ Y'.take d ++ X' ++ R' = Z at *
        go_wp2_with (go_at_call 99; ((with_reducible refine CS.out.mono ?_); rintro e w2 ⟨rfl, r2, k2⟩; have R2 := Lib.hid r2; have K2 := Lib.hid (KW.out.trans k2); clear r2 k2))
        go_roundw
        case rel => exact ⟨i, d, rfl, rfl, hi, hd0, Lib.hid (HNX.out _ R2.out), K2⟩
        case measure => simp [intOf]; omega
end Go.Proofs.YtncahpbjbgcnbaaGreatDoor.KX
