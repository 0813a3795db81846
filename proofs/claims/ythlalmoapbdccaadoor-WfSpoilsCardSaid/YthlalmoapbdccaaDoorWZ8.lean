/-
  PLAIN: a map of texts to objects, as it lies in memory: looked into, written.
-/
import Derived.Test.YthlalmoapbdccaaDoorWZ2
import Derived.Maps.OwnSet
import Derived.Carry
import Derived.DeepKeys4
import Derived.WideKeyEntry
import Derived.Maps.OwnOps
namespace Go.Proofs.YthlalmoapbdccaaDoor.WX
open Go.RowKit HL
open IX (ptr)
open Go.Maps (Keyed IsMap)
set_option maxRecDepth 100000
set_option linter.unusedVariables false
set_option linter.unusedSimpArgs false

def upd {α : Type} (f : Bs → α) (k : Bs) (x : α) : Bs → α := fun h => if h = k then x else f h
theorem upd_same {α : Type} (f : Bs → α) (k : Bs) (x : α) : upd f k x k = x := by simp [upd]
theorem upd_other {α : Type} (f : Bs → α) {k h : Bs} (x : α) (e : h ≠ k) : upd f k x h = f h := by simp [upd, e]
/-- How an object reads. -/
def codeO (o : Ob) : DataW Unit := .agg [.lit (.string (hb o)), .lit (.int .u8 o.kind), .lit (.string (pb o)), .lit (.int .u8 o.typ), .lit (.string (rb o)), .lit (.int .i64 o.lo), .lit (.int .i64 o.hi), .lit (.int .u8 o.digits), .lit (.bool o.on), .lit (.bool o.has), .lit (.int .i64 o.value), .lit (.int .i64 o.low), .lit (.int .i64 o.high), .lit (.int .u8 o.assoc)]
theorem codeO_inj {a b : Ob} (h : codeO a = codeO b) : a = b := by
  unfold codeO at h
  injection h with h
  simp only [List.cons.injEq, DataW.lit.injEq, Lit.string.injEq, Lit.int.injEq, Lit.bool.injEq, true_and, and_true] at h
  obtain ⟨h0, h1, h2, h3, h4, h5, h6, h7, h8, h9, h10, h11, h12, h13⟩ := h
  have e0 := bs_eq h0
  have e2 := bs_eq h2
  have e4 := bs_eq h4
  cases a; cases b
  simp only at *
  subst e0 e2 e4 h5 h6 h8 h9 h10 h11 h12
  have k1 := Int.ofNat.inj h1
  have k3 := Int.ofNat.inj h3
  have k7 := Int.ofNat.inj h7
  have k13 := Int.ofNat.inj h13
  subst k1 k3 k7 k13
  rfl
theorem ob_inj {a b : Ob} (h : ob a = ob b) : a = b := by
  apply codeO_inj
  unfold ob at h
  injection h with h
  simp at h
  obtain ⟨h0, h1, h2, h3, h4, h5, h6, h7, h8, h9, h10, h11, h12, h13⟩ := h
  simp [codeO, h0, h1, h2, h3, h4, h5, h6, h7, h8, h9, h10, h11, h12, h13]
open Classical in
noncomputable def obRd (v : Value) : Option (DataW Unit × List MemPlace) := if h : ∃ o, v = ob o then some (codeO h.choose, []) else none
theorem obRd_ob (o : Ob) : obRd (ob o) = some (codeO o, []) := by
  unfold obRd
  have h : ∃ o', ob o = ob o' := ⟨o, rfl⟩
  rw [dif_pos h, ← ob_inj h.choose_spec]
theorem obRd_inv {v : Value} {o : Ob} {ps : List MemPlace} (h : obRd v = some (codeO o, ps)) : v = ob o := by
  unfold obRd at h
  split at h
  · rename_i q
    simp only [Option.some.injEq, Prod.mk.injEq] at h
    rw [q.choose_spec, codeO_inj h.1]
  · cases h
def orZ (x : Option Ob) : Ob := x.getD zeroOb
/-- Block M is a map of at most n entries, with f's objects. -/
structure MapO (w : World) (M n : Nat) (f : Bs → Option Ob) : Prop where
  ex : ∃ D : DataW Unit, w.ownsMap Tryd.prog 9 obRd M n D ∧ (∀ h : Bs, D.atKey (.string h) (codeO zeroOb) = codeO (orZ (f h)) ∧ Maps.has D (.string h) = (f h).isSome) ∧ ∃ ks : List Bs, ks.Nodup ∧ (∀ h, h ∈ ks ↔ (f h).isSome = true) ∧ Maps.size D = ks.length
theorem MapO.lt {w : World} {M n : Nat} {f : Bs → Option Ob} (h : MapO w M n f) : M < w.heap.size := by
  obtain ⟨D, ho, _⟩ := h.ex
  exact ho.lt
theorem MapO.kept {w w' : World} {P : Nat → Prop} {M n : Nat} {f : Bs → Option Ob} (h : MapO w M n f) (k : IX.Kept w w' P) (hp : P M) : MapO w' M n f := by
  have hl := h.lt
  obtain ⟨D, ⟨es, clock, hb, r⟩, hf⟩ := h.ex
  exact ⟨D, ⟨es, clock, (k.block M hl hp).trans hb, r⟩, hf⟩
theorem MapO.then {w w' : World} {M n : Nat} {f : Bs → Option Ob} (h : MapO w M n f) (k : Below w.heap.size w w') : MapO w' M n f := h.kept (P := fun _ => True) (.of_below k) trivial
theorem MapO.made (w : World) : MapO (w.alloc (.map #[] 0)) w.heap.size 0 (fun _ => none) :=
  ⟨⟨_, World.ownsMap_made w _ _ _, fun h => ⟨rfl, rfl⟩, [], List.nodup_nil, fun h => by simp, rfl⟩⟩
theorem keyedS : Keyed Tryd.prog 9 := Maps.string_keyed Tryd.underlying9
theorem keyS {k : Bs} (hk : k.length ≤ maxLen) : keyOf Tryd.prog 9 (str k) = some (.string k) := by
  have := WideMaps.keyOf_string_mk (P := Tryd.prog) Tryd.underlying9 (s := ⟨k.toArray⟩) hk
  simpa using this
theorem zeroObj (W : World) : (zeroValue 31).run Tryd.prog W = .ok (ob zeroOb) W := by kernel_rfl
theorem MapO.look {w : World} {M n : Nat} {f : Bs → Option Ob} (h : MapO w M n f) {k : Bs} (hk : k.length ≤ maxLen) :
    (Instr.lookup 72 (.map (some M)) (str k) false).run Tryd.prog w = .ok (ob (orZ (f k))) w := by
  obtain ⟨D, ho, hf, _⟩ := h.ex
  obtain ⟨v, ps, hrun, hv⟩ := ho.lookup keyedS Tryd.underlying72 (zeroObj w) (zd := codeO zeroOb) (zp := []) (obRd_ob zeroOb) (keyS hk)
  rw [(hf k).1] at hv
  rw [hrun, obRd_inv hv]
theorem MapO.look_ok {w : World} {M n : Nat} {f : Bs → Option Ob} (h : MapO w M n f) {k : Bs} (hk : k.length ≤ maxLen) :
    (Instr.lookup 72 (.map (some M)) (str k) true).run Tryd.prog w = .ok (.tuple #[ob (orZ (f k)), .bool (f k).isSome]) w := by
  obtain ⟨D, ho, hf, _⟩ := h.ex
  obtain ⟨v, ps, hrun, hv⟩ := ho.look_ok keyedS Tryd.underlying72 (zeroObj w) (zd := codeO zeroOb) (zp := []) (obRd_ob zeroOb) (keyS hk)
  rw [(hf k).1] at hv
  rw [hrun, obRd_inv hv, (hf k).2]
theorem kept_turned {w w' : World} {M : Nat} (h : w.grownBy w' (some M)) : IX.Kept w w' (· ≠ M) :=
  ⟨h.os, h.tape, h.output, h.size, fun k hk p => h.block k hk (fun e => p (by cases e; rfl))⟩
theorem lit_ne {h k : Bs} (e : h ≠ k) : (Lit.string h) ≠ .string k := fun q => e (by cases q; rfl)
theorem MapO.put {w : World} {M n : Nat} {f : Bs → Option Ob} (h : MapO w M n f) (hn : n ≤ 1000000) {k : Bs} (hk : k.length ≤ maxLen) (o : Ob) :
    ∃ w', (Instr.mapUpdate 72 (.map (some M)) (str k) (ob o)).run Tryd.prog w = .ok () w' ∧ MapO w' M (n + 1) (upd f k (some o)) ∧ IX.Kept w w' (· ≠ M) := by
  obtain ⟨D, ho, hf, ks, hnd, hmem, hsz⟩ := h.ex
  obtain ⟨w', hrun, ho', hg⟩ := ho.update keyedS Tryd.underlying72 (by unfold maxLen; omega) (keyS hk) (obRd_ob o)
  have hS : ∃ ks' : List Bs, ks'.Nodup ∧ (∀ h, h ∈ ks' ↔ (upd f k (some o) h).isSome = true) ∧ Maps.size (D.put (.string k) (codeO o)) = ks'.length := by
    have hp := Maps.size_put (ho.tidy keyedS) (k := .string k) (codeO o)
    rw [(hf k).2] at hp
    by_cases hi : (f k).isSome = true
    · refine ⟨ks, hnd, fun x => ?_, by rw [hp, if_pos hi, hsz]⟩
      by_cases e : x = k
      · subst e
        rw [upd_same]
        simp [hmem, hi]
      · rw [upd_other _ _ e]; exact hmem x
    · refine ⟨k :: ks, List.nodup_cons.2 ⟨fun q => hi ((hmem k).1 q), hnd⟩, fun x => ?_, by rw [hp, if_neg hi, hsz]; rfl⟩
      by_cases e : x = k
      · subst e
        rw [upd_same]
        simp
      · rw [upd_other _ _ e, List.mem_cons]
        simp [e, hmem]
  refine ⟨w', hrun, ⟨_, ho', fun x => ?_, hS⟩, kept_turned hg⟩
  by_cases e : x = k
  · subst e
    rw [upd_same]
    exact ⟨Maps.atKey_put_same ho.isMap (show WideAt.IsKeyLit (.string x) from trivial) _ _, Maps.has_put_same ho.isMap (show WideAt.IsKeyLit (.string x) from trivial) _⟩
  · rw [upd_other _ _ e, Maps.atKey_put_other (lit_ne e), Maps.has_put_other (lit_ne e)]
    exact hf x
theorem MapO.len {w : World} {M n : Nat} {f : Bs → Option Ob} (h : MapO w M n f) {ks : List Bs} (hn : ks.Nodup) (hm : ∀ x, x ∈ ks ↔ (f x).isSome = true) (ty : TypeId) :
    (Builtin.len_ #[72] ty #[.map (some M)]).run Tryd.prog w = .ok (.int .i64 (ks.length : Nat)) w := by
  obtain ⟨D, ho, hf, ks', hnd, hmem, hsz⟩ := h.ex
  rw [ho.len Tryd.underlying72 ty, hsz]
  have hp : ks'.Perm ks := (List.perm_ext_iff_of_nodup hnd hn).2 fun x => (hmem x).trans (hm x).symm
  rw [hp.length_eq]
end Go.Proofs.YthlalmoapbdccaaDoor.WX
/-
  WALK: wf's look: a list and a map of it by handles.
-/
namespace Go.Proofs.YthlalmoapbdccaaDoor.WX
open Go.RowKit HL
open IX (ptr El cellsK cellsK_at OwnK RdK strK)
set_option maxRecDepth 100000
set_option linter.unusedVariables false
set_option linter.unusedSimpArgs false

/-- The last object of each handle, among the first k. -/
def lastK (l : List Ob) (k : Nat) : Bs → Option Ob := (l.take k).foldl (fun f o => upd f (hb o) (some o)) fun _ => none
theorem lastK_0 (l : List Ob) : lastK l 0 = fun _ => none := by simp [lastK]
theorem lastK_next {l : List Ob} {k : Nat} (hk : k < l.length) : lastK l (k + 1) = upd (lastK l k) (hb l[k]) (some l[k]) := by
  unfold lastK
  rw [List.take_succ_eq_append_getElem hk, List.foldl_append]
  rfl
def lastO (l : List Ob) : Bs → Option Ob := lastK l l.length
theorem make_hint (n : Nat) (W : World) : (Instr.makeMap 72 (some (.int .i64 (n : Int)))).run Tryd.prog W = .ok (.map (some W.heap.size)) (W.alloc (.map #[] 0)) := by
  have hu := Tryd.underlying72
  simp [Instr.makeMap, run_underlying hu, asInt, asIntOf, Result.andThen, Sem.run_bind]
  try rfl
set_option maxHeartbeats 8000000 in
theorem look_any {A : Option Addr} (l : List Ob) (c : Nat) (w : World) (hr : RdK obK w w.heap.size A l) (hl : l.length ≤ 1000) (hz : ∀ o ∈ l, o.handle.size ≤ maxLen) :
    Calls Tryd.prog 49 #[.slice A l.length c] w fun e w' => ∃ M, e = .returned (.agg #[.slice A l.length c, .map (some M)]) ∧ MapO w' M l.length (lastO l) ∧ Below w.heap.size w w' := by
  have hb0 : Below w.heap.size w w := Below.refl _ _
  have HR := Lib.hid hr
  have HZ := Lib.hid hz
  clear hr hz
  have hmk := make_hint l.length
  go_enter Tryd.func49, Tryd.ntmps49
  go_wp2
  have b2 : Below w.heap.size w ((w.alloc (.cells #[.slice none 0 0, .map none] 74)).alloc (.map #[] 0)) := bAl (bAl hb0 _) _
  have M2 : MapO ((w.alloc (.cells #[.slice none 0 0, .map none] 74)).alloc (.map #[] 0)) (w.heap.size + 1) 0 (fun _ => none) := by
    have := MapO.made (w.alloc (.cells #[.slice none 0 0, .map none] 74))
    simpa using this
  have V2 : AtC ((w.alloc (.cells #[.slice none 0 0, .map none] 74)).alloc (.map #[] 0)) w.heap.size #[.slice none 0 0, .map none] := (AtC.new _ _ _).al _
  have B2 := Lib.hid b2
  have MM2 := Lib.hid M2
  have VV2 := Lib.hid V2
  clear b2 M2 V2 hmk
  go_loopw [11] (fun i wr => ∃ k : Nat, i = .int .i64 k ∧ k ≤ l.length ∧ MapO wr (w.heap.size + 1) k (lastK l k) ∧ Below w.heap.size w wr ∧ AtC wr w.heap.size #[.slice none 0 0, .map none]) (fun i _ => l.length - (intOf i).toNat)
  case atStart => exact ⟨0, rfl, Nat.zero_le _, by rw [lastK_0]; exact MM2.out, B2.out, VV2.out⟩
  case round =>
    obtain ⟨k, rfl, hk, hm, hb1, hv⟩ := hrel
    have HM := Lib.hid hm
    have HB := Lib.hid hb1
    have HV := Lib.hid hv
    clear hm hv B2 MM2 VV2
    by_cases hlt : k < l.length
    · have i1 : (k : Int) < l.length := by omega
      obtain ⟨b, off, rfl, hbk, hc⟩ := obs_at (HR.out.below hb1) (by omega)
      obtain ⟨c0, c1, c2, c3, c4, c5, c6, c7, c8, c9, c10, c11, c12, c13⟩ := hc k _ (List.getElem?_eq_getElem hlt)
      have hzz := HZ.out _ (List.getElem_mem hlt)
      have NX := Lib.hid (lastK_next hlt)
      clear hc hb1
      generalize l[k] = o at *
      have hm2 := HM.out.then (bAl (Below.refl _ _) (.cells (obCells o) 31))
      obtain ⟨w5, hrun, hM5, hK5⟩ := hm2.put (by omega) (k := hb o) (by show o.handle.data.size ≤ maxLen; exact hzz) o
      have hrun : (Instr.mapUpdate 72 (.map (some (w.heap.size + 1))) (.string o.handle) (ob o)).run Tryd.prog (wr.alloc (.cells (obCells o) 31)) = .ok () w5 := hrun
      have M5 := Lib.hid hM5
      have K5 := Lib.hid hK5
      have mc := (AtC.new wr (obCells o) 31).c
      clear hm2 hM5 hK5
      go_wp2
      go_roundw
      case rel => exact ⟨k + 1, by go_num, by omega, by rw [NX.out]; exact M5.out, (bAl HB.out _).trans (IX.Kept.below K5.out (bAl HB.out _).size fun j hj => by omega), IX.Kept.atC K5.out (HV.out.al _) (by omega)⟩
      case measure => simp [intOf]; omega
    · obtain rfl : k = l.length := by omega
      have i1 : ¬ (l.length : Int) < l.length := by omega
      have vc := HV.out.c
      have vf := HV.out.f
      have vl := HV.out.lt
      clear hb1
      go_wp2
      have m2 := AtC.set (AtC.set HV.out (i := 0) (by decide) (.slice A l.length c)) (i := 1) (by simp) (.map (some (w.heap.size + 1)))
      have hc0 := m2.c 0
      have hc1 := m2.c 1
      have KK : IX.Kept wr ((wr.setCell ⟨w.heap.size, 0, none⟩ (.slice A l.length c)).setCell ⟨w.heap.size, 1, none⟩ (.map (some (w.heap.size + 1)))) (· ≠ w.heap.size) := ((IX.Kept.refl wr _).set (fun _ q => q rfl) _).set (fun _ q => q rfl) _
      refine bodyPost_ret (v := .agg #[.slice A l.length c, .map (some (w.heap.size + 1))]) ?_ rfl ⟨_, rfl, HM.out.kept KK (by show w.heap.size + 1 ≠ w.heap.size; omega), bStore (bStore HB.out (p := ⟨w.heap.size, 0, none⟩) (Nat.le_refl _) _) (p := ⟨w.heap.size, 1, none⟩) (Nat.le_refl _) _⟩
      simp only [results, Tryd.f49]
      simp [Sem.run_bind, Result.andThen, go_sem, hc0, hc1]
end Go.Proofs.YthlalmoapbdccaaDoor.WX
/-
  PLAIN: a map of places (a text and a number) to numbers, as it lies in memory: looked into, an entry made, stored into.
-/
namespace Go.Proofs.YthlalmoapbdccaaDoor.WX
open Go.RowKit HL
open IX (ptr)
open Go.Maps (Keyed IsMap)
open Go.ChangeMaps (setBlock heap_setBlock_same heap_setBlock_other)
set_option maxRecDepth 100000
set_option linter.unusedVariables false
set_option linter.unusedSimpArgs false

abbrev plV (p : Bs) (s : Nat) : Value := .agg #[.string ⟨p.toArray⟩, .int .u8 (s : Int)]
theorem laidPl : laidOutB Tryd.prog = true := by kernel_rfl
theorem lawPl : WideMaps.KeyLaw Tryd.prog 103 := deep_law_laid laidPl (m := 2) (by omega) (of_decide_eq_true (by kernel_rfl)) (by kernel_rfl) (by kernel_rfl)
theorem keyedPl : Keyed Tryd.prog 103 := Keyed.of_law lawPl
theorem wf_u8 {s : Nat} (hs : s ≤ 255) : (Lit.int .u8 (s : Int)).wf = true := by
  have h : IntKind.u8.min = 0 ∧ IntKind.u8.max = 255 := by decide
  simp [Lit.wf, h.1, h.2]
  omega
theorem keyPl {p : Bs} {s : Nat} (hp : p.length ≤ maxLen) (hs : s ≤ 255) : ∃ l, keyOf Tryd.prog 103 (plV p s) = some l := by
  have e1 : Tryd.prog.keyType 103 = true := by kernel_rfl
  have e2 : (plV p s).formed Tryd.prog 103 = true := by kernel_rfl
  have hw := wf_u8 hs
  have hu := Tryd.underlying103
  have e3 : ∃ ls, Tryd.prog.keyLits (Tryd.prog.types.size + 1) 103 (plV p s).cells.toList = some ls := by
    have hz : ∃ n, Tryd.prog.types.size = n + 1 := ⟨Tryd.prog.types.size - 1, by have : 0 < Tryd.prog.types.size := of_decide_eq_true (by kernel_rfl); omega⟩
    obtain ⟨n, hn⟩ := hz
    rw [hn]
    have c0 : Tryd.prog.cellsOf 103 = 2 := by kernel_rfl
    have c1 : Tryd.prog.cellsOf 9 = 1 := by kernel_rfl
    have c2 : Tryd.prog.cellsOf 5 = 1 := by kernel_rfl
    have k1 : Tryd.prog.keyLits (n + 1) 9 [.string ⟨p.toArray⟩] = some [.string p] := by
      have hsz : (⟨p.toArray⟩ : ByteArray).size ≤ maxLen := by show p.toArray.size ≤ maxLen; simpa using hp
      simp [Program.keyLits, Tryd.underlying9, hsz]
    have k2 : Tryd.prog.keyLits (n + 1) 5 [.int .u8 (s : Int)] = some [.int .u8 s] := by
      simp [Program.keyLits, Tryd.underlying5, hw]
    refine ⟨[.string p, .int .u8 s], ?_⟩
    unfold Program.keyLits
    rw [hu]
    simp [Value.cells, c0, c1, c2, k1, k2]
  obtain ⟨ls, e3⟩ := e3
  unfold keyOf
  rw [hu]
  simp only [e1, e2, e3]
  exact ⟨_, rfl⟩
theorem keyPl_inj {p q : Bs} {s t : Nat} {l : Lit} (h1 : keyOf Tryd.prog 103 (plV p s) = some l) (h2 : keyOf Tryd.prog 103 (plV q t) = some l) : p = q ∧ s = t := by
  have := lawPl.inj h1 h2
  simp only [plV, Value.agg.injEq] at this
  simp at this
  exact ⟨this.1, by omega⟩
theorem zeroInt (W : World) : (zeroValue 3).run Tryd.prog W = .ok (.int .i64 0) W := by kernel_rfl
def upd2 (f : Bs → Nat → Nat) (p : Bs) (s : Nat) (v : Nat) : Bs → Nat → Nat := fun q t => if q = p ∧ t = s then v else f q t
noncomputable abbrev intEl : Value → Option (DataW Unit × List MemPlace) := plainElem Tryd.prog 3
theorem intEl_mk {v : Nat} (hv : v ≤ 1000000) : intEl (.int .i64 (v : Int)) = some (.lit (.int .i64 (v : Int)), []) := plainElem_int Tryd.underlying3 (WalkArith.wf_i64 (by omega))
theorem intEl_inv {v : Value} {d : DataW Unit} {ps : List MemPlace} {c : Int} (h : intEl v = some (d, ps)) (hd : d = .lit (.int .i64 c)) : v = .int .i64 c := by
  obtain ⟨a, rfl, hz, _⟩ := plainElem_int_inv Tryd.underlying3 h
  simp only [Prod.mk.injEq] at hz
  rw [hz.1] at hd
  injection hd with hd
  injection hd with _ hd
  rw [hd]
/-- Block M is a map of at most n entries: how many at each place. -/
structure MapI (w : World) (M n : Nat) (f : Bs → Nat → Nat) : Prop where
  ex : ∃ D : DataW Unit, w.ownsMap Tryd.prog 103 intEl M n D ∧ ∀ p s l, keyOf Tryd.prog 103 (plV p s) = some l → D.atKey l (.lit (.int .i64 0)) = .lit (.int .i64 (f p s : Int))
theorem MapI.lt {w : World} {M n : Nat} {f : Bs → Nat → Nat} (h : MapI w M n f) : M < w.heap.size := by
  obtain ⟨D, ho, _⟩ := h.ex
  exact ho.lt
theorem MapI.block {w w' : World} {M n : Nat} {f : Bs → Nat → Nat} (h : MapI w M n f) (e : w'.heap[M]? = w.heap[M]?) : MapI w' M n f := by
  obtain ⟨D, ⟨es, clock, hb, r⟩, hf⟩ := h.ex
  exact ⟨D, ⟨es, clock, e.trans hb, r⟩, hf⟩
theorem MapI.kept {w w' : World} {P : Nat → Prop} {M n : Nat} {f : Bs → Nat → Nat} (h : MapI w M n f) (k : IX.Kept w w' P) (hp : P M) : MapI w' M n f := h.block (k.block M h.lt hp)
theorem MapI.then {w w' : World} {M n : Nat} {f : Bs → Nat → Nat} (h : MapI w M n f) (k : Below w.heap.size w w') : MapI w' M n f := h.kept (P := fun _ => True) (.of_below k) trivial
theorem MapI.more {w : World} {M n : Nat} {f : Bs → Nat → Nat} (h : MapI w M n f) : MapI w M (n + 1) f := by
  obtain ⟨D, ⟨es, clock, hb, F, hs, hD⟩, hf⟩ := h.ex
  exact ⟨D, ⟨es, clock, hb, F, Nat.le_succ_of_le hs, hD⟩, hf⟩
theorem MapI.made (w : World) : MapI (w.alloc (.map #[] 0)) w.heap.size 0 (fun _ _ => 0) := ⟨⟨_, World.ownsMap_made w _ _ _, fun p s l h => rfl⟩⟩
theorem MapI.look {w : World} {M n : Nat} {f : Bs → Nat → Nat} (h : MapI w M n f) {p : Bs} {s : Nat} (hp : p.length ≤ maxLen) (hs : s ≤ 255) :
    (Instr.lookup 101 (.map (some M)) (plV p s) false).run Tryd.prog w = .ok (.int .i64 (f p s : Int)) w := by
  obtain ⟨D, ho, hf⟩ := h.ex
  obtain ⟨l, hl⟩ := keyPl hp hs
  obtain ⟨c, hrun, hc, _⟩ := ho.lookup_int keyedPl Tryd.underlying101 Tryd.underlying3 (zeroInt w) hl
  rw [hf p s l hl] at hc
  injection hc with hc
  injection hc with _ hc
  rw [hrun, ← hc]
theorem put_at {D : DataW Unit} (hD : IsMap D) {f : Bs → Nat → Nat} {p : Bs} {s v : Nat} {l : Lit} (hl : keyOf Tryd.prog 103 (plV p s) = some l)
    (hf : ∀ q t m, keyOf Tryd.prog 103 (plV q t) = some m → D.atKey m (.lit (.int .i64 0)) = .lit (.int .i64 (f q t : Int))) :
    ∀ q t m, keyOf Tryd.prog 103 (plV q t) = some m → (D.put l (.lit (.int .i64 (v : Int)))).atKey m (.lit (.int .i64 0)) = .lit (.int .i64 (upd2 f p s v q t : Int)) := by
  intro q t m hm
  by_cases e : m = l
  · subst e
    obtain ⟨rfl, rfl⟩ := keyPl_inj hm hl
    rw [Maps.atKey_put_same hD (keyedPl.key hm)]
    simp [upd2]
  · rw [Maps.atKey_put_other e, hf q t m hm]
    have : ¬ (q = p ∧ t = s) := fun ⟨e1, e2⟩ => e (by subst e1 e2; rw [hl] at hm; exact (Option.some.inj hm).symm)
    simp [upd2, this]
theorem kept_set {w : World} {b : Nat} {es : Array MapEntry} {clock : Nat} (hb : w.heap[b]? = some (.map es clock)) (o : Obj) : IX.Kept w (setBlock w b o) (· ≠ b) :=
  kept_turned ⟨rfl, rfl, rfl, by simp [setBlock], fun i _ hi => heap_setBlock_other hb _ (fun e => hi (by rw [e]))⟩
theorem MapI.entry {w : World} {M n : Nat} {f : Bs → Nat → Nat} (h : MapI w M n f) (hn : n ≤ 1000000) {p : Bs} {s : Nat} (hp : p.length ≤ maxLen) (hs : s ≤ 255) :
    ∃ w1 v0 st, (Instr.mapEntry 101 (.map (some M)) (plV p s)).run Tryd.prog w = .ok (.tuple #[v0, goInt st]) w1 ∧ MapI w1 M (n + 1) f ∧ IX.Kept w w1 (· ≠ M) ∧
      ∀ v : Nat, v ≤ 1000000 → ∀ w2 : World, w2.heap[M]? = w1.heap[M]? → ∃ w3, (Instr.entryStore 101 (.map (some M)) (goInt st) (.int .i64 (v : Int))).run Tryd.prog w2 = .ok () w3 ∧ MapI w3 M (n + 1) (upd2 f p s v) ∧ IX.Kept w2 w3 (· ≠ M) := by
  obtain ⟨D, ho, hf⟩ := h.ex
  obtain ⟨l, hl⟩ := keyPl hp hs
  have ht := Tryd.underlying101
  have hup : ∀ v : Nat, v ≤ 1000000 → ∃ w', (Instr.mapUpdate 101 (.map (some M)) (plV p s) (.int .i64 (v : Int))).run Tryd.prog w = .ok () w' ∧ MapI w' M (n + 1) (upd2 f p s v) := fun v hv => by
    obtain ⟨w', hrun, ho', _⟩ := ho.update keyedPl ht (by unfold maxLen; omega) hl (intEl_mk hv)
    exact ⟨w', hrun, ⟨_, ho', put_at ho.isMap hl hf⟩⟩
  obtain ⟨es, clock, hb, F, hsz, hD⟩ := id ho
  obtain ⟨v0, st, es1, clock1, hent, hv0, hst⟩ := WideElems.entry_then_store lawPl ht zeroInt hb F hl
  have hbk : ∀ o, (setBlock w M o).heap[M]? = some o := fun o => heap_setBlock_same hb o
  refine ⟨_, v0, st, hent, ?_, kept_set hb _, fun v hv w2 h2 => ?_⟩
  · have hx : (setBlock w M (.map es1 clock1)).heap[M]? = some (.map es1 clock1) := hbk _
    rcases lawPl.find w hl es.toList F.keys with ⟨h1, h2⟩ | ⟨j, e0, h1, h2, h3⟩
    · have q1 : (Instr.mapEntry 101 (.map (some M)) (plV p s)).run Tryd.prog w = .ok (.tuple #[.int .i64 0, goInt clock]) (setBlock w M (.map (es.push ⟨plV p s, .int .i64 0, clock⟩) (clock + 1))) := by
        simp [Instr.mapEntry, run_underlying ht, MapKept.run_getObj_map hb, lawPl.check w false hl, h1, zeroInt, MapKept.run_setObj_map _ hb, Result.andThen, setBlock]
      have q2 : (Instr.mapUpdate 101 (.map (some M)) (plV p s) (.int .i64 0)).run Tryd.prog w = .ok () (setBlock w M (.map (es.push ⟨plV p s, .int .i64 0, clock⟩) (clock + 1))) := by
        simp [Instr.mapUpdate, run_underlying ht, MapKept.run_getObj_map hb, lawPl.check w false hl, h1, MapKept.run_setObj_map _ hb, Result.andThen, setBlock]
      rw [q1] at hent
      injection hent with _ he
      obtain ⟨w', hr, hm⟩ := hup 0 (by omega)
      have q2 : (Instr.mapUpdate 101 (.map (some M)) (plV p s) (.int .i64 ((0 : Nat) : Int))).run Tryd.prog w = .ok () (setBlock w M (.map (es.push ⟨plV p s, .int .i64 0, clock⟩) (clock + 1))) := q2
      rw [q2] at hr
      injection hr with _ hr
      rw [← he, hr]
      have hz : f p s = 0 := by
        have := hf p s l hl
        rw [hD, WideElems.atKey_none lawPl F hl h2] at this
        injection this with this
        injection this with _ this
        omega
      have hfe : upd2 f p s 0 = f := by
        funext q t
        unfold upd2
        split
        · rename_i h
          rw [h.1, h.2, hz]
        · rfl
      rw [hfe] at hm
      exact hm
    · have hj : es[j]? = some e0 := by simpa using h2
      have hsame : es.modify j (fun e => { e with key := plV p s }) = es := by
        apply Array.ext'
        rw [Array.toList_modify, ChangeMaps.modify_eq_set _ _ _ _ h2]
        have : ({ e0 with key := plV p s } : MapEntry) = e0 := by rw [← h3]
        rw [this]
        exact WideElems.set_self _ _ _ h2
      have q1 : (Instr.mapEntry 101 (.map (some M)) (plV p s)).run Tryd.prog w = .ok (.tuple #[e0.val, goInt e0.born]) (setBlock w M (.map es clock)) := by
        simp [Instr.mapEntry, run_underlying ht, MapKept.run_getObj_map hb, lawPl.check w false hl, h1, hj, h3, lawPl.stays w hl, hsame, MapKept.run_setObj_map _ hb, Result.andThen, setBlock]
      rw [q1] at hent
      injection hent with _ he
      rw [← he]
      exact ⟨D, ⟨es, clock, hbk _, F, Nat.le_succ_of_le hsz, hD⟩, hf⟩
  · rw [hbk] at h2
    obtain ⟨es', clock', hs1, hs2⟩ := hst w2 (.int .i64 (v : Int)) h2
    obtain ⟨w', hr, hm⟩ := hup v hv
    rw [hs2] at hr
    injection hr with _ hr
    refine ⟨_, hs1, ?_, kept_set h2 _⟩
    rw [← hr] at hm
    exact hm.block (by rw [hbk]; exact heap_setBlock_same h2 _)
end Go.Proofs.YthlalmoapbdccaaDoor.WX
