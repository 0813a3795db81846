/-
  Within a row of one's own: a copy one place up, an append that closes a gap, a clear of the last place: laws for the walk.
-/
import Derived.Test.YtncahpbjbgcnbaaGreatDoorEO1
import Derived.Test.YtncahpbjbgcnbaaGreatDoorEO10
import Derived.Test.YtncahpbjbgcnbaaGreatDoorEO14
import Derived.StillTailTactics
import Derived.Test.YtncahpbjbgcnbaaGreatDoorEO7
import Derived.Test.YtncahpbjbgcnbaaGreatDoorEO9
namespace Go.Proofs.YtncahpbjbgcnbaaGreatDoor.IX
open Go.RowKit HL
set_option maxRecDepth 100000
set_option linter.unusedVariables false
set_option linter.unusedSimpArgs false
variable {α : Type}

theorem grownBy_setRow (w : World) (g : Nat) (cs : Array Value) : w.grownBy (w.setRow g cs) (some g) :=
  ⟨rfl, rfl, rfl, by simp [World.setRow], fun k hk hne => setRow_other w g k cs (fun e => hne (by rw [e]))⟩
/-- What an own row's block holds. -/
theorem OwnK.open_ {K : El α} {w : World} {base g n cap : Nat} {l : List α} (h : OwnK K w base (.slice (some ⟨g, 0, none⟩) n cap) l) :
    n = l.length ∧ base ≤ g ∧ ∃ cur, w.heap[g]? = some (.cells cur K.e (0, 0)) ∧ l.length ≤ cap ∧ cap ≤ maxLen ∧ cur.size = cap * K.size ∧ cur.toList.take (l.length * K.size) = cellsK K l := by
  rcases h.2 with ⟨e, _⟩ | ⟨g', cap', cur, e, hg, hb, hn, hc, hs, ht⟩
  · simp at e
  · simp only [Value.slice.injEq, Option.some.injEq, Addr.mk.injEq] at e
    obtain ⟨⟨rfl, _⟩, rfl, rfl⟩ := e
    exact ⟨rfl, hg, cur, hb, hn, hc, hs, ht⟩
theorem OwnK.set_ {K : El α} {w : World} {base g cap : Nat} {cur : Array Value} (hg : base ≤ g) (hb : w.heap[g]? = some (.cells cur K.e (0, 0))) (hc : cap ≤ maxLen) (cs : List Value) (hs : cs.length = cap * K.size) (l : List α) (hl : l.length ≤ cap) (ht : cs.take (l.length * K.size) = cellsK K l) :
    OwnK K (w.setRow g cs.toArray) base (.slice (some ⟨g, 0, none⟩) l.length cap) l :=
  ⟨by rw [cellsK_len], .inr ⟨g, cap, _, rfl, hg, setRow_heap w g cur _ K.e _ hb, hl, hc, by simpa using hs, by simpa using ht⟩⟩
theorem seg_take {L cs : List Value} {o m : Nat} (h : o + cs.length = m) (hm : m ≤ L.length) : (L.take o ++ cs ++ L.drop (o + cs.length)).take m = L.take o ++ cs := by
  rw [List.take_append_of_le_length (by simp; omega), List.take_of_length_le (by simp; omega)]
theorem seg_len {L cs : List Value} {o : Nat} (h : o + cs.length ≤ L.length) : (L.take o ++ cs ++ L.drop (o + cs.length)).length = L.length := by simp; omega
theorem run_shiftK (K : El α) (ty : TypeId) (w : World) (base g cap : Nat) (l : List α) (hown : OwnK K w base (.slice (some ⟨g, 0, none⟩) l.length cap) l) (i m : Nat) (hi : i + 1 + m = l.length) (dp sp : Option Addr) (dCap sCap : Nat)
    (hpos : 0 < m → dp = some ⟨g, (i + 1) * K.size, none⟩ ∧ sp = some ⟨g, i * K.size, none⟩) :
    ∃ w', (Builtin.copy_ #[K.T, K.T] ty #[.slice dp m dCap, .slice sp (m + 1) sCap]).run Tryz.prog w = .ok (.int .i64 m) w' ∧ OwnK K w' base (.slice (some ⟨g, 0, none⟩) l.length cap) (l.take (i + 1) ++ (l.drop i).take m) ∧ w.grownBy w' (some g) := by
  obtain ⟨_, hg, cur, hb, hn, hc, hs, ht⟩ := hown.open_
  by_cases h0 : m = 0
  · subst h0
    have hl : ∀ (x : Addr), (loadCells x 0).run Tryz.prog w = .ok #[] w := fun x => by simpa using run_loadCells_list (P := Tryz.prog) w x [] (by simp)
    refine ⟨w, ?_, ?_, World.grownBy.refl _ _⟩
    · cases dp <;> cases sp <;> simp [Builtin.copy_, run_underlying K.ht, Builtin.lenOf, Builtin.firstCells, sizeOf, typeInfo, K.hi, K.hs, storeCells, hl, goInt]
    · rw [List.take_zero, List.append_nil, List.take_of_length_le (by omega)]; exact hown
  · obtain ⟨rfl, rfl⟩ := hpos (by omega)
    have e1 : l.length * K.size = (i + 1) * K.size + m * K.size := by rw [← Nat.add_mul, hi]
    have e2 : (cellsK K ((l.drop i).take m)).length = m * K.size := by rw [cellsK_len, List.length_take, List.length_drop]; congr 1; omega
    have hcap : (i + 1) * K.size + m * K.size ≤ cur.size := by rw [← e1, hs]; exact Nat.mul_le_mul_right _ hn
    have hsrc : ∀ j v, (cellsK K ((l.drop i).take m))[j]? = some v → w.cell? ((⟨g, i * K.size, none⟩ : Addr).add j) = some v := fun j v hv => by
      rw [addr_lit, cell_of_row w g _ cur _ (0, 0) hb]
      rw [← cellsK_take, List.getElem?_take] at hv
      split at hv
      · rw [← cellsK_drop, ← ht, List.getElem?_drop, List.getElem?_take] at hv
        split at hv
        · simpa using hv
        · cases hv
      · cases hv
    have hl := run_loadCells_list (P := Tryz.prog) w ⟨g, i * K.size, none⟩ _ hsrc
    have hst := run_storeCells_at Tryz.prog g ((i + 1) * K.size) K.e (cellsK K ((l.drop i).take m)) 0 cur w hb (by rw [e2]; simpa using hcap) (cellsK_one K _)
    rw [e2] at hl
    simp only [Nat.add_zero] at hst
    have hmin : Nat.min (m + 1) m = m := Nat.min_eq_right (by omega)
    have hw := OwnK.set_ (K := K) (base := base) hg hb hc _ (by rw [seg_len (L := cur.toList) (o := (i + 1) * K.size) (by rw [e2]; simpa using hcap)]; simpa using hs) (l.take (i + 1) ++ (l.drop i).take m) (by simp; omega) (by
      rw [seg_take (by rw [e2, ← e1]; simp; congr 1; omega) (by rw [show (l.take (i + 1) ++ (l.drop i).take m).length = l.length by simp; omega]; simpa [hs] using Nat.mul_le_mul_right K.size hn), cellsK_app]
      congr 1
      rw [← cellsK_take, ← ht, List.take_take, Nat.min_eq_left (Nat.mul_le_mul_right _ (by omega))])
    rw [show (l.take (i + 1) ++ (l.drop i).take m).length = l.length by simp; omega] at hw
    refine ⟨_, ?_, hw, grownBy_setRow _ _ _⟩
    simp [Builtin.copy_, run_underlying K.ht, Builtin.lenOf, Builtin.firstCells, sizeOf, typeInfo, K.hi, K.hs, hmin, hl, hst, goInt]
/-- A copy one place up within a row of one's own. -/
theorem wpList_shiftK (K : El α) {ops : Array Oper} {rest : List Oper} {o : Oper} {a : Act} {Q : Exit → Act → World → Prop} {w : World} (hgd : o.guard = none) (d s : Operand)
    (ho : o.op = .call { callee := .builtin .copy, args := #[d, s], argTypes := #[K.T, K.T] }) (base g cap : Nat) (l : List α) (hown : OwnK K w base (.slice (some ⟨g, 0, none⟩) l.length cap) l) (i m : Nat) (hi : i + 1 + m = l.length) (dp sp : Option Addr) (dCap sCap : Nat)
    (hd : a.eval d = .slice dp m dCap) (hs : a.eval s = .slice sp (m + 1) sCap) (hpos : 0 < m → dp = some ⟨g, (i + 1) * K.size, none⟩ ∧ sp = some ⟨g, i * K.size, none⟩)
    (h : ∀ w', OwnK K w' base (.slice (some ⟨g, 0, none⟩) l.length cap) (l.take (i + 1) ++ (l.drop i).take m) → w.grownBy w' (some g) → wpList Tryz.prog ops Q rest (a.put o.dst (.int .i64 m)) w') : wpList Tryz.prog ops Q (o :: rest) a w := by
  obtain ⟨w', h1, h2, h3⟩ := run_shiftK K o.type w base g cap l hown i m hi dp sp dCap sCap hpos
  refine wpList_plain hgd fun K' hK => ?_
  unfold Oper.wp
  simp [execOp, ho, resolve, invoke, builtin, hd, hs, h1, Result.andThen]
  exact hK _ _ (h w' h2 h3)
/-- append(s[:i], s[i+1:]...) of a row of one's own. -/
theorem run_closeK (K : El α) (ty : TypeId) (w : World) (base g cap : Nat) (l : List α) (m i : Nat) (hm : l.length = m + 1) (hown : OwnK K w base (.slice (some ⟨g, 0, none⟩) (m + 1) cap) l) (hi : i ≤ m) (sp : Option Addr) (sCap : Nat)
    (hpos : i < m → sp = some ⟨g, (i + 1) * K.size, none⟩) (hsp : sp ≠ none) :
    ∃ w', (Builtin.append_ #[K.T, K.T] ty #[.slice (some ⟨g, 0, none⟩) i cap, .slice sp (m - i) sCap]).run Tryz.prog w = .ok (.slice (some ⟨g, 0, none⟩) m cap) w' ∧ OwnK K w' base (.slice (some ⟨g, 0, none⟩) m cap) (l.take i ++ l.drop (i + 1)) ∧ w.grownBy w' (some g) := by
  obtain ⟨_, hg, cur, hb, hn, hc, hs, ht⟩ := hown.open_
  obtain ⟨ad, rfl⟩ : ∃ ad, sp = some ad := by cases sp with | none => exact absurd rfl hsp | some ad => exact ⟨ad, rfl⟩
  have e2 : (cellsK K (l.drop (i + 1))).length = (m - i) * K.size := by rw [cellsK_len, List.length_drop]; congr 1; omega
  have hsrc : ∀ j v, (cellsK K (l.drop (i + 1)))[j]? = some v → w.cell? (ad.add j) = some v := fun j v hv => by
    have hj := (List.getElem?_eq_some_iff.1 hv).1
    have hlt : i < m := by
      by_cases h : i < m
      · exact h
      · rw [e2, show m - i = 0 by omega] at hj; simp at hj
    obtain rfl : ad = ⟨g, (i + 1) * K.size, none⟩ := by simpa using hpos hlt
    rw [addr_lit, cell_of_row w g _ cur _ (0, 0) hb]
    rw [← cellsK_drop, ← ht, List.getElem?_drop, List.getElem?_take] at hv
    split at hv
    · simpa using hv
    · cases hv
  have e3 : i * K.size + (m - i) * K.size = m * K.size := by rw [← Nat.add_mul]; congr 1; omega
  have hcap : i * K.size + (m - i) * K.size ≤ cur.size := by rw [e3, hs]; exact Nat.mul_le_mul_right _ (by omega)
  have hr := run_append_room (P := Tryz.prog) w K.T ty K.e K.i K.ht K.hi g i cap cur hb ad (m - i) sCap (cellsK K (l.drop (i + 1))) (by rw [e2, K.hs]) hsrc (cellsK_one K _) (by omega) (by rw [K.hs, e2]; exact hcap)
  rw [K.hs, show i + (m - i) = m by omega] at hr
  have hll : (l.take i ++ l.drop (i + 1)).length = m := by simp; omega
  have hw := OwnK.set_ (K := K) (base := base) hg hb hc _ (by rw [seg_len (L := cur.toList) (o := i * K.size) (by rw [e2]; simpa using hcap)]; simpa using hs) (l.take i ++ l.drop (i + 1)) (by omega) (by
    rw [hll, seg_take (by rw [e2, e3]) (by simp [hs]; exact Nat.mul_le_mul_right K.size (by omega)), cellsK_app]
    congr 1
    rw [← cellsK_take, ← ht, List.take_take, Nat.min_eq_left (Nat.mul_le_mul_right _ (by omega))])
  rw [hll] at hw
  exact ⟨_, hr, hw, grownBy_setRow _ _ _⟩
theorem wpList_closeK (K : El α) {ops : Array Oper} {rest : List Oper} {o : Oper} {a : Act} {Q : Exit → Act → World → Prop} {w : World} (hgd : o.guard = none) (d s : Operand)
    (ho : o.op = .call { callee := .builtin .append, args := #[d, s], argTypes := #[K.T, K.T] }) (base g cap : Nat) (l : List α) (m i : Nat) (hm : l.length = m + 1) (hown : OwnK K w base (.slice (some ⟨g, 0, none⟩) (m + 1) cap) l) (hi : i ≤ m) (sp : Option Addr) (sCap : Nat)
    (hd : a.eval d = .slice (some ⟨g, 0, none⟩) i cap) (hs : a.eval s = .slice sp (m - i) sCap) (hpos : i < m → sp = some ⟨g, (i + 1) * K.size, none⟩) (hsp : sp ≠ none)
    (h : ∀ w', OwnK K w' base (.slice (some ⟨g, 0, none⟩) m cap) (l.take i ++ l.drop (i + 1)) → w.grownBy w' (some g) → wpList Tryz.prog ops Q rest (a.put o.dst (.slice (some ⟨g, 0, none⟩) m cap)) w') : wpList Tryz.prog ops Q (o :: rest) a w := by
  obtain ⟨w', h1, h2, h3⟩ := run_closeK K o.type w base g cap l m i hm hown hi sp sCap hpos hsp
  refine wpList_plain hgd fun K' hK => ?_
  unfold Oper.wp
  simp [execOp, ho, resolve, invoke, builtin, hd, hs, h1, Result.andThen]
  exact hK _ _ (h w' h2 h3)
/-- clear of what lies behind a row of one's own, one place. -/
theorem run_clearK (K : El α) (w : World) (base g cap m c : Nat) (l : List α) (hown : OwnK K w base (.slice (some ⟨g, 0, none⟩) m cap) l) (hm : m < cap) (z : Value) (hz : ∀ W, (zeroValue K.e).run Tryz.prog W = .ok z W) (hzs : z.cells.size = K.size) (hz1 : ∀ u ∈ z.cells.toList, u.oneCell' = true) :
    ∃ w', (∀ ty, (Builtin.clear_ #[K.T] ty #[.slice (some ⟨g, m * K.size, none⟩) 1 c]).run Tryz.prog w = .ok (.tuple #[]) w') ∧ OwnK K w' base (.slice (some ⟨g, 0, none⟩) m cap) l ∧ w.grownBy w' (some g) := by
  obtain ⟨rfl, hg, cur, hb, hn, hc, hs, ht⟩ := hown.open_
  have e0 : (Builtin.zeroCells z.cells 1).toList = z.cells.toList := by
    apply List.ext_getElem
    · simp [Builtin.zeroCells]
    · intro j h1 h2
      have hj : j < z.cells.size := by simpa using h2
      simp [Builtin.zeroCells, Nat.mod_eq_of_lt hj, hj]
  have hcap : l.length * K.size + z.cells.toList.length ≤ cur.size := by
    rw [show z.cells.toList.length = K.size by rw [Array.length_toList, hzs], hs]
    calc l.length * K.size + K.size = (l.length + 1) * K.size := by rw [Nat.add_mul]; omega
      _ ≤ cap * K.size := Nat.mul_le_mul_right _ hm
  have hst := run_storeCells_at Tryz.prog g (l.length * K.size) K.e z.cells.toList 0 cur w hb (by simpa using hcap) hz1
  simp only [Nat.add_zero] at hst
  have hw := OwnK.set_ (K := K) (base := base) hg hb hc _ (by rw [seg_len (L := cur.toList) (o := l.length * K.size) (by rw [Array.length_toList]; exact hcap)]; simpa using hs) l hn (by
    rw [List.append_assoc, List.take_append_of_le_length (by simp; omega), List.take_take, Nat.min_self, ht])
  refine ⟨_, fun ty => ?_, hw, grownBy_setRow _ _ _⟩
  simp [Builtin.clear_, run_underlying K.ht, hz, e0, hst]
end Go.Proofs.YtncahpbjbgcnbaaGreatDoor.IX
/-
  WALKS: the library's Delete at objects.
-/
namespace Go.Proofs.YtncahpbjbgcnbaaGreatDoor.DX
open Go.RowKit HL
open IX (ptr El cellsK cellsK_at OwnK RdK strK Kept addr_lit slice_fromK slice_toK wpList_closeK run_clearK)
open WX (obK)
set_option maxRecDepth 100000
set_option linter.unusedVariables false
set_option linter.unusedSimpArgs false


theorem zero_obj (W : World) : (zeroValue 35).run Tryz.prog W = .ok (ob zeroOb) W := by kernel_rfl
set_option maxHeartbeats 2000000 in
theorem deleteO_any (base g cap m i : Nat) (l : List Ob) (w : World) (hl : l.length = m + 1) (ho : OwnK obK w base (.slice (some ⟨g, 0, none⟩) (m + 1) cap) l) (hi : i ≤ m) (hm : m ≤ 1000000) :
    Calls Tryz.prog 51 #[.slice (some ⟨g, 0, none⟩) (m + 1) cap, .int .i64 (i : Int), .int .i64 ((i : Int) + 1)] w fun e w' =>
      e = .returned (.slice (some ⟨g, 0, none⟩) m cap) ∧ OwnK obK w' base (.slice (some ⟨g, 0, none⟩) m cap) (l.take i ++ l.drop (i + 1)) ∧ Kept w w' (fun k => k ≠ g) := by
  obtain ⟨_, _, e5, rd5, hcap, hmax⟩ := OwnK.form (K := obK) ho
  simp only [hl, Value.slice.injEq, true_and] at e5
  obtain ⟨rfl, rfl⟩ := e5
  rw [hl] at hcap
  unfold maxLen at hmax
  obtain ⟨A3, c3, s3, _, _, p3, _, q3⟩ := slice_fromK obK rd5 hl (p := i + 1) (by omega) hcap
  rw [show m + 1 - (i + 1) = m - i by omega] at s3
  have s3' : ∀ W, (Instr.slice 22 (.slice (some ⟨g, 0, none⟩) (m + 1) cap) (some (.int .i64 ((i : Int) + 1))) none none).run Tryz.prog W = .ok (.slice A3 (m - i) c3) W := s3
  have s2' : ∀ W, (Instr.slice 22 (.slice (some ⟨g, 0, none⟩) (m + 1) cap) none (some (.int .i64 (i : Int))) none).run Tryz.prog W = .ok (.slice (some ⟨g, 0, none⟩) i cap) W := fun W => slice_toK obK (by omega) hcap W
  have hp : i < m → A3 = some ⟨g, (i + 1) * obK.size, none⟩ := fun h0 => by rw [p3 (by omega) _ rfl, addr_lit, Nat.zero_add]
  have hne : A3 ≠ none := q3 (by simp)
  have hwr : IntKind.i64.wrap ((i : Int) + 1) = (i : Int) + 1 := IntWalk.i64_in _ (by omega)
  have O := Lib.hid ho
  have HP := Lib.hid hp
  have HN := Lib.hid hne
  have HLL := Lib.hid hl
  clear ho hp hne s3 p3 q3 rd5 hl
  go_enter Tryz.func51, Tryz.ntmps51
  go_wp2
  have O' : Hid (OwnK obK w.drew base (.slice (some ⟨g, 0, none⟩) (m + 1) cap) l) := Lib.hid (show OwnK obK w base (.slice (some ⟨g, 0, none⟩) (m + 1) cap) l from O.out)
  go_still_tail 6, (by kernel_rfl)
  change wpList _ _ _ _ _ w.drew
  have k1 : Kept w w.drew (fun k => k ≠ g) := ⟨rfl, rfl, rfl, Nat.le_refl _, fun _ _ _ => rfl⟩
  generalize w.drew = w1 at *
  refine wpList_closeK obK rfl (.tmp 22) (.tmp 25) rfl base g cap l m i HLL.out O'.out hi A3 c3 rfl rfl HP.out HN.out ?_
  intro w2 o2 g2
  obtain ⟨w3, hcl, o3, g3⟩ := run_clearK obK w2 base g cap m (cap - m) _ o2 (by omega) _ zero_obj rfl (by intro u hu; have hu : u ∈ [Value.string .empty, .int .u8 0, .string .empty, .int .u8 0, .string .empty, .int .i64 0, .int .i64 0, .int .u8 0, .bool false, .bool false, .int .i64 0, .int .i64 0, .int .i64 0, .int .u8 0] := hu; simp only [List.mem_cons, List.not_mem_nil, or_false] at hu; rcases hu with rfl | rfl | rfl | rfl | rfl | rfl | rfl | rfl | rfl | rfl | rfl | rfl | rfl | rfl <;> rfl)
  have hcl' : ∀ ty, (Builtin.clear_ #[22] ty #[.slice (some ⟨g, m * 14, none⟩) 1 (cap - m)]).run Tryz.prog w2 = .ok (.tuple #[]) w3 := hcl
  have k3 := (k1.grown g2 (fun k e _ p => by simp at e; exact p e.symm)).grown g3 (fun k e _ p => by simp at e; exact p e.symm)
  have O3 := Lib.hid o3
  have K3 := Lib.hid k3
  clear hcl o2 o3 g2 g3 k1 k3 s2' s3' hwr O'
  go_wp2
  go_ret
  exact ⟨rfl, O3.out, K3.out⟩
end Go.Proofs.YtncahpbjbgcnbaaGreatDoor.DX
/-
  WALKS: what a change makes of an object: the program's Done and the document's.
-/
namespace Go.Proofs.YtncahpbjbgcnbaaGreatDoor.DX
open Go.RowKit HL
open IX (ptr El cellsK cellsK_at OwnK RdK strK)
open WX (hb pb rb tl_ne bs_eq ret_ob2)
set_option maxRecDepth 100000
set_option linter.unusedVariables false
set_option linter.unusedSimpArgs false

/-- What an object becomes, and whether it is there then. -/
def doneO (o : Ob) (c : Ch) : Ob := if c.kind = 1 then c.o else if c.kind = 2 then descOf o c.o else if c.kind = 3 then stateOf o c.o else zeroOb
def doneB (c : Ch) : Bool := decide (c.kind = 1 ∨ c.kind = 2 ∨ c.kind = 3)
set_option maxHeartbeats 4000000 in
theorem done_1 (o x : Ob) (w : World) : Calls Tryz.prog 14 #[ob o, ch ⟨1, x⟩] w fun e w' => e = .returned (.tuple #[ob x, .bool true]) ∧ Below w.heap.size w w' := by
  have h0 : Below w.heap.size w w := Below.refl _ _
  go_enter Tryz.func14, Tryz.ntmps14
  go_wp2
  exact ret_ob2 (o := x) rfl rfl rfl rfl (AtC.newAt (by simp)) ⟨rfl, bAl (bAl (bAl h0 _) _) _⟩
set_option maxHeartbeats 4000000 in
theorem done_2 (o x : Ob) (w : World) : Calls Tryz.prog 14 #[ob o, ch ⟨2, x⟩] w fun e w' => e = .returned (.tuple #[ob (descOf o x), .bool true]) ∧ Below w.heap.size w w' := by
  have h0 : Below w.heap.size w w := Below.refl _ _
  have C := fun W => Lib.hid (desc_any o x W)
  go_enter Tryz.func14, Tryz.ntmps14
  go_wp2_with (go_at_call 36; ((with_reducible refine (C _).out.mono ?_); rintro e w1 ⟨rfl, k1⟩; replace h0 := bThen (bAl (bAl (bAl h0 _) _) _) k1; have mR := (AtC.new _ _ _).then k1; simp at mR; have rc := mR.c; have rf := mR.f; have rl := mR.lt))
  exact ret_ob2 (o := descOf o x) rfl rfl rfl rfl (AtC.fill mR rfl _ _ _ _ _ _ _ _ _ _ _ _ _ _) ⟨rfl, bFill h0 (by omega) _ _ _ _ _ _ _ _ _ _ _ _ _ _⟩
set_option maxHeartbeats 4000000 in
theorem done_3 (o x : Ob) (w : World) : Calls Tryz.prog 14 #[ob o, ch ⟨3, x⟩] w fun e w' => e = .returned (.tuple #[ob (stateOf o x), .bool true]) ∧ Below w.heap.size w w' := by
  have h0 : Below w.heap.size w w := Below.refl _ _
  have C := fun W => Lib.hid (state_any o x W)
  go_enter Tryz.func14, Tryz.ntmps14
  go_wp2_with (go_at_call 37; ((with_reducible refine (C _).out.mono ?_); rintro e w1 ⟨rfl, k1⟩; replace h0 := bThen (bAl (bAl (bAl h0 _) _) _) k1; have mR := (AtC.new _ _ _).then k1; simp at mR; have rc := mR.c; have rf := mR.f; have rl := mR.lt))
  exact ret_ob2 (o := stateOf o x) rfl rfl rfl rfl (AtC.fill mR rfl _ _ _ _ _ _ _ _ _ _ _ _ _ _) ⟨rfl, bFill h0 (by omega) _ _ _ _ _ _ _ _ _ _ _ _ _ _⟩
set_option maxHeartbeats 4000000 in
theorem done_n (o : Ob) (c : Ch) (w : World) (h1 : ¬ (c.kind : Int) = 1) (h2 : ¬ (c.kind : Int) = 2) (h3 : ¬ (c.kind : Int) = 3) : Calls Tryz.prog 14 #[ob o, ch c] w fun e w' => e = .returned (.tuple #[ob zeroOb, .bool false]) ∧ Below w.heap.size w w' := by
  have h0 : Below w.heap.size w w := Below.refl _ _
  go_enter Tryz.func14, Tryz.ntmps14
  go_wp2
  exact ret_ob2 (o := zeroOb) rfl rfl rfl rfl (AtC.newAt (by simp)) ⟨rfl, bAl (bAl (bAl h0 _) _) _⟩
theorem done_any (o : Ob) (c : Ch) (w : World) : Calls Tryz.prog 14 #[ob o, ch c] w fun e w' => e = .returned (.tuple #[ob (doneO o c), .bool (doneB c)]) ∧ Below w.heap.size w w' := by
  obtain ⟨k, x⟩ := c
  by_cases h1 : k = 1
  · subst h1; exact done_1 o x w
  · by_cases h2 : k = 2
    · subst h2; exact done_2 o x w
    · by_cases h3 : k = 3
      · subst h3; exact done_3 o x w
      · have e : doneO o ⟨k, x⟩ = zeroOb := by unfold doneO; rw [if_neg h1, if_neg h2, if_neg h3]
        have e2 : doneB ⟨k, x⟩ = false := by unfold doneB; simp [h1, h2, h3]
        rw [e, e2]
        exact done_n o ⟨k, x⟩ w (by dsimp only; omega) (by dsimp only; omega) (by dsimp only; omega)
set_option maxHeartbeats 4000000 in
theorem refDone_1 (o x : Ob) (w : World) : Calls Tryz.prog 15 #[ob o, ch ⟨1, x⟩] w fun e w' => e = .returned (.tuple #[ob x, .bool true]) ∧ Below w.heap.size w w' := by
  have h0 : Below w.heap.size w w := Below.refl _ _
  go_enter Tryz.func15, Tryz.ntmps15
  go_wp2
  exact ret_ob2 (o := x) rfl rfl rfl rfl (AtC.newAt (by simp)) ⟨rfl, bAl (bAl (bAl h0 _) _) _⟩
set_option maxHeartbeats 4000000 in
theorem refDone_2 (o x : Ob) (w : World) : Calls Tryz.prog 15 #[ob o, ch ⟨2, x⟩] w fun e w' => e = .returned (.tuple #[ob (descOf o x), .bool true]) ∧ Below w.heap.size w w' := by
  have h0 : Below w.heap.size w w := Below.refl _ _
  have C := fun W => Lib.hid (refDesc_any o x W)
  go_enter Tryz.func15, Tryz.ntmps15
  go_wp2_with (go_at_call 38; ((with_reducible refine (C _).out.mono ?_); rintro e w1 ⟨rfl, k1⟩; replace h0 := bThen (bAl (bAl (bAl h0 _) _) _) k1; have mR := (AtC.new _ _ _).then k1; simp at mR; have rc := mR.c; have rf := mR.f; have rl := mR.lt))
  exact ret_ob2 (o := descOf o x) rfl rfl rfl rfl (AtC.fill mR rfl _ _ _ _ _ _ _ _ _ _ _ _ _ _) ⟨rfl, bFill h0 (by omega) _ _ _ _ _ _ _ _ _ _ _ _ _ _⟩
set_option maxHeartbeats 4000000 in
theorem refDone_3 (o x : Ob) (w : World) : Calls Tryz.prog 15 #[ob o, ch ⟨3, x⟩] w fun e w' => e = .returned (.tuple #[ob (stateOf o x), .bool true]) ∧ Below w.heap.size w w' := by
  have h0 : Below w.heap.size w w := Below.refl _ _
  have C := fun W => Lib.hid (refState_any o x W)
  go_enter Tryz.func15, Tryz.ntmps15
  go_wp2_with (go_at_call 39; ((with_reducible refine (C _).out.mono ?_); rintro e w1 ⟨rfl, k1⟩; replace h0 := bThen (bAl (bAl (bAl h0 _) _) _) k1; have mR := (AtC.new _ _ _).then k1; simp at mR; have rc := mR.c; have rf := mR.f; have rl := mR.lt))
  exact ret_ob2 (o := stateOf o x) rfl rfl rfl rfl (AtC.fill mR rfl _ _ _ _ _ _ _ _ _ _ _ _ _ _) ⟨rfl, bFill h0 (by omega) _ _ _ _ _ _ _ _ _ _ _ _ _ _⟩
set_option maxHeartbeats 4000000 in
theorem refDone_n (o : Ob) (c : Ch) (w : World) (h1 : ¬ (c.kind : Int) = 1) (h2 : ¬ (c.kind : Int) = 2) (h3 : ¬ (c.kind : Int) = 3) : Calls Tryz.prog 15 #[ob o, ch c] w fun e w' => e = .returned (.tuple #[ob zeroOb, .bool false]) ∧ Below w.heap.size w w' := by
  have h0 : Below w.heap.size w w := Below.refl _ _
  go_enter Tryz.func15, Tryz.ntmps15
  go_wp2
  exact ret_ob2 (o := zeroOb) rfl rfl rfl rfl (AtC.newAt (by simp)) ⟨rfl, bAl (bAl (bAl h0 _) _) _⟩
theorem refDone_any (o : Ob) (c : Ch) (w : World) : Calls Tryz.prog 15 #[ob o, ch c] w fun e w' => e = .returned (.tuple #[ob (doneO o c), .bool (doneB c)]) ∧ Below w.heap.size w w' := by
  obtain ⟨k, x⟩ := c
  by_cases h1 : k = 1
  · subst h1; exact refDone_1 o x w
  · by_cases h2 : k = 2
    · subst h2; exact refDone_2 o x w
    · by_cases h3 : k = 3
      · subst h3; exact refDone_3 o x w
      · have e : doneO o ⟨k, x⟩ = zeroOb := by unfold doneO; rw [if_neg h1, if_neg h2, if_neg h3]
        have e2 : doneB ⟨k, x⟩ = false := by unfold doneB; simp [h1, h2, h3]
        rw [e, e2]
        exact refDone_n o ⟨k, x⟩ w (by dsimp only; omega) (by dsimp only; omega) (by dsimp only; omega)
end Go.Proofs.YtncahpbjbgcnbaaGreatDoor.DX
/-
  WALKS: the program's put where the object is there: it is taken away, or another one stands in its place.
-/
namespace Go.Proofs.YtncahpbjbgcnbaaGreatDoor.DX
open Go.RowKit HL
open IX (ptr El cellsK cellsK_at cellsK_app cellsK_cons OwnK RdK strK Kept addr_lit)
open WX (obK obs_at hb pb rb tl_ne bs_eq findO findO_some findO_none findO_at obO ret_ob2)
open KX (kept_drew)
set_option maxRecDepth 100000
set_option linter.unusedVariables false
set_option linter.unusedSimpArgs false

theorem own_put {base e s n cap g : Nat} : ∀ (vs old a b : List Value) (off : Nat) (W : World), a.length = off → old.length = vs.length → W.ownsRow base e s (.slice (some ⟨g, 0, none⟩) n cap) n (a ++ old ++ b) →
    (KX.putC W g off vs).ownsRow base e s (.slice (some ⟨g, 0, none⟩) n cap) n (a ++ vs ++ b)
  | [], old, a, b, off, W, ha, ho, h => by
    obtain rfl : old = [] := List.eq_nil_of_length_eq_zero ho
    exact h
  | v :: vs, old, a, b, off, W, ha, ho, h => by
    obtain ⟨o, old, rfl⟩ : ∃ o r, old = o :: r := by
      cases old with
      | nil => simp at ho
      | cons o r => exact ⟨o, r, rfl⟩
    have h2 := (World.ownsRow.stored h off v).1
    have e1 : (a ++ o :: old ++ b).set off v = (a ++ [v]) ++ old ++ b := by
      subst ha
      rw [List.append_assoc, List.set_append_right _ _ (Nat.le_refl _), Nat.sub_self]
      simp
    rw [e1] at h2
    have h3 := own_put vs old (a ++ [v]) b (off + 1) _ (by simp [ha]) (by simpa using ho) h2
    rw [show a ++ v :: vs ++ b = a ++ [v] ++ vs ++ b by simp]
    exact h3
theorem own_set {w : World} {base g cap k : Nat} {l : List Ob} (h : OwnK obK w base (.slice (some ⟨g, 0, none⟩) l.length cap) l) (hk : k < l.length) (x : Ob) :
    OwnK obK (KX.putC w g (k * 14) (obCells x).toList) base (.slice (some ⟨g, 0, none⟩) l.length cap) (l.set k x) := by
  have e0 : l = l.take k ++ l[k] :: l.drop (k + 1) := by rw [← List.drop_eq_getElem_cons hk, List.take_append_drop]
  have e1 : cellsK obK l = cellsK obK (l.take k) ++ (obCells l[k]).toList ++ cellsK obK (l.drop (k + 1)) := by
    conv => lhs; rw [e0]
    rw [cellsK_app, cellsK_cons, List.append_assoc]; rfl
  have e2 : l.set k x = l.take k ++ x :: l.drop (k + 1) := List.set_eq_take_append_cons_drop .. |>.trans (by rw [if_pos hk])
  have e3 : cellsK obK (l.set k x) = cellsK obK (l.take k) ++ (obCells x).toList ++ cellsK obK (l.drop (k + 1)) := by
    rw [e2, cellsK_app, cellsK_cons, List.append_assoc]; rfl
  have h1 : w.ownsRow base obK.e obK.size (.slice (some ⟨g, 0, none⟩) l.length cap) l.length (cellsK obK (l.take k) ++ (obCells l[k]).toList ++ cellsK obK (l.drop (k + 1))) := by rw [← e1]; exact h
  have h2 := own_put (obCells x).toList (obCells l[k]).toList (cellsK obK (l.take k)) (cellsK obK (l.drop (k + 1))) (k * 14) w (by rw [IX.cellsK_len, List.length_take, Nat.min_eq_left (Nat.le_of_lt hk)]; rfl) rfl h1
  unfold OwnK
  rw [List.length_set, e3]
  exact h2
theorem own_kept {w W : World} {g base : Nat} {l : List Ob} {k : Nat} {x : Ob} (hg : base ≤ g) (h : Below base w W) : Below base w (KX.putC W g (k * 14) (obCells x).toList) := by
  have q : ∀ (vs : List Value) (off : Nat) (W : World), Below base w W → Below base w (KX.putC W g off vs) := by
    intro vs
    induction vs with
    | nil => exact fun _ _ h => h
    | cons v vs ih => exact fun off W h => ih (off + 1) _ (h.setCell (p := ⟨g, off, none⟩) hg v)
  exact q _ _ _ h
theorem firstAt_one {l : List Ob} {x : Bs} {j k : Nat} (hj : FirstAt l x j) (hk : FirstAt l x k) : j = k := by
  rcases Nat.lt_trichotomy j k with h | h | h
  · have h1 := hj.1
    exact absurd hj.2.2 (hk.2.1 _ (List.mem_iff_getElem.2 ⟨j, by simp; omega, by simp⟩))
  · exact h
  · have h1 := hk.1
    exact absurd hk.2.2 (hj.2.1 _ (List.mem_iff_getElem.2 ⟨k, by simp; omega, by simp⟩))
theorem own_thaw {w : World} {base g n cap : Nat} {l : List Ob} (h : OwnK obK w base (.slice (some ⟨g, 0, none⟩) n cap) l) : ∀ i, w.frozen? ⟨g, i, none⟩ = false := fun i => by
  rcases h.2 with ⟨e, _⟩ | ⟨g', cap', cur, e, hg, hh, hn, hc, hs, ht⟩
  · simp at e
  · simp only [Value.slice.injEq, Option.some.injEq, Addr.mk.injEq] at e
    obtain ⟨⟨rfl, _⟩, _⟩ := e
    simp [World.frozen?, hh]
/-- What a change makes of a list in which its handle stands at k. -/
def putAt (l : List Ob) (c : Ch) (k : Nat) (h : k < l.length) : List Ob := if doneB c = true then l.set k (doneO l[k] c) else l.take k ++ l.drop (k + 1)
set_option maxHeartbeats 8000000 in
theorem put_gone (c : Ch) (l : List Ob) (v : Value) (base k m : Nat) (w : World) (h : OwnK obK w base v l) (hm : l.length = m + 1) (hn : l.length ≤ 100000) (hbase : base ≤ w.heap.size) (hf : FirstAt l (hc c) k) (hd : doneB c = false) :
    Calls Tryz.prog 31 #[v, ch c] w fun e w' => ∃ v', e = .returned v' ∧ OwnK obK w' base v' (l.take k ++ l.drop (k + 1)) ∧ Below base w w' := by
  obtain ⟨g, cap, rfl, hgb, hgl, hcap⟩ := h.some_ hm
  obtain ⟨A, cap', e5, hr, hcap5, _⟩ := h.form
  simp only [Value.slice.injEq] at e5
  obtain ⟨rfl, e6, rfl⟩ := e5
  have hk := hf.1
  have hb0 : Below w.heap.size w w := Below.refl _ _
  obtain ⟨b, off, eb, hbl, hcc⟩ := obs_at hr (by omega)
  simp only [Option.some.injEq, Addr.mk.injEq, and_true] at eb
  obtain ⟨rfl, rfl⟩ := eb
  have hcell := hcc k _ (List.getElem?_eq_getElem hk)
  have CP : Hid (∀ W, Below w.heap.size w W → Calls Tryz.prog 50 #[.slice (some ⟨g, 0, none⟩) (m + 1) cap, .string c.o.handle] W fun e w' => e = .returned (.int .i64 (k : Int)) ∧ Below W.heap.size W w') := Lib.hid (fun W q => by
    rw [← hm]
    exact (place_any l cap c.o.handle W ((hr.below q).more q.size) (by omega)).mono fun e2 w' ⟨⟨i, he, hi⟩, k9⟩ => ⟨by
      rcases hi with ⟨j, e, hj⟩ | ⟨z, hno⟩
      · rw [he, e, firstAt_one hj hf]
      · exact absurd hf.2.2 (hno _ (List.getElem_mem hk)), k9⟩)
  have HO := Lib.hid h
  have HM := Lib.hid hm
  have hkm : k ≤ m := by omega
  have i1 : (k : Int) < (m : Int) + 1 := by omega
  have CD := Lib.hid (fun W => done_any l[k] c W)
  rw [hd] at CD
  have CX := Lib.hid (fun W (q : Below w.heap.size w W) => deleteO_any base g cap m k l W hm ((h.below q)) hkm (by omega))
  have hwr : IntKind.i64.wrap ((k : Int) + 1) = (k : Int) + 1 := IntWalk.i64_in _ (by omega)
  clear h hr hf hcc hm hn e6 hcap5
  generalize l[k] = o at *
  generalize doneO o c = o2 at *
  go_enter Tryz.func31, Tryz.ntmps31
  go_wp2_with (first
    | (go_at_call 50; ((with_reducible refine (CP.out _ (bAl hb0 _)).mono ?_); rintro e w3 ⟨rfl, q3⟩; have mC := (AtC.new _ _ _).then q3; have k3 := bThen (bAl hb0 _) q3)))
  have hS : ∀ W', Below w3.heap.size w3 W' → ((W'.cell? ⟨g, k * 14, none⟩ = some (.string o.handle) ∧ (∀ i, i < 14 → W'.cell? ⟨g, k * 14 + i, none⟩ = (obCells o)[i]?) ∧ (∀ i, W'.cell? ⟨w.heap.size, i, none⟩ = (chCells c)[i]?)) ∧ Below w3.heap.size w3 W') := fun W' q => by
    have cl := fun (i : Nat) => (bThen k3 q).cell (p := ⟨g, k * 14 + i, none⟩) hgl
    simp only [Nat.zero_add] at hcell
    obtain ⟨c0, c1, c2, c3, c4, c5, c6, c7, c8, c9, c10, c11, c12, c13⟩ := hcell
    refine ⟨⟨(cl 0).trans c0, fun i hi => ?_, (mC.then q).c⟩, q⟩
    rw [cl i]
    rcases i with _ | _ | _ | _ | _ | _ | _ | _ | _ | _ | _ | _ | _ | _ | i
    · exact c0
    · exact c1
    · exact c2
    · exact c3
    · exact c4
    · exact c5
    · exact c6
    · exact c7
    · exact c8
    · exact c9
    · exact c10
    · exact c11
    · exact c12
    · exact c13
    · omega
  have K3 := Lib.hid k3
  have K3g := Lib.hid (Nat.lt_of_lt_of_le hgl k3.size)
  clear mC k3 hcell
  generalize w3 = wo at *
  have MT : ∀ w4, Below (wo.alloc (.cells #[.string ⟨#[]⟩, .int .u8 0, .string ⟨#[]⟩, .int .u8 0, .string ⟨#[]⟩, .int .i64 0, .int .i64 0, .int .u8 0, .bool false, .bool false, .int .i64 0, .int .i64 0, .int .i64 0, .int .u8 0] 35)).drew.heap.size (wo.alloc (.cells #[.string ⟨#[]⟩, .int .u8 0, .string ⟨#[]⟩, .int .u8 0, .string ⟨#[]⟩, .int .i64 0, .int .i64 0, .int .u8 0, .bool false, .bool false, .int .i64 0, .int .i64 0, .int .i64 0, .int .u8 0] 35)).drew w4 → AtC w4 wo.heap.size #[.string ⟨#[]⟩, .int .u8 0, .string ⟨#[]⟩, .int .u8 0, .string ⟨#[]⟩, .int .i64 0, .int .i64 0, .int .u8 0, .bool false, .bool false, .int .i64 0, .int .i64 0, .int .i64 0, .int .u8 0] := fun w4 k4 => (AtC.new wo _ _).drew1.then k4
  clear CP HO HM hb0
  go_region_held3 (fun W' => ((W'.cell? ⟨g, k * 14, none⟩ = some (.string o.handle) ∧ (∀ i, i < 14 → W'.cell? ⟨g, k * 14 + i, none⟩ = (obCells o)[i]?) ∧ (∀ i, W'.cell? ⟨w.heap.size, i, none⟩ = (chCells c)[i]?)) ∧ Below wo.heap.size wo W'))
    (first | with_reducible assumption | with_reducible exact hS _ (bFill (And.right ‹_ ∧ Below wo.heap.size wo w4›) (Nat.le_refl _) _ _ _ _ _ _ _ _ _ _ _ _ _ _) | with_reducible exact hS _ (Below.refl _ _).drew | with_reducible exact hS _ (keepD (by assumption) k4) | with_reducible exact hS _ (bAl (Below.refl _ _).drew _) | with_reducible exact hS _ (bAl (Below.refl _ _) _).drew | with_reducible exact hS _ (bAl (bThen (Below.refl _ _).drew k4) _))
    ((go_at_call 14; (with_reducible refine (CD.out _).mono ?_); rintro e w4 ⟨rfl, k4⟩; first | (with_reducible have mT := MT _ k4; have tf := mT.f; have tl := mT.lt; have tc := mT.c) | skip))
  all_goals
    rename_i hH
    have K5 := Lib.hid (bThen K3.out hH.2)
    clear hH
    go_wp2_with (go_at_call 51; ((with_reducible refine (CX.out _ K5.out).mono ?_); rintro e w6 ⟨rfl, o6, k6⟩; have O6 := Lib.hid o6; have K6 := Lib.hid k6; clear o6 k6))
    go_ret
    refine ⟨_, rfl, O6.out, (K5.out.mono hbase).trans (K6.out.below (Nat.le_trans hbase K5.out.size) (fun i hi => ?_))⟩
    exact fun e => by omega
end Go.Proofs.YtncahpbjbgcnbaaGreatDoor.DX
