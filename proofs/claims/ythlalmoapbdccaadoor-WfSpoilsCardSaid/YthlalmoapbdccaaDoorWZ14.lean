/-
  What wf's laws share: what the list meets; the document's Same of two rows of the same objects; rows that are laid by a literal; a copy of a row.
-/
import Derived.Test.YthlalmoapbdccaaDoorWZ7
import Derived.Test.YthlalmoapbdccaaDoorWZ11
import Derived.Test.YthlalmoapbdccaaDoorWZ5
import Derived.Laws.StructEq
import Derived.Deep.RegionHeld3
import Derived.Test.YthlalmoapbdccaaDoorWZ10
import Derived.Test.YthlalmoapbdccaaDoorWZ13
import Derived.Test.YthlalmoapbdccaaDoorWZ6
import Derived.Test.YthlalmoapbdccaaDoorWZ15
namespace Go.Proofs.YthlalmoapbdccaaDoor.WX
open Go.RowKit HL
open IX (ptr El cellsK cellsK_at OwnK RdK strK)
set_option maxRecDepth 100000
set_option linter.unusedVariables false
set_option linter.unusedSimpArgs false

theorem meetsL_of {l : List Ob} {w : World} (h : l.length ≤ 1000) (hF : ∀ o ∈ l, Fine o) (ht : Tables w ∧ Kinds w) : MeetsL l w :=
  ⟨h, fun o ho => have f := hF o ho; ⟨f.kind, f.typ, f.digits, f.assoc, f.handle, f.parent, f.ref, ht.1.words, ht.2⟩, ht.1⟩
theorem tabs_then {w W : World} (h : Tables w ∧ Kinds w) (k : Below w.heap.size w W) : Tables W ∧ Kinds W := ⟨h.1.then k, h.2.then k⟩
set_option maxHeartbeats 4000000 in
theorem sameO_yes (A1 A2 : Option Addr) (c1 c2 m : Nat) (l : List Ob) (w : World) (h1 : RdK obK w w.heap.size A1 l) (h2 : RdK obK w w.heap.size A2 l) (hm : l.length = m) (hn : m ≤ 1000000) :
    Calls Tryd.prog 14 #[.slice A1 m c1, .slice A2 m c2] w fun e w' => e = .returned (.bool true) ∧ Below w.heap.size w w' := by
  subst hm
  have H1 := Lib.hid h1
  have H2 := Lib.hid h2
  clear h1 h2
  go_enter Tryd.func14, Tryd.ntmps14
  go_wp2
  go_loopw [5] (fun i wr => ∃ k : Nat, i = .int .i64 k ∧ k ≤ l.length ∧ Below w.heap.size w wr) (fun i _ => l.length - (intOf i).toNat)
  case atStart => exact ⟨0, rfl, Nat.zero_le _, Below.refl _ _⟩
  case round =>
    obtain ⟨k, rfl, hk, k1⟩ := hrel
    by_cases hlt : k < l.length
    · obtain ⟨b, off, rfl, hb1, hc⟩ := obs_at (H1.out.below k1) (by omega)
      obtain ⟨b2, off2, rfl, hb2, hc2⟩ := obs_at (H2.out.below k1) (by omega)
      obtain ⟨p0, p1, p2, p3, p4, p5, p6, p7, p8, p9, p10, p11, p12, p13⟩ := hc k _ (List.getElem?_eq_getElem hlt)
      obtain ⟨q0, q1, q2, q3, q4, q5, q6, q7, q8, q9, q10, q11, q12, q13⟩ := hc2 k _ (List.getElem?_eq_getElem hlt)
      have i1 : (k : Int) < l.length := by omega
      have K1 := Lib.hid k1
      clear hc hc2 k1
      generalize l[k] = o at *
      go_wp2
      go_quiet (fail)
      go_wp2
      go_roundw
      case rel => exact ⟨k + 1, by go_num, by omega, K1.out.trans ⟨rfl, rfl, rfl, Nat.le_refl _, fun _ _ => rfl⟩⟩
      case measure => simp [intOf]; omega
    · obtain rfl : k = l.length := by omega
      have i1 : ¬ (l.length : Int) < l.length := by omega
      go_wp2
      go_ret
      exact ⟨rfl, k1⟩
theorem rdLit {α : Type} {K : El α} {W : World} {g : Nat} {C : Array Value} {T : TypeId} {l : List α} (hg : g = W.heap.size) (hC : C.toList = cellsK K l) : RdK K (W.alloc (.cells C T)) (W.alloc (.cells C T)).heap.size (some ⟨g, 0, none⟩) l := by
  subst hg
  refine .inr ⟨W.heap.size, 0, rfl, by simp, fun m u hu => ?_⟩
  rw [World.cell?_alloc_at _ _ _ _ rfl, Nat.zero_add, ← Array.getElem?_toList, hC]
  exact hu
theorem RdK.al {α : Type} {K : El α} {W : World} {A : Option Addr} {l : List α} (h : RdK K W W.heap.size A l) (o : Obj) : RdK K (W.alloc o) (W.alloc o).heap.size A l := (h.below (bAl (Below.refl _ _) o)).more (by simp)
theorem RdK.on {α : Type} {K : El α} {W W1 : World} {A : Option Addr} {l : List α} (h : RdK K W W.heap.size A l) (k : Below W.heap.size W W1) : RdK K W1 W1.heap.size A l := (h.below k).more k.size
theorem rd_take {α : Type} {K : El α} {w : World} {B : Nat} {A : Option Addr} {l : List α} (h : RdK K w B A l) (p : Nat) : RdK K w B A (l.take p) := by
  rcases h with h | ⟨b, off, e, hb, hc⟩
  · exact .inl (by rw [h, List.take_nil])
  · refine .inr ⟨b, off, e, hb, fun m u hu => hc m u ?_⟩
    rw [← IX.cellsK_take, List.getElem?_take] at hu
    split at hu
    · exact hu
    · cases hu
/-- Which place: the number, as one without sign, by how many there are. -/
theorem place_of (i : Int) (n : Nat) (hn : n ≤ 1000) : ∃ (u : Int) (k : Nat), IntKind.u64.wrap i = u ∧ 0 ≤ u ∧ (u % ((n : Int) + 1)) = (k : Int) ∧ k ≤ n := by
  have h0 : (0 : Int) ≤ IntKind.u64.wrap i := by
    simp only [IntKind.wrap]
    exact Int.emod_nonneg _ (by decide)
  refine ⟨IntKind.u64.wrap i, (IntKind.u64.wrap i % ((n : Int) + 1)).toNat, rfl, h0, ?_, ?_⟩
  · have := Int.emod_nonneg (IntKind.u64.wrap i) (b := (n : Int) + 1) (by omega)
    omega
  · have := Int.emod_lt_of_pos (IntKind.u64.wrap i) (b := (n : Int) + 1) (by omega)
    have := Int.emod_nonneg (IntKind.u64.wrap i) (b := (n : Int) + 1) (by omega)
    omega
end Go.Proofs.YthlalmoapbdccaaDoor.WX
/-
  PLAIN: the chapter's examples: what wf tells of them.
-/
namespace Go.Proofs.YthlalmoapbdccaaDoor.WX
open Go.RowKit HL
open IX (ptr El cellsK cellsK_at OwnK RdK strK)
set_option maxRecDepth 100000
set_option linter.unusedVariables false
set_option linter.unusedSimpArgs false

def mayT (s : ByteArray) : Bool :=
  decide (1 ≤ s.size) && decide (s.size ≤ 16) && HL.ltrI (HL.bt s 0) && (List.range s.size).all (fun k => HL.latI (HL.bt s k)) && (List.range s.size).all (fun k => decide (k + 1 < s.size → ¬ (HL.bt s k = 46 ∧ HL.bt s (k + 1) = 46))) && decide (HL.bt s (s.size - 1) ≠ 46)
theorem mayB_t (s : ByteArray) : HL.mayB s = mayT s := by
  rw [Bool.eq_iff_iff, HL.mayB_iff]
  unfold mayT HL.MayP
  simp only [Bool.and_eq_true, decide_eq_true_eq, List.all_eq_true, List.mem_range]
  constructor
  · rintro ⟨a, b, c, d, e, f⟩
    exact ⟨⟨⟨⟨⟨a, b⟩, c⟩, d⟩, fun k _ => e k⟩, f⟩
  · rintro ⟨⟨⟨⟨⟨a, b⟩, c⟩, d⟩, e⟩, f⟩
    exact ⟨a, b, c, d, fun k hk => e k (by omega) hk, f⟩
theorem fits_of {o : Ob} (h1 : kindB o.kind = true) (h2 : trimOf o = o) (h3 : o.typ ≤ 3) (h4 : o.assoc ≤ 3) : fitsB o = true := by
  cases h : fitsB o with
  | true => rfl
  | false =>
    rcases (fits_iff o).1 h with k | k | k | k
    · rw [h1] at k; cases k
    · exact absurd h2 k
    · omega
    · omega
theorem faultP_ok {o : Ob} {whole : Bool} (h1 : fitsB o = true) (h2 : HL.mayB o.handle = true) (h3 : whole = true → namedB o = true) (h4 : countsObB o = true) (h5 : orderedB o = true) (h6 : whole = true → o.has = true → hasB o.lo o.hi o.value = true) : faultP o whole = 0 := by
  unfold faultP
  rw [if_neg (by simp [h1]), if_neg, if_neg (by simp [h4]), if_neg]
  · rintro (h | ⟨a, b, c⟩)
    · rw [h5] at h; cases h
    · rw [h6 a b] at c; cases c
  · rintro (h | ⟨a, b⟩)
    · rw [h2] at h; cases h
    · rw [h3 a] at b; cases b
def trimB (o : Ob) : Bool :=
  (o.kind != 1 || o.parent.data.toList == []) && (decide (o.kind = 6 ∨ o.kind = 8 ∨ o.kind = 9) || o.typ == 0) && (decide (o.kind = 6 ∨ o.kind = 7 ∨ o.kind = 8) || o.ref.data.toList == []) && (decide (o.kind = 4) || (o.lo == 0 && o.hi == 0 && o.digits == 0 && o.has == false && o.value == 0)) && (decide (o.kind = 5 ∨ o.kind = 6 ∨ o.kind = 7 ∨ o.kind = 8) || o.on == false) && (decide (o.kind = 8) || (o.low == 0 && o.high == 0)) && (decide (o.kind = 9) || o.assoc == 0)
theorem empty_of {s : ByteArray} (h : s.data.toList = []) : s = ⟨#[]⟩ := bs_eq (by rw [h])
theorem trim_of {o : Ob} (h : trimB o = true) : trimOf o = o := by
  unfold trimB at h
  simp only [Bool.and_eq_true, Bool.or_eq_true, decide_eq_true_eq, beq_iff_eq, bne_iff_ne] at h
  obtain ⟨⟨⟨⟨⟨⟨h1, h2⟩, h3⟩, h4⟩, h5⟩, h6⟩, h7⟩ := h
  obtain ⟨a, k, p, t, r, lo, hi, dg, on, has, v, lw, hg, ac⟩ := o
  simp only at h1 h2 h3 h4 h5 h6 h7
  unfold trimOf
  simp only [Ob.mk.injEq, true_and]
  refine ⟨?_, ?_, ?_, ?_, ?_, ?_, ?_, ?_, ?_, ?_, ?_, ?_⟩
  · split
    · rename_i e
      rcases h1 with q | q
      · exact absurd e q
      · exact (empty_of q).symm
    · rfl
  · split
    · rfl
    · rename_i e
      rcases h2 with q | q
      · exact absurd q e
      · exact q.symm
  · split
    · rfl
    · rename_i e
      rcases h3 with q | q
      · exact absurd q e
      · exact (empty_of q).symm
  · split
    · rfl
    · rename_i e
      rcases h4 with q | q
      · exact absurd q e
      · exact q.1.1.1.1.symm
  · split
    · rfl
    · rename_i e
      rcases h4 with q | q
      · exact absurd q e
      · exact q.1.1.1.2.symm
  · split
    · rfl
    · rename_i e
      rcases h4 with q | q
      · exact absurd q e
      · exact q.1.1.2.symm
  · split
    · rfl
    · rename_i e
      rcases h5 with q | q
      · exact absurd q e
      · exact q.symm
  · split
    · rfl
    · rename_i e
      rcases h4 with q | q
      · exact absurd q e
      · exact q.1.2.symm
  · split
    · rfl
    · rename_i e
      rcases h4 with q | q
      · exact absurd q e
      · exact q.2.symm
  · split
    · rfl
    · rename_i e
      rcases h6 with q | q
      · exact absurd q e
      · exact q.1.symm
  · split
    · rfl
    · rename_i e
      rcases h6 with q | q
      · exact absurd q e
      · exact q.2.symm
  · split
    · rfl
    · rename_i e
      rcases h7 with q | q
      · exact absurd q e
      · exact q.symm
def okT (o : Ob) : Bool :=
  kindB o.kind && trimB o && decide (o.typ ≤ 3) && decide (o.assoc ≤ 3) && mayT o.handle && (decide (o.kind = 1) || mayT o.parent) && (!refersB o.kind || mayT o.ref) && countsObB o && orderedB o && (!o.has || hasB o.lo o.hi o.value)
theorem okT_ok {o : Ob} (h : okT o = true) : faultP o true = 0 := by
  unfold okT at h
  simp only [Bool.and_eq_true, Bool.or_eq_true, decide_eq_true_eq] at h
  obtain ⟨⟨⟨⟨⟨⟨⟨⟨⟨h1, h2⟩, h3⟩, h4⟩, h5⟩, h6⟩, h7⟩, h8⟩, h9⟩, h10⟩ := h
  refine faultP_ok (fits_of h1 (trim_of h2) h3 h4) (by rw [mayB_t]; exact h5) (fun _ => ?_) h8 h9 (fun _ q => ?_)
  · unfold namedB
    rw [mayB_t, mayB_t, Bool.and_eq_true, Bool.or_eq_true, Bool.or_eq_true, decide_eq_true_eq]
    exact ⟨h6, h7⟩
  · rcases h10 with g | g
    · rw [q] at g; cases g
    · exact g
def stdB (o p : Ob) : Bool := kdB o.kind && underB o.kind p.kind && decide (pb o = hb p) && (p.kind != 0)
theorem std_ok {o p : Ob} (h : stdB o p = true) : standE o p = 0 := by
  unfold stdB at h
  simp only [Bool.and_eq_true, decide_eq_true_eq, bne_iff_ne] at h
  exact stand_ok h.1.1.1 h.1.1.2 (bs_eq h.1.2) (fun e => absurd e h.2)
def b3 (l : List Ob) (o : Ob) : Bool := (o.kind == 1) || (match findO l (pb o) with | none => false | some p => stdB o p)
theorem any3_ok {l : List Ob} (h : l.all (b3 l) = true) : anyR l 3 = false := by
  rw [any3', List.any_eq_false]
  intro o ho
  have q := List.all_eq_true.1 h o ho
  unfold b3 at q
  unfold brk3
  by_cases h1 : o.kind = 1
  · rw [if_pos h1]; simp
  · rw [if_neg h1]
    have h1' : (o.kind == 1) = false := by simpa using h1
    rw [h1', Bool.false_or] at q
    cases e : findO l (pb o) with
    | none => rw [e] at q; cases q
    | some p =>
      rw [e] at q
      simp only at q ⊢
      rw [std_ok q]; simp
theorem ver_val {l : List Ob} {v3 v4 v5 v6 v7 : Bool} (h1 : l.all okT = true) (h2 : twiceB l = false) (h3 : anyR l 3 = v3) (h4 : countsB l = v4) (h5 : l.any (fun o => !refR (findO l) o) = v5) (h6 : l.any (brk6 l) = v6) (h7 : l.any (brk7 l) = v7) :
    verR l = if v3 = true then (3, 50) else if v4 = true then (4, 51) else if v5 = true then (5, 90) else if v6 = true then (6, 91) else if v7 = true then (7, 92) else (0, 0) := by
  rw [verR_eq]
  unfold brokenR
  have h0 : (fltK l l.length).2 = 0 := (flt_zero l l.length (Nat.le_refl _)).2 fun o ho => okT_ok (List.all_eq_true.1 h1 o (by rwa [List.take_length] at ho))
  rw [h0, any2, h2, h3, ← any4, h4, any5', h5, any6', h6, any7', h7]
  simp
abbrev mkO (h : ByteArray) (k : Nat) (p : ByteArray) : Ob := ⟨h, k, p, 0, ⟨#[]⟩, 0, 0, 0, false, false, 0, 0, 0, 0⟩
abbrev bed0 : Ob := mkO ⟨#[100]⟩ 1 ⟨#[]⟩
abbrev bed1 : Ob := mkO ⟨#[118]⟩ 2 ⟨#[100]⟩
abbrev bed2 : Ob := mkO ⟨#[99]⟩ 3 ⟨#[118]⟩
abbrev bed3 : Ob := ⟨⟨#[109]⟩, 4, ⟨#[99]⟩, 0, ⟨#[]⟩, 0, 100, 0, false, false, 0, 0, 0, 0⟩
abbrev bed4 : Ob := mkO ⟨#[115]⟩ 5 ⟨#[100]⟩
abbrev bed5 (high : Int) : Ob := ⟨⟨#[108]⟩, 8, ⟨#[115]⟩, 0, ⟨#[109]⟩, 0, 0, 0, false, false, 0, 1, high, 0⟩
abbrev bed6 : Ob := ⟨⟨#[120]⟩, 9, ⟨#[100]⟩, 1, ⟨#[]⟩, 0, 0, 0, false, false, 0, 0, 0, 2⟩
abbrev bed7 (assoc : Nat) : Ob := ⟨⟨#[121]⟩, 9, ⟨#[100]⟩, 1, ⟨#[]⟩, 0, 0, 0, false, false, 0, 0, 0, assoc⟩
abbrev bedL (high : Int) (assoc : Nat) : List Ob := [bed0, bed1, bed2, bed3, bed4, bed5 high, bed6, bed7 assoc]
abbrev fiveL : List Ob := [mkO ⟨#[97]⟩ 1 ⟨#[]⟩, mkO ⟨#[98]⟩ 1 ⟨#[]⟩, mkO ⟨#[99]⟩ 1 ⟨#[]⟩, mkO ⟨#[100]⟩ 1 ⟨#[]⟩, mkO ⟨#[101]⟩ 1 ⟨#[]⟩]
theorem ver_bed : verR (bedL 100 1) = (0, 0) := (ver_val (l := (bedL 100 1)) (v3 := false) (v4 := false) (v5 := false) (v6 := false) (v7 := false) (by decide +kernel) (by decide +kernel) (any3_ok (by decide +kernel)) (by decide +kernel) (by decide +kernel) (by decide +kernel) (by decide +kernel)).trans rfl
theorem ver_one : verR [bed0] = (0, 0) := (ver_val (l := [bed0]) (v3 := false) (v4 := false) (v5 := false) (v6 := false) (v7 := false) (by decide +kernel) (by decide +kernel) (any3_ok (by decide +kernel)) (by decide +kernel) (by decide +kernel) (by decide +kernel) (by decide +kernel)).trans rfl
theorem ver_lone : verR [bed1] = (3, 50) := (ver_val (l := [bed1]) (v3 := true) (v4 := false) (v5 := false) (v6 := false) (v7 := false) (by decide +kernel) (by decide +kernel) (by rw [any3']; rfl) rfl rfl rfl rfl).trans rfl
theorem ver_high : verR (bedL 101 1) = (6, 91) := (ver_val (l := (bedL 101 1)) (v3 := false) (v4 := false) (v5 := false) (v6 := true) (v7 := false) (by decide +kernel) (by decide +kernel) (any3_ok (by decide +kernel)) (by decide +kernel) (by decide +kernel) (by decide +kernel) (by decide +kernel)).trans rfl
theorem ver_yes : verR (bedL 100 2) = (7, 92) := (ver_val (l := (bedL 100 2)) (v3 := false) (v4 := false) (v5 := false) (v6 := false) (v7 := true) (by decide +kernel) (by decide +kernel) (any3_ok (by decide +kernel)) (by decide +kernel) (by decide +kernel) (by decide +kernel) (by decide +kernel)).trans rfl
theorem ver_five : verR fiveL = (4, 51) := (ver_val (l := fiveL) (v3 := false) (v4 := true) (v5 := false) (v6 := false) (v7 := false) (by decide +kernel) (by decide +kernel) (any3_ok (by decide +kernel)) (by decide +kernel) (by decide +kernel) (by decide +kernel) (by decide +kernel)).trans rfl
theorem ver_four : verR (fiveL.drop 1) = (0, 0) := (ver_val (l := (fiveL.drop 1)) (v3 := false) (v4 := false) (v5 := false) (v6 := false) (v7 := false) (by decide +kernel) (by decide +kernel) (any3_ok (by decide +kernel)) (by decide +kernel) (by decide +kernel) (by decide +kernel) (by decide +kernel)).trans rfl
theorem mds_bed : climbO (findO (bedL 100 1)) 8 [108] = some [100] := by decide +kernel
end Go.Proofs.YthlalmoapbdccaaDoor.WX
/-
  WALK: wf's laws' bed and awake: the chapter's examples.
-/
namespace Go.Proofs.YthlalmoapbdccaaDoor.WX
open Go.RowKit HL
open IX (ptr El cellsK cellsK_at OwnK RdK strK)
set_option maxRecDepth 100000
set_option linter.unusedVariables false
set_option linter.unusedSimpArgs false

def litB (o : Ob) : Bool := decide (o.kind ≤ 255) && decide (o.typ ≤ 255) && decide (o.digits ≤ 255) && decide (o.assoc ≤ 255) && decide (o.handle.size ≤ maxLen) && decide (o.parent.size ≤ maxLen) && decide (o.ref.size ≤ maxLen)
theorem meets_lit {l : List Ob} {W : World} (ht : Tables W ∧ Kinds W) (h : l.all litB = true) (hl : l.length ≤ 1000) : MeetsL l W := by
  refine ⟨hl, fun o ho => ?_, ht.1⟩
  have := List.all_eq_true.1 h o ho
  unfold litB at this
  simp only [Bool.and_eq_true, decide_eq_true_eq] at this
  obtain ⟨⟨⟨⟨⟨⟨a, b⟩, c⟩, d⟩, e⟩, f⟩, g⟩ := this
  exact ⟨a, b, c, d, e, f, g, ht.1.words, ht.2⟩
/-- The cells of bed's list. -/
noncomputable def bedC (high : Int) (assoc : Nat) : Array Value := (cellsK obK (bedL high assoc)).toArray
theorem rd_at {W : World} {B : Nat} {C : Array Value} {l : List Ob} (h : AtC W B C) (hC : C.toList = cellsK obK l) : RdK obK W W.heap.size (some ⟨B, 0, none⟩) l := by
  refine .inr ⟨B, 0, rfl, h.lt, fun m u hu => ?_⟩
  rw [Nat.zero_add, h.c m, ← hu, ← hC, Array.getElem?_toList]
theorem rd_off {W : World} {B : Nat} {C : Array Value} {l : List Ob} (h : AtC W B C) (p : Nat) (hC : ∀ m u, (cellsK obK l)[m]? = some u → C[p + m]? = some u) : RdK obK W W.heap.size (some ⟨B, p, none⟩) l := by
  refine .inr ⟨B, p, rfl, h.lt, fun m u hu => ?_⟩
  rw [h.c (p + m)]
  exact hC m u hu
theorem bedC_list (high : Int) (assoc : Nat) : (bedC high assoc).toList = cellsK obK (bedL high assoc) := by unfold bedC; rfl
set_option maxHeartbeats 8000000 in
theorem bed_any (w : World) : Calls Tryd.prog 28 #[] w fun e w' => ∃ B, e = .returned (.slice (some ⟨B, 0, none⟩) 8 8) ∧ w.heap.size ≤ B ∧ AtC w' B (bedC 100 1) ∧ Below w.heap.size w w' := by
  have h0 : Below w.heap.size w w := Below.refl _ _
  go_enter Tryd.func28, Tryd.ntmps28
  go_wp2
  go_ret
  exact ⟨_, rfl, Nat.le_refl _, AtC.new _ _ _, bAl h0 _⟩
theorem bed_high : (bedC 100 1).setIfInBounds 82 (.int .i64 101) = bedC 101 1 := by
  apply Array.ext'
  rfl
theorem bed_yes : (bedC 100 1).setIfInBounds 111 (.int .u8 2) = bedC 100 2 := by
  apply Array.ext'
  rfl
theorem bed_82 : (bedC 100 1)[82]? = some (.int .i64 100) := rfl
theorem bed_111 : (bedC 100 1)[111]? = some (.int .u8 1) := rfl
end Go.Proofs.YthlalmoapbdccaaDoor.WX
/-
  WALK: wf's laws' awake: the chapter's examples.
-/
namespace Go.Proofs.YthlalmoapbdccaaDoor.WX
open Go.RowKit HL
open IX (ptr El cellsK cellsK_at OwnK RdK strK)
set_option maxRecDepth 100000
set_option linter.unusedVariables false
set_option linter.unusedSimpArgs false

theorem chk_lit {W : World} (ht : Tables W ∧ Kinds W) {A : Option Addr} {l : List Ob} {n c : Nat} {r : Nat} {e : Int} (hn : l.length = n) (hv : verR l = (r, e)) (hl : l.all litB = true) (h8 : n ≤ 1000) (h : RdK obK W W.heap.size A l) :
    Calls Tryd.prog 11 #[.slice A n c] W fun x w' => x = .returned (.int .i64 e) ∧ Below W.heap.size W w' := by
  subst hn
  have := check_any l c W h (meets_lit ht hl h8)
  rwa [hv] at this
theorem rul_lit {W : World} (ht : Tables W ∧ Kinds W) {A : Option Addr} {l : List Ob} {n c : Nat} {r : Nat} {e : Int} (hn : l.length = n) (hv : verR l = (r, e)) (hl : l.all litB = true) (h8 : n ≤ 1000) (h : RdK obK W W.heap.size A l) :
    Calls Tryd.prog 12 #[.slice A n c] W fun x w' => x = .returned (.int .i64 r) ∧ Below W.heap.size W w' := by
  subst hn
  have := ruleN_any l c W h (meets_lit ht hl h8)
  rwa [hv] at this
theorem wel_lit {W : World} (ht : Tables W ∧ Kinds W) {A : Option Addr} {l : List Ob} {n c : Nat} (hn : l.length = n) (hv : verR l = (0, 0)) (hl : l.all litB = true) (h8 : n ≤ 1000) (h : RdK obK W W.heap.size A l) :
    Calls Tryd.prog 13 #[.slice A n c] W fun x w' => x = .returned (.bool true) ∧ Below W.heap.size W w' := by
  subst hn
  have := well_any l c W h (meets_lit ht hl h8)
  rwa [hv] at this
theorem rd_drop {w : World} {B b o : Nat} {l : List Ob} (h : RdK obK w B (some ⟨b, o, none⟩) l) (p : Nat) : RdK obK w B (some ⟨b, o + p * 14, none⟩) (l.drop p) := by
  rcases h with h | ⟨b', off, e, hb, hc⟩
  · exact .inl (by rw [h, List.drop_nil])
  · injection e with e
    injection e with e1 e2
    subst e1 e2
    refine .inr ⟨b, _, rfl, hb, fun m u hu => ?_⟩
    rw [← IX.cellsK_drop, List.getElem?_drop] at hu
    rw [Nat.add_assoc]
    exact hc _ u hu
theorem lit_bed : (bedL 100 1).all litB = true := by decide +kernel
theorem lit_high : (bedL 101 1).all litB = true := by decide +kernel
theorem lit_yes : (bedL 100 2).all litB = true := by decide +kernel
theorem lit_five : fiveL.all litB = true := by decide +kernel
theorem lit_four : (fiveL.drop 1).all litB = true := by decide +kernel
theorem lit_0 : [bed0].all litB = true := by decide +kernel
theorem lit_1 : [bed1].all litB = true := by decide +kernel
/-- What stands in bed's block, from place p on. -/
theorem bed_off {W : World} {B : Nat} {high : Int} {assoc : Nat} (h : AtC W B (bedC high assoc)) : RdK obK W W.heap.size (some ⟨B, 0, none⟩) (bedL high assoc) ∧ RdK obK W W.heap.size (some ⟨B, 0, none⟩) [bed0] ∧ RdK obK W W.heap.size (some ⟨B, 14, none⟩) [bed1] := by
  have r := rd_at h (bedC_list high assoc)
  refine ⟨r, rd_take (l := bedL high assoc) r 1, rd_off h 14 fun m u hu => ?_⟩
  have e : (bedC high assoc)[14 + m]? = (cellsK obK (bedL high assoc))[14 + m]? := by rw [← bedC_list, Array.getElem?_toList]
  rw [e, show cellsK obK (bedL high assoc) = cellsK obK [bed0] ++ (cellsK obK [bed1] ++ cellsK obK ((bedL high assoc).drop 2)) from rfl, List.getElem?_append_right (by rw [IX.cellsK_len]; show 1 * 14 ≤ _; omega), IX.cellsK_len]
  show (cellsK obK [bed1] ++ _)[14 + m - 1 * 14]? = _
  rw [show 14 + m - 1 * 14 = m by omega, List.getElem?_append_left (List.getElem?_eq_some_iff.1 hu).1]
  exact hu
set_option maxHeartbeats 32000000 in
theorem awake9_any (w : World) (ht : Tables w ∧ Kinds w) : Calls Tryd.prog 17 #[] w fun e w' => e = .returned (.bool true) ∧ Below w.heap.size w w' := by
  have h0 : Below w.heap.size w w := Below.refl _ _
  have HT := Lib.hid (fun W (k : Below w.heap.size w W) => tabs_then ht k)
  have CM := Lib.hid (fun W B (h : AtC W B (bedC 100 1)) => show Calls Tryd.prog 21 #[.slice (some ⟨B, 0, none⟩) 8 8, .string ⟨#[108]⟩] W fun e w' => e = .returned (.tuple #[.string ⟨#[100]⟩, .bool true]) ∧ Below W.heap.size W w' from by
    have := mds_any (A := some ⟨B, 0, none⟩) (bedL 100 1) 8 ⟨#[108]⟩ W (bed_off h).1 (by decide)
    rw [show (⟨#[108]⟩ : ByteArray).data.toList = [108] from rfl, mds_bed] at this
    exact this)
  have s1 : ∀ B W, (Instr.slice 22 (.slice (some ⟨B, 0, none⟩) 8 8) none (some (.int .i64 1)) none).run Tryd.prog W = .ok (.slice (some ⟨B, 0, none⟩) 1 8) W := fun B W => IX.slice_toK obK (p := 1) (by omega) (by omega) W
  have s2 : ∀ B W, (Instr.slice 22 (.slice (some ⟨B, 0, none⟩) 8 8) (some (.int .i64 1)) (some (.int .i64 2)) none).run Tryd.prog W = .ok (.slice (some ⟨B, 14, none⟩) 1 7) W := fun B W => by
    exact (run_slice_lh W obK.T (some ⟨B, 0, none⟩) 8 8 (IX.under_K obK) .i64 .i64 1 2 (by decide) (by decide) (by decide)).trans (by rw [obK.el, IX.size_K]; rfl)
  have s3 : ∀ B W, (Instr.slice 22 (.slice (some ⟨B, 0, none⟩) 5 5) (some (.int .i64 1)) none none).run Tryd.prog W = .ok (.slice (some ⟨B, 14, none⟩) 4 4) W := fun B W => by
    exact (run_slice_l W obK.T (some ⟨B, 0, none⟩) 5 5 (IX.under_K obK) .i64 1 (by decide) (by decide)).trans (by rw [obK.el, IX.size_K]; rfl)
  clear ht
  go_enter Tryd.func17, Tryd.ntmps17
  go_wp2_with fail
  go_at_call 28
  refine (bed_any _).mono ?_
  rintro e w1 ⟨B, rfl, hB, b1, k1⟩
  have K := Lib.hid k1
  have MB := Lib.hid b1
  clear k1 b1
  go_wp2_with fail
  go_at_call 21
  refine (CM.out _ _ MB.out).mono ?_
  rintro e w2 ⟨rfl, q⟩
  have MB := Lib.hid (MB.out.then q)
  have K := Lib.hid (bThen K.out q)
  clear q
  go_wp2_with fail
  go_at_call 11
  refine (chk_lit (HT.out _ K.out) (l := bedL 100 1) rfl ver_bed lit_bed (by decide) (bed_off MB.out).1).mono ?_
  rintro e w3 ⟨rfl, q⟩
  have MB := Lib.hid (MB.out.then q)
  have K := Lib.hid (bThen K.out q)
  clear q
  go_wp2_with fail
  go_at_call 12
  refine (rul_lit (HT.out _ K.out) (l := bedL 100 1) rfl ver_bed lit_bed (by decide) (bed_off MB.out).1).mono ?_
  rintro e w4 ⟨rfl, q⟩
  have MB := Lib.hid (MB.out.then q)
  have K := Lib.hid (bThen K.out q)
  clear q
  have t1 := s1 B
  have t2 := s2 B
  go_wp2_with fail
  go_at_call 11
  refine (chk_lit (HT.out _ K.out) (l := [bed0]) rfl ver_one lit_0 (by decide) (bed_off MB.out).2.1).mono ?_
  rintro e w5 ⟨rfl, q⟩
  have MB := Lib.hid (MB.out.then q)
  have K := Lib.hid (bThen K.out q)
  clear q
  go_wp2_with fail
  go_at_call 11
  refine (chk_lit (HT.out _ K.out) (l := [bed1]) rfl ver_lone lit_1 (by decide) (bed_off MB.out).2.2).mono ?_
  rintro e w6 ⟨rfl, q⟩
  have MB := Lib.hid (MB.out.then q)
  have K := Lib.hid (bThen K.out q)
  clear q
  go_wp2_with fail
  go_at_call 12
  refine (rul_lit (HT.out _ K.out) (l := [bed1]) rfl ver_lone lit_1 (by decide) (bed_off MB.out).2.2).mono ?_
  rintro e w7 ⟨rfl, q⟩
  have mb := MB.out.then q
  have mf := mb.f
  have ml := mb.lt
  have mc := (mb.c 82).trans bed_82
  have K := Lib.hid (bThen K.out q)
  have MB := Lib.hid mb
  clear q mb
  go_wp2_with fail
  have mb := MB.out.set (i := 82) (by decide) (.int .i64 101)
  rw [bed_high] at mb
  have MB := Lib.hid mb
  have K := Lib.hid (K.out.setCell (p := ⟨B, 82, none⟩) hB (.int .i64 101))
  clear mb mf ml mc t1 t2
  go_at_call 11
  refine (chk_lit (HT.out _ K.out) (l := bedL 101 1) rfl ver_high lit_high (by decide) (bed_off MB.out).1).mono ?_
  rintro e w8 ⟨rfl, q⟩
  have K := Lib.hid (bThen K.out q)
  clear q MB hB
  go_wp2_with fail
  go_at_call 28
  refine (bed_any _).mono ?_
  rintro e w9 ⟨B2, rfl, hB2, b9, k9⟩
  have mf := b9.f
  have ml := b9.lt
  have mc := (b9.c 111).trans bed_111
  have MB := Lib.hid b9
  have hB := Nat.le_trans K.out.size hB2
  have K := Lib.hid (bThen K.out k9)
  clear k9 b9 hB2
  go_wp2_with fail
  have mb := MB.out.set (i := 111) (by decide) (.int .u8 2)
  rw [bed_yes] at mb
  have MB := Lib.hid mb
  have K := Lib.hid (K.out.setCell (p := ⟨B2, 111, none⟩) hB (.int .u8 2))
  clear mb mf ml mc
  go_at_call 11
  refine (chk_lit (HT.out _ (bAl K.out _)) (l := bedL 100 2) rfl ver_yes lit_yes (by decide) (bed_off (MB.out.al _)).1).mono ?_
  rintro e w10 ⟨rfl, q⟩
  have R5 := Lib.hid (RdK.on (rdLit (K := obK) (l := fiveL) (g := w9.heap.size) (by simp) rfl) q)
  have K := Lib.hid (bThen (bAl K.out _) q)
  clear q MB hB
  have t3 := s3 w9.heap.size
  go_wp2_with fail
  go_at_call 11
  refine (chk_lit (HT.out _ K.out) (l := fiveL) rfl ver_five lit_five (by decide) R5.out).mono ?_
  rintro e w11 ⟨rfl, q⟩
  have R5 := Lib.hid (RdK.on R5.out q)
  have K := Lib.hid (bThen K.out q)
  clear q
  go_wp2_with fail
  go_at_call 13
  refine (wel_lit (HT.out _ K.out) (l := fiveL.drop 1) rfl ver_four lit_four (by decide) (by have := rd_drop R5.out 1; simpa using this)).mono ?_
  rintro e w12 ⟨rfl, q⟩
  have K := Lib.hid (bThen K.out q)
  clear q R5
  go_wp2_with fail
  go_ret
  exact ⟨rfl, K.out⟩
end Go.Proofs.YthlalmoapbdccaaDoor.WX
/-
  What wf's laws stand on (so that each claim merges the same texts).
-/
