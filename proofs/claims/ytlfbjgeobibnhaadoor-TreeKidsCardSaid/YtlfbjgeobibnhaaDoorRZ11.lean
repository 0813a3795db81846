/-
  WALKS: the laws' named; acts as they came in, and Long of them.
-/
import Derived.Test.YtlfbjgeobibnhaaDoorRZ10
import Derived.Test.YtlfbjgeobibnhaaDoorRZ3
import Derived.Test.YtlfbjgeobibnhaaDoorRZ0
import Derived.IntWalk
import Derived.BigQuiet
namespace Go.Proofs.YtlfbjgeobibnhaaDoor.TX
open Go.RowKit HL
open IX (ptr El cellsK cellsK_at OwnK IxAt Rw numOf mayS strK RdK keys)
set_option maxRecDepth 100000
set_option linter.unusedVariables false
set_option linter.unusedSimpArgs false

set_option maxHeartbeats 1000000 in
theorem namedL_any (A : Option Addr) (c : Nat) (l : List Ob) (w : World) (h : RdK obK w w.heap.size A l) (hn : l.length ≤ 100000) :
    Calls Tryd.prog 24 #[.slice A l.length c] w fun e w' => ∃ v', e = .returned v' ∧ OwnK strK w' w.heap.size v' (hs l) ∧ Below w.heap.size w w' := by
  have HH := Lib.hid h
  clear h
  go_enter Tryd.func24, Tryd.ntmps24
  go_wp2
  go_loopw [3, 4] (fun out i wr => ∃ k : Nat, i = .int .i64 k ∧ k ≤ l.length ∧ OwnK strK wr w.heap.size out (hs (l.take k)) ∧ Below w.heap.size w wr) (fun _ i _ => l.length - (intOf i).toNat)
  case atStart => exact ⟨0, rfl, Nat.zero_le _, by simpa [hs] using OwnK.nil_ strK w w.heap.size, Below.refl _ _⟩
  case round =>
    obtain ⟨k, rfl, hk, o1, k1⟩ := hrel
    by_cases hlt : k < l.length
    · obtain ⟨b, off, rfl, hbk, hc⟩ := obs_at HH.out (by omega)
      obtain ⟨c0, _⟩ := hc k _ (List.getElem?_eq_getElem hlt)
      have c0 := (k1.cell (p := ⟨b, off + k * 14, none⟩) hbk).trans c0
      have i1 : (k : Int) < l.length := by omega
      have HT : Hid (hs (l.take (k + 1)) = hs (l.take k) ++ [hb l[k]]) := Lib.hid (by unfold hs; rw [List.take_succ_eq_append_getElem hlt, List.map_append]; rfl)
      have hlen : (hs (l.take k)).length ≤ 100000 := by simp [hs]; omega
      have RQ : Hid (RdK strK (wr.alloc (.cells #[.string (l[k]).handle] 9)) (wr.heap.size + 1) (some ⟨wr.heap.size, 0, none⟩) [hb l[k]]) := Lib.hid (RdK.lit (K := strK) wr (hb l[k]) #[.string (l[k]).handle] rfl 9)
      have O1 := Lib.hid (o1.below (bAl (Below.refl _ wr) (.cells #[.string (l[k]).handle] 9)))
      have K1 := Lib.hid k1
      have OL := Lib.hid o1
      clear o1 k1 hc
      generalize l[k] = o at *
      have hz := K1.out.size
      go_wp2_with (at_builtin; refine IX.wpList_spreadK strK rfl (.tmp 11) (.tmp 17) rfl w.heap.size _ (hs (l.take k)) rfl O1.out (wr.heap.size + 1) (some ⟨wr.heap.size, 0, none⟩) 1 1 [hb o] rfl rfl RQ.out ?c1 ?c2 ?_)
      case c1 => show (hs (l.take k)).length + 1 ≤ 1000000; omega
      case c2 => show w.heap.size ≤ (wr.alloc _).heap.size; simp; omega
      intro v' w5 o5 g5 f5
      have b5 : Below w.heap.size w w5 := (bAl K1.out (.cells #[.string o.handle] 9)).grown g5 (by simp; omega) (fun k hk => (OL.out.lt k hk).1)
      go_wp2
      go_roundw
      case rel => exact ⟨k + 1, by go_num, by omega, by rw [HT.out]; exact o5, b5⟩
      case measure => simp [intOf]; omega
    · obtain rfl : k = l.length := by omega
      have i1 : ¬ (l.length : Int) < l.length := by omega
      have HR : Hid (hs (l.take l.length) = hs l) := Lib.hid (by rw [List.take_length])
      have O1 := Lib.hid o1
      clear o1
      go_wp2
      go_ret
      exact ⟨_, rfl, by rw [← HR.out]; exact O1.out, k1⟩
/-! ## Acts -/
/-- What is done: a kind (adding, setting, taking away) and an object. -/
structure Act8 where
  kind : Nat
  o : Ob
noncomputable def actK : El Act8 where
  T := 46
  e := 58
  size := 15
  bytes := (IX.infoOf 58).bytes
  z := .agg (#[.int .u8 0] ++ obCells zeroOb)
  i := IX.infoOf 58
  enc := fun a => .int .u8 a.kind :: (obCells a.o).toList
  el := by kernel_rfl
  ht := Tryd.underlying46
  hi := by kernel_rfl
  hz := by kernel_rfl
  hs := by kernel_rfl
  hb := rfl
  hzs := rfl
  pos := by decide
  len := fun _ => rfl
  one := fun _ u hu => by simp at hu; rcases hu with rfl | rfl | rfl | rfl | rfl | rfl | rfl | rfl | rfl | rfl | rfl | rfl | rfl | rfl | rfl <;> rfl
  small := of_decide_eq_true (by kernel_rfl)
theorem acts_at {w : World} {B : Nat} {A : Option Addr} {l : List Act8} (h : RdK actK w B A l) (h0 : 0 < l.length) : ∃ b off, A = some ⟨b, off, none⟩ ∧ b < B ∧ ∀ j x, l[j]? = some x → w.cell? ⟨b, off + j * 15, none⟩ = some (.int .u8 x.kind) ∧ w.cell? ⟨b, off + j * 15 + 1, none⟩ = some (.string x.o.handle) ∧ w.cell? ⟨b, off + j * 15 + 2, none⟩ = some (.int .u8 x.o.kind) ∧ w.cell? ⟨b, off + j * 15 + 3, none⟩ = some (.string x.o.parent) ∧ w.cell? ⟨b, off + j * 15 + 4, none⟩ = some (.int .u8 x.o.typ) ∧ w.cell? ⟨b, off + j * 15 + 5, none⟩ = some (.string x.o.ref) ∧ w.cell? ⟨b, off + j * 15 + 6, none⟩ = some (.int .i64 x.o.lo) ∧ w.cell? ⟨b, off + j * 15 + 7, none⟩ = some (.int .i64 x.o.hi) ∧ w.cell? ⟨b, off + j * 15 + 8, none⟩ = some (.int .u8 x.o.digits) ∧ w.cell? ⟨b, off + j * 15 + 9, none⟩ = some (.bool x.o.on) ∧ w.cell? ⟨b, off + j * 15 + 10, none⟩ = some (.bool x.o.has) ∧ w.cell? ⟨b, off + j * 15 + 11, none⟩ = some (.int .i64 x.o.value) ∧ w.cell? ⟨b, off + j * 15 + 12, none⟩ = some (.int .i64 x.o.low) ∧ w.cell? ⟨b, off + j * 15 + 13, none⟩ = some (.int .i64 x.o.high) ∧ w.cell? ⟨b, off + j * 15 + 14, none⟩ = some (.int .u8 x.o.assoc) := by
  rcases h with rfl | ⟨b, off, e, hb, hc⟩
  · simp at h0
  · refine ⟨b, off, e, hb, fun j x hx => ?_⟩
    have q : ∀ (i : Nat) (u : Value), (actK.enc x)[i]? = some u → w.cell? ⟨b, off + j * 15 + i, none⟩ = some u := fun i u hu => by
      have := hc _ _ (cellsK_at actK hx (i := i) (u := u) hu)
      rw [Nat.add_assoc]; exact this
    exact ⟨q 0 _ rfl, q 1 _ rfl, q 2 _ rfl, q 3 _ rfl, q 4 _ rfl, q 5 _ rfl, q 6 _ rfl, q 7 _ rfl, q 8 _ rfl, q 9 _ rfl, q 10 _ rfl, q 11 _ rfl, q 12 _ rfl, q 13 _ rfl, q 14 _ rfl⟩
def longA (l : List Act8) : Bool := decide (150 < l.length) || l.any fun x => longB x.o
theorem longA_out {l : List Act8} (h : longA l = false) : l.length ≤ 150 ∧ ∀ x ∈ l, longB x.o = false := by
  simp only [longA, Bool.or_eq_false_iff, decide_eq_false_iff_not, List.any_eq_false] at h
  exact ⟨by omega, fun x hx => by simpa using h.2 x hx⟩
theorem longA_t1 {l : List Act8} (h : 150 < l.length) : longA l = true := by simp [longA, h]
theorem longA_t2 {l : List Act8} {k : Nat} (hk : k < l.length) (h : longB l[k].o = true) : longA l = true := by
  simp only [longA, Bool.or_eq_true, List.any_eq_true]
  exact .inr ⟨_, List.getElem_mem hk, h⟩
theorem longA_f {l : List Act8} (h0 : ¬ 150 < l.length) (h : ∀ x ∈ l, longB x.o = false) : longA l = false := by
  simp only [longA, Bool.or_eq_false_iff, decide_eq_false_iff_not, List.any_eq_false]
  exact ⟨h0, fun x hx => by simp [h x hx]⟩
set_option maxHeartbeats 2000000 in
theorem longA_any (A : Option Addr) (c : Nat) (l : List Act8) (w : World) (h : RdK actK w w.heap.size A l) (hn : l.length ≤ maxLen) :
    Calls Tryd.prog 22 #[.slice A l.length c] w fun e w' => e = .returned (.bool (longA l)) ∧ Below w.heap.size w w' := by
  unfold maxLen at hn
  by_cases h0 : 150 < l.length
  · have HV := Lib.hid (longA_t1 h0)
    have i0 : (150 : Int) < l.length := by omega
    clear h
    go_enter Tryd.func22, Tryd.ntmps22
    go_wp2
    go_ret
    exact ⟨by rw [HV.out]; rfl, Below.refl _ _⟩
  · have i0 : ¬ (150 : Int) < l.length := by omega
    have H0 := Lib.hid h0
    have HH := Lib.hid h
    clear h h0
    go_enter Tryd.func22, Tryd.ntmps22
    go_wp2
    go_loopw [3] (fun i wr => ∃ k : Nat, i = .int .i64 k ∧ k ≤ l.length ∧ (∀ x ∈ l.take k, longB x.o = false) ∧ Below w.heap.size w wr) (fun i _ => l.length - (intOf i).toNat)
    case atStart => exact ⟨0, rfl, Nat.zero_le _, by simp, Below.refl _ _⟩
    case round =>
      obtain ⟨k, rfl, hk, hm, k1⟩ := hrel
      have HM := Lib.hid hm
      clear hm
      by_cases hlt : k < l.length
      · obtain ⟨b, off, rfl, hbk, hc⟩ := acts_at (HH.out.below k1) (by omega)
        obtain ⟨_, c0, c1, c2, c3, c4, c5, c6, c7, c8, c9, c10, c11, c12, c13⟩ := hc k _ (List.getElem?_eq_getElem hlt)
        have i1 : (k : Int) < l.length := by omega
        have CL := Lib.hid (long_any l[k].o wr)
        have HS : Hid (∀ (q : longB l[k].o = false), ∀ x ∈ l.take (k + 1), longB x.o = false) := Lib.hid (fun q x hx => by
          rw [List.take_succ_eq_append_getElem hlt] at hx
          rcases List.mem_append.1 hx with h | h
          · exact HM.out x h
          · obtain rfl : x = l[k] := by simpa using h
            exact q)
        have HT : Hid (longB l[k].o = true → longA l = true) := Lib.hid (longA_t2 hlt)
        clear hc
        generalize l[k].o = o at *
        cases hl : longB o with
        | true =>
          rw [hl] at CL
          have HV := Lib.hid (HT.out hl)
          clear hl
          go_wp2_with (go_at_call 8; ((with_reducible refine CL.out.mono ?_); rintro e w3 ⟨rfl, k3⟩))
          go_ret
          exact ⟨by rw [HV.out]; rfl, bThen k1 k3⟩
        | false =>
          rw [hl] at CL
          have HV := Lib.hid (HS.out hl)
          clear hl
          go_wp2_with (go_at_call 8; ((with_reducible refine CL.out.mono ?_); rintro e w3 ⟨rfl, k3⟩))
          go_roundw
          case rel => exact ⟨k + 1, by go_num, by omega, HV.out, bThen k1 k3⟩
          case measure => simp [intOf]; omega
      · obtain rfl : k = l.length := by omega
        have i1 : ¬ (l.length : Int) < l.length := by omega
        have HR : Hid (longA l = false) := Lib.hid (longA_f H0.out (by have := HM.out; rwa [List.take_length] at this))
        go_wp2
        go_ret
        exact ⟨by rw [HR.out]; rfl, k1⟩
end Go.Proofs.YtlfbjgeobibnhaaDoor.TX
/-
  PLAIN: the tree of the laws' awake.
-/
namespace Go.Proofs.YtlfbjgeobibnhaaDoor.TX
open Go.RowKit HL
open IX (Rw keys Up mayS)
set_option maxRecDepth 100000
set_option linter.unusedVariables false
set_option linter.unusedSimpArgs false
def mayC (s : ByteArray) : Bool :=
  decide (1 ≤ s.size) && decide (s.size ≤ 16) && ltrI (bt s 0) && (List.range s.size).all (fun k => latI (bt s k)) && (List.range s.size).all (fun k => decide (k + 1 < s.size → ¬ (bt s k = 46 ∧ bt s (k + 1) = 46))) && decide (bt s (s.size - 1) ≠ 46)
theorem mayB_c (s : ByteArray) : HL.mayB s = mayC s := by
  rw [Bool.eq_iff_iff, HL.mayB_iff]
  unfold mayC MayP
  simp only [Bool.and_eq_true, decide_eq_true_eq, List.all_eq_true, List.mem_range]
  constructor
  · rintro ⟨a, b, c, d, e, f⟩
    exact ⟨⟨⟨⟨⟨a, b⟩, c⟩, d⟩, fun k _ => e k⟩, f⟩
  · rintro ⟨⟨⟨⟨⟨a, b⟩, c⟩, d⟩, e⟩, f⟩
    exact ⟨a, b, c, d, fun k hk => e k (by omega) hk, f⟩
theorem lits_rd {α : Type} {K : IX.El α} (w : World) (l : List α) (C : Array Value) (hC : C.toList = IX.cellsK K l) (T : TypeId) : IX.RdK K (w.alloc (.cells C T)) (w.heap.size + 1) (some ⟨w.heap.size, 0, none⟩) l := by
  refine .inr ⟨w.heap.size, 0, rfl, by omega, fun m u hu => ?_⟩
  rw [World.cell?_alloc_at _ _ _ _ rfl, Nat.zero_add, ← Array.getElem?_toList, hC]
  exact hu
abbrev named2 (h p : Array UInt8) : Ob := ⟨⟨h⟩, 0, ⟨p⟩, 0, ⟨#[]⟩, 0, 0, 0, false, false, 0, 0, 0, 0⟩
abbrev oc : Ob := named2 #[99] #[118]
abbrev ov : Ob := named2 #[118] #[100]
abbrev od : Ob := named2 #[100] #[]
abbrev oa : Ob := named2 #[97] #[100]
abbrev s1 : Sl := [some oc, none, none, none, none, none, none, none, none]
abbrev s2 : Sl := [some oc, some ov, none, none, none, none, none, none, none]
abbrev s3 : Sl := [some oc, some ov, some od, none, none, none, none, none, none]
abbrev s4 : Sl := [some oc, some ov, some od, some oa, none, none, none, none, none]
theorem may_c : mayS [99] = true := by unfold mayS; rw [mayB_c]; decide
theorem may_v : mayS [118] = true := by unfold mayS; rw [mayB_c]; decide
theorem may_d : mayS [100] = true := by unfold mayS; rw [mayB_c]; decide
theorem may_a : mayS [97] = true := by unfold mayS; rw [mayB_c]; decide
theorem add_yes {s : Sl} {o : Ob} (h1 : mayS (hb o) = true) (h2 : there s (hb o) = false) (h3 : freeIx (tkOf s) < s.length) : addE s o = 0 ∧ addS s o = s.set (freeIx (tkOf s)) (some o) := by
  have h := addE_0.2 ⟨h1, h2, h3⟩
  exact ⟨h, by unfold addS; rw [if_pos h]⟩
theorem add_1 : addE (freeS 9) oc = 0 ∧ addS (freeS 9) oc = s1 := add_yes (s := freeS 9) (o := oc) may_c (by decide) (by decide)
theorem add_2 : addE s1 ov = 0 ∧ addS s1 ov = s2 := add_yes (s := s1) (o := ov) may_v (by decide) (by decide)
theorem add_3 : addE s2 od = 0 ∧ addS s2 od = s3 := add_yes (s := s2) (o := od) may_d (by decide) (by decide)
theorem add_4 : addE s3 oa = 0 ∧ addS s3 oa = s4 := add_yes (s := s3) (o := oa) may_a (by decide) (by decide)
theorem add_5 : addE s4 od = 71 ∧ addS s4 od = s4 := by
  have h : addE s4 od = 71 := by
    unfold addE
    rw [if_pos (show mayS (hb od) = true from may_d), if_pos (by decide)]
  exact ⟨h, by unfold addS; rw [h]; rfl⟩
theorem names_4 : names s4 = [[97], [99], [100], [118]] := (sortU_eq (by decide) (fun x => by
  show x ∈ _ ↔ x ∈ [[99], [118], [100], [97]]
  simp only [List.mem_cons, List.not_mem_nil, or_false]
  constructor <;> (rintro (h | h | h | h) <;> simp [h]))).symm
theorem rows_4 : rowsOf s4 none = [([97], 3), ([99], 0), ([100], 2), ([118], 1)] := by
  show rowsN s4 = _
  unfold rowsN
  rw [names_4]; rfl
theorem under_4 (p : Bs) : rowsOf s4 (some p) = [(([97], 3) : Rw), ([99], 0), ([100], 2), ([118], 1)].filter (under s4 p) := by
  rw [← rows_4]; rfl
theorem kids_d : rowsOf s4 (some [100]) = [([97], 3), ([118], 1)] := by rw [under_4]; rfl
theorem kids_v : rowsOf s4 (some [118]) = [([99], 0)] := by rw [under_4]; rfl
theorem kids_a : rowsOf s4 (some [97]) = [] := by rw [under_4]; rfl
theorem kids_c : rowsOf s4 (some [99]) = [] := by rw [under_4]; rfl
theorem below_c (n : Nat) : below s4 (n + 1) [99] = [oc] := by show obAt s4 [99] :: _ = _; rw [kids_c]; rfl
theorem below_a (n : Nat) : below s4 (n + 1) [97] = [oa] := by show obAt s4 [97] :: _ = _; rw [kids_a]; rfl
theorem below_v (n : Nat) : below s4 (n + 2) [118] = [ov, oc] := by
  show obAt s4 [118] :: _ = _
  rw [kids_v, List.flatMap_cons, List.flatMap_nil, below_c]; rfl
theorem below_d (n : Nat) : below s4 (n + 3) [100] = [od, oa, ov, oc] := by
  show obAt s4 [100] :: _ = _
  rw [kids_d, List.flatMap_cons, List.flatMap_cons, List.flatMap_nil, below_a, below_v]; rfl
theorem walk_4 : walkL s4 = [od, oa, ov, oc] := by
  unfold walkL
  rw [rows_4, List.flatMap_cons, List.flatMap_cons, List.flatMap_cons, List.flatMap_cons, List.flatMap_nil]
  have h1 : topR s4 ([97], 3) = [] := if_pos (by decide)
  have h2 : topR s4 ([99], 0) = [] := if_pos (by decide)
  have h3 : topR s4 ([100], 2) = below s4 65 [100] := if_neg (by decide)
  have h4 : topR s4 ([118], 1) = [] := if_pos (by decide)
  rw [h1, h2, h3, h4, below_d 62]; rfl
theorem above_4 : above s4 [99] = [[118], [100]] := by
  unfold above
  rfl
theorem obs_4 : hs (obsR s4 (rowsOf s4 none)) = [[97], [99], [100], [118]] := by rw [rows_4]; rfl
theorem keys_d : keys (rowsOf s4 (some [100])) = [[97], [118]] := by rw [kids_d]; rfl
end Go.Proofs.YtlfbjgeobibnhaaDoor.TX
/-
  WALKS: Has, within, Long, Rising (the program's and the document's).
-/
namespace Go.Proofs.YtlfbjgeobibnhaaDoor.HL
open Go.RowKit
set_option maxRecDepth 100000
set_option linter.unusedVariables false
set_option linter.unusedSimpArgs false

theorem mem_take_succ {l : List Bs} {k : Nat} (h : k < l.length) {x : Bs} (hn : x ∉ l.take k) (hk : l[k] ≠ x) : x ∉ l.take (k + 1) := by
  rw [List.take_succ_eq_append_getElem h]
  simp only [List.mem_append, List.mem_singleton, not_or]
  exact ⟨hn, fun e => hk e.symm⟩

set_option maxHeartbeats 400000 in
theorem has_any (A : Option Addr) (c : Nat) (l : List Bs) (x : Bs) (B : Nat) (w : World) (h : Strs w B A l) (hn : l.length ≤ maxLen) :
    Calls Tryd.prog 26 #[.slice A l.length c, str x] w fun e w' => e = .returned (.bool (decide (x ∈ l))) ∧ w = w' := by
  unfold maxLen at hn
  go_enter Tryd.func26, Tryd.ntmps26
  go_wp2
  go_loop [5] (fun i => ∃ k : Nat, i = .int .i64 k ∧ k ≤ l.length ∧ x ∉ l.take k) (fun i => l.length - (intOf i).toNat)
  case atStart => exact ⟨0, rfl, Nat.zero_le _, by simp⟩
  case round =>
    obtain ⟨k, rfl, hk, hm⟩ := hrel
    have HM := Lib.hid hm
    clear hm
    by_cases hlt : k < l.length
    · obtain ⟨b, o, rfl, _, hc⟩ := h.at_ (by omega)
      have hx := hc k _ (List.getElem?_eq_getElem hlt)
      clear hc h
      by_cases he : l[k] = x
      · have hb : (l[k] == x) = true := by simpa using he
        have HV : Hid (decide (x ∈ l) = true) := Lib.hid (decide_eq_true (by rw [← he]; exact List.getElem_mem hlt))
        clear he
        go_wp2
        go_ret
        exact ⟨by rw [HV.out]; rfl, rfl⟩
      · have hb : (l[k] == x) = false := by simpa using he
        have HR := Lib.hid (mem_take_succ hlt HM.out he)
        clear he
        go_wp2
        go_round
        case rel => exact ⟨k + 1, by go_num, by omega, HR.out⟩
        case measure => simp [intOf]; omega
    · have HV : Hid (decide (x ∈ l) = false) := Lib.hid (decide_eq_false (by have := HM.out; rwa [List.take_of_length_le (by omega)] at this))
      go_wp2
      go_ret
      exact ⟨by rw [HV.out]; rfl, rfl⟩

def subB (a b : List Bs) : Bool := a.all fun x => decide (x ∈ b)
theorem subB_f {a b : List Bs} {x : Bs} (h : x ∈ a) (hn : x ∉ b) : subB a b = false := by
  unfold subB
  rw [List.all_eq_false]
  exact ⟨x, h, by simpa using hn⟩
theorem subB_t {a b : List Bs} (h : ∀ x ∈ a, x ∈ b) : subB a b = true := by
  unfold subB
  rw [List.all_eq_true]
  exact fun x hx => decide_eq_true (h x hx)

def longB (l : List Bs) : Bool := decide (100 < l.length) || l.any fun x => decide (100 < x.length)
theorem longB_t1 {l : List Bs} (h : 100 < l.length) : longB l = true := by simp [longB, h]
theorem longB_t2 {l : List Bs} {x : Bs} (hx : x ∈ l) (h : 100 < x.length) : longB l = true := by
  unfold longB
  rw [Bool.or_eq_true]
  exact .inr (List.any_eq_true.2 ⟨x, hx, decide_eq_true h⟩)
theorem longB_f {l : List Bs} (h : ¬ 100 < l.length) (h2 : ∀ x ∈ l, ¬ 100 < x.length) : longB l = false := by
  unfold longB
  rw [Bool.or_eq_false_iff]
  exact ⟨decide_eq_false h, List.any_eq_false.2 fun x hx => by simpa using h2 x hx⟩
theorem longB_out {l : List Bs} (h : longB l = false) : l.length ≤ 100 ∧ ∀ x ∈ l, x.length ≤ 100 := by
  unfold longB at h
  rw [Bool.or_eq_false_iff] at h
  exact ⟨by have := of_decide_eq_false h.1; omega, fun x hx => by have := List.any_eq_false.1 h.2 x hx; simpa using this⟩

end Go.Proofs.YtlfbjgeobibnhaaDoor.HL
/-
  WALK: the laws' awake; a tree that the law made, beside the law's own rows.
-/
namespace Go.Proofs.YtlfbjgeobibnhaaDoor.TX
open Go.RowKit HL
open IX (ptr El cellsK cellsK_at OwnK IxAt Rw numOf mayS strK RdK keys)
set_option maxRecDepth 100000
set_option linter.unusedVariables false
set_option linter.unusedSimpArgs false

/-- A tree that was made since w. -/
structure TH (w W : World) (L : Lay) (s : Sl) (n : Nat) : Prop where
  t : Tree W w.heap.size L s
  b : Below w.heap.size w W
  n : L.n ≤ n
section
variable {w W W' : World} {L L' : Lay} {s s' : Sl} {n : Nat}
theorem TH.then (h : TH w W L s n) (k : Below W.heap.size W W') : TH w W' L s n := ⟨h.t.then k, bThen h.b k, h.n⟩
theorem TH.step (h : TH w W L s n) (t : Tree W' w.heap.size L' s') (k : Step W W' 2 L L') : TH w W' L' s' (n + 2) :=
  ⟨t, h.b.trans (k.grown h.t.t (Nat.le_refl _) h.b.size), by have := k.n; have := h.n; omega⟩
theorem TH.new (h : TH w W L s n) {B : Nat} (hB : W.heap.size ≤ B) : L.g B = .other := by
  cases q : L.g B with
  | other => rfl
  | _ => have := (h.t.t.lt B (by rw [q]; simp)).2; omega
theorem Step.other (k : Step W W' 2 L L') {B : Nat} (hB : B < W.heap.size) (h : L.g B = .other) : L'.g B = .other := by
  cases q : L'.g B with
  | other => rfl
  | _ =>
    rcases k.g B (by rw [q]; simp) with e | e
    · exact absurd h e
    · omega
end
/-- Same of two equal rows. -/
theorem sameT_yes (A1 A2 : Option Addr) (c1 c2 m : Nat) (xs : List Bs) (w : World) (h1 : RdK strK w w.heap.size A1 xs) (h2 : RdK strK w w.heap.size A2 xs) (hm : xs.length = m) (hn : m ≤ 1000000) :
    Calls Tryd.prog 48 #[.slice A1 m c1, .slice A2 m c2] w fun e w' => e = .returned (.bool true) ∧ Below w.heap.size w w' := by
  subst hm
  refine (same_any A1 A2 c1 c2 xs xs w w.heap.size h1.strs h2.strs (by unfold maxLen; omega) (by unfold maxLen; omega)).mono ?_
  rintro e w' ⟨rfl, hd⟩
  exact ⟨by rw [sameB_t rfl], hd.below _⟩
theorem own_rd {α : Type} {K : El α} {w : World} {base n c : Nat} {A : Option Addr} {l : List α} (h : OwnK K w base (.slice A n c) l) : RdK K w w.heap.size A l := by
  obtain ⟨A', c', e, r, _⟩ := OwnK.form h
  cases e; exact r
def seqS (k : Nat) : Sl := [freeS 9, s1, s2, s3, s4].getD k s4
abbrev four : List Ob := [oc, ov, od, oa]
theorem len_4 : (obsR s4 (rowsOf s4 none)).length = 4 := by rw [rows_4]; rfl
theorem seq_add : ∀ k, (hk : k < 4) → addE (seqS k) (four.getD k zeroOb) = 0 ∧ addS (seqS k) (four.getD k zeroOb) = seqS (k + 1)
  | 0, _ => add_1
  | 1, _ => add_2
  | 2, _ => add_3
  | 3, _ => add_4
  | _ + 4, h => by omega
theorem four_sz : ∀ k, k < 4 → (four.getD k zeroOb).handle.size ≤ maxLen ∧ (pb (four.getD k zeroOb)).length ≤ 100
  | 0, _ => by unfold maxLen; decide
  | 1, _ => by unfold maxLen; decide
  | 2, _ => by unfold maxLen; decide
  | 3, _ => by unfold maxLen; decide
  | _ + 4, h => by omega
theorem four_at : ∀ k, k < 4 → four[k]? = some (four.getD k zeroOb)
  | 0, _ => rfl
  | 1, _ => rfl
  | 2, _ => rfl
  | 3, _ => rfl
  | _ + 4, h => by omega
theorem od_at {w : World} {B : Nat} (h : RdK obK w w.heap.size (some ⟨B, 0, none⟩) four) : w.cell? ⟨B, 28, none⟩ = some (.string ⟨#[100]⟩) ∧ w.cell? ⟨B, 29, none⟩ = some (.int .u8 0) ∧ w.cell? ⟨B, 30, none⟩ = some (.string ⟨#[]⟩) ∧ w.cell? ⟨B, 31, none⟩ = some (.int .u8 0) ∧ w.cell? ⟨B, 32, none⟩ = some (.string ⟨#[]⟩) ∧ w.cell? ⟨B, 33, none⟩ = some (.int .i64 0) ∧ w.cell? ⟨B, 34, none⟩ = some (.int .i64 0) ∧ w.cell? ⟨B, 35, none⟩ = some (.int .u8 0) ∧ w.cell? ⟨B, 36, none⟩ = some (.bool false) ∧ w.cell? ⟨B, 37, none⟩ = some (.bool false) ∧ w.cell? ⟨B, 38, none⟩ = some (.int .i64 0) ∧ w.cell? ⟨B, 39, none⟩ = some (.int .i64 0) ∧ w.cell? ⟨B, 40, none⟩ = some (.int .i64 0) ∧ w.cell? ⟨B, 41, none⟩ = some (.int .u8 0) := by
  obtain ⟨b, off, e, hbk, hc⟩ := obs_at h (by decide)
  cases e
  exact hc 2 od rfl
/-- A row of one's own, told as a slice. -/
theorem calls_form {α : Type} {K : El α} {f : FuncId} {args : Array Value} {W : World} {l : List α} {m : Nat} (hm : l.length = m) (h : Calls Tryd.prog f args W fun e w' => ∃ v', e = .returned v' ∧ OwnK K w' W.heap.size v' l ∧ Below W.heap.size W w') :
    Calls Tryd.prog f args W fun e w' => ∃ A c, e = .returned (.slice A m c) ∧ OwnK K w' W.heap.size (.slice A m c) l ∧ Below W.heap.size W w' :=
  h.mono fun e w' ⟨v', he, ho, hb⟩ => by
    obtain ⟨A, c, rfl, _, _, _⟩ := OwnK.form ho
    subst hm
    exact ⟨A, c, he, ho, hb⟩
set_option maxHeartbeats 8000000 in
theorem awake_any (w : World) (hW : Words w) (hK : Kinds w) : Calls Tryd.prog 21 #[] w fun e w' => e = .returned (.bool true) ∧ Below w.heap.size w w' := by
  have C0 : Hid (Calls Tryd.prog 47 #[.int .i64 9] w fun e w' => ∃ L, e = .returned (.tuple #[ptr L.T, .int .i64 0]) ∧ Tree w' w.heap.size L (freeS 9) ∧ L.n = 0 ∧ Below w.heap.size w w') := Lib.hid (TX.new_yes 9 w (by decide) (by decide))
  have CA := Lib.hid (fun W L k (hk : k < 4) (h : TH w W L (seqS k) (2 * k)) => add_any h.t h.b.size (hW.then h.b) (hK.then h.b) (four.getD k zeroOb) (four_sz k hk).1 (four_sz k hk).2 (Nat.le_trans h.n (by omega)))
  have HW := Lib.hid hW
  have HK := Lib.hid hK
  clear hW hK
  go_enter Tryd.func21, Tryd.ntmps21
  go_wp2_with (go_at_call 47; ((with_reducible refine C0.out.mono ?_); rintro e w1 ⟨L0, rfl, t1, n1, k1⟩; have T1 : Hid (TH w w1 L0 (seqS 0) 0) := Lib.hid ⟨t1, k1, by omega⟩))
  have hB0 : w.heap.size ≤ w1.heap.size := T1.out.b.size
  go_loopw [4] (fun i wr => ∃ (k : Nat) (L : Lay), i = .int .i64 k ∧ k ≤ 4 ∧ TH w wr L (seqS k) (2 * k) ∧ RdK obK wr wr.heap.size (some ⟨w1.heap.size, 0, none⟩) four ∧ L.g w1.heap.size = .other ∧ L.T = L0.T) (fun i _ => 4 - (intOf i).toNat)
  case atStart => exact ⟨0, L0, rfl, by omega, T1.out.then (bAl (Below.refl _ _) _), (lits_rd w1 four _ rfl _).more (by simp), T1.out.new (Nat.le_refl _), rfl⟩
  case round =>
    obtain ⟨k, L, rfl, hk, th, rd, ho, hT⟩ := hrel
    by_cases hlt : k < 4
    · obtain ⟨b, off, e, hbk, hc⟩ := obs_at rd (by decide)
      cases e
      obtain ⟨c0, c1, c2, c3, c4, c5, c6, c7, c8, c9, c10, c11, c12, c13⟩ := hc k _ (four_at k hlt)
      simp only [Nat.zero_add] at c0 c1 c2 c3 c4 c5 c6 c7 c8 c9 c10 c11 c12 c13
      have CP := CA.out wr L k hlt th
      rw [(seq_add k hlt).1, (seq_add k hlt).2, hT] at CP
      have CP := Lib.hid CP
      have TT := Lib.hid th
      have RD := Lib.hid rd
      have HO := Lib.hid ho
      have HTT := Lib.hid hT
      have i1 : (k : Int) < 4 := by omega
      clear hc th rd ho hT CA
      generalize four.getD k zeroOb = o at *
      go_wp2_with (go_at_call 11; ((with_reducible refine CP.out.mono ?_); rintro e w3 ⟨L3, rfl, t3, st3⟩))
      go_roundw
      case rel => exact ⟨k + 1, L3, by go_num, by omega, TT.out.step t3 st3, (RD.out.kept st3.k (Nat.le_refl _) (fun a e => by cases e; exact HO.out)).more st3.k.size, Step.other st3 hbk HO.out, st3.t.trans HTT.out⟩
      case measure => simp [intOf]; omega
    · obtain rfl : k = 4 := by omega
      have CW : Hid (∀ W, Below wr.heap.size wr W → Calls Tryd.prog 17 #[ptr L0.T] W fun e w' => ∃ A c, e = .returned (.slice A 4 c) ∧ OwnK obK w' W.heap.size (.slice A 4 c) [od, oa, ov, oc] ∧ Below W.heap.size W w') :=
        Lib.hid (fun W q => by have := walk_any (th.then q).t; rw [show seqS 4 = s4 from rfl, walk_4, hT] at this; exact calls_form rfl this)
      have CN : Hid (∀ (W : World) A c (l : List Ob), RdK obK W W.heap.size A l → l.length = 4 → Calls Tryd.prog 24 #[.slice A 4 c] W fun e w' => ∃ A' c', e = .returned (.slice A' 4 c') ∧ OwnK strK w' W.heap.size (.slice A' 4 c') (hs l) ∧ Below W.heap.size W w') :=
        Lib.hid (fun W A c l h e => by have := namedL_any A c l W h (by omega); rw [e] at this; exact calls_form (by simpa [hs] using e) this)
      have CK : Hid (∀ W, Below wr.heap.size wr W → Calls Tryd.prog 18 #[ptr L0.T, .string ⟨#[100]⟩] W fun e w' => ∃ A c, e = .returned (.slice A 2 c) ∧ OwnK strK w' W.heap.size (.slice A 2 c) [[97], [118]] ∧ Below W.heap.size W w') :=
        Lib.hid (fun W q => by have := kids_any (th.then q).t ⟨#[100]⟩ (by decide); rw [hT] at this; exact calls_form (l := [[97], [118]]) rfl (by rw [← keys_d]; exact this))
      have CB : Hid (∀ W, Below wr.heap.size wr W → Calls Tryd.prog 19 #[ptr L0.T, .string ⟨#[99]⟩] W fun e w' => ∃ A c, e = .returned (.slice A 2 c) ∧ OwnK strK w' W.heap.size (.slice A 2 c) [[118], [100]] ∧ Below W.heap.size W w') :=
        Lib.hid (fun W q => by have := above_any (th.then q).t ⟨#[99]⟩; rw [hT] at this; exact calls_form (l := [[118], [100]]) rfl (by rw [← above_4]; exact this))
      have CD : Hid (∀ W, Below wr.heap.size wr W → Calls Tryd.prog 11 #[ptr L0.T, ob od] W fun e w' => ∃ L', e = .returned (.int .i64 71) ∧ TH w w' L' s4 10 ∧ L'.T = L0.T ∧ Below w.heap.size w w') :=
        Lib.hid (fun W q => by
          have t := th.then q
          have := add_any t.t t.b.size (HW.out.then t.b) (HK.out.then t.b) od (by unfold maxLen; decide) (by decide) (Nat.le_trans t.n (by omega))
          rw [show seqS 4 = s4 from rfl, add_5.1, add_5.2, hT] at this
          refine this.mono ?_
          rintro e w' ⟨L', rfl, t', st⟩
          have t2 := TH.step (s := s4) t t' st
          exact ⟨L', rfl, t2, st.t.trans hT, t2.b⟩)
      have CL : Hid (∀ W L', TH w W L' s4 10 → L'.T = L0.T → Calls Tryd.prog 16 #[ptr L0.T] W fun e w' => ∃ A c, e = .returned (.slice A 4 c) ∧ OwnK obK w' W.heap.size (.slice A 4 c) (obsR s4 (rowsOf s4 none)) ∧ Below W.heap.size W w') :=
        Lib.hid (fun W L' t e => by have := all_any t.t; rw [e] at this; exact calls_form (by rw [rows_4]; rfl) this)
      have TT := Lib.hid th
      have RD := Lib.hid rd
      clear th rd ho hT CA
      go_wp2_with (first
        | (go_at_call 17; ((with_reducible refine (CW.out _ (Below.refl _ _)).mono ?_); rintro e w3 ⟨F1, d1, rfl, o3, k3⟩))
        | (go_at_call 24; ((with_reducible refine (CN.out _ F1 d1 _ (own_rd o3) rfl).mono ?_); rintro e w4 ⟨F2, d2, rfl, o4, k4⟩; clear o3))
        | (go_at_call 48; (refine (sameT_yes F2 (some ⟨w4.heap.size, 0, none⟩) d2 4 4 [[100], [97], [118], [99]] _ (own_rd (OwnK.below o4 (bAl (Below.refl _ _) _))) ((lits_rd w4 _ _ rfl _).more (by simp)) rfl (by decide)).mono ?_; rintro e w5 ⟨rfl, k5⟩; have K5 := bThen (bAl (bThen k3 k4) _) k5; clear o4 k4 k3 k5))
        | (go_at_call 18; ((with_reducible refine (CK.out _ K5).mono ?_); rintro e w6 ⟨F3, d3, rfl, o6, k6⟩; have K6 := bThen K5 k6; clear k6 K5))
        | (go_at_call 48; (refine (sameT_yes F3 (some ⟨w6.heap.size, 0, none⟩) d3 2 2 [[97], [118]] _ (own_rd (OwnK.below o6 (bAl (Below.refl _ _) _))) ((lits_rd w6 _ _ rfl _).more (by simp)) rfl (by decide)).mono ?_; rintro e w7 ⟨rfl, kz⟩; have K7 := bThen (bAl K6 _) kz; clear o6 kz K6))
        | (go_at_call 19; ((with_reducible refine (CB.out _ K7).mono ?_); rintro e w8 ⟨F4, d4, rfl, o8, k8⟩; have K8 := bThen K7 k8; clear k8 K7))
        | (go_at_call 48; (refine (sameT_yes F4 (some ⟨w8.heap.size, 0, none⟩) d4 2 2 [[118], [100]] _ (own_rd (OwnK.below o8 (bAl (Below.refl _ _) _))) ((lits_rd w8 _ _ rfl _).more (by simp)) rfl (by decide)).mono ?_; rintro e w9 ⟨rfl, kz⟩; have K9 := bThen (bAl K8 _) kz; clear o8 kz K8; obtain ⟨c0, c1, c2, c3, c4, c5, c6, c7, c8, c9, c10, c11, c12, c13⟩ := od_at ((RD.out.below K9).more K9.size)))
        | (go_at_call 11; (refine (CD.out _ K9).mono ?_; rintro e w10 ⟨L10, rfl, t10, e10, b10⟩; clear c0 c1 c2 c3 c4 c5 c6 c7 c8 c9 c10 c11 c12 c13))
        | (go_at_call 16; ((with_reducible refine (CL.out _ L10 t10 e10).mono ?_); rintro e w11 ⟨F5, d5, rfl, o11, k11⟩; have K11 := bThen b10 k11))
        | (go_at_call 24; ((with_reducible refine (CN.out _ F5 d5 _ (own_rd o11) len_4).mono ?_); rintro e w12 ⟨F6, d6, rfl, o12, k12⟩; have K12 := bThen K11 k12; rw [obs_4] at o12; clear o11 k12))
        | (go_at_call 48; (refine (sameT_yes F6 (some ⟨w12.heap.size, 0, none⟩) d6 4 4 [[97], [99], [100], [118]] _ (own_rd (OwnK.below o12 (bAl (Below.refl _ _) _))) ((lits_rd w12 _ _ rfl _).more (by simp)) rfl (by decide)).mono ?_; rintro e w13 ⟨rfl, kz⟩; have K13 := bThen (bAl K12 _) kz; clear o12 kz)))
      go_ret
      exact ⟨rfl, K13⟩
end Go.Proofs.YtlfbjgeobibnhaaDoor.TX
/-
  PLAIN: what was added and not taken away, as it was set last, beside the tree's slots.
-/
namespace Go.Proofs.YtlfbjgeobibnhaaDoor.TX
open Go.RowKit HL
open IX (Rw keys Up mayS)
set_option maxRecDepth 100000
set_option linter.unusedVariables false
set_option linter.unusedSimpArgs false

/-- What was added and not taken away. -/
structure Fil8 (s : Sl) (inn : List Ob) : Prop where
  nd : (hs inn).Nodup
  mem : ∀ a ∈ inn, ∃ k, In s k a
  con : ∀ k a, In s k a → a ∈ inn
section
variable {s : Sl} {inn : List Ob}
theorem Fil8.free (n : Nat) : Fil8 (freeS n) [] := ⟨by simp [hs], by simp, fun k a h => by
  unfold In freeS at h
  rw [List.getElem?_replicate] at h
  split at h <;> simp at h⟩
theorem Fil8.has (f : Fil8 s inn) {h : Bs} : there s h = true ↔ ∃ a ∈ inn, hb a = h := by
  rw [there_iff]
  constructor
  · rintro ⟨k, o, h1, h2⟩; exact ⟨o, f.con k o h1, h2⟩
  · rintro ⟨a, ha, e⟩
    obtain ⟨k, hk⟩ := f.mem a ha
    exact ⟨k, a, hk, e⟩
theorem Fil8.at_ (f : Fil8 s inn) (wf : Wf s) {a : Ob} (ha : a ∈ inn) : there s (hb a) = true ∧ obAt s (hb a) = a ∧ In s (slotN s (hb a)) a := by
  obtain ⟨k, hk⟩ := f.mem a ha
  obtain ⟨h1, h2, h3⟩ := slotN_in wf hk
  exact ⟨h1, h3, by rw [h2]; exact hk⟩
theorem Fil8.uniq (f : Fil8 s inn) {a b : Ob} (ha : a ∈ inn) (hb' : b ∈ inn) (e : hb a = hb b) : a = b := by
  obtain ⟨i, hi, rfl⟩ := List.getElem_of_mem ha
  obtain ⟨j, hj, rfl⟩ := List.getElem_of_mem hb'
  have : i = j := by
    have hi' : i < (hs inn).length := by simpa [hs] using hi
    have hj' : j < (hs inn).length := by simpa [hs] using hj
    exact (List.getElem_inj (xs := hs inn) (h₀ := hi') (h₁ := hj') f.nd).1 (by simpa [hs] using e)
  subst this; rfl
theorem mem_hs {l : List Ob} {h : Bs} : h ∈ hs l ↔ ∃ a ∈ l, hb a = h := List.mem_map
theorem asc_nodup {l : List Bs} (h : Asc l) : l.Nodup := h.imp fun h e => by rw [e] at h; exact List.lt_irrefl _ h
theorem Fil8.len (f : Fil8 s inn) : inn.length = (names s).length := by
  have h1 : (hs inn).length ≤ (names s).length := nodup_len _ _ f.nd fun x hx => by
    obtain ⟨a, ha, e⟩ := mem_hs.1 hx
    exact mem_names.2 (f.has.2 ⟨a, ha, e⟩)
  have h2 : (names s).length ≤ (hs inn).length := nodup_len _ _ (asc_nodup (names_asc s)) fun x hx => mem_hs.2 (f.has.1 (mem_names.1 hx))
  have e : (hs inn).length = inn.length := by simp [hs]
  omega
theorem handles_full : ∀ s : Sl, (∀ x ∈ s, x.isSome = true) → (handles s).length = s.length
  | [], _ => rfl
  | none :: s, h => by have := h none (by simp); simp at this
  | some o :: s, h => by
    have := handles_full s fun x hx => h x (by simp [hx])
    unfold handles at *
    simp only [List.filterMap_cons, Option.map_some, List.length_cons]
    omega
theorem handles_less : ∀ s : Sl, none ∈ s → (handles s).length < s.length
  | none :: s, _ => by
    have := List.length_filterMap_le (fun x : Option Ob => x.map hb) s
    unfold handles
    simp only [List.filterMap_cons, Option.map_none, List.length_cons]
    omega
  | some o :: s, h => by
    have := handles_less s (by simpa using h)
    unfold handles at *
    simp only [List.filterMap_cons, Option.map_some, List.length_cons]
    omega
theorem handles_nodup_aux : ∀ s : Sl, (∀ i j a b, In s i a → In s j b → hb a = hb b → i = j) → (handles s).Nodup
  | [], _ => by simp [handles]
  | none :: s, h => by
    have := handles_nodup_aux s fun i j a b h1 h2 e => by
      have := h (i + 1) (j + 1) a b (by unfold In at *; simpa using h1) (by unfold In at *; simpa using h2) e
      omega
    unfold handles at *
    simpa using this
  | some o :: s, h => by
    have ih := handles_nodup_aux s fun i j a b h1 h2 e => by
      have := h (i + 1) (j + 1) a b (by unfold In at *; simpa using h1) (by unfold In at *; simpa using h2) e
      omega
    have hn : hb o ∉ handles s := fun q => by
      obtain ⟨k, a, h1, h2⟩ := mem_handles.1 q
      have := h 0 (k + 1) o a (by unfold In; rfl) (by unfold In at *; simpa using h1) h2.symm
      omega
    have e : handles (some o :: s) = hb o :: handles s := by unfold handles; simp
    rw [e]
    exact List.nodup_cons.2 ⟨hn, ih⟩
theorem Fil8.room (f : Fil8 s inn) (wf : Wf s) : freeIx (tkOf s) < s.length ↔ inn.length < s.length := by
  have e : (hs inn).length = inn.length := by simp [hs]
  constructor
  · intro h
    have h1 := free_slot h
    have h2 := handles_less s (List.mem_of_getElem? h1)
    have h3 : (hs inn).length ≤ (handles s).length := nodup_len _ _ f.nd fun x hx => by
      obtain ⟨a, ha, e⟩ := mem_hs.1 hx
      obtain ⟨k, hk⟩ := f.mem a ha
      exact mem_handles.2 ⟨k, a, hk, e⟩
    omega
  · intro h
    by_cases hf : freeIx (tkOf s) < s.length
    · exact hf
    · have h1 : ∀ x ∈ s, x.isSome = true := fun x hx => by
        cases q : x.isSome with
        | true => rfl
        | false =>
          refine absurd ?_ hf
          rw [← tk_len s]
          unfold freeIx
          exact List.findIdx_lt_length_of_exists (xs := tkOf s) (p := fun b => !b) ⟨false, List.mem_map.2 ⟨x, hx, q⟩, rfl⟩
      have h2 := handles_full s h1
      have h3 : (handles s).length ≤ (hs inn).length := nodup_len _ _ (handles_nodup_aux s wf.nd) fun x hx => by
        obtain ⟨k, a, h4, h5⟩ := mem_handles.1 hx
        exact mem_hs.2 ⟨a, f.con k a h4, h5⟩
      omega
theorem Fil8.add (f : Fil8 s inn) {o : Ob} (h : addE s o = 0) : Fil8 (addS s o) (inn ++ [o]) := by
  obtain ⟨h1, h2, h3⟩ := addE_0.1 h
  have e : addS s o = s.set (freeIx (tkOf s)) (some o) := by unfold addS; rw [if_pos h]
  have hs0 := free_slot h3
  rw [e]
  refine ⟨?_, ?_, ?_⟩
  · unfold hs
    rw [List.map_append, List.nodup_append]
    refine ⟨f.nd, by simp, fun x hx y hy e => ?_⟩
    obtain ⟨a, ha, rfl⟩ := List.mem_map.1 hx
    obtain rfl : y = hb o := by simpa using hy
    have := f.has.2 ⟨a, ha, e⟩
    rw [h2] at this; cases this
  · intro a ha
    rcases List.mem_append.1 ha with q | q
    · obtain ⟨k, hk⟩ := f.mem a q
      refine ⟨k, (in_set h3).2 (.inr ⟨fun e => ?_, hk⟩)⟩
      subst e
      unfold In at hk; rw [hs0] at hk; cases hk
    · obtain rfl : a = o := by simpa using q
      exact ⟨_, (in_set h3).2 (.inl ⟨rfl, rfl⟩)⟩
  · intro k a ha
    rcases (in_set h3).1 ha with ⟨_, q⟩ | ⟨_, q⟩
    · cases q; simp
    · exact List.mem_append.2 (.inl (f.con k a q))
theorem addS_no {o : Ob} (h : addE s o ≠ 0) : addS s o = s := by unfold addS; rw [if_neg h]
theorem setS_no {o : Ob} (h : there s (hb o) = false) : setS s o = s := by unfold setS; rw [h]; rfl
theorem remS_no {h : Bs} (e : there s h = false) : remS s h = s := by unfold remS; rw [e]; rfl
theorem Fil8.set (f : Fil8 s inn) (wf : Wf s) {o : Ob} {m : Nat} (hm : m < inn.length) (e : hb inn[m] = hb o) : Fil8 (setS s o) (inn.set m o) := by
  obtain ⟨t1, t2, t3⟩ := f.at_ wf (List.getElem_mem hm)
  rw [e] at t1 t3
  have hk := t3.lt
  have e2 : setS s o = s.set (slotN s (hb o)) (some o) := by unfold setS; rw [if_pos t1]
  rw [e2]
  have hh : hs (inn.set m o) = hs inn := by
    unfold hs
    rw [List.map_set, ← e]
    apply List.ext_getElem?
    intro i
    rw [List.getElem?_set]
    split
    · rename_i q; subst q
      split
      · rename_i q2; simp [hm]
      · rename_i q2; simp at q2; omega
    · rfl
  refine ⟨by rw [hh]; exact f.nd, ?_, ?_⟩
  · intro a ha
    obtain ⟨i, hi, rfl⟩ := List.getElem_of_mem ha
    rw [List.getElem_set]
    split
    · exact ⟨_, (in_set hk).2 (.inl ⟨rfl, rfl⟩)⟩
    · rename_i q
      have hi2 : i < inn.length := by simpa using hi
      obtain ⟨k, h9⟩ := f.mem _ (List.getElem_mem hi2)
      refine ⟨k, (in_set hk).2 (.inr ⟨fun q2 => ?_, h9⟩)⟩
      subst q2
      have h10 := In.uniq h9 t3
      exact q ((List.getElem_inj (xs := hs inn) (h₀ := by simpa [hs] using hm) (h₁ := by simpa [hs] using hi2) f.nd).1 (by simp [hs, h10]))
  · intro k a ha
    rcases (in_set hk).1 ha with ⟨_, q⟩ | ⟨n1, q⟩
    · cases q; exact List.mem_set hm o
    · obtain ⟨i, hi, rfl⟩ := List.getElem_of_mem (f.con k a q)
      by_cases h9 : m = i
      · subst h9
        have h10 := slotN_in wf q
        rw [e] at h10
        exact absurd h10.2.1.symm n1
      · exact List.mem_iff_getElem.2 ⟨i, by simpa using hi, by rw [List.getElem_set, if_neg h9]⟩
theorem Fil8.rem (f : Fil8 s inn) (wf : Wf s) {m : Nat} (hm : m < inn.length) : Fil8 (remS s (hb inn[m])) (inn.take m ++ inn.drop (m + 1)) := by
  obtain ⟨t1, t2, t3⟩ := f.at_ wf (List.getElem_mem hm)
  have hk := t3.lt
  have e2 : remS s (hb inn[m]) = s.set (slotN s (hb inn[m])) none := by unfold remS; rw [if_pos t1]
  have e3 : inn = inn.take m ++ inn[m] :: inn.drop (m + 1) := by rw [← List.drop_eq_getElem_cons hm, List.take_append_drop]
  have hsub : (inn.take m ++ inn.drop (m + 1)).Sublist inn := by
    conv => rhs; rw [e3]
    exact (List.Sublist.refl _).append (List.sublist_cons_self _ _)
  have hne : ∀ a ∈ inn.take m ++ inn.drop (m + 1), hb a ≠ hb inn[m] := by
    intro a ha e
    have hnd := f.nd
    rw [e3] at hnd
    unfold hs at hnd
    rw [List.map_append, List.map_cons, List.nodup_append] at hnd
    obtain ⟨_, h2, h3⟩ := hnd
    rcases List.mem_append.1 ha with q | q
    · exact h3 (hb a) (List.mem_map.2 ⟨a, q, rfl⟩) _ (List.mem_cons_self) e
    · exact (List.nodup_cons.1 h2).1 (e ▸ List.mem_map.2 ⟨a, q, rfl⟩)
  rw [e2]
  refine ⟨(hsub.map _).nodup f.nd, ?_, ?_⟩
  · intro a ha
    obtain ⟨k, h9⟩ := f.mem a (hsub.subset ha)
    refine ⟨k, (in_set hk).2 (.inr ⟨fun q => ?_, h9⟩)⟩
    subst q
    exact hne a ha (by rw [In.uniq h9 t3])
  · intro k a ha
    rcases (in_set hk).1 ha with ⟨_, q⟩ | ⟨n1, q⟩
    · cases q
    · have h9 := f.con k a q
      rw [e3] at h9
      rcases List.mem_append.1 h9 with h9 | h9
      · exact List.mem_append.2 (.inl h9)
      · rcases List.mem_cons.1 h9 with h9 | h9
        · rw [h9] at q
          exact absurd (slotN_in wf q).2.1.symm n1
        · exact List.mem_append.2 (.inr h9)
end
end Go.Proofs.YtlfbjgeobibnhaaDoor.TX
/-
  A tree that the law made and the law's own row of objects, side by side.
-/
namespace Go.Proofs.YtlfbjgeobibnhaaDoor.TX
open Go.RowKit HL
open IX (ptr El cellsK cellsK_at OwnK IxAt Rw numOf mayS strK RdK keys)
set_option maxRecDepth 100000
set_option linter.unusedVariables false
set_option linter.unusedSimpArgs false

/-- An object stored into the own row. -/
theorem cells_set {l : List Ob} {m : Nat} (hm : m < l.length) (o : Ob) : ((((((((((((((cellsK obK l).set (m * 14) (.string o.handle)).set (m * 14 + 1) (.int .u8 o.kind)).set (m * 14 + 2) (.string o.parent)).set (m * 14 + 3) (.int .u8 o.typ)).set (m * 14 + 4) (.string o.ref)).set (m * 14 + 5) (.int .i64 o.lo)).set (m * 14 + 6) (.int .i64 o.hi)).set (m * 14 + 7) (.int .u8 o.digits)).set (m * 14 + 8) (.bool o.on)).set (m * 14 + 9) (.bool o.has)).set (m * 14 + 10) (.int .i64 o.value)).set (m * 14 + 11) (.int .i64 o.low)).set (m * 14 + 12) (.int .i64 o.high)).set (m * 14 + 13) (.int .u8 o.assoc) = cellsK obK (l.set m o) := by
  have e1 : cellsK obK l = cellsK obK (l.take m) ++ ((obCells l[m]).toList ++ cellsK obK (l.drop (m + 1))) := by
    conv => lhs; rw [← List.take_append_drop m l, List.drop_eq_getElem_cons hm]
    unfold cellsK
    rw [List.flatMap_append, List.flatMap_cons]; rfl
  have e2 : cellsK obK (l.set m o) = cellsK obK (l.take m) ++ ((obCells o).toList ++ cellsK obK (l.drop (m + 1))) := by
    conv => lhs; rw [List.set_eq_take_append_cons_drop, if_pos hm]
    unfold cellsK
    rw [List.flatMap_append, List.flatMap_cons]; rfl
  have hl : (cellsK obK (l.take m)).length = m * 14 := by rw [IX.cellsK_len, List.length_take, Nat.min_eq_left (by omega)]; rfl
  rw [e1, e2]
  generalize cellsK obK (l.take m) = X at *
  generalize cellsK obK (l.drop (m + 1)) = Y at *
  generalize l[m] = z at *
  have key : ∀ (i : Nat) (Z : List Value) (v : Value), (X ++ Z).set (m * 14 + i) v = X ++ Z.set i v := fun i Z v => by
    rw [List.set_append_right (h := by omega), hl]
    congr 2; omega
  have key0 : ∀ (Z : List Value) (v : Value), (X ++ Z).set (m * 14) v = X ++ Z.set 0 v := fun Z v => key 0 Z v
  simp only [key0, key]
  rfl
theorem OwnK_obSet {w : World} {base g cap : Nat} {l : List Ob} (h : OwnK obK w base (.slice (some ⟨g, 0, none⟩) l.length cap) l) {m : Nat} (hm : m < l.length) (o : Ob) :
    OwnK obK (put14 w g (m * 14) o) base (.slice (some ⟨g, 0, none⟩) l.length cap) (l.set m o) := by
  have h0 := (World.ownsRow.stored h (m * 14) (.string o.handle)).1
  have h1 := (World.ownsRow.stored h0 (m * 14 + 1) (.int .u8 o.kind)).1
  have h2 := (World.ownsRow.stored h1 (m * 14 + 2) (.string o.parent)).1
  have h3 := (World.ownsRow.stored h2 (m * 14 + 3) (.int .u8 o.typ)).1
  have h4 := (World.ownsRow.stored h3 (m * 14 + 4) (.string o.ref)).1
  have h5 := (World.ownsRow.stored h4 (m * 14 + 5) (.int .i64 o.lo)).1
  have h6 := (World.ownsRow.stored h5 (m * 14 + 6) (.int .i64 o.hi)).1
  have h7 := (World.ownsRow.stored h6 (m * 14 + 7) (.int .u8 o.digits)).1
  have h8 := (World.ownsRow.stored h7 (m * 14 + 8) (.bool o.on)).1
  have h9 := (World.ownsRow.stored h8 (m * 14 + 9) (.bool o.has)).1
  have h10 := (World.ownsRow.stored h9 (m * 14 + 10) (.int .i64 o.value)).1
  have h11 := (World.ownsRow.stored h10 (m * 14 + 11) (.int .i64 o.low)).1
  have h12 := (World.ownsRow.stored h11 (m * 14 + 12) (.int .i64 o.high)).1
  have h13 := (World.ownsRow.stored h12 (m * 14 + 13) (.int .u8 o.assoc)).1
  unfold OwnK
  rw [List.length_set, ← cells_set hm o]
  exact h13
structure FP (w W : World) (L : Lay) (s : Sl) (iv : Value) (inn : List Ob) (n : Nat) : Prop where
  h : TH w W L s n
  o : OwnK obK W w.heap.size iv inn
  ne : ∀ k, iv.ownBlock = some k → L.g k = .other
section
variable {w W W' : World} {L L' : Lay} {s s' : Sl} {n : Nat} {iv iv2 : Value} {inn inn2 : List Ob}
theorem FP.then (h : FP w W L s iv inn n) (k : Below W.heap.size W W') : FP w W' L s iv inn n := ⟨h.h.then k, h.o.below k, h.ne⟩
theorem FP.step (h : FP w W L s iv inn n) (t : Tree W' w.heap.size L' s') (k : Step W W' 2 L L') : FP w W' L' s' iv inn (n + 2) :=
  ⟨h.h.step t k, h.o.kept k.k (fun b e => h.ne b e), fun b e => Step.other k (h.o.lt b e).2 (h.ne b e)⟩
theorem FP.app (h : FP w W L s iv inn n) (o2 : OwnK obK W' w.heap.size iv2 inn2) (k : IX.Kept W W' (fun k => iv.ownBlock ≠ some k)) (f : ∀ k, iv2.ownBlock = some k → iv.ownBlock = some k ∨ W.heap.size ≤ k) : FP w W' L s iv2 inn2 n :=
  ⟨⟨h.h.t.kept k fun j _ e q => e (h.ne j q), h.h.b.trans (k.below h.h.b.size fun j hj q => by have := (h.o.lt j q).1; omega), h.h.n⟩, o2, fun j e => by
    rcases f j e with q | q
    · exact h.ne j q
    · exact h.h.new q⟩
end
end Go.Proofs.YtlfbjgeobibnhaaDoor.TX
