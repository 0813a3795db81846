/-
  PLAIN: no two handles the same, told by how many are left when each stands once.
-/
import Derived.Test.YtncahpbjbgcnbaaGreatDoorEO0
import Derived.Test.YtncahpbjbgcnbaaGreatDoorEO7
import Derived.Test.YtncahpbjbgcnbaaGreatDoorEO2
import Derived.BigQuiet
import Derived.Test.YtncahpbjbgcnbaaGreatDoorEO3
import Derived.Test.YtncahpbjbgcnbaaGreatDoorEOOMay
import Derived.Test.YtncahpbjbgcnbaaGreatDoorEO6
namespace Go.Proofs.YtncahpbjbgcnbaaGreatDoor.DX
open HL
set_option linter.unusedVariables false
theorem perm_of {α : Type} : ∀ (s xs : List α), s.Nodup → (∀ x ∈ s, x ∈ xs) → xs.length ≤ s.length → xs.Perm s
  | [], xs, _, _, hl => by
    have : xs = [] := List.eq_nil_of_length_eq_zero (by simpa using hl)
    rw [this]
  | a :: s, xs, hn, hm, hl => by
    obtain ⟨p, q, rfl⟩ := List.append_of_mem (hm a (List.mem_cons_self ..))
    have hn2 := List.nodup_cons.1 hn
    have ih := perm_of s (p ++ q) hn2.2 (fun x hx => by
      have h1 := hm x (List.mem_cons_of_mem _ hx)
      simp only [List.mem_append, List.mem_cons] at h1 ⊢
      rcases h1 with h | h | h
      · exact .inl h
      · subst h; exact absurd hx hn2.1
      · exact .inr h) (by simp at hl ⊢; omega)
    exact List.perm_middle.trans (List.Perm.cons a ih)
theorem asc_nodup {s : List Bs} (h : Asc s) : s.Nodup := by
  refine List.Pairwise.imp ?_ h
  intro a b hab e
  subst e
  exact absurd hab (List.lt_irrefl a)
theorem sortU_full {xs : List Bs} : (sortU xs).length < xs.length ↔ ¬ xs.Nodup := by
  constructor
  · intro h hn
    have := (perm_of xs (sortU xs) hn (fun x hx => sortU_mem.2 hx) (sortU_le xs)).length_eq
    omega
  · intro h
    rcases Nat.lt_or_ge (sortU xs).length xs.length with q | q
    · exact q
    · exact absurd ((perm_of (sortU xs) xs (asc_nodup (sortU_asc xs)) (fun x hx => sortU_mem.1 hx) q).nodup_iff.2 (asc_nodup (sortU_asc xs))) h
end Go.Proofs.YtncahpbjbgcnbaaGreatDoor.DX
/-
  WALKS: the laws' Long of changes; the rows' Same, the program's and the document's.
-/
namespace Go.Proofs.YtncahpbjbgcnbaaGreatDoor.DX
open Go.RowKit HL
open IX (ptr El cellsK cellsK_at OwnK RdK strK)
open WX (hb pb rb tl_ne bs_eq)
set_option maxRecDepth 100000
set_option linter.unusedVariables false
set_option linter.unusedSimpArgs false

def longC (l : List Ch) : Bool := decide (30 < l.length) || l.any fun c => longB c.o
theorem longC_out {l : List Ch} (h : longC l = false) : l.length ≤ 30 ∧ ∀ c ∈ l, longB c.o = false := by
  simp [longC] at h
  exact ⟨by omega, h.2⟩
set_option maxHeartbeats 4000000 in
theorem longC_any (A : Option Addr) (c : Nat) (l : List Ch) (w : World) (h : RdK chK w w.heap.size A l) (hn : l.length ≤ maxLen) : Calls Tryz.prog 8 #[.slice A l.length c] w fun e w' => e = .returned (.bool (longC l)) ∧ Below w.heap.size w w' := by
  unfold maxLen at hn
  have H := Lib.hid h
  clear h
  by_cases h30 : 30 < l.length
  · have HV : Hid (longC l = true) := Lib.hid (by simp [longC]; omega)
    have i0 : (30 : Int) < l.length := by omega
    go_enter Tryz.func8, Tryz.ntmps8
    go_wp2
    go_ret
    exact ⟨by rw [HV.out]; rfl, Below.refl _ _⟩
  · have i0 : ¬ (30 : Int) < l.length := by omega
    have HN30 := Lib.hid h30
    clear h30
    go_enter Tryz.func8, Tryz.ntmps8
    go_wp2
    go_loopw [3] (fun i wr => ∃ k : Nat, i = .int .i64 k ∧ k ≤ l.length ∧ Hid (∀ a ∈ l.take k, longB a.o = false) ∧ Below w.heap.size w wr) (fun i _ => l.length - (intOf i).toNat)
    case atStart => exact ⟨0, rfl, Nat.zero_le _, Lib.hid (by simp), Below.refl _ _⟩
    case round =>
      obtain ⟨k, rfl, hk, HN, k1⟩ := hrel
      by_cases hlt : k < l.length
      · obtain ⟨b, off, rfl, hbk, hc⟩ := chs_at (H.out.below k1) (by omega)
        obtain ⟨p0, p1, p2, p3, p4, p5, p6, p7, p8, p9, p10, p11, p12, p13, p14⟩ := hc k _ (List.getElem?_eq_getElem hlt)
        have i1 : (k : Int) < l.length := by omega
        have HA : Hid (longB l[k].o = true → longC l = true) := Lib.hid (fun q => by
          unfold longC
          rw [show (l.any fun c => longB c.o) = true from List.any_eq_true.2 ⟨_, List.getElem_mem hlt, q⟩, Bool.or_true])
        have HT : Hid (longB l[k].o = false → ∀ a ∈ l.take (k + 1), longB a.o = false) := Lib.hid (fun q a ha => by
          rw [List.take_succ_eq_append_getElem hlt] at ha
          rcases List.mem_append.1 ha with h | h
          · exact HN.out a h
          · obtain rfl : a = l[k] := by simpa using h
            exact q)
        have K1 := Lib.hid k1
        clear hc k1
        generalize l[k] = x at *
        have CL := fun W => Lib.hid (long_any x.o W)
        cases hx : longB x.o with
        | true =>
          rw [hx] at CL
          have HV := Lib.hid (HA.out hx)
          clear hx HA HT
          go_wp2_with (go_at_call 27; ((with_reducible refine (CL _).out.mono ?_); rintro e w3 ⟨rfl, k3⟩))
          go_ret
          exact ⟨by rw [HV.out]; rfl, bThen K1.out k3⟩
        | false =>
          rw [hx] at CL
          have HV := Lib.hid (HT.out hx)
          clear hx HA HT
          go_wp2_with (go_at_call 27; ((with_reducible refine (CL _).out.mono ?_); rintro e w3 ⟨rfl, k3⟩))
          go_roundw
          case rel => exact ⟨k + 1, by go_num, by omega, HV, bThen K1.out k3⟩
          case measure => simp [intOf]; omega
      · obtain rfl : k = l.length := by omega
        have i1 : ¬ (l.length : Int) < l.length := by omega
        have HV : Hid (longC l = false) := Lib.hid (by
          have h1 := HN.out
          rw [List.take_length] at h1
          unfold longC
          rw [decide_eq_false HN30.out, Bool.false_or, List.any_eq_false]
          intro a ha
          simp [h1 a ha])
        go_wp2
        go_ret
        exact ⟨by rw [HV.out]; rfl, k1⟩
/-- Are two rows of changes the same? -/
noncomputable def sameC (a b : List Ch) : Bool := @decide (a = b) (Classical.propDecidable _)
theorem sameC_t {a b : List Ch} (h : a = b) : sameC a b = true := by simp [sameC, h]
theorem sameC_f {a b : List Ch} (h : a ≠ b) : sameC a b = false := by simp [sameC, h]
theorem takeC {xs ys : List Ch} {k : Nat} (h1 : k < xs.length) (h2 : k < ys.length) (h : xs.take k = ys.take k) (he : xs[k] = ys[k]) : xs.take (k + 1) = ys.take (k + 1) := by
  rw [List.take_succ_eq_append_getElem h1, List.take_succ_eq_append_getElem h2, h, he]
set_option maxHeartbeats 8000000 in
theorem refSameC_any (A1 A2 : Option Addr) (c1 c2 : Nat) (xs ys : List Ch) (w : World) (B : Nat) (h1 : RdK chK w B A1 xs) (h2 : RdK chK w B A2 ys) (hB : B ≤ w.heap.size) (hn : xs.length ≤ maxLen) (hm : ys.length ≤ maxLen) :
    Calls Tryz.prog 13 #[.slice A1 xs.length c1, .slice A2 ys.length c2] w fun e w' => e = .returned (.bool (sameC xs ys)) ∧ Dr w w' := by
  unfold maxLen at hn hm
  have H1 := Lib.hid h1
  have H2 := Lib.hid h2
  clear h1 h2
  by_cases hl : xs.length = ys.length
  · have hlb : ((xs.length : Int) != (ys.length : Int)) = false := by simp [hl]
    have HL := Lib.hid hl
    clear hl
    go_enter Tryz.func13, Tryz.ntmps13
    go_wp2
    go_loopw [5] (fun i w' => ∃ k : Nat, i = .int .i64 k ∧ Dr w w' ∧ k ≤ xs.length ∧ Hid (xs.take k = ys.take k)) (fun i _ => xs.length - (intOf i).toNat)
    case atStart => exact ⟨0, rfl, Dr.refl w, Nat.zero_le _, Lib.hid (by simp)⟩
    case round =>
      obtain ⟨k, rfl, ⟨n, rfl⟩, hk, HT⟩ := hrel
      by_cases hlt : k < xs.length
      · have hlt2 : k < ys.length := by rw [← HL.out]; exact hlt
        obtain ⟨b1, o1, rfl, _, hc1⟩ := chs_at H1.out (by omega)
        obtain ⟨b2, o2, rfl, _, hc2⟩ := chs_at H2.out (by omega)
        obtain ⟨p0, p1, p2, p3, p4, p5, p6, p7, p8, p9, p10, p11, p12, p13, p14⟩ := hc1 k _ (List.getElem?_eq_getElem hlt)
        obtain ⟨q0, q1, q2, q3, q4, q5, q6, q7, q8, q9, q10, q11, q12, q13, q14⟩ := hc2 k _ (List.getElem?_eq_getElem hlt2)
        have i1 : (k : Int) < (xs.length : Int) := by omega
        have i2 : (k : Int) < (ys.length : Int) := by omega
        have HA : Hid (xs[k] = ys[k] → xs.take (k + 1) = ys.take (k + 1)) := Lib.hid (takeC hlt hlt2 HT.out)
        have HB : Hid (xs[k] ≠ ys[k] → sameC xs ys = false) := Lib.hid (fun he => sameC_f fun h => he (by simp [h]))
        clear hc1 hc2
        generalize xs[k] = x at *
        generalize ys[k] = y at *
        have hE : ∀ W, (Op.equalIn 10000 39 (ch x) (ch y)).run Tryz.prog W = .ok (eqCh x y) W := fun W => run_eqCh W x y
        by_cases he : x = y
        · have HR := Lib.hid (HA.out he)
          rw [eqCh_t he] at hE
          clear he HA HB
          go_wp2
          go_quiet (fail)
          go_wp2
          go_roundw
          case rel => exact ⟨k + 1, by go_num, by first | exact Dr.one _ _ | exact Dr.two _ _ _ | exact Dr.three _ _ _ _ | exact Dr.refl _, by omega, HR⟩
          case measure => simp [intOf]; omega
        · have HV := Lib.hid (HB.out he)
          rw [eqCh_f he] at hE
          clear he HA HB
          go_wp2
          go_quiet (fail)
          go_wp2
          go_ret
          exact ⟨by rw [HV.out]; rfl, by first | exact Dr.one _ _ | exact Dr.two _ _ _ | exact Dr.three _ _ _ _ | exact Dr.refl _⟩
      · have hks : k = xs.length := by omega
        subst hks
        have i1 : ¬ (xs.length : Int) < xs.length := by omega
        have HV := Lib.hid (sameC_t (a := xs) (b := ys) (by
          have := HT.out
          rw [List.take_of_length_le (Nat.le_refl _), HL.out, List.take_of_length_le (Nat.le_refl _)] at this
          exact this))
        go_wp2
        go_ret
        exact ⟨by rw [HV.out]; rfl, by first | exact Dr.one _ _ | exact Dr.two _ _ _ | exact Dr.three _ _ _ _ | exact Dr.refl _⟩
  · have hlb : ((xs.length : Int) != (ys.length : Int)) = true := by rw [bne_iff_ne]; omega
    have HV := Lib.hid (sameC_f (a := xs) (b := ys) (fun h => hl (by rw [h])))
    clear hl
    go_enter Tryz.func13, Tryz.ntmps13
    go_wp2
    go_ret
    exact ⟨by rw [HV.out]; rfl, Dr.refl _⟩
end Go.Proofs.YtncahpbjbgcnbaaGreatDoor.DX
/-
  WALKS: the handles of changes, each once, in order: the program's Handles and the document's.
-/
namespace Go.Proofs.YtncahpbjbgcnbaaGreatDoor.DX
open Go.RowKit HL
open IX (ptr El cellsK cellsK_at OwnK RdK strK)
open WX (hb pb rb tl_ne bs_eq)
set_option maxRecDepth 100000
set_option linter.unusedVariables false
set_option linter.unusedSimpArgs false

abbrev hc (c : Ch) : Bs := c.o.handle.data.toList
/-- The handles of changes. -/
def hsC (l : List Ch) : List Bs := l.map hc
theorem AtC.ofHeap {W : World} {g : Nat} {C : Array Value} {T : TypeId} (hg : W.heap[g]? = some (.cells C T (0, 0))) : AtC W g C :=
  ⟨(Array.getElem?_eq_some_iff.1 hg).1, fun i => cell_of_row W g i C _ (0, 0) hg, fun i => by simp [World.frozen?, hg]⟩
set_option maxHeartbeats 8000000 in
theorem handles_any (A : Option Addr) (c : Nat) (l : List Ch) (w : World) (h : RdK chK w w.heap.size A l) (hn : l.length ≤ 1000) :
    Calls Tryz.prog 22 #[.slice A l.length c] w fun e w' => ∃ A2 c2, e = .returned (.slice A2 (sortU (hsC l)).length c2) ∧ Strs w' w'.heap.size A2 (sortU (hsC l)) ∧ Below w.heap.size w w' := by
  obtain ⟨i0, hi, hz0, hz1, hz2⟩ := info_parts info_str
  have HH := Lib.hid h
  clear h
  go_enter Tryz.func22, Tryz.ntmps22
  go_wp2_with (first | (at_make; refine wpList_make_full _ rfl _ _ 47 rfl w.heap.size 9 i0 (.string ByteArray.empty) 1 Tryz.underlying47 hi hz0 hz1 .i64 .i64 (l.length : Int) (l.length : Int) l.length rfl rfl rfl rfl (by rw [hz2]; omega) (by unfold maxLen; omega) (Nat.le_refl _) ?_; intro w1 r1 g1; obtain ⟨cur, hc1, hc2⟩ := made_row r1; have HC := Lib.hid hc2; have hb1 := below_grown_none g1; have HM := Lib.hid (AtC.ofHeap hc1); clear r1 hc2 hc1 g1))
  go_loopw [11] (fun i wr => ∃ k : Nat, i = .int .i64 k ∧ k ≤ l.length ∧ (∃ C : Array Value, C.size = l.length ∧ AtC wr w.heap.size C ∧ Hid (∀ j c, j < k → l[j]? = some c → C[j]? = some (.string c.o.handle))) ∧ Below w.heap.size w wr) (fun i _ => l.length - (intOf i).toNat)
  case atStart => exact ⟨0, rfl, Nat.zero_le _, ⟨cur.toArray, by simpa using HC.out, HM.out, Lib.hid (fun j c h => by omega)⟩, hb1⟩
  case round =>
    obtain ⟨k, rfl, hk, ⟨C, hC, mC, HC2⟩, k1⟩ := hrel
    by_cases hlt : k < l.length
    · obtain ⟨b, off, rfl, hbk, hcc⟩ := chs_at (HH.out.below k1) (by omega)
      obtain ⟨p0, p1, p2, p3, p4, p5, p6, p7, p8, p9, p10, p11, p12, p13, p14⟩ := hcc k _ (List.getElem?_eq_getElem hlt)
      have i1 : (k : Int) < l.length := by omega
      have HT : Hid (∀ j c, j < k + 1 → l[j]? = some c → (C.setIfInBounds k (.string l[k].o.handle))[j]? = some (.string c.o.handle)) := Lib.hid (fun j c hj hx => by
        by_cases e : j = k
        · subst e
          rw [List.getElem?_eq_getElem hlt] at hx
          cases hx
          simp [hC, hlt]
        · rw [Array.getElem?_setIfInBounds_ne (by omega)]
          exact HC2.out j c (by omega) hx)
      have hgl := mC.lt
      have hgc : wr.cell? ⟨w.heap.size, k, none⟩ = some (C[k]'(by omega)) := by rw [mC.c k]; simp [hC, hlt]
      have hgf := mC.f k
      have MC := Lib.hid mC
      have K1 := Lib.hid k1
      have KC : Hid (k < C.size) := Lib.hid (by omega)
      clear hcc mC k1
      generalize l[k] = x at *
      generalize C[k] = v0 at *
      go_wp2
      go_roundw
      case rel => exact ⟨k + 1, by go_num, by omega, ⟨C.setIfInBounds k (.string x.o.handle), by simp [hC], (MC.out.set KC.out _).al _, HT⟩, bAl (bStore K1.out (p := ⟨w.heap.size, k, none⟩) (Nat.le_refl _) _) _⟩
      case measure => simp [intOf]; omega
    · obtain rfl : k = l.length := by omega
      have i1 : ¬ (l.length : Int) < l.length := by omega
      have hm : (hsC l).length = l.length := by simp [hsC]
      have RS : Hid (Strs wr wr.heap.size (some ⟨w.heap.size, 0, none⟩) (hsC l)) := Lib.hid (.inr ⟨w.heap.size, 0, rfl, mC.lt, fun j x hx => by
        unfold hsC at hx
        rw [List.getElem?_map] at hx
        obtain ⟨c, hc1, rfl⟩ := Option.map_eq_some_iff.1 hx
        rw [Nat.zero_add, mC.c j]
        exact HC2.out j c (List.getElem?_eq_some_iff.1 hc1).1 hc1⟩)
      have CS := sort_any (some ⟨w.heap.size, 0, none⟩) l.length (hsC l) wr RS.out (by omega)
      rw [hm] at CS
      have CS := Lib.hid CS
      have K1 := Lib.hid k1
      clear mC HC2 RS
      go_wp2_with (go_at_call 47; ((with_reducible refine CS.out.mono ?_); rintro e w3 ⟨g, cap, rfl, hg, rg, k3⟩))
      go_ret
      exact ⟨_, _, rfl, (rg.own (Nat.le_refl _)).strs, bThen K1.out k3⟩
end Go.Proofs.YtncahpbjbgcnbaaGreatDoor.DX
/-
  WALKS: whether a change may be: the program's One, the document's One: one answer.
-/
namespace Go.Proofs.YtncahpbjbgcnbaaGreatDoor.DX
open Go.RowKit HL
open IX (ptr El cellsK cellsK_at OwnK RdK strK)
open WX (hb pb rb tl_ne bs_eq)
set_option maxRecDepth 100000
set_option linter.unusedVariables false
set_option linter.unusedSimpArgs false

/-- Is what it may contain without fault? -/
noncomputable def soundB (c : Ch) : Bool :=
  if c.kind = 1 then faultP c.o true == 0 else if c.kind = 2 then faultP (stateOf c.o zeroOb) true == 0 else if c.kind = 3 then faultP (descOf c.o zeroOb) false == 0 else if c.kind = 4 then HL.mayB c.o.handle else false
noncomputable def oneB (c : Ch) : Bool := eqOb c.o (partOf c.kind c.o) && soundB c
theorem soundB_1 {c : Ch} (h : c.kind = 1) : soundB c = (faultP c.o true == 0) := by unfold soundB; rw [if_pos h]
theorem soundB_2 {c : Ch} (h : c.kind = 2) : soundB c = (faultP (stateOf c.o zeroOb) true == 0) := by unfold soundB; rw [if_neg (by omega), if_pos h]
theorem soundB_3 {c : Ch} (h : c.kind = 3) : soundB c = (faultP (descOf c.o zeroOb) false == 0) := by unfold soundB; rw [if_neg (by omega), if_neg (by omega), if_pos h]
theorem soundB_4 {c : Ch} (h : c.kind = 4) : soundB c = HL.mayB c.o.handle := by unfold soundB; rw [if_neg (by omega), if_neg (by omega), if_neg (by omega), if_pos h]
theorem soundB_n {c : Ch} (h1 : ¬ c.kind = 1) (h2 : ¬ c.kind = 2) (h3 : ¬ c.kind = 3) (h4 : ¬ c.kind = 4) : soundB c = false := by unfold soundB; rw [if_neg h1, if_neg h2, if_neg h3, if_neg h4]
theorem eqOb_comm (a b : Ob) : eqOb a b = eqOb b a := by rw [Bool.eq_iff_iff, eqOb_iff, eqOb_iff]; exact eq_comm
/-- What a change meets for the walks. -/
structure MeetsC (c : Ch) (w : World) : Prop where
  kind : c.kind ≤ 255
  o : Meets c.o w
theorem MeetsC.then {c : Ch} {w W : World} (h : MeetsC c w) (k : Below w.heap.size w W) : MeetsC c W := ⟨h.kind, h.o.then k⟩
theorem sound_any (c : Ch) (w : World) (h : MeetsC c w) : Calls Tryz.prog 62 #[ch c] w fun e w' => e = .returned (.bool (soundB c)) ∧ Below w.heap.size w w' := by
  obtain ⟨k, o⟩ := c
  have ho := h.o
  rcases kinds4 h.kind with e | e | e | e | ⟨n1, n2, n3, n4, h1, h2, h3, h4⟩
  · rw [soundB_1 e]; dsimp only at e; subst e; exact sound_1 o _ w (fun W q => objMay_any (ho.then q))
  · rw [soundB_2 e]; dsimp only at e; subst e; exact sound_2 o _ w (fun W q => objMayDesc_any (ho.then q))
  · rw [soundB_3 e]; dsimp only at e; subst e; exact sound_3 o _ w (fun W q => objMayState_any (ho.then q))
  · rw [soundB_4 e]; dsimp only at e; subst e; exact sound_4 o w ho.handle
  · rw [soundB_n n1 n2 n3 n4]; exact sound_n ⟨k, o⟩ w h1 h2 h3 h4
theorem one_any (c : Ch) (w : World) (h : MeetsC c w) : Calls Tryz.prog 45 #[ch c] w fun e w' => e = .returned (.bool (oneB c)) ∧ Below w.heap.size w w' :=
  one_of c _ _ _ w rfl (fun W => part_any c.kind c.o W h.kind) (fun W q => sound_any c W (h.then q))
theorem refOne_any (c : Ch) (w : World) (h : MeetsC c w) : Calls Tryz.prog 65 #[ch c] w fun e w' => e = .returned (.bool (oneB c)) ∧ Below w.heap.size w w' := by
  unfold oneB
  obtain ⟨k, o⟩ := c
  have ho := h.o
  rcases kinds4 h.kind with e | e | e | e | ⟨n1, n2, n3, n4, h1, h2, h3, h4⟩
  · rw [soundB_1 e]; dsimp only at e; subst e; rw [partOf_1, eqOb_t rfl, Bool.true_and]; exact refOne_1 o _ w (fun W q => refOMay_any (ho.then q))
  · rw [soundB_2 e]; dsimp only at e; subst e; rw [partOf_2, eqOb_comm]; exact refOne_2 o _ _ _ w rfl (fun W => refBare_any o W) (fun W q => refOMayDesc_any (ho.then q))
  · rw [soundB_3 e]; dsimp only at e; subst e; rw [partOf_3, eqOb_comm]; exact refOne_3 o _ _ _ w rfl (fun W => refOnly_any o W) (fun W q => refOMayState_any (ho.then q))
  · rw [soundB_4 e]; dsimp only at e; subst e; rw [partOf_4]; exact refOne_4 o _ w rfl ho.handle
  · rw [soundB_n n1 n2 n3 n4, Bool.and_false]; exact refOne_n ⟨k, o⟩ w h1 h2 h3 h4
end Go.Proofs.YtncahpbjbgcnbaaGreatDoor.DX
/-
  WALKS: whether changes may be a set: the program's May and the document's: one answer.
-/
namespace Go.Proofs.YtncahpbjbgcnbaaGreatDoor.DX
open Go.RowKit HL
open IX (ptr El cellsK cellsK_at OwnK RdK strK)
open WX (hb pb rb tl_ne bs_eq)
set_option maxRecDepth 100000
set_option linter.unusedVariables false
set_option linter.unusedSimpArgs false

/-- May these changes be a set? -/
noncomputable def mayC (l : List Ch) : Bool := decide (l.length ≤ 8) && (!l.any fun c => !oneB c) && @decide ((hsC l).Nodup) (Classical.propDecidable _)
noncomputable def mayE (l : List Ch) : Int := if mayC l = true then 0 else 100
theorem mayE_t {l : List Ch} (h : mayC l = true) : mayE l = 0 := if_pos h
theorem mayE_f {l : List Ch} (h : mayC l = false) : mayE l = 100 := by unfold mayE; rw [h]; rfl
theorem mayC_iff {l : List Ch} : mayC l = true ↔ l.length ≤ 8 ∧ (∀ c ∈ l, oneB c = true) ∧ (hsC l).Nodup := by
  unfold mayC
  simp only [Bool.and_eq_true, decide_eq_true_eq, Bool.not_eq_true', List.any_eq_false, Bool.not_eq_false, and_assoc]
theorem hsC_len (l : List Ch) : (hsC l).length = l.length := by simp [hsC]
theorem mayC_long {l : List Ch} (h : ¬ l.length ≤ 8) : mayC l = false := by
  cases e : mayC l with
  | false => rfl
  | true => exact absurd (mayC_iff.1 e).1 h
theorem mayC_bad {l : List Ch} {c : Ch} (hc : c ∈ l) (h : oneB c = false) : mayC l = false := by
  cases e : mayC l with
  | false => rfl
  | true => rw [(mayC_iff.1 e).2.1 c hc] at h; cases h
theorem mayC_two {l : List Ch} (h : ¬ (hsC l).Nodup) : mayC l = false := by
  cases e : mayC l with
  | false => rfl
  | true => exact absurd (mayC_iff.1 e).2.2 h
set_option maxHeartbeats 2000000 in
theorem wrong1_any (c : Ch) (w : World) (h : MeetsC c w) : Calls Tryz.prog 44 #[ch c] w fun e w' => e = .returned (.bool (!oneB c)) ∧ Below w.heap.size w w' := by
  have hb : Below w.heap.size w w := Below.refl _ _
  have C := Lib.hid (fun W (k : Below w.heap.size w W) => one_any c W (h.then k))
  clear h
  generalize oneB c = r at *
  go_enter Tryz.func44, Tryz.ntmps44
  go_wp2_with (go_at_call 45; ((with_reducible refine (C.out _ (bAl hb _)).mono ?_); rintro e w1 ⟨rfl, k⟩; replace hb := bThen (bAl hb _) k))
  go_ret
  exact ⟨rfl, hb⟩
set_option maxHeartbeats 4000000 in
theorem indexC_any {A : Option Addr} (l : List Ch) (c : Nat) (p : Ch → Bool) (w : World) (hr : RdK chK w w.heap.size A l) (hl : l.length ≤ 1000000)
    (hC : ∀ o ∈ l, ∀ W, Below w.heap.size w W → Calls Tryz.prog 44 #[ch o] W fun e w' => e = .returned (.bool (p o)) ∧ Below W.heap.size W w') :
    Calls Tryz.prog 63 #[.slice A l.length c, .func (.func 44) #[] #[]] w fun e w' => (∃ i : Int, e = .returned (.int .i64 i) ∧ decide (0 ≤ i) = l.any p) ∧ Below w.heap.size w w' := by
  have HR := Lib.hid hr
  have C1 := Lib.hid hC
  clear hr hC
  go_enter Tryz.func63, Tryz.ntmps63
  go_wp2
  go_loopw [8] (fun i wr => ∃ k : Nat, i = .int .i64 k ∧ k ≤ l.length ∧ (∀ a ∈ l.take k, p a = false) ∧ Below w.heap.size w wr) (fun i _ => l.length - (intOf i).toNat)
  case atStart => exact ⟨0, rfl, Nat.zero_le _, by simp, Below.refl _ _⟩
  case round =>
    obtain ⟨k, rfl, hk, hn, k1⟩ := hrel
    have HN := Lib.hid hn
    have K1 := Lib.hid k1
    clear hn
    by_cases hlt : k < l.length
    · have i1 : (k : Int) < l.length := by omega
      obtain ⟨b, off, rfl, hbk, hc⟩ := chs_at (HR.out.below k1) (by omega)
      obtain ⟨p0, p1, p2, p3, p4, p5, p6, p7, p8, p9, p10, p11, p12, p13, p14⟩ := hc k _ (List.getElem?_eq_getElem hlt)
      have CC := C1.out l[k] (List.getElem_mem hlt) wr k1
      have HF : Hid (p l[k] = true → l.any p = true) := Lib.hid (fun q => List.any_eq_true.2 ⟨_, List.getElem_mem hlt, q⟩)
      have HT : Hid (p l[k] = false → ∀ a ∈ l.take (k + 1), p a = false) := Lib.hid (fun q a ha => by
        rw [List.take_succ_eq_append_getElem hlt] at ha
        rcases List.mem_append.1 ha with h | h
        · exact HN.out a h
        · obtain rfl : a = l[k] := by simpa using h
          exact q)
      clear hc k1
      generalize l[k] = o at *
      cases hp : p o with
      | true =>
        rw [hp] at CC
        have CC := Lib.hid CC
        have HV := Lib.hid (HF.out hp)
        clear hp HT HF
        go_wp2_with (go_at_call 44; ((with_reducible refine CC.out.mono ?_); rintro e w3 ⟨rfl, k3⟩))
        go_ret
        exact ⟨⟨k, rfl, by rw [HV.out]; exact decide_eq_true (by omega)⟩, bThen K1.out k3⟩
      | false =>
        rw [hp] at CC
        have CC := Lib.hid CC
        have HV := Lib.hid (HT.out hp)
        clear hp HT HF
        go_wp2_with (go_at_call 44; ((with_reducible refine CC.out.mono ?_); rintro e w3 ⟨rfl, k3⟩))
        go_roundw
        case rel => exact ⟨k + 1, by go_num, by omega, HV.out, bThen K1.out k3⟩
        case measure => simp [intOf]; omega
    · obtain rfl : k = l.length := by omega
      have i1 : ¬ (l.length : Int) < l.length := by omega
      have HV : Hid (l.any p = false) := Lib.hid (List.any_eq_false.2 fun a ha => by
        have := HN.out
        rw [List.take_length] at this
        simp [this a ha])
      go_wp2
      go_ret
      exact ⟨⟨-1, rfl, by rw [HV.out]; rfl⟩, K1.out⟩
set_option maxHeartbeats 2000000 in
theorem containsC_any {A : Option Addr} (l : List Ch) (c : Nat) (p : Ch → Bool) (w : World) (hr : RdK chK w w.heap.size A l) (hl : l.length ≤ 1000000)
    (hC : ∀ o ∈ l, ∀ W, Below w.heap.size w W → Calls Tryz.prog 44 #[ch o] W fun e w' => e = .returned (.bool (p o)) ∧ Below W.heap.size W w') :
    Calls Tryz.prog 46 #[.slice A l.length c, .func (.func 44) #[] #[]] w fun e w' => e = .returned (.bool (l.any p)) ∧ Below w.heap.size w w' := by
  have C := Lib.hid (indexC_any l c p w hr hl hC)
  clear hr hC
  generalize l.any p = r at *
  go_enter Tryz.func46, Tryz.ntmps46
  go_wp2_with (go_at_call 63; ((with_reducible refine C.out.mono ?_); rintro e w3 ⟨⟨i, rfl, hi⟩, k3⟩))
  go_ret
  exact ⟨by rw [← hi]; rfl, k3⟩
set_option maxHeartbeats 4000000 in
theorem may10_any (A : Option Addr) (c : Nat) (l : List Ch) (w : World) (h : RdK chK w w.heap.size A l) (hn : l.length ≤ 1000) (hM : ∀ c ∈ l, MeetsC c w) :
    Calls Tryz.prog 20 #[.slice A l.length c] w fun e w' => e = .returned (.int .i64 (mayE l)) ∧ Below w.heap.size w w' := by
  by_cases h8 : l.length ≤ 8
  · have i8 : ¬ (8 : Int) < l.length := by omega
    have CC := containsC_any l c (fun c => !oneB c) w h (by omega) (fun o ho W k => wrong1_any o W ((hM o ho).then k))
    have CH := Lib.hid (fun W (k : Below w.heap.size w W) => handles_any A c l W ((h.below k).more k.size) hn)
    have HF := Lib.hid (@sortU_full (hsC l))
    rw [hsC_len] at HF
    have HB : Hid (∀ r, (l.any fun c => !oneB c) = r → r = true → mayE l = 100) := Lib.hid (fun r e q => by
      rw [← e] at q
      obtain ⟨x, hx, h1⟩ := List.any_eq_true.1 q
      exact mayE_f (mayC_bad hx (by simpa using h1)))
    have HG : Hid (∀ r, (l.any fun c => !oneB c) = r → r = false → (hsC l).Nodup → mayE l = 0) := Lib.hid (fun r e q hd => by
      rw [← e] at q
      refine mayE_t (mayC_iff.2 ⟨h8, fun x hx => ?_, hd⟩)
      have := List.any_eq_false.1 q x hx
      simpa using this)
    have HW : Hid (¬ (hsC l).Nodup → mayE l = 100) := Lib.hid (fun q => mayE_f (mayC_two q))
    clear h hM h8
    generalize hr : (l.any fun c => !oneB c) = r at *
    have HB1 := Lib.hid (HB.out r rfl)
    have HG1 := Lib.hid (HG.out r rfl)
    have CC := Lib.hid CC
    clear hr HB HG
    cases r with
    | true =>
      have HV := Lib.hid (HB1.out rfl)
      go_enter Tryz.func20, Tryz.ntmps20
      go_wp2_with (go_at_call 46; ((with_reducible refine CC.out.mono ?_); rintro e w3 ⟨rfl, k3⟩))
      go_ret
      exact ⟨by rw [HV.out]; rfl, k3⟩
    | false =>
      by_cases hd : (hsC l).Nodup
      · have HV := Lib.hid (HG1.out rfl hd)
        have HL : Hid (¬ ((sortU (hsC l)).length : Int) < (l.length : Int)) := Lib.hid (fun q => HF.out.1 (by omega) hd)
        generalize sortU (hsC l) = zs at *
        have iL := HL.out
        clear hd HF HG1 HB1 HW
        go_enter Tryz.func20, Tryz.ntmps20
        go_wp2_with (first
          | (go_at_call 46; ((with_reducible refine CC.out.mono ?_); rintro e w3 ⟨rfl, k3⟩))
          | (go_at_call 22; ((with_reducible refine (CH.out _ k3).mono ?_); rintro e w4 ⟨A4, c4, rfl, s4, k4⟩)))
        go_ret
        exact ⟨by rw [HV.out]; rfl, bThen k3 k4⟩
      · have HV := Lib.hid (HW.out hd)
        have HL : Hid (((sortU (hsC l)).length : Int) < (l.length : Int)) := Lib.hid (by have := HF.out.2 hd; omega)
        generalize sortU (hsC l) = zs at *
        have iL := HL.out
        clear hd HF HG1 HB1 HW
        go_enter Tryz.func20, Tryz.ntmps20
        go_wp2_with (first
          | (go_at_call 46; ((with_reducible refine CC.out.mono ?_); rintro e w3 ⟨rfl, k3⟩))
          | (go_at_call 22; ((with_reducible refine (CH.out _ k3).mono ?_); rintro e w4 ⟨A4, c4, rfl, s4, k4⟩)))
        go_ret
        exact ⟨by rw [HV.out]; rfl, bThen k3 k4⟩
  · have i8 : (8 : Int) < l.length := by omega
    have HV := Lib.hid (mayE_f (mayC_long h8))
    clear h hM h8
    go_enter Tryz.func20, Tryz.ntmps20
    go_wp2
    go_ret
    exact ⟨by rw [HV.out]; rfl, Below.refl _ _⟩
end Go.Proofs.YtncahpbjbgcnbaaGreatDoor.DX
/-
  WALK: whether changes may be a set: the document's May.
-/
namespace Go.Proofs.YtncahpbjbgcnbaaGreatDoor.DX
open Go.RowKit HL
open IX (ptr El cellsK cellsK_at OwnK RdK strK)
open WX (hb pb rb tl_ne bs_eq)
set_option maxRecDepth 100000
set_option linter.unusedVariables false
set_option linter.unusedSimpArgs false

theorem hsC_at {l : List Ch} {k : Nat} (h : k < l.length) : (hsC l)[k]? = some (hc l[k]) := by
  unfold hsC
  rw [List.getElem?_map, List.getElem?_eq_getElem h]; rfl
theorem two_same {l : List Ch} {j k : Nat} (hj : j < k) (hk : k < l.length) (h : hc (l[j]'(by omega)) = hc l[k]) : ¬ (hsC l).Nodup := fun hd =>
  List.pairwise_iff_getElem.1 (List.pairwise_map.1 hd) j k (by omega) hk hj h
theorem all_apart {l : List Ch} (h : ∀ j k, j < k → (hk : k < l.length) → (hj : j < l.length) → hc l[j] ≠ hc l[k]) : (hsC l).Nodup :=
  List.pairwise_map.2 (List.pairwise_iff_getElem.2 fun j k h1 h2 hjk => h j k hjk h2 h1)
set_option maxHeartbeats 8000000 in
theorem refMay10_any (A : Option Addr) (c : Nat) (l : List Ch) (w : World) (h : RdK chK w w.heap.size A l) (hn : l.length ≤ 1000) (hM : ∀ c ∈ l, MeetsC c w) :
    Calls Tryz.prog 48 #[.slice A l.length c] w fun e w' => e = .returned (.int .i64 (mayE l)) ∧ Below w.heap.size w w' := by
  by_cases h8 : l.length ≤ 8
  · have i8 : ¬ (8 : Int) < l.length := by omega
    have H := Lib.hid h
    have HM := Lib.hid hM
    have H8 := Lib.hid h8
    clear h hM h8
    go_enter Tryz.func48, Tryz.ntmps48
    go_wp2
    go_loopw [3] (fun i wr => ∃ k : Nat, i = .int .i64 k ∧ k ≤ l.length ∧ Hid ((∀ a ∈ l.take k, oneB a = true) ∧ ∀ j q, j < q → q < k → (hq : q < l.length) → (hj : j < l.length) → hc l[j] ≠ hc l[q]) ∧ Below w.heap.size w wr) (fun i _ => l.length - (intOf i).toNat)
    case atStart => exact ⟨0, rfl, Nat.zero_le _, Lib.hid ⟨by simp, fun j q _ h => by omega⟩, Below.refl _ _⟩
    case round =>
      obtain ⟨k, rfl, hk, HI, k1⟩ := hrel
      have K1 := Lib.hid k1
      by_cases hlt : k < l.length
      · obtain ⟨b, off, rfl, hbk, hcc⟩ := chs_at (H.out.below k1) (by omega)
        obtain ⟨p0, p1, p2, p3, p4, p5, p6, p7, p8, p9, p10, p11, p12, p13, p14⟩ := hcc k _ (List.getElem?_eq_getElem hlt)
        have i1 : (k : Int) < l.length := by omega
        have CO := Lib.hid (refOne_any l[k] wr ((HM.out _ (List.getElem_mem hlt)).then k1))
        have HF : Hid (oneB l[k] = false → mayE l = 100) := Lib.hid (fun q => mayE_f (mayC_bad (List.getElem_mem hlt) q))
        have HT : Hid (oneB l[k] = true → ∀ a ∈ l.take (k + 1), oneB a = true) := Lib.hid (fun q a ha => by
          rw [List.take_succ_eq_append_getElem hlt] at ha
          rcases List.mem_append.1 ha with h | h
          · exact HI.out.1 a h
          · obtain rfl : a = l[k] := by simpa using h
            exact q)
        have HS : Hid (∀ j (hj : j < k), hc (l[j]'(by omega)) = hc l[k] → mayE l = 100) := Lib.hid (fun j hj e => mayE_f (mayC_two (two_same hj hlt e)))
        have HX := Lib.hid hlt
        clear hcc
        generalize hlk : l[k] = x at *
        have HK := Lib.hid hlk
        clear hlk
        cases hx : oneB x with
        | false =>
          rw [hx] at CO
          have HV := Lib.hid (HF.out hx)
          clear hx HF HT HS k1
          go_wp2_with (go_at_call 65; ((with_reducible refine CO.out.mono ?_); rintro e w3 ⟨rfl, k3⟩))
          go_ret
          exact ⟨by rw [HV.out]; rfl, bThen K1.out k3⟩
        | true =>
          rw [hx] at CO
          have HV := Lib.hid (HT.out hx)
          clear hx HF HT k1
          go_wp2_with (go_at_call 65; ((with_reducible refine CO.out.mono ?_); rintro e w3 ⟨rfl, k3⟩))
          have K3 := Lib.hid (bThen K1.out k3)
          clear p0 p1 p2 p3 p4 p5 p6 p7 p8 p9 p10 p11 p12 p13 p14
          go_loopw [4] (fun i wq => ∃ j : Nat, i = .int .i64 j ∧ j ≤ k ∧ Hid (∀ q (hq : q < j) (hl : q < l.length), hc l[q] ≠ hc x) ∧ Below w.heap.size w wq) (fun i _ => k - (intOf i).toNat)
          case atStart => exact ⟨0, rfl, Nat.zero_le _, Lib.hid (fun q hq => by omega), K3.out⟩
          case round =>
            obtain ⟨j, rfl, hj, HJ, kj⟩ := hrel
            have KJ := Lib.hid kj
            by_cases hlj : j < k
            · obtain ⟨b2, off2, e2, hb2, hc2⟩ := chs_at (H.out.below kj) (by omega)
              obtain ⟨rfl, rfl⟩ : b2 = b ∧ off2 = off := by simp at e2; exact ⟨e2.1.symm, e2.2.symm⟩
              have hjl : j < l.length := by omega
              obtain ⟨q0, q1, _⟩ := hc2 j _ (List.getElem?_eq_getElem hjl)
              obtain ⟨r0, r1, _⟩ := hc2 k x ((List.getElem?_eq_getElem HX.out).trans (congrArg some HK.out))
              have j1 : (j : Int) < k := by omega
              have j2 : (j : Int) < l.length := by omega
              have HSj : Hid (hc l[j] = hc x → mayE l = 100) := Lib.hid (HS.out j hlj)
              have HNj : Hid (hc l[j] ≠ hc x → ∀ q (hq : q < j + 1) (hl : q < l.length), hc l[q] ≠ hc x) := Lib.hid (fun e q hq hl => by
                by_cases z : q = j
                · subst z; exact e
                · exact HJ.out q (by omega) hl)
              clear hc2 kj q0 r0 e2
              generalize l[j] = y at *
              by_cases he : y.o.handle = x.o.handle
              · have e1 : (y.o.handle.toList == x.o.handle.toList) = true := by rw [he]; simp
                have HV2 := Lib.hid (HSj.out (by show y.o.handle.data.toList = _; rw [he]))
                clear he HSj HNj
                go_wp2
                go_quiet (fail)
                go_wp2
                go_ret
                exact ⟨by rw [HV2.out]; rfl, KJ.out.trans ⟨rfl, rfl, rfl, Nat.le_refl _, fun _ _ => rfl⟩⟩
              · have e1 := tl_ne he
                have HV2 := Lib.hid (HNj.out fun z => he (bs_eq z))
                clear he HSj HNj
                go_wp2
                go_quiet (fail)
                go_wp2
                go_roundw
                case rel => exact ⟨j + 1, by go_num, by omega, HV2, KJ.out.trans ⟨rfl, rfl, rfl, Nat.le_refl _, fun _ _ => rfl⟩⟩
                case measure => simp [intOf]; omega
            · obtain rfl : j = k := by omega
              have j1 : ¬ (j : Int) < j := by omega
              have HZ : Hid ((∀ a ∈ l.take (j + 1), oneB a = true) ∧ ∀ a q, a < q → q < j + 1 → (hq : q < l.length) → (ha : a < l.length) → hc l[a] ≠ hc l[q]) := Lib.hid ⟨HV.out, fun a q h1 h2 hq ha => by
                by_cases z : q = j
                · subst z; exact fun e => HJ.out a h1 ha (e.trans (congrArg hc HK.out))
                · exact HI.out.2 a q h1 (by omega) hq ha⟩
              go_wp2
              go_roundw
              case rel => exact ⟨j + 1, by go_num, by omega, HZ, KJ.out⟩
              case measure => simp [intOf]; omega
      · obtain rfl : k = l.length := by omega
        have i1 : ¬ (l.length : Int) < l.length := by omega
        have HV : Hid (mayE l = 0) := Lib.hid (mayE_t (mayC_iff.2 ⟨H8.out, fun a ha => HI.out.1 a (by rw [List.take_length]; exact ha), all_apart fun j q hj hq h1 => HI.out.2 j q hj hq hq h1⟩))
        go_wp2
        go_ret
        exact ⟨by rw [HV.out]; rfl, k1⟩
  · have i8 : (8 : Int) < l.length := by omega
    have HV := Lib.hid (mayE_f (mayC_long h8))
    clear h hM h8
    go_enter Tryz.func48, Tryz.ntmps48
    go_wp2
    go_ret
    exact ⟨by rw [HV.out]; rfl, Below.refl _ _⟩
end Go.Proofs.YtncahpbjbgcnbaaGreatDoor.DX
/-
  PLAIN: what the guards give the walks.
-/
namespace Go.Proofs.YtncahpbjbgcnbaaGreatDoor.DX
open Go.RowKit HL
open IX (ptr El cellsK cellsK_at OwnK RdK strK)
open WX (hb pb rb tl_ne bs_eq)
set_option maxRecDepth 100000
set_option linter.unusedVariables false
set_option linter.unusedSimpArgs false

/-- What a change that came in is, and the tables. -/
theorem meetsC_of {l : List Ch} {w : World} (hl : longC l = false) (hF : ∀ c ∈ l, c.kind ≤ 255 ∧ Fine c.o) (ht : Words w ∧ Kinds w) : ∀ c ∈ l, MeetsC c w := fun c hc =>
  ⟨(hF c hc).1, (hF c hc).2.kind, (hF c hc).2.typ, (hF c hc).2.digits, (hF c hc).2.assoc, (hF c hc).2.handle, (hF c hc).2.parent, (hF c hc).2.ref, ht.1, ht.2⟩
theorem short_of {l : List Ch} (hl : longC l = false) : ∀ c ∈ l, (hc c).length ≤ 100 := fun c hc => by
  have := (longB_out ((longC_out hl).2 c hc)).1
  show c.o.handle.data.toList.length ≤ 100
  simpa using this
end Go.Proofs.YtncahpbjbgcnbaaGreatDoor.DX
