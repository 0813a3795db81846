/-
  WALKS: the law's Long and LongAll.
-/
import Derived.Test.YtejjlmdaalfenaaPEn
import Derived.Test.YtejjlmdaalfenaaDEq
import Derived.BigQuiet
import Derived.Deep.MidRow
import Derived.Deep.RegionHeld3
namespace Go.Proofs.Ytejjlmdaalfenaa.PX
open Go.RowKit HL
open IX (ptr El cellsK cellsK_at cellsK_len OwnK RdK Kept)
open WX (obK obs_at)
open DX (Ch ch chCells chK chs_at)
set_option maxRecDepth 100000
set_option linter.unusedVariables false
set_option linter.unusedSimpArgs false

def longB (o : Ob) : Bool := decide (300 < o.handle.size) || decide (300 < o.parent.size) || decide (300 < o.ref.size)
def longE (e : En) : Bool := longB e.o || decide (300 < e.handle.size)
def longAll (l : List Ob) (s : List Ch) (es : List En) : Bool := decide (80 < l.length) || decide (80 < s.length) || decide (80 < es.length) || l.any longB || s.any (fun c => longB c.o) || es.any longE
set_option maxHeartbeats 2000000 in
theorem long13_any (o : Ob) (w : World) : Calls Try.prog 36 #[ob o] w fun e w' => e = .returned (.bool (longB o)) ∧ Below w.heap.size w w' := by
  have hb := bAl (Below.refl w.heap.size w) (.cells (obCells o) 42)
  have hm := (AtC.new w (obCells o) 42).c
  have HB := Lib.hid hb
  clear hb
  by_cases h1 : 300 < o.handle.size
  · have e : Hid (longB o = true) := Lib.hid (by simp [longB, h1])
    have i1 : (300 : Int) < (o.handle.size : Int) := by omega
    go_enter Try.func36, Try.ntmps36
    go_wp2
    go_ret
    exact ⟨by rw [e.out]; rfl, HB.out⟩
  · have i1 : ¬ (300 : Int) < (o.handle.size : Int) := by omega
    by_cases h2 : 300 < o.parent.size
    · have e : Hid (longB o = true) := Lib.hid (by simp [longB, h2])
      have i2 : (300 : Int) < (o.parent.size : Int) := by omega
      go_enter Try.func36, Try.ntmps36
      go_wp2
      go_ret
      exact ⟨by rw [e.out]; rfl, HB.out⟩
    · have i2 : ¬ (300 : Int) < (o.parent.size : Int) := by omega
      by_cases h3 : 300 < o.ref.size
      · have e : Hid (longB o = true) := Lib.hid (by simp [longB, h3])
        have i3 : (300 : Int) < (o.ref.size : Int) := by omega
        go_enter Try.func36, Try.ntmps36
        go_wp2
        go_ret
        exact ⟨by rw [e.out]; rfl, HB.out⟩
      · have i3 : ¬ (300 : Int) < (o.ref.size : Int) := by omega
        have e : Hid (longB o = false) := Lib.hid (by simp [longB, h1, h2, h3])
        go_enter Try.func36, Try.ntmps36
        go_wp2
        go_ret
        exact ⟨by rw [e.out]; rfl, HB.out⟩
theorem take_any {α : Type} {p : α → Bool} {l : List α} {k : Nat} (h : k < l.length) : (l.take (k + 1)).any p = ((l.take k).any p || p l[k]) := by
  rw [List.take_succ_eq_append_getElem h, List.any_append]; simp
theorem any_at {α : Type} {p : α → Bool} {l : List α} {k : Nat} (h : k < l.length) (hp : p l[k] = true) : l.any p = true := List.any_eq_true.2 ⟨_, List.getElem_mem h, hp⟩
set_option maxHeartbeats 16000000 in
theorem longAll_any (A1 A2 A3 : Option Addr) (c1 c2 c3 : Nat) (l : List Ob) (s : List Ch) (es : List En) (w : World) (h1 : RdK obK w w.heap.size A1 l) (h2 : RdK chK w w.heap.size A2 s) (h3 : RdK enK w w.heap.size A3 es) (m1 : l.length ≤ maxLen) (m2 : s.length ≤ maxLen) (m3 : es.length ≤ maxLen) :
    Calls Try.prog 8 #[.slice A1 l.length c1, .slice A2 s.length c2, .slice A3 es.length c3] w fun e w' => e = .returned (.bool (longAll l s es)) ∧ Below w.heap.size w w' := by
  have CL := Lib.hid long13_any
  by_cases a1 : 80 < l.length
  · have e : Hid (longAll l s es = true) := Lib.hid (by simp [longAll, a1])
    have i1 : (80 : Int) < (l.length : Int) := by omega
    go_enter Try.func8, Try.ntmps8
    go_wp2
    go_ret
    exact ⟨by rw [e.out]; rfl, Below.refl _ _⟩
  · have i1 : ¬ (80 : Int) < (l.length : Int) := by omega
    by_cases a2 : 80 < s.length
    · have e : Hid (longAll l s es = true) := Lib.hid (by simp [longAll, a2])
      have i2 : (80 : Int) < (s.length : Int) := by omega
      go_enter Try.func8, Try.ntmps8
      go_wp2
      go_ret
      exact ⟨by rw [e.out]; rfl, Below.refl _ _⟩
    · have i2 : ¬ (80 : Int) < (s.length : Int) := by omega
      by_cases a3 : 80 < es.length
      · have e : Hid (longAll l s es = true) := Lib.hid (by simp [longAll, a3])
        have i3 : (80 : Int) < (es.length : Int) := by omega
        go_enter Try.func8, Try.ntmps8
        go_wp2
        go_ret
        exact ⟨by rw [e.out]; rfl, Below.refl _ _⟩
      · have i3 : ¬ (80 : Int) < (es.length : Int) := by omega
        have HA : Hid (longAll l s es = (l.any longB || s.any (fun c => longB c.o) || es.any longE)) := Lib.hid (by simp [longAll, a1, a2, a3])
        have H1 := Lib.hid h1
        have H2 := Lib.hid h2
        have H3 := Lib.hid h3
        clear h1 h2 h3 m1 m2 m3
        go_enter Try.func8, Try.ntmps8
        go_wp2
        go_loopw [7] (fun i wr => ∃ k : Nat, i = .int .i64 k ∧ k ≤ l.length ∧ Hid ((l.take k).any longB = false) ∧ Below w.heap.size w wr) (fun i _ => l.length - (intOf i).toNat)
        case atStart => exact ⟨0, rfl, by omega, Lib.hid (by simp), Below.refl _ _⟩
        case round =>
          obtain ⟨k, rfl, hk, HP, k1⟩ := hrel
          have K1 := Lib.hid k1
          by_cases hlt : k < l.length
          · have j1 : (k : Int) < (l.length : Int) := by omega
            obtain ⟨b, off, rfl, hbk, hcc⟩ := obs_at (H1.out.below k1) (by omega)
            obtain ⟨p0, p1, p2, p3, p4, p5, p6, p7, p8, p9, p10, p11, p12, p13⟩ := hcc k _ (List.getElem?_eq_getElem hlt)
            have HN := Lib.hid (take_any (p := longB) hlt)
            have HT := Lib.hid (fun q => any_at (p := longB) hlt q)
            clear hcc
            generalize l[k] = o at *
            have CLo := CL.out o wr
            cases hb : longB o with
            | true =>
              have HR := Lib.hid (HT.out hb)
              rw [hb] at CLo
              replace CLo := Lib.hid CLo
              clear hb HT HN
              go_wp2_with (go_at_call 36; ((refine CLo.out.mono ?_); rintro e w2 ⟨rfl, k2⟩; have K2 := Lib.hid (bThen K1.out k2); clear k2))
              refine bodyPost_ret (results_tmp rfl _ _ _) rfl ?_
              exact ⟨by rw [HA.out, HR.out]; rfl, K2.out⟩
            | false =>
              rw [hb] at CLo
              replace CLo := Lib.hid CLo
              have HF := Lib.hid hb
              clear hb HT
              go_wp2_with (go_at_call 36; ((refine CLo.out.mono ?_); rintro e w2 ⟨rfl, k2⟩; have K2 := Lib.hid (bThen K1.out k2); clear k2))
              go_roundw
              case rel => exact ⟨k + 1, by go_num, by omega, Lib.hid (by rw [HN.out, HP.out, HF.out]; rfl), K2.out⟩
              case measure => simp [intOf]; omega
          · obtain rfl : k = l.length := by omega
            have j1 : ¬ (l.length : Int) < (l.length : Int) := by omega
            have HL : Hid (l.any longB = false) := Lib.hid (by have := HP.out; rwa [List.take_length] at this)
            clear HP
            go_wp2
            go_loopw [8] (fun i wr2 => ∃ k : Nat, i = .int .i64 k ∧ k ≤ s.length ∧ Hid ((s.take k).any (fun c => longB c.o) = false) ∧ Below w.heap.size w wr2) (fun i _ => s.length - (intOf i).toNat)
            case atStart => exact ⟨0, rfl, by omega, Lib.hid (by simp), K1.out⟩
            case round =>
              clear K1 k1
              obtain ⟨k, rfl, hk, HP, k1⟩ := hrel
              have K1 := Lib.hid k1
              by_cases hlt : k < s.length
              · have j2 : (k : Int) < (s.length : Int) := by omega
                obtain ⟨b, off, rfl, hbk, hcc⟩ := chs_at (H2.out.below k1) (by omega)
                obtain ⟨p0, p1, p2, p3, p4, p5, p6, p7, p8, p9, p10, p11, p12, p13, p14⟩ := hcc k _ (List.getElem?_eq_getElem hlt)
                have HN := Lib.hid (take_any (p := fun c : Ch => longB c.o) hlt)
                have HT := Lib.hid (fun q => any_at (p := fun c : Ch => longB c.o) hlt q)
                clear hcc
                generalize s[k] = cc at *
                have CLo := CL.out cc.o wr
                cases hb : longB cc.o with
                | true =>
                  have HR := Lib.hid (HT.out hb)
                  rw [hb] at CLo
                  replace CLo := Lib.hid CLo
                  clear hb HT HN
                  go_wp2_with (go_at_call 36; ((refine CLo.out.mono ?_); rintro e w2 ⟨rfl, k2⟩; have K2 := Lib.hid (bThen K1.out k2); clear k2))
                  refine bodyPost_ret (results_tmp rfl _ _ _) rfl ?_
                  exact ⟨by rw [HA.out, HL.out, HR.out]; rfl, K2.out⟩
                | false =>
                  rw [hb] at CLo
                  replace CLo := Lib.hid CLo
                  have HF := Lib.hid hb
                  clear hb HT
                  go_wp2_with (go_at_call 36; ((refine CLo.out.mono ?_); rintro e w2 ⟨rfl, k2⟩; have K2 := Lib.hid (bThen K1.out k2); clear k2))
                  go_roundw
                  case rel => exact ⟨k + 1, by go_num, by omega, Lib.hid (by rw [HN.out, HP.out, HF.out]; rfl), K2.out⟩
                  case measure => simp [intOf]; omega
              · obtain rfl : k = s.length := by omega
                have j2 : ¬ (s.length : Int) < (s.length : Int) := by omega
                have HL2 : Hid (s.any (fun c => longB c.o) = false) := Lib.hid (by have := HP.out; rwa [List.take_length] at this)
                clear HP
                go_wp2
                go_loopw [9] (fun i wr3 => ∃ k : Nat, i = .int .i64 k ∧ k ≤ es.length ∧ Hid ((es.take k).any longE = false) ∧ Below w.heap.size w wr3) (fun i _ => es.length - (intOf i).toNat)
                case atStart => exact ⟨0, rfl, by omega, Lib.hid (by simp), K1.out⟩
                case round =>
                  clear K1 k1
                  obtain ⟨k, rfl, hk, HP, k1⟩ := hrel
                  have K1 := Lib.hid k1
                  by_cases hlt : k < es.length
                  · have j3 : (k : Int) < (es.length : Int) := by omega
                    obtain ⟨b, off, rfl, hbk, hcc⟩ := ens_at (H3.out.below k1) (by omega)
                    obtain ⟨p0, p1, p2, p3, p4, p5, p6, p7, p8, p9, p10, p11, p12, p13, p14, p15, p16, p17⟩ := hcc k _ (List.getElem?_eq_getElem hlt)
                    have HN := Lib.hid (take_any (p := longE) hlt)
                    have HT := Lib.hid (fun q => any_at (p := longE) hlt q)
                    have hsz := k1.size
                    clear hcc
                    generalize es[k] = ee at *
                    have CLo := CL.out ee.o wr
                    cases hb : longB ee.o with
                    | true =>
                      have HR := Lib.hid (HT.out (by simp [longE, hb]))
                      rw [hb] at CLo
                      replace CLo := Lib.hid CLo
                      clear hb HT HN
                      go_wp2_with (go_at_call 36; ((refine CLo.out.mono ?_); rintro e w2 ⟨rfl, k2⟩; have K2 := Lib.hid (bThen K1.out k2); clear k2))
                      refine bodyPost_ret (results_tmp rfl _ _ _) rfl ?_
                      exact ⟨by rw [HA.out, HL.out, HL2.out, HR.out]; rfl, K2.out⟩
                    | false =>
                      rw [hb] at CLo
                      replace CLo := Lib.hid CLo
                      by_cases hh : 300 < ee.handle.size
                      · have HR := Lib.hid (HT.out (by simp [longE, hh]))
                        have j4 : (300 : Int) < (ee.handle.size : Int) := by omega
                        clear hb HT HN hh
                        go_wp2_with (go_at_call 36; ((refine CLo.out.mono ?_); rintro e w2 ⟨rfl, k2⟩; have q0 := (k2.cell (show (⟨b, off + k * 18, none⟩ : Addr).block < wr.heap.size from Nat.lt_of_lt_of_le hbk hsz)).trans p0; have K2 := Lib.hid (bThen K1.out k2); clear k2))
                        refine bodyPost_ret (results_tmp rfl _ _ _) rfl ?_
                        exact ⟨by rw [HA.out, HL.out, HL2.out, HR.out]; rfl, K2.out⟩
                      · have j4 : ¬ (300 : Int) < (ee.handle.size : Int) := by omega
                        have HF : Hid (longE ee = false) := Lib.hid (by simp [longE, hb, hh])
                        clear hb HT hh
                        go_wp2_with (go_at_call 36; ((refine CLo.out.mono ?_); rintro e w2 ⟨rfl, k2⟩; have q0 := (k2.cell (show (⟨b, off + k * 18, none⟩ : Addr).block < wr.heap.size from Nat.lt_of_lt_of_le hbk hsz)).trans p0; have K2 := Lib.hid (bThen K1.out k2); clear k2))
                        go_roundw
                        case rel => exact ⟨k + 1, by go_num, by omega, Lib.hid (by rw [HN.out, HP.out, HF.out]; rfl), K2.out⟩
                        case measure => simp [intOf]; omega
                  · obtain rfl : k = es.length := by omega
                    have j3 : ¬ (es.length : Int) < (es.length : Int) := by omega
                    have HL3 : Hid (es.any longE = false) := Lib.hid (by have := HP.out; rwa [List.take_length] at this)
                    clear HP
                    go_wp2
                    first | go_ret | (refine bodyPost_ret (results_tmp rfl _ _ _) rfl ?_)
                    exact ⟨by rw [HA.out, HL.out, HL2.out, HL3.out]; rfl, K1.out⟩
end Go.Proofs.Ytejjlmdaalfenaa.PX
/-
  WALKS: rows that are the same are told so.
-/
namespace Go.Proofs.Ytejjlmdaalfenaa.PX
open Go.RowKit HL
open IX (ptr El cellsK cellsK_at OwnK RdK)
open WX (obK obs_at)
open DX (Ch ch chCells chK chs_at)
set_option maxRecDepth 100000
set_option linter.unusedVariables false
set_option linter.unusedSimpArgs false

set_option maxHeartbeats 4000000 in
theorem sameO_yes (A1 A2 : Option Addr) (c1 c2 m : Nat) (l : List Ob) (w : World) (h1 : RdK obK w w.heap.size A1 l) (h2 : RdK obK w w.heap.size A2 l) (hm : l.length = m) (hn : m ≤ 1000000) :
    Calls Try.prog 26 #[.slice A1 m c1, .slice A2 m c2] w fun e w' => e = .returned (.bool true) ∧ Below w.heap.size w w' := by
  subst hm
  have H1 := Lib.hid h1
  have H2 := Lib.hid h2
  clear h1 h2
  go_enter Try.func26, Try.ntmps26
  go_wp2
  go_loopw [5] (fun i wr => ∃ k : Nat, i = .int .i64 k ∧ k ≤ l.length ∧ Below w.heap.size w wr) (fun i _ => l.length - (intOf i).toNat)
  case atStart => exact ⟨0, rfl, Nat.zero_le _, Below.refl _ _⟩
  case round =>
    obtain ⟨k, rfl, hk, k1⟩ := hrel
    by_cases hlt : k < l.length
    · obtain ⟨b, off, rfl, hb1, hc⟩ := obs_at (H1.out.below k1) (by omega)
      obtain ⟨b2, off2, rfl, hb2, hc2⟩ := obs_at (H2.out.below k1) (by omega)
      obtain ⟨p0, p1, p2, p3, p4, p5, p6, p7, p8, p9, p10, p11, p12, p13⟩ := hc k _ (List.getElem?_eq_getElem hlt)
      obtain ⟨q0, q1, q2, q3, q4, q5, q6, q7, q8, q9, q10, q11, q12, q13⟩ := hc2 k _ (List.getElem?_eq_getElem hlt)
      have i1 : (k : Int) < l.length := by omega
      have K1 := Lib.hid k1
      clear hc hc2 k1
      generalize l[k] = o at *
      go_wp2
      go_quiet (fail)
      go_wp2
      go_roundw
      case rel => exact ⟨k + 1, by go_num, by omega, K1.out.trans ⟨rfl, rfl, rfl, Nat.le_refl _, fun _ _ => rfl⟩⟩
      case measure => simp [intOf]; omega
    · obtain rfl : k = l.length := by omega
      have i1 : ¬ (l.length : Int) < l.length := by omega
      go_wp2
      go_ret
      exact ⟨rfl, k1⟩
set_option maxHeartbeats 4000000 in
theorem sameC_yes (A1 A2 : Option Addr) (c1 c2 m : Nat) (l : List Ch) (w : World) (h1 : RdK chK w w.heap.size A1 l) (h2 : RdK chK w w.heap.size A2 l) (hm : l.length = m) (hn : m ≤ 1000000) :
    Calls Try.prog 28 #[.slice A1 m c1, .slice A2 m c2] w fun e w' => e = .returned (.bool true) ∧ Below w.heap.size w w' := by
  subst hm
  have H1 := Lib.hid h1
  have H2 := Lib.hid h2
  clear h1 h2
  go_enter Try.func28, Try.ntmps28
  go_wp2
  go_loopw [5] (fun i wr => ∃ k : Nat, i = .int .i64 k ∧ k ≤ l.length ∧ Below w.heap.size w wr) (fun i _ => l.length - (intOf i).toNat)
  case atStart => exact ⟨0, rfl, Nat.zero_le _, Below.refl _ _⟩
  case round =>
    obtain ⟨k, rfl, hk, k1⟩ := hrel
    by_cases hlt : k < l.length
    · obtain ⟨b, off, rfl, hb1, hc⟩ := chs_at (H1.out.below k1) (by omega)
      obtain ⟨b2, off2, rfl, hb2, hc2⟩ := chs_at (H2.out.below k1) (by omega)
      obtain ⟨p0, p1, p2, p3, p4, p5, p6, p7, p8, p9, p10, p11, p12, p13, p14⟩ := hc k _ (List.getElem?_eq_getElem hlt)
      obtain ⟨q0, q1, q2, q3, q4, q5, q6, q7, q8, q9, q10, q11, q12, q13, q14⟩ := hc2 k _ (List.getElem?_eq_getElem hlt)
      have i1 : (k : Int) < l.length := by omega
      have K1 := Lib.hid k1
      clear hc hc2 k1
      generalize l[k] = o at *
      go_wp2
      go_quiet (fail)
      go_wp2
      go_roundw
      case rel => exact ⟨k + 1, by go_num, by omega, K1.out.trans ⟨rfl, rfl, rfl, Nat.le_refl _, fun _ _ => rfl⟩⟩
      case measure => simp [intOf]; omega
    · obtain rfl : k = l.length := by omega
      have i1 : ¬ (l.length : Int) < l.length := by omega
      go_wp2
      go_ret
      exact ⟨rfl, k1⟩
end Go.Proofs.Ytejjlmdaalfenaa.PX
/-
  WALKS: rows of entries that are the same are told so.
-/
namespace Go.Proofs.Ytejjlmdaalfenaa.PX
open Go.RowKit HL
open IX (ptr El cellsK cellsK_at OwnK RdK)
open WX (obK obs_at)
open DX (Ch ch chCells chK chs_at)
set_option maxRecDepth 100000
set_option linter.unusedVariables false
set_option linter.unusedSimpArgs false

set_option maxHeartbeats 4000000 in
theorem eqE (W : World) (a : En) : (Op.equalIn 10000 52 (en a) (en a)).run Try.prog W = .ok true W := by
  go_simp
set_option maxHeartbeats 4000000 in
theorem sameE_yes (A1 A2 : Option Addr) (c1 c2 m : Nat) (l : List En) (w : World) (h1 : RdK enK w w.heap.size A1 l) (h2 : RdK enK w w.heap.size A2 l) (hm : l.length = m) (hn : m ≤ 1000000) :
    Calls Try.prog 30 #[.slice A1 m c1, .slice A2 m c2] w fun e w' => e = .returned (.bool true) ∧ Below w.heap.size w w' := by
  subst hm
  have H1 := Lib.hid h1
  have H2 := Lib.hid h2
  clear h1 h2
  go_enter Try.func30, Try.ntmps30
  go_wp2
  go_loopw [5] (fun i wr => ∃ k : Nat, i = .int .i64 k ∧ k ≤ l.length ∧ Below w.heap.size w wr) (fun i _ => l.length - (intOf i).toNat)
  case atStart => exact ⟨0, rfl, Nat.zero_le _, Below.refl _ _⟩
  case round =>
    obtain ⟨k, rfl, hk, k1⟩ := hrel
    by_cases hlt : k < l.length
    · obtain ⟨b, off, rfl, hb1, hc⟩ := ens_at (H1.out.below k1) (by omega)
      obtain ⟨b2, off2, rfl, hb2, hc2⟩ := ens_at (H2.out.below k1) (by omega)
      have hgk : l[k]? = some l[k] := List.getElem?_eq_getElem hlt
      have r1 : wr.rangeAt b (off + k * 18) (enC l[k]).toList := fun j v hv => by
        rcases H1.out.below k1 with h | ⟨b', off', e1, _, h3⟩
        · rw [h] at hlt; simp at hlt
        · simp at e1; obtain ⟨rfl, rfl⟩ := e1; rw [Nat.add_assoc]; exact h3 _ _ (cellsK_at enK hgk hv)
      have r2 : wr.rangeAt b2 (off2 + k * 18) (enC l[k]).toList := fun j v hv => by
        rcases H2.out.below k1 with h | ⟨b', off', e1, _, h3⟩
        · rw [h] at hlt; simp at hlt
        · simp at e1; obtain ⟨rfl, rfl⟩ := e1; rw [Nat.add_assoc]; exact h3 _ _ (cellsK_at enK hgk hv)
      have hE := fun (W : World) => eqE W l[k]
      clear hgk
      have i2 : off + k * 18 = off + k * 18 := rfl
      generalize l[k] = o at *
      have hS : (wr.drew.rangeAt b (off + k * 18) (enC o).toList ∧ wr.drew.rangeAt b2 (off2 + k * 18) (enC o).toList) ∧ Below wr.heap.size wr wr.drew := ⟨⟨r1, r2⟩, rfl, rfl, rfl, Nat.le_refl _, fun _ _ => rfl⟩
      have i1 : (k : Int) < l.length := by omega
      have K1 := Lib.hid k1
      clear hc hc2 k1 r1 r2 i2
      go_wp2
      refine wp_region_held_drew (S := fun w' => (w'.rangeAt b (off + k * 18) (enC o).toList ∧ w'.rangeAt b2 (off2 + k * 18) (enC o).toList) ∧ Below wr.heap.size wr w') (by kernel_rfl) hS (fun hHeld0 => ?_)
      refine wpAnyH_take (i := 0) (oi := { dst := some 17, op := Op.move (Operand.tmp 0), type := 24, pos := "ref.go:222", after := #[], guard := none }) (v := ?vv0) rfl (by kernel_rfl) (by kernel_rfl) (by kernel_rfl) (fun _ _ _ h => h) (Or.inl ⟨by rfl, ?hy0⟩) (by assumption) ?rest0
      case hy0 => (intro w hSw; (try dsimp only at hSw); go_simp; try with_reducible rfl)
      simp only [Act.put, List.setIfInBounds_toArray, List.set_cons_zero, List.set_cons_succ]
      refine wpAnyH_take (i := 1) (oi := { dst := some 18, op := Op.move (Operand.tmp 5), type := 3, pos := "ref.go:222", after := #[], guard := none }) (v := ?vv1) rfl (by kernel_rfl) (by kernel_rfl) (by kernel_rfl) (fun _ _ _ h => h) (Or.inl ⟨by rfl, ?hy1⟩) (by assumption) ?rest1
      case hy1 => (intro w hSw; (try dsimp only at hSw); go_simp; try with_reducible rfl)
      simp only [Act.put, List.setIfInBounds_toArray, List.set_cons_zero, List.set_cons_succ]
      refine wpAnyH_take (i := 2) (oi := { dst := some 19, op := Op.indexAddr 24 (Operand.tmp 17) (Operand.tmp 18), type := 0, pos := "ref.go:222", after := #[{ on := 0, ground := Ground.data }, { on := 1, ground := Ground.data }], guard := none }) (v := ?vv2) rfl (by kernel_rfl) (by kernel_rfl) (by kernel_rfl) (fun _ _ _ h => h) (Or.inl ⟨by rfl, ?hy2⟩) (by assumption) ?rest2
      case hy2 => (intro w hSw; (try dsimp only at hSw); go_simp; try with_reducible rfl)
      simp only [Act.put, List.setIfInBounds_toArray, List.set_cons_zero, List.set_cons_succ]
      refine wpAnyH_take (i := 3) (oi := { dst := some 20, op := Op.load 52 (Operand.tmp 19), type := 52, pos := "ref.go:222", after := #[{ on := 2, ground := Ground.data }], guard := none }) (v := en o) rfl (by kernel_rfl) (by kernel_rfl) (by kernel_rfl) (fun _ _ _ h => h) (yieldsIf_load_mid (by rfl) _ _ rfl b (off + k * 18) rfl (enC o).toList _ (fun w h => h.1.1) Try.underlying52 rfl (by kernel_rfl)) (by assumption) ?_
      simp only [Act.put, List.setIfInBounds_toArray, List.set_cons_zero, List.set_cons_succ]
      refine wpAnyH_take (i := 4) (oi := { dst := some 21, op := Op.move (Operand.tmp 1), type := 24, pos := "ref.go:222", after := #[], guard := none }) (v := ?vv4) rfl (by kernel_rfl) (by kernel_rfl) (by kernel_rfl) (fun _ _ _ h => h) (Or.inl ⟨by rfl, ?hy4⟩) (by assumption) ?rest4
      case hy4 => (intro w hSw; (try dsimp only at hSw); go_simp; try with_reducible rfl)
      simp only [Act.put, List.setIfInBounds_toArray, List.set_cons_zero, List.set_cons_succ]
      refine wpAnyH_take (i := 5) (oi := { dst := some 22, op := Op.move (Operand.tmp 5), type := 3, pos := "ref.go:222", after := #[], guard := none }) (v := ?vv5) rfl (by kernel_rfl) (by kernel_rfl) (by kernel_rfl) (fun _ _ _ h => h) (Or.inl ⟨by rfl, ?hy5⟩) (by assumption) ?rest5
      case hy5 => (intro w hSw; (try dsimp only at hSw); go_simp; try with_reducible rfl)
      simp only [Act.put, List.setIfInBounds_toArray, List.set_cons_zero, List.set_cons_succ]
      refine wpAnyH_take (i := 6) (oi := { dst := some 23, op := Op.indexAddr 24 (Operand.tmp 21) (Operand.tmp 22), type := 0, pos := "ref.go:222", after := #[{ on := 4, ground := Ground.data }, { on := 5, ground := Ground.data }], guard := none }) (v := ?vv6) rfl (by kernel_rfl) (by kernel_rfl) (by kernel_rfl) (fun _ _ _ h => h) (Or.inl ⟨by rfl, ?hy6⟩) (by assumption) ?rest6
      case hy6 => (intro w hSw; (try dsimp only at hSw); go_simp; try with_reducible rfl)
      simp only [Act.put, List.setIfInBounds_toArray, List.set_cons_zero, List.set_cons_succ]
      refine wpAnyH_take (i := 7) (oi := { dst := some 24, op := Op.load 52 (Operand.tmp 23), type := 52, pos := "ref.go:222", after := #[{ on := 6, ground := Ground.data }], guard := none }) (v := en o) rfl (by kernel_rfl) (by kernel_rfl) (by kernel_rfl) (fun _ _ _ h => h) (yieldsIf_load_mid (by rfl) _ _ rfl b2 (off2 + k * 18) rfl (enC o).toList _ (fun w h => h.1.2) Try.underlying52 rfl (by kernel_rfl)) (by assumption) ?_
      simp only [Act.put, List.setIfInBounds_toArray, List.set_cons_zero, List.set_cons_succ]
      refine wpAnyH_take (i := 8) (oi := { dst := some 25, op := Op.binOp BinOp.neq 52 (Operand.tmp 20) (Operand.tmp 24) 52, type := 4, pos := "ref.go:222", after := #[{ on := 3, ground := Ground.data }, { on := 7, ground := Ground.data }], guard := none }) (v := ?vv8) rfl (by kernel_rfl) (by kernel_rfl) (by kernel_rfl) (fun _ _ _ h => h) (Or.inl ⟨by rfl, ?hy8⟩) (by assumption) ?rest8
      case hy8 => (intro w hSw; (try dsimp only at hSw); go_simp; try with_reducible rfl)
      simp only [Act.put, List.setIfInBounds_toArray, List.set_cons_zero, List.set_cons_succ]
      refine wpAnyH_done (by kernel_rfl) ?_ _
      go_wp2
      go_roundw
      case rel => exact ⟨k + 1, by go_num, by omega, K1.out.trans ⟨rfl, rfl, rfl, Nat.le_refl _, fun _ _ => rfl⟩⟩
      case measure => simp [intOf]; omega
    · obtain rfl : k = l.length := by omega
      have i1 : ¬ (l.length : Int) < l.length := by omega
      go_wp2
      go_ret
      exact ⟨rfl, k1⟩
end Go.Proofs.Ytejjlmdaalfenaa.PX
