/-
  WALKS: the law's Long and LongAll.
-/
import Derived.Test.YtkgjgbenfpkekaaGreatPEn
import Derived.Test.YtkgjgbenfpkekaaGreatDEq
import Derived.Test.YtkgjgbenfpkekaaGreatPRest
namespace Go.Proofs.YtkgjgbenfpkekaaGreat.PX
open Go.RowKit HL
open IX (ptr El cellsK cellsK_at cellsK_len OwnK RdK Kept)
open WX (obK obs_at)
open DX (Ch ch chCells chK chs_at)
set_option maxRecDepth 100000
set_option linter.unusedVariables false
set_option linter.unusedSimpArgs false

def longB (o : Ob) : Bool := decide (300 < o.handle.size) || decide (300 < o.parent.size) || decide (300 < o.ref.size)
def longE (e : En) : Bool := longB e.o || decide (300 < e.handle.size)
def longAll (l : List Ob) (s : List Ch) (es : List En) : Bool := decide (80 < l.length) || decide (80 < s.length) || decide (80 < es.length) || l.any longB || s.any (fun c => longB c.o) || es.any longE
set_option maxHeartbeats 2000000 in
theorem long13_any (o : Ob) (w : World) : Calls Tryz.prog 54 #[ob o] w fun e w' => e = .returned (.bool (longB o)) ∧ Below w.heap.size w w' := by
  have hb := bAl (Below.refl w.heap.size w) (.cells (obCells o) 45)
  have hm := (AtC.new w (obCells o) 45).c
  have HB := Lib.hid hb
  clear hb
  by_cases h1 : 300 < o.handle.size
  · have e : Hid (longB o = true) := Lib.hid (by simp [longB, h1])
    have i1 : (300 : Int) < (o.handle.size : Int) := by omega
    go_enter Tryz.func54, Tryz.ntmps54
    go_wp2
    go_ret
    exact ⟨by rw [e.out]; rfl, HB.out⟩
  · have i1 : ¬ (300 : Int) < (o.handle.size : Int) := by omega
    by_cases h2 : 300 < o.parent.size
    · have e : Hid (longB o = true) := Lib.hid (by simp [longB, h2])
      have i2 : (300 : Int) < (o.parent.size : Int) := by omega
      go_enter Tryz.func54, Tryz.ntmps54
      go_wp2
      go_ret
      exact ⟨by rw [e.out]; rfl, HB.out⟩
    · have i2 : ¬ (300 : Int) < (o.parent.size : Int) := by omega
      by_cases h3 : 300 < o.ref.size
      · have e : Hid (longB o = true) := Lib.hid (by simp [longB, h3])
        have i3 : (300 : Int) < (o.ref.size : Int) := by omega
        go_enter Tryz.func54, Tryz.ntmps54
        go_wp2
        go_ret
        exact ⟨by rw [e.out]; rfl, HB.out⟩
      · have i3 : ¬ (300 : Int) < (o.ref.size : Int) := by omega
        have e : Hid (longB o = false) := Lib.hid (by simp [longB, h1, h2, h3])
        go_enter Tryz.func54, Tryz.ntmps54
        go_wp2
        go_ret
        exact ⟨by rw [e.out]; rfl, HB.out⟩
theorem take_any {α : Type} {p : α → Bool} {l : List α} {k : Nat} (h : k < l.length) : (l.take (k + 1)).any p = ((l.take k).any p || p l[k]) := by
  rw [List.take_succ_eq_append_getElem h, List.any_append]; simp
theorem any_at {α : Type} {p : α → Bool} {l : List α} {k : Nat} (h : k < l.length) (hp : p l[k] = true) : l.any p = true := List.any_eq_true.2 ⟨_, List.getElem_mem h, hp⟩
set_option maxHeartbeats 16000000 in
theorem longAll_any (A1 A2 A3 : Option Addr) (c1 c2 c3 : Nat) (l : List Ob) (s : List Ch) (es : List En) (w : World) (h1 : RdK obK w w.heap.size A1 l) (h2 : RdK chK w w.heap.size A2 s) (h3 : RdK enK w w.heap.size A3 es) (m1 : l.length ≤ maxLen) (m2 : s.length ≤ maxLen) (m3 : es.length ≤ maxLen) :
    Calls Tryz.prog 55 #[.slice A1 l.length c1, .slice A2 s.length c2, .slice A3 es.length c3] w fun e w' => e = .returned (.bool (longAll l s es)) ∧ Below w.heap.size w w' := by
  have CL := Lib.hid long13_any
  by_cases a1 : 80 < l.length
  · have e : Hid (longAll l s es = true) := Lib.hid (by simp [longAll, a1])
    have i1 : (80 : Int) < (l.length : Int) := by omega
    go_enter Tryz.func55, Tryz.ntmps55
    go_wp2
    go_ret
    exact ⟨by rw [e.out]; rfl, Below.refl _ _⟩
  · have i1 : ¬ (80 : Int) < (l.length : Int) := by omega
    by_cases a2 : 80 < s.length
    · have e : Hid (longAll l s es = true) := Lib.hid (by simp [longAll, a2])
      have i2 : (80 : Int) < (s.length : Int) := by omega
      go_enter Tryz.func55, Tryz.ntmps55
      go_wp2
      go_ret
      exact ⟨by rw [e.out]; rfl, Below.refl _ _⟩
    · have i2 : ¬ (80 : Int) < (s.length : Int) := by omega
      by_cases a3 : 80 < es.length
      · have e : Hid (longAll l s es = true) := Lib.hid (by simp [longAll, a3])
        have i3 : (80 : Int) < (es.length : Int) := by omega
        go_enter Tryz.func55, Tryz.ntmps55
        go_wp2
        go_ret
        exact ⟨by rw [e.out]; rfl, Below.refl _ _⟩
      · have i3 : ¬ (80 : Int) < (es.length : Int) := by omega
        have HA : Hid (longAll l s es = (l.any longB || s.any (fun c => longB c.o) || es.any longE)) := Lib.hid (by simp [longAll, a1, a2, a3])
        have H1 := Lib.hid h1
        have H2 := Lib.hid h2
        have H3 := Lib.hid h3
        clear h1 h2 h3 m1 m2 m3
        go_enter Tryz.func55, Tryz.ntmps55
        go_wp2
        go_loopw [7] (fun i wr => ∃ k : Nat, i = .int .i64 k ∧ k ≤ l.length ∧ Hid ((l.take k).any longB = false) ∧ Below w.heap.size w wr) (fun i _ => l.length - (intOf i).toNat)
        case atStart => exact ⟨0, rfl, by omega, Lib.hid (by simp), Below.refl _ _⟩
        case round =>
          obtain ⟨k, rfl, hk, HP, k1⟩ := hrel
          have K1 := Lib.hid k1
          by_cases hlt : k < l.length
          · have j1 : (k : Int) < (l.length : Int) := by omega
            obtain ⟨b, off, rfl, hbk, hcc⟩ := obs_at (H1.out.below k1) (by omega)
            obtain ⟨p0, p1, p2, p3, p4, p5, p6, p7, p8, p9, p10, p11, p12, p13⟩ := hcc k _ (List.getElem?_eq_getElem hlt)
            have HN := Lib.hid (take_any (p := longB) hlt)
            have HT := Lib.hid (fun q => any_at (p := longB) hlt q)
            clear hcc
            generalize l[k] = o at *
            have CLo := CL.out o wr
            cases hb : longB o with
            | true =>
              have HR := Lib.hid (HT.out hb)
              rw [hb] at CLo
              replace CLo := Lib.hid CLo
              clear hb HT HN
              go_wp2_with (go_at_call 54; ((refine CLo.out.mono ?_); rintro e w2 ⟨rfl, k2⟩; have K2 := Lib.hid (bThen K1.out k2); clear k2))
              refine bodyPost_ret (results_tmp rfl _ _ _) rfl ?_
              exact ⟨by rw [HA.out, HR.out]; rfl, K2.out⟩
            | false =>
              rw [hb] at CLo
              replace CLo := Lib.hid CLo
              have HF := Lib.hid hb
              clear hb HT
              go_wp2_with (go_at_call 54; ((refine CLo.out.mono ?_); rintro e w2 ⟨rfl, k2⟩; have K2 := Lib.hid (bThen K1.out k2); clear k2))
              go_roundw
              case rel => exact ⟨k + 1, by go_num, by omega, Lib.hid (by rw [HN.out, HP.out, HF.out]; rfl), K2.out⟩
              case measure => simp [intOf]; omega
          · obtain rfl : k = l.length := by omega
            have j1 : ¬ (l.length : Int) < (l.length : Int) := by omega
            have HL : Hid (l.any longB = false) := Lib.hid (by have := HP.out; rwa [List.take_length] at this)
            clear HP
            go_wp2
            go_loopw [8] (fun i wr2 => ∃ k : Nat, i = .int .i64 k ∧ k ≤ s.length ∧ Hid ((s.take k).any (fun c => longB c.o) = false) ∧ Below w.heap.size w wr2) (fun i _ => s.length - (intOf i).toNat)
            case atStart => exact ⟨0, rfl, by omega, Lib.hid (by simp), K1.out⟩
            case round =>
              clear K1 k1
              obtain ⟨k, rfl, hk, HP, k1⟩ := hrel
              have K1 := Lib.hid k1
              by_cases hlt : k < s.length
              · have j2 : (k : Int) < (s.length : Int) := by omega
                obtain ⟨b, off, rfl, hbk, hcc⟩ := chs_at (H2.out.below k1) (by omega)
                obtain ⟨p0, p1, p2, p3, p4, p5, p6, p7, p8, p9, p10, p11, p12, p13, p14⟩ := hcc k _ (List.getElem?_eq_getElem hlt)
                have HN := Lib.hid (take_any (p := fun c : Ch => longB c.o) hlt)
                have HT := Lib.hid (fun q => any_at (p := fun c : Ch => longB c.o) hlt q)
                clear hcc
                generalize s[k] = cc at *
                have CLo := CL.out cc.o wr
                cases hb : longB cc.o with
                | true =>
                  have HR := Lib.hid (HT.out hb)
                  rw [hb] at CLo
                  replace CLo := Lib.hid CLo
                  clear hb HT HN
                  go_wp2_with (go_at_call 54; ((refine CLo.out.mono ?_); rintro e w2 ⟨rfl, k2⟩; have K2 := Lib.hid (bThen K1.out k2); clear k2))
                  refine bodyPost_ret (results_tmp rfl _ _ _) rfl ?_
                  exact ⟨by rw [HA.out, HL.out, HR.out]; rfl, K2.out⟩
                | false =>
                  rw [hb] at CLo
                  replace CLo := Lib.hid CLo
                  have HF := Lib.hid hb
                  clear hb HT
                  go_wp2_with (go_at_call 54; ((refine CLo.out.mono ?_); rintro e w2 ⟨rfl, k2⟩; have K2 := Lib.hid (bThen K1.out k2); clear k2))
                  go_roundw
                  case rel => exact ⟨k + 1, by go_num, by omega, Lib.hid (by rw [HN.out, HP.out, HF.out]; rfl), K2.out⟩
                  case measure => simp [intOf]; omega
              · obtain rfl : k = s.length := by omega
                have j2 : ¬ (s.length : Int) < (s.length : Int) := by omega
                have HL2 : Hid (s.any (fun c => longB c.o) = false) := Lib.hid (by have := HP.out; rwa [List.take_length] at this)
                clear HP
                go_wp2
                go_loopw [9] (fun i wr3 => ∃ k : Nat, i = .int .i64 k ∧ k ≤ es.length ∧ Hid ((es.take k).any longE = false) ∧ Below w.heap.size w wr3) (fun i _ => es.length - (intOf i).toNat)
                case atStart => exact ⟨0, rfl, by omega, Lib.hid (by simp), K1.out⟩
                case round =>
                  clear K1 k1
                  obtain ⟨k, rfl, hk, HP, k1⟩ := hrel
                  have K1 := Lib.hid k1
                  by_cases hlt : k < es.length
                  · have j3 : (k : Int) < (es.length : Int) := by omega
                    obtain ⟨b, off, rfl, hbk, hcc⟩ := ens_at (H3.out.below k1) (by omega)
                    obtain ⟨p0, p1, p2, p3, p4, p5, p6, p7, p8, p9, p10, p11, p12, p13, p14, p15, p16, p17⟩ := hcc k _ (List.getElem?_eq_getElem hlt)
                    have HN := Lib.hid (take_any (p := longE) hlt)
                    have HT := Lib.hid (fun q => any_at (p := longE) hlt q)
                    have hsz := k1.size
                    clear hcc
                    generalize es[k] = ee at *
                    have CLo := CL.out ee.o wr
                    cases hb : longB ee.o with
                    | true =>
                      have HR := Lib.hid (HT.out (by simp [longE, hb]))
                      rw [hb] at CLo
                      replace CLo := Lib.hid CLo
                      clear hb HT HN
                      go_wp2_with (go_at_call 54; ((refine CLo.out.mono ?_); rintro e w2 ⟨rfl, k2⟩; have K2 := Lib.hid (bThen K1.out k2); clear k2))
                      refine bodyPost_ret (results_tmp rfl _ _ _) rfl ?_
                      exact ⟨by rw [HA.out, HL.out, HL2.out, HR.out]; rfl, K2.out⟩
                    | false =>
                      rw [hb] at CLo
                      replace CLo := Lib.hid CLo
                      by_cases hh : 300 < ee.handle.size
                      · have HR := Lib.hid (HT.out (by simp [longE, hh]))
                        have j4 : (300 : Int) < (ee.handle.size : Int) := by omega
                        clear hb HT HN hh
                        go_wp2_with (go_at_call 54; ((refine CLo.out.mono ?_); rintro e w2 ⟨rfl, k2⟩; have q0 := (k2.cell (show (⟨b, off + k * 18, none⟩ : Addr).block < wr.heap.size from Nat.lt_of_lt_of_le hbk hsz)).trans p0; have K2 := Lib.hid (bThen K1.out k2); clear k2))
                        refine bodyPost_ret (results_tmp rfl _ _ _) rfl ?_
                        exact ⟨by rw [HA.out, HL.out, HL2.out, HR.out]; rfl, K2.out⟩
                      · have j4 : ¬ (300 : Int) < (ee.handle.size : Int) := by omega
                        have HF : Hid (longE ee = false) := Lib.hid (by simp [longE, hb, hh])
                        clear hb HT hh
                        go_wp2_with (go_at_call 54; ((refine CLo.out.mono ?_); rintro e w2 ⟨rfl, k2⟩; have q0 := (k2.cell (show (⟨b, off + k * 18, none⟩ : Addr).block < wr.heap.size from Nat.lt_of_lt_of_le hbk hsz)).trans p0; have K2 := Lib.hid (bThen K1.out k2); clear k2))
                        go_roundw
                        case rel => exact ⟨k + 1, by go_num, by omega, Lib.hid (by rw [HN.out, HP.out, HF.out]; rfl), K2.out⟩
                        case measure => simp [intOf]; omega
                  · obtain rfl : k = es.length := by omega
                    have j3 : ¬ (es.length : Int) < (es.length : Int) := by omega
                    have HL3 : Hid (es.any longE = false) := Lib.hid (by have := HP.out; rwa [List.take_length] at this)
                    clear HP
                    go_wp2
                    first | go_ret | (refine bodyPost_ret (results_tmp rfl _ _ _) rfl ?_)
                    exact ⟨by rw [HA.out, HL.out, HL2.out, HL3.out]; rfl, K1.out⟩
end Go.Proofs.YtkgjgbenfpkekaaGreat.PX
/-
  PLAIN: four things, written one behind the other, are read as what they were.
-/
namespace Go.Proofs.YtkgjgbenfpkekaaGreat.PX
open Go.RowKit HL
open YX (numB rdU rdB rdT rdS rdI addW intN natI rest told)
open DX (Ch)
set_option maxRecDepth 100000
set_option linter.unusedVariables false
set_option linter.unusedSimpArgs false

theorem four {e : En} {o : Ob} {c : Ch} {b : Bs} (h : codO.W (codC.W (codO.W (codE.W (some []) e) o) c) o = some b) :
    codE.short e = true ∧ codO.short o = true ∧ codC.short c = true ∧ b = codE.B e ++ (codO.B o ++ (codC.B c ++ (codO.B o ++ []))) := by
  rw [codO.w_eq, codC.w_eq, codO.w_eq, codE.w_eq] at h
  cases h1 : codO.short o with
  | false => rw [h1] at h; simp at h
  | true =>
    cases h2 : codC.short c with
    | false =>
      rw [h1, h2] at h
      simp [addW] at h
    | true =>
      cases h3 : codE.short e with
      | false => rw [h1, h2, h3] at h; simp [addW] at h
      | true =>
        rw [h1, h2, h3] at h
        simp only [if_true] at h
        refine ⟨rfl, rfl, rfl, ?_⟩
        rw [addW_app, addW_app, addW_app] at h
        simp only [addW, List.nil_append] at h
        split at h
        · cases h
        · injection h with h
          rw [← h]
          simp [List.append_assoc]
theorem four_read {e : En} {o : Ob} {c : Ch} {b : Bs} (fe : FineE e) (fo : Fine o) (fc : FineC c) (h : codO.W (codC.W (codO.W (codE.W (some []) e) o) c) o = some b) :
    ∃ s1 s2 s3, getE (some b) = (e, s1) ∧ getO s1 = (o, s2) ∧ getC s2 = (c, s3) ∧ getO s3 = (o, some []) := by
  obtain ⟨h1, h2, h3, rfl⟩ := four h
  exact ⟨_, _, _, codE.rd_B e fe h1 _, codO.rd_B o fo h2 _, codC.rd_B c fc h3 _, codO.rd_B o fo h2 _⟩
/-- What came in, and isn't too long. -/
structure In (o : Ob) : Prop where
  kind : o.kind < 256
  typ : o.typ < 256
  digits : o.digits < 256
  assoc : o.assoc < 256
  lo : -9223372036854775808 ≤ o.lo ∧ o.lo < 9223372036854775808
  hi : -9223372036854775808 ≤ o.hi ∧ o.hi < 9223372036854775808
  value : -9223372036854775808 ≤ o.value ∧ o.value < 9223372036854775808
  low : -9223372036854775808 ≤ o.low ∧ o.low < 9223372036854775808
  high : -9223372036854775808 ≤ o.high ∧ o.high < 9223372036854775808
theorem tx_len (b : ByteArray) : (tx b).length = b.size := rfl
theorem fine_of {o : Ob} (h : In o) (hl : longB o = false) : Fine o := by
  simp only [longB, Bool.or_eq_false_iff, decide_eq_false_iff_not] at hl
  exact ⟨h.kind, h.typ, h.digits, h.assoc, h.lo, h.hi, h.value, h.low, h.high, by rw [tx_len]; omega, by rw [tx_len]; omega, by rw [tx_len]; omega⟩
end Go.Proofs.YtkgjgbenfpkekaaGreat.PX
