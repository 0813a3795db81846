/-
  WALKS: the law's Long and LongAll.
-/
import Derived.Test.YtjocbokfdfdkeaaGreatLZ6
import Derived.Test.YtjocbokfdfdkeaaGreatLZLPutQ
import Derived.Test.YtjocbokfdfdkeaaGreatLZLPutP
import Derived.Test.YtjocbokfdfdkeaaGreatLZPRest
import Derived.Test.YtjocbokfdfdkeaaGreatLZ12
import Derived.Test.YtjocbokfdfdkeaaGreatLZLOneM
import Derived.Test.YtjocbokfdfdkeaaGreatLZ11
import Derived.Deep.MidRow
namespace Go.Proofs.YtjocbokfdfdkeaaGreat.PX
open Go.RowKit HL
open IX (ptr El cellsK cellsK_at cellsK_len OwnK RdK Kept)
open WX (obK obs_at)
open DX (Ch ch chCells chK chs_at)
set_option maxRecDepth 100000
set_option linter.unusedVariables false
set_option linter.unusedSimpArgs false

def longB (o : Ob) : Bool := decide (300 < o.handle.size) || decide (300 < o.parent.size) || decide (300 < o.ref.size)
def longE (e : En) : Bool := longB e.o || decide (300 < e.handle.size)
def longAll (l : List Ob) (s : List Ch) (es : List En) : Bool := decide (80 < l.length) || decide (80 < s.length) || decide (80 < es.length) || l.any longB || s.any (fun c => longB c.o) || es.any longE
set_option maxHeartbeats 2000000 in
theorem long13_any (o : Ob) (w : World) : Calls Tryz.prog 27 #[ob o] w fun e w' => e = .returned (.bool (longB o)) ∧ Below w.heap.size w w' := by
  have hb := bAl (Below.refl w.heap.size w) (.cells (obCells o) 24)
  have hm := (AtC.new w (obCells o) 24).c
  have HB := Lib.hid hb
  clear hb
  by_cases h1 : 300 < o.handle.size
  · have e : Hid (longB o = true) := Lib.hid (by simp [longB, h1])
    have i1 : (300 : Int) < (o.handle.size : Int) := by omega
    go_enter Tryz.func27, Tryz.ntmps27
    go_wp2
    go_ret
    exact ⟨by rw [e.out]; rfl, HB.out⟩
  · have i1 : ¬ (300 : Int) < (o.handle.size : Int) := by omega
    by_cases h2 : 300 < o.parent.size
    · have e : Hid (longB o = true) := Lib.hid (by simp [longB, h2])
      have i2 : (300 : Int) < (o.parent.size : Int) := by omega
      go_enter Tryz.func27, Tryz.ntmps27
      go_wp2
      go_ret
      exact ⟨by rw [e.out]; rfl, HB.out⟩
    · have i2 : ¬ (300 : Int) < (o.parent.size : Int) := by omega
      by_cases h3 : 300 < o.ref.size
      · have e : Hid (longB o = true) := Lib.hid (by simp [longB, h3])
        have i3 : (300 : Int) < (o.ref.size : Int) := by omega
        go_enter Tryz.func27, Tryz.ntmps27
        go_wp2
        go_ret
        exact ⟨by rw [e.out]; rfl, HB.out⟩
      · have i3 : ¬ (300 : Int) < (o.ref.size : Int) := by omega
        have e : Hid (longB o = false) := Lib.hid (by simp [longB, h1, h2, h3])
        go_enter Tryz.func27, Tryz.ntmps27
        go_wp2
        go_ret
        exact ⟨by rw [e.out]; rfl, HB.out⟩
theorem take_any {α : Type} {p : α → Bool} {l : List α} {k : Nat} (h : k < l.length) : (l.take (k + 1)).any p = ((l.take k).any p || p l[k]) := by
  rw [List.take_succ_eq_append_getElem h, List.any_append]; simp
theorem any_at {α : Type} {p : α → Bool} {l : List α} {k : Nat} (h : k < l.length) (hp : p l[k] = true) : l.any p = true := List.any_eq_true.2 ⟨_, List.getElem_mem h, hp⟩
set_option maxHeartbeats 16000000 in
theorem longAll_any (A1 A2 A3 : Option Addr) (c1 c2 c3 : Nat) (l : List Ob) (s : List Ch) (es : List En) (w : World) (h1 : RdK obK w w.heap.size A1 l) (h2 : RdK chK w w.heap.size A2 s) (h3 : RdK enK w w.heap.size A3 es) (m1 : l.length ≤ maxLen) (m2 : s.length ≤ maxLen) (m3 : es.length ≤ maxLen) :
    Calls Tryz.prog 28 #[.slice A1 l.length c1, .slice A2 s.length c2, .slice A3 es.length c3] w fun e w' => e = .returned (.bool (longAll l s es)) ∧ Below w.heap.size w w' := by
  have CL := Lib.hid long13_any
  by_cases a1 : 80 < l.length
  · have e : Hid (longAll l s es = true) := Lib.hid (by simp [longAll, a1])
    have i1 : (80 : Int) < (l.length : Int) := by omega
    go_enter Tryz.func28, Tryz.ntmps28
    go_wp2
    go_ret
    exact ⟨by rw [e.out]; rfl, Below.refl _ _⟩
  · have i1 : ¬ (80 : Int) < (l.length : Int) := by omega
    by_cases a2 : 80 < s.length
    · have e : Hid (longAll l s es = true) := Lib.hid (by simp [longAll, a2])
      have i2 : (80 : Int) < (s.length : Int) := by omega
      go_enter Tryz.func28, Tryz.ntmps28
      go_wp2
      go_ret
      exact ⟨by rw [e.out]; rfl, Below.refl _ _⟩
    · have i2 : ¬ (80 : Int) < (s.length : Int) := by omega
      by_cases a3 : 80 < es.length
      · have e : Hid (longAll l s es = true) := Lib.hid (by simp [longAll, a3])
        have i3 : (80 : Int) < (es.length : Int) := by omega
        go_enter Tryz.func28, Tryz.ntmps28
        go_wp2
        go_ret
        exact ⟨by rw [e.out]; rfl, Below.refl _ _⟩
      · have i3 : ¬ (80 : Int) < (es.length : Int) := by omega
        have HA : Hid (longAll l s es = (l.any longB || s.any (fun c => longB c.o) || es.any longE)) := Lib.hid (by simp [longAll, a1, a2, a3])
        have H1 := Lib.hid h1
        have H2 := Lib.hid h2
        have H3 := Lib.hid h3
        clear h1 h2 h3 m1 m2 m3
        go_enter Tryz.func28, Tryz.ntmps28
        go_wp2
        go_loopw [7] (fun i wr => ∃ k : Nat, i = .int .i64 k ∧ k ≤ l.length ∧ Hid ((l.take k).any longB = false) ∧ Below w.heap.size w wr) (fun i _ => l.length - (intOf i).toNat)
        case atStart => exact ⟨0, rfl, by omega, Lib.hid (by simp), Below.refl _ _⟩
        case round =>
          obtain ⟨k, rfl, hk, HP, k1⟩ := hrel
          have K1 := Lib.hid k1
          by_cases hlt : k < l.length
          · have j1 : (k : Int) < (l.length : Int) := by omega
            obtain ⟨b, off, rfl, hbk, hcc⟩ := obs_at (H1.out.below k1) (by omega)
            obtain ⟨p0, p1, p2, p3, p4, p5, p6, p7, p8, p9, p10, p11, p12, p13⟩ := hcc k _ (List.getElem?_eq_getElem hlt)
            have HN := Lib.hid (take_any (p := longB) hlt)
            have HT := Lib.hid (fun q => any_at (p := longB) hlt q)
            clear hcc
            generalize l[k] = o at *
            have CLo := CL.out o wr
            cases hb : longB o with
            | true =>
              have HR := Lib.hid (HT.out hb)
              rw [hb] at CLo
              replace CLo := Lib.hid CLo
              clear hb HT HN
              go_wp2_with (go_at_call 27; ((refine CLo.out.mono ?_); rintro e w2 ⟨rfl, k2⟩; have K2 := Lib.hid (bThen K1.out k2); clear k2))
              refine bodyPost_ret (results_tmp rfl _ _ _) rfl ?_
              exact ⟨by rw [HA.out, HR.out]; rfl, K2.out⟩
            | false =>
              rw [hb] at CLo
              replace CLo := Lib.hid CLo
              have HF := Lib.hid hb
              clear hb HT
              go_wp2_with (go_at_call 27; ((refine CLo.out.mono ?_); rintro e w2 ⟨rfl, k2⟩; have K2 := Lib.hid (bThen K1.out k2); clear k2))
              go_roundw
              case rel => exact ⟨k + 1, by go_num, by omega, Lib.hid (by rw [HN.out, HP.out, HF.out]; rfl), K2.out⟩
              case measure => simp [intOf]; omega
          · obtain rfl : k = l.length := by omega
            have j1 : ¬ (l.length : Int) < (l.length : Int) := by omega
            have HL : Hid (l.any longB = false) := Lib.hid (by have := HP.out; rwa [List.take_length] at this)
            clear HP
            go_wp2
            go_loopw [8] (fun i wr2 => ∃ k : Nat, i = .int .i64 k ∧ k ≤ s.length ∧ Hid ((s.take k).any (fun c => longB c.o) = false) ∧ Below w.heap.size w wr2) (fun i _ => s.length - (intOf i).toNat)
            case atStart => exact ⟨0, rfl, by omega, Lib.hid (by simp), K1.out⟩
            case round =>
              clear K1 k1
              obtain ⟨k, rfl, hk, HP, k1⟩ := hrel
              have K1 := Lib.hid k1
              by_cases hlt : k < s.length
              · have j2 : (k : Int) < (s.length : Int) := by omega
                obtain ⟨b, off, rfl, hbk, hcc⟩ := chs_at (H2.out.below k1) (by omega)
                obtain ⟨p0, p1, p2, p3, p4, p5, p6, p7, p8, p9, p10, p11, p12, p13, p14⟩ := hcc k _ (List.getElem?_eq_getElem hlt)
                have HN := Lib.hid (take_any (p := fun c : Ch => longB c.o) hlt)
                have HT := Lib.hid (fun q => any_at (p := fun c : Ch => longB c.o) hlt q)
                clear hcc
                generalize s[k] = cc at *
                have CLo := CL.out cc.o wr
                cases hb : longB cc.o with
                | true =>
                  have HR := Lib.hid (HT.out hb)
                  rw [hb] at CLo
                  replace CLo := Lib.hid CLo
                  clear hb HT HN
                  go_wp2_with (go_at_call 27; ((refine CLo.out.mono ?_); rintro e w2 ⟨rfl, k2⟩; have K2 := Lib.hid (bThen K1.out k2); clear k2))
                  refine bodyPost_ret (results_tmp rfl _ _ _) rfl ?_
                  exact ⟨by rw [HA.out, HL.out, HR.out]; rfl, K2.out⟩
                | false =>
                  rw [hb] at CLo
                  replace CLo := Lib.hid CLo
                  have HF := Lib.hid hb
                  clear hb HT
                  go_wp2_with (go_at_call 27; ((refine CLo.out.mono ?_); rintro e w2 ⟨rfl, k2⟩; have K2 := Lib.hid (bThen K1.out k2); clear k2))
                  go_roundw
                  case rel => exact ⟨k + 1, by go_num, by omega, Lib.hid (by rw [HN.out, HP.out, HF.out]; rfl), K2.out⟩
                  case measure => simp [intOf]; omega
              · obtain rfl : k = s.length := by omega
                have j2 : ¬ (s.length : Int) < (s.length : Int) := by omega
                have HL2 : Hid (s.any (fun c => longB c.o) = false) := Lib.hid (by have := HP.out; rwa [List.take_length] at this)
                clear HP
                go_wp2
                go_loopw [9] (fun i wr3 => ∃ k : Nat, i = .int .i64 k ∧ k ≤ es.length ∧ Hid ((es.take k).any longE = false) ∧ Below w.heap.size w wr3) (fun i _ => es.length - (intOf i).toNat)
                case atStart => exact ⟨0, rfl, by omega, Lib.hid (by simp), K1.out⟩
                case round =>
                  clear K1 k1
                  obtain ⟨k, rfl, hk, HP, k1⟩ := hrel
                  have K1 := Lib.hid k1
                  by_cases hlt : k < es.length
                  · have j3 : (k : Int) < (es.length : Int) := by omega
                    obtain ⟨b, off, rfl, hbk, hcc⟩ := ens_at (H3.out.below k1) (by omega)
                    obtain ⟨p0, p1, p2, p3, p4, p5, p6, p7, p8, p9, p10, p11, p12, p13, p14, p15, p16, p17⟩ := hcc k _ (List.getElem?_eq_getElem hlt)
                    have HN := Lib.hid (take_any (p := longE) hlt)
                    have HT := Lib.hid (fun q => any_at (p := longE) hlt q)
                    have hsz := k1.size
                    clear hcc
                    generalize es[k] = ee at *
                    have CLo := CL.out ee.o wr
                    cases hb : longB ee.o with
                    | true =>
                      have HR := Lib.hid (HT.out (by simp [longE, hb]))
                      rw [hb] at CLo
                      replace CLo := Lib.hid CLo
                      clear hb HT HN
                      go_wp2_with (go_at_call 27; ((refine CLo.out.mono ?_); rintro e w2 ⟨rfl, k2⟩; have K2 := Lib.hid (bThen K1.out k2); clear k2))
                      refine bodyPost_ret (results_tmp rfl _ _ _) rfl ?_
                      exact ⟨by rw [HA.out, HL.out, HL2.out, HR.out]; rfl, K2.out⟩
                    | false =>
                      rw [hb] at CLo
                      replace CLo := Lib.hid CLo
                      by_cases hh : 300 < ee.handle.size
                      · have HR := Lib.hid (HT.out (by simp [longE, hh]))
                        have j4 : (300 : Int) < (ee.handle.size : Int) := by omega
                        clear hb HT HN hh
                        go_wp2_with (go_at_call 27; ((refine CLo.out.mono ?_); rintro e w2 ⟨rfl, k2⟩; have q0 := (k2.cell (show (⟨b, off + k * 18, none⟩ : Addr).block < wr.heap.size from Nat.lt_of_lt_of_le hbk hsz)).trans p0; have K2 := Lib.hid (bThen K1.out k2); clear k2))
                        refine bodyPost_ret (results_tmp rfl _ _ _) rfl ?_
                        exact ⟨by rw [HA.out, HL.out, HL2.out, HR.out]; rfl, K2.out⟩
                      · have j4 : ¬ (300 : Int) < (ee.handle.size : Int) := by omega
                        have HF : Hid (longE ee = false) := Lib.hid (by simp [longE, hb, hh])
                        clear hb HT hh
                        go_wp2_with (go_at_call 27; ((refine CLo.out.mono ?_); rintro e w2 ⟨rfl, k2⟩; have q0 := (k2.cell (show (⟨b, off + k * 18, none⟩ : Addr).block < wr.heap.size from Nat.lt_of_lt_of_le hbk hsz)).trans p0; have K2 := Lib.hid (bThen K1.out k2); clear k2))
                        go_roundw
                        case rel => exact ⟨k + 1, by go_num, by omega, Lib.hid (by rw [HN.out, HP.out, HF.out]; rfl), K2.out⟩
                        case measure => simp [intOf]; omega
                  · obtain rfl : k = es.length := by omega
                    have j3 : ¬ (es.length : Int) < (es.length : Int) := by omega
                    have HL3 : Hid (es.any longE = false) := Lib.hid (by have := HP.out; rwa [List.take_length] at this)
                    clear HP
                    go_wp2
                    first | go_ret | (refine bodyPost_ret (results_tmp rfl _ _ _) rfl ?_)
                    exact ⟨by rw [HA.out, HL.out, HL2.out, HL3.out]; rfl, K1.out⟩
end Go.Proofs.YtjocbokfdfdkeaaGreat.PX
/-
  WALKS: the law's LongRequest and LongReply.
-/
namespace Go.Proofs.YtjocbokfdfdkeaaGreat.PX
open Go.RowKit HL
open IX (ptr El cellsK cellsK_at cellsK_len OwnK RdK Kept strK)
open WX (obK obs_at)
open DX (Ch ch chCells chK chs_at)
set_option maxRecDepth 100000
set_option linter.unusedVariables false
set_option linter.unusedSimpArgs false

def longT (x : Bs) : Bool := decide (300 < x.length)
def longQ (q : Rq) : Bool := decide (80 < q.hs.length) || decide (300 < q.handle.size) || longB q.ch.o || q.hs.any longT
set_option maxHeartbeats 8000000 in
theorem longQ_any (q : Rq) (A : Option Addr) (c : Nat) (w : World) (h : RdK strK w w.heap.size A q.hs) (hm : q.hs.length ≤ maxLen) :
    Calls Tryz.prog 7 #[rq q A q.hs.length c] w fun e w' => e = .returned (.bool (longQ q)) ∧ Below w.heap.size w w' := by
  have hb := bAl (Below.refl w.heap.size w) (.cells (rqC q A q.hs.length c) 29)
  have m0 := AtC.new w (rqC q A q.hs.length c) 29
  have hr := (h.below hb).more hb.size
  by_cases a1 : 80 < q.hs.length
  · have e : Hid (longQ q = true) := Lib.hid (by simp [longQ, a1])
    have i1 : (80 : Int) < (q.hs.length : Int) := by omega
    clear h hr hm
    go_enter Tryz.func7, Tryz.ntmps7
    go_upto_region 1 with fail
    change Code.wp _ _ _ _ (w.alloc (.cells (rqC q A q.hs.length c) 29))
    generalize (w.alloc (.cells (rqC q A q.hs.length c) 29)) = W0 at *
    have HB := Lib.hid hb
    have M0 := Lib.hid m0
    have mc := m0.c
    have ml := m0.lt
    clear hb m0
    go_wp2
    go_ret
    exact ⟨by rw [e.out]; rfl, HB.out⟩
  · have i1 : ¬ (80 : Int) < (q.hs.length : Int) := by omega
    by_cases a2 : 300 < q.handle.size
    · have e : Hid (longQ q = true) := Lib.hid (by simp [longQ, a2])
      have i2 : (300 : Int) < (q.handle.size : Int) := by omega
      clear h hr hm
      go_enter Tryz.func7, Tryz.ntmps7
      go_upto_region 1 with fail
      change Code.wp _ _ _ _ (w.alloc (.cells (rqC q A q.hs.length c) 29))
      generalize (w.alloc (.cells (rqC q A q.hs.length c) 29)) = W0 at *
      have HB := Lib.hid hb
      have M0 := Lib.hid m0
      have mc := m0.c
      have ml := m0.lt
      clear hb m0
      go_wp2
      go_ret
      exact ⟨by rw [e.out]; rfl, HB.out⟩
    · have i2 : ¬ (300 : Int) < (q.handle.size : Int) := by omega
      have CL0 := fun W => long13_any q.ch.o W
      cases a3 : longB q.ch.o with
      | true =>
        rw [a3] at CL0
        have CL := Lib.hid CL0
        have e : Hid (longQ q = true) := Lib.hid (by simp [longQ, a3])
        clear h hr hm CL0 a3
        go_enter Tryz.func7, Tryz.ntmps7
        go_upto_region 1 with fail
        change Code.wp _ _ _ _ (w.alloc (.cells (rqC q A q.hs.length c) 29))
        generalize (w.alloc (.cells (rqC q A q.hs.length c) 29)) = W0 at *
        have HB := Lib.hid hb
        have M0 := Lib.hid m0
        have mc := m0.c
        have ml := m0.lt
        clear hb m0
        go_wp2_with (first | (go_at_call 27; ((refine (CL.out W0).mono ?_); rintro e w1 ⟨rfl, k1⟩; have K1 := Lib.hid k1; have M1 := Lib.hid (M0.out.then k1); have mc1 := M1.out.c; have ml1 := M1.out.lt; clear k1)))
        go_ret
        exact ⟨by rw [e.out]; rfl, bThen HB.out K1.out⟩
      | false =>
        rw [a3] at CL0
        have CL := Lib.hid CL0
        have HA : Hid (longQ q = q.hs.any longT) := Lib.hid (by simp [longQ, a1, a2, a3])
        have H := Lib.hid hr
        clear h hr hm CL0 a3
        go_enter Tryz.func7, Tryz.ntmps7
        go_upto_region 1 with fail
        change Code.wp _ _ _ _ (w.alloc (.cells (rqC q A q.hs.length c) 29))
        generalize (w.alloc (.cells (rqC q A q.hs.length c) 29)) = W0 at *
        have HB := Lib.hid hb
        have M0 := Lib.hid m0
        have mc := m0.c
        have ml := m0.lt
        clear hb m0
        go_upto_region 3 with (first | (go_at_call 27; ((refine (CL.out W0).mono ?_); rintro e w1 ⟨rfl, k1⟩; have K1 := Lib.hid k1; have M1 := Lib.hid (M0.out.then k1); have mc1 := M1.out.c; have ml1 := M1.out.lt; clear k1)))
        clear mc ml M0 mc1 ml1
        have HB1 := Lib.hid (bThen HB.out K1.out)
        have H1 := Lib.hid ((H.out.below K1.out).more K1.out.size)
        clear HB K1 H CL
        go_wp2
        go_loopw [3] (fun i wr => ∃ k : Nat, i = .int .i64 k ∧ k ≤ q.hs.length ∧ Hid ((q.hs.take k).any longT = false) ∧ Below w1.heap.size w1 wr) (fun i _ => q.hs.length - (intOf i).toNat)
        case atStart => exact ⟨0, rfl, by omega, Lib.hid (by simp), Below.refl _ _⟩
        case round =>
          obtain ⟨k, rfl, hk, HP, k1⟩ := hrel
          have K1 := Lib.hid k1
          have mc := (M1.out.then k1).c
          have ml := (M1.out.then k1).lt
          by_cases hlt : k < q.hs.length
          · have j1 : (k : Int) < (q.hs.length : Int) := by omega
            obtain ⟨b, off, rfl, hbk, hcc⟩ := (H1.out.below k1).strs.at_ (by omega)
            have hcell := hcc k _ (List.getElem?_eq_getElem hlt)
            have HN := Lib.hid (take_any (p := longT) hlt)
            have HT := Lib.hid (fun z => any_at (p := longT) hlt z)
            clear hcc k1
            generalize hs0 : q.hs[k] = x at *
            clear hs0
            by_cases h3 : 300 < x.length
            · have i3 : (300 : Int) < (x.length : Int) := by omega
              have HR := Lib.hid (HT.out (by simp [longT, h3]))
              clear HT HN
              go_wp2
              refine bodyPost_ret (results_tmp rfl _ _ _) rfl ?_
              exact ⟨by rw [HA.out, HR.out]; rfl, bThen HB1.out K1.out⟩
            · have i3 : ¬ (300 : Int) < (x.length : Int) := by omega
              have HF : Hid (longT x = false) := Lib.hid (by simp [longT]; omega)
              clear HT
              go_wp2
              go_roundw
              case rel => exact ⟨k + 1, by go_num, by omega, Lib.hid (by rw [HN.out, HP.out, HF.out]; rfl), K1.out⟩
              case measure => simp [intOf]; omega
          · obtain rfl : k = q.hs.length := by omega
            have j1 : ¬ (q.hs.length : Int) < (q.hs.length : Int) := by omega
            have HL : Hid (q.hs.any longT = false) := Lib.hid (by have := HP.out; rwa [List.take_length] at this)
            clear HP k1
            go_wp2
            go_ret
            exact ⟨by rw [HA.out, HL.out]; rfl, bThen HB1.out K1.out⟩
set_option maxHeartbeats 4000000 in
theorem longY_any (p : Rp) (A : Option Addr) (c : Nat) (A2 : Option Addr) (c2 : Nat) (w : World) (h : RdK enK w w.heap.size A p.es) (h2 : RdK chK w w.heap.size A2 p.cs) (hm : p.es.length ≤ maxLen) (hm2 : p.cs.length ≤ maxLen) :
    Calls Tryz.prog 8 #[rl p A p.es.length c A2 p.cs.length c2] w fun e w' => e = .returned (.bool (longAll [] p.cs p.es)) ∧ Below w.heap.size w w' := by
  have hb := bAl (Below.refl w.heap.size w) (.cells (rlC p A p.es.length c A2 p.cs.length c2) 36)
  have m0 := AtC.new w (rlC p A p.es.length c A2 p.cs.length c2) 36
  have CL0 := fun (W : World) (k : Below w.heap.size w W) => longAll_any none A2 A 0 c2 c [] p.cs p.es W (.inl rfl) ((h2.below k).more k.size) ((h.below k).more k.size) (Nat.zero_le _) hm2 hm
  have CL := Lib.hid (CL0 _ hb)
  clear h h2 hm hm2 CL0
  go_enter Tryz.func8, Tryz.ntmps8
  go_upto_region 1 with fail
  have mc := m0.c
  have ml := m0.lt
  go_wp2_with (first | (go_at_call 28; ((refine CL.out.mono ?_); rintro e w1 ⟨rfl, k1⟩)))
  go_ret
  exact ⟨rfl, bThen hb k1⟩
end Go.Proofs.YtjocbokfdfdkeaaGreat.PX
/-
  PLAIN: four things, written one behind the other, are read as what they were.
-/
namespace Go.Proofs.YtjocbokfdfdkeaaGreat.PX
open Go.RowKit HL
open YX (numB rdU rdB rdT rdS rdI addW intN natI rest told)
open DX (Ch)
set_option maxRecDepth 100000
set_option linter.unusedVariables false
set_option linter.unusedSimpArgs false

theorem four {e : En} {o : Ob} {c : Ch} {b : Bs} (h : codO.W (codC.W (codO.W (codE.W (some []) e) o) c) o = some b) :
    codE.short e = true ∧ codO.short o = true ∧ codC.short c = true ∧ b = codE.B e ++ (codO.B o ++ (codC.B c ++ (codO.B o ++ []))) := by
  rw [codO.w_eq, codC.w_eq, codO.w_eq, codE.w_eq] at h
  cases h1 : codO.short o with
  | false => rw [h1] at h; simp at h
  | true =>
    cases h2 : codC.short c with
    | false =>
      rw [h1, h2] at h
      simp [addW] at h
    | true =>
      cases h3 : codE.short e with
      | false => rw [h1, h2, h3] at h; simp [addW] at h
      | true =>
        rw [h1, h2, h3] at h
        simp only [if_true] at h
        refine ⟨rfl, rfl, rfl, ?_⟩
        rw [addW_app, addW_app, addW_app] at h
        simp only [addW, List.nil_append] at h
        split at h
        · cases h
        · injection h with h
          rw [← h]
          simp [List.append_assoc]
theorem four_read {e : En} {o : Ob} {c : Ch} {b : Bs} (fe : FineE e) (fo : Fine o) (fc : FineC c) (h : codO.W (codC.W (codO.W (codE.W (some []) e) o) c) o = some b) :
    ∃ s1 s2 s3, getE (some b) = (e, s1) ∧ getO s1 = (o, s2) ∧ getC s2 = (c, s3) ∧ getO s3 = (o, some []) := by
  obtain ⟨h1, h2, h3, rfl⟩ := four h
  exact ⟨_, _, _, codE.rd_B e fe h1 _, codO.rd_B o fo h2 _, codC.rd_B c fc h3 _, codO.rd_B o fo h2 _⟩
/-- What came in, and isn't too long. -/
structure In (o : Ob) : Prop where
  kind : o.kind < 256
  typ : o.typ < 256
  digits : o.digits < 256
  assoc : o.assoc < 256
  lo : -9223372036854775808 ≤ o.lo ∧ o.lo < 9223372036854775808
  hi : -9223372036854775808 ≤ o.hi ∧ o.hi < 9223372036854775808
  value : -9223372036854775808 ≤ o.value ∧ o.value < 9223372036854775808
  low : -9223372036854775808 ≤ o.low ∧ o.low < 9223372036854775808
  high : -9223372036854775808 ≤ o.high ∧ o.high < 9223372036854775808
theorem tx_len (b : ByteArray) : (tx b).length = b.size := rfl
theorem fine_of {o : Ob} (h : In o) (hl : longB o = false) : Fine o := by
  simp only [longB, Bool.or_eq_false_iff, decide_eq_false_iff_not] at hl
  exact ⟨h.kind, h.typ, h.digits, h.assoc, h.lo, h.hi, h.value, h.low, h.high, by rw [tx_len]; omega, by rw [tx_len]; omega, by rw [tx_len]; omega⟩
end Go.Proofs.YtjocbokfdfdkeaaGreat.PX
/-
  An object, a change, an entry that came in by value, and is not too long.
-/
namespace Go.Proofs.YtjocbokfdfdkeaaGreat
open Go.ChangeShapes Go.WideShapes Go.ChangeAt Go.RowKit
set_option maxRecDepth 100000
set_option linter.unusedVariables false

theorem open_chV {H : Type} {enc : TypeId × Value → H} {W : World} {r : Reach} {b0 : Nat} {spare : Nat → Bool} {held : Bool} {v : Value} {d : DataW H} {p : List MemPlace}
    (hv : Value.okWide Tryz.prog W r b0 26 v) (h : DataW.Trod enc Tryz.prog W 0 spare held 26 v d p) : ∃ c : DX.Ch, v = DX.ch c ∧ c.kind ≤ 255 ∧ Fine c.o := by
  obtain ⟨cs, rfl, hsz⟩ := okWide_struct Tryz.underlying26 hv
  have hC : Tryz.prog.cellsOf 26 = 15 := by kernel_rfl
  rw [hC] at hsz
  obtain ⟨fuel, hf⟩ := h
  obtain ⟨l⟩ := cs
  match l, hsz with
  | [v0, v1, v2, v3, v4, v5, v6, v7, v8, v9, v10, v11, v12, v13, v14], _ =>
    obtain ⟨x, rfl, rfl, rfl, rfl, rfl, rfl, rfl, rfl, rfl, rfl, rfl, rfl, rfl, rfl, rfl, hk, hp⟩ := open_ch1 (show DataW.trod enc Tryz.prog W 0 spare held fuel 26 [v0, v1, v2, v3, v4, v5, v6, v7, v8, v9, v10, v11, v12, v13, v14] = some (d, p) from hf)
    exact ⟨x, rfl, hk, hp⟩
theorem open_enV {H : Type} {enc : TypeId × Value → H} {W : World} {r : Reach} {b0 : Nat} {spare : Nat → Bool} {held : Bool} {v : Value} {d : DataW H} {p : List MemPlace}
    (hv : Value.okWide Tryz.prog W r b0 90 v) (h : DataW.Trod enc Tryz.prog W 0 spare held 90 v d p) : ∃ x : PX.En, v = PX.en x ∧ InE x := by
  obtain ⟨cs, rfl, hsz⟩ := okWide_struct Tryz.underlying90 hv
  have hC : Tryz.prog.cellsOf 90 = 18 := by kernel_rfl
  rw [hC] at hsz
  obtain ⟨fuel, hf⟩ := h
  obtain ⟨l⟩ := cs
  match l, hsz with
  | [v0, v1, v2, v3, v4, v5, v6, v7, v8, v9, v10, v11, v12, v13, v14, v15, v16, v17], _ =>
    obtain ⟨x, rfl, rfl, rfl, rfl, rfl, rfl, rfl, rfl, rfl, rfl, rfl, rfl, rfl, rfl, rfl, rfl, rfl, rfl, hp⟩ := open_en1 (show DataW.trod enc Tryz.prog W 0 spare held fuel 90 [v0, v1, v2, v3, v4, v5, v6, v7, v8, v9, v10, v11, v12, v13, v14, v15, v16, v17] = some (d, p) from hf)
    exact ⟨x, rfl, hp⟩
namespace PX
open DX (Ch ch chCells chK)
theorem in_of {o : Ob} (h : Go.Proofs.YtjocbokfdfdkeaaGreat.Fine o) : In o :=
  ⟨by have := h.kind; omega, by have := h.typ; omega, by have := h.digits; omega, by have := h.assoc; omega, by have := h.lo; omega, by have := h.hi; omega, by have := h.value; omega, by have := h.low; omega, by have := h.high; omega⟩
theorem fines {l : List Ob} {s : List Ch} {es : List En} (b1 : ∀ x ∈ l, Go.Proofs.YtjocbokfdfdkeaaGreat.Fine x) (b2 : ∀ x ∈ s, x.kind ≤ 255 ∧ Go.Proofs.YtjocbokfdfdkeaaGreat.Fine x.o) (b3 : ∀ x ∈ es, InE x) (h : longAll l s es = false) :
    (∀ x ∈ l, Fine x) ∧ (∀ x ∈ s, FineC x) ∧ (∀ x ∈ es, FineE x) := by
  simp only [longAll, Bool.or_eq_false_iff] at h
  obtain ⟨⟨⟨_, h1⟩, h2⟩, h3⟩ := h
  refine ⟨fun x hx => fine_of (in_of (b1 x hx)) ?_, fun x hx => ⟨by have := (b2 x hx).1; omega, fine_of (in_of (b2 x hx).2) ?_⟩, fun x hx => ?_⟩
  · cases e : longB x with
    | false => rfl
    | true => rw [List.any_eq_true.2 ⟨x, hx, e⟩] at h1; cases h1
  · cases e : longB x.o with
    | false => rfl
    | true => rw [List.any_eq_true.2 ⟨x, hx, e⟩] at h2; cases h2
  · cases e : longE x with
    | true => rw [List.any_eq_true.2 ⟨x, hx, e⟩] at h3; cases h3
    | false =>
      simp only [longE, Bool.or_eq_false_iff, decide_eq_false_iff_not] at e
      obtain ⟨_, c2, c3, c4⟩ := b3 x hx
      exact ⟨by rw [tx_len]; omega, fine_of (in_of c2) e.1, by omega, by omega⟩
end PX
end Go.Proofs.YtjocbokfdfdkeaaGreat
/-
  What WireBack's law asks of its parts: what has bytes is read from them.
-/
namespace Go.Proofs.YtjocbokfdfdkeaaGreat.PX
open Go.RowKit HL
open IX (ptr El cellsK cellsK_at cellsK_len OwnK RdK Kept strK)
open YX (numB rdU rdB rdT rdS rdI addW intN natI rest told WAt WPt Wr RAt vS vU vI u8K Got)
open DX (Ch ch chCells chK zeroCh)
set_option maxRecDepth 100000
set_option linter.unusedVariables false
set_option linter.unusedSimpArgs false

/-- A load of a row's cells behind a guard that is met. -/
theorem wpList_load_g {P : Program} {ops : Array Oper} {rest : List Oper} {op : Oper} {a : Act} {w : World} {Q : Exit → Act → World → Prop} (hw : Region.wanted op (yielded ops a.tmps) = true) (ty : TypeId) (x : Operand) (ho : op.op = .load ty x)
    (b o : Nat) (hx : a.eval x = .pointer (some ⟨b, o, none⟩)) (cs : List Value) (d : TypeDesc) (hc : w.rangeAt b o cs)
    (hu : P.underlying ty = some d) (hd : d.isRow = true) (hi : (P.info? ty).map (·.size) = some cs.length)
    (h : wpList P ops Q rest (a.put op.dst (.agg cs.toArray)) w) : wpList P ops Q (op :: rest) a w := by
  show (if Region.wanted op (yielded ops a.tmps) then _ else _)
  rw [if_pos hw]
  exact Or.inl (wp_load_mid ty x ho b o hx cs d hc hu hd hi h)
/-- Bytes told. -/
def Jb (w0 : World) (b : Bs) (e : Ending) (w' : World) : Prop := ∃ A c, e = .returned (.tuple #[.slice A b.length c, .int .i64 0]) ∧ RdK u8K w' w'.heap.size A b ∧ (A = none → c = 0) ∧ Below w0.heap.size w0 w'
theorem bts_jb {w0 : World} {b : Bs} {e : Ending} {w' : World} (h : Bts w0 (some b) e w') : Jb w0 b e w' := by
  obtain ⟨v, n, rfl, hb, k⟩ := h
  cases hb with
  | yes' v l hr => obtain ⟨A, c, rfl, r, _, h0⟩ := hr; exact ⟨A, c, rfl, r, h0, k⟩
theorem bts_jo {w0 : World} {e : Ending} {w' : World} (h : Bts w0 none e w') : e = .returned (.tuple #[.slice none 0 0, .int .i64 3]) ∧ Below w0.heap.size w0 w' := by
  obtain ⟨v, n, rfl, hb, k⟩ := h
  cases hb with
  | no' => exact ⟨rfl, k⟩
theorem addW_of {x b : Bs} (h : addW (some []) x = some b) : b = x ∧ b.length ≤ 65536 := by
  unfold addW at h
  split at h
  · rename_i e; cases e
  · rename_i l e
    injection e with e
    subst e
    split at h
    · cases h
    · rename_i k
      injection h with h
      subst h
      simp at k ⊢
      omega
theorem fineQ_of {q : Rq} (h : Go.Proofs.YtjocbokfdfdkeaaGreat.InQ q) (hl : longQ q = false) : FineQ q := by
  simp only [longQ, Bool.or_eq_false_iff, decide_eq_false_iff_not] at hl
  obtain ⟨⟨⟨a1, a2⟩, a3⟩, a4⟩ := hl
  refine ⟨by have := h.kind; omega, by rw [tx_len]; omega, fun x hx => ?_, by omega, ⟨by have := h.ck; omega, fine_of (in_of h.co) a3⟩, by have := h.op; omega, by have := h.low; omega, by have := h.high; omega, by have := h.assoc; omega, by have := h.expect; omega, by have := h.mask; omega⟩
  cases e : longT x with
  | true => rw [List.any_eq_true.2 ⟨x, hx, e⟩] at a4; cases a4
  | false => simp [longT] at e; omega
theorem fineP_of {p : Rp} (h : Go.Proofs.YtjocbokfdfdkeaaGreat.InP p) (hl : longAll [] p.cs p.es = false) : FineP p := by
  obtain ⟨_, f2, f3⟩ := fines (l := []) (fun _ h => (by cases h)) h.cs h.es hl
  simp only [longAll, Bool.or_eq_false_iff, decide_eq_false_iff_not] at hl
  obtain ⟨⟨⟨⟨⟨_, a2⟩, a3⟩, _⟩, _⟩, _⟩ := hl
  exact ⟨by have := h.err; omega, by have := h.ver; omega, f3, by omega, by have := h.rver; omega, f2, by omega, by have := h.st; omega⟩
theorem backQ {q : Rq} {b : Bs} (hF : FineQ q) (e : reqB q = some b) : readQ b = some q ∧ b.length ≤ 1000000 := by
  unfold reqB at e
  split at e
  · cases e
  · refine ⟨readQ_B hF (by omega) e, ?_⟩
    rw [reqW_eq] at e
    split at e
    · have := (addW_of e).2; omega
    · cases e
theorem backR {v : Int} {l : List Ch} {g : Bool} {b : Bs} (hv : -9223372036854775808 ≤ v ∧ v < 9223372036854775808) (hF : ∀ x ∈ l, FineC x) (e : repB v l g = some b) : readR b = some (v, l, g) ∧ b.length ≤ 1000000 := by
  unfold repB at e
  split at e
  · cases e
  · refine ⟨readR_B hv hF (by omega) e, ?_⟩
    rw [repW_eq] at e
    split at e
    · have := (addW_of e).2; omega
    · cases e
theorem backY {p : Rp} {b : Bs} (hF : FineP p) (e : rplB p = some b) : readY b = some p ∧ b.length ≤ 1000000 ∧ ∃ b2, repB p.rver p.cs p.gap = some b2 := by
  unfold rplB at e
  split at e
  · cases e
  · rename_i n64
    refine ⟨readY_B hF (by omega) (by omega) e, ?_⟩
    rw [rplW_eq] at e
    split at e
    · rename_i hs
      obtain ⟨e1, e2⟩ := addW_of e
      refine ⟨by omega, encR p.rver p.cs p.gap, ?_⟩
      unfold shortY at hs
      rw [Bool.and_eq_true] at hs
      unfold repB
      rw [if_neg (by omega), repW_eq, if_pos hs.2]
      have hl : (encR p.rver p.cs p.gap).length ≤ 65536 := by
        rw [e1] at e2
        unfold encY at e2
        simp only [List.length_append] at e2
        unfold encR at e2 ⊢
        simp only [List.length_append] at e2 ⊢
        omega
      unfold addW
      simp only [List.length_nil, List.nil_append]
      rw [if_neg (by omega)]
    · cases e
end Go.Proofs.YtjocbokfdfdkeaaGreat.PX
