/-
  WALKS: a report put and written: putReport, write, Report.
-/
import Derived.Test.YtjocbokfdfdkeaaGreatLZLForm
import Derived.Test.YtjocbokfdfdkeaaGreatLZ5
namespace Go.Proofs.YtjocbokfdfdkeaaGreat.PX
open Go.RowKit HL
open IX (ptr El cellsK cellsK_at cellsK_len OwnK RdK Kept)
open YX (numB rdU rdB rdT rdS rdI addW intN natI rest told WAt WPt Wr RAt vS vU vI u8K Got)
open DX (Ch ch chCells chK)
set_option maxRecDepth 100000
set_option linter.unusedVariables false
set_option linter.unusedSimpArgs false

abbrev rpC (v : Int) (A : Option Addr) (n c : Nat) (g : Bool) : Array Value := #[.int .i64 v, .slice A n c, .bool g]
abbrev rp (v : Int) (A : Option Addr) (n c : Nat) (g : Bool) : Value := .agg (rpC v A n c g)
def repW (s : Option Bs) (v : Int) (l : List Ch) (g : Bool) : Option Bs := addW (putsW codC (addW (addW s [114]) (numB (intN v))) l) [if g then 1 else 0]
theorem rd_kept {w w' : World} {Bw : Nat} {A : Option Addr} {l : List Ch} (h : RdK chK w w.heap.size A l) (k : Kept w w' (· ≠ Bw)) (hne : ∀ a, A = some a → l ≠ [] → a.block ≠ Bw) : RdK chK w' w'.heap.size A l := by
  by_cases hl : l = []
  · exact .inl hl
  · exact (IX.RdK.kept h k (Nat.le_refl _) (fun a e => hne a e hl)).more k.size
theorem bD1L (w : World) : Below w.heap.size w w.drew := ⟨rfl, rfl, rfl, Nat.le_refl _, fun _ _ => rfl⟩
set_option maxHeartbeats 8000000 in
theorem putReport_any (Bw : Nat) (s : Option Bs) (v : Int) (A : Option Addr) (c : Nat) (l : List Ch) (g : Bool) (w : World) (hv : -9223372036854775808 ≤ v ∧ v < 9223372036854775808) (hw : WAt w Bw s) (h : RdK chK w w.heap.size A l) (hne : ∀ a, A = some a → l ≠ [] → a.block ≠ Bw) (hF : ∀ x ∈ l, FineC x) (hn : l.length ≤ 1000) :
    Calls Tryz.prog 70 #[ptr Bw, rp v A l.length c g] w fun e w' => Wrt w Bw (repW s v l g) e w' := by
  have hb := bAl (Below.refl w.heap.size w) (.cells (rpC v A l.length c g) 34)
  have hBw := hw.lt
  have HW0 := Lib.hid (hw.below hb)
  have MX := Lib.hid (AtC.new w (rpC v A l.length c g) 34)
  have HB := Lib.hid hb
  have H := Lib.hid h
  have HNE := Lib.hid hne
  have CB := Lib.hid (fun (W : World) (q : WAt W Bw s) => (YX.wByte_any (ptr Bw) s 114 (by decide) W (wpt q)).mono (fun e w' r => wrt r))
  have CI := Lib.hid (fun (W : World) s (q : WAt W Bw s) => (YX.wInt_any (ptr Bw) s v hv.1 hv.2 W (wpt q)).mono (fun e w' r => wrt r))
  have CT := Lib.hid (fun (W : World) s (q : WAt W Bw s) => (YX.wTruth_any (ptr Bw) s g W (wpt q)).mono (fun e w' r => wrt r))
  have CPL := Lib.hid (fun (W : World) s (q : WAt W Bw s) (r : RdK chK W W.heap.size A l) => putListC_any Bw s A c l 91 W q r hne hF hn)
  have CC := Lib.hid changes_any
  have hub : (UInt8.ofNat 114 : UInt8) = 114 := rfl
  rw [hub] at CB
  obtain ⟨s1, hs1⟩ : ∃ s1, s1 = addW s [114] := ⟨_, rfl⟩
  obtain ⟨s2, hs2⟩ : ∃ s2, s2 = addW s1 (numB (intN v)) := ⟨_, rfl⟩
  obtain ⟨s3, hs3⟩ : ∃ s3, s3 = putsW codC s2 l := ⟨_, rfl⟩
  obtain ⟨s4, hs4⟩ : ∃ s4, s4 = addW s3 [if g then 1 else 0] := ⟨_, rfl⟩
  have HE : Hid (repW s v l g = s4) := Lib.hid (by rw [hs4, hs3, hs2, hs1]; rfl)
  have CI2 := Lib.hid (fun W q => CI.out W s1 q)
  have CPL2 := Lib.hid (fun W q r => CPL.out W s2 q r)
  have CT2 := Lib.hid (fun W q => CT.out W s3 q)
  rw [← hs1] at CB
  rw [← hs2] at CI2
  rw [← hs3] at CPL2
  rw [← hs4] at CT2
  rw [HE.out]
  clear h hF hb hw hne HE hs1 hs2 hs3 hs4 CI CPL CT hub
  generalize l.length = n at *
  go_enter Tryz.func70, Tryz.ntmps70
  go_upto_region 2 with (go_at_call 80; ((refine (CB.out _ HW0.out).mono ?_); rintro e w1 ⟨rfl, r1, k1⟩; have HW1 := Lib.hid r1; have M1 := Lib.hid (MX.out.kept k1 (show w.heap.size ≠ Bw by omega)); have K1 := Lib.hid (Kept.trans (.of_below HB.out) k1); clear r1 k1))
  have m1c := M1.out.c 0
  have m1l := M1.out.lt
  go_upto_region 3 with (go_at_call 85; ((refine (CI2.out _ HW1.out).mono ?_); rintro e w2 ⟨rfl, r2, k2⟩; have HW2 := Lib.hid r2; have M2 := Lib.hid (M1.out.kept k2 (show w.heap.size ≠ Bw by omega)); have K2 := Lib.hid (K1.out.trans k2); clear r2 k2))
  have HR2 := Lib.hid (rd_kept H.out K2.out HNE.out)
  have m2l := M2.out.lt
  have hP : ∀ w', Kept w2 w' (· ≠ Bw) → ∀ i, w'.cell? ⟨w.heap.size, i, none⟩ = (rpC v A n c g)[i]? := fun w' k => (M2.out.kept k (show w.heap.size ≠ Bw by omega)).c
  have kd : Kept w2 w2.drew (· ≠ Bw) := .of_below (bD1L w2)
  have kr : Kept w2 w2 (· ≠ Bw) := Kept.refl _ _
  clear m1c m1l
  go_region_held3 (fun w' => ∀ i, w'.cell? ⟨w.heap.size, i, none⟩ = (rpC v A n c g)[i]?)
    (first | with_reducible assumption | with_reducible exact hP _ kr | with_reducible exact hP _ kd | with_reducible exact hP _ kL | with_reducible exact hP _ kC | exact hP _ (kC.trans (.of_below (bD1L _))))
    (first
    | (go_at_call 101; (with_reducible refine (CC.out _).mono ?_); rintro e w3 ⟨rfl, k3⟩; have B3 : Hid (Below w2.heap.size w2 w3) := Lib.hid (by first | exact k3 | exact bThen (bD1L _) k3); have kC : Kept w2 w3 (· ≠ Bw) := .of_below B3.out; clear k3)
    | (go_at_call 102; (first | refine (CPL2.out _ (HW2.out.below B3.out) ((HR2.out.below B3.out).more B3.out.size)).mono ?_ | refine (CPL2.out _ (HW2.out.below (bThen B3.out (bD1L _))) ((HR2.out.below (bThen B3.out (bD1L _))).more (bThen B3.out (bD1L _)).size)).mono ?_); rintro e w4 ⟨rfl, r4, k4⟩; have kL : Kept w2 w4 (· ≠ Bw) := (by first | exact kC.trans k4 | exact (kC.trans (.of_below (bD1L _))).trans k4); have HW4 := Lib.hid r4; have KL := Lib.hid kL; clear k4 r4))
  all_goals
    have M4 := M2.out.kept KL.out (show w.heap.size ≠ Bw by omega)
    have m4c := M4.c 2
    have m4l := M4.lt
    have K4 := Lib.hid (K2.out.trans KL.out)
    clear M4 hP kd kr
    go_wp2_with (go_at_call 86; ((refine (CT2.out _ HW4.out).mono ?_); rintro e w5 ⟨rfl, r5, k5⟩; have HW5 := Lib.hid r5; have K5 := Lib.hid (K4.out.trans k5); clear r5 k5))
    go_end0
    exact ⟨rfl, HW5.out, K5.out⟩
set_option maxHeartbeats 8000000 in
theorem writeRep_any (v : Int) (A : Option Addr) (c : Nat) (l : List Ch) (g : Bool) (p2 : Nat) (w : World) (hv : -9223372036854775808 ≤ v ∧ v < 9223372036854775808) (h : RdK chK w w.heap.size A l) (hF : ∀ x ∈ l, FineC x) (hn : l.length ≤ 1000) :
    Calls Tryz.prog 42 #[fm 70 p2, rp v A l.length c g] w fun e w' => Bts w (repW (some []) v l g) e w' := by
  have hz := YX.zero_wr
  have b1 := bAl (bAl (Below.refl w.heap.size w) (.cells #[fn 70, fn p2] 95)) (.cells (rpC v A l.length c g) 34)
  have m1 := (AtC.new w #[fn 70, fn p2] 95).al (.cells (rpC v A l.length c g) 34)
  have m2 : AtC ((w.alloc (.cells #[fn 70, fn p2] 95)).alloc (.cells (rpC v A l.length c g) 34)) (w.heap.size + 1) (rpC v A l.length c g) := AtC.newAt (by simp)
  have B1 := Lib.hid b1
  have H := Lib.hid h
  have hent := enters_of Tryz.func70 (by kernel_rfl) rfl
  have CP := Lib.hid (fun (Bw : Nat) (W : World) (q : WAt W Bw (some [])) (r : RdK chK W W.heap.size A l) (hne : ∀ a, A = some a → l ≠ [] → a.block ≠ Bw) => putReport_any Bw (some []) v A c l g W hv q r hne hF hn)
  have CY := Lib.hid (fun W B r (q : WAt W B r) => bytes_any B r W q)
  have HAb : Hid (∀ a, A = some a → l ≠ [] → a.block < w.heap.size) := Lib.hid (fun a e hl => by
    rcases h with q | ⟨b, off, e2, hb, _⟩
    · exact absurd q hl
    · rw [e] at e2; cases e2; exact hb)
  have M1 := Lib.hid m1
  have M2 := Lib.hid m2
  clear h hF m1 m2
  generalize repW (some []) v l g = s at *
  go_enter Tryz.func42, Tryz.ntmps42
  go_upto_region 1 with fail
  change Code.wp _ _ _ _ ((w.alloc (.cells #[fn 70, fn p2] 95)).alloc (.cells (rpC v A l.length c g) 34))
  have hs1 : ((w.alloc (.cells #[fn 70, fn p2] 95)).alloc (.cells (rpC v A l.length c g) 34)).heap.size = w.heap.size + 1 + 1 := by simp
  generalize (w.alloc (.cells #[fn 70, fn p2] 95)).alloc (.cells (rpC v A l.length c g) 34) = W1 at *
  have HW0 : Hid (WAt (W1.alloc (.cells YX.zW 118)) W1.heap.size (some [])) := Lib.hid ⟨[], YX.p0, 0, YX.p0_len, by omega, by simp, by simp, YX.AtH.new _ _ _⟩
  have b2 := bAl (Below.refl W1.heap.size W1) (.cells YX.zW 118)
  have B2 := Lib.hid (bAl B1.out (.cells YX.zW 118))
  have HR2 := Lib.hid ((H.out.below B2.out).more B2.out.size)
  have CP2 := Lib.hid (CP.out W1.heap.size _ HW0.out HR2.out (fun a e hl => by have := HAb.out a e hl; omega))
  have HM1 := Lib.hid (M1.out.al (.cells YX.zW 118))
  have HM2 := Lib.hid (M2.out.al (.cells YX.zW 118))
  have hle : w.heap.size ≤ W1.heap.size := by omega
  clear b1 b2 M1 M2 CP HAb hs1
  generalize l.length = n at *
  go_upto_region 2 with fail
  change Code.wp _ _ _ _ (W1.alloc (.cells YX.zW 118))
  generalize W1.alloc (.cells YX.zW 118) = W2 at *
  have x1 := HM1.out.c 0
  have x1l := HM1.out.lt
  have y0 := HM2.out.c 0
  have y1 := HM2.out.c 1
  have y2 := HM2.out.c 2
  have x2l := HM2.out.lt
  go_wp2_with (first
    | (go_at_call 66; ((refine (CY.out _ _ _ HW3.out).mono ?_); rintro e w6 ⟨v6, n6, rfl, b6, k6⟩; have B6 := Lib.hid b6; have K6 := Lib.hid (bThen K3.out k6); clear b6 k6))
    | ((refine CP2.out.mono ?_); rintro e w3 ⟨rfl, r3, k3⟩; have HW3 := Lib.hid r3; have K3 := Lib.hid ((Kept.trans (P := (· ≠ W1.heap.size)) (.of_below B2.out) k3).below (Nat.le_refl _) (fun j hj => show j ≠ W1.heap.size by omega)); clear r3 k3))
  go_ret2
  exact ⟨v6, n6, rfl, B6.out, K6.out⟩
def repB (v : Int) (l : List Ch) (g : Bool) : Option Bs := if 64 < l.length then none else repW (some []) v l g
set_option maxHeartbeats 8000000 in
theorem report_any (v : Int) (A : Option Addr) (c : Nat) (l : List Ch) (g : Bool) (w : World) (hv : -9223372036854775808 ≤ v ∧ v < 9223372036854775808) (h : RdK chK w w.heap.size A l) (hF : ∀ x ∈ l, FineC x) (hn : l.length ≤ 1000) :
    Calls Tryz.prog 13 #[rp v A l.length c g] w fun e w' => Bts w (repB v l g) e w' := by
  have b0 := bAl (Below.refl w.heap.size w) (.cells (rpC v A l.length c g) 34)
  have m0 := AtC.new w (rpC v A l.length c g) 34
  have B0 := Lib.hid b0
  by_cases h64 : 64 < l.length
  · have i1 : (64 : Int) < (l.length : Int) := by omega
    have e : repB v l g = none := by unfold repB; rw [if_pos h64]
    have mc := m0.c
    rw [e]
    clear h hF e m0 b0
    generalize l.length = n at *
    go_enter Tryz.func13, Tryz.ntmps13
    go_wp2
    go_ret2
    exact ⟨_, 3, rfl, .no', B0.out⟩
  · have i1 : ¬ (64 : Int) < (l.length : Int) := by omega
    have e : repB v l g = repW (some []) v l g := by unfold repB; rw [if_neg h64]
    have H := Lib.hid h
    have CW := Lib.hid (fun W (r : RdK chK W W.heap.size A l) => writeRep_any v A c l g 71 W hv r hF hn)
    have CC := Lib.hid reports_any
    rw [e]
    clear h hF e h64
    generalize repW (some []) v l g = s at *
    generalize l.length = n at *
    go_enter Tryz.func13, Tryz.ntmps13
    go_upto_region 1 with fail
    change Code.wp _ _ _ _ (w.alloc (.cells (rpC v A n c g) 34))
    have HR0 := Lib.hid ((H.out.below b0).more b0.size)
    clear b0
    generalize w.alloc (.cells (rpC v A n c g) 34) = W0 at *
    have mc := m0.c
    have ml := m0.lt
    go_upto_region 3 with fail
    have hP : ∀ w', Below W0.heap.size W0 w' → ∀ i, w'.cell? ⟨w.heap.size, i, none⟩ = (rpC v A n c g)[i]? := fun w' k => (m0.then k).c
    have hb1 : Below W0.heap.size W0 W0 := Below.refl _ _
    have hb2 : Below W0.heap.size W0 W0.drew := bD1L W0
    clear mc m0
    go_region_held3 (fun w' => (∀ i, w'.cell? ⟨w.heap.size, i, none⟩ = (rpC v A n c g)[i]?) ∧ Below W0.heap.size W0 w')
      (first | with_reducible assumption | with_reducible exact ⟨hP _ hb1, hb1⟩ | with_reducible exact ⟨hP _ hb2, hb2⟩ | with_reducible exact ⟨hP _ (keepD (by assumption) k3), keepD (by assumption) k3⟩)
      (first
      | (go_at_call 41; (with_reducible refine (CC.out _).mono ?_); rintro e w3 ⟨rfl, k3⟩)
      | (go_at_call 42; (refine (CW.out _ ((HR0.out.below (‹_ ∧ Below W0.heap.size W0 _›).2).more (‹_ ∧ Below W0.heap.size W0 _›).2.size)).mono ?_); rintro e w4 ⟨v4, n4, rfl, r4, k3⟩; have R4 := Lib.hid r4; have K4 := Lib.hid (bThen (‹_ ∧ Below W0.heap.size W0 _›).2 k3); clear r4))
    all_goals
      go_wp2
      go_ret2
      exact ⟨v4, n4, rfl, R4.out, bThen B0.out K4.out⟩
end Go.Proofs.YtjocbokfdfdkeaaGreat.PX
