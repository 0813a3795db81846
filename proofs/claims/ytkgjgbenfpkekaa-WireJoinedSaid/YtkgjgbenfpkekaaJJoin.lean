/-
  WALKS: Join of the program and of the document.
-/
import Derived.Test.YtkgjgbenfpkekaaJKit
import Derived.Test.YtkgjgbenfpkekaaYRefNum
import Derived.Deep.RegionHeld3
namespace Go.Proofs.Ytkgjgbenfpkekaa.JX
open Go.RowKit HL
open IX (ptr El cellsK cellsK_at cellsK_len OwnK RdK Kept step_spreadK wpList_spreadK)
open YX (numB rdU addW told rest u8K WAt WPt Wr Own)
open PX (Wrt wrt wpt Bts)
set_option maxRecDepth 100000
set_option linter.unusedVariables false
set_option linter.unusedSimpArgs false

set_option maxHeartbeats 4000000 in
theorem join_any (A : Option Addr) (c : Nat) (L : List Sl3) (l : List Bs) (w : World) (h : RdK slK w w.heap.size A L) (hf : Frs w w.heap.size L l) (hn : l.length ≤ 100000) :
    Calls Try.prog 24 #[.slice A l.length c] w fun e w' => Bts w (joinF l) e w' := by
  have hz := YX.zero_wr
  have HR := Lib.hid h
  have HF := Lib.hid hf
  have HW0 : Hid (WAt (w.alloc (.cells YX.zW 48)) w.heap.size (some [])) := Lib.hid ⟨[], YX.p0, 0, YX.p0_len, by omega, by simp, by simp, YX.AtH.new _ _ _⟩
  have HB0 := Lib.hid (bAl (Below.refl w.heap.size w) (.cells YX.zW 48))
  obtain ⟨r, hr⟩ : ∃ r, joinF l = r := ⟨_, rfl⟩
  have HNO : Hid (∀ k (q : k < l.length), l[k].length < 1 ∨ 4096 < l[k].length → r = none) := Lib.hid (fun k q b => by rw [← hr]; exact joinF_no q b)
  have HOK : Hid (okF l = true → r = addW (some []) (joinB l)) := Lib.hid (fun q => by rw [← hr, addW_cap]; exact joinF_ok q)
  rw [hr]
  clear h hf hr
  go_enter Try.func24, Try.ntmps24
  go_wp2
  go_loopw [9] (fun i wr => ∃ k : Nat, i = .int .i64 k ∧ k ≤ l.length ∧ Hid (okF (l.take k) = true) ∧ Hid (WAt wr w.heap.size (addW (some []) (joinB (l.take k)))) ∧ Below w.heap.size w wr) (fun i _ => l.length - (intOf i).toNat)
  case atStart => exact ⟨0, rfl, by omega, Lib.hid rfl, Lib.hid (by rw [List.take_zero]; exact HW0.out), HB0.out⟩
  case round =>
    obtain ⟨k, rfl, hk, hA, hW, hb⟩ := hrel
    have K3 := Lib.hid hb
    clear HW0 HB0
    by_cases hlt : k < l.length
    · have i1 : (k : Int) < (l.length : Int) := by omega
      obtain ⟨b, off, x, rfl, hbb, hcc, hrr, _, _⟩ := fr_at HR.out HF.out hlt
      have hc := hcc wr hb
      have HRX := Lib.hid (hrr wr hb)
      have HN : Hid (addW (some []) (joinB (l.take (k + 1))) = addW (addW (some []) (joinB (l.take k))) (numB l[k].length ++ l[k])) := Lib.hid (by rw [PX.addW_app, joinB_next hlt])
      have HA1 := Lib.hid (okF_next hlt)
      have HNK := Lib.hid (HNO.out k hlt)
      clear hcc hrr
      generalize l[k] = f at *
      obtain ⟨n, hn⟩ : ∃ n, f.length = n := ⟨_, rfl⟩
      by_cases h0 : n = 0
      · subst h0
        have HR0 := Lib.hid (HNK.out (by omega))
        rw [hn] at hc
        clear hn
        go_wp2
        go_ret2
        exact ⟨_, 3, rfl, by rw [HR0.out]; exact .no', K3.out⟩
      · have i2 : ¬ ((n : Int) = 0) := by omega
        by_cases h4 : 4096 < n
        · have i4 : (4096 : Int) < (n : Int) := by omega
          have HR0 := Lib.hid (HNK.out (by omega))
          rw [hn] at hc
          clear hn
          go_wp2
          go_ret2
          exact ⟨_, 3, rfl, by rw [HR0.out]; exact .no', K3.out⟩
        · have i4 : ¬ (4096 : Int) < (n : Int) := by omega
          have CP := Lib.hid (putFrame_any w.heap.size (addW (some []) (joinB (l.take k))) x.A x.c f wr hW.out (HRX.out.more hb.size) (fun a e => by
            rcases HRX.out with q | ⟨b', o', e', hb', _⟩
            · rw [q] at hn; simp at hn; omega
            · rw [e] at e'; cases e'; show b' ≠ _; omega) (by omega))
          have HA2 : Hid (okF (l.take (k + 1)) = true) := Lib.hid (by rw [HA1.out, hA.out, decide_eq_true (show 1 ≤ f.length by omega), decide_eq_true (show f.length ≤ 4096 by omega)]; rfl)
          rw [hn] at hc CP HN
          clear hn HRX HNK
          generalize addW (some []) (joinB (l.take k)) = sk at *
          go_wp2_with (go_at_call 53; ((refine CP.out.mono ?_); rintro e w4 ⟨rfl, r4, k4⟩; have W4 := Lib.hid r4; have K4 := Lib.hid ((Kept.trans (P := (· ≠ w.heap.size)) (.of_below K3.out) k4).below (Nat.le_refl _) (fun j hj => show j ≠ w.heap.size by omega)); clear r4 k4))
          go_roundw
          case rel => exact ⟨k + 1, by go_num, by omega, HA2, Lib.hid (by rw [HN.out]; exact W4.out), K4.out⟩
          case measure => (simp [intOf]; try omega)
    · obtain rfl : k = l.length := by omega
      have i1 : ¬ (l.length : Int) < (l.length : Int) := by omega
      rw [List.take_length] at hA hW
      have HRR := Lib.hid (HOK.out hA.out)
      rw [← HRR.out] at hW
      have CY := Lib.hid (PX.bytes_any w.heap.size r wr hW.out)
      clear hW HRR HOK HNO
      go_wp2_with (go_at_call 18; ((refine CY.out.mono ?_); rintro e w6 ⟨v, n, rfl, b6, k6⟩; have B6 := Lib.hid b6; have K6 := Lib.hid (bThen K3.out k6); clear b6 k6))
      go_ret2
      exact ⟨v, n, rfl, B6.out, K6.out⟩
theorem refMost_any (l : Bs) (A : Option Addr) (c : Nat) (w : World) (h : RdK u8K w w.heap.size A l) (hc : l.length ≤ c) (h0 : A = none → c = 0) : Calls Try.prog 54 #[.slice A l.length c] w fun e w' => Bts w (capJ l) e w' := by
  by_cases g : 65536 < l.length
  · have i1 : (65536 : Int) < (l.length : Int) := by omega
    have e : capJ l = none := by unfold capJ; rw [if_pos g]
    rw [e]
    clear h e hc h0
    go_enter Try.func54, Try.ntmps54
    go_wp2
    go_ret2
    exact ⟨_, 3, rfl, .no', Below.refl _ _⟩
  · have i1 : ¬ (65536 : Int) < (l.length : Int) := by omega
    have e : capJ l = some l := by unfold capJ; rw [if_neg g]
    rw [e]
    have H : Hid (PX.Rows w (.slice A l.length c) l) := Lib.hid ⟨A, c, rfl, h, hc, h0⟩
    clear h e hc h0
    go_enter Try.func54, Try.ntmps54
    go_wp2
    go_ret2
    exact ⟨_, 0, rfl, .yes' _ _ H.out, Below.refl _ _⟩
theorem bD1J (w : World) : Below w.heap.size w w.drew := ⟨rfl, rfl, rfl, Nat.le_refl _, fun _ _ => rfl⟩
theorem own_none {w : World} {base : Nat} {A : Option Addr} {n c : Nat} {l : Bs} (h : OwnK u8K w base (.slice A n c) l) : A = none → c = 0 := fun q => by
  rcases h.2 with ⟨e, _⟩ | ⟨g, cap, cur, e, _⟩
  · simp only [Value.slice.injEq] at e; exact e.2.2
  · simp only [Value.slice.injEq] at e; rw [q] at e; cases e.1
set_option maxHeartbeats 4000000 in
theorem refJoin_any (A : Option Addr) (c : Nat) (L : List Sl3) (l : List Bs) (w : World) (h : RdK slK w w.heap.size A L) (hf : Frs w w.heap.size L l) (hn : l.length ≤ 100) :
    Calls Try.prog 25 #[.slice A l.length c] w fun e w' => Bts w (joinF l) e w' := by
  have HR := Lib.hid h
  have HF := Lib.hid hf
  obtain ⟨r, hr⟩ : ∃ r, joinF l = r := ⟨_, rfl⟩
  have HNO : Hid (∀ k (q : k < l.length), l[k].length < 1 ∨ 4096 < l[k].length → r = none) := Lib.hid (fun k q b => by rw [← hr]; exact joinF_no q b)
  have HOK : Hid (okF l = true → r = capJ (joinB l)) := Lib.hid (fun q => by rw [← hr]; exact joinF_ok q)
  have CU := Lib.hid (fun (n : Nat) (h : n < 18446744073709551616) W => YX.refU_any n h _ W rfl)
  rw [hr]
  clear h hf hr
  go_enter Try.func25, Try.ntmps25
  go_wp2
  go_loopw [4, 5] (fun v i wr => ∃ k : Nat, i = .int .i64 k ∧ k ≤ l.length ∧ Hid (okF (l.take k) = true) ∧ Hid (OwnK u8K wr w.heap.size v (joinB (l.take k))) ∧ Below w.heap.size w wr) (fun _ i _ => l.length - (intOf i).toNat)
  case atStart => exact ⟨0, rfl, by omega, Lib.hid rfl, Lib.hid (OwnK.nil_ _ _ _), Below.refl _ _⟩
  case round =>
    obtain ⟨k, rfl, hk, hA, hO, hb⟩ := hrel
    have K3 := Lib.hid hb
    by_cases hlt : k < l.length
    · have i1 : (k : Int) < (l.length : Int) := by omega
      obtain ⟨b, off, x, rfl, hbb, hcc, hrr, _, _⟩ := fr_at HR.out HF.out hlt
      have hc := hcc wr hb
      have HRX := Lib.hid hrr
      have HN := Lib.hid (joinB_next hlt)
      have HA1 := Lib.hid (okF_next hlt)
      have HNK := Lib.hid (HNO.out k hlt)
      have HJL := Lib.hid (joinB_len hA.out)
      have hlk : (l.take k).length = k := by rw [List.length_take]; omega
      rw [hlk] at HJL
      clear hrr hlk
      generalize l[k] = f at *
      generalize joinB (l.take k) = jk at *
      obtain ⟨n, hfn⟩ : ∃ n, f.length = n := ⟨_, rfl⟩
      by_cases h0 : n < 1
      · have i2 : (n : Int) < 1 := by omega
        have HR0 := Lib.hid (HNK.out (by omega))
        rw [hfn] at hc
        clear hfn hcc
        go_wp2
        go_ret2
        exact ⟨_, 3, rfl, by rw [HR0.out]; exact .no', K3.out⟩
      · have i2 : ¬ ((n : Int) < 1) := by omega
        by_cases h4 : 4096 < n
        · have i4 : (4096 : Int) < (n : Int) := by omega
          have HR0 := Lib.hid (HNK.out (by omega))
          rw [hfn] at hc
          clear hfn hcc
          go_wp2
          go_ret2
          exact ⟨_, 3, rfl, by rw [HR0.out]; exact .no', K3.out⟩
        · have i4 : ¬ (4096 : Int) < (n : Int) := by omega
          have HA2 : Hid (okF (l.take (k + 1)) = true) := Lib.hid (by rw [HA1.out, hA.out, decide_eq_true (show 1 ≤ f.length by omega), decide_eq_true (show f.length ≤ 4096 by omega)]; rfl)
          have hu : IntKind.u64.wrap (n : Int) = (n : Int) := YX.wU (by omega)
          have CUn := Lib.hid (CU.out n (by omega))
          have HNL := Lib.hid (YX.numB_len64 (n := n) (by omega))
          have HFN := Lib.hid hfn
          rw [hfn] at hc hcc HN
          have HJ5 : Hid (jk.length ≤ 500000) := Lib.hid (by have := HJL.out; omega)
          have hb2 : Below w.heap.size w wr.drew := bThen hb (bD1J wr)
          clear hfn HNK HJL
          generalize numB n = t at *
          go_upto_region 7 with fail
          go_region_held3 (fun w' => (w'.cell? ⟨b, off + k, none⟩ = some (.slice x.A n x.c)) ∧ Below w.heap.size w w')
            (first | with_reducible assumption | with_reducible exact ⟨hcc _ hb, hb⟩ | with_reducible exact ⟨hcc _ hb2, hb2⟩ | with_reducible exact ⟨hcc _ (keepD (by assumption) k3), keepD (by assumption) k3⟩ | with_reducible exact ⟨hcc _ b5, b5⟩ | with_reducible exact ⟨hcc _ b6, b6⟩ | exact ⟨hcc _ (bThen b5 (bD1J _)), bThen b5 (bD1J _)⟩)
            (first
            | (go_at_call 32; (with_reducible refine (CUn.out _).mono ?_); rintro e w4 ⟨v4, rfl, o4, k3⟩; obtain ⟨A4, c4, rfl, r4, _⟩ := o4.form; have R4 := Lib.hid r4; have O4 := Lib.hid (hO.out.below (by first | exact k3 | exact bThen (bD1J _) k3)); clear o4 r4)
            | ((refine step_spreadK u8K rfl (.tmp 26) (.tmp 33) rfl w.heap.size u4 jk (by simp [Act.eval, Act.put]; done) O4.out w4.heap.size A4 t.length c4 t (by simp [Act.eval, Act.put]; done) rfl R4.out (by have := HJ5.out; have := HNL.out; omega) (‹_ ∧ Below w.heap.size w _›).2.size ?_); intro v5 w5 o5 g5 f5; have b5 := (‹_ ∧ Below w.heap.size w _›).2.grown g5 (‹_ ∧ Below w.heap.size w _›).2.size (fun q hq => (O4.out.lt q hq).1); have O5 := Lib.hid o5; clear o5)
            | ((refine step_spreadK u8K rfl (.tmp 34) (.tmp 38) rfl w.heap.size v5 _ (by simp [Act.eval, Act.put]; done) O5.out w.heap.size x.A n x.c f (by simp [Act.eval, Act.put]; done) HFN.out (HRX.out _ (‹_ ∧ Below w.heap.size w _›).2) (by have := HJ5.out; have := HNL.out; have := HFN.out; rw [List.length_append]; omega) (‹_ ∧ Below w.heap.size w _›).2.size ?_); intro v6 w6 o6 g6 f6; have b6 := (‹_ ∧ Below w.heap.size w _›).2.grown g6 (‹_ ∧ Below w.heap.size w _›).2.size (fun q hq => (O5.out.lt q hq).1); have O6 := Lib.hid o6; have B6 := Lib.hid b6; clear o6))
          all_goals
            clear hcc hb2
            go_wp2
            go_roundw
            case rel => exact ⟨k + 1, by go_num, by omega, HA2, Lib.hid (by rw [HN.out]; first | exact O6.out | (rw [← List.append_assoc]; exact O6.out)), B6.out⟩
            case measure => (simp [intOf]; try omega)
    · obtain rfl : k = l.length := by omega
      have i1 : ¬ (l.length : Int) < (l.length : Int) := by omega
      rw [List.take_length] at hA hO
      have HRR := Lib.hid (HOK.out hA.out)
      obtain ⟨Af, cf, rfl, rf, hcf, _⟩ := hO.out.form
      have CW := Lib.hid (refMost_any _ Af cf wr rf hcf (own_none hO.out))
      clear HOK HNO rf hcf hO
      generalize joinB l = t at *
      go_wp2_with (go_at_call 54; ((refine CW.out.mono ?_); rintro e w6 ⟨v, n, rfl, b6, k6⟩; have B6 := Lib.hid b6; have K6 := Lib.hid (bThen K3.out k6); clear b6 k6))
      go_ret2
      exact ⟨v, n, rfl, by rw [HRR.out]; exact B6.out, K6.out⟩
end Go.Proofs.Ytkgjgbenfpkekaa.JX
