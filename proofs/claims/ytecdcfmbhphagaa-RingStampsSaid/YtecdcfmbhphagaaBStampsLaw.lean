/-
  WALK: the law RingStamps.
-/
import Derived.Test.YtecdcfmbhphagaaBSteadyAll
import Derived.Test.YtecdcfmbhphagaaCRow
namespace Go.Proofs.Ytecdcfmbhphagaa.BX
open Go.RowKit HL
open IX (ptr El cellsK cellsK_at cellsK_len OwnK RdK Kept)
set_option maxRecDepth 100000
set_option linter.unusedVariables false
set_option linter.unusedSimpArgs false

/-- So far: the last one's number, or none. -/
def Sts (h : ByteArray) (k : Nat) (g : Rg) (last : Nat) : Prop := g.h = h ∧ ((last = 0 ∧ g.all = []) ∨ (0 < last ∧ ∃ l0 v0, g.all = l0 ++ [(v0, entE h last)] ∧ v0 < (k : Int)))
theorem sts_put {h : ByteArray} {k : Nat} {g : Rg} {last n : Nat} (hs : Sts h k g last) (hk : k ≤ 1000) (hn : n ≤ 255) : putB g k (entE h n) = decide (last < n) := by
  obtain ⟨gh, gs, ga⟩ := g
  obtain ⟨rfl, h2⟩ := hs
  have hl : (decide ((last : Int) < (n : Int))) = decide (last < n) := by simp
  rcases h2 with ⟨rfl, h2⟩ | ⟨h0, l0, v0, h2, hv⟩
  · simp only at h2; subst h2
    rw [put_first _ _ (by omega) (by omega), ← hl]; rfl
  · simp only at h2; subst h2
    rw [put_more _ _ _ (by omega) hv (by omega) (by omega), ← hl]
theorem sts_yes {h : ByteArray} {k : Nat} {g : Rg} {last n : Nat} (hs : Sts h k g last) (hp : putB g k (entE h n) = true) (hn : 0 < n) : Sts h (k + 1) (putG g k (entE h n)) n := by
  rw [(put_yes hp).2]
  exact ⟨hs.1, .inr ⟨hn, g.all, (k : Int), rfl, by omega⟩⟩
theorem sts_no {h : ByteArray} {k : Nat} {g : Rg} {last : Nat} (hs : Sts h k g last) : Sts h (k + 1) g last := by
  rcases hs with ⟨a, ⟨b, c⟩ | ⟨b, l0, v0, d, e⟩⟩
  · exact ⟨a, .inl ⟨b, c⟩⟩
  · exact ⟨a, .inr ⟨b, l0, v0, d, by omega⟩⟩
set_option maxHeartbeats 8000000 in
theorem stamps_main (h o : ByteArray) {A : Option Addr} (c : Nat) (l : List Nat) (w : World) (hr : RdU w w.heap.size A l) (hle : ∀ x ∈ l, x ≤ 255) (h1 : 1 ≤ h.size) (h16 : h.size ≤ 16) (hl : l.length ≤ 30) (ho : o.size ≤ 60) :
    Calls Try.prog 9 #[.string h, .slice A l.length c, .string o] w fun e w' => e = .returned (.bool true) ∧ Below w.heap.size w w' := by
  have AW := Lib.hid (awake_any w)
  have NW := Lib.hid (fun W => new_yes h 8 W (by simp [newB]; omega))
  have HR := Lib.hid hr
  have HLE := Lib.hid hle
  have g1 : ¬ ((h.size : Int) < 1) := by omega
  have g2 : ¬ (16 < (h.size : Int)) := by omega
  clear hr hle
  go_enter Try.func9, Try.ntmps9
  go_upto_region 8 with (first
    | (go_at_call 25; ((with_reducible refine AW.out.mono ?_); rintro e wa ⟨rfl, ka⟩; have KA := Lib.hid ka; clear ka))
    | (go_at_call 10; ((refine (NW.out _).mono ?_); rintro e wn ⟨rfl, rn, kn⟩; have HRn := Lib.hid rn; have KN := Lib.hid (bThen KA.out kn); have hBb : wa.heap.size < wn.heap.size := rn.lt; clear rn kn)))
  have hBw := KA.out.size
  clear AW NW KA
  generalize hB2 : wa.heap.size = B at *
  clear hB2
  go_wp2
  go_loopw [9, 10] (fun la i wr => ∃ (k last : Nat) (g : Rg) (R : List (Int × En)), la = .int .i64 last ∧ i = .int .i64 k ∧ k ≤ l.length ∧ RgAt wr B g R ∧ g.all.length ≤ k ∧ Below w.heap.size w wr ∧ Sts h k g last) (fun la i _ => l.length - (intOf i).toNat)
  case atStart => exact ⟨0, 0, newG h 8, noRows, rfl, rfl, Nat.zero_le _, HRn.out, Nat.zero_le _, KN.out, rfl, .inl ⟨rfl, rfl⟩⟩
  case round =>
    obtain ⟨k, last, g, R, rfl, rfl, hk, hRg, hgl, hK, hst⟩ := hrel
    clear HRn KN
    by_cases hlt : k < l.length
    · obtain ⟨b, off, rfl, hbl, hc⟩ : ∃ b off, A = some ⟨b, off, none⟩ ∧ b < w.heap.size ∧ ∀ (j x : Nat), l[j]? = some x → w.cell? ⟨b, off + j, none⟩ = some (.int .u8 (x : Int)) := by
        rcases HR.out with e | e
        · rw [e] at hlt; simp at hlt
        · exact e
      have q0 := (hK.cell (p := ⟨b, off + k, none⟩) hbl).trans (hc _ _ (List.getElem?_eq_getElem hlt))
      have hn := HLE.out _ (List.getElem_mem hlt)
      have i1 : (k : Int) < l.length := by omega
      generalize l[k] = n at *
      have hP := sts_put hst (by omega) hn
      have CE := Lib.hid (fun W => entry_any h n W)
      obtain ⟨CN, vN, cN, sN, tN, oN, zN⟩ := en_opq (entE h n)
      have CP := Lib.hid (fun W (q : RgAt W B g R) => put_any k (entE h n) W q (by omega))
      rw [vN] at CP CE
      obtain ⟨CL, vL, cL, sL, tL, oL, zL⟩ := en_opq (lastE g)
      have CLA := Lib.hid (fun W R' (q : RgAt W B g R') => last_any W q (by omega))
      simp only [vL] at CLA
      have hEq := eq_known vL
      have HZL := Lib.hid zL
      have HR0 := Lib.hid hRg
      have HK0 := Lib.hid hK
      have HST := Lib.hid hst
      clear vN cN sN tN oN zN vL cL zL hRg hK hst hc
      by_cases hnl : last < n
      · have hp : putB g k (entE h n) = true := by rw [hP]; exact decide_eq_true hnl
        rw [(put_yes hp).1] at CP
        have HP := Lib.hid hp
        have i2 : (last : Int) < (n : Int) := by omega
        have hl1 := putG_len g k (entE h n)
        have HLN : Hid ((putG g k (entE h n)).all.length ≤ k + 1) := Lib.hid (by omega)
        have HSN := Lib.hid (sts_yes HST.out hp (by omega))
        generalize putG g k (entE h n) = gn at *
        clear hP hp hl1
        go_upto_region 14 with (first
          | (go_at_call 16; ((with_reducible refine (CLA.out _ _ HR0.out).mono ?_); rintro e u1 ⟨rfl, k1⟩; have KU1 := Lib.hid (bThen HK0.out k1); have L1 := laid_var (C := CL) KU1.out HZL.out; have HRv1 := Lib.hid ((HR0.out.below k1).below L1.2.1); have KB1 := Lib.hid (bThen KU1.out L1.2.1); have HT1 := Lib.hid L1.2.2; clear k1 L1))
          | ((with_reducible show wpList _ _ _ ({ dst := none, op := Op.store 35 _ _, type := _, pos := _, after := _, guard := _ } :: _) _ _); (refine wpList_store_mid rfl _ _ _ rfl u1.heap.size 0 CL rfl rfl HT1.out sL oL ?_); change wpList _ _ _ _ _ ((u1.alloc (.cells (enC zeroEn) 35)).setCells u1.heap.size 0 CL.toList); generalize ((u1.alloc (.cells (enC zeroEn) 35)).setCells u1.heap.size 0 CL.toList) = V1 at *))
        go_wp2_with (first
          | (go_at_call 14; ((with_reducible refine (CP.out _ HR2.out).mono ?_); rintro e u3 ⟨rfl, ⟨R3, r3⟩, k3⟩; have HR3 := Lib.hid r3; have K3 := Lib.hid (belowK K2.out k3 hBw); clear r3 k3))
          | (go_at_call 26; ((with_reducible refine (CE.out _).mono ?_); rintro e u2 ⟨rfl, k2⟩; have HR2 := Lib.hid (HRv1.out.below k2); have K2 := Lib.hid (bThen KB1.out k2); clear k2)))
        go_roundw
        case rel => exact ⟨k + 1, n, gn, R3, rfl, by go_num, by omega, HR3.out, HLN.out, K3.out, HSN.out⟩
        case measure => simp [intOf]; omega
      · have hp : putB g k (entE h n) = false := by rw [hP]; exact decide_eq_false hnl
        rw [(put_no hp).1, (put_no hp).2] at CP
        have i2 : ¬ (last : Int) < (n : Int) := by omega
        have HSN := Lib.hid (sts_no HST.out)
        clear hP hp
        generalize lastV g = lv at *
        generalize isL g = il at *
        go_upto_region 14 with (first
          | (go_at_call 16; ((with_reducible refine (CLA.out _ _ HR0.out).mono ?_); rintro e u1 ⟨rfl, k1⟩; have KU1 := Lib.hid (bThen HK0.out k1); have L1 := laid_var (C := CL) KU1.out HZL.out; have HX1 := Lib.hid L1.1; have HRv1 := Lib.hid ((HR0.out.below k1).below L1.2.1); have KB1 := Lib.hid (bThen KU1.out L1.2.1); have HT1 := Lib.hid L1.2.2; have hu1 : B < u1.heap.size := (HR0.out.below k1).lt; clear k1 L1))
          | ((with_reducible show wpList _ _ _ ({ dst := none, op := Op.store 35 _ _, type := _, pos := _, after := _, guard := _ } :: _) _ _); (refine wpList_store_mid rfl _ _ _ rfl u1.heap.size 0 CL rfl rfl HT1.out sL oL ?_); change wpList _ _ _ _ _ ((u1.alloc (.cells (enC zeroEn) 35)).setCells u1.heap.size 0 CL.toList); generalize ((u1.alloc (.cells (enC zeroEn) 35)).setCells u1.heap.size 0 CL.toList) = V1 at *))
        go_upto_region 19 with (first
          | (go_at_call 14; ((with_reducible refine (CP.out _ HR2.out).mono ?_); rintro e u3 ⟨rfl, ⟨R3, r3⟩, k3⟩; have HR3 := Lib.hid r3; have K3 := Lib.hid (belowK K2.out k3 hBw); have HX1 := Lib.hid (atC_kept HX1.out k3 (show u1.heap.size ≠ B by omega)); clear r3 k3))
          | (go_at_call 26; ((with_reducible refine (CE.out _).mono ?_); rintro e u2 ⟨rfl, k2⟩; have HR2 := Lib.hid (HRv1.out.below k2); have K2 := Lib.hid (bThen KB1.out k2); have HX1 := Lib.hid (HX1.out.then k2); clear k2)))
        go_upto_region 20 with (first
          | (go_at_call 16; ((with_reducible refine (CLA.out _ _ HR3.out).mono ?_); rintro e u4 ⟨rfl, k4⟩; have KU4 := Lib.hid (bThen K3.out k4); have L4 := laid_var (C := CL) KU4.out HZL.out; have HX1 := Lib.hid ((HX1.out.then k4).then L4.2.1); have HX4 := Lib.hid L4.1; have HRv4 := Lib.hid ((HR3.out.below k4).below L4.2.1); have KB4 := Lib.hid (bThen KU4.out L4.2.1); have HT4 := Lib.hid L4.2.2; clear k4 L4))
          | ((with_reducible show wpList _ _ _ ({ dst := none, op := Op.store 35 _ _, type := _, pos := _, after := _, guard := _ } :: _) _ _); (refine wpList_store_mid rfl _ _ _ rfl u4.heap.size 0 CL rfl rfl HT4.out sL oL ?_); change wpList _ _ _ _ _ ((u4.alloc (.cells (enC zeroEn) 35)).setCells u4.heap.size 0 CL.toList); generalize ((u4.alloc (.cells (enC zeroEn) 35)).setCells u4.heap.size 0 CL.toList) = V4 at *))
        have x1 := range_at HX1.out
        have x4 := range_at HX4.out
        have hil : (il != il) = false := by simp
        go_wp2_with (first
          | ((show wpList _ _ _ ({ dst := some 87, op := _, type := _, pos := _, after := _, guard := _ } :: _) _ _); (refine wpList_load_g (by rfl) _ _ rfl u1.heap.size 0 rfl CL.toList _ x1 Try.underlying35 rfl tL ?_))
          | ((show wpList _ _ _ ({ dst := some 88, op := _, type := _, pos := _, after := _, guard := _ } :: _) _ _); (refine wpList_load_g (by rfl) _ _ rfl u4.heap.size 0 rfl CL.toList _ x4 Try.underlying35 rfl tL ?_)))
        go_roundw
        case rel => exact ⟨k + 1, last, g, R3, rfl, by go_num, by omega, HRv4.out, by omega, KB4.out, HSN.out⟩
        case measure => simp [intOf]; omega
    · obtain rfl : k = l.length := by omega
      have i1 : ¬ (l.length : Int) < l.length := by omega
      by_cases hoh : o = h
      · subst hoh
        go_wp2
        go_ret
        exact ⟨by simp, hK⟩
      · have hne := tl_ne hoh
        have CE := Lib.hid (fun W => entry_any o 1000 W)
        obtain ⟨CN, vN, cN, sN, tN, oN, zN⟩ := en_opq (entE o 1000)
        have CP := Lib.hid (fun W (q : RgAt W B g R) => put_any 99 (entE o 1000) W q (by omega))
        have hp : putB g 99 (entE o 1000) = false := by
          obtain ⟨gh, gs, ga⟩ := g
          obtain ⟨rfl, _⟩ := hst
          exact put_other hoh _ _ _ _
        rw [(put_no hp).1, (put_no hp).2] at CP
        rw [vN] at CP CE
        have HR0 := Lib.hid hRg
        have HK0 := Lib.hid hK
        clear vN cN sN tN oN zN hRg hK hp hst
        go_wp2_with (first
          | (go_at_call 14; ((with_reducible refine (CP.out _ HR2.out).mono ?_); rintro e u3 ⟨rfl, r3, k3⟩; have K3 := Lib.hid (belowK K2.out k3 hBw); clear r3 k3))
          | (go_at_call 26; ((with_reducible refine (CE.out _).mono ?_); rintro e u2 ⟨rfl, k2⟩; have HR2 := Lib.hid (HR0.out.below k2); have K2 := Lib.hid (bThen HK0.out k2); clear k2)))
        go_ret
        exact ⟨by simp, K3.out⟩
end Go.Proofs.Ytecdcfmbhphagaa.BX
