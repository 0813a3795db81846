/-
  WALK: the law RingNil.
-/
import Derived.Test.YtecdcfmbhphagaaBNil
import Derived.Test.YtecdcfmbhphagaaBActs
namespace Go.Proofs.Ytecdcfmbhphagaa
open Go.ChangeShapes Go.WideShapes Go.ChangeAt Go.RowKit
set_option maxRecDepth 100000
set_option linter.unusedVariables false
theorem open_act16V {H : Type} {enc : TypeId × Value → H} {W : World} {r : Reach} {b0 : Nat} {spare : Nat → Bool} {held : Bool} {v : Value} {d : DataW H} {p : List MemPlace}
    (hv : Value.okWide Try.prog W r b0 37 v) (h : DataW.Trod enc Try.prog W 0 spare held 37 v d p) : ∃ x : BX.Act, v = .agg (BX.actC x) ∧ InE x.e := by
  obtain ⟨cs, rfl, hsz⟩ := okWide_struct Try.underlying37 hv
  have hC : Try.prog.cellsOf 37 = 20 := by kernel_rfl
  rw [hC] at hsz
  obtain ⟨fuel, hf⟩ := h
  obtain ⟨l⟩ := cs
  match l, hsz with
  | [v0, v1, v2, v3, v4, v5, v6, v7, v8, v9, v10, v11, v12, v13, v14, v15, v16, v17, v18, v19], _ =>
    obtain ⟨x, hx, _, hp⟩ := open_act1 (show DataW.trod enc Try.prog W 0 spare held fuel 37 [v0, v1, v2, v3, v4, v5, v6, v7, v8, v9, v10, v11, v12, v13, v14, v15, v16, v17, v18, v19] = some (d, p) from hf)
    exact ⟨x, by rw [hx], hp⟩
namespace BX
open HL
open IX (ptr El cellsK cellsK_at cellsK_len OwnK RdK Kept)
set_option linter.unusedSimpArgs false

theorem act_range {W : World} {D : Nat} {x : Act} (h : AtC W D (actC x)) : W.rangeAt D 1 (enC x.e).toList := fun i v hv => by
  have hi : i < 18 := by have := (List.getElem?_eq_some_iff.1 hv).1; simpa using this
  have e2 : (actC x).toList = [.int .i64 x.v] ++ ((enC x.e).toList ++ [.bool x.c]) := rfl
  rw [h.c, ← Array.getElem?_toList, e2, List.getElem?_append_right (by simp), List.getElem?_append_left (by simp; omega), ← hv]
  congr 1
  simp
set_option maxHeartbeats 8000000 in
theorem nil_walk (x : Act) (ver : Int) (w : World) : Calls Try.prog 5 #[.agg (actC x), .int .i64 ver] w fun e w' => e = .returned (.bool true) ∧ Below w.heap.size w w' := by
  have b0 := ((bAl (Below.refl w.heap.size w) (.cells (actC x) 37)).alloc (by simp) (.cells rgZ 61)).alloc (by simp; omega) (.cells #[.pointer none, ptr (w.heap.size + 1)] 23)
  have m0 := ((AtC.new w (actC x) 37).al (.cells rgZ 61)).al (.cells #[.pointer none, ptr (w.heap.size + 1)] 23)
  have m1 : AtC _ (w.heap.size + 1) rgZ := (AtC.newAt (w := w.alloc (.cells (actC x) 37)) (T := 61) (by simp)).al (.cells #[.pointer none, ptr (w.heap.size + 1)] 23)
  have m2 : AtC (((w.alloc (.cells (actC x) 37)).alloc (.cells rgZ 61)).alloc (.cells #[.pointer none, ptr (w.heap.size + 1)] 23)) (w.heap.size + 2) #[.pointer none, ptr (w.heap.size + 1)] := AtC.newAt (by simp)
  have hz := zero_rg
  have hzs := rgZ_size
  obtain ⟨CA, hCA⟩ : ∃ C, actC x = C := ⟨_, rfl⟩
  have q0 : (actC x)[0]? = some (.int .i64 x.v) := by simp [actC]
  have rx := act_range m0
  have c0 := (m0.c 0).trans q0
  have ml := m0.lt
  have u1 : Unm (((w.alloc (.cells (actC x) 37)).alloc (.cells rgZ 61)).alloc (.cells #[.pointer none, ptr (w.heap.size + 1)] 23)) (ptr (w.heap.size + 1)) := .inr ⟨_, rfl, (m1.c 0).trans (by simp [rgZ, rgL, hdL]), m1.lt⟩
  have d0 : (((w.alloc (.cells (actC x) 37)).alloc (.cells rgZ 61)).alloc (.cells #[.pointer none, ptr (w.heap.size + 1)] 23)).cell? ⟨w.heap.size + 2, 0, none⟩ = some (.pointer none) := m2.c 0
  have d1 : (((w.alloc (.cells (actC x) 37)).alloc (.cells rgZ 61)).alloc (.cells #[.pointer none, ptr (w.heap.size + 1)] 23)).cell? ⟨w.heap.size + 2, 1, none⟩ = some (ptr (w.heap.size + 1)) := m2.c 1
  have dl := m2.lt
  obtain ⟨CE, vE, cE, sE, tE, oE, zE⟩ := en_opq x.e
  obtain ⟨CZ, vZ, cZ, sZ, tZ, oZ, zZ⟩ := en_opq zeroEn
  rw [cE] at rx
  have hEq : ∀ W, (Op.equalIn 10000 35 (.agg CZ) (.agg #[.string ⟨#[]⟩, .bool false, .string ⟨#[]⟩, .int .u8 0, .string ⟨#[]⟩, .int .u8 0, .string ⟨#[]⟩, .int .i64 0, .int .i64 0, .int .u8 0, .bool false, .bool false, .int .i64 0, .int .i64 0, .int .i64 0, .int .u8 0, .int .i64 0, .int .i64 0])).run Try.prog W = .ok true W := fun W => by
    have := run_eqEn W zeroEn zeroEn
    rw [eqEn_same] at this
    rw [← vZ]
    exact this
  have HCAT := Lib.hid (fun p W (k : Unm W (.pointer p)) => at_no (.pointer p) ver W k)
  have HCLA := Lib.hid (fun p W (k : Unm W (.pointer p)) => last_no (.pointer p) W k)
  rw [vZ] at HCAT HCLA
  have HZZ := Lib.hid zZ
  rw [hCA] at b0 rx c0 ml u1 d0 d1 dl ⊢
  clear m0 m1 m2 vE cE sE oE zE vZ cZ zZ q0 hCA
  go_enter Try.func5, Try.ntmps5
  go_upto_region 3 with fail
  change Code.wp _ _ _ _ (((w.alloc (.cells CA 37)).alloc (.cells rgZ 61)).alloc (.cells #[.pointer none, ptr (w.heap.size + 1)] 23))
  generalize (((w.alloc (.cells CA 37)).alloc (.cells rgZ 61)).alloc (.cells #[.pointer none, ptr (w.heap.size + 1)] 23)) = W0 at *
  have HRX := Lib.hid rx
  clear rx
  go_wp2
  go_loopw [7] (fun i wr => ∃ k : Nat, i = .int .i64 k ∧ k ≤ 2 ∧ Below W0.heap.size W0 wr) (fun i _ => 2 - (intOf i).toNat)
  case atStart => exact ⟨0, rfl, by omega, Below.refl _ _⟩
  case round =>
    obtain ⟨k, rfl, hk, hK⟩ := hrel
    have HK := Lib.hid hK
    by_cases hlt : k < 2
    · obtain ⟨p, hp, hu⟩ : ∃ p, W0.cell? ⟨w.heap.size + 2, 0 + k, none⟩ = some (.pointer p) ∧ Unm W0 (.pointer p) := by
        rcases (show k = 0 ∨ k = 1 by omega) with rfl | rfl
        · exact ⟨none, d0, .inl rfl⟩
        · exact ⟨some ⟨w.heap.size + 1, 0, none⟩, d1, u1⟩
      have p0 : wr.cell? ⟨w.heap.size + 2, k, none⟩ = some (.pointer p) := by
        rw [Nat.zero_add] at hp
        exact (hK.cell (p := ⟨w.heap.size + 2, k, none⟩) dl).trans hp
      have i1 : (k : Int) < 2 := by omega
      have HU := Lib.hid (fun W (q : Below W0.heap.size W0 W) => hu.then q)
      have HC0 := Lib.hid (fun W (q : Below W0.heap.size W0 W) => (q.cell (p := ⟨w.heap.size, 0, none⟩) ml).trans c0)
      have HR0 := Lib.hid (fun W (q : Below W0.heap.size W0 W) => (show W.rangeAt w.heap.size 1 CE.toList from fun j v hv => (q.cell (p := ⟨w.heap.size, 1 + j, none⟩) ml).trans (HRX.out j v hv)))
      clear c0 d0 d1 u1 hp hu hK
      go_upto_region 8 with (first
        | (go_at_call 23; ((with_reducible refine (HCAT.out p _ (HU.out _ HK.out)).mono ?_); rintro e u1 ⟨rfl, k1⟩; have KU1 := Lib.hid (bThen HK.out k1); have L1 := laid_var (C := CZ) KU1.out HZZ.out; have HX1 := Lib.hid L1.1; have KB1 := Lib.hid (bThen KU1.out L1.2.1); have HT1 := Lib.hid L1.2.2; clear k1 L1))
        | ((with_reducible show wpList _ _ _ ({ dst := none, op := Op.store 35 _ _, type := _, pos := _, after := _, guard := _ } :: _) _ _); (refine wpList_store_mid rfl _ _ _ rfl u1.heap.size 0 CZ rfl rfl HT1.out sZ oZ ?_); change wpList _ _ _ _ _ ((u1.alloc (.cells (enC zeroEn) 35)).setCells u1.heap.size 0 CZ.toList); generalize ((u1.alloc (.cells (enC zeroEn) 35)).setCells u1.heap.size 0 CZ.toList) = V1 at *))
      go_upto_region 9 with (first
        | (go_at_call 16; ((with_reducible refine (HCLA.out p _ (HU.out _ KB1.out)).mono ?_); rintro e u2 ⟨rfl, k2⟩; have KU2 := Lib.hid (bThen KB1.out k2); have L2 := laid_var (C := CZ) KU2.out HZZ.out; have HX1 := Lib.hid ((HX1.out.then k2).then L2.2.1); have HX2 := Lib.hid L2.1; have KB2 := Lib.hid (bThen KU2.out L2.2.1); have HT2 := Lib.hid L2.2.2; clear k2 L2))
        | ((with_reducible show wpList _ _ _ ({ dst := none, op := Op.store 35 _ _, type := _, pos := _, after := _, guard := _ } :: _) _ _); (refine wpList_store_mid rfl _ _ _ rfl u2.heap.size 0 CZ rfl rfl HT2.out sZ oZ ?_); change wpList _ _ _ _ _ ((u2.alloc (.cells (enC zeroEn) 35)).setCells u2.heap.size 0 CZ.toList); generalize ((u2.alloc (.cells (enC zeroEn) 35)).setCells u2.heap.size 0 CZ.toList) = V2 at *))
      have e0 := HC0.out _ KB2.out
      have er := HR0.out _ KB2.out
      have ml2 := Nat.lt_of_lt_of_le ml KB2.out.size
      go_wp2_with (first
        | ((show wpList _ _ _ ({ dst := some 44, op := _, type := _, pos := _, after := _, guard := _ } :: _) _ _); (refine wpList_load_mid rfl _ _ rfl w.heap.size 1 rfl CE.toList _ er Try.underlying35 rfl tE ?_))
        | (go_at_call 14; ((with_reducible refine (putNo_any _ _ _ (HU.out _ KB2.out)).mono ?_); rintro e u3 ⟨rfl, k3⟩; have KB3 := Lib.hid (bThen KB2.out k3); have x1 := range_at (HX1.out.then k3); have x2 := range_at (HX2.out.then k3); clear k3))
        | ((show wpList _ _ _ ({ dst := some 52, op := _, type := _, pos := _, after := _, guard := _ } :: _) _ _); (refine wpList_load_g (by rfl) _ _ rfl u1.heap.size 0 rfl CZ.toList _ x1 Try.underlying35 rfl tZ ?_))
        | ((show wpList _ _ _ ({ dst := some 61, op := _, type := _, pos := _, after := _, guard := _ } :: _) _ _); (refine wpList_load_g (by rfl) _ _ rfl u2.heap.size 0 rfl CZ.toList _ x2 Try.underlying35 rfl tZ ?_))
        | (go_at_call 20; ((with_reducible refine (many_no _ _ (HU.out _ KB3.out)).mono ?_); rintro e u4 ⟨rfl, rfl⟩))
        | (go_at_call 18; ((with_reducible refine (dropped_no _ _ (HU.out _ KB3.out)).mono ?_); rintro e u5 ⟨rfl, rfl⟩))
        | (go_at_call 22; ((with_reducible refine (versions_no _ _ (HU.out _ KB3.out)).mono ?_); rintro e u6 ⟨rfl, k6⟩; have KB6 := Lib.hid (bThen KB3.out k6); clear k6)))
      go_roundw
      case rel => exact ⟨k + 1, by go_num, by omega, KB6.out⟩
      case measure => simp [intOf]; omega
    · obtain rfl : k = 2 := by omega
      clear c0 d0 d1 u1
      go_wp2_with (go_at_call 12; ((with_reducible refine (copyNil_any _).mono ?_); rintro e u7 ⟨rfl, rfl⟩))
      go_ret
      exact ⟨rfl, b0.trans (HK.out.mono (b0.size))⟩
end BX
end Go.Proofs.Ytecdcfmbhphagaa
