/-
  WALK: the document's Put.
-/
import Derived.Test.YtpdhfogmdhnoeaaIRef
namespace Go.Proofs.Ytpdhfogmdhnoeaa.IX
open Go.RowKit HL
set_option maxRecDepth 100000
set_option linter.unusedVariables false
set_option linter.unusedSimpArgs false

theorem own_apart {w : World} {b1 b2 : Nat} {v1 v2 : Value} {l1 : List Bs} {l2 : List Int} (h1 : OwnK strK w b1 v1 l1) (h2 : OwnK intK w b2 v2 l2) : ∀ k, v1.ownBlock = some k → v2.ownBlock ≠ some k := by
  intro k e1 e2
  rcases h1.2 with ⟨rfl, _⟩ | ⟨g, cap, cur, rfl, _, hh, _⟩
  · simp [Value.ownBlock] at e1
  · rcases h2.2 with ⟨rfl, _⟩ | ⟨g', cap', cur', rfl, _, hh', _⟩
    · simp [Value.ownBlock] at e2
    · simp only [Value.ownBlock, Option.some.injEq] at e1 e2
      subst e1; subst e2
      rw [hh] at hh'
      simp only [Option.some.injEq, Obj.cells.injEq] at hh'
      exact absurd hh'.2.1 (by decide)
set_option maxHeartbeats 1000000 in
theorem rPut_no (X : Nat) (vH vN : Value) (l : List Rw) (h : Bs) (n : Int) (w : World) (hR : RfAt w X vH vN l) (hn : l.length ≤ 1000000) (hh : h.length ≤ maxLen) (k : putE l h n ≠ 0) :
    Calls Try.prog 14 #[ptr X, str h, .int .i64 n] w fun e w' => e = .returned (.int .i64 (putE l h n)) ∧ putL l h n = l ∧ Below w.heap.size w w' := by
  have CY := Lib.hid (refMay_any ⟨h.toArray⟩ w hh)
  have CF := Lib.hid (rFind_any X vH vN l h w hR hn)
  clear hR hh
  by_cases hm : mayS h = true
  · have hm' : mayB ⟨h.toArray⟩ = true := hm
    rw [hm'] at CY
    clear hm'
    by_cases h2 : n < 0
    · have HV := Lib.hid (put_no2 (l := l) hm h2)
      clear hm k
      go_enter Try.func14, Try.ntmps14
      go_wp2_with (first
        | (go_at_call 38; ((with_reducible refine CY.out.mono ?_); rintro e w3 ⟨rfl, rfl⟩)))
      go_ret
      exact ⟨by rw [HV.out.1]; rfl, HV.out.2, Below.refl _ _⟩
    · have h3 : hasB l h = true := by
        cases e : hasB l h with
        | true => rfl
        | false => exact absurd (put_yes hm h2 e).1 k
      have HV := Lib.hid (put_no3 hm h2 h3)
      rw [h3] at CF
      clear hm h3 k
      go_enter Try.func14, Try.ntmps14
      go_wp2_with (first
        | (go_at_call 38; ((with_reducible refine CY.out.mono ?_); rintro e w3 ⟨rfl, rfl⟩))
        | (go_at_call 35; ((with_reducible refine CF.out.mono ?_); rintro e w3 ⟨rfl, rfl⟩)))
      go_ret
      exact ⟨by rw [HV.out.1]; rfl, HV.out.2, Below.refl _ _⟩
  · have hm0 : mayS h = false := by simpa using hm
    have hm' : mayB ⟨h.toArray⟩ = false := hm0
    rw [hm'] at CY
    have HV := Lib.hid (put_no1 (l := l) (n := n) hm0)
    clear hm hm0 hm' k
    go_enter Try.func14, Try.ntmps14
    go_wp2_with (first
      | (go_at_call 38; ((with_reducible refine CY.out.mono ?_); rintro e w3 ⟨rfl, rfl⟩)))
    go_ret
    exact ⟨by rw [HV.out.1]; rfl, HV.out.2, Below.refl _ _⟩
theorem keys_ins (l : List Rw) (h : Bs) (n : Int) (p : Nat) : (keys l).take p ++ [h] ++ (keys l).drop p = keys (l.take p ++ (h, n) :: l.drop p) := by simp [keys]
theorem nums_ins (l : List Rw) (h : Bs) (n : Int) (p : Nat) : (nums l).take p ++ [n] ++ (nums l).drop p = nums (l.take p ++ (h, n) :: l.drop p) := by simp [nums]
set_option maxHeartbeats 4000000 in
theorem rPut_ok (X : Nat) (vH vN : Value) (l : List Rw) (h : Bs) (n : Int) (w : World) (hR : RfAt w X vH vN l) (hn : l.length ≤ 100000) (hh : h.length ≤ maxLen) (hk : ∀ r ∈ l, r.1.length ≤ maxLen) (hm : mayS h = true) (h2 : ¬ n < 0) (h3 : hasB l h = false) :
    Calls Try.prog 14 #[ptr X, str h, .int .i64 n] w fun e w' => ∃ vH' vN', e = .returned (.int .i64 0) ∧ RfAt w' X vH' vN' (l.take (plc l h) ++ (h, n) :: l.drop (plc l h)) ∧
      (∀ k, vH'.ownBlock = some k → vH.ownBlock = some k ∨ w.heap.size ≤ k) ∧ (∀ k, vN'.ownBlock = some k → vN.ownBlock = some k ∨ w.heap.size ≤ k) ∧ Kept w w' (fun k => k ≠ X ∧ vH.ownBlock ≠ some k ∧ vN.ownBlock ≠ some k) := by
  have CY := Lib.hid (refMay_any ⟨h.toArray⟩ w hh)
  have hm' : mayB ⟨h.toArray⟩ = true := hm
  rw [hm'] at CY
  have CF := Lib.hid (rFind_any X vH vN l h w hR (by omega))
  rw [h3] at CF
  have CP := Lib.hid (rPlace_any X vH vN l h w hR (by omega) hh hk)
  have HU := Lib.hid (up_ins hR.up n h3)
  unfold ins at HU
  have hpl := plc_le l h
  obtain ⟨AH, cH, rfl, rdH, hcH⟩ := hR.formH
  obtain ⟨AN, cN, rfl, rdN, hcN⟩ := hR.formN
  obtain ⟨A2, c2, s2, r2, _, _, _, _⟩ := slice_fromK strK rdH (keys_len l) (p := plc l h) hpl hcH
  obtain ⟨A3, c3, s3, r3, _, _, _, _⟩ := slice_fromK intK rdN (nums_len l) (p := plc l h) hpl hcN
  have t2 := fun W => slice_toK strK (A := AH) (n := l.length) (c := cH) (p := plc l h) hpl hcH W
  have t3 := fun W => slice_toK intK (A := AN) (n := l.length) (c := cN) (p := plc l h) hpl hcN W
  have e2 : ∀ W, (Instr.slice 27 (.slice AH l.length cH) (some (.int .i64 (plc l h : Int))) none none).run Try.prog W = .ok (.slice A2 (l.length - plc l h) c2) W := s2
  have e3 : ∀ W, (Instr.slice 28 (.slice AN l.length cN) (some (.int .i64 (plc l h : Int))) none none).run Try.prog W = .ok (.slice A3 (l.length - plc l h) c3) W := s3
  have e4 : ∀ W, (Instr.slice 27 (.slice AH l.length cH) none (some (.int .i64 (plc l h : Int))) none).run Try.prog W = .ok (.slice AH (plc l h) cH) W := t2
  have e5 : ∀ W, (Instr.slice 28 (.slice AN l.length cN) none (some (.int .i64 (plc l h : Int))) none).run Try.prog W = .ok (.slice AN (plc l h) cN) W := t3
  have HR := Lib.hid hR
  have HA := Lib.hid (own_apart hR.h hR.n)
  have R2 := Lib.hid (r2 w rdH)
  have R3 := Lib.hid (r3 w rdN)
  have hHn : (keys l).length = l.length := keys_len l
  have hNn : (nums l).length = l.length := nums_len l
  have TH := Lib.hid (fun W (q : OwnK strK W 0 (.slice AH l.length cH) (keys l)) => OwnK.take (p := plc l h) (by rw [hHn]; exact q) (by rw [hHn]; exact hpl))
  have TN := Lib.hid (fun W (q : OwnK intK W 0 (.slice AN l.length cN) (nums l)) => OwnK.take (p := plc l h) (by rw [hNn]; exact q) (by rw [hNn]; exact hpl))
  have hd1 : ((keys l).drop (plc l h)).length = l.length - plc l h := by simp [keys_len]
  have hd2 : ((nums l).drop (plc l h)).length = l.length - plc l h := by simp [nums_len]
  have HD1 := Lib.hid hd1
  have HD2 := Lib.hid hd2
  have ht1 : ((keys l).take (plc l h)).length ≤ 100000 := by simp [keys_len]; omega
  have ht2 : ((nums l).take (plc l h)).length ≤ 100000 := by simp [nums_len]; omega
  have HK := Lib.hid (keys_ins l h n (plc l h))
  have HN := Lib.hid (nums_ins l h n (plc l h))
  have hw0 : w.heap.size = w.heap.size := rfl
  clear hR hm hm' h3 hh hk s2 s3 t2 t3 r2 r3 rdH rdN hd1 hd2 hHn hNn hw0
  generalize (keys l).drop (plc l h) = dH at *
  generalize (nums l).drop (plc l h) = dN at *
  generalize (keys l).take (plc l h) = tH at *
  generalize (nums l).take (plc l h) = tN at *
  generalize hL2 : l.take (plc l h) ++ (h, n) :: l.drop (plc l h) = l2 at *
  have HL2 := Lib.hid hL2
  clear hL2
  generalize plc l h = p at *
  go_enter Try.func14, Try.ntmps14
  go_wp2_with (first
    | (go_at_call 38; ((with_reducible refine CY.out.mono ?_); rintro e w3 ⟨rfl, rfl⟩))
    | (go_at_call 35; ((with_reducible refine CF.out.mono ?_); rintro e w3 ⟨rfl, rfl⟩))
    | (go_at_call 36; ((with_reducible refine CP.out.mono ?_); rintro e wa ⟨rfl, ka⟩; have KA := Lib.hid ka; have x0 := (HR.out.then ka).c0; have x1 := (HR.out.then ka).c1; have zx := (HR.out.then ka).a.lt))
    | (at_builtin; refine wpList_spreadK strK rfl (.tmp 27) (.tmp 33) rfl wa.heap.size _ [] rfl (OwnK.lit wa wa.heap.size (Nat.le_refl _)) w.heap.size A2 _ c2 dH rfl HD1.out (R2.out.below (KA.out.trans (((Below.refl _ _).alloc (Nat.le_refl _) _).mono KA.out.size))) ?d1 ?d2 ?_))
  case d1 => have := HD1.out; simp; omega
  case d2 => simp
  intro v1 w1 o1 g1 f1
  have k1 : Below wa.heap.size wa w1 := ((Below.refl _ _).alloc (Nat.le_refl _) _).grown g1 (by simp) (fun k hk => by simp [Value.ownBlock] at hk; omega)
  have K1 := Lib.hid (bThen KA.out k1)
  have x1 := (HR.out.then K1.out).c1
  have zx1 := (HR.out.then K1.out).a.lt
  obtain ⟨A4, c4, rfl, _, _, _⟩ := o1.form
  have O1 := Lib.hid o1
  have HZ1 : Hid (wa.heap.size ≤ w1.heap.size) := Lib.hid k1.size
  clear o1 g1 f1 k1 x0
  go_wp2_with (at_builtin; refine wpList_spreadK intK rfl (.tmp 35) (.tmp 41) rfl w1.heap.size _ [] rfl (OwnK.lit w1 w1.heap.size (Nat.le_refl _)) w.heap.size A3 _ c3 dN rfl HD2.out (R3.out.below (K1.out.trans (((Below.refl _ _).alloc (Nat.le_refl _) _).mono K1.out.size))) ?d3 ?d4 ?_)
  case d3 => have := HD2.out; simp; omega
  case d4 => simp
  intro v2 w2 o2 g2 f2
  have k2 : Below w1.heap.size w1 w2 := ((Below.refl _ _).alloc (Nat.le_refl _) _).grown g2 (by simp) (fun k hk => by simp [Value.ownBlock] at hk; omega)
  have K2 := Lib.hid (bThen K1.out k2)
  have x0 := (HR.out.then K2.out).c0
  have zx2 := (HR.out.then K2.out).a.lt
  obtain ⟨A5, c5, rfl, _, _, _⟩ := o2.form
  have O2 := Lib.hid o2
  have O1b := Lib.hid (O1.out.below k2)
  have HZ2 : Hid (w1.heap.size ≤ w2.heap.size) := Lib.hid k2.size
  clear o2 g2 f2 k2 x1 O1
  have hob : (Value.slice AH p cH).ownBlock = (Value.slice AH l.length cH).ownBlock := by cases AH <;> rfl
  have hobn : (Value.slice AN p cN).ownBlock = (Value.slice AN l.length cN).ownBlock := by cases AN <;> rfl
  have HOB := Lib.hid hob
  have HOBN := Lib.hid hobn
  clear hob hobn
  have HHlt := Lib.hid (HR.out.h.lt)
  have HNlt := Lib.hid (HR.out.n.lt)
  have hlX := HR.out.a.lt
  go_wp2_with (at_builtin; refine wpList_spreadK strK rfl (.tmp 49) (.tmp 51) rfl 0 _ tH rfl (TH.out _ ((HR.out.then K2.out).h.below ((Below.refl _ _).alloc (Nat.le_refl _) _))) (w2.heap.size + 1) (some ⟨w2.heap.size, 0, none⟩) 1 1 [h] rfl rfl (RdK.lit _ _ _ rfl _) ?d5 (Nat.zero_le _) ?_)
  case d5 => simp; omega
  intro v3 w3 o3 g3 f3
  have kt3 : KeepT intK.e intK.e w2 w3 := fun k C T q hT => KeepT.grown (TH.out _ ((HR.out.then K2.out).h.below ((Below.refl _ _).alloc (Nat.le_refl _) _))) g3 (by decide) (by decide) k C T (KeepT.alloc _ _ _ _ k C T q hT) hT
  have N3 := Lib.hid (((HR.out.then K2.out).n).keepT kt3)
  have S3 := Lib.hid (O2.out.keepT kt3)
  rw [HOB.out] at g3 f3
  have G3 := Lib.hid (((Kept.of_below (P := fun k => k ≠ X ∧ (Value.slice AH l.length cH).ownBlock ≠ some k ∧ (Value.slice AN l.length cN).ownBlock ≠ some k) K2.out).alloc (.cells #[str h] 9)).grown g3 (fun k e _ p => p.2.1 e))
  have k3 : Kept w2 w3 (fun k => (Value.slice AH l.length cH).ownBlock ≠ some k) := ((Kept.refl _ _).alloc _).grown g3 (fun k e _ p => p e)
  have O1c := Lib.hid (O1b.out.kept k3 (fun b e e2 => by have := (O1b.out.lt b e).1; have := (HHlt.out b e2).2; have := KA.out.size; omega))
  have F3 : Hid (∀ k, v3.ownBlock = some k → (Value.slice AH l.length cH).ownBlock = some k ∨ w2.heap.size ≤ k) := Lib.hid (fun k e => by
    rcases f3 with q | q
    · exact .inl (q ▸ e)
    · rw [q] at e; simp at e; exact .inr (by omega))
  have O3 := Lib.hid o3
  have K3 := Lib.hid k3
  obtain ⟨A6, c6, e6, _, _, _⟩ := O1c.out.form
  simp only [Value.slice.injEq] at e6
  obtain ⟨rfl, _, rfl⟩ := e6
  obtain ⟨_, _, e7, rd7, _, _⟩ := O1c.out.form
  simp only [Value.slice.injEq] at e7
  obtain ⟨rfl, _, rfl⟩ := e7
  have RD7 := Lib.hid rd7
  have hz3 : w2.heap.size ≤ w3.heap.size := k3.size
  have a3 : AtC w3 X #[.slice AH l.length cH, .slice AN l.length cN] := k3.atC (HR.out.then K2.out).a HR.out.nh
  have A3X := Lib.hid a3
  have x0b : w3.cell? ⟨X, 0, none⟩ = some (.slice AH l.length cH) := a3.c 0
  have fx0 := a3.f 0
  clear o3 g3 f3 k3 kt3 rd7 a3 x0
  go_wp2_with (at_builtin; refine wpList_spreadK strK rfl (.tmp 52) (.tmp 53) rfl 0 _ (tH ++ [h]) rfl O3.out w3.heap.size A4 _ c4 dH rfl (by first | rfl | simp) RD7.out ?d6 (Nat.zero_le _) ?_)
  case d6 => have := HD1.out; simp; omega
  intro v4 w4 o4 g4 f4
  have hwz : w.heap.size ≤ w2.heap.size := K2.out.size
  have kt4 : KeepT intK.e intK.e w3 w4 := KeepT.grown O3.out g4 (by decide) (by decide)
  have k4 : Kept w3 w4 (fun k => v3.ownBlock ≠ some k) := (Kept.refl _ _).grown g4 (fun k e _ p => p e)
  have hv3X : v3.ownBlock ≠ some X := fun e => by
    rcases F3.out X e with q | q
    · exact HR.out.nh q
    · omega
  have a4 : AtC w4 X #[.slice AH l.length cH, .slice AN l.length cN] := k4.atC A3X.out hv3X
  have F4 : Hid (∀ k, v4.ownBlock = some k → (Value.slice AH l.length cH).ownBlock = some k ∨ w2.heap.size ≤ k) := Lib.hid (fun k e => by
    rcases f4 with q | q
    · exact F3.out k (q ▸ e)
    · rw [q] at e; simp at e; exact .inr (by omega))
  have hv4X : v4.ownBlock ≠ some X := fun e => by
    rcases F4.out X e with q | q
    · exact HR.out.nh q
    · omega
  have G4 := Lib.hid (G3.out.grown g4 (fun k e hk p => by
    rcases F3.out k e with q | q
    · exact p.2.1 q
    · omega))
  have hk4 : tH ++ h :: dH = keys l2 := by have := HK.out; simpa using this
  rw [hk4] at o4
  have hHL : (keys l2).length = l.length + 1 := by rw [keys_len, ← HL2.out]; simp; omega
  obtain ⟨A8, c8, e8, _, _, _⟩ := o4.form
  rw [hHL] at e8
  subst e8
  have ks : ∀ v, Kept w4 (w4.setCell ⟨X, 0, none⟩ v) (fun k => k ≠ X) := fun v => (Kept.refl w4 (fun k => k ≠ X)).set (fun _ p => p rfl) v
  have m5 : AtC (w4.setCell ⟨X, 0, none⟩ (.slice A8 (l.length + 1) c8)) X #[.slice A8 (l.length + 1) c8, .slice AN l.length cN] := a4.set (i := 0) (by show 0 < 2; omega) _
  have N5 := Lib.hid ((N3.out.keepT kt4).kept (ks (.slice A8 (l.length + 1) c8)) (fun b e e2 => HR.out.nn (by rw [e, e2])))
  have S5 := Lib.hid ((S3.out.keepT kt4).kept (ks (.slice A8 (l.length + 1) c8)) (fun b e e2 => by have := (S3.out.lt b e).1; have := HZ1.out; omega))
  have O5 := Lib.hid (o4.kept (ks (.slice A8 (l.length + 1) c8)) (fun b e e2 => hv4X (by rw [e, e2])))
  have G5 := Lib.hid (G4.out.set (B := X) (i := 0) (fun _ p => p.1 rfl) (.slice A8 (l.length + 1) c8))
  have M5 := Lib.hid m5
  have d0 := a4.c 0
  have d1 := a4.f 0
  have hz4 : w3.heap.size ≤ w4.heap.size := k4.size
  clear hHL hk4 kt4 k4 a4 g4 f4 o4 ks m5 x0b fx0 N3 S3 G3 G4
  have d2 := M5.out.c 1
  have hz5 : (w4.setCell ⟨X, 0, none⟩ (.slice A8 (l.length + 1) c8)).heap.size = w4.heap.size := by simp [World.setCell]
  have HZ5 := Lib.hid hz5
  have zx4 : X < w4.heap.size := by omega
  have d3 : w4.cell? ⟨X, 1, none⟩ = some (.slice AN l.length cN) := by
    have q : (w4.setCell ⟨X, 0, none⟩ (.slice A8 (l.length + 1) c8)).cell? ⟨X, 1, none⟩ = some (.slice AN l.length cN) := d2
    have n0 : (⟨X, 0, none⟩ : Addr) ≠ ⟨X, 1, none⟩ := fun e => by injection e with _ e2; cases e2
    rw [World.cell?_setCell_other (h := n0)] at q
    exact q
  clear d2 hz5
  go_wp2_with (at_builtin; go_loud (refine wpList_spreadK intK rfl (.tmp 63) (.tmp 65) rfl 0 _ tN rfl (TN.out _ (N5.out.below ((Below.refl _ _).alloc (Nat.le_refl _) _))) (w4.heap.size + 1) (some ⟨w4.heap.size, 0, none⟩) 1 1 [n] rfl rfl ?d7 ?d8 (Nat.zero_le _) ?_))
  case d7 =>
    have q := RdK.lit (K := intK) (w4.setCell ⟨X, 0, none⟩ (.slice A8 (l.length + 1) c8)) n #[.int .i64 n] rfl 3
    rw [HZ5.out] at q
    exact q
  case d8 => simp; omega
  intro v6 w6 o6 g6 f6
  rw [HOBN.out] at g6 f6
  have kt6 : KeepT strK.e strK.e (w4.setCell ⟨X, 0, none⟩ (.slice A8 (l.length + 1) c8)) w6 := fun k C T q hT => KeepT.grown (TN.out _ (N5.out.below ((Below.refl _ _).alloc (Nat.le_refl _) (.cells #[.int .i64 n] 3)))) (by rw [HOBN.out]; exact g6) (by decide) (by decide) k C T (KeepT.alloc _ _ _ _ k C T q hT) hT
  have k6 : Kept (w4.setCell ⟨X, 0, none⟩ (.slice A8 (l.length + 1) c8)) w6 (fun k => (Value.slice AN l.length cN).ownBlock ≠ some k) := ((Kept.refl _ _).alloc (.cells #[.int .i64 n] 3)).grown g6 (fun k e _ p => p e)
  have P6 := Lib.hid (O5.out.keepT kt6)
  have S6 := Lib.hid (S5.out.kept k6 (fun b e e2 => by have := (S5.out.lt b e).1; have := (HNlt.out b e2).2; have := HZ1.out; have := KA.out.size; omega))
  have G6 := Lib.hid ((G5.out.alloc (.cells #[.int .i64 n] 3)).grown g6 (fun k e _ p => p.2.2 e))
  have a6 : AtC w6 X #[.slice A8 (l.length + 1) c8, .slice AN l.length cN] := k6.atC M5.out HR.out.nn
  have M6 := Lib.hid a6
  have F6 : Hid (∀ k, v6.ownBlock = some k → (Value.slice AN l.length cN).ownBlock = some k ∨ w4.heap.size ≤ k) := Lib.hid (fun k e => by
    rcases f6 with q | q
    · exact .inl (q ▸ e)
    · rw [q] at e; simp [World.setCell] at e; exact .inr (by omega))
  have O6 := Lib.hid o6
  obtain ⟨_, _, e9, rd9, _, _⟩ := S6.out.form
  simp only [Value.slice.injEq] at e9
  obtain ⟨rfl, _, rfl⟩ := e9
  have RD9 := Lib.hid rd9
  have hz6 : w4.heap.size ≤ w6.heap.size := by have := k6.size; rwa [HZ5.out] at this
  have y1 : w6.cell? ⟨X, 1, none⟩ = some (.slice AN l.length cN) := a6.c 1
  have fy1 := a6.f 1
  clear o6 g6 f6 k6 kt6 rd9 a6 d0 d1 d3 O5 N5 S5 G5 M5
  go_wp2_with (at_builtin; refine wpList_spreadK intK rfl (.tmp 66) (.tmp 67) rfl 0 _ (tN ++ [n]) rfl O6.out w6.heap.size A5 _ c5 dN rfl (by first | rfl | simp) RD9.out ?d9 (Nat.zero_le _) ?_)
  case d9 => have := HD2.out; simp; omega
  intro v7 w7 o7 g7 f7
  have kt7 : KeepT strK.e strK.e w6 w7 := KeepT.grown O6.out g7 (by decide) (by decide)
  have k7 : Kept w6 w7 (fun k => v6.ownBlock ≠ some k) := (Kept.refl _ _).grown g7 (fun k e _ p => p e)
  have hv6X : v6.ownBlock ≠ some X := fun e => by
    rcases F6.out X e with q | q
    · exact HR.out.nn q
    · omega
  have a7 : AtC w7 X #[.slice A8 (l.length + 1) c8, .slice AN l.length cN] := k7.atC M6.out hv6X
  have F7 : Hid (∀ k, v7.ownBlock = some k → (Value.slice AN l.length cN).ownBlock = some k ∨ w.heap.size ≤ k) := Lib.hid (fun k e => by
    rcases f7 with q | q
    · exact (F6.out k (q ▸ e)).imp id (fun q => by omega)
    · rw [q] at e; simp at e; exact .inr (by omega))
  have hv7X : v7.ownBlock ≠ some X := fun e => by
    rcases f7 with q | q
    · exact hv6X (q ▸ e)
    · rw [q] at e; simp at e; omega
  have G7 := Lib.hid (G6.out.grown g7 (fun k e hk p => by
    rcases F6.out k e with q | q
    · exact p.2.2 q
    · omega))
  have hk7 : tN ++ n :: dN = nums l2 := by have := HN.out; simpa using this
  rw [hk7] at o7
  have hNL : (nums l2).length = l.length + 1 := by rw [nums_len, ← HL2.out]; simp; omega
  obtain ⟨A9, c9, e8, _, _, _⟩ := o7.form
  rw [hNL] at e8
  subst e8
  have ks : Kept w7 (w7.setCell ⟨X, 1, none⟩ (.slice A9 (l.length + 1) c9)) (fun k => k ≠ X) := (Kept.refl w7 (fun k => k ≠ X)).set (fun _ p => p rfl) _
  have m8 : AtC (w7.setCell ⟨X, 1, none⟩ (.slice A9 (l.length + 1) c9)) X #[.slice A8 (l.length + 1) c8, .slice A9 (l.length + 1) c9] := a7.set (i := 1) (by show 1 < 2; omega) _
  have N8 := Lib.hid (o7.kept ks (fun b e e2 => hv7X (by rw [e, e2])))
  have P8 := Lib.hid ((P6.out.keepT kt7).kept ks (fun b e e2 => hv4X (by rw [e, e2])))
  have G8 := Lib.hid (G7.out.set (B := X) (i := 1) (fun _ p => p.1 rfl) (.slice A9 (l.length + 1) c9))
  have M8 := Lib.hid m8
  have z0 := a7.c 1
  have z1 := a7.f 1
  clear hNL hk7 kt7 k7 a7 g7 f7 o7 ks m8 y1 fy1 G6 G7 M6 P6 S6
  go_wp2
  go_ret
  exact ⟨_, _, rfl, ⟨M8.out, P8.out, N8.out, hv4X, hv7X, HU.out⟩, fun k e => (F4.out k e).imp id (fun q => by omega), F7.out, G8.out⟩
theorem rPut_any (X : Nat) (vH vN : Value) (l : List Rw) (h : Bs) (n : Int) (w : World) (hR : RfAt w X vH vN l) (hn : l.length ≤ 100000) (hh : h.length ≤ maxLen) (hk : ∀ r ∈ l, r.1.length ≤ maxLen) :
    Calls Try.prog 14 #[ptr X, str h, .int .i64 n] w fun e w' => ∃ vH' vN', e = .returned (.int .i64 (putE l h n)) ∧ RfAt w' X vH' vN' (putL l h n) ∧
      (∀ k, vH'.ownBlock = some k → vH.ownBlock = some k ∨ w.heap.size ≤ k) ∧ (∀ k, vN'.ownBlock = some k → vN.ownBlock = some k ∨ w.heap.size ≤ k) ∧ Kept w w' (fun k => k ≠ X ∧ vH.ownBlock ≠ some k ∧ vN.ownBlock ≠ some k) := by
  by_cases k : putE l h n = 0
  · have k1 : mayS h = true := by
      cases e : mayS h with
      | true => rfl
      | false => rw [(put_no1 e).1] at k; omega
    have k2 : ¬ n < 0 := fun e => by rw [(put_no2 k1 e).1] at k; omega
    have k3 : hasB l h = false := by
      cases e : hasB l h with
      | false => rfl
      | true => rw [(put_no3 k1 k2 e).1] at k; omega
    rw [(put_yes k1 k2 k3).1, (put_yes k1 k2 k3).2]
    exact rPut_ok X vH vN l h n w hR hn hh hk k1 k2 k3
  · refine (rPut_no X vH vN l h n w hR (by omega) hh k).mono ?_
    rintro e w' ⟨rfl, e2, b⟩
    exact ⟨vH, vN, rfl, by rw [e2]; exact hR.then b, fun k h => .inl h, fun k h => .inl h, .of_below b⟩
end Go.Proofs.Ytpdhfogmdhnoeaa.IX
