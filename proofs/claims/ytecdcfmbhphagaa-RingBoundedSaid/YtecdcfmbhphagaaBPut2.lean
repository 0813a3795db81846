/-
  WALK: Put of a ring.
-/
import Derived.Test.YtecdcfmbhphagaaBPut
namespace Go.Proofs.Ytecdcfmbhphagaa.BX
open Go.RowKit HL
open UX (mayS ofS)
open IX (ptr El cellsK cellsK_at cellsK_len OwnK RdK Kept)
set_option maxRecDepth 100000
set_option linter.unusedVariables false
set_option linter.unusedSimpArgs false

theorem _root_.Go.Proofs.Ytecdcfmbhphagaa.IX.Kept.weak' {w W W' : World} {P : Nat → Prop} (h : Kept W W' P) (k : w.heap.size ≤ W.heap.size) : Kept W W' P := h
theorem put_parts (g : Rg) (v : Int) (e : En) : putB g v e = (followsB g v && ownB g.h e && (mayS e.desc e.state && decide (ofS (lastE g).desc (lastE g).state e.desc e.state = 1))) := rfl
theorem put_yes {g : Rg} {v : Int} {e : En} (h : putB g v e = true) : putE g v e = 0 ∧ putG g v e = ⟨g.h, g.size, g.all ++ [(v, e)]⟩ := by simp [putE, putG, h]
theorem put_no {g : Rg} {v : Int} {e : En} (h : putB g v e = false) : putE g v e = 2 ∧ putG g v e = g := by simp [putE, putG, h]
set_option maxHeartbeats 2000000 in
theorem put_any {B : Nat} {g : Rg} {R : List (Int × En)} (v : Int) (e : En) (w : World) (hA : RgAt w B g R) (hn : g.all.length ≤ 100000) :
    Calls Try.prog 14 #[ptr B, .int .i64 v, en e] w fun r w' => r = .returned (.int .i64 (putE g v e)) ∧ (∃ R', RgAt w' B (putG g v e) R') ∧ Kept w w' (· ≠ B) := by
  have hb := bAl (Below.refl w.heap.size w) (.cells (enC e) 35)
  have M0 := AtC.new w (enC e) 35
  have HE16 := Lib.hid (en16 e)
  have HE17 := Lib.hid (en17 e)
  have HB0 := Lib.hid hb
  have HA := Lib.hid hA
  have HBw := Lib.hid hA.lt
  have CM := Lib.hid (made_any (B := B) _ (hA.below hb).c0)
  have CF := Lib.hid (follows_any v _ (hA.below hb) (by omega))
  have CO := Lib.hid (fun W (k : Below w.heap.size w W) => own_any (B := B) g.h e W (Nat.lt_of_lt_of_le hA.lt k.size) (hA.below k).c1)
  have CG := Lib.hid (fun W (k : Below w.heap.size w W) => grows_any e.desc e.state W (hA.below k) (by omega))
  obtain ⟨CE, hE⟩ : ∃ CE, enC e = CE := ⟨_, rfl⟩
  have hEs : (Try.prog.info? 35).map (·.size) = some CE.toList.length := by rw [← hE]; kernel_rfl
  have hEv : en e = .agg CE := by rw [← hE]
  rw [hEv] at CO ⊢
  rw [hE] at HE16 HE17 hb M0 CM CF HB0
  have M := Lib.hid M0
  have HE := Lib.hid hE
  clear M0 hE hEv hA
  obtain ⟨pE, hpE⟩ : ∃ x, putE g v e = x := ⟨_, rfl⟩
  obtain ⟨pG, hpG⟩ : ∃ x, putG g v e = x := ⟨_, rfl⟩
  have HP := put_parts g v e
  rw [hpE, hpG]
  cases hf : followsB g v with
  | false =>
    have HV : Hid (pE = 2 ∧ pG = g) := Lib.hid (by rw [← hpE, ← hpG]; exact put_no (by rw [HP, hf]; rfl))
    rw [hf] at CF
    clear hpE hpG HP hf
    go_enter Try.func14, Try.ntmps14
    go_wp2_with (first
    | (go_at_call 27; ((with_reducible refine CM.out.mono ?_); rintro e1 w1 ⟨rfl, rfl⟩))
    | (go_at_call 28; ((with_reducible refine CF.out.mono ?_); rintro e1 w2 ⟨rfl, k2⟩; have K2 := Lib.hid (bThen hb k2); have K02 := Lib.hid k2; have HR2 := Lib.hid (range_at (M.out.then k2)); have HW2 := Lib.hid (bThen (Below.refl _ _) k2); clear k2))
    | ((show wpList _ _ _ ({ dst := some 18, op := _, type := _, pos := _, after := _, guard := _ } :: _) _ _); (refine wpList_load_g (by rfl) _ _ rfl w.heap.size 0 rfl CE.toList _ HR2.out Try.underlying35 rfl hEs ?_))
    | (go_at_call 29; ((refine (CO.out _ K2.out).mono ?_); rintro e1 w3 ⟨rfl, k3⟩; have K3 := Lib.hid (bThen K2.out k3); have K03 := Lib.hid k3; have M3 := M.out.then (bThen K02.out k3); have x16 := (M3.c 16).trans HE16.out; have x17 := (M3.c 17).trans HE17.out; have xl := M3.lt; clear k3 M3))
    | (go_at_call 30; ((refine (CG.out _ K3.out).mono ?_); rintro e1 w4 ⟨rfl, k4⟩; have K4 := Lib.hid (bThen K3.out k4); have HK04 := Lib.hid (bThen (bThen K02.out K03.out) k4); clear k4)))
    go_ret
    exact ⟨by rw [HV.out.1]; rfl, by rw [HV.out.2]; exact ⟨_, HA.out.below K2.out⟩, .of_below K2.out⟩
  | true =>
    rw [hf] at CF
    cases ho : ownB g.h e with
    | false =>
      have HV : Hid (pE = 2 ∧ pG = g) := Lib.hid (by rw [← hpE, ← hpG]; exact put_no (by rw [HP, hf, ho]; rfl))
      rw [ho] at CO
      clear hpE hpG HP hf ho
      go_enter Try.func14, Try.ntmps14
      go_wp2_with (first
    | (go_at_call 27; ((with_reducible refine CM.out.mono ?_); rintro e1 w1 ⟨rfl, rfl⟩))
    | (go_at_call 28; ((with_reducible refine CF.out.mono ?_); rintro e1 w2 ⟨rfl, k2⟩; have K2 := Lib.hid (bThen hb k2); have K02 := Lib.hid k2; have HR2 := Lib.hid (range_at (M.out.then k2)); have HW2 := Lib.hid (bThen (Below.refl _ _) k2); clear k2))
    | ((show wpList _ _ _ ({ dst := some 18, op := _, type := _, pos := _, after := _, guard := _ } :: _) _ _); (refine wpList_load_g (by rfl) _ _ rfl w.heap.size 0 rfl CE.toList _ HR2.out Try.underlying35 rfl hEs ?_))
    | (go_at_call 29; ((refine (CO.out _ K2.out).mono ?_); rintro e1 w3 ⟨rfl, k3⟩; have K3 := Lib.hid (bThen K2.out k3); have K03 := Lib.hid k3; have M3 := M.out.then (bThen K02.out k3); have x16 := (M3.c 16).trans HE16.out; have x17 := (M3.c 17).trans HE17.out; have xl := M3.lt; clear k3 M3))
    | (go_at_call 30; ((refine (CG.out _ K3.out).mono ?_); rintro e1 w4 ⟨rfl, k4⟩; have K4 := Lib.hid (bThen K3.out k4); have HK04 := Lib.hid (bThen (bThen K02.out K03.out) k4); clear k4)))
      go_ret
      exact ⟨by rw [HV.out.1]; rfl, by rw [HV.out.2]; exact ⟨_, HA.out.below K3.out⟩, .of_below K3.out⟩
    | true =>
      rw [ho] at CO
      cases hg : (mayS e.desc e.state && decide (ofS (lastE g).desc (lastE g).state e.desc e.state = 1)) with
      | false =>
        have HV : Hid (pE = 2 ∧ pG = g) := Lib.hid (by rw [← hpE, ← hpG]; exact put_no (by rw [HP, hf, ho, hg]; rfl))
        rw [hg] at CG
        clear hpE hpG HP hf ho hg
        go_enter Try.func14, Try.ntmps14
        go_wp2_with (first
    | (go_at_call 27; ((with_reducible refine CM.out.mono ?_); rintro e1 w1 ⟨rfl, rfl⟩))
    | (go_at_call 28; ((with_reducible refine CF.out.mono ?_); rintro e1 w2 ⟨rfl, k2⟩; have K2 := Lib.hid (bThen hb k2); have K02 := Lib.hid k2; have HR2 := Lib.hid (range_at (M.out.then k2)); have HW2 := Lib.hid (bThen (Below.refl _ _) k2); clear k2))
    | ((show wpList _ _ _ ({ dst := some 18, op := _, type := _, pos := _, after := _, guard := _ } :: _) _ _); (refine wpList_load_g (by rfl) _ _ rfl w.heap.size 0 rfl CE.toList _ HR2.out Try.underlying35 rfl hEs ?_))
    | (go_at_call 29; ((refine (CO.out _ K2.out).mono ?_); rintro e1 w3 ⟨rfl, k3⟩; have K3 := Lib.hid (bThen K2.out k3); have K03 := Lib.hid k3; have M3 := M.out.then (bThen K02.out k3); have x16 := (M3.c 16).trans HE16.out; have x17 := (M3.c 17).trans HE17.out; have xl := M3.lt; clear k3 M3))
    | (go_at_call 30; ((refine (CG.out _ K3.out).mono ?_); rintro e1 w4 ⟨rfl, k4⟩; have K4 := Lib.hid (bThen K3.out k4); have HK04 := Lib.hid (bThen (bThen K02.out K03.out) k4); clear k4)))
        go_ret
        exact ⟨by rw [HV.out.1]; rfl, by rw [HV.out.2]; exact ⟨_, HA.out.below K4.out⟩, .of_below K4.out⟩
      | true =>
        have HV : Hid (pE = 0 ∧ pG = ⟨g.h, g.size, g.all ++ [(v, e)]⟩) := Lib.hid (by rw [← hpE, ← hpG]; exact put_yes (by rw [HP, hf, ho, hg]; rfl))
        rw [hg] at CG
        clear hpE hpG HP hf ho hg
        go_enter Try.func14, Try.ntmps14
        go_upto_region 5 with (first
    | (go_at_call 27; ((with_reducible refine CM.out.mono ?_); rintro e1 w1 ⟨rfl, rfl⟩))
    | (go_at_call 28; ((with_reducible refine CF.out.mono ?_); rintro e1 w2 ⟨rfl, k2⟩; have K2 := Lib.hid (bThen hb k2); have K02 := Lib.hid k2; have HR2 := Lib.hid (range_at (M.out.then k2)); have HW2 := Lib.hid (bThen (Below.refl _ _) k2); clear k2))
    | ((show wpList _ _ _ ({ dst := some 18, op := _, type := _, pos := _, after := _, guard := _ } :: _) _ _); (refine wpList_load_g (by rfl) _ _ rfl w.heap.size 0 rfl CE.toList _ HR2.out Try.underlying35 rfl hEs ?_))
    | (go_at_call 29; ((refine (CO.out _ K2.out).mono ?_); rintro e1 w3 ⟨rfl, k3⟩; have K3 := Lib.hid (bThen K2.out k3); have K03 := Lib.hid k3; have M3 := M.out.then (bThen K02.out k3); have x16 := (M3.c 16).trans HE16.out; have x17 := (M3.c 17).trans HE17.out; have xl := M3.lt; clear k3 M3))
    | (go_at_call 30; ((refine (CG.out _ K3.out).mono ?_); rintro e1 w4 ⟨rfl, k4⟩; have K4 := Lib.hid (bThen K3.out k4); have HK04 := Lib.hid (bThen (bThen K02.out K03.out) k4); clear k4)))
        have hR4 := HA.out.below K4.out
        have c2 := fun w' (q : Below w4.heap.size w4 w') => (hR4.below q).c2
        have c3 := fun w' (q : Below w4.heap.size w4 w') => (hR4.below q).c3
        have hs1 := hR4.s1
        have hs8 := hR4.s8
        have hm : g.all.length % g.size < 8 := Nat.lt_of_lt_of_le (Nat.mod_lt _ (by omega)) hs8
        have e3 : ((g.all.length : Int).tmod (g.size : Int)) = ((g.all.length % g.size : Nat) : Int) := by rw [Int.tmod_eq_emod_of_nonneg (by omega)]; rfl
        have HROWS := Lib.hid (rows_put (g := g) (R := R) hR4.len hs1 hs8 hR4.rows v e)
        have HLEN := Lib.hid hR4.len
        have AT5 := rg_store (k := g.all.length % g.size) hR4.a.drew1 (by rw [hR4.len]; exact hm) (v, e)
        have hz : ¬ ((g.size : Int) = 0) := by omega
        have hz2 : ¬ (g.size = 0) := by omega
        have hlB := hR4.lt
        have HS := Lib.hid (show 1 ≤ g.size ∧ g.size ≤ 8 from ⟨hs1, hs8⟩)
        have M4 : Hid (AtC w4 w.heap.size (enC e)) := Lib.hid (by rw [HE.out]; exact M.out.then (by have := K4.out; exact HK04.out))
        have HT : Hid (w4.drew.there B (4 + g.all.length % g.size * 19) (rowC (v, e)).size) := Lib.hid (fun j hj => by
          refine ⟨?_, hR4.a.drew1.f _⟩
          rw [hR4.a.drew1.c, List.getElem?_toArray, List.getElem?_eq_getElem (by rw [rgL_len, hR4.len]; have : (rowC (v, e)).size = 19 := rfl; omega)]
          rfl)
        have hr0 := range_at M4.out.drew1
        have hc2 := c2 w4.drew (bD1 w4)
        have hc3 := c3 w4.drew (bD1 w4)
        have HHH := Lib.hid (show g.h = g.h from rfl)
        clear hR4 c2 c3 hs1 hs8
        generalize hmm : g.all.length % g.size = m at *
        generalize hss : g.size = s at *
        generalize hnn : g.all.length = n at *
        have hm2 : (m : Int) < 8 := by omega
        have HN := Lib.hid hnn
        have HSS := Lib.hid hss
        clear hnn hss hmm
        have hS0 : w4.drew.cell? ⟨B, 2, none⟩ = some (.int .i64 (s : Int)) ∧ w4.drew.cell? ⟨B, 3, none⟩ = some (.int .i64 (n : Int)) ∧ Hid (w4.drew.rangeAt w.heap.size 0 (enC e).toList) ∧ True := ⟨hc2, hc3, Lib.hid hr0, trivial⟩
        have hk5 : Kept w4 (w4.drew.setCells B (4 + m * 19) (rowC (v, e)).toList) (· ≠ B) := (Kept.of_below (bD1 w4)).trans (set_keptN _)
        have A5 := Lib.hid AT5
        have hA5 := AT5
        clear hr0 hc2 hc3 AT5
        have hS5 : (w4.drew.setCells B (4 + m * 19) (rowC (v, e)).toList).cell? ⟨B, 2, none⟩ = some (.int .i64 (s : Int)) ∧ (w4.drew.setCells B (4 + m * 19) (rowC (v, e)).toList).cell? ⟨B, 3, none⟩ = some (.int .i64 (n : Int)) ∧ Hid ((w4.drew.setCells B (4 + m * 19) (rowC (v, e)).toList).rangeAt w.heap.size 0 (enC e).toList) ∧ True :=
          ⟨by rw [hA5.c]; simp [rgL, hdL], by rw [hA5.c]; simp [rgL, hdL], Lib.hid (range_at (atC_kept M4.out hk5 (by show w.heap.size ≠ B; have := HBw.out; omega))), trivial⟩
        clear hA5
        refine wp_region_held_drew (S := fun w' => w'.cell? ⟨B, 2, none⟩ = some (.int .i64 (s : Int)) ∧ w'.cell? ⟨B, 3, none⟩ = some (.int .i64 (n : Int)) ∧ Hid (w'.rangeAt w.heap.size 0 (enC e).toList) ∧ True) (by kernel_rfl) hS0 (fun hHeld0 => ?_)
        generalize w4.drew = w5 at *
        refine wpAnyH_take (i := 0) (oi := { dst := some 29, op := Op.move (Operand.tmp 0), type := 23, pos := "ring.go:50", after := #[], guard := none }) (v := ?vvp0) rfl (by kernel_rfl) (by kernel_rfl) (by kernel_rfl) (fun _ _ _ h => h) (Or.inl ⟨by rfl, ?hyp0⟩) (by assumption) ?restp0
        case hyp0 => (intro w hSw; obtain ⟨s1, s2, s3, s4⟩ := hSw; go_simp; try with_reducible rfl)
        try simp only [Act.put, List.setIfInBounds_toArray, List.set_cons_zero, List.set_cons_succ]
        refine wpAnyH_take (i := 1) (oi := { dst := some 30, op := Op.move (Operand.tmp 0), type := 23, pos := "ring.go:50", after := #[], guard := none }) (v := ?vvp1) rfl (by kernel_rfl) (by kernel_rfl) (by kernel_rfl) (fun _ _ _ h => h) (Or.inl ⟨by rfl, ?hyp1⟩) (by assumption) ?restp1
        case hyp1 => (intro w hSw; obtain ⟨s1, s2, s3, s4⟩ := hSw; go_simp; try with_reducible rfl)
        try simp only [Act.put, List.setIfInBounds_toArray, List.set_cons_zero, List.set_cons_succ]
        refine wpAnyH_take (i := 2) (oi := { dst := some 31, op := Op.nilCheck (Operand.tmp 30), type := 0, pos := "ring.go:50", after := #[{ on := 1, ground := Ground.data }], guard := none }) (v := ?vvp2) rfl (by kernel_rfl) (by kernel_rfl) (by kernel_rfl) (fun _ _ _ h => h) (Or.inl ⟨by rfl, ?hyp2⟩) (by assumption) ?restp2
        case hyp2 => (intro w hSw; obtain ⟨s1, s2, s3, s4⟩ := hSw; go_simp; try with_reducible rfl)
        try simp only [Act.put, List.setIfInBounds_toArray, List.set_cons_zero, List.set_cons_succ]
        refine wpAnyH_take (i := 3) (oi := { dst := some 32, op := Op.fieldAddr 61 (Operand.tmp 31) 3, type := 0, pos := "ring.go:50", after := #[{ on := 2, ground := Ground.data }], guard := none }) (v := ?vvp3) rfl (by kernel_rfl) (by kernel_rfl) (by kernel_rfl) (fun _ _ _ h => h) (Or.inl ⟨by rfl, ?hyp3⟩) (by assumption) ?restp3
        case hyp3 => (intro w hSw; obtain ⟨s1, s2, s3, s4⟩ := hSw; go_simp; try with_reducible rfl)
        try simp only [Act.put, List.setIfInBounds_toArray, List.set_cons_zero, List.set_cons_succ]
        refine wpAnyH_take (i := 4) (oi := { dst := some 33, op := Op.load 3 (Operand.tmp 32), type := 3, pos := "ring.go:50", after := #[{ on := 3, ground := Ground.data }], guard := none }) (v := .int .i64 (n : Int)) rfl (by kernel_rfl) (by kernel_rfl) (by kernel_rfl) (fun _ _ _ h => h) (Or.inl ⟨by rfl, ?hyp4⟩) (by assumption) ?restp4
        case hyp4 => (intro w hSw; obtain ⟨s1, s2, s3, s4⟩ := hSw; go_simp; try with_reducible rfl)
        try simp only [Act.put, List.setIfInBounds_toArray, List.set_cons_zero, List.set_cons_succ]
        refine wpAnyH_take (i := 5) (oi := { dst := some 34, op := Op.move (Operand.tmp 0), type := 23, pos := "ring.go:50", after := #[], guard := none }) (v := ?vvp5) rfl (by kernel_rfl) (by kernel_rfl) (by kernel_rfl) (fun _ _ _ h => h) (Or.inl ⟨by rfl, ?hyp5⟩) (by assumption) ?restp5
        case hyp5 => (intro w hSw; obtain ⟨s1, s2, s3, s4⟩ := hSw; go_simp; try with_reducible rfl)
        try simp only [Act.put, List.setIfInBounds_toArray, List.set_cons_zero, List.set_cons_succ]
        refine wpAnyH_take (i := 6) (oi := { dst := some 35, op := Op.nilCheck (Operand.tmp 34), type := 0, pos := "ring.go:50", after := #[{ on := 5, ground := Ground.data }], guard := none }) (v := ?vvp6) rfl (by kernel_rfl) (by kernel_rfl) (by kernel_rfl) (fun _ _ _ h => h) (Or.inl ⟨by rfl, ?hyp6⟩) (by assumption) ?restp6
        case hyp6 => (intro w hSw; obtain ⟨s1, s2, s3, s4⟩ := hSw; go_simp; try with_reducible rfl)
        try simp only [Act.put, List.setIfInBounds_toArray, List.set_cons_zero, List.set_cons_succ]
        refine wpAnyH_take (i := 7) (oi := { dst := some 36, op := Op.fieldAddr 61 (Operand.tmp 35) 2, type := 0, pos := "ring.go:50", after := #[{ on := 6, ground := Ground.data }], guard := none }) (v := ?vvp7) rfl (by kernel_rfl) (by kernel_rfl) (by kernel_rfl) (fun _ _ _ h => h) (Or.inl ⟨by rfl, ?hyp7⟩) (by assumption) ?restp7
        case hyp7 => (intro w hSw; obtain ⟨s1, s2, s3, s4⟩ := hSw; go_simp; try with_reducible rfl)
        try simp only [Act.put, List.setIfInBounds_toArray, List.set_cons_zero, List.set_cons_succ]
        refine wpAnyH_take (i := 8) (oi := { dst := some 37, op := Op.load 3 (Operand.tmp 36), type := 3, pos := "ring.go:50", after := #[{ on := 7, ground := Ground.data }], guard := none }) (v := .int .i64 (s : Int)) rfl (by kernel_rfl) (by kernel_rfl) (by kernel_rfl) (fun _ _ _ h => h) (Or.inl ⟨by rfl, ?hyp8⟩) (by assumption) ?restp8
        case hyp8 => (intro w hSw; obtain ⟨s1, s2, s3, s4⟩ := hSw; go_simp; try with_reducible rfl)
        try simp only [Act.put, List.setIfInBounds_toArray, List.set_cons_zero, List.set_cons_succ]
        refine wpAnyH_take (i := 9) (oi := { dst := some 38, op := Op.binOp BinOp.rem 3 (Operand.tmp 33) (Operand.tmp 37) 3, type := 3, pos := "ring.go:50", after := #[{ on := 4, ground := Ground.data }, { on := 8, ground := Ground.data }], guard := none }) (v := .int .i64 (m : Int)) rfl (by kernel_rfl) (by kernel_rfl) (by kernel_rfl) (fun _ _ _ h => h) (Or.inl ⟨by rfl, ?hyp9⟩) (by assumption) ?restp9
        case hyp9 => (intro w hSw; obtain ⟨s1, s2, s3, s4⟩ := hSw; go_simp; try with_reducible rfl)
        try simp only [Act.put, List.setIfInBounds_toArray, List.set_cons_zero, List.set_cons_succ]
        refine wpAnyH_take (i := 10) (oi := { dst := some 39, op := Op.move (Operand.tmp 1), type := 3, pos := "ring.go:50", after := #[], guard := none }) (v := ?vvp10) rfl (by kernel_rfl) (by kernel_rfl) (by kernel_rfl) (fun _ _ _ h => h) (Or.inl ⟨by rfl, ?hyp10⟩) (by assumption) ?restp10
        case hyp10 => (intro w hSw; obtain ⟨s1, s2, s3, s4⟩ := hSw; go_simp; try with_reducible rfl)
        try simp only [Act.put, List.setIfInBounds_toArray, List.set_cons_zero, List.set_cons_succ]
        refine wpAnyH_take (i := 11) (oi := { dst := some 40, op := Op.load 35 (Operand.tmp 5), type := 35, pos := "ring.go:50", after := #[], guard := none }) (v := en e) rfl (by kernel_rfl) (by kernel_rfl) (by kernel_rfl) (fun _ _ _ h => h) (yieldsIf_load_mid (by rfl) _ _ rfl (w.heap.size) (0) rfl ((enC e).toList) _ (fun w h => h.2.2.1.out) Try.underlying35 rfl (by kernel_rfl)) (by assumption) ?_
        try simp only [Act.put, List.setIfInBounds_toArray, List.set_cons_zero, List.set_cons_succ]
        refine wpAnyH_take (i := 12) (oi := { dst := some 41, op := Op.build 58 #[(0, Operand.tmp 39), (1, Operand.tmp 40)], type := 58, pos := "ring.go:50", after := #[{ on := 10, ground := Ground.data }, { on := 11, ground := Ground.data }], guard := none }) (v := .agg (rowC (v, e))) rfl (by kernel_rfl) (by kernel_rfl) (by kernel_rfl) (fun _ _ _ h => h) (Or.inl ⟨by rfl, ?hyp12⟩) (by assumption) ?restp12
        case hyp12 => (intro w hSw; go_simp; try with_reducible rfl)
        try simp only [Act.put, List.setIfInBounds_toArray, List.set_cons_zero, List.set_cons_succ]
        refine wpAnyH_take (i := 13) (oi := { dst := some 42, op := Op.nilCheck (Operand.tmp 29), type := 0, pos := "ring.go:50", after := #[{ on := 0, ground := Ground.data }], guard := none }) (v := ?vvp13) rfl (by kernel_rfl) (by kernel_rfl) (by kernel_rfl) (fun _ _ _ h => h) (Or.inl ⟨by rfl, ?hyp13⟩) (by assumption) ?restp13
        case hyp13 => (intro w hSw; obtain ⟨s1, s2, s3, s4⟩ := hSw; go_simp; try with_reducible rfl)
        try simp only [Act.put, List.setIfInBounds_toArray, List.set_cons_zero, List.set_cons_succ]
        refine wpAnyH_take (i := 14) (oi := { dst := some 43, op := Op.fieldAddr 61 (Operand.tmp 42) 4, type := 0, pos := "ring.go:50", after := #[{ on := 13, ground := Ground.data }], guard := none }) (v := ?vvp14) rfl (by kernel_rfl) (by kernel_rfl) (by kernel_rfl) (fun _ _ _ h => h) (Or.inl ⟨by rfl, ?hyp14⟩) (by assumption) ?restp14
        case hyp14 => (intro w hSw; obtain ⟨s1, s2, s3, s4⟩ := hSw; go_simp; try with_reducible rfl)
        try simp only [Act.put, List.setIfInBounds_toArray, List.set_cons_zero, List.set_cons_succ]
        refine wpAnyH_take (i := 15) (oi := { dst := some 44, op := Op.indexAddr 59 (Operand.tmp 43) (Operand.tmp 38), type := 0, pos := "ring.go:50", after := #[{ on := 14, ground := Ground.data }, { on := 9, ground := Ground.data }, { on := 0, ground := Ground.phase }, { on := 1, ground := Ground.phase }, { on := 2, ground := Ground.phase }, { on := 3, ground := Ground.phase }, { on := 4, ground := Ground.phase }, { on := 5, ground := Ground.phase }, { on := 6, ground := Ground.phase }, { on := 7, ground := Ground.phase }, { on := 8, ground := Ground.phase }, { on := 9, ground := Ground.phase }, { on := 10, ground := Ground.phase }, { on := 11, ground := Ground.phase }, { on := 12, ground := Ground.phase }], guard := none }) (v := ?vvp15) rfl (by kernel_rfl) (by kernel_rfl) (by kernel_rfl) (fun _ _ _ h => h) (Or.inl ⟨by rfl, ?hyp15⟩) (by assumption) ?restp15
        case hyp15 => (intro w hSw; obtain ⟨s1, s2, s3, s4⟩ := hSw; go_simp; try with_reducible rfl)
        try simp only [Act.put, List.setIfInBounds_toArray, List.set_cons_zero, List.set_cons_succ]
        refine wpAnyH_ready (rs := [16]) (by kernel_rfl) (by simp) ?_
        refine AllReadyH.cons (o := { dst := none, op := Op.store 58 (Operand.tmp 44) (Operand.tmp 41), type := 0, pos := "ring.go:50", after := #[{ on := 15, ground := Ground.data }, { on := 12, ground := Ground.data }, { on := 0, ground := Ground.phase }, { on := 1, ground := Ground.phase }, { on := 2, ground := Ground.phase }, { on := 3, ground := Ground.phase }, { on := 4, ground := Ground.phase }, { on := 5, ground := Ground.phase }, { on := 6, ground := Ground.phase }, { on := 7, ground := Ground.phase }, { on := 8, ground := Ground.phase }, { on := 9, ground := Ground.phase }, { on := 10, ground := Ground.phase }, { on := 11, ground := Ground.phase }, { on := 12, ground := Ground.phase }], guard := none }) rfl (fun K hK => ?_) AllReadyH.nil
        refine wp_store_mid _ _ _ rfl B (4 + m * 19) (rowC (v, e)) rfl rfl HT.out (by kernel_rfl) (row_one (v, e)) ?_
        refine hK.out _ _ (hS5) (fun hHeld1 => ?_)
        clear hK K
        try simp only [Act.put, List.setIfInBounds_toArray, List.set_cons_zero, List.set_cons_succ]
        refine wpAnyH_done (by kernel_rfl) ?_ _
        change Exit.then _ _ _ _ (w5.setCells B (4 + m * 19) (rowC (v, e)).toList)
        clear hHeld0 hHeld1 HT
        generalize w5.setCells B (4 + m * 19) (rowC (v, e)).toList = W6 at *
        have q3 := hS5.2.1
        have qf := A5.out.f 3
        have ql := A5.out.lt
        go_wp2
        go_ret
        have A6 := A5.out.set (i := 3) (by simp [rgL, hdL]) (.int .i64 ((n + 1 : Nat) : Int))
        rw [rg_head] at A6
        refine ⟨by rw [HV.out.1]; rfl, ?_, ((Kept.of_below K4.out).trans (hk5.weak' K4.out.size)).set (by simp) _⟩
        rw [HV.out.2]
        refine ⟨R.set m (v, e), ?_, by simp [HLEN.out], HS.out.1, HS.out.2, HROWS.out⟩
        show AtC _ _ (rgL (ptr B) g.h s (g.all ++ [(v, e)]).length (R.set m (v, e))).toArray
        rw [List.length_append, HN.out]
        exact A6
end Go.Proofs.Ytecdcfmbhphagaa.BX
