/-
  WALKS: follows, own, grows, Put of a ring.
-/
import Derived.Test.YtecdcfmbhphagaaBAt
import Derived.Test.YtecdcfmbhphagaaUMay
namespace Go.Proofs.Ytecdcfmbhphagaa.BX
open Go.RowKit HL
open UX (mayS ofS)
open IX (ptr El cellsK cellsK_at cellsK_len OwnK RdK Kept)
set_option maxRecDepth 100000
set_option linter.unusedVariables false
set_option linter.unusedSimpArgs false

theorem int_b (a b : Int) : (a == b) = decide (a = b) := by by_cases h : a = b <;> simp [h]
theorem en16 (e : En) : (enC e)[16]? = some (.int .i64 e.desc) := by simp [enC]
theorem en17 (e : En) : (enC e)[17]? = some (.int .i64 e.state) := by simp [enC]
theorem follows_any {B : Nat} {g : Rg} {R : List (Int × En)} (v : Int) (w : World) (hA : RgAt w B g R) (hn : g.all.length ≤ 1000000) :
    Calls Try.prog 28 #[ptr B, .int .i64 v] w fun e w' => e = .returned (.bool (followsB g v)) ∧ Below w.heap.size w w' := by
  have CL := Lib.hid (last_any w hA hn)
  have hb : Below w.heap.size w w := Below.refl _ _
  obtain ⟨CE, hE⟩ : ∃ CE, enC (lastE g) = CE := ⟨_, rfl⟩
  have hEs2 : (Try.prog.info? 35).map (·.size) = some CE.size := by rw [← hE]; kernel_rfl
  have hE1 : CE.all (·.oneCell') = true := by rw [← hE]; exact en_one _
  have hE0 : (enC zeroEn).size = CE.size := by rw [← hE]; rfl
  have hEv : en (lastE g) = .agg CE := by rw [← hE]
  rw [hEv] at CL
  clear hA hE hEv
  have HF : Hid (followsB g v = (decide (0 ≤ v) && (decide (v ≤ 1048576) && (!isL g || decide (lastV g < v))))) := Lib.hid rfl
  generalize followsB g v = r at *
  generalize lastV g = lv at *
  generalize isL g = il at *
  go_enter Try.func28, Try.ntmps28
  go_upto_region 2 with (first
    | (go_at_call 16; ((refine CL.out.mono ?_); rintro e w1 ⟨rfl, k1⟩; have K1 := Lib.hid (bThen hb k1); have K01 := Lib.hid k1; have N5 := AtC.new w1 (enC zeroEn) 35; have HT : Hid ((w1.alloc (.cells (enC zeroEn) 35)).there w1.heap.size 0 CE.size) := Lib.hid (by rw [← hE0]; exact there_at (C := enC zeroEn) N5); have X6 := Lib.hid (set_at (C := CE) N5 hE0); have K6 := Lib.hid (set_below (bAl K1.out (.cells (enC zeroEn) 35)) K1.out.size CE); have F6 := Lib.hid (set_below (bAl (Below.refl w1.heap.size w1) (.cells (enC zeroEn) 35)) (Nat.le_refl _) CE); clear k1 N5))
    | ((show wpList _ _ _ ({ dst := none, op := Op.store 35 _ _, type := _, pos := _, after := _, guard := _ } :: _) _ _); (refine wpList_store_mid rfl _ _ _ rfl w1.heap.size 0 CE rfl rfl HT.out hEs2 hE1 ?_); change wpList _ _ _ _ _ ((w1.alloc (.cells (enC zeroEn) 35)).setCells w1.heap.size 0 CE.toList); generalize (w1.alloc (.cells (enC zeroEn) 35)).setCells w1.heap.size 0 CE.toList = W6 at *))
  by_cases h0 : 0 ≤ v
  · by_cases h1 : v ≤ 1048576
    · cases il with
      | false =>
        have HR : Hid (r = true) := Lib.hid (by rw [HF.out]; simp [h0, h1])
        go_wp2
        go_ret
        exact ⟨by rw [HR.out]; rfl, K6.out⟩
      | true =>
        have HR : Hid (r = decide (lv < v)) := Lib.hid (by rw [HF.out]; simp [h0, h1])
        go_wp2
        go_ret
        exact ⟨by rw [HR.out]; rfl, K6.out⟩
    · have HR : Hid (r = false) := Lib.hid (by rw [HF.out, decide_eq_false h1]; simp)
      go_wp2
      go_ret
      exact ⟨by rw [HR.out]; rfl, K6.out⟩
  · have HR : Hid (r = false) := Lib.hid (by rw [HF.out, decide_eq_false h0]; simp)
    go_wp2
    go_ret
    exact ⟨by rw [HR.out]; rfl, K6.out⟩
theorem grows_any {B : Nat} {g : Rg} {R : List (Int × En)} (d s : Int) (w : World) (hA : RgAt w B g R) (hn : g.all.length ≤ 1000000) :
    Calls Try.prog 30 #[ptr B, sp d s] w fun e w' => e = .returned (.bool (mayS d s && decide (ofS (lastE g).desc (lastE g).state d s = 1))) ∧ Below w.heap.size w w' := by
  have hb := bAl (Below.refl w.heap.size w) (.cells #[.int .i64 d, .int .i64 s] 33)
  have M0 := At2.new w d s 33
  have CL := Lib.hid (last_any _ (hA.below hb) hn)
  obtain ⟨CE, hE⟩ : ∃ CE, enC (lastE g) = CE := ⟨_, rfl⟩
  have hEs2 : (Try.prog.info? 35).map (·.size) = some CE.size := by rw [← hE]; kernel_rfl
  have hE1 : CE.all (·.oneCell') = true := by rw [← hE]; exact en_one _
  have hE0 : (enC zeroEn).size = CE.size := by rw [← hE]; rfl
  have hEv : en (lastE g) = .agg CE := by rw [← hE]
  rw [hEv] at CL
  have HE := Lib.hid hE
  have CY := Lib.hid (fun W => UX.stMay_any d s W)
  have CO := Lib.hid (fun W => UX.stOf_any (lastE g).desc (lastE g).state d s W)
  clear hA hE hEv
  have HM0 := Lib.hid M0
  clear M0
  go_enter Try.func30, Try.ntmps30
  go_upto_region 2 with (first
    | (go_at_call 16; ((refine CL.out.mono ?_); rintro e w1 ⟨rfl, k1⟩; have K1 := Lib.hid (bThen hb k1); have K01 := Lib.hid k1; have N5 := AtC.new w1 (enC zeroEn) 35; have HT : Hid ((w1.alloc (.cells (enC zeroEn) 35)).there w1.heap.size 0 CE.size) := Lib.hid (by rw [← hE0]; exact there_at (C := enC zeroEn) N5); have X6 := Lib.hid (set_at (C := CE) N5 hE0); have K6 := Lib.hid (set_below (bAl K1.out (.cells (enC zeroEn) 35)) K1.out.size CE); have F6 := Lib.hid (set_below (bAl (Below.refl w1.heap.size w1) (.cells (enC zeroEn) 35)) (Nat.le_refl _) CE); clear k1 N5))
    | ((show wpList _ _ _ ({ dst := none, op := Op.store 35 _ _, type := _, pos := _, after := _, guard := _ } :: _) _ _); (refine wpList_store_mid rfl _ _ _ rfl w1.heap.size 0 CE rfl rfl HT.out hEs2 hE1 ?_); change wpList _ _ _ _ _ ((w1.alloc (.cells (enC zeroEn) 35)).setCells w1.heap.size 0 CE.toList); generalize (w1.alloc (.cells (enC zeroEn) 35)).setCells w1.heap.size 0 CE.toList = W6 at *))
  have m6 := HM0.out.then (bThen K01.out F6.out)
  have x16 : W6.cell? ⟨w1.heap.size, 16, none⟩ = some (.int .i64 (lastE g).desc) := (X6.out.c 16).trans (by rw [← HE.out]; exact en16 _)
  have x17 : W6.cell? ⟨w1.heap.size, 17, none⟩ = some (.int .i64 (lastE g).state) := (X6.out.c 17).trans (by rw [← HE.out]; exact en17 _)
  have xl := X6.out.lt
  have c0 := m6.c0
  have c1 := m6.c1
  have ml := m6.lt
  have M6 := Lib.hid m6
  clear m6 HT
  cases hm : mayS d s with
  | false =>
    rw [hm] at CY
    have HM := Lib.hid hm
    clear hm
    go_wp2_with (go_at_call 37; ((with_reducible refine (CY.out _).mono ?_); rintro e w3 ⟨rfl, k3⟩; have K3 := Lib.hid (bThen K6.out k3); clear k3))
    go_ret
    exact ⟨by rw [HM.out]; rfl, K3.out⟩
  | true =>
    rw [hm] at CY
    have HM := Lib.hid hm
    clear hm
    obtain ⟨ld, hld⟩ : ∃ ld, (lastE g).desc = ld := ⟨_, rfl⟩
    obtain ⟨ls, hls⟩ : ∃ ls, (lastE g).state = ls := ⟨_, rfl⟩
    obtain ⟨o, ho⟩ : ∃ o, ofS ld ls d s = o := ⟨_, rfl⟩
    rw [hld] at x16 CO
    rw [hls] at x17 CO
    rw [ho] at CO
    have HO : Hid (ofS (lastE g).desc (lastE g).state d s = o) := Lib.hid (by rw [hld, hls, ho])
    clear hld hls ho
    have HXC := Lib.hid (fun (W : World) (k : Below W6.heap.size W6 W) => (show W.cell? ⟨w1.heap.size, 16, none⟩ = some (.int .i64 ld) ∧ W.cell? ⟨w1.heap.size, 17, none⟩ = some (.int .i64 ls) from ⟨(k.cell (p := ⟨w1.heap.size, 16, none⟩) xl).trans x16, (k.cell (p := ⟨w1.heap.size, 17, none⟩) xl).trans x17⟩))
    clear x16 x17
    go_wp2_with (first
      | (go_at_call 37; ((with_reducible refine (CY.out _).mono ?_); rintro e w3 ⟨rfl, k3⟩; have K3 := Lib.hid (bThen K6.out k3); have q := HXC.out _ k3; have q16 := q.1; have q17 := q.2; have m3 := M6.out.then k3; have d0 := m3.c0; have d1 := m3.c1; have dl := m3.lt; have xl3 : w1.heap.size < w3.heap.size := (by have := k3.size; omega); clear k3 q m3))
      | (go_at_call 38; ((with_reducible refine (CO.out _).mono ?_); rintro e w4 ⟨rfl, k4⟩; have K4 := Lib.hid (bThen K3.out k4); clear k4)))
    go_ret
    exact ⟨by rw [HM.out, HO.out]; simp [int_b], K4.out⟩
theorem en0 (e : En) : (enC e)[0]? = some (.string e.handle) := by simp [enC]
theorem en1 (e : En) : (enC e)[1]? = some (.bool e.there) := by simp [enC]
theorem en2 (e : En) : (enC e)[2]? = some (.string e.o.handle) := by simp [enC]
theorem ob_range {W : World} {D : Nat} {e : En} (h : AtC W D (enC e)) : W.rangeAt D 2 (obCells e.o).toList := fun j v hv => by
  have hj : j < 14 := by have := (List.getElem?_eq_some_iff.1 hv).1; simpa using this
  have e2 : (enC e).toList = [.string e.handle, .bool e.there] ++ ((obCells e.o).toList ++ [.int .i64 e.desc, .int .i64 e.state]) := rfl
  rw [h.c (2 + j), ← Array.getElem?_toList, e2, List.getElem?_append_right (by simp), List.getElem?_append_left (by simp; omega), ← hv]
  congr 1
  simp
theorem own_there {B : Nat} (h : ByteArray) (e : En) (w : World) (hB : B < w.heap.size) (c1 : w.cell? ⟨B, 1, none⟩ = some (.string h)) (ht : e.there = true) :
    Calls Try.prog 29 #[ptr B, en e] w fun r w' => r = .returned (.bool (ownB h e)) ∧ Below w.heap.size w w' := by
  have hb := bAl (Below.refl w.heap.size w) (.cells (enC e) 35)
  have N := AtC.new w (enC e) 35
  have HV : Hid (ownB h e = ((e.handle.toList == h.toList) && (e.o.handle.toList == h.toList))) := Lib.hid (by unfold ownB; rw [ht]; rfl)
  have d1 := (N.c 1).trans (en1 e)
  rw [ht] at d1
  have d0 := (N.c 0).trans (en0 e)
  have d2 := (N.c 2).trans (en2 e)
  have dl := N.lt
  have k1 := (hb.cell (p := ⟨B, 1, none⟩) hB).trans c1
  have hBl : B < (w.alloc (.cells (enC e) 35)).heap.size := by simp; omega
  obtain ⟨CE, hE⟩ : ∃ CE, enC e = CE := ⟨_, rfl⟩
  have hEv : en e = .agg CE := by rw [← hE]
  rw [hEv]
  rw [hE] at hb d0 d1 d2 dl k1 hBl
  clear N hE hEv
  generalize ownB h e = r at *
  generalize e.handle = a at *
  generalize e.o.handle = b at *
  have HB := Lib.hid hb
  clear hb c1 ht
  go_enter Try.func29, Try.ntmps29
  go_upto_region 2 with fail
  generalize w.alloc (.cells CE 35) = W at *
  by_cases q : a = h
  · subst q
    go_quiet (fail)
    go_wp2
    go_ret
    exact ⟨by rw [HV.out]; simp, bDrew HB.out _⟩
  · have hne := tl_ne q
    go_quiet (fail)
    go_wp2
    go_ret
    exact ⟨by rw [HV.out, hne]; rfl, bDrew HB.out _⟩
theorem own_not {B : Nat} (h : ByteArray) (e : En) (w : World) (hB : B < w.heap.size) (c1 : w.cell? ⟨B, 1, none⟩ = some (.string h)) (ht : e.there = false) :
    Calls Try.prog 29 #[ptr B, en e] w fun r w' => r = .returned (.bool (ownB h e)) ∧ Below w.heap.size w w' := by
  have hb := bAl (Below.refl w.heap.size w) (.cells (enC e) 35)
  have N := AtC.new w (enC e) 35
  have HV : Hid (ownB h e = ((e.handle.toList == h.toList) && eqOb e.o zeroOb)) := Lib.hid (by unfold ownB; rw [ht]; rfl)
  have d1 := (N.c 1).trans (en1 e)
  rw [ht] at d1
  have d0 := (N.c 0).trans (en0 e)
  have dr := ob_range N
  have dl := N.lt
  have k1 := (hb.cell (p := ⟨B, 1, none⟩) hB).trans c1
  have hBl : B < (w.alloc (.cells (enC e) 35)).heap.size := by simp; omega
  have hE0 := fun W => run_eqOb W e.o zeroOb
  obtain ⟨CE, hE⟩ : ∃ CE, enC e = CE := ⟨_, rfl⟩
  have hEv : en e = .agg CE := by rw [← hE]
  rw [hEv]
  rw [hE] at hb d0 d1 dr dl k1 hBl
  obtain ⟨CO, hO⟩ : ∃ CO, obCells e.o = CO := ⟨_, rfl⟩
  have hOs : (Try.prog.info? 31).map (·.size) = some CO.toList.length := by rw [← hO]; kernel_rfl
  have hOv : ob e.o = .agg CO := by rw [← hO]
  rw [hO] at dr
  rw [hOv] at hE0
  obtain ⟨q, hq⟩ : ∃ q, eqOb e.o zeroOb = q := ⟨_, rfl⟩
  rw [hq] at hE0 HV
  have hE1 : ∀ W, (Op.equalIn 10000 31 (.agg CO) (.agg #[.string ⟨#[]⟩, .int .u8 0, .string ⟨#[]⟩, .int .u8 0, .string ⟨#[]⟩, .int .i64 0, .int .i64 0, .int .u8 0, .bool false, .bool false, .int .i64 0, .int .i64 0, .int .i64 0, .int .u8 0])).run Try.prog W = .ok q W := hE0
  clear N hE hEv hE0 hO hOv hq
  generalize ownB h e = r at *
  have HB := Lib.hid hb
  clear hb c1 ht
  go_enter Try.func29, Try.ntmps29
  go_upto_region 3 with fail
  generalize w.alloc (.cells CE 35) = W at *
  by_cases qq : e.handle = h
  · subst qq
    have hS0 : W.drew.cell? ⟨w.heap.size, 0, none⟩ = some (.string e.handle) ∧ W.drew.cell? ⟨B, 1, none⟩ = some (.string e.handle) ∧ Hid (W.drew.rangeAt w.heap.size 2 CO.toList) ∧ True := ⟨d0, k1, Lib.hid dr, trivial⟩
    have HB2 := Lib.hid (bDrew HB.out 1)
    clear d0 d1 k1 dr
    refine wp_region_held_drew (S := fun w' => w'.cell? ⟨w.heap.size, 0, none⟩ = some (.string e.handle) ∧ w'.cell? ⟨B, 1, none⟩ = some (.string e.handle) ∧ Hid (w'.rangeAt w.heap.size 2 CO.toList) ∧ True) (by kernel_rfl) hS0 (fun hHeld0 => ?_)
    refine wpAnyH_take (i := 0) (oi := { dst := some 24, op := Op.fieldAddr 35 (Operand.tmp 3) 0, type := 0, pos := "ring.go:66", after := #[], guard := none }) (v := ?vvn0) rfl (by kernel_rfl) (by kernel_rfl) (by kernel_rfl) (fun _ _ _ h => h) (Or.inl ⟨by rfl, ?hyn0⟩) (by assumption) ?restn0
    case hyn0 => (intro w hSw; obtain ⟨s1, s2, s3, s4⟩ := hSw; go_simp; try with_reducible rfl)
    try simp only [Act.put, List.setIfInBounds_toArray, List.set_cons_zero, List.set_cons_succ]
    refine wpAnyH_take (i := 1) (oi := { dst := some 25, op := Op.load 9 (Operand.tmp 24), type := 9, pos := "ring.go:66", after := #[{ on := 0, ground := Ground.data }], guard := none }) (v := .string e.handle) rfl (by kernel_rfl) (by kernel_rfl) (by kernel_rfl) (fun _ _ _ h => h) (Or.inl ⟨by rfl, ?hyn1⟩) (by assumption) ?restn1
    case hyn1 => (intro w hSw; obtain ⟨s1, s2, s3, s4⟩ := hSw; go_simp; try with_reducible rfl)
    try simp only [Act.put, List.setIfInBounds_toArray, List.set_cons_zero, List.set_cons_succ]
    refine wpAnyH_take (i := 2) (oi := { dst := some 26, op := Op.move (Operand.tmp 0), type := 23, pos := "ring.go:66", after := #[], guard := none }) (v := ?vvn2) rfl (by kernel_rfl) (by kernel_rfl) (by kernel_rfl) (fun _ _ _ h => h) (Or.inl ⟨by rfl, ?hyn2⟩) (by assumption) ?restn2
    case hyn2 => (intro w hSw; obtain ⟨s1, s2, s3, s4⟩ := hSw; go_simp; try with_reducible rfl)
    try simp only [Act.put, List.setIfInBounds_toArray, List.set_cons_zero, List.set_cons_succ]
    refine wpAnyH_take (i := 3) (oi := { dst := some 27, op := Op.nilCheck (Operand.tmp 26), type := 0, pos := "ring.go:66", after := #[{ on := 2, ground := Ground.data }], guard := none }) (v := ?vvn3) rfl (by kernel_rfl) (by kernel_rfl) (by kernel_rfl) (fun _ _ _ h => h) (Or.inl ⟨by rfl, ?hyn3⟩) (by assumption) ?restn3
    case hyn3 => (intro w hSw; obtain ⟨s1, s2, s3, s4⟩ := hSw; go_simp; try with_reducible rfl)
    try simp only [Act.put, List.setIfInBounds_toArray, List.set_cons_zero, List.set_cons_succ]
    refine wpAnyH_take (i := 4) (oi := { dst := some 28, op := Op.fieldAddr 61 (Operand.tmp 27) 1, type := 0, pos := "ring.go:66", after := #[{ on := 3, ground := Ground.data }], guard := none }) (v := ?vvn4) rfl (by kernel_rfl) (by kernel_rfl) (by kernel_rfl) (fun _ _ _ h => h) (Or.inl ⟨by rfl, ?hyn4⟩) (by assumption) ?restn4
    case hyn4 => (intro w hSw; obtain ⟨s1, s2, s3, s4⟩ := hSw; go_simp; try with_reducible rfl)
    try simp only [Act.put, List.setIfInBounds_toArray, List.set_cons_zero, List.set_cons_succ]
    refine wpAnyH_take (i := 5) (oi := { dst := some 29, op := Op.load 9 (Operand.tmp 28), type := 9, pos := "ring.go:66", after := #[{ on := 4, ground := Ground.data }], guard := none }) (v := .string e.handle) rfl (by kernel_rfl) (by kernel_rfl) (by kernel_rfl) (fun _ _ _ h => h) (Or.inl ⟨by rfl, ?hyn5⟩) (by assumption) ?restn5
    case hyn5 => (intro w hSw; obtain ⟨s1, s2, s3, s4⟩ := hSw; go_simp; try with_reducible rfl)
    try simp only [Act.put, List.setIfInBounds_toArray, List.set_cons_zero, List.set_cons_succ]
    refine wpAnyH_take (i := 6) (oi := { dst := some 30, op := Op.binOp BinOp.eql 9 (Operand.tmp 25) (Operand.tmp 29) 9, type := 4, pos := "ring.go:66", after := #[{ on := 1, ground := Ground.data }, { on := 5, ground := Ground.data }], guard := none }) (v := ?vvn6) rfl (by kernel_rfl) (by kernel_rfl) (by kernel_rfl) (fun _ _ _ h => h) (Or.inl ⟨by rfl, ?hyn6⟩) (by assumption) ?restn6
    case hyn6 => (intro w hSw; obtain ⟨s1, s2, s3, s4⟩ := hSw; go_simp; try with_reducible rfl)
    try simp only [Act.put, List.setIfInBounds_toArray, List.set_cons_zero, List.set_cons_succ]
    refine wpAnyH_take (i := 7) (oi := { dst := some 31, op := Op.move (Operand.tmp 30), type := 4, pos := "ring.go:66", after := #[{ on := 6, ground := Ground.data }], guard := none }) (v := ?vvn7) rfl (by kernel_rfl) (by kernel_rfl) (by kernel_rfl) (fun _ _ _ h => h) (Or.inl ⟨by rfl, ?hyn7⟩) (by assumption) ?restn7
    case hyn7 => (intro w hSw; obtain ⟨s1, s2, s3, s4⟩ := hSw; go_simp; try with_reducible rfl)
    try simp only [Act.put, List.setIfInBounds_toArray, List.set_cons_zero, List.set_cons_succ]
    refine wpAnyH_take (i := 8) (oi := { dst := some 32, op := Op.fieldAddr 35 (Operand.tmp 3) 2, type := 0, pos := "ring.go:66", after := #[{ on := 7, ground := Ground.guard }], guard := some (7, true) }) (v := ?vvn8) rfl (by kernel_rfl) (by kernel_rfl) (by kernel_rfl) (fun _ _ _ h => h) (Or.inl ⟨by rfl, ?hyn8⟩) (by assumption) ?restn8
    case hyn8 => (intro w hSw; obtain ⟨s1, s2, s3, s4⟩ := hSw; go_simp; try with_reducible rfl)
    try simp only [Act.put, List.setIfInBounds_toArray, List.set_cons_zero, List.set_cons_succ]
    refine wpAnyH_take (i := 9) (oi := { dst := some 33, op := Op.load 31 (Operand.tmp 32), type := 31, pos := "ring.go:66", after := #[{ on := 8, ground := Ground.data }, { on := 7, ground := Ground.guard }], guard := some (7, true) }) (v := .agg CO) rfl (by kernel_rfl) (by kernel_rfl) (by kernel_rfl) (fun _ _ _ h => h) (yieldsIf_load_mid (by rfl) _ _ rfl (w.heap.size) (2) rfl (CO.toList) _ (fun w h => h.2.2.1.out) Try.underlying31 rfl hOs) (by assumption) ?_
    try simp only [Act.put, List.setIfInBounds_toArray, List.set_cons_zero, List.set_cons_succ]
    refine wpAnyH_take (i := 10) (oi := { dst := some 34, op := Op.build 31 #[], type := 31, pos := "ring.go:66", after := #[{ on := 7, ground := Ground.guard }], guard := some (7, true) }) (v := .agg #[.string ⟨#[]⟩, .int .u8 0, .string ⟨#[]⟩, .int .u8 0, .string ⟨#[]⟩, .int .i64 0, .int .i64 0, .int .u8 0, .bool false, .bool false, .int .i64 0, .int .i64 0, .int .i64 0, .int .u8 0]) rfl (by kernel_rfl) (by kernel_rfl) (by kernel_rfl) (fun _ _ _ h => h) (Or.inl ⟨by rfl, ?hyn10⟩) (by assumption) ?restn10
    case hyn10 => (intro w hSw; obtain ⟨s1, s2, s3, s4⟩ := hSw; go_simp; try with_reducible rfl)
    try simp only [Act.put, List.setIfInBounds_toArray, List.set_cons_zero, List.set_cons_succ]
    refine wpAnyH_take (i := 11) (oi := { dst := some 35, op := Op.binOp BinOp.eql 31 (Operand.tmp 33) (Operand.tmp 34) 31, type := 4, pos := "ring.go:66", after := #[{ on := 9, ground := Ground.data }, { on := 10, ground := Ground.data }, { on := 7, ground := Ground.guard }], guard := some (7, true) }) (v := .bool q) rfl (by kernel_rfl) (by kernel_rfl) (by kernel_rfl) (fun _ _ _ h => h) (Or.inl ⟨by rfl, ?hyn11⟩) (by assumption) ?restn11
    case hyn11 => (intro w hSw; obtain ⟨s1, s2, s3, s4⟩ := hSw; go_simp; try with_reducible rfl)
    try simp only [Act.put, List.setIfInBounds_toArray, List.set_cons_zero, List.set_cons_succ]
    refine wpAnyH_take (i := 12) (oi := { dst := some 36, op := Op.pick (Operand.tmp 31) (Operand.tmp 35) (Operand.const (Value.bool false)), type := 4, pos := "ring.go:66", after := #[{ on := 7, ground := Ground.data }, { on := 11, ground := Ground.data }], guard := none }) (v := ?vvn12) rfl (by kernel_rfl) (by kernel_rfl) (by kernel_rfl) (fun _ _ _ h => h) (Or.inl ⟨by rfl, ?hyn12⟩) (by assumption) ?restn12
    case hyn12 => (intro w hSw; obtain ⟨s1, s2, s3, s4⟩ := hSw; go_simp; try with_reducible rfl)
    try simp only [Act.put, List.setIfInBounds_toArray, List.set_cons_zero, List.set_cons_succ]
    refine wpAnyH_take (i := 13) (oi := { dst := some 4, op := Op.assign (Operand.tmp 36), type := 4, pos := "ring.go:66", after := #[{ on := 12, ground := Ground.data }, { on := 7, ground := Ground.chain }, { on := 0, ground := Ground.phase }, { on := 1, ground := Ground.phase }, { on := 2, ground := Ground.phase }, { on := 3, ground := Ground.phase }, { on := 4, ground := Ground.phase }, { on := 5, ground := Ground.phase }, { on := 6, ground := Ground.phase }, { on := 7, ground := Ground.phase }, { on := 8, ground := Ground.phase }, { on := 9, ground := Ground.phase }, { on := 10, ground := Ground.phase }, { on := 11, ground := Ground.phase }, { on := 12, ground := Ground.phase }], guard := none }) (v := ?vvn13) rfl (by kernel_rfl) (by kernel_rfl) (by kernel_rfl) (fun _ _ _ h => h) (Or.inl ⟨by rfl, ?hyn13⟩) (by assumption) ?restn13
    case hyn13 => (intro w hSw; obtain ⟨s1, s2, s3, s4⟩ := hSw; go_simp; try with_reducible rfl)
    try simp only [Act.put, List.setIfInBounds_toArray, List.set_cons_zero, List.set_cons_succ]
    refine wpAnyH_done (by kernel_rfl) ?_ _
    go_wp2
    go_ret
    exact ⟨by rw [HV.out]; simp, HB2.out⟩
  · have hne := tl_ne qq
    generalize e.handle = a at *
    clear dr
    go_quiet (fail)
    go_wp2
    go_ret
    exact ⟨by rw [HV.out, hne]; rfl, bDrew HB.out _⟩
theorem own_any {B : Nat} (h : ByteArray) (e : En) (w : World) (hB : B < w.heap.size) (c1 : w.cell? ⟨B, 1, none⟩ = some (.string h)) :
    Calls Try.prog 29 #[ptr B, en e] w fun r w' => r = .returned (.bool (ownB h e)) ∧ Below w.heap.size w w' := by
  cases ht : e.there with
  | true => exact own_there h e w hB c1 ht
  | false => exact own_not h e w hB c1 ht
end Go.Proofs.Ytecdcfmbhphagaa.BX
