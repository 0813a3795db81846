/-
  WALK: the laws' played: a tree behind acts, and what stands.
-/
import Derived.Test.YtlfbjgeobibnhaaDoorRZ11
import Derived.BigQuiet
namespace Go.Proofs.YtlfbjgeobibnhaaDoor.TX
open Go.RowKit HL
open IX (ptr El cellsK cellsK_at OwnK IxAt Rw numOf mayS strK RdK keys)
set_option maxRecDepth 100000
set_option linter.unusedVariables false
set_option linter.unusedSimpArgs false

abbrev actCells (x : Act8) : Array Value := #[.int .u8 x.kind, .string x.o.handle, .int .u8 x.o.kind, .string x.o.parent, .int .u8 x.o.typ, .string x.o.ref, .int .i64 x.o.lo, .int .i64 x.o.hi, .int .u8 x.o.digits, .bool x.o.on, .bool x.o.has, .int .i64 x.o.value, .int .i64 x.o.low, .int .i64 x.o.high, .int .u8 x.o.assoc]
theorem act_cells {w : World} {D : Nat} {x : Act8} (h : AtC w D (actCells x)) : w.cell? ⟨D, 0, none⟩ = some (.int .u8 x.kind) ∧ w.cell? ⟨D, 1, none⟩ = some (.string x.o.handle) ∧ w.cell? ⟨D, 2, none⟩ = some (.int .u8 x.o.kind) ∧ w.cell? ⟨D, 3, none⟩ = some (.string x.o.parent) ∧ w.cell? ⟨D, 4, none⟩ = some (.int .u8 x.o.typ) ∧ w.cell? ⟨D, 5, none⟩ = some (.string x.o.ref) ∧ w.cell? ⟨D, 6, none⟩ = some (.int .i64 x.o.lo) ∧ w.cell? ⟨D, 7, none⟩ = some (.int .i64 x.o.hi) ∧ w.cell? ⟨D, 8, none⟩ = some (.int .u8 x.o.digits) ∧ w.cell? ⟨D, 9, none⟩ = some (.bool x.o.on) ∧ w.cell? ⟨D, 10, none⟩ = some (.bool x.o.has) ∧ w.cell? ⟨D, 11, none⟩ = some (.int .i64 x.o.value) ∧ w.cell? ⟨D, 12, none⟩ = some (.int .i64 x.o.low) ∧ w.cell? ⟨D, 13, none⟩ = some (.int .i64 x.o.high) ∧ w.cell? ⟨D, 14, none⟩ = some (.int .u8 x.o.assoc) := ⟨h.c 0, h.c 1, h.c 2, h.c 3, h.c 4, h.c 5, h.c 6, h.c 7, h.c 8, h.c 9, h.c 10, h.c 11, h.c 12, h.c 13, h.c 14⟩
theorem addS_len (s : Sl) (o : Ob) : (addS s o).length = s.length := by unfold addS; split <;> simp
theorem setS_len (s : Sl) (o : Ob) : (setS s o).length = s.length := by unfold setS; split <;> simp
theorem remS_len (s : Sl) (h : Bs) : (remS s h).length = s.length := by unfold remS; split <;> simp
theorem own_frozen {α : Type} {K : El α} {w : World} {base g n cap : Nat} {l : List α} (h : OwnK K w base (.slice (some ⟨g, 0, none⟩) n cap) l) (i : Nat) : w.frozen? ⟨g, i, none⟩ = false := by
  obtain ⟨_, _, cur, hb, _⟩ := OwnK.open_ h
  simp [World.frozen?, hb]
theorem rd_take {α : Type} {K : El α} {w : World} {B : Nat} {A : Option Addr} {l : List α} (h : RdK K w B A l) (p : Nat) : RdK K w B A (l.take p) := by
  rcases h with rfl | ⟨b, off, e, hb, hc⟩
  · exact .inl (by simp)
  · refine .inr ⟨b, off, e, hb, fun m u hu => ?_⟩
    rw [← IX.cellsK_take, List.getElem?_take] at hu
    split at hu
    · exact hc m u hu
    · cases hu
theorem hb_ne {a b : Ob} (h : a.handle ≠ b.handle) : hb a ≠ hb b := fun e => h (by
  have : a.handle.data = b.handle.data := Array.toList_inj.1 e
  cases ha : a.handle; cases hb' : b.handle; rw [ha, hb'] at this; simp at this; rw [this])
theorem tl_ne {a b : ByteArray} (h : a ≠ b) : (a.toList == b.toList) = false := by
  rw [beq_eq_false_iff_ne, ne_eq, ByteArray.toList_eq, ByteArray.toList_eq]
  intro e; apply h
  obtain ⟨⟨x⟩⟩ := a
  obtain ⟨⟨y⟩⟩ := b
  simp at e; rw [e]
set_option maxHeartbeats 8000000 in
theorem played_any {A : Option Addr} (m : Nat) (hm1 : 1 ≤ m) (hm2 : m ≤ 64) (l : List Act8) (c : Nat) (w : World) (hr : RdK actK w w.heap.size A l) (h1 : l.length ≤ 150) (h2 : ∀ x ∈ l, longB x.o = false) (hW : Words w) (hK : Kinds w) :
    Calls Tryd.prog 23 #[.int .i64 m, .slice A l.length c] w fun e w' => ∃ L s A' c' inn, e = .returned (.tuple #[ptr L.T, .slice A' inn.length c', .bool true]) ∧ FP w w' L s (.slice A' inn.length c') inn 300 ∧ Fil8 s inn ∧ s.length = m := by
  have HRd := Lib.hid hr
  have L2 := Lib.hid h2
  have C1 := Lib.hid (TX.new_yes m w hm1 hm2)
  have HW := Lib.hid hW
  have HK := Lib.hid hK
  have i0 : (m : Int) ≤ 64 := by omega
  clear hr h2 hW hK
  go_enter Tryd.func23, Tryd.ntmps23
  go_wp2_with (go_at_call 47; ((with_reducible refine C1.out.mono ?_); rintro e w1 ⟨L0, rfl, t1, n1, k1⟩; have T1 : Hid (TH w w1 L0 (freeS m) 0) := Lib.hid ⟨t1, k1, by omega⟩; clear t1 n1 k1))
  have HF0 : Hid (FP w w1 L0 (freeS m) (.slice none 0 0) [] 0) := Lib.hid ⟨T1.out, OwnK.nil_ _ _ _, fun k e => by simp [Value.ownBlock] at e⟩
  clear T1 C1
  go_loopw [9, 10] (fun iv i wr => ∃ (k : Nat) (L : Lay) (s : Sl) (A' : Option Addr) (c' : Nat) (inn : List Ob), i = .int .i64 k ∧ k ≤ l.length ∧ iv = .slice A' inn.length c' ∧ FP w wr L s (.slice A' inn.length c') inn (2 * k) ∧ Fil8 s inn ∧ s.length = m ∧ L.T = L0.T) (fun _ i _ => l.length - (intOf i).toNat)
  case atStart => exact ⟨0, L0, freeS m, none, 0, [], rfl, Nat.zero_le _, rfl, HF0.out, .free m, by simp [freeS], rfl⟩
  case round =>
    obtain ⟨k, L, s, A', c', inn, rfl, hk, rfl, hF, hL, hsm, hLT⟩ := hrel
    have HF := Lib.hid hF
    have HL := Lib.hid hL
    have HSM := Lib.hid hsm
    have HLT := Lib.hid hLT
    have hinn : inn.length ≤ 64 := by have := hL.len; have := names_len s; omega
    clear hF hL HF0 hsm hLT
    by_cases hlt : k < l.length
    · have i2 : (k : Int) < l.length := by omega
      obtain ⟨b, o, rfl, hbl, hc⟩ := acts_at (HRd.out.below HF.out.h.b) (by omega)
      obtain ⟨q0, q1, q2, q3, q4, q5, q6, q7, q8, q9, q10, q11, q12, q13, q14⟩ := hc k _ (List.getElem?_eq_getElem hlt)
      have hxl := L2.out _ (List.getElem_mem hlt)
      clear hc
      generalize l[k] = x at *
      go_wp2
      have HM : Hid (AtC (wr.alloc (.cells (actCells x) 58)) wr.heap.size (actCells x)) := Lib.hid (AtC.new _ _ _)
      have HFa := Lib.hid (HF.out.then ((Below.refl _ _).alloc (Nat.le_refl _) (.cells (actCells x) 58)))
      have HD : Hid (L.g wr.heap.size = .other) := Lib.hid (HF.out.h.new (Nat.le_refl _))
      have HDi : Hid (∀ k, (Value.slice A' inn.length c').ownBlock = some k → k < wr.heap.size) := Lib.hid (fun k e => (HF.out.o.lt k e).2)
      clear q0 q1 q2 q3 q4 q5 q6 q7 q8 q9 q10 q11 q12 q13 q14 HF
      generalize wr.alloc (.cells (actCells x) 58) = wa at *
      generalize wr.heap.size = D at *
      go_loopw [12, 13] (fun at_ j wj => ∃ (n : Nat), j = .int .i64 n ∧ n ≤ inn.length ∧ Below wa.heap.size wa wj ∧ ((at_ = .int .i64 (-1) ∧ ∀ a ∈ inn.take n, hb a ≠ hb x.o) ∨ ∃ q : Nat, at_ = .int .i64 q ∧ ∃ hq : q < inn.length, hb inn[q] = hb x.o)) (fun _ j _ => inn.length - (intOf j).toNat)
      case atStart => exact ⟨0, rfl, Nat.zero_le _, Below.refl _ _, .inl ⟨rfl, by simp⟩⟩
      case round =>
        obtain ⟨n, rfl, hn, hbj, hat⟩ := hrel
        have HBJ := Lib.hid hbj
        have HAT := Lib.hid hat
        clear hat
        have hFj := HFa.out.then hbj
        by_cases hlt2 : n < inn.length
        · obtain ⟨b2, o2, rfl, hb2, hc2⟩ := obs_at (own_rd hFj.o) (by omega)
          obtain ⟨p2, _⟩ := hc2 n _ (List.getElem?_eq_getElem hlt2)
          have p3 : wr.cell? ⟨D, 1, none⟩ = some (.string x.o.handle) := (HM.out.then hbj).c 1
          have j2 : (n : Int) < inn.length := by omega
          have HT := Lib.hid (List.take_succ_eq_append_getElem hlt2)
          clear hc2 hFj
          by_cases he : inn[n].handle = x.o.handle
          · have HE := Lib.hid (show ∃ hm : n < inn.length, hb inn[n] = hb x.o from ⟨hlt2, by show inn[n].handle.data.toList = _; rw [he]⟩)
            have hbe : (inn[n].handle.toList == x.o.handle.toList) = true := by rw [he]; simp
            clear he HT
            generalize inn[n].handle = y at p2 hbe
            go_wp2
            go_quiet (fail)
            go_wp2
            go_roundw
            case rel => exact ⟨n + 1, by go_num, by omega, HBJ.out.trans ⟨rfl, rfl, rfl, Nat.le_refl _, fun _ _ => rfl⟩, .inr ⟨n, rfl, HE.out⟩⟩
            case measure => simp [intOf]; omega
          · have hbe : (inn[n].handle.toList == x.o.handle.toList) = false := tl_ne he
            have HE := Lib.hid (hb_ne he)
            clear he
            generalize hy : inn[n].handle = y at p2 hbe
            clear hy
            go_wp2
            go_quiet (fail)
            go_wp2
            go_roundw
            case rel =>
              refine ⟨n + 1, by go_num, by omega, HBJ.out.trans ⟨rfl, rfl, rfl, Nat.le_refl _, fun _ _ => rfl⟩, ?_⟩
              rcases HAT.out with ⟨q1, q2⟩ | q
              · refine .inl ⟨q1, fun a ha => ?_⟩
                rw [HT.out] at ha
                rcases List.mem_append.1 ha with ha | ha
                · exact q2 a ha
                · simp at ha; subst ha; exact HE.out
              · exact .inr q
            case measure => simp [intOf]; omega
        · have e : n = inn.length := by omega
          subst e
          have HFj := Lib.hid hFj
          have HMj := Lib.hid (HM.out.then hbj)
          clear hFj HFa HM hbj HBJ
          have hxx := longB_out hxl
          have HFH := Lib.hid (HFj.out.h)
          have CA0 := add_any HFj.out.h.t HFj.out.h.b.size (HW.out.then HFj.out.h.b) (HK.out.then HFj.out.h.b) x.o (Nat.le_trans hxx.1 (by unfold maxLen; decide)) hxx.2.1 (Nat.le_trans HFj.out.h.n (by omega))
          have CY := Lib.hid (fun W => Go.Proofs.YtlfbjgeobibnhaaDoor.HL.may_any x.o.handle W (Nat.le_trans hxx.1 (by unfold maxLen; decide)))
          rw [HLT.out] at CA0
          have CA0 := Lib.hid CA0
          have hroom := HL.out.room HFj.out.h.t.wf
          rw [HSM.out] at hroom
          have HRoom := Lib.hid hroom
          clear hroom hxl
          cases e0 : ((x.kind : Int) % 4 == 0) with
          | true =>
            rcases HAT.out with ⟨rfl, hno⟩ | ⟨q, rfl, hq, he⟩
            · have hth : there s (hb x.o) = false := by
                cases z : there s (hb x.o) with
                | false => rfl
                | true =>
                  obtain ⟨a, ha, e⟩ := HL.out.has.1 z
                  rw [List.take_length] at hno
                  exact absurd e (hno a ha)
              clear hno
              cases hy : mayS (hb x.o) with
              | true =>
                by_cases hr : inn.length < m
                · have e1 : addE s x.o = 0 := addE_0.2 ⟨hy, hth, by rw [HSM.out]; exact HRoom.out.2 hr⟩
                  have HL2 := Lib.hid (HL.out.add e1)
                  have CA := CA0.out
                  rw [e1] at CA
                  have CA := Lib.hid CA
                  have hr2 : (inn.length : Int) < m := by omega
                  have hy' : Go.Proofs.YtlfbjgeobibnhaaDoor.HL.mayB x.o.handle = true := hy
                  rw [hy'] at CY
                  clear e1 hy hy' hth hr
                  obtain ⟨p0, p1, p2, p3, p4, p5, p6, p7, p8, p9, p10, p11, p12, p13, p14⟩ := act_cells HMj.out
                  go_wp2_with (first
                    | (go_at_call 11; ((with_reducible refine CA.out.mono ?_); rintro e w3 ⟨L3, rfl, t3, st3⟩; have F3 := Lib.hid (HFj.out.step t3 st3); have T3 := Lib.hid (st3.t.trans HLT.out); have M3 := Lib.hid (st3.k.atC HMj.out HD.out); obtain ⟨d0, d1, d2, d3, d4, d5, d6, d7, d8, d9, d10, d11, d12, d13, d14⟩ := act_cells M3.out))
                    | (go_at_call 27; ((with_reducible refine (CY.out _).mono ?_); rintro e w4 ⟨rfl, k4⟩; have F4 := Lib.hid (F3.out.then k4); have M4 := Lib.hid (M3.out.then k4); obtain ⟨f0, f1, f2, f3, f4, f5, f6, f7, f8, f9, f10, f11, f12, f13, f14⟩ := act_cells M4.out))
                    | (at_builtin; refine IX.wpList_spreadK obK rfl (.tmp 102) (.tmp 105) rfl w.heap.size _ inn rfl ((F4.out.then (bAl (Below.refl _ _) _)).o) (w4.heap.size + 1) (some ⟨w4.heap.size, 0, none⟩) 1 1 [x.o] rfl rfl (RdK.lit w4 x.o (obCells x.o) rfl _) ?c1 ?c2 ?_))
                  case c1 => show inn.length + 1 ≤ 1000000; omega
                  case c2 => have := F4.out.h.b.size; simp; omega
                  intro iv2 w5 o5 g5 f5
                  have KA : IX.Kept w4 w5 (fun k => (Value.slice A' inn.length c').ownBlock ≠ some k) := ((IX.Kept.refl w4 _).alloc _).grown g5 (fun k e _ q => q e)
                  have F5 := Lib.hid (F4.out.app o5 KA (fun k e => by
                    rcases f5 with q | q
                    · exact .inl (q ▸ e)
                    · rw [q] at e; simp at e; exact .inr (by omega)))
                  obtain ⟨A8, c8, rfl, _, _, _⟩ := OwnK.form o5
                  clear o5 g5 f5 KA
                  go_wp2
                  go_roundw
                  case rel => exact ⟨k + 1, L3, addS s x.o, A8, c8, inn ++ [x.o], by go_num, by omega, by first | rfl | simp, F5.out, HL2.out, by rw [addS_len]; exact HSM.out, T3.out⟩
                  case measure => simp [intOf]; omega
                · have e1 : addE s x.o = 4 := by unfold addE; rw [if_pos hy, hth, if_neg (by simp), if_neg (fun q => hr (HRoom.out.1 (HSM.out ▸ q)))]
                  have e2 : addS s x.o = s := addS_no (by rw [e1]; decide)
                  have CA := CA0.out
                  rw [e1, e2] at CA
                  have CA := Lib.hid CA
                  have hr2 : ¬ (inn.length : Int) < m := by omega
                  have hy' : Go.Proofs.YtlfbjgeobibnhaaDoor.HL.mayB x.o.handle = true := hy
                  rw [hy'] at CY
                  clear e1 e2 hy hy' hth hr
                  obtain ⟨p0, p1, p2, p3, p4, p5, p6, p7, p8, p9, p10, p11, p12, p13, p14⟩ := act_cells HMj.out
                  go_wp2_with (first
                    | (go_at_call 11; ((with_reducible refine CA.out.mono ?_); rintro e w3 ⟨L3, rfl, t3, st3⟩; have F3 := Lib.hid (HFj.out.step t3 st3); have T3 := Lib.hid (st3.t.trans HLT.out); have M3 := Lib.hid (st3.k.atC HMj.out HD.out); obtain ⟨d0, d1, d2, d3, d4, d5, d6, d7, d8, d9, d10, d11, d12, d13, d14⟩ := act_cells M3.out))
                    | (go_at_call 27; ((with_reducible refine (CY.out _).mono ?_); rintro e w4 ⟨rfl, k4⟩; have F4 := Lib.hid (F3.out.then k4); have M4 := Lib.hid (M3.out.then k4); obtain ⟨f0, f1, f2, f3, f4, f5, f6, f7, f8, f9, f10, f11, f12, f13, f14⟩ := act_cells M4.out)))
                  go_roundw
                  case rel => exact ⟨k + 1, L3, s, A', c', inn, by go_num, by omega, by first | rfl | simp, F4.out, HL.out, HSM.out, T3.out⟩
                  case measure => simp [intOf]; omega
              | false =>
                have e1 : addE s x.o = 10 := by unfold addE; rw [hy]; rfl
                have e2 : addS s x.o = s := addS_no (by rw [e1]; decide)
                have CA := CA0.out
                rw [e1, e2] at CA
                have CA := Lib.hid CA
                have hy' : Go.Proofs.YtlfbjgeobibnhaaDoor.HL.mayB x.o.handle = false := hy
                rw [hy'] at CY
                clear e1 e2 hy hy' hth
                obtain ⟨p0, p1, p2, p3, p4, p5, p6, p7, p8, p9, p10, p11, p12, p13, p14⟩ := act_cells HMj.out
                go_wp2_with (first
                  | (go_at_call 11; ((with_reducible refine CA.out.mono ?_); rintro e w3 ⟨L3, rfl, t3, st3⟩; have F3 := Lib.hid (HFj.out.step t3 st3); have T3 := Lib.hid (st3.t.trans HLT.out); have M3 := Lib.hid (st3.k.atC HMj.out HD.out); obtain ⟨d0, d1, d2, d3, d4, d5, d6, d7, d8, d9, d10, d11, d12, d13, d14⟩ := act_cells M3.out))
                  | (go_at_call 27; ((with_reducible refine (CY.out _).mono ?_); rintro e w4 ⟨rfl, k4⟩; have F4 := Lib.hid (F3.out.then k4); have M4 := Lib.hid (M3.out.then k4); obtain ⟨f0, f1, f2, f3, f4, f5, f6, f7, f8, f9, f10, f11, f12, f13, f14⟩ := act_cells M4.out)))
                go_roundw
                case rel => exact ⟨k + 1, L3, s, A', c', inn, by go_num, by omega, by first | rfl | simp, F4.out, HL.out, HSM.out, T3.out⟩
                case measure => simp [intOf]; omega
            · have hth : there s (hb x.o) = true := HL.out.has.2 ⟨_, List.getElem_mem hq, he⟩
              have hee : addE s x.o ≠ 0 := fun z => by have := (addE_0.1 z).2.1; rw [hth] at this; cases this
              have CA := CA0.out
              rw [addS_no hee] at CA
              clear hth he
              generalize addE s x.o = ee at *
              have CA := Lib.hid CA
              obtain ⟨p0, p1, p2, p3, p4, p5, p6, p7, p8, p9, p10, p11, p12, p13, p14⟩ := act_cells HMj.out
              go_wp2_with (go_at_call 11; ((with_reducible refine CA.out.mono ?_); rintro e w3 ⟨L3, rfl, t3, st3⟩; have F3 := Lib.hid (HFj.out.step t3 st3); have T3 := Lib.hid (st3.t.trans HLT.out); have M3 := Lib.hid (st3.k.atC HMj.out HD.out); obtain ⟨d0, d1, d2, d3, d4, d5, d6, d7, d8, d9, d10, d11, d12, d13, d14⟩ := act_cells M3.out))
              go_roundw
              case rel => exact ⟨k + 1, L3, s, A', c', inn, by go_num, by omega, by first | rfl | simp, F3.out, HL.out, HSM.out, T3.out⟩
              case measure => simp [intOf]; omega
          | false =>
            cases e1' : ((x.kind : Int) % 4 == 1) with
            | true =>
                rcases HAT.out with ⟨rfl, hno⟩ | ⟨q, rfl, hq, he⟩
                · have hth : there s (hb x.o) = false := by
                    cases z : there s (hb x.o) with
                    | false => rfl
                    | true =>
                      obtain ⟨a, ha, e⟩ := HL.out.has.1 z
                      rw [List.take_length] at hno
                      exact absurd e (hno a ha)
                  clear hno
                  cases hy : mayS (hb x.o) with
                  | true =>
                    by_cases hr : inn.length < m
                    · have e1 : addE s x.o = 0 := addE_0.2 ⟨hy, hth, by rw [HSM.out]; exact HRoom.out.2 hr⟩
                      have HL2 := Lib.hid (HL.out.add e1)
                      have CA := CA0.out
                      rw [e1] at CA
                      have CA := Lib.hid CA
                      have hr2 : (inn.length : Int) < m := by omega
                      have hy' : Go.Proofs.YtlfbjgeobibnhaaDoor.HL.mayB x.o.handle = true := hy
                      rw [hy'] at CY
                      clear e1 hy hy' hth hr
                      obtain ⟨p0, p1, p2, p3, p4, p5, p6, p7, p8, p9, p10, p11, p12, p13, p14⟩ := act_cells HMj.out
                      go_wp2_with (first
                        | (go_at_call 11; ((with_reducible refine CA.out.mono ?_); rintro e w3 ⟨L3, rfl, t3, st3⟩; have F3 := Lib.hid (HFj.out.step t3 st3); have T3 := Lib.hid (st3.t.trans HLT.out); have M3 := Lib.hid (st3.k.atC HMj.out HD.out); obtain ⟨d0, d1, d2, d3, d4, d5, d6, d7, d8, d9, d10, d11, d12, d13, d14⟩ := act_cells M3.out))
                        | (go_at_call 27; ((with_reducible refine (CY.out _).mono ?_); rintro e w4 ⟨rfl, k4⟩; have F4 := Lib.hid (F3.out.then k4); have M4 := Lib.hid (M3.out.then k4); obtain ⟨f0, f1, f2, f3, f4, f5, f6, f7, f8, f9, f10, f11, f12, f13, f14⟩ := act_cells M4.out))
                        | (at_builtin; refine IX.wpList_spreadK obK rfl (.tmp 102) (.tmp 105) rfl w.heap.size _ inn rfl ((F4.out.then (bAl (Below.refl _ _) _)).o) (w4.heap.size + 1) (some ⟨w4.heap.size, 0, none⟩) 1 1 [x.o] rfl rfl (RdK.lit w4 x.o (obCells x.o) rfl _) ?c1 ?c2 ?_))
                      case c1 => show inn.length + 1 ≤ 1000000; omega
                      case c2 => have := F4.out.h.b.size; simp; omega
                      intro iv2 w5 o5 g5 f5
                      have KA : IX.Kept w4 w5 (fun k => (Value.slice A' inn.length c').ownBlock ≠ some k) := ((IX.Kept.refl w4 _).alloc _).grown g5 (fun k e _ q => q e)
                      have F5 := Lib.hid (F4.out.app o5 KA (fun k e => by
                        rcases f5 with q | q
                        · exact .inl (q ▸ e)
                        · rw [q] at e; simp at e; exact .inr (by omega)))
                      obtain ⟨A8, c8, rfl, _, _, _⟩ := OwnK.form o5
                      clear o5 g5 f5 KA
                      go_wp2
                      go_roundw
                      case rel => exact ⟨k + 1, L3, addS s x.o, A8, c8, inn ++ [x.o], by go_num, by omega, by first | rfl | simp, F5.out, HL2.out, by rw [addS_len]; exact HSM.out, T3.out⟩
                      case measure => simp [intOf]; omega
                    · have e1 : addE s x.o = 4 := by unfold addE; rw [if_pos hy, hth, if_neg (by simp), if_neg (fun q => hr (HRoom.out.1 (HSM.out ▸ q)))]
                      have e2 : addS s x.o = s := addS_no (by rw [e1]; decide)
                      have CA := CA0.out
                      rw [e1, e2] at CA
                      have CA := Lib.hid CA
                      have hr2 : ¬ (inn.length : Int) < m := by omega
                      have hy' : Go.Proofs.YtlfbjgeobibnhaaDoor.HL.mayB x.o.handle = true := hy
                      rw [hy'] at CY
                      clear e1 e2 hy hy' hth hr
                      obtain ⟨p0, p1, p2, p3, p4, p5, p6, p7, p8, p9, p10, p11, p12, p13, p14⟩ := act_cells HMj.out
                      go_wp2_with (first
                        | (go_at_call 11; ((with_reducible refine CA.out.mono ?_); rintro e w3 ⟨L3, rfl, t3, st3⟩; have F3 := Lib.hid (HFj.out.step t3 st3); have T3 := Lib.hid (st3.t.trans HLT.out); have M3 := Lib.hid (st3.k.atC HMj.out HD.out); obtain ⟨d0, d1, d2, d3, d4, d5, d6, d7, d8, d9, d10, d11, d12, d13, d14⟩ := act_cells M3.out))
                        | (go_at_call 27; ((with_reducible refine (CY.out _).mono ?_); rintro e w4 ⟨rfl, k4⟩; have F4 := Lib.hid (F3.out.then k4); have M4 := Lib.hid (M3.out.then k4); obtain ⟨f0, f1, f2, f3, f4, f5, f6, f7, f8, f9, f10, f11, f12, f13, f14⟩ := act_cells M4.out)))
                      go_roundw
                      case rel => exact ⟨k + 1, L3, s, A', c', inn, by go_num, by omega, by first | rfl | simp, F4.out, HL.out, HSM.out, T3.out⟩
                      case measure => simp [intOf]; omega
                  | false =>
                    have e1 : addE s x.o = 10 := by unfold addE; rw [hy]; rfl
                    have e2 : addS s x.o = s := addS_no (by rw [e1]; decide)
                    have CA := CA0.out
                    rw [e1, e2] at CA
                    have CA := Lib.hid CA
                    have hy' : Go.Proofs.YtlfbjgeobibnhaaDoor.HL.mayB x.o.handle = false := hy
                    rw [hy'] at CY
                    clear e1 e2 hy hy' hth
                    obtain ⟨p0, p1, p2, p3, p4, p5, p6, p7, p8, p9, p10, p11, p12, p13, p14⟩ := act_cells HMj.out
                    go_wp2_with (first
                      | (go_at_call 11; ((with_reducible refine CA.out.mono ?_); rintro e w3 ⟨L3, rfl, t3, st3⟩; have F3 := Lib.hid (HFj.out.step t3 st3); have T3 := Lib.hid (st3.t.trans HLT.out); have M3 := Lib.hid (st3.k.atC HMj.out HD.out); obtain ⟨d0, d1, d2, d3, d4, d5, d6, d7, d8, d9, d10, d11, d12, d13, d14⟩ := act_cells M3.out))
                      | (go_at_call 27; ((with_reducible refine (CY.out _).mono ?_); rintro e w4 ⟨rfl, k4⟩; have F4 := Lib.hid (F3.out.then k4); have M4 := Lib.hid (M3.out.then k4); obtain ⟨f0, f1, f2, f3, f4, f5, f6, f7, f8, f9, f10, f11, f12, f13, f14⟩ := act_cells M4.out)))
                    go_roundw
                    case rel => exact ⟨k + 1, L3, s, A', c', inn, by go_num, by omega, by first | rfl | simp, F4.out, HL.out, HSM.out, T3.out⟩
                    case measure => simp [intOf]; omega
                · have hth : there s (hb x.o) = true := HL.out.has.2 ⟨_, List.getElem_mem hq, he⟩
                  have hee : addE s x.o ≠ 0 := fun z => by have := (addE_0.1 z).2.1; rw [hth] at this; cases this
                  have CA := CA0.out
                  rw [addS_no hee] at CA
                  clear hth he
                  generalize addE s x.o = ee at *
                  have CA := Lib.hid CA
                  obtain ⟨p0, p1, p2, p3, p4, p5, p6, p7, p8, p9, p10, p11, p12, p13, p14⟩ := act_cells HMj.out
                  go_wp2_with (go_at_call 11; ((with_reducible refine CA.out.mono ?_); rintro e w3 ⟨L3, rfl, t3, st3⟩; have F3 := Lib.hid (HFj.out.step t3 st3); have T3 := Lib.hid (st3.t.trans HLT.out); have M3 := Lib.hid (st3.k.atC HMj.out HD.out); obtain ⟨d0, d1, d2, d3, d4, d5, d6, d7, d8, d9, d10, d11, d12, d13, d14⟩ := act_cells M3.out))
                  go_roundw
                  case rel => exact ⟨k + 1, L3, s, A', c', inn, by go_num, by omega, by first | rfl | simp, F3.out, HL.out, HSM.out, T3.out⟩
                  case measure => simp [intOf]; omega
            | false =>
              cases e2' : ((x.kind : Int) % 4 == 2) with
              | true =>
                rcases HAT.out with ⟨rfl, hno⟩ | ⟨q, rfl, hq, he⟩
                · have hth : there s (hb x.o) = false := by
                    cases z : there s (hb x.o) with
                    | false => rfl
                    | true =>
                      obtain ⟨a, ha, e⟩ := HL.out.has.1 z
                      rw [List.take_length] at hno
                      exact absurd e (hno a ha)
                  have e1 : hasE s (hb x.o) = 70 := by unfold hasE; rw [hth]; rfl
                  have CS := set_any HFj.out.h.t HFj.out.h.b.size x.o hxx.2.1 (Nat.le_trans HFj.out.h.n (by omega))
                  rw [e1, setS_no hth, HLT.out] at CS
                  have CS := Lib.hid CS
                  clear hno hth e1
                  obtain ⟨p0, p1, p2, p3, p4, p5, p6, p7, p8, p9, p10, p11, p12, p13, p14⟩ := act_cells HMj.out
                  go_wp2_with (go_at_call 12; ((with_reducible refine CS.out.mono ?_); rintro e w3 ⟨L3, rfl, t3, st3⟩; have F3 := Lib.hid (HFj.out.step t3 st3); have T3 := Lib.hid (st3.t.trans HLT.out); have M3 := Lib.hid (st3.k.atC HMj.out HD.out); obtain ⟨d0, d1, d2, d3, d4, d5, d6, d7, d8, d9, d10, d11, d12, d13, d14⟩ := act_cells M3.out))
                  go_roundw
                  case rel => exact ⟨k + 1, L3, s, A', c', inn, by go_num, by omega, by first | rfl | simp, F3.out, HL.out, HSM.out, T3.out⟩
                  case measure => simp [intOf]; omega
                · have hth : there s (hb x.o) = true := HL.out.has.2 ⟨_, List.getElem_mem hq, he⟩
                  have e1 : hasE s (hb x.o) = 0 := by unfold hasE; rw [hth]; rfl
                  have HL2 := Lib.hid (HL.out.set HFj.out.h.t.wf hq he)
                  have CS := set_any HFj.out.h.t HFj.out.h.b.size x.o hxx.2.1 (Nat.le_trans HFj.out.h.n (by omega))
                  rw [e1, HLT.out] at CS
                  have CS := Lib.hid CS
                  obtain ⟨g, cap, eg, hg0, hg1, _⟩ := OwnK.some_ HFj.out.o (n := inn.length - 1) (by omega)
                  have eA : A' = some ⟨g, 0, none⟩ := by injection eg
                  subst eA
                  have hq2 : (q : Int) < inn.length := by omega
                  have hgD : g ≠ D := fun e => by have := HDi.out g rfl; omega
                  clear hth e1 he eg
                  obtain ⟨p0, p1, p2, p3, p4, p5, p6, p7, p8, p9, p10, p11, p12, p13, p14⟩ := act_cells HMj.out
                  go_wp2_with (go_at_call 12; ((with_reducible refine CS.out.mono ?_); rintro e w3 ⟨L3, rfl, t3, st3⟩; have F3 := Lib.hid (HFj.out.step t3 st3); have T3 := Lib.hid (st3.t.trans HLT.out); have M3 := Lib.hid (st3.k.atC HMj.out HD.out); obtain ⟨d0, d1, d2, d3, d4, d5, d6, d7, d8, d9, d10, d11, d12, d13, d14⟩ := act_cells M3.out; have rdx := own_rd F3.out.o; obtain ⟨b7, o7, e7, _, hc7⟩ := obs_at rdx (by omega); cases e7; obtain ⟨r0, r1, r2, r3, r4, r5, r6, r7, r8, r9, r10, r11, r12, r13⟩ := hc7 q _ (List.getElem?_eq_getElem hq); simp only [Nat.zero_add] at r0 r1 r2 r3 r4 r5 r6 r7 r8 r9 r10 r11 r12 r13; have fz := own_frozen F3.out.o; clear hc7 rdx))
                  have F5 : FP w (put14 w3 g (q * 14) x.o) L3 (setS s x.o) (.slice (some ⟨g, 0, none⟩) (inn.set q x.o).length c') (inn.set q x.o) (2 * k + 2) := by
                    rw [List.length_set]
                    exact F3.out.app (OwnK_obSet F3.out.o hq x.o) (put14_kept (IX.Kept.refl w3 _) (fun _ n => n rfl)) (fun k e => .inl e)
                  go_roundw
                  case rel => exact ⟨k + 1, L3, setS s x.o, some ⟨g, 0, none⟩, c', inn.set q x.o, by go_num, by omega, by rw [List.length_set], F5, HL2.out, by rw [setS_len]; exact HSM.out, T3.out⟩
                  case measure => simp [intOf]; omega
              | false =>
                rcases HAT.out with ⟨rfl, hno⟩ | ⟨q, rfl, hq, he⟩
                · have hth : there s (hb x.o) = false := by
                    cases z : there s (hb x.o) with
                    | false => rfl
                    | true =>
                      obtain ⟨a, ha, e⟩ := HL.out.has.1 z
                      rw [List.take_length] at hno
                      exact absurd e (hno a ha)
                  have e1 : hasE s (hb x.o) = 70 := by unfold hasE; rw [hth]; rfl
                  have CS := remove_any HFj.out.h.t HFj.out.h.b.size x.o.handle (Nat.le_trans HFj.out.h.n (by omega))
                  rw [show hasE s x.o.handle.data.toList = 70 from e1, (show remS s x.o.handle.data.toList = s from remS_no hth), HLT.out] at CS
                  have CS := Lib.hid CS
                  clear hno hth e1
                  obtain ⟨p0, p1, p2, p3, p4, p5, p6, p7, p8, p9, p10, p11, p12, p13, p14⟩ := act_cells HMj.out
                  go_wp2_with (go_at_call 13; ((with_reducible refine CS.out.mono ?_); rintro e w3 ⟨L3, rfl, t3, st3⟩; have F3 := Lib.hid (HFj.out.step t3 st3); have T3 := Lib.hid (st3.t.trans HLT.out); have M3 := Lib.hid (st3.k.atC HMj.out HD.out); obtain ⟨d0, d1, d2, d3, d4, d5, d6, d7, d8, d9, d10, d11, d12, d13, d14⟩ := act_cells M3.out))
                  go_roundw
                  case rel => exact ⟨k + 1, L3, s, A', c', inn, by go_num, by omega, by first | rfl | simp, F3.out, HL.out, HSM.out, T3.out⟩
                  case measure => simp [intOf]; omega
                · have hth : there s (hb x.o) = true := HL.out.has.2 ⟨_, List.getElem_mem hq, he⟩
                  have e1 : hasE s (hb x.o) = 0 := by unfold hasE; rw [hth]; rfl
                  have HL2 := Lib.hid (HL.out.rem HFj.out.h.t.wf hq)
                  rw [he] at HL2
                  have CS := remove_any HFj.out.h.t HFj.out.h.b.size x.o.handle (Nat.le_trans HFj.out.h.n (by omega))
                  rw [show hasE s x.o.handle.data.toList = 0 from e1, HLT.out] at CS
                  have CS := Lib.hid CS
                  obtain ⟨g, cap, eg, hg0, hg1, _⟩ := OwnK.some_ HFj.out.o (n := inn.length - 1) (by omega)
                  have eA : A' = some ⟨g, 0, none⟩ := by injection eg
                  subst eA
                  have hcap : inn.length ≤ c' := by
                    obtain ⟨_, _, e8, _, h8, _⟩ := OwnK.form HFj.out.o
                    cases e8; exact h8
                  have hq2 : (q : Int) < inn.length := by omega
                  clear hth e1 he eg
                  obtain ⟨p0, p1, p2, p3, p4, p5, p6, p7, p8, p9, p10, p11, p12, p13, p14⟩ := act_cells HMj.out
                  go_wp2_with (go_at_call 13; ((with_reducible refine CS.out.mono ?_); rintro e w3 ⟨L3, rfl, t3, st3⟩; have F3 := Lib.hid (HFj.out.step t3 st3); have T3 := Lib.hid (st3.t.trans HLT.out)))
                  have RD3 := Lib.hid (own_rd F3.out.o)
                  obtain ⟨nn, hnn⟩ : ∃ nn, inn.length = q + 1 + nn := ⟨inn.length - (q + 1), by omega⟩
                  have s1 : ∀ W, (Instr.slice 41 (.slice (some ⟨g, 0, none⟩) inn.length c') none (some (.int .i64 (q : Int))) none).run Tryd.prog W = .ok (.slice (some ⟨g, 0, none⟩) q c') W := IX.slice_toK obK (by omega) hcap
                  obtain ⟨A5, c5, s2, r2, _⟩ := IX.slice_fromK obK RD3.out rfl (p := q + 1) (by omega) hcap
                  have s2' : ∀ W, (Instr.slice 41 (.slice (some ⟨g, 0, none⟩) inn.length c') (some (.int .i64 ((q : Int) + 1))) none none).run Tryd.prog W = .ok (.slice A5 nn c5) W := fun W => by
                    have := s2 W
                    rw [show inn.length - (q + 1) = nn by omega] at this
                    exact this
                  have T1 : Hid ((inn.take q).length = q) := Lib.hid (by rw [List.length_take]; omega)
                  have T2 : Hid ((inn.drop (q + 1)).length = nn) := Lib.hid (by rw [List.length_drop]; omega)
                  have R1 := Lib.hid (rd_take RD3.out q)
                  have R2 := Lib.hid (r2 _ RD3.out)
                  have hwr : IntKind.i64.wrap ((q : Int) + 1) = (q : Int) + 1 := IntWalk.i64_in _ (by omega)
                  have BL : Hid (Below w3.heap.size w3 (w3.drew.alloc (.cells #[] 23))) := Lib.hid ((Below.refl _ _).drew.alloc (Nat.le_refl _) _)
                  have hmq : q + nn ≤ 200 := by omega
                  clear s2 r2 hnn
                  generalize inn.take q = t1 at *
                  generalize inn.drop (q + 1) = t2 at *
                  go_region_law (first
                    | (refine IX.step_spreadK obK rfl (.tmp 66) (.tmp 69) rfl w3.heap.size (.slice (some ⟨w3.heap.size, 0, none⟩) 0 0) [] (by simp [Act.eval, Act.put]) (OwnK.lit w3.drew w3.heap.size (Nat.le_refl _)) w3.heap.size (some ⟨g, 0, none⟩) q c' t1 (by simp [Act.eval, Act.put]) T1.out (R1.out.below BL.out) (by have := T1.out; simp; omega) (by simp) ?_; intro x1 w4 o1 g1 f1; have b1 : Below w3.heap.size w3 w4 := (BL.out.grown g1 BL.out.size (fun k hk => by simp [Value.ownBlock] at hk; omega)); have O1 := Lib.hid o1; have B1 := Lib.hid b1; clear o1 g1 f1 b1)
                    | (go_loud (refine IX.step_spreadK obK rfl (.tmp 70) (.tmp 74) rfl w3.heap.size x1 t1 (by simp [Act.eval, Act.put]) O1.out w3.heap.size A5 nn c5 t2 (by simp [Act.eval, Act.put]) T2.out (R2.out.below B1.out) (by have := T1.out; have := T2.out; omega) B1.out.size ?_); intro x2 w5 o2 g2 f2; have b2 : Below w3.heap.size w3 w5 := (B1.out.grown g2 B1.out.size (fun k hk => (O1.out.lt k hk).1)); have O2 := Lib.hid o2; have B2 := Lib.hid b2; clear o2 g2 f2 b2))
                  all_goals
                    obtain ⟨A8, c8, e8, _, _, _⟩ := OwnK.form O2.out
                    subst e8
                    have F5 := Lib.hid (F3.out.app (O2.out.base F3.out.h.b.size) (.of_below B2.out) (fun k e => .inr (O2.out.lt k e).1))
                    go_wp2
                    go_roundw
                    case rel => exact ⟨k + 1, L3, _, A8, c8, _, by go_num, by omega, by first | rfl | simp, F5.out, HL2.out, by rw [remS_len]; exact HSM.out, T3.out⟩
                    case measure => simp [intOf]; omega
    · have e : k = l.length := by omega
      subst e
      go_wp2
      go_ret3
      exact ⟨L, s, A', c', inn, by rw [HLT.out]; rfl, ⟨⟨HF.out.h.t, HF.out.h.b, Nat.le_trans HF.out.h.n (by omega)⟩, HF.out.o, HF.out.ne⟩, HL.out, HSM.out⟩
end Go.Proofs.YtlfbjgeobibnhaaDoor.TX
