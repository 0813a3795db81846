/-
  WALK: filled: an index behind acts, and what was put in and not taken away.
-/
import Derived.Test.YtpdhfogmdhnoeaaIFillM
import Derived.BigQuiet
namespace Go.Proofs.Ytpdhfogmdhnoeaa.IX
open Go.RowKit HL
set_option maxRecDepth 100000
set_option linter.unusedVariables false
set_option linter.unusedSimpArgs false

/-- The index and the acts that stand, in memory. -/
structure FI (w0 W : World) (B : Nat) (v : Value) (l : List Rw) (iv : Value) (inn : List Act1) : Prop where
  a : IxAt W B v l
  o : OwnK actK W w0.heap.size iv inn
  bel : Below w0.heap.size w0 W
  b0 : w0.heap.size ≤ B
  v0 : ∀ k, v.ownBlock = some k → w0.heap.size ≤ k
  ne : iv.ownBlock ≠ some B
theorem FI.then {w0 W W1 : World} {B : Nat} {v iv : Value} {l : List Rw} {inn : List Act1} (h : FI w0 W B v l iv inn) (k : Below W.heap.size W W1) : FI w0 W1 B v l iv inn :=
  ⟨h.a.then k, h.o.below k, h.bel.trans (k.mono h.bel.size), h.b0, h.v0, h.ne⟩
theorem FI.ix {w0 W W1 : World} {B : Nat} {v iv v1 : Value} {l l1 : List Rw} {inn : List Act1} (h : FI w0 W B v l iv inn) (a1 : IxAt W1 B v1 l1) (f1 : ∀ k, v1.ownBlock = some k → v.ownBlock = some k ∨ W.heap.size ≤ k) (k1 : Kept W W1 (fun k => k ≠ B ∧ v.ownBlock ≠ some k)) : FI w0 W1 B v1 l1 iv inn := by
  refine ⟨a1, h.o.kept k1 (fun b e => ⟨fun q => h.ne (q ▸ e), own_apartK act_row h.o (OwnP.k.1 h.a.r) b e⟩), h.bel.trans (k1.below h.bel.size (fun i hi => ⟨by have := h.b0; omega, fun e => by have := h.v0 i e; omega⟩)), h.b0, fun k e => ?_, h.ne⟩
  rcases f1 k e with q | q
  · exact h.v0 k q
  · have := h.bel.size; omega
theorem FI.app {w0 W W1 : World} {B : Nat} {v iv iv2 : Value} {l : List Rw} {inn inn2 : List Act1} (h : FI w0 W B v l iv inn) (o2 : OwnK actK W1 w0.heap.size iv2 inn2) (k1 : Kept W W1 (fun k => iv.ownBlock ≠ some k)) (fr : ∀ k, iv2.ownBlock = some k → iv.ownBlock = some k ∨ W.heap.size ≤ k) : FI w0 W1 B v l iv2 inn2 := by
  refine ⟨h.a.kept k1 h.ne (fun b e e2 => own_apartK act_row h.o (OwnP.k.1 h.a.r) b e2 e), o2, h.bel.trans (k1.below h.bel.size (fun i hi e => by have := (h.o.lt i e).1; omega)), h.b0, h.v0, fun e => ?_⟩
  rcases fr _ e with q | q
  · exact h.ne q
  · have := h.a.a.lt; omega
set_option maxHeartbeats 8000000 in
theorem filled_any {A : Option Addr} (l : List Act1) (c : Nat) (w : World) (hr : RdA w w.heap.size A l) (h1 : l.length ≤ 200) (h2 : ∀ x ∈ l, x.h.length ≤ 100) :
    Calls Try.prog 27 #[.slice A l.length c] w fun e w' => ∃ v l' inn A' c', e = .returned (.tuple #[ptr w.heap.size, .slice A' inn.length c', .bool true]) ∧ FI w w' w.heap.size v l' (.slice A' inn.length c') inn ∧ Fil l' inn ∧ l'.length ≤ 200 ∧ (∀ a ∈ inn, a.h.length ≤ 100) := by
  have HRd := Lib.hid hr
  have L2 := Lib.hid h2
  have C1 := Lib.hid (new_any w)
  clear hr h2
  go_enter Try.func27, Try.ntmps27
  go_wp2_with (go_at_call 10; ((with_reducible refine C1.out.mono ?_); rintro e w1 ⟨rfl, a1, k1⟩; have A1 := Lib.hid a1; have K1 := Lib.hid k1; clear a1 k1))
  have HF0 : Hid (FI w w1 w.heap.size (.slice none 0 0) [] (.slice none 0 0) []) := Lib.hid ⟨A1.out, OwnK.nil_ _ _ _, K1.out, Nat.le_refl _, fun k e => by simp [Value.ownBlock] at e, by simp [Value.ownBlock]⟩
  clear A1 K1 C1
  obtain ⟨B, hBe⟩ : ∃ B, w.heap.size = B := ⟨_, rfl⟩
  have HB2 := Lib.hid hBe
  rw [hBe] at HF0 ⊢
  clear hBe
  go_loopw [6, 7] (fun iv i wr => ∃ (k : Nat) (v : Value) (l' : List Rw) (A' : Option Addr) (c' : Nat) (inn : List Act1), i = .int .i64 k ∧ k ≤ l.length ∧ iv = .slice A' inn.length c' ∧ FI w wr B v l' (.slice A' inn.length c') inn ∧ Fil l' inn ∧ l'.length ≤ k ∧ ∀ a ∈ inn, a.h.length ≤ 100) (fun _ i _ => l.length - (intOf i).toNat)
  case atStart => exact ⟨0, _, [], none, 0, [], rfl, Nat.zero_le _, rfl, HF0.out, .nil, Nat.le_refl _, by simp⟩
  case round =>
    obtain ⟨k, v, l', A', c', inn, rfl, hk, rfl, hF, hL, hlen, hih⟩ := hrel
    have HF := Lib.hid hF
    have HL := Lib.hid hL
    have HI := Lib.hid hih
    clear hF hL hih HF0
    by_cases hlt : k < l.length
    · have i2 : (k : Int) < l.length := by omega
      obtain ⟨b, o, rfl, hbl, hc⟩ := HRd.out.at_ (by omega)
      have hP : ∀ w', Below w.heap.size w w' → (w'.cell? ⟨b, o + k * 3, none⟩ = some (.bool (l[k]).take) ∧ w'.cell? ⟨b, o + k * 3 + 1, none⟩ = some (str (l[k]).h) ∧ w'.cell? ⟨b, o + k * 3 + 2, none⟩ = some (.int .i64 (l[k]).n)) := fun w' q =>
        ⟨(q.cell (p := ⟨b, _, none⟩) hbl).trans (hc k _ (List.getElem?_eq_getElem hlt)).1, (q.cell (p := ⟨b, _, none⟩) hbl).trans (hc k _ (List.getElem?_eq_getElem hlt)).2.1, (q.cell (p := ⟨b, _, none⟩) hbl).trans (hc k _ (List.getElem?_eq_getElem hlt)).2.2⟩
      have hxl := L2.out _ (List.getElem_mem hlt)
      clear hc
      generalize l[k] = x at *
      obtain ⟨q1, q2, q3⟩ := hP _ HF.out.bel
      clear hP
      have hinn : inn.length ≤ 200 := by have := HL.out.len; omega
      go_wp2
      have M0 : AtC (wr.alloc (.cells #[.bool x.take, str x.h, .int .i64 x.n] 32)) wr.heap.size #[.bool x.take, str x.h, .int .i64 x.n] := AtC.new _ _ _
      have HFa := Lib.hid (HF.out.then ((Below.refl _ _).alloc (Nat.le_refl _) (.cells #[.bool x.take, str x.h, .int .i64 x.n] 32)))
      have HM := Lib.hid M0
      have hDB : B < wr.heap.size := HF.out.a.a.lt
      have hDv : ∀ k, v.ownBlock = some k → k < wr.heap.size := fun k e => (HF.out.a.r.lt k e).2
      have hDi : ∀ k, (Value.slice A' inn.length c').ownBlock = some k → k < wr.heap.size := fun k e => (HF.out.o.lt k e).2
      have HDv := Lib.hid hDv
      have HDi := Lib.hid hDi
      clear M0 q1 q2 q3 HF hDv hDi
      generalize wr.alloc (.cells #[.bool x.take, str x.h, .int .i64 x.n] 32) = wa at *
      generalize wr.heap.size = D at *
      go_loopw [9, 10] (fun at_ j wj => ∃ (n : Nat), j = .int .i64 n ∧ n ≤ inn.length ∧ Below wa.heap.size wa wj ∧ ((at_ = .int .i64 (-1) ∧ ∀ a ∈ inn.take n, a.h ≠ x.h) ∨ ∃ m : Nat, at_ = .int .i64 m ∧ ∃ hm : m < inn.length, inn[m].h = x.h)) (fun _ j _ => inn.length - (intOf j).toNat)
      case atStart => exact ⟨0, rfl, Nat.zero_le _, Below.refl _ _, .inl ⟨rfl, by simp⟩⟩
      case round =>
        obtain ⟨n, rfl, hn, hbj, hat⟩ := hrel
        have HBJ := Lib.hid hbj
        have HAT := Lib.hid hat
        clear hat
        have hFj := HFa.out.then hbj
        by_cases hlt2 : n < inn.length
        · obtain ⟨_, _, e8, rd, _⟩ := hFj.o.form
          simp only [Value.slice.injEq, true_and] at e8
          obtain ⟨rfl, rfl⟩ := e8
          obtain ⟨b2, o2, rfl, hb2, hc2⟩ := rd.acts.at_ (by omega)
          have p2 := (hc2 n _ (List.getElem?_eq_getElem hlt2)).2.1
          have p3 := (HM.out.then hbj).c 1
          simp only [List.getElem?_toArray, List.getElem?_cons_succ, List.getElem?_cons_zero] at p3
          have j2 : (n : Int) < inn.length := by omega
          have HT := Lib.hid (List.take_succ_eq_append_getElem hlt2)
          clear hc2 rd hFj
          by_cases he : inn[n].h = x.h
          · have HE := Lib.hid (show ∃ hm : n < inn.length, inn[n].h = x.h from ⟨hlt2, he⟩)
            have hb : (inn[n].h == x.h) = true := by simpa using he
            clear he HT
            generalize inn[n].h = y at p2 hb
            go_wp2
            go_quiet (fail)
            go_wp2
            go_roundw
            case rel => exact ⟨n + 1, by go_num, by omega, HBJ.out.trans ⟨rfl, rfl, rfl, Nat.le_refl _, fun _ _ => rfl⟩, .inr ⟨n, rfl, HE.out⟩⟩
            case measure => simp [intOf]; omega
          · have hb : (inn[n].h == x.h) = false := by simpa using he
            have HE := Lib.hid he
            clear he
            generalize hy : inn[n].h = y at p2 hb
            clear hy
            go_wp2
            go_quiet (fail)
            go_wp2
            go_roundw
            case rel =>
              refine ⟨n + 1, by go_num, by omega, HBJ.out.trans ⟨rfl, rfl, rfl, Nat.le_refl _, fun _ _ => rfl⟩, ?_⟩
              rcases HAT.out with ⟨q1, q2⟩ | q
              · refine .inl ⟨q1, fun a ha => ?_⟩
                rw [HT.out] at ha
                rcases List.mem_append.1 ha with ha | ha
                · exact q2 a ha
                · simp at ha; subst ha; exact HE.out
              · exact .inr q
            case measure => simp [intOf]; omega
        · have e : n = inn.length := by omega
          subst e
          have HFj := Lib.hid hFj
          have HMj := Lib.hid (HM.out.then hbj)
          clear hFj HFa HM hbj HBJ
          have p1 := HMj.out.c 0
          have p2 := HMj.out.c 1
          have p3 := HMj.out.c 2
          simp only [List.getElem?_toArray, List.getElem?_cons_succ, List.getElem?_cons_zero] at p1 p2 p3
          have hl3 : l'.length ≤ 300 := by omega
          have HUP := Lib.hid HL.out.up
          obtain ⟨_, _, e8, rd, hcap, _⟩ := HFj.out.o.form
          simp only [Value.slice.injEq, true_and] at e8
          obtain ⟨rfl, rfl⟩ := e8
          have RD := Lib.hid rd
          clear rd
          cases hg : x.take with
          | true =>
            rw [hg] at p1
            clear hg
            have CT := Lib.hid (take_any B v l' x.h wr HFj.out.a (by omega))
            rcases HAT.out with ⟨rfl, hno⟩ | ⟨m, rfl, hm, he⟩
            · have hf : hasB l' x.h = false := by
                cases q : hasB l' x.h with
                | false => rfl
                | true =>
                  obtain ⟨a, ha, e⟩ := HL.out.has.1 q
                  rw [List.take_length] at hno
                  exact absurd e (hno a ha)
              have e1 : takeE l' x.h = 70 := by simp [takeE_0, hf]
              have e2 : takeL l' x.h = l' := takeL_no hf
              rw [e1, e2] at CT
              clear e1 e2 hf hno
              generalize numOf l' x.h = a at *
              go_wp2_with (go_at_call 11; ((with_reducible refine CT.out.mono ?_); rintro e w3 ⟨v1, rfl, a3, f3, k3⟩; have HF3 := Lib.hid (HFj.out.ix a3 f3 k3); clear a3 f3 k3))
              go_roundw
              case rel => exact ⟨k + 1, v1, l', A', c', inn, by go_num, by omega, rfl, HF3.out, HL.out, by omega, HI.out⟩
              case measure => simp [intOf]; omega
            · have hr := HL.out.row (List.getElem_mem hm)
              have HL2 := Lib.hid (HL.out.take hm)
              rw [he] at hr HL2
              have e1 : takeE l' x.h = 0 := by simp [takeE_0, hr.1]
              rw [e1, hr.2.1] at CT
              have HLen : Hid ((takeL l' x.h).length ≤ l'.length) := Lib.hid (takeL_len _ _)
              generalize takeL l' x.h = l2 at *
              have HI2 : Hid (∀ a ∈ inn.take m ++ inn.drop (m + 1), a.h.length ≤ 100) := Lib.hid (fun a ha => (List.mem_append.1 ha).elim (fun h => HI.out a (List.mem_of_mem_take h)) (fun h => HI.out a (List.mem_of_mem_drop h)))
              have hlt4 : (m : Int) < inn.length := by omega
              obtain ⟨b4, o4, rfl, _, _⟩ := RD.out.acts.at_ (by omega)
              have HIN := Lib.hid (List.getElem?_eq_getElem hm)
              clear he hr e1
              generalize hy : inn[m] = y at *
              clear hy
              go_wp2_with (go_at_call 11; ((with_reducible refine CT.out.mono ?_); rintro e w3 ⟨v1, rfl, a3, f3, k3⟩; have HF3 := Lib.hid (HFj.out.ix a3 f3 k3); obtain ⟨_, _, e9, rd3, _⟩ := HF3.out.o.form; simp only [Value.slice.injEq, true_and] at e9; obtain ⟨rfl, rfl⟩ := e9; obtain ⟨b5, o5, eA5, hb5, hc5⟩ := rd3.acts.at_ (by omega); cases eA5; have p5 := (hc5 m _ HIN.out).2.2; have RD3 := Lib.hid rd3; clear a3 f3 k3 rd3 hc5))
              obtain ⟨q, hq⟩ : ∃ q, inn.length = m + 1 + q := ⟨inn.length - (m + 1), by omega⟩
              have s1 : ∀ W, (Instr.slice 22 (.slice (some ⟨b4, o4, none⟩) inn.length c') none (some (.int .i64 (m : Int))) none).run Try.prog W = .ok (.slice (some ⟨b4, o4, none⟩) m c') W := slice_toK actK (by omega) hcap
              obtain ⟨A5, c5, s2, r2, _⟩ := slice_fromK actK RD3.out rfl (p := m + 1) (by omega) hcap
              have s2' : ∀ W, (Instr.slice 22 (.slice (some ⟨b4, o4, none⟩) inn.length c') (some (.int .i64 ((m : Int) + 1))) none none).run Try.prog W = .ok (.slice A5 q c5) W := fun W => by
                have := s2 W
                rw [show inn.length - (m + 1) = q by omega] at this
                exact this
              have T1 : Hid ((inn.take m).length = m) := Lib.hid (by rw [List.length_take]; omega)
              have T2 : Hid ((inn.drop (m + 1)).length = q) := Lib.hid (by rw [List.length_drop]; omega)
              have R1 := Lib.hid (RD3.out.take m)
              have R2 := Lib.hid (r2 _ RD3.out)
              have hwr : IntKind.i64.wrap ((m : Int) + 1) = (m : Int) + 1 := IntWalk.i64_in _ (by omega)
              have BL : Hid (Below w3.heap.size w3 (w3.drew.alloc (.cells #[] 32))) := Lib.hid ((Below.refl _ _).drew.alloc (Nat.le_refl _) _)
              have hmq : m + q ≤ 200 := by omega
              clear p5 s2 r2 hq
              generalize inn.take m = t1 at *
              generalize inn.drop (m + 1) = t2 at *
              go_region_law (first
                | (refine step_spreadK actK rfl (.tmp 71) (.tmp 74) rfl w3.heap.size (.slice (some ⟨w3.heap.size, 0, none⟩) 0 0) [] (by simp [Act.eval, Act.put]) (OwnK.lit w3.drew w3.heap.size (Nat.le_refl _)) w3.heap.size (some ⟨b4, o4, none⟩) m c' t1 (by simp [Act.eval, Act.put]) T1.out (R1.out.below BL.out) (by have := T1.out; simp; omega) (by simp) ?_; intro x1 w4 o1 g1 f1; have b1 : Below w3.heap.size w3 w4 := (BL.out.grown g1 BL.out.size (fun k hk => by simp [Value.ownBlock] at hk; omega)); have O1 := Lib.hid o1; have B1 := Lib.hid b1; clear o1 g1 f1 b1)
                | (go_loud (refine step_spreadK actK rfl (.tmp 75) (.tmp 79) rfl w3.heap.size x1 t1 (by simp [Act.eval, Act.put]) O1.out w3.heap.size A5 q c5 t2 (by simp [Act.eval, Act.put]) T2.out (R2.out.below B1.out) (by have := T1.out; have := T2.out; omega) B1.out.size ?_); intro x2 w5 o2 g2 f2; have b2 : Below w3.heap.size w3 w5 := (B1.out.grown g2 B1.out.size (fun k hk => (O1.out.lt k hk).1)); have O2 := Lib.hid o2; have B2 := Lib.hid b2; clear o2 g2 f2 b2))
              all_goals
                obtain ⟨A8, c8, e8, _, _, _⟩ := O2.out.form
                subst e8
                have HF5 := Lib.hid (HF3.out.app (O2.out.base HF3.out.bel.size) (.of_below B2.out) (fun k e => .inr (O2.out.lt k e).1))
                go_wp2
                go_roundw
                case rel => exact ⟨k + 1, v1, l2, A8, c8, _, by go_num, by omega, by first | rfl | simp, HF5.out, HL2.out, by have := HLen.out; omega, HI2.out⟩
                case measure => simp [intOf]; omega
          | false =>
            rw [hg] at p1 HMj
            have hxm : x.h.length ≤ maxLen := Nat.le_trans hxl (by unfold maxLen; decide)
            have hb0 : Below wr.heap.size wr wr := Below.refl _ _
            have CP := Lib.hid (fun W q => put_any B v l' x.h x.n W (HFj.out.then (W1 := W) q).a (by omega) hxm)
            have CY := Lib.hid (fun W => may_any ⟨x.h.toArray⟩ W hxm)
            have HFq := Lib.hid (fun W q => HFj.out.then (W1 := W) q)
            have HMq := Lib.hid (fun W q => HMj.out.then (W1 := W) q)
            have HDne : Hid (D ≠ B ∧ v.ownBlock ≠ some D) := Lib.hid ⟨by omega, fun e => by have := HDv.out _ e; omega⟩
            rcases HAT.out with ⟨rfl, hno⟩ | ⟨m, rfl, hm, he⟩
            · have hf : hasB l' x.h = false := by
                cases q : hasB l' x.h with
                | false => rfl
                | true =>
                  obtain ⟨a, ha, e⟩ := HL.out.has.1 q
                  rw [List.take_length] at hno
                  exact absurd e (hno a ha)
              clear hno
              by_cases hn0 : 0 ≤ x.n
              · cases hy : mayS x.h with
                | true =>
                  have e1 : putE l' x.h x.n = 0 := (putE_0 _ _ _).2 ⟨hy, hn0, hf⟩
                  have HL2 := Lib.hid (HL.out.put hy hn0 hf)
                  have HLen : Hid ((putL l' x.h x.n).length ≤ l'.length + 1) := Lib.hid (putL_len _ _ _)
                  have HI2 : Hid (∀ a ∈ inn ++ [x], a.h.length ≤ 100) := Lib.hid (fun a ha => (List.mem_append.1 ha).elim (HI.out a) (fun h => by simp at h; subst h; exact hxl))
                  have hy' : mayB ⟨x.h.toArray⟩ = true := hy
                  have HG : Hid (x.take = false) := Lib.hid hg
                  rw [hy'] at CY
                  rw [e1] at CP
                  clear e1 hf hy hy' hg
                  generalize putL l' x.h x.n = l2 at *
                  go_wp2_with (first
                    | (go_at_call 37; ((with_reducible refine (CY.out _).mono ?_); rintro e w2 ⟨rfl, k2⟩; replace hb0 := bThen hb0 k2; have p4 := (HMq.out _ hb0).c 1; have p5 := (HMq.out _ hb0).c 2; simp only [List.getElem?_toArray, List.getElem?_cons_succ, List.getElem?_cons_zero] at p4 p5))
                    | (go_at_call 13; ((with_reducible refine (CP.out _ hb0).mono ?_); rintro e w3 ⟨v1, rfl, a3, f3, k3⟩; have HF3 := Lib.hid ((HFq.out _ hb0).ix a3 f3 k3); have HM3 := Lib.hid (k3.atC (HMq.out _ hb0) HDne.out); clear a3 f3 k3; have d1 := HM3.out.c 0; have d2 := HM3.out.c 1; have d3 := HM3.out.c 2; simp only [List.getElem?_toArray, List.getElem?_cons_succ, List.getElem?_cons_zero] at d1 d2 d3))
                    | (at_builtin; refine wpList_spreadK actK rfl (.tmp 103) (.tmp 105) rfl w.heap.size _ inn rfl ((HF3.out.then ((Below.refl _ _).alloc (Nat.le_refl _) _)).o) (w3.heap.size + 1) (some ⟨w3.heap.size, 0, none⟩) 1 1 [x] rfl rfl (RdK.lit _ _ _ (by show _ = [Value.bool x.take, _, _]; rw [HG.out]) _) ?c1 ?c2 ?_))
                  case c1 => have : inn.length ≤ 200 := hinn; simp; omega
                  case c2 => have := HF3.out.bel.size; simp; omega
                  intro iv2 w4 o4 g4 f4
                  have KA : Kept w3 w4 (fun k => (Value.slice A' inn.length c').ownBlock ≠ some k) := ((Kept.refl w3 _).alloc _).grown g4 (fun k e _ q => q e)
                  have HF4 := Lib.hid (HF3.out.app o4 KA (fun k e => by
                    rcases f4 with q | q
                    · exact .inl (q ▸ e)
                    · rw [q] at e; simp at e; exact .inr (by omega)))
                  obtain ⟨A8, c8, e8, _, _, _⟩ := o4.form
                  subst e8
                  clear o4 g4 f4 KA
                  go_wp2
                  go_roundw
                  case rel => exact ⟨k + 1, v1, l2, A8, c8, inn ++ [x], by go_num, by omega, by first | rfl | simp, HF4.out, HL2.out, by have := HLen.out; omega, HI2.out⟩
                  case measure => simp [intOf]; omega
                | false =>
                  have hee : putE l' x.h x.n ≠ 0 := fun q => by have := ((putE_0 _ _ _).1 q).1; rw [hy] at this; cases this
                  have hy' : mayB ⟨x.h.toArray⟩ = false := hy
                  rw [hy'] at CY
                  clear hy hy' hf
                  have e2 : putL l' x.h x.n = l' := putL_no hee
                  rw [e2] at CP
                  clear e2 hg
                  generalize putE l' x.h x.n = ee at *
                  go_wp2_with (first
                    | (go_at_call 37; ((with_reducible refine (CY.out _).mono ?_); rintro e w2 ⟨rfl, k2⟩; replace hb0 := bThen hb0 k2; have p4 := (HMq.out _ hb0).c 1; have p5 := (HMq.out _ hb0).c 2; simp only [List.getElem?_toArray, List.getElem?_cons_succ, List.getElem?_cons_zero] at p4 p5))
                    | (go_at_call 13; ((with_reducible refine (CP.out _ hb0).mono ?_); rintro e w3 ⟨v1, rfl, a3, f3, k3⟩; have HF3 := Lib.hid ((HFq.out _ hb0).ix a3 f3 k3); clear a3 f3 k3)))
                  go_roundw
                  case rel => exact ⟨k + 1, v1, l', A', c', inn, by go_num, by omega, by first | rfl | simp, HF3.out, HL.out, by omega, HI.out⟩
                  case measure => simp [intOf]; omega
              · have hee : putE l' x.h x.n ≠ 0 := fun q => hn0 ((putE_0 _ _ _).1 q).2.1
                clear hf
                have e2 : putL l' x.h x.n = l' := putL_no hee
                rw [e2] at CP
                clear e2 hg
                generalize putE l' x.h x.n = ee at *
                go_wp2_with (first
                  | (go_at_call 37; ((with_reducible refine (CY.out _).mono ?_); rintro e w2 ⟨rfl, k2⟩; replace hb0 := bThen hb0 k2; have p4 := (HMq.out _ hb0).c 1; have p5 := (HMq.out _ hb0).c 2; simp only [List.getElem?_toArray, List.getElem?_cons_succ, List.getElem?_cons_zero] at p4 p5))
                  | (go_at_call 13; ((with_reducible refine (CP.out _ hb0).mono ?_); rintro e w3 ⟨v1, rfl, a3, f3, k3⟩; have HF3 := Lib.hid ((HFq.out _ hb0).ix a3 f3 k3); clear a3 f3 k3)))
                go_roundw
                case rel => exact ⟨k + 1, v1, l', A', c', inn, by go_num, by omega, by first | rfl | simp, HF3.out, HL.out, by omega, HI.out⟩
                case measure => simp [intOf]; omega
            · have hee : putE l' x.h x.n ≠ 0 := fun q => by
                have h3 := ((putE_0 _ _ _).1 q).2.2
                have := HL.out.has.2 ⟨_, List.getElem_mem hm, he⟩
                rw [h3] at this; cases this
              clear he
              have e2 : putL l' x.h x.n = l' := putL_no hee
              rw [e2] at CP
              clear e2 hg
              generalize putE l' x.h x.n = ee at *
              go_wp2_with (first
                | (go_at_call 37; ((with_reducible refine (CY.out _).mono ?_); rintro e w2 ⟨rfl, k2⟩; replace hb0 := bThen hb0 k2; have p4 := (HMq.out _ hb0).c 1; have p5 := (HMq.out _ hb0).c 2; simp only [List.getElem?_toArray, List.getElem?_cons_succ, List.getElem?_cons_zero] at p4 p5))
                | (go_at_call 13; ((with_reducible refine (CP.out _ hb0).mono ?_); rintro e w3 ⟨v1, rfl, a3, f3, k3⟩; have HF3 := Lib.hid ((HFq.out _ hb0).ix a3 f3 k3); clear a3 f3 k3)))
              go_roundw
              case rel => exact ⟨k + 1, v1, l', A', c', inn, by go_num, by omega, by first | rfl | simp, HF3.out, HL.out, by omega, HI.out⟩
              case measure => simp [intOf]; omega
    · have e : k = l.length := by omega
      subst e
      go_wp2
      go_ret3
      exact ⟨v, l', inn, A', c', by rw [HB2.out]; rfl, by rw [HB2.out]; exact HF.out, HL.out, by omega, HI.out⟩
end Go.Proofs.Ytpdhfogmdhnoeaa.IX
