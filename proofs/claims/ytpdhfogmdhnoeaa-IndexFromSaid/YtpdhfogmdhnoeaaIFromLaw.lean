/-
  WALK: the law IndexFrom (made by wip/gen_ifromlaw.py).
-/
import Derived.Test.YtpdhfogmdhnoeaaIGone
namespace Go.Proofs.Ytpdhfogmdhnoeaa.IX
open Go.RowKit HL
set_option maxRecDepth 100000
set_option linter.unusedVariables false
set_option linter.unusedSimpArgs false
attribute [local go_sem] Oper.semAt_some

theorem plc_empty (l : List Rw) : plc l [] = 0 := plc_none (fun r _ q => List.not_lt_nil _ q)
theorem boxed_below {W W1 : World} {B : Nat} {t : TypeId} {v : Value} (h : Boxed W B t v) (k : Below W.heap.size W W1) : Boxed W1 B t v := (k.block B h.lt).trans h
/-- A range over an iterator whose values nobody wants: the round's frame is found by itself. -/
theorem rangeFunc_skip {F : Fence} {n : Nat} {P : Program} {α : Type} {g : Operand} {ps : Array Tmp} {body : Code} {Q : Exit → Act → World → Prop} {a : Act} {w : World}
    (hro : F.round = none) (h1 : 1 ≤ n) {gf : Nat} {lb : Array Value} (hg : a.eval g = .func (.func gf) #[] lb) (hFg : F.fn gf) (eg : ∀ args w, (callFunc gf args).run P w = .ok (.enter gf args) w) (hd : a.defers = [])
    {encs : α → Array Value} {Kp : World → World → Prop} {S Sp : List α → Prop} {N : Nat} {w0 : World} (hseq : SeqStopsK F (n - 1) P gf lb encs Kp S Sp N w0)
    (hKt : ∀ {A B C : World}, Kp A B → Kp B C → Kp A C) (hKb : ∀ (W : World) (l : Nat) (o o' : Obj), w.heap.size ≤ l → W.heap[l]? = some o → o.isCells = false → o.isWalk = false → Kp W (W.putObj l o')) (hb0 : Below w0.heap.size w0 w) (hps : ∀ x, (encs x).size = ps.size)
    (I : List α → World → Prop) (Ix : Code → List α → World → Prop) (hI : OwnFrom w.heap.size I) (hIx : ∀ c, OwnFrom w.heap.size (Ix c)) (h0 : I [] w)
    (hbody : ∀ (l : Nat) (pre : List α) (x : α) (W : World), I pre W → pre.length < N → body.wpIn (F.inRound l) (n - 1 - 1) P (ownPostG w.heap.size Kp I Ix (pre ++ [x]) W) { tmps := (ps.zip (encs x)).foldl (fun t (p, v) => t.setIfInBounds p v) a.tmps, defers := [] } W)
    (hdone : ∀ (D : Nat) (xs : List α) (W : World), w.heap.size ≤ D → S xs → I xs W → W.heap[D]? = some (.deferred (some [])) → Q .normal { a with defers := { target := .collected D, args := #[] } :: a.defers } W)
    (hstop : ∀ (D : Nat) (c : Code) (pre : List α) (W : World), w.heap.size ≤ D → Sp pre → Ix c pre W → W.heap[D]? = some (.deferred (some [])) → c.wpIn F n P Q { a with defers := { target := .collected D, args := #[] } :: a.defers } W) :
    (Code.rangeFunc g ps .skip body).wpIn F n P Q a w :=
  wpIn_rangeFunc_ownG hro h1 hg hFg eg hseq (fun h k => hKt h k) hKb hb0 hps I Ix hI hIx h0 (fun x => { tmps := (ps.zip (encs x)).foldl (fun t (p, v) => t.setIfInBounds p v) a.tmps, defers := [] }) (fun l x W K hK => wpIn_skip (by exact hK)) hbody hdone hstop
/-- Between two rounds: so many were gone over. -/
def CntI (w10 : World) (Bs_ : Nat) (some_ : Int) (pre : List Rw) (W : World) : Prop := Boxed W w10.heap.size 3 (.int .i64 pre.length) ∧ Boxed W Bs_ 3 (.int .i64 some_) ∧ Below w10.heap.size w10 W ∧ (pre.length = 0 ∨ (pre.length : Int) ≤ some_)
/-- Stopped. -/
def CntX (w10 : World) (Bs_ : Nat) (some_ : Int) (c : Code) (pre : List Rw) (W : World) : Prop := c = .exit 0 ∧ ∃ q : Nat, pre.length = q + 1 ∧ Boxed W w10.heap.size 3 (.int .i64 q) ∧ Boxed W Bs_ 3 (.int .i64 some_) ∧ Below w10.heap.size w10 W ∧ some_ ≤ q ∧ (q = 0 ∨ (q : Int) ≤ some_)
theorem cntI_own {w10 : World} {Bs_ B : Nat} {some_ : Int} (hB : w10.heap.size ≤ B) : OwnFrom B (CntI w10 Bs_ some_) := fun s W W' row ⟨h1, h2, h3, h4⟩ hg hr =>
  have hr' : ∀ k, row = some k → ∃ o : Obj, W.heap[k]? = some o ∧ o.isCells = false := fun k e => (hr k e).2
  ⟨h1.kept hg (boxed_far h1 hr'), h2.kept hg (boxed_far h2 hr'), ownFrom_below (β := List Rw) (Nat.le_refl _) hB s W W' row h3 hg hr, h4⟩
theorem cntX_own {w10 : World} {Bs_ B : Nat} {some_ : Int} (hB : w10.heap.size ≤ B) (c : Code) : OwnFrom B (CntX w10 Bs_ some_ c) := fun s W W' row ⟨hc, q, h0, h1, h2, h3, h4⟩ hg hr =>
  have hr' : ∀ k, row = some k → ∃ o : Obj, W.heap[k]? = some o ∧ o.isCells = false := fun k e => (hr k e).2
  ⟨hc, q, h0, h1.kept hg (boxed_far h1 hr'), h2.kept hg (boxed_far h2 hr'), ownFrom_below (β := List Rw) (Nat.le_refl _) hB s W W' row h3 hg hr, h4⟩
theorem cnt_step {w10 W : World} {Bs_ : Nat} {x some_ : Int} (h1 : Boxed W w10.heap.size 3 (.int .i64 x)) (h2 : Boxed W Bs_ 3 (.int .i64 some_)) (h3 : Below w10.heap.size w10 W) (hne : Bs_ ≠ w10.heap.size) (y : Int) :
    KeepsOthers W (W.setCell ⟨w10.heap.size, 0, none⟩ (.int .i64 y)) ∧ Boxed (W.setCell ⟨w10.heap.size, 0, none⟩ (.int .i64 y)) w10.heap.size 3 (.int .i64 y) ∧ Boxed (W.setCell ⟨w10.heap.size, 0, none⟩ (.int .i64 y)) Bs_ 3 (.int .i64 some_) ∧ Below w10.heap.size w10 (W.setCell ⟨w10.heap.size, 0, none⟩ (.int .i64 y)) :=
  ⟨keepsOthers_of (P := fun k => k ≠ w10.heap.size) ((Kept.refl W _).set (fun _ p => p rfl) _) (fun k o hk ho e => by subst e; rw [show W.heap[w10.heap.size]? = _ from h1] at hk; cases hk; cases ho),
    h1.set _, h2.other hne _, h3.setCell (p := ⟨w10.heap.size, 0, none⟩) (Nat.le_refl _) _⟩
set_option maxHeartbeats 8000000 in
theorem fromLaw_in {A : Option Addr} (l : List Act1) (c : Nat) (h : Bs) (some_ : Int) (w : World) (hr : RdA w w.heap.size A l) (hm : l.length ≤ maxLen) (hx : ∀ x ∈ l, x.h.length ≤ maxLen) (hh : h.length ≤ maxLen) :
    CallsIn Fence.wide 9 Try.prog 8 #[.slice A l.length c, str h, .int .i64 some_] w fun e w' => e = .returned (.bool true) ∧ Below w.heap.size w w' := by
  have hh2 := hh
  unfold maxLen at hh2
  have hF : Fence.wide.fn 8 := trivial
  have hF3 : Fence.wide.fn 51 := trivial
  have hG0 : Fence.wide.fn 26 := trivial
  have hG1 : Fence.wide.fn 9 := trivial
  have hG2 : Fence.wide.fn 27 := trivial
  have hG3 : Fence.wide.fn 19 := trivial
  have hG4 : Fence.wide.fn 24 := trivial
  have hG5 : Fence.wide.fn 29 := trivial
  have hG6 : Fence.wide.fn 25 := trivial
  have hG7 : Fence.wide.fn 30 := trivial
  have hG8 : Fence.wide.fn 20 := trivial
  have HNil := run_seq_nil
  have CA := Lib.hid (fun W => awake_any W)
  have CL := Lib.hid (fun W (q : Below w.heap.size w W) => long_any A c l W ((hr.below q).more q.size) hm hx)
  have kb : Below w.heap.size w (w.alloc (.cells #[.int .i64 some_] 3)) := (Below.refl _ _).alloc (Nat.le_refl _) _
  have bS := Boxed.new w 3 (.int .i64 some_)
  have hzs : (w.alloc (.cells #[.int .i64 some_] 3)).heap.size = w.heap.size + 1 := by simp
  cases hl : longB l with
  | true =>
    rw [hl] at CL
    clear hl
    refine callsIn_of_wp_marks Try.func8 rfl hF ?_ rfl
    simp only [Try.ntmps8, List.size_toArray, List.length_cons, List.length_nil, Nat.reduceAdd, Nat.reduceSub, Array.replicate_succ, Array.replicate_zero, List.push_toArray, List.append_toArray, List.nil_append, List.cons_append]
    gi_wp2_with (first
      | (gi_at_call 26; refine (callsIn_wide.2 (CA.out _)).mono ?_; rintro e w1 ⟨rfl, k1⟩; replace kb := bThen kb k1)
      | (gi_at_call 9; refine (callsIn_wide.2 (CL.out _ kb)).mono ?_; rintro e w2 ⟨rfl, rfl⟩))
    exact ⟨_, results_tmp rfl _ _ _, rfl, kb⟩
  | false =>
    obtain ⟨l1, l2⟩ := longB_f hl
    rw [hl] at CL
    clear hl
    by_cases hl : 100 < h.length
    · have i1 : (100 : Int) < h.length := by omega
      refine callsIn_of_wp_marks Try.func8 rfl hF ?_ rfl
      simp only [Try.ntmps8, List.size_toArray, List.length_cons, List.length_nil, Nat.reduceAdd, Nat.reduceSub, Array.replicate_succ, Array.replicate_zero, List.push_toArray, List.append_toArray, List.nil_append, List.cons_append]
      gi_wp2_with (first
        | (gi_at_call 26; refine (callsIn_wide.2 (CA.out _)).mono ?_; rintro e w1 ⟨rfl, k1⟩; replace kb := bThen kb k1)
        | (gi_at_call 9; refine (callsIn_wide.2 (CL.out _ kb)).mono ?_; rintro e w2 ⟨rfl, rfl⟩))
      exact ⟨_, results_tmp rfl _ _ _, rfl, kb⟩
    have i1 : ¬ (100 : Int) < h.length := by omega
    have CF := Lib.hid (fun W (q : Below w.heap.size w W) => filled_any l c W ((hr.below q).more q.size) l1 l2)
    clear hr hx l2 hl
    refine callsIn_of_wp_marks Try.func8 rfl hF ?_ rfl
    simp only [Try.ntmps8, List.size_toArray, List.length_cons, List.length_nil, Nat.reduceAdd, Nat.reduceSub, Array.replicate_succ, Array.replicate_zero, List.push_toArray, List.append_toArray, List.nil_append, List.cons_append]
    gi_wp2_with (first
      | (gi_at_call 26; refine (callsIn_wide.2 (CA.out _)).mono ?_; rintro e w1 ⟨rfl, k1⟩; have K1 := Lib.hid (bThen kb k1); have BS := Lib.hid (boxed_below bS k1); have hz1 := k1.size; clear kb bS k1)
      | (gi_at_call 9; refine (callsIn_wide.2 (CL.out _ K1.out)).mono ?_; rintro e w2 ⟨rfl, rfl⟩)
      | (gi_at_call 27; refine (callsIn_wide.2 (CF.out _ K1.out)).mono ?_; rintro e w3 ⟨v, l', inn, A', c', rfl, f3, hL, hn, hi⟩; have F3 := Lib.hid f3; have HL := Lib.hid hL; have HN : Hid (inn.length = l'.length) := Lib.hid hL.len; clear f3 hL hi; rw [HN.out] at F3 ⊢; generalize hBe : w1.heap.size = B at F3 ⊢; have HBe := Lib.hid hBe; clear hBe)
      | (gi_at_call 19; refine (callsIn_wide.2 (F3.out.was (by omega))).mono ?_; rintro e w5 ⟨A5, c5, rfl, f5⟩; have F5 := Lib.hid f5; clear f5 F3))
    obtain ⟨p, hp⟩ : ∃ p, plc l' h = p := ⟨_, rfl⟩
    have hpl : p ≤ l'.length := hp ▸ plc_le l' h
    obtain ⟨m, hm2⟩ : ∃ m, l'.length - p = m := ⟨_, rfl⟩
    have hdm : (l'.drop p).length = m := by rw [List.length_drop, hm2]
    have CF1 := Lib.hid (fun W (q : FG w1 W B v l' (.slice A' l'.length c') inn (.slice A5 l'.length c5) l') => from_form B v l' [] W q.f.a (by omega) (d := l') (by rw [plc_empty]; rfl) (m := l'.length) rfl)
    have CF2 := Lib.hid (fun W (q : FG w1 W B v l' (.slice A' l'.length c') inn (.slice A5 l'.length c5) l') => from_form B v l' h W q.f.a (by omega) (by rw [hp]) hdm)
    have CPl := Lib.hid (fun W (q : FG w1 W B v l' (.slice A' l'.length c') inn (.slice A5 l'.length c5) l') => place_any B v l' h W q.f.a (by omega))
    have CFr := Lib.hid (fun W (q : FG w1 W B v l' (.slice A' l'.length c') inn (.slice A5 l'.length c5) l') => from_any B v l' h W q.f.a (by omega))
    rw [hp] at CPl CFr
    obtain ⟨A6, c6, s6, r6, _⟩ := slice_fromK strK (c := c5) F5.out.o.rd (keys_len l') (p := p) hpl (by
      obtain ⟨_, _, e, _, q, _⟩ := F5.out.o.form
      rw [keys_len] at e q
      simp only [Value.slice.injEq, true_and] at e
      omega)
    rw [hm2] at s6
    have s6' : ∀ W, (Instr.slice 27 (.slice A5 l'.length c5) (some (.int .i64 (p : Int))) none none).run Try.prog W = .ok (.slice A6 m c6) W := s6
    have hkd : (keys l').drop p = keys (l'.drop p) := by simp [keys]
    rw [hkd] at r6
    have R6 := Lib.hid (fun W (q : Below w5.heap.size w5 W) => r6 W (F5.out.o.rd.below q))
    have HKD : Hid ((keys (l'.drop p)).length = m) := Lib.hid (by rw [keys_len, hdm])
    have HDM := Lib.hid hdm
    have kb5 := Below.refl w5.heap.size w5
    have HU := HL.out.up
    -- before the text, and from it on
    have Z1 : Hid (∀ p1, p = p1 + 1 → ∃ r : Rw, l'[p1]? = some r ∧ Lib.compareBytes r.1 h < 0) := Lib.hid (fun p1 e => by
      have hlt : p1 < l'.length := by omega
      exact ⟨l'[p1], List.getElem?_eq_getElem hlt, cmp_neg.2 ((plc_iff HU h p1 hlt).2 (by omega))⟩)
    have Z2 : Hid (∀ m1, m = m1 + 1 → ∃ r : Rw, (l'.drop p)[0]? = some r ∧ ¬ Lib.compareBytes r.1 h < 0) := Lib.hid (fun m1 e => by
      have hlt : p < l'.length := by omega
      refine ⟨l'[p], by rw [List.getElem?_drop, Nat.add_zero]; exact List.getElem?_eq_getElem hlt, fun q => ?_⟩
      have := (plc_iff HU h p hlt).1 (cmp_neg.1 q)
      omega)
    have R5 := Lib.hid (fun W (q : Below w5.heap.size w5 W) => (F5.out.o.rd.below q).strs)
    clear s6 r6 hkd hdm HU hp
    generalize hd : l'.drop p = d at *
    clear hd
    by_cases ha : m = 0
    · by_cases hb : p = 0
      · have j2 : ¬ (0 : Int) < (m : Int) := by omega
        have j1 : ¬ (0 : Int) < (p : Int) := by omega
        clear Z1 Z2 ha hb
        gi_wp2_with (first
          | (gi_at_call 24; with_reducible refine (callsIn_wide.2 (CF1.out _ F5.out)).mono ?_; rintro e w6 ⟨F1, d1, F2, d2, rfl, o1, _, k⟩; have F6 := Lib.hid (F5.out.then k); have O1 := Lib.hid o1; have K5 := Lib.hid (bThen kb5 k); clear o1 k F5 kb5)
          | (gi_at_call 24; with_reducible refine (callsIn_wide.2 (CF2.out _ F6.out)).mono ?_; rintro e w7 ⟨G1, g1, G2, g2, rfl, o2, _, k⟩; have F7 := Lib.hid (F6.out.then k); have O1b := Lib.hid (O1.out.below k); have O2 := Lib.hid o2; have K7 := Lib.hid (bThen K5.out k); clear o2 k F6 O1 K5)
          | (gi_at_call 29; with_reducible refine (callsIn_wide.2 (same_yes F1 A5 d1 c5 l'.length (keys l') _ O1b.out.rd F7.out.o.rd (keys_len l') (by omega))).mono ?_; rintro e w8 ⟨rfl, k⟩; have F8 := Lib.hid (F7.out.then k); have O2b := Lib.hid (O2.out.below k); have K8 := Lib.hid (bThen K7.out k); have K7a := Lib.hid k; clear k F7 O1b O2)
          | (gi_at_call 25; refine (callsIn_wide.2 (CPl.out _ F8.out)).mono ?_; rintro e w9 ⟨rfl, k⟩; have F9 := Lib.hid (F8.out.then k); have O2c := Lib.hid (O2b.out.below k); have K9 := Lib.hid (bThen K8.out k); have K7c := Lib.hid (bThen K7a.out k); clear k F8 O2b K7 K8)
          | (gi_at_call 29; with_reducible refine (callsIn_wide.2 (same_yes G1 A6 g1 c6 m (keys d) _ O2c.out.rd ((R6.out _ K9.out).more K9.out.size) HKD.out (by omega))).mono ?_; rintro e w10 ⟨rfl, k⟩; have F10 := Lib.hid (F9.out.then k); have K5b := Lib.hid (bThen K9.out k); have K7b := Lib.hid (bThen K7c.out k); clear k F9 O2c)
          | (gi_at_call 20; refine (callsIn_wide.2 (CFr.out _ (F10.out.then ((Below.refl _ _).alloc (Nat.le_refl _) _)))).mono ?_; rintro e w12 ⟨Bb, A3, c3, rfl, it, k⟩; have IT := Lib.hid it; have K12 := Lib.hid k; clear it k))
        have hsz : (w10.alloc (.cells #[.int .i64 0] 3)).heap.size = w10.heap.size + 1 := by simp
        have kall : Below w10.heap.size w10 w12 := bThen (bAl (Below.refl _ _) _) K12.out
        have BSb : Boxed w12 w.heap.size 3 (.int .i64 some_) := boxed_below (boxed_below BS.out (F10.out.f.bel)) kall
        have BN : Boxed w12 w10.heap.size 3 (.int .i64 0) := boxed_below (Boxed.new w10 3 (.int .i64 0)) K12.out
        have hz10 := F10.out.f.bel.size
        have hz12 := kall.size
        have hwb : w.heap.size < w1.heap.size := by omega
        have hA3 : ∀ a, A3 = some a → w10.heap.size + 1 ≤ a.block ∧ a.block < w12.heap.size := fun a e => by
          have := IT.out.own.lt a.block (by rw [e]; rfl)
          rw [hsz] at this
          exact this
        have HALL : Hid (∀ W, Below w10.heap.size w10 W → Below w.heap.size w W) := Lib.hid (fun W q => bThen (bThen K1.out F10.out.f.bel) q)
        have hseq := each_stops Fence.wide (9 - 1) hF3 rfl (by omega) Bb A3 c3 d w12 IT.out.box.cell IT.out.box.lt IT.out.own.rd (by rw [HDM.out]; omega)
        have HKALL := Lib.hid kall
        have hsome : w.heap.size < w10.heap.size := by omega
        have hm200 : m ≤ 200 := by omega
        clear CA CL CF CF1 CF2 CPl CFr R6 R5 F10 IT K12 kall HL HN s6'
        refine rangeFunc_skip rfl (by omega) (gf := 51) (lb := #[.pointer (some ⟨Bb, 0, none⟩)]) rfl hF3 (enters_of Try.func51 (by kernel_rfl) rfl) rfl
          hseq (fun h k => h.t k) (keepA_b (w := w12) (fun a e => (hA3 a e).2)) (Below.refl _ _) (fun _ => rfl)
          (CntI w10 w.heap.size some_) (CntX w10 w.heap.size some_) (cntI_own hz12) (fun c => cntX_own hz12 c) ⟨BN, BSb, HKALL.out, .inl rfl⟩ ?body ?done ?stop
        case body =>
          rintro l'' pre x W ⟨hN, hS, hB, hcnt⟩ hlt
          have c1 := hN.cell
          have c2 := hS.cell
          have f1 := hN.frozen
          have HNb := Lib.hid hN
          have HSb := Lib.hid hS
          have HBb := Lib.hid hB
          have hpl2 : pre.length ≤ 200 := by have := HDM.out; omega
          have hwr : IntKind.i64.wrap ((pre.length : Int) + 1) = (pre.length : Int) + 1 := IntWalk.i64_in _ (by omega)
          clear hseq BSb BN hN hS hB HNil
          by_cases hge : some_ ≤ (pre.length : Int)
          · gi_wp2
            exact ⟨KeepsFrom.refl _ _, rfl, pre.length, by simp, HNb.out, HSb.out, HBb.out, hge, hcnt⟩
          · have hge2 : ¬ (pre.length : Int) ≥ some_ := hge
            gi_wp2
            have hb2 := cnt_step HNb.out HSb.out HBb.out (by omega) (pre.length + 1)
            exact ⟨hb2.1.from _, fun a e => Below.heap_setCell _ _ _ _ (by have := (hA3 a e).1; simp; omega), by simpa using hb2.2.1, hb2.2.2.1, hb2.2.2.2, .inr (by simp; omega)⟩
        case done =>
          rintro D ys W hD rfl ⟨hN, hS, hB, hcnt⟩ hK
          have c1 := hN.cell
          have c2 := hS.cell
          have hlen := HDM.out
          have HB := Lib.hid hB
          clear hseq BSb BN hN hS hB HNil
          gi_wp2
          refine ⟨by simp, .inl ⟨_, _, rfl, run_takeDeferred hK, ?_⟩⟩
          refine ⟨_, results_tmp rfl _ _ _, ?_, (HALL.out _ HB.out).trans (belowK_b (w := w) (Nat.le_refl _) W D _ _ (by omega) hK rfl rfl)⟩
          have hv : ((m : Int) == max 0 (min some_ (m : Int))) = true := by rw [beq_iff_eq]; omega
          show Ending.returned (Value.bool ((m : Int) == max 0 (min some_ (m : Int)))) = _
          rw [hv]
        case stop =>
          rintro D c pre W hD hpre ⟨rfl, q, hq, hN, hS, hB, h1, h2⟩ hK
          have c1 := hN.cell
          have c2 := hS.cell
          have hlen := HDM.out
          have hle := hpre.length_le
          have HB := Lib.hid hB
          clear hseq BSb BN hN hS hB HNil
          gi_wp2
          refine ⟨by simp, .inl ⟨_, _, rfl, run_takeDeferred hK, ?_⟩⟩
          refine ⟨_, results_tmp rfl _ _ _, ?_, (HALL.out _ HB.out).trans (belowK_b (w := w) (Nat.le_refl _) W D _ _ (by omega) hK rfl rfl)⟩
          have hv : ((q : Int) == max 0 (min some_ (m : Int))) = true := by rw [beq_iff_eq]; omega
          show Ending.returned (Value.bool ((q : Int) == max 0 (min some_ (m : Int)))) = _
          rw [hv]
      · have j2 : ¬ (0 : Int) < (m : Int) := by omega
        obtain ⟨p1, hp1⟩ : ∃ p1, p = p1 + 1 := ⟨p - 1, by omega⟩
        obtain ⟨r1, hr1, hz1b⟩ := Z1.out p1 hp1
        have j1 : (0 : Int) < (p : Int) := by omega
        have j3 : IntKind.i64.wrap ((p : Int) - 1) = (p1 : Int) := by rw [hp1]; exact (IntWalk.i64_in _ (by omega)).trans (by omega)
        have j4 : (p1 : Int) < (l'.length : Int) := by omega
        have C1 : Hid (∀ W, Calls Try.prog 30 #[str r1.1, str h] W fun e w' => e = .returned (.int .i64 (Lib.compareBytes r1.1 h)) ∧ W = w') := Lib.hid (fun W => compare_any ⟨r1.1.toArray⟩ ⟨h.toArray⟩ W)
        obtain ⟨ba, oa, rfl, hba, hca⟩ := (R5.out _ (Below.refl _ _)).at_ (by rw [keys_len]; omega)
        have H1 := Lib.hid (fun W (q : Below w5.heap.size w5 W) => (q.cell (p := ⟨ba, oa + p1, none⟩) hba).trans (hca p1 r1.1 (by simp [keys, hr1])))
        clear hca
        clear Z1 Z2 ha hb
        clear hp1
        generalize Lib.compareBytes r1.1 h = z1 at *
        gi_wp2_with (first
          | (gi_at_call 24; with_reducible refine (callsIn_wide.2 (CF1.out _ F5.out)).mono ?_; rintro e w6 ⟨F1, d1, F2, d2, rfl, o1, _, k⟩; have F6 := Lib.hid (F5.out.then k); have O1 := Lib.hid o1; have K5 := Lib.hid (bThen kb5 k); clear o1 k F5 kb5)
          | (gi_at_call 24; with_reducible refine (callsIn_wide.2 (CF2.out _ F6.out)).mono ?_; rintro e w7 ⟨G1, g1, G2, g2, rfl, o2, _, k⟩; have F7 := Lib.hid (F6.out.then k); have O1b := Lib.hid (O1.out.below k); have O2 := Lib.hid o2; have K7 := Lib.hid (bThen K5.out k); clear o2 k F6 O1 K5)
          | (gi_at_call 29; with_reducible refine (callsIn_wide.2 (same_yes F1 (some ⟨ba, oa, none⟩) d1 c5 l'.length (keys l') _ O1b.out.rd F7.out.o.rd (keys_len l') (by omega))).mono ?_; rintro e w8 ⟨rfl, k⟩; have F8 := Lib.hid (F7.out.then k); have O2b := Lib.hid (O2.out.below k); have K8 := Lib.hid (bThen K7.out k); have K7a := Lib.hid k; clear k F7 O1b O2)
          | (gi_at_call 25; refine (callsIn_wide.2 (CPl.out _ F8.out)).mono ?_; rintro e w9 ⟨rfl, k⟩; have F9 := Lib.hid (F8.out.then k); have O2c := Lib.hid (O2b.out.below k); have K9 := Lib.hid (bThen K8.out k); have K7c := Lib.hid (bThen K7a.out k); clear k F8 O2b K7 K8)
          | (gi_at_call 29; with_reducible refine (callsIn_wide.2 (same_yes G1 A6 g1 c6 m (keys d) _ O2c.out.rd ((R6.out _ K9.out).more K9.out.size) HKD.out (by omega))).mono ?_; rintro e w10 ⟨rfl, k⟩; have F10 := Lib.hid (F9.out.then k); have K5b := Lib.hid (bThen K9.out k); have K7b := Lib.hid (bThen K7c.out k); clear k F9 O2c; have x1 := H1.out _ K5b.out)
          | (gi_at_call 30; with_reducible refine (callsIn_wide.2 (C1.out _)).mono ?_; rintro e w11 ⟨rfl, rfl⟩)
          | (gi_at_call 20; refine (callsIn_wide.2 (CFr.out _ (F10.out.then ((Below.refl _ _).alloc (Nat.le_refl _) _)))).mono ?_; rintro e w12 ⟨Bb, A3, c3, rfl, it, k⟩; have IT := Lib.hid it; have K12 := Lib.hid k; clear it k))
        have hsz : (w10.alloc (.cells #[.int .i64 0] 3)).heap.size = w10.heap.size + 1 := by simp
        have kall : Below w10.heap.size w10 w12 := bThen (bAl (Below.refl _ _) _) K12.out
        have BSb : Boxed w12 w.heap.size 3 (.int .i64 some_) := boxed_below (boxed_below BS.out (F10.out.f.bel)) kall
        have BN : Boxed w12 w10.heap.size 3 (.int .i64 0) := boxed_below (Boxed.new w10 3 (.int .i64 0)) K12.out
        have hz10 := F10.out.f.bel.size
        have hz12 := kall.size
        have hwb : w.heap.size < w1.heap.size := by omega
        have hA3 : ∀ a, A3 = some a → w10.heap.size + 1 ≤ a.block ∧ a.block < w12.heap.size := fun a e => by
          have := IT.out.own.lt a.block (by rw [e]; rfl)
          rw [hsz] at this
          exact this
        have HALL : Hid (∀ W, Below w10.heap.size w10 W → Below w.heap.size w W) := Lib.hid (fun W q => bThen (bThen K1.out F10.out.f.bel) q)
        have hseq := each_stops Fence.wide (9 - 1) hF3 rfl (by omega) Bb A3 c3 d w12 IT.out.box.cell IT.out.box.lt IT.out.own.rd (by rw [HDM.out]; omega)
        have HKALL := Lib.hid kall
        have hsome : w.heap.size < w10.heap.size := by omega
        have hm200 : m ≤ 200 := by omega
        clear CA CL CF CF1 CF2 CPl CFr R6 R5 F10 IT K12 kall HL HN s6'
        refine rangeFunc_skip rfl (by omega) (gf := 51) (lb := #[.pointer (some ⟨Bb, 0, none⟩)]) rfl hF3 (enters_of Try.func51 (by kernel_rfl) rfl) rfl
          hseq (fun h k => h.t k) (keepA_b (w := w12) (fun a e => (hA3 a e).2)) (Below.refl _ _) (fun _ => rfl)
          (CntI w10 w.heap.size some_) (CntX w10 w.heap.size some_) (cntI_own hz12) (fun c => cntX_own hz12 c) ⟨BN, BSb, HKALL.out, .inl rfl⟩ ?body ?done ?stop
        case body =>
          rintro l'' pre x W ⟨hN, hS, hB, hcnt⟩ hlt
          have c1 := hN.cell
          have c2 := hS.cell
          have f1 := hN.frozen
          have HNb := Lib.hid hN
          have HSb := Lib.hid hS
          have HBb := Lib.hid hB
          have hpl2 : pre.length ≤ 200 := by have := HDM.out; omega
          have hwr : IntKind.i64.wrap ((pre.length : Int) + 1) = (pre.length : Int) + 1 := IntWalk.i64_in _ (by omega)
          clear hseq BSb BN hN hS hB HNil
          by_cases hge : some_ ≤ (pre.length : Int)
          · gi_wp2
            exact ⟨KeepsFrom.refl _ _, rfl, pre.length, by simp, HNb.out, HSb.out, HBb.out, hge, hcnt⟩
          · have hge2 : ¬ (pre.length : Int) ≥ some_ := hge
            gi_wp2
            have hb2 := cnt_step HNb.out HSb.out HBb.out (by omega) (pre.length + 1)
            exact ⟨hb2.1.from _, fun a e => Below.heap_setCell _ _ _ _ (by have := (hA3 a e).1; simp; omega), by simpa using hb2.2.1, hb2.2.2.1, hb2.2.2.2, .inr (by simp; omega)⟩
        case done =>
          rintro D ys W hD rfl ⟨hN, hS, hB, hcnt⟩ hK
          have c1 := hN.cell
          have c2 := hS.cell
          have hlen := HDM.out
          have HB := Lib.hid hB
          clear hseq BSb BN hN hS hB HNil
          gi_wp2
          refine ⟨by simp, .inl ⟨_, _, rfl, run_takeDeferred hK, ?_⟩⟩
          refine ⟨_, results_tmp rfl _ _ _, ?_, (HALL.out _ HB.out).trans (belowK_b (w := w) (Nat.le_refl _) W D _ _ (by omega) hK rfl rfl)⟩
          have hv : ((m : Int) == max 0 (min some_ (m : Int))) = true := by rw [beq_iff_eq]; omega
          show Ending.returned (Value.bool ((m : Int) == max 0 (min some_ (m : Int)))) = _
          rw [hv]
        case stop =>
          rintro D c pre W hD hpre ⟨rfl, q, hq, hN, hS, hB, h1, h2⟩ hK
          have c1 := hN.cell
          have c2 := hS.cell
          have hlen := HDM.out
          have hle := hpre.length_le
          have HB := Lib.hid hB
          clear hseq BSb BN hN hS hB HNil
          gi_wp2
          refine ⟨by simp, .inl ⟨_, _, rfl, run_takeDeferred hK, ?_⟩⟩
          refine ⟨_, results_tmp rfl _ _ _, ?_, (HALL.out _ HB.out).trans (belowK_b (w := w) (Nat.le_refl _) W D _ _ (by omega) hK rfl rfl)⟩
          have hv : ((q : Int) == max 0 (min some_ (m : Int))) = true := by rw [beq_iff_eq]; omega
          show Ending.returned (Value.bool ((q : Int) == max 0 (min some_ (m : Int)))) = _
          rw [hv]
    · by_cases hb : p = 0
      · obtain ⟨m1, hm1⟩ : ∃ m1, m = m1 + 1 := ⟨m - 1, by omega⟩
        obtain ⟨r2, hr2, hz2⟩ := Z2.out m1 hm1
        have j2 : (0 : Int) < (m : Int) := by omega
        have C2 : Hid (∀ W, Calls Try.prog 30 #[str r2.1, str h] W fun e w' => e = .returned (.int .i64 (Lib.compareBytes r2.1 h)) ∧ W = w') := Lib.hid (fun W => compare_any ⟨r2.1.toArray⟩ ⟨h.toArray⟩ W)
        have j1 : ¬ (0 : Int) < (p : Int) := by omega
        clear Z1 Z2 ha hb
        clear hm1
        generalize Lib.compareBytes r2.1 h = z2 at *
        gi_wp2_with (first
          | (gi_at_call 24; with_reducible refine (callsIn_wide.2 (CF1.out _ F5.out)).mono ?_; rintro e w6 ⟨F1, d1, F2, d2, rfl, o1, _, k⟩; have F6 := Lib.hid (F5.out.then k); have O1 := Lib.hid o1; have K5 := Lib.hid (bThen kb5 k); clear o1 k F5 kb5)
          | (gi_at_call 24; with_reducible refine (callsIn_wide.2 (CF2.out _ F6.out)).mono ?_; rintro e w7 ⟨G1, g1, G2, g2, rfl, o2, _, k⟩; have F7 := Lib.hid (F6.out.then k); have O1b := Lib.hid (O1.out.below k); have O2 := Lib.hid o2; have K7 := Lib.hid (bThen K5.out k); clear o2 k F6 O1 K5; obtain ⟨bb, ob, rfl, hbb, hcb⟩ := O2.out.rd.strs.at_ (by rw [HKD.out]; omega); have H2 := Lib.hid (fun W (q : Below w7.heap.size w7 W) => (q.cell (p := ⟨bb, ob, none⟩) hbb).trans (hcb 0 r2.1 (by simp [keys, hr2]))); clear hcb)
          | (gi_at_call 29; with_reducible refine (callsIn_wide.2 (same_yes F1 A5 d1 c5 l'.length (keys l') _ O1b.out.rd F7.out.o.rd (keys_len l') (by omega))).mono ?_; rintro e w8 ⟨rfl, k⟩; have F8 := Lib.hid (F7.out.then k); have O2b := Lib.hid (O2.out.below k); have K8 := Lib.hid (bThen K7.out k); have K7a := Lib.hid k; clear k F7 O1b O2)
          | (gi_at_call 25; refine (callsIn_wide.2 (CPl.out _ F8.out)).mono ?_; rintro e w9 ⟨rfl, k⟩; have F9 := Lib.hid (F8.out.then k); have O2c := Lib.hid (O2b.out.below k); have K9 := Lib.hid (bThen K8.out k); have K7c := Lib.hid (bThen K7a.out k); clear k F8 O2b K7 K8)
          | (gi_at_call 29; with_reducible refine (callsIn_wide.2 (same_yes (some ⟨bb, ob, none⟩) A6 g1 c6 m (keys d) _ O2c.out.rd ((R6.out _ K9.out).more K9.out.size) HKD.out (by omega))).mono ?_; rintro e w10 ⟨rfl, k⟩; have F10 := Lib.hid (F9.out.then k); have K5b := Lib.hid (bThen K9.out k); have K7b := Lib.hid (bThen K7c.out k); clear k F9 O2c; have x2 := H2.out _ K7b.out)
          | (gi_at_call 30; with_reducible refine (callsIn_wide.2 (C2.out _)).mono ?_; rintro e w11 ⟨rfl, rfl⟩)
          | (gi_at_call 20; refine (callsIn_wide.2 (CFr.out _ (F10.out.then ((Below.refl _ _).alloc (Nat.le_refl _) _)))).mono ?_; rintro e w12 ⟨Bb, A3, c3, rfl, it, k⟩; have IT := Lib.hid it; have K12 := Lib.hid k; clear it k))
        have hsz : (w10.alloc (.cells #[.int .i64 0] 3)).heap.size = w10.heap.size + 1 := by simp
        have kall : Below w10.heap.size w10 w12 := bThen (bAl (Below.refl _ _) _) K12.out
        have BSb : Boxed w12 w.heap.size 3 (.int .i64 some_) := boxed_below (boxed_below BS.out (F10.out.f.bel)) kall
        have BN : Boxed w12 w10.heap.size 3 (.int .i64 0) := boxed_below (Boxed.new w10 3 (.int .i64 0)) K12.out
        have hz10 := F10.out.f.bel.size
        have hz12 := kall.size
        have hwb : w.heap.size < w1.heap.size := by omega
        have hA3 : ∀ a, A3 = some a → w10.heap.size + 1 ≤ a.block ∧ a.block < w12.heap.size := fun a e => by
          have := IT.out.own.lt a.block (by rw [e]; rfl)
          rw [hsz] at this
          exact this
        have HALL : Hid (∀ W, Below w10.heap.size w10 W → Below w.heap.size w W) := Lib.hid (fun W q => bThen (bThen K1.out F10.out.f.bel) q)
        have hseq := each_stops Fence.wide (9 - 1) hF3 rfl (by omega) Bb A3 c3 d w12 IT.out.box.cell IT.out.box.lt IT.out.own.rd (by rw [HDM.out]; omega)
        have HKALL := Lib.hid kall
        have hsome : w.heap.size < w10.heap.size := by omega
        have hm200 : m ≤ 200 := by omega
        clear CA CL CF CF1 CF2 CPl CFr R6 R5 F10 IT K12 kall HL HN s6'
        refine rangeFunc_skip rfl (by omega) (gf := 51) (lb := #[.pointer (some ⟨Bb, 0, none⟩)]) rfl hF3 (enters_of Try.func51 (by kernel_rfl) rfl) rfl
          hseq (fun h k => h.t k) (keepA_b (w := w12) (fun a e => (hA3 a e).2)) (Below.refl _ _) (fun _ => rfl)
          (CntI w10 w.heap.size some_) (CntX w10 w.heap.size some_) (cntI_own hz12) (fun c => cntX_own hz12 c) ⟨BN, BSb, HKALL.out, .inl rfl⟩ ?body ?done ?stop
        case body =>
          rintro l'' pre x W ⟨hN, hS, hB, hcnt⟩ hlt
          have c1 := hN.cell
          have c2 := hS.cell
          have f1 := hN.frozen
          have HNb := Lib.hid hN
          have HSb := Lib.hid hS
          have HBb := Lib.hid hB
          have hpl2 : pre.length ≤ 200 := by have := HDM.out; omega
          have hwr : IntKind.i64.wrap ((pre.length : Int) + 1) = (pre.length : Int) + 1 := IntWalk.i64_in _ (by omega)
          clear hseq BSb BN hN hS hB HNil
          by_cases hge : some_ ≤ (pre.length : Int)
          · gi_wp2
            exact ⟨KeepsFrom.refl _ _, rfl, pre.length, by simp, HNb.out, HSb.out, HBb.out, hge, hcnt⟩
          · have hge2 : ¬ (pre.length : Int) ≥ some_ := hge
            gi_wp2
            have hb2 := cnt_step HNb.out HSb.out HBb.out (by omega) (pre.length + 1)
            exact ⟨hb2.1.from _, fun a e => Below.heap_setCell _ _ _ _ (by have := (hA3 a e).1; simp; omega), by simpa using hb2.2.1, hb2.2.2.1, hb2.2.2.2, .inr (by simp; omega)⟩
        case done =>
          rintro D ys W hD rfl ⟨hN, hS, hB, hcnt⟩ hK
          have c1 := hN.cell
          have c2 := hS.cell
          have hlen := HDM.out
          have HB := Lib.hid hB
          clear hseq BSb BN hN hS hB HNil
          gi_wp2
          refine ⟨by simp, .inl ⟨_, _, rfl, run_takeDeferred hK, ?_⟩⟩
          refine ⟨_, results_tmp rfl _ _ _, ?_, (HALL.out _ HB.out).trans (belowK_b (w := w) (Nat.le_refl _) W D _ _ (by omega) hK rfl rfl)⟩
          have hv : ((m : Int) == max 0 (min some_ (m : Int))) = true := by rw [beq_iff_eq]; omega
          show Ending.returned (Value.bool ((m : Int) == max 0 (min some_ (m : Int)))) = _
          rw [hv]
        case stop =>
          rintro D c pre W hD hpre ⟨rfl, q, hq, hN, hS, hB, h1, h2⟩ hK
          have c1 := hN.cell
          have c2 := hS.cell
          have hlen := HDM.out
          have hle := hpre.length_le
          have HB := Lib.hid hB
          clear hseq BSb BN hN hS hB HNil
          gi_wp2
          refine ⟨by simp, .inl ⟨_, _, rfl, run_takeDeferred hK, ?_⟩⟩
          refine ⟨_, results_tmp rfl _ _ _, ?_, (HALL.out _ HB.out).trans (belowK_b (w := w) (Nat.le_refl _) W D _ _ (by omega) hK rfl rfl)⟩
          have hv : ((q : Int) == max 0 (min some_ (m : Int))) = true := by rw [beq_iff_eq]; omega
          show Ending.returned (Value.bool ((q : Int) == max 0 (min some_ (m : Int)))) = _
          rw [hv]
      · obtain ⟨m1, hm1⟩ : ∃ m1, m = m1 + 1 := ⟨m - 1, by omega⟩
        obtain ⟨r2, hr2, hz2⟩ := Z2.out m1 hm1
        have j2 : (0 : Int) < (m : Int) := by omega
        have C2 : Hid (∀ W, Calls Try.prog 30 #[str r2.1, str h] W fun e w' => e = .returned (.int .i64 (Lib.compareBytes r2.1 h)) ∧ W = w') := Lib.hid (fun W => compare_any ⟨r2.1.toArray⟩ ⟨h.toArray⟩ W)
        obtain ⟨p1, hp1⟩ : ∃ p1, p = p1 + 1 := ⟨p - 1, by omega⟩
        obtain ⟨r1, hr1, hz1b⟩ := Z1.out p1 hp1
        have j1 : (0 : Int) < (p : Int) := by omega
        have j3 : IntKind.i64.wrap ((p : Int) - 1) = (p1 : Int) := by rw [hp1]; exact (IntWalk.i64_in _ (by omega)).trans (by omega)
        have j4 : (p1 : Int) < (l'.length : Int) := by omega
        have C1 : Hid (∀ W, Calls Try.prog 30 #[str r1.1, str h] W fun e w' => e = .returned (.int .i64 (Lib.compareBytes r1.1 h)) ∧ W = w') := Lib.hid (fun W => compare_any ⟨r1.1.toArray⟩ ⟨h.toArray⟩ W)
        obtain ⟨ba, oa, rfl, hba, hca⟩ := (R5.out _ (Below.refl _ _)).at_ (by rw [keys_len]; omega)
        have H1 := Lib.hid (fun W (q : Below w5.heap.size w5 W) => (q.cell (p := ⟨ba, oa + p1, none⟩) hba).trans (hca p1 r1.1 (by simp [keys, hr1])))
        clear hca
        clear Z1 Z2 ha hb
        clear hm1
        clear hp1
        generalize Lib.compareBytes r2.1 h = z2 at *
        generalize Lib.compareBytes r1.1 h = z1 at *
        gi_wp2_with (first
          | (gi_at_call 24; with_reducible refine (callsIn_wide.2 (CF1.out _ F5.out)).mono ?_; rintro e w6 ⟨F1, d1, F2, d2, rfl, o1, _, k⟩; have F6 := Lib.hid (F5.out.then k); have O1 := Lib.hid o1; have K5 := Lib.hid (bThen kb5 k); clear o1 k F5 kb5)
          | (gi_at_call 24; with_reducible refine (callsIn_wide.2 (CF2.out _ F6.out)).mono ?_; rintro e w7 ⟨G1, g1, G2, g2, rfl, o2, _, k⟩; have F7 := Lib.hid (F6.out.then k); have O1b := Lib.hid (O1.out.below k); have O2 := Lib.hid o2; have K7 := Lib.hid (bThen K5.out k); clear o2 k F6 O1 K5; obtain ⟨bb, ob, rfl, hbb, hcb⟩ := O2.out.rd.strs.at_ (by rw [HKD.out]; omega); have H2 := Lib.hid (fun W (q : Below w7.heap.size w7 W) => (q.cell (p := ⟨bb, ob, none⟩) hbb).trans (hcb 0 r2.1 (by simp [keys, hr2]))); clear hcb)
          | (gi_at_call 29; with_reducible refine (callsIn_wide.2 (same_yes F1 (some ⟨ba, oa, none⟩) d1 c5 l'.length (keys l') _ O1b.out.rd F7.out.o.rd (keys_len l') (by omega))).mono ?_; rintro e w8 ⟨rfl, k⟩; have F8 := Lib.hid (F7.out.then k); have O2b := Lib.hid (O2.out.below k); have K8 := Lib.hid (bThen K7.out k); have K7a := Lib.hid k; clear k F7 O1b O2)
          | (gi_at_call 25; refine (callsIn_wide.2 (CPl.out _ F8.out)).mono ?_; rintro e w9 ⟨rfl, k⟩; have F9 := Lib.hid (F8.out.then k); have O2c := Lib.hid (O2b.out.below k); have K9 := Lib.hid (bThen K8.out k); have K7c := Lib.hid (bThen K7a.out k); clear k F8 O2b K7 K8)
          | (gi_at_call 29; with_reducible refine (callsIn_wide.2 (same_yes (some ⟨bb, ob, none⟩) A6 g1 c6 m (keys d) _ O2c.out.rd ((R6.out _ K9.out).more K9.out.size) HKD.out (by omega))).mono ?_; rintro e w10 ⟨rfl, k⟩; have F10 := Lib.hid (F9.out.then k); have K5b := Lib.hid (bThen K9.out k); have K7b := Lib.hid (bThen K7c.out k); clear k F9 O2c; have x2 := H2.out _ K7b.out; have x1 := H1.out _ K5b.out)
          | (gi_at_call 30; with_reducible refine (callsIn_wide.2 (C2.out _)).mono ?_; rintro e w11 ⟨rfl, rfl⟩)
          | (gi_at_call 30; with_reducible refine (callsIn_wide.2 (C1.out _)).mono ?_; rintro e w11 ⟨rfl, rfl⟩)
          | (gi_at_call 20; refine (callsIn_wide.2 (CFr.out _ (F10.out.then ((Below.refl _ _).alloc (Nat.le_refl _) _)))).mono ?_; rintro e w12 ⟨Bb, A3, c3, rfl, it, k⟩; have IT := Lib.hid it; have K12 := Lib.hid k; clear it k))
        have hsz : (w10.alloc (.cells #[.int .i64 0] 3)).heap.size = w10.heap.size + 1 := by simp
        have kall : Below w10.heap.size w10 w12 := bThen (bAl (Below.refl _ _) _) K12.out
        have BSb : Boxed w12 w.heap.size 3 (.int .i64 some_) := boxed_below (boxed_below BS.out (F10.out.f.bel)) kall
        have BN : Boxed w12 w10.heap.size 3 (.int .i64 0) := boxed_below (Boxed.new w10 3 (.int .i64 0)) K12.out
        have hz10 := F10.out.f.bel.size
        have hz12 := kall.size
        have hwb : w.heap.size < w1.heap.size := by omega
        have hA3 : ∀ a, A3 = some a → w10.heap.size + 1 ≤ a.block ∧ a.block < w12.heap.size := fun a e => by
          have := IT.out.own.lt a.block (by rw [e]; rfl)
          rw [hsz] at this
          exact this
        have HALL : Hid (∀ W, Below w10.heap.size w10 W → Below w.heap.size w W) := Lib.hid (fun W q => bThen (bThen K1.out F10.out.f.bel) q)
        have hseq := each_stops Fence.wide (9 - 1) hF3 rfl (by omega) Bb A3 c3 d w12 IT.out.box.cell IT.out.box.lt IT.out.own.rd (by rw [HDM.out]; omega)
        have HKALL := Lib.hid kall
        have hsome : w.heap.size < w10.heap.size := by omega
        have hm200 : m ≤ 200 := by omega
        clear CA CL CF CF1 CF2 CPl CFr R6 R5 F10 IT K12 kall HL HN s6'
        refine rangeFunc_skip rfl (by omega) (gf := 51) (lb := #[.pointer (some ⟨Bb, 0, none⟩)]) rfl hF3 (enters_of Try.func51 (by kernel_rfl) rfl) rfl
          hseq (fun h k => h.t k) (keepA_b (w := w12) (fun a e => (hA3 a e).2)) (Below.refl _ _) (fun _ => rfl)
          (CntI w10 w.heap.size some_) (CntX w10 w.heap.size some_) (cntI_own hz12) (fun c => cntX_own hz12 c) ⟨BN, BSb, HKALL.out, .inl rfl⟩ ?body ?done ?stop
        case body =>
          rintro l'' pre x W ⟨hN, hS, hB, hcnt⟩ hlt
          have c1 := hN.cell
          have c2 := hS.cell
          have f1 := hN.frozen
          have HNb := Lib.hid hN
          have HSb := Lib.hid hS
          have HBb := Lib.hid hB
          have hpl2 : pre.length ≤ 200 := by have := HDM.out; omega
          have hwr : IntKind.i64.wrap ((pre.length : Int) + 1) = (pre.length : Int) + 1 := IntWalk.i64_in _ (by omega)
          clear hseq BSb BN hN hS hB HNil
          by_cases hge : some_ ≤ (pre.length : Int)
          · gi_wp2
            exact ⟨KeepsFrom.refl _ _, rfl, pre.length, by simp, HNb.out, HSb.out, HBb.out, hge, hcnt⟩
          · have hge2 : ¬ (pre.length : Int) ≥ some_ := hge
            gi_wp2
            have hb2 := cnt_step HNb.out HSb.out HBb.out (by omega) (pre.length + 1)
            exact ⟨hb2.1.from _, fun a e => Below.heap_setCell _ _ _ _ (by have := (hA3 a e).1; simp; omega), by simpa using hb2.2.1, hb2.2.2.1, hb2.2.2.2, .inr (by simp; omega)⟩
        case done =>
          rintro D ys W hD rfl ⟨hN, hS, hB, hcnt⟩ hK
          have c1 := hN.cell
          have c2 := hS.cell
          have hlen := HDM.out
          have HB := Lib.hid hB
          clear hseq BSb BN hN hS hB HNil
          gi_wp2
          refine ⟨by simp, .inl ⟨_, _, rfl, run_takeDeferred hK, ?_⟩⟩
          refine ⟨_, results_tmp rfl _ _ _, ?_, (HALL.out _ HB.out).trans (belowK_b (w := w) (Nat.le_refl _) W D _ _ (by omega) hK rfl rfl)⟩
          have hv : ((m : Int) == max 0 (min some_ (m : Int))) = true := by rw [beq_iff_eq]; omega
          show Ending.returned (Value.bool ((m : Int) == max 0 (min some_ (m : Int)))) = _
          rw [hv]
        case stop =>
          rintro D c pre W hD hpre ⟨rfl, q, hq, hN, hS, hB, h1, h2⟩ hK
          have c1 := hN.cell
          have c2 := hS.cell
          have hlen := HDM.out
          have hle := hpre.length_le
          have HB := Lib.hid hB
          clear hseq BSb BN hN hS hB HNil
          gi_wp2
          refine ⟨by simp, .inl ⟨_, _, rfl, run_takeDeferred hK, ?_⟩⟩
          refine ⟨_, results_tmp rfl _ _ _, ?_, (HALL.out _ HB.out).trans (belowK_b (w := w) (Nat.le_refl _) W D _ _ (by omega) hK rfl rfl)⟩
          have hv : ((q : Int) == max 0 (min some_ (m : Int))) = true := by rw [beq_iff_eq]; omega
          show Ending.returned (Value.bool ((q : Int) == max 0 (min some_ (m : Int)))) = _
          rw [hv]
theorem fromLaw_walk {A : Option Addr} (l : List Act1) (c : Nat) (h : Bs) (some_ : Int) (w : World) (hr : RdA w w.heap.size A l) (hm : l.length ≤ maxLen) (hx : ∀ x ∈ l, x.h.length ≤ maxLen) (hh : h.length ≤ maxLen) :
    Calls Try.prog 8 #[.slice A l.length c, str h, .int .i64 some_] w fun e w' => e = .returned (.bool true) ∧ Below w.heap.size w w' := callsIn_wide.1 (fromLaw_in l c h some_ w hr hm hx hh)
end Go.Proofs.Ytpdhfogmdhnoeaa.IX
