/-
  PLAIN: requests, reports and replies as bytes; what is written is read, and nothing longer.
-/
import Derived.Test.YtjocbokfdfdkeaaGreatLZLGetQ
import Derived.Test.YtjocbokfdfdkeaaGreatLZLGetY
import Derived.Test.YtjocbokfdfdkeaaGreatLZ8
namespace Go.Proofs.YtjocbokfdfdkeaaGreat.PX
open IX (strK)
open YX (numB rdU rdB rdT rdS rdI addW intN natI rest told)
open DX (Ch)
set_option maxRecDepth 100000
set_option linter.unusedVariables false
set_option linter.unusedSimpArgs false

theorem putsW_eq {α : Type} (C : Cod α) (s : Option Bs) (l : List α) : putsW C s l = if l.all C.short = true then addW s (listB C l) else none := by
  unfold putsW
  rw [foldW C l _ addW_lim]
  by_cases h : l.all C.short = true
  · rw [if_pos h, if_pos h, addW_app]; rfl
  · rw [if_neg h, if_neg h]
theorem getF_B {α : Type} (C : Cod α) {l : List α} (hf : ∀ x ∈ l, C.fine x) (hs : l.all C.short = true) (h64 : l.length ≤ 64) (r : Bs) : getF C (some (listB C l ++ r)) = (l, some r) := by
  have m := many_B C h64 r
  have m1 : told (0 : Nat) rdU (some (listB C l ++ r)) = l.length := m.1
  have m2 : rest rdU (some (listB C l ++ r)) = some (encL C l ++ r) := m.2
  unfold getF
  rw [m1, m2, if_neg (by omega)]
  exact getN_all C hf hs r
theorem getF_fine {α : Type} (C : Cod α) (s : Option Bs) : (∀ x ∈ (getF C s).1, C.fine x) ∧ (getF C s).1.length ≤ 64 := by
  unfold getF
  by_cases h : 64 < told (0 : Nat) rdU s
  · rw [if_pos h]; exact ⟨by simp, by simp⟩
  · rw [if_neg h]; exact ⟨getN_fine C _ _, by rw [getN_len]; omega⟩
theorem if_and {α : Type} (a b : Bool) (x y : α) : (if (a && b) = true then x else y) = if a = true then (if b = true then x else y) else y := by cases a <;> cases b <;> rfl
theorem addW_if (c : Bool) (s : Option Bs) (b : Bs) : addW (if c = true then s else none) b = if c = true then addW s b else none := by cases c <;> rfl
theorem textW_eq (s : Option Bs) (t : Bs) : textW s t = if decide (t.length ≤ 255) = true then addW s (numB t.length ++ t) else none := by
  unfold textW
  by_cases h : 255 < t.length
  · rw [if_pos h, decide_eq_false (by omega)]; rfl
  · rw [if_neg h, decide_eq_true (by omega)]; rfl
theorem codW_if {α : Type} (C : Cod α) (c : Bool) (s : Option Bs) (x : α) : C.W (if c = true then s else none) x = if c = true then C.W s x else none := by
  cases c
  · simp only [Bool.false_eq_true, if_false]; rw [C.w_eq]; cases C.short x <;> rfl
  · rfl
theorem putsW_if {α : Type} (C : Cod α) (c : Bool) (s : Option Bs) (l : List α) : putsW C (if c = true then s else none) l = if c = true then putsW C s l else none := by
  cases c
  · simp only [Bool.false_eq_true, if_false]; rw [putsW_eq]; cases l.all C.short <;> rfl
  · rfl
theorem textW_if (c : Bool) (s : Option Bs) (t : Bs) : textW (if c = true then s else none) t = if c = true then textW s t else none := by
  cases c
  · simp only [Bool.false_eq_true, if_false]; unfold textW; split <;> rfl
  · rfl
/-- Its bytes. -/
def encQ (q : Rq) : Bs := [113] ++ ([UInt8.ofNat q.kind] ++ ((numB (tx q.handle).length ++ tx q.handle) ++ (listB codS q.hs ++ (codC.B q.ch ++ ([UInt8.ofNat q.op] ++ (numB (intN q.low) ++ (numB (intN q.high) ++ ([if q.on then 1 else 0] ++ ([UInt8.ofNat q.assoc] ++ (numB (intN q.expect) ++ (numB q.mask)))))))))))
def shortQ (q : Rq) : Bool := decide ((tx q.handle).length ≤ 255) && (q.hs.all codS.short && codC.short q.ch)
theorem reqW_eq (s : Option Bs) (q : Rq) : reqW s q = if shortQ q = true then addW s (encQ q) else none := by
  unfold reqW shortQ
  simp only [if_and, textW_eq, putsW_eq, codC.w_eq, addW_if, putsW_if, codW_if, textW_if]
  simp only [addW_app, encQ, List.append_assoc]
  repeat' split
  all_goals first | rfl | (simp_all; done)
theorem getQ_B {q : Rq} (hF : FineQ q) (hs : shortQ q = true) (h64 : q.hs.length ≤ 64) (r : Bs) : getQ (some (encQ q ++ r)) = (q, some r) := by
  unfold shortQ at hs
  simp only [Bool.and_eq_true, decide_eq_true_eq] at hs
  have e0 : encQ q ++ r = [113] ++ ([UInt8.ofNat q.kind] ++ ((numB (tx q.handle).length ++ tx q.handle) ++ (listB codS q.hs ++ (codC.B q.ch ++ ([UInt8.ofNat q.op] ++ (numB (intN q.low) ++ (numB (intN q.high) ++ ([if q.on then 1 else 0] ++ ([UInt8.ofNat q.assoc] ++ (numB (intN q.expect) ++ (numB q.mask ++ (r)))))))))))) := by simp only [encQ, List.append_assoc]
  have a0 : rest rdB (some ([113] ++ ([UInt8.ofNat q.kind] ++ ((numB (tx q.handle).length ++ tx q.handle) ++ (listB codS q.hs ++ (codC.B q.ch ++ ([UInt8.ofNat q.op] ++ (numB (intN q.low) ++ (numB (intN q.high) ++ ([if q.on then 1 else 0] ++ ([UInt8.ofNat q.assoc] ++ (numB (intN q.expect) ++ (numB q.mask ++ (r)))))))))))))) = some ([UInt8.ofNat q.kind] ++ ((numB (tx q.handle).length ++ tx q.handle) ++ (listB codS q.hs ++ (codC.B q.ch ++ ([UInt8.ofNat q.op] ++ (numB (intN q.low) ++ (numB (intN q.high) ++ ([if q.on then 1 else 0] ++ ([UInt8.ofNat q.assoc] ++ (numB (intN q.expect) ++ (numB q.mask ++ (r)))))))))))) := (rd_n (k := 113) (by decide) _).2
  have a1 := rd_n hF.kind ((numB (tx q.handle).length ++ tx q.handle) ++ (listB codS q.hs ++ (codC.B q.ch ++ ([UInt8.ofNat q.op] ++ (numB (intN q.low) ++ (numB (intN q.high) ++ ([if q.on then 1 else 0] ++ ([UInt8.ofNat q.assoc] ++ (numB (intN q.expect) ++ (numB q.mask ++ (r)))))))))))
  have a2 := rd_s hs.1 (listB codS q.hs ++ (codC.B q.ch ++ ([UInt8.ofNat q.op] ++ (numB (intN q.low) ++ (numB (intN q.high) ++ ([if q.on then 1 else 0] ++ ([UInt8.ofNat q.assoc] ++ (numB (intN q.expect) ++ (numB q.mask ++ (r))))))))))
  have a3 := getF_B codS hF.hs hs.2.1 h64 (codC.B q.ch ++ ([UInt8.ofNat q.op] ++ (numB (intN q.low) ++ (numB (intN q.high) ++ ([if q.on then 1 else 0] ++ ([UInt8.ofNat q.assoc] ++ (numB (intN q.expect) ++ (numB q.mask ++ (r)))))))))
  have a4 := codC.rd_B _ hF.ch hs.2.2 ([UInt8.ofNat q.op] ++ (numB (intN q.low) ++ (numB (intN q.high) ++ ([if q.on then 1 else 0] ++ ([UInt8.ofNat q.assoc] ++ (numB (intN q.expect) ++ (numB q.mask ++ (r))))))))
  have a4 : getC (some (codC.B q.ch ++ ([UInt8.ofNat q.op] ++ (numB (intN q.low) ++ (numB (intN q.high) ++ ([if q.on then 1 else 0] ++ ([UInt8.ofNat q.assoc] ++ (numB (intN q.expect) ++ (numB q.mask ++ (r)))))))))) = (q.ch, some ([UInt8.ofNat q.op] ++ (numB (intN q.low) ++ (numB (intN q.high) ++ ([if q.on then 1 else 0] ++ ([UInt8.ofNat q.assoc] ++ (numB (intN q.expect) ++ (numB q.mask ++ (r))))))))) := a4
  have a5 := rd_n hF.op (numB (intN q.low) ++ (numB (intN q.high) ++ ([if q.on then 1 else 0] ++ ([UInt8.ofNat q.assoc] ++ (numB (intN q.expect) ++ (numB q.mask ++ (r)))))))
  have a6 := rd_i hF.low (numB (intN q.high) ++ ([if q.on then 1 else 0] ++ ([UInt8.ofNat q.assoc] ++ (numB (intN q.expect) ++ (numB q.mask ++ (r))))))
  have a7 := rd_i hF.high ([if q.on then 1 else 0] ++ ([UInt8.ofNat q.assoc] ++ (numB (intN q.expect) ++ (numB q.mask ++ (r)))))
  have a8 := rd_t q.on ([UInt8.ofNat q.assoc] ++ (numB (intN q.expect) ++ (numB q.mask ++ (r))))
  have a9 := rd_n hF.assoc (numB (intN q.expect) ++ (numB q.mask ++ (r)))
  have a10 := rd_i hF.expect (numB q.mask ++ (r))
  have a11 := rd_u (show q.mask < 18446744073709551616 by have := hF.mask; omega) (r)
  unfold getQ
  simp only [e0, a0, a1.1, a1.2, a2.1, a2.2, a3, a4, a5.1, a5.2, a6.1, a6.2, a7.1, a7.2, a8.1, a8.2, a9.1, a9.2, a10.1, a10.2, a11.1, a11.2]
  rw [bt_tx, Nat.mod_eq_of_lt hF.mask]
/-- A report's bytes. -/
def encR (v : Int) (l : List Ch) (g : Bool) : Bs := [114] ++ (numB (intN v) ++ (listB codC l ++ [if g then 1 else 0]))
theorem repW_eq (s : Option Bs) (v : Int) (l : List Ch) (g : Bool) : repW s v l g = if l.all codC.short = true then addW s (encR v l g) else none := by
  unfold repW
  simp only [putsW_eq, addW_if]
  simp only [addW_app, encR, List.append_assoc]
theorem getR_B {v : Int} {l : List Ch} {g : Bool} (hv : -9223372036854775808 ≤ v ∧ v < 9223372036854775808) (hf : ∀ x ∈ l, codC.fine x) (hs : l.all codC.short = true) (h64 : l.length ≤ 64) (r : Bs) : getR (some (encR v l g ++ r)) = ((v, l, g), some r) := by
  have e0 : encR v l g ++ r = [114] ++ (numB (intN v) ++ (listB codC l ++ ([if g then 1 else 0] ++ r))) := by simp only [encR, List.append_assoc]
  have a0 : rest rdB (some ([114] ++ (numB (intN v) ++ (listB codC l ++ ([if g then 1 else 0] ++ r))))) = some (numB (intN v) ++ (listB codC l ++ ([if g then 1 else 0] ++ r))) := (rd_n (k := 114) (by decide) _).2
  have a1 := rd_i hv (listB codC l ++ ([if g then 1 else 0] ++ r))
  have a2 := getF_B codC hf hs h64 ([if g then 1 else 0] ++ r)
  have a3 := rd_t g r
  unfold getR
  rw [e0]
  simp only [a0, a1.1, a1.2, a2, a3.1, a3.2]
/-- Its bytes. -/
def encY (p : Rp) : Bs := [112] ++ (numB (intN p.err) ++ (numB (intN p.ver) ++ (listB codE p.es ++ (encR p.rver p.cs p.gap ++ ([UInt8.ofNat p.st])))))
def shortY (p : Rp) : Bool := p.es.all codE.short && p.cs.all codC.short
theorem rplW_eq (s : Option Bs) (p : Rp) : rplW s p = if shortY p = true then addW s (encY p) else none := by
  unfold rplW shortY
  simp only [if_and, textW_eq, putsW_eq, codC.w_eq, addW_if, putsW_if, codW_if, textW_if, repW_eq]
  simp only [addW_app, encY, List.append_assoc]
  repeat' split
  all_goals first | rfl | (simp_all; done)
theorem getY_B {p : Rp} (hF : FineP p) (hs : shortY p = true) (h64 : p.es.length ≤ 64) (h65 : p.cs.length ≤ 64) (r : Bs) : getY (some (encY p ++ r)) = (p, some r) := by
  unfold shortY at hs
  simp only [Bool.and_eq_true, decide_eq_true_eq] at hs
  have e0 : encY p ++ r = [112] ++ (numB (intN p.err) ++ (numB (intN p.ver) ++ (listB codE p.es ++ (encR p.rver p.cs p.gap ++ ([UInt8.ofNat p.st] ++ (r)))))) := by simp only [encY, List.append_assoc]
  have a0 : rest rdB (some ([112] ++ (numB (intN p.err) ++ (numB (intN p.ver) ++ (listB codE p.es ++ (encR p.rver p.cs p.gap ++ ([UInt8.ofNat p.st] ++ (r)))))))) = some (numB (intN p.err) ++ (numB (intN p.ver) ++ (listB codE p.es ++ (encR p.rver p.cs p.gap ++ ([UInt8.ofNat p.st] ++ (r)))))) := (rd_n (k := 112) (by decide) _).2
  have a1 := rd_i hF.err (numB (intN p.ver) ++ (listB codE p.es ++ (encR p.rver p.cs p.gap ++ ([UInt8.ofNat p.st] ++ (r)))))
  have a2 := rd_i hF.ver (listB codE p.es ++ (encR p.rver p.cs p.gap ++ ([UInt8.ofNat p.st] ++ (r))))
  have a3 := getF_B codE hF.es hs.1 h64 (encR p.rver p.cs p.gap ++ ([UInt8.ofNat p.st] ++ (r)))
  have a4 := getR_B (g := p.gap) hF.rver hF.cs hs.2 h65 ([UInt8.ofNat p.st] ++ (r))
  have a5 := rd_n hF.st (r)
  unfold getY
  simp only [e0, a0, a1.1, a1.2, a2.1, a2.2, a3, a4, a5.1, a5.2]
/-! ## What is read -/
open Classical in
noncomputable def readQ (b : Bs) : Option Rq := if reqW (some []) (getQ (some b)).1 = some b then some (getQ (some b)).1 else none
open Classical in
noncomputable def readR (b : Bs) : Option (Int × List Ch × Bool) := if repW (some []) (getR (some b)).1.1 (getR (some b)).1.2.1 (getR (some b)).1.2.2 = some b then some (getR (some b)).1 else none
open Classical in
noncomputable def readY (b : Bs) : Option Rp := if rplW (some []) (getY (some b)).1 = some b then some (getY (some b)).1 else none
theorem told_I (s : Option Bs) : -9223372036854775808 ≤ told (0 : Int) rdI s ∧ told (0 : Int) rdI s < 9223372036854775808 := YX.told_I s
theorem told_B (s : Option Bs) : told (0 : Nat) rdB s < 256 := YX.told_B s
theorem getQ_fine (s : Option Bs) : FineQ (getQ s).1 ∧ (getQ s).1.hs.length ≤ 64 := by
  have h4 := getF_fine codS (rest rdS (rest rdB (rest rdB s)))
  refine ⟨⟨told_B _, ?_, h4.1, ?_, codC.rd_fine _, told_B _, told_I _, told_I _, told_B _, told_I _, Nat.mod_lt _ (by decide)⟩, h4.2⟩
  · show (tx (bt _)).length ≤ 1000
    rw [tx_bt]; have := textS (rest rdB (rest rdB s)); omega
  · exact Nat.le_trans h4.2 (by decide)
theorem getR_fine (s : Option Bs) : (-9223372036854775808 ≤ (getR s).1.1 ∧ (getR s).1.1 < 9223372036854775808) ∧ (∀ x ∈ (getR s).1.2.1, codC.fine x) ∧ (getR s).1.2.1.length ≤ 64 :=
  ⟨told_I _, (getF_fine codC _).1, (getF_fine codC _).2⟩
theorem getY_fine (s : Option Bs) : FineP (getY s).1 ∧ (getY s).1.es.length ≤ 64 ∧ (getY s).1.cs.length ≤ 64 := by
  have h4 := getF_fine codE (rest rdI (rest rdI (rest rdB s)))
  have h5 := getR_fine (getF codE (rest rdI (rest rdI (rest rdB s)))).2
  exact ⟨⟨told_I _, told_I _, h4.1, Nat.le_trans h4.2 (by decide), h5.1, h5.2.1, Nat.le_trans h5.2.2 (by decide), told_B _⟩, h4.2, h5.2.2⟩
theorem addW_nil_some {b c : Bs} (h : addW (some []) b = some c) : c = b := by
  simp only [addW] at h
  split at h
  · cases h
  · simpa using h.symm
theorem readQ_inv {b : Bs} {q : Rq} (h : readQ b = some q) : b = encQ q ∧ shortQ q = true ∧ FineQ q ∧ q.hs.length ≤ 64 ∧ reqW (some []) q = some b := by
  unfold readQ at h
  split at h
  · rename_i e
    injection h with h
    rw [h] at e
    have hf := getQ_fine (some b)
    rw [h] at hf
    have e2 := e
    rw [reqW_eq] at e2
    by_cases hs : shortQ q = true
    · rw [if_pos hs] at e2
      exact ⟨addW_nil_some e2, hs, hf.1, hf.2, e⟩
    · rw [if_neg hs] at e2; cases e2
  · cases h
theorem readQ_B {q : Rq} {b : Bs} (hF : FineQ q) (h64 : q.hs.length ≤ 64) (h : reqW (some []) q = some b) : readQ b = some q := by
  have e2 := h
  rw [reqW_eq] at e2
  by_cases hs : shortQ q = true
  · rw [if_pos hs] at e2
    have g := getQ_B hF hs h64 []
    rw [List.append_nil, ← addW_nil_some e2] at g
    unfold readQ
    rw [g, if_pos h]
  · rw [if_neg hs] at e2; cases e2
theorem readQ_one {b r : Bs} {q q2 : Rq} (h : readQ b = some q) (h2 : readQ (b ++ r) = some q2) : r = [] := by
  obtain ⟨e, hs, hF, h64, hw⟩ := readQ_inv h
  have g := getQ_B hF hs h64 r
  rw [← e] at g
  unfold readQ at h2
  rw [g] at h2
  split at h2
  · rename_i e2
    rw [hw] at e2
    injection e2 with e2
    simpa using e2.symm
  · cases h2
theorem readR_inv {b : Bs} {q : Int × List Ch × Bool} (h : readR b = some q) : b = encR q.1 q.2.1 q.2.2 ∧ q.2.1.all codC.short = true ∧ (-9223372036854775808 ≤ q.1 ∧ q.1 < 9223372036854775808) ∧ (∀ x ∈ q.2.1, codC.fine x) ∧ q.2.1.length ≤ 64 ∧ repW (some []) q.1 q.2.1 q.2.2 = some b := by
  unfold readR at h
  split at h
  · rename_i e
    injection h with h
    rw [h] at e
    have hf := getR_fine (some b)
    rw [h] at hf
    have e2 := e
    rw [repW_eq] at e2
    by_cases hs : q.2.1.all codC.short = true
    · rw [if_pos hs] at e2
      exact ⟨addW_nil_some e2, hs, hf.1, hf.2.1, hf.2.2, e⟩
    · rw [if_neg hs] at e2; cases e2
  · cases h
theorem readR_B {v : Int} {l : List Ch} {g : Bool} {b : Bs} (hv : -9223372036854775808 ≤ v ∧ v < 9223372036854775808) (hf : ∀ x ∈ l, codC.fine x) (h64 : l.length ≤ 64) (h : repW (some []) v l g = some b) : readR b = some (v, l, g) := by
  have e2 := h
  rw [repW_eq] at e2
  by_cases hs : l.all codC.short = true
  · rw [if_pos hs] at e2
    have k := getR_B (g := g) hv hf hs h64 []
    rw [List.append_nil, ← addW_nil_some e2] at k
    unfold readR
    rw [k, if_pos h]
  · rw [if_neg hs] at e2; cases e2
theorem readR_one {b r : Bs} {q q2 : Int × List Ch × Bool} (h : readR b = some q) (h2 : readR (b ++ r) = some q2) : r = [] := by
  obtain ⟨e, hs, hv, hf, h64, hw⟩ := readR_inv h
  have g := getR_B (g := q.2.2) hv hf hs h64 r
  rw [← e] at g
  unfold readR at h2
  rw [g] at h2
  split at h2
  · rename_i e2
    rw [hw] at e2
    injection e2 with e2
    simpa using e2.symm
  · cases h2
theorem readY_inv {b : Bs} {p : Rp} (h : readY b = some p) : b = encY p ∧ shortY p = true ∧ FineP p ∧ (p.es.length ≤ 64 ∧ p.cs.length ≤ 64) ∧ rplW (some []) p = some b := by
  unfold readY at h
  split at h
  · rename_i e
    injection h with h
    rw [h] at e
    have hf := getY_fine (some b)
    rw [h] at hf
    have e2 := e
    rw [rplW_eq] at e2
    by_cases hs : shortY p = true
    · rw [if_pos hs] at e2
      exact ⟨addW_nil_some e2, hs, hf.1, hf.2, e⟩
    · rw [if_neg hs] at e2; cases e2
  · cases h
theorem readY_B {p : Rp} {b : Bs} (hF : FineP p) (h64 : p.es.length ≤ 64) (h65 : p.cs.length ≤ 64) (h : rplW (some []) p = some b) : readY b = some p := by
  have e2 := h
  rw [rplW_eq] at e2
  by_cases hs : shortY p = true
  · rw [if_pos hs] at e2
    have g := getY_B hF hs h64 h65 []
    rw [List.append_nil, ← addW_nil_some e2] at g
    unfold readY
    rw [g, if_pos h]
  · rw [if_neg hs] at e2; cases e2
theorem readY_one {b r : Bs} {q q2 : Rp} (h : readY b = some q) (h2 : readY (b ++ r) = some q2) : r = [] := by
  obtain ⟨e, hs, hF, h64, hw⟩ := readY_inv h
  have g := getY_B hF hs h64.1 h64.2 r
  rw [← e] at g
  unfold readY at h2
  rw [g] at h2
  split at h2
  · rename_i e2
    rw [hw] at e2
    injection e2 with e2
    simpa using e2.symm
  · cases h2
/-- What is one's is no other's: the first byte tells. -/
theorem readQ_head {b : Bs} {q : Rq} (h : readQ b = some q) : b.head? = some 113 := by rw [(readQ_inv h).1]; rfl
theorem readR_head {b : Bs} {q : Int × List Ch × Bool} (h : readR b = some q) : b.head? = some 114 := by rw [(readR_inv h).1]; rfl
theorem readY_head {b : Bs} {q : Rp} (h : readY b = some q) : b.head? = some 112 := by rw [(readY_inv h).1]; rfl
end Go.Proofs.YtjocbokfdfdkeaaGreat.PX
