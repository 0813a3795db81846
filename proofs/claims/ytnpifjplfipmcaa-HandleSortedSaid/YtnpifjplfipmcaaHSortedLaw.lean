/-
  THE 8 HandleSorted: its walk, call by call (written by program: wip/gen_sorted.py).
-/
import Derived.Test.YtnpifjplfipmcaaHAwake
namespace Go.Proofs.Ytnpifjplfipmcaa
open Go.RowKit
set_option maxRecDepth 100000
set_option linter.unusedVariables false
set_option linter.unusedSimpArgs false

theorem Dr.belowAt {w w' : World} (h : Dr w w') : Below w.heap.size w w' := h.below _
/-- What a call that makes a list hands back. -/
def RS (w : World) (zs : List Bs) (e : Ending) (w' : World) : Prop := ∃ A c, e = .returned (.slice A zs.length c) ∧ Strs w' w'.heap.size A zs ∧ Below w.heap.size w w'
theorem sort_s {zs xs : List Bs} (h : sortU xs = zs) (hn : xs.length ≤ 1000000) : ∀ A c W, Strs W W.heap.size A xs → Calls Try.prog 18 #[.slice A xs.length c] W (RS W zs) := fun A c W hs => by
  subst h
  refine (sort_any A c xs W hs hn).mono ?_
  rintro e w' ⟨g, cap, rfl, _, hr, hb⟩
  exact ⟨_, _, rfl, hr.strs, hb⟩
theorem merge_s {zs xs ys : List Bs} (h : sortU (xs ++ ys) = zs) (hn : xs.length ≤ 1000) (hm : ys.length ≤ 1000) : ∀ A c A2 c2 W, Strs W W.heap.size A xs → Strs W W.heap.size A2 ys → Calls Try.prog 19 #[.slice A xs.length c, .slice A2 ys.length c2] W (RS W zs) := fun A c A2 c2 W hs hs2 => by
  subst h
  refine (merge_any A A2 c c2 xs ys W hs hs2 (by omega) hm).mono ?_
  rintro e w' ⟨g, cap, rfl, _, hr, hb⟩
  exact ⟨_, _, rfl, hr.strs, hb⟩
theorem without_s {zs xs ys : List Bs} (h : withoutU xs ys = zs) (hn : xs.length ≤ 1000) (hm : ys.length ≤ 1000) : ∀ A c A2 c2 W, Strs W W.heap.size A xs → Strs W W.heap.size A2 ys → Calls Try.prog 20 #[.slice A xs.length c, .slice A2 ys.length c2] W (RS W zs) := fun A c A2 c2 W hs hs2 => by
  subst h
  refine (without_any A A2 c c2 xs ys W hs hs2 (by omega) (by omega)).mono ?_
  rintro e w' ⟨g, cap, rfl, _, hr, hb⟩
  exact ⟨_, _, rfl, hr.strs, hb⟩
theorem rising_t {xs : List Bs} (h : Asc xs) (hn : xs.length ≤ 1000000) : ∀ A c W, Strs W W.heap.size A xs → Calls Try.prog 21 #[.slice A xs.length c] W fun e w' => e = .returned (.bool true) ∧ Dr W w' := fun A c W hs => by
  have := rising_any A c xs _ W hs (by unfold maxLen; omega)
  rw [decide_eq_true h] at this
  exact this
theorem rising_f {xs : List Bs} (h : ¬ Asc xs) (hn : xs.length ≤ 1000000) : ∀ A c W, Strs W W.heap.size A xs → Calls Try.prog 21 #[.slice A xs.length c] W fun e w' => e = .returned (.bool false) ∧ Dr W w' := fun A c W hs => by
  have := rising_any A c xs _ W hs (by unfold maxLen; omega)
  rw [decide_eq_false h] at this
  exact this
theorem within_t {xs ys : List Bs} (h : ∀ x ∈ xs, x ∈ ys) (hn : xs.length ≤ 1000000) (hm : ys.length ≤ 1000000) : ∀ A c A2 c2 W, Strs W W.heap.size A xs → Strs W W.heap.size A2 ys → Calls Try.prog 32 #[.slice A xs.length c, .slice A2 ys.length c2] W fun e w' => e = .returned (.bool true) ∧ W = w' := fun A c A2 c2 W hs hs2 => by
  have := within_any A A2 c c2 xs ys _ W hs hs2 (by unfold maxLen; omega) (by unfold maxLen; omega)
  rw [subB_t h] at this
  exact this
theorem same_t {xs ys : List Bs} (h : xs = ys) (hn : xs.length ≤ 1000000) : ∀ A c A2 c2 W, Strs W W.heap.size A xs → Strs W W.heap.size A2 ys → Calls Try.prog 14 #[.slice A xs.length c, .slice A2 ys.length c2] W fun e w' => e = .returned (.bool true) ∧ Dr W w' := fun A c A2 c2 W hs hs2 => by
  subst h
  have := same_any A A2 c c2 xs xs W _ hs hs2 (by unfold maxLen; omega) (by unfold maxLen; omega)
  rw [sameB_t rfl] at this
  exact this

theorem withoutU_asc (xs ys : List Bs) : Asc (withoutU xs ys) := List.Pairwise.filter _ (sortU_asc xs)
theorem withoutU_mem {xs ys : List Bs} {x : Bs} : x ∈ withoutU xs ys ↔ x ∈ xs ∧ x ∉ ys := by
  unfold withoutU
  rw [List.mem_filter, sortU_mem]
  simp [sortU_mem]
theorem withoutU_le (xs ys : List Bs) : (withoutU xs ys).length ≤ xs.length := Nat.le_trans (List.length_filter_le _ _) (sortU_le xs)

set_option maxHeartbeats 8000000 in
theorem sorted_core (a b S M N Wi X Bo R E : List Bs) (asc : Bool) (hac : asc = decide (Asc a)) (A1 A2 : Option Addr) (c1 c2 : Nat) (w : World) (Sa : Strs w w.heap.size A1 a) (Sb : Strs w w.heap.size A2 b)
    (hla : longB a = false) (hlb : longB b = false) (e1 : ∀ x ∈ a, x.length ≤ maxLen) (e2 : ∀ x ∈ b, x.length ≤ maxLen)
    (hS : sortU a = S) (hM : sortU (a ++ b) = M) (hN : sortU (b ++ a) = N) (hW : withoutU M b = Wi) (hX : withoutU a b = X) (hB : withoutU a X = Bo) (hR : sortU (Wi ++ Bo) = R) (hE : withoutU a a = E) :
    Calls Try.prog 8 #[.slice A1 a.length c1, .slice A2 b.length c2] w fun e w' => e = .returned (.bool true) ∧ Below w.heap.size w w' := by
  have la := (longB_out hla).1
  have lb := (longB_out hlb).1
  have lS : S.length ≤ 100 := by have := sortU_le a; rw [hS] at this; omega
  have lM : M.length ≤ 200 := by have := sortU_le (a ++ b); rw [hM, List.length_append] at this; omega
  have lN : N.length ≤ 200 := by have := sortU_le (b ++ a); rw [hN, List.length_append] at this; omega
  have lW : Wi.length ≤ 200 := by have := withoutU_le M b; rw [hW] at this; omega
  have lX : X.length ≤ 100 := by have := withoutU_le a b; rw [hX] at this; omega
  have lB : Bo.length ≤ 100 := by have := withoutU_le a X; rw [hB] at this; omega
  have lR : R.length ≤ 300 := by have := sortU_le (Wi ++ Bo); rw [hR, List.length_append] at this; omega
  have mS : ∀ x, x ∈ S ↔ x ∈ a := fun x => by rw [← hS]; exact sortU_mem
  have mM : ∀ x, x ∈ M ↔ x ∈ a ∨ x ∈ b := fun x => by rw [← hM]; exact sortU_mem.trans List.mem_append
  have mN : ∀ x, x ∈ N ↔ x ∈ b ∨ x ∈ a := fun x => by rw [← hN]; exact sortU_mem.trans List.mem_append
  have mW : ∀ x, x ∈ Wi ↔ x ∈ M ∧ x ∉ b := fun x => by rw [← hW]; exact withoutU_mem
  have mX : ∀ x, x ∈ X ↔ x ∈ a ∧ x ∉ b := fun x => by rw [← hX]; exact withoutU_mem
  have mB : ∀ x, x ∈ Bo ↔ x ∈ a ∧ x ∉ X := fun x => by rw [← hB]; exact withoutU_mem
  have mR : ∀ x, x ∈ R ↔ x ∈ Wi ∨ x ∈ Bo := fun x => by rw [← hR]; exact sortU_mem.trans List.mem_append
  have aS : Asc S := by rw [← hS]; exact sortU_asc _
  have aM : Asc M := by rw [← hM]; exact sortU_asc _
  have aN : Asc N := by rw [← hN]; exact sortU_asc _
  have aW : Asc Wi := by rw [← hW]; exact withoutU_asc _ _
  have aX : Asc X := by rw [← hX]; exact withoutU_asc _ _
  have aR : Asc R := by rw [← hR]; exact sortU_asc _
  have eMN : M = N := asc_uniq aM aN fun x => by rw [mM, mN]; exact Or.comm
  have eWX : Wi = X := asc_uniq aW aX fun x => by
    rw [mW, mX, mM]
    exact ⟨fun ⟨h, k⟩ => ⟨h.resolve_right k, k⟩, fun ⟨h, k⟩ => ⟨.inl h, k⟩⟩
  have eRS : R = S := asc_uniq aR aS fun x => by
    rw [mR, mS, eWX, mB, mX]
    constructor
    · rintro (⟨h, _⟩ | ⟨h, _⟩) <;> exact h
    · intro h
      by_cases k : x ∈ b
      · exact .inr ⟨h, fun q => q.2 k⟩
      · exact .inl ⟨h, k⟩
  have eE : E.length = 0 := by
    cases hE' : E with
    | nil => rfl
    | cons x l =>
      have : x ∈ withoutU a a := by rw [hE, hE']; simp
      have := withoutU_mem.1 this
      exact absurd this.1 this.2
  have sub1 : ∀ x ∈ a, x ∈ S := fun x hx => (mS x).2 hx
  have sub2 : ∀ x ∈ S, x ∈ a := fun x hx => (mS x).1 hx
  have sub3 : ∀ x ∈ Bo, x ∈ a := fun x hx => ((mB x).1 hx).1
  have sub4 : ∀ x ∈ Bo, x ∈ b := fun x hx => by
    have h := (mB x).1 hx
    by_cases k : x ∈ b
    · exact k
    · exact absurd ((mX x).2 ⟨h.1, k⟩) h.2
  have CSort := Lib.hid (sort_s hS (by omega))
  have CMerge := Lib.hid (merge_s hM (by omega) (by omega))
  have CMerge2 := Lib.hid (merge_s hN (by omega) (by omega))
  have CMerge3 := Lib.hid (merge_s hR (by omega) (by omega))
  have CWith := Lib.hid (without_s hW (by omega) (by omega))
  have CWith2 := Lib.hid (without_s hX (by omega) (by omega))
  have CWith3 := Lib.hid (without_s hB (by omega) (by omega))
  have CWith4 := Lib.hid (without_s hE (by omega) (by omega))
  have RiS := Lib.hid (rising_t aS (by omega))
  have RiM := Lib.hid (rising_t aM (by omega))
  have RiW := Lib.hid (rising_t aW (by omega))
  have In1 := Lib.hid (within_t sub1 (by omega) (by omega))
  have In2 := Lib.hid (within_t sub2 (by omega) (by omega))
  have In3 := Lib.hid (within_t sub3 (by omega) (by omega))
  have In4 := Lib.hid (within_t sub4 (by omega) (by omega))
  have Sa1 := Lib.hid (same_t eMN (by omega))
  have Sa2 := Lib.hid (same_t eWX (by omega))
  have Sa3 := Lib.hid (same_t eRS (by omega))
  have HE := Lib.hid eE
  have LongA := fun W (h : Strs W W.heap.size A1 a) => Lib.hid (long_any A1 c1 a _ W h (by unfold maxLen; omega) e1)
  have LongB := fun W (h : Strs W W.heap.size A2 b) => Lib.hid (long_any A2 c2 b _ W h (by unfold maxLen; omega) e2)
  rw [hla] at LongA
  rw [hlb] at LongB
  have HLA := Lib.hid LongA
  have HLB := Lib.hid LongB
  have RiA : Hid ((asc = true → (∀ A c W, Strs W W.heap.size A a → Calls Try.prog 21 #[.slice A a.length c] W fun e w' => e = .returned (.bool true) ∧ Dr W w') ∧ a = S) ∧ (asc = false → (∀ A c W, Strs W W.heap.size A a → Calls Try.prog 21 #[.slice A a.length c] W fun e w' => e = .returned (.bool false) ∧ Dr W w'))) := Lib.hid ⟨fun h => by
      have ha : Asc a := of_decide_eq_true (by rw [← hac]; exact h)
      exact ⟨rising_t ha (by omega), by rw [← hS]; exact (sortU_self ha).symm⟩, fun h => rising_f (of_decide_eq_false (by rw [← hac]; exact h)) (by omega)⟩
  clear LongA LongB hS hM hN hW hX hB hR hE hla hlb e1 e2 mS mM mN mW mX mB mR aS aM aN aW aX aR eMN eWX eRS eE sub1 sub2 sub3 sub4 hac
  have hb := Below.refl w.heap.size w
  have la' : a.length ≤ 1000000 := by omega
  clear la lb lS lM lN lW lX lB lR
  cases asc
  case false =>
    have RA := Lib.hid (RiA.out.2 rfl)
    clear RiA
    go_enter Try.func8, Try.ntmps8
    go_wp2_with fail
    refine (awake_any _).mono ?_
    rintro e w1 ⟨rfl, b⟩
    replace hb := hb.trans (b.mono hb.size)
    replace Sa := (Sa.below b).more b.size
    replace Sb := (Sb.below b).more b.size
    clear b
    go_wp2_with fail
    refine ((HLA.out _ Sa).out).mono ?_
    rintro e w2 ⟨rfl, rfl⟩
    go_wp2_with fail
    refine ((HLB.out _ Sb).out).mono ?_
    rintro e w3 ⟨rfl, rfl⟩
    go_wp2_with fail
    refine (CSort.out _ _ _ Sa).mono ?_
    rintro e w4 ⟨AS, cS, rfl, SS, b⟩
    replace hb := hb.trans (b.mono hb.size)
    replace Sa := (Sa.below b).more b.size
    replace Sb := (Sb.below b).more b.size
    clear b
    go_wp2_with fail
    refine (RiS.out _ _ _ SS).mono ?_
    rintro e w5 ⟨rfl, d⟩
    have b := d.belowAt
    clear d
    replace hb := hb.trans (b.mono hb.size)
    replace Sa := (Sa.below b).more b.size
    replace Sb := (Sb.below b).more b.size
    replace SS := (SS.below b).more b.size
    clear b
    go_wp2_with fail
    refine (In1.out _ _ _ _ _ Sa SS).mono ?_
    rintro e w6 ⟨rfl, rfl⟩
    go_wp2_with fail
    refine (In2.out _ _ _ _ _ SS Sa).mono ?_
    rintro e w7 ⟨rfl, rfl⟩
    go_wp2_with fail
    refine (RA.out _ _ _ Sa).mono ?_
    rintro e w8 ⟨rfl, d⟩
    have b := d.belowAt
    clear d
    replace hb := hb.trans (b.mono hb.size)
    replace Sa := (Sa.below b).more b.size
    replace Sb := (Sb.below b).more b.size
    replace SS := (SS.below b).more b.size
    clear b
    go_wp2_with fail
    refine (CMerge.out _ _ _ _ _ Sa Sb).mono ?_
    rintro e w9 ⟨AM, cM, rfl, SM, b⟩
    replace hb := hb.trans (b.mono hb.size)
    replace Sa := (Sa.below b).more b.size
    replace Sb := (Sb.below b).more b.size
    replace SS := (SS.below b).more b.size
    clear b
    go_wp2_with fail
    refine (CWith.out _ _ _ _ _ SM Sb).mono ?_
    rintro e w10 ⟨AW, cW, rfl, SW, b⟩
    replace hb := hb.trans (b.mono hb.size)
    replace Sa := (Sa.below b).more b.size
    replace Sb := (Sb.below b).more b.size
    replace SS := (SS.below b).more b.size
    replace SM := (SM.below b).more b.size
    clear b
    go_wp2_with fail
    refine (RiM.out _ _ _ SM).mono ?_
    rintro e w11 ⟨rfl, d⟩
    have b := d.belowAt
    clear d
    replace hb := hb.trans (b.mono hb.size)
    replace Sa := (Sa.below b).more b.size
    replace Sb := (Sb.below b).more b.size
    replace SS := (SS.below b).more b.size
    replace SM := (SM.below b).more b.size
    replace SW := (SW.below b).more b.size
    clear b
    go_wp2_with fail
    refine (CMerge2.out _ _ _ _ _ Sb Sa).mono ?_
    rintro e w12 ⟨AN, cN, rfl, SN, b⟩
    replace hb := hb.trans (b.mono hb.size)
    replace Sa := (Sa.below b).more b.size
    replace Sb := (Sb.below b).more b.size
    replace SS := (SS.below b).more b.size
    replace SM := (SM.below b).more b.size
    replace SW := (SW.below b).more b.size
    clear b
    go_wp2_with fail
    refine (Sa1.out _ _ _ _ _ SM SN).mono ?_
    rintro e w13 ⟨rfl, d⟩
    have b := d.belowAt
    clear d
    replace hb := hb.trans (b.mono hb.size)
    replace Sa := (Sa.below b).more b.size
    replace Sb := (Sb.below b).more b.size
    replace SS := (SS.below b).more b.size
    replace SM := (SM.below b).more b.size
    replace SW := (SW.below b).more b.size
    replace SN := (SN.below b).more b.size
    clear b
    go_wp2_with fail
    clear SM SN
    refine (CWith2.out _ _ _ _ _ Sa Sb).mono ?_
    rintro e w14 ⟨AX, cX, rfl, SX, b⟩
    replace hb := hb.trans (b.mono hb.size)
    replace Sa := (Sa.below b).more b.size
    replace Sb := (Sb.below b).more b.size
    replace SS := (SS.below b).more b.size
    replace SW := (SW.below b).more b.size
    clear b
    go_wp2_with fail
    refine (Sa2.out _ _ _ _ _ SW SX).mono ?_
    rintro e w15 ⟨rfl, d⟩
    have b := d.belowAt
    clear d
    replace hb := hb.trans (b.mono hb.size)
    replace Sa := (Sa.below b).more b.size
    replace Sb := (Sb.below b).more b.size
    replace SS := (SS.below b).more b.size
    replace SW := (SW.below b).more b.size
    replace SX := (SX.below b).more b.size
    clear b
    go_wp2_with fail
    clear SX
    refine (RiW.out _ _ _ SW).mono ?_
    rintro e w16 ⟨rfl, d⟩
    have b := d.belowAt
    clear d
    replace hb := hb.trans (b.mono hb.size)
    replace Sa := (Sa.below b).more b.size
    replace Sb := (Sb.below b).more b.size
    replace SS := (SS.below b).more b.size
    replace SW := (SW.below b).more b.size
    clear b
    go_wp2_with fail
    refine (CWith2.out _ _ _ _ _ Sa Sb).mono ?_
    rintro e w17 ⟨AX, cX, rfl, SX, b⟩
    replace hb := hb.trans (b.mono hb.size)
    replace Sa := (Sa.below b).more b.size
    replace Sb := (Sb.below b).more b.size
    replace SS := (SS.below b).more b.size
    replace SW := (SW.below b).more b.size
    clear b
    go_wp2_with fail
    refine (CWith3.out _ _ _ _ _ Sa SX).mono ?_
    rintro e w18 ⟨AB, cB, rfl, SB, b⟩
    replace hb := hb.trans (b.mono hb.size)
    replace Sa := (Sa.below b).more b.size
    replace Sb := (Sb.below b).more b.size
    replace SS := (SS.below b).more b.size
    replace SW := (SW.below b).more b.size
    replace SX := (SX.below b).more b.size
    clear b
    go_wp2_with fail
    clear SX
    refine (In3.out _ _ _ _ _ SB Sa).mono ?_
    rintro e w19 ⟨rfl, rfl⟩
    go_wp2_with fail
    refine (In4.out _ _ _ _ _ SB Sb).mono ?_
    rintro e w20 ⟨rfl, rfl⟩
    go_wp2_with fail
    refine (CMerge3.out _ _ _ _ _ SW SB).mono ?_
    rintro e w21 ⟨AR, cR, rfl, SR, b⟩
    replace hb := hb.trans (b.mono hb.size)
    replace Sa := (Sa.below b).more b.size
    replace Sb := (Sb.below b).more b.size
    replace SS := (SS.below b).more b.size
    replace SW := (SW.below b).more b.size
    replace SB := (SB.below b).more b.size
    clear b
    go_wp2_with fail
    refine (Sa3.out _ _ _ _ _ SR SS).mono ?_
    rintro e w22 ⟨rfl, d⟩
    have b := d.belowAt
    clear d
    replace hb := hb.trans (b.mono hb.size)
    replace Sa := (Sa.below b).more b.size
    replace Sb := (Sb.below b).more b.size
    replace SS := (SS.below b).more b.size
    replace SW := (SW.below b).more b.size
    replace SB := (SB.below b).more b.size
    replace SR := (SR.below b).more b.size
    clear b
    go_wp2_with fail
    have HE0 := HE.out
    refine (CWith4.out _ _ _ _ _ Sa Sa).mono ?_
    rintro e w23 ⟨AE, cE, rfl, SE, b⟩
    replace hb := hb.trans (b.mono hb.size)
    replace Sa := (Sa.below b).more b.size
    replace Sb := (Sb.below b).more b.size
    replace SS := (SS.below b).more b.size
    replace SW := (SW.below b).more b.size
    replace SB := (SB.below b).more b.size
    replace SR := (SR.below b).more b.size
    clear b
    go_wp2_with fail
    go_ret
    exact ⟨rfl, hb⟩
  case true =>
    have RA := Lib.hid (RiA.out.1 rfl).1
    have RE := Lib.hid (RiA.out.1 rfl).2
    clear RiA
    go_enter Try.func8, Try.ntmps8
    go_wp2_with fail
    refine (awake_any _).mono ?_
    rintro e w24 ⟨rfl, b⟩
    replace hb := hb.trans (b.mono hb.size)
    replace Sa := (Sa.below b).more b.size
    replace Sb := (Sb.below b).more b.size
    clear b
    go_wp2_with fail
    refine ((HLA.out _ Sa).out).mono ?_
    rintro e w25 ⟨rfl, rfl⟩
    go_wp2_with fail
    refine ((HLB.out _ Sb).out).mono ?_
    rintro e w26 ⟨rfl, rfl⟩
    go_wp2_with fail
    refine (CSort.out _ _ _ Sa).mono ?_
    rintro e w27 ⟨AS, cS, rfl, SS, b⟩
    replace hb := hb.trans (b.mono hb.size)
    replace Sa := (Sa.below b).more b.size
    replace Sb := (Sb.below b).more b.size
    clear b
    go_wp2_with fail
    refine (RiS.out _ _ _ SS).mono ?_
    rintro e w28 ⟨rfl, d⟩
    have b := d.belowAt
    clear d
    replace hb := hb.trans (b.mono hb.size)
    replace Sa := (Sa.below b).more b.size
    replace Sb := (Sb.below b).more b.size
    replace SS := (SS.below b).more b.size
    clear b
    go_wp2_with fail
    refine (In1.out _ _ _ _ _ Sa SS).mono ?_
    rintro e w29 ⟨rfl, rfl⟩
    go_wp2_with fail
    refine (In2.out _ _ _ _ _ SS Sa).mono ?_
    rintro e w30 ⟨rfl, rfl⟩
    go_wp2_with fail
    refine (RA.out _ _ _ Sa).mono ?_
    rintro e w31 ⟨rfl, d⟩
    have b := d.belowAt
    clear d
    replace hb := hb.trans (b.mono hb.size)
    replace Sa := (Sa.below b).more b.size
    replace Sb := (Sb.below b).more b.size
    replace SS := (SS.below b).more b.size
    clear b
    go_wp2_with fail
    refine (same_t RE.out la' _ _ _ _ _ Sa SS).mono ?_
    rintro e w32 ⟨rfl, d⟩
    have b := d.belowAt
    clear d
    replace hb := hb.trans (b.mono hb.size)
    replace Sa := (Sa.below b).more b.size
    replace Sb := (Sb.below b).more b.size
    replace SS := (SS.below b).more b.size
    clear b
    go_wp2_with fail
    refine (CMerge.out _ _ _ _ _ Sa Sb).mono ?_
    rintro e w33 ⟨AM, cM, rfl, SM, b⟩
    replace hb := hb.trans (b.mono hb.size)
    replace Sa := (Sa.below b).more b.size
    replace Sb := (Sb.below b).more b.size
    replace SS := (SS.below b).more b.size
    clear b
    go_wp2_with fail
    refine (CWith.out _ _ _ _ _ SM Sb).mono ?_
    rintro e w34 ⟨AW, cW, rfl, SW, b⟩
    replace hb := hb.trans (b.mono hb.size)
    replace Sa := (Sa.below b).more b.size
    replace Sb := (Sb.below b).more b.size
    replace SS := (SS.below b).more b.size
    replace SM := (SM.below b).more b.size
    clear b
    go_wp2_with fail
    refine (RiM.out _ _ _ SM).mono ?_
    rintro e w35 ⟨rfl, d⟩
    have b := d.belowAt
    clear d
    replace hb := hb.trans (b.mono hb.size)
    replace Sa := (Sa.below b).more b.size
    replace Sb := (Sb.below b).more b.size
    replace SS := (SS.below b).more b.size
    replace SM := (SM.below b).more b.size
    replace SW := (SW.below b).more b.size
    clear b
    go_wp2_with fail
    refine (CMerge2.out _ _ _ _ _ Sb Sa).mono ?_
    rintro e w36 ⟨AN, cN, rfl, SN, b⟩
    replace hb := hb.trans (b.mono hb.size)
    replace Sa := (Sa.below b).more b.size
    replace Sb := (Sb.below b).more b.size
    replace SS := (SS.below b).more b.size
    replace SM := (SM.below b).more b.size
    replace SW := (SW.below b).more b.size
    clear b
    go_wp2_with fail
    refine (Sa1.out _ _ _ _ _ SM SN).mono ?_
    rintro e w37 ⟨rfl, d⟩
    have b := d.belowAt
    clear d
    replace hb := hb.trans (b.mono hb.size)
    replace Sa := (Sa.below b).more b.size
    replace Sb := (Sb.below b).more b.size
    replace SS := (SS.below b).more b.size
    replace SM := (SM.below b).more b.size
    replace SW := (SW.below b).more b.size
    replace SN := (SN.below b).more b.size
    clear b
    go_wp2_with fail
    clear SM SN
    refine (CWith2.out _ _ _ _ _ Sa Sb).mono ?_
    rintro e w38 ⟨AX, cX, rfl, SX, b⟩
    replace hb := hb.trans (b.mono hb.size)
    replace Sa := (Sa.below b).more b.size
    replace Sb := (Sb.below b).more b.size
    replace SS := (SS.below b).more b.size
    replace SW := (SW.below b).more b.size
    clear b
    go_wp2_with fail
    refine (Sa2.out _ _ _ _ _ SW SX).mono ?_
    rintro e w39 ⟨rfl, d⟩
    have b := d.belowAt
    clear d
    replace hb := hb.trans (b.mono hb.size)
    replace Sa := (Sa.below b).more b.size
    replace Sb := (Sb.below b).more b.size
    replace SS := (SS.below b).more b.size
    replace SW := (SW.below b).more b.size
    replace SX := (SX.below b).more b.size
    clear b
    go_wp2_with fail
    clear SX
    refine (RiW.out _ _ _ SW).mono ?_
    rintro e w40 ⟨rfl, d⟩
    have b := d.belowAt
    clear d
    replace hb := hb.trans (b.mono hb.size)
    replace Sa := (Sa.below b).more b.size
    replace Sb := (Sb.below b).more b.size
    replace SS := (SS.below b).more b.size
    replace SW := (SW.below b).more b.size
    clear b
    go_wp2_with fail
    refine (CWith2.out _ _ _ _ _ Sa Sb).mono ?_
    rintro e w41 ⟨AX, cX, rfl, SX, b⟩
    replace hb := hb.trans (b.mono hb.size)
    replace Sa := (Sa.below b).more b.size
    replace Sb := (Sb.below b).more b.size
    replace SS := (SS.below b).more b.size
    replace SW := (SW.below b).more b.size
    clear b
    go_wp2_with fail
    refine (CWith3.out _ _ _ _ _ Sa SX).mono ?_
    rintro e w42 ⟨AB, cB, rfl, SB, b⟩
    replace hb := hb.trans (b.mono hb.size)
    replace Sa := (Sa.below b).more b.size
    replace Sb := (Sb.below b).more b.size
    replace SS := (SS.below b).more b.size
    replace SW := (SW.below b).more b.size
    replace SX := (SX.below b).more b.size
    clear b
    go_wp2_with fail
    clear SX
    refine (In3.out _ _ _ _ _ SB Sa).mono ?_
    rintro e w43 ⟨rfl, rfl⟩
    go_wp2_with fail
    refine (In4.out _ _ _ _ _ SB Sb).mono ?_
    rintro e w44 ⟨rfl, rfl⟩
    go_wp2_with fail
    refine (CMerge3.out _ _ _ _ _ SW SB).mono ?_
    rintro e w45 ⟨AR, cR, rfl, SR, b⟩
    replace hb := hb.trans (b.mono hb.size)
    replace Sa := (Sa.below b).more b.size
    replace Sb := (Sb.below b).more b.size
    replace SS := (SS.below b).more b.size
    replace SW := (SW.below b).more b.size
    replace SB := (SB.below b).more b.size
    clear b
    go_wp2_with fail
    refine (Sa3.out _ _ _ _ _ SR SS).mono ?_
    rintro e w46 ⟨rfl, d⟩
    have b := d.belowAt
    clear d
    replace hb := hb.trans (b.mono hb.size)
    replace Sa := (Sa.below b).more b.size
    replace Sb := (Sb.below b).more b.size
    replace SS := (SS.below b).more b.size
    replace SW := (SW.below b).more b.size
    replace SB := (SB.below b).more b.size
    replace SR := (SR.below b).more b.size
    clear b
    go_wp2_with fail
    have HE0 := HE.out
    refine (CWith4.out _ _ _ _ _ Sa Sa).mono ?_
    rintro e w47 ⟨AE, cE, rfl, SE, b⟩
    replace hb := hb.trans (b.mono hb.size)
    replace Sa := (Sa.below b).more b.size
    replace Sb := (Sb.below b).more b.size
    replace SS := (SS.below b).more b.size
    replace SW := (SW.below b).more b.size
    replace SB := (SB.below b).more b.size
    replace SR := (SR.below b).more b.size
    clear b
    go_wp2_with fail
    go_ret
    exact ⟨rfl, hb⟩

theorem sorted_walk (a b : List Bs) (A1 A2 : Option Addr) (c1 c2 : Nat) (w : World) (Sa : Strs w w.heap.size A1 a) (Sb : Strs w w.heap.size A2 b) (n1 : a.length ≤ maxLen) (n2 : b.length ≤ maxLen) (e1 : ∀ x ∈ a, x.length ≤ maxLen) (e2 : ∀ x ∈ b, x.length ≤ maxLen) :
    Calls Try.prog 8 #[.slice A1 a.length c1, .slice A2 b.length c2] w fun e w' => e = .returned (.bool true) ∧ Below w.heap.size w w' := by
  have LA := fun W (h : Strs W W.heap.size A1 a) => Lib.hid (long_any A1 c1 a _ W h n1 e1)
  have LB := fun W (h : Strs W W.heap.size A2 b) => Lib.hid (long_any A2 c2 b _ W h n2 e2)
  by_cases h1 : longB a = true
  · rw [h1] at LA
    have HLA := Lib.hid LA
    clear LA LB h1
    go_enter Try.func8, Try.ntmps8
    go_wp2_with fail
    refine (awake_any _).mono ?_
    rintro e w1 ⟨rfl, hb⟩
    go_wp2_with fail
    refine (HLA.out _ ((Sa.below hb).more hb.size)).out.mono ?_
    rintro e w2 ⟨rfl, rfl⟩
    go_wp2
    go_ret
    exact ⟨rfl, hb⟩
  · have h1 : longB a = false := by simpa using h1
    by_cases h2 : longB b = true
    · rw [h1] at LA
      rw [h2] at LB
      have HLA := Lib.hid LA
      have HLB := Lib.hid LB
      clear LA LB h1 h2
      go_enter Try.func8, Try.ntmps8
      go_wp2_with fail
      refine (awake_any _).mono ?_
      rintro e w1 ⟨rfl, hb⟩
      go_wp2_with fail
      refine (HLA.out _ ((Sa.below hb).more hb.size)).out.mono ?_
      rintro e w2 ⟨rfl, rfl⟩
      go_wp2_with fail
      refine (HLB.out _ ((Sb.below hb).more hb.size)).out.mono ?_
      rintro e w2 ⟨rfl, rfl⟩
      go_wp2
      go_ret
      exact ⟨rfl, hb⟩
    · have h2 : longB b = false := by simpa using h2
      exact sorted_core a b _ _ _ _ _ _ _ _ _ rfl A1 A2 c1 c2 w Sa Sb h1 h2 e1 e2 rfl rfl rfl rfl rfl rfl rfl rfl
end Go.Proofs.Ytnpifjplfipmcaa
