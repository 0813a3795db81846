/-
  WALKS: Text (the program's and the document's).
-/
import Derived.Test.YtlbeaofnolaooaaHRising
namespace Go.Proofs.Ytlbeaofnolaooaa
open Go.RowKit
set_option maxRecDepth 100000
set_option linter.unusedVariables false
set_option linter.unusedSimpArgs false

noncomputable def mayS (x : Bs) : Bool := mayB ⟨x.toArray⟩
theorem mayS_len {x : Bs} (h : mayS x = true) : x.length ≤ 16 := by
  have := (mayB_iff.1 h).2.1
  exact this
noncomputable def okT (l : List Bs) : Bool := l.all mayS
theorem okT_t {l : List Bs} (h : ∀ x ∈ l, mayS x = true) : okT l = true := List.all_eq_true.2 h
theorem okT_f {l : List Bs} {x : Bs} (hx : x ∈ l) (h : mayS x = false) : okT l = false := List.all_eq_false.2 ⟨x, hx, by rw [h]; simp⟩
theorem okT_out {l : List Bs} (h : okT l = true) : ∀ x ∈ l, mayS x = true := List.all_eq_true.1 h

/-- The text of a list. -/
def textS (l : List Bs) : Bs := if l = [] then [45] else Lib.join l [32]
noncomputable def textR (l : List Bs) : Value := if okT l = true then .tuple #[.string ⟨(textS l).toArray⟩, .int .i64 0] else .tuple #[.string ⟨#[]⟩, .int .i64 10]
theorem textR_f {l : List Bs} (h : okT l = false) : textR l = .tuple #[.string ⟨#[]⟩, .int .i64 10] := by simp [textR, h]
theorem textR_t {l : List Bs} (h : okT l = true) {s : Bs} (hs : textS l = s) : textR l = .tuple #[.string ⟨s.toArray⟩, .int .i64 0] := by simp [textR, h, hs]
theorem join_snoc (l : List Bs) (x : Bs) (h : l ≠ []) : Lib.join (l ++ [x]) [32] = Lib.join l [32] ++ [32] ++ x := by
  cases l with
  | nil => exact absurd rfl h
  | cons y r =>
    rw [List.cons_append, Lib.join_cons, Lib.join_cons]
    simp [Lib.joinTail]
theorem join_len (l : List Bs) (h : ∀ x ∈ l, x.length ≤ 16) : (Lib.join l [32]).length ≤ 17 * l.length := by
  cases l with
  | nil => simp [Lib.join_nil]
  | cons y r =>
    rw [Lib.join_cons, List.length_append, Lib.joinTail_length]
    have h1 := h y (by simp)
    have h2 : Lib.lens r ≤ 16 * r.length := by
      clear h1
      induction r with
      | nil => simp [Lib.lens]
      | cons z r ih =>
        have := h z (by simp)
        have := ih (fun x hx => h x (by rcases List.mem_cons.1 hx with e | e <;> simp [e]))
        simp only [Lib.lens, List.map_cons, List.sum_cons, List.length_cons] at *
        omega
    simp only [List.length_cons, List.length_nil]
    omega

theorem join_any (A : Option Addr) (c : Nat) (l : List Bs) (w : World) (h : Strs w w.heap.size A l) (h0 : l ≠ []) (hc : l.length ≤ c) (hn : l.length ≤ 1000000) (hx : ∀ x ∈ l, x.length ≤ 16) :
    Calls Try.prog 45 #[.slice A l.length c, .string ⟨#[32]⟩] w fun e w' => e = .returned (.string ⟨(Lib.join l [32]).toArray⟩) ∧ Below w.heap.size w w' := by
  have hl := join_len l hx
  obtain ⟨b, o, rfl, hb, hcell⟩ := h.at_ (by cases l with | nil => exact absurd rfl h0 | cons x l => simp)
  have e1 : (l.map (fun x => (⟨x.toArray⟩ : ByteArray))).map (·.data.toList) = l := by
    rw [List.map_map]; conv => rhs; rw [← List.map_id l]
    exact List.map_congr_left fun x _ => by simp
  have e2 : (l.map (fun x => (⟨x.toArray⟩ : ByteArray))).length = l.length := by simp
  have hs := Try.strings_Join b o c (l.map fun x => ⟨x.toArray⟩) ⟨#[32]⟩ w (fun j x hx => by
    rw [List.getElem?_map] at hx
    obtain ⟨y, hy, rfl⟩ := Option.map_eq_some_iff.1 hx
    exact hcell j y hy) hb (by rw [e2]; omega) (by rw [e2]; exact hc) (by rw [e1]; show (Lib.join l [32]).length ≤ _; omega)
  rw [e1, e2] at hs
  exact hs

set_option maxHeartbeats 1000000 in
theorem text_any (A : Option Addr) (c : Nat) (l : List Bs) (w : World) (h : Strs w w.heap.size A l) (hc : l.length ≤ c) (hn : l.length ≤ 1000000) (he : ∀ x ∈ l, x.length ≤ maxLen) :
    Calls Try.prog 27 #[.slice A l.length c] w fun e w' => e = .returned (textR l) ∧ Below w.heap.size w w' := by
  have H := Lib.hid h
  have HE := Lib.hid he
  have HC := Lib.hid hc
  clear h he hc
  go_enter Try.func27, Try.ntmps27
  go_wp2
  go_loopw [8] (fun i wr => ∃ k : Nat, i = .int .i64 k ∧ k ≤ l.length ∧ Below w.heap.size w wr ∧ ∀ x ∈ l.take k, mayS x = true) (fun i _ => l.length - (intOf i).toNat)
  case atStart => exact ⟨0, rfl, Nat.zero_le _, Below.refl _ _, by simp⟩
  case round =>
    obtain ⟨k, rfl, hk, hb, hall⟩ := hrel
    have HM := Lib.hid hall
    clear hall
    by_cases hlt : k < l.length
    · obtain ⟨b, o, rfl, _, hcc⟩ := (H.out.below hb).at_ (by omega)
      have hx := hcc k _ (List.getElem?_eq_getElem hlt)
      have CM := fun W => Lib.hid (may_any ⟨(l[k]).toArray⟩ W (HE.out _ (List.getElem_mem hlt)))
      clear hcc
      by_cases hm : mayS l[k] = true
      · have hm' : mayB ⟨(l[k]).toArray⟩ = true := hm
        have HR : Hid (∀ x ∈ l.take (k + 1), mayS x = true) := Lib.hid (by
          rw [List.take_succ_eq_append_getElem hlt]
          intro x hx
          rcases List.mem_append.1 hx with h | h
          · exact HM.out x h
          · rw [List.mem_singleton.1 h]; exact hm)
        clear hm
        go_wp2_with (go_at_call 10; refine (CM _).out.mono ?_; rintro e w1 ⟨rfl, hb1⟩)
        go_roundw
        case rel => exact ⟨k + 1, by go_num, by omega, hb.trans (hb1.mono hb.size), HR.out⟩
        case measure => simp [intOf]; omega
      · have hm0 : mayS l[k] = false := by simpa using hm
        have hm' : mayB ⟨(l[k]).toArray⟩ = false := hm0
        have HV := Lib.hid (textR_f (okT_f (List.getElem_mem hlt) hm0))
        clear hm hm0
        go_wp2_with (go_at_call 10; refine (CM _).out.mono ?_; rintro e w1 ⟨rfl, hb1⟩)
        go_ret2
        exact ⟨by rw [HV.out]; rfl, hb.trans (hb1.mono hb.size)⟩
    · have HA : Hid (∀ x ∈ l, mayS x = true) := Lib.hid (by have := HM.out; rwa [List.take_of_length_le (by omega)] at this)
      by_cases h0 : l = []
      · have HV : Hid (textR l = .tuple #[.string ⟨#[45]⟩, .int .i64 0]) := Lib.hid (textR_t (okT_t HA.out) (s := [45]) (by simp [textS, h0]))
        subst h0
        go_wp2
        go_ret2
        exact ⟨by rw [HV.out]; rfl, hb⟩
      · have hl0 : ¬ l.length = 0 := fun e => h0 (List.eq_nil_of_length_eq_zero e)
        have hlb : ((l.length : Int) == 0) = false := by simp; omega
        have CJ := Lib.hid (join_any A c l _ ((H.out.below hb).more hb.size) h0 HC.out hn (fun x hx => mayS_len (HA.out x hx)))
        have HV := Lib.hid (textR_t (okT_t HA.out) (s := Lib.join l [32]) (by simp [textS, h0]))
        go_wp2_with (go_at_call 45; refine CJ.out.mono ?_; rintro e w1 ⟨rfl, hb1⟩)
        go_ret2
        exact ⟨by rw [HV.out]; rfl, hb.trans (hb1.mono hb.size)⟩
theorem bytes_add (a b : Bs) : (⟨a.toArray⟩ : ByteArray) ++ ⟨b.toArray⟩ = ⟨(a ++ b).toArray⟩ := by
  apply ByteArray.ext
  rw [ByteArray.data_append]
  simp

set_option maxHeartbeats 1000000 in
theorem refText_any (A : Option Addr) (c : Nat) (l : List Bs) (w : World) (h : Strs w w.heap.size A l) (hn : l.length ≤ 1000000) (he : ∀ x ∈ l, x.length ≤ maxLen) :
    Calls Try.prog 28 #[.slice A l.length c] w fun e w' => e = .returned (textR l) ∧ w = w' := by
  by_cases h0 : l = []
  · have HV : Hid (textR l = .tuple #[.string ⟨#[45]⟩, .int .i64 0]) := Lib.hid (textR_t (okT_t (by rw [h0]; simp)) (s := [45]) (by simp [textS, h0]))
    subst h0
    go_enter Try.func28, Try.ntmps28
    go_wp2
    go_ret2
    exact ⟨by rw [HV.out]; rfl, rfl⟩
  · have H := Lib.hid h
    have HE := Lib.hid he
    have hl0 : ¬ l.length = 0 := fun e => h0 (List.eq_nil_of_length_eq_zero e)
    have hlb : ((l.length : Int) == 0) = false := by simp; omega
    clear h he
    go_enter Try.func28, Try.ntmps28
    go_wp2
    go_loop [4, 5] (fun s i => ∃ (k : Nat) (t : Bs), i = .int .i64 k ∧ s = str t ∧ Hid (t = Lib.join (l.take k) [32]) ∧ t.length ≤ 17 * k ∧ k ≤ l.length ∧ ∀ x ∈ l.take k, mayS x = true) (fun _ i => l.length - (intOf i).toNat)
    case atStart => exact ⟨0, [], rfl, rfl, Lib.hid (by simp [Lib.join_nil]), by simp, Nat.zero_le _, by simp⟩
    case round =>
      obtain ⟨k, t, rfl, rfl, HT, htl, hk, hall⟩ := hrel
      have HM := Lib.hid hall
      clear hall
      by_cases hlt : k < l.length
      · obtain ⟨b, o, rfl, _, hcc⟩ := H.out.at_ (by omega)
        have hx := hcc k _ (List.getElem?_eq_getElem hlt)
        have CM := fun W => Lib.hid (refMay_any ⟨(l[k]).toArray⟩ W (HE.out _ (List.getElem_mem hlt)))
        clear hcc
        by_cases hm : mayS l[k] = true
        · have hm' : mayB ⟨(l[k]).toArray⟩ = true := hm
          have hx16 := mayS_len hm
          have HR : Hid (∀ x ∈ l.take (k + 1), mayS x = true) := Lib.hid (by
            rw [List.take_succ_eq_append_getElem hlt]
            intro x hx
            rcases List.mem_append.1 hx with h | h
            · exact HM.out x h
            · rw [List.mem_singleton.1 h]; exact hm)
          clear hm
          by_cases hk0 : k = 0
          · subst hk0
            have HT0 := HT.out
            simp only [List.take_zero, Lib.join_nil] at HT0
            subst HT0
            have HJ : Hid (l[0] = Lib.join (l.take 1) [32]) := Lib.hid (by rw [List.take_succ_eq_append_getElem hlt]; simp [Lib.join_one])
            rw [Nat.add_zero] at hx
            clear HT
            go_wp2_with (go_at_call 11; refine (CM _).out.mono ?_; rintro e w1 ⟨rfl, rfl⟩)
            go_round
            case rel => exact ⟨1, l[0], by go_num, congrArg Value.string (bytes_add [] _), HJ, by omega, by omega, HR.out⟩
            case measure => simp [intOf]; omega
          · have hne : l.take k ≠ [] := by
              intro e
              have : (l.take k).length = 0 := by rw [e]; rfl
              rw [List.length_take] at this
              omega
            have HJ : Hid (t ++ [32] ++ l[k] = Lib.join (l.take (k + 1)) [32]) := Lib.hid (by rw [List.take_succ_eq_append_getElem hlt, join_snoc _ _ hne, HT.out])
            clear HT hne
            have hk1 : 0 < k := by omega
            go_wp2_with (go_at_call 11; refine (CM _).out.mono ?_; rintro e w1 ⟨rfl, rfl⟩)
            go_round
            case rel => exact ⟨k + 1, t ++ [32] ++ l[k], by go_num, by first | rfl | (rw [← bytes_add]) | simp [bytes_add], HJ, (by rw [List.length_append, List.length_append, List.length_singleton]; omega), by omega, HR.out⟩
            case measure => simp [intOf]; omega
        · have hm0 : mayS l[k] = false := by simpa using hm
          have hm' : mayB ⟨(l[k]).toArray⟩ = false := hm0
          have HV := Lib.hid (textR_f (okT_f (List.getElem_mem hlt) hm0))
          clear hm hm0
          go_wp2_with (go_at_call 11; refine (CM _).out.mono ?_; rintro e w1 ⟨rfl, rfl⟩)
          go_ret2
          exact ⟨by rw [HV.out]; rfl, rfl⟩
      · have hks : k = l.length := by omega
        subst hks
        have HV := Lib.hid (textR_t (l := l) (okT_t (by have := HM.out; rwa [List.take_of_length_le (Nat.le_refl _)] at this)) (s := t) (by rw [HT.out, List.take_of_length_le (Nat.le_refl _)]; simp [textS, h0]))
        clear HT
        go_wp2
        go_ret2
        exact ⟨by rw [HV.out]; rfl, rfl⟩
end Go.Proofs.Ytlbeaofnolaooaa
