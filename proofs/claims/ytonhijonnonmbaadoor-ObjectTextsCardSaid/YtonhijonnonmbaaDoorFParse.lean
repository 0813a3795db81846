/-
  WALK: the program's Parse.
-/
import Derived.Test.YtonhijonnonmbaaDoorFRead
namespace Go.Proofs.YtonhijonnonmbaaDoor
open Go.RowKit FixMath
set_option maxRecDepth 100000
set_option linter.unusedVariables false
set_option linter.unusedSimpArgs false

/-- s is the text of a number with d digits. -/
def isText (l : Bs) (d : Nat) : Prop := d ≤ 6 ∧ Ok l d
noncomputable def parseV (l : Bs) (d : Nat) : Value := by classical exact if isText l d then .tuple #[.int .i64 (readZ l), .int .i64 0] else .tuple #[.int .i64 0, .int .i64 20]
theorem parseV_t {l : Bs} {d : Nat} (h : isText l d) : parseV l d = .tuple #[.int .i64 (readZ l), .int .i64 0] := by unfold parseV; rw [if_pos h]
theorem parseV_f {l : Bs} {d : Nat} (h : ¬ isText l d) : parseV l d = .tuple #[.int .i64 0, .int .i64 20] := by unfold parseV; rw [if_neg h]
theorem isText_len {l : Bs} {d : Nat} (h : isText l d) : l.length ≤ 18 := by
  obtain ⟨h1, n, h2, h3, rfl⟩ := h
  exact fixText_length_le n d h2 h3 h1
theorem isText_iff {l : Bs} {d : Nat} : isText l d ↔ countsB (readZ l) d = true ∧ fixText (readZ l) d = l := by
  unfold isText
  rw [ok_iff, countsB_iff]
  constructor
  · rintro ⟨h1, h2, h3, h4⟩; exact ⟨⟨h2, h3, h1⟩, h4⟩
  · rintro ⟨⟨h2, h3, h1⟩, h4⟩; exact ⟨h1, h2, h3, h4⟩

theorem textB (n : Int) (d : Nat) (h : countsB n d = true) : ∃ t : ByteArray, t.data.toList = fixText n d ∧ ∀ w, Calls Tryd.prog 91 #[.int .i64 n, .int .u8 d] w fun e w' => e = .returned (.tuple #[.string t, .int .i64 0]) ∧ Below w.heap.size w w' := by
  refine ⟨⟨(fixText n d).toArray⟩, by simp, fun w => ?_⟩
  have := text_any n d w
  rw [textV_t h rfl] at this
  exact this
theorem textB_f (n : Int) (d : Nat) (h : ¬ countsB n d = true) (w : World) : Calls Tryd.prog 91 #[.int .i64 n, .int .u8 d] w fun e w' => e = .returned (.tuple #[.string ⟨#[]⟩, .int .i64 20]) ∧ Below w.heap.size w w' := by
  have := text_any n d w
  rw [textV_f h] at this
  exact this
theorem bytes_ext {s t : ByteArray} (h : s.data.toList = t.data.toList) : s = t := by
  apply ByteArray.ext; exact Array.toList_inj.1 h

theorem parse_any (s : ByteArray) (d : Nat) (w : World) (hs : s.size ≤ maxLen) :
    Calls Tryd.prog 71 #[.string s, .int .u8 d] w fun e w' => e = .returned (parseV s.data.toList d) ∧ Below w.heap.size w w' := by
  unfold maxLen at hs
  by_cases h18 : 18 < s.size
  · have HV := Lib.hid (parseV_f (l := s.data.toList) (d := d) (fun h => by have := isText_len h; simp at this; omega))
    go_enter Tryd.func71, Tryd.ntmps71
    go_wp2
    go_ret2
    exact ⟨by rw [HV.out]; rfl, Below.refl _ _⟩
  · have CR := fun W => Lib.hid (read_any s W (by omega))
    obtain ⟨n, hn⟩ : ∃ n, n = readZ s.data.toList := ⟨_, rfl⟩
    rw [← hn] at CR
    by_cases hc : countsB n d = true
    · obtain ⟨t, ht, hT⟩ := textB n d hc
      have CT := fun W => Lib.hid (hT W)
      clear hT
      by_cases he : t = s
      · have HV : Hid (parseV s.data.toList d = .tuple #[.int .i64 n, .int .i64 0]) := Lib.hid (by
          rw [hn]; exact parseV_t (isText_iff.2 ⟨by rw [← hn]; exact hc, by rw [← hn, ← ht, he]⟩))
        subst he
        clear hn ht hc
        go_enter Tryd.func71, Tryd.ntmps71
        go_wp2_with (first | (go_at_call 90; (refine (CR _).out.mono ?_; rintro e w' ⟨rfl, rfl⟩)) | (go_at_call 91; (refine (CT _).out.mono ?_; rintro e w1 ⟨rfl, hb⟩)))
        go_ret2
        exact ⟨by rw [HV.out]; rfl, hb⟩
      · have HV := Lib.hid (parseV_f (l := s.data.toList) (d := d) (fun h => he (bytes_ext (by rw [ht, hn]; exact (isText_iff.1 h).2))))
        have heq : (t.toList == s.toList) = false := by
          rw [beq_eq_false_iff_ne, ByteArray.toList_eq, ByteArray.toList_eq]; exact fun e => he (bytes_ext e)
        clear hn ht hc
        go_enter Tryd.func71, Tryd.ntmps71
        go_wp2_with (first | (go_at_call 90; (refine (CR _).out.mono ?_; rintro e w' ⟨rfl, rfl⟩)) | (go_at_call 91; (refine (CT _).out.mono ?_; rintro e w1 ⟨rfl, hb⟩)))
        go_ret2
        exact ⟨by rw [HV.out]; rfl, hb⟩
    · have CT := fun W => Lib.hid (textB_f n d hc W)
      have HV := Lib.hid (parseV_f (l := s.data.toList) (d := d) (fun h => hc (by rw [hn]; exact (isText_iff.1 h).1)))
      clear hn hc
      go_enter Tryd.func71, Tryd.ntmps71
      go_wp2_with (first | (go_at_call 90; (refine (CR _).out.mono ?_; rintro e w' ⟨rfl, rfl⟩)) | (go_at_call 91; (refine (CT _).out.mono ?_; rintro e w1 ⟨rfl, hb⟩)))
      go_ret2
      exact ⟨by rw [HV.out]; rfl, hb⟩
end Go.Proofs.YtonhijonnonmbaaDoor
