/-
  THE LAW HandleBack: its walk.
-/
import Derived.Test.YtnpifjplfipmcaaHTextsLaw
import Derived.Test.YtnpifjplfipmcaaHJoin
namespace Go.Proofs.Ytnpifjplfipmcaa
open Go.RowKit
set_option maxRecDepth 100000
set_option linter.unusedVariables false
set_option linter.unusedSimpArgs false

theorem bytes_eq2 {a b : ByteArray} (h : a.data.toList = b.data.toList) : a = b := ByteArray.ext (Array.ext' h)
/-- What has a text is parsed from it. -/
theorem back_text (l : List Bs) (hl : l.length ≤ 100) : (∃ X : ByteArray, textR l = .tuple #[.string X, .int .i64 0] ∧ ∀ W, Calls Try.prog 29 #[.string X] W (PR W l)) ∨ textR l = .tuple #[.string ⟨#[]⟩, .int .i64 10] := by
  by_cases h : okT l = true
  · refine .inl ⟨_, textR_t h rfl, fun W => ?_⟩
    by_cases h0 : l = []
    · subst h0
      refine (parse_dash ⟨(textS []).toArray⟩ W (by simp [textS])).mono fun e w' ⟨he, hb⟩ => ⟨_, he, OwnS.nil_ _ _, hb⟩
    · have ht : textS l = Lib.join l [32] := by simp [textS, h0]
      have hx := okT_out h
      have hlen := join_len l (fun x hx' => mayS_len (hx x hx'))
      rw [ht]
      have hp := parse_ok ⟨(Lib.join l [32]).toArray⟩ W (by show (Lib.join l [32]).length ≤ _; omega) (by simpa using text_nodash h0 hx) (by rw [split_text h0 hx]; exact h)
      rw [split_text h0 hx] at hp
      exact hp
  · exact .inr (textR_f (by simpa using h))

/-- What is parsed has just that text, and is of handles. -/
theorem back_parse (s : ByteArray) (hs : s.size ≤ 2000) :
    (∃ m : List Bs, m.length ≤ 2001 ∧ (∀ x ∈ m, mayS x = true) ∧ textR m = .tuple #[.string s, .int .i64 0] ∧ ∀ W, Calls Try.prog 29 #[.string s] W (PR W m)) ∨
    (∀ W, Calls Try.prog 29 #[.string s] W fun e w' => e = .returned (.tuple #[.slice none 0 0, .int .i64 10]) ∧ Below W.heap.size W w') := by
  by_cases hd : s.data.toList = [45]
  · refine .inl ⟨[], by simp, fun x hx => (by cases hx), ?_, fun W => (parse_dash s W hd).mono fun e w' ⟨he, hb⟩ => ⟨_, he, OwnS.nil_ _ _, hb⟩⟩
    have : s = ⟨([45] : Bs).toArray⟩ := bytes_eq2 (by simpa using hd)
    rw [this]
    exact textR_t (okT_t (fun x hx => by cases hx)) (by simp [textS])
  · by_cases ho : okT (splitL s 32) = true
    · refine .inl ⟨splitL s 32, by have := splitL_le s 32; omega, okT_out ho, ?_, fun W => parse_ok s W (by omega) hd ho⟩
      have hne : splitL s 32 ≠ [] := by simp [splitL]
      have hj := join_split s 32
      have hj' : Lib.join (splitL s 32) [32] = s.data.toList := hj
      have hb : s = ⟨(s.data.toList).toArray⟩ := bytes_eq2 (by simp)
      rw [textR_t ho (s := s.data.toList) (by simp [textS, hne, hj'])]
    · exact .inr fun W => parse_bad s W (by omega) hd (by simpa using ho)

set_option maxHeartbeats 4000000 in
theorem back_walk (l : List Bs) (A : Option Addr) (c : Nat) (s : ByteArray) (w : World) (Sl : Strs w w.heap.size A l) (hn : l.length ≤ maxLen) (he : ∀ x ∈ l, x.length ≤ maxLen) (hc : l.length ≤ c) (hs : s.size ≤ maxLen) :
    Calls Try.prog 6 #[.slice A l.length c, .string s] w fun e w' => e = .returned (.bool true) ∧ Below w.heap.size w w' := by
  have LA := fun W (h : Strs W W.heap.size A l) => Lib.hid (long_any A c l _ W h hn he)
  by_cases h1 : longB l = true
  · rw [h1] at LA
    have HL := Lib.hid LA
    clear LA h1 he hn
    go_enter Try.func6, Try.ntmps6
    go_wp2_with (first | (go_at_call 31; refine (awake_any _).mono ?_; rintro e w0 ⟨rfl, hb⟩) | (go_at_call 17; refine (HL.out _ ((Sl.below hb).more hb.size)).out.mono ?_; rintro e w1 ⟨rfl, rfl⟩))
    go_ret
    exact ⟨rfl, hb⟩
  · have h1 : longB l = false := by simpa using h1
    rw [h1] at LA
    unfold maxLen at hs
    have HL := Lib.hid LA
    by_cases h2 : 2000 < s.size
    · clear LA h1 he hn
      go_enter Try.func6, Try.ntmps6
      go_wp2_with (first | (go_at_call 31; refine (awake_any _).mono ?_; rintro e w0 ⟨rfl, hb⟩) | (go_at_call 17; refine (HL.out _ ((Sl.below hb).more hb.size)).out.mono ?_; rintro e w1 ⟨rfl, rfl⟩))
      go_ret
      exact ⟨rfl, hb⟩
    · have h3 : s.size ≤ 2000 := by omega
      have hl := (longB_out h1).1
      have CT := fun W (h : Strs W W.heap.size A l) => Lib.hid (text_any A c l W h hc (by omega) he)
      have hbt := back_text l hl
      have hbp := back_parse s h3
      have CS := Lib.hid (same_own (xs := l) (by omega))
      clear LA h1 h2 he hn hl
      rcases hbt with ⟨X, hX, p1⟩ | hX
      · rw [hX] at CT
        have HT := Lib.hid CT
        have P1 := Lib.hid p1
        clear CT p1 hX
        rcases hbp with ⟨m, hml, hmx, hmt, p2⟩ | p2
        · have HM := Lib.hid hmx
          have HTm := Lib.hid hmt
          have P2 := Lib.hid p2
          clear hmx hmt p2
          go_enter Try.func6, Try.ntmps6
          go_wp2_with (first | (go_at_call 31; refine (awake_any _).mono ?_; rintro e w0 ⟨rfl, hb⟩) | (go_at_call 17; refine (HL.out _ ((Sl.below hb).more hb.size)).out.mono ?_; rintro e w1 ⟨rfl, rfl⟩) | (go_at_call 27; refine (HT.out _ ((Sl.below hb).more hb.size)).out.mono ?_; rintro e w2 ⟨rfl, b2⟩; replace hb := hb.trans (b2.mono hb.size); clear b2))
          refine (P1.out _).mono ?_
          rintro e w3 ⟨v3, rfl, o3, b3⟩
          obtain ⟨A3, c3, rfl, s3, _, _⟩ := o3.form
          replace hb := hb.trans (b3.mono hb.size)
          clear b3 o3
          go_wp2_with fail
          refine (CS.out _ _ _ _ _ ((Sl.below hb).more hb.size) s3).mono ?_
          rintro e w4 ⟨rfl, d4⟩
          replace hb := hb.trans (d4.below _)
          clear d4 s3
          go_wp2_with fail
          refine (P2.out _).mono ?_
          rintro e w6 ⟨v6, rfl, o6, b6⟩
          obtain ⟨A6, c6, rfl, s6, _, hc6⟩ := o6.form
          replace hb := hb.trans (b6.mono hb.size)
          clear b6 o6
          have S6 := Lib.hid s6
          have HC6 := Lib.hid hc6
          clear s6 hc6
          go_wp2_with fail
          go_loopw [11] (fun i wr => ∃ k : Nat, i = .int .i64 k ∧ k ≤ m.length ∧ Below w6.heap.size w6 wr) (fun i _ => m.length - (intOf i).toNat)
          case atStart => exact ⟨0, rfl, Nat.zero_le _, Below.refl _ _⟩
          case round =>
            obtain ⟨k, rfl, hk, hbr⟩ := hrel
            by_cases hlt : k < m.length
            · obtain ⟨b, o, rfl, _, hcc⟩ := (S6.out.below hbr).at_ (by omega)
              have hx := hcc k _ (List.getElem?_eq_getElem hlt)
              have hm' : mayB ⟨(m[k]).toArray⟩ = true := HM.out _ (List.getElem_mem hlt)
              have CM := fun W => Lib.hid (may_any ⟨(m[k]).toArray⟩ W (by have := mayS_len (HM.out _ (List.getElem_mem hlt)); show (m[k]).length ≤ _; unfold maxLen; omega))
              clear hcc
              go_wp2_with (go_at_call 10; refine (CM _).out.mono ?_; rintro e w7 ⟨rfl, b7⟩)
              go_roundw
              case rel => exact ⟨k + 1, by go_num, by omega, hbr.trans (b7.mono hbr.size)⟩
              case measure => simp [intOf]; omega
            · have CTm := Lib.hid (text_any A6 c6 m _ ((S6.out.below hbr).more hbr.size) HC6.out (by omega) (fun x hx => by have := mayS_len (HM.out x hx); unfold maxLen; omega))
              rw [HTm.out] at CTm
              go_wp2_with (go_at_call 27; refine CTm.out.mono ?_; rintro e w8 ⟨rfl, b8⟩)
              go_ret
              exact ⟨rfl, (hb.trans (hbr.mono hb.size)).trans (b8.mono (Nat.le_trans hb.size hbr.size))⟩
        · have P2 := Lib.hid p2
          clear p2
          go_enter Try.func6, Try.ntmps6
          go_wp2_with (first | (go_at_call 31; refine (awake_any _).mono ?_; rintro e w0 ⟨rfl, hb⟩) | (go_at_call 17; refine (HL.out _ ((Sl.below hb).more hb.size)).out.mono ?_; rintro e w1 ⟨rfl, rfl⟩) | (go_at_call 27; refine (HT.out _ ((Sl.below hb).more hb.size)).out.mono ?_; rintro e w2 ⟨rfl, b2⟩; replace hb := hb.trans (b2.mono hb.size); clear b2))
          refine (P1.out _).mono ?_
          rintro e w3 ⟨v3, rfl, o3, b3⟩
          obtain ⟨A3, c3, rfl, s3, _, _⟩ := o3.form
          replace hb := hb.trans (b3.mono hb.size)
          clear b3 o3
          go_wp2_with fail
          refine (CS.out _ _ _ _ _ ((Sl.below hb).more hb.size) s3).mono ?_
          rintro e w4 ⟨rfl, d4⟩
          replace hb := hb.trans (d4.below _)
          clear d4 s3
          go_wp2_with fail
          refine (P2.out _).mono ?_
          rintro e w6 ⟨rfl, b6⟩
          replace hb := hb.trans (b6.mono hb.size)
          go_wp2
          go_ret
          exact ⟨rfl, hb⟩
      · rw [hX] at CT
        have HT := Lib.hid CT
        clear CT hX
        rcases hbp with ⟨m, hml, hmx, hmt, p2⟩ | p2
        · have HM := Lib.hid hmx
          have HTm := Lib.hid hmt
          have P2 := Lib.hid p2
          clear hmx hmt p2
          go_enter Try.func6, Try.ntmps6
          go_wp2_with (first | (go_at_call 31; refine (awake_any _).mono ?_; rintro e w0 ⟨rfl, hb⟩) | (go_at_call 17; refine (HL.out _ ((Sl.below hb).more hb.size)).out.mono ?_; rintro e w1 ⟨rfl, rfl⟩) | (go_at_call 27; refine (HT.out _ ((Sl.below hb).more hb.size)).out.mono ?_; rintro e w2 ⟨rfl, b2⟩; replace hb := hb.trans (b2.mono hb.size); clear b2))
          refine (P2.out _).mono ?_
          rintro e w6 ⟨v6, rfl, o6, b6⟩
          obtain ⟨A6, c6, rfl, s6, _, hc6⟩ := o6.form
          replace hb := hb.trans (b6.mono hb.size)
          clear b6 o6
          have S6 := Lib.hid s6
          have HC6 := Lib.hid hc6
          clear s6 hc6
          go_wp2_with fail
          go_loopw [11] (fun i wr => ∃ k : Nat, i = .int .i64 k ∧ k ≤ m.length ∧ Below w6.heap.size w6 wr) (fun i _ => m.length - (intOf i).toNat)
          case atStart => exact ⟨0, rfl, Nat.zero_le _, Below.refl _ _⟩
          case round =>
            obtain ⟨k, rfl, hk, hbr⟩ := hrel
            by_cases hlt : k < m.length
            · obtain ⟨b, o, rfl, _, hcc⟩ := (S6.out.below hbr).at_ (by omega)
              have hx := hcc k _ (List.getElem?_eq_getElem hlt)
              have hm' : mayB ⟨(m[k]).toArray⟩ = true := HM.out _ (List.getElem_mem hlt)
              have CM := fun W => Lib.hid (may_any ⟨(m[k]).toArray⟩ W (by have := mayS_len (HM.out _ (List.getElem_mem hlt)); show (m[k]).length ≤ _; unfold maxLen; omega))
              clear hcc
              go_wp2_with (go_at_call 10; refine (CM _).out.mono ?_; rintro e w7 ⟨rfl, b7⟩)
              go_roundw
              case rel => exact ⟨k + 1, by go_num, by omega, hbr.trans (b7.mono hbr.size)⟩
              case measure => simp [intOf]; omega
            · have CTm := Lib.hid (text_any A6 c6 m _ ((S6.out.below hbr).more hbr.size) HC6.out (by omega) (fun x hx => by have := mayS_len (HM.out x hx); unfold maxLen; omega))
              rw [HTm.out] at CTm
              go_wp2_with (go_at_call 27; refine CTm.out.mono ?_; rintro e w8 ⟨rfl, b8⟩)
              go_ret
              exact ⟨rfl, (hb.trans (hbr.mono hb.size)).trans (b8.mono (Nat.le_trans hb.size hbr.size))⟩
        · have P2 := Lib.hid p2
          clear p2
          go_enter Try.func6, Try.ntmps6
          go_wp2_with (first | (go_at_call 31; refine (awake_any _).mono ?_; rintro e w0 ⟨rfl, hb⟩) | (go_at_call 17; refine (HL.out _ ((Sl.below hb).more hb.size)).out.mono ?_; rintro e w1 ⟨rfl, rfl⟩) | (go_at_call 27; refine (HT.out _ ((Sl.below hb).more hb.size)).out.mono ?_; rintro e w2 ⟨rfl, b2⟩; replace hb := hb.trans (b2.mono hb.size); clear b2))
          refine (P2.out _).mono ?_
          rintro e w6 ⟨rfl, b6⟩
          replace hb := hb.trans (b6.mono hb.size)
          go_wp2
          go_ret
          exact ⟨rfl, hb⟩
end Go.Proofs.Ytnpifjplfipmcaa
