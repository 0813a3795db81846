/-
  WALKS: a span's Text, the program's and the document's.
-/
import Derived.Test.YtadbbpfnedbhcaaSMay
import Derived.Test.YtadbbpfnedbhcaaFText
namespace Go.Proofs.Ytadbbpfnedbhcaa
open Go.RowKit FixMath
set_option maxRecDepth 100000
set_option linter.unusedVariables false
set_option linter.unusedSimpArgs false

def spText (a b : Int) (d : Nat) : Bs := fixText a d ++ [46, 46] ++ fixText b d
def spTextV (a b : Int) (d : Nat) : Value := if spanE a b = 0 then (if d ≤ 6 then .tuple #[str (spText a b d), .int .i64 0] else .tuple #[str [], .int .i64 20]) else .tuple #[str [], .int .i64 (spanE a b)]
theorem spTextV_0 {a b e0 : Int} {d : Nat} (h : spanE a b = e0) (h0 : e0 ≠ 0) : spTextV a b d = .tuple #[str [], .int .i64 e0] := by unfold spTextV; rw [h, if_neg h0]
theorem spTextV_f {a b : Int} {d : Nat} (h : spanE a b = 0) (hd : 6 < d) : spTextV a b d = .tuple #[str [], .int .i64 20] := by unfold spTextV; rw [if_pos h, if_neg (by omega)]
theorem spTextV_t {a b : Int} {d : Nat} (h : spanE a b = 0) (hd : d ≤ 6) : spTextV a b d = .tuple #[str (spText a b d), .int .i64 0] := by unfold spTextV; rw [if_pos h, if_pos hd]
theorem spTextV_form (a b : Int) (d : Nat) : ∃ (t : ByteArray) (e : Int), spTextV a b d = .tuple #[.string t, .int .i64 e] := by
  unfold spTextV
  split
  · split <;> exact ⟨_, _, rfl⟩
  · exact ⟨_, _, rfl⟩
theorem counts_of {a b : Int} (h : spanE a b = 0) {d : Nat} (hd : d ≤ 6) : countsB a d = true ∧ countsB b d = true := by
  have := spanE_iff.1 h
  exact ⟨countsB_iff.2 (by omega), countsB_iff.2 (by omega)⟩
theorem text_len {n : Int} {d : Nat} (h : countsB n d = true) : (fixText n d).length ≤ 18 := by
  obtain ⟨h1, h2, h3⟩ := countsB_out h
  exact fixText_length_le n d h1 h2 h3
theorem ret_bytesE {x : ByteArray} {s : Bs} {e : Int} (h : x = ⟨s.toArray⟩) : Ending.returned (.tuple #[.string x, .int .i64 e]) = Ending.returned (.tuple #[str s, .int .i64 e]) := by rw [h]
theorem bytes3 (A B : Bs) : (⟨A.toArray⟩ : ByteArray) ++ ⟨#[46, 46]⟩ ++ ⟨B.toArray⟩ = ⟨(A ++ [46, 46] ++ B).toArray⟩ := by
  show (⟨A.toArray⟩ : ByteArray) ++ ⟨([46, 46] : Bs).toArray⟩ ++ ⟨B.toArray⟩ = _
  rw [bytes_add, bytes_add]


theorem spText_any (a b : Int) (d : Nat) (w : World) : Calls Try.prog 23 #[sp a b, .int .u8 d] w fun e w' => e = .returned (spTextV a b d) ∧ Below w.heap.size w w' := by
  have hb : Below w.heap.size w w := Below.refl _ _
  by_cases h0 : spanE a b = 0
  · have CM := fun W => Lib.hid (spanMay_eq h0 W)
    by_cases hd : d ≤ 6
    · have HV := Lib.hid (spTextV_t h0 hd)
      obtain ⟨ca, cb⟩ := counts_of h0 hd
      have CA := fun W => Lib.hid (textV_t ca rfl ▸ text_any a d W)
      have CB := fun W => Lib.hid (textV_t cb rfl ▸ text_any b d W)
      have la := text_len ca
      have lb := text_len cb
      unfold spText at HV
      generalize fixText a d = A at *
      generalize fixText b d = B at *
      clear h0 hd ca cb
      go_enter Try.func23, Try.ntmps23
      go_wp2_with (first | (go_at_call 10; (refine (CM _).out.mono ?_; rintro e w1 ⟨rfl, k1⟩; replace hb := bThen (bAl hb _) k1; have m := (At2.new _ _ _ _).then k1; have c0 := m.c0; have c1 := m.c1)) | (go_at_call 32; first | ((with_reducible refine (CA _).out.mono ?_); rintro e w2 ⟨rfl, k2⟩; replace hb := bThen hb k2; replace m := m.then k2; have c0 := m.c0; have c1 := m.c1) | ((with_reducible refine (CB _).out.mono ?_); rintro e w2 ⟨rfl, k2⟩; replace hb := bThen hb k2; replace m := m.then k2; have c0 := m.c0; have c1 := m.c1)))
      go_ret2
      exact ⟨by rw [HV.out]; exact ret_bytesE (bytes3 A B), hb⟩
    · have HV := Lib.hid (spTextV_f h0 (d := d) (by omega))
      have ca : ¬ countsB a d = true := fun h => hd (countsB_out h).2.2
      have cb : ¬ countsB b d = true := fun h => hd (countsB_out h).2.2
      have CA := fun W => Lib.hid (textV_f ca ▸ text_any a d W)
      have CB := fun W => Lib.hid (textV_f cb ▸ text_any b d W)
      clear h0 hd ca cb
      go_enter Try.func23, Try.ntmps23
      go_wp2_with (first | (go_at_call 10; (refine (CM _).out.mono ?_; rintro e w1 ⟨rfl, k1⟩; replace hb := bThen (bAl hb _) k1; have m := (At2.new _ _ _ _).then k1; have c0 := m.c0; have c1 := m.c1)) | (go_at_call 32; first | ((with_reducible refine (CA _).out.mono ?_); rintro e w2 ⟨rfl, k2⟩; replace hb := bThen hb k2; replace m := m.then k2; have c0 := m.c0; have c1 := m.c1) | ((with_reducible refine (CB _).out.mono ?_); rintro e w2 ⟨rfl, k2⟩; replace hb := bThen hb k2; replace m := m.then k2; have c0 := m.c0; have c1 := m.c1)))
      go_ret2
      exact ⟨by rw [HV.out]; rfl, hb⟩
  · obtain ⟨e0, he⟩ : ∃ e0, spanE a b = e0 := ⟨_, rfl⟩
    rw [he] at h0
    have HV := Lib.hid (spTextV_0 (d := d) he h0)
    have CM := fun W => Lib.hid (spanMay_eq he W)
    clear he
    go_enter Try.func23, Try.ntmps23
    go_wp2_with (first | (go_at_call 10; (refine (CM _).out.mono ?_; rintro e w1 ⟨rfl, k1⟩; replace hb := bThen (bAl hb _) k1; have m := (At2.new _ _ _ _).then k1; have c0 := m.c0; have c1 := m.c1)))
    go_ret2
    exact ⟨by rw [HV.out]; rfl, hb⟩

theorem refSpText_any (a b : Int) (d : Nat) (w : World) : Calls Try.prog 24 #[sp a b, .int .u8 d] w fun e w' => e = .returned (spTextV a b d) ∧ Below w.heap.size w w' := by
  have hb : Below w.heap.size w w := Below.refl _ _
  by_cases h0 : spanE a b = 0
  · have CM := fun W => Lib.hid (refSpanMay_eq h0 W)
    by_cases hd : d ≤ 6
    · have HV := Lib.hid (spTextV_t h0 hd)
      obtain ⟨ca, cb⟩ := counts_of h0 hd
      have CA := fun W => Lib.hid (textV_t ca rfl ▸ refText_any a d W)
      have CB := fun W => Lib.hid (textV_t cb rfl ▸ refText_any b d W)
      have la := text_len ca
      have lb := text_len cb
      unfold spText at HV
      generalize fixText a d = A at *
      generalize fixText b d = B at *
      clear h0 hd ca cb
      go_enter Try.func24, Try.ntmps24
      go_wp2_with (first | (go_at_call 11; (refine (CM _).out.mono ?_; rintro e w1 ⟨rfl, k1⟩; replace hb := bThen (bAl hb _) k1; have m := (At2.new _ _ _ _).then k1; have c0 := m.c0; have c1 := m.c1)) | (go_at_call 33; first | ((with_reducible refine (CA _).out.mono ?_); rintro e w2 ⟨rfl, k2⟩; replace hb := bThen hb k2; replace m := m.then k2; have c0 := m.c0; have c1 := m.c1) | ((with_reducible refine (CB _).out.mono ?_); rintro e w2 ⟨rfl, k2⟩; replace hb := bThen hb k2; replace m := m.then k2; have c0 := m.c0; have c1 := m.c1)))
      go_ret2
      exact ⟨by rw [HV.out]; exact ret_bytesE (bytes3 A B), hb⟩
    · have HV := Lib.hid (spTextV_f h0 (d := d) (by omega))
      have ca : ¬ countsB a d = true := fun h => hd (countsB_out h).2.2
      have cb : ¬ countsB b d = true := fun h => hd (countsB_out h).2.2
      have CA := fun W => Lib.hid (textV_f ca ▸ refText_any a d W)
      have CB := fun W => Lib.hid (textV_f cb ▸ refText_any b d W)
      clear h0 hd ca cb
      go_enter Try.func24, Try.ntmps24
      go_wp2_with (first | (go_at_call 11; (refine (CM _).out.mono ?_; rintro e w1 ⟨rfl, k1⟩; replace hb := bThen (bAl hb _) k1; have m := (At2.new _ _ _ _).then k1; have c0 := m.c0; have c1 := m.c1)) | (go_at_call 33; first | ((with_reducible refine (CA _).out.mono ?_); rintro e w2 ⟨rfl, k2⟩; replace hb := bThen hb k2; replace m := m.then k2; have c0 := m.c0; have c1 := m.c1) | ((with_reducible refine (CB _).out.mono ?_); rintro e w2 ⟨rfl, k2⟩; replace hb := bThen hb k2; replace m := m.then k2; have c0 := m.c0; have c1 := m.c1)))
      go_ret2
      exact ⟨by rw [HV.out]; rfl, hb⟩
  · obtain ⟨e0, he⟩ : ∃ e0, spanE a b = e0 := ⟨_, rfl⟩
    rw [he] at h0
    have HV := Lib.hid (spTextV_0 (d := d) he h0)
    have CM := fun W => Lib.hid (refSpanMay_eq he W)
    clear he
    go_enter Try.func24, Try.ntmps24
    go_wp2_with (first | (go_at_call 11; (refine (CM _).out.mono ?_; rintro e w1 ⟨rfl, k1⟩; replace hb := bThen (bAl hb _) k1; have m := (At2.new _ _ _ _).then k1; have c0 := m.c0; have c1 := m.c1)))
    go_ret2
    exact ⟨by rw [HV.out]; rfl, hb⟩
end Go.Proofs.Ytadbbpfnedbhcaa
