/-
  THE PIECES OF A TEXT between its marks; the document's Split and Parts.
-/
import Derived.Test.YtonhijonnonmbaaDoorHSame
namespace Go.Proofs.YtonhijonnonmbaaDoor.HL
open Go.RowKit
set_option maxRecDepth 100000
set_option linter.unusedVariables false
set_option linter.unusedSimpArgs false

def fr (s : ByteArray) (c : Int) : Nat → Nat
  | 0 => 0
  | k + 1 => if (bt s k : Int) = c then k + 1 else fr s c k
def cutL (s : ByteArray) (a b : Nat) : List UInt8 := (s.data.toList.drop a).take (b - a)
def ps (s : ByteArray) (c : Int) : Nat → List (List UInt8)
  | 0 => []
  | k + 1 => if (bt s k : Int) = c then ps s c k ++ [cutL s (fr s c k) k] else ps s c k
def splitL (s : ByteArray) (c : Int) : List (List UInt8) := ps s c s.size ++ [cutL s (fr s c s.size) s.size]
theorem fr_le (s : ByteArray) (c : Int) (k : Nat) : fr s c k ≤ k := by
  induction k with
  | zero => simp [fr]
  | succ k ih => simp only [fr]; split <;> omega
theorem ps_le (s : ByteArray) (c : Int) (k : Nat) : (ps s c k).length ≤ k := by
  induction k with
  | zero => simp [ps]
  | succ k ih =>
    simp only [ps]
    split
    · simp; omega
    · omega
theorem splitL_le (s : ByteArray) (c : Int) : (splitL s c).length ≤ s.size + 1 := by
  have := ps_le s c s.size
  simp [splitL]; omega
theorem fr_t {s : ByteArray} {c : Int} {k : Nat} (h : (bt s k : Int) = c) : fr s c (k + 1) = k + 1 := by simp [fr, h]
theorem fr_f {s : ByteArray} {c : Int} {k : Nat} (h : (bt s k : Int) ≠ c) : fr s c (k + 1) = fr s c k := by simp [fr, h]
theorem ps_t {s : ByteArray} {c : Int} {k : Nat} (h : (bt s k : Int) = c) : ps s c (k + 1) = ps s c k ++ [cutL s (fr s c k) k] := by simp [ps, h]
theorem ps_f {s : ByteArray} {c : Int} {k : Nat} (h : (bt s k : Int) ≠ c) : ps s c (k + 1) = ps s c k := by simp [ps, h]
theorem extract_str (s : ByteArray) (a b : Nat) : Value.string (s.extract a b) = str (cutL s a b) := congrArg Value.string (Lib.extract_eq s a b)

/-- A slice of strings of the call's own (from block 'base' on). -/
def OwnS (w : World) (base : Nat) (v : Value) (xs : List (List UInt8)) : Prop := w.ownsRow base 9 1 v xs.length (xs.map str)
theorem OwnS.form {w : World} {base : Nat} {v : Value} {xs : List (List UInt8)} (h : OwnS w base v xs) :
    ∃ A c, v = .slice A xs.length c ∧ Strs w w.heap.size A xs ∧ (∀ a, A = some a → base ≤ a.block) ∧ xs.length ≤ c := by
  rcases h.2 with ⟨rfl, h0⟩ | ⟨g, cap, cur, rfl, hb, hg, hnc, _⟩
  · exact ⟨none, 0, by rw [h0], .inl (List.eq_nil_of_length_eq_zero h0), fun a e => (by cases e), by rw [h0]; exact Nat.le_refl _⟩
  · refine ⟨_, cap, rfl, .inr ⟨g, 0, rfl, (Array.getElem?_eq_some_iff.1 hg).1, fun j x hx => ?_⟩, fun a e => (by cases e; exact hb), hnc⟩
    have := h.cells (g := g) rfl j (str x) (by simp [hx])
    rw [show (⟨g, 0, none⟩ : Addr).add j = ⟨g, 0 + j, none⟩ by unfold Addr.add; split <;> simp_all] at this
    exact this
theorem OwnS.base {w : World} {base base' : Nat} {v : Value} {xs : List (List UInt8)} (h : OwnS w base v xs) (hb : base' ≤ base) : OwnS w base' v xs := by
  refine ⟨h.1, ?_⟩
  rcases h.2 with h2 | ⟨g, cap, cur, e, hg, r⟩
  · exact .inl h2
  · exact .inr ⟨g, cap, cur, e, Nat.le_trans hb hg, r⟩
theorem OwnS.nil_ (w : World) (base : Nat) : OwnS w base (.slice none 0 0) [] := ⟨rfl, .inl ⟨rfl, rfl⟩⟩

theorem info_str : (Tryd.prog.info? 9).map (fun i => (i.zero, i.size, i.bytes)) = some (some (.string ByteArray.empty), 1, 16) := by kernel_rfl

theorem OwnS.more {w : World} {base : Nat} {v : Value} {xs : List (List UInt8)} {x : Value} {l : List UInt8} (h : w.ownsRow base 9 1 v (xs.length + 1) (xs.map str ++ [x])) (hx : x = str l) : OwnS w base v (xs ++ [l]) := by
  subst hx
  unfold OwnS
  simpa using h
theorem below_append {B base : Nat} {w0 w w' : World} {v : Value} {n : Nat} {xs : List Value} {o : Obj} (hb : Below B w0 w) (hB : B ≤ w0.heap.size) (hown : w.ownsRow base 9 1 v n xs) (hbase : B ≤ base) (hg : (w.alloc o).grownBy w' v.ownBlock) : Below B w0 w' :=
  (hb.alloc (Nat.le_trans hB hb.size) o).grown hg (by have := hb.size; simp; omega) (fun k hk => Nat.le_trans hbase (hown.lt k hk).1)

theorem str_one (x : Value) (h : x.oneCell' = true) : ∀ u ∈ [x], u.oneCell' = true := by simpa using h

set_option maxHeartbeats 2000000 in
theorem split_any (s : ByteArray) (c : Int) (w : World) (hs : s.size ≤ 1048576) :
    Calls Tryd.prog 23 #[.string s, .int .u8 c] w fun e w' => ∃ v, e = .returned v ∧ OwnS w' w.heap.size v (splitL s c) ∧ Below w.heap.size w w' := by
  obtain ⟨i0, hi, hz0, hz1, hz2⟩ := info_parts info_str
  go_enter Tryd.func23, Tryd.ntmps23
  go_wp2
  go_loopw [5, 6, 7] (fun v f i wr => ∃ k : Nat, i = .int .i64 k ∧ k ≤ s.size + 1 ∧ f = .int .i64 (if k = s.size + 1 then (s.size + 1 : Nat) else fr s c k : Nat) ∧ OwnS wr w.heap.size v (if k = s.size + 1 then splitL s c else ps s c k) ∧ Below w.heap.size w wr) (fun _ _ i _ => s.size + 1 - (intOf i).toNat)
  case atStart => exact ⟨0, rfl, by omega, by simp [fr], by simpa [ps] using OwnS.nil_ w _, Below.refl _ _⟩
  case round =>
    obtain ⟨k, rfl, hk, rfl, hown, hb⟩ := hrel
    by_cases hend : k = s.size + 1
    · subst hend
      rw [if_pos rfl] at hown
      have HO := Lib.hid hown
      clear hown hk
      go_wp2
      go_ret
      exact ⟨_, rfl, HO.out, hb⟩
    · rw [if_neg hend] at hown ⊢
      have hfk := fr_le s c k
      obtain ⟨f, hf⟩ : ∃ f, fr s c k = f := ⟨_, rfl⟩
      rw [hf] at hfk ⊢
      have HF := Lib.hid hf
      clear hf
      have hpl := ps_le s c k
      have hk' : k ≤ s.size := by omega
      by_cases hkn : k = s.size
      · have hb1 : ((k : Int) == (s.size : Int)) = true := by simp [hkn]
        have HK := Lib.hid hkn
        clear hkn hend
        go_wp2_with (at_builtin; refine wpList_append_own _ rfl _ _ 38 rfl w.heap.size 9 i0 (.string ByteArray.empty) 1 16 Tryd.underlying38 hi hz0 hz1 hz2 rfl (by decide) _ _ _ rfl (hown.alloc _) ⟨wr.heap.size, 0, none⟩ 1 1 [.string (s.extract f k)] rfl rfl ?c1A ?c2A ?c3A ?c4A ?c5A ?_)
        case c1A => exact (cell_one_new _ _ _)
        case c2A => exact str_one _ rfl
        case c3A => unfold maxLen; omega
        case c4A => omega
        case c5A => have := hb.size; simp; omega
        intro v' w1 hown1 hg1 _
        have hb1 := below_append hb (Nat.le_refl _) hown (Nat.le_refl _) hg1
        have HO1 := Lib.hid (OwnS.more hown1 (extract_str s f k))
        clear hown1 hg1 hown
        go_wp2
        go_roundw
        case rel => exact ⟨k + 1, by go_num, by omega, by rw [if_pos (by have := HK.out; omega)]; exact congrArg (Value.int .i64) (by have := HK.out; omega), by rw [if_pos (by have := HK.out; omega)]; have := HO1.out; rw [← HF.out, HK.out] at this; exact this, hb1⟩
        case measure => simp [intOf]; omega
      · have hb0 : ((k : Int) == (s.size : Int)) = false := by simp; omega
        have hlt : k < s.size := by omega
        have i1 : (k : Int) < (s.size : Int) := by omega
        have HG := Lib.hid (bt_get s k hlt)
        clear hkn hend
        by_cases hc : (bt s k : Int) = c
        · have hcb : (((s[k]'hlt).toNat : Int) == c) = true := by rw [HG.out]; simpa using hc
          have HC := Lib.hid hc
          clear hc
          go_wp2_with (at_builtin; refine wpList_append_own _ rfl _ _ 38 rfl w.heap.size 9 i0 (.string ByteArray.empty) 1 16 Tryd.underlying38 hi hz0 hz1 hz2 rfl (by decide) _ _ _ rfl (hown.alloc _) ⟨wr.heap.size, 0, none⟩ 1 1 [.string (s.extract f k)] rfl rfl ?c1B ?c2B ?c3B ?c4B ?c5B ?_)
          case c1B => exact (cell_one_new _ _ _)
          case c2B => exact str_one _ rfl
          case c3B => unfold maxLen; omega
          case c4B => omega
          case c5B => have := hb.size; simp; omega
          intro v' w1 hown1 hg1 _
          have hb1 := below_append hb (Nat.le_refl _) hown (Nat.le_refl _) hg1
          have HO1 := Lib.hid (OwnS.more hown1 (extract_str s f k))
          clear hown1 hg1 hown
          go_wp2
          go_roundw
          case rel => exact ⟨k + 1, by go_num, by omega, by rw [if_neg (by omega), fr_t HC.out]; go_num, by rw [if_neg (by omega), ps_t HC.out, HF.out]; exact HO1.out, hb1⟩
          case measure => simp [intOf]; omega
        · have hcb : (((s[k]'hlt).toNat : Int) == c) = false := by rw [HG.out]; simpa using hc
          have HC := Lib.hid hc
          have HO := Lib.hid hown
          clear hc hown
          go_wp2
          go_roundw
          case rel => exact ⟨k + 1, by go_num, by omega, by rw [if_neg (by omega), fr_f HC.out, HF.out], by rw [if_neg (by omega), ps_f HC.out]; exact HO.out, hb⟩
          case measure => simp [intOf]; omega

end Go.Proofs.YtonhijonnonmbaaDoor.HL
