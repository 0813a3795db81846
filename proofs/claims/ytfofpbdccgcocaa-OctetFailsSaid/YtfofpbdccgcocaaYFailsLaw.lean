/-
  The law OctetFails walked.
-/
import Derived.Test.YtfofpbdccgcocaaYBackLaw
namespace Go.Proofs.Ytfofpbdccgcocaa.YX
open Go.RowKit HL
open IX (ptr El cellsK cellsK_at cellsK_len OwnK RdK Kept slice_toK slice_fromK)
set_option maxRecDepth 100000
set_option linter.unusedVariables false
set_option linter.unusedSimpArgs false

theorem one2 (w : World) : OwnK u8K (w.alloc (.cells #[.int .u8 2] 5)) w.heap.size (.slice (some ⟨w.heap.size, 0, none⟩) 1 1) [2] := own1 w w.heap.size (Nat.le_refl _) 2 rfl
theorem wadd5 : addW (some []) [UInt8.ofNat 5] = some [5] := by simp [addW]
theorem str_app1 (a : Bs) : (⟨a.toArray⟩ : ByteArray) ++ ⟨#[97]⟩ = ⟨(a ++ [97]).toArray⟩ := str_app a [97]
set_option maxHeartbeats 16000000 in
theorem fails_walk (A1 : Option Addr) (b : Bs) (c1 : Nat) (l : List Th) (hok : ∀ x ∈ l, ThOk x) (A : Option Addr) (c : Nat) (more : Nat) (hmore : more ≤ 255) (w : World) (hb : RdK u8K w w.heap.size A1 b) (h : RdT w w.heap.size A l) :
    Calls Try.prog 8 #[.slice A1 b.length c1, .slice A l.length c, .int .u8 more] w fun e w' => e = .returned (.bool true) ∧ Below w.heap.size w w' := by
  have CA := Lib.hid (awake_any w)
  have HR := Lib.hid h
  have HB := Lib.hid hb
  have CL := Lib.hid (fun W (q : Below w.heap.size w W) => long_any l A c w.heap.size W (HR.out.below q))
  clear h hb
  by_cases h3 : 3000 < b.length
  · have i1 : (3000 : Int) < (b.length : Int) := by omega
    go_enter Try.func8, Try.ntmps8
    go_wp2_with (go_at_call 24; ((with_reducible refine CA.out.mono ?_); rintro e w1 ⟨rfl, k1⟩; have K1 := Lib.hid k1; clear k1))
    go_ret
    exact ⟨rfl, K1.out⟩
  have i1 : ¬ (3000 : Int) < (b.length : Int) := by omega
  cases hlong : longB l with
  | true =>
    rw [hlong] at CL
    go_enter Try.func8, Try.ntmps8
    go_wp2_with (first
      | (go_at_call 24; ((with_reducible refine CA.out.mono ?_); rintro e w1 ⟨rfl, k1⟩; have K1 := Lib.hid k1; clear k1))
      | (go_at_call 9; ((with_reducible refine (CL.out _ K1.out).mono ?_); rintro e w2 ⟨rfl, rfl⟩)))
    go_ret
    exact ⟨rfl, K1.out⟩
  | false =>
    obtain ⟨hl4, hs4⟩ := long_no hlong
    rw [hlong] at CL
    clear hlong
    have hzw := zero_wr
    have e255 : IntKind.i64.wrap (255 + (more : Int)) = 255 + (more : Int) := wI (by omega) (by omega)
    have HT := Lib.hid (show told (0 : Nat) rdT (some (2 :: b)) = 0 ∧ rest rdT (some (2 :: b)) = none from told_none 0 (by simp [rdT]))
    go_enter Try.func8, Try.ntmps8
    go_wp2_with (first
      | (go_at_call 24; ((with_reducible refine CA.out.mono ?_); rintro e w1 ⟨rfl, k1⟩; have K1 := Lib.hid k1; clear k1))
      | (go_at_call 9; ((with_reducible refine (CL.out _ K1.out).mono ?_); rintro e w2 ⟨rfl, rfl⟩))
      | (at_builtin; refine IX.wpList_spreadK u8K rfl (.tmp 24) (.tmp 25) rfl w1.heap.size _ [2] rfl (one2 w1) w.heap.size A1 b.length c1 b rfl rfl (HB.out.below (bThen K1.out (bAl (Below.refl w1.heap.size w1) _))) ?c1 ?c2 ?_))
    case c1 => first | omega | (simp; omega)
    case c2 => simp
    intro v5 w5 o5 g5 f5
    have b5 := (bAl (Below.refl w1.heap.size w1) (.cells #[.int .u8 2] 5)).grown g5 (by simp) (fun a ha => by simp [Value.ownBlock] at ha; omega)
    obtain ⟨A5, c5, e5, r5, hc5, _⟩ := o5.form
    subst e5
    have n5 := fun q => own_none o5 q
    have hl5 : ([2] ++ b : Bs).length = b.length + 1 := by simp
    have C1 : Hid (Calls Try.prog 13 #[.slice A5 (b.length + 1) c5] w5 fun e w' => ∃ B, e = .returned (ptr B) ∧ RAt w' B (some (2 :: b)) ∧ w5.heap.size ≤ B ∧ Below w5.heap.size w5 w') := Lib.hid (read_at A5 c5 ([2] ++ b) w5 r5 (by rw [hl5]; omega) n5 (b.length + 1) hl5)
    rw [hl5] at *
    have K5 := Lib.hid (bThen K1.out b5)
    clear o5 g5 f5 b5 r5 n5 hc5
    go_wp2_with (first
      | (go_at_call 13; ((with_reducible refine C1.out.mono ?_); rintro e w6 ⟨B, rfl, h6, hB6, k6⟩; have D1 := Lib.hid (truth_any2 B _ w6 h6); have K6 := Lib.hid (bThen K5.out k6); have Q6 := Lib.hid (show w.heap.size ≤ B from Nat.le_trans K5.out.size hB6); clear h6 hB6 k6))
      | (go_at_call 20; ((refine D1.out.mono ?_); rintro e w7 ⟨rfl, h7, k7⟩; rw [HT.out.2] at h7; have e7 := HT.out.1; have F7 := Lib.hid (failed_any B none w7 h7); have H7 := Lib.hid h7; have K7 := Lib.hid (K6.out.trans (k7.below K6.out.size (fun i hi => by show i ≠ B; have := Q6.out; omega))); clear h7 k7))
      | (go_at_call 15; ((refine F7.out.mono ?_); rintro e w8 ⟨rfl, rfl⟩)))
    have hX := AtH.new w7 27 zW
    have hw0 : WAt (w7.alloc (.cells zW 27)) w7.heap.size (some []) := ⟨[], p0, 0, p0_len, by omega, by simp, by simp, hX⟩
    have C2 := Lib.hid (wByte_j (ptr w7.heap.size) (some []) 5 (by omega) 5 rfl _ (.inr ⟨_, rfl, hw0⟩))
    rw [wadd5] at C2
    have hBW : B < w7.heap.size := H7.out.lt
    have hwW : w.heap.size ≤ w7.heap.size := K7.out.size
    have b7 := bAl (Below.refl w7.heap.size w7) (.cells zW 27)
    have H8 := Lib.hid (H7.out.below b7)
    have K8 := Lib.hid (bThen K7.out b7)
    clear hX hw0 b7
    go_wp2_with (go_at_call 28; ((refine C2.out.mono ?_); rintro e w8 ⟨rfl, _, q3⟩; obtain ⟨q4, q5⟩ := q3 _ rfl; have H9 := Lib.hid (And.intro q4 (H8.out.other q5 hBW)); have K9 := Lib.hid (K8.out.trans (q5.below K8.out.size (fun i hi => by show i ≠ w7.heap.size; omega))); clear q3 q4 q5))
    go_loopw [9, 10] (fun sv iv wr => ∃ (k : Nat) (s : Bs), sv = str s ∧ iv = .int .i64 k ∧ s.length = k ∧ k ≤ 256 + more ∧ wr = w8) (fun _ iv _ => 256 + more - (intOf iv).toNat)
    case atStart => exact ⟨0, [], rfl, rfl, rfl, by omega, rfl⟩
    case round =>
      obtain ⟨k, s, rfl, rfl, hs, hk, rfl⟩ := hrel
      by_cases hlt : k < 256 + more
      · have j1 : (k : Int) ≤ 255 + (more : Int) := by omega
        have hsum : ¬ 9223372036854775807 < s.length + 1 := by omega
        have hap := str_app1 s
        go_wp2
        exact ⟨⟨k + 1, s ++ [97], rfl, by simp, by simp [hs], by omega, trivial⟩, by simp [intOf]; omega⟩
      · have hke : k = 256 + more := by omega
        have j1 : ¬ ((k : Int) ≤ 255 + (more : Int)) := by omega
        have C3 := Lib.hid (wText_any (ptr w7.heap.size) (some [5]) s wr (by omega) (.inr ⟨_, rfl, H9.out.1⟩))
        rw [if_pos (by omega)] at C3
        have N := Lib.hid (show B ≠ w7.heap.size by omega)
        go_wp2_with (go_at_call 29; ((refine C3.out.mono ?_); rintro e w9 ⟨rfl, _, q3⟩; obtain ⟨q4, q5⟩ := q3 _ rfl; have HA := Lib.hid (And.intro q4 (H9.out.2.other q5 hBW)); have KA := Lib.hid (K9.out.trans (q5.below K9.out.size (fun i hi => by show i ≠ w7.heap.size; omega))); clear q3 q4 q5))
        go_loopw [11] (fun iv wq => ∃ k : Nat, iv = .int .i64 k ∧ k ≤ l.length ∧ Hid (WAt wq w7.heap.size none ∧ RAt wq B none) ∧ Hid (Below w.heap.size w wq)) (fun iv _ => l.length - (intOf iv).toNat)
        case atStart => exact ⟨0, rfl, Nat.zero_le _, HA, KA⟩
        case round =>
          obtain ⟨n, rfl, hn, HS, HK⟩ := hrel
          by_cases hlt : n < l.length
          · have m1 : (n : Int) < (l.length : Int) := by omega
            obtain ⟨b1, off, rfl, hb1, hc⟩ := (HR.out.below HK.out).at_ (by omega)
            obtain ⟨d0, d1, d2⟩ := hc n _ (List.getElem?_eq_getElem hlt)
            have hox := hok _ (List.getElem_mem hlt)
            have hsx := hs4 _ (List.getElem_mem hlt)
            generalize l[n] = x at *
            have D1 : Hid (∀ W, RAt W B none → Calls Try.prog 27 #[ptr B, .int .u8 x.k] W fun e w' => e = .returned (.agg #[.int .u8 x.k, .int .u64 0, .string ⟨#[]⟩]) ∧ RAt w' B none ∧ Kept W w' (· ≠ B)) := Lib.hid (fun W q => take_any B x.k none W q)
            have D2 : Hid (∀ W, WAt W w7.heap.size none → Calls Try.prog 10 #[ptr w7.heap.size, th x] W fun e w' => Wr W (ptr w7.heap.size) none e w') := Lib.hid (fun W q => by
              have := write_any (ptr w7.heap.size) none x hox (by omega) W (.inr ⟨_, rfl, q⟩)
              rw [wrT_none] at this; exact this)
            have hw1 : b1 < wr.heap.size := Nat.lt_of_lt_of_le hb1 HK.out.size
            have nb1 : b1 ≠ B ∧ b1 ≠ w7.heap.size := by have := Q6.out; omega
            have HQ := Lib.hid (show w.heap.size ≤ B ∧ w.heap.size ≤ w7.heap.size from ⟨Q6.out, hwW⟩)
            clear hc hox hsx
            go_wp2_with (first
              | (go_at_call 27; ((refine (D1.out _ HS.out.2).mono ?_); rintro e wa ⟨rfl, ha, ka⟩; have A1 := Lib.hid (And.intro (HS.out.1.kept ka N.out.symm) ha); have da0 := (ka.cell (sp := none) hw1 nb1.1).trans d0; have da1 := (ka.cell (sp := none) hw1 nb1.1).trans d1; have da2 := (ka.cell (sp := none) hw1 nb1.1).trans d2; have hwa := Nat.lt_of_lt_of_le hw1 ka.size; have KQ := Lib.hid (HK.out.trans (ka.below HK.out.size (fun i hi => by show i ≠ B; have := HQ.out; omega))); clear ha ka))
              | (go_at_call 10; ((refine (D2.out _ (A1.out.1.below (bAl (Below.refl _ _) _))).mono ?_); rintro e wb ⟨rfl, _, q3⟩; obtain ⟨q4, q5⟩ := q3 _ rfl; have KR := Lib.hid ((bThen KQ.out (bAl (Below.refl wa.heap.size wa) (.cells #[.int .u8 x.k, .int .u64 0, .string ⟨#[]⟩] 32))).trans (q5.below (bThen KQ.out (bAl (Below.refl wa.heap.size wa) _)).size (fun i hi => by show i ≠ w7.heap.size; have := HQ.out; omega))); have A2 := Lib.hid (And.intro q4 ((A1.out.2.below (bAl (Below.refl wa.heap.size wa) _)).other q5 (by have := hBW; omega))); clear q3 q4 q5)))
            exact ⟨⟨n + 1, by simp, by omega, A2, KR⟩, by simp [intOf]; omega⟩
          · obtain rfl : n = l.length := by omega
            have m1 : ¬ (l.length : Int) < (l.length : Int) := by omega
            have C4 := Lib.hid (bytes_no w7.heap.size wr HS.out.1)
            have C5 := Lib.hid (failed_any B none wr HS.out.2)
            have C6 := Lib.hid (left_any B none wr HS.out.2)
            have C7 := Lib.hid (end_any B none wr HS.out.2)
            go_wp2_with (first
              | (go_at_call 12; ((refine C4.out.mono ?_); rintro e wa ⟨rfl, rfl⟩))
              | (go_at_call 15; ((refine C5.out.mono ?_); rintro e wa ⟨rfl, rfl⟩))
              | (go_at_call 16; ((refine C6.out.mono ?_); rintro e wa ⟨rfl, rfl⟩))
              | (go_at_call 17; ((refine C7.out.mono ?_); rintro e wa ⟨rfl, rfl⟩)))
            go_ret
            exact ⟨rfl, HK.out⟩
end Go.Proofs.Ytfofpbdccgcocaa.YX
