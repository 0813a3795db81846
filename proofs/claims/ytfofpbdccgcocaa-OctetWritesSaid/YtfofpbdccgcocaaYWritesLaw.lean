/-
  The law OctetWrites walked.
-/
import Derived.Test.YtfofpbdccgcocaaYBackLaw
namespace Go.Proofs.Ytfofpbdccgcocaa.YX
open Go.RowKit HL
open IX (ptr El cellsK cellsK_at cellsK_len OwnK RdK Kept slice_toK slice_fromK)
set_option maxRecDepth 100000
set_option linter.unusedVariables false
set_option linter.unusedSimpArgs false

/-- What the law keeps beside the writer: its bytes, and whether they are too long. -/
def WS (s : Option Bs) (want : Bs) (long : Bool) : Prop := (long = true ∧ s = none) ∨ (long = false ∧ s = some want ∧ want.length ≤ 65536)
/-- One thing more. -/
theorem WS.next {s : Option Bs} {want : Bs} {long : Bool} (h : WS s want long) (x : Th) :
    WS (wrT s x) (if (long || (decide (x.k % 5 = 4) && decide (255 < x.s.length)) || decide (65536 < want.length + (thB x).length)) then want else want ++ thB x) (long || (decide (x.k % 5 = 4) && decide (255 < x.s.length)) || decide (65536 < want.length + (thB x).length)) := by
  rcases h with ⟨rfl, rfl⟩ | ⟨rfl, rfl, hl⟩
  · simp [WS, wrT_none]
  · by_cases h1 : x.k % 5 = 4 ∧ 255 < x.s.length
    · left
      refine ⟨by simp [h1.1, h1.2], ?_⟩
      unfold wrT; rw [if_pos h1]
    · have e1 : (decide (x.k % 5 = 4) && decide (255 < x.s.length)) = false := by
        rw [← Bool.not_eq_true, Bool.and_eq_true, decide_eq_true_eq, decide_eq_true_eq]; exact h1
      rw [e1]
      by_cases h2 : 65536 < want.length + (thB x).length
      · left
        refine ⟨by simp [h2], ?_⟩
        unfold wrT addW; rw [if_neg h1]; simp only; rw [if_pos h2]
      · right
        have e2 : (false || false || decide (65536 < want.length + (thB x).length)) = false := by simp [h2]
        rw [e2]
        refine ⟨rfl, ?_, ?_⟩
        · unfold wrT addW; rw [if_neg h1]; simp only; rw [if_neg h2]; rfl
        · simp only [Bool.false_eq_true, if_false]; rw [List.length_append]; omega
/-- Behind a failure, and at the end. -/
theorem WS.short {s : Option Bs} {want : Bs} (h : WS s want false) : s = some want ∧ want.length ≤ 65536 := by
  rcases h with ⟨h, _⟩ | ⟨_, h1, h2⟩
  · cases h
  · exact ⟨h1, h2⟩
theorem WS.long_ {s : Option Bs} {want : Bs} (h : WS s want true) : s = none := by
  rcases h with ⟨_, h⟩ | ⟨h, _⟩
  · exact h
  · cases h
theorem thB_len {x : Th} (hx : ThOk x) (hs : x.s.length ≤ 400) : (thB x).length ≤ 1000 := by
  unfold thB
  split
  · simp
  split
  · simp
  split
  · have := numB_len64 hx.n; omega
  split
  · have := numB_len64 (intN_lt (toI_r hx.n).1 (toI_r hx.n).2); omega
  · have := numB_len64 (n := x.s.length) (by omega)
    rw [List.length_append]; omega
set_option maxHeartbeats 16000000 in
theorem writes_walk (l : List Th) (hok : ∀ x ∈ l, ThOk x) (A : Option Addr) (c : Nat) (times : Nat) (ht : times ≤ 255) (w : World) (h : RdT w w.heap.size A l) :
    Calls Try.prog 3 #[.slice A l.length c, .int .u8 times] w fun e w' => e = .returned (.bool true) ∧ Below w.heap.size w w' := by
  have HR := Lib.hid h
  have CL := Lib.hid (long_any l A c w.heap.size w h)
  clear h
  cases hlong : longB l with
  | true =>
    rw [hlong] at CL
    go_enter Try.func3, Try.ntmps3
    go_wp2_with (go_at_call 9; ((with_reducible refine CL.out.mono ?_); rintro e w2 ⟨rfl, rfl⟩))
    go_ret
    exact ⟨rfl, Below.refl _ _⟩
  | false =>
    obtain ⟨hl4, hs4⟩ := long_no hlong
    rw [hlong] at CL
    clear hlong
    have hzw := zero_wr
    have hw0 : WAt (w.alloc (.cells zW 27)) w.heap.size (some []) := ⟨[], p0, 0, p0_len, by omega, by simp, by simp, AtH.new _ _ _⟩
    have W0 := Lib.hid hw0
    have eT : IntKind.i64.wrap (1 + (times : Int) % 4) = 1 + (times : Int) % 4 := wI (by omega) (by omega)
    clear hw0
    go_enter Try.func3, Try.ntmps3
    go_wp2_with (go_at_call 9; ((with_reducible refine CL.out.mono ?_); rintro e w2 ⟨rfl, rfl⟩))
    go_loopw [6, 7, 8] (fun wv lv tv wr => ∃ (T : Nat) (want : Bs) (long : Bool) (s : Option Bs), tv = .int .i64 T ∧ lv = .bool long ∧ T ≤ 1 + times % 4 ∧ Hid (WS s want long) ∧ Hid (WAt wr w.heap.size s) ∧ Hid (OwnK u8K wr (w.heap.size + 1) wv want) ∧ Hid (Below w.heap.size w wr)) (fun _ _ tv _ => 1 + times % 4 - (intOf tv).toNat)
    case atStart => exact ⟨0, [], false, some [], rfl, rfl, by omega, Lib.hid (.inr ⟨rfl, rfl, by simp⟩), W0, Lib.hid (OwnK.nil_ u8K _ _), Lib.hid (bAl (Below.refl _ _) _)⟩
    case round =>
      obtain ⟨T, want0, long0, s0, rfl, rfl, hT, HWS0, HA0, HO0, HK0⟩ := hrel
      by_cases hlt0 : T < 1 + times % 4
      · have m1 : (T : Int) < 1 + (times : Int) % 4 := by omega
        go_wp2
        go_loopw [6, 7, 9] (fun wv lv iv wr => ∃ (k : Nat) (want : Bs) (long : Bool) (s : Option Bs), lv = .bool long ∧ iv = .int .i64 k ∧ k ≤ l.length ∧ Hid (WS s want long) ∧ Hid (WAt wr w.heap.size s) ∧ Hid (OwnK u8K wr (w.heap.size + 1) wv want) ∧ Hid (Below w.heap.size w wr)) (fun _ _ iv _ => l.length - (intOf iv).toNat)
        case atStart => exact ⟨0, want0, long0, s0, rfl, rfl, Nat.zero_le _, HWS0, HA0, HO0, HK0⟩
        case round =>
          obtain ⟨k, want, long, s, rfl, rfl, hk, HWS1, HA, HO, HK⟩ := hrel
          obtain ⟨Aw, cw, rfl, _, _, _⟩ := HO.out.form
          by_cases hlt : k < l.length
          · have j1 : (k : Int) < (l.length : Int) := by omega
            obtain ⟨b1, off, rfl, hb1, hc⟩ := (HR.out.below HK.out).at_ (by omega)
            obtain ⟨d0, d1, d2⟩ := hc k _ (List.getElem?_eq_getElem hlt)
            have hox := hok _ (List.getElem_mem hlt)
            have hsx := hs4 _ (List.getElem_mem hlt)
            have hw1 : b1 < wr.heap.size := Nat.lt_of_lt_of_le hb1 HK.out.size
            have nb1 : b1 ≠ w.heap.size := by omega
            generalize l[k] = x at *
            have hlv := HO.out.lt
            have HO3 := Lib.hid (fun (w' : World) (q : Kept wr w' (· ≠ w.heap.size)) => HO.out.kept q (fun b' e => by show b' ≠ w.heap.size; have := (hlv b' e).1; omega))
            have CW := Lib.hid (write_any (ptr w.heap.size) s x hox (by omega) wr (.inr ⟨_, rfl, HA.out⟩))
            have CB := Lib.hid (fun W => bytes_any x hox (by omega) W)
            have HWS := Lib.hid (HWS1.out.next x)
            have hthl := thB_len hox hsx
            clear hc hox hlv
--@body
            cases long with
            | true =>
              go_wp2_with (first
                | (go_at_call 10; ((with_reducible refine CW.out.mono ?_); rintro e wa ⟨rfl, _, q3⟩; obtain ⟨q4, q5⟩ := q3 _ rfl; have A4 := Lib.hid q4; have OA := Lib.hid (HO3.out wa q5); have KA := Lib.hid (HK.out.trans (q5.below HK.out.size (fun i hi => by show i ≠ w.heap.size; omega))); have da0 := (q5.cell (sp := none) hw1 nb1).trans d0; have da1 := (q5.cell (sp := none) hw1 nb1).trans d1; have da2 := (q5.cell (sp := none) hw1 nb1).trans d2; have hwa := Nat.lt_of_lt_of_le hw1 q5.size; clear q3 q4 q5))
                | (go_at_call 11; ((with_reducible refine (CB.out _).mono ?_); rintro e wb ⟨vb, rfl, ob, kb⟩; obtain ⟨Ab, cb, rfl, rb, hcb, _⟩ := ob.form; have RB := Lib.hid rb; have OB := Lib.hid (OA.out.below kb); have KB := Lib.hid (bThen KA.out kb); have AB := Lib.hid (A4.out.below kb); have db0 := (kb.cell (p := ⟨b1, off + k * 3, none⟩) hwa).trans da0; have db2 := (kb.cell (p := ⟨b1, off + k * 3 + 2, none⟩) hwa).trans da2; clear ob rb kb)))
              go_roundw
              case rel => exact ⟨k + 1, want, true, wrT s x, rfl, by go_num, by omega, Lib.hid (by have := HWS.out; simpa using this), AB, OB, KB⟩
              case measure => simp [intOf]; omega
            | false =>
              have hwl := (HWS1.out.short).2
              by_cases h4 : x.k % 5 = 4
              · have e4 : ((x.k : Int) % 5 == 4) = true := by simp; omega
                by_cases h255 : 255 < x.s.length
                · have e255 : (255 : Int) < (x.s.length : Int) := by omega
                  have hz := str_size x.s
                  go_wp2_with (first
                    | (go_at_call 10; ((with_reducible refine CW.out.mono ?_); rintro e wa ⟨rfl, _, q3⟩; obtain ⟨q4, q5⟩ := q3 _ rfl; have A4 := Lib.hid q4; have OA := Lib.hid (HO3.out wa q5); have KA := Lib.hid (HK.out.trans (q5.below HK.out.size (fun i hi => by show i ≠ w.heap.size; omega))); have da0 := (q5.cell (sp := none) hw1 nb1).trans d0; have da1 := (q5.cell (sp := none) hw1 nb1).trans d1; have da2 := (q5.cell (sp := none) hw1 nb1).trans d2; have hwa := Nat.lt_of_lt_of_le hw1 q5.size; clear q3 q4 q5))
                    | (go_at_call 11; ((with_reducible refine (CB.out _).mono ?_); rintro e wb ⟨vb, rfl, ob, kb⟩; obtain ⟨Ab, cb, rfl, rb, hcb, _⟩ := ob.form; have RB := Lib.hid rb; have OB := Lib.hid (OA.out.below kb); have KB := Lib.hid (bThen KA.out kb); have AB := Lib.hid (A4.out.below kb); have db0 := (kb.cell (p := ⟨b1, off + k * 3, none⟩) hwa).trans da0; have db2 := (kb.cell (p := ⟨b1, off + k * 3 + 2, none⟩) hwa).trans da2; clear ob rb kb)))
                  go_roundw
                  case rel => exact ⟨k + 1, want, true, wrT s x, rfl, by go_num, by omega, Lib.hid (by have := HWS.out; simpa [h4, h255] using this), AB, OB, KB⟩
                  case measure => simp [intOf]; omega
                · have e255 : ¬ (255 : Int) < (x.s.length : Int) := by omega
                  by_cases hbig : 65536 < want.length + (thB x).length
                  · have ebig : (65536 : Int) < (want.length : Int) + ((thB x).length : Int) := by omega
                    have hz := str_size x.s
                    go_wp2_with (first
                      | (go_at_call 10; ((with_reducible refine CW.out.mono ?_); rintro e wa ⟨rfl, _, q3⟩; obtain ⟨q4, q5⟩ := q3 _ rfl; have A4 := Lib.hid q4; have OA := Lib.hid (HO3.out wa q5); have KA := Lib.hid (HK.out.trans (q5.below HK.out.size (fun i hi => by show i ≠ w.heap.size; omega))); have da0 := (q5.cell (sp := none) hw1 nb1).trans d0; have da1 := (q5.cell (sp := none) hw1 nb1).trans d1; have da2 := (q5.cell (sp := none) hw1 nb1).trans d2; have hwa := Nat.lt_of_lt_of_le hw1 q5.size; clear q3 q4 q5))
                      | (go_at_call 11; ((with_reducible refine (CB.out _).mono ?_); rintro e wb ⟨vb, rfl, ob, kb⟩; obtain ⟨Ab, cb, rfl, rb, hcb, _⟩ := ob.form; have RB := Lib.hid rb; have OB := Lib.hid (OA.out.below kb); have KB := Lib.hid (bThen KA.out kb); have AB := Lib.hid (A4.out.below kb); have db0 := (kb.cell (p := ⟨b1, off + k * 3, none⟩) hwa).trans da0; have db2 := (kb.cell (p := ⟨b1, off + k * 3 + 2, none⟩) hwa).trans da2; clear ob rb kb)))
                    go_roundw
                    case rel => exact ⟨k + 1, want, true, wrT s x, rfl, by go_num, by omega, Lib.hid (by have := HWS.out; simpa [h4, h255, hbig] using this), AB, OB, KB⟩
                    case measure => simp [intOf]; omega
                  · have ebig : ¬ (65536 : Int) < (want.length : Int) + ((thB x).length : Int) := by omega
                    have hz := str_size x.s
                    have de : decide ((255 : Int) < (x.s.length : Int)) = false := decide_eq_false e255
                    have db : decide ((65536 : Int) < (want.length : Int) + ((thB x).length : Int)) = false := decide_eq_false ebig
                    go_wp2_with (first
                      | (go_at_call 10; ((with_reducible refine CW.out.mono ?_); rintro e wa ⟨rfl, _, q3⟩; obtain ⟨q4, q5⟩ := q3 _ rfl; have A4 := Lib.hid q4; have OA := Lib.hid (HO3.out wa q5); have KA := Lib.hid (HK.out.trans (q5.below HK.out.size (fun i hi => by show i ≠ w.heap.size; omega))); have da0 := (q5.cell (sp := none) hw1 nb1).trans d0; have da1 := (q5.cell (sp := none) hw1 nb1).trans d1; have da2 := (q5.cell (sp := none) hw1 nb1).trans d2; have hwa := Nat.lt_of_lt_of_le hw1 q5.size; clear q3 q4 q5))
                      | (go_at_call 11; ((with_reducible refine (CB.out _).mono ?_); rintro e wb ⟨vb, rfl, ob, kb⟩; obtain ⟨Ab, cb, rfl, rb, hcb, _⟩ := ob.form; have RB := Lib.hid rb; have OB := Lib.hid (OA.out.below kb); have KB := Lib.hid (bThen KA.out kb); have AB := Lib.hid (A4.out.below kb); have db0 := (kb.cell (p := ⟨b1, off + k * 3, none⟩) hwa).trans da0; have db2 := (kb.cell (p := ⟨b1, off + k * 3 + 2, none⟩) hwa).trans da2; clear ob rb kb))
                      | (at_builtin; refine IX.wpList_spreadK u8K rfl (.tmp 73) (.tmp 74) rfl (w.heap.size + 1) _ want rfl OB.out wb.heap.size Ab (thB x).length cb (thB x) rfl rfl RB.out ?c1 ?c2 ?_))
                    case c1 => omega
                    case c2 => have := AB.out.lt; omega
                    intro v5 w5 o5 g5 f5
                    have K5 := Lib.hid (KB.out.grown g5 KB.out.size (fun a ha => by have := (OB.out.lt a ha).1; omega))
                    have k5 : Kept wb w5 (· ≤ w.heap.size) := (Kept.refl _ _).grown g5 (fun a ha _ q => by have := (OB.out.lt a ha).1; have q : a ≤ w.heap.size := q; omega)
                    have A5 := Lib.hid (AB.out.kept k5 (Nat.le_refl _))
                    have O5 := Lib.hid o5
                    clear o5 g5 f5 k5
                    go_wp2
                    go_roundw
                    case rel => exact ⟨k + 1, want ++ thB x, false, wrT s x, (by first | rfl | (simp; omega)), by go_num, by omega, Lib.hid (by have := HWS.out; simpa [h4, h255, hbig] using this), A5, O5, K5⟩
                    case measure => simp [intOf]; omega
              · have e4 : ((x.k : Int) % 5 == 4) = false := by simp; omega
                by_cases hbig : 65536 < want.length + (thB x).length
                · have ebig : (65536 : Int) < (want.length : Int) + ((thB x).length : Int) := by omega
                  go_wp2_with (first
                    | (go_at_call 10; ((with_reducible refine CW.out.mono ?_); rintro e wa ⟨rfl, _, q3⟩; obtain ⟨q4, q5⟩ := q3 _ rfl; have A4 := Lib.hid q4; have OA := Lib.hid (HO3.out wa q5); have KA := Lib.hid (HK.out.trans (q5.below HK.out.size (fun i hi => by show i ≠ w.heap.size; omega))); have da0 := (q5.cell (sp := none) hw1 nb1).trans d0; have da1 := (q5.cell (sp := none) hw1 nb1).trans d1; have da2 := (q5.cell (sp := none) hw1 nb1).trans d2; have hwa := Nat.lt_of_lt_of_le hw1 q5.size; clear q3 q4 q5))
                    | (go_at_call 11; ((with_reducible refine (CB.out _).mono ?_); rintro e wb ⟨vb, rfl, ob, kb⟩; obtain ⟨Ab, cb, rfl, rb, hcb, _⟩ := ob.form; have RB := Lib.hid rb; have OB := Lib.hid (OA.out.below kb); have KB := Lib.hid (bThen KA.out kb); have AB := Lib.hid (A4.out.below kb); have db0 := (kb.cell (p := ⟨b1, off + k * 3, none⟩) hwa).trans da0; have db2 := (kb.cell (p := ⟨b1, off + k * 3 + 2, none⟩) hwa).trans da2; clear ob rb kb)))
                  go_roundw
                  case rel => exact ⟨k + 1, want, true, wrT s x, rfl, by go_num, by omega, Lib.hid (by have := HWS.out; simpa [h4, hbig] using this), AB, OB, KB⟩
                  case measure => simp [intOf]; omega
                · have ebig : ¬ (65536 : Int) < (want.length : Int) + ((thB x).length : Int) := by omega
                  have db : decide ((65536 : Int) < (want.length : Int) + ((thB x).length : Int)) = false := decide_eq_false ebig
                  go_wp2_with (first
                    | (go_at_call 10; ((with_reducible refine CW.out.mono ?_); rintro e wa ⟨rfl, _, q3⟩; obtain ⟨q4, q5⟩ := q3 _ rfl; have A4 := Lib.hid q4; have OA := Lib.hid (HO3.out wa q5); have KA := Lib.hid (HK.out.trans (q5.below HK.out.size (fun i hi => by show i ≠ w.heap.size; omega))); have da0 := (q5.cell (sp := none) hw1 nb1).trans d0; have da1 := (q5.cell (sp := none) hw1 nb1).trans d1; have da2 := (q5.cell (sp := none) hw1 nb1).trans d2; have hwa := Nat.lt_of_lt_of_le hw1 q5.size; clear q3 q4 q5))
                    | (go_at_call 11; ((with_reducible refine (CB.out _).mono ?_); rintro e wb ⟨vb, rfl, ob, kb⟩; obtain ⟨Ab, cb, rfl, rb, hcb, _⟩ := ob.form; have RB := Lib.hid rb; have OB := Lib.hid (OA.out.below kb); have KB := Lib.hid (bThen KA.out kb); have AB := Lib.hid (A4.out.below kb); have db0 := (kb.cell (p := ⟨b1, off + k * 3, none⟩) hwa).trans da0; have db2 := (kb.cell (p := ⟨b1, off + k * 3 + 2, none⟩) hwa).trans da2; clear ob rb kb))
                    | (at_builtin; refine IX.wpList_spreadK u8K rfl (.tmp 73) (.tmp 74) rfl (w.heap.size + 1) _ want rfl OB.out wb.heap.size Ab (thB x).length cb (thB x) rfl rfl RB.out ?c1 ?c2 ?_))
                  case c1 => omega
                  case c2 => have := AB.out.lt; omega
                  intro v5 w5 o5 g5 f5
                  have K5 := Lib.hid (KB.out.grown g5 KB.out.size (fun a ha => by have := (OB.out.lt a ha).1; omega))
                  have k5 : Kept wb w5 (· ≤ w.heap.size) := (Kept.refl _ _).grown g5 (fun a ha _ q => by have := (OB.out.lt a ha).1; have q : a ≤ w.heap.size := q; omega)
                  have A5 := Lib.hid (AB.out.kept k5 (Nat.le_refl _))
                  have O5 := Lib.hid o5
                  clear o5 g5 f5 k5
                  go_wp2
                  go_roundw
                  case rel => exact ⟨k + 1, want ++ thB x, false, wrT s x, (by first | rfl | (simp; omega)), by go_num, by omega, Lib.hid (by have := HWS.out; simpa [h4, hbig] using this), A5, O5, K5⟩
                  case measure => simp [intOf]; omega
--@bodyend
          · obtain rfl : k = l.length := by omega
            have j1 : ¬ (l.length : Int) < (l.length : Int) := by omega
            have HWS0 := HWS1
            go_wp2
            go_roundw
            case rel => exact ⟨T + 1, want, long, s, rfl, by go_num, by omega, HWS1, HA, HO, HK⟩
            case measure => simp [intOf]; omega
      · have m1 : ¬ ((T : Int) < 1 + (times : Int) % 4) := by omega
        cases long0 with
        | true =>
          have hs := HWS0.out.long_
          subst hs
          have CB := Lib.hid (bytes_no w.heap.size wr HA0.out)
          go_wp2
          go_loopw [11] (fun iv wq => iv = .int .i64 0 ∧ wq = wr) (fun _ _ => 0)
          case atStart => exact ⟨rfl, rfl⟩
          case round =>
            obtain ⟨rfl, rfl⟩ := hrel
            go_wp2_with (go_at_call 12; ((with_reducible refine CB.out.mono ?_); rintro e wa ⟨rfl, rfl⟩))
            go_ret
            exact ⟨rfl, HK0.out⟩
        | false =>
          obtain ⟨hs, hwl⟩ := HWS0.out.short
          subst hs
          obtain ⟨Aw, cw, rfl, _, _, _⟩ := HO0.out.form
          have CB := Lib.hid (fun W (q : WAt W w.heap.size (some want0)) => bytes_some w.heap.size want0 W q)
          go_wp2
          go_loopw [11] (fun iv wq => ∃ n : Nat, iv = .int .i64 n ∧ n ≤ 2 ∧ Hid (WAt wq w.heap.size (some want0)) ∧ Hid (OwnK u8K wq (w.heap.size + 1) (.slice Aw want0.length cw) want0) ∧ Hid (Below w.heap.size w wq)) (fun iv _ => 2 - (intOf iv).toNat)
          case atStart => exact ⟨0, rfl, by omega, HA0, HO0, HK0⟩
          case round =>
            obtain ⟨n, rfl, hn, HA, HO, HK⟩ := hrel
            by_cases hlt : n < 2
            · have j1 : (n : Int) < 2 := by omega
              have hlv := HO.out.lt
              go_wp2_with (go_at_call 12; ((with_reducible refine (CB.out _ HA.out).mono ?_); rintro e wa ⟨v, rfl, ga, ka⟩; obtain ⟨g, cg, rfl, rg, hcg, hg1, hg2, hcell⟩ := ga.rd; have HO2 := Lib.hid (HO.out.below ka); obtain ⟨_, _, e2, rw_, _, _⟩ := HO2.out.form; cases e2; have hcv1 := conv_str (c := cg) rg rfl; have hcv2 := conv_str (c := cw) rw_ rfl; have HA2 := Lib.hid (HA.out.below ka); have KA := Lib.hid (bThen HK.out ka); have HC := Lib.hid hcell; have GQ := Lib.hid (show w.heap.size + 1 ≤ g ∧ (∀ b', (Value.slice Aw want0.length cw).ownBlock = some b' → b' ≠ g) from ⟨Nat.le_trans HA.out.lt hg1, fun b' e => by have := (hlv b' e).2; omega⟩); clear ga ka rg rw_ hcell))
              go_loopw [14] (fun iv wq => ∃ i : Nat, iv = .int .i64 i ∧ i ≤ want0.length ∧ Hid (∀ j, j < want0.length → (wq.cell? ⟨g, j, none⟩).isSome = true ∧ wq.frozen? ⟨g, j, none⟩ = false) ∧ Hid (Kept wa wq (· ≠ g))) (fun iv _ => want0.length - (intOf iv).toNat)
              case atStart => exact ⟨0, rfl, Nat.zero_le _, HC, Lib.hid (Kept.refl _ _)⟩
              case round =>
                obtain ⟨i, rfl, hi, HI, HKK⟩ := hrel
                by_cases hlti : i < want0.length
                · have m2 : (i : Int) < (want0.length : Int) := by omega
                  obtain ⟨hsome, hfro⟩ := HI.out i hlti
                  obtain ⟨u, hu⟩ := Option.isSome_iff_exists.1 hsome
                  clear hsome
                  go_wp2
                  go_roundw
                  case rel =>
                    refine ⟨i + 1, by go_num, by omega, Lib.hid (fun j hj => ?_), Lib.hid (kset2 HKK.out _)⟩
                    obtain ⟨q1, q2⟩ := HI.out j hj
                    refine ⟨?_, by simpa using q2⟩
                    by_cases e : i = j
                    · subst e; rw [World.cell?_setCell_same _ _ _ hu]; rfl
                    · rw [World.cell?_setCell_other (h := fun z => e (by injection z))]; exact q1
                  case measure => simp [intOf]; omega
                · have hie : i = want0.length := by omega
                  subst hie
                  have m2 : ¬ (want0.length : Int) < (want0.length : Int) := by omega
                  go_wp2
                  go_roundw
                  case rel =>
                    refine ⟨n + 1, by go_num, by omega, Lib.hid (HA2.out.kept HKK.out (by show w.heap.size ≠ g; have := GQ.out.1; omega)), Lib.hid (HO2.out.kept HKK.out (fun b' e => GQ.out.2 b' e)), Lib.hid (KA.out.trans (HKK.out.below KA.out.size (fun i hi => by show i ≠ g; have := GQ.out.1; omega)))⟩
                  case measure => simp [intOf]; omega
            · have hne : n = 2 := by omega
              subst hne
              go_wp2
              go_ret
              exact ⟨rfl, HK.out⟩
end Go.Proofs.Ytfofpbdccgcocaa.YX
