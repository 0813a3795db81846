/-
  Things in memory; WALKS: Long, write, bytes, wrote.
-/
import Derived.Test.YtfofpbdccgcocaaYBytes
import Derived.Test.YtfofpbdccgcocaaYRefText
namespace Go.Proofs.Ytfofpbdccgcocaa.YX
open Go.RowKit HL
open IX (ptr El cellsK cellsK_at cellsK_len OwnK RdK Kept slice_toK slice_fromK)
set_option maxRecDepth 100000
set_option linter.unusedVariables false
set_option linter.unusedSimpArgs false

abbrev thC (x : Th) : Array Value := #[.int .u8 (x.k : Int), .int .u64 (x.n : Int), str x.s]
abbrev th (x : Th) : Value := .agg (thC x)
noncomputable def thK : El Th where
  T := 22
  e := 32
  size := 3
  bytes := 32
  z := .agg #[.int .u8 0, .int .u64 0, .string ByteArray.empty]
  i := IX.infoOf 32
  enc := fun x => [.int .u8 (x.k : Int), .int .u64 (x.n : Int), str x.s]
  el := by kernel_rfl
  ht := Try.underlying22
  hi := by kernel_rfl
  hz := by kernel_rfl
  hs := by kernel_rfl
  hb := by kernel_rfl
  hzs := rfl
  pos := by decide
  len := fun _ => rfl
  one := fun _ u hu => by simp at hu; rcases hu with rfl | rfl | rfl <;> rfl
  small := by decide
/-- The cells behind A, below block B, are the things l. -/
def RdT (w : World) (B : Nat) (A : Option Addr) (l : List Th) : Prop := l = [] ∨ ∃ b off, A = some ⟨b, off, none⟩ ∧ b < B ∧ ∀ j x, l[j]? = some x → w.cell? ⟨b, off + j * 3, none⟩ = some (.int .u8 (x.k : Int)) ∧ w.cell? ⟨b, off + j * 3 + 1, none⟩ = some (.int .u64 (x.n : Int)) ∧ w.cell? ⟨b, off + j * 3 + 2, none⟩ = some (str x.s)
theorem RdT.at_ {w : World} {B : Nat} {A : Option Addr} {l : List Th} (h : RdT w B A l) (h0 : 0 < l.length) : ∃ b off, A = some ⟨b, off, none⟩ ∧ b < B ∧ ∀ j x, l[j]? = some x → w.cell? ⟨b, off + j * 3, none⟩ = some (.int .u8 (x.k : Int)) ∧ w.cell? ⟨b, off + j * 3 + 1, none⟩ = some (.int .u64 (x.n : Int)) ∧ w.cell? ⟨b, off + j * 3 + 2, none⟩ = some (str x.s) := by
  rcases h with rfl | h
  · simp at h0
  · exact h
theorem rdT_of {w : World} {B : Nat} {A : Option Addr} {l : List Th} (h : RdK thK w B A l) : RdT w B A l := by
  rcases h with h | ⟨b, off, e, hb, hc⟩
  · exact .inl h
  · refine .inr ⟨b, off, e, hb, fun j x hx => ?_⟩
    have h0 := hc _ _ (cellsK_at thK hx (i := 0) (u := .int .u8 (x.k : Int)) rfl)
    have h1 := hc _ _ (cellsK_at thK hx (i := 1) (u := .int .u64 (x.n : Int)) rfl)
    have h2 := hc _ _ (cellsK_at thK hx (i := 2) (u := str x.s) rfl)
    exact ⟨h0, by rw [Nat.add_assoc]; exact h1, by rw [Nat.add_assoc]; exact h2⟩
theorem RdT.below {w w' : World} {B : Nat} {A : Option Addr} {l : List Th} (h : RdT w B A l) (k : Below B w w') : RdT w' B A l := by
  rcases h with h | ⟨b, off, e, hb, hc⟩
  · exact .inl h
  · exact .inr ⟨b, off, e, hb, fun j x hx => ⟨(k.cell (p := ⟨b, _, none⟩) hb).trans (hc j x hx).1, (k.cell (p := ⟨b, _, none⟩) hb).trans (hc j x hx).2.1, (k.cell (p := ⟨b, _, none⟩) hb).trans (hc j x hx).2.2⟩⟩
theorem RdT.kept {w w' : World} {B : Nat} {A : Option Addr} {l : List Th} {P : Nat → Prop} (h : RdT w B A l) (hB : B ≤ w.heap.size) (k : Kept w w' P) (hp : ∀ b, b < B → P b) : RdT w' B A l := h.below (k.below hB (fun b hb => hp b hb))
/-- More than is gone through. -/
def longB (l : List Th) : Bool := decide (400 < l.length) || l.any fun x => decide (400 < x.s.length)
theorem str_size (s : Bs) : (⟨s.toArray⟩ : ByteArray).size = s.length := by simp [ByteArray.size]
set_option maxHeartbeats 2000000 in
theorem long_any (l : List Th) (A : Option Addr) (c B : Nat) (w : World) (h : RdT w B A l) : Calls Try.prog 9 #[.slice A l.length c] w fun e w' => e = .returned (.bool (longB l)) ∧ w = w' := by
  by_cases h4 : 400 < l.length
  · have i1 : (400 : Int) < (l.length : Int) := by omega
    have e : longB l = true := by simp [longB, h4]
    rw [e]
    clear h e
    go_enter Try.func9, Try.ntmps9
    go_wp2
    go_ret
    exact ⟨rfl, rfl⟩
  · have i1 : ¬ (400 : Int) < (l.length : Int) := by omega
    have HR := Lib.hid h
    obtain ⟨t, ht⟩ : ∃ t, longB l = t := ⟨_, rfl⟩
    rw [ht]
    have HT := Lib.hid ht
    clear h ht
    go_enter Try.func9, Try.ntmps9
    go_wp2
    go_loopw [3] (fun i wr => ∃ k : Nat, i = .int .i64 k ∧ k ≤ l.length ∧ Hid (∀ x ∈ l.take k, ¬ 400 < x.s.length) ∧ wr = w) (fun i _ => l.length - (intOf i).toNat)
    case atStart => exact ⟨0, rfl, Nat.zero_le _, Lib.hid (by simp), rfl⟩
    case round =>
      obtain ⟨k, rfl, hk, HN, rfl⟩ := hrel
      by_cases hlt : k < l.length
      · have j1 : (k : Int) < (l.length : Int) := by omega
        obtain ⟨b, off, rfl, hb, hc⟩ := HR.out.at_ (by omega)
        obtain ⟨c0, c1, c2⟩ := hc k _ (List.getElem?_eq_getElem hlt)
        have hz := str_size l[k].s
        have HM : Hid (400 < l[k].s.length → t = true) := Lib.hid (fun q => by
          rw [← HT.out]
          have : l.any (fun x => decide (400 < x.s.length)) = true := List.any_eq_true.2 ⟨l[k], List.getElem_mem hlt, by simpa using q⟩
          simp only [longB, this, Bool.or_true])
        have HK : Hid (¬ 400 < l[k].s.length → ∀ x ∈ l.take (k + 1), ¬ 400 < x.s.length) := Lib.hid (fun q x hx => by
          rw [List.take_succ_eq_append_getElem hlt] at hx
          rcases List.mem_append.1 hx with h | h
          · exact HN.out x h
          · obtain rfl : x = l[k] := by simpa using h
            exact q)
        clear hc c0 c1
        generalize l[k] = x at *
        by_cases hs : 400 < x.s.length
        · have j2 : (400 : Int) < (x.s.length : Int) := by omega
          have ht := HM.out hs
          go_wp2
          go_ret
          exact ⟨by first | rfl | (rw [ht]; rfl), rfl⟩
        · have j2 : ¬ (400 : Int) < (x.s.length : Int) := by omega
          have hn := Lib.hid (HK.out hs)
          go_wp2
          go_roundw
          case rel => exact ⟨k + 1, by go_num, by omega, hn, trivial⟩
          case measure => simp [intOf]; omega
      · obtain rfl : k = l.length := by omega
        have j1 : ¬ (l.length : Int) < (l.length : Int) := by omega
        have ht : t = false := by
          rw [← HT.out]
          have q := HN.out
          rw [List.take_length] at q
          have : l.any (fun x => decide (400 < x.s.length)) = false := by
            apply List.any_eq_false.2
            intro x hx hx2
            exact q x hx (by simpa using hx2)
          simp [longB, h4, this]
        go_wp2
        go_ret
        exact ⟨by first | rfl | (rw [ht]; rfl), rfl⟩
theorem long_no {l : List Th} (h : longB l = false) : l.length ≤ 400 ∧ ∀ x ∈ l, x.s.length ≤ 400 := by
  simp only [longB, Bool.or_eq_false_iff, decide_eq_false_iff_not, List.any_eq_false] at h
  exact ⟨by omega, fun x hx => by have := h.2 x hx; simp at this; omega⟩
theorem byte_wrap {n : Nat} : IntKind.u8.wrap (n : Int) = (n : Int) % 256 := by simp [IntKind.wrap, IntKind.bits, IntKind.signed]
theorem i64_toI {n : Nat} (h : n < 18446744073709551616) : IntKind.i64.wrap (n : Int) = toI n := by
  unfold toI; simp [IntKind.wrap, IntKind.bits, IntKind.signed]; split <;> omega
theorem wByte_j (v : Value) (s : Option Bs) (n : Nat) (hn : n < 256) (j : Int) (hj : j = n) (w : World) (h : WPt w v s) : Calls Try.prog 28 #[v, .int .u8 j] w fun e w' => Wr w v (addW s [UInt8.ofNat n]) e w' := by subst hj; exact wByte_any v s n hn w h
theorem wTruth_j (v : Value) (s : Option Bs) (n : Nat) (hn : n < 2) (t : Bool) (ht : t = (n == 1)) (w : World) (h : WPt w v s) : Calls Try.prog 30 #[v, .bool t] w fun e w' => Wr w v (addW s [UInt8.ofNat n]) e w' := by
  have := wTruth_any v s t w h
  have e : (if t then (1 : UInt8) else 0) = UInt8.ofNat n := by
    subst ht
    rcases (show n = 0 ∨ n = 1 by omega) with rfl | rfl <;> rfl
  rw [e] at this
  exact this
set_option maxHeartbeats 2000000 in
theorem write_any (v : Value) (s : Option Bs) (x : Th) (hx : ThOk x) (hs : x.s.length ≤ 900000) (w : World) (h : WPt w v s) : Calls Try.prog 10 #[v, th x] w fun e w' => Wr w v (wrT s x) e w' := by
  have b1 := bAl (Below.refl w.heap.size w) (.cells (thC x) 32)
  have h1 := h.below b1
  have mc := (AtC.new w (thC x) 32).c
  have c0 := mc 0
  have c1 := mc 1
  have c2 := mc 2
  have B1 := Lib.hid b1
  have hn := hx.n
  have hk5 : x.k % 5 < 5 := Nat.mod_lt _ (by decide)
  have key : ∀ s2, wrT s x = s2 → (∀ e w', Wr (w.alloc (.cells (thC x) 32)) v s2 e w' → Wr w v (wrT s x) e w') := fun s2 hs2 e w' q => by rw [hs2]; exact q.pre b1
  by_cases k0 : x.k % 5 = 0
  · have e1 : (x.k : Int) % 5 = 0 := by omega
    have C := Lib.hid (wByte_j v s (x.n % 256) (by omega) ((x.n : Int) % 256) (by simp) _ h1)
    have eb := byte_wrap (n := x.n)
    have HK := Lib.hid (key (addW s [UInt8.ofNat (x.n % 256)]) (by simp [wrT, thB, k0]))
    clear key mc h h1 b1
    go_enter Try.func10, Try.ntmps10
    go_wp2_with (go_at_call 28; ((refine C.out.mono ?_); intro e w1 q; obtain ⟨rfl, q2, q3⟩ := (HK.out _ _ q); have H1 := Lib.hid (And.intro q2 q3); clear q q2 q3))
    first | go_end0 | (refine bodyPost_ret (results_none rfl _ _ _) rfl ?_)
    exact ⟨rfl, H1.out.1, H1.out.2⟩
  · by_cases k1 : x.k % 5 = 1
    · have e1 : (x.k : Int) % 5 = 1 := by omega
      have C := Lib.hid (wTruth_j v s (x.n % 2) (by omega) ((x.n : Int) % 2 == 1) (by rw [Bool.eq_iff_iff]; simp; omega) _ h1)
      have HK := Lib.hid (key (addW s [UInt8.ofNat (x.n % 2)]) (by simp [wrT, thB, k1]))
      clear key mc h h1 b1
      go_enter Try.func10, Try.ntmps10
      go_wp2_with (go_at_call 30; ((refine C.out.mono ?_); intro e w1 q; obtain ⟨rfl, q2, q3⟩ := (HK.out _ _ q); have H1 := Lib.hid (And.intro q2 q3); clear q q2 q3))
      first | go_end0 | (refine bodyPost_ret (results_none rfl _ _ _) rfl ?_)
      exact ⟨rfl, H1.out.1, H1.out.2⟩
    · by_cases k2 : x.k % 5 = 2
      · have e1 : (x.k : Int) % 5 = 2 := by omega
        have C := Lib.hid (wUint_any v s x.n x.n rfl hn _ h1)
        have HK := Lib.hid (key (addW s (numB x.n)) (by simp [wrT, thB, k2]))
        clear key mc h h1 b1
        go_enter Try.func10, Try.ntmps10
        go_wp2_with (go_at_call 31; ((refine C.out.mono ?_); intro e w1 q; obtain ⟨rfl, q2, q3⟩ := (HK.out _ _ q); have H1 := Lib.hid (And.intro q2 q3); clear q q2 q3))
        first | go_end0 | (refine bodyPost_ret (results_none rfl _ _ _) rfl ?_)
        exact ⟨rfl, H1.out.1, H1.out.2⟩
      · by_cases k3 : x.k % 5 = 3
        · have e1 : (x.k : Int) % 5 = 3 := by omega
          have C := Lib.hid (wInt_any v s (toI x.n) (toI_r hn).1 (toI_r hn).2 _ h1)
          have ei := i64_toI hn
          have HK := Lib.hid (key (addW s (numB (intN (toI x.n)))) (by simp [wrT, thB, k3]))
          clear key mc h h1 b1
          go_enter Try.func10, Try.ntmps10
          go_wp2_with (go_at_call 32; ((refine C.out.mono ?_); intro e w1 q; obtain ⟨rfl, q2, q3⟩ := (HK.out _ _ q); have H1 := Lib.hid (And.intro q2 q3); clear q q2 q3))
          first | go_end0 | (refine bodyPost_ret (results_none rfl _ _ _) rfl ?_)
          exact ⟨rfl, H1.out.1, H1.out.2⟩
        · have e1 : (x.k : Int) % 5 = 4 := by omega
          have C := Lib.hid (wText_any v s x.s _ hs h1)
          have HK := Lib.hid (key (if 255 < x.s.length then none else addW s (numB x.s.length ++ x.s)) (by
            have k4 : x.k % 5 = 4 := by omega
            simp [wrT, thB, k4]))
          clear key mc h h1 b1
          go_enter Try.func10, Try.ntmps10
          go_wp2_with (go_at_call 29; ((refine C.out.mono ?_); intro e w1 q; obtain ⟨rfl, q2, q3⟩ := (HK.out _ _ q); have H1 := Lib.hid (And.intro q2 q3); clear q q2 q3))
          first | go_end0 | (refine bodyPost_ret (results_none rfl _ _ _) rfl ?_)
          exact ⟨rfl, H1.out.1, H1.out.2⟩
end Go.Proofs.Ytfofpbdccgcocaa.YX
