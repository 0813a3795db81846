/-
  WALKS: bytes, wrote of the law's.
-/
import Derived.Test.YtfofpbdccgcocaaYThing
namespace Go.Proofs.Ytfofpbdccgcocaa.YX
open Go.RowKit HL
open IX (ptr El cellsK cellsK_at cellsK_len OwnK RdK Kept slice_toK slice_fromK)
set_option maxRecDepth 100000
set_option linter.unusedVariables false
set_option linter.unusedSimpArgs false

set_option maxHeartbeats 2000000 in
theorem bytes_any (x : Th) (hx : ThOk x) (hs : x.s.length ≤ 900000) (w : World) : Calls Try.prog 11 #[th x] w fun e w' => Own w (thB x) e w' := by
  have b1 := bAl (Below.refl w.heap.size w) (.cells (thC x) 32)
  have mc := (AtC.new w (thC x) 32).c
  have c0 := mc 0
  have c1 := mc 1
  have c2 := mc 2
  have B1 := Lib.hid b1
  have hn := hx.n
  have hk5 : x.k % 5 < 5 := Nat.mod_lt _ (by decide)
  by_cases k0 : x.k % 5 = 0
  · have e1 : (x.k : Int) % 5 = 0 := by omega
    have hb : thB x = [UInt8.ofNat (x.n % 256)] := by simp [thB, k0]
    rw [hb]
    have eb := byte_wrap (n := x.n)
    obtain ⟨y, hy⟩ : ∃ y, y = UInt8.ofNat (x.n % 256) := ⟨_, rfl⟩
    have hv : Value.int .u8 ((x.n : Int) % 256) = YX.u8 y := by unfold YX.u8; rw [hy, u8n (by omega)]; simp
    rw [← hy]
    have O1 := Lib.hid (own1 (w.alloc (.cells (thC x) 32)) w.heap.size b1.size y rfl)
    clear hy hb mc b1
    go_enter Try.func11, Try.ntmps11
    go_wp2
    go_ret
    exact ⟨_, rfl, by simpa using O1.out, bAl B1.out _⟩
  · by_cases k1 : x.k % 5 = 1
    · have e1 : (x.k : Int) % 5 = 1 := by omega
      have C : Hid (∀ W, Calls Try.prog 33 #[.bool ((x.n : Int) % 2 == 1)] W fun e w' => Own W (thB x) e w') := Lib.hid (fun W => (refT_any ((x.n : Int) % 2 == 1) W).mono fun e w' q => by
        have e : [if ((x.n : Int) % 2 == 1) then (1 : UInt8) else 0] = thB x := by
          have e2 : thB x = [UInt8.ofNat (x.n % 2)] := by simp [thB, k1]
          rw [e2]
          rcases (show x.n % 2 = 0 ∨ x.n % 2 = 1 by omega) with h | h
          · rw [if_neg (by simp; omega), h]; rfl
          · rw [if_pos (by simp; omega), h]; rfl
        rw [← e]; exact q)
      clear mc b1
      generalize thB x = t at *
      go_enter Try.func11, Try.ntmps11
      go_wp2_with (go_at_call 33; ((refine (C.out _).mono ?_); intro e w1 q; obtain ⟨v, rfl, o1, q1⟩ := q.mono B1.out; have H1 := Lib.hid (And.intro o1 q1); clear q o1 q1))
      go_ret
      exact ⟨v, rfl, H1.out.1, H1.out.2⟩
    · by_cases k2 : x.k % 5 = 2
      · have e1 : (x.k : Int) % 5 = 2 := by omega
        have C : Hid (∀ W, Calls Try.prog 34 #[.int .u64 x.n] W fun e w' => Own W (thB x) e w') := Lib.hid (fun W => (refU_any x.n hn x.n W rfl).mono fun e w' q => by
          have e : thB x = numB x.n := by simp [thB, k2]
          rw [e]; exact q)
        clear mc b1
        generalize thB x = t at *
        go_enter Try.func11, Try.ntmps11
        go_wp2_with (go_at_call 34; ((refine (C.out _).mono ?_); intro e w1 q; obtain ⟨v, rfl, o1, q1⟩ := q.mono B1.out; have H1 := Lib.hid (And.intro o1 q1); clear q o1 q1))
        go_ret
        exact ⟨v, rfl, H1.out.1, H1.out.2⟩
      · by_cases k3 : x.k % 5 = 3
        · have e1 : (x.k : Int) % 5 = 3 := by omega
          have ei := i64_toI hn
          have C : Hid (∀ W, Calls Try.prog 35 #[.int .i64 (toI x.n)] W fun e w' => Own W (thB x) e w') := Lib.hid (fun W => (refI_any (toI x.n) (toI_r hn).1 (toI_r hn).2 W).mono fun e w' q => by
            have e : thB x = numB (intN (toI x.n)) := by simp [thB, k3]
            rw [e]; exact q)
          clear mc b1
          generalize thB x = t at *
          go_enter Try.func11, Try.ntmps11
          go_wp2_with (go_at_call 35; ((refine (C.out _).mono ?_); intro e w1 q; obtain ⟨v, rfl, o1, q1⟩ := q.mono B1.out; have H1 := Lib.hid (And.intro o1 q1); clear q o1 q1))
          go_ret
          exact ⟨v, rfl, H1.out.1, H1.out.2⟩
        · have e1 : (x.k : Int) % 5 = 4 := by omega
          have C : Hid (∀ W, Calls Try.prog 36 #[str x.s] W fun e w' => Own W (thB x) e w') := Lib.hid (fun W => (refS_any x.s hs W).mono fun e w' q => by
            have e : thB x = numB x.s.length ++ x.s := by simp [thB, k0, k1, k2, k3]
            rw [e]; exact q)
          clear mc b1
          generalize thB x = t at *
          go_enter Try.func11, Try.ntmps11
          go_wp2_with (go_at_call 36; ((refine (C.out _).mono ?_); intro e w1 q; obtain ⟨v, rfl, o1, q1⟩ := q.mono B1.out; have H1 := Lib.hid (And.intro o1 q1); clear q o1 q1))
          go_ret
          exact ⟨v, rfl, H1.out.1, H1.out.2⟩
/-- What Bytes tells of a writer's bytes. -/
def Told (w0 : World) (s : Option Bs) (e : Ending) (w' : World) : Prop :=
  Below w0.heap.size w0 w' ∧ match s with
  | some b => ∃ v, e = .returned (.tuple #[v, .int .i64 0]) ∧ Got w' w0.heap.size v b
  | none => e = .returned (.tuple #[.slice none 0 0, .int .i64 3])
theorem bytesW_any (B : Nat) (s : Option Bs) (w : World) (h : WAt w B s) : Calls Try.prog 12 #[ptr B] w fun e w' => Told w s e w' := by
  cases s with
  | none => exact (bytes_no B w h).mono fun e w' ⟨he, hw⟩ => ⟨hw ▸ Below.refl _ _, he⟩
  | some l => exact (bytes_some B l w h).mono fun e w' ⟨v, he, g, k⟩ => ⟨k, v, he, g⟩
theorem Got.base {w : World} {b0 b1 : Nat} {v : Value} {l : Bs} (h : Got w b1 v l) (hb : b0 ≤ b1) : Got w b0 v l := by
  obtain ⟨g, cap, cur, fz, e, h1, h2⟩ := h.x
  exact ⟨g, cap, cur, fz, e, Nat.le_trans hb h1, h2⟩
theorem Got.kept {w w' : World} {b0 : Nat} {v : Value} {l : Bs} {P : Nat → Prop} (h : Got w b0 v l) (k : Kept w w' P) (hp : ∀ j, b0 ≤ j → j < w.heap.size → P j) : Got w' b0 v l := by
  obtain ⟨g, cap, cur, fz, e, h1, h2, h3⟩ := h.x
  have hlt := (Array.getElem?_eq_some_iff.1 h2).1
  exact ⟨g, cap, cur, fz, e, h1, by rw [k.block g hlt (hp g h1 hlt)]; exact h2, h3⟩
theorem Got.below {w w' : World} {b0 : Nat} {v : Value} {l : Bs} (h : Got w b0 v l) (k : Below w.heap.size w w') : Got w' b0 v l := h.kept (P := fun _ => True) (.of_below k) (fun _ _ _ => trivial)
theorem Got.rd {w : World} {b0 : Nat} {v : Value} {l : Bs} (h : Got w b0 v l) : ∃ g c, v = .slice (some ⟨g, 0, none⟩) l.length c ∧ RdK u8K w w.heap.size (some ⟨g, 0, none⟩) l ∧ l.length ≤ c ∧ b0 ≤ g ∧ g < w.heap.size ∧ (∀ i, i < l.length → (w.cell? ⟨g, i, none⟩).isSome = true ∧ w.frozen? ⟨g, i, none⟩ = false) := by
  obtain ⟨g, cap, cur, fz, e, h1, h2, h3, h4, h5, h6, h7⟩ := h.x
  have hlt := (Array.getElem?_eq_some_iff.1 h2).1
  refine ⟨g, cap, e, rdY_back (.inr ⟨g, 0, rfl, hlt, fun j x hx => ?_⟩), h4, h1, hlt, fun i hi => ⟨?_, ?_⟩⟩
  · rw [Nat.zero_add, cell_of_row w g j cur _ fz h2]
    have q : (l.map YX.u8)[j]? = some (YX.u8 x) := by rw [List.getElem?_map, hx]; rfl
    rw [← h7, List.getElem?_take] at q
    split at q
    · simpa using q
    · cases q
  · rw [cell_of_row w g i cur _ fz h2, Array.getElem?_eq_getElem (by omega)]; rfl
  · have q := h3 i (by omega)
    obtain ⟨lo, hi'⟩ := fz
    simp only [World.frozen?, h2]
    rw [← Bool.not_eq_true, Bool.and_eq_true, decide_eq_true_eq, decide_eq_true_eq]
    exact q
set_option maxHeartbeats 4000000 in
theorem wrote_any (l : List Th) (hx : ∀ x ∈ l, ThOk x) (hs : ∀ x ∈ l, x.s.length ≤ 900000) (hl : l.length ≤ 1000000) (A : Option Addr) (c : Nat) (w : World) (h : RdT w w.heap.size A l) : Calls Try.prog 25 #[.slice A l.length c] w fun e w' => Told w (wrL (some []) l) e w' := by
  have HR := Lib.hid h
  have hz := zero_wr
  have hw0 : WAt (w.alloc (.cells zW 27)) w.heap.size (some []) := ⟨[], p0, 0, p0_len, by omega, by simp, by simp, AtH.new _ _ _⟩
  have W0 := Lib.hid hw0
  have CB := Lib.hid (fun s W (q : WAt W w.heap.size s) => bytesW_any w.heap.size s W q)
  obtain ⟨r, hr⟩ : ∃ r, wrL (some []) l = r := ⟨_, rfl⟩
  rw [hr]
  have HRR := Lib.hid hr
  clear h hw0 hr
  go_enter Try.func25, Try.ntmps25
  go_wp2
  go_loopw [5] (fun i wr => ∃ k : Nat, i = .int .i64 k ∧ k ≤ l.length ∧ Hid (WAt wr w.heap.size (wrL (some []) (l.take k))) ∧ Below w.heap.size w wr) (fun i _ => l.length - (intOf i).toNat)
  case atStart => exact ⟨0, rfl, Nat.zero_le _, W0, bAl (Below.refl _ _) _⟩
  case round =>
    obtain ⟨k, rfl, hk, HW, k1⟩ := hrel
    have K1 := Lib.hid k1
    by_cases hlt : k < l.length
    · have j1 : (k : Int) < (l.length : Int) := by omega
      have hR := HR.out.below k1
      obtain ⟨b, off, rfl, hb, hc⟩ := hR.at_ (by omega)
      obtain ⟨c0, c1, c2⟩ := hc k _ (List.getElem?_eq_getElem hlt)
      have C := Lib.hid (write_any (ptr w.heap.size) _ l[k] (hx _ (List.getElem_mem hlt)) (hs _ (List.getElem_mem hlt)) wr (.inr ⟨_, rfl, HW.out⟩))
      have HN := Lib.hid (wrL_next hlt (some []))
      clear hc hR k1
      generalize l[k] = x at *
      go_wp2_with (go_at_call 10; ((refine C.out.mono ?_); rintro e w2 ⟨rfl, q2, q3⟩; obtain ⟨q4, q5⟩ := q3 _ rfl; have H4 := Lib.hid q4; have K4 := Lib.hid (K1.out.trans (q5.below K1.out.size (fun i hi => by show i ≠ w.heap.size; omega))); clear q2 q3 q4 q5))
      go_roundw
      case rel => exact ⟨k + 1, by go_num, by omega, Lib.hid (by rw [HN.out]; exact H4.out), K4.out⟩
      case measure => simp [intOf]; omega
    · obtain rfl : k = l.length := by omega
      have j1 : ¬ (l.length : Int) < (l.length : Int) := by omega
      have C := Lib.hid (CB.out _ wr HW.out)
      clear k1
      rw [List.take_length, HRR.out] at C
      cases r with
      | none =>
        go_wp2_with (go_at_call 12; ((refine C.out.mono ?_); rintro e w2 ⟨q1, rfl⟩; have H2 := Lib.hid (bThen K1.out q1); clear q1))
        go_ret2
        exact ⟨H2.out, rfl⟩
      | some bb =>
        go_wp2_with (go_at_call 12; ((refine C.out.mono ?_); rintro e w2 ⟨q1, v, rfl, q3⟩; have H2 := Lib.hid (And.intro (bThen K1.out q1) (q3.base K1.out.size)); clear q1 q3))
        go_ret2
        exact ⟨H2.out.1, v, rfl, H2.out.2⟩
end Go.Proofs.Ytfofpbdccgcocaa.YX
