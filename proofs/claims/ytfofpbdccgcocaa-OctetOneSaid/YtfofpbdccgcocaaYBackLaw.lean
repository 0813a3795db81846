/-
  The law OctetBack walked.
-/
import Derived.Test.YtfofpbdccgcocaaYAwake
namespace Go.Proofs.Ytfofpbdccgcocaa.YX
open Go.RowKit HL
open IX (ptr El cellsK cellsK_at cellsK_len OwnK RdK Kept slice_toK slice_fromK)
set_option maxRecDepth 100000
set_option linter.unusedVariables false
set_option linter.unusedSimpArgs false

theorem wrL_len {l : List Th} {a b : Bs} (h : wrL (some a) l = some b) (ha : a.length ≤ 65536) : b.length ≤ 65536 := by
  induction l generalizing a with
  | nil => simp [wrL] at h; subst h; exact ha
  | cons x l ih =>
    have e : wrL (some a) (x :: l) = wrL (wrT (some a) x) l := rfl
    rw [e] at h
    unfold wrT at h
    split at h
    · rw [wrL_none] at h; cases h
    · unfold addW at h
      simp only at h
      split at h
      · rw [wrL_none] at h; cases h
      · rename_i q
        exact ih h (by rw [List.length_append]; omega)
/-- What a reader of the first bytes is, beside one of all. -/
def Cut (q E : Bs) (s : Option Bs) : Prop := (s = none ∧ q ≠ []) ∨ ∃ r, s = some r ∧ r ++ q = E
theorem Cut.next {q E : Bs} {s : Option Bs} {x : Th} (hx : ThOk x) (hs : x.k % 5 = 4 → x.s.length ≤ 255) (h : Cut q (thB x ++ E) s) : Cut q E (rest (rdK x.k) s) := by
  rcases h with ⟨rfl, hq⟩ | ⟨r, rfl, e⟩
  · exact .inl ⟨rfl, hq⟩
  · have full := rdK_th hx hs E
    cases e2 : rdK x.k r with
    | none =>
      rw [(told_none z0 e2).2]
      refine .inl ⟨rfl, fun hq => ?_⟩
      rw [hq, List.append_nil] at e
      rw [e, full] at e2; cases e2
    | some y =>
      obtain ⟨v, r2⟩ := y
      rw [(told_some z0 e2).2]
      have := rdK_more e2 q
      rw [e, full] at this
      simp only [Option.some.injEq, Prod.mk.injEq] at this
      exact .inr ⟨r2, rfl, this.2.symm⟩
theorem Cut.end_ {q : Bs} {s : Option Bs} (h : Cut q [] s) : doneB s = decide (q = []) := by
  rcases h with ⟨rfl, hq⟩ | ⟨r, rfl, e⟩
  · simp [doneB, hq]
  · obtain ⟨rfl, rfl⟩ := List.append_eq_nil_iff.1 e
    simp [doneB]
/-- Read, of a row that a callee told. -/
theorem read_at (A : Option Addr) (c : Nat) (l : Bs) (w : World) (h : RdK u8K w w.heap.size A l) (hn : l.length ≤ 1000000) (hA : A = none → c = 0) (n : Nat) (hl : l.length = n) :
    Calls Try.prog 13 #[.slice A n c] w fun e w' => ∃ B, e = .returned (ptr B) ∧ RAt w' B (some l) ∧ w.heap.size ≤ B ∧ Below w.heap.size w w' := by
  subst hl; exact read_any A c l w h hn hA
theorem own_none {w : World} {base : Nat} {A : Option Addr} {n c : Nat} {l : Bs} (h : OwnK u8K w base (.slice A n c) l) (q : A = none) : c = 0 := by
  subst q
  rcases h.2 with ⟨e, _⟩ | ⟨g, cap, cur, e, _⟩
  · cases e; rfl
  · cases e
theorem rd0 (w : World) : RdK u8K (w.alloc (.cells #[.int .u8 0] 5)) (w.heap.size + 1) (some ⟨w.heap.size, 0, none⟩) [0] := rd1 w 0 rfl
set_option maxHeartbeats 16000000 in
theorem back_walk (l : List Th) (hok : ∀ x ∈ l, ThOk x) (A : Option Addr) (c : Nat) (i : Int) (w : World) (h : RdT w w.heap.size A l) :
    Calls Try.prog 6 #[.slice A l.length c, .int .i64 i] w fun e w' => e = .returned (.bool true) ∧ Below w.heap.size w w' := by
  have CA := Lib.hid (awake_any w)
  have HR := Lib.hid h
  have CL := Lib.hid (fun W (q : Below w.heap.size w W) => long_any l A c w.heap.size W (HR.out.below q))
  clear h
  cases hlong : longB l with
  | true =>
    rw [hlong] at CL
    go_enter Try.func6, Try.ntmps6
    go_wp2_with (first
      | (go_at_call 24; ((with_reducible refine CA.out.mono ?_); rintro e w1 ⟨rfl, k1⟩; have K1 := Lib.hid k1; clear k1))
      | (go_at_call 9; ((with_reducible refine (CL.out _ K1.out).mono ?_); rintro e w2 ⟨rfl, rfl⟩)))
    go_ret
    exact ⟨rfl, K1.out⟩
  | false =>
    obtain ⟨hl4, hs4⟩ := long_no hlong
    rw [hlong] at CL
    have CW := Lib.hid (fun (W : World) (q : Below w.heap.size w W) => wrote_any l hok (fun x hx => by have := hs4 x hx; omega) (by omega) A c W (by
      have r := HR.out.below q
      rcases r with e | ⟨b, off, e, hb, hc⟩
      · exact .inl e
      · exact .inr ⟨b, off, e, Nat.lt_of_lt_of_le hb q.size, hc⟩))
    cases hw : wrL (some []) l with
    | none =>
      rw [hw] at CW
      go_enter Try.func6, Try.ntmps6
      go_wp2_with (first
        | (go_at_call 24; ((with_reducible refine CA.out.mono ?_); rintro e w1 ⟨rfl, k1⟩; have K1 := Lib.hid k1; clear k1))
        | (go_at_call 9; ((with_reducible refine (CL.out _ K1.out).mono ?_); rintro e w2 ⟨rfl, rfl⟩))
        | (go_at_call 25; ((with_reducible refine (CW.out _ K1.out).mono ?_); rintro e w3 ⟨k3, rfl⟩; have K3 := Lib.hid (bThen K1.out k3); clear k3)))
      go_ret
      exact ⟨rfl, K3.out⟩
    | some b =>
      rw [hw] at CW
      obtain ⟨hbe, htx⟩ := wrL_some hw
      rw [List.nil_append] at hbe
      have hbl := wrL_len hw (by simp)
      have HE := Lib.hid (And.intro hbe htx)
      clear hbe htx hw hlong hs4
      -- how many of the bytes
      obtain ⟨m, hm⟩ : ∃ m : Nat, IntKind.u64.wrap i = (m : Int) := ⟨(IntKind.u64.wrap i).toNat, by
        have : 0 ≤ IntKind.u64.wrap i := by simp [IntKind.wrap, IntKind.bits, IntKind.signed]; omega
        omega⟩
      obtain ⟨j, hj, hjl⟩ : ∃ j : Nat, (m : Int) % ((b.length : Int) + 1) = (j : Int) ∧ j ≤ b.length := ⟨m % (b.length + 1), by simp, by have := Nat.mod_lt m (show 0 < b.length + 1 by omega); omega⟩
      have e38 : IntKind.i64.wrap ((b.length : Int) + 1) = (b.length : Int) + 1 := wI (by omega) (by omega)
      have e39 : IntKind.u64.wrap ((b.length : Int) + 1) = (b.length : Int) + 1 := by simp [IntKind.wrap, IntKind.bits, IntKind.signed]; omega
      have e40 : ¬ ((b.length : Int) + 1 = 0) := by omega
      have e41 : IntKind.i64.wrap (j : Int) = (j : Int) := wI (by omega) (by omega)
      go_enter Try.func6, Try.ntmps6
      go_wp2_with (first
        | (go_at_call 24; ((with_reducible refine CA.out.mono ?_); rintro e w1 ⟨rfl, k1⟩; have K1 := Lib.hid k1; clear k1))
        | (go_at_call 9; ((with_reducible refine (CL.out _ K1.out).mono ?_); rintro e w2 ⟨rfl, rfl⟩))
        | (go_at_call 25; ((with_reducible refine (CW.out _ K1.out).mono ?_); rintro e w3 ⟨k3, v, rfl, g3⟩; obtain ⟨g, c3, rfl, r3, hc3, hg3, hg3b, _⟩ := g3.rd; have K3 := Lib.hid (bThen K1.out k3); have R3 := Lib.hid r3; have C1 := Lib.hid (read_at (some ⟨g, 0, none⟩) c3 b w3 r3 (by omega) (fun q => by cases q) b.length rfl); clear k3 g3 r3))
        | (go_at_call 13; ((with_reducible refine C1.out.mono ?_); rintro e w4 ⟨B1, rfl, h4, hB1, k4⟩; have K4 := Lib.hid k4; have H4 := Lib.hid h4; have Q1 := Lib.hid hB1; have R4 := Lib.hid (IX.RdK.below R3.out k4); clear k4 h4 hB1))
        | (at_builtin; refine IX.wpList_spreadK u8K rfl (.tmp 27) (.tmp 28) rfl w4.heap.size _ [] rfl (OwnK.lit w4 w4.heap.size (Nat.le_refl _)) w3.heap.size (some ⟨g, 0, none⟩) b.length c3 b rfl rfl (R4.out.below ((bAl (Below.refl w4.heap.size w4) _).mono K4.out.size)) ?c1 ?c2 ?_))
      case c1 => first | omega | (simp; omega)
      case c2 => simp
      intro v5 w5 o5 g5 f5
      have b5 := (bAl (Below.refl w4.heap.size w4) (.cells #[] 5)).grown g5 (by simp) (fun a ha => by simp [Value.ownBlock] at ha; omega)
      have O5 := Lib.hid o5
      have B5 := Lib.hid b5
      clear o5 g5 f5 b5
      go_wp2_with (at_builtin; refine IX.wpList_spreadK u8K rfl (.tmp 29) (.tmp 30) rfl w4.heap.size _ b rfl (O5.out.below (bAl (Below.refl _ w5) (.cells #[.int .u8 0] 5))) (w5.heap.size + 1) (some ⟨w5.heap.size, 0, none⟩) 1 1 [0] rfl rfl (rd0 w5) ?d1 ?d2 ?_)
      case d1 => first | omega | (simp; omega)
      case d2 => have := B5.out.size; simp; omega
      intro v6 w6 o6 g6 f6
      have b6 := (bThen B5.out (bAl (Below.refl w5.heap.size w5) (.cells #[.int .u8 0] 5))).grown g6 (by have := B5.out.size; simp; omega) (fun a ha => (O5.out.lt a (by first | exact ha | simpa using ha)).1)
      obtain ⟨A6, c6, e6, r6, hc6, _⟩ := o6.form
      subst e6
      have n6 := fun q => own_none o6 q
      rw [show (b ++ [(0 : UInt8)]).length = b.length + 1 by simp] at *
      have C2 := Lib.hid (read_at A6 c6 (b ++ [0]) w6 r6 (by simp; omega) n6 (b.length + 1) (by simp))
      have B6 := Lib.hid b6
      have hts : ∀ W, (Instr.slice 28 (.slice (some ⟨g, 0, none⟩) b.length c3) none (some (.int .i64 j)) none).run Try.prog W = .ok (.slice (some ⟨g, 0, none⟩) j c3) W := fun W => slice_toK u8K hjl hc3 W
      have hjt : (b.take j).length = j := by rw [List.length_take]; omega
      clear o6 g6 f6 r6 b6 n6
      go_wp2_with (go_at_call 13; ((with_reducible refine C2.out.mono ?_); rintro e w7 ⟨B2, rfl, h7, hB2, k7⟩; have H7 := Lib.hid h7; have K7 := Lib.hid (bThen B6.out k7); have Q2 := Lib.hid hB2; have R7 := Lib.hid ((IX.RdK.below R4.out ((bThen B6.out k7).mono K4.out.size)).more (Nat.le_trans K4.out.size (bThen B6.out k7).size)); have H47 := Lib.hid (H4.out.below (bThen B6.out k7)); have C3 := Lib.hid (read_at (some ⟨g, 0, none⟩) c3 (b.take j) w7 (RdK.take ((IX.RdK.below R4.out ((bThen B6.out k7).mono K4.out.size)).more (Nat.le_trans K4.out.size (bThen B6.out k7).size)) j) (by rw [hjt]; omega) (fun q => by cases q) j hjt); clear h7 hB2 k7))
      go_wp2_with (go_at_call 13; ((with_reducible refine C3.out.mono ?_); rintro e w8 ⟨B3, rfl, h8, hB3, k8⟩; have H8 := Lib.hid h8; have K8 := Lib.hid k8; have Q3 := Lib.hid hB3; have H48 := Lib.hid (H47.out.below k8); have H78 := Lib.hid (H7.out.below k8); clear h8 hB3 k8))
      have CLc : Hid (Calls Try.prog 16 #[ptr B3] w8 fun e w' => e = .returned (.int .i64 j) ∧ w8 = w') := Lib.hid (by
        have := left_any B3 (some (b.take j)) w8 H8.out
        rw [show (((some (b.take j)).getD []).length : Nat) = j from hjt] at this
        exact this)
      have hB123 : w.heap.size ≤ B1 ∧ B1 < B2 ∧ B2 < B3 := by
        have a1 := K3.out.size
        have a2 := Q1.out
        have a3 := H4.out.lt
        have a4 := Q2.out
        have a5 := B6.out.size
        have a6 := H7.out.lt
        have a7 := Q3.out
        omega
      have kw8 : Hid (Below w.heap.size w w8) := Lib.hid (bThen (bThen (bThen K3.out K4.out) K7.out) K8.out)
      have HQ := Lib.hid hB123
      have hwq : decide (b.length ≤ j) = decide (b.drop j = []) := by
        rw [Bool.eq_iff_iff, decide_eq_true_eq, decide_eq_true_eq, List.drop_eq_nil_iff]
      go_wp2_with (go_at_call 16; ((with_reducible refine CLc.out.mono ?_); rintro e w9 ⟨rfl, rfl⟩))
      obtain ⟨q, hq⟩ : ∃ q, b.drop j = q := ⟨_, rfl⟩
      rw [hq] at hwq
      have hcut : Cut q b (some (b.take j)) := .inr ⟨_, rfl, by rw [← hq, List.take_append_drop]⟩
      have HW := Lib.hid hwq
      have H0 : Hid (RAt w8 B1 (some (enc (l.drop 0))) ∧ RAt w8 B2 (some (enc (l.drop 0) ++ [0])) ∧ ∃ s, RAt w8 B3 s ∧ Cut q (enc (l.drop 0)) s) := Lib.hid (by
        rw [List.drop_zero, ← HE.out.1]
        exact ⟨H48.out, H78.out, _, H8.out, hcut⟩)
      have hlenE : ∀ k, (enc (l.drop k)).length ≤ 65536 := fun k => by
        have e : enc l = enc (l.take k) ++ enc (l.drop k) := by rw [← enc_app, List.take_append_drop]
        have := congrArg List.length e
        rw [List.length_append, ← HE.out.1] at this; omega
      have HL := Lib.hid hlenE
      have HT := Lib.hid HE.out.2
      clear hwq hcut hq hlenE HE hB123 CLc C3 C2 C1 CW CL CA H4 H7 H8 H47 H48 H78 R3 R4 R7 O5 B5 B6
      go_loopw [11] (fun iv wr => ∃ k : Nat, iv = .int .i64 k ∧ k ≤ l.length ∧ Hid (RAt wr B1 (some (enc (l.drop k))) ∧ RAt wr B2 (some (enc (l.drop k) ++ [0])) ∧ ∃ s, RAt wr B3 s ∧ Cut q (enc (l.drop k)) s) ∧ Hid (Below w.heap.size w wr)) (fun iv _ => l.length - (intOf iv).toNat)
      case atStart => exact ⟨0, rfl, Nat.zero_le _, H0, kw8⟩
      case round =>
        obtain ⟨k, rfl, hk, HS, HK⟩ := hrel
        obtain ⟨r1, r2, sc, r3, hcut⟩ := HS.out
        by_cases hlt : k < l.length
        · have j1 : (k : Int) < (l.length : Int) := by omega
          obtain ⟨b1, off, rfl, hb1, hc⟩ := (HR.out.below HK.out).at_ (by omega)
          obtain ⟨d0, d1, d2⟩ := hc k _ (List.getElem?_eq_getElem hlt)
          have hsp := enc_next hlt
          have hox := hok _ (List.getElem_mem hlt)
          have htx := HT.out _ (List.getElem_mem hlt)
          rw [hsp] at r1 r2 hcut
          rw [List.append_assoc] at r2
          have hEl := HL.out (k + 1)
          generalize l[k] = x at *
          obtain ⟨E, hE⟩ : ∃ E, enc (l.drop (k + 1)) = E := ⟨_, rfl⟩
          rw [hE] at r1 r2 hcut hEl
          have HEE := Lib.hid hE
          have D1 : Hid (∀ W, RAt W B1 (some (thB x ++ E)) → Calls Try.prog 26 #[ptr B1, th x] W fun e w' => e = .returned (.bool true) ∧ RAt w' B1 (some E) ∧ Kept W w' (· ≠ B1)) := Lib.hid (fun W q => (reads_any B1 _ x hox W q).mono fun e w' ⟨t, he, ht, h1, k1⟩ => by
            have z := rdK_th hox htx E
            rw [(told_some z0 z).1] at ht
            rw [(told_some z0 z).2] at h1
            rw [he, ht.out rfl]; exact ⟨rfl, h1, k1⟩)
          have D2 : Hid (∀ W, RAt W B2 (some (thB x ++ (E ++ [0]))) → Calls Try.prog 26 #[ptr B2, th x] W fun e w' => e = .returned (.bool true) ∧ RAt w' B2 (some (E ++ [0])) ∧ Kept W w' (· ≠ B2)) := Lib.hid (fun W q => (reads_any B2 _ x hox W q).mono fun e w' ⟨t, he, ht, h1, k1⟩ => by
            have z := rdK_th hox htx (E ++ [0])
            rw [(told_some z0 z).1] at ht
            rw [(told_some z0 z).2] at h1
            rw [he, ht.out rfl]; exact ⟨rfl, h1, k1⟩)
          have D3 := Lib.hid (fun W (q : RAt W B3 sc) => reads_any B3 sc x hox W q)
          have HC := Lib.hid (hcut.next hox htx)
          have F1 := Lib.hid (fun W (q : RAt W B1 (some E)) => failed_any B1 (some E) W q)
          have L1 := Lib.hid (fun W (q : RAt W B1 (some E)) => left_any B1 (some E) W q)
          have L2 : Hid (∀ W, RAt W B2 (some (E ++ [0])) → Calls Try.prog 16 #[ptr B2] W fun e w' => e = .returned (.int .i64 ((E.length : Int) + 1)) ∧ W = w') := Lib.hid (fun W q => by
            have := left_any B2 _ W q
            simpa using this)
          have RR := Lib.hid (And.intro r1 (And.intro r2 r3))
          have N12 : Hid (B1 ≠ B2 ∧ B1 ≠ B3 ∧ B2 ≠ B3) := Lib.hid (by have := HQ.out; omega)
          have eL : IntKind.i64.wrap ((E.length : Int) + 1) = (E.length : Int) + 1 := wI (by omega) (by omega)
          simp only [Option.getD_some, Option.isNone_some] at F1 L1
          have hw1 : b1 < wr.heap.size := Nat.lt_of_lt_of_le hb1 HK.out.size
          have nb1 : b1 ≠ B1 ∧ b1 ≠ B2 ∧ b1 ≠ B3 := by have := HQ.out; omega
          clear r1 r2 r3 hc hsp hcut hE hox htx HS
          go_wp2_with (first
            | (go_at_call_of 26 (ptr B1); ((with_reducible refine (D1.out _ RR.out.1).mono ?_); rintro e wa ⟨rfl, ha, ka⟩; have A1 := Lib.hid (And.intro ha (And.intro (RR.out.2.1.aside RR.out.1 N12.out.1.symm ka) (RR.out.2.2.aside RR.out.1 N12.out.2.1.symm ka))); have KA := Lib.hid ka; have da0 := (ka.cell (sp := none) hw1 nb1.1).trans d0; have da1 := (ka.cell (sp := none) hw1 nb1.1).trans d1; have da2 := (ka.cell (sp := none) hw1 nb1.1).trans d2; have hwa := Nat.lt_of_lt_of_le hw1 ka.size; clear ha ka))
            | (go_at_call_of 26 (ptr B2); ((with_reducible refine (D2.out _ A1.out.2.1).mono ?_); rintro e wb ⟨rfl, ha, ka⟩; have A2 := Lib.hid (And.intro (A1.out.1.aside A1.out.2.1 N12.out.1 ka) (And.intro ha (A1.out.2.2.aside A1.out.2.1 N12.out.2.2.symm ka))); have KB := Lib.hid ka; have db0 := (ka.cell (sp := none) hwa nb1.2.1).trans da0; have db1 := (ka.cell (sp := none) hwa nb1.2.1).trans da1; have db2 := (ka.cell (sp := none) hwa nb1.2.1).trans da2; clear ha ka))
            | (go_at_call_of 26 (ptr B3); ((with_reducible refine (D3.out _ A2.out.2.2).mono ?_); rintro e wc ⟨t3, rfl, _, ha, ka⟩; have A3 := Lib.hid (And.intro (A2.out.1.aside A2.out.2.2 N12.out.2.1 ka) (And.intro (A2.out.2.1.aside A2.out.2.2 N12.out.2.2 ka) ha)); have KC := Lib.hid ka; clear ha ka))
            | (go_at_call 15; ((with_reducible refine (F1.out _ A2.out.1).mono ?_); rintro e wd ⟨rfl, rfl⟩))
            | (go_at_call_of 16 (ptr B1); ((with_reducible refine (L1.out _ A2.out.1).mono ?_); rintro e wd ⟨rfl, rfl⟩))
            | (go_at_call_of 16 (ptr B2); ((with_reducible refine (L2.out _ A2.out.2.1).mono ?_); rintro e wd ⟨rfl, rfl⟩)))
          refine ⟨⟨k + 1, by simp, by omega, Lib.hid ⟨by rw [HEE.out]; exact A3.out.1, by rw [HEE.out]; exact A3.out.2.1, _, A3.out.2.2, by rw [HEE.out]; exact HC.out⟩, Lib.hid ?_⟩, by simp [intOf]; omega⟩
          have q1 := HK.out.trans (KA.out.below HK.out.size (fun i hi => by show i ≠ B1; have := HQ.out; omega))
          have q2 := q1.trans (KB.out.below q1.size (fun i hi => by show i ≠ B2; have := HQ.out; omega))
          exact q2.trans (KC.out.below q2.size (fun i hi => by show i ≠ B3; have := HQ.out; omega))
        · obtain rfl : k = l.length := by omega
          have j1 : ¬ (l.length : Int) < (l.length : Int) := by omega
          rw [List.drop_length] at r1 r2 hcut
          have r1 : RAt wr B1 (some []) := r1
          have r2 : RAt wr B2 (some [0]) := r2
          have E1 : Hid (Calls Try.prog 17 #[ptr B1] wr fun e w' => e = .returned (.int .i64 0) ∧ wr = w') := Lib.hid (end_any B1 (some []) wr r1)
          have E2 : Hid (Calls Try.prog 17 #[ptr B2] wr fun e w' => e = .returned (.int .i64 120) ∧ wr = w') := Lib.hid (end_any B2 (some [0]) wr r2)
          have L1 : Hid (Calls Try.prog 16 #[ptr B1] wr fun e w' => e = .returned (.int .i64 0) ∧ wr = w') := Lib.hid (left_any B1 (some []) wr r1)
          have F2 : Hid (Calls Try.prog 15 #[ptr B2] wr fun e w' => e = .returned (.bool false) ∧ wr = w') := Lib.hid (failed_any B2 (some [0]) wr r2)
          have E3 := end_any B3 sc wr r3
          rw [hcut.end_] at E3
          have hwq := HW.out
          cases hd : decide (q = []) with
          | true =>
            rw [hd] at E3 hwq
            have E4 : Hid (Calls Try.prog 17 #[ptr B3] wr fun e w' => e = .returned (.int .i64 0) ∧ wr = w') := Lib.hid E3
            clear E3 r1 r2 r3 hcut HS hd
            go_wp2_with (first
              | (go_at_call_of 17 (ptr B1); ((with_reducible refine E1.out.mono ?_); rintro e wa ⟨rfl, rfl⟩))
              | (go_at_call_of 17 (ptr B2); ((with_reducible refine E2.out.mono ?_); rintro e wa ⟨rfl, rfl⟩))
              | (go_at_call_of 17 (ptr B3); ((with_reducible refine E4.out.mono ?_); rintro e wa ⟨rfl, rfl⟩))
              | (go_at_call 16; ((with_reducible refine L1.out.mono ?_); rintro e wa ⟨rfl, rfl⟩))
              | (go_at_call 15; ((with_reducible refine F2.out.mono ?_); rintro e wa ⟨rfl, rfl⟩)))
            go_ret
            have hz := hwq
            simp at hz
            exact ⟨by first | rfl | (simp; omega) | (simp; done), HK.out⟩
          | false =>
            rw [hd] at E3 hwq
            have E4 : Hid (Calls Try.prog 17 #[ptr B3] wr fun e w' => e = .returned (.int .i64 120) ∧ wr = w') := Lib.hid E3
            clear E3 r1 r2 r3 hcut HS hd
            go_wp2_with (first
              | (go_at_call_of 17 (ptr B1); ((with_reducible refine E1.out.mono ?_); rintro e wa ⟨rfl, rfl⟩))
              | (go_at_call_of 17 (ptr B2); ((with_reducible refine E2.out.mono ?_); rintro e wa ⟨rfl, rfl⟩))
              | (go_at_call_of 17 (ptr B3); ((with_reducible refine E4.out.mono ?_); rintro e wa ⟨rfl, rfl⟩))
              | (go_at_call 16; ((with_reducible refine L1.out.mono ?_); rintro e wa ⟨rfl, rfl⟩))
              | (go_at_call 15; ((with_reducible refine F2.out.mono ?_); rintro e wa ⟨rfl, rfl⟩)))
            go_ret
            have hz := hwq
            simp at hz
            exact ⟨by first | rfl | (simp; omega) | (simp; done), HK.out⟩
end Go.Proofs.Ytfofpbdccgcocaa.YX
