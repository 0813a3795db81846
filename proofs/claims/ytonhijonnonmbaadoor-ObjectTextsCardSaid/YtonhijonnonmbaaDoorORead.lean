/-
  WALK: the program's read: the object that a text describes.
-/
import Derived.Test.YtonhijonnonmbaaDoorOReadMath
import Derived.Test.YtonhijonnonmbaaDoorOFields
namespace Go.Proofs.YtonhijonnonmbaaDoor
open Go.RowKit
set_option maxRecDepth 100000
set_option linter.unusedVariables false
set_option linter.unusedSimpArgs false

def measR (rv mv : Value) : Nat := match mv with | .bool true => (match rv with | .string s => s.size + 1 | _ => 0) | _ => 0
theorem atc_grown {w w' : World} {B : Nat} {C : Array Value} {q : Nat} (h : AtC w B C) (hg : w.grownBy w' (some q)) (hne : B ≠ q) : AtC w' B C := by
  have hq : w'.heap[B]? = w.heap[B]? := hg.block B h.lt (fun e => hne (by injection e))
  exact ⟨Nat.lt_of_lt_of_le h.lt hg.size, fun i => by rw [← h.c i]; simp only [World.cell?, hq], fun i => by rw [← h.f i]; simp only [World.frozen?, hq]⟩
theorem fieldsA_len : fieldsA.size = 72 := by kernel_rfl
set_option maxHeartbeats 8000000 in
theorem oread_any (s : ByteArray) (m : Int) (w : World) (hs : s.size ≤ 1000) (hw : Words w) (hm : w.cell? ⟨3, 0, none⟩ = some (.int .i64 m)) (hml : 3 < w.heap.size) :
    Calls Tryd.prog 22 #[.string s] w fun e w' => e = .returned (ob (readOf s)) ∧ Below w.heap.size w w' := by
  have hb := bAl (Below.refl w.heap.size w) (.cells #[.string ⟨#[]⟩, .int .u8 0, .string ⟨#[]⟩, .int .u8 0, .string ⟨#[]⟩, .int .i64 0, .int .i64 0, .int .u8 0, .bool false, .bool false, .int .i64 0, .int .i64 0, .int .i64 0, .int .u8 0] 23)
  have HCUT := Lib.hid (fun (t : ByteArray) (c : UInt8) (ht : t.size ≤ 1000) (W : World) (q : Below w.heap.size w W) => cutW t c m W ht ((q.cell (p := ⟨3, 0, none⟩) hml).trans hm))
  have HW := Lib.hid hw
  have C1 := HCUT.out s 32 hs _ hb
  have z1 := cut1_sizes s 32
  have C2 := Lib.hid (fun W q => HCUT.out (cut1 s 32).2.1 32 (by omega) W q)
  have z2 := cut1_sizes (cut1 s 32).2.1 32
  have CK := Lib.hid (fun W (q : Below w.heap.size w W) => kindOf_any (cut1 s 32).1 W (HW.out.then q))
  have CF := Lib.hid (fun W => fields_any W)
  have HC1 := Lib.hid C1
  have HR : Hid (loopR (s.size + 2) { zeroOb with kind := kindS (cut1 s 32).1, handle := (cut1 (cut1 s 32).2.1 32).1 } (cut1 (cut1 s 32).2.1 32).2.1 (cut1 (cut1 s 32).2.1 32).2.2 = readOf s) := Lib.hid rfl
  have hkl := kindS_le (cut1 s 32).1
  have HZ : Hid ((cut1 (cut1 s 32).2.1 32).2.1.size ≤ s.size) := Lib.hid (by omega)
  clear C1 hw hm z1 z2
  generalize readOf s = R at *
  generalize cut1 s 32 = a at *
  obtain ⟨a1, a2, a3⟩ := a
  dsimp only at *
  generalize cut1 a2 32 = b at *
  obtain ⟨b1, b2, b3⟩ := b
  dsimp only at *
  generalize kindS a1 = kd at *
  have hfs := fieldsA_len
  have hg : ∀ (W : World) (o : Obj), (W.alloc o).heap[W.heap.size]? = some o := fun W o => by unfold World.alloc; simp
  go_enter Tryd.func22, Tryd.ntmps22
  go_wp2_with fail
  go_at_call 47
  with_reducible refine HC1.out.mono ?_
  rintro e w1 ⟨rfl, k1⟩
  replace hb := bThen hb k1
  go_wp2_with (first
    | (go_at_call 47; ((with_reducible refine (C2.out _ hb).mono ?_); rintro e w2 ⟨rfl, k2⟩; replace hb := bThen hb k2))
    | (go_at_call 48; ((with_reducible refine (CK.out _ hb).mono ?_); rintro e w3 ⟨rfl, rfl⟩))
    | (go_at_call 13; ((with_reducible refine (CF.out _).mono ?_); rintro e w4 ⟨rfl, k4⟩)))
  rw [storeAs (vs' := fieldsL) (t := 47) (cur := Tryd.zeroCells47)]
  rotate_left
  · rfl
  · exact hg _ _
  · kernel_rfl
  · intro v hv
    exact (List.all_eq_true (l := fieldsL)).1 (by kernel_rfl) v hv
  have k5 : Below w4.heap.size w4 ((w4.alloc (.cells Tryd.zeroCells47 47)).setRow w4.heap.size fieldsL.toArray) := bRow (bAl (Below.refl _ _) _) (Nat.le_refl _) _
  have mF : AtC ((w4.alloc (.cells Tryd.zeroCells47 47)).setRow w4.heap.size fieldsL.toArray) w4.heap.size fieldsA := AtC.row (hg _ _)
  have mZ := (((AtC.new w #[.string ⟨#[]⟩, .int .u8 0, .string ⟨#[]⟩, .int .u8 0, .string ⟨#[]⟩, .int .i64 0, .int .i64 0, .int .u8 0, .bool false, .bool false, .int .i64 0, .int .i64 0, .int .i64 0, .int .u8 0] 23).then (bThen k1 k2)).then (bThen (bAl (Below.refl _ _) _) (bThen k4 k5)))
  have mO := (AtC.new w2 #[.string b1, .int .u8 kd, .string ⟨#[]⟩, .int .u8 0, .string ⟨#[]⟩, .int .i64 0, .int .i64 0, .int .u8 0, .bool false, .bool false, .int .i64 0, .int .i64 0, .int .i64 0, .int .u8 0] 23).then (bThen k4 k5)
  have hb5 := bThen (bThen (bAl hb _) k4) k5
  have n1 : w.heap.size ≠ w2.heap.size := by have a := k1.size; have b := k2.size; simp at a; omega
  have n2 : w4.heap.size ≠ w2.heap.size := by have a := k4.size; simp at a; omega
  have n3 : w.heap.size ≤ w2.heap.size := by have a := k1.size; have b := k2.size; simp at a; omega
  generalize (w4.alloc (.cells Tryd.zeroCells47 47)).setRow w4.heap.size fieldsL.toArray = W5 at *
  generalize w4.heap.size = Bf at *
  generalize w2.heap.size = Bo at *
  generalize hB2 : w.heap.size = B2 at mZ n1
  clear k1 k2 k4 k5 C2 CK CF HC1 hb hg hfs
  have HB2 := Lib.hid hB2
  have hB2le : w.heap.size ≤ B2 := by omega
  have MZ := Lib.hid mZ
  have MF := Lib.hid mF
  have MO : Hid (AtC W5 Bo (obCells { zeroOb with kind := kd, handle := b1 })) := Lib.hid mO
  have hb2s : b2.size ≤ 1000 := by have := HZ.out; omega
  have hfuel : Hid ((if b3 then b2.size + 1 else 0) < s.size + 2) := Lib.hid (by have := HZ.out; split <;> omega)
  clear hB2 mZ mF mO HZ
  go_wp2
  go_loopw [4, 7] (fun rv mv wr => ∃ (n : Nat) (o : Ob) (rest : ByteArray) (more : Bool), rv = .string rest ∧ mv = .bool more ∧ Hid (loopR n o rest more = R) ∧ rest.size ≤ 1000 ∧ Hid ((if more then rest.size + 1 else 0) < n) ∧ AtC wr B2 #[.string ⟨#[]⟩, .int .u8 0, .string ⟨#[]⟩, .int .u8 0, .string ⟨#[]⟩, .int .i64 0, .int .i64 0, .int .u8 0, .bool false, .bool false, .int .i64 0, .int .i64 0, .int .i64 0, .int .u8 0] ∧ AtC wr Bo (obCells o) ∧ AtC wr Bf fieldsA ∧ Below w.heap.size w wr) (fun rv mv _ => measR rv mv)
  case atStart => exact ⟨s.size + 2, _, b2, b3, rfl, rfl, HR, hb2s, hfuel, MZ.out, MO.out, MF.out, hb5⟩
  case round =>
    obtain ⟨n, o, rest, more, rfl, rfl, HL, hrs, HFU, mZ, mO, mF, hbr⟩ := hrel
    clear HR hfuel MZ MO MF hb5 hb2s
    cases more with
    | false =>
      have hR : o = R := by
        have h := HL.out
        have hf := HFU.out
        simp at hf
        obtain ⟨n', rfl⟩ : ∃ n', n = n' + 1 := ⟨n - 1, by omega⟩
        simpa [loopR] using h
      have oc := mO.c
      have zc := mZ.c
      have zf := mZ.f
      have zl := mZ.lt
      have ol := mO.lt
      have MZ := Lib.hid mZ
      have HRR := Lib.hid hR
      clear hR mZ mO mF HL HFU
      go_wp2
      exact ret_ob rfl rfl rfl (AtC.fill MZ.out rfl _ _ _ _ _ _ _ _ _ _ _ _ _ _) ⟨by rw [HRR.out], bFill hbr hB2le _ _ _ _ _ _ _ _ _ _ _ _ _ _⟩
    | true =>
      obtain ⟨n', rfl⟩ : ∃ n', n = n' + 1 := ⟨n - 1, by have hf := HFU.out; simp at hf; omega⟩
      have hf := HFU.out
      simp at hf
      have hLL := HL.out
      simp only [loopR] at hLL
      have z1 := cut1_sizes rest 32
      have z2 := cut1_sizes (cut1 rest 32).1 61
      have C1 := Lib.hid (HCUT.out rest 32 hrs _ hbr)
      have C2 := Lib.hid (fun W q => HCUT.out (cut1 rest 32).1 61 (by omega) W q)
      generalize cut1 rest 32 = c at *
      obtain ⟨c1, c2, c3⟩ := c
      dsimp only at *
      generalize cut1 c1 61 = d at *
      obtain ⟨d1, d2, d3⟩ := d
      dsimp only at *
      have HLL := Lib.hid hLL
      have hd2 : d2.size ≤ maxLen := by unfold maxLen; omega
      have hc2 : c2.size ≤ 1000 := by omega
      have HM : Hid ((if c3 then c2.size + 1 else 0) < n') := Lib.hid (by
        cases c3 with
        | false => simp; omega
        | true => have := z1.2.2 rfl; simp; omega)
      have HME : Hid (measR (.string c2) (.bool c3) < rest.size + 1) := Lib.hid (by
        cases c3 with
        | false => simp [measR]
        | true => have := z1.2.2 rfl; simp [measR]; omega)
      clear hLL HL HFU hf z1 z2
      go_wp2_with fail
      go_at_call 47
      with_reducible refine C1.out.mono ?_
      rintro e w6 ⟨rfl, k6⟩
      have hb6 := bThen hbr k6
      have mZ6 := mZ.then k6
      have mO6 := mO.then k6
      have mF6 := mF.then k6
      clear mZ mO mF C1
      go_wp2_with fail
      go_at_call 47
      with_reducible refine (C2.out _ hb6).mono ?_
      rintro e w7 ⟨rfl, k7⟩
      have hb7 := bThen hb6 k7
      have mZ7 := Lib.hid ((mZ6.then k7).al (.cells #[.string d1] 9))
      have mO7 := Lib.hid ((mO6.then k7).al (.cells #[.string d1] 9))
      have mF7 := Lib.hid ((mF6.then k7).al (.cells #[.string d1] 9))
      have CI := Lib.hid (indexOf_any Bf w7.heap.size d1 (w7.alloc (.cells #[.string d1] 9)) mF7.out (World.cell?_alloc_at _ _ _ _ rfl) (by simp))
      clear mZ6 mO6 mF6 C2 k6 k7
      have hb8 := bAl hb7 (.cells #[.string d1] 9)
      clear hb7 hb6 hbr
      go_wp2_with fail
      go_at_call 49
      with_reducible refine CI.out.mono ?_
      rintro e w9 ⟨rfl, k9⟩
      have hb9 := bThen hb8 k9
      have mZ9 := mZ7.out.then k9
      have mO9 := mO7.out.then k9
      have mF9 := mF7.out.then k9
      clear mZ7 mO7 mF7 CI k9 hb8
      have hLL := HLL.out
      rcases idxI_cases d1 with hi | ⟨k, hk, hi⟩
      · rw [hi] at hLL
        rw [hi]
        have HRR : Hid (zeroOb = R) := Lib.hid (by simpa using hLL)
        clear hLL HLL hi mO9 mF9 HM HME
        have zc := mZ9.c
        have zf := mZ9.f
        have zl := mZ9.lt
        have MZ := Lib.hid mZ9
        clear mZ9
        go_wp2
        exact ret_ob rfl rfl rfl (AtC.fill MZ.out rfl _ _ _ _ _ _ _ _ _ _ _ _ _ _) ⟨by rw [← HRR.out], bFill hb9 hB2le _ _ _ _ _ _ _ _ _ _ _ _ _ _⟩
      · rw [hi, if_neg (by omega), Int.toNat_natCast] at hLL
        rw [hi]
        have HL2 : Hid (loopR n' (setF o d2 k) c2 c3 = R) := Lib.hid hLL
        clear hLL HLL hi
        have c := fun i (hi : i < 6) => (mF9.c (k * 6 + i)).trans (fcell_at hk hi)
        have e0 := c 0 (by omega)
        have e1 := c 1 (by omega)
        have e2 := c 2 (by omega)
        have e3 := c 3 (by omega)
        have e4 := c 4 (by omega)
        have e5 := c 5 (by omega)
        rw [fcell_name hk] at e1
        simp only [Nat.add_zero] at e0
        clear c
        have CR := Lib.hid (freadAny k hk o Bo d2 w9 mO9 hd2)
        have MZ := Lib.hid mZ9
        have MF := Lib.hid mF9
        have HB9 := Lib.hid hb9
        have hlB := mO9.lt
        have SO : Hid (Below w.heap.size w w9 → w.heap.size ≤ w9.heap.size) := Lib.hid (fun q => q.size)
        generalize fcell k 0 = a0 at *
        generalize fcell k 2 = g2 at *
        generalize fcell k 3 = g3 at *
        generalize fcell k 4 = g4 at *
        generalize fcell k 5 = g5 at *
        generalize nameAt k = nm at *
        clear mZ9 mF9 mO9 hb9
        have i0 : ¬ (k : Int) < 0 := by omega
        have i1 : (k : Int) < 12 := by omega
        go_wp2_with fail
        go_at_call 51
        with_reducible refine CR.out.mono ?_
        rintro e w10 ⟨rfl, m10, k10⟩
        have mZ10 := atc_grown MZ.out k10 n1
        have mF10 := atc_grown MF.out k10 n2
        have hb10 : Below w.heap.size w w10 := HB9.out.grown k10 (SO.out HB9.out) (fun q e => by injection e with e; omega)
        go_wp2_with fail
        go_roundw
        case rel => exact ⟨n', setF o d2 k, c2, c3, rfl, rfl, HL2, hc2, HM, mZ10, m10, mF10, hb10⟩
        case measure => exact HME.out
end Go.Proofs.YtonhijonnonmbaaDoor
