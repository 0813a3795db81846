/-
  WALKS: the text of a field's value.
-/
import Derived.Test.YtonhijonnonmbaaDoorOFilled
import Derived.Test.YtonhijonnonmbaaDoorOLaid
import Derived.Test.YtonhijonnonmbaaDoorShelf
import Derived.Sort.Grow
namespace Go.Proofs.YtonhijonnonmbaaDoor
open Go.RowKit
set_option maxRecDepth 100000
set_option linter.unusedVariables false

def Pow (w : World) : Prop := Lib.TabIs Tryd.prog w "internal/strconv.uint64pow10" .u64 Lib.pow10Tab
theorem Pow.then {w w' : World} (h : Pow w) (hb : Below w.heap.size w w') : Pow w' := by
  unfold Pow Lib.TabIs World.var? at h ⊢
  rw [gPow] at h ⊢
  simp only [Option.bind_some] at h ⊢
  have hlt : 2 < w.heap.size := by
    rcases Nat.lt_or_ge 2 w.heap.size with h' | h'
    · exact h'
    · rw [Array.getElem?_eq_none h'] at h; cases h
  rw [hb.block _ hlt]
  exact h
theorem itoa_any (n : Int) (w : World) (h0 : -9223372036854775808 ≤ n) (h1 : n ≤ 9223372036854775807) (hp : Pow w) :
    Calls Tryd.prog 41 #[.int .i64 n, .int .i64 10] w fun e w' => e = .returned (.string ⟨(Lib.itoa n).toArray⟩) ∧ Below w.heap.size w w' :=
  (Tryd.strconv_FormatInt_10 n h0 h1 w hp).mono fun e w' ⟨he, k, os, hw⟩ => ⟨he, by
    subst hw
    exact ⟨rfl, rfl, rfl, by simp [Go.Sort.grow], fun i hi => by simp only [Go.Sort.grow]; rw [Array.getElem?_append_left (by simpa using hi)]; rfl⟩⟩
def ftext (o : Ob) : Nat → ByteArray
  | 0 => o.parent
  | 1 => ⟨(Lib.itoa ((o.typ : Int))).toArray⟩
  | 2 => o.ref
  | 3 => ⟨(Lib.itoa (o.lo)).toArray⟩
  | 4 => ⟨(Lib.itoa (o.hi)).toArray⟩
  | 5 => ⟨(Lib.itoa ((o.digits : Int))).toArray⟩
  | 6 => ⟨(Lib.itoa (boolI o.on)).toArray⟩
  | 7 => ⟨(Lib.itoa (boolI o.has)).toArray⟩
  | 8 => ⟨(Lib.itoa (o.value)).toArray⟩
  | 9 => ⟨(Lib.itoa (o.low)).toArray⟩
  | 10 => ⟨(Lib.itoa (o.high)).toArray⟩
  | 11 => ⟨(Lib.itoa ((o.assoc : Int))).toArray⟩
  | _ => ⟨#[]⟩
set_option maxHeartbeats 2000000 in
theorem ftext0 (o : Ob) (B : Nat) (w : World) (h : AtC w B (obCells o)) (hp : Pow w) : Calls Tryd.prog 15 #[fld0, .pointer (some ⟨B, 0, none⟩)] w fun e w' => e = .returned (.string (ftext o 0)) ∧ Below w.heap.size w w' := by
  have hb : Below w.heap.size w w := Below.refl _ _
  have C := fun W => Lib.hid (at0 B W)
  have Nw := fun W => run_neq_func_nil W _ _ _ _ (.func 28) #[] #[] Tryd.underlying41
  have h2 := (h.al (.cells #[.int .u16 1, .string ⟨#[112, 97, 114, 101, 110, 116]⟩, .func (.func 28) #[] #[], .nilFunc, .nilFunc, .nilFunc] 46)).c
  go_enter Tryd.func15, Tryd.ntmps15
  go_wp2_with (go_at_call 28; ((with_reducible refine (C _).out.mono ?_); rintro e w1 ⟨rfl, rfl⟩))
  go_ret
  exact ⟨rfl, bAl hb _⟩
set_option maxHeartbeats 2000000 in
theorem ftext1 (o : Ob) (B : Nat) (w : World) (h : AtC w B (obCells o)) (hp : Pow w) (hk : o.typ ≤ 255) : Calls Tryd.prog 15 #[fld1, .pointer (some ⟨B, 0, none⟩)] w fun e w' => e = .returned (.string (ftext o 1)) ∧ Below w.heap.size w w' := by
  have hb : Below w.heap.size w w := Below.refl _ _
  have C := Lib.hid (count1 o B _ (h.al (.cells #[.int .u16 2, .string ⟨#[116, 121, 112, 101]⟩, .nilFunc, .nilFunc, .func (.func 29) #[] #[], .nilFunc] 46)) hk)
  have Nw := fun W => run_neq_nil_nil W _ _ _ _ Tryd.underlying41
  have CI := Lib.hid (fun W (k : Below w.heap.size w W) => itoa_any ((o.typ : Int)) W (by omega) (by omega) (hp.then k))
  have HV : Hid (ftext o 1 = ⟨(Lib.itoa ((o.typ : Int))).toArray⟩) := Lib.hid rfl
  rw [HV.out]
  clear h hp HV hk
  generalize (o.typ : Int) = c at *
  go_enter Tryd.func15, Tryd.ntmps15
  go_wp2_with fail
  go_at_call 40
  with_reducible refine C.out.mono ?_
  rintro e w1 ⟨rfl, k1⟩
  replace hb := bThen (bAl hb _) k1
  go_wp2_with (go_at_call 41; ((with_reducible refine (CI.out _ hb).mono ?_); rintro e w2 ⟨rfl, k2⟩; replace hb := bThen hb k2))
  go_ret
  exact ⟨rfl, hb⟩
set_option maxHeartbeats 2000000 in
theorem ftext2 (o : Ob) (B : Nat) (w : World) (h : AtC w B (obCells o)) (hp : Pow w) : Calls Tryd.prog 15 #[fld2, .pointer (some ⟨B, 0, none⟩)] w fun e w' => e = .returned (.string (ftext o 2)) ∧ Below w.heap.size w w' := by
  have hb : Below w.heap.size w w := Below.refl _ _
  have C := fun W => Lib.hid (at2 B W)
  have Nw := fun W => run_neq_func_nil W _ _ _ _ (.func 30) #[] #[] Tryd.underlying41
  have h2 := (h.al (.cells #[.int .u16 4, .string ⟨#[114, 101, 102]⟩, .func (.func 30) #[] #[], .nilFunc, .nilFunc, .nilFunc] 46)).c
  go_enter Tryd.func15, Tryd.ntmps15
  go_wp2_with (go_at_call 30; ((with_reducible refine (C _).out.mono ?_); rintro e w1 ⟨rfl, rfl⟩))
  go_ret
  exact ⟨rfl, bAl hb _⟩
set_option maxHeartbeats 2000000 in
theorem ftext3 (o : Ob) (B : Nat) (w : World) (h : AtC w B (obCells o)) (hp : Pow w) (hk : -9223372036854775808 ≤ o.lo ∧ o.lo ≤ 9223372036854775807) : Calls Tryd.prog 15 #[fld3, .pointer (some ⟨B, 0, none⟩)] w fun e w' => e = .returned (.string (ftext o 3)) ∧ Below w.heap.size w w' := by
  have hb : Below w.heap.size w w := Below.refl _ _
  have C := Lib.hid (count3 o B _ (h.al (.cells #[.int .u16 8, .string ⟨#[108, 111]⟩, .nilFunc, .func (.func 31) #[] #[], .nilFunc, .nilFunc] 46)))
  have Nw := fun W => run_neq_nil_nil W _ _ _ _ Tryd.underlying41
  have CI := Lib.hid (fun W (k : Below w.heap.size w W) => itoa_any (o.lo) W hk.1 hk.2 (hp.then k))
  have HV : Hid (ftext o 3 = ⟨(Lib.itoa (o.lo)).toArray⟩) := Lib.hid rfl
  rw [HV.out]
  clear h hp HV hk
  generalize o.lo = c at *
  go_enter Tryd.func15, Tryd.ntmps15
  go_wp2_with fail
  go_at_call 40
  with_reducible refine C.out.mono ?_
  rintro e w1 ⟨rfl, k1⟩
  replace hb := bThen (bAl hb _) k1
  go_wp2_with (go_at_call 41; ((with_reducible refine (CI.out _ hb).mono ?_); rintro e w2 ⟨rfl, k2⟩; replace hb := bThen hb k2))
  go_ret
  exact ⟨rfl, hb⟩
set_option maxHeartbeats 2000000 in
theorem ftext4 (o : Ob) (B : Nat) (w : World) (h : AtC w B (obCells o)) (hp : Pow w) (hk : -9223372036854775808 ≤ o.hi ∧ o.hi ≤ 9223372036854775807) : Calls Tryd.prog 15 #[fld4, .pointer (some ⟨B, 0, none⟩)] w fun e w' => e = .returned (.string (ftext o 4)) ∧ Below w.heap.size w w' := by
  have hb : Below w.heap.size w w := Below.refl _ _
  have C := Lib.hid (count4 o B _ (h.al (.cells #[.int .u16 16, .string ⟨#[104, 105]⟩, .nilFunc, .func (.func 32) #[] #[], .nilFunc, .nilFunc] 46)))
  have Nw := fun W => run_neq_nil_nil W _ _ _ _ Tryd.underlying41
  have CI := Lib.hid (fun W (k : Below w.heap.size w W) => itoa_any (o.hi) W hk.1 hk.2 (hp.then k))
  have HV : Hid (ftext o 4 = ⟨(Lib.itoa (o.hi)).toArray⟩) := Lib.hid rfl
  rw [HV.out]
  clear h hp HV hk
  generalize o.hi = c at *
  go_enter Tryd.func15, Tryd.ntmps15
  go_wp2_with fail
  go_at_call 40
  with_reducible refine C.out.mono ?_
  rintro e w1 ⟨rfl, k1⟩
  replace hb := bThen (bAl hb _) k1
  go_wp2_with (go_at_call 41; ((with_reducible refine (CI.out _ hb).mono ?_); rintro e w2 ⟨rfl, k2⟩; replace hb := bThen hb k2))
  go_ret
  exact ⟨rfl, hb⟩
set_option maxHeartbeats 2000000 in
theorem ftext5 (o : Ob) (B : Nat) (w : World) (h : AtC w B (obCells o)) (hp : Pow w) (hk : o.digits ≤ 255) : Calls Tryd.prog 15 #[fld5, .pointer (some ⟨B, 0, none⟩)] w fun e w' => e = .returned (.string (ftext o 5)) ∧ Below w.heap.size w w' := by
  have hb : Below w.heap.size w w := Below.refl _ _
  have C := Lib.hid (count5 o B _ (h.al (.cells #[.int .u16 32, .string ⟨#[100, 105, 103, 105, 116, 115]⟩, .nilFunc, .nilFunc, .func (.func 33) #[] #[], .nilFunc] 46)) hk)
  have Nw := fun W => run_neq_nil_nil W _ _ _ _ Tryd.underlying41
  have CI := Lib.hid (fun W (k : Below w.heap.size w W) => itoa_any ((o.digits : Int)) W (by omega) (by omega) (hp.then k))
  have HV : Hid (ftext o 5 = ⟨(Lib.itoa ((o.digits : Int))).toArray⟩) := Lib.hid rfl
  rw [HV.out]
  clear h hp HV hk
  generalize (o.digits : Int) = c at *
  go_enter Tryd.func15, Tryd.ntmps15
  go_wp2_with fail
  go_at_call 40
  with_reducible refine C.out.mono ?_
  rintro e w1 ⟨rfl, k1⟩
  replace hb := bThen (bAl hb _) k1
  go_wp2_with (go_at_call 41; ((with_reducible refine (CI.out _ hb).mono ?_); rintro e w2 ⟨rfl, k2⟩; replace hb := bThen hb k2))
  go_ret
  exact ⟨rfl, hb⟩
set_option maxHeartbeats 2000000 in
theorem ftext6 (o : Ob) (B : Nat) (w : World) (h : AtC w B (obCells o)) (hp : Pow w) : Calls Tryd.prog 15 #[fld6, .pointer (some ⟨B, 0, none⟩)] w fun e w' => e = .returned (.string (ftext o 6)) ∧ Below w.heap.size w w' := by
  have hb : Below w.heap.size w w := Below.refl _ _
  have C := Lib.hid (count6 o B _ (h.al (.cells #[.int .u16 64, .string ⟨#[111, 110]⟩, .nilFunc, .nilFunc, .nilFunc, .func (.func 34) #[] #[]] 46)))
  have Nw := fun W => run_neq_nil_nil W _ _ _ _ Tryd.underlying41
  have CI := Lib.hid (fun W (k : Below w.heap.size w W) => itoa_any (boolI o.on) W (by cases o.on <;> decide) (by cases o.on <;> decide) (hp.then k))
  have HV : Hid (ftext o 6 = ⟨(Lib.itoa (boolI o.on)).toArray⟩) := Lib.hid rfl
  rw [HV.out]
  clear h hp HV
  generalize boolI o.on = c at *
  go_enter Tryd.func15, Tryd.ntmps15
  go_wp2_with fail
  go_at_call 40
  with_reducible refine C.out.mono ?_
  rintro e w1 ⟨rfl, k1⟩
  replace hb := bThen (bAl hb _) k1
  go_wp2_with (go_at_call 41; ((with_reducible refine (CI.out _ hb).mono ?_); rintro e w2 ⟨rfl, k2⟩; replace hb := bThen hb k2))
  go_ret
  exact ⟨rfl, hb⟩
set_option maxHeartbeats 2000000 in
theorem ftext7 (o : Ob) (B : Nat) (w : World) (h : AtC w B (obCells o)) (hp : Pow w) : Calls Tryd.prog 15 #[fld7, .pointer (some ⟨B, 0, none⟩)] w fun e w' => e = .returned (.string (ftext o 7)) ∧ Below w.heap.size w w' := by
  have hb : Below w.heap.size w w := Below.refl _ _
  have C := Lib.hid (count7 o B _ (h.al (.cells #[.int .u16 128, .string ⟨#[104, 97, 115]⟩, .nilFunc, .nilFunc, .nilFunc, .func (.func 35) #[] #[]] 46)))
  have Nw := fun W => run_neq_nil_nil W _ _ _ _ Tryd.underlying41
  have CI := Lib.hid (fun W (k : Below w.heap.size w W) => itoa_any (boolI o.has) W (by cases o.has <;> decide) (by cases o.has <;> decide) (hp.then k))
  have HV : Hid (ftext o 7 = ⟨(Lib.itoa (boolI o.has)).toArray⟩) := Lib.hid rfl
  rw [HV.out]
  clear h hp HV
  generalize boolI o.has = c at *
  go_enter Tryd.func15, Tryd.ntmps15
  go_wp2_with fail
  go_at_call 40
  with_reducible refine C.out.mono ?_
  rintro e w1 ⟨rfl, k1⟩
  replace hb := bThen (bAl hb _) k1
  go_wp2_with (go_at_call 41; ((with_reducible refine (CI.out _ hb).mono ?_); rintro e w2 ⟨rfl, k2⟩; replace hb := bThen hb k2))
  go_ret
  exact ⟨rfl, hb⟩
set_option maxHeartbeats 2000000 in
theorem ftext8 (o : Ob) (B : Nat) (w : World) (h : AtC w B (obCells o)) (hp : Pow w) (hk : -9223372036854775808 ≤ o.value ∧ o.value ≤ 9223372036854775807) : Calls Tryd.prog 15 #[fld8, .pointer (some ⟨B, 0, none⟩)] w fun e w' => e = .returned (.string (ftext o 8)) ∧ Below w.heap.size w w' := by
  have hb : Below w.heap.size w w := Below.refl _ _
  have C := Lib.hid (count8 o B _ (h.al (.cells #[.int .u16 256, .string ⟨#[118, 97, 108, 117, 101]⟩, .nilFunc, .func (.func 36) #[] #[], .nilFunc, .nilFunc] 46)))
  have Nw := fun W => run_neq_nil_nil W _ _ _ _ Tryd.underlying41
  have CI := Lib.hid (fun W (k : Below w.heap.size w W) => itoa_any (o.value) W hk.1 hk.2 (hp.then k))
  have HV : Hid (ftext o 8 = ⟨(Lib.itoa (o.value)).toArray⟩) := Lib.hid rfl
  rw [HV.out]
  clear h hp HV hk
  generalize o.value = c at *
  go_enter Tryd.func15, Tryd.ntmps15
  go_wp2_with fail
  go_at_call 40
  with_reducible refine C.out.mono ?_
  rintro e w1 ⟨rfl, k1⟩
  replace hb := bThen (bAl hb _) k1
  go_wp2_with (go_at_call 41; ((with_reducible refine (CI.out _ hb).mono ?_); rintro e w2 ⟨rfl, k2⟩; replace hb := bThen hb k2))
  go_ret
  exact ⟨rfl, hb⟩
set_option maxHeartbeats 2000000 in
theorem ftext9 (o : Ob) (B : Nat) (w : World) (h : AtC w B (obCells o)) (hp : Pow w) (hk : -9223372036854775808 ≤ o.low ∧ o.low ≤ 9223372036854775807) : Calls Tryd.prog 15 #[fld9, .pointer (some ⟨B, 0, none⟩)] w fun e w' => e = .returned (.string (ftext o 9)) ∧ Below w.heap.size w w' := by
  have hb : Below w.heap.size w w := Below.refl _ _
  have C := Lib.hid (count9 o B _ (h.al (.cells #[.int .u16 512, .string ⟨#[108, 111, 119]⟩, .nilFunc, .func (.func 37) #[] #[], .nilFunc, .nilFunc] 46)))
  have Nw := fun W => run_neq_nil_nil W _ _ _ _ Tryd.underlying41
  have CI := Lib.hid (fun W (k : Below w.heap.size w W) => itoa_any (o.low) W hk.1 hk.2 (hp.then k))
  have HV : Hid (ftext o 9 = ⟨(Lib.itoa (o.low)).toArray⟩) := Lib.hid rfl
  rw [HV.out]
  clear h hp HV hk
  generalize o.low = c at *
  go_enter Tryd.func15, Tryd.ntmps15
  go_wp2_with fail
  go_at_call 40
  with_reducible refine C.out.mono ?_
  rintro e w1 ⟨rfl, k1⟩
  replace hb := bThen (bAl hb _) k1
  go_wp2_with (go_at_call 41; ((with_reducible refine (CI.out _ hb).mono ?_); rintro e w2 ⟨rfl, k2⟩; replace hb := bThen hb k2))
  go_ret
  exact ⟨rfl, hb⟩
set_option maxHeartbeats 2000000 in
theorem ftext10 (o : Ob) (B : Nat) (w : World) (h : AtC w B (obCells o)) (hp : Pow w) (hk : -9223372036854775808 ≤ o.high ∧ o.high ≤ 9223372036854775807) : Calls Tryd.prog 15 #[fld10, .pointer (some ⟨B, 0, none⟩)] w fun e w' => e = .returned (.string (ftext o 10)) ∧ Below w.heap.size w w' := by
  have hb : Below w.heap.size w w := Below.refl _ _
  have C := Lib.hid (count10 o B _ (h.al (.cells #[.int .u16 1024, .string ⟨#[104, 105, 103, 104]⟩, .nilFunc, .func (.func 38) #[] #[], .nilFunc, .nilFunc] 46)))
  have Nw := fun W => run_neq_nil_nil W _ _ _ _ Tryd.underlying41
  have CI := Lib.hid (fun W (k : Below w.heap.size w W) => itoa_any (o.high) W hk.1 hk.2 (hp.then k))
  have HV : Hid (ftext o 10 = ⟨(Lib.itoa (o.high)).toArray⟩) := Lib.hid rfl
  rw [HV.out]
  clear h hp HV hk
  generalize o.high = c at *
  go_enter Tryd.func15, Tryd.ntmps15
  go_wp2_with fail
  go_at_call 40
  with_reducible refine C.out.mono ?_
  rintro e w1 ⟨rfl, k1⟩
  replace hb := bThen (bAl hb _) k1
  go_wp2_with (go_at_call 41; ((with_reducible refine (CI.out _ hb).mono ?_); rintro e w2 ⟨rfl, k2⟩; replace hb := bThen hb k2))
  go_ret
  exact ⟨rfl, hb⟩
set_option maxHeartbeats 2000000 in
theorem ftext11 (o : Ob) (B : Nat) (w : World) (h : AtC w B (obCells o)) (hp : Pow w) (hk : o.assoc ≤ 255) : Calls Tryd.prog 15 #[fld11, .pointer (some ⟨B, 0, none⟩)] w fun e w' => e = .returned (.string (ftext o 11)) ∧ Below w.heap.size w w' := by
  have hb : Below w.heap.size w w := Below.refl _ _
  have C := Lib.hid (count11 o B _ (h.al (.cells #[.int .u16 2048, .string ⟨#[97, 115, 115, 111, 99]⟩, .nilFunc, .nilFunc, .func (.func 39) #[] #[], .nilFunc] 46)) hk)
  have Nw := fun W => run_neq_nil_nil W _ _ _ _ Tryd.underlying41
  have CI := Lib.hid (fun W (k : Below w.heap.size w W) => itoa_any ((o.assoc : Int)) W (by omega) (by omega) (hp.then k))
  have HV : Hid (ftext o 11 = ⟨(Lib.itoa ((o.assoc : Int))).toArray⟩) := Lib.hid rfl
  rw [HV.out]
  clear h hp HV hk
  generalize (o.assoc : Int) = c at *
  go_enter Tryd.func15, Tryd.ntmps15
  go_wp2_with fail
  go_at_call 40
  with_reducible refine C.out.mono ?_
  rintro e w1 ⟨rfl, k1⟩
  replace hb := bThen (bAl hb _) k1
  go_wp2_with (go_at_call 41; ((with_reducible refine (CI.out _ hb).mono ?_); rintro e w2 ⟨rfl, k2⟩; replace hb := bThen hb k2))
  go_ret
  exact ⟨rfl, hb⟩
end Go.Proofs.YtonhijonnonmbaaDoor
