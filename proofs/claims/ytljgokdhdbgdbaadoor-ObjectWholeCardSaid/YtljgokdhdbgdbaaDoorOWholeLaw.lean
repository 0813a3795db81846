/-
  WALK: the law ObjectWhole.
-/
import Derived.Test.YtljgokdhdbgdbaaDoorOAwake
import Derived.Test.YtljgokdhdbgdbaaDoorOWholeMath
import Derived.Test.YtljgokdhdbgdbaaDoorOLong
namespace Go.Proofs.YtljgokdhdbgdbaaDoor
open Go.RowKit
set_option maxRecDepth 100000
set_option linter.unusedVariables false

theorem dot_len (s : ByteArray) (hs : s.size ≤ 100) : (s ++ (⟨#[46]⟩ : ByteArray)).size ≤ maxLen := by
  have e : (s ++ (⟨#[46]⟩ : ByteArray)).size = s.size + (⟨#[46]⟩ : ByteArray).size := ByteArray.size_append
  have e2 : (⟨#[46]⟩ : ByteArray).size = 1 := rfl
  rw [e, e2]
  unfold maxLen
  omega
theorem meets_str {o : Ob} {w : World} (h : Meets o w) {x : Ob} (k : x.kind ≤ 255) (t : x.typ ≤ 255) (d : x.digits ≤ 255) (a : x.assoc ≤ 255) (z1 : x.handle.size ≤ maxLen) (z2 : x.parent.size ≤ maxLen) (z3 : x.ref.size ≤ maxLen) : Meets x w := ⟨k, t, d, a, z1, z2, z3, h.words, h.kinds⟩
set_option maxHeartbeats 16000000 in
theorem whole0 (o : Ob) (n : Nat) (w : World) (h : Meets o w) (ht : Tabs w) (hz : longB o = false) (hr : faultP o true = 0) (hn : n % 8 = 0) : Calls Tryd.prog 9 #[ob o, .int .u8 n] w fun e w' => e = .returned (.bool true) ∧ Below w.heap.size w w' := by
  have hb : Below w.heap.size w w := Below.refl _ _
  have AW := Lib.hid (fun W (k : Below w.heap.size w W) => awake_any (ht.then k))
  have L1 := fun W => Lib.hid (hz ▸ long_any o W)
  have A1 := Lib.hid (fun W (k : Below w.heap.size w W) => hr ▸ objMay_any (h.then k))
  have HH := Lib.hid h
  have HR := Lib.hid hr
  have HL := Lib.hid (longB_out hz)
  have HN := Lib.hid hn
  clear hn
  clear h ht hz hr
  go_enter Tryd.func9, Tryd.ntmps9
  go_wp2_with fail
  go_at_call 31
  refine (AW.out _ (bAl hb _)).mono ?_
  rintro e w1 ⟨rfl, k1⟩
  replace hb := bThen (bAl hb _) k1
  have mO := (AtC.new _ _ _).then k1
  have oc := mO.c
  go_wp2_with fail
  go_at_call 10
  with_reducible refine (L1 _).out.mono ?_
  rintro e w2 ⟨rfl, k2⟩
  replace hb := bThen hb k2
  replace mO := mO.then k2
  have oc := mO.c
  go_wp2_with fail
  go_at_call 11
  with_reducible refine (A1.out _ hb).mono ?_
  rintro e w3 ⟨rfl, k3⟩
  replace hb := bThen hb k3
  replace mO := mO.then k3
  clear k1 k2 k3 AW L1 A1 oc
  obtain ⟨h, k, p, t, r, lo, hi, d, on, has, v, lw, hg, a⟩ := o
  dsimp only at *
  have hn := HN.out
  clear HN
  have hm1 : (n : Int) % 8 = 0 := by omega
  have hm2 : (n : Int).tmod 8 = 0 := by rw [Int.tmod_eq_emod_of_nonneg (by omega)]; omega
  have hm3 : n % 8 = 0 := hn
  clear hn
  have oc := mO.c
  have ol := mO.lt
  have C := Lib.hid (fun W (kb : Below w.heap.size w W) => show Calls Tryd.prog 11 #[.agg #[.string h, .int .u8 10, .string p, .int .u8 t, .string r, .int .i64 lo, .int .i64 hi, .int .u8 d, .bool on, .bool has, .int .i64 v, .int .i64 lw, .int .i64 hg, .int .u8 a]] W fun e w' => e = .returned (.int .i64 40) ∧ Below W.heap.size W w' from sp0 ▸ objMay_any (o := ⟨h, 10, p, t, r, lo, hi, d, on, has, v, lw, hg, a⟩) (meets_str (HH.out.then kb) (show 10 ≤ 255 by omega) HH.out.typ HH.out.digits HH.out.assoc HH.out.handle HH.out.parent HH.out.ref))
  clear HH HR HL mO
  go_wp2_with (go_at_call 11; (refine (C.out _ (bAl hb _)).mono ?_; rintro e w5 ⟨rfl, k5⟩; replace hb := bThen (bAl hb _) k5))
  go_ret
  exact ⟨by simp [*], hb⟩
set_option maxHeartbeats 16000000 in
theorem whole1 (o : Ob) (n : Nat) (w : World) (h : Meets o w) (ht : Tabs w) (hz : longB o = false) (hr : faultP o true = 0) (hn : n % 8 = 1) : Calls Tryd.prog 9 #[ob o, .int .u8 n] w fun e w' => e = .returned (.bool true) ∧ Below w.heap.size w w' := by
  have hb : Below w.heap.size w w := Below.refl _ _
  have AW := Lib.hid (fun W (k : Below w.heap.size w W) => awake_any (ht.then k))
  have L1 := fun W => Lib.hid (hz ▸ long_any o W)
  have A1 := Lib.hid (fun W (k : Below w.heap.size w W) => hr ▸ objMay_any (h.then k))
  have HH := Lib.hid h
  have HR := Lib.hid hr
  have HL := Lib.hid (longB_out hz)
  have HN := Lib.hid hn
  clear hn
  clear h ht hz hr
  go_enter Tryd.func9, Tryd.ntmps9
  go_wp2_with fail
  go_at_call 31
  refine (AW.out _ (bAl hb _)).mono ?_
  rintro e w1 ⟨rfl, k1⟩
  replace hb := bThen (bAl hb _) k1
  have mO := (AtC.new _ _ _).then k1
  have oc := mO.c
  go_wp2_with fail
  go_at_call 10
  with_reducible refine (L1 _).out.mono ?_
  rintro e w2 ⟨rfl, k2⟩
  replace hb := bThen hb k2
  replace mO := mO.then k2
  have oc := mO.c
  go_wp2_with fail
  go_at_call 11
  with_reducible refine (A1.out _ hb).mono ?_
  rintro e w3 ⟨rfl, k3⟩
  replace hb := bThen hb k3
  replace mO := mO.then k3
  clear k1 k2 k3 AW L1 A1 oc
  obtain ⟨h, k, p, t, r, lo, hi, d, on, has, v, lw, hg, a⟩ := o
  dsimp only at *
  have hn := HN.out
  clear HN
  have hm1 : (n : Int) % 8 = 1 := by omega
  have hm2 : (n : Int).tmod 8 = 1 := by rw [Int.tmod_eq_emod_of_nonneg (by omega)]; omega
  have hm3 : n % 8 = 1 := hn
  clear hn
  have oc := mO.c
  have ol := mO.lt
  have C := Lib.hid (fun W (kb : Below w.heap.size w W) => show Calls Tryd.prog 11 #[.agg #[.string h, .int .u8 k, .string p, .int .u8 4, .string r, .int .i64 lo, .int .i64 hi, .int .u8 d, .bool on, .bool has, .int .i64 v, .int .i64 lw, .int .i64 hg, .int .u8 a]] W fun e w' => e = .returned (.int .i64 40) ∧ Below W.heap.size W w' from sp1 ▸ objMay_any (o := ⟨h, k, p, 4, r, lo, hi, d, on, has, v, lw, hg, a⟩) (meets_str (HH.out.then kb) HH.out.kind (show 4 ≤ 255 by omega) HH.out.digits HH.out.assoc HH.out.handle HH.out.parent HH.out.ref))
  clear HH HR HL mO
  go_wp2_with (go_at_call 11; (refine (C.out _ (bAl hb _)).mono ?_; rintro e w5 ⟨rfl, k5⟩; replace hb := bThen (bAl hb _) k5))
  go_ret
  exact ⟨by simp [*], hb⟩
set_option maxHeartbeats 16000000 in
theorem whole2 (o : Ob) (n : Nat) (w : World) (h : Meets o w) (ht : Tabs w) (hz : longB o = false) (hr : faultP o true = 0) (hn : n % 8 = 2) : Calls Tryd.prog 9 #[ob o, .int .u8 n] w fun e w' => e = .returned (.bool true) ∧ Below w.heap.size w w' := by
  have hb : Below w.heap.size w w := Below.refl _ _
  have AW := Lib.hid (fun W (k : Below w.heap.size w W) => awake_any (ht.then k))
  have L1 := fun W => Lib.hid (hz ▸ long_any o W)
  have A1 := Lib.hid (fun W (k : Below w.heap.size w W) => hr ▸ objMay_any (h.then k))
  have HH := Lib.hid h
  have HR := Lib.hid hr
  have HL := Lib.hid (longB_out hz)
  have HN := Lib.hid hn
  clear hn
  clear h ht hz hr
  go_enter Tryd.func9, Tryd.ntmps9
  go_wp2_with fail
  go_at_call 31
  refine (AW.out _ (bAl hb _)).mono ?_
  rintro e w1 ⟨rfl, k1⟩
  replace hb := bThen (bAl hb _) k1
  have mO := (AtC.new _ _ _).then k1
  have oc := mO.c
  go_wp2_with fail
  go_at_call 10
  with_reducible refine (L1 _).out.mono ?_
  rintro e w2 ⟨rfl, k2⟩
  replace hb := bThen hb k2
  replace mO := mO.then k2
  have oc := mO.c
  go_wp2_with fail
  go_at_call 11
  with_reducible refine (A1.out _ hb).mono ?_
  rintro e w3 ⟨rfl, k3⟩
  replace hb := bThen hb k3
  replace mO := mO.then k3
  clear k1 k2 k3 AW L1 A1 oc
  obtain ⟨h, k, p, t, r, lo, hi, d, on, has, v, lw, hg, a⟩ := o
  dsimp only at *
  have hn := HN.out
  clear HN
  have hm1 : (n : Int) % 8 = 2 := by omega
  have hm2 : (n : Int).tmod 8 = 2 := by rw [Int.tmod_eq_emod_of_nonneg (by omega)]; omega
  have hm3 : n % 8 = 2 := hn
  clear hn
  have oc := mO.c
  have ol := mO.lt
  have C := Lib.hid (fun W (kb : Below w.heap.size w W) => show Calls Tryd.prog 11 #[.agg #[.string h, .int .u8 k, .string p, .int .u8 t, .string r, .int .i64 lo, .int .i64 hi, .int .u8 d, .bool on, .bool has, .int .i64 v, .int .i64 lw, .int .i64 hg, .int .u8 4]] W fun e w' => e = .returned (.int .i64 40) ∧ Below W.heap.size W w' from sp2 ▸ objMay_any (o := ⟨h, k, p, t, r, lo, hi, d, on, has, v, lw, hg, 4⟩) (meets_str (HH.out.then kb) HH.out.kind HH.out.typ HH.out.digits (show 4 ≤ 255 by omega) HH.out.handle HH.out.parent HH.out.ref))
  clear HH HR HL mO
  go_wp2_with (go_at_call 11; (refine (C.out _ (bAl hb _)).mono ?_; rintro e w5 ⟨rfl, k5⟩; replace hb := bThen (bAl hb _) k5))
  go_ret
  exact ⟨by simp [*], hb⟩
set_option maxHeartbeats 16000000 in
theorem whole3 (o : Ob) (n : Nat) (w : World) (h : Meets o w) (ht : Tabs w) (hz : longB o = false) (hr : faultP o true = 0) (hn : n % 8 = 3) : Calls Tryd.prog 9 #[ob o, .int .u8 n] w fun e w' => e = .returned (.bool true) ∧ Below w.heap.size w w' := by
  have hb : Below w.heap.size w w := Below.refl _ _
  have AW := Lib.hid (fun W (k : Below w.heap.size w W) => awake_any (ht.then k))
  have L1 := fun W => Lib.hid (hz ▸ long_any o W)
  have A1 := Lib.hid (fun W (k : Below w.heap.size w W) => hr ▸ objMay_any (h.then k))
  have HH := Lib.hid h
  have HR := Lib.hid hr
  have HL := Lib.hid (longB_out hz)
  have HN := Lib.hid hn
  clear hn
  clear h ht hz hr
  go_enter Tryd.func9, Tryd.ntmps9
  go_wp2_with fail
  go_at_call 31
  refine (AW.out _ (bAl hb _)).mono ?_
  rintro e w1 ⟨rfl, k1⟩
  replace hb := bThen (bAl hb _) k1
  have mO := (AtC.new _ _ _).then k1
  have oc := mO.c
  go_wp2_with fail
  go_at_call 10
  with_reducible refine (L1 _).out.mono ?_
  rintro e w2 ⟨rfl, k2⟩
  replace hb := bThen hb k2
  replace mO := mO.then k2
  have oc := mO.c
  go_wp2_with fail
  go_at_call 11
  with_reducible refine (A1.out _ hb).mono ?_
  rintro e w3 ⟨rfl, k3⟩
  replace hb := bThen hb k3
  replace mO := mO.then k3
  clear k1 k2 k3 AW L1 A1 oc
  obtain ⟨h, k, p, t, r, lo, hi, d, on, has, v, lw, hg, a⟩ := o
  dsimp only at *
  have hn := HN.out
  clear HN
  have hm1 : (n : Int) % 8 = 3 := by omega
  have hm2 : (n : Int).tmod 8 = 3 := by rw [Int.tmod_eq_emod_of_nonneg (by omega)]; omega
  have hm3 : n % 8 = 3 := hn
  clear hn
  have hs : h.size ≤ 100 := HL.out.1
  have hz1 : (h ++ (⟨#[46]⟩ : ByteArray)).size ≤ maxLen := dot_len h hs
  have hd := may_dot h
  have oc := mO.c
  have ol := mO.lt
  have C := Lib.hid (fun W (kb : Below w.heap.size w W) => show Calls Tryd.prog 11 #[.agg #[.string (h ++ (⟨#[46]⟩ : ByteArray)), .int .u8 k, .string p, .int .u8 t, .string r, .int .i64 lo, .int .i64 hi, .int .u8 d, .bool on, .bool has, .int .i64 v, .int .i64 lw, .int .i64 hg, .int .u8 a]] W fun e w' => e = .returned (.int .i64 10) ∧ Below W.heap.size W w' from sp34 HR.out hd ▸ objMay_any (o := ⟨h ++ (⟨#[46]⟩ : ByteArray), k, p, t, r, lo, hi, d, on, has, v, lw, hg, a⟩) (meets_str (HH.out.then kb) HH.out.kind HH.out.typ HH.out.digits HH.out.assoc hz1 HH.out.parent HH.out.ref))
  clear HH HR HL mO hz1 hd
  go_wp2_with (go_at_call 11; (refine (C.out _ (bAl hb _)).mono ?_; rintro e w5 ⟨rfl, k5⟩; replace hb := bThen (bAl hb _) k5))
  go_ret
  exact ⟨by simp [*], hb⟩
set_option maxHeartbeats 16000000 in
theorem whole4 (o : Ob) (n : Nat) (w : World) (h : Meets o w) (ht : Tabs w) (hz : longB o = false) (hr : faultP o true = 0) (hn : n % 8 = 4) : Calls Tryd.prog 9 #[ob o, .int .u8 n] w fun e w' => e = .returned (.bool true) ∧ Below w.heap.size w w' := by
  have hb : Below w.heap.size w w := Below.refl _ _
  have AW := Lib.hid (fun W (k : Below w.heap.size w W) => awake_any (ht.then k))
  have L1 := fun W => Lib.hid (hz ▸ long_any o W)
  have A1 := Lib.hid (fun W (k : Below w.heap.size w W) => hr ▸ objMay_any (h.then k))
  have HH := Lib.hid h
  have HR := Lib.hid hr
  have HL := Lib.hid (longB_out hz)
  have HN := Lib.hid hn
  clear hn
  clear h ht hz hr
  go_enter Tryd.func9, Tryd.ntmps9
  go_wp2_with fail
  go_at_call 31
  refine (AW.out _ (bAl hb _)).mono ?_
  rintro e w1 ⟨rfl, k1⟩
  replace hb := bThen (bAl hb _) k1
  have mO := (AtC.new _ _ _).then k1
  have oc := mO.c
  go_wp2_with fail
  go_at_call 10
  with_reducible refine (L1 _).out.mono ?_
  rintro e w2 ⟨rfl, k2⟩
  replace hb := bThen hb k2
  replace mO := mO.then k2
  have oc := mO.c
  go_wp2_with fail
  go_at_call 11
  with_reducible refine (A1.out _ hb).mono ?_
  rintro e w3 ⟨rfl, k3⟩
  replace hb := bThen hb k3
  replace mO := mO.then k3
  clear k1 k2 k3 AW L1 A1 oc
  obtain ⟨h, k, p, t, r, lo, hi, d, on, has, v, lw, hg, a⟩ := o
  dsimp only at *
  have hn := HN.out
  clear HN
  have hm1 : (n : Int) % 8 = 4 := by omega
  have hm2 : (n : Int).tmod 8 = 4 := by rw [Int.tmod_eq_emod_of_nonneg (by omega)]; omega
  have hm3 : n % 8 = 4 := hn
  clear hn
  have oc := mO.c
  have ol := mO.lt
  have C := Lib.hid (fun W (kb : Below w.heap.size w W) => show Calls Tryd.prog 11 #[.agg #[.string ⟨#[]⟩, .int .u8 k, .string p, .int .u8 t, .string r, .int .i64 lo, .int .i64 hi, .int .u8 d, .bool on, .bool has, .int .i64 v, .int .i64 lw, .int .i64 hg, .int .u8 a]] W fun e w' => e = .returned (.int .i64 10) ∧ Below W.heap.size W w' from sp34 HR.out may_none ▸ objMay_any (o := ⟨⟨#[]⟩, k, p, t, r, lo, hi, d, on, has, v, lw, hg, a⟩) (meets_str (HH.out.then kb) HH.out.kind HH.out.typ HH.out.digits HH.out.assoc (Nat.zero_le _) HH.out.parent HH.out.ref))
  clear HH HR HL mO
  go_wp2_with (go_at_call 11; (refine (C.out _ (bAl hb _)).mono ?_; rintro e w5 ⟨rfl, k5⟩; replace hb := bThen (bAl hb _) k5))
  go_ret
  exact ⟨by simp [*], hb⟩
set_option maxHeartbeats 16000000 in
theorem whole5a (o : Ob) (n : Nat) (w : World) (h : Meets o w) (ht : Tabs w) (hz : longB o = false) (hr : faultP o true = 0) (hn : n % 8 = 5) (hk : o.kind = 1) : Calls Tryd.prog 9 #[ob o, .int .u8 n] w fun e w' => e = .returned (.bool true) ∧ Below w.heap.size w w' := by
  have hb : Below w.heap.size w w := Below.refl _ _
  have AW := Lib.hid (fun W (k : Below w.heap.size w W) => awake_any (ht.then k))
  have L1 := fun W => Lib.hid (hz ▸ long_any o W)
  have A1 := Lib.hid (fun W (k : Below w.heap.size w W) => hr ▸ objMay_any (h.then k))
  have HH := Lib.hid h
  have HR := Lib.hid hr
  have HL := Lib.hid (longB_out hz)
  have HN := Lib.hid hn
  clear hn
  have HK := Lib.hid hk
  clear hk
  clear h ht hz hr
  go_enter Tryd.func9, Tryd.ntmps9
  go_wp2_with fail
  go_at_call 31
  refine (AW.out _ (bAl hb _)).mono ?_
  rintro e w1 ⟨rfl, k1⟩
  replace hb := bThen (bAl hb _) k1
  have mO := (AtC.new _ _ _).then k1
  have oc := mO.c
  go_wp2_with fail
  go_at_call 10
  with_reducible refine (L1 _).out.mono ?_
  rintro e w2 ⟨rfl, k2⟩
  replace hb := bThen hb k2
  replace mO := mO.then k2
  have oc := mO.c
  go_wp2_with fail
  go_at_call 11
  with_reducible refine (A1.out _ hb).mono ?_
  rintro e w3 ⟨rfl, k3⟩
  replace hb := bThen hb k3
  replace mO := mO.then k3
  clear k1 k2 k3 AW L1 A1 oc
  obtain ⟨h, k, p, t, r, lo, hi, d, on, has, v, lw, hg, a⟩ := o
  dsimp only at *
  have hk := HK.out
  clear HK
  have hn := HN.out
  clear HN
  subst hk
  have hm1 : (n : Int) % 8 = 5 := by omega
  have hm2 : (n : Int).tmod 8 = 5 := by rw [Int.tmod_eq_emod_of_nonneg (by omega)]; omega
  have hm3 : n % 8 = 5 := hn
  clear hn
  have oc := mO.c
  have ol := mO.lt
  have C := Lib.hid (fun W (kb : Below w.heap.size w W) => show Calls Tryd.prog 11 #[.agg #[.string h, .int .u8 1, .string ⟨#[97]⟩, .int .u8 t, .string r, .int .i64 lo, .int .i64 hi, .int .u8 d, .bool on, .bool has, .int .i64 v, .int .i64 lw, .int .i64 hg, .int .u8 a]] W fun e w' => e = .returned (.int .i64 40) ∧ Below W.heap.size W w' from sp5a ▸ objMay_any (o := ⟨h, 1, ⟨#[97]⟩, t, r, lo, hi, d, on, has, v, lw, hg, a⟩) (meets_str (HH.out.then kb) (show 1 ≤ 255 by omega) HH.out.typ HH.out.digits HH.out.assoc HH.out.handle (show 1 ≤ maxLen by unfold maxLen; omega) HH.out.ref))
  clear HH HR HL mO
  go_wp2_with (go_at_call 11; (refine (C.out _ (bAl hb _)).mono ?_; rintro e w5 ⟨rfl, k5⟩; replace hb := bThen (bAl hb _) k5))
  go_ret
  exact ⟨by simp [*], hb⟩
set_option maxHeartbeats 16000000 in
theorem whole5b (o : Ob) (n : Nat) (w : World) (h : Meets o w) (ht : Tabs w) (hz : longB o = false) (hr : faultP o true = 0) (hn : n % 8 = 5) (hk : ¬ o.kind = 1) : Calls Tryd.prog 9 #[ob o, .int .u8 n] w fun e w' => e = .returned (.bool true) ∧ Below w.heap.size w w' := by
  have hb : Below w.heap.size w w := Below.refl _ _
  have AW := Lib.hid (fun W (k : Below w.heap.size w W) => awake_any (ht.then k))
  have L1 := fun W => Lib.hid (hz ▸ long_any o W)
  have A1 := Lib.hid (fun W (k : Below w.heap.size w W) => hr ▸ objMay_any (h.then k))
  have HH := Lib.hid h
  have HR := Lib.hid hr
  have HL := Lib.hid (longB_out hz)
  have HN := Lib.hid hn
  clear hn
  have HK := Lib.hid hk
  clear hk
  clear h ht hz hr
  go_enter Tryd.func9, Tryd.ntmps9
  go_wp2_with fail
  go_at_call 31
  refine (AW.out _ (bAl hb _)).mono ?_
  rintro e w1 ⟨rfl, k1⟩
  replace hb := bThen (bAl hb _) k1
  have mO := (AtC.new _ _ _).then k1
  have oc := mO.c
  go_wp2_with fail
  go_at_call 10
  with_reducible refine (L1 _).out.mono ?_
  rintro e w2 ⟨rfl, k2⟩
  replace hb := bThen hb k2
  replace mO := mO.then k2
  have oc := mO.c
  go_wp2_with fail
  go_at_call 11
  with_reducible refine (A1.out _ hb).mono ?_
  rintro e w3 ⟨rfl, k3⟩
  replace hb := bThen hb k3
  replace mO := mO.then k3
  clear k1 k2 k3 AW L1 A1 oc
  obtain ⟨h, k, p, t, r, lo, hi, d, on, has, v, lw, hg, a⟩ := o
  dsimp only at *
  have hk := HK.out
  clear HK
  have hn := HN.out
  clear HN
  have hm1 : (n : Int) % 8 = 5 := by omega
  have hm2 : (n : Int).tmod 8 = 5 := by rw [Int.tmod_eq_emod_of_nonneg (by omega)]; omega
  have hm3 : n % 8 = 5 := hn
  clear hn
  have hk2 : ¬ (k : Int) = 1 := by omega
  have oc := mO.c
  have ol := mO.lt
  have C := Lib.hid (fun W (kb : Below w.heap.size w W) => show Calls Tryd.prog 11 #[.agg #[.string h, .int .u8 k, .string ⟨#[]⟩, .int .u8 t, .string r, .int .i64 lo, .int .i64 hi, .int .u8 d, .bool on, .bool has, .int .i64 v, .int .i64 lw, .int .i64 hg, .int .u8 a]] W fun e w' => e = .returned (.int .i64 10) ∧ Below W.heap.size W w' from sp5b HR.out hk ▸ objMay_any (o := ⟨h, k, ⟨#[]⟩, t, r, lo, hi, d, on, has, v, lw, hg, a⟩) (meets_str (HH.out.then kb) HH.out.kind HH.out.typ HH.out.digits HH.out.assoc HH.out.handle (Nat.zero_le _) HH.out.ref))
  clear HH HR HL mO
  go_wp2_with (go_at_call 11; (refine (C.out _ (bAl hb _)).mono ?_; rintro e w5 ⟨rfl, k5⟩; replace hb := bThen (bAl hb _) k5))
  go_ret
  exact ⟨by simp [*], hb⟩
set_option maxHeartbeats 16000000 in
theorem whole6a (o : Ob) (n : Nat) (w : World) (h : Meets o w) (ht : Tabs w) (hz : longB o = false) (hr : faultP o true = 0) (hn : n % 8 = 6) (hk : o.kind = 8) : Calls Tryd.prog 9 #[ob o, .int .u8 n] w fun e w' => e = .returned (.bool true) ∧ Below w.heap.size w w' := by
  have hb : Below w.heap.size w w := Below.refl _ _
  have AW := Lib.hid (fun W (k : Below w.heap.size w W) => awake_any (ht.then k))
  have L1 := fun W => Lib.hid (hz ▸ long_any o W)
  have A1 := Lib.hid (fun W (k : Below w.heap.size w W) => hr ▸ objMay_any (h.then k))
  have HH := Lib.hid h
  have HR := Lib.hid hr
  have HL := Lib.hid (longB_out hz)
  have HN := Lib.hid hn
  clear hn
  have HK := Lib.hid hk
  clear hk
  clear h ht hz hr
  go_enter Tryd.func9, Tryd.ntmps9
  go_wp2_with fail
  go_at_call 31
  refine (AW.out _ (bAl hb _)).mono ?_
  rintro e w1 ⟨rfl, k1⟩
  replace hb := bThen (bAl hb _) k1
  have mO := (AtC.new _ _ _).then k1
  have oc := mO.c
  go_wp2_with fail
  go_at_call 10
  with_reducible refine (L1 _).out.mono ?_
  rintro e w2 ⟨rfl, k2⟩
  replace hb := bThen hb k2
  replace mO := mO.then k2
  have oc := mO.c
  go_wp2_with fail
  go_at_call 11
  with_reducible refine (A1.out _ hb).mono ?_
  rintro e w3 ⟨rfl, k3⟩
  replace hb := bThen hb k3
  replace mO := mO.then k3
  clear k1 k2 k3 AW L1 A1 oc
  obtain ⟨h, k, p, t, r, lo, hi, d, on, has, v, lw, hg, a⟩ := o
  dsimp only at *
  have hk := HK.out
  clear HK
  have hn := HN.out
  clear HN
  subst hk
  have hm1 : (n : Int) % 8 = 6 := by omega
  have hm2 : (n : Int).tmod 8 = 6 := by rw [Int.tmod_eq_emod_of_nonneg (by omega)]; omega
  have hm3 : n % 8 = 6 := hn
  clear hn
  have oc := mO.c
  have ol := mO.lt
  have C := Lib.hid (fun W (kb : Below w.heap.size w W) => show Calls Tryd.prog 11 #[.agg #[.string h, .int .u8 8, .string p, .int .u8 t, .string r, .int .i64 lo, .int .i64 hi, .int .u8 d, .bool on, .bool has, .int .i64 v, .int .i64 1000000000000001, .int .i64 hg, .int .u8 a]] W fun e w' => e = .returned (.int .i64 20) ∧ Below W.heap.size W w' from sp6a HR.out ▸ objMay_any (o := ⟨h, 8, p, t, r, lo, hi, d, on, has, v, 1000000000000001, hg, a⟩) (meets_str (HH.out.then kb) (show 8 ≤ 255 by omega) HH.out.typ HH.out.digits HH.out.assoc HH.out.handle HH.out.parent HH.out.ref))
  clear HH HR HL mO
  go_wp2_with (go_at_call 11; (refine (C.out _ (bAl hb _)).mono ?_; rintro e w5 ⟨rfl, k5⟩; replace hb := bThen (bAl hb _) k5))
  go_ret
  exact ⟨by simp [*], hb⟩
set_option maxHeartbeats 16000000 in
theorem whole6b (o : Ob) (n : Nat) (w : World) (h : Meets o w) (ht : Tabs w) (hz : longB o = false) (hr : faultP o true = 0) (hn : n % 8 = 6) (hk : ¬ o.kind = 8) : Calls Tryd.prog 9 #[ob o, .int .u8 n] w fun e w' => e = .returned (.bool true) ∧ Below w.heap.size w w' := by
  have hb : Below w.heap.size w w := Below.refl _ _
  have AW := Lib.hid (fun W (k : Below w.heap.size w W) => awake_any (ht.then k))
  have L1 := fun W => Lib.hid (hz ▸ long_any o W)
  have A1 := Lib.hid (fun W (k : Below w.heap.size w W) => hr ▸ objMay_any (h.then k))
  have HH := Lib.hid h
  have HR := Lib.hid hr
  have HL := Lib.hid (longB_out hz)
  have HN := Lib.hid hn
  clear hn
  have HK := Lib.hid hk
  clear hk
  clear h ht hz hr
  go_enter Tryd.func9, Tryd.ntmps9
  go_wp2_with fail
  go_at_call 31
  refine (AW.out _ (bAl hb _)).mono ?_
  rintro e w1 ⟨rfl, k1⟩
  replace hb := bThen (bAl hb _) k1
  have mO := (AtC.new _ _ _).then k1
  have oc := mO.c
  go_wp2_with fail
  go_at_call 10
  with_reducible refine (L1 _).out.mono ?_
  rintro e w2 ⟨rfl, k2⟩
  replace hb := bThen hb k2
  replace mO := mO.then k2
  have oc := mO.c
  go_wp2_with fail
  go_at_call 11
  with_reducible refine (A1.out _ hb).mono ?_
  rintro e w3 ⟨rfl, k3⟩
  replace hb := bThen hb k3
  replace mO := mO.then k3
  clear k1 k2 k3 AW L1 A1 oc
  obtain ⟨h, k, p, t, r, lo, hi, d, on, has, v, lw, hg, a⟩ := o
  dsimp only at *
  have hk := HK.out
  clear HK
  have hn := HN.out
  clear HN
  have hm1 : (n : Int) % 8 = 6 := by omega
  have hm2 : (n : Int).tmod 8 = 6 := by rw [Int.tmod_eq_emod_of_nonneg (by omega)]; omega
  have hm3 : n % 8 = 6 := hn
  clear hn
  have hk2 : ¬ (k : Int) = 8 := by omega
  have oc := mO.c
  have ol := mO.lt
  have C := Lib.hid (fun W (kb : Below w.heap.size w W) => show Calls Tryd.prog 11 #[.agg #[.string h, .int .u8 k, .string p, .int .u8 t, .string r, .int .i64 lo, .int .i64 hi, .int .u8 d, .bool on, .bool has, .int .i64 v, .int .i64 1, .int .i64 hg, .int .u8 a]] W fun e w' => e = .returned (.int .i64 40) ∧ Below W.heap.size W w' from sp6b hk ▸ objMay_any (o := ⟨h, k, p, t, r, lo, hi, d, on, has, v, 1, hg, a⟩) (meets_str (HH.out.then kb) HH.out.kind HH.out.typ HH.out.digits HH.out.assoc HH.out.handle HH.out.parent HH.out.ref))
  clear HH HR HL mO
  go_wp2_with (go_at_call 11; (refine (C.out _ (bAl hb _)).mono ?_; rintro e w5 ⟨rfl, k5⟩; replace hb := bThen (bAl hb _) k5))
  go_ret
  exact ⟨by simp [*], hb⟩
set_option maxHeartbeats 16000000 in
theorem whole7a (o : Ob) (n : Nat) (w : World) (h : Meets o w) (ht : Tabs w) (hz : longB o = false) (hr : faultP o true = 0) (hn : n % 8 = 7) (hk : o.kind = 4) : Calls Tryd.prog 9 #[ob o, .int .u8 n] w fun e w' => e = .returned (.bool true) ∧ Below w.heap.size w w' := by
  have hb : Below w.heap.size w w := Below.refl _ _
  have AW := Lib.hid (fun W (k : Below w.heap.size w W) => awake_any (ht.then k))
  have L1 := fun W => Lib.hid (hz ▸ long_any o W)
  have A1 := Lib.hid (fun W (k : Below w.heap.size w W) => hr ▸ objMay_any (h.then k))
  have HH := Lib.hid h
  have HR := Lib.hid hr
  have HL := Lib.hid (longB_out hz)
  have HN := Lib.hid hn
  clear hn
  have HK := Lib.hid hk
  clear hk
  clear h ht hz hr
  go_enter Tryd.func9, Tryd.ntmps9
  go_wp2_with fail
  go_at_call 31
  refine (AW.out _ (bAl hb _)).mono ?_
  rintro e w1 ⟨rfl, k1⟩
  replace hb := bThen (bAl hb _) k1
  have mO := (AtC.new _ _ _).then k1
  have oc := mO.c
  go_wp2_with fail
  go_at_call 10
  with_reducible refine (L1 _).out.mono ?_
  rintro e w2 ⟨rfl, k2⟩
  replace hb := bThen hb k2
  replace mO := mO.then k2
  have oc := mO.c
  go_wp2_with fail
  go_at_call 11
  with_reducible refine (A1.out _ hb).mono ?_
  rintro e w3 ⟨rfl, k3⟩
  replace hb := bThen hb k3
  replace mO := mO.then k3
  clear k1 k2 k3 AW L1 A1 oc
  obtain ⟨h, k, p, t, r, lo, hi, d, on, has, v, lw, hg, a⟩ := o
  dsimp only at *
  have hk := HK.out
  clear HK
  have hn := HN.out
  clear HN
  subst hk
  have hm1 : (n : Int) % 8 = 7 := by omega
  have hm2 : (n : Int).tmod 8 = 7 := by rw [Int.tmod_eq_emod_of_nonneg (by omega)]; omega
  have hm3 : n % 8 = 7 := hn
  clear hn
  have oc := mO.c
  have ol := mO.lt
  have C := Lib.hid (fun W (kb : Below w.heap.size w W) => show Calls Tryd.prog 11 #[.agg #[.string h, .int .u8 4, .string p, .int .u8 t, .string r, .int .i64 lo, .int .i64 hi, .int .u8 d, .bool on, .bool false, .int .i64 5, .int .i64 lw, .int .i64 hg, .int .u8 a]] W fun e w' => e = .returned (.int .i64 20) ∧ Below W.heap.size W w' from sp7a HR.out ▸ objMay_any (o := ⟨h, 4, p, t, r, lo, hi, d, on, false, 5, lw, hg, a⟩) (meets_str (HH.out.then kb) (show 4 ≤ 255 by omega) HH.out.typ HH.out.digits HH.out.assoc HH.out.handle HH.out.parent HH.out.ref))
  clear HH HR HL mO
  go_wp2_with (go_at_call 11; (refine (C.out _ (bAl hb _)).mono ?_; rintro e w5 ⟨rfl, k5⟩; replace hb := bThen (bAl hb _) k5))
  go_ret
  exact ⟨by simp [*], hb⟩
set_option maxHeartbeats 16000000 in
theorem whole7b (o : Ob) (n : Nat) (w : World) (h : Meets o w) (ht : Tabs w) (hz : longB o = false) (hr : faultP o true = 0) (hn : n % 8 = 7) (hk : ¬ o.kind = 4) : Calls Tryd.prog 9 #[ob o, .int .u8 n] w fun e w' => e = .returned (.bool true) ∧ Below w.heap.size w w' := by
  have hb : Below w.heap.size w w := Below.refl _ _
  have AW := Lib.hid (fun W (k : Below w.heap.size w W) => awake_any (ht.then k))
  have L1 := fun W => Lib.hid (hz ▸ long_any o W)
  have A1 := Lib.hid (fun W (k : Below w.heap.size w W) => hr ▸ objMay_any (h.then k))
  have HH := Lib.hid h
  have HR := Lib.hid hr
  have HL := Lib.hid (longB_out hz)
  have HN := Lib.hid hn
  clear hn
  have HK := Lib.hid hk
  clear hk
  clear h ht hz hr
  go_enter Tryd.func9, Tryd.ntmps9
  go_wp2_with fail
  go_at_call 31
  refine (AW.out _ (bAl hb _)).mono ?_
  rintro e w1 ⟨rfl, k1⟩
  replace hb := bThen (bAl hb _) k1
  have mO := (AtC.new _ _ _).then k1
  have oc := mO.c
  go_wp2_with fail
  go_at_call 10
  with_reducible refine (L1 _).out.mono ?_
  rintro e w2 ⟨rfl, k2⟩
  replace hb := bThen hb k2
  replace mO := mO.then k2
  have oc := mO.c
  go_wp2_with fail
  go_at_call 11
  with_reducible refine (A1.out _ hb).mono ?_
  rintro e w3 ⟨rfl, k3⟩
  replace hb := bThen hb k3
  replace mO := mO.then k3
  clear k1 k2 k3 AW L1 A1 oc
  obtain ⟨h, k, p, t, r, lo, hi, d, on, has, v, lw, hg, a⟩ := o
  dsimp only at *
  have hk := HK.out
  clear HK
  have hn := HN.out
  clear HN
  have hm1 : (n : Int) % 8 = 7 := by omega
  have hm2 : (n : Int).tmod 8 = 7 := by rw [Int.tmod_eq_emod_of_nonneg (by omega)]; omega
  have hm3 : n % 8 = 7 := hn
  clear hn
  have hk2 : ¬ (k : Int) = 4 := by omega
  have oc := mO.c
  have ol := mO.lt
  have C := Lib.hid (fun W (kb : Below w.heap.size w W) => show Calls Tryd.prog 11 #[.agg #[.string h, .int .u8 k, .string p, .int .u8 t, .string r, .int .i64 lo, .int .i64 hi, .int .u8 d, .bool on, .bool has, .int .i64 5, .int .i64 lw, .int .i64 hg, .int .u8 a]] W fun e w' => e = .returned (.int .i64 40) ∧ Below W.heap.size W w' from sp7b hk ▸ objMay_any (o := ⟨h, k, p, t, r, lo, hi, d, on, has, 5, lw, hg, a⟩) (meets_str (HH.out.then kb) HH.out.kind HH.out.typ HH.out.digits HH.out.assoc HH.out.handle HH.out.parent HH.out.ref))
  clear HH HR HL mO
  go_wp2_with (go_at_call 11; (refine (C.out _ (bAl hb _)).mono ?_; rintro e w5 ⟨rfl, k5⟩; replace hb := bThen (bAl hb _) k5))
  go_ret
  exact ⟨by simp [*], hb⟩
set_option maxHeartbeats 8000000 in
theorem whole_long (o : Ob) (n : Nat) (w : World) (h : Meets o w) (ht : Tabs w) (hz : longB o = true) : Calls Tryd.prog 9 #[ob o, .int .u8 n] w fun e w' => e = .returned (.bool true) ∧ Below w.heap.size w w' := by
  have hb : Below w.heap.size w w := Below.refl _ _
  have AW := Lib.hid (fun W (k : Below w.heap.size w W) => awake_any (ht.then k))
  have L1 := fun W => Lib.hid (hz ▸ long_any o W)
  clear h ht hz
  go_enter Tryd.func9, Tryd.ntmps9
  go_wp2_with fail
  go_at_call 31
  refine (AW.out _ (bAl hb _)).mono ?_
  rintro e w1 ⟨rfl, k1⟩
  replace hb := bThen (bAl hb _) k1
  have mO := (AtC.new _ _ _).then k1
  have oc := mO.c
  go_wp2_with fail
  go_at_call 10
  with_reducible refine (L1 _).out.mono ?_
  rintro e w2 ⟨rfl, k2⟩
  replace hb := bThen hb k2
  replace mO := mO.then k2
  have oc := mO.c
  go_wp2_with fail
  go_ret
  exact ⟨by simp, hb⟩
set_option maxHeartbeats 8000000 in
theorem whole_bad (o : Ob) (n : Nat) (w : World) (h : Meets o w) (ht : Tabs w) (hz : longB o = false) (hr : ¬ faultP o true = 0) : Calls Tryd.prog 9 #[ob o, .int .u8 n] w fun e w' => e = .returned (.bool true) ∧ Below w.heap.size w w' := by
  have hb : Below w.heap.size w w := Below.refl _ _
  have AW := Lib.hid (fun W (k : Below w.heap.size w W) => awake_any (ht.then k))
  have L1 := fun W => Lib.hid (hz ▸ long_any o W)
  have A1 := Lib.hid (fun W (k : Below w.heap.size w W) => objMay_any (h.then k))
  generalize faultP o true = r1 at *
  clear h ht hz
  go_enter Tryd.func9, Tryd.ntmps9
  go_wp2_with fail
  go_at_call 31
  refine (AW.out _ (bAl hb _)).mono ?_
  rintro e w1 ⟨rfl, k1⟩
  replace hb := bThen (bAl hb _) k1
  have mO := (AtC.new _ _ _).then k1
  have oc := mO.c
  go_wp2_with fail
  go_at_call 10
  with_reducible refine (L1 _).out.mono ?_
  rintro e w2 ⟨rfl, k2⟩
  replace hb := bThen hb k2
  replace mO := mO.then k2
  have oc := mO.c
  go_wp2_with (go_at_call 11; ((with_reducible refine (A1.out _ hb).mono ?_); rintro e w3 ⟨rfl, k3⟩; replace hb := bThen hb k3))
  go_ret
  exact ⟨by simp, hb⟩
theorem whole_walk (o : Ob) (n : Nat) (w : World) (h : Meets o w) (ht : Tabs w) : Calls Tryd.prog 9 #[ob o, .int .u8 n] w fun e w' => e = .returned (.bool true) ∧ Below w.heap.size w w' := by
  cases hz : longB o with
  | true => exact whole_long o n w h ht hz
  | false =>
    by_cases hr : faultP o true = 0
    · rcases (show n % 8 = 0 ∨ n % 8 = 1 ∨ n % 8 = 2 ∨ n % 8 = 3 ∨ n % 8 = 4 ∨ n % 8 = 5 ∨ n % 8 = 6 ∨ n % 8 = 7 by omega) with q | q | q | q | q | q | q | q
      · exact whole0 o n w h ht hz hr q
      · exact whole1 o n w h ht hz hr q
      · exact whole2 o n w h ht hz hr q
      · exact whole3 o n w h ht hz hr q
      · exact whole4 o n w h ht hz hr q
      · by_cases hk : o.kind = 1
        · exact whole5a o n w h ht hz hr q hk
        · exact whole5b o n w h ht hz hr q hk
      · by_cases hk : o.kind = 8
        · exact whole6a o n w h ht hz hr q hk
        · exact whole6b o n w h ht hz hr q hk
      · by_cases hk : o.kind = 4
        · exact whole7a o n w h ht hz hr q hk
        · exact whole7b o n w h ht hz hr q hk
    · exact whole_bad o n w h ht hz hr
end Go.Proofs.YtljgokdhdbgdbaaDoor
