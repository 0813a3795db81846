/-
  WALKS: the program's Parse of an object's text; PLAIN: the text of a faultless object read again; WALKS: the document's numbers, put; PLAIN: pieces of a text.
-/
import Derived.Test.YtonhijonnonmbaaDoorORead
import Derived.Test.YtonhijonnonmbaaDoorOText
import Derived.Test.YtonhijonnonmbaaDoorOAwake
import Derived.Test.YtonhijonnonmbaaDoorOFaultEq
import Derived.Test.YtonhijonnonmbaaDoorOTextMath
import Derived.Test.YtonhijonnonmbaaDoorOMay
import Derived.Test.YtonhijonnonmbaaDoorOLong
import Derived.Test.YtonhijonnonmbaaDoorFDigits
import Derived.Test.YtonhijonnonmbaaDoorFRead
import Derived.Deep.CutRange
namespace Go.Proofs.YtonhijonnonmbaaDoor
open Go.RowKit FixMath
set_option maxRecDepth 100000
set_option linter.unusedVariables false
set_option linter.unusedSimpArgs false

theorem ret_ob_tmp {fn : Func} {R : Ending → World → Prop} {act : Act} {W : World} {B : Nat} {o : Ob} {p u : Tmp} {v : Value} (hr : fn.results = #[.cell p 23, .tmp u]) (hp : act.tmps.getD p undef = .pointer (some ⟨B, 0, none⟩)) (hu : act.tmps.getD u undef = v) (hd : act.defers = [])
    (h : AtC W B (obCells o)) (hR : R (.returned (.tuple #[ob o, v])) W) : bodyPost Tryd.prog fn R .ret act W := by
  refine bodyPost_ret (v := .tuple #[ob o, v]) ?_ hd hR
  have h0 := h.c
  rw [results_cell_tmp hr, hp, hu]
  simp [Result.andThen, go_sem, h0]
structure Good (o : Ob) : Prop where
  kind : o.kind ≤ 255
  handle : o.handle.size ≤ 1000
  parent : o.parent.size ≤ 1000
  ref : o.ref.size ≤ 1000
  lo : -9223372036854775808 ≤ o.lo ∧ o.lo ≤ 9223372036854775807
  hi : -9223372036854775808 ≤ o.hi ∧ o.hi ≤ 9223372036854775807
  value : -9223372036854775808 ≤ o.value ∧ o.value ≤ 9223372036854775807
  low : -9223372036854775808 ≤ o.low ∧ o.low ≤ 9223372036854775807
  high : -9223372036854775808 ≤ o.high ∧ o.high ≤ 9223372036854775807
  typ : o.typ ≤ 255
  digits : o.digits ≤ 255
  assoc : o.assoc ≤ 255
theorem Good.small {o : Ob} (h : Good o) : Small o := ⟨h.handle, h.parent, h.ref, h.lo, h.hi, h.value, h.low, h.high, h.typ, h.digits, h.assoc⟩
theorem Good.meets {o : Ob} {w : World} (h : Good o) (ht : Tabs w) : Meets o w :=
  ⟨h.kind, h.typ, h.digits, h.assoc, by have := h.handle; unfold maxLen; omega, by have := h.parent; unfold maxLen; omega, by have := h.ref; unfold maxLen; omega, ht.words, ht.kinds⟩
theorem good_zero : Good zeroOb := by constructor <;> decide
theorem numV_in (v : ByteArray) : -9223372036854775808 ≤ numV v ∧ numV v ≤ 9223372036854775807 := by have := numV_le v; omega
theorem good_set {o : Ob} {v : ByteArray} (h : Good o) (hv : v.size ≤ 1000) (k : Nat) : Good (setF o v k) := by
  have hn := numV_in v
  have hu := u8N_le (numV v)
  unfold setF
  split
  · exact { h with parent := hv }
  · exact { h with typ := hu }
  · exact { h with ref := hv }
  · exact { h with lo := hn }
  · exact { h with hi := hn }
  · exact { h with digits := hu }
  · exact { h with }
  · exact { h with }
  · exact { h with value := hn }
  · exact { h with low := hn }
  · exact { h with high := hn }
  · exact { h with assoc := hu }
  · exact h
theorem good_loop : ∀ (n : Nat) (o : Ob) (rest : ByteArray) (more : Bool), Good o → rest.size ≤ 1000 → Good (loopR n o rest more)
  | 0, o, _, _, h, _ => h
  | _ + 1, o, _, false, h, _ => h
  | n + 1, o, rest, true, h, hr => by
    have z1 := cut1_sizes rest 32
    have z2 := cut1_sizes (cut1 rest 32).1 61
    unfold loopR
    split
    · exact good_zero
    · exact good_loop n _ _ _ (good_set h (by omega) _) (by omega)
theorem good_read (s : ByteArray) (hs : s.size ≤ 1000) : Good (readOf s) := by
  have z1 := cut1_sizes s 32
  have z2 := cut1_sizes (cut1 s 32).2.1 32
  have hk := kindS_le (cut1 s 32).1
  exact good_loop _ _ _ _ { good_zero with kind := by show kindS _ ≤ 255; omega, handle := by show (cut1 (cut1 s 32).2.1 32).1.size ≤ 1000; omega } (by omega)
/-- What the program's Parse answers, where this is read. -/
noncomputable def parseO (R : Ob) (s : ByteArray) : Value := by classical exact if faultP R true = 0 ∧ textOf R = s then .tuple #[ob R, .int .i64 0] else .tuple #[ob zeroOb, .int .i64 2]
noncomputable def parseR (s : ByteArray) : Value := parseO (readOf s) s
theorem parseO_ok {R : Ob} {s : ByteArray} (h : faultP R true = 0) (he : textOf R = s) : parseO R s = .tuple #[ob R, .int .i64 0] := by unfold parseO; rw [if_pos ⟨h, he⟩]
theorem parseO_bad {R : Ob} {s : ByteArray} (h : ¬ (faultP R true = 0 ∧ textOf R = s)) : parseO R s = .tuple #[ob zeroOb, .int .i64 2] := by unfold parseO; rw [if_neg h]
set_option maxHeartbeats 8000000 in
theorem oparse_any (s : ByteArray) (m : Int) (w : World) (hs : s.size ≤ 1000) (ht : Tabs w) (hm : w.cell? ⟨3, 0, none⟩ = some (.int .i64 m)) (hml : 3 < w.heap.size) :
    Calls Tryd.prog 8 #[.string s] w fun e w' => e = .returned (parseR s) ∧ Below w.heap.size w w' := by
  have hb := bAl (Below.refl w.heap.size w) (.cells #[.string ⟨#[]⟩, .int .u8 0, .string ⟨#[]⟩, .int .u8 0, .string ⟨#[]⟩, .int .i64 0, .int .i64 0, .int .u8 0, .bool false, .bool false, .int .i64 0, .int .i64 0, .int .i64 0, .int .u8 0] 23)
  have G := good_read s hs
  have CR := Lib.hid (oread_any s m _ hs (ht.then hb).words ((hb.cell (p := ⟨3, 0, none⟩) hml).trans hm) (Nat.lt_of_lt_of_le hml hb.size))
  have CT := Lib.hid (fun W (q : Below w.heap.size w W) => otext_any (G.meets (ht.then q)) G.small (ht.then q).pow)
  obtain ⟨R, hR⟩ : ∃ R, R = readOf s := ⟨_, rfl⟩
  have HP : Hid (parseR s = parseO R s) := Lib.hid (by rw [hR]; rfl)
  rw [← hR] at CR CT G
  clear hR hm hml ht G hs
  by_cases hr : faultP R true = 0
  · rw [textR_ok hr] at CT
    by_cases he : textOf R = s
    · have HV := Lib.hid (HP.out.trans (parseO_ok hr he))
      rw [he] at CT
      clear HP hr he
      go_enter Tryd.func8, Tryd.ntmps8
      go_wp2_with fail
      go_at_call 22
      with_reducible refine CR.out.mono ?_
      rintro e w1 ⟨rfl, k1⟩
      have mZ := (AtC.new w #[.string ⟨#[]⟩, .int .u8 0, .string ⟨#[]⟩, .int .u8 0, .string ⟨#[]⟩, .int .i64 0, .int .i64 0, .int .u8 0, .bool false, .bool false, .int .i64 0, .int .i64 0, .int .i64 0, .int .u8 0] 23).then k1
      replace hb := bThen hb k1
      clear CR
      go_wp2_with fail
      go_at_call 6
      refine (CT.out _ (bAl hb _)).mono ?_
      rintro e w2 ⟨rfl, k2⟩
      have mO := (AtC.new w1 _ _).then k2
      replace mZ := (mZ.al _).then k2
      replace hb := bThen (bAl hb _) k2
      have zc := mZ.c
      have zf := mZ.f
      have zl := mZ.lt
      have oc := mO.c
      have ol := mO.lt
      have MZ := Lib.hid mZ
      have HB := Lib.hid hb
      clear CT k1 k2 mZ mO hb
      go_wp2
      exact ret_ob_tmp rfl rfl rfl rfl (AtC.fill MZ.out rfl _ _ _ _ _ _ _ _ _ _ _ _ _ _) ⟨by rw [HV.out]; first | done | rfl, bFill HB.out (Nat.le_refl _) _ _ _ _ _ _ _ _ _ _ _ _ _ _⟩
    · have HV := Lib.hid (HP.out.trans (parseO_bad (fun h => he h.2)))
      have q : ((textOf R).toList == s.toList) = false := strs_ne he
      generalize textOf R = t at *
      clear HP hr he
      go_enter Tryd.func8, Tryd.ntmps8
      go_wp2_with fail
      go_at_call 22
      with_reducible refine CR.out.mono ?_
      rintro e w1 ⟨rfl, k1⟩
      have mZ := (AtC.new w #[.string ⟨#[]⟩, .int .u8 0, .string ⟨#[]⟩, .int .u8 0, .string ⟨#[]⟩, .int .i64 0, .int .i64 0, .int .u8 0, .bool false, .bool false, .int .i64 0, .int .i64 0, .int .i64 0, .int .u8 0] 23).then k1
      replace hb := bThen hb k1
      clear CR
      go_wp2_with fail
      go_at_call 6
      refine (CT.out _ (bAl hb _)).mono ?_
      rintro e w2 ⟨rfl, k2⟩
      have mO := (AtC.new w1 _ _).then k2
      replace mZ := (mZ.al _).then k2
      replace hb := bThen (bAl hb _) k2
      have zc := mZ.c
      have zf := mZ.f
      have zl := mZ.lt
      have oc := mO.c
      have ol := mO.lt
      have MZ := Lib.hid mZ
      have HB := Lib.hid hb
      clear CT k1 k2 mZ mO hb
      go_wp2
      exact ret_ob_tmp rfl rfl rfl rfl (AtC.fill MZ.out rfl _ _ _ _ _ _ _ _ _ _ _ _ _ _) ⟨by rw [HV.out]; first | done | rfl, bFill HB.out (Nat.le_refl _) _ _ _ _ _ _ _ _ _ _ _ _ _ _⟩
  · rw [textR_bad hr] at CT
    have HV := Lib.hid (HP.out.trans (parseO_bad (fun h => hr h.1)))
    clear HP
    generalize faultP R true = e0 at *
    go_enter Tryd.func8, Tryd.ntmps8
    go_wp2_with fail
    go_at_call 22
    with_reducible refine CR.out.mono ?_
    rintro e w1 ⟨rfl, k1⟩
    have mZ := (AtC.new w #[.string ⟨#[]⟩, .int .u8 0, .string ⟨#[]⟩, .int .u8 0, .string ⟨#[]⟩, .int .i64 0, .int .i64 0, .int .u8 0, .bool false, .bool false, .int .i64 0, .int .i64 0, .int .i64 0, .int .u8 0] 23).then k1
    replace hb := bThen hb k1
    clear CR
    go_wp2_with fail
    go_at_call 6
    refine (CT.out _ (bAl hb _)).mono ?_
    rintro e w2 ⟨rfl, k2⟩
    have mO := (AtC.new w1 _ _).then k2
    replace mZ := (mZ.al _).then k2
    replace hb := bThen (bAl hb _) k2
    have zc := mZ.c
    have zf := mZ.f
    have zl := mZ.lt
    have oc := mO.c
    have ol := mO.lt
    have MZ := Lib.hid mZ
    have HB := Lib.hid hb
    clear CT k1 k2 mZ mO hb
    go_wp2
    exact ret_ob_tmp rfl rfl rfl rfl (AtC.fill MZ.out rfl _ _ _ _ _ _ _ _ _ _ _ _ _ _) ⟨by rw [HV.out]; first | done | rfl, bFill HB.out (Nat.le_refl _) _ _ _ _ _ _ _ _ _ _ _ _ _ _⟩

theorem index_hit1 : ∀ (a b : List UInt8) (c : UInt8), c ∉ a → Lib.index (a ++ c :: b) [c] = (a.length : Int)
  | [], b, c, _ => by simp [Lib.index, List.isPrefixOf]
  | x :: a, b, c, h => by
    have h2 : c ≠ x ∧ c ∉ a := by simpa using h
    have ih := index_hit1 a b c h2.2
    have hx : (c == x) = false := by simpa using h2.1
    rw [List.cons_append, Lib.index, ih]
    simp only [List.isPrefixOf, hx, Bool.false_and, Bool.false_eq_true, if_false]
    rw [if_neg (by simp)]
    simp
theorem index_miss1 : ∀ (l : List UInt8) (c : UInt8), c ∉ l → Lib.index l [c] = -1
  | [], c, _ => by simp [Lib.index]
  | x :: l, c, h => by
    have h2 : c ≠ x ∧ c ∉ l := by simpa using h
    have hx : (c == x) = false := by simpa using h2.1
    rw [Lib.index, index_miss1 l c h2.2]
    simp [List.isPrefixOf, hx]
theorem cut_hit1 (a b : List UInt8) (c : UInt8) (h : c ∉ a) : Lib.cut (a ++ c :: b) [c] = (a, b, true) := by
  unfold Lib.cut
  rw [index_hit1 a b c h, if_pos (by omega)]
  simp
theorem cut_miss1 (l : List UInt8) (c : UInt8) (h : c ∉ l) : Lib.cut l [c] = (l, [], false) := by
  unfold Lib.cut
  rw [index_miss1 l c h, if_neg (by omega)]
theorem cut1_hit (a b : List UInt8) (c : UInt8) (h : c ∉ a) : cut1 ⟨(a ++ c :: b).toArray⟩ c = (⟨a.toArray⟩, ⟨b.toArray⟩, true) := by
  unfold cut1
  rw [show (⟨(a ++ c :: b).toArray⟩ : ByteArray).data.toList = a ++ c :: b from rfl, cut_hit1 a b c h]
theorem cut1_miss (l : List UInt8) (c : UInt8) (h : c ∉ l) : cut1 ⟨l.toArray⟩ c = (⟨l.toArray⟩, ⟨#[]⟩, false) := by
  unfold cut1
  rw [show (⟨l.toArray⟩ : ByteArray).data.toList = l from rfl, cut_miss1 l c h]
theorem low_snoc (n : Nat) : ∀ k, low (k + 1) n = low k (n / 10) ++ [dig n]
  | 0 => by simp [low]
  | k + 1 => by
    rw [low_succ, low_snoc n k, low_succ, Nat.div_div_eq_div_mul, Nat.pow_succ, Nat.mul_comm]
    rfl
theorem dec_low (u : Nat) : Lib.decDigits u = low (nd u) u := by
  induction u using Nat.strongRecOn with
  | _ u ih =>
    by_cases h : u < 10
    · rw [Lib.decDigits, dif_pos h, nd, dif_pos h]
      simp [low, dig, Nat.mod_eq_of_lt h]
    · rw [Lib.decDigits, dif_neg h, nd, dif_neg h, low_snoc, ih (u / 10) (by omega)]
      rfl
theorem itoa_fix (n : Int) : Lib.itoa n = fixText n 0 := by
  unfold Lib.itoa fixText natText
  rw [dec_low, dec_low]
  simp only [Nat.pow_zero, Nat.div_one, if_true, List.append_nil]
  split
  · simp
  · rw [show n.toNat = n.natAbs by omega]
    simp
theorem numV_itoa {n : Int} (h : -1000000000000000 ≤ n ∧ n ≤ 1000000000000000) : numV ⟨(Lib.itoa n).toArray⟩ = n := by
  have e : (⟨(Lib.itoa n).toArray⟩ : ByteArray).data.toList = fixText n 0 := itoa_fix n
  unfold numV
  rw [e, if_pos ⟨by omega, n, h.1, h.2, rfl⟩, readZ_fixText]
theorem itoa_signs (n : Int) : ∀ c ∈ Lib.itoa n, c ≠ 32 ∧ c ≠ 61 := by
  intro c hc
  rw [itoa_fix] at hc
  unfold fixText natText at hc
  simp only [Nat.pow_zero, Nat.div_one, if_true, List.append_nil, List.mem_append] at hc
  rcases hc with hc | hc
  · split at hc
    · simp at hc; subst hc; decide
    · simp at hc
  · have := low_dig _ _ c hc
    constructor <;> (intro e; subst e; revert this; decide)

def noBl (s : ByteArray) : Prop := (32 : UInt8) ∉ s.data.toList
structure Clean (o : Ob) : Prop where
  k1 : 1 ≤ o.kind
  k9 : o.kind ≤ 9
  handle : noBl o.handle
  parent : noBl o.parent
  ref : noBl o.ref
  typ : o.typ ≤ 255
  digits : o.digits ≤ 255
  assoc : o.assoc ≤ 255
  lo : -1000000000000000 ≤ o.lo ∧ o.lo ≤ 1000000000000000
  hi : -1000000000000000 ≤ o.hi ∧ o.hi ≤ 1000000000000000
  value : -1000000000000000 ≤ o.value ∧ o.value ≤ 1000000000000000
  low : -1000000000000000 ≤ o.low ∧ o.low ≤ 1000000000000000
  high : -1000000000000000 ≤ o.high ∧ o.high ≤ 1000000000000000
/-- The object with its first i fields alone. -/
def keepF (o : Ob) (i : Nat) : Ob :=
  { handle := o.handle, kind := o.kind, parent := if 0 < i then o.parent else ⟨#[]⟩, typ := if 1 < i then o.typ else 0, ref := if 2 < i then o.ref else ⟨#[]⟩, lo := if 3 < i then o.lo else 0, hi := if 4 < i then o.hi else 0,
    digits := if 5 < i then o.digits else 0, on := if 6 < i then o.on else false, has := if 7 < i then o.has else false, value := if 8 < i then o.value else 0, low := if 9 < i then o.low else 0, high := if 10 < i then o.high else 0, assoc := if 11 < i then o.assoc else 0 }
theorem keep_all (o : Ob) : keepF o 12 = o := by cases o; rfl
theorem keep_none (o : Ob) : keepF o 0 = { zeroOb with kind := o.kind, handle := o.handle } := rfl
theorem u8N_of {n : Nat} (h : n ≤ 255) : u8N (n : Int) = n := by unfold u8N; omega
theorem numV_nat {n : Nat} (h : n ≤ 255) : numV ⟨(Lib.itoa (n : Int)).toArray⟩ = n := numV_itoa (by omega)
theorem numV_bool (b : Bool) : (numV ⟨(Lib.itoa (boolI b)).toArray⟩ != 0) = b := by
  rw [numV_itoa (by unfold boolI; split <;> omega)]
  cases b <;> rfl
theorem empty_of {s : ByteArray} (h : s.toList.isEmpty = true) : s = ⟨#[]⟩ := by
  have : s.data.toList = [] := by
    rw [ByteArray.toList_eq] at h
    simpa using h
  cases s with | mk d => cases d with | mk l => simp at this; subst this; rfl
theorem keep_step {o : Ob} (h : Clean o) (j : Nat) (hj : j < 12) : keepF o (j + 1) = if zB o j then keepF o j else setF (keepF o j) (ftext o j) j := by
  have ht := h.typ
  have hd := h.digits
  have ha := h.assoc
  rcases (show j = 0 ∨ j = 1 ∨ j = 2 ∨ j = 3 ∨ j = 4 ∨ j = 5 ∨ j = 6 ∨ j = 7 ∨ j = 8 ∨ j = 9 ∨ j = 10 ∨ j = 11 by omega) with rfl | rfl | rfl | rfl | rfl | rfl | rfl | rfl | rfl | rfl | rfl | rfl
  · split
    · rename_i hz
      have := empty_of hz
      simp [keepF, this]
    · simp [keepF, setF, ftext]
  · split
    · rename_i hz
      have : o.typ = 0 := by simpa [zB] using hz
      simp [keepF, this]
    · simp [keepF, setF, ftext, numV_nat ht, u8N_of ht]
  · split
    · rename_i hz
      have := empty_of hz
      simp [keepF, this]
    · simp [keepF, setF, ftext]
  · split
    · rename_i hz
      have : o.lo = 0 := by simpa [zB] using hz
      simp [keepF, this]
    · simp [keepF, setF, ftext, numV_itoa h.lo]
  · split
    · rename_i hz
      have : o.hi = 0 := by simpa [zB] using hz
      simp [keepF, this]
    · simp [keepF, setF, ftext, numV_itoa h.hi]
  · split
    · rename_i hz
      have : o.digits = 0 := by simpa [zB] using hz
      simp [keepF, this]
    · simp [keepF, setF, ftext, numV_nat hd, u8N_of hd]
  · split
    · rename_i hz
      have : o.on = false := by cases hq : o.on <;> simp [zB, boolI, hq] at hz ⊢
      simp [keepF, this]
    · have hq := numV_bool o.on
      simp only [keepF, setF, ftext, hq]
      simp
  · split
    · rename_i hz
      have : o.has = false := by cases hq : o.has <;> simp [zB, boolI, hq] at hz ⊢
      simp [keepF, this]
    · have hq := numV_bool o.has
      simp only [keepF, setF, ftext, hq]
      simp
  · split
    · rename_i hz
      have : o.value = 0 := by simpa [zB] using hz
      simp [keepF, this]
    · simp [keepF, setF, ftext, numV_itoa h.value]
  · split
    · rename_i hz
      have : o.low = 0 := by simpa [zB] using hz
      simp [keepF, this]
    · simp [keepF, setF, ftext, numV_itoa h.low]
  · split
    · rename_i hz
      have : o.high = 0 := by simpa [zB] using hz
      simp [keepF, this]
    · simp [keepF, setF, ftext, numV_itoa h.high]
  · split
    · rename_i hz
      have : o.assoc = 0 := by simpa [zB] using hz
      simp [keepF, this]
    · simp [keepF, setF, ftext, numV_nat ha, u8N_of ha]

/-- The pieces of the last m fields. -/
def plist (o : Ob) : Nat → List (List UInt8)
  | 0 => []
  | m + 1 => if zB o (11 - m) then plist o m else pieceL o (11 - m) :: plist o m
def flat (ps : List (List UInt8)) : List UInt8 := ps.flatMap fun p => 32 :: p
theorem flat_cons (p : List UInt8) (ps : List (List UInt8)) : flat (p :: ps) = 32 :: (p ++ flat ps) := by simp [flat]
theorem flat_len : ∀ ps : List (List UInt8), ps.length ≤ (flat ps).length
  | [] => by simp
  | p :: ps => by have := flat_len ps; rw [flat_cons]; simp; omega
theorem text_split (o : Ob) : ∀ m, m ≤ 12 → textTo o (12 - m) ++ flat (plist o m) = textTo o 12
  | 0, _ => by simp [plist, flat]
  | m + 1, h => by
    have ih := text_split o m (by omega)
    rw [← ih, show 12 - m = (11 - m) + 1 by omega, show 12 - (m + 1) = 11 - m by omega]
    rw [textTo, plist]
    split
    · rfl
    · rw [flat_cons]; simp
def restB : List (List UInt8) → ByteArray × Bool
  | [] => (⟨#[]⟩, false)
  | p :: ps => (⟨(p ++ flat ps).toArray⟩, true)
theorem cut_rest (p : List UInt8) (ps : List (List UInt8)) (h : (32 : UInt8) ∉ p) : cut1 ⟨(p ++ flat ps).toArray⟩ 32 = (⟨p.toArray⟩, (restB ps).1, (restB ps).2) := by
  cases ps with
  | nil => rw [show flat [] = [] from rfl, List.append_nil, cut1_miss p 32 h]; rfl
  | cons q qs => rw [flat_cons, cut1_hit p _ 32 h]; rfl
theorem name_signs (j : Nat) (hj : j < 12) : (32 : UInt8) ∉ fnameL j ∧ (61 : UInt8) ∉ fnameL j := by
  rcases (show j = 0 ∨ j = 1 ∨ j = 2 ∨ j = 3 ∨ j = 4 ∨ j = 5 ∨ j = 6 ∨ j = 7 ∨ j = 8 ∨ j = 9 ∨ j = 10 ∨ j = 11 by omega) with rfl | rfl | rfl | rfl | rfl | rfl | rfl | rfl | rfl | rfl | rfl | rfl <;> decide
theorem idx_name (j : Nat) (hj : j < 12) : idxI (nameAt j) = (j : Int) := by
  rcases (show j = 0 ∨ j = 1 ∨ j = 2 ∨ j = 3 ∨ j = 4 ∨ j = 5 ∨ j = 6 ∨ j = 7 ∨ j = 8 ∨ j = 9 ∨ j = 10 ∨ j = 11 by omega) with rfl | rfl | rfl | rfl | rfl | rfl | rfl | rfl | rfl | rfl | rfl | rfl <;> decide +kernel
theorem ftext_noBl {o : Ob} (h : Clean o) (j : Nat) : (32 : UInt8) ∉ (ftext o j).data.toList := by
  have hi : ∀ n : Int, (32 : UInt8) ∉ (⟨(Lib.itoa n).toArray⟩ : ByteArray).data.toList := fun n hm => (itoa_signs n 32 hm).1 rfl
  unfold ftext
  split
  · exact h.parent
  · exact hi _
  · exact h.ref
  · exact hi _
  · exact hi _
  · exact hi _
  · exact hi _
  · exact hi _
  · exact hi _
  · exact hi _
  · exact hi _
  · exact hi _
  · simp
theorem loop_reads {o : Ob} (h : Clean o) : ∀ m, m ≤ 12 → ∀ n, (plist o m).length < n → loopR n (keepF o (12 - m)) (restB (plist o m)).1 (restB (plist o m)).2 = o
  | 0, _, n, hn => by
    cases n with
    | zero => exact keep_all o
    | succ n => show loopR (n + 1) (keepF o 12) _ false = o; rw [loopR]; exact keep_all o
  | m + 1, hm, n, hn => by
    have ih := loop_reads h m (by omega)
    have ks := keep_step h (11 - m) (by omega)
    rw [show (11 - m) + 1 = 12 - m by omega] at ks
    rw [show 12 - (m + 1) = 11 - m by omega]
    rw [plist] at hn ⊢
    by_cases hz : zB o (11 - m) = true
    · rw [if_pos hz] at ks hn ⊢
      rw [← ks]
      exact ih n hn
    · rw [if_neg hz] at ks hn ⊢
      obtain ⟨n, rfl⟩ : ∃ k, n = k + 1 := ⟨n - 1, by omega⟩
      have hs := name_signs (11 - m) (by omega)
      have hp : (32 : UInt8) ∉ pieceL o (11 - m) := by
        have := ftext_noBl h (11 - m)
        unfold pieceL
        simp only [List.mem_append, not_or]
        exact ⟨⟨hs.1, by decide⟩, this⟩
      have c1 := cut_rest _ (plist o m) hp
      have c2 : cut1 ⟨(pieceL o (11 - m)).toArray⟩ 61 = (nameAt (11 - m), ftext o (11 - m), true) := by
        have := cut1_hit (fnameL (11 - m)) (ftext o (11 - m)).data.toList 61 hs.2
        unfold pieceL
        rw [List.append_assoc, List.singleton_append, this]
        rfl
      show loopR (n + 1) (keepF o (11 - m)) ⟨(pieceL o (11 - m) ++ flat (plist o m)).toArray⟩ true = o
      rw [loopR, c1]
      dsimp only
      rw [c2]
      dsimp only
      rw [idx_name _ (by omega), if_neg (by omega), Int.toNat_natCast, ← ks]
      exact ih n (by simp at hn; omega)
theorem word_signs (k : Nat) (h1 : 1 ≤ k) (h9 : k ≤ 9) : (32 : UInt8) ∉ (wordOf k).data.toList ∧ kindS (wordOf k) = k := by
  rcases (show k = 1 ∨ k = 2 ∨ k = 3 ∨ k = 4 ∨ k = 5 ∨ k = 6 ∨ k = 7 ∨ k = 8 ∨ k = 9 by omega) with rfl | rfl | rfl | rfl | rfl | rfl | rfl | rfl | rfl <;> exact ⟨by decide, by decide +kernel⟩
/-- WHAT IS READ OF A FAULTLESS OBJECT'S TEXT IS THE OBJECT. -/
theorem read_back {o : Ob} (h : Clean o) : readOf (textOf o) = o := by
  have hw := word_signs o.kind h.k1 h.k9
  have e : textTo o 12 = (wordOf o.kind).data.toList ++ 32 :: (o.handle.data.toList ++ flat (plist o 12)) := by
    rw [← text_split o 12 (by omega)]
    simp [textTo]
  have c1 := cut1_hit (wordOf o.kind).data.toList (o.handle.data.toList ++ flat (plist o 12)) 32 hw.1
  rw [← e] at c1
  have c2 := cut_rest o.handle.data.toList (plist o 12) h.handle
  have hl : (plist o 12).length < (textOf o).size + 2 := by
    have h1 := flat_len (plist o 12)
    have h2 : (textOf o).size = (textTo o 12).length := List.size_toArray ..
    rw [h2, e]
    simp
    omega
  have c1' : cut1 (textOf o) 32 = _ := c1
  unfold readOf
  rw [c1']
  dsimp only
  rw [c2]
  dsimp only
  have := loop_reads h 12 (by omega) _ hl
  rw [show 12 - 12 = 0 from rfl, keep_none] at this
  rw [show kindS ⟨(wordOf o.kind).data.toList.toArray⟩ = o.kind from hw.2]
  exact this

theorem may_noBl {s : ByteArray} (h : HL.mayB s = true) : noBl s := by
  have hp := HL.mayB_iff.1 h
  intro hm
  obtain ⟨k, hk, e⟩ := List.getElem_of_mem hm
  have hk2 : k < s.size := by simpa using hk
  have h2 := hp.2.2.2.1 k hk2
  have h3 : HL.bt s k = 32 := by
    unfold HL.bt
    rw [List.getD_eq_getElem?_getD, List.getElem?_eq_getElem hk, e]
    rfl
  rw [h3] at h2
  revert h2
  decide
theorem may_16 {s : ByteArray} (h : HL.mayB s = true ∨ s = ⟨#[]⟩) : noBl s ∧ s.size ≤ 16 := by
  rcases h with h | rfl
  · exact ⟨may_noBl h, (HL.mayB_iff.1 h).2.1⟩
  · exact ⟨by simp [noBl], by decide⟩
theorem faultless {o : Ob} (h : faultP o true = 0) : fitsB o = true ∧ HL.mayB o.handle = true ∧ namedB o = true ∧ countsObB o = true := by
  unfold faultP at h
  by_cases a : fitsB o = false
  · rw [if_pos a] at h; exact absurd h (by decide)
  · rw [if_neg a] at h
    by_cases b : HL.mayB o.handle = false ∨ (true = true ∧ namedB o = false)
    · rw [if_pos b] at h; exact absurd h (by decide)
    · rw [if_neg b] at h
      by_cases c : countsObB o = false
      · rw [if_pos c] at h; exact absurd h (by decide)
      · exact ⟨by simpa using a, by simpa using fun q => b (Or.inl q), by simpa using fun q => b (Or.inr ⟨rfl, q⟩), by simpa using c⟩
theorem kind_trim {o : Ob} (h : fitsB o = true) : (1 ≤ o.kind ∧ o.kind ≤ 9) ∧ trimOf o = o ∧ o.typ ≤ 3 ∧ o.assoc ≤ 3 := by
  have hf : ¬ (kindB o.kind = false ∨ trimOf o ≠ o ∨ 3 < o.typ ∨ 3 < o.assoc) := fun q => by
    have := (fits_iff o).2 q
    rw [h] at this
    cases this
  simp only [not_or, Bool.not_eq_false, ne_eq, Decidable.not_not] at hf
  exact ⟨of_decide_eq_true hf.1, Classical.byContradiction fun q => by have := hf.2.1; first | exact this q | exact q this, by omega, by omega⟩
theorem handles_of {o : Ob} (h : faultP o true = 0) : HL.mayB o.handle = true ∧ (HL.mayB o.parent = true ∨ o.parent = ⟨#[]⟩) ∧ (HL.mayB o.ref = true ∨ o.ref = ⟨#[]⟩) := by
  obtain ⟨hf, hh, hn, hc⟩ := faultless h
  obtain ⟨hk, ht, _, _⟩ := kind_trim hf
  unfold namedB at hn
  simp only [Bool.and_eq_true, Bool.or_eq_true, decide_eq_true_eq, Bool.not_eq_true'] at hn
  refine ⟨hh, ?_, ?_⟩
  · rcases hn.1 with q | q
    · have e := congrArg Ob.parent ht
      simp only [trimOf, if_pos q] at e
      exact .inr e.symm
    · exact .inl q
  · rcases hn.2 with q | q
    · have e := congrArg Ob.ref ht
      have q2 : ¬ (o.kind = 6 ∨ o.kind = 7 ∨ o.kind = 8) := of_decide_eq_false q
      simp only [trimOf, if_neg q2] at e
      exact .inr e.symm
    · exact .inl q
theorem clean_of {o : Ob} (h : faultP o true = 0) : Clean o := by
  obtain ⟨hf, hh, hn, hc⟩ := faultless h
  obtain ⟨hk, ht, h3, h4⟩ := kind_trim hf
  obtain ⟨a1, a2, a3⟩ := handles_of h
  unfold countsObB at hc
  simp only [Bool.and_eq_true, decide_eq_true_eq] at hc
  obtain ⟨⟨⟨⟨⟨⟨c1, c2⟩, c3⟩, c4⟩, c5⟩, c6⟩, c7⟩ := hc
  exact ⟨hk.1, hk.2, may_noBl hh, (may_16 a2).1, (may_16 a3).1, by omega, by omega, by omega, of_decide_eq_true c1, of_decide_eq_true c2, of_decide_eq_true c3, of_decide_eq_true c4, of_decide_eq_true c5⟩
theorem otext_len {o : Ob} (h : faultP o true = 0) : (textOf o).size ≤ 1000 := by
  have hC := clean_of h
  obtain ⟨a1, a2, a3⟩ := handles_of h
  have b1 := (may_16 (.inl a1)).2
  have b2 := (may_16 a2).2
  have b3 := (may_16 a3).2
  have hi : ∀ n : Int, -1000000000000000 ≤ n ∧ n ≤ 1000000000000000 → (Lib.itoa n).length ≤ 18 := fun n hn => by rw [itoa_fix]; exact fixText_length_le n 0 hn.1 hn.2 (by omega)
  have hp : ∀ j, j < 12 → (pieceL o j).length ≤ 40 := fun j hj => by
    have hd := hC.digits
    have ht := hC.typ
    have ha := hC.assoc
    have hn : (fnameL j).length ≤ 6 := by
      rcases (show j = 0 ∨ j = 1 ∨ j = 2 ∨ j = 3 ∨ j = 4 ∨ j = 5 ∨ j = 6 ∨ j = 7 ∨ j = 8 ∨ j = 9 ∨ j = 10 ∨ j = 11 by omega) with rfl | rfl | rfl | rfl | rfl | rfl | rfl | rfl | rfl | rfl | rfl | rfl <;> decide
    have ht2 : (ftext o j).data.toList.length ≤ 18 := by
      rcases (show j = 0 ∨ j = 1 ∨ j = 2 ∨ j = 3 ∨ j = 4 ∨ j = 5 ∨ j = 6 ∨ j = 7 ∨ j = 8 ∨ j = 9 ∨ j = 10 ∨ j = 11 by omega) with rfl | rfl | rfl | rfl | rfl | rfl | rfl | rfl | rfl | rfl | rfl | rfl
      · show o.parent.data.toList.length ≤ 18
        simp; omega
      · exact hi (o.typ : Int) (by omega)
      · show o.ref.data.toList.length ≤ 18
        simp; omega
      · exact hi _ hC.lo
      · exact hi _ hC.hi
      · exact hi (o.digits : Int) (by omega)
      · exact hi _ (by unfold boolI; split <;> omega)
      · exact hi _ (by unfold boolI; split <;> omega)
      · exact hi _ hC.value
      · exact hi _ hC.low
      · exact hi _ hC.high
      · exact hi (o.assoc : Int) (by omega)
    unfold pieceL
    simp only [List.length_append, List.length_singleton]
    omega
  have hw : (wordOf o.kind).data.toList.length ≤ 9 := by
    have k1 := hC.k1
    have k9 := hC.k9
    rcases (show o.kind = 1 ∨ o.kind = 2 ∨ o.kind = 3 ∨ o.kind = 4 ∨ o.kind = 5 ∨ o.kind = 6 ∨ o.kind = 7 ∨ o.kind = 8 ∨ o.kind = 9 by omega) with q | q | q | q | q | q | q | q | q <;> (rw [q]; decide)
  have hl : ∀ n, n ≤ 12 → (textTo o n).length ≤ 26 + 41 * n := by
    intro n
    induction n with
    | zero => intro _; show ((wordOf o.kind).data.toList ++ [32] ++ o.handle.data.toList).length ≤ _; simp at hw ⊢; omega
    | succ n ih =>
      intro hn
      have q1 := ih (by omega)
      have q2 := hp n (by omega)
      rw [textTo]
      split
      · omega
      · simp only [List.length_append, List.length_singleton]; omega
  have := hl 12 (by omega)
  have e : (textOf o).size = (textTo o 12).length := List.size_toArray ..
  omega

theorem small_of {o : Ob} (hr : faultP o true = 0) : Small o := by
  have hC := clean_of hr
  obtain ⟨a1, a2, a3⟩ := handles_of hr
  have b1 := (may_16 (.inl a1)).2
  have b2 := (may_16 a2).2
  have b3 := (may_16 a3).2
  have l1 := hC.lo
  have l2 := hC.hi
  have l3 := hC.value
  have l4 := hC.low
  have l5 := hC.high
  exact ⟨by omega, by omega, by omega, by omega, by omega, by omega, by omega, by omega, hC.typ, hC.digits, hC.assoc⟩
theorem parse_own {o : Ob} (hr : faultP o true = 0) : parseR (textOf o) = .tuple #[ob o, .int .i64 0] := by
  unfold parseR
  rw [read_back (clean_of hr)]
  exact parseO_ok hr rfl
end Go.Proofs.YtonhijonnonmbaaDoor
namespace Go.Proofs.YtonhijonnonmbaaDoor
open Go.RowKit FixMath
set_option maxRecDepth 100000
set_option linter.unusedVariables false
set_option linter.unusedSimpArgs false

theorem digits_big (m K : Nat) (w : World) (hm : m ≤ 9223372036854775807) (hK : K ≤ 20) (h1 : ∀ k, k < K → m / 10 ^ k ≠ 0 ∨ k < 1) (h2 : m / 10 ^ K = 0) (h3 : 1 ≤ K) :
    Calls Tryd.prog 69 #[.int .i64 m, .int .i64 1] w fun e w' => e = .returned (str (low K m)) ∧ Below w.heap.size w w' := by
  have H1 := Lib.hid h1
  have H2 := Lib.hid h2
  clear h1 h2
  go_enter Tryd.func69, Tryd.ntmps69
  go_wp2
  go_loopw [0, 1, 5] (fun n l s wr => ∃ k q : Nat, k ≤ K ∧ n = .int .i64 q ∧ Hid (q = m / 10 ^ k) ∧ l = .int .i64 ((1 : Int) - k) ∧ s = str (low k m) ∧ Below w.heap.size w wr) (fun _ l _ _ => (20 - (1 - intOf l)).toNat)
  case atStart => exact ⟨0, m, Nat.zero_le _, rfl, Lib.hid (by simp), by simp, rfl, Below.refl _ _⟩
  case round =>
    obtain ⟨k, q, hk, rfl, HQ, rfl, rfl, hb⟩ := hrel
    have hle : q ≤ 9223372036854775807 := by have := HQ.out; have := Nat.div_le_self m (10 ^ k); omega
    by_cases hlt : k < K
    · have hor : 0 < q ∨ (¬ 0 < q ∧ k < 1) := by
        have := H1.out k hlt
        have := HQ.out
        omega
      have hmod : q % 10 < 10 := Nat.mod_lt _ (by omega)
      have hconv := conv_dig q wr
      have hlen : (low k m).length ≤ 20 := by rw [low_length]; omega
      have HS : Hid (low (k + 1) m = dig q :: low k m) := Lib.hid (by rw [low_succ, HQ.out])
      have HQ' : Hid (q / 10 = m / 10 ^ (k + 1)) := Lib.hid (by rw [HQ.out, div_pow_succ])
      rcases hor with hz | ⟨hz, hlk⟩
      all_goals
        go_wp2
        go_roundw
        case rel => exact ⟨k + 1, q / 10, by omega, by go_num, HQ', by go_num, by rw [HS.out]; exact congrArg _ (bytes_add [dig q] (low k m)), hb.trans ((Below.refl _ _).alloc hb.size _)⟩
        case measure => simp [intOf]; omega
    · obtain rfl : k = K := by omega
      have hz : ¬ 0 < q := by have := HQ.out; rw [H2.out] at this; omega
      have hl : ¬ k < 1 := by omega
      go_wp2
      go_ret
      exact ⟨rfl, hb⟩
/-- The digits of a number that is not below 0. -/
theorem digits_dec (u : Nat) (w : World) (hu : u ≤ 9223372036854775807) :
    Calls Tryd.prog 69 #[.int .i64 u, .int .i64 1] w fun e w' => e = .returned (str (Lib.decDigits u)) ∧ Below w.heap.size w w' := by
  rw [dec_low]
  exact digits_big u (nd u) w hu (Nat.le_trans (nd_le (j := 19) (by decide) (by omega)) (by decide)) (fun k hk => by
    rcases Nat.eq_zero_or_pos k with h | h
    · exact .inr (by omega)
    · exact .inl (lt_nd h hk)) ((nd_iff (nd u) u (nd_pos u)).2 (Nat.le_refl _)) (nd_pos u)
theorem dec_step (u : Nat) (h : 10 ≤ u) : Lib.decDigits u = Lib.decDigits (u / 10) ++ [dig u] := by
  rw [Lib.decDigits, dif_neg (by omega)]; rfl
theorem dec_one (u : Nat) : Lib.decDigits (u % 10) = [dig u] := by
  rw [Lib.decDigits, dif_pos (Nat.mod_lt _ (by decide))]
  simp [dig]
theorem dec_len (u : Nat) (h : u ≤ 9223372036854775808) : (Lib.decDigits u).length ≤ 19 := by
  rw [dec_low, low_length]; exact nd_le (j := 19) (by decide) (by omega)
theorem itoa_pos (u : Nat) : Lib.itoa (u : Int) = Lib.decDigits u := by unfold Lib.itoa; rw [if_neg (by omega)]; simp
theorem itoa_neg (u : Nat) (h : 1 ≤ u) : Lib.itoa (-(u : Int)) = 45 :: Lib.decDigits u := by
  unfold Lib.itoa; rw [if_pos (by omega)]; simp
theorem number_text (n : Int) (w : World) (h : -9223372036854775808 ≤ n ∧ n ≤ 9223372036854775807) :
    Calls Tryd.prog 46 #[.int .i64 n] w fun e w' => e = .returned (str (Lib.itoa n)) ∧ Below w.heap.size w w' := by
  have hb : Below w.heap.size w w := Below.refl _ _
  by_cases h0 : 0 ≤ n
  · obtain ⟨u, rfl⟩ := Int.eq_ofNat_of_zero_le h0
    have C := Lib.hid (digits_dec u w (by omega))
    rw [itoa_pos]
    go_enter Tryd.func46, Tryd.ntmps46
    go_wp2_with (go_at_call 69; ((with_reducible refine C.out.mono ?_); rintro e w1 ⟨rfl, k1⟩))
    go_ret
    exact ⟨rfl, k1⟩
  · obtain ⟨u, rfl⟩ : ∃ u : Nat, n = -(u : Int) := ⟨(-n).toNat, by omega⟩
    have hu : 1 ≤ u := by omega
    have hu2 : u ≤ 9223372036854775808 := by omega
    rw [itoa_neg u hu]
    obtain ⟨a, ha⟩ : ∃ a, a = u / 10 := ⟨_, rfl⟩
    obtain ⟨b, hb2⟩ : ∃ b, b = u % 10 := ⟨_, rfl⟩
    have e2 : (-(u : Int)).tdiv 10 = -(a : Int) := by
      rw [Int.neg_tdiv, show (u : Int).tdiv 10 = (u : Int) / 10 from Int.tdiv_eq_ediv_of_nonneg (by omega)]; omega
    have e3 : (-(u : Int)).tmod 10 = -(b : Int) := by
      rw [Int.neg_tmod, show (u : Int).tmod 10 = (u : Int) % 10 from Int.tmod_eq_emod_of_nonneg (by omega)]; omega
    have i1 : a ≤ 922337203685477580 := by omega
    have i2 : b ≤ 9 := by omega
    have C1 := Lib.hid (fun W => digits_dec a W (by omega))
    have C2 := Lib.hid (fun W => digits_dec b W (by omega))
    have HB2 := Lib.hid (show Lib.decDigits b = [dig u] by rw [hb2]; exact dec_one u)
    by_cases h10 : 10 ≤ u
    · have HD := Lib.hid (show Lib.decDigits u = Lib.decDigits a ++ [dig u] by rw [ha]; exact dec_step u h10)
      have i3 : 1 ≤ a := by omega
      have HL := Lib.hid (dec_len a (by omega))
      have i5 : (Lib.decDigits a).length ≤ 19 := HL.out
      clear ha hb2
      generalize Lib.decDigits a = da at *
      generalize Lib.decDigits b = db at *
      have i6 : db.length ≤ 1 := by rw [HB2.out]; simp
      go_enter Tryd.func46, Tryd.ntmps46
      go_wp2_with (first
        | (go_at_call 69; ((with_reducible refine (C1.out _).mono ?_); rintro e w1 ⟨rfl, k1⟩; replace hb := bThen hb k1))
        | (go_at_call 69; ((with_reducible refine (C2.out _).mono ?_); rintro e w2 ⟨rfl, k2⟩; replace hb := bThen hb k2)))
      go_ret
      exact ⟨by rw [HD.out, ← HB2.out]; exact congrArg (fun s => Ending.returned (.string s)) (by rw [show (⟨#[45]⟩ : ByteArray) = ⟨([45] : Bs).toArray⟩ from rfl, bytes_add, bytes_add]; simp), hb⟩
    · have ha0 : a = 0 := by omega
      have hbu : b = u := by omega
      have HD := Lib.hid (show Lib.decDigits u = Lib.decDigits b by rw [hbu])
      have e4 : (-(u : Int)).tdiv 10 = 0 := by rw [e2, ha0]; rfl
      clear ha hb2 e2 ha0 hbu C1
      generalize Lib.decDigits b = db at *
      have i6 : db.length ≤ 1 := by rw [HB2.out]; simp
      go_enter Tryd.func46, Tryd.ntmps46
      go_wp2_with (go_at_call 69; ((with_reducible refine (C2.out _).mono ?_); rintro e w2 ⟨rfl, k2⟩; replace hb := bThen hb k2))
      go_ret
      exact ⟨by rw [HD.out]; exact congrArg (fun s => Ending.returned (.string s)) (by rw [show (⟨#[45]⟩ : ByteArray) = ⟨([45] : Bs).toArray⟩ from rfl, show (⟨#[]⟩ : ByteArray) = ⟨([] : Bs).toArray⟩ from rfl, bytes_add, bytes_add]; simp), hb⟩
/-- A field of a number, as it is written. -/
def numP (nm : Bs) (n : Int) : Bs := if n = 0 then [] else 32 :: (nm ++ 61 :: Lib.itoa n)
def yesP (nm : Bs) (b : Bool) : Bs := if b then 32 :: (nm ++ [61, 49]) else []
def textP (nm s : Bs) : Bs := if s = [] then [] else 32 :: (nm ++ 61 :: s)
theorem itoa_len2 {n : Int} (h : -9223372036854775808 ≤ n ∧ n ≤ 9223372036854775807) : (Lib.itoa n).length ≤ 1000 := itoa_len h
theorem num_any (nm : Bs) (n : Int) (w : World) (hn : nm.length ≤ 10) (h : -9223372036854775808 ≤ n ∧ n ≤ 9223372036854775807) :
    Calls Tryd.prog 20 #[str nm, .int .i64 n] w fun e w' => e = .returned (str (numP nm n)) ∧ Below w.heap.size w w' := by
  have hb : Below w.heap.size w w := Below.refl _ _
  by_cases h0 : n = 0
  · have HP := Lib.hid (show numP nm n = [] by unfold numP; rw [if_pos h0])
    generalize numP nm n = r at *
    go_enter Tryd.func20, Tryd.ntmps20
    go_wp2
    go_ret
    exact ⟨by rw [HP.out]; rfl, hb⟩
  · have HP := Lib.hid (show numP nm n = 32 :: (nm ++ 61 :: Lib.itoa n) by unfold numP; rw [if_neg h0])
    have C := Lib.hid (number_text n w h)
    have hl := itoa_len h
    generalize numP nm n = r at *
    generalize Lib.itoa n = d at *
    go_enter Tryd.func20, Tryd.ntmps20
    go_wp2_with (go_at_call 46; ((with_reducible refine C.out.mono ?_); rintro e w2 ⟨rfl, k2⟩; replace hb := bThen hb k2))
    go_ret
    exact ⟨by rw [HP.out]; exact congrArg (fun s => Ending.returned (.string s)) (by rw [show (⟨#[32]⟩ : ByteArray) = ⟨([32] : Bs).toArray⟩ from rfl, show (⟨#[61]⟩ : ByteArray) = ⟨([61] : Bs).toArray⟩ from rfl, bytes_add, bytes_add, bytes_add]; simp), hb⟩
theorem yes_any (nm : Bs) (b : Bool) (w : World) (hn : nm.length ≤ 10) :
    Calls Tryd.prog 21 #[str nm, .bool b] w fun e w' => e = .returned (str (yesP nm b)) ∧ w = w' := by
  cases b with
  | false =>
    go_enter Tryd.func21, Tryd.ntmps21
    go_wp2
    go_ret
    exact ⟨rfl, rfl⟩
  | true =>
    go_enter Tryd.func21, Tryd.ntmps21
    go_wp2
    go_ret
    exact ⟨congrArg (fun s => Ending.returned (.string s)) (by rw [show (⟨#[32]⟩ : ByteArray) = ⟨([32] : Bs).toArray⟩ from rfl, show (⟨#[61, 49]⟩ : ByteArray) = ⟨([61, 49] : Bs).toArray⟩ from rfl, bytes_add, bytes_add]; simp [yesP]), rfl⟩
theorem rtext_any (nm s : Bs) (w : World) (hn : nm.length ≤ 10) (hs : s.length ≤ 1000) :
    Calls Tryd.prog 19 #[str nm, str s] w fun e w' => e = .returned (str (textP nm s)) ∧ w = w' := by
  by_cases h0 : s = []
  · subst h0
    go_enter Tryd.func19, Tryd.ntmps19
    go_wp2
    go_ret
    exact ⟨rfl, rfl⟩
  · have hE : s.isEmpty = false := by cases s with | nil => exact absurd rfl h0 | cons a b => rfl
    have HP := Lib.hid (show textP nm s = 32 :: (nm ++ 61 :: s) by unfold textP; rw [if_neg h0])
    generalize textP nm s = r at *
    go_enter Tryd.func19, Tryd.ntmps19
    go_wp2
    go_ret
    exact ⟨by rw [HP.out]; exact congrArg (fun s => Ending.returned (.string s)) (by rw [show (⟨#[32]⟩ : ByteArray) = ⟨([32] : Bs).toArray⟩ from rfl, show (⟨#[61]⟩ : ByteArray) = ⟨([61] : Bs).toArray⟩ from rfl, bytes_add, bytes_add, bytes_add]; simp), rfl⟩
end Go.Proofs.YtonhijonnonmbaaDoor
namespace Go.Proofs.YtonhijonnonmbaaDoor
open Go.RowKit FixMath
set_option maxRecDepth 100000
set_option linter.unusedVariables false
set_option linter.unusedSimpArgs false

/-- What is told of a text: any number that may be; of the text of a number it is that. -/
def NumOK (s : ByteArray) (n : Int) (b : Bool) : Prop := -9223372036854775808 ≤ n ∧ n ≤ 9223372036854775807 ∧ ∀ v : Int, -1000000000000000 ≤ v ∧ v ≤ 1000000000000000 → s.data.toList = Lib.itoa v → n = v ∧ b = true
theorem dec_ne (u : Nat) : Lib.decDigits u ≠ [] := by
  rw [dec_low]; intro e
  have := congrArg List.length e
  rw [low_length] at this
  have := nd_pos u
  simp at *; omega
theorem dec_dig (u : Nat) : ∀ c ∈ Lib.decDigits u, isDig c = true := by rw [dec_low]; exact low_dig _ _
theorem itoa_ne (v : Int) : Lib.itoa v ≠ [] := by
  unfold Lib.itoa; split
  · simp
  · exact dec_ne _
/-- Behind the sign there are the digits. -/
theorem itoa_minus {v : Int} {t : Bs} (h : 45 :: t = Lib.itoa v) (hv : -1000000000000000 ≤ v ∧ v ≤ 1000000000000000) : ∃ u : Nat, u ≤ 1000000000000000 ∧ t = Lib.decDigits u ∧ v = -(u : Int) := by
  unfold Lib.itoa at h
  split at h
  · exact ⟨v.natAbs, by omega, by simpa using h, by omega⟩
  · have := dec_dig v.toNat 45 (by rw [← h]; simp)
    exact absurd this (by decide)
theorem itoa_plain {v : Int} {l : Bs} (h : l = Lib.itoa v) (h2 : l[0]? ≠ some 45) (hv : -1000000000000000 ≤ v ∧ v ≤ 1000000000000000) : ∃ u : Nat, u ≤ 1000000000000000 ∧ l = Lib.decDigits u ∧ v = (u : Int) := by
  unfold Lib.itoa at h
  split at h
  · rw [h] at h2; simp at h2
  · exact ⟨v.toNat, by omega, h, by omega⟩
theorem wrap64_in (x : Int) : -9223372036854775808 ≤ wrap64 x ∧ wrap64 x ≤ 9223372036854775807 := by unfold wrap64; omega
def stepN (z : Int) (c : UInt8) : Int := wrap64 (wrap64 (10 * z) - ((c.toNat : Int) - 48))
theorem val_pre (d : Bs) (k : Nat) : val (d.take k) ≤ val d := by
  have h := val_append (d.take k) (d.drop k)
  rw [List.take_append_drop] at h
  rw [h]
  exact Nat.le_trans (Nat.le_mul_of_pos_right _ (Nat.pow_pos (by decide))) (Nat.le_add_right _ _)
theorem step_val {d : Bs} {k u : Nat} {z : Int} (hk : k < d.length) (hd : d = Lib.decDigits u) (hu : u ≤ 1000000000000000) (hz : z = -(val (d.take k) : Int)) (hc : isDig d[k] = true) : stepN z d[k] = -(val (d.take (k + 1)) : Int) := by
  have h1 := val_pre d (k + 1)
  have h2 : val d = u := by rw [hd, dec_low, val_nd]
  have e : val (d.take (k + 1)) = 10 * val (d.take k) + (d[k].toNat - 48) := by rw [List.take_succ_eq_append_getElem hk, val_snoc]
  have h3 := hc
  simp only [isDig, decide_eq_true_eq] at h3
  subst hz
  unfold stepN wrap64
  omega
def NumRes (s : ByteArray) (w : World) (e : Ending) (w' : World) : Prop := ∃ n b, e = .returned (.tuple #[.int .i64 n, .bool b]) ∧ NumOK s n b ∧ Below w.heap.size w w'
set_option maxHeartbeats 2000000 in
theorem number_any (s : ByteArray) (w : World) (hs : s.size ≤ 1000) : Calls Tryd.prog 52 #[.string s] w (NumRes s w) := by
  have hb : Below w.heap.size w w := Below.refl _ _
  have C := Lib.hid (fun n W h => number_text n W h)
  by_cases h0 : s.size = 0
  · have HN : Hid (NumOK s 0 false) := Lib.hid ⟨by decide, by decide, fun v hv h => by
      have : s.data.toList.length = 0 := h0
      rw [h] at this
      exact absurd (List.eq_nil_of_length_eq_zero this) (itoa_ne v)⟩
    go_enter Tryd.func52, Tryd.ntmps52
    go_wp2
    go_ret2
    exact ⟨0, false, rfl, HN.out, hb⟩
  · have hs0 : 0 < s.size := by omega
    by_cases hm : (s[0].toNat : Int) = 45
    · have hD : Hid (∀ v : Int, -1000000000000000 ≤ v ∧ v ≤ 1000000000000000 → s.data.toList = Lib.itoa v → ∃ u : Nat, u ≤ 1000000000000000 ∧ (s.extract 1 s.size).data.toList = Lib.decDigits u ∧ v = -(u : Int)) := Lib.hid fun v hv h => by
        have e : s.data.toList = 45 :: (s.extract 1 s.size).data.toList := by
          have hc : s[0] = 45 := by
            apply UInt8.toNat_inj.1
            have : s[0].toNat = 45 := by omega
            rw [this]; rfl
          have e2 : s.data.toList = s[0] :: s.data.toList.drop 1 := by
            have := List.drop_eq_getElem_cons (l := s.data.toList) (i := 0) hs0
            show s.data.toList = s.data[0] :: s.data.toList.drop 1
            simpa using this
          have e3 : (s.extract 1 s.size).data.toList = s.data.toList.drop 1 := by
            have := Lib.extract_eq s 1 s.size
            rw [this]
            show (List.take (s.size - 1) (s.data.toList.drop 1)) = _
            exact List.take_of_length_le (by rw [List.length_drop]; exact Nat.le_refl _)
          rw [e3, ← hc]; exact e2
        exact itoa_minus (e ▸ h) hv
      have hsz : (s.extract 1 s.size).size + 1 = s.size := by rw [ByteArray.size_extract]; omega
      go_enter Tryd.func52, Tryd.ntmps52
      go_upto_region 4 with (fail)
      have HD := hD
      clear hD
      generalize s.extract 1 s.size = D at *
      have hnone : ∀ D0 : Prop, D0 → True := fun _ _ => trivial
      by_cases d0 : D.size < 1
      · have i1 : (D.size : Int) < 1 := by omega
        have HN : Hid (NumOK s 0 false) := Lib.hid ⟨by decide, by decide, fun v hv h => by
          obtain ⟨u, _, hu2, _⟩ := HD.out v hv h
          have : D.data.toList.length = 0 := by show D.size = 0; omega
          exact absurd (hu2 ▸ List.eq_nil_of_length_eq_zero this) (dec_ne u)⟩
        go_wp2
        go_ret2
        exact ⟨0, false, rfl, HN.out, hb⟩
      · by_cases d19 : 19 < D.size
        · have i1 : (19 : Int) < D.size := by omega
          have HN : Hid (NumOK s 0 false) := Lib.hid ⟨by decide, by decide, fun v hv h => by
            obtain ⟨u, hu, hu2, _⟩ := HD.out v hv h
            have h3 := dec_len u (by omega)
            rw [← hu2] at h3
            have : D.size ≤ 19 := h3
            omega⟩
          go_wp2
          go_ret2
          exact ⟨0, false, rfl, HN.out, hb⟩
        · have i1 : ¬ (D.size : Int) < 1 := by omega
          have i2 : ¬ (19 : Int) < D.size := by omega
          go_wp2
          go_loop [5, 6] (fun n i => ∃ (k : Nat) (z : Int), k ≤ D.size ∧ i = .int .i64 k ∧ n = .int .i64 z ∧ -9223372036854775808 ≤ z ∧ z ≤ 9223372036854775807 ∧ Hid (∀ u : Nat, u ≤ 1000000000000000 → D.data.toList = Lib.decDigits u → z = -(val (D.data.toList.take k) : Int))) (fun _ i => D.size - (intOf i).toNat)
          case atStart => exact ⟨0, 0, Nat.zero_le _, rfl, rfl, by decide, by decide, Lib.hid fun u _ _ => by simp [val]⟩
          case round =>
            obtain ⟨k, z, hk, rfl, rfl, z1, z2, HZ⟩ := hrel
            by_cases hlt : k < D.size
            · have hc := D[k].toNat_lt
              by_cases hdg : isDig D[k] = true
              · have hd2 := hdg
                simp only [isDig, decide_eq_true_eq] at hd2
                obtain ⟨c1, c2⟩ := hd2
                have HZ2 : Hid (∀ u : Nat, u ≤ 1000000000000000 → D.data.toList = Lib.decDigits u → stepN z D[k] = -(val (D.data.toList.take (k + 1)) : Int)) := Lib.hid fun u hu he => step_val (d := D.data.toList) hlt he hu (HZ.out u hu he) hdg
                have w1 := wrap64_in (wrap64 (10 * z) - ((D[k].toNat : Int) - 48))
                have W1 := Lib.hid w1
                clear hdg w1
                go_wp2
                go_round
                case rel => exact ⟨k + 1, stepN z D[k], by omega, by go_num, rfl, W1.out.1, W1.out.2, HZ2⟩
                case measure => simp [intOf]; omega
              · have hd : isDig D[k] = false := by simpa using hdg
                have HN : Hid (NumOK s 0 false) := Lib.hid ⟨by decide, by decide, fun v hv h => by
                  obtain ⟨u, _, hu2, _⟩ := HD.out v hv h
                  have := dec_dig u D[k] (by rw [← hu2]; exact List.getElem_mem hlt)
                  rw [hd] at this; cases this⟩
                have hd2 : D[k].toNat < 48 ∨ (48 ≤ D[k].toNat ∧ 57 < D[k].toNat) := by
                  simp only [isDig, decide_eq_false_iff_not] at hd
                  omega
                clear hd hdg
                rcases hd2 with c1 | ⟨c1, c2⟩
                all_goals
                  go_wp2
                  go_ret2
                  exact ⟨0, false, rfl, HN.out, hb⟩
            · obtain rfl : k = D.size := by omega
              clear hlt
              have HV : Hid (∀ v : Int, -1000000000000000 ≤ v ∧ v ≤ 1000000000000000 → s.data.toList = Lib.itoa v → z = v) := Lib.hid fun v hv h => by
                obtain ⟨u, hu, hu2, hu3⟩ := HD.out v hv h
                rw [HZ.out u hu hu2, hu3]
                have e : D.data.toList.take D.size = D.data.toList := List.take_of_length_le (Nat.le_refl _)
                rw [e, hu2, dec_low, val_nd]
              have ne : ¬ (D.size : Int) = s.size := by omega
              obtain ⟨y, hy⟩ : ∃ y, y = z := ⟨z, rfl⟩
              subst hy
              go_wp2_with (go_at_call 46; ((with_reducible refine (C.out _ _ ⟨z1, z2⟩).mono ?_); rintro e w1 ⟨rfl, k1⟩))
              go_ret2
              exact ⟨y, (Lib.itoa (y) == s.toList), rfl, ⟨(And.intro z1 z2).1, (And.intro z1 z2).2, fun v hv h => ⟨HV.out v hv h, by rw [HV.out v hv h, ByteArray.toList_eq, h]; simp⟩⟩, k1⟩
    · have hD : Hid (∀ v : Int, -1000000000000000 ≤ v ∧ v ≤ 1000000000000000 → s.data.toList = Lib.itoa v → ∃ u : Nat, u ≤ 1000000000000000 ∧ s.data.toList = Lib.decDigits u ∧ v = (u : Int)) := Lib.hid fun v hv h => itoa_plain h (by
        intro h2
        have : s.data.toList[0]? = some s[0] := List.getElem?_eq_getElem hs0
        rw [this] at h2
        injection h2 with h3
        exact hm (by rw [h3]; rfl)) hv
      go_enter Tryd.func52, Tryd.ntmps52
      go_upto_region 4 with (fail)
      have HD := hD
      clear hD
      have hnone : ∀ D0 : Prop, D0 → True := fun _ _ => trivial
      by_cases d0 : s.size < 1
      · have i1 : (s.size : Int) < 1 := by omega
        have HN : Hid (NumOK s 0 false) := Lib.hid ⟨by decide, by decide, fun v hv h => by
          obtain ⟨u, _, hu2, _⟩ := HD.out v hv h
          have : s.data.toList.length = 0 := by show s.size = 0; omega
          exact absurd (hu2 ▸ List.eq_nil_of_length_eq_zero this) (dec_ne u)⟩
        go_wp2
        go_ret2
        exact ⟨0, false, rfl, HN.out, hb⟩
      · by_cases d19 : 19 < s.size
        · have i1 : (19 : Int) < s.size := by omega
          have HN : Hid (NumOK s 0 false) := Lib.hid ⟨by decide, by decide, fun v hv h => by
            obtain ⟨u, hu, hu2, _⟩ := HD.out v hv h
            have h3 := dec_len u (by omega)
            rw [← hu2] at h3
            have : s.size ≤ 19 := h3
            omega⟩
          go_wp2
          go_ret2
          exact ⟨0, false, rfl, HN.out, hb⟩
        · have i1 : ¬ (s.size : Int) < 1 := by omega
          have i2 : ¬ (19 : Int) < s.size := by omega
          go_wp2
          go_loop [5, 6] (fun n i => ∃ (k : Nat) (z : Int), k ≤ s.size ∧ i = .int .i64 k ∧ n = .int .i64 z ∧ -9223372036854775808 ≤ z ∧ z ≤ 9223372036854775807 ∧ Hid (∀ u : Nat, u ≤ 1000000000000000 → s.data.toList = Lib.decDigits u → z = -(val (s.data.toList.take k) : Int))) (fun _ i => s.size - (intOf i).toNat)
          case atStart => exact ⟨0, 0, Nat.zero_le _, rfl, rfl, by decide, by decide, Lib.hid fun u _ _ => by simp [val]⟩
          case round =>
            obtain ⟨k, z, hk, rfl, rfl, z1, z2, HZ⟩ := hrel
            by_cases hlt : k < s.size
            · have hc := s[k].toNat_lt
              by_cases hdg : isDig s[k] = true
              · have hd2 := hdg
                simp only [isDig, decide_eq_true_eq] at hd2
                obtain ⟨c1, c2⟩ := hd2
                have HZ2 : Hid (∀ u : Nat, u ≤ 1000000000000000 → s.data.toList = Lib.decDigits u → stepN z s[k] = -(val (s.data.toList.take (k + 1)) : Int)) := Lib.hid fun u hu he => step_val (d := s.data.toList) hlt he hu (HZ.out u hu he) hdg
                have w1 := wrap64_in (wrap64 (10 * z) - ((s[k].toNat : Int) - 48))
                have W1 := Lib.hid w1
                clear hdg w1
                go_wp2
                go_round
                case rel => exact ⟨k + 1, stepN z s[k], by omega, by go_num, rfl, W1.out.1, W1.out.2, HZ2⟩
                case measure => simp [intOf]; omega
              · have hd : isDig s[k] = false := by simpa using hdg
                have HN : Hid (NumOK s 0 false) := Lib.hid ⟨by decide, by decide, fun v hv h => by
                  obtain ⟨u, _, hu2, _⟩ := HD.out v hv h
                  have := dec_dig u s[k] (by rw [← hu2]; exact List.getElem_mem hlt)
                  rw [hd] at this; cases this⟩
                have hd2 : s[k].toNat < 48 ∨ (48 ≤ s[k].toNat ∧ 57 < s[k].toNat) := by
                  simp only [isDig, decide_eq_false_iff_not] at hd
                  omega
                clear hd hdg
                rcases hd2 with c1 | ⟨c1, c2⟩
                all_goals
                  go_wp2
                  go_ret2
                  exact ⟨0, false, rfl, HN.out, hb⟩
            · obtain rfl : k = s.size := by omega
              clear hlt
              have HV : Hid (∀ v : Int, -1000000000000000 ≤ v ∧ v ≤ 1000000000000000 → s.data.toList = Lib.itoa v → wrap64 (-z) = v) := Lib.hid fun v hv h => by
                obtain ⟨u, hu, hu2, hu3⟩ := HD.out v hv h
                have e : s.data.toList.take s.size = s.data.toList := List.take_of_length_le (Nat.le_refl _)
                have h4 := HZ.out u hu hu2
                rw [e, hu2, dec_low, val_nd] at h4
                rw [h4, hu3]; unfold wrap64; omega
              have z3 := wrap64_in (-z)
              go_wp2_with (go_at_call 46; ((with_reducible refine (C.out _ _ z3).mono ?_); rintro e w1 ⟨rfl, k1⟩))
              go_ret2
              exact ⟨wrap64 (-z), (Lib.itoa (wrap64 (-z)) == s.toList), rfl, ⟨z3.1, z3.2, fun v hv h => ⟨HV.out v hv h, by rw [HV.out v hv h, ByteArray.toList_eq, h]; simp⟩⟩, k1⟩
end Go.Proofs.YtonhijonnonmbaaDoor
namespace Go.Proofs.YtonhijonnonmbaaDoor
open Go.RowKit FixMath
set_option maxRecDepth 100000
set_option linter.unusedVariables false
set_option linter.unusedSimpArgs false

/-- What a field's text is, as it would be written. -/
def CleanV (s : ByteArray) (j : Nat) : Prop :=
  if j = 0 ∨ j = 2 then True
  else if j = 1 ∨ j = 5 ∨ j = 11 then ∃ v : Nat, v ≤ 255 ∧ s.data.toList = Lib.itoa (v : Int)
  else if j = 6 ∨ j = 7 then s = ⟨#[49]⟩
  else ∃ v : Int, (-1000000000000000 ≤ v ∧ v ≤ 1000000000000000) ∧ s.data.toList = Lib.itoa v
def PutRel (o : Ob) (name s : ByteArray) (x : Ob) (b : Bool) : Prop := (Good o → Good x) ∧ ∀ j, j < 12 → name = nameAt j → CleanV s j → x = setF o s j ∧ b = true
def PutRes (o : Ob) (name s : ByteArray) (w : World) (e : Ending) (w' : World) : Prop := ∃ x b, e = .returned (.tuple #[ob x, .bool b]) ∧ PutRel o name s x b ∧ Below w.heap.size w w'
abbrev ob0 : Array Value := obCells zeroOb
theorem nameAt_inj : ∀ i, i < 12 → ∀ j, j < 12 → fnameL i = fnameL j → i = j := by decide
theorem name_one {i j : Nat} (hi : i < 12) (hj : j < 12) (h : nameAt i = nameAt j) : i = j := by
  have : fnameL i = fnameL j := by
    have h2 := congrArg (fun b : ByteArray => b.data.toList) h
    simpa [nameAt] using h2
  exact nameAt_inj i hi j hj this
theorem numV_of {s : ByteArray} {v : Int} (hv : -1000000000000000 ≤ v ∧ v ≤ 1000000000000000) (h : s.data.toList = Lib.itoa v) : numV s = v := by
  have : s = ⟨(Lib.itoa v).toArray⟩ := by rw [← h]
  rw [this]; exact numV_itoa hv
theorem numV_49 : numV ⟨#[49]⟩ = 1 := numV_of (s := ⟨#[49]⟩) (v := 1) (by decide) (by rw [show (1 : Int) = ((1 : Nat) : Int) from rfl, itoa_pos]; simp [Lib.decDigits])
theorem putRel_u {o x : Ob} {s : ByteArray} {n : Int} {b0 b : Bool} (j : Nat) (hj : j = 1 ∨ j = 5 ∨ j = 11) (HN : NumOK s n b0) (hb : b0 = true → 0 ≤ n → n ≤ 255 → b = true) (hg : Good o → Good x) (hx : numV s = n → x = setF o s j) : PutRel o (nameAt j) s x b :=
  ⟨hg, fun i hi hn hc => by
    have e : i = j := (name_one (by omega) hi hn).symm
    subst e
    unfold CleanV at hc
    rw [if_neg (by omega), if_pos hj] at hc
    obtain ⟨v, hv, he⟩ := hc
    obtain ⟨e1, e2⟩ := HN.2.2 v ⟨by omega, by omega⟩ he
    exact ⟨hx (by rw [numV_of (v := (v : Int)) ⟨by omega, by omega⟩ he, e1]), hb e2 (by omega) (by omega)⟩⟩
theorem putRel_n {o x : Ob} {s : ByteArray} {n : Int} {b0 b : Bool} (j : Nat) (hj : j = 3 ∨ j = 4 ∨ j = 8 ∨ j = 9 ∨ j = 10) (HN : NumOK s n b0) (hb : b0 = true → b = true) (hg : Good o → Good x) (hx : numV s = n → x = setF o s j) : PutRel o (nameAt j) s x b :=
  ⟨hg, fun i hi hn hc => by
    have e : i = j := (name_one (by omega) hi hn).symm
    subst e
    unfold CleanV at hc
    rw [if_neg (by omega), if_neg (by omega), if_neg (by omega)] at hc
    obtain ⟨v, hv, he⟩ := hc
    obtain ⟨e1, e2⟩ := HN.2.2 v hv he
    exact ⟨hx (by rw [numV_of hv he, e1]), hb e2⟩⟩
theorem putRel_b {o x : Ob} {s : ByteArray} {b : Bool} (j : Nat) (hj : j = 6 ∨ j = 7) (hb : s = ⟨#[49]⟩ → b = true) (hg : Good o → Good x) (hx : s = ⟨#[49]⟩ → x = setF o s j) : PutRel o (nameAt j) s x b :=
  ⟨hg, fun i hi hn hc => by
    have e : i = j := (name_one (by omega) hi hn).symm
    subst e
    unfold CleanV at hc
    rw [if_neg (by omega), if_neg (by omega), if_pos hj] at hc
    exact ⟨hx hc, hb hc⟩⟩

set_option maxHeartbeats 4000000 in
theorem put_0 (o : Ob) (s : ByteArray) (w : World) (hs : s.size ≤ 1000) : Calls Tryd.prog 24 #[ob o, .string ⟨#[112, 97, 114, 101, 110, 116]⟩, .string s] w (PutRes o ⟨#[112, 97, 114, 101, 110, 116]⟩ s w) := by
  have b1 := bAl (Below.refl w.heap.size w) (.cells (obCells o) 23)
  have b2 := bAl b1 (.cells ob0 23)
  have m1 := (AtC.new w (obCells o) 23).al (.cells ob0 23)
  have m2 := AtC.newAt (w := w.alloc (.cells (obCells o) 23)) (B := w.heap.size + 1) (C := ob0) (T := 23) (by simp)
  have M1 := Lib.hid m1
  have M2 := Lib.hid m2
  have HR : Hid (PutRel o ⟨#[112, 97, 114, 101, 110, 116]⟩ s { o with parent := s } true) := Lib.hid ⟨fun g => { g with parent := hs }, fun i hi hn _ => by
    have : i = 0 := (name_one (i := 0) (by decide) hi (by exact hn)).symm
    subst this; exact ⟨rfl, rfl⟩⟩
  have c1 := m1.c; have c2 := m2.c; have f1 := m1.f; have f2 := m2.f; have l1 := m1.lt; have l2 := m2.lt
  clear m1 m2
  go_enter Tryd.func24, Tryd.ntmps24
  go_wp2
  exact ret_ob_tmp (o := { o with parent := s }) rfl rfl rfl rfl (AtC.newAt (by simp)) ⟨_, true, rfl, HR.out, bAl (bAl (Below.refl _ _) _) _⟩
set_option maxHeartbeats 4000000 in
theorem put_1 (o : Ob) (s : ByteArray) (w : World) (hs : s.size ≤ 1000) : Calls Tryd.prog 24 #[ob o, .string ⟨#[116, 121, 112, 101]⟩, .string s] w (PutRes o ⟨#[116, 121, 112, 101]⟩ s w) := by
  have b1 := bAl (Below.refl w.heap.size w) (.cells (obCells o) 23)
  have b2 := bAl b1 (.cells ob0 23)
  have m1 := (AtC.new w (obCells o) 23).al (.cells ob0 23)
  have m2 := AtC.newAt (w := w.alloc (.cells (obCells o) 23)) (B := w.heap.size + 1) (C := ob0) (T := 23) (by simp)
  have M1 := Lib.hid m1
  have M2 := Lib.hid m2
  have c1 := m1.c; have c2 := m2.c; have f1 := m1.f; have f2 := m2.f; have l1 := m1.lt; have l2 := m2.lt
  have HB2 := Lib.hid b2
  clear m1 m2 b1 b2
  go_enter Tryd.func24, Tryd.ntmps24
  go_wp2_with fail
  clear c1 c2 f1 f2 l1 l2
  refine (number_any s _ hs).mono ?_
  rintro e w1 ⟨n, b0, rfl, hn, k1⟩
  have HN := Lib.hid hn
  have hn1 := hn.1
  have hn2 := hn.2.1
  have m1 := M1.out.then k1
  have m2 := M2.out.then k1
  have HB := Lib.hid (bThen HB2.out k1)
  have N1 := Lib.hid m1
  have N2 := Lib.hid m2
  have c1 := m1.c; have c2 := m2.c; have f1 := m1.f; have f2 := m2.f; have l1 := m1.lt; have l2 := m2.lt
  clear m1 m2 hn k1
  rcases (show b0 = false ∨ (b0 = true ∧ n < 0) ∨ (b0 = true ∧ ¬ n < 0 ∧ 255 < n) ∨ (b0 = true ∧ ¬ n < 0 ∧ ¬ 255 < n) by cases b0 <;> simp <;> omega) with rfl | ⟨rfl, q1⟩ | ⟨rfl, q1, q2⟩ | ⟨rfl, q1, q2⟩
  · go_wp2
    exact ret_ob_tmp (o := { o with typ := u8N n }) rfl rfl rfl rfl (by simp only [obCells]; rw [u8N_int]; exact AtC.fill (N2.out.store (p := ⟨w.heap.size, 3, none⟩) (by simp) _) rfl _ _ _ _ _ _ _ _ _ _ _ _ _ _) ⟨{ o with typ := u8N n }, false, rfl, putRel_u 1 (by decide) HN.out (fun h _ _ => by cases h) (fun g => { g with typ := u8N_le n }) (fun h => by simp [setF, h]), bFill (bStore HB.out (p := ⟨w.heap.size, 3, none⟩) (Nat.le_refl _) _) (Nat.le_succ _) _ _ _ _ _ _ _ _ _ _ _ _ _ _⟩
  · go_wp2
    exact ret_ob_tmp (o := { o with typ := u8N n }) rfl rfl rfl rfl (by simp only [obCells]; rw [u8N_int]; exact AtC.fill (N2.out.store (p := ⟨w.heap.size, 3, none⟩) (by simp) _) rfl _ _ _ _ _ _ _ _ _ _ _ _ _ _) ⟨{ o with typ := u8N n }, false, rfl, putRel_u 1 (by decide) HN.out (fun _ h _ => by omega) (fun g => { g with typ := u8N_le n }) (fun h => by simp [setF, h]), bFill (bStore HB.out (p := ⟨w.heap.size, 3, none⟩) (Nat.le_refl _) _) (Nat.le_succ _) _ _ _ _ _ _ _ _ _ _ _ _ _ _⟩
  · go_wp2
    exact ret_ob_tmp (o := { o with typ := u8N n }) rfl rfl rfl rfl (by simp only [obCells]; rw [u8N_int]; exact AtC.fill (N2.out.store (p := ⟨w.heap.size, 3, none⟩) (by simp) _) rfl _ _ _ _ _ _ _ _ _ _ _ _ _ _) ⟨{ o with typ := u8N n }, (decide (n ≤ 255)), rfl, putRel_u 1 (by decide) HN.out (fun _ _ h => by omega) (fun g => { g with typ := u8N_le n }) (fun h => by simp [setF, h]), bFill (bStore HB.out (p := ⟨w.heap.size, 3, none⟩) (Nat.le_refl _) _) (Nat.le_succ _) _ _ _ _ _ _ _ _ _ _ _ _ _ _⟩
  · go_wp2
    exact ret_ob_tmp (o := { o with typ := u8N n }) rfl rfl rfl rfl (by simp only [obCells]; rw [u8N_int, Int.emod_eq_of_lt (by omega) (by omega)]; exact AtC.fill (N2.out.store (p := ⟨w.heap.size, 3, none⟩) (by simp) _) rfl _ _ _ _ _ _ _ _ _ _ _ _ _ _) ⟨{ o with typ := u8N n }, true, rfl, putRel_u 1 (by decide) HN.out (fun _ _ _ => rfl) (fun g => { g with typ := u8N_le n }) (fun h => by simp [setF, h]), bFill (bStore HB.out (p := ⟨w.heap.size, 3, none⟩) (Nat.le_refl _) _) (Nat.le_succ _) _ _ _ _ _ _ _ _ _ _ _ _ _ _⟩
set_option maxHeartbeats 4000000 in
theorem put_2 (o : Ob) (s : ByteArray) (w : World) (hs : s.size ≤ 1000) : Calls Tryd.prog 24 #[ob o, .string ⟨#[114, 101, 102]⟩, .string s] w (PutRes o ⟨#[114, 101, 102]⟩ s w) := by
  have b1 := bAl (Below.refl w.heap.size w) (.cells (obCells o) 23)
  have b2 := bAl b1 (.cells ob0 23)
  have m1 := (AtC.new w (obCells o) 23).al (.cells ob0 23)
  have m2 := AtC.newAt (w := w.alloc (.cells (obCells o) 23)) (B := w.heap.size + 1) (C := ob0) (T := 23) (by simp)
  have M1 := Lib.hid m1
  have M2 := Lib.hid m2
  have HR : Hid (PutRel o ⟨#[114, 101, 102]⟩ s { o with ref := s } true) := Lib.hid ⟨fun g => { g with ref := hs }, fun i hi hn _ => by
    have : i = 2 := (name_one (i := 2) (by decide) hi (by exact hn)).symm
    subst this; exact ⟨rfl, rfl⟩⟩
  have c1 := m1.c; have c2 := m2.c; have f1 := m1.f; have f2 := m2.f; have l1 := m1.lt; have l2 := m2.lt
  clear m1 m2
  go_enter Tryd.func24, Tryd.ntmps24
  go_wp2
  exact ret_ob_tmp (o := { o with ref := s }) rfl rfl rfl rfl (AtC.newAt (by simp)) ⟨_, true, rfl, HR.out, bAl (bAl (Below.refl _ _) _) _⟩
set_option maxHeartbeats 4000000 in
theorem put_3 (o : Ob) (s : ByteArray) (w : World) (hs : s.size ≤ 1000) : Calls Tryd.prog 24 #[ob o, .string ⟨#[108, 111]⟩, .string s] w (PutRes o ⟨#[108, 111]⟩ s w) := by
  have b1 := bAl (Below.refl w.heap.size w) (.cells (obCells o) 23)
  have b2 := bAl b1 (.cells ob0 23)
  have m1 := (AtC.new w (obCells o) 23).al (.cells ob0 23)
  have m2 := AtC.newAt (w := w.alloc (.cells (obCells o) 23)) (B := w.heap.size + 1) (C := ob0) (T := 23) (by simp)
  have M1 := Lib.hid m1
  have M2 := Lib.hid m2
  have c1 := m1.c; have c2 := m2.c; have f1 := m1.f; have f2 := m2.f; have l1 := m1.lt; have l2 := m2.lt
  have HB2 := Lib.hid b2
  clear m1 m2 b1 b2
  go_enter Tryd.func24, Tryd.ntmps24
  go_wp2_with fail
  clear c1 c2 f1 f2 l1 l2
  refine (number_any s _ hs).mono ?_
  rintro e w1 ⟨n, b0, rfl, hn, k1⟩
  have HN := Lib.hid hn
  have hn1 := hn.1
  have hn2 := hn.2.1
  have m1 := M1.out.then k1
  have m2 := M2.out.then k1
  have HB := Lib.hid (bThen HB2.out k1)
  have N1 := Lib.hid m1
  have N2 := Lib.hid m2
  have c1 := m1.c; have c2 := m2.c; have f1 := m1.f; have f2 := m2.f; have l1 := m1.lt; have l2 := m2.lt
  clear m1 m2 hn k1
  rcases (show b0 = false ∨ (b0 = true ∧ n < 0) ∨ (b0 = true ∧ ¬ n < 0 ∧ 255 < n) ∨ (b0 = true ∧ ¬ n < 0 ∧ ¬ 255 < n) by cases b0 <;> simp <;> omega) with rfl | ⟨rfl, q1⟩ | ⟨rfl, q1, q2⟩ | ⟨rfl, q1, q2⟩
  · go_wp2
    exact ret_ob_tmp (o := { o with lo := n }) rfl rfl rfl rfl (AtC.fill (N2.out.store (p := ⟨w.heap.size, 5, none⟩) (by simp) _) rfl _ _ _ _ _ _ _ _ _ _ _ _ _ _) ⟨{ o with lo := n }, false, rfl, putRel_n 3 (by decide) HN.out (fun h => by cases h) (fun g => { g with lo := ⟨hn1, hn2⟩ }) (fun h => by simp [setF, h]), bFill (bStore HB.out (p := ⟨w.heap.size, 5, none⟩) (Nat.le_refl _) _) (Nat.le_succ _) _ _ _ _ _ _ _ _ _ _ _ _ _ _⟩
  · go_wp2
    exact ret_ob_tmp (o := { o with lo := n }) rfl rfl rfl rfl (AtC.fill (N2.out.store (p := ⟨w.heap.size, 5, none⟩) (by simp) _) rfl _ _ _ _ _ _ _ _ _ _ _ _ _ _) ⟨{ o with lo := n }, true, rfl, putRel_n 3 (by decide) HN.out (fun _ => rfl) (fun g => { g with lo := ⟨hn1, hn2⟩ }) (fun h => by simp [setF, h]), bFill (bStore HB.out (p := ⟨w.heap.size, 5, none⟩) (Nat.le_refl _) _) (Nat.le_succ _) _ _ _ _ _ _ _ _ _ _ _ _ _ _⟩
  · go_wp2
    exact ret_ob_tmp (o := { o with lo := n }) rfl rfl rfl rfl (AtC.fill (N2.out.store (p := ⟨w.heap.size, 5, none⟩) (by simp) _) rfl _ _ _ _ _ _ _ _ _ _ _ _ _ _) ⟨{ o with lo := n }, true, rfl, putRel_n 3 (by decide) HN.out (fun _ => rfl) (fun g => { g with lo := ⟨hn1, hn2⟩ }) (fun h => by simp [setF, h]), bFill (bStore HB.out (p := ⟨w.heap.size, 5, none⟩) (Nat.le_refl _) _) (Nat.le_succ _) _ _ _ _ _ _ _ _ _ _ _ _ _ _⟩
  · go_wp2
    exact ret_ob_tmp (o := { o with lo := n }) rfl rfl rfl rfl (AtC.fill (N2.out.store (p := ⟨w.heap.size, 5, none⟩) (by simp) _) rfl _ _ _ _ _ _ _ _ _ _ _ _ _ _) ⟨{ o with lo := n }, true, rfl, putRel_n 3 (by decide) HN.out (fun _ => rfl) (fun g => { g with lo := ⟨hn1, hn2⟩ }) (fun h => by simp [setF, h]), bFill (bStore HB.out (p := ⟨w.heap.size, 5, none⟩) (Nat.le_refl _) _) (Nat.le_succ _) _ _ _ _ _ _ _ _ _ _ _ _ _ _⟩
set_option maxHeartbeats 4000000 in
theorem put_4 (o : Ob) (s : ByteArray) (w : World) (hs : s.size ≤ 1000) : Calls Tryd.prog 24 #[ob o, .string ⟨#[104, 105]⟩, .string s] w (PutRes o ⟨#[104, 105]⟩ s w) := by
  have b1 := bAl (Below.refl w.heap.size w) (.cells (obCells o) 23)
  have b2 := bAl b1 (.cells ob0 23)
  have m1 := (AtC.new w (obCells o) 23).al (.cells ob0 23)
  have m2 := AtC.newAt (w := w.alloc (.cells (obCells o) 23)) (B := w.heap.size + 1) (C := ob0) (T := 23) (by simp)
  have M1 := Lib.hid m1
  have M2 := Lib.hid m2
  have c1 := m1.c; have c2 := m2.c; have f1 := m1.f; have f2 := m2.f; have l1 := m1.lt; have l2 := m2.lt
  have HB2 := Lib.hid b2
  clear m1 m2 b1 b2
  go_enter Tryd.func24, Tryd.ntmps24
  go_wp2_with fail
  clear c1 c2 f1 f2 l1 l2
  refine (number_any s _ hs).mono ?_
  rintro e w1 ⟨n, b0, rfl, hn, k1⟩
  have HN := Lib.hid hn
  have hn1 := hn.1
  have hn2 := hn.2.1
  have m1 := M1.out.then k1
  have m2 := M2.out.then k1
  have HB := Lib.hid (bThen HB2.out k1)
  have N1 := Lib.hid m1
  have N2 := Lib.hid m2
  have c1 := m1.c; have c2 := m2.c; have f1 := m1.f; have f2 := m2.f; have l1 := m1.lt; have l2 := m2.lt
  clear m1 m2 hn k1
  rcases (show b0 = false ∨ (b0 = true ∧ n < 0) ∨ (b0 = true ∧ ¬ n < 0 ∧ 255 < n) ∨ (b0 = true ∧ ¬ n < 0 ∧ ¬ 255 < n) by cases b0 <;> simp <;> omega) with rfl | ⟨rfl, q1⟩ | ⟨rfl, q1, q2⟩ | ⟨rfl, q1, q2⟩
  · go_wp2
    exact ret_ob_tmp (o := { o with hi := n }) rfl rfl rfl rfl (AtC.fill (N2.out.store (p := ⟨w.heap.size, 6, none⟩) (by simp) _) rfl _ _ _ _ _ _ _ _ _ _ _ _ _ _) ⟨{ o with hi := n }, false, rfl, putRel_n 4 (by decide) HN.out (fun h => by cases h) (fun g => { g with hi := ⟨hn1, hn2⟩ }) (fun h => by simp [setF, h]), bFill (bStore HB.out (p := ⟨w.heap.size, 6, none⟩) (Nat.le_refl _) _) (Nat.le_succ _) _ _ _ _ _ _ _ _ _ _ _ _ _ _⟩
  · go_wp2
    exact ret_ob_tmp (o := { o with hi := n }) rfl rfl rfl rfl (AtC.fill (N2.out.store (p := ⟨w.heap.size, 6, none⟩) (by simp) _) rfl _ _ _ _ _ _ _ _ _ _ _ _ _ _) ⟨{ o with hi := n }, true, rfl, putRel_n 4 (by decide) HN.out (fun _ => rfl) (fun g => { g with hi := ⟨hn1, hn2⟩ }) (fun h => by simp [setF, h]), bFill (bStore HB.out (p := ⟨w.heap.size, 6, none⟩) (Nat.le_refl _) _) (Nat.le_succ _) _ _ _ _ _ _ _ _ _ _ _ _ _ _⟩
  · go_wp2
    exact ret_ob_tmp (o := { o with hi := n }) rfl rfl rfl rfl (AtC.fill (N2.out.store (p := ⟨w.heap.size, 6, none⟩) (by simp) _) rfl _ _ _ _ _ _ _ _ _ _ _ _ _ _) ⟨{ o with hi := n }, true, rfl, putRel_n 4 (by decide) HN.out (fun _ => rfl) (fun g => { g with hi := ⟨hn1, hn2⟩ }) (fun h => by simp [setF, h]), bFill (bStore HB.out (p := ⟨w.heap.size, 6, none⟩) (Nat.le_refl _) _) (Nat.le_succ _) _ _ _ _ _ _ _ _ _ _ _ _ _ _⟩
  · go_wp2
    exact ret_ob_tmp (o := { o with hi := n }) rfl rfl rfl rfl (AtC.fill (N2.out.store (p := ⟨w.heap.size, 6, none⟩) (by simp) _) rfl _ _ _ _ _ _ _ _ _ _ _ _ _ _) ⟨{ o with hi := n }, true, rfl, putRel_n 4 (by decide) HN.out (fun _ => rfl) (fun g => { g with hi := ⟨hn1, hn2⟩ }) (fun h => by simp [setF, h]), bFill (bStore HB.out (p := ⟨w.heap.size, 6, none⟩) (Nat.le_refl _) _) (Nat.le_succ _) _ _ _ _ _ _ _ _ _ _ _ _ _ _⟩
set_option maxHeartbeats 4000000 in
theorem put_5 (o : Ob) (s : ByteArray) (w : World) (hs : s.size ≤ 1000) : Calls Tryd.prog 24 #[ob o, .string ⟨#[100, 105, 103, 105, 116, 115]⟩, .string s] w (PutRes o ⟨#[100, 105, 103, 105, 116, 115]⟩ s w) := by
  have b1 := bAl (Below.refl w.heap.size w) (.cells (obCells o) 23)
  have b2 := bAl b1 (.cells ob0 23)
  have m1 := (AtC.new w (obCells o) 23).al (.cells ob0 23)
  have m2 := AtC.newAt (w := w.alloc (.cells (obCells o) 23)) (B := w.heap.size + 1) (C := ob0) (T := 23) (by simp)
  have M1 := Lib.hid m1
  have M2 := Lib.hid m2
  have c1 := m1.c; have c2 := m2.c; have f1 := m1.f; have f2 := m2.f; have l1 := m1.lt; have l2 := m2.lt
  have HB2 := Lib.hid b2
  clear m1 m2 b1 b2
  go_enter Tryd.func24, Tryd.ntmps24
  go_wp2_with fail
  clear c1 c2 f1 f2 l1 l2
  refine (number_any s _ hs).mono ?_
  rintro e w1 ⟨n, b0, rfl, hn, k1⟩
  have HN := Lib.hid hn
  have hn1 := hn.1
  have hn2 := hn.2.1
  have m1 := M1.out.then k1
  have m2 := M2.out.then k1
  have HB := Lib.hid (bThen HB2.out k1)
  have N1 := Lib.hid m1
  have N2 := Lib.hid m2
  have c1 := m1.c; have c2 := m2.c; have f1 := m1.f; have f2 := m2.f; have l1 := m1.lt; have l2 := m2.lt
  clear m1 m2 hn k1
  rcases (show b0 = false ∨ (b0 = true ∧ n < 0) ∨ (b0 = true ∧ ¬ n < 0 ∧ 255 < n) ∨ (b0 = true ∧ ¬ n < 0 ∧ ¬ 255 < n) by cases b0 <;> simp <;> omega) with rfl | ⟨rfl, q1⟩ | ⟨rfl, q1, q2⟩ | ⟨rfl, q1, q2⟩
  · go_wp2
    exact ret_ob_tmp (o := { o with digits := u8N n }) rfl rfl rfl rfl (by simp only [obCells]; rw [u8N_int]; exact AtC.fill (N2.out.store (p := ⟨w.heap.size, 7, none⟩) (by simp) _) rfl _ _ _ _ _ _ _ _ _ _ _ _ _ _) ⟨{ o with digits := u8N n }, false, rfl, putRel_u 5 (by decide) HN.out (fun h _ _ => by cases h) (fun g => { g with digits := u8N_le n }) (fun h => by simp [setF, h]), bFill (bStore HB.out (p := ⟨w.heap.size, 7, none⟩) (Nat.le_refl _) _) (Nat.le_succ _) _ _ _ _ _ _ _ _ _ _ _ _ _ _⟩
  · go_wp2
    exact ret_ob_tmp (o := { o with digits := u8N n }) rfl rfl rfl rfl (by simp only [obCells]; rw [u8N_int]; exact AtC.fill (N2.out.store (p := ⟨w.heap.size, 7, none⟩) (by simp) _) rfl _ _ _ _ _ _ _ _ _ _ _ _ _ _) ⟨{ o with digits := u8N n }, false, rfl, putRel_u 5 (by decide) HN.out (fun _ h _ => by omega) (fun g => { g with digits := u8N_le n }) (fun h => by simp [setF, h]), bFill (bStore HB.out (p := ⟨w.heap.size, 7, none⟩) (Nat.le_refl _) _) (Nat.le_succ _) _ _ _ _ _ _ _ _ _ _ _ _ _ _⟩
  · go_wp2
    exact ret_ob_tmp (o := { o with digits := u8N n }) rfl rfl rfl rfl (by simp only [obCells]; rw [u8N_int]; exact AtC.fill (N2.out.store (p := ⟨w.heap.size, 7, none⟩) (by simp) _) rfl _ _ _ _ _ _ _ _ _ _ _ _ _ _) ⟨{ o with digits := u8N n }, (decide (n ≤ 255)), rfl, putRel_u 5 (by decide) HN.out (fun _ _ h => by omega) (fun g => { g with digits := u8N_le n }) (fun h => by simp [setF, h]), bFill (bStore HB.out (p := ⟨w.heap.size, 7, none⟩) (Nat.le_refl _) _) (Nat.le_succ _) _ _ _ _ _ _ _ _ _ _ _ _ _ _⟩
  · go_wp2
    exact ret_ob_tmp (o := { o with digits := u8N n }) rfl rfl rfl rfl (by simp only [obCells]; rw [u8N_int, Int.emod_eq_of_lt (by omega) (by omega)]; exact AtC.fill (N2.out.store (p := ⟨w.heap.size, 7, none⟩) (by simp) _) rfl _ _ _ _ _ _ _ _ _ _ _ _ _ _) ⟨{ o with digits := u8N n }, true, rfl, putRel_u 5 (by decide) HN.out (fun _ _ _ => rfl) (fun g => { g with digits := u8N_le n }) (fun h => by simp [setF, h]), bFill (bStore HB.out (p := ⟨w.heap.size, 7, none⟩) (Nat.le_refl _) _) (Nat.le_succ _) _ _ _ _ _ _ _ _ _ _ _ _ _ _⟩
set_option maxHeartbeats 4000000 in
theorem put_6 (o : Ob) (s : ByteArray) (w : World) (hs : s.size ≤ 1000) : Calls Tryd.prog 24 #[ob o, .string ⟨#[111, 110]⟩, .string s] w (PutRes o ⟨#[111, 110]⟩ s w) := by
  have b1 := bAl (Below.refl w.heap.size w) (.cells (obCells o) 23)
  have b2 := bAl b1 (.cells ob0 23)
  have m1 := (AtC.new w (obCells o) 23).al (.cells ob0 23)
  have m2 := AtC.newAt (w := w.alloc (.cells (obCells o) 23)) (B := w.heap.size + 1) (C := ob0) (T := 23) (by simp)
  have M1 := Lib.hid m1
  have M2 := Lib.hid m2
  have c1 := m1.c; have c2 := m2.c; have f1 := m1.f; have f2 := m2.f; have l1 := m1.lt; have l2 := m2.lt
  have HB2 := Lib.hid b2
  clear m1 m2 b1 b2
  go_enter Tryd.func24, Tryd.ntmps24
  go_wp2_with fail
  clear c1 c2 f1 f2 l1 l2
  refine (number_any s _ hs).mono ?_
  rintro e w1 ⟨n, b0, rfl, hn, k1⟩
  have HN := Lib.hid hn
  have hn1 := hn.1
  have hn2 := hn.2.1
  have m1 := M1.out.then k1
  have m2 := M2.out.then k1
  have HB := Lib.hid (bThen HB2.out k1)
  have N1 := Lib.hid m1
  have N2 := Lib.hid m2
  have c1 := m1.c; have c2 := m2.c; have f1 := m1.f; have f2 := m2.f; have l1 := m1.lt; have l2 := m2.lt
  clear m1 m2 hn k1
  rcases (show b0 = false ∨ (b0 = true ∧ n < 0) ∨ (b0 = true ∧ ¬ n < 0 ∧ 255 < n) ∨ (b0 = true ∧ ¬ n < 0 ∧ ¬ 255 < n) by cases b0 <;> simp <;> omega) with rfl | ⟨rfl, q1⟩ | ⟨rfl, q1, q2⟩ | ⟨rfl, q1, q2⟩
  · go_wp2
    exact ret_ob_tmp (o := { o with on := true }) rfl rfl rfl rfl (AtC.fill (N2.out.store (p := ⟨w.heap.size, 8, none⟩) (by simp) _) rfl _ _ _ _ _ _ _ _ _ _ _ _ _ _) ⟨{ o with on := true }, (s.toList == [49]), rfl, putRel_b 6 (by decide) (fun h => by subst h; rw [ByteArray.toList_eq]; rfl) (fun g => { g with }) (fun h => by subst h; simp [setF, numV_49]), bFill (bStore HB.out (p := ⟨w.heap.size, 8, none⟩) (Nat.le_refl _) _) (Nat.le_succ _) _ _ _ _ _ _ _ _ _ _ _ _ _ _⟩
  · go_wp2
    exact ret_ob_tmp (o := { o with on := true }) rfl rfl rfl rfl (AtC.fill (N2.out.store (p := ⟨w.heap.size, 8, none⟩) (by simp) _) rfl _ _ _ _ _ _ _ _ _ _ _ _ _ _) ⟨{ o with on := true }, (s.toList == [49]), rfl, putRel_b 6 (by decide) (fun h => by subst h; rw [ByteArray.toList_eq]; rfl) (fun g => { g with }) (fun h => by subst h; simp [setF, numV_49]), bFill (bStore HB.out (p := ⟨w.heap.size, 8, none⟩) (Nat.le_refl _) _) (Nat.le_succ _) _ _ _ _ _ _ _ _ _ _ _ _ _ _⟩
  · go_wp2
    exact ret_ob_tmp (o := { o with on := true }) rfl rfl rfl rfl (AtC.fill (N2.out.store (p := ⟨w.heap.size, 8, none⟩) (by simp) _) rfl _ _ _ _ _ _ _ _ _ _ _ _ _ _) ⟨{ o with on := true }, (s.toList == [49]), rfl, putRel_b 6 (by decide) (fun h => by subst h; rw [ByteArray.toList_eq]; rfl) (fun g => { g with }) (fun h => by subst h; simp [setF, numV_49]), bFill (bStore HB.out (p := ⟨w.heap.size, 8, none⟩) (Nat.le_refl _) _) (Nat.le_succ _) _ _ _ _ _ _ _ _ _ _ _ _ _ _⟩
  · go_wp2
    exact ret_ob_tmp (o := { o with on := true }) rfl rfl rfl rfl (AtC.fill (N2.out.store (p := ⟨w.heap.size, 8, none⟩) (by simp) _) rfl _ _ _ _ _ _ _ _ _ _ _ _ _ _) ⟨{ o with on := true }, (s.toList == [49]), rfl, putRel_b 6 (by decide) (fun h => by subst h; rw [ByteArray.toList_eq]; rfl) (fun g => { g with }) (fun h => by subst h; simp [setF, numV_49]), bFill (bStore HB.out (p := ⟨w.heap.size, 8, none⟩) (Nat.le_refl _) _) (Nat.le_succ _) _ _ _ _ _ _ _ _ _ _ _ _ _ _⟩
set_option maxHeartbeats 4000000 in
theorem put_7 (o : Ob) (s : ByteArray) (w : World) (hs : s.size ≤ 1000) : Calls Tryd.prog 24 #[ob o, .string ⟨#[104, 97, 115]⟩, .string s] w (PutRes o ⟨#[104, 97, 115]⟩ s w) := by
  have b1 := bAl (Below.refl w.heap.size w) (.cells (obCells o) 23)
  have b2 := bAl b1 (.cells ob0 23)
  have m1 := (AtC.new w (obCells o) 23).al (.cells ob0 23)
  have m2 := AtC.newAt (w := w.alloc (.cells (obCells o) 23)) (B := w.heap.size + 1) (C := ob0) (T := 23) (by simp)
  have M1 := Lib.hid m1
  have M2 := Lib.hid m2
  have c1 := m1.c; have c2 := m2.c; have f1 := m1.f; have f2 := m2.f; have l1 := m1.lt; have l2 := m2.lt
  have HB2 := Lib.hid b2
  clear m1 m2 b1 b2
  go_enter Tryd.func24, Tryd.ntmps24
  go_wp2_with fail
  clear c1 c2 f1 f2 l1 l2
  refine (number_any s _ hs).mono ?_
  rintro e w1 ⟨n, b0, rfl, hn, k1⟩
  have HN := Lib.hid hn
  have hn1 := hn.1
  have hn2 := hn.2.1
  have m1 := M1.out.then k1
  have m2 := M2.out.then k1
  have HB := Lib.hid (bThen HB2.out k1)
  have N1 := Lib.hid m1
  have N2 := Lib.hid m2
  have c1 := m1.c; have c2 := m2.c; have f1 := m1.f; have f2 := m2.f; have l1 := m1.lt; have l2 := m2.lt
  clear m1 m2 hn k1
  rcases (show b0 = false ∨ (b0 = true ∧ n < 0) ∨ (b0 = true ∧ ¬ n < 0 ∧ 255 < n) ∨ (b0 = true ∧ ¬ n < 0 ∧ ¬ 255 < n) by cases b0 <;> simp <;> omega) with rfl | ⟨rfl, q1⟩ | ⟨rfl, q1, q2⟩ | ⟨rfl, q1, q2⟩
  · go_wp2
    exact ret_ob_tmp (o := { o with has := true }) rfl rfl rfl rfl (AtC.fill (N2.out.store (p := ⟨w.heap.size, 9, none⟩) (by simp) _) rfl _ _ _ _ _ _ _ _ _ _ _ _ _ _) ⟨{ o with has := true }, (s.toList == [49]), rfl, putRel_b 7 (by decide) (fun h => by subst h; rw [ByteArray.toList_eq]; rfl) (fun g => { g with }) (fun h => by subst h; simp [setF, numV_49]), bFill (bStore HB.out (p := ⟨w.heap.size, 9, none⟩) (Nat.le_refl _) _) (Nat.le_succ _) _ _ _ _ _ _ _ _ _ _ _ _ _ _⟩
  · go_wp2
    exact ret_ob_tmp (o := { o with has := true }) rfl rfl rfl rfl (AtC.fill (N2.out.store (p := ⟨w.heap.size, 9, none⟩) (by simp) _) rfl _ _ _ _ _ _ _ _ _ _ _ _ _ _) ⟨{ o with has := true }, (s.toList == [49]), rfl, putRel_b 7 (by decide) (fun h => by subst h; rw [ByteArray.toList_eq]; rfl) (fun g => { g with }) (fun h => by subst h; simp [setF, numV_49]), bFill (bStore HB.out (p := ⟨w.heap.size, 9, none⟩) (Nat.le_refl _) _) (Nat.le_succ _) _ _ _ _ _ _ _ _ _ _ _ _ _ _⟩
  · go_wp2
    exact ret_ob_tmp (o := { o with has := true }) rfl rfl rfl rfl (AtC.fill (N2.out.store (p := ⟨w.heap.size, 9, none⟩) (by simp) _) rfl _ _ _ _ _ _ _ _ _ _ _ _ _ _) ⟨{ o with has := true }, (s.toList == [49]), rfl, putRel_b 7 (by decide) (fun h => by subst h; rw [ByteArray.toList_eq]; rfl) (fun g => { g with }) (fun h => by subst h; simp [setF, numV_49]), bFill (bStore HB.out (p := ⟨w.heap.size, 9, none⟩) (Nat.le_refl _) _) (Nat.le_succ _) _ _ _ _ _ _ _ _ _ _ _ _ _ _⟩
  · go_wp2
    exact ret_ob_tmp (o := { o with has := true }) rfl rfl rfl rfl (AtC.fill (N2.out.store (p := ⟨w.heap.size, 9, none⟩) (by simp) _) rfl _ _ _ _ _ _ _ _ _ _ _ _ _ _) ⟨{ o with has := true }, (s.toList == [49]), rfl, putRel_b 7 (by decide) (fun h => by subst h; rw [ByteArray.toList_eq]; rfl) (fun g => { g with }) (fun h => by subst h; simp [setF, numV_49]), bFill (bStore HB.out (p := ⟨w.heap.size, 9, none⟩) (Nat.le_refl _) _) (Nat.le_succ _) _ _ _ _ _ _ _ _ _ _ _ _ _ _⟩
set_option maxHeartbeats 4000000 in
theorem put_8 (o : Ob) (s : ByteArray) (w : World) (hs : s.size ≤ 1000) : Calls Tryd.prog 24 #[ob o, .string ⟨#[118, 97, 108, 117, 101]⟩, .string s] w (PutRes o ⟨#[118, 97, 108, 117, 101]⟩ s w) := by
  have b1 := bAl (Below.refl w.heap.size w) (.cells (obCells o) 23)
  have b2 := bAl b1 (.cells ob0 23)
  have m1 := (AtC.new w (obCells o) 23).al (.cells ob0 23)
  have m2 := AtC.newAt (w := w.alloc (.cells (obCells o) 23)) (B := w.heap.size + 1) (C := ob0) (T := 23) (by simp)
  have M1 := Lib.hid m1
  have M2 := Lib.hid m2
  have c1 := m1.c; have c2 := m2.c; have f1 := m1.f; have f2 := m2.f; have l1 := m1.lt; have l2 := m2.lt
  have HB2 := Lib.hid b2
  clear m1 m2 b1 b2
  go_enter Tryd.func24, Tryd.ntmps24
  go_wp2_with fail
  clear c1 c2 f1 f2 l1 l2
  refine (number_any s _ hs).mono ?_
  rintro e w1 ⟨n, b0, rfl, hn, k1⟩
  have HN := Lib.hid hn
  have hn1 := hn.1
  have hn2 := hn.2.1
  have m1 := M1.out.then k1
  have m2 := M2.out.then k1
  have HB := Lib.hid (bThen HB2.out k1)
  have N1 := Lib.hid m1
  have N2 := Lib.hid m2
  have c1 := m1.c; have c2 := m2.c; have f1 := m1.f; have f2 := m2.f; have l1 := m1.lt; have l2 := m2.lt
  clear m1 m2 hn k1
  rcases (show b0 = false ∨ (b0 = true ∧ n < 0) ∨ (b0 = true ∧ ¬ n < 0 ∧ 255 < n) ∨ (b0 = true ∧ ¬ n < 0 ∧ ¬ 255 < n) by cases b0 <;> simp <;> omega) with rfl | ⟨rfl, q1⟩ | ⟨rfl, q1, q2⟩ | ⟨rfl, q1, q2⟩
  · go_wp2
    exact ret_ob_tmp (o := { o with value := n }) rfl rfl rfl rfl (AtC.fill (N2.out.store (p := ⟨w.heap.size, 10, none⟩) (by simp) _) rfl _ _ _ _ _ _ _ _ _ _ _ _ _ _) ⟨{ o with value := n }, false, rfl, putRel_n 8 (by decide) HN.out (fun h => by cases h) (fun g => { g with value := ⟨hn1, hn2⟩ }) (fun h => by simp [setF, h]), bFill (bStore HB.out (p := ⟨w.heap.size, 10, none⟩) (Nat.le_refl _) _) (Nat.le_succ _) _ _ _ _ _ _ _ _ _ _ _ _ _ _⟩
  · go_wp2
    exact ret_ob_tmp (o := { o with value := n }) rfl rfl rfl rfl (AtC.fill (N2.out.store (p := ⟨w.heap.size, 10, none⟩) (by simp) _) rfl _ _ _ _ _ _ _ _ _ _ _ _ _ _) ⟨{ o with value := n }, true, rfl, putRel_n 8 (by decide) HN.out (fun _ => rfl) (fun g => { g with value := ⟨hn1, hn2⟩ }) (fun h => by simp [setF, h]), bFill (bStore HB.out (p := ⟨w.heap.size, 10, none⟩) (Nat.le_refl _) _) (Nat.le_succ _) _ _ _ _ _ _ _ _ _ _ _ _ _ _⟩
  · go_wp2
    exact ret_ob_tmp (o := { o with value := n }) rfl rfl rfl rfl (AtC.fill (N2.out.store (p := ⟨w.heap.size, 10, none⟩) (by simp) _) rfl _ _ _ _ _ _ _ _ _ _ _ _ _ _) ⟨{ o with value := n }, true, rfl, putRel_n 8 (by decide) HN.out (fun _ => rfl) (fun g => { g with value := ⟨hn1, hn2⟩ }) (fun h => by simp [setF, h]), bFill (bStore HB.out (p := ⟨w.heap.size, 10, none⟩) (Nat.le_refl _) _) (Nat.le_succ _) _ _ _ _ _ _ _ _ _ _ _ _ _ _⟩
  · go_wp2
    exact ret_ob_tmp (o := { o with value := n }) rfl rfl rfl rfl (AtC.fill (N2.out.store (p := ⟨w.heap.size, 10, none⟩) (by simp) _) rfl _ _ _ _ _ _ _ _ _ _ _ _ _ _) ⟨{ o with value := n }, true, rfl, putRel_n 8 (by decide) HN.out (fun _ => rfl) (fun g => { g with value := ⟨hn1, hn2⟩ }) (fun h => by simp [setF, h]), bFill (bStore HB.out (p := ⟨w.heap.size, 10, none⟩) (Nat.le_refl _) _) (Nat.le_succ _) _ _ _ _ _ _ _ _ _ _ _ _ _ _⟩
set_option maxHeartbeats 4000000 in
theorem put_9 (o : Ob) (s : ByteArray) (w : World) (hs : s.size ≤ 1000) : Calls Tryd.prog 24 #[ob o, .string ⟨#[108, 111, 119]⟩, .string s] w (PutRes o ⟨#[108, 111, 119]⟩ s w) := by
  have b1 := bAl (Below.refl w.heap.size w) (.cells (obCells o) 23)
  have b2 := bAl b1 (.cells ob0 23)
  have m1 := (AtC.new w (obCells o) 23).al (.cells ob0 23)
  have m2 := AtC.newAt (w := w.alloc (.cells (obCells o) 23)) (B := w.heap.size + 1) (C := ob0) (T := 23) (by simp)
  have M1 := Lib.hid m1
  have M2 := Lib.hid m2
  have c1 := m1.c; have c2 := m2.c; have f1 := m1.f; have f2 := m2.f; have l1 := m1.lt; have l2 := m2.lt
  have HB2 := Lib.hid b2
  clear m1 m2 b1 b2
  go_enter Tryd.func24, Tryd.ntmps24
  go_wp2_with fail
  clear c1 c2 f1 f2 l1 l2
  refine (number_any s _ hs).mono ?_
  rintro e w1 ⟨n, b0, rfl, hn, k1⟩
  have HN := Lib.hid hn
  have hn1 := hn.1
  have hn2 := hn.2.1
  have m1 := M1.out.then k1
  have m2 := M2.out.then k1
  have HB := Lib.hid (bThen HB2.out k1)
  have N1 := Lib.hid m1
  have N2 := Lib.hid m2
  have c1 := m1.c; have c2 := m2.c; have f1 := m1.f; have f2 := m2.f; have l1 := m1.lt; have l2 := m2.lt
  clear m1 m2 hn k1
  rcases (show b0 = false ∨ (b0 = true ∧ n < 0) ∨ (b0 = true ∧ ¬ n < 0 ∧ 255 < n) ∨ (b0 = true ∧ ¬ n < 0 ∧ ¬ 255 < n) by cases b0 <;> simp <;> omega) with rfl | ⟨rfl, q1⟩ | ⟨rfl, q1, q2⟩ | ⟨rfl, q1, q2⟩
  · go_wp2
    exact ret_ob_tmp (o := { o with low := n }) rfl rfl rfl rfl (AtC.fill (N2.out.store (p := ⟨w.heap.size, 11, none⟩) (by simp) _) rfl _ _ _ _ _ _ _ _ _ _ _ _ _ _) ⟨{ o with low := n }, false, rfl, putRel_n 9 (by decide) HN.out (fun h => by cases h) (fun g => { g with low := ⟨hn1, hn2⟩ }) (fun h => by simp [setF, h]), bFill (bStore HB.out (p := ⟨w.heap.size, 11, none⟩) (Nat.le_refl _) _) (Nat.le_succ _) _ _ _ _ _ _ _ _ _ _ _ _ _ _⟩
  · go_wp2
    exact ret_ob_tmp (o := { o with low := n }) rfl rfl rfl rfl (AtC.fill (N2.out.store (p := ⟨w.heap.size, 11, none⟩) (by simp) _) rfl _ _ _ _ _ _ _ _ _ _ _ _ _ _) ⟨{ o with low := n }, true, rfl, putRel_n 9 (by decide) HN.out (fun _ => rfl) (fun g => { g with low := ⟨hn1, hn2⟩ }) (fun h => by simp [setF, h]), bFill (bStore HB.out (p := ⟨w.heap.size, 11, none⟩) (Nat.le_refl _) _) (Nat.le_succ _) _ _ _ _ _ _ _ _ _ _ _ _ _ _⟩
  · go_wp2
    exact ret_ob_tmp (o := { o with low := n }) rfl rfl rfl rfl (AtC.fill (N2.out.store (p := ⟨w.heap.size, 11, none⟩) (by simp) _) rfl _ _ _ _ _ _ _ _ _ _ _ _ _ _) ⟨{ o with low := n }, true, rfl, putRel_n 9 (by decide) HN.out (fun _ => rfl) (fun g => { g with low := ⟨hn1, hn2⟩ }) (fun h => by simp [setF, h]), bFill (bStore HB.out (p := ⟨w.heap.size, 11, none⟩) (Nat.le_refl _) _) (Nat.le_succ _) _ _ _ _ _ _ _ _ _ _ _ _ _ _⟩
  · go_wp2
    exact ret_ob_tmp (o := { o with low := n }) rfl rfl rfl rfl (AtC.fill (N2.out.store (p := ⟨w.heap.size, 11, none⟩) (by simp) _) rfl _ _ _ _ _ _ _ _ _ _ _ _ _ _) ⟨{ o with low := n }, true, rfl, putRel_n 9 (by decide) HN.out (fun _ => rfl) (fun g => { g with low := ⟨hn1, hn2⟩ }) (fun h => by simp [setF, h]), bFill (bStore HB.out (p := ⟨w.heap.size, 11, none⟩) (Nat.le_refl _) _) (Nat.le_succ _) _ _ _ _ _ _ _ _ _ _ _ _ _ _⟩
set_option maxHeartbeats 4000000 in
theorem put_10 (o : Ob) (s : ByteArray) (w : World) (hs : s.size ≤ 1000) : Calls Tryd.prog 24 #[ob o, .string ⟨#[104, 105, 103, 104]⟩, .string s] w (PutRes o ⟨#[104, 105, 103, 104]⟩ s w) := by
  have b1 := bAl (Below.refl w.heap.size w) (.cells (obCells o) 23)
  have b2 := bAl b1 (.cells ob0 23)
  have m1 := (AtC.new w (obCells o) 23).al (.cells ob0 23)
  have m2 := AtC.newAt (w := w.alloc (.cells (obCells o) 23)) (B := w.heap.size + 1) (C := ob0) (T := 23) (by simp)
  have M1 := Lib.hid m1
  have M2 := Lib.hid m2
  have c1 := m1.c; have c2 := m2.c; have f1 := m1.f; have f2 := m2.f; have l1 := m1.lt; have l2 := m2.lt
  have HB2 := Lib.hid b2
  clear m1 m2 b1 b2
  go_enter Tryd.func24, Tryd.ntmps24
  go_wp2_with fail
  clear c1 c2 f1 f2 l1 l2
  refine (number_any s _ hs).mono ?_
  rintro e w1 ⟨n, b0, rfl, hn, k1⟩
  have HN := Lib.hid hn
  have hn1 := hn.1
  have hn2 := hn.2.1
  have m1 := M1.out.then k1
  have m2 := M2.out.then k1
  have HB := Lib.hid (bThen HB2.out k1)
  have N1 := Lib.hid m1
  have N2 := Lib.hid m2
  have c1 := m1.c; have c2 := m2.c; have f1 := m1.f; have f2 := m2.f; have l1 := m1.lt; have l2 := m2.lt
  clear m1 m2 hn k1
  rcases (show b0 = false ∨ (b0 = true ∧ n < 0) ∨ (b0 = true ∧ ¬ n < 0 ∧ 255 < n) ∨ (b0 = true ∧ ¬ n < 0 ∧ ¬ 255 < n) by cases b0 <;> simp <;> omega) with rfl | ⟨rfl, q1⟩ | ⟨rfl, q1, q2⟩ | ⟨rfl, q1, q2⟩
  · go_wp2
    exact ret_ob_tmp (o := { o with high := n }) rfl rfl rfl rfl (AtC.fill (N2.out.store (p := ⟨w.heap.size, 12, none⟩) (by simp) _) rfl _ _ _ _ _ _ _ _ _ _ _ _ _ _) ⟨{ o with high := n }, false, rfl, putRel_n 10 (by decide) HN.out (fun h => by cases h) (fun g => { g with high := ⟨hn1, hn2⟩ }) (fun h => by simp [setF, h]), bFill (bStore HB.out (p := ⟨w.heap.size, 12, none⟩) (Nat.le_refl _) _) (Nat.le_succ _) _ _ _ _ _ _ _ _ _ _ _ _ _ _⟩
  · go_wp2
    exact ret_ob_tmp (o := { o with high := n }) rfl rfl rfl rfl (AtC.fill (N2.out.store (p := ⟨w.heap.size, 12, none⟩) (by simp) _) rfl _ _ _ _ _ _ _ _ _ _ _ _ _ _) ⟨{ o with high := n }, true, rfl, putRel_n 10 (by decide) HN.out (fun _ => rfl) (fun g => { g with high := ⟨hn1, hn2⟩ }) (fun h => by simp [setF, h]), bFill (bStore HB.out (p := ⟨w.heap.size, 12, none⟩) (Nat.le_refl _) _) (Nat.le_succ _) _ _ _ _ _ _ _ _ _ _ _ _ _ _⟩
  · go_wp2
    exact ret_ob_tmp (o := { o with high := n }) rfl rfl rfl rfl (AtC.fill (N2.out.store (p := ⟨w.heap.size, 12, none⟩) (by simp) _) rfl _ _ _ _ _ _ _ _ _ _ _ _ _ _) ⟨{ o with high := n }, true, rfl, putRel_n 10 (by decide) HN.out (fun _ => rfl) (fun g => { g with high := ⟨hn1, hn2⟩ }) (fun h => by simp [setF, h]), bFill (bStore HB.out (p := ⟨w.heap.size, 12, none⟩) (Nat.le_refl _) _) (Nat.le_succ _) _ _ _ _ _ _ _ _ _ _ _ _ _ _⟩
  · go_wp2
    exact ret_ob_tmp (o := { o with high := n }) rfl rfl rfl rfl (AtC.fill (N2.out.store (p := ⟨w.heap.size, 12, none⟩) (by simp) _) rfl _ _ _ _ _ _ _ _ _ _ _ _ _ _) ⟨{ o with high := n }, true, rfl, putRel_n 10 (by decide) HN.out (fun _ => rfl) (fun g => { g with high := ⟨hn1, hn2⟩ }) (fun h => by simp [setF, h]), bFill (bStore HB.out (p := ⟨w.heap.size, 12, none⟩) (Nat.le_refl _) _) (Nat.le_succ _) _ _ _ _ _ _ _ _ _ _ _ _ _ _⟩
set_option maxHeartbeats 4000000 in
theorem put_11 (o : Ob) (s : ByteArray) (w : World) (hs : s.size ≤ 1000) : Calls Tryd.prog 24 #[ob o, .string ⟨#[97, 115, 115, 111, 99]⟩, .string s] w (PutRes o ⟨#[97, 115, 115, 111, 99]⟩ s w) := by
  have b1 := bAl (Below.refl w.heap.size w) (.cells (obCells o) 23)
  have b2 := bAl b1 (.cells ob0 23)
  have m1 := (AtC.new w (obCells o) 23).al (.cells ob0 23)
  have m2 := AtC.newAt (w := w.alloc (.cells (obCells o) 23)) (B := w.heap.size + 1) (C := ob0) (T := 23) (by simp)
  have M1 := Lib.hid m1
  have M2 := Lib.hid m2
  have c1 := m1.c; have c2 := m2.c; have f1 := m1.f; have f2 := m2.f; have l1 := m1.lt; have l2 := m2.lt
  have HB2 := Lib.hid b2
  clear m1 m2 b1 b2
  go_enter Tryd.func24, Tryd.ntmps24
  go_wp2_with fail
  clear c1 c2 f1 f2 l1 l2
  refine (number_any s _ hs).mono ?_
  rintro e w1 ⟨n, b0, rfl, hn, k1⟩
  have HN := Lib.hid hn
  have hn1 := hn.1
  have hn2 := hn.2.1
  have m1 := M1.out.then k1
  have m2 := M2.out.then k1
  have HB := Lib.hid (bThen HB2.out k1)
  have N1 := Lib.hid m1
  have N2 := Lib.hid m2
  have c1 := m1.c; have c2 := m2.c; have f1 := m1.f; have f2 := m2.f; have l1 := m1.lt; have l2 := m2.lt
  clear m1 m2 hn k1
  rcases (show b0 = false ∨ (b0 = true ∧ n < 0) ∨ (b0 = true ∧ ¬ n < 0 ∧ 255 < n) ∨ (b0 = true ∧ ¬ n < 0 ∧ ¬ 255 < n) by cases b0 <;> simp <;> omega) with rfl | ⟨rfl, q1⟩ | ⟨rfl, q1, q2⟩ | ⟨rfl, q1, q2⟩
  · go_wp2
    exact ret_ob_tmp (o := { o with assoc := u8N n }) rfl rfl rfl rfl (by simp only [obCells]; rw [u8N_int]; exact AtC.fill (N2.out.store (p := ⟨w.heap.size, 13, none⟩) (by simp) _) rfl _ _ _ _ _ _ _ _ _ _ _ _ _ _) ⟨{ o with assoc := u8N n }, false, rfl, putRel_u 11 (by decide) HN.out (fun h _ _ => by cases h) (fun g => { g with assoc := u8N_le n }) (fun h => by simp [setF, h]), bFill (bStore HB.out (p := ⟨w.heap.size, 13, none⟩) (Nat.le_refl _) _) (Nat.le_succ _) _ _ _ _ _ _ _ _ _ _ _ _ _ _⟩
  · go_wp2
    exact ret_ob_tmp (o := { o with assoc := u8N n }) rfl rfl rfl rfl (by simp only [obCells]; rw [u8N_int]; exact AtC.fill (N2.out.store (p := ⟨w.heap.size, 13, none⟩) (by simp) _) rfl _ _ _ _ _ _ _ _ _ _ _ _ _ _) ⟨{ o with assoc := u8N n }, false, rfl, putRel_u 11 (by decide) HN.out (fun _ h _ => by omega) (fun g => { g with assoc := u8N_le n }) (fun h => by simp [setF, h]), bFill (bStore HB.out (p := ⟨w.heap.size, 13, none⟩) (Nat.le_refl _) _) (Nat.le_succ _) _ _ _ _ _ _ _ _ _ _ _ _ _ _⟩
  · go_wp2
    exact ret_ob_tmp (o := { o with assoc := u8N n }) rfl rfl rfl rfl (by simp only [obCells]; rw [u8N_int]; exact AtC.fill (N2.out.store (p := ⟨w.heap.size, 13, none⟩) (by simp) _) rfl _ _ _ _ _ _ _ _ _ _ _ _ _ _) ⟨{ o with assoc := u8N n }, (decide (n ≤ 255)), rfl, putRel_u 11 (by decide) HN.out (fun _ _ h => by omega) (fun g => { g with assoc := u8N_le n }) (fun h => by simp [setF, h]), bFill (bStore HB.out (p := ⟨w.heap.size, 13, none⟩) (Nat.le_refl _) _) (Nat.le_succ _) _ _ _ _ _ _ _ _ _ _ _ _ _ _⟩
  · go_wp2
    exact ret_ob_tmp (o := { o with assoc := u8N n }) rfl rfl rfl rfl (by simp only [obCells]; rw [u8N_int, Int.emod_eq_of_lt (by omega) (by omega)]; exact AtC.fill (N2.out.store (p := ⟨w.heap.size, 13, none⟩) (by simp) _) rfl _ _ _ _ _ _ _ _ _ _ _ _ _ _) ⟨{ o with assoc := u8N n }, true, rfl, putRel_u 11 (by decide) HN.out (fun _ _ _ => rfl) (fun g => { g with assoc := u8N_le n }) (fun h => by simp [setF, h]), bFill (bStore HB.out (p := ⟨w.heap.size, 13, none⟩) (Nat.le_refl _) _) (Nat.le_succ _) _ _ _ _ _ _ _ _ _ _ _ _ _ _⟩
set_option maxHeartbeats 4000000 in
theorem put_none (o : Ob) (nl : Bs) (s : ByteArray) (w : World) (hs : s.size ≤ 1000) (hno : ∀ j, j < 12 → nl ≠ fnameL j) : Calls Tryd.prog 24 #[ob o, str nl, .string s] w (PutRes o ⟨nl.toArray⟩ s w) := by
  have b1 := bAl (Below.refl w.heap.size w) (.cells (obCells o) 23)
  have b2 := bAl b1 (.cells ob0 23)
  have m1 := (AtC.new w (obCells o) 23).al (.cells ob0 23)
  have m2 := AtC.newAt (w := w.alloc (.cells (obCells o) 23)) (B := w.heap.size + 1) (C := ob0) (T := 23) (by simp)
  have n0 : (nl == [112, 97, 114, 101, 110, 116]) = false := by simpa [fnameL] using hno 0 (by decide)
  have n1 : (nl == [116, 121, 112, 101]) = false := by simpa [fnameL] using hno 1 (by decide)
  have n2 : (nl == [114, 101, 102]) = false := by simpa [fnameL] using hno 2 (by decide)
  have n3 : (nl == [108, 111]) = false := by simpa [fnameL] using hno 3 (by decide)
  have n4 : (nl == [104, 105]) = false := by simpa [fnameL] using hno 4 (by decide)
  have n5 : (nl == [100, 105, 103, 105, 116, 115]) = false := by simpa [fnameL] using hno 5 (by decide)
  have n6 : (nl == [111, 110]) = false := by simpa [fnameL] using hno 6 (by decide)
  have n7 : (nl == [104, 97, 115]) = false := by simpa [fnameL] using hno 7 (by decide)
  have n8 : (nl == [118, 97, 108, 117, 101]) = false := by simpa [fnameL] using hno 8 (by decide)
  have n9 : (nl == [108, 111, 119]) = false := by simpa [fnameL] using hno 9 (by decide)
  have n10 : (nl == [104, 105, 103, 104]) = false := by simpa [fnameL] using hno 10 (by decide)
  have n11 : (nl == [97, 115, 115, 111, 99]) = false := by simpa [fnameL] using hno 11 (by decide)
  have M1 := Lib.hid m1
  have M2 := Lib.hid m2
  have c1 := m1.c; have c2 := m2.c; have f1 := m1.f; have f2 := m2.f; have l1 := m1.lt; have l2 := m2.lt
  have HB2 := Lib.hid b2
  clear m1 m2 b1 b2
  go_enter Tryd.func24, Tryd.ntmps24
  go_wp2_with fail
  clear c1 c2 f1 f2 l1 l2
  refine (number_any s _ hs).mono ?_
  rintro e w1 ⟨n, b0, rfl, hn, k1⟩
  have HN := Lib.hid hn
  have hn1 := hn.1
  have hn2 := hn.2.1
  have m1 := M1.out.then k1
  have m2 := M2.out.then k1
  have HB := Lib.hid (bThen HB2.out k1)
  have N1 := Lib.hid m1
  have N2 := Lib.hid m2
  have c1 := m1.c; have c2 := m2.c; have f1 := m1.f; have f2 := m2.f; have l1 := m1.lt; have l2 := m2.lt
  clear m1 m2 hn k1
  rcases (show b0 = false ∨ (b0 = true ∧ n < 0) ∨ (b0 = true ∧ ¬ n < 0 ∧ 255 < n) ∨ (b0 = true ∧ ¬ n < 0 ∧ ¬ 255 < n) by cases b0 <;> simp <;> omega) with rfl | ⟨rfl, q1⟩ | ⟨rfl, q1, q2⟩ | ⟨rfl, q1, q2⟩
  · go_wp2
    exact ret_ob_tmp (o := o) rfl rfl rfl rfl (AtC.fill N2.out rfl _ _ _ _ _ _ _ _ _ _ _ _ _ _) ⟨o, false, rfl, ⟨id, fun j hj h => absurd (by have := congrArg (fun b : ByteArray => b.data.toList) h; simpa [nameAt] using this) (hno j hj)⟩, bFill HB.out (Nat.le_succ _) _ _ _ _ _ _ _ _ _ _ _ _ _ _⟩
  · go_wp2
    exact ret_ob_tmp (o := o) rfl rfl rfl rfl (AtC.fill N2.out rfl _ _ _ _ _ _ _ _ _ _ _ _ _ _) ⟨o, false, rfl, ⟨id, fun j hj h => absurd (by have := congrArg (fun b : ByteArray => b.data.toList) h; simpa [nameAt] using this) (hno j hj)⟩, bFill HB.out (Nat.le_succ _) _ _ _ _ _ _ _ _ _ _ _ _ _ _⟩
  · go_wp2
    exact ret_ob_tmp (o := o) rfl rfl rfl rfl (AtC.fill N2.out rfl _ _ _ _ _ _ _ _ _ _ _ _ _ _) ⟨o, false, rfl, ⟨id, fun j hj h => absurd (by have := congrArg (fun b : ByteArray => b.data.toList) h; simpa [nameAt] using this) (hno j hj)⟩, bFill HB.out (Nat.le_succ _) _ _ _ _ _ _ _ _ _ _ _ _ _ _⟩
  · go_wp2
    exact ret_ob_tmp (o := o) rfl rfl rfl rfl (AtC.fill N2.out rfl _ _ _ _ _ _ _ _ _ _ _ _ _ _) ⟨o, false, rfl, ⟨id, fun j hj h => absurd (by have := congrArg (fun b : ByteArray => b.data.toList) h; simpa [nameAt] using this) (hno j hj)⟩, bFill HB.out (Nat.le_succ _) _ _ _ _ _ _ _ _ _ _ _ _ _ _⟩
end Go.Proofs.YtonhijonnonmbaaDoor
namespace Go.Proofs.YtonhijonnonmbaaDoor.TS
open Go.RowKit FixMath Go.Proofs.YtonhijonnonmbaaDoor.HL
set_option linter.unusedVariables false
set_option linter.unusedSimpArgs false


theorem tail_cons (c : UInt8) (y : Bs) (r : List Bs) : Lib.joinTail [c] (y :: r) = c :: (y ++ Lib.joinTail [c] r) := by simp [Lib.joinTail]
theorem join_snoc' (c : UInt8) (l : List Bs) (x : Bs) (h : l ≠ []) : Lib.join (l ++ [x]) [c] = Lib.join l [c] ++ [c] ++ x := by
  cases l with
  | nil => exact absurd rfl h
  | cons y r =>
    rw [List.cons_append, Lib.join_cons, Lib.join_cons]
    simp [Lib.joinTail]
theorem join_last (c : UInt8) (l : List Bs) (x : Bs) (b : UInt8) : Lib.join (l ++ [x ++ [b]]) [c] = Lib.join (l ++ [x]) [c] ++ [b] := by
  by_cases h : l = []
  · subst h; simp [Lib.join_one]
  · rw [join_snoc' c l _ h, join_snoc' c l _ h]; simp

theorem cut_step (s : ByteArray) (f k : Nat) (hf : f ≤ k) (h : k < s.size) : cutL s f (k + 1) = cutL s f k ++ [s[k]'h] := by
  unfold cutL
  have hl : k - f < (s.data.toList.drop f).length := by simp; omega
  rw [show k + 1 - f = (k - f) + 1 by omega, List.take_succ_eq_append_getElem hl]
  congr 2
  rw [List.getElem_drop]
  have : f + (k - f) = k := by omega
  simp only [this]
  rfl

theorem split_join (s : ByteArray) (c : UInt8) : ∀ k, k ≤ s.size → Lib.join (ps s c.toNat k ++ [cutL s (fr s c.toNat k) k]) [c] = s.data.toList.take k
  | 0, _ => by simp [ps, fr, cutL, Lib.join_one]
  | k + 1, hk => by
    have hlt : k < s.size := by omega
    have ih := split_join s c k (by omega)
    have hl : k < s.data.toList.length := by simpa using hlt
    rw [List.take_succ_eq_append_getElem hl, ← ih]
    have hb := bt_get s k hlt
    by_cases e : (bt s k : Int) = (c.toNat : Int)
    · rw [ps_t e, fr_t e]
      have hc : s[k]'hlt = c := UInt8.toNat_inj.1 (by omega)
      have h0 : cutL s (k + 1) (k + 1) = [] := by simp [cutL]
      rw [h0, join_snoc' c _ _ (by simp), List.append_nil]
      congr 1
      exact congrArg (fun x => [x]) hc.symm
    · rw [ps_f e, fr_f e, cut_step s _ k (fr_le s _ k) hlt, join_last]
      rfl
theorem join_split (s : ByteArray) (c : UInt8) : Lib.join (splitL s c.toNat) [c] = s.data.toList := by
  have := split_join s c s.size (Nat.le_refl _)
  rw [List.take_of_length_le (by simp)] at this
  exact this

/-- No piece holds the mark. -/
theorem split_none (s : ByteArray) (c : UInt8) : ∀ k, k ≤ s.size → ∀ x ∈ ps s c.toNat k ++ [cutL s (fr s c.toNat k) k], c ∉ x
  | 0, _ => by simp [ps, fr, cutL]
  | k + 1, hk => by
    have hlt : k < s.size := by omega
    have ih := split_none s c k (by omega)
    have hb := bt_get s k hlt
    by_cases e : (bt s k : Int) = (c.toNat : Int)
    · rw [ps_t e, fr_t e]
      intro x hx
      rcases List.mem_append.1 hx with h | h
      · exact ih x h
      · rw [List.mem_singleton.1 h]; simp [cutL]
    · rw [ps_f e, fr_f e, cut_step s _ k (fr_le s _ k) hlt]
      intro x hx
      rcases List.mem_append.1 hx with h | h
      · exact ih x (List.mem_append.2 (.inl h))
      · rw [List.mem_singleton.1 h]
        intro hc
        rcases List.mem_append.1 hc with h1 | h1
        · exact ih _ (List.mem_append.2 (.inr (by simp))) h1
        · have := List.mem_singleton.1 h1
          exact e (by rw [← hb, ← this])

theorem head_eq (c : UInt8) : ∀ (x y T U : Bs), c ∉ x → c ∉ y → (T = [] ∨ ∃ T', T = c :: T') → (U = [] ∨ ∃ U', U = c :: U') → x ++ T = y ++ U → x = y ∧ T = U
  | [], [], T, U, _, _, _, _, h => ⟨rfl, by simpa using h⟩
  | [], b :: y, T, U, _, hy, hT, _, h => by
    rw [List.nil_append, List.cons_append] at h
    rcases hT with rfl | ⟨T', rfl⟩
    · cases h
    · injection h with h1 _
      exact absurd (by rw [h1]; simp) hy
  | a :: x, [], T, U, hx, _, _, hU, h => by
    rw [List.nil_append, List.cons_append] at h
    rcases hU with rfl | ⟨U', rfl⟩
    · cases h
    · injection h with h1 _
      exact absurd (by rw [← h1]; simp) hx
  | a :: x, b :: y, T, U, hx, hy, hT, hU, h => by
    rw [List.cons_append, List.cons_append] at h
    injection h with h1 h2
    obtain ⟨e1, e2⟩ := head_eq c x y T U (fun k => hx (List.mem_cons_of_mem _ k)) (fun k => hy (List.mem_cons_of_mem _ k)) hT hU h2
    exact ⟨by rw [h1, e1], e2⟩
theorem tail_form (c : UInt8) (r : List Bs) : Lib.joinTail [c] r = [] ∨ ∃ T', Lib.joinTail [c] r = c :: T' := by
  cases r with
  | nil => exact .inl rfl
  | cons y r => exact .inr ⟨_, tail_cons c y r⟩
theorem tail_inj (c : UInt8) : ∀ (r q : List Bs), (∀ x ∈ r, c ∉ x) → (∀ x ∈ q, c ∉ x) → Lib.joinTail [c] r = Lib.joinTail [c] q → r = q
  | [], [], _, _, _ => rfl
  | [], z :: q, _, _, h => by rw [tail_cons] at h; cases h
  | y :: r, [], _, _, h => by rw [tail_cons] at h; cases h
  | y :: r, z :: q, h1, h2, h => by
    rw [tail_cons, tail_cons] at h
    injection h with _ h
    obtain ⟨e1, e2⟩ := head_eq c y z _ _ (h1 y (by simp)) (h2 z (by simp)) (tail_form c r) (tail_form c q) h
    rw [e1, tail_inj c r q (fun x hx => h1 x (List.mem_cons_of_mem _ hx)) (fun x hx => h2 x (List.mem_cons_of_mem _ hx)) e2]
theorem join_inj (c : UInt8) {l m : List Bs} (hl : l ≠ []) (hm : m ≠ []) (h1 : ∀ x ∈ l, c ∉ x) (h2 : ∀ x ∈ m, c ∉ x) (h : Lib.join l [c] = Lib.join m [c]) : l = m := by
  cases l with
  | nil => exact absurd rfl hl
  | cons y r =>
    cases m with
    | nil => exact absurd rfl hm
    | cons z q =>
      rw [Lib.join_cons, Lib.join_cons] at h
      obtain ⟨e1, e2⟩ := head_eq c y z _ _ (h1 y (by simp)) (h2 z (by simp)) (tail_form c r) (tail_form c q) h
      rw [e1, tail_inj c r q (fun x hx => h1 x (List.mem_cons_of_mem _ hx)) (fun x hx => h2 x (List.mem_cons_of_mem _ hx)) e2]

/-- What is split from a joined list is the list. -/
theorem split_of_join (c : UInt8) {l : List Bs} (hl : l ≠ []) (h1 : ∀ x ∈ l, c ∉ x) : splitL ⟨(Lib.join l [c]).toArray⟩ c.toNat = l := by
  refine join_inj c (by simp [splitL]) hl (split_none _ c _ (Nat.le_refl _)) h1 ?_
  rw [join_split]
theorem split_len (s : ByteArray) (c : UInt8) : ∀ x ∈ splitL s c.toNat, x.length ≤ s.size := by
  intro x hx
  have h := join_split s c
  obtain ⟨a, b, e⟩ := List.append_of_mem hx
  rw [e] at h
  have h2 := congrArg List.length h
  have h3 : s.data.toList.length = s.size := rfl
  rw [h3] at h2
  cases a with
  | nil => rw [List.nil_append, Lib.join_cons, List.length_append] at h2; omega
  | cons y r =>
    rw [List.cons_append, Lib.join_cons] at h2
    have : ∀ r : List Bs, x.length ≤ (Lib.joinTail [c] (r ++ x :: b)).length := by
      intro r
      induction r with
      | nil => rw [List.nil_append, tail_cons]; simp; omega
      | cons z q ih => rw [List.cons_append, tail_cons]; simp; omega
    have := this r
    rw [List.length_append] at h2; omega
end Go.Proofs.YtonhijonnonmbaaDoor.TS
namespace Go.Proofs.YtonhijonnonmbaaDoor
open Go.RowKit FixMath
set_option linter.unusedVariables false
set_option linter.unusedSimpArgs false
theorem pieces_all (o : Ob) : ∀ m, m ≤ 12 → piecesTo o (12 - m) ++ plist o m = piecesTo o 12
  | 0, _ => by simp [plist]
  | m + 1, h => by
    have ih := pieces_all o m (by omega)
    rw [← ih, show 12 - m = (11 - m) + 1 by omega, show 12 - (m + 1) = 11 - m by omega]
    rw [piecesTo, plist]
    split
    · rfl
    · simp
theorem piece_noBl {o : Ob} (h : Clean o) (j : Nat) (hj : j < 12) : (32 : UInt8) ∉ pieceL o j := by
  have hs := name_signs j hj
  have := ftext_noBl h j
  unfold pieceL
  simp only [List.mem_append, not_or]
  exact ⟨⟨hs.1, by decide⟩, this⟩
theorem plist_noBl {o : Ob} (h : Clean o) : ∀ m, m ≤ 12 → ∀ x ∈ plist o m, (32 : UInt8) ∉ x
  | 0, _ => by simp [plist]
  | m + 1, hm => by
    have ih := plist_noBl h m (by omega)
    rw [plist]
    split
    · exact ih
    · intro x hx
      rcases List.mem_cons.1 hx with rfl | hx
      · exact piece_noBl h _ (by omega)
      · exact ih x hx
theorem split_own {o : Ob} (h : Clean o) : HL.splitL (textOf o) 32 = (wordOf o.kind).data.toList :: o.handle.data.toList :: plist o 12 := by
  have e : piecesTo o 12 = (wordOf o.kind).data.toList :: o.handle.data.toList :: plist o 12 := by rw [← pieces_all o 12 (by omega)]; rfl
  have e2 : textOf o = ⟨(Lib.join (piecesTo o 12) [32]).toArray⟩ := by unfold textOf; rw [pieces_join]
  rw [e2, e]
  refine TS.split_of_join 32 (by simp) fun x hx => ?_
  rcases List.mem_cons.1 hx with rfl | hx
  · exact (word_signs o.kind h.k1 h.k9).1
  · rcases List.mem_cons.1 hx with rfl | hx
    · exact h.handle
    · exact plist_noBl h 12 (by omega) x hx
/-- The next field of an object's text. -/
theorem plist_next {o : Ob} (h : Clean o) : ∀ m, m ≤ 12 → ∀ p q, plist o m = p :: q → ∃ j m', j < 12 ∧ m' ≤ 12 ∧ p = pieceL o j ∧ zB o j = false ∧ q = plist o m' ∧ keepF o (12 - m') = setF (keepF o (12 - m)) (ftext o j) j
  | 0, _, p, q, e => by cases e
  | m + 1, hm, p, q, e => by
    have ks := keep_step h (11 - m) (by omega)
    rw [show (11 - m) + 1 = 12 - m by omega] at ks
    rw [plist] at e
    by_cases hz : zB o (11 - m) = true
    · rw [if_pos hz] at e ks
      obtain ⟨j, m', h1, h2, h3, h4, h5, h6⟩ := plist_next h m (by omega) p q e
      exact ⟨j, m', h1, h2, h3, h4, h5, by rw [h6, ks, show 12 - (m + 1) = 11 - m by omega]⟩
    · rw [if_neg hz] at e ks
      injection e with e1 e2
      exact ⟨11 - m, m, by omega, by omega, e1.symm, by simpa using hz, e2.symm, by rw [ks, show 12 - (m + 1) = 11 - m by omega]⟩
theorem plist_end {o : Ob} (h : Clean o) : ∀ m, m ≤ 12 → plist o m = [] → keepF o (12 - m) = o
  | 0, _, _ => keep_all o
  | m + 1, hm, e => by
    have ks := keep_step h (11 - m) (by omega)
    rw [show (11 - m) + 1 = 12 - m by omega] at ks
    rw [plist] at e
    by_cases hz : zB o (11 - m) = true
    · rw [if_pos hz] at e ks
      have := plist_end h m (by omega) e
      rw [show 12 - (m + 1) = 11 - m by omega, ← ks]; exact this
    · rw [if_neg hz] at e; cases e
theorem clean_v {o : Ob} (h : Clean o) (j : Nat) (hj : j < 12) (hz : zB o j = false) : CleanV (ftext o j) j := by
  have e1 : Lib.itoa (boolI true) = [49] := by rw [show boolI true = ((1 : Nat) : Int) from rfl, itoa_pos]; simp [Lib.decDigits]
  unfold CleanV
  rcases (show j = 0 ∨ j = 1 ∨ j = 2 ∨ j = 3 ∨ j = 4 ∨ j = 5 ∨ j = 6 ∨ j = 7 ∨ j = 8 ∨ j = 9 ∨ j = 10 ∨ j = 11 by omega) with rfl | rfl | rfl | rfl | rfl | rfl | rfl | rfl | rfl | rfl | rfl | rfl
  · simp
  · simp only [Nat.reduceEqDiff, or_false, false_or, if_false, if_true]; exact ⟨o.typ, h.typ, rfl⟩
  · simp
  · simp only [Nat.reduceEqDiff, or_false, false_or, if_false]; exact ⟨o.lo, h.lo, rfl⟩
  · simp only [Nat.reduceEqDiff, or_false, false_or, if_false]; exact ⟨o.hi, h.hi, rfl⟩
  · simp only [Nat.reduceEqDiff, or_false, false_or, or_true, if_false, if_true]; exact ⟨o.digits, h.digits, rfl⟩
  · simp only [Nat.reduceEqDiff, or_false, false_or, if_false, if_true]
    have : o.on = true := by cases ho : o.on with | true => rfl | false => simp [zB, ho, boolI] at hz
    show (⟨(Lib.itoa (boolI o.on)).toArray⟩ : ByteArray) = _
    rw [this, e1]
  · simp only [Nat.reduceEqDiff, or_false, false_or, or_true, if_false, if_true]
    have : o.has = true := by cases ho : o.has with | true => rfl | false => simp [zB, ho, boolI] at hz
    show (⟨(Lib.itoa (boolI o.has)).toArray⟩ : ByteArray) = _
    rw [this, e1]
  · simp only [Nat.reduceEqDiff, or_false, false_or, if_false]; exact ⟨o.value, h.value, rfl⟩
  · simp only [Nat.reduceEqDiff, or_false, false_or, if_false]; exact ⟨o.low, h.low, rfl⟩
  · simp only [Nat.reduceEqDiff, or_false, false_or, if_false]; exact ⟨o.high, h.high, rfl⟩
  · simp only [Nat.reduceEqDiff, or_false, false_or, or_true, if_false, if_true]; exact ⟨o.assoc, h.assoc, rfl⟩
end Go.Proofs.YtonhijonnonmbaaDoor
namespace Go.Proofs.YtonhijonnonmbaaDoor
open Go.RowKit FixMath
set_option maxRecDepth 100000
set_option linter.unusedVariables false
set_option linter.unusedSimpArgs false

/-- The text is a faultless object's. -/
def Own (s : ByteArray) (R : Ob) : Prop := faultP R true = 0 ∧ textOf R = s
def EX (s : ByteArray) (ws : List Bs) (i : Nat) (oc : Ob) : Prop := ∀ R, Own s R → ∃ m, m ≤ 12 ∧ ws.drop i = plist R m ∧ oc = keepF R (12 - m)
theorem parse_none {s : ByteArray} (h : ∀ R, ¬ Own s R) : parseR s = .tuple #[ob zeroOb, .int .i64 2] := parseO_bad (h _)
theorem parse_some {s : ByteArray} {R : Ob} (h : Own s R) : parseR s = .tuple #[ob R, .int .i64 0] := by
  obtain ⟨h1, h2⟩ := h
  subst h2
  exact parse_own h1
theorem own_ws {s : ByteArray} {R : Ob} (h : Own s R) : HL.splitL s 32 = (wordOf R.kind).data.toList :: R.handle.data.toList :: plist R 12 := by
  rw [← h.2]; exact split_own (clean_of h.1)
theorem ex_start {s : ByteArray} {q : Nat} {x0 x1 : Bs} {r : List Bs} (hw : HL.splitL s 32 = x0 :: x1 :: r) (hq : ∀ k, 1 ≤ k → k ≤ 9 → (wordOf k).data.toList = x0 → q = k) : EX s (HL.splitL s 32) 2 { zeroOb with kind := q, handle := ⟨x1.toArray⟩ } := by
  intro R hR
  have e := own_ws hR
  have hc := clean_of hR.1
  rw [hw] at e
  injection e with e1 e
  injection e with e2 e3
  refine ⟨12, Nat.le_refl _, by rw [hw]; exact e3, ?_⟩
  rw [show 12 - 12 = 0 from rfl, keep_none, hq R.kind hc.k1 hc.k9 e1.symm, e2]
theorem ex_short {s : ByteArray} (h : (HL.splitL s 32).length < 2) : ∀ R, ¬ Own s R := by
  intro R hR
  rw [own_ws hR] at h
  simp only [List.length_cons] at h
  omega
theorem ex_end {s : ByteArray} {ws : List Bs} {oc : Ob} (h : EX s ws ws.length oc) : ∀ R, Own s R → oc = R := by
  intro R hR
  obtain ⟨m, hm, h1, h2⟩ := h R hR
  rw [List.drop_length] at h1
  rw [h2, plist_end (clean_of hR.1) m hm h1.symm]
theorem ex_next {s : ByteArray} {ws : List Bs} {i : Nat} {oc : Ob} (h : EX s ws i oc) (hi : i < ws.length) {R : Ob} (hR : Own s R) : ∃ j m', j < 12 ∧ m' ≤ 12 ∧ ws[i] = pieceL R j ∧ CleanV (ftext R j) j ∧ ws.drop (i + 1) = plist R m' ∧ keepF R (12 - m') = setF oc (ftext R j) j := by
  obtain ⟨m, hm, h1, h2⟩ := h R hR
  have hc := clean_of hR.1
  rw [List.drop_eq_getElem_cons hi] at h1
  obtain ⟨j, m', g1, g2, g3, g4, g5, g6⟩ := plist_next hc m hm _ _ h1.symm
  exact ⟨j, m', g1, g2, g3, clean_v hc j g1 g4, g5, by rw [g6, h2]⟩
theorem ex_no61 {s : ByteArray} {ws : List Bs} {i : Nat} {oc : Ob} (h : EX s ws i oc) (hi : i < ws.length) (h61 : (61 : UInt8) ∉ ws[i]) : ∀ R, ¬ Own s R := by
  intro R hR
  obtain ⟨j, m', _, _, g3, _⟩ := ex_next h hi hR
  rw [g3] at h61
  exact h61 (by simp [pieceL])
theorem split61 {p a b : Bs} {k : Nat} (hp : p = a ++ 61 :: b) (ha : (61 : UInt8) ∉ a) (hk : k < p.length) (h61 : p[k] = 61) (ht : (61 : UInt8) ∉ p.take k) : p.take k = a ∧ p.drop (k + 1) = b := by
  have hk2 : k = a.length := by
    rcases Nat.lt_trichotomy k a.length with h | h | h
    · exfalso
      have : p[k] = a[k] := by subst hp; rw [List.getElem_append_left h]
      rw [h61] at this
      exact ha (this ▸ List.getElem_mem h)
    · exact h
    · exfalso
      apply ht
      rw [List.mem_iff_getElem?]
      exact ⟨a.length, by rw [List.getElem?_take, if_pos h, hp]; simp⟩
  subst hk2
  subst hp
  simp
theorem ex_step {s : ByteArray} {ws : List Bs} {i k : Nat} {oc x : Ob} {nm vl : ByteArray} {b : Bool} (h : EX s ws i oc) (hi : i < ws.length) (hk : k < ws[i].length) (h61 : ws[i][k] = 61) (ht : (61 : UInt8) ∉ ws[i].take k)
    (hn : nm.data.toList = ws[i].take k) (hv : vl.data.toList = ws[i].drop (k + 1)) (hp : PutRel oc nm vl x b) : EX s ws (i + 1) x ∧ (b = false → ∀ R, ¬ Own s R) := by
  have key : ∀ R, Own s R → b = true ∧ ∃ m, m ≤ 12 ∧ ws.drop (i + 1) = plist R m ∧ x = keepF R (12 - m) := by
    intro R hR
    obtain ⟨j, m', hj, hm', g3, g4, g5, g6⟩ := ex_next h hi hR
    have hs := name_signs j hj
    have hp2 : ws[i] = fnameL j ++ 61 :: (ftext R j).data.toList := by rw [g3]; simp [pieceL]
    obtain ⟨e1, e2⟩ := split61 hp2 hs.2 hk h61 ht
    have n1 : nm = nameAt j := by
      have : nm.data.toList = fnameL j := by rw [hn, e1]
      show nm = ⟨(fnameL j).toArray⟩
      rw [← this]
    have v1 : vl = ftext R j := by
      have : vl.data.toList = (ftext R j).data.toList := by rw [hv, e2]
      have e3 : vl.data = (ftext R j).data := Array.toList_inj.1 this
      exact bytes_eq.1 e3
    obtain ⟨x1, x2⟩ := hp.2 j hj n1 (by rw [v1]; exact g4)
    exact ⟨x2, m', hm', g5, by rw [x1, v1, g6]⟩
  refine ⟨fun R hR => (key R hR).2, fun hb R hR => ?_⟩
  have := (key R hR).1
  rw [hb] at this; cases this
theorem put_any (o : Ob) (name s : ByteArray) (w : World) (hs : s.size ≤ 1000) : Calls Tryd.prog 24 #[ob o, .string name, .string s] w (PutRes o name s w) := by
  by_cases h : ∃ j, j < 12 ∧ name.data.toList = fnameL j
  · obtain ⟨j, hj, e⟩ := h
    have e2 : name = ⟨(fnameL j).toArray⟩ := by rw [← e]
    rw [e2]
    rcases (show j = 0 ∨ j = 1 ∨ j = 2 ∨ j = 3 ∨ j = 4 ∨ j = 5 ∨ j = 6 ∨ j = 7 ∨ j = 8 ∨ j = 9 ∨ j = 10 ∨ j = 11 by omega) with rfl | rfl | rfl | rfl | rfl | rfl | rfl | rfl | rfl | rfl | rfl | rfl
    · exact put_0 o s w hs
    · exact put_1 o s w hs
    · exact put_2 o s w hs
    · exact put_3 o s w hs
    · exact put_4 o s w hs
    · exact put_5 o s w hs
    · exact put_6 o s w hs
    · exact put_7 o s w hs
    · exact put_8 o s w hs
    · exact put_9 o s w hs
    · exact put_10 o s w hs
    · exact put_11 o s w hs
  · exact put_none o name.data.toList s w hs (fun j hj e => h ⟨j, hj, e⟩)
/-- The kind whose word is the first piece, of those below k. -/
def KQ (x0 : Bs) (k q : Nat) : Prop := q ≤ 9 ∧ ∀ r, 1 ≤ r → r < k → (wordOf r).data.toList = x0 → q = r
theorem words_apart0 : ∀ i, i < 10 → ∀ j, j < 10 → 1 ≤ i → 1 ≤ j → (wordOf i).data.toList = (wordOf j).data.toList → i = j := by decide
theorem words_apart (i : Nat) (h1 : 1 ≤ i) (h9 : i ≤ 9) (j : Nat) (k1 : 1 ≤ j) (k9 : j ≤ 9) (h : (wordOf i).data.toList = (wordOf j).data.toList) : i = j := words_apart0 i (by omega) j (by omega) h1 k1 h
theorem KQ.hit {x0 : Bs} {k q : Nat} (h : KQ x0 k q) (h1 : 1 ≤ k) (h9 : k ≤ 9) (e : (wordOf k).data.toList = x0) : KQ x0 (k + 1) k :=
  ⟨h9, fun r hr1 hr hw => words_apart k h1 h9 r hr1 (by omega) (e.trans hw.symm)⟩
theorem KQ.miss {x0 : Bs} {k q : Nat} (h : KQ x0 k q) (e : (wordOf k).data.toList ≠ x0) : KQ x0 (k + 1) q :=
  ⟨h.1, fun r hr1 hr hw => by
    rcases (show r < k ∨ r = k by omega) with h2 | rfl
    · exact h.2 r hr1 h2 hw
    · exact absurd hw e⟩
theorem tword0 : ∀ k, k < 10 → 1 ≤ k → (wordOf k).data.toList.isEmpty = false := by decide
theorem tword_some (k : Nat) (h1 : 1 ≤ k) (h9 : k ≤ 9) : (wordOf k).data.toList.isEmpty = false := tword0 k (by omega) h1
end Go.Proofs.YtonhijonnonmbaaDoor
