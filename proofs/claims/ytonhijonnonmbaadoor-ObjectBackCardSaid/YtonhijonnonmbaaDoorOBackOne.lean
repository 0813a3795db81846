/-
  WALK: the program's Parse of an object's text; what is read of a faultless object's text is the object (pure); the law ObjectBack.
-/
import Derived.Test.YtonhijonnonmbaaDoorORead
import Derived.Test.YtonhijonnonmbaaDoorOText
import Derived.Test.YtonhijonnonmbaaDoorOAwake
import Derived.Test.YtonhijonnonmbaaDoorOFaultEq
import Derived.Test.YtonhijonnonmbaaDoorOTextMath
import Derived.Test.YtonhijonnonmbaaDoorOMay
import Derived.Test.YtonhijonnonmbaaDoorOLong
namespace Go.Proofs.YtonhijonnonmbaaDoor
open Go.RowKit FixMath
set_option maxRecDepth 100000
set_option linter.unusedVariables false
set_option linter.unusedSimpArgs false

theorem ret_ob_tmp {fn : Func} {R : Ending → World → Prop} {act : Act} {W : World} {B : Nat} {o : Ob} {p u : Tmp} {v : Value} (hr : fn.results = #[.cell p 23, .tmp u]) (hp : act.tmps.getD p undef = .pointer (some ⟨B, 0, none⟩)) (hu : act.tmps.getD u undef = v) (hd : act.defers = [])
    (h : AtC W B (obCells o)) (hR : R (.returned (.tuple #[ob o, v])) W) : bodyPost Tryd.prog fn R .ret act W := by
  refine bodyPost_ret (v := .tuple #[ob o, v]) ?_ hd hR
  have h0 := h.c
  rw [results_cell_tmp hr, hp, hu]
  simp [Result.andThen, go_sem, h0]
structure Good (o : Ob) : Prop where
  kind : o.kind ≤ 255
  handle : o.handle.size ≤ 1000
  parent : o.parent.size ≤ 1000
  ref : o.ref.size ≤ 1000
  lo : -9223372036854775808 ≤ o.lo ∧ o.lo ≤ 9223372036854775807
  hi : -9223372036854775808 ≤ o.hi ∧ o.hi ≤ 9223372036854775807
  value : -9223372036854775808 ≤ o.value ∧ o.value ≤ 9223372036854775807
  low : -9223372036854775808 ≤ o.low ∧ o.low ≤ 9223372036854775807
  high : -9223372036854775808 ≤ o.high ∧ o.high ≤ 9223372036854775807
  typ : o.typ ≤ 255
  digits : o.digits ≤ 255
  assoc : o.assoc ≤ 255
theorem Good.small {o : Ob} (h : Good o) : Small o := ⟨h.handle, h.parent, h.ref, h.lo, h.hi, h.value, h.low, h.high, h.typ, h.digits, h.assoc⟩
theorem Good.meets {o : Ob} {w : World} (h : Good o) (ht : Tabs w) : Meets o w :=
  ⟨h.kind, h.typ, h.digits, h.assoc, by have := h.handle; unfold maxLen; omega, by have := h.parent; unfold maxLen; omega, by have := h.ref; unfold maxLen; omega, ht.words, ht.kinds⟩
theorem good_zero : Good zeroOb := by constructor <;> decide
theorem numV_in (v : ByteArray) : -9223372036854775808 ≤ numV v ∧ numV v ≤ 9223372036854775807 := by have := numV_le v; omega
theorem good_set {o : Ob} {v : ByteArray} (h : Good o) (hv : v.size ≤ 1000) (k : Nat) : Good (setF o v k) := by
  have hn := numV_in v
  have hu := u8N_le (numV v)
  unfold setF
  split
  · exact { h with parent := hv }
  · exact { h with typ := hu }
  · exact { h with ref := hv }
  · exact { h with lo := hn }
  · exact { h with hi := hn }
  · exact { h with digits := hu }
  · exact { h with }
  · exact { h with }
  · exact { h with value := hn }
  · exact { h with low := hn }
  · exact { h with high := hn }
  · exact { h with assoc := hu }
  · exact h
theorem good_loop : ∀ (n : Nat) (o : Ob) (rest : ByteArray) (more : Bool), Good o → rest.size ≤ 1000 → Good (loopR n o rest more)
  | 0, o, _, _, h, _ => h
  | _ + 1, o, _, false, h, _ => h
  | n + 1, o, rest, true, h, hr => by
    have z1 := cut1_sizes rest 32
    have z2 := cut1_sizes (cut1 rest 32).1 61
    unfold loopR
    split
    · exact good_zero
    · exact good_loop n _ _ _ (good_set h (by omega) _) (by omega)
theorem good_read (s : ByteArray) (hs : s.size ≤ 1000) : Good (readOf s) := by
  have z1 := cut1_sizes s 32
  have z2 := cut1_sizes (cut1 s 32).2.1 32
  have hk := kindS_le (cut1 s 32).1
  exact good_loop _ _ _ _ { good_zero with kind := by show kindS _ ≤ 255; omega, handle := by show (cut1 (cut1 s 32).2.1 32).1.size ≤ 1000; omega } (by omega)
/-- What the program's Parse answers, where this is read. -/
noncomputable def parseO (R : Ob) (s : ByteArray) : Value := by classical exact if faultP R true = 0 ∧ textOf R = s then .tuple #[ob R, .int .i64 0] else .tuple #[ob zeroOb, .int .i64 2]
noncomputable def parseR (s : ByteArray) : Value := parseO (readOf s) s
theorem parseO_ok {R : Ob} {s : ByteArray} (h : faultP R true = 0) (he : textOf R = s) : parseO R s = .tuple #[ob R, .int .i64 0] := by unfold parseO; rw [if_pos ⟨h, he⟩]
theorem parseO_bad {R : Ob} {s : ByteArray} (h : ¬ (faultP R true = 0 ∧ textOf R = s)) : parseO R s = .tuple #[ob zeroOb, .int .i64 2] := by unfold parseO; rw [if_neg h]
set_option maxHeartbeats 8000000 in
theorem oparse_any (s : ByteArray) (m : Int) (w : World) (hs : s.size ≤ 1000) (ht : Tabs w) (hm : w.cell? ⟨3, 0, none⟩ = some (.int .i64 m)) (hml : 3 < w.heap.size) :
    Calls Tryd.prog 8 #[.string s] w fun e w' => e = .returned (parseR s) ∧ Below w.heap.size w w' := by
  have hb := bAl (Below.refl w.heap.size w) (.cells #[.string ⟨#[]⟩, .int .u8 0, .string ⟨#[]⟩, .int .u8 0, .string ⟨#[]⟩, .int .i64 0, .int .i64 0, .int .u8 0, .bool false, .bool false, .int .i64 0, .int .i64 0, .int .i64 0, .int .u8 0] 23)
  have G := good_read s hs
  have CR := Lib.hid (oread_any s m _ hs (ht.then hb).words ((hb.cell (p := ⟨3, 0, none⟩) hml).trans hm) (Nat.lt_of_lt_of_le hml hb.size))
  have CT := Lib.hid (fun W (q : Below w.heap.size w W) => otext_any (G.meets (ht.then q)) G.small (ht.then q).pow)
  obtain ⟨R, hR⟩ : ∃ R, R = readOf s := ⟨_, rfl⟩
  have HP : Hid (parseR s = parseO R s) := Lib.hid (by rw [hR]; rfl)
  rw [← hR] at CR CT G
  clear hR hm hml ht G hs
  by_cases hr : faultP R true = 0
  · rw [textR_ok hr] at CT
    by_cases he : textOf R = s
    · have HV := Lib.hid (HP.out.trans (parseO_ok hr he))
      rw [he] at CT
      clear HP hr he
      go_enter Tryd.func8, Tryd.ntmps8
      go_wp2_with fail
      go_at_call 22
      with_reducible refine CR.out.mono ?_
      rintro e w1 ⟨rfl, k1⟩
      have mZ := (AtC.new w #[.string ⟨#[]⟩, .int .u8 0, .string ⟨#[]⟩, .int .u8 0, .string ⟨#[]⟩, .int .i64 0, .int .i64 0, .int .u8 0, .bool false, .bool false, .int .i64 0, .int .i64 0, .int .i64 0, .int .u8 0] 23).then k1
      replace hb := bThen hb k1
      clear CR
      go_wp2_with fail
      go_at_call 6
      refine (CT.out _ (bAl hb _)).mono ?_
      rintro e w2 ⟨rfl, k2⟩
      have mO := (AtC.new w1 _ _).then k2
      replace mZ := (mZ.al _).then k2
      replace hb := bThen (bAl hb _) k2
      have zc := mZ.c
      have zf := mZ.f
      have zl := mZ.lt
      have oc := mO.c
      have ol := mO.lt
      have MZ := Lib.hid mZ
      have HB := Lib.hid hb
      clear CT k1 k2 mZ mO hb
      go_wp2
      exact ret_ob_tmp rfl rfl rfl rfl (AtC.fill MZ.out rfl _ _ _ _ _ _ _ _ _ _ _ _ _ _) ⟨by rw [HV.out]; first | done | rfl, bFill HB.out (Nat.le_refl _) _ _ _ _ _ _ _ _ _ _ _ _ _ _⟩
    · have HV := Lib.hid (HP.out.trans (parseO_bad (fun h => he h.2)))
      have q : ((textOf R).toList == s.toList) = false := strs_ne he
      generalize textOf R = t at *
      clear HP hr he
      go_enter Tryd.func8, Tryd.ntmps8
      go_wp2_with fail
      go_at_call 22
      with_reducible refine CR.out.mono ?_
      rintro e w1 ⟨rfl, k1⟩
      have mZ := (AtC.new w #[.string ⟨#[]⟩, .int .u8 0, .string ⟨#[]⟩, .int .u8 0, .string ⟨#[]⟩, .int .i64 0, .int .i64 0, .int .u8 0, .bool false, .bool false, .int .i64 0, .int .i64 0, .int .i64 0, .int .u8 0] 23).then k1
      replace hb := bThen hb k1
      clear CR
      go_wp2_with fail
      go_at_call 6
      refine (CT.out _ (bAl hb _)).mono ?_
      rintro e w2 ⟨rfl, k2⟩
      have mO := (AtC.new w1 _ _).then k2
      replace mZ := (mZ.al _).then k2
      replace hb := bThen (bAl hb _) k2
      have zc := mZ.c
      have zf := mZ.f
      have zl := mZ.lt
      have oc := mO.c
      have ol := mO.lt
      have MZ := Lib.hid mZ
      have HB := Lib.hid hb
      clear CT k1 k2 mZ mO hb
      go_wp2
      exact ret_ob_tmp rfl rfl rfl rfl (AtC.fill MZ.out rfl _ _ _ _ _ _ _ _ _ _ _ _ _ _) ⟨by rw [HV.out]; first | done | rfl, bFill HB.out (Nat.le_refl _) _ _ _ _ _ _ _ _ _ _ _ _ _ _⟩
  · rw [textR_bad hr] at CT
    have HV := Lib.hid (HP.out.trans (parseO_bad (fun h => hr h.1)))
    clear HP
    generalize faultP R true = e0 at *
    go_enter Tryd.func8, Tryd.ntmps8
    go_wp2_with fail
    go_at_call 22
    with_reducible refine CR.out.mono ?_
    rintro e w1 ⟨rfl, k1⟩
    have mZ := (AtC.new w #[.string ⟨#[]⟩, .int .u8 0, .string ⟨#[]⟩, .int .u8 0, .string ⟨#[]⟩, .int .i64 0, .int .i64 0, .int .u8 0, .bool false, .bool false, .int .i64 0, .int .i64 0, .int .i64 0, .int .u8 0] 23).then k1
    replace hb := bThen hb k1
    clear CR
    go_wp2_with fail
    go_at_call 6
    refine (CT.out _ (bAl hb _)).mono ?_
    rintro e w2 ⟨rfl, k2⟩
    have mO := (AtC.new w1 _ _).then k2
    replace mZ := (mZ.al _).then k2
    replace hb := bThen (bAl hb _) k2
    have zc := mZ.c
    have zf := mZ.f
    have zl := mZ.lt
    have oc := mO.c
    have ol := mO.lt
    have MZ := Lib.hid mZ
    have HB := Lib.hid hb
    clear CT k1 k2 mZ mO hb
    go_wp2
    exact ret_ob_tmp rfl rfl rfl rfl (AtC.fill MZ.out rfl _ _ _ _ _ _ _ _ _ _ _ _ _ _) ⟨by rw [HV.out]; first | done | rfl, bFill HB.out (Nat.le_refl _) _ _ _ _ _ _ _ _ _ _ _ _ _ _⟩

theorem index_hit1 : ∀ (a b : List UInt8) (c : UInt8), c ∉ a → Lib.index (a ++ c :: b) [c] = (a.length : Int)
  | [], b, c, _ => by simp [Lib.index, List.isPrefixOf]
  | x :: a, b, c, h => by
    have h2 : c ≠ x ∧ c ∉ a := by simpa using h
    have ih := index_hit1 a b c h2.2
    have hx : (c == x) = false := by simpa using h2.1
    rw [List.cons_append, Lib.index, ih]
    simp only [List.isPrefixOf, hx, Bool.false_and, Bool.false_eq_true, if_false]
    rw [if_neg (by simp)]
    simp
theorem index_miss1 : ∀ (l : List UInt8) (c : UInt8), c ∉ l → Lib.index l [c] = -1
  | [], c, _ => by simp [Lib.index]
  | x :: l, c, h => by
    have h2 : c ≠ x ∧ c ∉ l := by simpa using h
    have hx : (c == x) = false := by simpa using h2.1
    rw [Lib.index, index_miss1 l c h2.2]
    simp [List.isPrefixOf, hx]
theorem cut_hit1 (a b : List UInt8) (c : UInt8) (h : c ∉ a) : Lib.cut (a ++ c :: b) [c] = (a, b, true) := by
  unfold Lib.cut
  rw [index_hit1 a b c h, if_pos (by omega)]
  simp
theorem cut_miss1 (l : List UInt8) (c : UInt8) (h : c ∉ l) : Lib.cut l [c] = (l, [], false) := by
  unfold Lib.cut
  rw [index_miss1 l c h, if_neg (by omega)]
theorem cut1_hit (a b : List UInt8) (c : UInt8) (h : c ∉ a) : cut1 ⟨(a ++ c :: b).toArray⟩ c = (⟨a.toArray⟩, ⟨b.toArray⟩, true) := by
  unfold cut1
  rw [show (⟨(a ++ c :: b).toArray⟩ : ByteArray).data.toList = a ++ c :: b from rfl, cut_hit1 a b c h]
theorem cut1_miss (l : List UInt8) (c : UInt8) (h : c ∉ l) : cut1 ⟨l.toArray⟩ c = (⟨l.toArray⟩, ⟨#[]⟩, false) := by
  unfold cut1
  rw [show (⟨l.toArray⟩ : ByteArray).data.toList = l from rfl, cut_miss1 l c h]
theorem low_snoc (n : Nat) : ∀ k, low (k + 1) n = low k (n / 10) ++ [dig n]
  | 0 => by simp [low]
  | k + 1 => by
    rw [low_succ, low_snoc n k, low_succ, Nat.div_div_eq_div_mul, Nat.pow_succ, Nat.mul_comm]
    rfl
theorem dec_low (u : Nat) : Lib.decDigits u = low (nd u) u := by
  induction u using Nat.strongRecOn with
  | _ u ih =>
    by_cases h : u < 10
    · rw [Lib.decDigits, dif_pos h, nd, dif_pos h]
      simp [low, dig, Nat.mod_eq_of_lt h]
    · rw [Lib.decDigits, dif_neg h, nd, dif_neg h, low_snoc, ih (u / 10) (by omega)]
      rfl
theorem itoa_fix (n : Int) : Lib.itoa n = fixText n 0 := by
  unfold Lib.itoa fixText natText
  rw [dec_low, dec_low]
  simp only [Nat.pow_zero, Nat.div_one, if_true, List.append_nil]
  split
  · simp
  · rw [show n.toNat = n.natAbs by omega]
    simp
theorem numV_itoa {n : Int} (h : -1000000000000000 ≤ n ∧ n ≤ 1000000000000000) : numV ⟨(Lib.itoa n).toArray⟩ = n := by
  have e : (⟨(Lib.itoa n).toArray⟩ : ByteArray).data.toList = fixText n 0 := itoa_fix n
  unfold numV
  rw [e, if_pos ⟨by omega, n, h.1, h.2, rfl⟩, readZ_fixText]
theorem itoa_signs (n : Int) : ∀ c ∈ Lib.itoa n, c ≠ 32 ∧ c ≠ 61 := by
  intro c hc
  rw [itoa_fix] at hc
  unfold fixText natText at hc
  simp only [Nat.pow_zero, Nat.div_one, if_true, List.append_nil, List.mem_append] at hc
  rcases hc with hc | hc
  · split at hc
    · simp at hc; subst hc; decide
    · simp at hc
  · have := low_dig _ _ c hc
    constructor <;> (intro e; subst e; revert this; decide)

def noBl (s : ByteArray) : Prop := (32 : UInt8) ∉ s.data.toList
structure Clean (o : Ob) : Prop where
  k1 : 1 ≤ o.kind
  k9 : o.kind ≤ 9
  handle : noBl o.handle
  parent : noBl o.parent
  ref : noBl o.ref
  typ : o.typ ≤ 255
  digits : o.digits ≤ 255
  assoc : o.assoc ≤ 255
  lo : -1000000000000000 ≤ o.lo ∧ o.lo ≤ 1000000000000000
  hi : -1000000000000000 ≤ o.hi ∧ o.hi ≤ 1000000000000000
  value : -1000000000000000 ≤ o.value ∧ o.value ≤ 1000000000000000
  low : -1000000000000000 ≤ o.low ∧ o.low ≤ 1000000000000000
  high : -1000000000000000 ≤ o.high ∧ o.high ≤ 1000000000000000
/-- The object with its first i fields alone. -/
def keepF (o : Ob) (i : Nat) : Ob :=
  { handle := o.handle, kind := o.kind, parent := if 0 < i then o.parent else ⟨#[]⟩, typ := if 1 < i then o.typ else 0, ref := if 2 < i then o.ref else ⟨#[]⟩, lo := if 3 < i then o.lo else 0, hi := if 4 < i then o.hi else 0,
    digits := if 5 < i then o.digits else 0, on := if 6 < i then o.on else false, has := if 7 < i then o.has else false, value := if 8 < i then o.value else 0, low := if 9 < i then o.low else 0, high := if 10 < i then o.high else 0, assoc := if 11 < i then o.assoc else 0 }
theorem keep_all (o : Ob) : keepF o 12 = o := by cases o; rfl
theorem keep_none (o : Ob) : keepF o 0 = { zeroOb with kind := o.kind, handle := o.handle } := rfl
theorem u8N_of {n : Nat} (h : n ≤ 255) : u8N (n : Int) = n := by unfold u8N; omega
theorem numV_nat {n : Nat} (h : n ≤ 255) : numV ⟨(Lib.itoa (n : Int)).toArray⟩ = n := numV_itoa (by omega)
theorem numV_bool (b : Bool) : (numV ⟨(Lib.itoa (boolI b)).toArray⟩ != 0) = b := by
  rw [numV_itoa (by unfold boolI; split <;> omega)]
  cases b <;> rfl
theorem empty_of {s : ByteArray} (h : s.toList.isEmpty = true) : s = ⟨#[]⟩ := by
  have : s.data.toList = [] := by
    rw [ByteArray.toList_eq] at h
    simpa using h
  cases s with | mk d => cases d with | mk l => simp at this; subst this; rfl
theorem keep_step {o : Ob} (h : Clean o) (j : Nat) (hj : j < 12) : keepF o (j + 1) = if zB o j then keepF o j else setF (keepF o j) (ftext o j) j := by
  have ht := h.typ
  have hd := h.digits
  have ha := h.assoc
  rcases (show j = 0 ∨ j = 1 ∨ j = 2 ∨ j = 3 ∨ j = 4 ∨ j = 5 ∨ j = 6 ∨ j = 7 ∨ j = 8 ∨ j = 9 ∨ j = 10 ∨ j = 11 by omega) with rfl | rfl | rfl | rfl | rfl | rfl | rfl | rfl | rfl | rfl | rfl | rfl
  · split
    · rename_i hz
      have := empty_of hz
      simp [keepF, this]
    · simp [keepF, setF, ftext]
  · split
    · rename_i hz
      have : o.typ = 0 := by simpa [zB] using hz
      simp [keepF, this]
    · simp [keepF, setF, ftext, numV_nat ht, u8N_of ht]
  · split
    · rename_i hz
      have := empty_of hz
      simp [keepF, this]
    · simp [keepF, setF, ftext]
  · split
    · rename_i hz
      have : o.lo = 0 := by simpa [zB] using hz
      simp [keepF, this]
    · simp [keepF, setF, ftext, numV_itoa h.lo]
  · split
    · rename_i hz
      have : o.hi = 0 := by simpa [zB] using hz
      simp [keepF, this]
    · simp [keepF, setF, ftext, numV_itoa h.hi]
  · split
    · rename_i hz
      have : o.digits = 0 := by simpa [zB] using hz
      simp [keepF, this]
    · simp [keepF, setF, ftext, numV_nat hd, u8N_of hd]
  · split
    · rename_i hz
      have : o.on = false := by cases hq : o.on <;> simp [zB, boolI, hq] at hz ⊢
      simp [keepF, this]
    · have hq := numV_bool o.on
      simp only [keepF, setF, ftext, hq]
      simp
  · split
    · rename_i hz
      have : o.has = false := by cases hq : o.has <;> simp [zB, boolI, hq] at hz ⊢
      simp [keepF, this]
    · have hq := numV_bool o.has
      simp only [keepF, setF, ftext, hq]
      simp
  · split
    · rename_i hz
      have : o.value = 0 := by simpa [zB] using hz
      simp [keepF, this]
    · simp [keepF, setF, ftext, numV_itoa h.value]
  · split
    · rename_i hz
      have : o.low = 0 := by simpa [zB] using hz
      simp [keepF, this]
    · simp [keepF, setF, ftext, numV_itoa h.low]
  · split
    · rename_i hz
      have : o.high = 0 := by simpa [zB] using hz
      simp [keepF, this]
    · simp [keepF, setF, ftext, numV_itoa h.high]
  · split
    · rename_i hz
      have : o.assoc = 0 := by simpa [zB] using hz
      simp [keepF, this]
    · simp [keepF, setF, ftext, numV_nat ha, u8N_of ha]

/-- The pieces of the last m fields. -/
def plist (o : Ob) : Nat → List (List UInt8)
  | 0 => []
  | m + 1 => if zB o (11 - m) then plist o m else pieceL o (11 - m) :: plist o m
def flat (ps : List (List UInt8)) : List UInt8 := ps.flatMap fun p => 32 :: p
theorem flat_cons (p : List UInt8) (ps : List (List UInt8)) : flat (p :: ps) = 32 :: (p ++ flat ps) := by simp [flat]
theorem flat_len : ∀ ps : List (List UInt8), ps.length ≤ (flat ps).length
  | [] => by simp
  | p :: ps => by have := flat_len ps; rw [flat_cons]; simp; omega
theorem text_split (o : Ob) : ∀ m, m ≤ 12 → textTo o (12 - m) ++ flat (plist o m) = textTo o 12
  | 0, _ => by simp [plist, flat]
  | m + 1, h => by
    have ih := text_split o m (by omega)
    rw [← ih, show 12 - m = (11 - m) + 1 by omega, show 12 - (m + 1) = 11 - m by omega]
    rw [textTo, plist]
    split
    · rfl
    · rw [flat_cons]; simp
def restB : List (List UInt8) → ByteArray × Bool
  | [] => (⟨#[]⟩, false)
  | p :: ps => (⟨(p ++ flat ps).toArray⟩, true)
theorem cut_rest (p : List UInt8) (ps : List (List UInt8)) (h : (32 : UInt8) ∉ p) : cut1 ⟨(p ++ flat ps).toArray⟩ 32 = (⟨p.toArray⟩, (restB ps).1, (restB ps).2) := by
  cases ps with
  | nil => rw [show flat [] = [] from rfl, List.append_nil, cut1_miss p 32 h]; rfl
  | cons q qs => rw [flat_cons, cut1_hit p _ 32 h]; rfl
theorem name_signs (j : Nat) (hj : j < 12) : (32 : UInt8) ∉ fnameL j ∧ (61 : UInt8) ∉ fnameL j := by
  rcases (show j = 0 ∨ j = 1 ∨ j = 2 ∨ j = 3 ∨ j = 4 ∨ j = 5 ∨ j = 6 ∨ j = 7 ∨ j = 8 ∨ j = 9 ∨ j = 10 ∨ j = 11 by omega) with rfl | rfl | rfl | rfl | rfl | rfl | rfl | rfl | rfl | rfl | rfl | rfl <;> decide
theorem idx_name (j : Nat) (hj : j < 12) : idxI (nameAt j) = (j : Int) := by
  rcases (show j = 0 ∨ j = 1 ∨ j = 2 ∨ j = 3 ∨ j = 4 ∨ j = 5 ∨ j = 6 ∨ j = 7 ∨ j = 8 ∨ j = 9 ∨ j = 10 ∨ j = 11 by omega) with rfl | rfl | rfl | rfl | rfl | rfl | rfl | rfl | rfl | rfl | rfl | rfl <;> decide +kernel
theorem ftext_noBl {o : Ob} (h : Clean o) (j : Nat) : (32 : UInt8) ∉ (ftext o j).data.toList := by
  have hi : ∀ n : Int, (32 : UInt8) ∉ (⟨(Lib.itoa n).toArray⟩ : ByteArray).data.toList := fun n hm => (itoa_signs n 32 hm).1 rfl
  unfold ftext
  split
  · exact h.parent
  · exact hi _
  · exact h.ref
  · exact hi _
  · exact hi _
  · exact hi _
  · exact hi _
  · exact hi _
  · exact hi _
  · exact hi _
  · exact hi _
  · exact hi _
  · simp
theorem loop_reads {o : Ob} (h : Clean o) : ∀ m, m ≤ 12 → ∀ n, (plist o m).length < n → loopR n (keepF o (12 - m)) (restB (plist o m)).1 (restB (plist o m)).2 = o
  | 0, _, n, hn => by
    cases n with
    | zero => exact keep_all o
    | succ n => show loopR (n + 1) (keepF o 12) _ false = o; rw [loopR]; exact keep_all o
  | m + 1, hm, n, hn => by
    have ih := loop_reads h m (by omega)
    have ks := keep_step h (11 - m) (by omega)
    rw [show (11 - m) + 1 = 12 - m by omega] at ks
    rw [show 12 - (m + 1) = 11 - m by omega]
    rw [plist] at hn ⊢
    by_cases hz : zB o (11 - m) = true
    · rw [if_pos hz] at ks hn ⊢
      rw [← ks]
      exact ih n hn
    · rw [if_neg hz] at ks hn ⊢
      obtain ⟨n, rfl⟩ : ∃ k, n = k + 1 := ⟨n - 1, by omega⟩
      have hs := name_signs (11 - m) (by omega)
      have hp : (32 : UInt8) ∉ pieceL o (11 - m) := by
        have := ftext_noBl h (11 - m)
        unfold pieceL
        simp only [List.mem_append, not_or]
        exact ⟨⟨hs.1, by decide⟩, this⟩
      have c1 := cut_rest _ (plist o m) hp
      have c2 : cut1 ⟨(pieceL o (11 - m)).toArray⟩ 61 = (nameAt (11 - m), ftext o (11 - m), true) := by
        have := cut1_hit (fnameL (11 - m)) (ftext o (11 - m)).data.toList 61 hs.2
        unfold pieceL
        rw [List.append_assoc, List.singleton_append, this]
        rfl
      show loopR (n + 1) (keepF o (11 - m)) ⟨(pieceL o (11 - m) ++ flat (plist o m)).toArray⟩ true = o
      rw [loopR, c1]
      dsimp only
      rw [c2]
      dsimp only
      rw [idx_name _ (by omega), if_neg (by omega), Int.toNat_natCast, ← ks]
      exact ih n (by simp at hn; omega)
theorem word_signs (k : Nat) (h1 : 1 ≤ k) (h9 : k ≤ 9) : (32 : UInt8) ∉ (wordOf k).data.toList ∧ kindS (wordOf k) = k := by
  rcases (show k = 1 ∨ k = 2 ∨ k = 3 ∨ k = 4 ∨ k = 5 ∨ k = 6 ∨ k = 7 ∨ k = 8 ∨ k = 9 by omega) with rfl | rfl | rfl | rfl | rfl | rfl | rfl | rfl | rfl <;> exact ⟨by decide, by decide +kernel⟩
/-- WHAT IS READ OF A FAULTLESS OBJECT'S TEXT IS THE OBJECT. -/
theorem read_back {o : Ob} (h : Clean o) : readOf (textOf o) = o := by
  have hw := word_signs o.kind h.k1 h.k9
  have e : textTo o 12 = (wordOf o.kind).data.toList ++ 32 :: (o.handle.data.toList ++ flat (plist o 12)) := by
    rw [← text_split o 12 (by omega)]
    simp [textTo]
  have c1 := cut1_hit (wordOf o.kind).data.toList (o.handle.data.toList ++ flat (plist o 12)) 32 hw.1
  rw [← e] at c1
  have c2 := cut_rest o.handle.data.toList (plist o 12) h.handle
  have hl : (plist o 12).length < (textOf o).size + 2 := by
    have h1 := flat_len (plist o 12)
    have h2 : (textOf o).size = (textTo o 12).length := List.size_toArray ..
    rw [h2, e]
    simp
    omega
  have c1' : cut1 (textOf o) 32 = _ := c1
  unfold readOf
  rw [c1']
  dsimp only
  rw [c2]
  dsimp only
  have := loop_reads h 12 (by omega) _ hl
  rw [show 12 - 12 = 0 from rfl, keep_none] at this
  rw [show kindS ⟨(wordOf o.kind).data.toList.toArray⟩ = o.kind from hw.2]
  exact this

theorem may_noBl {s : ByteArray} (h : HL.mayB s = true) : noBl s := by
  have hp := HL.mayB_iff.1 h
  intro hm
  obtain ⟨k, hk, e⟩ := List.getElem_of_mem hm
  have hk2 : k < s.size := by simpa using hk
  have h2 := hp.2.2.2.1 k hk2
  have h3 : HL.bt s k = 32 := by
    unfold HL.bt
    rw [List.getD_eq_getElem?_getD, List.getElem?_eq_getElem hk, e]
    rfl
  rw [h3] at h2
  revert h2
  decide
theorem may_16 {s : ByteArray} (h : HL.mayB s = true ∨ s = ⟨#[]⟩) : noBl s ∧ s.size ≤ 16 := by
  rcases h with h | rfl
  · exact ⟨may_noBl h, (HL.mayB_iff.1 h).2.1⟩
  · exact ⟨by simp [noBl], by decide⟩
theorem faultless {o : Ob} (h : faultP o true = 0) : fitsB o = true ∧ HL.mayB o.handle = true ∧ namedB o = true ∧ countsObB o = true := by
  unfold faultP at h
  by_cases a : fitsB o = false
  · rw [if_pos a] at h; exact absurd h (by decide)
  · rw [if_neg a] at h
    by_cases b : HL.mayB o.handle = false ∨ (true = true ∧ namedB o = false)
    · rw [if_pos b] at h; exact absurd h (by decide)
    · rw [if_neg b] at h
      by_cases c : countsObB o = false
      · rw [if_pos c] at h; exact absurd h (by decide)
      · exact ⟨by simpa using a, by simpa using fun q => b (Or.inl q), by simpa using fun q => b (Or.inr ⟨rfl, q⟩), by simpa using c⟩
theorem kind_trim {o : Ob} (h : fitsB o = true) : (1 ≤ o.kind ∧ o.kind ≤ 9) ∧ trimOf o = o ∧ o.typ ≤ 3 ∧ o.assoc ≤ 3 := by
  have hf : ¬ (kindB o.kind = false ∨ trimOf o ≠ o ∨ 3 < o.typ ∨ 3 < o.assoc) := fun q => by
    have := (fits_iff o).2 q
    rw [h] at this
    cases this
  simp only [not_or, Bool.not_eq_false, ne_eq, Decidable.not_not] at hf
  exact ⟨of_decide_eq_true hf.1, Classical.byContradiction fun q => by have := hf.2.1; first | exact this q | exact q this, by omega, by omega⟩
theorem handles_of {o : Ob} (h : faultP o true = 0) : HL.mayB o.handle = true ∧ (HL.mayB o.parent = true ∨ o.parent = ⟨#[]⟩) ∧ (HL.mayB o.ref = true ∨ o.ref = ⟨#[]⟩) := by
  obtain ⟨hf, hh, hn, hc⟩ := faultless h
  obtain ⟨hk, ht, _, _⟩ := kind_trim hf
  unfold namedB at hn
  simp only [Bool.and_eq_true, Bool.or_eq_true, decide_eq_true_eq, Bool.not_eq_true'] at hn
  refine ⟨hh, ?_, ?_⟩
  · rcases hn.1 with q | q
    · have e := congrArg Ob.parent ht
      simp only [trimOf, if_pos q] at e
      exact .inr e.symm
    · exact .inl q
  · rcases hn.2 with q | q
    · have e := congrArg Ob.ref ht
      have q2 : ¬ (o.kind = 6 ∨ o.kind = 7 ∨ o.kind = 8) := of_decide_eq_false q
      simp only [trimOf, if_neg q2] at e
      exact .inr e.symm
    · exact .inl q
theorem clean_of {o : Ob} (h : faultP o true = 0) : Clean o := by
  obtain ⟨hf, hh, hn, hc⟩ := faultless h
  obtain ⟨hk, ht, h3, h4⟩ := kind_trim hf
  obtain ⟨a1, a2, a3⟩ := handles_of h
  unfold countsObB at hc
  simp only [Bool.and_eq_true, decide_eq_true_eq] at hc
  obtain ⟨⟨⟨⟨⟨⟨c1, c2⟩, c3⟩, c4⟩, c5⟩, c6⟩, c7⟩ := hc
  exact ⟨hk.1, hk.2, may_noBl hh, (may_16 a2).1, (may_16 a3).1, by omega, by omega, by omega, of_decide_eq_true c1, of_decide_eq_true c2, of_decide_eq_true c3, of_decide_eq_true c4, of_decide_eq_true c5⟩
theorem otext_len {o : Ob} (h : faultP o true = 0) : (textOf o).size ≤ 1000 := by
  have hC := clean_of h
  obtain ⟨a1, a2, a3⟩ := handles_of h
  have b1 := (may_16 (.inl a1)).2
  have b2 := (may_16 a2).2
  have b3 := (may_16 a3).2
  have hi : ∀ n : Int, -1000000000000000 ≤ n ∧ n ≤ 1000000000000000 → (Lib.itoa n).length ≤ 18 := fun n hn => by rw [itoa_fix]; exact fixText_length_le n 0 hn.1 hn.2 (by omega)
  have hp : ∀ j, j < 12 → (pieceL o j).length ≤ 40 := fun j hj => by
    have hd := hC.digits
    have ht := hC.typ
    have ha := hC.assoc
    have hn : (fnameL j).length ≤ 6 := by
      rcases (show j = 0 ∨ j = 1 ∨ j = 2 ∨ j = 3 ∨ j = 4 ∨ j = 5 ∨ j = 6 ∨ j = 7 ∨ j = 8 ∨ j = 9 ∨ j = 10 ∨ j = 11 by omega) with rfl | rfl | rfl | rfl | rfl | rfl | rfl | rfl | rfl | rfl | rfl | rfl <;> decide
    have ht2 : (ftext o j).data.toList.length ≤ 18 := by
      rcases (show j = 0 ∨ j = 1 ∨ j = 2 ∨ j = 3 ∨ j = 4 ∨ j = 5 ∨ j = 6 ∨ j = 7 ∨ j = 8 ∨ j = 9 ∨ j = 10 ∨ j = 11 by omega) with rfl | rfl | rfl | rfl | rfl | rfl | rfl | rfl | rfl | rfl | rfl | rfl
      · show o.parent.data.toList.length ≤ 18
        simp; omega
      · exact hi (o.typ : Int) (by omega)
      · show o.ref.data.toList.length ≤ 18
        simp; omega
      · exact hi _ hC.lo
      · exact hi _ hC.hi
      · exact hi (o.digits : Int) (by omega)
      · exact hi _ (by unfold boolI; split <;> omega)
      · exact hi _ (by unfold boolI; split <;> omega)
      · exact hi _ hC.value
      · exact hi _ hC.low
      · exact hi _ hC.high
      · exact hi (o.assoc : Int) (by omega)
    unfold pieceL
    simp only [List.length_append, List.length_singleton]
    omega
  have hw : (wordOf o.kind).data.toList.length ≤ 9 := by
    have k1 := hC.k1
    have k9 := hC.k9
    rcases (show o.kind = 1 ∨ o.kind = 2 ∨ o.kind = 3 ∨ o.kind = 4 ∨ o.kind = 5 ∨ o.kind = 6 ∨ o.kind = 7 ∨ o.kind = 8 ∨ o.kind = 9 by omega) with q | q | q | q | q | q | q | q | q <;> (rw [q]; decide)
  have hl : ∀ n, n ≤ 12 → (textTo o n).length ≤ 26 + 41 * n := by
    intro n
    induction n with
    | zero => intro _; show ((wordOf o.kind).data.toList ++ [32] ++ o.handle.data.toList).length ≤ _; simp at hw ⊢; omega
    | succ n ih =>
      intro hn
      have q1 := ih (by omega)
      have q2 := hp n (by omega)
      rw [textTo]
      split
      · omega
      · simp only [List.length_append, List.length_singleton]; omega
  have := hl 12 (by omega)
  have e : (textOf o).size = (textTo o 12).length := List.size_toArray ..
  omega

theorem small_of {o : Ob} (hr : faultP o true = 0) : Small o := by
  have hC := clean_of hr
  obtain ⟨a1, a2, a3⟩ := handles_of hr
  have b1 := (may_16 (.inl a1)).2
  have b2 := (may_16 a2).2
  have b3 := (may_16 a3).2
  have l1 := hC.lo
  have l2 := hC.hi
  have l3 := hC.value
  have l4 := hC.low
  have l5 := hC.high
  exact ⟨by omega, by omega, by omega, by omega, by omega, by omega, by omega, by omega, hC.typ, hC.digits, hC.assoc⟩
theorem parse_own {o : Ob} (hr : faultP o true = 0) : parseR (textOf o) = .tuple #[ob o, .int .i64 0] := by
  unfold parseR
  rw [read_back (clean_of hr)]
  exact parseO_ok hr rfl
def Calls1 (o : Ob) (f : Nat) (args : Array Value) (w : World) (v : Value) : Prop := ∀ W, Below w.heap.size w W → Calls Tryd.prog f args W fun e w' => e = .returned v ∧ Below W.heap.size W w'
theorem back_long (o : Ob) (s : ByteArray) (m : Int) (w : World) (h : Meets o w) (ht : Tabs w) (hm : w.cell? ⟨3, 0, none⟩ = some (.int .i64 m)) (hml : 3 < w.heap.size) (hz : longB o = true) : Calls Tryd.prog 4 #[ob o, .string s] w fun e w' => e = .returned (.bool true) ∧ Below w.heap.size w w' := by
  have hb : Below w.heap.size w w := Below.refl _ _
  have AW := Lib.hid (fun W (k : Below w.heap.size w W) => awake_any (ht.then k))
  have L1 := fun W => Lib.hid (hz ▸ long_any o W)
  clear h ht hm hml hz
  go_enter Tryd.func4, Tryd.ntmps4
  go_wp2_with fail
  go_at_call 10
  refine (AW.out _ (bAl hb _)).mono ?_
  rintro e w1 ⟨rfl, k1⟩
  replace hb := bThen (bAl hb _) k1
  have mO := (AtC.new _ _ _).then k1
  have oc := mO.c
  go_wp2_with fail
  go_at_call 5
  with_reducible refine (L1 _).out.mono ?_
  rintro e w2 ⟨rfl, k2⟩
  replace hb := bThen hb k2
  replace mO := mO.then k2
  have oc := mO.c
  have ol := mO.lt
  clear k1 k2 AW L1
  go_wp2_with fail
  go_ret
  exact ⟨by simp, hb⟩
theorem back_far (o : Ob) (s : ByteArray) (m : Int) (w : World) (h : Meets o w) (ht : Tabs w) (hm : w.cell? ⟨3, 0, none⟩ = some (.int .i64 m)) (hml : 3 < w.heap.size) (hz : longB o = false) (hs : 500 < s.size) : Calls Tryd.prog 4 #[ob o, .string s] w fun e w' => e = .returned (.bool true) ∧ Below w.heap.size w w' := by
  have hb : Below w.heap.size w w := Below.refl _ _
  have AW := Lib.hid (fun W (k : Below w.heap.size w W) => awake_any (ht.then k))
  have L1 := fun W => Lib.hid (hz ▸ long_any o W)
  clear h ht hm hml hz
  have hs2 : (500 : Int) < s.size := by omega
  go_enter Tryd.func4, Tryd.ntmps4
  go_wp2_with fail
  go_at_call 10
  refine (AW.out _ (bAl hb _)).mono ?_
  rintro e w1 ⟨rfl, k1⟩
  replace hb := bThen (bAl hb _) k1
  have mO := (AtC.new _ _ _).then k1
  have oc := mO.c
  go_wp2_with fail
  go_at_call 5
  with_reducible refine (L1 _).out.mono ?_
  rintro e w2 ⟨rfl, k2⟩
  replace hb := bThen hb k2
  replace mO := mO.then k2
  have oc := mO.c
  have ol := mO.lt
  clear k1 k2 AW L1
  go_wp2_with fail
  go_ret
  exact ⟨by simp, hb⟩
set_option maxHeartbeats 8000000 in
theorem back_oo (o : Ob) (s : ByteArray) (m : Int) (w : World) (h : Meets o w) (ht : Tabs w) (hm : w.cell? ⟨3, 0, none⟩ = some (.int .i64 m)) (hml : 3 < w.heap.size) (hz : longB o = false) (hs : s.size ≤ 500) (hr : faultP o true = 0) (R : Ob) (hv : parseR s = .tuple #[ob R, .int .i64 0]) (hR : faultP R true = 0) (hT : textOf R = s) (G : Good R) : Calls Tryd.prog 4 #[ob o, .string s] w fun e w' => e = .returned (.bool true) ∧ Below w.heap.size w w' := by
  have hb : Below w.heap.size w w := Below.refl _ _
  have AW := Lib.hid (fun W (k : Below w.heap.size w W) => awake_any (ht.then k))
  have L1 := fun W => Lib.hid (hz ▸ long_any o W)
  have CP2 := Lib.hid (fun W (q : Below w.heap.size w W) => hv ▸ oparse_any s m W (by omega) (ht.then q) ((q.cell (p := ⟨3, 0, none⟩) hml).trans hm) (Nat.lt_of_lt_of_le hml q.size))
  have CT2 := Lib.hid (fun W (q : Below w.heap.size w W) => (textR_ok hR).trans (by rw [hT]) ▸ text_ok (G.meets (ht.then q)) (small_of hR) (ht.then q).pow hR)
  have CM2 := Lib.hid (fun W (q : Below w.heap.size w W) => hR ▸ objMay_any (G.meets (ht.then q)))
  have CT1 := Lib.hid (fun W (q : Below w.heap.size w W) => textR_ok hr ▸ text_ok (h.then q) (small_of hr) (ht.then q).pow hr)
  have CM1 := Lib.hid (fun W (q : Below w.heap.size w W) => hr ▸ objMay_any (h.then q))
  have CP1 := Lib.hid (fun W (q : Below w.heap.size w W) => parse_own hr ▸ oparse_any (textOf o) m W (otext_len hr) (ht.then q) ((q.cell (p := ⟨3, 0, none⟩) hml).trans hm) (Nat.lt_of_lt_of_le hml q.size))
  generalize textOf o = t at *
  clear h ht hm hml hz hv hR hT G hr
  have hs2 : ¬ (500 : Int) < s.size := by omega
  go_enter Tryd.func4, Tryd.ntmps4
  go_wp2_with fail
  go_at_call 10
  refine (AW.out _ (bAl hb _)).mono ?_
  rintro e w1 ⟨rfl, k1⟩
  replace hb := bThen (bAl hb _) k1
  have mO := (AtC.new _ _ _).then k1
  have oc := mO.c
  go_wp2_with fail
  go_at_call 5
  with_reducible refine (L1 _).out.mono ?_
  rintro e w2 ⟨rfl, k2⟩
  replace hb := bThen hb k2
  replace mO := mO.then k2
  have oc := mO.c
  have ol := mO.lt
  clear k1 k2 AW L1
  go_wp2_with fail
  go_at_call 6
  refine (CT1.out _ hb).mono ?_
  rintro e v3 ⟨rfl, k3⟩
  replace hb := bThen hb k3
  replace mO := (mO).then k3
  have oc := mO.c
  have ol := mO.lt
  go_wp2_with fail
  go_at_call 11
  refine (CM1.out _ hb).mono ?_
  rintro e v4 ⟨rfl, k4⟩
  replace hb := bThen hb k4
  replace mO := (mO).then k4
  have oc := mO.c
  have ol := mO.lt
  go_wp2_with fail
  go_at_call 8
  refine (CP1.out _ hb).mono ?_
  rintro e v5 ⟨rfl, k5⟩
  replace hb := bThen hb k5
  replace mO := (mO).then k5
  have oc := mO.c
  have ol := mO.lt
  go_wp2_with fail
  go_at_call 8
  refine (CP2.out _ (bAl hb _)).mono ?_
  rintro e v6 ⟨rfl, k6⟩
  replace hb := bThen (bAl hb _) k6
  clear k3 k4 oc mO ol CP2 k5
  go_wp2_with fail
  go_at_call 6
  refine (CT2.out _ (bAl hb _)).mono ?_
  rintro e v7 ⟨rfl, k7⟩
  replace hb := bThen (bAl hb _) k7
  have mP := (AtC.new _ _ _).then k7
  have pc := mP.c
  have pl := mP.lt
  go_wp2_with fail
  go_at_call 11
  refine (CM2.out _ hb).mono ?_
  rintro e v8 ⟨rfl, k8⟩
  replace hb := bThen hb k8
  go_wp2_with fail
  go_ret
  exact ⟨by simp, hb⟩
set_option maxHeartbeats 8000000 in
theorem back_ob (o : Ob) (s : ByteArray) (m : Int) (w : World) (h : Meets o w) (ht : Tabs w) (hm : w.cell? ⟨3, 0, none⟩ = some (.int .i64 m)) (hml : 3 < w.heap.size) (hz : longB o = false) (hs : s.size ≤ 500) (hr : faultP o true = 0) (hv : parseR s = .tuple #[ob zeroOb, .int .i64 2]) : Calls Tryd.prog 4 #[ob o, .string s] w fun e w' => e = .returned (.bool true) ∧ Below w.heap.size w w' := by
  have hb : Below w.heap.size w w := Below.refl _ _
  have AW := Lib.hid (fun W (k : Below w.heap.size w W) => awake_any (ht.then k))
  have L1 := fun W => Lib.hid (hz ▸ long_any o W)
  have CP2 := Lib.hid (fun W (q : Below w.heap.size w W) => hv ▸ oparse_any s m W (by omega) (ht.then q) ((q.cell (p := ⟨3, 0, none⟩) hml).trans hm) (Nat.lt_of_lt_of_le hml q.size))
  have CT1 := Lib.hid (fun W (q : Below w.heap.size w W) => textR_ok hr ▸ text_ok (h.then q) (small_of hr) (ht.then q).pow hr)
  have CM1 := Lib.hid (fun W (q : Below w.heap.size w W) => hr ▸ objMay_any (h.then q))
  have CP1 := Lib.hid (fun W (q : Below w.heap.size w W) => parse_own hr ▸ oparse_any (textOf o) m W (otext_len hr) (ht.then q) ((q.cell (p := ⟨3, 0, none⟩) hml).trans hm) (Nat.lt_of_lt_of_le hml q.size))
  generalize textOf o = t at *
  clear h ht hm hml hz hv hr
  have hs2 : ¬ (500 : Int) < s.size := by omega
  go_enter Tryd.func4, Tryd.ntmps4
  go_wp2_with fail
  go_at_call 10
  refine (AW.out _ (bAl hb _)).mono ?_
  rintro e w1 ⟨rfl, k1⟩
  replace hb := bThen (bAl hb _) k1
  have mO := (AtC.new _ _ _).then k1
  have oc := mO.c
  go_wp2_with fail
  go_at_call 5
  with_reducible refine (L1 _).out.mono ?_
  rintro e w2 ⟨rfl, k2⟩
  replace hb := bThen hb k2
  replace mO := mO.then k2
  have oc := mO.c
  have ol := mO.lt
  clear k1 k2 AW L1
  go_wp2_with fail
  go_at_call 6
  refine (CT1.out _ hb).mono ?_
  rintro e v3 ⟨rfl, k3⟩
  replace hb := bThen hb k3
  replace mO := (mO).then k3
  have oc := mO.c
  have ol := mO.lt
  go_wp2_with fail
  go_at_call 11
  refine (CM1.out _ hb).mono ?_
  rintro e v4 ⟨rfl, k4⟩
  replace hb := bThen hb k4
  replace mO := (mO).then k4
  have oc := mO.c
  have ol := mO.lt
  go_wp2_with fail
  go_at_call 8
  refine (CP1.out _ hb).mono ?_
  rintro e v5 ⟨rfl, k5⟩
  replace hb := bThen hb k5
  replace mO := (mO).then k5
  have oc := mO.c
  have ol := mO.lt
  go_wp2_with fail
  go_at_call 8
  refine (CP2.out _ (bAl hb _)).mono ?_
  rintro e v6 ⟨rfl, k6⟩
  replace hb := bThen (bAl hb _) k6
  clear k3 k4 oc mO ol CP2 k5
  go_wp2_with fail
  · go_ret
    exact ⟨by simp, bAl hb _⟩
  · exact absurd (show zeroOb.handle.toList = [] by rw [show zeroOb.handle = (⟨#[]⟩ : ByteArray) from rfl, ByteArray.toList_eq]) (by assumption)
set_option maxHeartbeats 8000000 in
theorem back_bo (o : Ob) (s : ByteArray) (m : Int) (w : World) (h : Meets o w) (ht : Tabs w) (hm : w.cell? ⟨3, 0, none⟩ = some (.int .i64 m)) (hml : 3 < w.heap.size) (hz : longB o = false) (hs : s.size ≤ 500) (hr : ¬ faultP o true = 0) (R : Ob) (hv : parseR s = .tuple #[ob R, .int .i64 0]) (hR : faultP R true = 0) (hT : textOf R = s) (G : Good R) : Calls Tryd.prog 4 #[ob o, .string s] w fun e w' => e = .returned (.bool true) ∧ Below w.heap.size w w' := by
  have hb : Below w.heap.size w w := Below.refl _ _
  have AW := Lib.hid (fun W (k : Below w.heap.size w W) => awake_any (ht.then k))
  have L1 := fun W => Lib.hid (hz ▸ long_any o W)
  have CP2 := Lib.hid (fun W (q : Below w.heap.size w W) => hv ▸ oparse_any s m W (by omega) (ht.then q) ((q.cell (p := ⟨3, 0, none⟩) hml).trans hm) (Nat.lt_of_lt_of_le hml q.size))
  have CT2 := Lib.hid (fun W (q : Below w.heap.size w W) => (textR_ok hR).trans (by rw [hT]) ▸ text_ok (G.meets (ht.then q)) (small_of hR) (ht.then q).pow hR)
  have CM2 := Lib.hid (fun W (q : Below w.heap.size w W) => hR ▸ objMay_any (G.meets (ht.then q)))
  have CT1 := Lib.hid (fun W (q : Below w.heap.size w W) => textR_bad hr ▸ text_bad (h.then q) hr)
  have CM1 := Lib.hid (fun W (q : Below w.heap.size w W) => objMay_any (h.then q))
  generalize faultP o true = e0 at *
  clear h ht hm hml hz hv hR hT G
  have hs2 : ¬ (500 : Int) < s.size := by omega
  go_enter Tryd.func4, Tryd.ntmps4
  go_wp2_with fail
  go_at_call 10
  refine (AW.out _ (bAl hb _)).mono ?_
  rintro e w1 ⟨rfl, k1⟩
  replace hb := bThen (bAl hb _) k1
  have mO := (AtC.new _ _ _).then k1
  have oc := mO.c
  go_wp2_with fail
  go_at_call 5
  with_reducible refine (L1 _).out.mono ?_
  rintro e w2 ⟨rfl, k2⟩
  replace hb := bThen hb k2
  replace mO := mO.then k2
  have oc := mO.c
  have ol := mO.lt
  clear k1 k2 AW L1
  go_wp2_with fail
  go_at_call 6
  refine (CT1.out _ hb).mono ?_
  rintro e v3 ⟨rfl, k3⟩
  replace hb := bThen hb k3
  replace mO := (mO).then k3
  have oc := mO.c
  have ol := mO.lt
  go_wp2_with fail
  go_at_call 11
  refine (CM1.out _ hb).mono ?_
  rintro e v4 ⟨rfl, k4⟩
  replace hb := bThen hb k4
  replace mO := (mO).then k4
  have oc := mO.c
  have ol := mO.lt
  go_wp2_with fail
  go_at_call 8
  refine (CP2.out _ hb).mono ?_
  rintro e v6 ⟨rfl, k6⟩
  replace hb := bThen hb k6
  clear k3 k4 oc mO ol CP2
  go_wp2_with fail
  go_at_call 6
  refine (CT2.out _ (bAl hb _)).mono ?_
  rintro e v7 ⟨rfl, k7⟩
  replace hb := bThen (bAl hb _) k7
  have mP := (AtC.new _ _ _).then k7
  have pc := mP.c
  have pl := mP.lt
  go_wp2_with fail
  go_at_call 11
  refine (CM2.out _ hb).mono ?_
  rintro e v8 ⟨rfl, k8⟩
  replace hb := bThen hb k8
  go_wp2_with fail
  go_ret
  exact ⟨by simp, hb⟩
set_option maxHeartbeats 8000000 in
theorem back_bb (o : Ob) (s : ByteArray) (m : Int) (w : World) (h : Meets o w) (ht : Tabs w) (hm : w.cell? ⟨3, 0, none⟩ = some (.int .i64 m)) (hml : 3 < w.heap.size) (hz : longB o = false) (hs : s.size ≤ 500) (hr : ¬ faultP o true = 0) (hv : parseR s = .tuple #[ob zeroOb, .int .i64 2]) : Calls Tryd.prog 4 #[ob o, .string s] w fun e w' => e = .returned (.bool true) ∧ Below w.heap.size w w' := by
  have hb : Below w.heap.size w w := Below.refl _ _
  have AW := Lib.hid (fun W (k : Below w.heap.size w W) => awake_any (ht.then k))
  have L1 := fun W => Lib.hid (hz ▸ long_any o W)
  have CP2 := Lib.hid (fun W (q : Below w.heap.size w W) => hv ▸ oparse_any s m W (by omega) (ht.then q) ((q.cell (p := ⟨3, 0, none⟩) hml).trans hm) (Nat.lt_of_lt_of_le hml q.size))
  have CT1 := Lib.hid (fun W (q : Below w.heap.size w W) => textR_bad hr ▸ text_bad (h.then q) hr)
  have CM1 := Lib.hid (fun W (q : Below w.heap.size w W) => objMay_any (h.then q))
  generalize faultP o true = e0 at *
  clear h ht hm hml hz hv
  have hs2 : ¬ (500 : Int) < s.size := by omega
  go_enter Tryd.func4, Tryd.ntmps4
  go_wp2_with fail
  go_at_call 10
  refine (AW.out _ (bAl hb _)).mono ?_
  rintro e w1 ⟨rfl, k1⟩
  replace hb := bThen (bAl hb _) k1
  have mO := (AtC.new _ _ _).then k1
  have oc := mO.c
  go_wp2_with fail
  go_at_call 5
  with_reducible refine (L1 _).out.mono ?_
  rintro e w2 ⟨rfl, k2⟩
  replace hb := bThen hb k2
  replace mO := mO.then k2
  have oc := mO.c
  have ol := mO.lt
  clear k1 k2 AW L1
  go_wp2_with fail
  go_at_call 6
  refine (CT1.out _ hb).mono ?_
  rintro e v3 ⟨rfl, k3⟩
  replace hb := bThen hb k3
  replace mO := (mO).then k3
  have oc := mO.c
  have ol := mO.lt
  go_wp2_with fail
  go_at_call 11
  refine (CM1.out _ hb).mono ?_
  rintro e v4 ⟨rfl, k4⟩
  replace hb := bThen hb k4
  replace mO := (mO).then k4
  have oc := mO.c
  have ol := mO.lt
  go_wp2_with fail
  go_at_call 8
  refine (CP2.out _ hb).mono ?_
  rintro e v6 ⟨rfl, k6⟩
  replace hb := bThen hb k6
  clear k3 k4 oc mO ol CP2
  go_wp2_with fail
  · go_ret
    exact ⟨by simp, bAl hb _⟩
  · exact absurd (show zeroOb.handle.toList = [] by rw [show zeroOb.handle = (⟨#[]⟩ : ByteArray) from rfl, ByteArray.toList_eq]) (by assumption)
theorem back_walk (o : Ob) (s : ByteArray) (m : Int) (w : World) (h : Meets o w) (ht : Tabs w) (hm : w.cell? ⟨3, 0, none⟩ = some (.int .i64 m)) (hml : 3 < w.heap.size) : Calls Tryd.prog 4 #[ob o, .string s] w fun e w' => e = .returned (.bool true) ∧ Below w.heap.size w w' := by
  cases hz : longB o with
  | true => exact back_long o s m w h ht hm hml hz
  | false =>
    by_cases hs : 500 < s.size
    · exact back_far o s m w h ht hm hml hz hs
    · have hs2 : s.size ≤ 500 := by omega
      by_cases hp : faultP (readOf s) true = 0 ∧ textOf (readOf s) = s
      · have hv : parseR s = .tuple #[ob (readOf s), .int .i64 0] := parseO_ok hp.1 hp.2
        by_cases hr : faultP o true = 0
        · exact back_oo o s m w h ht hm hml hz hs2 hr _ hv hp.1 hp.2 (good_read s (by omega))
        · exact back_bo o s m w h ht hm hml hz hs2 hr _ hv hp.1 hp.2 (good_read s (by omega))
      · have hv : parseR s = .tuple #[ob zeroOb, .int .i64 2] := parseO_bad hp
        by_cases hr : faultP o true = 0
        · exact back_ob o s m w h ht hm hml hz hs2 hr hv
        · exact back_bb o s m w h ht hm hml hz hs2 hr hv
end Go.Proofs.YtonhijonnonmbaaDoor
