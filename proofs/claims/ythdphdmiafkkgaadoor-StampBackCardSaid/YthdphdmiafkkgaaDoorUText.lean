/-
  WALKS: a stamp's text; what a text tells: the program's.
-/
import Derived.Test.YthdphdmiafkkgaaDoorUNext
import Derived.Test.YthdphdmiafkkgaaDoorFDigits
import Derived.Test.YthdphdmiafkkgaaDoorShelf
import Derived.Lib.Atoi
import Derived.Sort.Grow
import Derived.Deep.RegionHeld3
namespace Go.Proofs.YthdphdmiafkkgaaDoor.UX
open Go.RowKit FixMath
set_option maxRecDepth 100000
set_option linter.unusedVariables false
set_option linter.unusedSimpArgs false

theorem low_snoc (n : Nat) : ∀ k, low (k + 1) n = low k (n / 10) ++ [dig n]
  | 0 => by simp [low]
  | k + 1 => by
    rw [low_succ, low_snoc n k, low_succ, Nat.div_div_eq_div_mul, Nat.pow_succ, Nat.mul_comm]
    rfl
theorem nt_one {n : Nat} (h : n < 10) : nt n = [dig n] := by unfold nt; rw [nd, dif_pos h]; simp [low]
theorem nt_more {n : Nat} (h : 10 ≤ n) : nt n = nt (n / 10) ++ [dig n] := by
  unfold nt; rw [nd, dif_neg (by omega), low_snoc]
theorem dec_nt (u : Nat) : Lib.decDigits u = nt u := by
  induction u using Nat.strongRecOn with
  | _ u ih =>
    by_cases h : u < 10
    · rw [Lib.decDigits, dif_pos h, nt_one h]
      simp [dig, Nat.mod_eq_of_lt h]
    · rw [Lib.decDigits, dif_neg h, nt_more (by omega), ih (u / 10) (by omega)]
      rfl
theorem itoa_nt (u : Nat) : Lib.itoa (u : Int) = nt u := by unfold Lib.itoa; rw [if_neg (by omega)]; simp [dec_nt]
/-! ## what memory must hold -/
def PowT (w : World) : Prop := Lib.TabIs Tryd.prog w "internal/strconv.uint64pow10" .u64 Lib.pow10Tab
theorem gPowT : Tryd.prog.globalNamed "internal/strconv.uint64pow10" = some 2 := by kernel_rfl
theorem PowT.then {w w' : World} (h : PowT w) (hb : Below w.heap.size w w') : PowT w' := by
  unfold PowT Lib.TabIs World.var? at h ⊢
  rw [gPowT] at h ⊢
  simp only [Option.bind_some] at h ⊢
  have hlt : 2 < w.heap.size := by
    rcases Nat.lt_or_ge 2 w.heap.size with h' | h'
    · exact h'
    · rw [Array.getElem?_eq_none h'] at h; cases h
  rw [hb.block _ hlt]
  exact h
def SynE (w : World) : Prop := 3 < w.heap.size ∧ ∃ ev, w.cell? ⟨3, 0, none⟩ = some ev ∧ (ev = .nilIface ∨ ∃ te pe, ev = .iface te pe)
def MaxE (w : World) : Prop := 1 < w.heap.size ∧ ∃ m : Int, w.cell? ⟨1, 0, none⟩ = some (.int .i64 m)
/-- What texts want of memory. -/
structure EnvT (w : World) : Prop where
  pow : PowT w
  syn : SynE w
  max : MaxE w
theorem EnvT.then {w w' : World} (h : EnvT w) (k : Below w.heap.size w w') : EnvT w' := by
  obtain ⟨h1, ⟨s0, ev, s1, s2⟩, ⟨m0, m, m1⟩⟩ := h
  exact ⟨h1.then k, ⟨Nat.lt_of_lt_of_le s0 k.size, ev, (k.cell (p := ⟨3, 0, none⟩) s0).trans s1, s2⟩, ⟨Nat.lt_of_lt_of_le m0 k.size, m, (k.cell (p := ⟨1, 0, none⟩) m0).trans m1⟩⟩
theorem grow_below (w : World) (k : Nat) (os : Array Obj) : Below w.heap.size w (Go.Sort.grow (w.drewN k) os) :=
  ⟨rfl, rfl, rfl, by simp [Go.Sort.grow], fun i hi => by simp only [Go.Sort.grow]; rw [Array.getElem?_append_left (by simpa using hi)]; rfl⟩
theorem itoaT (n : Nat) (w : World) (h : n ≤ 1048576) (hp : PowT w) : Calls Tryd.prog 22 #[.int .i64 n] w fun e w' => e = .returned (str (nt n)) ∧ Below w.heap.size w w' :=
  (Tryd.strconv_Itoa (n : Int) (by omega) (by omega) w hp).mono fun e w' ⟨he, k, os, hw⟩ => ⟨by rw [he, itoa_nt], by subst hw; exact grow_below w k os⟩
theorem tx_bytes (x y : Bs) : (⟨x.toArray⟩ : ByteArray) ++ ⟨#[46]⟩ ++ ⟨y.toArray⟩ = ⟨(x ++ 46 :: y).toArray⟩ := by
  show (⟨x.toArray⟩ : ByteArray) ++ ⟨([46] : Bs).toArray⟩ ++ ⟨y.toArray⟩ = _
  rw [bytes_add, bytes_add]; simp
/-- What Text tells. -/
def txV (d s : Int) : Value := if mayS d s = true then .tuple #[str (txS d.toNat s.toNat), .int .i64 0] else .tuple #[str [], .int .i64 2]
theorem txV_n {d s : Int} (h : mayS d s = false) : txV d s = .tuple #[str [], .int .i64 2] := by unfold txV; rw [if_neg (by simp [h])]
theorem txV_y {d s : Nat} (h : mayS d s = true) : txV d s = .tuple #[str (txS d s), .int .i64 0] := by unfold txV; rw [if_pos h]; simp
set_option maxHeartbeats 2000000 in
theorem stText_any (d s : Int) (w : World) (hp : PowT w) : Calls Tryd.prog 13 #[sp d s] w fun e w' => e = .returned (txV d s) ∧ Below w.heap.size w w' := by
  have hb : Below w.heap.size w w := Below.refl _ _
  have C := fun W => Lib.hid (stMay_any d s W)
  cases h1 : mayS d s
  · have HV := Lib.hid (txV_n h1)
    rw [h1] at C; clear h1
    generalize txV d s = V at *
    go_enter Tryd.func13, Tryd.ntmps13
    go_wp2_with (go_at_call 19; ((with_reducible refine (C _).out.mono ?_); rintro e w1 ⟨rfl, k1⟩; replace hb := bThen (bAl hb _) k1))
    go_ret2
    exact ⟨by rw [HV.out]; rfl, hb⟩
  · have bd := may_bd h1
    rw [h1] at C
    obtain ⟨d, rfl⟩ := Int.eq_ofNat_of_zero_le bd.1
    obtain ⟨s, rfl⟩ := Int.eq_ofNat_of_zero_le bd.2.2.1
    have HV := Lib.hid (txV_y h1)
    have C1 := Lib.hid (fun (W : World) (k : Below w.heap.size w W) => itoaT d W (by omega) (hp.then k))
    have C2 := Lib.hid (fun (W : World) (k : Below w.heap.size w W) => itoaT s W (by omega) (hp.then k))
    have l1 := nt_len7 (n := d) (by omega)
    have l2 := nt_len7 (n := s) (by omega)
    have HX : Hid (txS d s = nt d ++ 46 :: nt s) := Lib.hid rfl
    clear h1 hp bd
    generalize txV d s = V at *
    generalize txS d s = T at *
    generalize nt d = x at *
    generalize nt s = y at *
    have a1 : (9223372036854775807 < x.length + 1) = False := by simp; omega
    have a2 : (9223372036854775807 < x.length + 1 + y.length) = False := by simp; omega
    generalize (d : Int) = d at *
    generalize (s : Int) = s at *
    go_enter Tryd.func13, Tryd.ntmps13
    go_wp2_with (go_at_call 19; ((with_reducible refine (C _).out.mono ?_); rintro e w1 ⟨rfl, k1⟩; have m0 := (At2.new _ _ _ _).then k1; replace hb := bThen (bAl hb _) k1))
    go_region_held3 (fun w' => w'.cell? ⟨w.heap.size, 0, none⟩ = some (.int .i64 d) ∧ w'.cell? ⟨w.heap.size, 1, none⟩ = some (.int .i64 s) ∧ w.heap.size < w'.heap.size ∧ Below w.heap.size w w')
      (first | exact begin1 m0 hb | exact keep1 (by assumption) k1)
      (first
      | (go_at_call 22; first | ((with_reducible refine (C1.out _ (‹_ ∧ _ ∧ _ ∧ Below w.heap.size w _›).2.2.2).mono ?_); rintro e w1 ⟨rfl, k1⟩) | ((with_reducible refine (C2.out _ (‹_ ∧ _ ∧ _ ∧ Below w.heap.size w _›).2.2.2).mono ?_); rintro e w1 ⟨rfl, k1⟩)))
    go_wp2_with fail
    go_ret2
    exact ⟨by rw [HV.out, HX.out]; exact congrArg (fun s => Ending.returned (.tuple #[.string s, .int .i64 0])) (tx_bytes x y), ‹_ ∧ _ ∧ _ ∧ Below w.heap.size w _›.2.2.2⟩
/-! ## what a row of bytes is as a number -/
theorem digitVal_of {c : UInt8} (h : isDig c = true) : Lib.digitVal c = some (c.toNat - 48) := by
  unfold Lib.digitVal; rw [if_pos (by simpa [isDig] using h)]
theorem decFrom_val : ∀ (l : Bs) (acc : Nat), (∀ c ∈ l, isDig c = true) → Lib.decFrom acc l = some (acc * 10 ^ l.length + val l)
  | [], acc, _ => by simp [Lib.decFrom, val]
  | c :: l, acc, h => by
    rw [Lib.decFrom, digitVal_of (h c (List.mem_cons_self ..))]
    simp only
    rw [decFrom_val l _ (fun x hx => h x (List.mem_cons_of_mem _ hx)), val_cons, List.length_cons, Nat.pow_succ, Nat.add_mul, Nat.mul_assoc, Nat.mul_comm 10, Nat.add_assoc]
theorem atoi_nt (n : Nat) : Lib.atoi (nt n) = some (n : Int) := by
  obtain ⟨c, t, e⟩ : ∃ c t, nt n = c :: t := by
    cases h : nt n with
    | nil => exact absurd h (nt_ne n)
    | cons c t => exact ⟨c, t, rfl⟩
  have hd := nt_dig n
  have hv := nt_val n
  rw [e] at hd hv ⊢
  have hc := hd c (List.mem_cons_self ..)
  have h45 := (dig_ne_dot hc).2
  have h43 : c ≠ 43 := by intro q; subst q; revert hc; decide
  simp only [Lib.atoi]
  rw [if_neg (by simpa using h45), if_neg (by simpa using h43)]
  unfold Lib.decNat
  rw [if_neg (by simp), decFrom_val _ 0 hd, hv]
  simp
/-- Some number; that of which these are the digits, if there is one. -/
theorem number_any (s : ByteArray) (w : World) (hl : s.size ≤ 18) (hE : SynE w) : Calls Tryd.prog 25 #[.string s] w fun e w' => (∃ v : Int, e = .returned (.int .i64 v) ∧ (∀ n : Nat, s.data.toList = nt n → v = n)) ∧ Below w.heap.size w w' := by
  have hb : Below w.heap.size w w := Below.refl _ _
  obtain ⟨_, ev, s1, s2⟩ := hE
  cases h : Lib.atoi s.data.toList with
  | some v =>
    have C := Lib.hid (Tryd.strconv_Atoi s v hl h w)
    have HV : Hid (∀ n : Nat, s.data.toList = nt n → v = n) := Lib.hid (fun n e => by rw [e, atoi_nt] at h; exact (Option.some.inj h).symm)
    clear h s1 s2
    go_enter Tryd.func25, Tryd.ntmps25
    go_wp2_with (go_at_call 30; ((with_reducible refine C.out.mono ?_); rintro e w1 ⟨rfl, t, rfl⟩; have k1 := Lib.bytesWorld_below w 5 t))
    go_ret
    exact ⟨⟨v, rfl, HV.out⟩, k1⟩
  | none =>
    have C := Lib.hid (Tryd.strconv_Atoi_err s hl h ev w s1 s2)
    have HV : Hid (∀ n : Nat, s.data.toList = nt n → (0 : Int) = n) := Lib.hid (fun n e => by rw [e, atoi_nt] at h; cases h)
    clear h s1 s2
    go_enter Tryd.func25, Tryd.ntmps25
    go_wp2_with (go_at_call 30; ((with_reducible refine C.out.mono ?_); rintro e w1 ⟨N, rfl, _, _, k1⟩))
    go_ret
    exact ⟨⟨0, rfl, HV.out⟩, k1⟩
end Go.Proofs.YthdphdmiafkkgaaDoor.UX
