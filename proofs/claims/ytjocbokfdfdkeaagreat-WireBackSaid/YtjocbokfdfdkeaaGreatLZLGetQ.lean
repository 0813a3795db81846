/-
  WALK: getRequest.
-/
import Derived.Test.YtjocbokfdfdkeaaGreatLZ7
import Derived.Test.YtjocbokfdfdkeaaGreatLZLPutQ
import Derived.Test.YtjocbokfdfdkeaaGreatLZ6
namespace Go.Proofs.YtjocbokfdfdkeaaGreat.PX
open Go.RowKit HL
open IX (ptr El cellsK cellsK_at cellsK_len OwnK RdK Kept strK)
open YX (numB rdU rdB rdT rdS rdI addW intN natI rest told WAt WPt Wr RAt vS vU vI u8K Got)
open DX (Ch ch chCells chK zeroCh)
set_option maxRecDepth 100000
set_option linter.unusedVariables false
set_option linter.unusedSimpArgs false

/-- A request as it is read. -/
def getQ (s : Option Bs) : Rq × Option Bs :=
  let s1 := rest rdB s
  let s2 := rest rdB s1
  let s3 := rest rdS s2
  let q4 := getF codS s3
  let q5 := getC q4.2
  let s6 := rest rdB q5.2
  let s7 := rest rdI s6
  let s8 := rest rdI s7
  let s9 := rest rdT s8
  let s10 := rest rdB s9
  let s11 := rest rdI s10
  (⟨told (0 : Nat) rdB s1, bt (told ([] : Bs) rdS s2), q4.1, q5.1, told (0 : Nat) rdB q5.2, told (0 : Int) rdI s6, told (0 : Int) rdI s7, (told (0 : Nat) rdT s8 == 1), told (0 : Nat) rdB s9, told (0 : Int) rdI s10, told (0 : Nat) rdU s11 % 65536⟩, rest rdU s11)
/-- What getRequest tells. -/
def Rqr (w : World) (Br : Nat) (q : Rq × Option Bs) (e : Ending) (w' : World) : Prop := ∃ A c, e = .returned (rq q.1 A q.1.hs.length c) ∧ OwnK strK w' w.heap.size (.slice A q.1.hs.length c) q.1.hs ∧ RAt w' Br q.2 ∧ Kept w w' (· ≠ Br)
set_option maxHeartbeats 8000000 in
theorem getRequest_any (Br : Nat) (s : Option Bs) (w : World) (hr : RAt w Br s) :
    Calls Tryz.prog 65 #[ptr Br] w fun e w' => Rqr w Br (getQ s) e w' := by
  have hBr := hr.lt
  obtain ⟨Z, hZ⟩ : ∃ Z : Array Value, Z = #[.int .u8 0, .string ⟨#[]⟩, .slice none 0 0, .int .u8 0, .string ⟨#[]⟩, .int .u8 0, .string ⟨#[]⟩, .int .u8 0, .string ⟨#[]⟩, .int .i64 0, .int .i64 0, .int .u8 0, .bool false, .bool false, .int .i64 0, .int .i64 0, .int .i64 0, .int .u8 0, .int .u8 0, .int .i64 0, .int .i64 0, .bool false, .int .u8 0, .int .i64 0, .int .u16 0] := ⟨_, rfl⟩
  have hb := bAl (bAl (Below.refl w.heap.size w) (.cells #[.int .u8 0, .string ⟨#[]⟩, .slice none 0 0, .int .u8 0, .string ⟨#[]⟩, .int .u8 0, .string ⟨#[]⟩, .int .u8 0, .string ⟨#[]⟩, .int .i64 0, .int .i64 0, .int .u8 0, .bool false, .bool false, .int .i64 0, .int .i64 0, .int .i64 0, .int .u8 0, .int .u8 0, .int .i64 0, .int .i64 0, .bool false, .int .u8 0, .int .i64 0, .int .u16 0] 29)) (.cells #[.int .u8 0, .string ⟨#[]⟩, .slice none 0 0, .int .u8 0, .string ⟨#[]⟩, .int .u8 0, .string ⟨#[]⟩, .int .u8 0, .string ⟨#[]⟩, .int .i64 0, .int .i64 0, .int .u8 0, .bool false, .bool false, .int .i64 0, .int .i64 0, .int .i64 0, .int .u8 0, .int .u8 0, .int .i64 0, .int .i64 0, .bool false, .int .u8 0, .int .i64 0, .int .u16 0] 29)
  have R0 := Lib.hid (hr.below hb)
  have M0 : Hid (AtC ((w.alloc (.cells #[.int .u8 0, .string ⟨#[]⟩, .slice none 0 0, .int .u8 0, .string ⟨#[]⟩, .int .u8 0, .string ⟨#[]⟩, .int .u8 0, .string ⟨#[]⟩, .int .i64 0, .int .i64 0, .int .u8 0, .bool false, .bool false, .int .i64 0, .int .i64 0, .int .i64 0, .int .u8 0, .int .u8 0, .int .i64 0, .int .i64 0, .bool false, .int .u8 0, .int .i64 0, .int .u16 0] 29)).alloc (.cells #[.int .u8 0, .string ⟨#[]⟩, .slice none 0 0, .int .u8 0, .string ⟨#[]⟩, .int .u8 0, .string ⟨#[]⟩, .int .u8 0, .string ⟨#[]⟩, .int .i64 0, .int .i64 0, .int .u8 0, .bool false, .bool false, .int .i64 0, .int .i64 0, .int .i64 0, .int .u8 0, .int .u8 0, .int .i64 0, .int .i64 0, .bool false, .int .u8 0, .int .i64 0, .int .u16 0] 29)) w.heap.size #[.int .u8 0, .string ⟨#[]⟩, .slice none 0 0, .int .u8 0, .string ⟨#[]⟩, .int .u8 0, .string ⟨#[]⟩, .int .u8 0, .string ⟨#[]⟩, .int .i64 0, .int .i64 0, .int .u8 0, .bool false, .bool false, .int .i64 0, .int .i64 0, .int .i64 0, .int .u8 0, .int .u8 0, .int .i64 0, .int .i64 0, .bool false, .int .u8 0, .int .i64 0, .int .u16 0]) := Lib.hid ((AtC.new w #[.int .u8 0, .string ⟨#[]⟩, .slice none 0 0, .int .u8 0, .string ⟨#[]⟩, .int .u8 0, .string ⟨#[]⟩, .int .u8 0, .string ⟨#[]⟩, .int .i64 0, .int .i64 0, .int .u8 0, .bool false, .bool false, .int .i64 0, .int .i64 0, .int .i64 0, .int .u8 0, .int .u8 0, .int .i64 0, .int .i64 0, .bool false, .int .u8 0, .int .i64 0, .int .u16 0] 29).al (.cells #[.int .u8 0, .string ⟨#[]⟩, .slice none 0 0, .int .u8 0, .string ⟨#[]⟩, .int .u8 0, .string ⟨#[]⟩, .int .u8 0, .string ⟨#[]⟩, .int .i64 0, .int .i64 0, .int .u8 0, .bool false, .bool false, .int .i64 0, .int .i64 0, .int .i64 0, .int .u8 0, .int .u8 0, .int .i64 0, .int .i64 0, .bool false, .int .u8 0, .int .i64 0, .int .u16 0] 29))
  have N0 : Hid (AtC ((w.alloc (.cells #[.int .u8 0, .string ⟨#[]⟩, .slice none 0 0, .int .u8 0, .string ⟨#[]⟩, .int .u8 0, .string ⟨#[]⟩, .int .u8 0, .string ⟨#[]⟩, .int .i64 0, .int .i64 0, .int .u8 0, .bool false, .bool false, .int .i64 0, .int .i64 0, .int .i64 0, .int .u8 0, .int .u8 0, .int .i64 0, .int .i64 0, .bool false, .int .u8 0, .int .i64 0, .int .u16 0] 29)).alloc (.cells #[.int .u8 0, .string ⟨#[]⟩, .slice none 0 0, .int .u8 0, .string ⟨#[]⟩, .int .u8 0, .string ⟨#[]⟩, .int .u8 0, .string ⟨#[]⟩, .int .i64 0, .int .i64 0, .int .u8 0, .bool false, .bool false, .int .i64 0, .int .i64 0, .int .i64 0, .int .u8 0, .int .u8 0, .int .i64 0, .int .i64 0, .bool false, .int .u8 0, .int .i64 0, .int .u16 0] 29)) (w.heap.size + 1) #[.int .u8 0, .string ⟨#[]⟩, .slice none 0 0, .int .u8 0, .string ⟨#[]⟩, .int .u8 0, .string ⟨#[]⟩, .int .u8 0, .string ⟨#[]⟩, .int .i64 0, .int .i64 0, .int .u8 0, .bool false, .bool false, .int .i64 0, .int .i64 0, .int .i64 0, .int .u8 0, .int .u8 0, .int .i64 0, .int .i64 0, .bool false, .int .u8 0, .int .i64 0, .int .u16 0]) := Lib.hid (AtC.newAt (by simp))
  have K0 : Hid (Kept w ((w.alloc (.cells #[.int .u8 0, .string ⟨#[]⟩, .slice none 0 0, .int .u8 0, .string ⟨#[]⟩, .int .u8 0, .string ⟨#[]⟩, .int .u8 0, .string ⟨#[]⟩, .int .i64 0, .int .i64 0, .int .u8 0, .bool false, .bool false, .int .i64 0, .int .i64 0, .int .i64 0, .int .u8 0, .int .u8 0, .int .i64 0, .int .i64 0, .bool false, .int .u8 0, .int .i64 0, .int .u16 0] 29)).alloc (.cells #[.int .u8 0, .string ⟨#[]⟩, .slice none 0 0, .int .u8 0, .string ⟨#[]⟩, .int .u8 0, .string ⟨#[]⟩, .int .u8 0, .string ⟨#[]⟩, .int .i64 0, .int .i64 0, .int .u8 0, .bool false, .bool false, .int .i64 0, .int .i64 0, .int .i64 0, .int .u8 0, .int .u8 0, .int .i64 0, .int .i64 0, .bool false, .int .u8 0, .int .i64 0, .int .u16 0] 29)) (· ≠ Br)) := Lib.hid (.of_below hb)
  have S0 : Hid (w.heap.size + 2 ≤ ((w.alloc (.cells #[.int .u8 0, .string ⟨#[]⟩, .slice none 0 0, .int .u8 0, .string ⟨#[]⟩, .int .u8 0, .string ⟨#[]⟩, .int .u8 0, .string ⟨#[]⟩, .int .i64 0, .int .i64 0, .int .u8 0, .bool false, .bool false, .int .i64 0, .int .i64 0, .int .i64 0, .int .u8 0, .int .u8 0, .int .i64 0, .int .i64 0, .bool false, .int .u8 0, .int .i64 0, .int .u16 0] 29)).alloc (.cells #[.int .u8 0, .string ⟨#[]⟩, .slice none 0 0, .int .u8 0, .string ⟨#[]⟩, .int .u8 0, .string ⟨#[]⟩, .int .u8 0, .string ⟨#[]⟩, .int .i64 0, .int .i64 0, .int .u8 0, .bool false, .bool false, .int .i64 0, .int .i64 0, .int .i64 0, .int .u8 0, .int .u8 0, .int .i64 0, .int .i64 0, .bool false, .int .u8 0, .int .i64 0, .int .u16 0] 29)).heap.size) := Lib.hid (by simp)
  obtain ⟨s1, hs1⟩ : ∃ x, rest rdB s = x := ⟨_, rfl⟩
  obtain ⟨x2, hx2⟩ : ∃ x, told (0 : Nat) rdB s1 = x := ⟨_, rfl⟩
  obtain ⟨s2, hs2⟩ : ∃ x, rest rdB s1 = x := ⟨_, rfl⟩
  obtain ⟨x3, hx3⟩ : ∃ x, told ([] : Bs) rdS s2 = x := ⟨_, rfl⟩
  obtain ⟨s3, hs3⟩ : ∃ x, rest rdS s2 = x := ⟨_, rfl⟩
  obtain ⟨⟨l4, s4⟩, hx4⟩ : ∃ q, getF codS s3 = q := ⟨_, rfl⟩
  obtain ⟨⟨x5, s5⟩, hx5⟩ : ∃ q, getC s4 = q := ⟨_, rfl⟩
  obtain ⟨x6, hx6⟩ : ∃ x, told (0 : Nat) rdB s5 = x := ⟨_, rfl⟩
  obtain ⟨s6, hs6⟩ : ∃ x, rest rdB s5 = x := ⟨_, rfl⟩
  obtain ⟨x7, hx7⟩ : ∃ x, told (0 : Int) rdI s6 = x := ⟨_, rfl⟩
  obtain ⟨s7, hs7⟩ : ∃ x, rest rdI s6 = x := ⟨_, rfl⟩
  obtain ⟨x8, hx8⟩ : ∃ x, told (0 : Int) rdI s7 = x := ⟨_, rfl⟩
  obtain ⟨s8, hs8⟩ : ∃ x, rest rdI s7 = x := ⟨_, rfl⟩
  obtain ⟨x9, hx9⟩ : ∃ x, (told (0 : Nat) rdT s8 == 1) = x := ⟨_, rfl⟩
  obtain ⟨s9, hs9⟩ : ∃ x, rest rdT s8 = x := ⟨_, rfl⟩
  obtain ⟨x10, hx10⟩ : ∃ x, told (0 : Nat) rdB s9 = x := ⟨_, rfl⟩
  obtain ⟨s10, hs10⟩ : ∃ x, rest rdB s9 = x := ⟨_, rfl⟩
  obtain ⟨x11, hx11⟩ : ∃ x, told (0 : Int) rdI s10 = x := ⟨_, rfl⟩
  obtain ⟨s11, hs11⟩ : ∃ x, rest rdI s10 = x := ⟨_, rfl⟩
  obtain ⟨x12, hx12⟩ : ∃ x, told (0 : Nat) rdU s11 = x := ⟨_, rfl⟩
  obtain ⟨s12, hs12⟩ : ∃ x, rest rdU s11 = x := ⟨_, rfl⟩
  have HQ : Hid (getQ s = (⟨x2, bt x3, l4, x5, x6, x7, x8, x9, x10, x11, x12 % 65536⟩, s12)) := Lib.hid (by unfold getQ; simp only [hs1, hx2, hs2, hx3, hs3, hx4, hx5, hx6, hs6, hx7, hs7, hx8, hs8, hx9, hs9, hx10, hs10, hx11, hs11, hx12, hs12])
  have C1 : Hid (∀ W, RAt W Br s → Calls Tryz.prog 88 #[ptr Br] W fun e w' => ∃ v, e = .returned v ∧ RAt w' Br s1 ∧ Kept W w' (· ≠ Br)) := Lib.hid (fun W q => by have h := YX.octet_any2 Br s W q; rw [hs1] at h; exact h.mono fun e w' q => ⟨_, q⟩)
  have C2 : Hid (∀ W, RAt W Br s1 → Calls Tryz.prog 88 #[ptr Br] W fun e w' => e = .returned (.int .u8 (x2 : Nat)) ∧ RAt w' Br s2 ∧ Kept W w' (· ≠ Br)) := Lib.hid (fun W q => by have h := YX.octet_any2 Br s1 W q; simp only [hs2, hx2] at h; exact h)
  have C3 : Hid (∀ W, RAt W Br s2 → Calls Tryz.prog 89 #[ptr Br] W fun e w' => e = .returned (vS x3) ∧ RAt w' Br s3 ∧ Kept W w' (· ≠ Br)) := Lib.hid (fun W q => by have h := YX.text_any2 Br s2 W q; simp only [hs3, hx3] at h; exact h)
  have C4 : Hid (∀ W, RAt W Br s3 → Calls Tryz.prog 90 #[fm 81 89, ptr Br] W fun e w' => Lg strK W Br (l4, s4) e w') := Lib.hid (fun W q => by have h := getListS_any Br s3 81 W q; rw [hx4] at h; exact h)
  have CC := Lib.hid handles_any
  have C5 : Hid (∀ W, RAt W Br s4 → Calls Tryz.prog 91 #[ptr Br] W fun e w' => e = .returned (ch x5) ∧ RAt w' Br s5 ∧ Kept W w' (· ≠ Br)) := Lib.hid (fun W q => by have h := getChange_any Br s4 W q; rw [hx5] at h; exact h)
  have C6 : Hid (∀ W, RAt W Br s5 → Calls Tryz.prog 88 #[ptr Br] W fun e w' => e = .returned (.int .u8 (x6 : Nat)) ∧ RAt w' Br s6 ∧ Kept W w' (· ≠ Br)) := Lib.hid (fun W q => by have h := YX.octet_any2 Br s5 W q; simp only [hs6, hx6] at h; exact h)
  have C7 : Hid (∀ W, RAt W Br s6 → Calls Tryz.prog 92 #[ptr Br] W fun e w' => e = .returned (.int .i64 x7) ∧ RAt w' Br s7 ∧ Kept W w' (· ≠ Br)) := Lib.hid (fun W q => by have h := YX.signed_any2 Br s6 W q; simp only [hs7, hx7] at h; exact h)
  have C8 : Hid (∀ W, RAt W Br s7 → Calls Tryz.prog 92 #[ptr Br] W fun e w' => e = .returned (.int .i64 x8) ∧ RAt w' Br s8 ∧ Kept W w' (· ≠ Br)) := Lib.hid (fun W q => by have h := YX.signed_any2 Br s7 W q; simp only [hs8, hx8] at h; exact h)
  have C9 : Hid (∀ W, RAt W Br s8 → Calls Tryz.prog 93 #[ptr Br] W fun e w' => e = .returned (.bool x9) ∧ RAt w' Br s9 ∧ Kept W w' (· ≠ Br)) := Lib.hid (fun W q => by have h := YX.truth_any2 Br s8 W q; simp only [hs9, hx9] at h; exact h)
  have C10 : Hid (∀ W, RAt W Br s9 → Calls Tryz.prog 88 #[ptr Br] W fun e w' => e = .returned (.int .u8 (x10 : Nat)) ∧ RAt w' Br s10 ∧ Kept W w' (· ≠ Br)) := Lib.hid (fun W q => by have h := YX.octet_any2 Br s9 W q; simp only [hs10, hx10] at h; exact h)
  have C11 : Hid (∀ W, RAt W Br s10 → Calls Tryz.prog 92 #[ptr Br] W fun e w' => e = .returned (.int .i64 x11) ∧ RAt w' Br s11 ∧ Kept W w' (· ≠ Br)) := Lib.hid (fun W q => by have h := YX.signed_any2 Br s10 W q; simp only [hs11, hx11] at h; exact h)
  have C12 : Hid (∀ W, RAt W Br s11 → Calls Tryz.prog 94 #[ptr Br] W fun e w' => e = .returned (vU x12) ∧ RAt w' Br s12 ∧ Kept W w' (· ≠ Br)) := Lib.hid (fun W q => by have h := YX.unsigned_any2 Br s11 W q; simp only [hs12, hx12] at h; exact h)
  have hcv : IntKind.u16.wrap (x12 : Int) = ((x12 % 65536 : Nat) : Int) := by simp [IntKind.wrap, IntKind.bits, IntKind.signed]
  clear hr hb hs1 hx2 hs2 hx3 hs3 hx4 hx5 hx6 hs6 hx7 hs7 hx8 hs8 hx9 hs9 hx10 hs10 hx11 hs11 hx12 hs12
  go_enter Tryz.func65, Tryz.ntmps65
  go_upto_region 2 with fail
  change Code.wp _ _ _ _ ((w.alloc (.cells #[.int .u8 0, .string ⟨#[]⟩, .slice none 0 0, .int .u8 0, .string ⟨#[]⟩, .int .u8 0, .string ⟨#[]⟩, .int .u8 0, .string ⟨#[]⟩, .int .i64 0, .int .i64 0, .int .u8 0, .bool false, .bool false, .int .i64 0, .int .i64 0, .int .i64 0, .int .u8 0, .int .u8 0, .int .i64 0, .int .i64 0, .bool false, .int .u8 0, .int .i64 0, .int .u16 0] 29)).alloc (.cells #[.int .u8 0, .string ⟨#[]⟩, .slice none 0 0, .int .u8 0, .string ⟨#[]⟩, .int .u8 0, .string ⟨#[]⟩, .int .u8 0, .string ⟨#[]⟩, .int .i64 0, .int .i64 0, .int .u8 0, .bool false, .bool false, .int .i64 0, .int .i64 0, .int .i64 0, .int .u8 0, .int .u8 0, .int .i64 0, .int .i64 0, .bool false, .int .u8 0, .int .i64 0, .int .u16 0] 29))
  generalize ((w.alloc (.cells #[.int .u8 0, .string ⟨#[]⟩, .slice none 0 0, .int .u8 0, .string ⟨#[]⟩, .int .u8 0, .string ⟨#[]⟩, .int .u8 0, .string ⟨#[]⟩, .int .i64 0, .int .i64 0, .int .u8 0, .bool false, .bool false, .int .i64 0, .int .i64 0, .int .i64 0, .int .u8 0, .int .u8 0, .int .i64 0, .int .i64 0, .bool false, .int .u8 0, .int .i64 0, .int .u16 0] 29)).alloc (.cells #[.int .u8 0, .string ⟨#[]⟩, .slice none 0 0, .int .u8 0, .string ⟨#[]⟩, .int .u8 0, .string ⟨#[]⟩, .int .u8 0, .string ⟨#[]⟩, .int .i64 0, .int .i64 0, .int .u8 0, .bool false, .bool false, .int .i64 0, .int .i64 0, .int .i64 0, .int .u8 0, .int .u8 0, .int .i64 0, .int .i64 0, .bool false, .int .u8 0, .int .i64 0, .int .u16 0] 29)) = W0 at *
  go_upto_region 3 with (go_at_call 88; ((refine (C1.out _ R0.out).mono ?_); rintro e W1 ⟨v, rfl, r, k⟩; have R1 := Lib.hid r; have N1 := Lib.hid (N0.out.kept k (show w.heap.size + 1 ≠ Br by omega)); have M1 := Lib.hid (M0.out.kept k (show w.heap.size ≠ Br by omega)); have K1 := Lib.hid (K0.out.trans k); have S1 := Lib.hid (Nat.le_trans S0.out k.size); clear r k))
  clear R0 N0 M0 K0 S0 C1
  go_upto_region 4 with (go_at_call 88; ((refine (C2.out _ R1.out).mono ?_); rintro e wb ⟨rfl, r, k⟩; have n4 := N1.out.kept k (show w.heap.size + 1 ≠ Br by omega); have n4c := n4.c; have n4f := n4.f; have n4l := n4.lt; have RT := Lib.hid r; have KL := Lib.hid k; clear r k))
  have R2 := Lib.hid (RT.out.other (B2 := w.heap.size + 1) (kept_stC (fun _ h => h rfl) [.int .u8 (x2 : Nat)] 0 wb (Kept.refl _ _)) (by omega))
  have N2 : Hid (AtC (wb.setCell ⟨w.heap.size + 1, 0, none⟩ (.int .u8 (x2 : Nat))) (w.heap.size + 1) #[.int .u8 (x2 : Nat), .string ⟨#[]⟩, .slice none 0 0, .int .u8 0, .string ⟨#[]⟩, .int .u8 0, .string ⟨#[]⟩, .int .u8 0, .string ⟨#[]⟩, .int .i64 0, .int .i64 0, .int .u8 0, .bool false, .bool false, .int .i64 0, .int .i64 0, .int .i64 0, .int .u8 0, .int .u8 0, .int .i64 0, .int .i64 0, .bool false, .int .u8 0, .int .i64 0, .int .u16 0]) := Lib.hid (at_mid [.int .u8 (x2 : Nat)] [] [.int .u8 0] [.string ⟨#[]⟩, .slice none 0 0, .int .u8 0, .string ⟨#[]⟩, .int .u8 0, .string ⟨#[]⟩, .int .u8 0, .string ⟨#[]⟩, .int .i64 0, .int .i64 0, .int .u8 0, .bool false, .bool false, .int .i64 0, .int .i64 0, .int .i64 0, .int .u8 0, .int .u8 0, .int .i64 0, .int .i64 0, .bool false, .int .u8 0, .int .i64 0, .int .u16 0] wb n4 rfl)
  have K2 := Lib.hid (kept_stC (w := w) (P := (· ≠ Br)) (B := w.heap.size + 1) (fun h => absurd h (by omega)) [.int .u8 (x2 : Nat)] 0 wb (K1.out.trans KL.out))
  have M2 := Lib.hid (at_store [.int .u8 (x2 : Nat)] 0 wb _ (show w.heap.size ≠ w.heap.size + 1 by omega) (M1.out.kept KL.out (show w.heap.size ≠ Br by omega)))
  have S2 := Lib.hid (Nat.le_trans (Nat.le_trans S1.out KL.out.size) (kept_stC (P := (· ≠ w.heap.size + 1)) (fun _ h => h rfl) [.int .u8 (x2 : Nat)] 0 wb (Kept.refl wb _)).size)
  clear n4 n4c n4f n4l RT KL R1 N1 M1 K1 S1 C2
  change Code.wp _ _ _ _ (wb.setCell ⟨w.heap.size + 1, 0, none⟩ (.int .u8 (x2 : Nat)))
  try dsimp only [stC] at R2
  try dsimp only [stC] at K2
  try dsimp only [stC] at M2
  try dsimp only [stC] at S2
  generalize wb.setCell ⟨w.heap.size + 1, 0, none⟩ (.int .u8 (x2 : Nat)) = W2 at *
  go_upto_region 5 with (go_at_call 89; ((refine (C3.out _ R2.out).mono ?_); rintro e wb ⟨rfl, r, k⟩; have n4 := N2.out.kept k (show w.heap.size + 1 ≠ Br by omega); have n4c := n4.c; have n4f := n4.f; have n4l := n4.lt; have RT := Lib.hid r; have KL := Lib.hid k; clear r k))
  have R3 := Lib.hid (RT.out.other (B2 := w.heap.size + 1) (kept_stC (fun _ h => h rfl) [vS x3] 1 wb (Kept.refl _ _)) (by omega))
  have N3 : Hid (AtC (wb.setCell ⟨w.heap.size + 1, 1, none⟩ (vS x3)) (w.heap.size + 1) #[.int .u8 (x2 : Nat), vS x3, .slice none 0 0, .int .u8 0, .string ⟨#[]⟩, .int .u8 0, .string ⟨#[]⟩, .int .u8 0, .string ⟨#[]⟩, .int .i64 0, .int .i64 0, .int .u8 0, .bool false, .bool false, .int .i64 0, .int .i64 0, .int .i64 0, .int .u8 0, .int .u8 0, .int .i64 0, .int .i64 0, .bool false, .int .u8 0, .int .i64 0, .int .u16 0]) := Lib.hid (at_mid [vS x3] [.int .u8 (x2 : Nat)] [.string ⟨#[]⟩] [.slice none 0 0, .int .u8 0, .string ⟨#[]⟩, .int .u8 0, .string ⟨#[]⟩, .int .u8 0, .string ⟨#[]⟩, .int .i64 0, .int .i64 0, .int .u8 0, .bool false, .bool false, .int .i64 0, .int .i64 0, .int .i64 0, .int .u8 0, .int .u8 0, .int .i64 0, .int .i64 0, .bool false, .int .u8 0, .int .i64 0, .int .u16 0] wb n4 rfl)
  have K3 := Lib.hid (kept_stC (w := w) (P := (· ≠ Br)) (B := w.heap.size + 1) (fun h => absurd h (by omega)) [vS x3] 1 wb (K2.out.trans KL.out))
  have M3 := Lib.hid (at_store [vS x3] 1 wb _ (show w.heap.size ≠ w.heap.size + 1 by omega) (M2.out.kept KL.out (show w.heap.size ≠ Br by omega)))
  have S3 := Lib.hid (Nat.le_trans (Nat.le_trans S2.out KL.out.size) (kept_stC (P := (· ≠ w.heap.size + 1)) (fun _ h => h rfl) [vS x3] 1 wb (Kept.refl wb _)).size)
  clear n4 n4c n4f n4l RT KL R2 N2 M2 K2 S2 C3
  change Code.wp _ _ _ _ (wb.setCell ⟨w.heap.size + 1, 1, none⟩ (vS x3))
  try dsimp only [stC] at R3
  try dsimp only [stC] at K3
  try dsimp only [stC] at M3
  try dsimp only [stC] at S3
  generalize wb.setCell ⟨w.heap.size + 1, 1, none⟩ (vS x3) = W3 at *
  go_upto_region 6 with (first
    | (go_at_call 82; (with_reducible refine (CC.out _).mono ?_); rintro e wa ⟨rfl, k3⟩; have B3 : Hid (Below W3.heap.size W3 wa) := Lib.hid k3; have kC : Kept W3 wa (· ≠ Br) := .of_below B3.out; clear k3)
    | (go_at_call 90; (refine (C4.out _ (R3.out.below B3.out)).mono ?_); rintro e wb ⟨v, rfl, o4, r4, k4⟩; have KL : Hid (Kept W3 wb (· ≠ Br)) := Lib.hid (kC.trans k4); have OT := Lib.hid (o4.base (Nat.le_trans S3.out B3.out.size)); obtain ⟨A4, c4, rfl, _, _⟩ := o4.form; have n4 := N3.out.kept KL.out (show w.heap.size + 1 ≠ Br by omega); have n4c := n4.c 2; have n4f := n4.f; have n4l := n4.lt; have RT := Lib.hid r4; clear r4 k4 o4 kC))
  have R4 := Lib.hid (RT.out.other (B2 := w.heap.size + 1) (kept_stC (fun _ h => h rfl) [.slice A4 l4.length c4] 2 wb (Kept.refl _ _)) (by omega))
  have N4 : Hid (AtC (wb.setCell ⟨w.heap.size + 1, 2, none⟩ (.slice A4 l4.length c4)) (w.heap.size + 1) #[.int .u8 (x2 : Nat), vS x3, .slice A4 l4.length c4, .int .u8 0, .string ⟨#[]⟩, .int .u8 0, .string ⟨#[]⟩, .int .u8 0, .string ⟨#[]⟩, .int .i64 0, .int .i64 0, .int .u8 0, .bool false, .bool false, .int .i64 0, .int .i64 0, .int .i64 0, .int .u8 0, .int .u8 0, .int .i64 0, .int .i64 0, .bool false, .int .u8 0, .int .i64 0, .int .u16 0]) := Lib.hid (at_mid [.slice A4 l4.length c4] [.int .u8 (x2 : Nat), vS x3] [.slice none 0 0] [.int .u8 0, .string ⟨#[]⟩, .int .u8 0, .string ⟨#[]⟩, .int .u8 0, .string ⟨#[]⟩, .int .i64 0, .int .i64 0, .int .u8 0, .bool false, .bool false, .int .i64 0, .int .i64 0, .int .i64 0, .int .u8 0, .int .u8 0, .int .i64 0, .int .i64 0, .bool false, .int .u8 0, .int .i64 0, .int .u16 0] wb n4 rfl)
  have K4 := Lib.hid (kept_stC (w := w) (P := (· ≠ Br)) (B := w.heap.size + 1) (fun h => absurd h (by omega)) [.slice A4 l4.length c4] 2 wb (K3.out.trans KL.out))
  have M4 := Lib.hid (at_store [.slice A4 l4.length c4] 2 wb _ (show w.heap.size ≠ w.heap.size + 1 by omega) (M3.out.kept KL.out (show w.heap.size ≠ Br by omega)))
  have S4 := Lib.hid (Nat.le_trans (Nat.le_trans S3.out KL.out.size) (kept_stC (P := (· ≠ w.heap.size + 1)) (fun _ h => h rfl) [.slice A4 l4.length c4] 2 wb (Kept.refl wb _)).size)
  have OW4 := Lib.hid (OT.out.kept (kept_stC (fun _ h => h rfl) [.slice A4 l4.length c4] 2 wb (Kept.refl wb (· ≠ w.heap.size + 1))) (fun j e => by have h1 := (OT.out.lt j e).1; show j ≠ w.heap.size + 1; omega))
  clear n4 n4c n4f n4l RT KL CC OT R3 N3 M3 K3 S3 C4
  change Code.wp _ _ _ _ (wb.setCell ⟨w.heap.size + 1, 2, none⟩ (.slice A4 l4.length c4))
  try dsimp only [stC] at R4
  try dsimp only [stC] at K4
  try dsimp only [stC] at M4
  try dsimp only [stC] at S4
  try dsimp only [stC] at OW4
  generalize wb.setCell ⟨w.heap.size + 1, 2, none⟩ (.slice A4 l4.length c4) = W4 at *
  go_upto_region 7 with (go_at_call 91; ((refine (C5.out _ R4.out).mono ?_); rintro e wb ⟨rfl, r, k⟩; have n4 := N4.out.kept k (show w.heap.size + 1 ≠ Br by omega); have n4c := n4.c; have n4f := n4.f; have n4l := n4.lt; have RT := Lib.hid r; have KL := Lib.hid k; clear r k))
  have R5 := Lib.hid (RT.out.other (B2 := w.heap.size + 1) (kept_stC (fun _ h => h rfl) [.int .u8 x5.kind, .string x5.o.handle, .int .u8 x5.o.kind, .string x5.o.parent, .int .u8 x5.o.typ, .string x5.o.ref, .int .i64 x5.o.lo, .int .i64 x5.o.hi, .int .u8 x5.o.digits, .bool x5.o.on, .bool x5.o.has, .int .i64 x5.o.value, .int .i64 x5.o.low, .int .i64 x5.o.high, .int .u8 x5.o.assoc] 3 wb (Kept.refl _ _)) (by omega))
  have N5 : Hid (AtC (stC wb (w.heap.size + 1) 3 [.int .u8 x5.kind, .string x5.o.handle, .int .u8 x5.o.kind, .string x5.o.parent, .int .u8 x5.o.typ, .string x5.o.ref, .int .i64 x5.o.lo, .int .i64 x5.o.hi, .int .u8 x5.o.digits, .bool x5.o.on, .bool x5.o.has, .int .i64 x5.o.value, .int .i64 x5.o.low, .int .i64 x5.o.high, .int .u8 x5.o.assoc]) (w.heap.size + 1) #[.int .u8 (x2 : Nat), vS x3, .slice A4 l4.length c4, .int .u8 x5.kind, .string x5.o.handle, .int .u8 x5.o.kind, .string x5.o.parent, .int .u8 x5.o.typ, .string x5.o.ref, .int .i64 x5.o.lo, .int .i64 x5.o.hi, .int .u8 x5.o.digits, .bool x5.o.on, .bool x5.o.has, .int .i64 x5.o.value, .int .i64 x5.o.low, .int .i64 x5.o.high, .int .u8 x5.o.assoc, .int .u8 0, .int .i64 0, .int .i64 0, .bool false, .int .u8 0, .int .i64 0, .int .u16 0]) := Lib.hid (at_mid [.int .u8 x5.kind, .string x5.o.handle, .int .u8 x5.o.kind, .string x5.o.parent, .int .u8 x5.o.typ, .string x5.o.ref, .int .i64 x5.o.lo, .int .i64 x5.o.hi, .int .u8 x5.o.digits, .bool x5.o.on, .bool x5.o.has, .int .i64 x5.o.value, .int .i64 x5.o.low, .int .i64 x5.o.high, .int .u8 x5.o.assoc] [.int .u8 (x2 : Nat), vS x3, .slice A4 l4.length c4] [.int .u8 0, .string ⟨#[]⟩, .int .u8 0, .string ⟨#[]⟩, .int .u8 0, .string ⟨#[]⟩, .int .i64 0, .int .i64 0, .int .u8 0, .bool false, .bool false, .int .i64 0, .int .i64 0, .int .i64 0, .int .u8 0] [.int .u8 0, .int .i64 0, .int .i64 0, .bool false, .int .u8 0, .int .i64 0, .int .u16 0] wb n4 rfl)
  have K5 := Lib.hid (kept_stC (w := w) (P := (· ≠ Br)) (B := w.heap.size + 1) (fun h => absurd h (by omega)) [.int .u8 x5.kind, .string x5.o.handle, .int .u8 x5.o.kind, .string x5.o.parent, .int .u8 x5.o.typ, .string x5.o.ref, .int .i64 x5.o.lo, .int .i64 x5.o.hi, .int .u8 x5.o.digits, .bool x5.o.on, .bool x5.o.has, .int .i64 x5.o.value, .int .i64 x5.o.low, .int .i64 x5.o.high, .int .u8 x5.o.assoc] 3 wb (K4.out.trans KL.out))
  have M5 := Lib.hid (at_store [.int .u8 x5.kind, .string x5.o.handle, .int .u8 x5.o.kind, .string x5.o.parent, .int .u8 x5.o.typ, .string x5.o.ref, .int .i64 x5.o.lo, .int .i64 x5.o.hi, .int .u8 x5.o.digits, .bool x5.o.on, .bool x5.o.has, .int .i64 x5.o.value, .int .i64 x5.o.low, .int .i64 x5.o.high, .int .u8 x5.o.assoc] 3 wb _ (show w.heap.size ≠ w.heap.size + 1 by omega) (M4.out.kept KL.out (show w.heap.size ≠ Br by omega)))
  have S5 := Lib.hid (Nat.le_trans (Nat.le_trans S4.out KL.out.size) (kept_stC (P := (· ≠ w.heap.size + 1)) (fun _ h => h rfl) [.int .u8 x5.kind, .string x5.o.handle, .int .u8 x5.o.kind, .string x5.o.parent, .int .u8 x5.o.typ, .string x5.o.ref, .int .i64 x5.o.lo, .int .i64 x5.o.hi, .int .u8 x5.o.digits, .bool x5.o.on, .bool x5.o.has, .int .i64 x5.o.value, .int .i64 x5.o.low, .int .i64 x5.o.high, .int .u8 x5.o.assoc] 3 wb (Kept.refl wb _)).size)
  have OW4 := Lib.hid ((OW4.out.kept KL.out (fun j e => by have h1 := (OW4.out.lt j e).1; show j ≠ Br; omega)).kept (kept_stC (fun _ h => h rfl) [.int .u8 x5.kind, .string x5.o.handle, .int .u8 x5.o.kind, .string x5.o.parent, .int .u8 x5.o.typ, .string x5.o.ref, .int .i64 x5.o.lo, .int .i64 x5.o.hi, .int .u8 x5.o.digits, .bool x5.o.on, .bool x5.o.has, .int .i64 x5.o.value, .int .i64 x5.o.low, .int .i64 x5.o.high, .int .u8 x5.o.assoc] 3 wb (Kept.refl wb (· ≠ w.heap.size + 1))) (fun j e => by have h1 := (OW4.out.lt j e).1; show j ≠ w.heap.size + 1; omega))
  clear n4 n4c n4f n4l RT KL R4 N4 M4 K4 S4 C5
  change Code.wp _ _ _ _ (stC wb (w.heap.size + 1) 3 [.int .u8 x5.kind, .string x5.o.handle, .int .u8 x5.o.kind, .string x5.o.parent, .int .u8 x5.o.typ, .string x5.o.ref, .int .i64 x5.o.lo, .int .i64 x5.o.hi, .int .u8 x5.o.digits, .bool x5.o.on, .bool x5.o.has, .int .i64 x5.o.value, .int .i64 x5.o.low, .int .i64 x5.o.high, .int .u8 x5.o.assoc])
  generalize stC wb (w.heap.size + 1) 3 [.int .u8 x5.kind, .string x5.o.handle, .int .u8 x5.o.kind, .string x5.o.parent, .int .u8 x5.o.typ, .string x5.o.ref, .int .i64 x5.o.lo, .int .i64 x5.o.hi, .int .u8 x5.o.digits, .bool x5.o.on, .bool x5.o.has, .int .i64 x5.o.value, .int .i64 x5.o.low, .int .i64 x5.o.high, .int .u8 x5.o.assoc] = W5 at *
  go_upto_region 8 with (go_at_call 88; ((refine (C6.out _ R5.out).mono ?_); rintro e wb ⟨rfl, r, k⟩; have n4 := N5.out.kept k (show w.heap.size + 1 ≠ Br by omega); have n4c := n4.c; have n4f := n4.f; have n4l := n4.lt; have RT := Lib.hid r; have KL := Lib.hid k; clear r k))
  have R6 := Lib.hid (RT.out.other (B2 := w.heap.size + 1) (kept_stC (fun _ h => h rfl) [.int .u8 (x6 : Nat)] 18 wb (Kept.refl _ _)) (by omega))
  have N6 : Hid (AtC (wb.setCell ⟨w.heap.size + 1, 18, none⟩ (.int .u8 (x6 : Nat))) (w.heap.size + 1) #[.int .u8 (x2 : Nat), vS x3, .slice A4 l4.length c4, .int .u8 x5.kind, .string x5.o.handle, .int .u8 x5.o.kind, .string x5.o.parent, .int .u8 x5.o.typ, .string x5.o.ref, .int .i64 x5.o.lo, .int .i64 x5.o.hi, .int .u8 x5.o.digits, .bool x5.o.on, .bool x5.o.has, .int .i64 x5.o.value, .int .i64 x5.o.low, .int .i64 x5.o.high, .int .u8 x5.o.assoc, .int .u8 (x6 : Nat), .int .i64 0, .int .i64 0, .bool false, .int .u8 0, .int .i64 0, .int .u16 0]) := Lib.hid (at_mid [.int .u8 (x6 : Nat)] [.int .u8 (x2 : Nat), vS x3, .slice A4 l4.length c4, .int .u8 x5.kind, .string x5.o.handle, .int .u8 x5.o.kind, .string x5.o.parent, .int .u8 x5.o.typ, .string x5.o.ref, .int .i64 x5.o.lo, .int .i64 x5.o.hi, .int .u8 x5.o.digits, .bool x5.o.on, .bool x5.o.has, .int .i64 x5.o.value, .int .i64 x5.o.low, .int .i64 x5.o.high, .int .u8 x5.o.assoc] [.int .u8 0] [.int .i64 0, .int .i64 0, .bool false, .int .u8 0, .int .i64 0, .int .u16 0] wb n4 rfl)
  have K6 := Lib.hid (kept_stC (w := w) (P := (· ≠ Br)) (B := w.heap.size + 1) (fun h => absurd h (by omega)) [.int .u8 (x6 : Nat)] 18 wb (K5.out.trans KL.out))
  have M6 := Lib.hid (at_store [.int .u8 (x6 : Nat)] 18 wb _ (show w.heap.size ≠ w.heap.size + 1 by omega) (M5.out.kept KL.out (show w.heap.size ≠ Br by omega)))
  have S6 := Lib.hid (Nat.le_trans (Nat.le_trans S5.out KL.out.size) (kept_stC (P := (· ≠ w.heap.size + 1)) (fun _ h => h rfl) [.int .u8 (x6 : Nat)] 18 wb (Kept.refl wb _)).size)
  have OW4 := Lib.hid ((OW4.out.kept KL.out (fun j e => by have h1 := (OW4.out.lt j e).1; show j ≠ Br; omega)).kept (kept_stC (fun _ h => h rfl) [.int .u8 (x6 : Nat)] 18 wb (Kept.refl wb (· ≠ w.heap.size + 1))) (fun j e => by have h1 := (OW4.out.lt j e).1; show j ≠ w.heap.size + 1; omega))
  clear n4 n4c n4f n4l RT KL R5 N5 M5 K5 S5 C6
  change Code.wp _ _ _ _ (wb.setCell ⟨w.heap.size + 1, 18, none⟩ (.int .u8 (x6 : Nat)))
  try dsimp only [stC] at R6
  try dsimp only [stC] at K6
  try dsimp only [stC] at M6
  try dsimp only [stC] at S6
  try dsimp only [stC] at OW4
  generalize wb.setCell ⟨w.heap.size + 1, 18, none⟩ (.int .u8 (x6 : Nat)) = W6 at *
  go_upto_region 9 with (go_at_call 92; ((refine (C7.out _ R6.out).mono ?_); rintro e wb ⟨rfl, r, k⟩; have n4 := N6.out.kept k (show w.heap.size + 1 ≠ Br by omega); have n4c := n4.c; have n4f := n4.f; have n4l := n4.lt; have RT := Lib.hid r; have KL := Lib.hid k; clear r k))
  have R7 := Lib.hid (RT.out.other (B2 := w.heap.size + 1) (kept_stC (fun _ h => h rfl) [.int .i64 x7] 19 wb (Kept.refl _ _)) (by omega))
  have N7 : Hid (AtC (wb.setCell ⟨w.heap.size + 1, 19, none⟩ (.int .i64 x7)) (w.heap.size + 1) #[.int .u8 (x2 : Nat), vS x3, .slice A4 l4.length c4, .int .u8 x5.kind, .string x5.o.handle, .int .u8 x5.o.kind, .string x5.o.parent, .int .u8 x5.o.typ, .string x5.o.ref, .int .i64 x5.o.lo, .int .i64 x5.o.hi, .int .u8 x5.o.digits, .bool x5.o.on, .bool x5.o.has, .int .i64 x5.o.value, .int .i64 x5.o.low, .int .i64 x5.o.high, .int .u8 x5.o.assoc, .int .u8 (x6 : Nat), .int .i64 x7, .int .i64 0, .bool false, .int .u8 0, .int .i64 0, .int .u16 0]) := Lib.hid (at_mid [.int .i64 x7] [.int .u8 (x2 : Nat), vS x3, .slice A4 l4.length c4, .int .u8 x5.kind, .string x5.o.handle, .int .u8 x5.o.kind, .string x5.o.parent, .int .u8 x5.o.typ, .string x5.o.ref, .int .i64 x5.o.lo, .int .i64 x5.o.hi, .int .u8 x5.o.digits, .bool x5.o.on, .bool x5.o.has, .int .i64 x5.o.value, .int .i64 x5.o.low, .int .i64 x5.o.high, .int .u8 x5.o.assoc, .int .u8 (x6 : Nat)] [.int .i64 0] [.int .i64 0, .bool false, .int .u8 0, .int .i64 0, .int .u16 0] wb n4 rfl)
  have K7 := Lib.hid (kept_stC (w := w) (P := (· ≠ Br)) (B := w.heap.size + 1) (fun h => absurd h (by omega)) [.int .i64 x7] 19 wb (K6.out.trans KL.out))
  have M7 := Lib.hid (at_store [.int .i64 x7] 19 wb _ (show w.heap.size ≠ w.heap.size + 1 by omega) (M6.out.kept KL.out (show w.heap.size ≠ Br by omega)))
  have S7 := Lib.hid (Nat.le_trans (Nat.le_trans S6.out KL.out.size) (kept_stC (P := (· ≠ w.heap.size + 1)) (fun _ h => h rfl) [.int .i64 x7] 19 wb (Kept.refl wb _)).size)
  have OW4 := Lib.hid ((OW4.out.kept KL.out (fun j e => by have h1 := (OW4.out.lt j e).1; show j ≠ Br; omega)).kept (kept_stC (fun _ h => h rfl) [.int .i64 x7] 19 wb (Kept.refl wb (· ≠ w.heap.size + 1))) (fun j e => by have h1 := (OW4.out.lt j e).1; show j ≠ w.heap.size + 1; omega))
  clear n4 n4c n4f n4l RT KL R6 N6 M6 K6 S6 C7
  change Code.wp _ _ _ _ (wb.setCell ⟨w.heap.size + 1, 19, none⟩ (.int .i64 x7))
  try dsimp only [stC] at R7
  try dsimp only [stC] at K7
  try dsimp only [stC] at M7
  try dsimp only [stC] at S7
  try dsimp only [stC] at OW4
  generalize wb.setCell ⟨w.heap.size + 1, 19, none⟩ (.int .i64 x7) = W7 at *
  go_upto_region 10 with (go_at_call 92; ((refine (C8.out _ R7.out).mono ?_); rintro e wb ⟨rfl, r, k⟩; have n4 := N7.out.kept k (show w.heap.size + 1 ≠ Br by omega); have n4c := n4.c; have n4f := n4.f; have n4l := n4.lt; have RT := Lib.hid r; have KL := Lib.hid k; clear r k))
  have R8 := Lib.hid (RT.out.other (B2 := w.heap.size + 1) (kept_stC (fun _ h => h rfl) [.int .i64 x8] 20 wb (Kept.refl _ _)) (by omega))
  have N8 : Hid (AtC (wb.setCell ⟨w.heap.size + 1, 20, none⟩ (.int .i64 x8)) (w.heap.size + 1) #[.int .u8 (x2 : Nat), vS x3, .slice A4 l4.length c4, .int .u8 x5.kind, .string x5.o.handle, .int .u8 x5.o.kind, .string x5.o.parent, .int .u8 x5.o.typ, .string x5.o.ref, .int .i64 x5.o.lo, .int .i64 x5.o.hi, .int .u8 x5.o.digits, .bool x5.o.on, .bool x5.o.has, .int .i64 x5.o.value, .int .i64 x5.o.low, .int .i64 x5.o.high, .int .u8 x5.o.assoc, .int .u8 (x6 : Nat), .int .i64 x7, .int .i64 x8, .bool false, .int .u8 0, .int .i64 0, .int .u16 0]) := Lib.hid (at_mid [.int .i64 x8] [.int .u8 (x2 : Nat), vS x3, .slice A4 l4.length c4, .int .u8 x5.kind, .string x5.o.handle, .int .u8 x5.o.kind, .string x5.o.parent, .int .u8 x5.o.typ, .string x5.o.ref, .int .i64 x5.o.lo, .int .i64 x5.o.hi, .int .u8 x5.o.digits, .bool x5.o.on, .bool x5.o.has, .int .i64 x5.o.value, .int .i64 x5.o.low, .int .i64 x5.o.high, .int .u8 x5.o.assoc, .int .u8 (x6 : Nat), .int .i64 x7] [.int .i64 0] [.bool false, .int .u8 0, .int .i64 0, .int .u16 0] wb n4 rfl)
  have K8 := Lib.hid (kept_stC (w := w) (P := (· ≠ Br)) (B := w.heap.size + 1) (fun h => absurd h (by omega)) [.int .i64 x8] 20 wb (K7.out.trans KL.out))
  have M8 := Lib.hid (at_store [.int .i64 x8] 20 wb _ (show w.heap.size ≠ w.heap.size + 1 by omega) (M7.out.kept KL.out (show w.heap.size ≠ Br by omega)))
  have S8 := Lib.hid (Nat.le_trans (Nat.le_trans S7.out KL.out.size) (kept_stC (P := (· ≠ w.heap.size + 1)) (fun _ h => h rfl) [.int .i64 x8] 20 wb (Kept.refl wb _)).size)
  have OW4 := Lib.hid ((OW4.out.kept KL.out (fun j e => by have h1 := (OW4.out.lt j e).1; show j ≠ Br; omega)).kept (kept_stC (fun _ h => h rfl) [.int .i64 x8] 20 wb (Kept.refl wb (· ≠ w.heap.size + 1))) (fun j e => by have h1 := (OW4.out.lt j e).1; show j ≠ w.heap.size + 1; omega))
  clear n4 n4c n4f n4l RT KL R7 N7 M7 K7 S7 C8
  change Code.wp _ _ _ _ (wb.setCell ⟨w.heap.size + 1, 20, none⟩ (.int .i64 x8))
  try dsimp only [stC] at R8
  try dsimp only [stC] at K8
  try dsimp only [stC] at M8
  try dsimp only [stC] at S8
  try dsimp only [stC] at OW4
  generalize wb.setCell ⟨w.heap.size + 1, 20, none⟩ (.int .i64 x8) = W8 at *
  go_upto_region 11 with (go_at_call 93; ((refine (C9.out _ R8.out).mono ?_); rintro e wb ⟨rfl, r, k⟩; have n4 := N8.out.kept k (show w.heap.size + 1 ≠ Br by omega); have n4c := n4.c; have n4f := n4.f; have n4l := n4.lt; have RT := Lib.hid r; have KL := Lib.hid k; clear r k))
  have R9 := Lib.hid (RT.out.other (B2 := w.heap.size + 1) (kept_stC (fun _ h => h rfl) [.bool x9] 21 wb (Kept.refl _ _)) (by omega))
  have N9 : Hid (AtC (wb.setCell ⟨w.heap.size + 1, 21, none⟩ (.bool x9)) (w.heap.size + 1) #[.int .u8 (x2 : Nat), vS x3, .slice A4 l4.length c4, .int .u8 x5.kind, .string x5.o.handle, .int .u8 x5.o.kind, .string x5.o.parent, .int .u8 x5.o.typ, .string x5.o.ref, .int .i64 x5.o.lo, .int .i64 x5.o.hi, .int .u8 x5.o.digits, .bool x5.o.on, .bool x5.o.has, .int .i64 x5.o.value, .int .i64 x5.o.low, .int .i64 x5.o.high, .int .u8 x5.o.assoc, .int .u8 (x6 : Nat), .int .i64 x7, .int .i64 x8, .bool x9, .int .u8 0, .int .i64 0, .int .u16 0]) := Lib.hid (at_mid [.bool x9] [.int .u8 (x2 : Nat), vS x3, .slice A4 l4.length c4, .int .u8 x5.kind, .string x5.o.handle, .int .u8 x5.o.kind, .string x5.o.parent, .int .u8 x5.o.typ, .string x5.o.ref, .int .i64 x5.o.lo, .int .i64 x5.o.hi, .int .u8 x5.o.digits, .bool x5.o.on, .bool x5.o.has, .int .i64 x5.o.value, .int .i64 x5.o.low, .int .i64 x5.o.high, .int .u8 x5.o.assoc, .int .u8 (x6 : Nat), .int .i64 x7, .int .i64 x8] [.bool false] [.int .u8 0, .int .i64 0, .int .u16 0] wb n4 rfl)
  have K9 := Lib.hid (kept_stC (w := w) (P := (· ≠ Br)) (B := w.heap.size + 1) (fun h => absurd h (by omega)) [.bool x9] 21 wb (K8.out.trans KL.out))
  have M9 := Lib.hid (at_store [.bool x9] 21 wb _ (show w.heap.size ≠ w.heap.size + 1 by omega) (M8.out.kept KL.out (show w.heap.size ≠ Br by omega)))
  have S9 := Lib.hid (Nat.le_trans (Nat.le_trans S8.out KL.out.size) (kept_stC (P := (· ≠ w.heap.size + 1)) (fun _ h => h rfl) [.bool x9] 21 wb (Kept.refl wb _)).size)
  have OW4 := Lib.hid ((OW4.out.kept KL.out (fun j e => by have h1 := (OW4.out.lt j e).1; show j ≠ Br; omega)).kept (kept_stC (fun _ h => h rfl) [.bool x9] 21 wb (Kept.refl wb (· ≠ w.heap.size + 1))) (fun j e => by have h1 := (OW4.out.lt j e).1; show j ≠ w.heap.size + 1; omega))
  clear n4 n4c n4f n4l RT KL R8 N8 M8 K8 S8 C9
  change Code.wp _ _ _ _ (wb.setCell ⟨w.heap.size + 1, 21, none⟩ (.bool x9))
  try dsimp only [stC] at R9
  try dsimp only [stC] at K9
  try dsimp only [stC] at M9
  try dsimp only [stC] at S9
  try dsimp only [stC] at OW4
  generalize wb.setCell ⟨w.heap.size + 1, 21, none⟩ (.bool x9) = W9 at *
  go_upto_region 12 with (go_at_call 88; ((refine (C10.out _ R9.out).mono ?_); rintro e wb ⟨rfl, r, k⟩; have n4 := N9.out.kept k (show w.heap.size + 1 ≠ Br by omega); have n4c := n4.c; have n4f := n4.f; have n4l := n4.lt; have RT := Lib.hid r; have KL := Lib.hid k; clear r k))
  have R10 := Lib.hid (RT.out.other (B2 := w.heap.size + 1) (kept_stC (fun _ h => h rfl) [.int .u8 (x10 : Nat)] 22 wb (Kept.refl _ _)) (by omega))
  have N10 : Hid (AtC (wb.setCell ⟨w.heap.size + 1, 22, none⟩ (.int .u8 (x10 : Nat))) (w.heap.size + 1) #[.int .u8 (x2 : Nat), vS x3, .slice A4 l4.length c4, .int .u8 x5.kind, .string x5.o.handle, .int .u8 x5.o.kind, .string x5.o.parent, .int .u8 x5.o.typ, .string x5.o.ref, .int .i64 x5.o.lo, .int .i64 x5.o.hi, .int .u8 x5.o.digits, .bool x5.o.on, .bool x5.o.has, .int .i64 x5.o.value, .int .i64 x5.o.low, .int .i64 x5.o.high, .int .u8 x5.o.assoc, .int .u8 (x6 : Nat), .int .i64 x7, .int .i64 x8, .bool x9, .int .u8 (x10 : Nat), .int .i64 0, .int .u16 0]) := Lib.hid (at_mid [.int .u8 (x10 : Nat)] [.int .u8 (x2 : Nat), vS x3, .slice A4 l4.length c4, .int .u8 x5.kind, .string x5.o.handle, .int .u8 x5.o.kind, .string x5.o.parent, .int .u8 x5.o.typ, .string x5.o.ref, .int .i64 x5.o.lo, .int .i64 x5.o.hi, .int .u8 x5.o.digits, .bool x5.o.on, .bool x5.o.has, .int .i64 x5.o.value, .int .i64 x5.o.low, .int .i64 x5.o.high, .int .u8 x5.o.assoc, .int .u8 (x6 : Nat), .int .i64 x7, .int .i64 x8, .bool x9] [.int .u8 0] [.int .i64 0, .int .u16 0] wb n4 rfl)
  have K10 := Lib.hid (kept_stC (w := w) (P := (· ≠ Br)) (B := w.heap.size + 1) (fun h => absurd h (by omega)) [.int .u8 (x10 : Nat)] 22 wb (K9.out.trans KL.out))
  have M10 := Lib.hid (at_store [.int .u8 (x10 : Nat)] 22 wb _ (show w.heap.size ≠ w.heap.size + 1 by omega) (M9.out.kept KL.out (show w.heap.size ≠ Br by omega)))
  have S10 := Lib.hid (Nat.le_trans (Nat.le_trans S9.out KL.out.size) (kept_stC (P := (· ≠ w.heap.size + 1)) (fun _ h => h rfl) [.int .u8 (x10 : Nat)] 22 wb (Kept.refl wb _)).size)
  have OW4 := Lib.hid ((OW4.out.kept KL.out (fun j e => by have h1 := (OW4.out.lt j e).1; show j ≠ Br; omega)).kept (kept_stC (fun _ h => h rfl) [.int .u8 (x10 : Nat)] 22 wb (Kept.refl wb (· ≠ w.heap.size + 1))) (fun j e => by have h1 := (OW4.out.lt j e).1; show j ≠ w.heap.size + 1; omega))
  clear n4 n4c n4f n4l RT KL R9 N9 M9 K9 S9 C10
  change Code.wp _ _ _ _ (wb.setCell ⟨w.heap.size + 1, 22, none⟩ (.int .u8 (x10 : Nat)))
  try dsimp only [stC] at R10
  try dsimp only [stC] at K10
  try dsimp only [stC] at M10
  try dsimp only [stC] at S10
  try dsimp only [stC] at OW4
  generalize wb.setCell ⟨w.heap.size + 1, 22, none⟩ (.int .u8 (x10 : Nat)) = W10 at *
  go_upto_region 13 with (go_at_call 92; ((refine (C11.out _ R10.out).mono ?_); rintro e wb ⟨rfl, r, k⟩; have n4 := N10.out.kept k (show w.heap.size + 1 ≠ Br by omega); have n4c := n4.c; have n4f := n4.f; have n4l := n4.lt; have RT := Lib.hid r; have KL := Lib.hid k; clear r k))
  have R11 := Lib.hid (RT.out.other (B2 := w.heap.size + 1) (kept_stC (fun _ h => h rfl) [.int .i64 x11] 23 wb (Kept.refl _ _)) (by omega))
  have N11 : Hid (AtC (wb.setCell ⟨w.heap.size + 1, 23, none⟩ (.int .i64 x11)) (w.heap.size + 1) #[.int .u8 (x2 : Nat), vS x3, .slice A4 l4.length c4, .int .u8 x5.kind, .string x5.o.handle, .int .u8 x5.o.kind, .string x5.o.parent, .int .u8 x5.o.typ, .string x5.o.ref, .int .i64 x5.o.lo, .int .i64 x5.o.hi, .int .u8 x5.o.digits, .bool x5.o.on, .bool x5.o.has, .int .i64 x5.o.value, .int .i64 x5.o.low, .int .i64 x5.o.high, .int .u8 x5.o.assoc, .int .u8 (x6 : Nat), .int .i64 x7, .int .i64 x8, .bool x9, .int .u8 (x10 : Nat), .int .i64 x11, .int .u16 0]) := Lib.hid (at_mid [.int .i64 x11] [.int .u8 (x2 : Nat), vS x3, .slice A4 l4.length c4, .int .u8 x5.kind, .string x5.o.handle, .int .u8 x5.o.kind, .string x5.o.parent, .int .u8 x5.o.typ, .string x5.o.ref, .int .i64 x5.o.lo, .int .i64 x5.o.hi, .int .u8 x5.o.digits, .bool x5.o.on, .bool x5.o.has, .int .i64 x5.o.value, .int .i64 x5.o.low, .int .i64 x5.o.high, .int .u8 x5.o.assoc, .int .u8 (x6 : Nat), .int .i64 x7, .int .i64 x8, .bool x9, .int .u8 (x10 : Nat)] [.int .i64 0] [.int .u16 0] wb n4 rfl)
  have K11 := Lib.hid (kept_stC (w := w) (P := (· ≠ Br)) (B := w.heap.size + 1) (fun h => absurd h (by omega)) [.int .i64 x11] 23 wb (K10.out.trans KL.out))
  have M11 := Lib.hid (at_store [.int .i64 x11] 23 wb _ (show w.heap.size ≠ w.heap.size + 1 by omega) (M10.out.kept KL.out (show w.heap.size ≠ Br by omega)))
  have S11 := Lib.hid (Nat.le_trans (Nat.le_trans S10.out KL.out.size) (kept_stC (P := (· ≠ w.heap.size + 1)) (fun _ h => h rfl) [.int .i64 x11] 23 wb (Kept.refl wb _)).size)
  have OW4 := Lib.hid ((OW4.out.kept KL.out (fun j e => by have h1 := (OW4.out.lt j e).1; show j ≠ Br; omega)).kept (kept_stC (fun _ h => h rfl) [.int .i64 x11] 23 wb (Kept.refl wb (· ≠ w.heap.size + 1))) (fun j e => by have h1 := (OW4.out.lt j e).1; show j ≠ w.heap.size + 1; omega))
  clear n4 n4c n4f n4l RT KL R10 N10 M10 K10 S10 C11
  change Code.wp _ _ _ _ (wb.setCell ⟨w.heap.size + 1, 23, none⟩ (.int .i64 x11))
  try dsimp only [stC] at R11
  try dsimp only [stC] at K11
  try dsimp only [stC] at M11
  try dsimp only [stC] at S11
  try dsimp only [stC] at OW4
  generalize wb.setCell ⟨w.heap.size + 1, 23, none⟩ (.int .i64 x11) = W11 at *
  go_upto_region 14 with (go_at_call 94; ((refine (C12.out _ R11.out).mono ?_); rintro e wb ⟨rfl, r, k⟩; have n4 := N11.out.kept k (show w.heap.size + 1 ≠ Br by omega); have n4c := n4.c; have n4f := n4.f; have n4l := n4.lt; have RT := Lib.hid r; have KL := Lib.hid k; clear r k))
  have R12 := Lib.hid (RT.out.other (B2 := w.heap.size + 1) (kept_stC (fun _ h => h rfl) [.int .u16 (x12 % 65536 : Nat)] 24 wb (Kept.refl _ _)) (by omega))
  have N12 : Hid (AtC (wb.setCell ⟨w.heap.size + 1, 24, none⟩ (.int .u16 (x12 % 65536 : Nat))) (w.heap.size + 1) #[.int .u8 (x2 : Nat), vS x3, .slice A4 l4.length c4, .int .u8 x5.kind, .string x5.o.handle, .int .u8 x5.o.kind, .string x5.o.parent, .int .u8 x5.o.typ, .string x5.o.ref, .int .i64 x5.o.lo, .int .i64 x5.o.hi, .int .u8 x5.o.digits, .bool x5.o.on, .bool x5.o.has, .int .i64 x5.o.value, .int .i64 x5.o.low, .int .i64 x5.o.high, .int .u8 x5.o.assoc, .int .u8 (x6 : Nat), .int .i64 x7, .int .i64 x8, .bool x9, .int .u8 (x10 : Nat), .int .i64 x11, .int .u16 (x12 % 65536 : Nat)]) := Lib.hid (at_mid [.int .u16 (x12 % 65536 : Nat)] [.int .u8 (x2 : Nat), vS x3, .slice A4 l4.length c4, .int .u8 x5.kind, .string x5.o.handle, .int .u8 x5.o.kind, .string x5.o.parent, .int .u8 x5.o.typ, .string x5.o.ref, .int .i64 x5.o.lo, .int .i64 x5.o.hi, .int .u8 x5.o.digits, .bool x5.o.on, .bool x5.o.has, .int .i64 x5.o.value, .int .i64 x5.o.low, .int .i64 x5.o.high, .int .u8 x5.o.assoc, .int .u8 (x6 : Nat), .int .i64 x7, .int .i64 x8, .bool x9, .int .u8 (x10 : Nat), .int .i64 x11] [.int .u16 0] [] wb n4 rfl)
  have K12 := Lib.hid (kept_stC (w := w) (P := (· ≠ Br)) (B := w.heap.size + 1) (fun h => absurd h (by omega)) [.int .u16 (x12 % 65536 : Nat)] 24 wb (K11.out.trans KL.out))
  have M12 := Lib.hid (at_store [.int .u16 (x12 % 65536 : Nat)] 24 wb _ (show w.heap.size ≠ w.heap.size + 1 by omega) (M11.out.kept KL.out (show w.heap.size ≠ Br by omega)))
  have S12 := Lib.hid (Nat.le_trans (Nat.le_trans S11.out KL.out.size) (kept_stC (P := (· ≠ w.heap.size + 1)) (fun _ h => h rfl) [.int .u16 (x12 % 65536 : Nat)] 24 wb (Kept.refl wb _)).size)
  have OW4 := Lib.hid ((OW4.out.kept KL.out (fun j e => by have h1 := (OW4.out.lt j e).1; show j ≠ Br; omega)).kept (kept_stC (fun _ h => h rfl) [.int .u16 (x12 % 65536 : Nat)] 24 wb (Kept.refl wb (· ≠ w.heap.size + 1))) (fun j e => by have h1 := (OW4.out.lt j e).1; show j ≠ w.heap.size + 1; omega))
  clear n4 n4c n4f n4l RT KL R11 N11 M11 K11 S11 C12
  change Code.wp _ _ _ _ (wb.setCell ⟨w.heap.size + 1, 24, none⟩ (.int .u16 (x12 % 65536 : Nat)))
  try dsimp only [stC] at R12
  try dsimp only [stC] at K12
  try dsimp only [stC] at M12
  try dsimp only [stC] at S12
  try dsimp only [stC] at OW4
  generalize wb.setCell ⟨w.heap.size + 1, 24, none⟩ (.int .u16 (x12 % 65536 : Nat)) = W12 at *
  have n5 := N12.out
  have m6 := M12.out
  have hc : W12.rangeAt (w.heap.size + 1) 0 (#[.int .u8 (x2 : Nat), vS x3, .slice A4 l4.length c4, .int .u8 x5.kind, .string x5.o.handle, .int .u8 x5.o.kind, .string x5.o.parent, .int .u8 x5.o.typ, .string x5.o.ref, .int .i64 x5.o.lo, .int .i64 x5.o.hi, .int .u8 x5.o.digits, .bool x5.o.on, .bool x5.o.has, .int .i64 x5.o.value, .int .i64 x5.o.low, .int .i64 x5.o.high, .int .u8 x5.o.assoc, .int .u8 (x6 : Nat), .int .i64 x7, .int .i64 x8, .bool x9, .int .u8 (x10 : Nat), .int .i64 x11, .int .u16 (x12 % 65536 : Nat)] : Array Value).toList := fun j v hv => by
    rw [Nat.zero_add, n5.c j, ← hv]; exact Array.getElem?_toList.symm
  have ht : W12.there w.heap.size 0 (#[.int .u8 (x2 : Nat), vS x3, .slice A4 l4.length c4, .int .u8 x5.kind, .string x5.o.handle, .int .u8 x5.o.kind, .string x5.o.parent, .int .u8 x5.o.typ, .string x5.o.ref, .int .i64 x5.o.lo, .int .i64 x5.o.hi, .int .u8 x5.o.digits, .bool x5.o.on, .bool x5.o.has, .int .i64 x5.o.value, .int .i64 x5.o.low, .int .i64 x5.o.high, .int .u8 x5.o.assoc, .int .u8 (x6 : Nat), .int .i64 x7, .int .i64 x8, .bool x9, .int .u8 (x10 : Nat), .int .i64 x11, .int .u16 (x12 % 65536 : Nat)] : Array Value).size := fun j hj => by
    rw [Nat.zero_add]
    refine ⟨?_, m6.f j⟩
    rw [m6.c j]
    have hj : j < 25 := hj
    have : j < (#[.int .u8 0, .string ⟨#[]⟩, .slice none 0 0, .int .u8 0, .string ⟨#[]⟩, .int .u8 0, .string ⟨#[]⟩, .int .u8 0, .string ⟨#[]⟩, .int .i64 0, .int .i64 0, .int .u8 0, .bool false, .bool false, .int .i64 0, .int .i64 0, .int .i64 0, .int .u8 0, .int .u8 0, .int .i64 0, .int .i64 0, .bool false, .int .u8 0, .int .i64 0, .int .u16 0] : Array Value).size := hj
    rw [Array.getElem?_eq_getElem this]; rfl
  have h1 : (#[.int .u8 (x2 : Nat), vS x3, .slice A4 l4.length c4, .int .u8 x5.kind, .string x5.o.handle, .int .u8 x5.o.kind, .string x5.o.parent, .int .u8 x5.o.typ, .string x5.o.ref, .int .i64 x5.o.lo, .int .i64 x5.o.hi, .int .u8 x5.o.digits, .bool x5.o.on, .bool x5.o.has, .int .i64 x5.o.value, .int .i64 x5.o.low, .int .i64 x5.o.high, .int .u8 x5.o.assoc, .int .u8 (x6 : Nat), .int .i64 x7, .int .i64 x8, .bool x9, .int .u8 (x10 : Nat), .int .i64 x11, .int .u16 (x12 % 65536 : Nat)] : Array Value).all (·.oneCell') = true := all_oneCell_toArray (fun v hv => by simp at hv; rcases hv with rfl | rfl | rfl | rfl | rfl | rfl | rfl | rfl | rfl | rfl | rfl | rfl | rfl | rfl | rfl | rfl | rfl | rfl | rfl | rfl | rfl | rfl | rfl | rfl | rfl <;> rfl)
  refine wp_region_list ?_
  refine wpList_load_mid rfl _ _ rfl (w.heap.size + 1) 0 rfl (#[.int .u8 (x2 : Nat), vS x3, .slice A4 l4.length c4, .int .u8 x5.kind, .string x5.o.handle, .int .u8 x5.o.kind, .string x5.o.parent, .int .u8 x5.o.typ, .string x5.o.ref, .int .i64 x5.o.lo, .int .i64 x5.o.hi, .int .u8 x5.o.digits, .bool x5.o.on, .bool x5.o.has, .int .i64 x5.o.value, .int .i64 x5.o.low, .int .i64 x5.o.high, .int .u8 x5.o.assoc, .int .u8 (x6 : Nat), .int .i64 x7, .int .i64 x8, .bool x9, .int .u8 (x10 : Nat), .int .i64 x11, .int .u16 (x12 % 65536 : Nat)] : Array Value).toList _ hc Tryz.underlying29 rfl (by kernel_rfl) ?_
  refine wpList_store_mid rfl _ _ _ rfl w.heap.size 0 (#[.int .u8 (x2 : Nat), vS x3, .slice A4 l4.length c4, .int .u8 x5.kind, .string x5.o.handle, .int .u8 x5.o.kind, .string x5.o.parent, .int .u8 x5.o.typ, .string x5.o.ref, .int .i64 x5.o.lo, .int .i64 x5.o.hi, .int .u8 x5.o.digits, .bool x5.o.on, .bool x5.o.has, .int .i64 x5.o.value, .int .i64 x5.o.low, .int .i64 x5.o.high, .int .u8 x5.o.assoc, .int .u8 (x6 : Nat), .int .i64 x7, .int .i64 x8, .bool x9, .int .u8 (x10 : Nat), .int .i64 x11, .int .u16 (x12 % 65536 : Nat)]) rfl rfl ht (by kernel_rfl) h1 ?_
  have eS : W12.setCells w.heap.size 0 (#[.int .u8 (x2 : Nat), vS x3, .slice A4 l4.length c4, .int .u8 x5.kind, .string x5.o.handle, .int .u8 x5.o.kind, .string x5.o.parent, .int .u8 x5.o.typ, .string x5.o.ref, .int .i64 x5.o.lo, .int .i64 x5.o.hi, .int .u8 x5.o.digits, .bool x5.o.on, .bool x5.o.has, .int .i64 x5.o.value, .int .i64 x5.o.low, .int .i64 x5.o.high, .int .u8 x5.o.assoc, .int .u8 (x6 : Nat), .int .i64 x7, .int .i64 x8, .bool x9, .int .u8 (x10 : Nat), .int .i64 x11, .int .u16 (x12 % 65536 : Nat)] : Array Value).toList = stC W12 w.heap.size 0 (#[.int .u8 (x2 : Nat), vS x3, .slice A4 l4.length c4, .int .u8 x5.kind, .string x5.o.handle, .int .u8 x5.o.kind, .string x5.o.parent, .int .u8 x5.o.typ, .string x5.o.ref, .int .i64 x5.o.lo, .int .i64 x5.o.hi, .int .u8 x5.o.digits, .bool x5.o.on, .bool x5.o.has, .int .i64 x5.o.value, .int .i64 x5.o.low, .int .i64 x5.o.high, .int .u8 x5.o.assoc, .int .u8 (x6 : Nat), .int .i64 x7, .int .i64 x8, .bool x9, .int .u8 (x10 : Nat), .int .i64 x11, .int .u16 (x12 % 65536 : Nat)] : Array Value).toList := setCells_st _ _ _ _
  rw [eS]
  have mF : AtC (stC W12 w.heap.size 0 (#[.int .u8 (x2 : Nat), vS x3, .slice A4 l4.length c4, .int .u8 x5.kind, .string x5.o.handle, .int .u8 x5.o.kind, .string x5.o.parent, .int .u8 x5.o.typ, .string x5.o.ref, .int .i64 x5.o.lo, .int .i64 x5.o.hi, .int .u8 x5.o.digits, .bool x5.o.on, .bool x5.o.has, .int .i64 x5.o.value, .int .i64 x5.o.low, .int .i64 x5.o.high, .int .u8 x5.o.assoc, .int .u8 (x6 : Nat), .int .i64 x7, .int .i64 x8, .bool x9, .int .u8 (x10 : Nat), .int .i64 x11, .int .u16 (x12 % 65536 : Nat)] : Array Value).toList) w.heap.size #[.int .u8 (x2 : Nat), vS x3, .slice A4 l4.length c4, .int .u8 x5.kind, .string x5.o.handle, .int .u8 x5.o.kind, .string x5.o.parent, .int .u8 x5.o.typ, .string x5.o.ref, .int .i64 x5.o.lo, .int .i64 x5.o.hi, .int .u8 x5.o.digits, .bool x5.o.on, .bool x5.o.has, .int .i64 x5.o.value, .int .i64 x5.o.low, .int .i64 x5.o.high, .int .u8 x5.o.assoc, .int .u8 (x6 : Nat), .int .i64 x7, .int .i64 x8, .bool x9, .int .u8 (x10 : Nat), .int .i64 x11, .int .u16 (x12 % 65536 : Nat)] := at_all [.int .u8 0, .string ⟨#[]⟩, .slice none 0 0, .int .u8 0, .string ⟨#[]⟩, .int .u8 0, .string ⟨#[]⟩, .int .u8 0, .string ⟨#[]⟩, .int .i64 0, .int .i64 0, .int .u8 0, .bool false, .bool false, .int .i64 0, .int .i64 0, .int .i64 0, .int .u8 0, .int .u8 0, .int .i64 0, .int .i64 0, .bool false, .int .u8 0, .int .i64 0, .int .u16 0] [.int .u8 (x2 : Nat), vS x3, .slice A4 l4.length c4, .int .u8 x5.kind, .string x5.o.handle, .int .u8 x5.o.kind, .string x5.o.parent, .int .u8 x5.o.typ, .string x5.o.ref, .int .i64 x5.o.lo, .int .i64 x5.o.hi, .int .u8 x5.o.digits, .bool x5.o.on, .bool x5.o.has, .int .i64 x5.o.value, .int .i64 x5.o.low, .int .i64 x5.o.high, .int .u8 x5.o.assoc, .int .u8 (x6 : Nat), .int .i64 x7, .int .i64 x8, .bool x9, .int .u8 (x10 : Nat), .int .i64 x11, .int .u16 (x12 % 65536 : Nat)] m6 rfl
  have HF : Hid (RAt (stC W12 w.heap.size 0 (#[.int .u8 (x2 : Nat), vS x3, .slice A4 l4.length c4, .int .u8 x5.kind, .string x5.o.handle, .int .u8 x5.o.kind, .string x5.o.parent, .int .u8 x5.o.typ, .string x5.o.ref, .int .i64 x5.o.lo, .int .i64 x5.o.hi, .int .u8 x5.o.digits, .bool x5.o.on, .bool x5.o.has, .int .i64 x5.o.value, .int .i64 x5.o.low, .int .i64 x5.o.high, .int .u8 x5.o.assoc, .int .u8 (x6 : Nat), .int .i64 x7, .int .i64 x8, .bool x9, .int .u8 (x10 : Nat), .int .i64 x11, .int .u16 (x12 % 65536 : Nat)] : Array Value).toList) Br s12) := Lib.hid (RAt.other (B2 := w.heap.size) R12.out (kept_stC (fun _ h => h rfl) _ 0 W12 (Kept.refl _ _)) hBr)
  have KF : Hid (Kept w (stC W12 w.heap.size 0 (#[.int .u8 (x2 : Nat), vS x3, .slice A4 l4.length c4, .int .u8 x5.kind, .string x5.o.handle, .int .u8 x5.o.kind, .string x5.o.parent, .int .u8 x5.o.typ, .string x5.o.ref, .int .i64 x5.o.lo, .int .i64 x5.o.hi, .int .u8 x5.o.digits, .bool x5.o.on, .bool x5.o.has, .int .i64 x5.o.value, .int .i64 x5.o.low, .int .i64 x5.o.high, .int .u8 x5.o.assoc, .int .u8 (x6 : Nat), .int .i64 x7, .int .i64 x8, .bool x9, .int .u8 (x10 : Nat), .int .i64 x11, .int .u16 (x12 % 65536 : Nat)] : Array Value).toList) (· ≠ Br)) := Lib.hid (kept_stC (fun h => absurd h (by omega)) _ 0 W12 K12.out)
  have OF4 := Lib.hid ((OW4.out.kept (kept_stC (fun _ h => h rfl) (#[.int .u8 (x2 : Nat), vS x3, .slice A4 l4.length c4, .int .u8 x5.kind, .string x5.o.handle, .int .u8 x5.o.kind, .string x5.o.parent, .int .u8 x5.o.typ, .string x5.o.ref, .int .i64 x5.o.lo, .int .i64 x5.o.hi, .int .u8 x5.o.digits, .bool x5.o.on, .bool x5.o.has, .int .i64 x5.o.value, .int .i64 x5.o.low, .int .i64 x5.o.high, .int .u8 x5.o.assoc, .int .u8 (x6 : Nat), .int .i64 x7, .int .i64 x8, .bool x9, .int .u8 (x10 : Nat), .int .i64 x11, .int .u16 (x12 % 65536 : Nat)] : Array Value).toList 0 W12 (Kept.refl W12 (· ≠ w.heap.size))) (fun j e => by have h1 := (OW4.out.lt j e).1; show j ≠ w.heap.size; omega)).base (show w.heap.size ≤ w.heap.size + 2 by omega))
  clear eS hc ht h1 n5 m6
  generalize stC W12 w.heap.size 0 (#[.int .u8 (x2 : Nat), vS x3, .slice A4 l4.length c4, .int .u8 x5.kind, .string x5.o.handle, .int .u8 x5.o.kind, .string x5.o.parent, .int .u8 x5.o.typ, .string x5.o.ref, .int .i64 x5.o.lo, .int .i64 x5.o.hi, .int .u8 x5.o.digits, .bool x5.o.on, .bool x5.o.has, .int .i64 x5.o.value, .int .i64 x5.o.low, .int .i64 x5.o.high, .int .u8 x5.o.assoc, .int .u8 (x6 : Nat), .int .i64 x7, .int .i64 x8, .bool x9, .int .u8 (x10 : Nat), .int .i64 x11, .int .u16 (x12 % 65536 : Nat)] : Array Value).toList = WF at *
  go_wp2
  refine ret_row (C := #[.int .u8 (x2 : Nat), vS x3, .slice A4 l4.length c4, .int .u8 x5.kind, .string x5.o.handle, .int .u8 x5.o.kind, .string x5.o.parent, .int .u8 x5.o.typ, .string x5.o.ref, .int .i64 x5.o.lo, .int .i64 x5.o.hi, .int .u8 x5.o.digits, .bool x5.o.on, .bool x5.o.has, .int .i64 x5.o.value, .int .i64 x5.o.low, .int .i64 x5.o.high, .int .u8 x5.o.assoc, .int .u8 (x6 : Nat), .int .i64 x7, .int .i64 x8, .bool x9, .int .u8 (x10 : Nat), .int .i64 x11, .int .u16 (x12 % 65536 : Nat)]) (B := w.heap.size) rfl rfl rfl mF (by kernel_rfl) (by kernel_rfl) ?_
  rw [HQ.out]
  exact ⟨A4, c4, rfl, OF4.out, HF.out, KF.out⟩
end Go.Proofs.YtjocbokfdfdkeaaGreat.PX
