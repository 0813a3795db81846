/-
  WALK: the program's getFrame.
-/
import Derived.Test.YtkgjgbenfpkekaaJKit
import Derived.Test.YtkgjgbenfpkekaaYByte
import Derived.Laws.MakeOwn
namespace Go.Proofs.Ytkgjgbenfpkekaa.JX
open Go.RowKit HL
open IX (ptr El cellsK cellsK_at cellsK_len OwnK RdK Kept)
open YX (numB rdU rdB addW told rest u8K RAt u8 vU)
open PX (RowAt row_made row_set set_rep)
set_option maxRecDepth 100000
set_option linter.unusedVariables false
set_option linter.unusedSimpArgs false

theorem row_set1 {W : World} {g k : Nat} {l : Bs} (h : RowAt u8K W g l) (hk : k < l.length) (y : UInt8) : RowAt u8K (W.setCell ⟨g, k, none⟩ (u8 y)) g (l.set k y) := by
  have := row_set (K := u8K) h hk y
  have e : k * u8K.size = k := by show k * 1 = k; omega
  rw [e] at this
  exact this
theorem row_f {W : World} {g : Nat} {l : Bs} (h : RowAt u8K W g l) {k : Nat} (hk : k < l.length) : ∃ v, W.cell? ⟨g, k, none⟩ = some v := by
  have hc : k < (cellsK u8K l).toArray.size := by rw [List.size_toArray, cellsK_len]; show k < l.length * 1; omega
  exact ⟨_, (h.c k).trans (Array.getElem?_eq_getElem hc)⟩
/-- What getFrame tells: a row of its own, or one of no bytes. -/
def Gt (w0 : World) (Br : Nat) (l : Bs) (e : Ending) (w' : World) : Prop :=
  match cutF l with
  | some (f, q) => ∃ g, e = .returned (.slice (some ⟨g, 0, none⟩) f.length f.length) ∧ w0.heap.size ≤ g ∧ RowAt u8K w' g f ∧ RAt w' Br (some q) ∧ 1 ≤ f.length ∧ f.length ≤ 4096 ∧ Kept w0 w' (· ≠ Br)
  | none => ∃ A c, e = .returned (.slice A 0 c) ∧ Kept w0 w' (· ≠ Br)
theorem mk_any (m : Nat) (hm : m ≤ 100000) (W : World) : (Instr.makeSlice 26 (.int .u64 m) (.int .u64 m)).run Try.prog W = .ok (.slice (some ⟨W.heap.size, 0, none⟩) m m) (W.alloc (.cells (madeCells #[.int .u8 0] (m * u8K.size)) 5)) := by
  have e : (IX.infoOf 5).size = 1 := by kernel_rfl
  have e2 : (IX.infoOf 5).bytes = 1 := by kernel_rfl
  have := run_makeSlice (P := Try.prog) W 26 5 (IX.infoOf 5) (.int .u8 0) Try.underlying26 (by kernel_rfl) (by kernel_rfl) .u64 .u64 (m : Int) (m : Int) (by omega) (Int.le_refl _) (by rw [e]; simp; omega) (by rw [e2]; omega) (by omega)
  rw [e, show (Value.int .u8 0).cells = #[.int .u8 0] from rfl] at this
  exact this
set_option maxHeartbeats 4000000 in
theorem getFrame_bad (Br n : Nat) (st : Option Bs) (w : World) (h : Calls Try.prog 52 #[ptr Br] w fun e w' => e = .returned (vU n) ∧ RAt w' Br st ∧ Kept w w' (· ≠ Br)) (hb : 4096 < n ∨ (st.getD []).length < n) (hs : (st.getD []).length ≤ 1000000) :
    Calls Try.prog 56 #[ptr Br] w fun e w' => ∃ A c, e = .returned (.slice A 0 c) ∧ Kept w w' (· ≠ Br) := by
  have CU := Lib.hid h
  have CL := Lib.hid (fun (W : World) (q : RAt W Br st) => YX.left_any Br st W q)
  have hw : IntKind.u64.wrap (((st.getD []).length : Nat) : Int) = (((st.getD []).length : Nat) : Int) := YX.wU (by omega)
  clear h
  generalize (st.getD []).length = m at *
  by_cases h4 : 4096 < n
  · have i1 : (4096 : Int) < (n : Int) := by omega
    go_enter Try.func56, Try.ntmps56
    go_wp2_with (go_at_call 52; ((refine CU.out.mono ?_); rintro e w2 ⟨rfl, r2, k2⟩; have K2 := Lib.hid k2; clear r2 k2))
    go_ret
    exact ⟨_, _, rfl, K2.out⟩
  · have i1 : ¬ (4096 : Int) < (n : Int) := by omega
    have i2 : (m : Int) < (n : Int) := by omega
    go_enter Try.func56, Try.ntmps56
    go_wp2_with (first
      | (go_at_call 52; ((refine CU.out.mono ?_); rintro e w2 ⟨rfl, r2, k2⟩; have R2 := Lib.hid r2; have K2 := Lib.hid k2; clear r2 k2))
      | (go_at_call 55; ((refine (CL.out _ R2.out).mono ?_); rintro e w3 ⟨rfl, rfl⟩)))
    go_ret
    exact ⟨_, _, rfl, K2.out⟩
set_option maxHeartbeats 4000000 in
theorem getFrame_good (Br n : Nat) (st : Option Bs) (w : World) (hBr : Br < w.heap.size) (h : Calls Try.prog 52 #[ptr Br] w fun e w' => e = .returned (vU n) ∧ RAt w' Br st ∧ Kept w w' (· ≠ Br)) (h4 : n ≤ 4096) (hl : n ≤ (st.getD []).length) (hs : (st.getD []).length ≤ 1000000) :
    Calls Try.prog 56 #[ptr Br] w fun e w' => ∃ g, e = .returned (.slice (some ⟨g, 0, none⟩) n n) ∧ w.heap.size ≤ g ∧ RowAt u8K w' g ((st.getD []).take n) ∧ RAt w' Br (st.map (·.drop n)) ∧ Kept w w' (· ≠ Br) := by
  have CU := Lib.hid h
  have CL := Lib.hid (fun (W : World) (q : RAt W Br st) => YX.left_any Br st W q)
  have CB := Lib.hid (fun (W : World) s (q : RAt W Br s) => YX.octet_any2 Br s W q)
  have hw : IntKind.u64.wrap (((st.getD []).length : Nat) : Int) = (((st.getD []).length : Nat) : Int) := YX.wU (by omega)
  have hmk := mk_any n (by omega)
  have HM : Hid (∀ W : World, RowAt u8K (W.alloc (.cells (madeCells #[.int .u8 0] (n * u8K.size)) 5)) W.heap.size (List.replicate n 0)) := Lib.hid (fun W => row_made u8K 0 #[.int .u8 0] rfl n W _)
  have i1 : ¬ (4096 : Int) < (n : Int) := by omega
  have i2 : ¬ (((st.getD []).length : Nat) : Int) < (n : Int) := by omega
  have HX : Hid (∀ k, k < n → st = some (st.getD [])) := Lib.hid (fun k hk => by cases st with | none => simp at hl; omega | some r => rfl)
  have HLn : Hid (n ≤ (st.getD []).length) := Lib.hid hl
  clear h
  obtain ⟨rr, hrr⟩ : ∃ rr, st.getD [] = rr := ⟨_, rfl⟩
  rw [hrr] at hw i2 HX HLn CL ⊢
  rw [hrr] at hl hs
  clear hrr
  obtain ⟨m, hm⟩ : ∃ m, rr.length = m := ⟨_, rfl⟩
  rw [hm] at hw i2 CL
  generalize madeCells #[.int .u8 0] (n * u8K.size) = MC at *
  have hd1 : decide ((4096 : Int) < (n : Int)) = false := decide_eq_false (by omega)
  have hd2 : decide ((m : Int) < (n : Int)) = false := decide_eq_false (by omega)
  have hd3 : decide (m < n) = false := decide_eq_false (by omega)
  have hd4 : decide (4096 < n) = false := decide_eq_false (by omega)
  go_enter Try.func56, Try.ntmps56
  go_wp2_with (first
    | (go_at_call 52; ((refine CU.out.mono ?_); rintro e w2 ⟨rfl, r2, k2⟩; have R2 := Lib.hid r2; have K2 := Lib.hid k2; have hsz := k2.size; clear r2 k2))
    | (go_at_call 55; ((refine (CL.out _ R2.out).mono ?_); rintro e w3 ⟨rfl, rfl⟩)))
  have G2 := Lib.hid (HM.out w2)
  have R3 := Lib.hid (R2.out.below (bAl (Below.refl _ w2) (.cells MC 5)))
  have K3 := Lib.hid (K2.out.al (.cells MC 5))
  have hgw : w.heap.size ≤ w2.heap.size := hsz
  clear hmk HM CU CL R2 K2
  generalize w2.alloc (.cells MC 5) = w3 at *
  generalize w2.heap.size = g at *
  go_loopw [21] (fun i wr => ∃ k : Nat, i = .int .i64 k ∧ k ≤ n ∧ Hid (RAt wr Br (st.map (·.drop k))) ∧ Hid (RowAt u8K wr g (rr.take k ++ List.replicate (n - k) 0)) ∧ Kept w wr (· ≠ Br)) (fun i _ => n - (intOf i).toNat)
  case atStart => exact ⟨0, rfl, by omega, Lib.hid (by cases st <;> simpa using R3.out), Lib.hid (by simpa using G2.out), K3.out⟩
  case round =>
    obtain ⟨k, rfl, hk, HR, HG, hb⟩ := hrel
    have K4 := Lib.hid hb
    clear R3 G2 K3
    by_cases hlt : k < n
    · have i3 : (k : Int) < (n : Int) := by omega
      have hst := HX.out k hlt
      have hkr : k < rr.length := by omega
      have hd : rr.drop k = rr[k] :: rr.drop (k + 1) := List.drop_eq_getElem_cons hkr
      have HR2 : Hid (RAt wr Br (some (rr[k] :: rr.drop (k + 1)))) := Lib.hid (by have q := HR.out; have e : st.map (·.drop k) = some (rr[k] :: rr.drop (k + 1)) := (by rw [hst]; exact congrArg some hd); rw [e] at q; exact q)
      have HN1 : Hid (st.map (·.drop (k + 1)) = some (rr.drop (k + 1))) := Lib.hid (by rw [hst]; rfl)
      have CBk := Lib.hid (CB.out wr _ HR2.out)
      have e1 : told (0 : Nat) rdB (some (rr[k] :: rr.drop (k + 1))) = rr[k].toNat := rfl
      have e2 : rest rdB (some (rr[k] :: rr.drop (k + 1))) = some (rr.drop (k + 1)) := rfl
      rw [e1, e2] at CBk
      have htk : (rr.take k).length = k := by rw [List.length_take]; omega
      have hlen : k < (rr.take k ++ List.replicate (n - k) (0 : UInt8)).length := by rw [List.length_append, htk, List.length_replicate]; omega
      have HS : Hid (∀ W, RowAt u8K W g (rr.take k ++ List.replicate (n - k) 0) → RowAt u8K (W.setCell ⟨g, k, none⟩ (u8 rr[k])) g (rr.take (k + 1) ++ List.replicate (n - (k + 1)) 0)) := Lib.hid (fun W q => by
        have := row_set1 q hlen rr[k]
        rw [set_rep _ _ _ htk hlt] at this
        rw [List.take_succ_eq_append_getElem hkr]
        exact this)
      clear e1 e2 hd hst htk
      generalize rr[k] = x at *
      generalize rr.drop (k + 1) = r2 at *
      go_wp2_with (go_at_call 51; ((refine CBk.out.mono ?_); rintro e w4 ⟨rfl, r4, k4⟩; have R4 := Lib.hid r4; have g4 := HG.out.kept k4 (show g ≠ Br by omega); obtain ⟨v4, hv4⟩ := row_f g4 hlen; have hf4 := g4.f k; have S4 := Lib.hid (HS.out w4 g4); have K5 := Lib.hid (K4.out.trans k4); have hg4 := g4.lt; clear r4 k4 g4))
      go_roundw
      case rel => exact ⟨k + 1, by go_num, by omega, Lib.hid (by rw [HN1.out]; exact RAt.other (B2 := g) R4.out ((Kept.refl w4 (· ≠ g)).set (B := g) (fun _ h => h rfl) _) (by omega)), S4, K5.out.set (B := g) (fun q => absurd q (by omega)) _⟩
      case measure => (simp [intOf]; try omega)
    · obtain rfl : k = n := by omega
      have i3 : ¬ (k : Int) < (k : Int) := by omega
      rw [Nat.sub_self, List.replicate_zero, List.append_nil] at HG
      go_wp2
      go_ret
      exact ⟨g, rfl, hgw, HG.out, HR.out, K4.out⟩
end Go.Proofs.Ytkgjgbenfpkekaa.JX
