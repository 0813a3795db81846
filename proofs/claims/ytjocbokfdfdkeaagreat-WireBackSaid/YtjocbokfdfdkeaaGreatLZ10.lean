/-
  WALK: the program's getFrame.
-/
import Derived.Test.YtjocbokfdfdkeaaGreatLZ9
import Derived.Test.YtjocbokfdfdkeaaGreatLZYByte
import Derived.Laws.MakeOwn
import Derived.Test.YtjocbokfdfdkeaaGreatLZYNum
import Derived.Test.YtjocbokfdfdkeaaGreatLZ5
import Derived.Test.YtjocbokfdfdkeaaGreatLZLRep
namespace Go.Proofs.YtjocbokfdfdkeaaGreat.JX
open Go.RowKit HL
open IX (ptr El cellsK cellsK_at cellsK_len OwnK RdK Kept)
open YX (numB rdU rdB addW told rest u8K RAt u8 vU)
open PX (RowAt row_made row_set set_rep)
set_option maxRecDepth 100000
set_option linter.unusedVariables false
set_option linter.unusedSimpArgs false

theorem row_set1 {W : World} {g k : Nat} {l : Bs} (h : RowAt u8K W g l) (hk : k < l.length) (y : UInt8) : RowAt u8K (W.setCell ⟨g, k, none⟩ (u8 y)) g (l.set k y) := by
  have := row_set (K := u8K) h hk y
  have e : k * u8K.size = k := by show k * 1 = k; omega
  rw [e] at this
  exact this
theorem row_f {W : World} {g : Nat} {l : Bs} (h : RowAt u8K W g l) {k : Nat} (hk : k < l.length) : ∃ v, W.cell? ⟨g, k, none⟩ = some v := by
  have hc : k < (cellsK u8K l).toArray.size := by rw [List.size_toArray, cellsK_len]; show k < l.length * 1; omega
  exact ⟨_, (h.c k).trans (Array.getElem?_eq_getElem hc)⟩
/-- What getFrame tells: a row of its own, or one of no bytes. -/
def Gt (w0 : World) (Br : Nat) (l : Bs) (e : Ending) (w' : World) : Prop :=
  match cutF l with
  | some (f, q) => ∃ g, e = .returned (.slice (some ⟨g, 0, none⟩) f.length f.length) ∧ w0.heap.size ≤ g ∧ RowAt u8K w' g f ∧ RAt w' Br (some q) ∧ 1 ≤ f.length ∧ f.length ≤ 4096 ∧ Kept w0 w' (· ≠ Br)
  | none => ∃ A c, e = .returned (.slice A 0 c) ∧ Kept w0 w' (· ≠ Br)
theorem mk_any (m : Nat) (hm : m ≤ 100000) (W : World) : (Instr.makeSlice 39 (.int .u64 m) (.int .u64 m)).run Tryz.prog W = .ok (.slice (some ⟨W.heap.size, 0, none⟩) m m) (W.alloc (.cells (madeCells #[.int .u8 0] (m * u8K.size)) 5)) := by
  have e : (IX.infoOf 5).size = 1 := by kernel_rfl
  have e2 : (IX.infoOf 5).bytes = 1 := by kernel_rfl
  have := run_makeSlice (P := Tryz.prog) W 39 5 (IX.infoOf 5) (.int .u8 0) Tryz.underlying39 (by kernel_rfl) (by kernel_rfl) .u64 .u64 (m : Int) (m : Int) (by omega) (Int.le_refl _) (by rw [e]; simp; omega) (by rw [e2]; omega) (by omega)
  rw [e, show (Value.int .u8 0).cells = #[.int .u8 0] from rfl] at this
  exact this
set_option maxHeartbeats 4000000 in
theorem getFrame_bad (Br n : Nat) (st : Option Bs) (w : World) (h : Calls Tryz.prog 94 #[ptr Br] w fun e w' => e = .returned (vU n) ∧ RAt w' Br st ∧ Kept w w' (· ≠ Br)) (hb : 4096 < n ∨ (st.getD []).length < n) (hs : (st.getD []).length ≤ 1000000) :
    Calls Tryz.prog 79 #[ptr Br] w fun e w' => ∃ A c, e = .returned (.slice A 0 c) ∧ Kept w w' (· ≠ Br) := by
  have CU := Lib.hid h
  have CL := Lib.hid (fun (W : World) (q : RAt W Br st) => YX.left_any Br st W q)
  have hw : IntKind.u64.wrap (((st.getD []).length : Nat) : Int) = (((st.getD []).length : Nat) : Int) := YX.wU (by omega)
  clear h
  generalize (st.getD []).length = m at *
  by_cases h4 : 4096 < n
  · have i1 : (4096 : Int) < (n : Int) := by omega
    go_enter Tryz.func79, Tryz.ntmps79
    go_wp2_with (go_at_call 94; ((refine CU.out.mono ?_); rintro e w2 ⟨rfl, r2, k2⟩; have K2 := Lib.hid k2; clear r2 k2))
    go_ret
    exact ⟨_, _, rfl, K2.out⟩
  · have i1 : ¬ (4096 : Int) < (n : Int) := by omega
    have i2 : (m : Int) < (n : Int) := by omega
    go_enter Tryz.func79, Tryz.ntmps79
    go_wp2_with (first
      | (go_at_call 94; ((refine CU.out.mono ?_); rintro e w2 ⟨rfl, r2, k2⟩; have R2 := Lib.hid r2; have K2 := Lib.hid k2; clear r2 k2))
      | (go_at_call 78; ((refine (CL.out _ R2.out).mono ?_); rintro e w3 ⟨rfl, rfl⟩)))
    go_ret
    exact ⟨_, _, rfl, K2.out⟩
set_option maxHeartbeats 4000000 in
theorem getFrame_good (Br n : Nat) (st : Option Bs) (w : World) (hBr : Br < w.heap.size) (h : Calls Tryz.prog 94 #[ptr Br] w fun e w' => e = .returned (vU n) ∧ RAt w' Br st ∧ Kept w w' (· ≠ Br)) (h4 : n ≤ 4096) (hl : n ≤ (st.getD []).length) (hs : (st.getD []).length ≤ 1000000) :
    Calls Tryz.prog 79 #[ptr Br] w fun e w' => ∃ g, e = .returned (.slice (some ⟨g, 0, none⟩) n n) ∧ w.heap.size ≤ g ∧ RowAt u8K w' g ((st.getD []).take n) ∧ RAt w' Br (st.map (·.drop n)) ∧ Kept w w' (· ≠ Br) := by
  have CU := Lib.hid h
  have CL := Lib.hid (fun (W : World) (q : RAt W Br st) => YX.left_any Br st W q)
  have CB := Lib.hid (fun (W : World) s (q : RAt W Br s) => YX.octet_any2 Br s W q)
  have hw : IntKind.u64.wrap (((st.getD []).length : Nat) : Int) = (((st.getD []).length : Nat) : Int) := YX.wU (by omega)
  have hmk := mk_any n (by omega)
  have HM : Hid (∀ W : World, RowAt u8K (W.alloc (.cells (madeCells #[.int .u8 0] (n * u8K.size)) 5)) W.heap.size (List.replicate n 0)) := Lib.hid (fun W => row_made u8K 0 #[.int .u8 0] rfl n W _)
  have i1 : ¬ (4096 : Int) < (n : Int) := by omega
  have i2 : ¬ (((st.getD []).length : Nat) : Int) < (n : Int) := by omega
  have HX : Hid (∀ k, k < n → st = some (st.getD [])) := Lib.hid (fun k hk => by cases st with | none => simp at hl; omega | some r => rfl)
  have HLn : Hid (n ≤ (st.getD []).length) := Lib.hid hl
  clear h
  obtain ⟨rr, hrr⟩ : ∃ rr, st.getD [] = rr := ⟨_, rfl⟩
  rw [hrr] at hw i2 HX HLn CL ⊢
  rw [hrr] at hl hs
  clear hrr
  obtain ⟨m, hm⟩ : ∃ m, rr.length = m := ⟨_, rfl⟩
  rw [hm] at hw i2 CL
  generalize madeCells #[.int .u8 0] (n * u8K.size) = MC at *
  have hd1 : decide ((4096 : Int) < (n : Int)) = false := decide_eq_false (by omega)
  have hd2 : decide ((m : Int) < (n : Int)) = false := decide_eq_false (by omega)
  have hd3 : decide (m < n) = false := decide_eq_false (by omega)
  have hd4 : decide (4096 < n) = false := decide_eq_false (by omega)
  go_enter Tryz.func79, Tryz.ntmps79
  go_wp2_with (first
    | (go_at_call 94; ((refine CU.out.mono ?_); rintro e w2 ⟨rfl, r2, k2⟩; have R2 := Lib.hid r2; have K2 := Lib.hid k2; have hsz := k2.size; clear r2 k2))
    | (go_at_call 78; ((refine (CL.out _ R2.out).mono ?_); rintro e w3 ⟨rfl, rfl⟩)))
  have G2 := Lib.hid (HM.out w2)
  have R3 := Lib.hid (R2.out.below (bAl (Below.refl _ w2) (.cells MC 5)))
  have K3 := Lib.hid (K2.out.al (.cells MC 5))
  have hgw : w.heap.size ≤ w2.heap.size := hsz
  clear hmk HM CU CL R2 K2
  generalize w2.alloc (.cells MC 5) = w3 at *
  generalize w2.heap.size = g at *
  go_loopw [21] (fun i wr => ∃ k : Nat, i = .int .i64 k ∧ k ≤ n ∧ Hid (RAt wr Br (st.map (·.drop k))) ∧ Hid (RowAt u8K wr g (rr.take k ++ List.replicate (n - k) 0)) ∧ Kept w wr (· ≠ Br)) (fun i _ => n - (intOf i).toNat)
  case atStart => exact ⟨0, rfl, by omega, Lib.hid (by cases st <;> simpa using R3.out), Lib.hid (by simpa using G2.out), K3.out⟩
  case round =>
    obtain ⟨k, rfl, hk, HR, HG, hb⟩ := hrel
    have K4 := Lib.hid hb
    clear R3 G2 K3
    by_cases hlt : k < n
    · have i3 : (k : Int) < (n : Int) := by omega
      have hst := HX.out k hlt
      have hkr : k < rr.length := by omega
      have hd : rr.drop k = rr[k] :: rr.drop (k + 1) := List.drop_eq_getElem_cons hkr
      have HR2 : Hid (RAt wr Br (some (rr[k] :: rr.drop (k + 1)))) := Lib.hid (by have q := HR.out; have e : st.map (·.drop k) = some (rr[k] :: rr.drop (k + 1)) := (by rw [hst]; exact congrArg some hd); rw [e] at q; exact q)
      have HN1 : Hid (st.map (·.drop (k + 1)) = some (rr.drop (k + 1))) := Lib.hid (by rw [hst]; rfl)
      have CBk := Lib.hid (CB.out wr _ HR2.out)
      have e1 : told (0 : Nat) rdB (some (rr[k] :: rr.drop (k + 1))) = rr[k].toNat := rfl
      have e2 : rest rdB (some (rr[k] :: rr.drop (k + 1))) = some (rr.drop (k + 1)) := rfl
      rw [e1, e2] at CBk
      have htk : (rr.take k).length = k := by rw [List.length_take]; omega
      have hlen : k < (rr.take k ++ List.replicate (n - k) (0 : UInt8)).length := by rw [List.length_append, htk, List.length_replicate]; omega
      have HS : Hid (∀ W, RowAt u8K W g (rr.take k ++ List.replicate (n - k) 0) → RowAt u8K (W.setCell ⟨g, k, none⟩ (u8 rr[k])) g (rr.take (k + 1) ++ List.replicate (n - (k + 1)) 0)) := Lib.hid (fun W q => by
        have := row_set1 q hlen rr[k]
        rw [set_rep _ _ _ htk hlt] at this
        rw [List.take_succ_eq_append_getElem hkr]
        exact this)
      clear e1 e2 hd hst htk
      generalize rr[k] = x at *
      generalize rr.drop (k + 1) = r2 at *
      go_wp2_with (go_at_call 88; ((refine CBk.out.mono ?_); rintro e w4 ⟨rfl, r4, k4⟩; have R4 := Lib.hid r4; have g4 := HG.out.kept k4 (show g ≠ Br by omega); obtain ⟨v4, hv4⟩ := row_f g4 hlen; have hf4 := g4.f k; have S4 := Lib.hid (HS.out w4 g4); have K5 := Lib.hid (K4.out.trans k4); have hg4 := g4.lt; clear r4 k4 g4))
      go_roundw
      case rel => exact ⟨k + 1, by go_num, by omega, Lib.hid (by rw [HN1.out]; exact RAt.other (B2 := g) R4.out ((Kept.refl w4 (· ≠ g)).set (B := g) (fun _ h => h rfl) _) (by omega)), S4, K5.out.set (B := g) (fun q => absurd q (by omega)) _⟩
      case measure => (simp [intOf]; try omega)
    · obtain rfl : k = n := by omega
      have i3 : ¬ (k : Int) < (k : Int) := by omega
      rw [Nat.sub_self, List.replicate_zero, List.append_nil] at HG
      go_wp2
      go_ret
      exact ⟨g, rfl, hgw, HG.out, HR.out, K4.out⟩
end Go.Proofs.YtjocbokfdfdkeaaGreat.JX
/-
  WALK: the program's Split.
-/
namespace Go.Proofs.YtjocbokfdfdkeaaGreat.JX
open Go.RowKit HL
open IX (ptr El cellsK cellsK_at cellsK_len OwnK RdK Kept wpList_spreadK)
open YX (numB rdU rdB addW told rest u8K RAt u8 vU)
open PX (RowAt row_made row_set set_rep)
set_option maxRecDepth 100000
set_option linter.unusedVariables false
set_option linter.unusedSimpArgs false

theorem kept_grown {w w' : World} {row : Option Nat} (h : w.grownBy w' row) : Kept w w' (fun k => row ≠ some k) := ⟨h.os, h.tape, h.output, h.size, fun k hk hp => h.block k hk (fun e => hp e.symm)⟩
/-- Rows of one's own, none of them the row that they stand in. -/
def OwnFs (w : World) (base : Nat) (v : Value) (L : List Sl3) (l : List Bs) : Prop := L.length = l.length ∧ ∀ (i : Nat) (x : Sl3) (f : Bs), L[i]? = some x → l[i]? = some f → ∃ g, x = ⟨some ⟨g, 0, none⟩, f.length, f.length⟩ ∧ base ≤ g ∧ g < w.heap.size ∧ v.ownBlock ≠ some g ∧ RowAt u8K w g f
theorem OwnFs.nil (w : World) (base : Nat) (v : Value) : OwnFs w base v [] [] := ⟨rfl, fun i x f h => by simp at h⟩
theorem OwnFs.kept {w w' : World} {base : Nat} {v : Value} {L : List Sl3} {l : List Bs} {P : Nat → Prop} (h : OwnFs w base v L l) (k : Kept w w' P) (hp : ∀ g, base ≤ g → v.ownBlock ≠ some g → P g) : OwnFs w' base v L l :=
  ⟨h.1, fun i x f a b => by
    obtain ⟨g, e, h1, h2, h3, h4⟩ := h.2 i x f a b
    exact ⟨g, e, h1, Nat.lt_of_lt_of_le h2 k.size, h3, AtC.kept h4 k (hp g h1 h3)⟩⟩
theorem OwnFs.snoc {w : World} {base : Nat} {v : Value} {L : List Sl3} {l : List Bs} (h : OwnFs w base v L l) {g : Nat} {f : Bs} (h1 : base ≤ g) (h2 : v.ownBlock ≠ some g) (h3 : RowAt u8K w g f) : OwnFs w base v (L ++ [⟨some ⟨g, 0, none⟩, f.length, f.length⟩]) (l ++ [f]) := by
  refine ⟨by simp [h.1], fun i y q a b => ?_⟩
  by_cases hi : i < L.length
  · rw [List.getElem?_append_left hi] at a
    rw [List.getElem?_append_left (by rw [← h.1]; exact hi)] at b
    exact h.2 i y q a b
  · rw [List.getElem?_append_right (by omega)] at a
    rw [List.getElem?_append_right (by rw [← h.1]; omega)] at b
    have hi0 : i - L.length = 0 := by have := (List.getElem?_eq_some_iff.1 a).1; simp at this; omega
    rw [hi0] at a
    rw [← h.1, hi0] at b
    simp at a b
    subst a b
    exact ⟨g, rfl, h1, h3.lt, h2, h3⟩
theorem OwnFs.own {w : World} {base : Nat} {v v' : Value} {L : List Sl3} {l : List Bs} (h : OwnFs w base v L l) (hv : ∀ g, g < w.heap.size → v.ownBlock ≠ some g → v'.ownBlock ≠ some g) : OwnFs w base v' L l :=
  ⟨h.1, fun i x f a b => by
    obtain ⟨g, e, h1, h2, h3, h4⟩ := h.2 i x f a b
    exact ⟨g, e, h1, h2, hv g h2 h3, h4⟩⟩
theorem OwnFs.grown {w w' : World} {base : Nat} {v v' : Value} {L : List Sl3} {l : List Bs} (h : OwnFs w base v L l) (k : w.grownBy w' v.ownBlock) (hv : v'.ownBlock = v.ownBlock ∨ v'.ownBlock = some w.heap.size) : OwnFs w' base v' L l :=
  ⟨h.1, fun i x f a b => by
    obtain ⟨g, e, h1, h2, h3, h4⟩ := h.2 i x f a b
    refine ⟨g, e, h1, Nat.lt_of_lt_of_le h2 k.size, fun q => ?_, AtC.kept h4 (kept_grown k) h3⟩
    rcases hv with r | r
    · exact h3 (r ▸ q)
    · rw [r] at q; injection q with q; omega⟩
theorem OwnFs.frs {w : World} {base : Nat} {v : Value} {L : List Sl3} {l : List Bs} (h : OwnFs w base v L l) : Frs w w.heap.size L l :=
  ⟨h.1, fun i x f a b => by
    obtain ⟨g, e, h1, h2, h3, h4⟩ := h.2 i x f a b
    subst e
    exact ⟨rfl, h4.rd, Nat.le_refl _⟩⟩
theorem OwnFs.more {w : World} {base base' : Nat} {v : Value} {L : List Sl3} {l : List Bs} (h : OwnFs w base v L l) (k : base' ≤ base) : OwnFs w base' v L l :=
  ⟨h.1, fun i x f a b => by
    obtain ⟨g, e, h1, h2, h3, h4⟩ := h.2 i x f a b
    exact ⟨g, e, Nat.le_trans k h1, h2, h3, h4⟩⟩
theorem getFrame_any (Br : Nat) (l : Bs) (w : World) (h : RAt w Br (some l)) (hl : l.length ≤ 1000000) :
    Calls Tryz.prog 79 #[ptr Br] w fun e w' => Gt w Br l e w' := by
  have CU := YX.unsigned_any2 Br (some l) w h
  have hBr := h.lt
  cases hu : rdU l with
  | none =>
    have e1 : told (0 : Nat) rdU (some l) = 0 := by simp [told, hu]
    have e2 : rest rdU (some l) = none := by simp [rest, hu]
    have e3 : cutF l = none := by unfold cutF; rw [hu]
    rw [e1, e2] at CU
    refine (getFrame_good Br 0 none w hBr CU (by omega) (by simp) (by simp)).mono fun e w' ⟨g, he, _, _, _, k⟩ => ?_
    unfold Gt; rw [e3]
    exact ⟨_, _, he, k⟩
  | some p =>
    obtain ⟨n, r⟩ := p
    have e1 : told (0 : Nat) rdU (some l) = n := by simp [told, hu]
    have e2 : rest rdU (some l) = some r := by simp [rest, hu]
    have hlr : r.length ≤ 1000000 := by have := YX.rdU_rest hu; omega
    rw [e1, e2] at CU
    by_cases hb : n < 1 ∨ 4096 < n ∨ r.length < n
    · have e3 : cutF l = none := by unfold cutF; rw [hu]; simp only; rw [if_pos hb]
      by_cases h0 : n = 0
      · subst h0
        refine (getFrame_good Br 0 (some r) w hBr CU (by omega) (by simp) (by simpa using hlr)).mono fun e w' ⟨g, he, _, _, _, k⟩ => ?_
        unfold Gt; rw [e3]
        exact ⟨_, _, he, k⟩
      · refine (getFrame_bad Br n (some r) w CU (by simp; omega) (by simpa using hlr)).mono fun e w' q => ?_
        unfold Gt; rw [e3]; exact q
    · have e3 : cutF l = some (r.take n, r.drop n) := by unfold cutF; rw [hu]; simp only; rw [if_neg hb]
      have htn : (r.take n).length = n := by rw [List.length_take]; omega
      refine (getFrame_good Br n (some r) w hBr CU (by omega) (by simp; omega) (by simpa using hlr)).mono fun e w' ⟨g, he, h1, h2, h3, k⟩ => ?_
      unfold Gt; rw [e3]
      simp only [htn]
      exact ⟨g, he, h1, by simpa using h2, by simpa using h3, by omega, by omega, k⟩
def lenAt (w : World) (B : Nat) : Nat := match w.cell? ⟨B, 0, none⟩ with | some (.slice _ n _) => n | _ => 0
theorem lenAt_eq {w : World} {B : Nat} {l : Bs} (h : RAt w B (some l)) : lenAt w B = l.length := by
  obtain ⟨A, c, h1, _⟩ := h
  unfold lenAt
  rw [h1.c 0]; rfl
/-- What Split tells. -/
def Sp (w0 : World) (r : Option (List Bs)) (e : Ending) (w' : World) : Prop :=
  match r with
  | some l => ∃ v L, e = .returned (.tuple #[v, .int .i64 0]) ∧ OwnK slK w' w0.heap.size v L ∧ OwnFs w' w0.heap.size v L l ∧ Below w0.heap.size w0 w'
  | none => e = .returned (.tuple #[.slice none 0 0, .int .i64 120]) ∧ Below w0.heap.size w0 w'
set_option maxHeartbeats 4000000 in
theorem split_any (A : Option Addr) (c : Nat) (b : Bs) (w : World) (h : RdK u8K w w.heap.size A b) (hb : b.length ≤ 900000) (hA : A = none → c = 0) :
    Calls Tryz.prog 62 #[.slice A b.length c] w fun e w' => Sp w (splitF b) e w' := by
  by_cases hbig : 65536 < b.length
  · have i1 : (65536 : Int) < (b.length : Int) := by omega
    have e1 : splitF b = none := by unfold splitF; rw [if_pos hbig]
    rw [e1]
    clear h e1
    go_enter Tryz.func62, Tryz.ntmps62
    go_wp2
    go_ret2
    exact ⟨rfl, Below.refl _ _⟩
  · have i1 : ¬ (65536 : Int) < (b.length : Int) := by omega
    have e1 : splitF b = splitL b := by unfold splitF; rw [if_neg hbig]
    have CR := Lib.hid (YX.read_any A c b w h (by omega) hA)
    obtain ⟨r, hr⟩ : ∃ r, splitL b = r := ⟨_, rfl⟩
    have HWs := Lib.hid (Way.start b)
    have HWn : Hid (∀ dn q, Way b dn q → q ≠ [] → cutF q = none → r = none) := Lib.hid (fun dn q a b c => by rw [← hr]; exact a.no b c)
    have HWe : Hid (∀ dn, Way b dn [] → r = some dn) := Lib.hid (fun dn a => by rw [← hr]; exact a.end_)
    have CL := Lib.hid (fun (B : Nat) (W : World) s (q : RAt W B s) => YX.left_any B s W q)
    rw [e1, hr]
    clear h e1 hr
    go_enter Tryz.func62, Tryz.ntmps62
    go_wp2_with (go_at_call 73; ((refine CR.out.mono ?_); rintro e w1 ⟨B, rfl, r1, hB, k1⟩; have R1 := Lib.hid r1; have K1 := Lib.hid k1; have hB1 := r1.lt; clear r1 k1))
    go_loopw [4] (fun v wr => ∃ (L : List Sl3) (dn : List Bs) (q : Bs), Hid (Way b dn q) ∧ Hid (dn.length + q.length ≤ b.length) ∧ Hid (RAt wr B (some q)) ∧ Hid (OwnK slK wr w1.heap.size v L) ∧ Hid (OwnFs wr w1.heap.size v L dn) ∧ Below w.heap.size w wr ∧ w1.heap.size ≤ wr.heap.size) (fun _ wr => lenAt wr B)
    case atStart => exact ⟨[], [], b, HWs, Lib.hid (by simp), R1, Lib.hid (OwnK.nil_ _ _ _), Lib.hid (OwnFs.nil _ _ _), K1.out, Nat.le_refl _⟩
    case round =>
      obtain ⟨L, dn, q, hW, hLen, hR, hO, hF, hb3, hsz⟩ := hrel
      have K3 := Lib.hid hb3
      have HSZ := Lib.hid hsz
      have hLq := Lib.hid (lenAt_eq hR.out)
      have CLq := Lib.hid (CL.out B wr (some q) hR.out)
      clear R1 K1 HWs
      simp only [Option.getD_some] at CLq
      by_cases h0 : q = []
      · subst h0
        have HRR := Lib.hid (HWe.out dn hW.out)
        go_wp2_with (go_at_call 78; ((refine CLq.out.mono ?_); rintro e w3 ⟨rfl, rfl⟩))
        go_ret2
        rw [HRR.out]
        exact ⟨_, L, rfl, hO.out.base (by omega), hF.out.more (by omega), K3.out⟩
      · have hq0 : 0 < q.length := List.length_pos_iff.2 h0
        have i2 : (0 : Int) < (q.length : Int) := by omega
        have CG := getFrame_any B q wr hR.out (by have := hLen.out; omega)
        cases hc : cutF q with
        | none =>
          have HRR := Lib.hid (HWn.out dn q hW.out h0 hc)
          have CG2 : Hid (Calls Tryz.prog 79 #[ptr B] wr fun e w' => ∃ A c, e = .returned (.slice A 0 c) ∧ Kept wr w' (· ≠ B)) := Lib.hid (CG.mono fun e w' g => by unfold Gt at g; rw [hc] at g; exact g)
          clear CG hc
          go_wp2_with (first
            | (go_at_call 78; ((refine CLq.out.mono ?_); rintro e w3 ⟨rfl, rfl⟩))
            | (go_at_call 79; ((refine CG2.out.mono ?_); rintro e w4 ⟨A4, c4, rfl, k4⟩; have K4 := Lib.hid ((Kept.trans (P := (· ≠ B)) (.of_below K3.out) k4).below (Nat.le_refl _) (fun j hj => show j ≠ B by omega)); clear k4)))
          go_ret2
          rw [HRR.out]
          exact ⟨rfl, K4.out⟩
        | some p =>
          obtain ⟨f, q2⟩ := p
          have CG2 : Hid (Calls Tryz.prog 79 #[ptr B] wr fun e w' => ∃ g, e = .returned (.slice (some ⟨g, 0, none⟩) f.length f.length) ∧ wr.heap.size ≤ g ∧ RowAt u8K w' g f ∧ RAt w' B (some q2) ∧ 1 ≤ f.length ∧ f.length ≤ 4096 ∧ Kept wr w' (· ≠ B)) := Lib.hid (CG.mono fun e w' g => by unfold Gt at g; rw [hc] at g; exact g)
          have HW2 := Lib.hid (hW.out.next h0 hc)
          have HL2 := Lib.hid (cutF_len hc)
          clear CG hc
          go_wp2_with (first
            | (go_at_call 78; ((refine CLq.out.mono ?_); rintro e w3 ⟨rfl, rfl⟩))
            | (go_at_call 79; (go_loud ((refine CG2.out.mono ?_); rintro e w4 ⟨g, rfl, hg, rg, r4, hf1, hf2, k4⟩; have i3 : ¬ ((f.length : Int) = 0) := (by omega); have K4 := Lib.hid ((Kept.trans (P := (· ≠ B)) (.of_below K3.out) k4).below (Nat.le_refl _) (fun j hj => show j ≠ B by omega)); have O4 := Lib.hid (hO.out.kept k4 (fun j e => by have h1 := (hO.out.lt j e).1; show j ≠ B; omega)); have F4 := Lib.hid ((hF.out.kept k4 (fun j h1 _ => show j ≠ B by omega)).snoc (by omega) (fun e => by have := (hO.out.lt g e).2; omega) rg); have R4 := Lib.hid r4; have HS4 := Lib.hid (Nat.le_trans hsz k4.size); clear r4 k4 rg)))
            | (at_builtin; refine wpList_spreadK slK rfl (.tmp 20) (.tmp 22) rfl w1.heap.size _ L rfl (O4.out.below (bAl (Below.refl _ _) _)) (w4.heap.size + 1) (some ⟨w4.heap.size, 0, none⟩) 1 1 [⟨some ⟨g, 0, none⟩, f.length, f.length⟩] rfl rfl (RdK.lit (K := slK) w4 (⟨some ⟨g, 0, none⟩, f.length, f.length⟩ : Sl3) #[.slice (some ⟨g, 0, none⟩) f.length f.length] rfl 39) ?c1 ?c2 ?_))
          case c1 => have := hF.out.1; have := hLen.out; simp only [List.length_singleton]; omega
          case c2 => have := HS4.out; simp; omega
          intro v5 w5 o5 g5 f5
          have HS4' := HS4.out
          have b45 : Below w1.heap.size w4 w5 := Below.grown ((Below.refl w1.heap.size w4).alloc HS4' _) g5 (by simp; omega) (fun a ha => (O4.out.lt a ha).1)
          have R5 := Lib.hid (RAt.kept (P := (· < w1.heap.size)) R4.out ⟨b45.os, b45.tape, b45.output, b45.size, fun j _ hj => b45.block j hj⟩ (fun j hj => show j < w1.heap.size by omega))
          have K5 := Lib.hid ((bAl K4.out _).grown g5 (by have := K4.out.size; simp; omega) (fun a ha => by have := (O4.out.lt a ha).1; omega))
          have F5 := Lib.hid ((F4.out.kept (P := fun _ => True) (.of_below (bAl (Below.refl _ _) (.cells #[.slice (some ⟨g, 0, none⟩) f.length f.length] 39))) (fun _ _ _ => trivial)).grown g5 (f5.imp id (fun h => h.trans (by simp))))
          have O5 := Lib.hid o5
          have HS5 := Lib.hid (Nat.le_trans HS4' b45.size)
          have HLe : Hid ((dn ++ [f]).length + q2.length ≤ b.length) := Lib.hid (by have := hLen.out; have := HL2.out; simp; omega)
          clear o5 g5 b45 f5
          go_wp2
          go_roundw
          case rel => exact ⟨_, dn ++ [f], q2, HW2, HLe, R5, O5, F5, K5.out, HS5.out⟩
          case measure => rw [lenAt_eq R5.out, hLq.out]; exact HL2.out
end Go.Proofs.YtjocbokfdfdkeaaGreat.JX
/-
  A row of bytes and an error told: as a text.
-/
namespace Go.Proofs.YtjocbokfdfdkeaaGreat.PX
open Go.RowKit HL
open IX (ptr El RdK)
open YX (u8K)
set_option maxRecDepth 100000
set_option linter.unusedVariables false

def nOf : Option Bs → Int
  | some _ => 0
  | none => 3
/-- A row that is turned into this text. -/
def Txt (w : World) (v : Value) (s : Bs) : Prop := ∀ W, Below w.heap.size w W → (convert 39 9 v).run Tryz.prog W = .ok (str s) W
theorem Txt.below {w W : World} {v : Value} {s : Bs} (h : Txt w v s) (k : Below w.heap.size w W) : Txt W v s := fun W2 q => h W2 (bThen k q)
def TelB (w0 : World) (n : Int) (s : Bs) (e : Ending) (w' : World) : Prop := ∃ v, e = .returned (.tuple #[v, .int .i64 n]) ∧ Txt w' v s ∧ Below w0.heap.size w0 w'
theorem bts_telB {w0 : World} {r : Option Bs} {e : Ending} {w' : World} (h : Bts w0 r e w') : TelB w0 (nOf r) (r.getD []) e w' := by
  obtain ⟨v, n, rfl, hb, k⟩ := h
  cases hb with
  | yes' v l hr =>
    obtain ⟨A, c, rfl, r1, _⟩ := hr
    exact ⟨_, rfl, fun W q => YX.conv_str ((r1.below q).more q.size) rfl, k⟩
  | no' => exact ⟨_, rfl, fun W q => YX.conv_str (B := 0) (l := []) (.inl rfl) rfl, k⟩
end Go.Proofs.YtjocbokfdfdkeaaGreat.PX
/-
  WALK: the law's awake: the chapter's examples.
-/
namespace Go.Proofs.YtjocbokfdfdkeaaGreat.JX
open Go.RowKit HL
open IX (ptr El cellsK cellsK_at cellsK_len OwnK RdK Kept wpList_spreadK)
open YX (numB rdU rdB addW told rest u8K RAt u8 vU numB_lo intN)
open PX (RowAt TelB Txt bts_telB nOf Bts rp rpC repB repW report_any putsW)
open DX (Ch chK)
set_option maxRecDepth 100000
set_option linter.unusedVariables false
set_option linter.unusedSimpArgs false

theorem rd_lits {α : Type} {K : El α} (w : World) (l : List α) (C : Array Value) (hC : C.toList = cellsK K l) (T : TypeId) : RdK K (w.alloc (.cells C T)) (w.heap.size + 1) (some ⟨w.heap.size, 0, none⟩) l :=
  .inr ⟨w.heap.size, 0, rfl, by omega, fun m u hu => by rw [World.cell?_alloc_at _ _ _ _ rfl, Nat.zero_add, ← Array.getElem?_toList, hC]; exact hu⟩
abbrev F2 : List Bs := [[5, 6], [7]]
abbrev L2 (w : World) : List Sl3 := [⟨some ⟨w.heap.size, 0, none⟩, 2, 2⟩, ⟨some ⟨w.heap.size + 1, 0, none⟩, 1, 1⟩]
abbrev W2 (w : World) : World := ((w.alloc (.cells #[.int .u8 5, .int .u8 6] 5)).alloc (.cells #[.int .u8 7] 5)).alloc (.cells #[.slice (some ⟨w.heap.size, 0, none⟩) 2 2, .slice (some ⟨w.heap.size + 1, 0, none⟩) 1 1] 39)
theorem fr_lit (w : World) : RdK slK (W2 w) (W2 w).heap.size (some ⟨w.heap.size + 1 + 1, 0, none⟩) (L2 w) ∧ Frs (W2 w) (W2 w).heap.size (L2 w) F2 ∧ Below w.heap.size w (W2 w) := by
  have b1 := bAl (Below.refl w.heap.size w) (.cells #[.int .u8 5, .int .u8 6] 5)
  have b2 := bAl b1 (.cells #[.int .u8 7] 5)
  have b3 := bAl b2 (.cells #[.slice (some ⟨w.heap.size, 0, none⟩) 2 2, .slice (some ⟨w.heap.size + 1, 0, none⟩) 1 1] 39)
  have r1 := rd_lits (K := u8K) w [5, 6] #[.int .u8 5, .int .u8 6] rfl 5
  have r2 := rd_lits (K := u8K) (w.alloc (.cells #[.int .u8 5, .int .u8 6] 5)) [7] #[.int .u8 7] rfl 5
  have r3 := rd_lits (K := slK) ((w.alloc (.cells #[.int .u8 5, .int .u8 6] 5)).alloc (.cells #[.int .u8 7] 5)) (L2 w) #[.slice (some ⟨w.heap.size, 0, none⟩) 2 2, .slice (some ⟨w.heap.size + 1, 0, none⟩) 1 1] rfl 39
  have s1 : (w.alloc (.cells #[.int .u8 5, .int .u8 6] 5)).heap.size = w.heap.size + 1 := by simp
  have s2 : ((w.alloc (.cells #[.int .u8 5, .int .u8 6] 5)).alloc (.cells #[.int .u8 7] 5)).heap.size = w.heap.size + 1 + 1 := by simp
  have s3 : (W2 w).heap.size = w.heap.size + 1 + 1 + 1 := by simp
  rw [s2] at r3
  have e1 : RdK u8K (W2 w) (W2 w).heap.size (some ⟨w.heap.size, 0, none⟩) [5, 6] := by
    have q1 := r1.below (w' := (w.alloc (.cells #[.int .u8 5, .int .u8 6] 5)).alloc (.cells #[.int .u8 7] 5)) (by have := bAl (Below.refl (w.alloc (.cells #[.int .u8 5, .int .u8 6] 5)).heap.size (w.alloc (.cells #[.int .u8 5, .int .u8 6] 5))) (.cells #[.int .u8 7] 5); rwa [s1] at this)
    have q2 := (q1.more (B' := w.heap.size + 1 + 1) (by omega)).below (w' := W2 w) (by have := bAl (Below.refl ((w.alloc (.cells #[.int .u8 5, .int .u8 6] 5)).alloc (.cells #[.int .u8 7] 5)).heap.size ((w.alloc (.cells #[.int .u8 5, .int .u8 6] 5)).alloc (.cells #[.int .u8 7] 5))) (.cells #[.slice (some ⟨w.heap.size, 0, none⟩) 2 2, .slice (some ⟨w.heap.size + 1, 0, none⟩) 1 1] 39); rwa [s2] at this)
    exact q2.more (by omega)
  have e2 : RdK u8K (W2 w) (W2 w).heap.size (some ⟨w.heap.size + 1, 0, none⟩) [7] := by
    rw [s1] at r2
    have q2 := r2.below (w' := W2 w) (by have := bAl (Below.refl ((w.alloc (.cells #[.int .u8 5, .int .u8 6] 5)).alloc (.cells #[.int .u8 7] 5)).heap.size ((w.alloc (.cells #[.int .u8 5, .int .u8 6] 5)).alloc (.cells #[.int .u8 7] 5))) (.cells #[.slice (some ⟨w.heap.size, 0, none⟩) 2 2, .slice (some ⟨w.heap.size + 1, 0, none⟩) 1 1] 39); rwa [s2] at this)
    exact q2.more (by omega)
  refine ⟨r3.more (by omega), ?_, b3⟩
  exact (((Frs.nil (W2 w) (W2 w).heap.size).snoc (x := ⟨some ⟨w.heap.size, 0, none⟩, 2, 2⟩) (f := [5, 6]) rfl e1 (Nat.le_refl 2)).snoc (x := ⟨some ⟨w.heap.size + 1, 0, none⟩, 1, 1⟩) (f := [7]) rfl e2 (Nat.le_refl 1))
theorem join2 : joinB F2 = [2, 5, 6, 1, 7] := by simp [joinB, numB_lo]
theorem joinF2 : joinF F2 = some [2, 5, 6, 1, 7] := by
  have h : okF F2 = true := by decide
  rw [joinF_ok h, join2]; rfl
theorem splitF2 : splitF [2, 5, 6, 1, 7] = some F2 := by
  have h : okF F2 = true := by decide
  have := split_join h
  rw [join2] at this
  unfold splitF
  rw [if_neg (by decide)]; exact this
theorem rdU0 : rdU [0] = some (0, []) := by
  have := YX.rdU_num (n := 0) (by decide) []
  simpa [numB_lo] using this
theorem splitF0 : splitF [0] = none := by
  unfold splitF
  rw [if_neg (by decide)]
  exact splitL_no (by simp) (by unfold cutF; rw [rdU0]; simp)
theorem joinF0 : joinF [] = some [] := by rfl
theorem rep3 : repB 3 [] false = some [114, 6, 0, 0] := by
  simp [repB, repW, putsW, addW, intN, numB_lo]
set_option maxHeartbeats 8000000 in
theorem awake14_any (w : World) : Calls Tryz.prog 26 #[] w fun e w' => e = .returned (.bool true) ∧ Below w.heap.size w w' := by
  have CR : Hid (∀ W, Calls Tryz.prog 13 #[.agg #[.int .i64 3, .slice none 0 0, .bool false]] W (TelB W 0 [114, 6, 0, 0])) := Lib.hid (fun W => by
    have := (report_any 3 none 0 [] false W (by decide) (.inl rfl) (fun x hx => by cases hx) (by decide)).mono fun _ _ => bts_telB
    rw [rep3] at this
    exact this)
  have CJ : Hid (∀ W A L c, RdK slK W W.heap.size A L → Frs W W.heap.size L F2 → Calls Tryz.prog 61 #[.slice A 2 c] W (TelB W 0 [2, 5, 6, 1, 7])) := Lib.hid (fun W A L c h f => by
    have := (join_any A c L F2 W h f (by decide)).mono fun _ _ => bts_telB
    rw [joinF2] at this
    exact this)
  have CJ0 : Hid (∀ W, Calls Tryz.prog 61 #[.slice none 0 0] W fun e w' => ∃ A c, e = .returned (.tuple #[.slice A 0 c, .int .i64 0]) ∧ Below W.heap.size W w') := Lib.hid (fun W => by
    have := join_any none 0 [] [] W (.inl rfl) (Frs.nil _ _) (by decide)
    rw [joinF0] at this
    exact this.mono fun e w' ⟨v, n, he, hb, k⟩ => by
      cases hb with
      | yes' v l hr => obtain ⟨A, c, rfl, _⟩ := hr; exact ⟨A, c, he, k⟩)
  have CS1 : Hid (∀ W A c, RdK u8K W W.heap.size A [2, 5, 6, 1, 7] → (A = none → c = 0) → Calls Tryz.prog 62 #[.slice A 5 c] W fun e w' => ∃ A' c' L, e = .returned (.tuple #[.slice A' 2 c', .int .i64 0]) ∧ RdK slK w' w'.heap.size A' L ∧ Frs w' w'.heap.size L F2 ∧ Below W.heap.size W w') := Lib.hid (fun W A c h h0 => by
    have := split_any A c [2, 5, 6, 1, 7] W h (by decide) h0
    rw [splitF2] at this
    exact this.mono fun e w' ⟨v, L, he, o, f, k⟩ => by
      obtain ⟨A', c', rfl, r, _⟩ := o.form
      have hl : L.length = 2 := f.1
      rw [hl] at he
      exact ⟨A', c', L, he, r, f.frs, k⟩)
  have CS2 : Hid (∀ W A c, RdK u8K W W.heap.size A [0] → (A = none → c = 0) → Calls Tryz.prog 62 #[.slice A 1 c] W fun e w' => e = .returned (.tuple #[.slice none 0 0, .int .i64 120]) ∧ Below W.heap.size W w') := Lib.hid (fun W A c h h0 => by
    have := split_any A c [0] W h (by decide) h0
    rw [splitF0] at this
    exact this)
  have CM := Lib.hid (fun W A1 A2 c1 c2 L1 L3 (h1 : RdK slK W W.heap.size A1 L1) (f1 : Frs W W.heap.size L1 F2) (h2 : RdK slK W W.heap.size A2 L3) (f2 : Frs W W.heap.size L3 F2) => sameF_yes A1 A2 c1 c2 2 L1 L3 F2 W h1 f1 h2 f2 rfl (by decide))
  have hz : ∀ W : World, True := fun _ => trivial
  go_enter Tryz.func26, Tryz.ntmps26
  go_upto_region 6 with (first
    | (go_at_call 13; ((with_reducible refine (CR.out _).mono ?_); rintro e w1 ⟨v1, rfl, t1, k1⟩; have T1 := Lib.hid t1; have K1 := Lib.hid k1; clear t1 k1))
    | (go_at_call 61; first
      | ((with_reducible refine (CJ.out _ (some ⟨w1.heap.size + 1 + 1, 0, none⟩) (L2 w1) 2 (fr_lit w1).1 (fr_lit w1).2.1).mono ?_); rintro e w2 ⟨v2, rfl, t2, k2⟩; have b2 := bThen (fr_lit w1).2.2 k2; have T1b := Lib.hid (T1.out.below b2); have T2 := Lib.hid t2; have K2 := Lib.hid (bThen K1.out b2); clear t2 k2 b2)
      | ((with_reducible refine (CJ0.out _).mono ?_); rintro e w5 ⟨A5, c5, rfl, k5⟩; have K5 := Lib.hid (bThen K4.out k5); have K35 := Lib.hid (bThen K34.out k5); clear k5))
    | (go_at_call 62; first
      | ((with_reducible refine (CS1.out _ _ _ ((rd_lits (K := u8K) w2 [2, 5, 6, 1, 7] #[.int .u8 2, .int .u8 5, .int .u8 6, .int .u8 1, .int .u8 7] rfl 5).more (by simp)) (fun q => by cases q)).mono ?_); rintro e w3 ⟨A3, c3, L3, rfl, r3, f3, k3⟩; have R3 := Lib.hid r3; have F3 := Lib.hid f3; have b3 := bThen (bAl (Below.refl w2.heap.size w2) (.cells #[.int .u8 2, .int .u8 5, .int .u8 6, .int .u8 1, .int .u8 7] 5)) k3; have B23 := Lib.hid b3; have K3 := Lib.hid (bThen K2.out b3); clear r3 f3 k3 b3)
      | ((with_reducible refine (CS2.out _ _ _ ((rd_lits (K := u8K) w3 [0] #[.int .u8 0] rfl 5).more (by simp)) (fun q => by cases q)).mono ?_); rintro e w4 ⟨rfl, k4⟩; have b4 := bThen (bAl (Below.refl w3.heap.size w3) (.cells #[.int .u8 0] 5)) k4; have K34 := Lib.hid b4; have K4 := Lib.hid (bThen K3.out b4); clear k4 b4)))
  have cv1 : (convert 39 9 v1).run Tryz.prog w5 = .ok (str [114, 6, 0, 0]) w5 := T1b.out _ (bThen B23.out K35.out)
  have cv2 : (convert 39 9 v2).run Tryz.prog w5 = .ok (str [2, 5, 6, 1, 7]) w5 := T2.out _ (bThen B23.out K35.out)
  have b35 := Lib.hid (bThen K35.out (fr_lit w5).2.2)
  have CM5 := Lib.hid (CM.out _ A3 (some ⟨w5.heap.size + 1 + 1, 0, none⟩) c3 2 L3 (L2 w5) ((R3.out.below b35.out).more b35.out.size) ((F3.out.below b35.out).more b35.out.size) (fr_lit w5).1 (fr_lit w5).2.1)
  clear CR CJ CJ0 CS1 CS2 CM
  go_wp2_with (go_at_call 63; ((with_reducible refine CM5.out.mono ?_); rintro e w6 ⟨rfl, k6⟩; have K6 := Lib.hid (bThen K5.out (bThen (fr_lit w5).2.2 k6)); clear k6))
  go_ret
  exact ⟨by first | rfl | simp, K6.out⟩
end Go.Proofs.YtjocbokfdfdkeaaGreat.JX
