/-
  WALK: the program's Split.
-/
import Derived.Test.YtkgjgbenfpkekaaJGet
import Derived.Test.YtkgjgbenfpkekaaYNum
namespace Go.Proofs.Ytkgjgbenfpkekaa.JX
open Go.RowKit HL
open IX (ptr El cellsK cellsK_at cellsK_len OwnK RdK Kept wpList_spreadK)
open YX (numB rdU rdB addW told rest u8K RAt u8 vU)
open PX (RowAt row_made row_set set_rep)
set_option maxRecDepth 100000
set_option linter.unusedVariables false
set_option linter.unusedSimpArgs false

theorem kept_grown {w w' : World} {row : Option Nat} (h : w.grownBy w' row) : Kept w w' (fun k => row ≠ some k) := ⟨h.os, h.tape, h.output, h.size, fun k hk hp => h.block k hk (fun e => hp e.symm)⟩
/-- Rows of one's own, none of them the row that they stand in. -/
def OwnFs (w : World) (base : Nat) (v : Value) (L : List Sl3) (l : List Bs) : Prop := L.length = l.length ∧ ∀ (i : Nat) (x : Sl3) (f : Bs), L[i]? = some x → l[i]? = some f → ∃ g, x = ⟨some ⟨g, 0, none⟩, f.length, f.length⟩ ∧ base ≤ g ∧ g < w.heap.size ∧ v.ownBlock ≠ some g ∧ RowAt u8K w g f
theorem OwnFs.nil (w : World) (base : Nat) (v : Value) : OwnFs w base v [] [] := ⟨rfl, fun i x f h => by simp at h⟩
theorem OwnFs.kept {w w' : World} {base : Nat} {v : Value} {L : List Sl3} {l : List Bs} {P : Nat → Prop} (h : OwnFs w base v L l) (k : Kept w w' P) (hp : ∀ g, base ≤ g → v.ownBlock ≠ some g → P g) : OwnFs w' base v L l :=
  ⟨h.1, fun i x f a b => by
    obtain ⟨g, e, h1, h2, h3, h4⟩ := h.2 i x f a b
    exact ⟨g, e, h1, Nat.lt_of_lt_of_le h2 k.size, h3, AtC.kept h4 k (hp g h1 h3)⟩⟩
theorem OwnFs.snoc {w : World} {base : Nat} {v : Value} {L : List Sl3} {l : List Bs} (h : OwnFs w base v L l) {g : Nat} {f : Bs} (h1 : base ≤ g) (h2 : v.ownBlock ≠ some g) (h3 : RowAt u8K w g f) : OwnFs w base v (L ++ [⟨some ⟨g, 0, none⟩, f.length, f.length⟩]) (l ++ [f]) := by
  refine ⟨by simp [h.1], fun i y q a b => ?_⟩
  by_cases hi : i < L.length
  · rw [List.getElem?_append_left hi] at a
    rw [List.getElem?_append_left (by rw [← h.1]; exact hi)] at b
    exact h.2 i y q a b
  · rw [List.getElem?_append_right (by omega)] at a
    rw [List.getElem?_append_right (by rw [← h.1]; omega)] at b
    have hi0 : i - L.length = 0 := by have := (List.getElem?_eq_some_iff.1 a).1; simp at this; omega
    rw [hi0] at a
    rw [← h.1, hi0] at b
    simp at a b
    subst a b
    exact ⟨g, rfl, h1, h3.lt, h2, h3⟩
theorem OwnFs.own {w : World} {base : Nat} {v v' : Value} {L : List Sl3} {l : List Bs} (h : OwnFs w base v L l) (hv : ∀ g, g < w.heap.size → v.ownBlock ≠ some g → v'.ownBlock ≠ some g) : OwnFs w base v' L l :=
  ⟨h.1, fun i x f a b => by
    obtain ⟨g, e, h1, h2, h3, h4⟩ := h.2 i x f a b
    exact ⟨g, e, h1, h2, hv g h2 h3, h4⟩⟩
theorem OwnFs.grown {w w' : World} {base : Nat} {v v' : Value} {L : List Sl3} {l : List Bs} (h : OwnFs w base v L l) (k : w.grownBy w' v.ownBlock) (hv : v'.ownBlock = v.ownBlock ∨ v'.ownBlock = some w.heap.size) : OwnFs w' base v' L l :=
  ⟨h.1, fun i x f a b => by
    obtain ⟨g, e, h1, h2, h3, h4⟩ := h.2 i x f a b
    refine ⟨g, e, h1, Nat.lt_of_lt_of_le h2 k.size, fun q => ?_, AtC.kept h4 (kept_grown k) h3⟩
    rcases hv with r | r
    · exact h3 (r ▸ q)
    · rw [r] at q; injection q with q; omega⟩
theorem OwnFs.frs {w : World} {base : Nat} {v : Value} {L : List Sl3} {l : List Bs} (h : OwnFs w base v L l) : Frs w w.heap.size L l :=
  ⟨h.1, fun i x f a b => by
    obtain ⟨g, e, h1, h2, h3, h4⟩ := h.2 i x f a b
    subst e
    exact ⟨rfl, h4.rd, Nat.le_refl _⟩⟩
theorem OwnFs.more {w : World} {base base' : Nat} {v : Value} {L : List Sl3} {l : List Bs} (h : OwnFs w base v L l) (k : base' ≤ base) : OwnFs w base' v L l :=
  ⟨h.1, fun i x f a b => by
    obtain ⟨g, e, h1, h2, h3, h4⟩ := h.2 i x f a b
    exact ⟨g, e, Nat.le_trans k h1, h2, h3, h4⟩⟩
theorem getFrame_any (Br : Nat) (l : Bs) (w : World) (h : RAt w Br (some l)) (hl : l.length ≤ 1000000) :
    Calls Try.prog 56 #[ptr Br] w fun e w' => Gt w Br l e w' := by
  have CU := YX.unsigned_any2 Br (some l) w h
  have hBr := h.lt
  cases hu : rdU l with
  | none =>
    have e1 : told (0 : Nat) rdU (some l) = 0 := by simp [told, hu]
    have e2 : rest rdU (some l) = none := by simp [rest, hu]
    have e3 : cutF l = none := by unfold cutF; rw [hu]
    rw [e1, e2] at CU
    refine (getFrame_good Br 0 none w hBr CU (by omega) (by simp) (by simp)).mono fun e w' ⟨g, he, _, _, _, k⟩ => ?_
    unfold Gt; rw [e3]
    exact ⟨_, _, he, k⟩
  | some p =>
    obtain ⟨n, r⟩ := p
    have e1 : told (0 : Nat) rdU (some l) = n := by simp [told, hu]
    have e2 : rest rdU (some l) = some r := by simp [rest, hu]
    have hlr : r.length ≤ 1000000 := by have := YX.rdU_rest hu; omega
    rw [e1, e2] at CU
    by_cases hb : n < 1 ∨ 4096 < n ∨ r.length < n
    · have e3 : cutF l = none := by unfold cutF; rw [hu]; simp only; rw [if_pos hb]
      by_cases h0 : n = 0
      · subst h0
        refine (getFrame_good Br 0 (some r) w hBr CU (by omega) (by simp) (by simpa using hlr)).mono fun e w' ⟨g, he, _, _, _, k⟩ => ?_
        unfold Gt; rw [e3]
        exact ⟨_, _, he, k⟩
      · refine (getFrame_bad Br n (some r) w CU (by simp; omega) (by simpa using hlr)).mono fun e w' q => ?_
        unfold Gt; rw [e3]; exact q
    · have e3 : cutF l = some (r.take n, r.drop n) := by unfold cutF; rw [hu]; simp only; rw [if_neg hb]
      have htn : (r.take n).length = n := by rw [List.length_take]; omega
      refine (getFrame_good Br n (some r) w hBr CU (by omega) (by simp; omega) (by simpa using hlr)).mono fun e w' ⟨g, he, h1, h2, h3, k⟩ => ?_
      unfold Gt; rw [e3]
      simp only [htn]
      exact ⟨g, he, h1, by simpa using h2, by simpa using h3, by omega, by omega, k⟩
def lenAt (w : World) (B : Nat) : Nat := match w.cell? ⟨B, 0, none⟩ with | some (.slice _ n _) => n | _ => 0
theorem lenAt_eq {w : World} {B : Nat} {l : Bs} (h : RAt w B (some l)) : lenAt w B = l.length := by
  obtain ⟨A, c, h1, _⟩ := h
  unfold lenAt
  rw [h1.c 0]; rfl
/-- What Split tells. -/
def Sp (w0 : World) (r : Option (List Bs)) (e : Ending) (w' : World) : Prop :=
  match r with
  | some l => ∃ v L, e = .returned (.tuple #[v, .int .i64 0]) ∧ OwnK slK w' w0.heap.size v L ∧ OwnFs w' w0.heap.size v L l ∧ Below w0.heap.size w0 w'
  | none => e = .returned (.tuple #[.slice none 0 0, .int .i64 120]) ∧ Below w0.heap.size w0 w'
set_option maxHeartbeats 4000000 in
theorem split_any (A : Option Addr) (c : Nat) (b : Bs) (w : World) (h : RdK u8K w w.heap.size A b) (hb : b.length ≤ 900000) (hA : A = none → c = 0) :
    Calls Try.prog 26 #[.slice A b.length c] w fun e w' => Sp w (splitF b) e w' := by
  by_cases hbig : 65536 < b.length
  · have i1 : (65536 : Int) < (b.length : Int) := by omega
    have e1 : splitF b = none := by unfold splitF; rw [if_pos hbig]
    rw [e1]
    clear h e1
    go_enter Try.func26, Try.ntmps26
    go_wp2
    go_ret2
    exact ⟨rfl, Below.refl _ _⟩
  · have i1 : ¬ (65536 : Int) < (b.length : Int) := by omega
    have e1 : splitF b = splitL b := by unfold splitF; rw [if_neg hbig]
    have CR := Lib.hid (YX.read_any A c b w h (by omega) hA)
    obtain ⟨r, hr⟩ : ∃ r, splitL b = r := ⟨_, rfl⟩
    have HWs := Lib.hid (Way.start b)
    have HWn : Hid (∀ dn q, Way b dn q → q ≠ [] → cutF q = none → r = none) := Lib.hid (fun dn q a b c => by rw [← hr]; exact a.no b c)
    have HWe : Hid (∀ dn, Way b dn [] → r = some dn) := Lib.hid (fun dn a => by rw [← hr]; exact a.end_)
    have CL := Lib.hid (fun (B : Nat) (W : World) s (q : RAt W B s) => YX.left_any B s W q)
    rw [e1, hr]
    clear h e1 hr
    go_enter Try.func26, Try.ntmps26
    go_wp2_with (go_at_call 19; ((refine CR.out.mono ?_); rintro e w1 ⟨B, rfl, r1, hB, k1⟩; have R1 := Lib.hid r1; have K1 := Lib.hid k1; have hB1 := r1.lt; clear r1 k1))
    go_loopw [4] (fun v wr => ∃ (L : List Sl3) (dn : List Bs) (q : Bs), Hid (Way b dn q) ∧ Hid (dn.length + q.length ≤ b.length) ∧ Hid (RAt wr B (some q)) ∧ Hid (OwnK slK wr w1.heap.size v L) ∧ Hid (OwnFs wr w1.heap.size v L dn) ∧ Below w.heap.size w wr ∧ w1.heap.size ≤ wr.heap.size) (fun _ wr => lenAt wr B)
    case atStart => exact ⟨[], [], b, HWs, Lib.hid (by simp), R1, Lib.hid (OwnK.nil_ _ _ _), Lib.hid (OwnFs.nil _ _ _), K1.out, Nat.le_refl _⟩
    case round =>
      obtain ⟨L, dn, q, hW, hLen, hR, hO, hF, hb3, hsz⟩ := hrel
      have K3 := Lib.hid hb3
      have HSZ := Lib.hid hsz
      have hLq := Lib.hid (lenAt_eq hR.out)
      have CLq := Lib.hid (CL.out B wr (some q) hR.out)
      clear R1 K1 HWs
      simp only [Option.getD_some] at CLq
      by_cases h0 : q = []
      · subst h0
        have HRR := Lib.hid (HWe.out dn hW.out)
        go_wp2_with (go_at_call 55; ((refine CLq.out.mono ?_); rintro e w3 ⟨rfl, rfl⟩))
        go_ret2
        rw [HRR.out]
        exact ⟨_, L, rfl, hO.out.base (by omega), hF.out.more (by omega), K3.out⟩
      · have hq0 : 0 < q.length := List.length_pos_iff.2 h0
        have i2 : (0 : Int) < (q.length : Int) := by omega
        have CG := getFrame_any B q wr hR.out (by have := hLen.out; omega)
        cases hc : cutF q with
        | none =>
          have HRR := Lib.hid (HWn.out dn q hW.out h0 hc)
          have CG2 : Hid (Calls Try.prog 56 #[ptr B] wr fun e w' => ∃ A c, e = .returned (.slice A 0 c) ∧ Kept wr w' (· ≠ B)) := Lib.hid (CG.mono fun e w' g => by unfold Gt at g; rw [hc] at g; exact g)
          clear CG hc
          go_wp2_with (first
            | (go_at_call 55; ((refine CLq.out.mono ?_); rintro e w3 ⟨rfl, rfl⟩))
            | (go_at_call 56; ((refine CG2.out.mono ?_); rintro e w4 ⟨A4, c4, rfl, k4⟩; have K4 := Lib.hid ((Kept.trans (P := (· ≠ B)) (.of_below K3.out) k4).below (Nat.le_refl _) (fun j hj => show j ≠ B by omega)); clear k4)))
          go_ret2
          rw [HRR.out]
          exact ⟨rfl, K4.out⟩
        | some p =>
          obtain ⟨f, q2⟩ := p
          have CG2 : Hid (Calls Try.prog 56 #[ptr B] wr fun e w' => ∃ g, e = .returned (.slice (some ⟨g, 0, none⟩) f.length f.length) ∧ wr.heap.size ≤ g ∧ RowAt u8K w' g f ∧ RAt w' B (some q2) ∧ 1 ≤ f.length ∧ f.length ≤ 4096 ∧ Kept wr w' (· ≠ B)) := Lib.hid (CG.mono fun e w' g => by unfold Gt at g; rw [hc] at g; exact g)
          have HW2 := Lib.hid (hW.out.next h0 hc)
          have HL2 := Lib.hid (cutF_len hc)
          clear CG hc
          go_wp2_with (first
            | (go_at_call 55; ((refine CLq.out.mono ?_); rintro e w3 ⟨rfl, rfl⟩))
            | (go_at_call 56; (go_loud ((refine CG2.out.mono ?_); rintro e w4 ⟨g, rfl, hg, rg, r4, hf1, hf2, k4⟩; have i3 : ¬ ((f.length : Int) = 0) := (by omega); have K4 := Lib.hid ((Kept.trans (P := (· ≠ B)) (.of_below K3.out) k4).below (Nat.le_refl _) (fun j hj => show j ≠ B by omega)); have O4 := Lib.hid (hO.out.kept k4 (fun j e => by have h1 := (hO.out.lt j e).1; show j ≠ B; omega)); have F4 := Lib.hid ((hF.out.kept k4 (fun j h1 _ => show j ≠ B by omega)).snoc (by omega) (fun e => by have := (hO.out.lt g e).2; omega) rg); have R4 := Lib.hid r4; have HS4 := Lib.hid (Nat.le_trans hsz k4.size); clear r4 k4 rg)))
            | (at_builtin; refine wpList_spreadK slK rfl (.tmp 20) (.tmp 22) rfl w1.heap.size _ L rfl (O4.out.below (bAl (Below.refl _ _) _)) (w4.heap.size + 1) (some ⟨w4.heap.size, 0, none⟩) 1 1 [⟨some ⟨g, 0, none⟩, f.length, f.length⟩] rfl rfl (RdK.lit (K := slK) w4 (⟨some ⟨g, 0, none⟩, f.length, f.length⟩ : Sl3) #[.slice (some ⟨g, 0, none⟩) f.length f.length] rfl 26) ?c1 ?c2 ?_))
          case c1 => have := hF.out.1; have := hLen.out; simp only [List.length_singleton]; omega
          case c2 => have := HS4.out; simp; omega
          intro v5 w5 o5 g5 f5
          have HS4' := HS4.out
          have b45 : Below w1.heap.size w4 w5 := Below.grown ((Below.refl w1.heap.size w4).alloc HS4' _) g5 (by simp; omega) (fun a ha => (O4.out.lt a ha).1)
          have R5 := Lib.hid (RAt.kept (P := (· < w1.heap.size)) R4.out ⟨b45.os, b45.tape, b45.output, b45.size, fun j _ hj => b45.block j hj⟩ (fun j hj => show j < w1.heap.size by omega))
          have K5 := Lib.hid ((bAl K4.out _).grown g5 (by have := K4.out.size; simp; omega) (fun a ha => by have := (O4.out.lt a ha).1; omega))
          have F5 := Lib.hid ((F4.out.kept (P := fun _ => True) (.of_below (bAl (Below.refl _ _) (.cells #[.slice (some ⟨g, 0, none⟩) f.length f.length] 26))) (fun _ _ _ => trivial)).grown g5 (f5.imp id (fun h => h.trans (by simp))))
          have O5 := Lib.hid o5
          have HS5 := Lib.hid (Nat.le_trans HS4' b45.size)
          have HLe : Hid ((dn ++ [f]).length + q2.length ≤ b.length) := Lib.hid (by have := hLen.out; have := HL2.out; simp; omega)
          clear o5 g5 b45 f5
          go_wp2
          go_roundw
          case rel => exact ⟨_, dn ++ [f], q2, HW2, HLe, R5, O5, F5, K5.out, HS5.out⟩
          case measure => rw [lenAt_eq R5.out, hLq.out]; exact HL2.out
end Go.Proofs.Ytkgjgbenfpkekaa.JX
