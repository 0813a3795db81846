/-
  PLAIN: frames joined and split.
-/
import Derived.Test.YtjocbokfdfdkeaaGreatYMath
import Derived.Test.YtjocbokfdfdkeaaGreatLZ4
import Derived.Test.YtjocbokfdfdkeaaGreatLZYWrite
import Derived.Test.YtjocbokfdfdkeaaGreatLZ5
import Derived.Test.YtjocbokfdfdkeaaGreatLZPPart
import Derived.Deep.RegionHeld3
import Derived.BigQuiet
namespace Go.Proofs.YtjocbokfdfdkeaaGreat.JX
open YX (numB rdU addW told rest)
set_option maxRecDepth 100000
set_option linter.unusedVariables false
set_option linter.unusedSimpArgs false

abbrev Bs := List UInt8
def okF (l : List Bs) : Bool := l.all (fun f => decide (1 ≤ f.length) && decide (f.length ≤ 4096))
def joinB (l : List Bs) : Bs := l.flatMap (fun f => numB f.length ++ f)
def capJ (b : Bs) : Option Bs := if 65536 < b.length then none else some b
def joinF (l : List Bs) : Option Bs := if okF l then capJ (joinB l) else none
theorem addW_cap (b : Bs) : addW (some []) b = capJ b := by simp [addW, capJ]
theorem okF_next {l : List Bs} {k : Nat} (h : k < l.length) : okF (l.take (k + 1)) = (okF (l.take k) && (decide (1 ≤ l[k].length) && decide (l[k].length ≤ 4096))) := by
  unfold okF
  rw [List.take_succ_eq_append_getElem h, List.all_append]; simp
theorem joinB_next {l : List Bs} {k : Nat} (h : k < l.length) : joinB (l.take (k + 1)) = joinB (l.take k) ++ (numB l[k].length ++ l[k]) := by
  unfold joinB
  rw [List.take_succ_eq_append_getElem h, List.flatMap_append]; simp
theorem joinF_no {l : List Bs} {k : Nat} (h : k < l.length) (hb : l[k].length < 1 ∨ 4096 < l[k].length) : joinF l = none := by
  unfold joinF
  rw [if_neg]
  intro q
  have := List.all_eq_true.1 q _ (List.getElem_mem h)
  simp only [Bool.and_eq_true, decide_eq_true_eq] at this
  omega
theorem joinF_ok {l : List Bs} (h : okF l = true) : joinF l = capJ (joinB l) := by unfold joinF; rw [if_pos h]
theorem okF_at {l : List Bs} (h : okF l = true) {f : Bs} (hf : f ∈ l) : 1 ≤ f.length ∧ f.length ≤ 4096 := by
  have := List.all_eq_true.1 h f hf
  simpa using this
theorem joinB_len : ∀ {l : List Bs}, okF l = true → (joinB l).length ≤ l.length * 4106
  | [], _ => by simp [joinB]
  | f :: l, h => by
    have h1 := okF_at h (List.mem_cons_self ..)
    have h2 : okF l = true := by simp only [okF, List.all_cons, Bool.and_eq_true] at h; exact h.2
    have h3 := joinB_len h2
    have h4 := YX.numB_len64 (n := f.length) (by omega)
    have e : joinB (f :: l) = (numB f.length ++ f) ++ joinB l := rfl
    rw [e, List.length_append, List.length_append, List.length_cons]
    omega
/-- The first frame, and what is behind it. -/
def cutF (b : Bs) : Option (Bs × Bs) :=
  match rdU b with
  | none => none
  | some (n, r) => if n < 1 ∨ 4096 < n ∨ r.length < n then none else some (r.take n, r.drop n)
theorem cutF_len {b f r : Bs} (h : cutF b = some (f, r)) : r.length < b.length := by
  unfold cutF at h
  split at h
  · cases h
  · rename_i n q e
    split at h
    · cases h
    · injection h with h
      injection h with h1 h2
      rw [← h2, List.length_drop]
      have := YX.rdU_rest e
      omega
def splitL (b : Bs) : Option (List Bs) :=
  if b = [] then some [] else
  match h : cutF b with
  | none => none
  | some (f, r) => (splitL r).map (f :: ·)
termination_by b.length
decreasing_by exact cutF_len h
theorem splitL_nil : splitL [] = some [] := by rw [splitL]; simp
theorem splitL_no {b : Bs} (hb : b ≠ []) (h : cutF b = none) : splitL b = none := by
  rw [splitL, if_neg hb]
  split
  · rfl
  · rename_i e; rw [h] at e; cases e
theorem splitL_yes {b f r : Bs} (hb : b ≠ []) (h : cutF b = some (f, r)) : splitL b = (splitL r).map (f :: ·) := by
  rw [splitL, if_neg hb]
  split
  · rename_i e; rw [h] at e; cases e
  · rename_i f' r' e; rw [h] at e; cases e; rfl
def splitF (b : Bs) : Option (List Bs) := if 65536 < b.length then none else splitL b
/-- How far one has come: what was split, and what is left. -/
def Way (b : Bs) (dn : List Bs) (r : Bs) : Prop := splitL b = (splitL r).map (dn ++ ·)
theorem Way.start (b : Bs) : Way b [] b := by unfold Way; cases splitL b <;> simp
theorem Way.next {b r f q : Bs} {dn : List Bs} (h : Way b dn r) (hr : r ≠ []) (hc : cutF r = some (f, q)) : Way b (dn ++ [f]) q := by
  unfold Way at *
  rw [h, splitL_yes hr hc]
  cases splitL q <;> simp
theorem Way.no {b r : Bs} {dn : List Bs} (h : Way b dn r) (hr : r ≠ []) (hc : cutF r = none) : splitL b = none := by
  unfold Way at h
  rw [h, splitL_no hr hc]; rfl
theorem Way.end_ {b : Bs} {dn : List Bs} (h : Way b dn []) : splitL b = some dn := by
  unfold Way at h
  rw [h, splitL_nil]; simp
/-! ## Joined, and split -/
theorem cut_join {f : Bs} (h : 1 ≤ f.length ∧ f.length ≤ 4096) (r : Bs) : cutF (numB f.length ++ f ++ r) = some (f, r) := by
  unfold cutF
  rw [List.append_assoc, YX.rdU_num (by omega)]
  simp only
  rw [if_neg (by rw [List.length_append]; omega)]
  simp
theorem split_join : ∀ {l : List Bs}, okF l = true → splitL (joinB l) = some l
  | [], _ => splitL_nil
  | f :: l, h => by
    have h1 := okF_at h (List.mem_cons_self ..)
    have h2 : okF l = true := by simp only [okF, List.all_cons, Bool.and_eq_true] at h; exact h.2
    have e : joinB (f :: l) = numB f.length ++ f ++ joinB l := rfl
    have hne : joinB (f :: l) ≠ [] := fun q => by
      have q1 := congrArg List.length q
      rw [e] at q1
      have q2 := YX.numB_pos f.length
      simp only [List.length_append, List.length_nil] at q1
      omega
    rw [splitL_yes hne (by rw [e]; exact cut_join h1 _), split_join h2]; rfl
theorem join_app (a b : List Bs) : joinB (a ++ b) = joinB a ++ joinB b := by simp [joinB]
theorem ok_app (a b : List Bs) : okF (a ++ b) = (okF a && okF b) := by simp [okF]
theorem join_nil {l : List Bs} (h : okF l = true) (hb : joinB l = []) : l = [] := by
  cases l with
  | nil => rfl
  | cons f l =>
    exfalso
    have q1 := congrArg List.length hb
    have e : joinB (f :: l) = numB f.length ++ f ++ joinB l := rfl
    rw [e] at q1
    have q2 := YX.numB_pos f.length
    simp only [List.length_append, List.length_nil] at q1
    omega
/-- Without the last byte there are no such frames. -/
theorem split_short : ∀ {l : List Bs}, okF l = true → l ≠ [] → splitL ((joinB l).take ((joinB l).length - 1)) = none
  | [], _, h => absurd rfl h
  | f :: l, h, _ => by
    have h1 := okF_at h (List.mem_cons_self ..)
    have h2 : okF l = true := by simp only [okF, List.all_cons, Bool.and_eq_true] at h; exact h.2
    have e : joinB (f :: l) = numB f.length ++ f ++ joinB l := rfl
    have hp := YX.numB_pos f.length
    by_cases hl : l = []
    · subst hl
      have e2 : (joinB [f]).take ((joinB [f]).length - 1) = numB f.length ++ f.take (f.length - 1) := by
        have e3 : joinB [f] = numB f.length ++ f := by simp [joinB]
        rw [e3, List.length_append, List.take_append, List.take_of_length_le (by omega)]
        congr 2; omega
      have hne : numB f.length ++ f.take (f.length - 1) ≠ [] := fun q => by
        have := congrArg List.length q
        simp only [List.length_append, List.length_nil] at this
        omega
      rw [e2]
      refine splitL_no hne ?_
      unfold cutF
      rw [YX.rdU_num (by omega)]
      simp only
      rw [if_pos (by rw [List.length_take]; omega)]
    · have hj : joinB l ≠ [] := fun q => hl (join_nil h2 q)
      have hjl : 0 < (joinB l).length := List.length_pos_iff.2 hj
      have e2 : (joinB (f :: l)).take ((joinB (f :: l)).length - 1) = numB f.length ++ f ++ (joinB l).take ((joinB l).length - 1) := by
        rw [e, List.length_append, List.take_append, List.take_of_length_le (by omega)]
        congr 2; omega
      have hne : numB f.length ++ f ++ (joinB l).take ((joinB l).length - 1) ≠ [] := fun q => by
        have := congrArg List.length q
        simp only [List.length_append, List.length_nil] at this
        omega
      rw [e2, splitL_yes hne (cut_join h1 _), split_short h2 hl]; rfl
end Go.Proofs.YtjocbokfdfdkeaaGreat.JX
/-
  Rows of rows of bytes in memory; the program's putFrame.
-/
namespace Go.Proofs.YtjocbokfdfdkeaaGreat.JX
open Go.RowKit HL
open IX (ptr El cellsK cellsK_at cellsK_len OwnK RdK Kept)
open YX (numB rdU addW told rest u8K WAt WPt Wr)
open PX (Wrt wrt wpt Bts)
set_option maxRecDepth 100000
set_option linter.unusedVariables false
set_option linter.unusedSimpArgs false

/-- A row of bytes as it lies in a row of rows. -/
structure Sl3 where
  A : Option Addr
  n : Nat
  c : Nat
noncomputable def slK : El Sl3 where
  T := 111
  e := 39
  size := 1
  bytes := (IX.infoOf 39).bytes
  z := .slice none 0 0
  i := IX.infoOf 39
  enc := fun x => [.slice x.A x.n x.c]
  el := by kernel_rfl
  ht := Tryz.underlying111
  hi := by kernel_rfl
  hz := by kernel_rfl
  hs := by kernel_rfl
  hb := rfl
  hzs := rfl
  pos := by decide
  len := fun _ => rfl
  one := fun _ u hu => by simp at hu; subst hu; rfl
  small := of_decide_eq_true (by kernel_rfl)
/-- The rows behind the cells read as these. -/
def Frs (w : World) (B : Nat) (L : List Sl3) (l : List Bs) : Prop := L.length = l.length ∧ ∀ (i : Nat) (x : Sl3) (f : Bs), L[i]? = some x → l[i]? = some f → x.n = f.length ∧ RdK u8K w B x.A f ∧ f.length ≤ x.c
theorem Frs.nil (w : World) (B : Nat) : Frs w B [] [] := ⟨rfl, fun i x f h => by simp at h⟩
theorem Frs.below {w w' : World} {B : Nat} {L : List Sl3} {l : List Bs} (h : Frs w B L l) (k : Below B w w') : Frs w' B L l := ⟨h.1, fun i x f a b => ⟨(h.2 i x f a b).1, (h.2 i x f a b).2.1.below k, (h.2 i x f a b).2.2⟩⟩
theorem Frs.more {w : World} {B B' : Nat} {L : List Sl3} {l : List Bs} (h : Frs w B L l) (k : B ≤ B') : Frs w B' L l := ⟨h.1, fun i x f a b => ⟨(h.2 i x f a b).1, (h.2 i x f a b).2.1.more k, (h.2 i x f a b).2.2⟩⟩
theorem Frs.snoc {w : World} {B : Nat} {L : List Sl3} {l : List Bs} (h : Frs w B L l) {x : Sl3} {f : Bs} (h1 : x.n = f.length) (h2 : RdK u8K w B x.A f) (h3 : f.length ≤ x.c) : Frs w B (L ++ [x]) (l ++ [f]) := by
  refine ⟨by simp [h.1], fun i y g a b => ?_⟩
  by_cases hi : i < L.length
  · rw [List.getElem?_append_left hi] at a
    rw [List.getElem?_append_left (by rw [← h.1]; exact hi)] at b
    exact h.2 i y g a b
  · rw [List.getElem?_append_right (by omega)] at a
    rw [List.getElem?_append_right (by rw [← h.1]; omega)] at b
    have hi0 : i - L.length = 0 := by have := (List.getElem?_eq_some_iff.1 a).1; simp at this; omega
    rw [hi0] at a
    rw [← h.1, hi0] at b
    simp at a b
    subst a b
    exact ⟨h1, h2, h3⟩
/-- One row of a row of rows. -/
theorem fr_at {w : World} {B k : Nat} {A : Option Addr} {L : List Sl3} {l : List Bs} (h : RdK slK w B A L) (hf : Frs w B L l) (hk : k < l.length) : ∃ b off x, A = some ⟨b, off, none⟩ ∧ b < B ∧ (∀ W, Below B w W → W.cell? ⟨b, off + k, none⟩ = some (.slice x.A l[k].length x.c)) ∧ (∀ W, Below B w W → RdK u8K W B x.A l[k]) ∧ l[k].length ≤ x.c ∧ L[k]? = some x := by
  have hkL : k < L.length := by rw [hf.1]; exact hk
  rcases h with h | ⟨b, off, e, hb, hc⟩
  · rw [h] at hkL; simp at hkL
  · obtain ⟨h1, h2, h3⟩ := hf.2 k L[k] l[k] (List.getElem?_eq_getElem hkL) (List.getElem?_eq_getElem hk)
    refine ⟨b, off, L[k], e, hb, fun W q => ?_, fun W q => h2.below q, h3, List.getElem?_eq_getElem hkL⟩
    have := hc _ _ (cellsK_at slK (List.getElem?_eq_getElem hkL) (i := 0) (u := .slice L[k].A L[k].n L[k].c) rfl)
    have e1 : k * slK.size + 0 = k := by show k * 1 + 0 = k; omega
    rw [e1, h1] at this
    exact (q.cell (p := ⟨b, _, none⟩) hb).trans this
set_option maxHeartbeats 4000000 in
theorem putFrame_any (Bw : Nat) (s : Option Bs) (A : Option Addr) (c : Nat) (f : Bs) (w : World) (hw : WAt w Bw s) (h : RdK u8K w w.heap.size A f) (hne : ∀ a, A = some a → a.block ≠ Bw) (hl : f.length ≤ 10000) :
    Calls Tryz.prog 77 #[ptr Bw, .slice A f.length c] w fun e w' => Wrt w Bw (addW s (numB f.length ++ f)) e w' := by
  have hu : IntKind.u64.wrap (f.length : Int) = (f.length : Int) := YX.wU (by omega)
  have CU := Lib.hid ((YX.wUint_any (ptr Bw) s f.length _ rfl (by omega) w (wpt hw)).mono (fun e w' q => wrt q))
  have CB := Lib.hid (fun (W : World) (s : Option Bs) (x : UInt8) (q : WAt W Bw s) => (YX.wByte_any (ptr Bw) s x.toNat x.toNat_lt W (wpt q)).mono (fun e w' r => wrt r))
  have HR := Lib.hid h
  have HNE := Lib.hid hne
  have HE : Hid (addW s (numB f.length ++ f) = addW (addW s (numB f.length)) f) := Lib.hid (PX.addW_app _ _ _).symm
  have HLm : Hid (∀ b, addW s (numB f.length) = some b → b.length ≤ 65536) := Lib.hid PX.addW_lim
  rw [HE.out]
  clear h hne hw HE
  generalize addW s (numB f.length) = s1 at *
  go_enter Tryz.func77, Tryz.ntmps77
  go_wp2_with (go_at_call 87; ((refine CU.out.mono ?_); rintro e w2 ⟨rfl, r2, k2⟩; have W2 := Lib.hid r2; have K2 := Lib.hid k2; clear r2 k2))
  go_loopw [13] (fun i wr => ∃ k : Nat, i = .int .i64 k ∧ k ≤ f.length ∧ Hid (WAt wr Bw (addW s1 (f.take k))) ∧ Kept w wr (· ≠ Bw)) (fun i _ => f.length - (intOf i).toNat)
  case atStart => exact ⟨0, rfl, by omega, Lib.hid (by rw [List.take_zero, PX.addW_nil s1 HLm.out]; exact W2.out), K2.out⟩
  case round =>
    obtain ⟨k, rfl, hk, hW, hb⟩ := hrel
    have K3 := Lib.hid hb
    clear W2 K2
    by_cases hlt : k < f.length
    · have i1 : (k : Int) < (f.length : Int) := by omega
      have R3 := (HR.out).kept hb (Nat.le_refl _) HNE.out
      obtain ⟨b, off, rfl, hbb, hcc⟩ := YX.RdY.at_ (YX.rdY R3) (by omega)
      have hc := hcc k f[k] (List.getElem?_eq_getElem hlt)
      have HN : Hid (addW s1 (f.take (k + 1)) = addW (addW s1 (f.take k)) [f[k]]) := Lib.hid (by rw [PX.addW_app, List.take_succ_eq_append_getElem hlt])
      have CBk := Lib.hid (CB.out wr (addW s1 (f.take k)) f[k] hW.out)
      rw [YX.n8u] at CBk
      clear R3 hcc
      generalize f[k] = x at *
      generalize addW s1 (f.take k) = sk at *
      go_wp2_with (go_at_call 80; ((refine CBk.out.mono ?_); rintro e w4 ⟨rfl, r4, k4⟩; have W4 := Lib.hid r4; have K4 := Lib.hid (K3.out.trans k4); clear r4 k4))
      go_roundw
      case rel => exact ⟨k + 1, by go_num, by omega, Lib.hid (by rw [HN.out]; exact W4.out), K4.out⟩
      case measure => (simp [intOf]; try omega)
    · obtain rfl : k = f.length := by omega
      have i1 : ¬ (f.length : Int) < (f.length : Int) := by omega
      rw [List.take_length] at hW
      go_wp2
      go_end0
      exact ⟨rfl, hW.out, K3.out⟩
end Go.Proofs.YtjocbokfdfdkeaaGreat.JX
/-
  WALKS: Join of the program and of the document.
-/
namespace Go.Proofs.YtjocbokfdfdkeaaGreat.JX
open Go.RowKit HL
open IX (ptr El cellsK cellsK_at cellsK_len OwnK RdK Kept step_spreadK wpList_spreadK)
open YX (numB rdU addW told rest u8K WAt WPt Wr Own)
open PX (Wrt wrt wpt Bts)
set_option maxRecDepth 100000
set_option linter.unusedVariables false
set_option linter.unusedSimpArgs false

set_option maxHeartbeats 4000000 in
theorem join_any (A : Option Addr) (c : Nat) (L : List Sl3) (l : List Bs) (w : World) (h : RdK slK w w.heap.size A L) (hf : Frs w w.heap.size L l) (hn : l.length ≤ 100000) :
    Calls Tryz.prog 61 #[.slice A l.length c] w fun e w' => Bts w (joinF l) e w' := by
  have hz := YX.zero_wr
  have HR := Lib.hid h
  have HF := Lib.hid hf
  have HW0 : Hid (WAt (w.alloc (.cells YX.zW 118)) w.heap.size (some [])) := Lib.hid ⟨[], YX.p0, 0, YX.p0_len, by omega, by simp, by simp, YX.AtH.new _ _ _⟩
  have HB0 := Lib.hid (bAl (Below.refl w.heap.size w) (.cells YX.zW 118))
  obtain ⟨r, hr⟩ : ∃ r, joinF l = r := ⟨_, rfl⟩
  have HNO : Hid (∀ k (q : k < l.length), l[k].length < 1 ∨ 4096 < l[k].length → r = none) := Lib.hid (fun k q b => by rw [← hr]; exact joinF_no q b)
  have HOK : Hid (okF l = true → r = addW (some []) (joinB l)) := Lib.hid (fun q => by rw [← hr, addW_cap]; exact joinF_ok q)
  rw [hr]
  clear h hf hr
  go_enter Tryz.func61, Tryz.ntmps61
  go_wp2
  go_loopw [9] (fun i wr => ∃ k : Nat, i = .int .i64 k ∧ k ≤ l.length ∧ Hid (okF (l.take k) = true) ∧ Hid (WAt wr w.heap.size (addW (some []) (joinB (l.take k)))) ∧ Below w.heap.size w wr) (fun i _ => l.length - (intOf i).toNat)
  case atStart => exact ⟨0, rfl, by omega, Lib.hid rfl, Lib.hid (by rw [List.take_zero]; exact HW0.out), HB0.out⟩
  case round =>
    obtain ⟨k, rfl, hk, hA, hW, hb⟩ := hrel
    have K3 := Lib.hid hb
    clear HW0 HB0
    by_cases hlt : k < l.length
    · have i1 : (k : Int) < (l.length : Int) := by omega
      obtain ⟨b, off, x, rfl, hbb, hcc, hrr, _, _⟩ := fr_at HR.out HF.out hlt
      have hc := hcc wr hb
      have HRX := Lib.hid (hrr wr hb)
      have HN : Hid (addW (some []) (joinB (l.take (k + 1))) = addW (addW (some []) (joinB (l.take k))) (numB l[k].length ++ l[k])) := Lib.hid (by rw [PX.addW_app, joinB_next hlt])
      have HA1 := Lib.hid (okF_next hlt)
      have HNK := Lib.hid (HNO.out k hlt)
      clear hcc hrr
      generalize l[k] = f at *
      obtain ⟨n, hn⟩ : ∃ n, f.length = n := ⟨_, rfl⟩
      by_cases h0 : n = 0
      · subst h0
        have HR0 := Lib.hid (HNK.out (by omega))
        rw [hn] at hc
        clear hn
        go_wp2
        go_ret2
        exact ⟨_, 3, rfl, by rw [HR0.out]; exact .no', K3.out⟩
      · have i2 : ¬ ((n : Int) = 0) := by omega
        by_cases h4 : 4096 < n
        · have i4 : (4096 : Int) < (n : Int) := by omega
          have HR0 := Lib.hid (HNK.out (by omega))
          rw [hn] at hc
          clear hn
          go_wp2
          go_ret2
          exact ⟨_, 3, rfl, by rw [HR0.out]; exact .no', K3.out⟩
        · have i4 : ¬ (4096 : Int) < (n : Int) := by omega
          have CP := Lib.hid (putFrame_any w.heap.size (addW (some []) (joinB (l.take k))) x.A x.c f wr hW.out (HRX.out.more hb.size) (fun a e => by
            rcases HRX.out with q | ⟨b', o', e', hb', _⟩
            · rw [q] at hn; simp at hn; omega
            · rw [e] at e'; cases e'; show b' ≠ _; omega) (by omega))
          have HA2 : Hid (okF (l.take (k + 1)) = true) := Lib.hid (by rw [HA1.out, hA.out, decide_eq_true (show 1 ≤ f.length by omega), decide_eq_true (show f.length ≤ 4096 by omega)]; rfl)
          rw [hn] at hc CP HN
          clear hn HRX HNK
          generalize addW (some []) (joinB (l.take k)) = sk at *
          go_wp2_with (go_at_call 77; ((refine CP.out.mono ?_); rintro e w4 ⟨rfl, r4, k4⟩; have W4 := Lib.hid r4; have K4 := Lib.hid ((Kept.trans (P := (· ≠ w.heap.size)) (.of_below K3.out) k4).below (Nat.le_refl _) (fun j hj => show j ≠ w.heap.size by omega)); clear r4 k4))
          go_roundw
          case rel => exact ⟨k + 1, by go_num, by omega, HA2, Lib.hid (by rw [HN.out]; exact W4.out), K4.out⟩
          case measure => (simp [intOf]; try omega)
    · obtain rfl : k = l.length := by omega
      have i1 : ¬ (l.length : Int) < (l.length : Int) := by omega
      rw [List.take_length] at hA hW
      have HRR := Lib.hid (HOK.out hA.out)
      rw [← HRR.out] at hW
      have CY := Lib.hid (PX.bytes_any w.heap.size r wr hW.out)
      clear hW HRR HOK HNO
      go_wp2_with (go_at_call 66; ((refine CY.out.mono ?_); rintro e w6 ⟨v, n, rfl, b6, k6⟩; have B6 := Lib.hid b6; have K6 := Lib.hid (bThen K3.out k6); clear b6 k6))
      go_ret2
      exact ⟨v, n, rfl, B6.out, K6.out⟩
theorem refMost_any (l : Bs) (A : Option Addr) (c : Nat) (w : World) (h : RdK u8K w w.heap.size A l) (hc : l.length ≤ c) (h0 : A = none → c = 0) : Calls Tryz.prog 37 #[.slice A l.length c] w fun e w' => Bts w (capJ l) e w' := by
  by_cases g : 65536 < l.length
  · have i1 : (65536 : Int) < (l.length : Int) := by omega
    have e : capJ l = none := by unfold capJ; rw [if_pos g]
    rw [e]
    clear h e hc h0
    go_enter Tryz.func37, Tryz.ntmps37
    go_wp2
    go_ret2
    exact ⟨_, 3, rfl, .no', Below.refl _ _⟩
  · have i1 : ¬ (65536 : Int) < (l.length : Int) := by omega
    have e : capJ l = some l := by unfold capJ; rw [if_neg g]
    rw [e]
    have H : Hid (PX.Rows w (.slice A l.length c) l) := Lib.hid ⟨A, c, rfl, h, hc, h0⟩
    clear h e hc h0
    go_enter Tryz.func37, Tryz.ntmps37
    go_wp2
    go_ret2
    exact ⟨_, 0, rfl, .yes' _ _ H.out, Below.refl _ _⟩
theorem bD1J (w : World) : Below w.heap.size w w.drew := ⟨rfl, rfl, rfl, Nat.le_refl _, fun _ _ => rfl⟩
theorem own_none {w : World} {base : Nat} {A : Option Addr} {n c : Nat} {l : Bs} (h : OwnK u8K w base (.slice A n c) l) : A = none → c = 0 := fun q => by
  rcases h.2 with ⟨e, _⟩ | ⟨g, cap, cur, e, _⟩
  · simp only [Value.slice.injEq] at e; exact e.2.2
  · simp only [Value.slice.injEq] at e; rw [q] at e; cases e.1
end Go.Proofs.YtjocbokfdfdkeaaGreat.JX
/-
  WALK: the document's SameFrames of two rows that are the same.
-/
namespace Go.Proofs.YtjocbokfdfdkeaaGreat.JX
open Go.RowKit HL
open IX (ptr El cellsK cellsK_at cellsK_len OwnK RdK Kept)
open YX (numB rdU addW told rest u8K)
set_option maxRecDepth 100000
set_option linter.unusedVariables false
set_option linter.unusedSimpArgs false

set_option maxHeartbeats 4000000 in
theorem sameF_yes (A1 A2 : Option Addr) (c1 c2 m : Nat) (L1 L2 : List Sl3) (l : List Bs) (w : World) (h1 : RdK slK w w.heap.size A1 L1) (f1 : Frs w w.heap.size L1 l) (h2 : RdK slK w w.heap.size A2 L2) (f2 : Frs w w.heap.size L2 l) (hm : l.length = m) (hn : m ≤ 1000000) :
    Calls Tryz.prog 63 #[.slice A1 m c1, .slice A2 m c2] w fun e w' => e = .returned (.bool true) ∧ Below w.heap.size w w' := by
  subst hm
  have H1 := Lib.hid h1
  have H2 := Lib.hid h2
  have F1 := Lib.hid f1
  have F2 := Lib.hid f2
  clear h1 h2 f1 f2
  go_enter Tryz.func63, Tryz.ntmps63
  go_wp2
  go_loopw [5] (fun i wr => ∃ k : Nat, i = .int .i64 k ∧ k ≤ l.length ∧ Below w.heap.size w wr) (fun i _ => l.length - (intOf i).toNat)
  case atStart => exact ⟨0, rfl, Nat.zero_le _, Below.refl _ _⟩
  case round =>
    obtain ⟨k, rfl, hk, hb⟩ := hrel
    have K3 := Lib.hid hb
    by_cases hlt : k < l.length
    · have i1 : (k : Int) < (l.length : Int) := by omega
      obtain ⟨b, off, x, rfl, hbb, hcc, hrr, _, _⟩ := fr_at H1.out F1.out hlt
      obtain ⟨b2, off2, x2, rfl, hbb2, hcc2, hrr2, _, _⟩ := fr_at H2.out F2.out hlt
      have hbn : ∀ n, Below w.heap.size w (wr.drewN n) := fun n => bDrew hb n
      have q1 : ∀ n, (wr.drewN n).cell? ⟨b, off + k, none⟩ = some (.slice x.A l[k].length x.c) := fun n => hcc _ (hbn n)
      have q2 : ∀ n, (wr.drewN n).cell? ⟨b2, off2 + k, none⟩ = some (.slice x2.A l[k].length x2.c) := fun n => hcc2 _ (hbn n)
      have v1 : ∀ n, (convert 39 9 (.slice x.A l[k].length x.c)).run Tryz.prog (wr.drewN n) = .ok (str l[k]) (wr.drewN n) := fun n => YX.conv_str (hrr _ (hbn n)) rfl
      have v2 : ∀ n, (convert 39 9 (.slice x2.A l[k].length x2.c)).run Tryz.prog (wr.drewN n) = .ok (str l[k]) (wr.drewN n) := fun n => YX.conv_str (hrr2 _ (hbn n)) rfl
      clear hcc hcc2 hrr hrr2 hbn
      generalize l[k] = f at *
      go_wp2
      go_quiet (fail)
      go_wp2
      go_roundw
      case rel => exact ⟨k + 1, by go_num, by omega, by first | exact bDrew K3.out _ | exact K3.out⟩
      case measure => (simp [intOf]; try omega)
    · obtain rfl : k = l.length := by omega
      have i1 : ¬ (l.length : Int) < (l.length : Int) := by omega
      go_wp2
      go_ret
      exact ⟨rfl, K3.out⟩
end Go.Proofs.YtjocbokfdfdkeaaGreat.JX
