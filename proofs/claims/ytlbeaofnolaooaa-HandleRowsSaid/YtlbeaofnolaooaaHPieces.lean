/-
  THE ITERATOR pieces: it hands a text's pieces over, one by one, whatever the loop body does that keeps what lay below n0 and the walks' objects.
-/
import Derived.Test.YtlbeaofnolaooaaHSplit
import Derived.RangeFuncNested
import Derived.RangeFuncBound
import Derived.RangeFuncBox
import Derived.RangeFuncCalls
import Derived.RangeFuncLeaves
import Derived.Shelf.Abstract
import Derived.OwnWalkIn
import Derived.TacticsInMore
import Derived.LoopNIn
import Derived.LoopIn
import Derived.Maps.AppendAt
namespace Go.Proofs.Ytlbeaofnolaooaa
open Go.RowKit
set_option maxRecDepth 100000
set_option linter.unusedVariables false
set_option linter.unusedSimpArgs false

attribute [local go_sem] Oper.semAt_some

theorem get_bt (s : ByteArray) (j : Nat) (h : j < s.size) : (s.get! j).toNat = bt s j := by
  have := get_at s j h
  rw [Nat.add_zero] at this
  rw [this]; exact bt_get s j h
theorem cont_hi {s : ByteArray} {j : Nat} (h : (decide (j < s.size) && (s.get! j).toNat / 64 == 2) = true) : j < s.size ∧ 128 ≤ bt s j := by
  simp only [Bool.and_eq_true, decide_eq_true_eq, beq_iff_eq] at h
  have := get_bt s j h.1
  omega
theorem wide (s : ByteArray) (k : Nat) (h : k < s.size) (ha : 128 ≤ bt s k) : ∀ j, j < (Utf8.decode s k).2 → k + j < s.size ∧ 128 ≤ bt s (k + j) := by
  have h0 : ¬ (s.get! (k + 0)).toNat < 128 := by rw [Nat.add_zero, get_bt s k h]; omega
  have hz : ∀ j, j = 0 → k + j < s.size ∧ 128 ≤ bt s (k + j) := fun j e => by subst e; exact ⟨by omega, by simpa using ha⟩
  have key : ∀ j, (decide (k + j < s.size) && (s.get! (k + j)).toNat / 64 == 2) = true → k + j < s.size ∧ 128 ≤ bt s (k + j) := fun j hj => cont_hi hj
  intro j hj
  unfold Utf8.decode at hj
  simp only [h0, if_false] at hj
  split at hj
  · rename_i hc
    rw [Bool.and_eq_true] at hc
    have k1 := key 1 hc.2
    have : j = 0 ∨ j = 1 := by split at hj <;> simp at hj <;> omega
    rcases this with e | e
    · exact hz j e
    · subst e; exact k1
  · split at hj
    · rename_i hc
      rw [Bool.and_eq_true, Bool.and_eq_true] at hc
      have k1 := key 1 hc.1.2
      have k2 := key 2 hc.2
      have : j = 0 ∨ j = 1 ∨ j = 2 := by split at hj <;> simp at hj <;> omega
      rcases this with e | e | e
      · exact hz j e
      · subst e; exact k1
      · subst e; exact k2
    · split at hj
      · rename_i hc
        rw [Bool.and_eq_true, Bool.and_eq_true, Bool.and_eq_true] at hc
        have k1 := key 1 hc.1.1.2
        have k2 := key 2 hc.1.2
        have k3 := key 3 hc.2
        have : j = 0 ∨ j = 1 ∨ j = 2 ∨ j = 3 := by split at hj <;> simp at hj <;> omega
        rcases this with e | e | e | e
        · exact hz j e
        · subst e; exact k1
        · subst e; exact k2
        · subst e; exact k3
      · simp at hj
        exact hz j hj

theorem ps_pre (s : ByteArray) (c : Int) {k n : Nat} (h : k ≤ n) : ps s c k <+: ps s c n := by
  induction n with
  | zero => obtain rfl : k = 0 := by omega
            exact List.prefix_refl _
  | succ n ih =>
    by_cases e : k = n + 1
    · subst e; exact List.prefix_refl _
    · refine (ih (by omega)).trans ?_
      simp only [ps]
      split
      · exact ⟨_, rfl⟩
      · exact List.prefix_refl _
theorem fr_jump {s : ByteArray} {c : Int} {k wd : Nat} (h : ∀ j, j < wd → (bt s (k + j) : Int) ≠ c) : fr s c (k + wd) = fr s c k ∧ ps s c (k + wd) = ps s c k := by
  induction wd with
  | zero => simp
  | succ wd ih =>
    have := ih (fun j hj => h j (by omega))
    have hn := h wd (by omega)
    rw [← Nat.add_assoc, fr_f hn, ps_f hn]
    exact this

/-- What the string's iterator in block K hands over at place k: the mark (and it stands there), or another rune, and none of the bytes passed over is the mark. -/
theorem next_mark (s : ByteArray) (c : Int) (hc0 : 0 ≤ c) (hc : c < 128) (k K : Nat) (h : k < s.size) (w : World) (hk : w.heap[K]? = some (.stringIter s k)) :
    ∃ (r wd : Nat), (∀ ty, (Instr.next (.pointer (some ⟨K, 0, none⟩)) true ty).run Try.prog w = .ok (.tuple #[.bool true, .int .i64 k, .int .i32 r]) (w.iterAt K s (k + wd))) ∧ k + wd ≤ s.size ∧ 1 ≤ wd ∧
      (((r : Int) = c ∧ wd = 1 ∧ (bt s k : Int) = c) ∨ ((r : Int) ≠ c ∧ fr s c (k + wd) = fr s c k ∧ ps s c (k + wd) = ps s c k)) := by
  by_cases ha : (s[k]'h).toNat < 128
  · refine ⟨(s[k]'h).toNat, 1, fun ty => Lib.run_next_ascii_at w K s k ty hk h ha, by omega, Nat.le_refl _, ?_⟩
    have g := bt_get s k h
    by_cases e : (bt s k : Int) = c
    · exact .inl ⟨by rw [g]; exact e, rfl, e⟩
    · exact .inr ⟨by rw [g]; exact e, fr_f e, ps_f e⟩
  · have g := bt_get s k h
    have hh := decode_high s k h (by omega)
    have hw := wide s k h (by omega)
    refine ⟨(Utf8.decode s k).1, (Utf8.decode s k).2, fun ty => Lib.run_next_any_at w K s k ty hk h, ?_, hh.2, .inr ⟨by omega, ?_⟩⟩
    · have := (hw ((Utf8.decode s k).2 - 1) (by omega)).1
      omega
    · exact fr_jump (fun j hj => by have := (hw j hj).2; omega)

/-- What a round that goes on must keep: what lay below n0, and the walks' objects. -/
def Kept (n₀ : Nat) (A B : World) : Prop := Below n₀ A B ∧ KeepsWalks A B
theorem Kept.t {n₀ : Nat} {A B C : World} (h : Kept n₀ A B) (k : Kept n₀ B C) : Kept n₀ A C := ⟨h.1.trans k.1, h.2.trans k.2⟩
theorem Kept.b {n₀ : Nat} {w : World} (hn : n₀ ≤ w.heap.size) (W : World) (l : Nat) (o o' : Obj) (hl : w.heap.size ≤ l) (h : W.heap[l]? = some o) (hc : o.isCells = false) (hw : o.isWalk = false) : Kept n₀ W (W.putObj l o') :=
  ⟨belowK_b hn W l o o' hl h hc hw, walksK_b (w := w) W l o o' hl h hc hw⟩

/-- The blocks Bs and Bm, and the walks' objects, lie as they lay. -/
def Keeps (Bs Bm : Nat) (A B : World) : Prop := (B.heap[Bs]? = A.heap[Bs]? ∧ B.heap[Bm]? = A.heap[Bm]?) ∧ KeepsWalks A B
theorem Keeps.t {Bs Bm : Nat} {A B C : World} (h : Keeps Bs Bm A B) (k : Keeps Bs Bm B C) : Keeps Bs Bm A C := ⟨⟨k.1.1.trans h.1.1, k.1.2.trans h.1.2⟩, h.2.trans k.2⟩
theorem Keeps.b {Bs Bm : Nat} {w : World} (h1 : Bs < w.heap.size) (h2 : Bm < w.heap.size) (W : World) (l : Nat) (o o' : Obj) (hl : w.heap.size ≤ l) (h : W.heap[l]? = some o) (hc : o.isCells = false) (hw : o.isWalk = false) : Keeps Bs Bm W (W.putObj l o') :=
  ⟨⟨World.putObj_heap_other (by omega), World.putObj_heap_other (by omega)⟩, walksK_b (w := w) W l o o' hl h hc hw⟩
theorem Kept.keeps {n₀ Bs Bm : Nat} {A B : World} (h : Kept n₀ A B) (h1 : Bs < n₀) (h2 : Bm < n₀) : Keeps Bs Bm A B := ⟨⟨h.1.block _ h1, h.1.block _ h2⟩, h.2⟩

theorem grownBy_iterAt (w : World) (K : Nat) (s : ByteArray) (p : Nat) : w.grownBy (w.iterAt K s p) (some K) :=
  ⟨rfl, rfl, rfl, by rw [Lib.iterAt_size]; exact Nat.le_refl _, fun j _ hj => Lib.iterAt_other w K j s p (fun e => hj (by rw [e]))⟩

set_option maxHeartbeats 2000000 in
theorem pieces1_in (F : Fence) (n : Nat) (h48 : F.fn 48) (hro : F.round = none) (hn : 1 ≤ n) (l Bs Bm : Nat) (s : ByteArray) (c : Int) (hc0 : 0 ≤ c) (hc : c < 128) (hs : s.size ≤ maxLen) (J Jx : List (List UInt8) → World → Prop)
    (hY : ∀ pre x W, J pre W → pre ++ [x] <+: splitL s c → YieldAt F (n - 1) Try.prog l #[str x] W fun e W' =>
      (e = .returned (.bool true) ∧ J (pre ++ [x]) W' ∧ Keeps Bs Bm W W') ∨ (e = .returned (.bool false) ∧ Jx (pre ++ [x]) W'))
    (W : World) (hJ : AbidesFrom W.heap.size J) (hBs : Bs < W.heap.size) (hBm : Bm < W.heap.size) (hcs : W.cell? ⟨Bs, 0, none⟩ = some (.string s)) (hcm : W.cell? ⟨Bm, 0, none⟩ = some (.int .i32 c)) (h0 : J [] W) :
    CallsIn F n Try.prog 48 #[.func (.yield l) #[] #[], .pointer (some ⟨Bs, 0, none⟩), .pointer (some ⟨Bm, 0, none⟩)] W fun e W' => (∃ v, e = .returned v) ∧
      ((∃ ys, ys = splitL s c ∧ J ys W') ∨ (∃ pre, pre <+: splitL s c ∧ Jx pre W')) := by
  unfold maxLen at hs
  refine callsIn_of_wp Try.func48 rfl h48 ?_ hro
  simp only [Try.ntmps48, List.size_toArray, List.length_cons, List.length_nil, Nat.reduceAdd, Nat.reduceSub, Array.replicate_succ, Array.replicate_zero, List.push_toArray, List.append_toArray, List.nil_append, List.cons_append]
  gi_wp2
  gi_loopw [4] (fun st wr => ∃ k : Nat, st = .int .i64 (fr s c k) ∧ k ≤ s.size ∧ wr.heap[W.heap.size]? = some (.stringIter s k) ∧ J (ps s c k) wr ∧ wr.cell? ⟨Bs, 0, none⟩ = some (.string s) ∧ wr.cell? ⟨Bm, 0, none⟩ = some (.int .i32 c)) (fun _ wr => s.size - wr.iterPos W.heap.size)
  case atStart => exact ⟨0, rfl, Nat.zero_le _, World.iter_heap W s 0, hJ [] W _ none h0 (World.grownBy_alloc W _ none) (fun r e => by cases e), (World.cell?_of_block (a := ⟨Bs, 0, none⟩) (Below.heap_alloc W _ Bs hBs)).trans hcs, (World.cell?_of_block (a := ⟨Bm, 0, none⟩) (Below.heap_alloc W _ Bm hBm)).trans hcm⟩
  case round =>
    obtain ⟨k, rfl, hk, hit, hJs, hcs', hcm'⟩ := hrel
    have hfk := fr_le s c k
    by_cases hlt : k < s.size
    · obtain ⟨r, wd, hnx, hkw, hwd, hr⟩ := next_mark s c hc0 hc k W.heap.size hlt wr hit
      have hKb : W.heap.size < wr.heap.size := (Array.getElem?_eq_some_iff.1 hit).1
      have hJ2 : J (ps s c k) (wr.iterAt W.heap.size s (k + wd)) := hJ _ wr _ (some W.heap.size) hJs (grownBy_iterAt _ _ _ _) (fun r e => by cases e; exact ⟨Nat.le_refl _, _, hit, rfl⟩)
      have hit2 := Lib.iterAt_heap wr W.heap.size s k (k + wd) hit
      have hcs2 : (wr.iterAt W.heap.size s (k + wd)).cell? ⟨Bs, 0, none⟩ = some (.string s) := (World.cell?_of_block (Lib.iterAt_other wr W.heap.size Bs s (k + wd) (by omega))).trans hcs'
      have hcm2 : (wr.iterAt W.heap.size s (k + wd)).cell? ⟨Bm, 0, none⟩ = some (.int .i32 c) := (World.cell?_of_block (Lib.iterAt_other wr W.heap.size Bm s (k + wd) (by omega))).trans hcm'
      rcases hr with ⟨hrc, hw1, hbc⟩ | ⟨hrc, hf2, hp2⟩
      · subst hw1
        have hpl : ps s c k ++ [cutL s (fr s c k) k] <+: splitL s c := by rw [← ps_t hbc]; exact (ps_pre s c (by omega : k + 1 ≤ s.size)).trans ⟨_, rfl⟩
        have hmk : ((r : Int) != c) = false := by simp [hrc]
        have HF2 := Lib.hid (fr_t hbc)
        have HP2 := Lib.hid (ps_t hbc)
        obtain ⟨fn, tmps, assign, body, hy, hR⟩ := hY (ps s c k) (cutL s (fr s c k) k) _ hJ2 hpl
        rw [← extract_str] at hy
        obtain ⟨f, hf⟩ : ∃ f, fr s c k = f := ⟨_, rfl⟩
        rw [hf] at hy hR hfk HP2
        have HF := Lib.hid hf
        have HS := Lib.hid hJs
        have HJ2 := Lib.hid hJ2
        rw [hf]
        clear hf hrc hbc hJs hJ2 hcs' hcm'
        gi_wp2
        refine hR.mono ?_
        rintro e W3 (⟨rfl, hJ3, hk3⟩ | ⟨rfl, hJx3⟩)
        · have hit3 : W3.heap[W.heap.size]? = some (.stringIter s (k + 1)) := hk3.2.same _ _ hit2 rfl
          have hcs3 : W3.cell? ⟨Bs, 0, none⟩ = some (.string s) := (World.cell?_of_block hk3.1.1).trans hcs2
          have hcm3 : W3.cell? ⟨Bm, 0, none⟩ = some (.int .i32 c) := (World.cell?_of_block hk3.1.2).trans hcm2
          have HJ3 := Lib.hid hJ3
          clear hJ3
          gi_wp2
          go_roundw
          case rel => exact ⟨k + 1, by rw [HF2.out]; go_num, by omega, hit3, by rw [HP2.out]; exact HJ3.out, hcs3, hcm3⟩
          case measure => rw [iterPos_of hit, iterPos_of hit3]; omega
        · gi_wp2
          refine bodyPost_ret (results_none rfl _ _ _) rfl ?_
          refine ⟨⟨_, rfl⟩, .inr ⟨_, ?_, hJx3⟩⟩
          rw [← HP2.out]
          exact (ps_pre s c (by omega : k + 1 ≤ s.size)).trans ⟨_, rfl⟩
      · have hmk : ((r : Int) != c) = true := by rw [bne_iff_ne]; exact hrc
        have HF2 := Lib.hid hf2
        have HP2 := Lib.hid hp2
        have HJ2 := Lib.hid hJ2
        clear hrc hf2 hp2 hJs hJ2
        gi_wp2
        go_roundw
        case rel => exact ⟨k + wd, by rw [HF2.out], by omega, hit2, by rw [HP2.out]; exact HJ2.out, hcs2, hcm2⟩
        case measure => rw [iterPos_of hit, iterPos_of hit2]; omega
    · have hks : k = s.size := by omega
      subst hks
      have hnx := fun ty => Lib.run_next_end_at (P := Try.prog) wr W.heap.size s s.size ty hit hlt
      have hpl : ps s c s.size ++ [cutL s (fr s c s.size) s.size] <+: splitL s c := List.prefix_refl _
      obtain ⟨fn, tmps, assign, body, hy, hR⟩ := hY (ps s c s.size) (cutL s (fr s c s.size) s.size) _ hJs hpl
      rw [← extract_str] at hy
      have HSP : Hid (ps s c s.size ++ [cutL s (fr s c s.size) s.size] = splitL s c) := Lib.hid rfl
      obtain ⟨f, hf⟩ : ∃ f, fr s c s.size = f := ⟨_, rfl⟩
      rw [hf] at hy hR hfk HSP
      have HF := Lib.hid hf
      have HS := Lib.hid hJs
      rw [hf]
      clear hf hJs
      gi_wp2
      refine hR.mono ?_
      rintro e W3 (⟨rfl, hJ3, hk3⟩ | ⟨rfl, hJx3⟩)
      · gi_wp2
        go_end0
        exact ⟨⟨_, rfl⟩, .inl ⟨_, HSP.out, hJ3⟩⟩
      · gi_wp2
        go_end0
        exact ⟨⟨_, rfl⟩, .inr ⟨_, by rw [HSP.out]; exact List.prefix_refl _, hJx3⟩⟩

theorem pieces_in (F : Fence) (n : Nat) (h38 : F.fn 38) (hro : F.round = none) (s : ByteArray) (c : Int) (w : World) :
    CallsIn F n Try.prog 38 #[.string s, .int .i32 c] w fun e w' => e = .returned (.func (.func 48) #[] #[.pointer (some ⟨w.heap.size, 0, none⟩), .pointer (some ⟨w.heap.size + 1, 0, none⟩)]) ∧ (w.alloc (.cells #[.string s] 9)).alloc (.cells #[.int .i32 c] 21) = w' := by
  refine callsIn_of_wp Try.func38 rfl h38 ?_ hro
  simp only [Try.ntmps38, List.size_toArray, List.length_cons, List.length_nil, Nat.reduceAdd, Nat.reduceSub, Array.replicate_succ, Array.replicate_zero, List.push_toArray, List.append_toArray, List.nil_append, List.cons_append]
  gi_wp2
  go_ret
  exact ⟨rfl, rfl⟩

theorem pieces_stopsK (F : Fence) (n : Nat) (h48 : F.fn 48) (hro : F.round = none) (hn : 1 ≤ n) (Bs Bm : Nat) (s : ByteArray) (c : Int) (hc0 : 0 ≤ c) (hc : c < 128) (hs : s.size ≤ maxLen) (w : World) (hBs : Bs < w.heap.size) (hBm : Bm < w.heap.size)
    (hcs : w.cell? ⟨Bs, 0, none⟩ = some (.string s)) (hcm : w.cell? ⟨Bm, 0, none⟩ = some (.int .i32 c)) :
    SeqStopsK F n Try.prog 48 #[.pointer (some ⟨Bs, 0, none⟩), .pointer (some ⟨Bm, 0, none⟩)] (fun x : List UInt8 => #[str x]) (Keeps Bs Bm) (fun ys => ys = splitL s c) (fun pre => pre <+: splitL s c) (splitL s c).length w := fun l J Jx W hW hJ _ hY h0 =>
  pieces1_in F n h48 hro hn l Bs Bm s c hc0 hc hs J Jx (fun pre x W1 hj hp => hY pre x W1 hj (by have := hp.length_le; simp at this; omega)) W hJ (Nat.lt_of_lt_of_le hBs hW.size) (Nat.lt_of_lt_of_le hBm hW.size) ((hW.cell (p := ⟨Bs, 0, none⟩) hBs).trans hcs) ((hW.cell (p := ⟨Bm, 0, none⟩) hBm).trans hcm) h0

/-- The same, over texts that are no longer than the text itself: what a loop body may know of a piece. -/
theorem pieces_stopsL (F : Fence) (n : Nat) (h48 : F.fn 48) (hro : F.round = none) (hn : 1 ≤ n) (Bs Bm : Nat) (s : ByteArray) (c : Int) (hc0 : 0 ≤ c) (hc : c < 128) (hs : s.size ≤ maxLen) (w : World) (hBs : Bs < w.heap.size) (hBm : Bm < w.heap.size)
    (hcs : w.cell? ⟨Bs, 0, none⟩ = some (.string s)) (hcm : w.cell? ⟨Bm, 0, none⟩ = some (.int .i32 c)) (hall : ∀ x ∈ splitL s c, x.length ≤ maxLen) :
    SeqStopsK F n Try.prog 48 #[.pointer (some ⟨Bs, 0, none⟩), .pointer (some ⟨Bm, 0, none⟩)] (fun x : { x : List UInt8 // x.length ≤ maxLen } => #[str x.1]) (Keeps Bs Bm) (fun ys => ys.map (·.1) = splitL s c) (fun pre => pre.map (·.1) <+: splitL s c) (splitL s c).length w := fun l J Jx W hW hJ hJx hY h0 => by
  refine (pieces1_in F n h48 hro hn l Bs Bm s c hc0 hc hs (fun xs W => ∃ ys : List { x : List UInt8 // x.length ≤ maxLen }, ys.map (·.1) = xs ∧ J ys W) (fun xs W => ∃ ys : List { x : List UInt8 // x.length ≤ maxLen }, ys.map (·.1) = xs ∧ Jx ys W) (fun pre x W1 hj hp => ?_) W (fun xs A B row hs hg hr => ?_) (Nat.lt_of_lt_of_le hBs hW.size) (Nat.lt_of_lt_of_le hBm hW.size) ((hW.cell (p := ⟨Bs, 0, none⟩) hBs).trans hcs) ((hW.cell (p := ⟨Bm, 0, none⟩) hBm).trans hcm) ⟨[], rfl, h0⟩).mono ?_
  · obtain ⟨ys, rfl, hj⟩ := hj
    have hx : x.length ≤ maxLen := hall x (hp.subset (List.mem_append.2 (.inr (by simp))))
    obtain ⟨fn, tmps, assign, body, hy, hR⟩ := hY ys ⟨x, hx⟩ W1 hj (by have := hp.length_le; simp at this; omega)
    refine ⟨fn, tmps, assign, body, hy, hR.mono ?_⟩
    rintro e W' (⟨he, hj', hk⟩ | ⟨he, hj'⟩)
    · exact .inl ⟨he, ⟨_, by simp, hj'⟩, hk⟩
    · exact .inr ⟨he, ⟨_, by simp, hj'⟩⟩
  · obtain ⟨ys, e, hj⟩ := hs
    exact ⟨ys, e, hJ ys A B row hj hg hr⟩
  · rintro e W' ⟨hv, ⟨_, rfl, ys, e1, hj⟩ | ⟨_, hp, ys, rfl, hj⟩⟩
    · exact ⟨hv, .inl ⟨ys, e1, hj⟩⟩
    · exact ⟨hv, .inr ⟨ys, hp, hj⟩⟩

theorem pieces_stops (F : Fence) (n : Nat) (h48 : F.fn 48) (hro : F.round = none) (hn : 1 ≤ n) (Bs Bm n₀ : Nat) (s : ByteArray) (c : Int) (hc0 : 0 ≤ c) (hc : c < 128) (hs : s.size ≤ maxLen) (w : World) (hBs : Bs < n₀) (hBm : Bm < n₀) (hn₀ : n₀ ≤ w.heap.size)
    (hcs : w.cell? ⟨Bs, 0, none⟩ = some (.string s)) (hcm : w.cell? ⟨Bm, 0, none⟩ = some (.int .i32 c)) :
    SeqStopsK F n Try.prog 48 #[.pointer (some ⟨Bs, 0, none⟩), .pointer (some ⟨Bm, 0, none⟩)] (fun x : List UInt8 => #[str x]) (Kept n₀) (fun ys => ys = splitL s c) (fun pre => pre <+: splitL s c) (splitL s c).length w := fun l J Jx W hW hJ hJx hY h0 =>
  pieces_stopsK F n h48 hro hn Bs Bm s c hc0 hc hs w (by omega) (by omega) hcs hcm l J Jx W hW hJ hJx (fun pre x W1 hj hl => by
    obtain ⟨fn, tmps, assign, body, hy, hR⟩ := hY pre x W1 hj hl
    refine ⟨fn, tmps, assign, body, hy, hR.mono ?_⟩
    rintro e W' (⟨he, hj', hk⟩ | h)
    · exact .inl ⟨he, hj', hk.keeps hBs hBm⟩
    · exact .inr h) h0
end Go.Proofs.Ytlbeaofnolaooaa
