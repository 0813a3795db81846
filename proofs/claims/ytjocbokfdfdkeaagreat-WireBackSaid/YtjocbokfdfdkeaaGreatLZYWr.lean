/-
  WALKS: fail, add of a writer.
-/
import Derived.Test.YtjocbokfdfdkeaaGreatLZYNum
import Derived.Deep.RegionLaw
namespace Go.Proofs.YtjocbokfdfdkeaaGreat.YX
open Go.RowKit HL
open IX (ptr El cellsK cellsK_at cellsK_len OwnK RdK Kept slice_toK slice_fromK)
set_option maxRecDepth 100000
set_option linter.unusedVariables false
set_option linter.unusedSimpArgs false

/-- A writer's cells. -/
def wrC (d p : Bs) (m : Nat) (f : Bool) : Array Value := (([str d] : List Value) ++ p.map u8 ++ [Value.int .i64 (m : Int), Value.bool f]).toArray
theorem wrC_0 (d p : Bs) (m : Nat) (f : Bool) : (wrC d p m f)[0]? = some (str d) := by simp [wrC]
theorem wrC_p (d : Bs) {p : Bs} (m : Nat) (f : Bool) {k : Nat} {x : UInt8} (h : p[k]? = some x) : (wrC d p m f)[1 + k]? = some (u8 x) := by
  have hk : k < p.length := (List.getElem?_eq_some_iff.1 h).1
  simp [wrC]
  rw [Nat.add_comm 1 k, List.getElem?_cons_succ, List.getElem?_append_left (by simpa using hk)]
  simp [h]
theorem wrC_m (d : Bs) {p : Bs} (m : Nat) (f : Bool) (h : p.length = 256) : (wrC d p m f)[257]? = some (.int .i64 (m : Int)) := by
  simp [wrC]
  rw [List.getElem?_append_right (by simp [h])]
  simp [h]
theorem wrC_f (d : Bs) {p : Bs} (m : Nat) (f : Bool) (h : p.length = 256) : (wrC d p m f)[258]? = some (.bool f) := by
  simp [wrC]
  rw [List.getElem?_append_right (by simp [h])]
  simp [h]
theorem wrC_size (d : Bs) {p : Bs} (m : Nat) (f : Bool) (h : p.length = 256) : (wrC d p m f).size = 259 := by simp [wrC, h]
theorem wrC_set0 (d p : Bs) (m : Nat) (f : Bool) (d2 : Bs) : (wrC d p m f).setIfInBounds 0 (str d2) = wrC d2 p m f := by simp [wrC]
theorem wrC_setp (d : Bs) {p : Bs} (m : Nat) (f : Bool) {k : Nat} (hk : k < p.length) (x : UInt8) : (wrC d p m f).setIfInBounds (1 + k) (u8 x) = wrC d (p.set k x) m f := by
  simp only [wrC, List.setIfInBounds_toArray, List.append_assoc, List.singleton_append]
  rw [Nat.add_comm 1 k, List.cons_append, List.set_cons_succ, List.set_append_left _ _ (by simpa using hk), List.map_set, List.cons_append]
theorem wrC_setm (d : Bs) {p : Bs} (m : Nat) (f : Bool) (h : p.length = 256) (m2 : Nat) : (wrC d p m f).setIfInBounds 257 (.int .i64 (m2 : Int)) = wrC d p m2 f := by
  simp only [wrC, List.setIfInBounds_toArray, List.append_assoc, List.singleton_append]
  rw [List.cons_append, List.set_cons_succ, List.set_append_right _ _ (by simp [h])]
  simp [h]
/-- The part that nothing was written into. -/
def p0 : Bs := List.replicate 256 0
theorem p0_len : p0.length = 256 := by simp [p0]
abbrev wrT_ : TypeId := 118
/-- A writer: what was written, or it has failed. -/
def WAt (w : World) (B : Nat) (s : Option Bs) : Prop :=
  match s with
  | some l => ∃ d p m, p.length = 256 ∧ m ≤ 256 ∧ l = d ++ p.take m ∧ l.length ≤ 65536 ∧ AtH w B 118 (wrC d p m false)
  | none => AtH w B 118 (wrC [] p0 0 true)
theorem WAt.block {w : World} {B : Nat} {s : Option Bs} (h : WAt w B s) : ∃ C : Array Value, C.size = 259 ∧ AtH w B 118 C ∧ C[258]? = some (.bool s.isNone) := by
  cases s with
  | none => exact ⟨_, wrC_size _ _ _ p0_len, h, wrC_f _ _ _ p0_len⟩
  | some l => obtain ⟨d, p, m, h1, h2, h3, h4, h5⟩ := h; exact ⟨_, wrC_size _ _ _ h1, h5, wrC_f _ _ _ h1⟩
theorem WAt.lt {w : World} {B : Nat} {s : Option Bs} (h : WAt w B s) : B < w.heap.size := by obtain ⟨C, _, h1, _⟩ := h.block; exact h1.lt
theorem WAt.kept {w w' : World} {B : Nat} {s : Option Bs} {P : Nat → Prop} (h : WAt w B s) (k : Kept w w' P) (hp : P B) : WAt w' B s := by
  cases s with
  | none => exact AtH.kept h k hp
  | some l => obtain ⟨d, p, m, h1, h2, h3, h4, h5⟩ := h; exact ⟨d, p, m, h1, h2, h3, h4, h5.kept k hp⟩
theorem WAt.below {w w' : World} {B : Nat} {s : Option Bs} (h : WAt w B s) (k : Below w.heap.size w w') : WAt w' B s := h.kept (P := fun _ => True) (.of_below k) trivial
/-- The zero writer's cells. -/
def zW : Array Value := wrC [] p0 0 false
theorem zW_size : zW.size = 259 := wrC_size _ _ _ p0_len
theorem zero_wr (w : World) : (zeroValue 118).run Tryz.prog w = .ok (.agg zW) w := by
  have hi : Tryz.prog.info? 118 = some (IX.infoOf 118) := by kernel_rfl
  have hz : (IX.infoOf 118).zero = some (.agg zW) := by kernel_rfl
  simp [zeroValue, typeInfo, hi, hz]
theorem wr_failed : (zW.setIfInBounds 258 (.bool true)).toList = (wrC [] p0 0 true).toList := by kernel_rfl
theorem wr_one : ∀ v ∈ (wrC [] p0 0 true).toList, v.oneCell' = true := by
  intro v hv
  exact (List.all_eq_true (l := (wrC [] p0 0 true).toList)).1 (by kernel_rfl) v hv
set_option maxHeartbeats 4000000 in
theorem wfail_any (B : Nat) (s : Option Bs) (w : World) (h : WAt w B s) : Calls Tryz.prog 107 #[ptr B] w fun e w' => e = .returned (.tuple #[]) ∧ WAt w' B none ∧ Kept w w' (· ≠ B) := by
  obtain ⟨C, hs, h1, _⟩ := h.block
  have H := Lib.hid h1
  have hz := zero_wr
  have hzs := zW_size
  clear h h1
  go_enter Tryz.func107, Tryz.ntmps107
  go_wp2
  rw [storeAs (vs' := (wrC [] p0 0 true).toList) (t := 118) (cur := C)]
  rotate_left
  · rw [← wr_failed, Array.toList_setIfInBounds]
  · exact H.out
  · rw [hs, Array.length_toList, wrC_size _ _ _ p0_len]
  · exact wr_one
  go_wp2
  go_end0
  exact ⟨rfl, by first | exact H.out.row _ | (rw [Array.toArray_toList]; exact H.out.row _), (Kept.refl w _).row (B := B) (fun q => q rfl) _⟩
theorem wfail_nil (w : World) : Calls Tryz.prog 107 #[.pointer none] w fun e w' => e = .returned (.tuple #[]) ∧ w = w' := by
  go_enter Tryz.func107, Tryz.ntmps107
  go_wp2
  go_end0
  exact ⟨rfl, rfl⟩
theorem bD1_ (w : World) : Below w.heap.size w w.drew := ⟨rfl, rfl, rfl, Nat.le_refl _, fun _ _ => rfl⟩
theorem add_nil (v : Value) (w : World) : Calls Tryz.prog 106 #[.pointer none, v] w fun e w' => e = .returned (.tuple #[]) ∧ w = w' := by
  go_enter Tryz.func106, Tryz.ntmps106
  go_wp2
  first | go_end0 | (refine bodyPost_ret (results_none rfl _ _ _) rfl ?_)
  exact ⟨rfl, rfl⟩
theorem add_no (B : Nat) (v : Value) (w : World) (h : WAt w B none) : Calls Tryz.prog 106 #[ptr B, v] w fun e w' => e = .returned (.tuple #[]) ∧ w = w' := by
  have h : AtH w B 118 (wrC [] p0 0 true) := h
  have c3 := (h.at_.c 258).trans (wrC_f _ _ _ p0_len)
  clear h
  go_enter Tryz.func106, Tryz.ntmps106
  go_wp2
  first | go_end0 | (refine bodyPost_ret (results_none rfl _ _ _) rfl ?_)
  exact ⟨rfl, rfl⟩
set_option maxHeartbeats 4000000 in
theorem add_full (B : Nat) (l : Bs) (A : Option Addr) (n c : Nat) (w : World) (h : WAt w B (some l)) (hn : n ≤ 1000000) (hl : 65536 < l.length + n) : Calls Tryz.prog 106 #[ptr B, .slice A n c] w fun e w' => e = .returned (.tuple #[]) ∧ WAt w' B none ∧ Kept w w' (· ≠ B) := by
  have HW := Lib.hid h
  have CF := Lib.hid (fun W (q : WAt W B (some l)) => wfail_any B (some l) W q)
  obtain ⟨d, p, m, h1, h2, h3, h4, h5⟩ := h
  have hlen : l.length = d.length + m := by rw [h3, List.length_append, List.length_take, h1]; omega
  have c3 := (h5.at_.c 258).trans (wrC_f _ _ _ h1)
  have c0 := (h5.at_.c 0).trans (wrC_0 _ _ _ _)
  have c1 := (h5.at_.c 257).trans (wrC_m _ _ _ h1)
  have hz : (⟨d.toArray⟩ : ByteArray).size = d.length := by simp [ByteArray.size]
  have e1 : IntKind.i64.wrap ((d.length : Int) + m) = (d.length : Int) + m := wI (by omega) (by omega)
  have e2 : IntKind.i64.wrap ((d.length : Int) + m + n) = (d.length : Int) + m + n := wI (by omega) (by omega)
  have i1 : (65536 : Int) < (d.length : Int) + m + n := by omega
  clear h5 h3
  go_enter Tryz.func106, Tryz.ntmps106
  go_wp2
  go_region
  go_wp2_with (go_at_call 107; ((refine (CF.out _ (HW.out.below (bD1_ w))).mono ?_); rintro e w1 ⟨rfl, q1, k1⟩; have H1 := Lib.hid (And.intro q1 (Kept.trans (.of_below (bD1_ w)) k1)); clear q1 k1))
  first | go_end0 | (refine bodyPost_ret (results_none rfl _ _ _) rfl ?_)
  exact ⟨rfl, H1.out.1, H1.out.2⟩
end Go.Proofs.YtjocbokfdfdkeaaGreat.YX
