/-
  WALKS: Bytes of a writer.
-/
import Derived.Test.YtjocbokfdfdkeaaGreatLZYWrite
import Derived.Test.YtjocbokfdfdkeaaGreatLZPRest
import Derived.Deep.MidRow
namespace Go.Proofs.YtjocbokfdfdkeaaGreat.YX
open Go.RowKit HL
open IX (ptr El cellsK cellsK_at cellsK_len OwnK RdK Kept slice_toK slice_fromK)
set_option maxRecDepth 100000
set_option linter.unusedVariables false
set_option linter.unusedSimpArgs false

/-- Cells stored in a row of which nothing is frozen but behind its end. -/
theorem storeCells_un (P : Program) (g o : Nat) (t : TypeId) (fz : Nat × Nat) : ∀ (vs : List Value) (i : Nat) (cur : Array Value) (w : World), w.heap[g]? = some (.cells cur t fz) → (∀ j, j < cur.size → ¬ (fz.1 ≤ j ∧ j < fz.2)) → o + i + vs.length ≤ cur.size → (∀ v ∈ vs, v.oneCell' = true) →
    (storeCells ⟨g, o, none⟩ vs i).run P w = .ok () (w.setRow g (cur.toList.take (o + i) ++ vs ++ cur.toList.drop (o + i + vs.length)).toArray)
  | [], i, cur, w, hg, _, _, _ => by
    simp only [storeCells, List.append_nil, List.length_nil, Nat.add_zero, List.take_append_drop, Array.toArray_toList]
    rw [setRow_self w g cur t fz hg]
    rfl
  | v :: rest, i, cur, w, hg, hfz, hl, h1 => by
    have hi : o + i < cur.size := by simp at hl; omega
    have hadd : (⟨g, o, none⟩ : Addr).add i = ⟨g, o + i, none⟩ := by unfold Addr.add; split <;> simp_all
    have hcell : w.cell? ⟨g, o + i, none⟩ = some cur[o + i] := by simp [World.cell?, hg, hi]
    have hfro : w.frozen? ⟨g, o + i, none⟩ = false := by
      have q := hfz _ hi
      obtain ⟨lo, hi'⟩ := fz
      simp only [World.frozen?, hg]
      rw [← Bool.not_eq_true, Bool.and_eq_true, decide_eq_true_eq, decide_eq_true_eq]
      exact q
    have hst : (store ((⟨g, o, none⟩ : Addr).add i) v).run P w = .ok () (w.setRow g (cur.setIfInBounds (o + i) v)) := by
      rw [hadd, run_store P w _ v _ (h1 v (by simp)), hcell]
      simp [hfro, setCell_eq_setRow w g (o + i) cur t fz v hg]
    have ih := storeCells_un P g o t fz rest (i + 1) (cur.setIfInBounds (o + i) v) (w.setRow g (cur.setIfInBounds (o + i) v)) (setRow_heap w g cur _ t _ hg) (by simpa using hfz) (by simp at hl ⊢; omega) (fun x hx => h1 x (by simp [hx]))
    simp only [storeCells, Sem.run_bind, hst, Result.andThen_ok, ih, setRow_setRow]
    congr 3
    have e := list_seg_step cur.toList (o + i) v rest (by simp at hl ⊢; omega)
    simpa [Array.toList_setIfInBounds, Nat.add_assoc] using e
/-- A row of bytes of a callee's own: it may be read, and written up to its length. -/
structure Got (w : World) (base : Nat) (v : Value) (l : Bs) : Prop where
  x : ∃ g cap cur fz, v = .slice (some ⟨g, 0, none⟩) l.length cap ∧ base ≤ g ∧ w.heap[g]? = some (.cells cur 5 fz) ∧ (∀ j, j < cur.size → ¬ (fz.1 ≤ j ∧ j < fz.2)) ∧ l.length ≤ cap ∧ cap ≤ maxLen ∧ cur.size = cap ∧ cur.toList.take l.length = l.map u8
theorem run_append_un (w : World) (base : Nat) (v : Value) (l : Bs) (h : Got w base v l) (hbase : base ≤ w.heap.size) (a : Addr) (m c : Nat) (ys : Bs) (hm : ys.length = m) (hnews : ∀ j u, (ys.map u8)[j]? = some u → w.cell? (a.add j) = some u) (hl : l.length + ys.length ≤ 1000000) (ty : TypeId) :
    ∃ v' w', (Builtin.append_ #[39, 39] ty #[v, .slice (some a) m c]).run Tryz.prog w = .ok v' w' ∧ Got w' base v' (l ++ ys) ∧ w.grownBy w' v.ownBlock := by
  subst hm
  obtain ⟨g, cap, cur, fz, rfl, hg0, hg, hun, hlc, hcm, hcs, ht⟩ := h.x
  have hi : Tryz.prog.info? 5 = some (IX.infoOf 5) := u8K.hi
  have hs : (IX.infoOf 5).size = 1 := u8K.hs
  have hb : (IX.infoOf 5).bytes = 1 := u8K.hb
  have hz : (IX.infoOf 5).zero = some (.int .u8 0) := u8K.hz
  have h1 : ∀ u ∈ ys.map u8, u.oneCell' = true := fun u hu => by obtain ⟨x, _, rfl⟩ := List.mem_map.1 hu; rfl
  by_cases hroom : l.length + ys.length ≤ cap
  · have hf := run_firstCells_some (P := Tryz.prog) w (IX.infoOf 5).size ys.length a ys.length c (ys.map u8) (by rw [hs]; simp) hnews
    have hst := storeCells_un Tryz.prog g l.length 5 fz (ys.map u8) 0 cur w hg hun (by simp; omega) h1
    simp only [Nat.add_zero, List.length_map] at hst
    refine ⟨.slice (some ⟨g, 0, none⟩) (l.length + ys.length) cap, w.setRow g (cur.toList.take l.length ++ ys.map u8 ++ cur.toList.drop (l.length + ys.length)).toArray, ?_, ⟨g, cap, _, fz, by rw [List.length_append], hg0, setRow_heap w g cur _ _ _ hg, ?_, by rw [List.length_append]; exact hroom, hcm, ?_, ?_⟩, ⟨rfl, rfl, rfl, by simp, fun k _ hk => setRow_other w g k _ (fun e => hk (by simp [Value.ownBlock, e]))⟩⟩
    · simp [Builtin.append_, run_underlying Tryz.underlying39, sizeOf, typeInfo, hi, hs, Builtin.lenOf, hroom, Addr.add_lit, hst] at hf ⊢
      rw [hf]
      simp [Result.andThen, hst]
    · have hsz : (cur.toList.take l.length ++ ys.map u8 ++ cur.toList.drop (l.length + ys.length)).toArray.size = cur.size := by
        simp; omega
      rw [hsz]; exact hun
    · simp; omega
    · simp only [List.map_append]
      rw [ht]
      exact List.take_left' (by simp)
  · have holds : ∀ j u, (l.map u8)[j]? = some u → w.cell? ((⟨g, 0, none⟩ : Addr).add j) = some u := by
      intro j u hj
      have hadd : (⟨g, 0, none⟩ : Addr).add j = ⟨g, j, none⟩ := by unfold Addr.add; split <;> simp_all
      rw [hadd, cell_of_row w g j cur _ fz hg]
      rw [← ht, List.getElem?_take] at hj
      split at hj
      · simpa using hj
      · cases hj
    have hr := run_append_grow (P := Tryz.prog) w 39 ty 5 (IX.infoOf 5) (.int .u8 0) Tryz.underlying39 hi hz ⟨g, 0, none⟩ l.length cap (l.map u8) (by rw [hs]; simp) holds a ys.length c (ys.map u8) (by rw [hs]; simp) hnews (by omega) (by omega) (growslice_fits (by omega) (by rw [hb]; omega))
    have hge := grownCap_ge w (l.length + ys.length) cap 5
    have hle := grownCap_le_maxLen w (l.length + ys.length) cap 5 (by unfold maxLen; omega)
    have hsz : ((l.map u8).toArray ++ (ys.map u8).toArray ++ Builtin.zeroCells (Value.cells (.int .u8 0)) (grownCap w (l.length + ys.length) cap 5 - (l.length + ys.length))).size = grownCap w (l.length + ys.length) cap 5 := by
      simp only [Array.size_append, List.size_toArray, List.length_map, size_zeroCells]
      simp [Value.cells]; omega
    refine ⟨_, _, hr, ⟨w.heap.size, _, _, (0, 0), by rw [List.length_append], hbase, heap_alloc_new w.drew _, fun j _ q => by simp at q, by rw [List.length_append]; exact hge, hle, hsz, ?_⟩, ⟨rfl, rfl, rfl, by simp, fun k hk _ => (by first | exact heap_alloc_old w.drew _ k hk | exact heap_alloc_old w.drew _ hk)⟩⟩
    simp only [Array.toList_append, List.append_assoc, List.map_append]
    rw [← List.append_assoc]
    exact List.take_left' (by simp)
theorem step_appM {ops : Array Oper} {o : Oper} {a : Act} {w : World} {K' : Act → World → Prop} {Q : Exit → Act → World → Prop} {E : Prop} (hgd : o.guard = none) (s x : Operand)
    (ho : o.op = .call { callee := .builtin .append, args := #[s, x], argTypes := #[39, 39] }) (base : Nat) (v : Value) (l : Bs) (hs : a.eval s = v) (hown : Got w base v l)
    (ad : Addr) (m c : Nat) (ys : Bs) (hx : a.eval x = .slice (some ad) m c) (hm : ys.length = m) (hnews : ∀ j u, (ys.map u8)[j]? = some u → w.cell? (ad.add j) = some u) (hl : l.length + ys.length ≤ 1000000) (hbase : base ≤ w.heap.size)
    (h : ∀ v' w', Got w' base v' (l ++ ys) → w.grownBy w' v.ownBlock → K' (a.put o.dst v') w') :
    if Region.wanted o (yielded ops a.tmps) = true then Oper.wp Tryz.prog o a w K' Q else E := by
  have hw : Region.wanted o (yielded ops a.tmps) = true := by simp [Region.wanted, hgd]
  rw [if_pos hw]
  obtain ⟨v', w', h1, h2, h3⟩ := run_append_un w base v l hown hbase ad m c ys hm hnews hl o.type
  unfold Oper.wp
  simp [execOp, ho, resolve, invoke, builtin, hs, hx, h1, Result.andThen]
  exact h v' w' h2 h3
theorem bytes_nil (w : World) : Calls Tryz.prog 66 #[.pointer none] w fun e w' => e = .returned (.tuple #[.slice none 0 0, .int .i64 1]) ∧ w = w' := by
  go_enter Tryz.func66, Tryz.ntmps66
  go_wp2
  go_ret2
  exact ⟨rfl, rfl⟩
theorem bytes_no (B : Nat) (w : World) (h : WAt w B none) : Calls Tryz.prog 66 #[ptr B] w fun e w' => e = .returned (.tuple #[.slice none 0 0, .int .i64 3]) ∧ w = w' := by
  have h : AtH w B 118 (wrC [] p0 0 true) := h
  have c3 := (h.at_.c 258).trans (wrC_f _ _ _ p0_len)
  clear h
  go_enter Tryz.func66, Tryz.ntmps66
  go_wp2
  go_ret2
  exact ⟨rfl, rfl⟩
theorem slice_parth (B m : Nat) (hm : m ≤ 256) (W : World) : (Instr.sliceAt 116 (.pointer (some ⟨B, 1, none⟩)) none (some (.int .i64 m)) none).run Tryz.prog W = .ok (.slice (some ⟨B, 1, none⟩) m 256) W := by
  have h1 : (m : Int) ≤ 256 := by omega
  simp [Instr.sliceAt, Instr.sliceBounds, Instr.sliceBound, go_sem, h1]
  intro q; omega
/-- []byte(s). -/
theorem bytes_conv (d : Bs) (hd : d.length ≤ 1000000) (w : World) : ∃ c W1, (convert 9 39 (str d)).run Tryz.prog w = .ok (.slice (some ⟨w.heap.size, 0, none⟩) d.length c) W1 ∧ Got W1 w.heap.size (.slice (some ⟨w.heap.size, 0, none⟩) d.length c) d ∧ Below w.heap.size w W1 := by
  have hz : (⟨d.toArray⟩ : ByteArray).size = d.length := by simp [ByteArray.size]
  have hcv := run_bytes_of_string (P := Tryz.prog) w 9 39 5 ⟨d.toArray⟩ Tryz.underlying9 Tryz.underlying39 Tryz.underlying5
  rw [hz] at hcv
  have hge := grownCap_ge w d.length 0 5
  have hle := grownCap_le_maxLen w d.length 0 5 (by unfold maxLen; omega)
  have hs : (bytesRow ⟨d.toArray⟩ (grownCap w d.length 0 5)).size = grownCap w d.length 0 5 := by
    unfold bytesRow
    rw [hz]
    simp; omega
  refine ⟨_, _, hcv, ⟨w.heap.size, _, _, _, rfl, Nat.le_refl _, heap_alloc_new w.drew _, fun j hj q => by simp only [hs] at *; omega, hge, hle, hs, ?_⟩, ?_⟩
  · unfold bytesRow
    simp only [Array.toList_append]
    rw [List.take_append_of_le_length (by simp)]
    rw [List.take_of_length_le (by simp)]
    simp
  · exact bThen (bD1_ w) (bAl (Below.refl _ _) _)
set_option maxHeartbeats 8000000 in
theorem bytes_some (B : Nat) (l : Bs) (w : World) (h : WAt w B (some l)) : Calls Tryz.prog 66 #[ptr B] w fun e w' => ∃ v, e = .returned (.tuple #[v, .int .i64 0]) ∧ Got w' w.heap.size v l ∧ Below w.heap.size w w' := by
  obtain ⟨d, p, m, h1, h2, h3, h4, h5⟩ := h
  have hlen : l.length = d.length + m := by rw [h3, List.length_append, List.length_take, h1]; omega
  have c3 := (h5.at_.c 258).trans (wrC_f _ _ _ h1)
  have c0 := (h5.at_.c 0).trans (wrC_0 _ _ _ _)
  have c1 := (h5.at_.c 257).trans (wrC_m _ _ _ h1)
  have cp : ∀ k y, p[k]? = some y → w.cell? ⟨B, 1 + k, none⟩ = some (YX.u8 y) := fun k y hy => (h5.at_.c (1 + k)).trans (wrC_p d m false hy)
  have hlt := h5.lt
  have hsl := slice_parth B m h2
  obtain ⟨c, W1, hcv, g1, k1⟩ := bytes_conv d (by omega) w.drew
  have K1 := Lib.hid (bThen (bD1_ w) k1)
  have c0b := (k1.cell (p := ⟨B, 0, none⟩) hlt).trans c0
  have c1b := (k1.cell (p := ⟨B, 257, none⟩) hlt).trans c1
  have HP := Lib.hid (fun k y (hy : p[k]? = some y) => (k1.cell (p := ⟨B, 1 + k, none⟩) hlt).trans (cp k y hy))
  have G1 := Lib.hid g1
  have hpl : (p.take m).length = m := by rw [List.length_take, h1]; omega
  have HL := Lib.hid h3
  have HN : Hid (∀ j u, ((p.take m).map YX.u8)[j]? = some u → W1.cell? ((⟨B, 1, none⟩ : Addr).add j) = some u) := Lib.hid (fun j u hu => by
    have e : (⟨B, 1, none⟩ : Addr).add j = ⟨B, 1 + j, none⟩ := by unfold Addr.add; split <;> simp_all
    rw [e]
    rw [List.getElem?_map, List.getElem?_take] at hu
    split at hu
    · obtain ⟨y, hy, rfl⟩ := Option.map_eq_some_iff.1 hu
      exact HP.out j y hy
    · simp at hu)
  clear k1 g1 cp h5 h3
  go_enter Tryz.func66, Tryz.ntmps66
  go_wp2
  go_region_law (refine step_appM rfl (.tmp 16) (.tmp 24) rfl w.heap.size _ d (by simp [Act.eval, Act.put]; done) G1.out ⟨B, 1, none⟩ m 256 (p.take m) (by simp [Act.eval, Act.put]; done) hpl HN.out (by omega) K1.out.size ?_; intro v5 w5 g5 k5; have B5 := Lib.hid (K1.out.grown k5 K1.out.size (fun a ha => by simp [Value.ownBlock] at ha; omega)); have G5 := Lib.hid g5; clear g5 k5)
  all_goals
    go_wp2
    go_ret2
    exact ⟨_, rfl, by rw [HL.out]; exact G5.out, B5.out⟩
end Go.Proofs.YtjocbokfdfdkeaaGreat.YX
/-
  WALKS and PLAIN: bytes that were told, or none.
-/
namespace Go.Proofs.YtjocbokfdfdkeaaGreat.PX
open Go.RowKit HL
open IX (ptr El cellsK cellsK_at cellsK_len OwnK RdK Kept)
open YX (numB rdU rdB rdT rdS rdI addW intN natI rest told WAt WPt Wr RAt vS vU vI u8K Got)
set_option maxRecDepth 100000
set_option linter.unusedVariables false
set_option linter.unusedSimpArgs false

/-- A row of bytes that reads as l. -/
def Rows (w : World) (v : Value) (l : Bs) : Prop := ∃ A c, v = .slice A l.length c ∧ RdK u8K w w.heap.size A l ∧ l.length ≤ c ∧ (A = none → c = 0)
theorem Rows.below {w w' : World} {v : Value} {l : Bs} (h : Rows w v l) (k : Below w.heap.size w w') : Rows w' v l := by
  obtain ⟨A, c, e, h1, h2, h3⟩ := h
  exact ⟨A, c, e, (h1.below k).more k.size, h2, h3⟩
/-- Bytes and no error, or none and an error. -/
inductive Bt (w : World) : Value → Int → Option Bs → Prop where
  | yes' (v : Value) (l : Bs) (h : Rows w v l) : Bt w v 0 (some l)
  | no' : Bt w (.slice none 0 0) 3 none
theorem Bt.no (w : World) (v : Value) : Bt w (.slice none 0 0) 3 none := .no'
theorem Bt.below {w w' : World} {v : Value} {e : Int} {r : Option Bs} (h : Bt w v e r) (k : Below w.heap.size w w') : Bt w' v e r := by
  cases h with
  | yes' _ l h => exact .yes' _ _ (h.below k)
  | no' => exact .no'
/-- What a call that tells bytes and an error comes to. -/
def Bts (w0 : World) (r : Option Bs) (e : Ending) (w' : World) : Prop := ∃ v n, e = .returned (.tuple #[v, .int .i64 n]) ∧ Bt w' v n r ∧ Below w0.heap.size w0 w'
theorem got_rows {w : World} {base : Nat} {v : Value} {l : Bs} (h : Got w base v l) : Rows w v l := by
  obtain ⟨g, cap, cur, fz, e, h0, h1, h2, h3, h4, h5, h6⟩ := h.x
  refine ⟨_, _, e, .inr ⟨g, 0, rfl, (Array.getElem?_eq_some_iff.1 h1).1, fun m u hu => ?_⟩, h3, fun q => by cases q⟩
  rw [Nat.zero_add, cell_of_row w g m cur _ fz h1]
  rw [YX.cells8, ← h6, List.getElem?_take] at hu
  split at hu
  · simpa using hu
  · cases hu
theorem bytes_any (B : Nat) (r : Option Bs) (w : World) (h : WAt w B r) : Calls Tryz.prog 66 #[ptr B] w fun e w' => Bts w r e w' := by
  cases r with
  | none => exact (YX.bytes_no B w h).mono fun e w' ⟨h1, h2⟩ => ⟨_, 3, h1, .no', h2 ▸ Below.refl _ _⟩
  | some l => exact (YX.bytes_some B l w h).mono fun e w' ⟨v, h1, h2, h3⟩ => ⟨v, 0, h1, .yes' v l (got_rows h2), h3⟩
end Go.Proofs.YtjocbokfdfdkeaaGreat.PX
/-
  PLAIN and WALK: a row made whole, written place by place; bytes.Equal.
-/
namespace Go.Proofs.YtjocbokfdfdkeaaGreat.PX
open Go.RowKit HL
open IX (ptr El cellsK cellsK_at cellsK_len cellsK_app cellsK_cons OwnK RdK Kept)
open YX (numB rdU rdB rdT rdS rdI addW intN natI rest told WAt WPt Wr RAt vS vU vI u8K Got)
set_option maxRecDepth 100000
set_option linter.unusedVariables false
set_option linter.unusedSimpArgs false

/-- Block g holds just this row. -/
def RowAt {α : Type} (K : El α) (W : World) (g : Nat) (l : List α) : Prop := AtC W g (cellsK K l).toArray
theorem RowAt.rd {α : Type} {K : El α} {W : World} {g : Nat} {l : List α} (h : RowAt K W g l) : RdK K W W.heap.size (some ⟨g, 0, none⟩) l :=
  .inr ⟨g, 0, rfl, h.lt, fun m u hu => by rw [Nat.zero_add, h.c m]; simpa using hu⟩
theorem cells_rep {α : Type} (K : El α) (x : α) : ∀ (n m : Nat), (cellsK K (List.replicate n x))[m]? = if m < n * K.size then (K.enc x)[m % K.size]? else none
  | 0, m => by simp [cellsK]
  | n + 1, m => by
    have hl : (K.enc x).length = K.size := K.len x
    have hp := K.pos
    rw [List.replicate_succ, cellsK_cons, List.getElem?_append, hl]
    by_cases h : m < K.size
    · rw [if_pos h, if_pos (by rw [Nat.succ_mul]; omega), Nat.mod_eq_of_lt h]
    · rw [if_neg h, cells_rep K x n (m - K.size), Nat.succ_mul]
      have e : (m - K.size) % K.size = m % K.size := (Nat.mod_eq_sub_mod (by omega)).symm
      rw [e]
      by_cases q : m - K.size < n * K.size
      · rw [if_pos q, if_pos (by omega)]
      · rw [if_neg q, if_neg (by omega)]
theorem row_made {α : Type} (K : El α) (x : α) (z : Array Value) (hz : z.toList = K.enc x) (n : Nat) (W : World) (T : TypeId) : RowAt K (W.alloc (.cells (madeCells z (n * K.size)) T)) W.heap.size (List.replicate n x) := by
  have hs : z.size = K.size := by rw [← Array.length_toList, hz]; exact K.len x
  have e : madeCells z (n * K.size) = (cellsK K (List.replicate n x)).toArray := by
    apply Array.ext_getElem?
    intro m
    have ea : (cellsK K (List.replicate n x)).toArray[m]? = (cellsK K (List.replicate n x))[m]? := by simp
    rw [ea, cells_rep]
    have hp := K.pos
    by_cases h : m < n * K.size
    · rw [if_pos h, ← hz, Array.getElem?_toList]
      have hm : m % K.size < z.size := by rw [hs]; exact Nat.mod_lt _ hp
      simp [madeCells, h, hs, Array.getElem?_eq_getElem hm]
      exact getElem!_pos z _ hm
    · rw [if_neg h]; simp [madeCells, h]
  unfold RowAt
  rw [← e]
  exact AtC.new _ _ _
theorem row_set {α : Type} {K : El α} {W : World} {g k : Nat} {l : List α} (h : RowAt K W g l) (hk : k < l.length) (y : α) : RowAt K (stC W g (k * K.size) (K.enc y)) g (l.set k y) := by
  have e1 : cellsK K l = cellsK K (l.take k) ++ K.enc l[k] ++ cellsK K (l.drop (k + 1)) := by
    have e : l = l.take k ++ l[k] :: l.drop (k + 1) := by rw [← List.drop_eq_getElem_cons hk, List.take_append_drop]
    have := congrArg (cellsK K) e
    rw [cellsK_app, cellsK_cons, ← List.append_assoc] at this
    exact this
  have e2 : cellsK K (l.set k y) = cellsK K (l.take k) ++ K.enc y ++ cellsK K (l.drop (k + 1)) := by
    rw [List.set_eq_take_append_cons_drop, if_pos hk, cellsK_app, cellsK_cons, List.append_assoc]
  have e3 : (cellsK K (l.take k)).length = k * K.size := by rw [cellsK_len, List.length_take, Nat.min_eq_left (by omega)]
  unfold RowAt at h ⊢
  rw [e1] at h
  have := at_mid (K.enc y) (cellsK K (l.take k)) (K.enc l[k]) (cellsK K (l.drop (k + 1))) W h (by rw [K.len, K.len])
  rw [e3] at this
  rw [e2]
  exact this
theorem setCells_row (B : Nat) : ∀ (vs : List Value) (off : Nat) (W : World), W.setCells B off vs = stC W B off vs
  | [], off, W => rfl
  | v :: vs, off, W => setCells_row B vs (off + 1) _
theorem row_there {α : Type} {K : El α} {W : World} {g k : Nat} {l : List α} (h : RowAt K W g l) (hk : k < l.length) : W.there g (k * K.size) K.size := fun j hj => by
  refine ⟨?_, h.f _⟩
  rw [h.c]
  have : k * K.size + j < (cellsK K l).length := by
    rw [cellsK_len]
    have : (k + 1) * K.size ≤ l.length * K.size := Nat.mul_le_mul_right _ hk
    rw [Nat.succ_mul] at this
    omega
  simp [this]
theorem bts_none {P : Program} {f : Nat} {args : Array Value} {w : World} (h : Calls P f args w fun e w' => Bts w none e w') : Calls P f args w fun e w' => e = .returned (.tuple #[.slice none 0 0, .int .i64 3]) ∧ Below w.heap.size w w' :=
  h.mono fun e w' ⟨v, n, he, hb, k⟩ => by cases hb; exact ⟨he, k⟩
theorem bts_some {P : Program} {f : Nat} {args : Array Value} {w : World} {b : Bs} (h : Calls P f args w fun e w' => Bts w (some b) e w') : Calls P f args w fun e w' => ∃ A c, e = .returned (.tuple #[.slice A b.length c, .int .i64 0]) ∧ RdK u8K w' w'.heap.size A b ∧ Below w.heap.size w w' :=
  h.mono fun e w' ⟨v, n, he, hb, k⟩ => by
    cases hb with
    | yes' _ _ hr => obtain ⟨A, c, rfl, h1, h2, h3⟩ := hr; exact ⟨A, c, he, h1, k⟩
theorem set_rep {α : Type} (a : List α) (x z : α) {n k : Nat} (ha : a.length = k) (hk : k < n) : (a ++ List.replicate (n - k) z).set k x = (a ++ [x]) ++ List.replicate (n - (k + 1)) z := by
  obtain ⟨m, hm⟩ : ∃ m, n - k = m + 1 := ⟨n - k - 1, by omega⟩
  rw [hm, show n - (k + 1) = m by omega, List.set_append_right _ _ (by omega), ha, Nat.sub_self, List.replicate_succ, List.set_cons_zero]
  simp
set_option maxHeartbeats 2000000 in
theorem equal_any {A A2 : Option Addr} {n n2 c c2 : Nat} (a b : Bs) (w : World) (ha : RdK u8K w w.heap.size A a) (hb : RdK u8K w w.heap.size A2 b) (hn : a.length = n) (hn2 : b.length = n2) :
    Calls Tryz.prog 74 #[.slice A n c, .slice A2 n2 c2] w fun e w' => e = .returned (.bool (decide (a = b))) ∧ w = w' := by
  have c1 := YX.conv_str (c := c) ha hn
  have c2 := YX.conv_str (c := c2) hb hn2
  have e0 : (a == b) = decide (a = b) := by rw [Bool.eq_iff_iff]; simp
  clear ha hb
  by_cases h : a = b
  · subst h
    go_enter Tryz.func74, Tryz.ntmps74
    go_wp2
    go_ret
    exact ⟨by simp, rfl⟩
  · go_enter Tryz.func74, Tryz.ntmps74
    go_wp2
    go_ret
    exact ⟨by simp [h], rfl⟩
end Go.Proofs.YtjocbokfdfdkeaaGreat.PX
