/-
  WALKS: the document's small, number, text: one field's bytes.
-/
import Derived.Test.YtkgjgbenfpkekaaGreatPMath
import Derived.Test.YtkgjgbenfpkekaaGreatYRefNum
import Derived.Test.YtkgjgbenfpkekaaGreatPCod
import Derived.Deep.RegionHeld3
import Derived.Deep.RegionLaw
import Derived.Deep.CutRange
import Derived.Test.YtkgjgbenfpkekaaGreatPEn
import Derived.Test.YtkgjgbenfpkekaaGreatPR2
import Derived.Test.YtkgjgbenfpkekaaGreatPR1
import Derived.Test.YtkgjgbenfpkekaaGreatPR0
namespace Go.Proofs.YtkgjgbenfpkekaaGreat.PX
open Go.RowKit HL
open IX (ptr El cellsK cellsK_at cellsK_len OwnK RdK Kept)
open YX (numB rdU rdB rdT rdS rdI addW intN natI rest told u8K Own own1 u8n)
set_option maxRecDepth 100000
set_option linter.unusedVariables false
set_option linter.unusedSimpArgs false

/-- A field's bytes; none of a zero one. -/
def fx (f : Fv) : Bs := if fvSet f then fvB f else []
/-- A row of bytes is told. -/
def Tel (w0 : World) (l : Bs) (e : Ending) (w' : World) : Prop := ∃ A c, e = .returned (.slice A l.length c) ∧ RdK u8K w' w'.heap.size A l ∧ Below w0.heap.size w0 w'
theorem own_tel {w0 : World} {l : Bs} {e : Ending} {w' : World} (h : Own w0 l e w') : Tel w0 l e w' := by
  obtain ⟨v, rfl, o, k⟩ := h
  obtain ⟨A, c, rfl, r, _⟩ := o.form
  exact ⟨A, c, rfl, r, k⟩
theorem str_tx (b : ByteArray) : str (tx b) = .string b := by unfold str tx; simp
theorem refSmall_any (n : Nat) (hn : n < 256) (w : World) : Calls Tryz.prog 130 #[.int .u8 n] w fun e w' => Own w (fx (.n n)) e w' := by
  by_cases h : n = 0
  · subst h
    go_enter Tryz.func130, Tryz.ntmps130
    go_wp2
    go_ret
    exact ⟨_, rfl, OwnK.nil_ _ _ _, Below.refl _ _⟩
  · have i1 : ¬ ((n : Int) = 0) := by omega
    obtain ⟨x, hx⟩ : ∃ x, x = UInt8.ofNat n := ⟨_, rfl⟩
    have HV : Hid (Value.int .u8 (n : Int) = YX.u8 x) := Lib.hid (by unfold YX.u8; rw [hx, u8n hn])
    have HX := Lib.hid (show [x] = fx (.n n) by simp [fx, fvSet, fvB, h, hx])
    have O1 := Lib.hid (own1 w w.heap.size (Nat.le_refl _) x rfl)
    clear hx
    go_enter Tryz.func130, Tryz.ntmps130
    go_wp2
    go_ret
    exact ⟨_, rfl, by rw [← HX.out, HV.out]; exact O1.out, bAl (Below.refl _ _) _⟩
theorem refNumber_any (i : Int) (h1 : -9223372036854775808 ≤ i ∧ i < 9223372036854775808) (w : World) : Calls Tryz.prog 131 #[.int .i64 i] w fun e w' => Own w (fx (.i i)) e w' := by
  by_cases h : i = 0
  · subst h
    go_enter Tryz.func131, Tryz.ntmps131
    go_wp2
    go_ret
    exact ⟨_, rfl, OwnK.nil_ _ _ _, Below.refl _ _⟩
  · have C := Lib.hid (YX.refI_any i h1.1 h1.2)
    have HX := Lib.hid (show numB (intN i) = fx (.i i) by simp [fx, fvSet, fvB, h])
    clear h1
    generalize numB (intN i) = t at *
    go_enter Tryz.func131, Tryz.ntmps131
    go_wp2_with (go_at_call 62; ((refine (C.out _).mono ?_); rintro e w1 ⟨v1, rfl, o1, k1⟩; have H1 := Lib.hid (And.intro o1 k1); clear o1 k1))
    go_ret
    exact ⟨v1, rfl, by rw [← HX.out]; exact H1.out.1, H1.out.2⟩
theorem refText_any (b : ByteArray) (hb : (tx b).length ≤ 900000) (w : World) : Calls Tryz.prog 129 #[.string b] w fun e w' => Own w (fx (.s (tx b))) e w' := by
  cases h : b.toList.isEmpty with
  | true =>
    have e : b = ⟨#[]⟩ := by
      have q : b.toList = [] := by simpa using h
      rw [ByteArray.toList_eq] at q
      exact ba_nil q
    subst e
    go_enter Tryz.func129, Tryz.ntmps129
    go_wp2
    go_ret
    exact ⟨_, rfl, OwnK.nil_ _ _ _, Below.refl _ _⟩
  | false =>
    have C := Lib.hid (YX.refS_any (tx b) hb)
    rw [str_tx] at C
    have hne : tx b ≠ [] := fun e => by rw [ba_nil e] at h; simp at h
    have HX := Lib.hid (show numB (tx b).length ++ tx b = fx (.s (tx b)) by simp [fx, fvSet, fvB, hne])
    clear hb hne
    generalize numB (tx b).length ++ tx b = t at *
    go_enter Tryz.func129, Tryz.ntmps129
    go_wp2_with (go_at_call 59; ((refine (C.out _).mono ?_); rintro e w1 ⟨v1, rfl, o1, k1⟩; have H1 := Lib.hid (And.intro o1 k1); clear o1 k1))
    go_ret
    exact ⟨v1, rfl, by rw [← HX.out]; exact H1.out.1, H1.out.2⟩
end Go.Proofs.YtkgjgbenfpkekaaGreat.PX
/-
  WALK: the document's Object: an object's bytes.
-/
namespace Go.Proofs.YtkgjgbenfpkekaaGreat.PX
open Go.RowKit HL
open IX (ptr El cellsK cellsK_at cellsK_len OwnK RdK Kept step_spreadK wpList_spreadK)
open YX (numB rdU rdB rdT rdS rdI addW intN natI rest told u8K Own own1 u8n)
set_option maxRecDepth 100000
set_option linter.unusedVariables false
set_option linter.unusedSimpArgs false

abbrev Sl := (Option Addr × Nat) × Bs
theorem bD1P (w : World) : Below w.heap.size w w.drew := ⟨rfl, rfl, rfl, Nat.le_refl _, fun _ _ => rfl⟩
def Sls (w : World) (l : List Sl) : Prop := ∀ x ∈ l, RdK u8K w w.heap.size x.1.1 x.2
theorem Sls.nil (w : World) : Sls w [] := fun x h => by cases h
theorem Sls.below {w w' : World} {l : List Sl} (h : Sls w l) (k : Below w.heap.size w w') : Sls w' l := fun x hx => ((h x hx).below k).more k.size
theorem Sls.snoc {w : World} {l : List Sl} (h : Sls w l) {A : Option Addr} {b : Bs} (c : Nat) (r : RdK u8K w w.heap.size A b) : Sls w (l ++ [((A, c), b)]) := fun x hx => by
  rcases List.mem_append.1 hx with q | q
  · exact h x q
  · cases List.mem_singleton.1 q; exact r
theorem Sls.no {w : World} {l : List Sl} (h : Sls w l) : Sls w (l ++ [((none, 0), [])]) := h.snoc 0 (.inl rfl)
theorem fx_rest (o : Ob) {k : Nat} (h : k < 12) : restB ((fvL o).take (k + 1)) = restB ((fvL o).take k) ++ fx (fv o k) := by
  have h2 : k < (fvL o).length := by rw [fvL_len]; exact h
  have e : fv o k = (fvL o)[k] := by unfold fv; rw [List.getElem?_eq_getElem h2]; rfl
  rw [List.take_succ_eq_append_getElem h2, e]
  unfold restB
  rw [List.flatMap_append]
  simp [fx]
theorem fx_b (t : Bool) : fx (.b t) = [] := by unfold fx; simp [fvB]
def slV (x : Sl) : Value := .slice x.1.1 x.2.length x.1.2
/-- A row of slices: an object's fields' bytes. -/
def LsAt (w : World) (B g : Nat) (o : Ob) : Prop := ∀ k, k < 12 → ∃ A c, w.cell? ⟨g, k, none⟩ = some (.slice A (fx (fv o k)).length c) ∧ RdK u8K w B A (fx (fv o k))
theorem LsAt.of {w : World} {o : Ob} {L : List Sl} {T : TypeId} (hL : L.map (·.2) = (fvL o).map fx) (h : Sls w L) (C : Array Value) (hC : C = (L.map slV).toArray) : LsAt (w.alloc (.cells C T)) (w.alloc (.cells C T)).heap.size w.heap.size o := by
  intro k hk
  have hl : L.length = 12 := by have := congrArg List.length hL; simpa [fvL_len] using this
  have hk2 : k < L.length := by omega
  have hk3 : k < (fvL o).length := by rw [fvL_len]; exact hk
  have e : L[k].2 = fx (fv o k) := by
    have q : (L.map (·.2))[k]? = ((fvL o).map fx)[k]? := by rw [hL]
    rw [List.getElem?_map, List.getElem?_map, List.getElem?_eq_getElem hk2, List.getElem?_eq_getElem hk3] at q
    simp only [Option.map_some, Option.some.injEq] at q
    rw [q]; unfold fv; rw [List.getElem?_eq_getElem hk3]; rfl
  refine ⟨L[k].1.1, L[k].1.2, ?_, ?_⟩
  · rw [(AtC.new w C T).c k, hC, ← e]
    simp [slV, List.getElem?_eq_getElem hk2]
  · rw [← e]
    have b := bAl (Below.refl w.heap.size w) (.cells C T)
    exact ((h _ (List.getElem_mem hk2)).below b).more b.size
theorem LsAt.below {w w' : World} {B g : Nat} {o : Ob} (h : LsAt w B g o) (hg : g < B) (k : Below B w w') : LsAt w' B g o := fun j hj => by
  obtain ⟨A, c, h1, h2⟩ := h j hj
  exact ⟨A, c, (k.cell (p := ⟨g, j, none⟩) hg).trans h1, h2.below k⟩
theorem fx_mask (o : Ob) {k : Nat} (h : k < 12) : maskOf ((fvL o).take (k + 1)) = maskOf ((fvL o).take k) + (if fvSet (fv o k) then 2 ^ k else 0) ∧ maskOf ((fvL o).take k) < 2 ^ k := by
  have h2 : k < (fvL o).length := by rw [fvL_len]; exact h
  have e : fv o k = (fvL o)[k] := by unfold fv; rw [List.getElem?_eq_getElem h2]; rfl
  rw [e]
  refine ⟨maskOf_next h2, ?_⟩
  have := maskOf_lt ((fvL o).take k)
  rwa [List.length_take, Nat.min_eq_left (by omega)] at this
theorem fx_set {f : Fv} (h : 0 < (fx f).length) : fvSet f = true := by
  unfold fx at h
  split at h
  · assumption
  · simp at h
theorem fx_not (o : Ob) {k : Nat} (h : k < 12) (h6 : k ≠ 6) (h7 : k ≠ 7) (h0 : (fx (fv o k)).length = 0) : fvSet (fv o k) = false := by
  cases e : fvSet (fv o k) with
  | false => rfl
  | true =>
    exfalso
    have q : fx (fv o k) = fvB (fv o k) := by unfold fx; rw [if_pos e]
    rw [q] at h0
    have n0 : ∀ n, (numB n).length ≠ 0 := fun n => by have := YX.numB_pos n; omega
    have hk : k = 0 ∨ k = 1 ∨ k = 2 ∨ k = 3 ∨ k = 4 ∨ k = 5 ∨ k = 8 ∨ k = 9 ∨ k = 10 ∨ k = 11 := by omega
    rcases hk with rfl | rfl | rfl | rfl | rfl | rfl | rfl | rfl | rfl | rfl <;> simp [fv, fvL, fvB, n0] at h0
theorem rest_len2 {o : Ob} (h : Fine o) (k : Nat) : (restB ((fvL o).take k)).length ≤ 2200 := by
  have e : restB (fvL o) = restB ((fvL o).take k) ++ restB ((fvL o).drop k) := by
    unfold restB
    rw [← List.flatMap_append, List.take_append_drop]
  have := restB_len h
  rw [e, List.length_append] at this
  omega
theorem refS_tel (b : ByteArray) (hb : (tx b).length ≤ 900000) (W : World) : Calls Tryz.prog 59 #[.string b] W (Tel W (numB (tx b).length ++ tx b)) := by
  have := (YX.refS_any (tx b) hb W).mono fun _ _ => own_tel
  rw [str_tx] at this
  exact this
set_option maxHeartbeats 8000000 in
theorem refObject_any (o : Ob) (w : World) (hF : Fine o) : Calls Tryz.prog 96 #[ob o] w fun e w' => Own w (objB o) e w' := by
  have m0 := AtC.new w (obCells o) 45
  have b0 := bAl (Below.refl w.heap.size w) (.cells (obCells o) 45)
  have C0 := Lib.hid (fun W => (refText_any o.parent (by have := hF.tp; omega) W).mono fun _ _ => own_tel)
  have C1 := Lib.hid (fun W => (refSmall_any o.typ hF.typ W).mono fun _ _ => own_tel)
  have C2 := Lib.hid (fun W => (refText_any o.ref (by have := hF.tr; omega) W).mono fun _ _ => own_tel)
  have C3 := Lib.hid (fun W => (refNumber_any o.lo hF.lo W).mono fun _ _ => own_tel)
  have C4 := Lib.hid (fun W => (refNumber_any o.hi hF.hi W).mono fun _ _ => own_tel)
  have C5 := Lib.hid (fun W => (refSmall_any o.digits hF.digits W).mono fun _ _ => own_tel)
  have C8 := Lib.hid (fun W => (refNumber_any o.value hF.value W).mono fun _ _ => own_tel)
  have C9 := Lib.hid (fun W => (refNumber_any o.low hF.low W).mono fun _ _ => own_tel)
  have C10 := Lib.hid (fun W => (refNumber_any o.high hF.high W).mono fun _ _ => own_tel)
  have C11 := Lib.hid (fun W => (refSmall_any o.assoc hF.assoc W).mono fun _ _ => own_tel)
  have CT := Lib.hid (fun W => refS_tel o.handle (by have := hF.th; omega) W)
  have CU := Lib.hid (fun W => (YX.refU_any (maskOf (fvL o)) (Nat.lt_of_lt_of_le (maskOf_lt _) (by rw [fvL_len]; decide)) _ W rfl).mono fun _ _ => own_tel)
  have HFF := Lib.hid hF
  clear hF
  go_enter Tryz.func96, Tryz.ntmps96
  go_upto_region 1 with fail
  change Code.wp _ _ _ _ (w.alloc (.cells (obCells o) 45))
  generalize w.alloc (.cells (obCells o) 45) = W0 at *
  have hP : ∀ w', Below W0.heap.size W0 w' → ∀ i, w'.cell? ⟨w.heap.size, i, none⟩ = (obCells o)[i]? := fun w' k => (m0.then k).c
  have hb0 : Below W0.heap.size W0 W0.drew := bD1P W0
  have HB0 := Lib.hid b0
  have M0 := Lib.hid m0
  clear m0 b0
  go_region_held3 (fun w' => (∀ i, w'.cell? ⟨w.heap.size, i, none⟩ = (obCells o)[i]?) ∧ Below W0.heap.size W0 w')
    (first | with_reducible assumption | with_reducible exact ⟨hP _ hb0, hb0⟩ | with_reducible exact ⟨hP _ (keepD (by assumption) k3), keepD (by assumption) k3⟩ | exact ⟨hP _ (bAl (‹_ ∧ Below W0.heap.size W0 _›).2 _), bAl (‹_ ∧ Below W0.heap.size W0 _›).2 _⟩ | exact ⟨hP _ (bAl (keepD (by assumption) k3) _), bAl (keepD (by assumption) k3) _⟩)
    (first
    | (go_at_call 129; (with_reducible refine (C0.out _).mono ?_); rintro e w1 ⟨A0, c0, rfl, f0, k3⟩; have E := Lib.hid ((Sls.nil _).snoc c0 f0); clear f0)
    | (go_at_call 130; (with_reducible refine (C1.out _).mono ?_); rintro e w2 ⟨A1, c1, rfl, f1, k3⟩; replace E := Lib.hid ((E.out.below k3).snoc c1 f1); clear f1)
    | (go_at_call 129; (with_reducible refine (C2.out _).mono ?_); rintro e w3 ⟨A2, c2, rfl, f2, k3⟩; replace E := Lib.hid ((E.out.below k3).snoc c2 f2); clear f2)
    | (go_at_call 131; (with_reducible refine (C3.out _).mono ?_); rintro e w4 ⟨A3, c3, rfl, f3, k3⟩; replace E := Lib.hid ((E.out.below k3).snoc c3 f3); clear f3)
    | (go_at_call 131; (with_reducible refine (C4.out _).mono ?_); rintro e w5 ⟨A4, c4, rfl, f4, k3⟩; replace E := Lib.hid ((E.out.below k3).snoc c4 f4); clear f4)
    | (go_at_call 130; (with_reducible refine (C5.out _).mono ?_); rintro e w6 ⟨A5, c5, rfl, f5, k3⟩; replace E := Lib.hid (((E.out.below k3).snoc c5 f5).no.no); clear f5)
    | (go_at_call 131; (with_reducible refine (C8.out _).mono ?_); rintro e w7 ⟨A8, c8, rfl, f8, k3⟩; replace E := Lib.hid ((E.out.below k3).snoc c8 f8); clear f8)
    | (go_at_call 131; (with_reducible refine (C9.out _).mono ?_); rintro e w8 ⟨A9, c9, rfl, f9, k3⟩; replace E := Lib.hid ((E.out.below k3).snoc c9 f9); clear f9)
    | (go_at_call 131; (with_reducible refine (C10.out _).mono ?_); rintro e w9 ⟨A10, c10, rfl, f10, k3⟩; replace E := Lib.hid ((E.out.below k3).snoc c10 f10); clear f10)
    | (go_at_call 130; (with_reducible refine (C11.out _).mono ?_); rintro e w10 ⟨A11, c11, rfl, f11, k3⟩; have SZ := Lib.hid (bThen (‹_ ∧ Below W0.heap.size W0 _›).2 k3); replace E := Lib.hid ((E.out.below k3).snoc c11 f11); clear f11))
  have hLs := LsAt.of (o := o) (T := 22) (by simp [fvL, fx_b]) E.out #[.slice A0 (fx (.s (tx o.parent))).length c0, .slice A1 (fx (.n o.typ)).length c1, .slice A2 (fx (.s (tx o.ref))).length c2, .slice A3 (fx (.i o.lo)).length c3, .slice A4 (fx (.i o.hi)).length c4, .slice A5 (fx (.n o.digits)).length c5, .slice none 0 0, .slice none 0 0, .slice A8 (fx (.i o.value)).length c8, .slice A9 (fx (.i o.low)).length c9, .slice A10 (fx (.i o.high)).length c10, .slice A11 (fx (.n o.assoc)).length c11] rfl
  have hWb := Lib.hid (bAl SZ.out (.cells #[.slice A0 (fx (.s (tx o.parent))).length c0, .slice A1 (fx (.n o.typ)).length c1, .slice A2 (fx (.s (tx o.ref))).length c2, .slice A3 (fx (.i o.lo)).length c3, .slice A4 (fx (.i o.hi)).length c4, .slice A5 (fx (.n o.digits)).length c5, .slice none 0 0, .slice none 0 0, .slice A8 (fx (.i o.value)).length c8, .slice A9 (fx (.i o.low)).length c9, .slice A10 (fx (.i o.high)).length c10, .slice A11 (fx (.n o.assoc)).length c11] 22))
  have hg : w10.heap.size < (w10.alloc (.cells #[.slice A0 (fx (.s (tx o.parent))).length c0, .slice A1 (fx (.n o.typ)).length c1, .slice A2 (fx (.s (tx o.ref))).length c2, .slice A3 (fx (.i o.lo)).length c3, .slice A4 (fx (.i o.hi)).length c4, .slice A5 (fx (.n o.digits)).length c5, .slice none 0 0, .slice none 0 0, .slice A8 (fx (.i o.value)).length c8, .slice A9 (fx (.i o.low)).length c9, .slice A10 (fx (.i o.high)).length c10, .slice A11 (fx (.n o.assoc)).length c11] 22)).heap.size := by simp
  generalize w10.alloc (.cells #[.slice A0 (fx (.s (tx o.parent))).length c0, .slice A1 (fx (.n o.typ)).length c1, .slice A2 (fx (.s (tx o.ref))).length c2, .slice A3 (fx (.i o.lo)).length c3, .slice A4 (fx (.i o.hi)).length c4, .slice A5 (fx (.n o.digits)).length c5, .slice none 0 0, .slice none 0 0, .slice A8 (fx (.i o.value)).length c8, .slice A9 (fx (.i o.low)).length c9, .slice A10 (fx (.i o.high)).length c10, .slice A11 (fx (.n o.assoc)).length c11] 22) = W at *
  generalize w10.heap.size = g at *
  have LS := Lib.hid hLs
  have MW := Lib.hid (M0.out.then hWb.out)
  have KW := Lib.hid (bThen HB0.out hWb.out)
  clear hLs E SZ hP hb0 hWb C0 C1 C2 C3 C4 C5 C8 C9 C10 C11 HB0 M0
  go_wp2
  go_loopw [4, 5, 6, 7] (fun m b v i wr => ∃ k : Nat, i = .int .i64 k ∧ m = .int .u64 (maskOf ((fvL o).take k)) ∧ b = .int .u64 ((2 ^ k : Nat) : Int) ∧ k ≤ 12 ∧ Hid (OwnK u8K wr W.heap.size v (restB ((fvL o).take k))) ∧ Below W.heap.size W wr) (fun _ _ _ i _ => 12 - (intOf i).toNat)
  case atStart => exact ⟨0, rfl, rfl, rfl, by omega, Lib.hid (OwnK.nil_ _ _ _), Below.refl _ _⟩
  case round =>
    obtain ⟨k, rfl, rfl, rfl, hk, hO, hb⟩ := hrel
    have HBk := Lib.hid hb
    have mw := MW.out.then hb
    by_cases hlt : k < 12
    · have i1 : (k : Int) < 12 := by omega
      obtain ⟨A, c, hc, hr⟩ := (LS.out.below hg hb) k hlt
      have mc8 := mw.c 8
      have mc9 := mw.c 9
      have h2k : 2 ^ k ≤ 2048 := Nat.pow_le_pow_right (by decide) (show k ≤ 11 by omega)
      obtain ⟨hm1, hm2⟩ := fx_mask o hlt
      have hlen1 := rest_len2 HFF.out (k + 1)
      rw [fx_rest o hlt, List.length_append] at hlen1
      have HR := Lib.hid hr
      have HN := Lib.hid (fx_rest o hlt)
      have HB2 : Hid (2 ^ (k + 1) = 2 * 2 ^ k) := Lib.hid (by rw [Nat.pow_succ]; omega)
      have hS : ((0 < (fx (fv o k)).length) ∧ fvSet (fv o k) = true) ∨ ((fx (fv o k)).length = 0 ∧ k = 6 ∧ o.on = true ∧ fvSet (fv o k) = true) ∨ ((fx (fv o k)).length = 0 ∧ k = 6 ∧ o.on = false ∧ fvSet (fv o k) = false) ∨ ((fx (fv o k)).length = 0 ∧ k = 7 ∧ o.has = true ∧ fvSet (fv o k) = true) ∨ ((fx (fv o k)).length = 0 ∧ k = 7 ∧ o.has = false ∧ fvSet (fv o k) = false) ∨ ((fx (fv o k)).length = 0 ∧ k ≠ 6 ∧ k ≠ 7 ∧ fvSet (fv o k) = false) := by
        by_cases h0 : 0 < (fx (fv o k)).length
        · exact .inl ⟨h0, fx_set h0⟩
        · have h0' : (fx (fv o k)).length = 0 := by omega
          refine .inr ?_
          by_cases h6 : k = 6
          · subst h6
            cases e : o.on with
            | true => exact .inl ⟨h0', rfl, rfl, e⟩
            | false => exact .inr (.inl ⟨h0', rfl, rfl, e⟩)
          · by_cases h7 : k = 7
            · subst h7
              cases e : o.has with
              | true => exact .inr (.inr (.inl ⟨h0', rfl, rfl, e⟩))
              | false => exact .inr (.inr (.inr (.inl ⟨h0', rfl, rfl, e⟩)))
            · exact .inr (.inr (.inr (.inr ⟨h0', h6, h7, fx_not o hlt h6 h7 h0'⟩)))
      have HLN : Hid ((fx (fv o k)).length = (fx (fv o k)).length) := Lib.hid rfl
      clear hr mw
      obtain ⟨k2, hk2⟩ : ∃ k2, k2 = k + 1 := ⟨_, rfl⟩
      rw [← hk2] at HN HB2 hm1
      have HK2 := Lib.hid hk2
      have hk12 : k2 ≤ 12 := by omega
      clear hk2
      generalize maskOf ((fvL o).take k) = m at *
      generalize restB ((fvL o).take k) = r at *
      generalize fx (fv o k) = f at *
      generalize fvSet (fv o k) = fs at *
      generalize 2 ^ k = b at *
      obtain ⟨n, hn⟩ : ∃ n, f.length = n := ⟨_, rfl⟩
      have HFL := Lib.hid hn
      rw [hn] at hc hS hlen1
      clear hn HLN
      have hw1 : IntKind.u64.wrap ((m : Int) + (b : Int)) = (m : Int) + (b : Int) := by simp [IntKind.wrap, IntKind.bits, IntKind.signed]; omega
      have hw2 : IntKind.u64.wrap ((b : Int) * 2) = (b : Int) * 2 := by simp [IntKind.wrap, IntKind.bits, IntKind.signed]; omega
      rcases hS with ⟨i2, rfl⟩ | ⟨rfl, rfl, i2, rfl⟩ | ⟨rfl, rfl, i2, rfl⟩ | ⟨rfl, rfl, i2, rfl⟩ | ⟨rfl, rfl, i2, rfl⟩ | ⟨rfl, i2, i3, rfl⟩
      all_goals
        have HM := Lib.hid hm1
        clear hm1
        go_wp2_with (at_builtin; refine wpList_spreadK u8K rfl (.tmp 71) (.tmp 75) rfl W.heap.size u6 r rfl hO.out W.heap.size A _ c f rfl HFL.out HR.out ?c1 ?c2 ?_)
        case c1 => have := HFL.out; omega
        case c2 => exact HBk.out.size
        intro v' w5 o5 g5 f5
        have K5 := Lib.hid (HBk.out.grown g5 HBk.out.size (fun a ha => (hO.out.lt a ha).1))
        have O5 := Lib.hid o5
        clear o5 g5
        go_wp2
        go_roundw
        case rel => exact ⟨k2, (by first | (rw [HK2.out]; done) | (rw [HK2.out]; go_num)), (by first | (rw [HM.out]; done) | (rw [HM.out]; simp)), (by first | (rw [HB2.out]; done) | (rw [HB2.out]; go_num)), hk12, Lib.hid (by rw [HN.out]; exact O5.out), K5.out⟩
        case measure => (simp [intOf]; try omega)
    · obtain rfl : k = 12 := by omega
      have i1 : ¬ ((12 : Nat) : Int) < 12 := by omega
      have eM : (fvL o).take 12 = fvL o := List.take_of_length_le (by rw [fvL_len]; exact Nat.le_refl _)
      rw [eM] at hO ⊢
      clear eM
      have mc0 := mw.c 0
      have mc1 := mw.c 1
      obtain ⟨x, hx⟩ : ∃ x, x = UInt8.ofNat o.kind := ⟨_, rfl⟩
      have HX := Lib.hid (show Value.int .u8 (o.kind : Int) = YX.u8 x by unfold YX.u8; rw [hx, u8n HFF.out.kind])
      go_upto_region 12 with fail
      have hP2 : ∀ w', Below wr.heap.size wr w' → ∀ i, w'.cell? ⟨w.heap.size, i, none⟩ = (obCells o)[i]? := fun w' k => (mw.then k).c
      have hb2 : Below wr.heap.size wr wr.drew := bD1P wr
      have hb1 : Below wr.heap.size wr wr := Below.refl _ _
      have HLT : Hid ((numB (tx o.handle).length ++ tx o.handle).length ≤ 2000) := Lib.hid (by have := HFF.out.th; have := numB_le (show (tx o.handle).length < 18446744073709551616 by omega); rw [List.length_append]; omega)
      have hsz : wr.heap.size ≤ wr.heap.size := Nat.le_refl _
      clear mc0 mc1
      go_region_held3 (fun w' => (∀ i, w'.cell? ⟨w.heap.size, i, none⟩ = (obCells o)[i]?) ∧ Below wr.heap.size wr w')
        (first | with_reducible assumption | with_reducible exact ⟨hP2 _ hb1, hb1⟩ | with_reducible exact ⟨hP2 _ hb2, hb2⟩ | with_reducible exact ⟨hP2 _ (keepD (by assumption) k3), keepD (by assumption) k3⟩ | with_reducible exact ⟨hP2 _ b12, b12⟩ | exact ⟨hP2 _ (bAl hb1 _), bAl hb1 _⟩ | exact ⟨hP2 _ (bThen (bAl hb1 _) (bD1P _)), bThen (bAl hb1 _) (bD1P _)⟩ | exact ⟨hP2 _ (bAl (keepD (by assumption) k3) _), bAl (keepD (by assumption) k3) _⟩ | exact ⟨hP2 _ (bAl (‹_ ∧ Below wr.heap.size wr _›).2 _), bAl (‹_ ∧ Below wr.heap.size wr _›).2 _⟩)
        (first
        | (go_at_call 59; (with_reducible refine (CT.out _).mono ?_); rintro e w11 ⟨At, ct, rfl, rt, k3⟩; have RT := Lib.hid rt; have K11 := Lib.hid k3; have HSZ := Lib.hid (bThen (‹_ ∧ Below wr.heap.size wr _›).2 k3).size; clear rt)
        | ((refine step_spreadK u8K rfl (.tmp 81) (.tmp 84) rfl wr.heap.size (.slice (some ⟨wr.heap.size, 0, none⟩) 1 1) [x] (by simp [Act.eval, Act.put]; done) ((YX.own1 wr wr.heap.size hsz x HX.out).below (bThen (bD1P _) K11.out)) w11.heap.size At (numB (tx o.handle).length ++ tx o.handle).length ct (numB (tx o.handle).length ++ tx o.handle) (by simp [Act.eval, Act.put]; done) rfl RT.out (by have := HLT.out; simp only [List.length_singleton]; omega) (‹_ ∧ Below wr.heap.size wr _›).2.size ?_); intro v12 w12 o12 g12 f12; have b12 := (‹_ ∧ Below wr.heap.size wr _›).2.grown g12 (‹_ ∧ Below wr.heap.size wr _›).2.size (fun q hq => by simp [Value.ownBlock] at hq; omega); have O12 := Lib.hid o12; have B12 := Lib.hid b12; clear o12)
        | ((refine step_spreadK u8K rfl (.tmp 81) (.tmp 84) rfl wr.heap.size (.slice (some ⟨w11.heap.size, 0, none⟩) 1 1) [x] (by simp [Act.eval, Act.put]; done) (YX.own1 w11 wr.heap.size HSZ.out x HX.out) w11.heap.size At (numB (tx o.handle).length ++ tx o.handle).length ct (numB (tx o.handle).length ++ tx o.handle) (by simp [Act.eval, Act.put]; done) rfl (RT.out.below (bAl (Below.refl _ _) _)) (by have := HLT.out; simp only [List.length_singleton]; omega) (‹_ ∧ Below wr.heap.size wr _›).2.size ?_); intro v12 w12 o12 g12 f12; have b12 := (‹_ ∧ Below wr.heap.size wr _›).2.grown g12 (‹_ ∧ Below wr.heap.size wr _›).2.size (fun q hq => by have := HSZ.out; simp [Value.ownBlock] at hq; omega); have O12 := Lib.hid o12; have B12 := Lib.hid b12; clear o12))
      all_goals
        clear hP2 hb1 hb2 mw
        obtain ⟨A6, c6, rfl, r6, _⟩ := hO.out.form
        have R6 := Lib.hid r6
        have HM9 := Lib.hid (numB_le (show maskOf (fvL o) < 18446744073709551616 from Nat.lt_of_lt_of_le (maskOf_lt _) (by rw [fvL_len]; decide)))
        have HR9 := Lib.hid (restB_len HFF.out)
        have HX2 := Lib.hid hx
        have KK := Lib.hid (bThen (bThen KW.out hb) B12.out)
        have HSW := Lib.hid (Nat.le_trans KW.out.size hb.size)
        clear r6 hx hO hb
        go_wp2_with (first
          | (go_at_call 60; ((refine (CU.out _).mono ?_); rintro e w13 ⟨Au, cu, rfl, ru, k13⟩; have RU := Lib.hid ru; have O13 := Lib.hid (O12.out.below k13); have B13 := Lib.hid (bThen B12.out k13); have KK3 := Lib.hid (bThen KK.out k13); clear ru k13))
          | (at_builtin; refine wpList_spreadK u8K rfl (.tmp 86) (.tmp 88) rfl wr.heap.size v12 _ rfl O13.out w13.heap.size Au _ cu _ rfl rfl RU.out ?c1 ?c2 ?_))
        case c1 => have := HLT.out; have := HM9.out; simp only [List.length_append, List.length_singleton] at *; omega
        case c2 => exact B13.out.size
        intro v14 w14 o14 g14 f14
        have B14 := Lib.hid (B13.out.grown g14 B13.out.size (fun a ha => (O13.out.lt a ha).1))
        have KK4 := Lib.hid (KK3.out.grown g14 (Nat.le_trans HSW.out B13.out.size) (fun a ha => Nat.le_trans HSW.out (O13.out.lt a ha).1))
        have O14 := Lib.hid o14
        have R7 := Lib.hid (R6.out.below B14.out)
        clear o14 g14
        go_wp2_with (at_builtin; refine wpList_spreadK u8K rfl (.tmp 89) (.tmp 90) rfl wr.heap.size v14 _ rfl O14.out wr.heap.size A6 _ c6 _ rfl rfl R7.out ?c1 ?c2 ?_)
        case c1 => have := HLT.out; have := HM9.out; have := HR9.out; have e9 : o.handle.size = (tx o.handle).length := rfl; simp only [List.length_append, List.length_cons, List.length_singleton, e9] at *; omega
        case c2 => exact B14.out.size
        intro v15 w15 o15 g15 f15
        have KK5 := Lib.hid (KK4.out.grown g15 (Nat.le_trans HSW.out B14.out.size) (fun a ha => Nat.le_trans HSW.out (O14.out.lt a ha).1))
        have O15 := Lib.hid o15
        clear o15 g15
        go_wp2
        go_ret
        exact ⟨_, rfl, by have := (O15.out).base HSW.out; rw [HX2.out] at this; simp only [objB, List.append_assoc, List.cons_append, List.nil_append]; exact this, KK5.out⟩
end Go.Proofs.YtkgjgbenfpkekaaGreat.PX
/-
  WALKS: the document's Change and Entry: their bytes.
-/
namespace Go.Proofs.YtkgjgbenfpkekaaGreat.PX
open Go.RowKit HL
open IX (ptr El cellsK cellsK_at cellsK_len OwnK RdK Kept step_spreadK wpList_spreadK)
open YX (numB rdU rdB rdT rdS rdI addW intN natI rest told u8K Own own1 u8n)
open DX (Ch ch chCells chK)
set_option maxRecDepth 100000
set_option linter.unusedVariables false
set_option linter.unusedSimpArgs false

set_option maxHeartbeats 8000000 in
theorem refChange_any (c : Ch) (w : World) (hF : FineC c) : Calls Tryz.prog 61 #[ch c] w fun e w' => Own w (codC.B c) e w' := by
  have mw := AtC.new w (chCells c) 47
  have b0 := bAl (Below.refl w.heap.size w) (.cells (chCells c) 47)
  have CT := Lib.hid (fun W => (refObject_any c.o W hF.o).mono fun _ _ => own_tel)
  have HLT : Hid ((objB c.o).length ≤ 3300) := Lib.hid (objB_len hF.o)
  obtain ⟨x, hx⟩ : ∃ x, x = UInt8.ofNat c.kind := ⟨_, rfl⟩
  have HX := Lib.hid (show Value.int .u8 (c.kind : Int) = YX.u8 x by unfold YX.u8; rw [hx, u8n hF.kind])
  have HE := Lib.hid (show [x] ++ objB c.o = codC.B c by rw [hx]; rfl)
  clear hF hx
  generalize codC.B c = R at *
  generalize objB c.o = t at *
  go_enter Tryz.func61, Tryz.ntmps61
  go_upto_region 1 with fail
  change Code.wp _ _ _ _ (w.alloc (.cells (chCells c) 47))
  generalize w.alloc (.cells (chCells c) 47) = wr at *
  have KW := Lib.hid b0
  have hP2 : ∀ w', Below wr.heap.size wr w' → ∀ i, w'.cell? ⟨w.heap.size, i, none⟩ = (chCells c)[i]? := fun w' k => (mw.then k).c
  have hb2 : Below wr.heap.size wr wr.drew := bD1P wr
  have hb1 : Below wr.heap.size wr wr := Below.refl _ _
  have hsz : wr.heap.size ≤ wr.heap.size := Nat.le_refl _
  clear b0
  go_region_held3 (fun w' => (∀ i, w'.cell? ⟨w.heap.size, i, none⟩ = (chCells c)[i]?) ∧ Below wr.heap.size wr w')
    (first | with_reducible assumption | with_reducible exact ⟨hP2 _ hb1, hb1⟩ | with_reducible exact ⟨hP2 _ hb2, hb2⟩ | with_reducible exact ⟨hP2 _ (keepD (by assumption) k3), keepD (by assumption) k3⟩ | with_reducible exact ⟨hP2 _ b12, b12⟩ | exact ⟨hP2 _ (bAl hb1 _), bAl hb1 _⟩ | exact ⟨hP2 _ (bThen (bAl hb1 _) (bD1P _)), bThen (bAl hb1 _) (bD1P _)⟩ | exact ⟨hP2 _ (bAl (keepD (by assumption) k3) _), bAl (keepD (by assumption) k3) _⟩ | exact ⟨hP2 _ (bAl (‹_ ∧ Below wr.heap.size wr _›).2 _), bAl (‹_ ∧ Below wr.heap.size wr _›).2 _⟩)
    (first
    | (go_at_call 96; (with_reducible refine (CT.out _).mono ?_); rintro e w11 ⟨At, ct, rfl, rt, k3⟩; have RT := Lib.hid rt; have K11 := Lib.hid k3; have HSZ := Lib.hid (bThen (‹_ ∧ Below wr.heap.size wr _›).2 k3).size; clear rt)
    | ((refine step_spreadK u8K rfl (.tmp 5) (.tmp 8) rfl wr.heap.size (.slice (some ⟨wr.heap.size, 0, none⟩) 1 1) [x] (by simp [Act.eval, Act.put]; done) ((YX.own1 wr wr.heap.size hsz x HX.out).below (bThen (bD1P _) K11.out)) w11.heap.size At t.length ct t (by simp [Act.eval, Act.put]; done) rfl RT.out (by have := HLT.out; simp only [List.length_singleton]; omega) (‹_ ∧ Below wr.heap.size wr _›).2.size ?_); intro v12 w12 o12 g12 f12; have b12 := (‹_ ∧ Below wr.heap.size wr _›).2.grown g12 (‹_ ∧ Below wr.heap.size wr _›).2.size (fun q hq => by simp [Value.ownBlock] at hq; omega); have O12 := Lib.hid o12; have B12 := Lib.hid b12; clear o12)
    | ((refine step_spreadK u8K rfl (.tmp 5) (.tmp 8) rfl wr.heap.size (.slice (some ⟨w11.heap.size, 0, none⟩) 1 1) [x] (by simp [Act.eval, Act.put]; done) (YX.own1 w11 wr.heap.size HSZ.out x HX.out) w11.heap.size At t.length ct t (by simp [Act.eval, Act.put]; done) rfl (RT.out.below (bAl (Below.refl _ _) _)) (by have := HLT.out; simp only [List.length_singleton]; omega) (‹_ ∧ Below wr.heap.size wr _›).2.size ?_); intro v12 w12 o12 g12 f12; have b12 := (‹_ ∧ Below wr.heap.size wr _›).2.grown g12 (‹_ ∧ Below wr.heap.size wr _›).2.size (fun q hq => by have := HSZ.out; simp [Value.ownBlock] at hq; omega); have O12 := Lib.hid o12; have B12 := Lib.hid b12; clear o12))
  all_goals
    clear hP2 hb1 hb2 mw
    go_wp2
    go_ret
    exact ⟨_, rfl, by rw [← HE.out]; exact O12.out.base KW.out.size, bThen KW.out B12.out⟩
set_option maxHeartbeats 8000000 in
theorem refEntry_any (c : En) (w : World) (hF : FineE c) : Calls Tryz.prog 67 #[en c] w fun e w' => Own w (enB c) e w' := by
  have mw := AtC.new w (enC c) 103
  have b0 := bAl (Below.refl w.heap.size w) (.cells (enC c) 103)
  have CO := Lib.hid (fun W => (refObject_any c.o W hF.o).mono fun _ _ => own_tel)
  have CT : Hid (∀ W, Calls Tryz.prog 59 #[.string c.handle] W fun e w' => Own W (numB (tx c.handle).length ++ tx c.handle) e w') := Lib.hid (fun W => by have := YX.refS_any (tx c.handle) (by have := hF.th; omega) W; rwa [str_tx] at this)
  have CB := Lib.hid (fun W => (YX.refT_any c.there W).mono fun _ _ => own_tel)
  have CD := Lib.hid (fun W => (YX.refI_any c.desc hF.desc.1 hF.desc.2 W).mono fun _ _ => own_tel)
  have CS := Lib.hid (fun W => (YX.refI_any c.state hF.state.1 hF.state.2 W).mono fun _ _ => own_tel)
  have HL1 : Hid ((objB c.o).length ≤ 3300) := Lib.hid (objB_len hF.o)
  have HL0 : Hid ((numB (tx c.handle).length ++ tx c.handle).length ≤ 2000) := Lib.hid (by have := hF.th; have := numB_le (show (tx c.handle).length < 18446744073709551616 by omega); rw [List.length_append]; omega)
  have HL2 : Hid ((numB (intN c.desc)).length ≤ 10) := Lib.hid (numB_le (YX.intN_lt hF.desc.1 hF.desc.2))
  have HL3 : Hid ((numB (intN c.state)).length ≤ 10) := Lib.hid (numB_le (YX.intN_lt hF.state.1 hF.state.2))
  have HLB : Hid (([if c.there then 1 else 0] : Bs).length = 1) := Lib.hid rfl
  have HE := Lib.hid (show (numB (tx c.handle).length ++ tx c.handle) ++ [if c.there then 1 else 0] ++ objB c.o ++ numB (intN c.desc) ++ numB (intN c.state) = enB c from rfl)
  clear hF
  generalize enB c = R at *
  generalize numB (tx c.handle).length ++ tx c.handle = t0 at *
  generalize ([if c.there then 1 else 0] : Bs) = tb at *
  generalize objB c.o = t1 at *
  generalize numB (intN c.desc) = t2 at *
  generalize numB (intN c.state) = t3 at *
  go_enter Tryz.func67, Tryz.ntmps67
  go_upto_region 1 with fail
  change Code.wp _ _ _ _ (w.alloc (.cells (enC c) 103))
  generalize w.alloc (.cells (enC c) 103) = wr at *
  have KW := Lib.hid b0
  have hP2 : ∀ w', Below wr.heap.size wr w' → ∀ i, w'.cell? ⟨w.heap.size, i, none⟩ = (enC c)[i]? := fun w' k => (mw.then k).c
  have hb2 : Below wr.heap.size wr wr.drew := bD1P wr
  have hb1 : Below wr.heap.size wr wr := Below.refl _ _
  have MW := Lib.hid mw
  clear b0 mw
  go_region_held3 (fun w' => (∀ i, w'.cell? ⟨w.heap.size, i, none⟩ = (enC c)[i]?) ∧ Below wr.heap.size wr w')
    (first | with_reducible assumption | with_reducible exact ⟨hP2 _ hb1, hb1⟩ | with_reducible exact ⟨hP2 _ hb2, hb2⟩ | with_reducible exact ⟨hP2 _ (keepD (by assumption) k3), keepD (by assumption) k3⟩ | with_reducible exact ⟨hP2 _ b12, b12⟩)
    (first
    | (go_at_call 59; (with_reducible refine (CT.out _).mono ?_); rintro e w11 ⟨v11, rfl, rt, k3⟩; have RT := Lib.hid (rt.base (‹_ ∧ Below wr.heap.size wr _›).2.size); clear rt)
    | (go_at_call 63; (with_reducible refine (CB.out _).mono ?_); rintro e w13 ⟨At, ct, rfl, rt, k3⟩; have RB := Lib.hid rt; replace RT := Lib.hid (RT.out.below k3); clear rt)
    | ((refine step_spreadK u8K rfl (.tmp 6) (.tmp 9) rfl wr.heap.size v11 t0 (by simp [Act.eval, Act.put]; done) RT.out w13.heap.size At tb.length ct tb (by simp [Act.eval, Act.put]; done) rfl RB.out (by have := HL0.out; have := HLB.out; omega) (‹_ ∧ Below wr.heap.size wr _›).2.size ?_); intro v12 w12 o12 g12 f12; have b12 := (‹_ ∧ Below wr.heap.size wr _›).2.grown g12 (‹_ ∧ Below wr.heap.size wr _›).2.size (fun q hq => (RT.out.lt q hq).1); have O12 := Lib.hid o12; have B12 := Lib.hid b12; clear o12))
  have mc := (MW.out.then B12.out).c
  have ml := (MW.out.then B12.out).lt
  go_upto_region 3 with (first
    | (go_at_call 96; ((refine (CO.out _).mono ?_); rintro e w14 ⟨Ao, co, rfl, ro, k14⟩; have RO := Lib.hid ro; have B14 := Lib.hid (bThen B12.out k14); have O13 := Lib.hid (O12.out.below k14); clear ro k14 mc ml))
    | (at_builtin; refine wpList_spreadK u8K rfl (.tmp 11) (.tmp 14) rfl wr.heap.size v12 _ rfl O13.out w14.heap.size Ao _ co _ rfl rfl RO.out ?c1 ?c2 ?_))
  case c1 => have := HL0.out; have := HLB.out; have := HL1.out; rw [List.length_append]; omega
  case c2 => exact B14.out.size
  intro v15 w15 o15 g15 f15
  have b15 := B14.out.grown g15 B14.out.size (fun a ha => (O13.out.lt a ha).1)
  have O15 := Lib.hid o15
  clear o15 g15
  have b15d := bThen b15 (bD1P _)
  go_upto_region 3 with fail
  clear b12 hb1 hb2
  go_region_held3 (fun w' => (∀ i, w'.cell? ⟨w.heap.size, i, none⟩ = (enC c)[i]?) ∧ Below wr.heap.size wr w')
    (first | with_reducible assumption | with_reducible exact ⟨hP2 _ b15, b15⟩ | with_reducible exact ⟨hP2 _ b15d, b15d⟩ | with_reducible exact ⟨hP2 _ (keepD (by assumption) k3), keepD (by assumption) k3⟩ | with_reducible exact ⟨hP2 _ b17, b17⟩ | with_reducible exact ⟨hP2 _ b19, b19⟩)
    (first
    | (go_at_call 62; (with_reducible refine (CD.out _).mono ?_); rintro e w16 ⟨A2, c2, rfl, r2, k3⟩; have R2 := Lib.hid r2; have O16 := Lib.hid (O15.out.below (by first | exact k3 | exact bThen (bD1P _) k3)); clear r2)
    | ((refine step_spreadK u8K rfl (.tmp 16) (.tmp 20) rfl wr.heap.size v15 _ (by simp [Act.eval, Act.put]; done) O16.out w16.heap.size A2 t2.length c2 t2 (by simp [Act.eval, Act.put]; done) rfl R2.out (by have := HL0.out; have := HLB.out; have := HL1.out; have := HL2.out; simp only [List.length_append]; omega) (‹_ ∧ Below wr.heap.size wr _›).2.size ?_); intro v17 w17 o17 g17 f17; have b17 := (‹_ ∧ Below wr.heap.size wr _›).2.grown g17 (‹_ ∧ Below wr.heap.size wr _›).2.size (fun q hq => (O16.out.lt q hq).1); have O17 := Lib.hid o17; clear o17)
    | (go_at_call 62; (with_reducible refine (CS.out _).mono ?_); rintro e w18 ⟨A3, c3, rfl, r3, k3⟩; have R3 := Lib.hid r3; have O18 := Lib.hid (O17.out.below (by first | exact k3 | exact bThen (bD1P _) k3)); clear r3)
    | ((refine step_spreadK u8K rfl (.tmp 21) (.tmp 25) rfl wr.heap.size v17 _ (by simp [Act.eval, Act.put]; done) O18.out w18.heap.size A3 t3.length c3 t3 (by simp [Act.eval, Act.put]; done) rfl R3.out (by have := HL0.out; have := HLB.out; have := HL1.out; have := HL2.out; have := HL3.out; simp only [List.length_append]; omega) (‹_ ∧ Below wr.heap.size wr _›).2.size ?_); intro v19 w19 o19 g19 f19; have b19 := (‹_ ∧ Below wr.heap.size wr _›).2.grown g19 (‹_ ∧ Below wr.heap.size wr _›).2.size (fun q hq => (O18.out.lt q hq).1); have O19 := Lib.hid o19; have B19 := Lib.hid b19; clear o19))
  all_goals
    go_wp2
    go_ret
    exact ⟨_, rfl, by have this := O19.out.base KW.out.size; have q : t0 ++ (tb ++ t1) ++ t2 ++ t3 = R := (by rw [← HE.out]; simp only [List.append_assoc]); rw [q] at this; exact this, bThen KW.out B19.out⟩
end Go.Proofs.YtkgjgbenfpkekaaGreat.PX
/-
  WALKS: the document's Long and whole: what is too long; plain facts of lists' bytes.
-/
namespace Go.Proofs.YtkgjgbenfpkekaaGreat.PX
open Go.RowKit HL
open IX (ptr El cellsK cellsK_at cellsK_len OwnK RdK Kept step_spreadK wpList_spreadK)
open YX (numB rdU rdB rdT rdS rdI addW intN natI rest told u8K Own own1 u8n)
open DX (Ch ch chCells chK chs_at)
open WX (obK obs_at)
set_option maxRecDepth 100000
set_option linter.unusedVariables false
set_option linter.unusedSimpArgs false

theorem short_size (o : Ob) : objShort o = (!(decide (255 < o.handle.size) || decide (255 < o.parent.size) || decide (255 < o.ref.size))) := by
  have e : ∀ n : Nat, decide (n ≤ 255) = !decide (255 < n) := fun n => by
    by_cases h : n ≤ 255
    · have : ¬ 255 < n := by omega
      simp [h, this]
    · have : 255 < n := by omega
      simp [h, this]
  unfold objShort
  rw [e, e, e]
  simp only [tx_len, Bool.not_or]
set_option maxHeartbeats 2000000 in
theorem refLong_any (o : Ob) (w : World) : Calls Tryz.prog 58 #[ob o] w fun e w' => e = .returned (.bool (!objShort o)) ∧ Below w.heap.size w w' := by
  have hb := bAl (Below.refl w.heap.size w) (.cells (obCells o) 45)
  have hm := (AtC.new w (obCells o) 45).c
  have HB := Lib.hid hb
  clear hb
  obtain ⟨q, hq⟩ : ∃ q, objShort o = q := ⟨_, rfl⟩
  rw [hq]
  rw [short_size] at hq
  by_cases h1 : 255 < o.handle.size
  · have i1 : (255 : Int) < (o.handle.size : Int) := by omega
    obtain rfl : q = false := by rw [← hq]; simp [h1]
    go_enter Tryz.func58, Tryz.ntmps58
    go_wp2
    go_ret
    exact ⟨rfl, HB.out⟩
  · have i1 : ¬ (255 : Int) < (o.handle.size : Int) := by omega
    by_cases h2 : 255 < o.parent.size
    · have i2 : (255 : Int) < (o.parent.size : Int) := by omega
      obtain rfl : q = false := by rw [← hq]; simp [h2]
      go_enter Tryz.func58, Tryz.ntmps58
      go_wp2
      go_ret
      exact ⟨rfl, HB.out⟩
    · have i2 : ¬ (255 : Int) < (o.parent.size : Int) := by omega
      by_cases h3 : 255 < o.ref.size
      · have i3 : (255 : Int) < (o.ref.size : Int) := by omega
        obtain rfl : q = false := by rw [← hq]; simp [h3]
        go_enter Tryz.func58, Tryz.ntmps58
        go_wp2
        go_ret
        exact ⟨rfl, HB.out⟩
      · have i3 : ¬ (255 : Int) < (o.ref.size : Int) := by omega
        obtain rfl : q = true := by rw [← hq]; simp [h1, h2, h3]
        go_enter Tryz.func58, Tryz.ntmps58
        go_wp2
        go_ret
        exact ⟨rfl, HB.out⟩
/-- Bytes, unless there are too many. -/
def capB (l : Bs) : Option Bs := if 65536 < l.length then none else some l
theorem refWhole_any (l : Bs) (A : Option Addr) (c : Nat) (w : World) (h : RdK u8K w w.heap.size A l) (hc : l.length ≤ c) (h0 : A = none → c = 0) : Calls Tryz.prog 97 #[.slice A l.length c] w fun e w' => Bts w (capB l) e w' := by
  by_cases g : 65536 < l.length
  · have i1 : (65536 : Int) < (l.length : Int) := by omega
    have e : capB l = none := by unfold capB; rw [if_pos g]
    rw [e]
    clear h e hc h0
    go_enter Tryz.func97, Tryz.ntmps97
    go_wp2
    go_ret2
    exact ⟨_, 3, rfl, .no', Below.refl _ _⟩
  · have i1 : ¬ (65536 : Int) < (l.length : Int) := by omega
    have e : capB l = some l := by unfold capB; rw [if_neg g]
    rw [e]
    have H : Hid (Rows w (.slice A l.length c) l) := Lib.hid ⟨A, c, rfl, h, hc, h0⟩
    clear h e hc h0
    go_enter Tryz.func97, Tryz.ntmps97
    go_wp2
    go_ret2
    exact ⟨_, 0, rfl, .yes' _ _ H.out, Below.refl _ _⟩
theorem writeL_long {α : Type} (C : Cod α) {l : List α} (h : 64 < l.length) : writeL C l = none := by unfold writeL; rw [if_pos h]
theorem writeL_no {α : Type} (C : Cod α) {l : List α} {x : α} (h : x ∈ l) (hs : C.short x = false) : writeL C l = none := by
  rw [writeL_eq, if_neg]
  rintro ⟨_, h2, _⟩
  rw [List.all_eq_true.1 h2 x h] at hs; cases hs
theorem writeL_cap {α : Type} (C : Cod α) {l : List α} (h : l.length ≤ 64) (hs : l.all C.short = true) : writeL C l = capB (listB C l) := by
  rw [writeL_eq]
  unfold capB
  by_cases g : 65536 < (listB C l).length
  · rw [if_pos g, if_neg (fun q => by have := q.2.2; omega)]
  · rw [if_neg g, if_pos ⟨h, hs, by omega⟩]
theorem encL_len {α : Type} (C : Cod α) : ∀ (l : List α), (∀ x ∈ l, C.fine x) → (encL C l).length ≤ l.length * 5000
  | [], _ => by simp [encL]
  | x :: l, h => by
    have h1 := C.b_len x (h x (List.mem_cons_self ..))
    have h2 := encL_len C l (fun y hy => h y (List.mem_cons_of_mem _ hy))
    have e : encL C (x :: l) = C.B x ++ encL C l := rfl
    rw [e, List.length_append, List.length_cons]
    omega
theorem encL_next {α : Type} (C : Cod α) {l : List α} {k : Nat} (h : k < l.length) : encL C (l.take (k + 1)) = encL C (l.take k) ++ C.B l[k] := by
  unfold encL
  rw [List.take_succ_eq_append_getElem h, List.flatMap_append]; simp
theorem nn_of {A : Option Addr} {W : World} {B : Nat} {b : Bs} {c : Nat} (h : RdK u8K W B A b) (h0 : 0 < b.length) : A = none → c = 0 := fun q => by
  rcases h with h | ⟨b', off, e2, _⟩
  · rw [h] at h0; simp at h0
  · rw [q] at e2; cases e2
end Go.Proofs.YtkgjgbenfpkekaaGreat.PX
