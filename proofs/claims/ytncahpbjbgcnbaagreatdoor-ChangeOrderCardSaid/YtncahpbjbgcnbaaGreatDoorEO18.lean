/-
  PLAIN: what is sorted is told by what stands under each handle.
-/
import Derived.Test.YtncahpbjbgcnbaaGreatDoorEO17
import Derived.Test.YtncahpbjbgcnbaaGreatDoorEO15
import Derived.Test.YtncahpbjbgcnbaaGreatDoorEO8
import Derived.Test.YtncahpbjbgcnbaaGreatDoorEO10
namespace Go.Proofs.YtncahpbjbgcnbaaGreatDoor.DX
open Go.RowKit HL
open WX (hb)
open KX (Tg lex Up Inc up_uniq mapF numb numb_fst numb_inc Sorted)
set_option maxRecDepth 100000
set_option linter.unusedVariables false
set_option linter.unusedSimpArgs false

/-- What stands under one handle, as it stands. -/
def under (l : List Ob) (x : Bs) : List Ob := l.filter (fun o => decide (hb o = x))
theorem under_mem {l : List Ob} {x : Bs} {o : Ob} : o ∈ under l x ↔ o ∈ l ∧ hb o = x := by simp [under]
theorem under_mapF (T : List Tg) (x : Bs) : under (mapF T) x = mapF (T.filter (fun p => decide (hb p.1 = x))) := by
  unfold under mapF
  rw [List.filter_map]; rfl
theorem sorted_under {l l' : List Ob} (h : Sorted l l') (x : Bs) : under l' x = under l x := by
  obtain ⟨T, hp, hu, rfl⟩ := h
  have e : under l x = under (mapF (numb l 0)) x := by rw [numb_fst]
  rw [e, under_mapF, under_mapF]
  congr 1
  refine up_uniq (hp.symm.filter _) (hu.filter _) ?_
  have h1 : ((numb l 0).filter (fun p => decide (hb p.1 = x))).Pairwise (fun a b => a.2 < b.2) := (numb_inc l 0).filter _
  refine List.Pairwise.imp_of_mem ?_ h1
  intro a b ha hb2 hlt
  have e1 : hb a.1 = x := by simpa using (List.mem_filter.1 ha).2
  have e2 : hb b.1 = x := by simpa using (List.mem_filter.1 hb2).2
  exact .inr ⟨e1.trans e2.symm, hlt⟩
/-- In the handles' order. -/
def Low (l : List Ob) : Prop := l.Pairwise (fun a b => ¬ hb b < hb a)
theorem sorted_low {l l' : List Ob} (h : Sorted l l') : Low l' := by
  obtain ⟨T, _, hu, rfl⟩ := h
  unfold Low mapF
  rw [List.pairwise_map]
  refine hu.imp (fun {a b} k g => ?_)
  rcases k with k | ⟨k, _⟩
  · exact HL.lt_irrefl _ (HL.lt_trans k g)
  · exact HL.lt_irrefl (hb a.1) (by rw [← k] at g; exact g)
theorem low_one : ∀ {a b : List Ob}, Low a → Low b → (∀ x, under a x = under b x) → a = b
  | [], b, _, _, h => by
    cases b with
    | nil => rfl
    | cons p b =>
      have := h (hb p)
      simp [under] at this
  | o :: a, [], _, _, h => by
    have := h (hb o)
    simp [under] at this
  | o :: a, p :: b, ha, hb2, h => by
    obtain ⟨a1, a2⟩ := List.pairwise_cons.1 ha
    obtain ⟨b1, b2⟩ := List.pairwise_cons.1 hb2
    have m1 : o ∈ p :: b := (under_mem.1 (by rw [← h (hb o)]; exact under_mem.2 ⟨List.mem_cons_self, rfl⟩)).1
    have m2 : p ∈ o :: a := (under_mem.1 (by rw [h (hb p)]; exact under_mem.2 ⟨List.mem_cons_self, rfl⟩)).1
    have n1 : ¬ hb o < hb p := by
      rcases List.mem_cons.1 m1 with rfl | m
      · exact HL.lt_irrefl _
      · exact b1 _ m
    have n2 : ¬ hb p < hb o := by
      rcases List.mem_cons.1 m2 with rfl | m
      · exact HL.lt_irrefl _
      · exact a1 _ m
    have e : hb o = hb p := by
      rcases HL.tri (hb o) (hb p) with g | g | g
      · exact absurd g n1
      · exact g
      · exact absurd g n2
    have eo : o = p := by
      have := h (hb o)
      unfold under at this
      rw [List.filter_cons_of_pos (by simp), List.filter_cons_of_pos (by simp [e])] at this
      exact (List.cons.inj this).1
    subst eo
    rw [low_one a2 b2 (fun x => ?_)]
    have := h x
    unfold under at this ⊢
    by_cases k : hb o = x
    · rw [List.filter_cons_of_pos (by simp [k]), List.filter_cons_of_pos (by simp [k])] at this
      exact (List.cons.inj this).2
    · rw [List.filter_cons_of_neg (by simp [k]), List.filter_cons_of_neg (by simp [k])] at this
      exact this
/-- Two rows that have the same under each handle are sorted into one. -/
theorem sorted_same {a b a' b' : List Ob} (ha : Sorted a a') (hb2 : Sorted b b') (h : ∀ x, under a x = under b x) : a' = b' :=
  low_one (sorted_low ha) (sorted_low hb2) (fun x => by rw [sorted_under ha, sorted_under hb2, h])
/-! ## What a change makes of what stands under a handle -/
/-- What one change makes of what stands under its own handle. -/
def putU (u : List Ob) (c : Ch) : List Ob :=
  match u with
  | [] => [c.o]
  | o :: u => if doneB c = true then doneO o c :: u else u
theorem under_app (a b : List Ob) (x : Bs) : under (a ++ b) x = under a x ++ under b x := List.filter_append ..
theorem under_none {l : List Ob} {x : Bs} (h : ∀ a ∈ l, hb a ≠ x) : under l x = [] := by
  unfold under
  rw [List.filter_eq_nil_iff]
  intro a ha
  simpa using h a ha
theorem under_one_f {o : Ob} {x : Bs} (h : hb o ≠ x) (l : List Ob) : under (o :: l) x = under l x := by
  unfold under
  rw [List.filter_cons_of_neg (by simpa using h)]
theorem under_one_t {o : Ob} {x : Bs} (h : hb o = x) (l : List Ob) : under (o :: l) x = o :: under l x := by
  unfold under
  rw [List.filter_cons_of_pos (by simpa using h)]
theorem split_at {l : List Ob} {x : Bs} {k : Nat} (h : FirstAt l x k) : l = l.take k ++ (l[k]'h.1) :: l.drop (k + 1) := by
  have := h.1
  rw [← List.drop_eq_getElem_cons this, List.take_append_drop]
theorem putP_split {l : List Ob} {c : Ch} {k : Nat} (h : FirstAt l (hc c) k) : putP l c = l.take k ++ (if doneB c = true then [doneO (l[k]'h.1) c] else []) ++ l.drop (k + 1) := by
  rw [putP_at h]
  unfold putAt
  have hk := h.1
  split
  · rw [List.set_eq_take_append_cons_drop, if_pos hk, List.append_assoc]; rfl
  · simp
/-- The change's own handle. -/
theorem putP_own {l : List Ob} {c : Ch} (ho : hb c.o = hc c) (hd : ∀ o, hb o = hc c → doneB c = true → hb (doneO o c) = hc c) : under (putP l c) (hc c) = putU (under l (hc c)) c := by
  rcases firstAt_or l (hc c) with ⟨k, h⟩ | h
  · rw [putP_split h]
    have e : under l (hc c) = under (l.take k ++ (l[k]'h.1) :: l.drop (k + 1)) (hc c) := by rw [← split_at h]
    rw [e, under_app, under_app, under_app, under_none h.2.1, List.nil_append, List.nil_append, under_one_t h.2.2]
    unfold putU
    split
    · rename_i g
      simp only [g, if_true]
      rw [under_one_t (hd _ h.2.2 g)]; rfl
    · rename_i g
      simp only [g]
      simp [under]
  · rw [putP_new h, under_app, under_none h, List.nil_append, under_one_t ho]; rfl
/-- Other handles. -/
theorem putP_far {l : List Ob} {c : Ch} {x : Bs} (hx : hc c ≠ x) (ho : hb c.o = hc c) (hd : ∀ o, hb o = hc c → doneB c = true → hb (doneO o c) = hc c) : under (putP l c) x = under l x := by
  rcases firstAt_or l (hc c) with ⟨k, h⟩ | h
  · rw [putP_split h]
    have e : under l x = under (l.take k ++ (l[k]'h.1) :: l.drop (k + 1)) x := by rw [← split_at h]
    rw [e, under_app, under_app, under_app, under_one_f (by rw [h.2.2]; exact hx)]
    split
    · rename_i g
      rw [under_one_f (by rw [hd _ h.2.2 g]; exact hx)]
      simp [under]
    · simp [under]
  · rw [putP_new h, under_app, under_one_f (by rw [ho]; exact hx)]
    simp [under]
end Go.Proofs.YtncahpbjbgcnbaaGreatDoor.DX
/-
  PLAIN: the order of changes tells nothing; a set in two parts is the set.
-/
namespace Go.Proofs.YtncahpbjbgcnbaaGreatDoor.DX
open Go.RowKit HL
open WX (hb findO findO_some findO_none findO_at obO)
open KX (Sorted)
set_option maxRecDepth 100000
set_option linter.unusedVariables false
set_option linter.unusedSimpArgs false

theorem done_hb (c : Ch) (o : Ob) (h : hb o = hc c) (hd : doneB c = true) : hb (doneO o c) = hc c := by
  have hk : c.kind = 1 ∨ c.kind = 2 ∨ c.kind = 3 := by simpa [doneB] using hd
  unfold doneO
  rcases hk with k | k | k
  · rw [if_pos k]
  · rw [if_neg (by omega), if_pos k]; exact h
  · rw [if_neg (by omega), if_neg (by omega), if_pos k]; exact h
theorem foldl_far {x : Bs} : ∀ (s : List Ch) (l : List Ob), (∀ c ∈ s, hc c ≠ x) → under (s.foldl putP l) x = under l x
  | [], l, _ => rfl
  | c :: s, l, h => by
    rw [List.foldl_cons, foldl_far s _ (fun d hd => h d (List.mem_cons_of_mem _ hd)), putP_far (h c List.mem_cons_self) rfl (done_hb c)]
theorem foldl_own {c : Ch} : ∀ (s : List Ch) (l : List Ob), (hsC s).Nodup → c ∈ s → under (s.foldl putP l) (hc c) = putU (under l (hc c)) c
  | d :: s, l, hn, h => by
    have hn2 : hc d ∉ hsC s ∧ (hsC s).Nodup := List.nodup_cons.1 hn
    rw [List.foldl_cons]
    by_cases e : hc d = hc c
    · have hs : c ∉ s := fun m => hn2.1 (by rw [e]; exact List.mem_map.2 ⟨c, m, rfl⟩)
      obtain rfl : c = d := by
        rcases List.mem_cons.1 h with g | g
        · exact g
        · exact absurd g hs
      rw [foldl_far s _ (fun y hy q => hn2.1 (by rw [← q]; exact List.mem_map.2 ⟨y, hy, rfl⟩)), putP_own rfl (done_hb c)]
    · have hs : c ∈ s := by
        rcases List.mem_cons.1 h with g | g
        · subst g; exact absurd rfl e
        · exact g
      rw [foldl_own s _ hn2.2 hs, putP_far e rfl (done_hb d)]
theorem foldl_perm {s s' : List Ch} (hp : s.Perm s') (hn : (hsC s).Nodup) {l l' : List Ob} (hl : ∀ x, under l x = under l' x) (x : Bs) : under (s.foldl putP l) x = under (s'.foldl putP l') x := by
  have hn' : (hsC s').Nodup := (hp.map hc).nodup_iff.1 hn
  by_cases h : ∃ c ∈ s, hc c = x
  · obtain ⟨c, hc1, rfl⟩ := h
    rw [foldl_own s l hn hc1, foldl_own s' l' hn' (hp.mem_iff.1 hc1), hl]
  · have h1 : ∀ c ∈ s, hc c ≠ x := fun c m e => h ⟨c, m, e⟩
    rw [foldl_far s l h1, foldl_far s' l' (fun c m => h1 c (hp.mem_iff.2 m)), hl]
theorem findO_under (l : List Ob) (x : Bs) : findO l x = (under l x).head? := by
  unfold findO under
  rw [List.head?_filter]
theorem fitI_same {l l' : List Ob} {c : Ch} (h : under l (hc c) = under l' (hc c)) : fitI l c = fitI l' c := by
  unfold fitI
  rw [findO_under, findO_under, h]
theorem mayC_perm {s s' : List Ch} (hp : s.Perm s') : mayC s = mayC s' := by
  rw [Bool.eq_iff_iff, mayC_iff, mayC_iff, hp.length_eq]
  have h1 : (∀ c ∈ s, oneB c = true) ↔ (∀ c ∈ s', oneB c = true) := ⟨fun h c m => h c (hp.mem_iff.2 m), fun h c m => h c (hp.mem_iff.1 m)⟩
  have h2 : (hsC s).Nodup ↔ (hsC s').Nodup := (hp.map hc).nodup_iff
  rw [h1, h2]
theorem mayC_take {s : List Ch} (h : mayC s = true) (k : Nat) : mayC (s.take k) = true := by
  obtain ⟨h1, h2, h3⟩ := mayC_iff.1 h
  refine mayC_iff.2 ⟨Nat.le_trans (List.length_take_le' _ _) h1, fun c m => h2 c (List.mem_of_mem_take m), ?_⟩
  exact h3.sublist ((List.take_sublist k s).map hc)
theorem mayC_drop {s : List Ch} (h : mayC s = true) (k : Nat) : mayC (s.drop k) = true := by
  obtain ⟨h1, h2, h3⟩ := mayC_iff.1 h
  refine mayC_iff.2 ⟨by rw [List.length_drop]; omega, fun c m => h2 c (List.mem_of_mem_drop m), ?_⟩
  exact h3.sublist ((List.drop_sublist k s).map hc)
theorem fitsF_zero_iff {l : List Ob} {s : List Ch} : fitsF l s = 0 ↔ ∀ c ∈ s, fitI l c = 0 := ⟨fitsF_zero, fitsF_none⟩
theorem fitI_lt (l : List Ob) (c : Ch) : fitI l c ≠ 100 := by
  unfold fitI fitB
  split
  · split <;> decide
  · split
    · decide
    · split
      · decide
      · split
        · decide
        · split <;> decide
theorem fitsF_100 (l : List Ob) (s : List Ch) : fitsF l s ≠ 100 := by
  unfold fitsF
  cases e : (s.map (fitI l)).find? (· != 0) with
  | none => decide
  | some x =>
    obtain ⟨c, _, rfl⟩ := List.mem_map.1 (List.mem_of_find?_eq_some e)
    exact fitI_lt l c
/-- Which of the three a set comes to: it may not be, it can't be done, it can. -/
theorem fitsE_perm {l : List Ob} {s s' : List Ch} (hp : s.Perm s') : (fitsE l s = 0 ↔ fitsE l s' = 0) ∧ (fitsE l s = 100 ↔ fitsE l s' = 100) := by
  have hm := mayC_perm hp
  cases e : mayC s with
  | false => rw [fitsE_f e, fitsE_f (hm ▸ e)]; simp
  | true =>
    rw [fitsE_t e, fitsE_t (hm ▸ e)]
    refine ⟨?_, iff_of_false (fitsF_100 _ _) (fitsF_100 _ _)⟩
    rw [fitsF_zero_iff, fitsF_zero_iff]
    exact ⟨fun h c m => h c (hp.mem_iff.2 m), fun h c m => h c (hp.mem_iff.1 m)⟩
/-- Both orders come to one list. -/
theorem order_one {l a b : List Ob} {s s' : List Ch} (hp : s.Perm s') (h : fitsE l s = 0) (ha : Sorted (s.foldl putP l) a) (hb2 : Sorted (s'.foldl putP l) b) : a = b :=
  sorted_same ha hb2 (foldl_perm hp (mayC_iff.1 (fitsE_0 h).1).2.2 (fun _ => rfl))
/-- The first part can be done. -/
theorem part_first {l : List Ob} {s : List Ch} (h : fitsE l s = 0) (k : Nat) : fitsE l (s.take k) = 0 := by
  obtain ⟨h1, h2⟩ := fitsE_0 h
  rw [fitsE_t (mayC_take h1 k)]
  exact fitsF_none (fun c m => fitsF_zero h2 c (List.mem_of_mem_take m))
theorem apart_parts {s : List Ch} (h : (hsC s).Nodup) (k : Nat) : ∀ c ∈ s.take k, ∀ d ∈ s.drop k, hc c ≠ hc d := by
  have e : hsC s = hsC (s.take k) ++ hsC (s.drop k) := by
    unfold hsC
    rw [← List.map_append, List.take_append_drop]
  rw [e] at h
  intro c hc1 d hd1 q
  have := (List.nodup_append.1 h).2.2
  exact this _ (List.mem_map.2 ⟨c, hc1, rfl⟩) _ (List.mem_map.2 ⟨d, hd1, rfl⟩) q
/-- The rest can be done to what came of the first. -/
theorem part_rest {l m : List Ob} {s : List Ch} (h : fitsE l s = 0) (k : Nat) (hm : Sorted ((s.take k).foldl putP l) m) : fitsE m (s.drop k) = 0 := by
  obtain ⟨h1, h2⟩ := fitsE_0 h
  rw [fitsE_t (mayC_drop h1 k)]
  refine fitsF_none (fun c hc1 => ?_)
  rw [← fitsF_zero h2 c (List.mem_of_mem_drop hc1)]
  refine fitI_same ?_
  rw [sorted_under hm, foldl_far]
  intro d hd
  exact apart_parts (mayC_iff.1 h1).2.2 k d hd c hc1
/-- Both parts make the whole. -/
theorem part_both {l m r a : List Ob} {s : List Ch} (h : fitsE l s = 0) (k : Nat) (hm : Sorted ((s.take k).foldl putP l) m) (hr : Sorted ((s.drop k).foldl putP m) r) (ha : Sorted (s.foldl putP l) a) : r = a := by
  refine sorted_same hr ha (fun x => ?_)
  have hn := (mayC_iff.1 (fitsE_0 h).1).2.2
  rw [foldl_perm (List.Perm.refl _) (hn.sublist ((List.drop_sublist k s).map hc)) (l' := (s.take k).foldl putP l) (fun x => sorted_under hm x) x]
  rw [← List.foldl_append, List.take_append_drop]
end Go.Proofs.YtncahpbjbgcnbaaGreatDoor.DX
/-
  WALK: the laws' rising, over objects.
-/
namespace Go.Proofs.YtncahpbjbgcnbaaGreatDoor.DX
open Go.RowKit HL
open IX (ptr El cellsK cellsK_at OwnK RdK strK)
open WX (obK obs_at hb pb rb tl_ne bs_eq)
open TX (Ext wp_region_ext ext_below ext_same)
set_option maxRecDepth 100000
set_option linter.unusedVariables false
set_option linter.unusedSimpArgs false

set_option maxHeartbeats 8000000 in
theorem rising10_any (A : Option Addr) (c : Nat) (l : List Ob) (w : World) (h : RdK obK w w.heap.size A l) (hn : l.length ≤ 1000000) (hs : ∀ o ∈ l, o.handle.size ≤ maxLen) :
    Calls Tryz.prog 17 #[.slice A l.length c] w fun e w' => (e = .returned (.bool false) ∨ e = .returned (.bool true)) ∧ Below w.heap.size w w' := by
  have H := Lib.hid h
  have HS := Lib.hid hs
  clear h hs
  go_enter Tryz.func17, Tryz.ntmps17
  go_wp2
  go_loopw [3] (fun i wr => ∃ k : Nat, i = .int .i64 k ∧ 1 ≤ k ∧ Below w.heap.size w wr) (fun i _ => l.length - (intOf i).toNat)
  case atStart => exact ⟨1, rfl, Nat.le_refl _, Below.refl _ _⟩
  case round =>
    obtain ⟨k, rfl, hk, k1⟩ := hrel
    have K1 := Lib.hid k1
    by_cases hlt : k < l.length
    · obtain ⟨B, off, rfl, hB, hcc⟩ := obs_at (H.out.below k1) (by omega)
      have ha := (hcc (k - 1) _ (List.getElem?_eq_getElem (by omega))).1
      have hb2 := (hcc k _ (List.getElem?_eq_getElem hlt)).1
      have i1 : (k : Int) < (l.length : Int) := by omega
      have i2 : (k : Int) - 1 < (l.length : Int) := by omega
      have i3 : 1 ≤ (k : Int) := by omega
      have hBq : B < wr.heap.size := Nat.lt_of_lt_of_le hB k1.size
      have p0 := fun y : Ext wr => (y.b.cell (p := ⟨B, off + (k - 1) * 14, none⟩) hBq).trans ha
      have q0 := fun y : Ext wr => (y.b.cell (p := ⟨B, off + k * 14, none⟩) hBq).trans hb2
      have CC := Lib.hid (fun W => (refCompare_any (l[k - 1]'(by omega)).handle l[k].handle W (HS.out _ (List.getElem_mem _)) (HS.out _ (List.getElem_mem _))).mono (fun e w' ⟨h1, h2⟩ => show e = _ ∧ Below W.heap.size W w' from ⟨h1, h2.below _⟩))
      clear hcc ha hb2
      generalize (l[k - 1]'(by omega)).handle = a at *
      generalize l[k].handle = b at *
      generalize Lib.compareBytes a.data.toList b.data.toList = r at *
      go_wp2
      refine wp_region_ext (by kernel_rfl) (by kernel_rfl) ?_
      repeat (go_big_quiet_step ((go_at_call 40; exact ext_below (CC.out _))))
      refine wpQuiet_nil ?_
      rintro _ ⟨y, rfl⟩
      have ky := Lib.hid (bThen K1.out y.b)
      by_cases hr : 0 ≤ r
      · go_wp2
        go_ret
        exact ⟨.inl rfl, ky.out⟩
      · go_wp2
        go_roundw
        case rel => exact ⟨k + 1, by go_num, by omega, ky.out⟩
        case measure => simp [intOf]; omega
    · have i1 : ¬ (k : Int) < (l.length : Int) := by omega
      go_wp2
      go_ret
      exact ⟨.inr rfl, K1.out⟩
end Go.Proofs.YtncahpbjbgcnbaaGreatDoor.DX
