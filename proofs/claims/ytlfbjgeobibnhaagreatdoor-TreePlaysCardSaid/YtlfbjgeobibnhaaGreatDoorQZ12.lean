/-
  WALKS: the document's Names, All, Kids.
-/
import Derived.Test.YtlfbjgeobibnhaaGreatDoorQZ9
import Derived.Test.YtlfbjgeobibnhaaGreatDoorQZ10
import Derived.Test.YtlfbjgeobibnhaaGreatDoorQZ11
namespace Go.Proofs.YtlfbjgeobibnhaaGreatDoor.TX
open Go.RowKit HL
open IX (ptr El cellsK cellsK_at OwnK IxAt Rw numOf mayS strK RdK keys)
set_option maxRecDepth 100000
set_option linter.unusedVariables false
set_option linter.unusedSimpArgs false
theorem own_str {w : World} {b : Nat} {v : Value} {l : List Bs} (h : OwnS w b v l) : OwnK strK w b v l := by
  have e : cellsK strK l = l.map str := by
    unfold cellsK
    rw [List.map_eq_flatMap]
    rfl
  unfold OwnK
  rw [e]
  exact h
theorem own_base {α : Type} {K : El α} {w : World} {b b' : Nat} {v : Value} {l : List α} (h : OwnK K w b v l) (hb : b' ≤ b) : OwnK K w b' v l := by
  refine ⟨?_, ?_⟩
  · exact h.1
  · rcases h.2 with q | ⟨g, cap, cur, e, hg, r⟩
    · exact .inl q
    · exact .inr ⟨g, cap, cur, e, Nat.le_trans hb hg, r⟩
theorem handles_none {s : Sl} {k : Nat} (h : s[k]? = some none) : handles (s.take (k + 1)) = handles (s.take k) := by
  have hlt := (List.getElem?_eq_some_iff.1 h).1
  rw [List.take_succ_eq_append_getElem hlt, (List.getElem?_eq_some_iff.1 h).2]
  simp [handles]
theorem handles_some {s : Sl} {k : Nat} {o : Ob} (h : s[k]? = some (some o)) : handles (s.take (k + 1)) = handles (s.take k) ++ [hb o] := by
  have hlt := (List.getElem?_eq_some_iff.1 h).1
  rw [List.take_succ_eq_append_getElem hlt, (List.getElem?_eq_some_iff.1 h).2]
  simp [handles]
theorem handles_le (s : Sl) : (handles s).length ≤ s.length := List.length_filterMap_le _ _
section
variable {w : World} {b0 X BT BL : Nat} {s : Sl}
set_option maxHeartbeats 2000000 in
theorem rNames_any (h : RT w b0 X BT BL s) : Calls Tryz.prog 32 #[ptr X] w fun e w' => ∃ v', e = .returned v' ∧ OwnK strK w' w.heap.size v' (names s) ∧ Below w.heap.size w w' := by
  have hln : s.length ≤ 64 := h.wf.ln
  have HT := Lib.hid (fun W (q : Below w.heap.size w W) => h.then q)
  have CS := Lib.hid (fun (W : World) A c (hr : RdK strK W W.heap.size A (handles s)) => refSort_any A c (handles s) W hr.strs (Nat.le_trans (handles_le s) (by omega)) (fun x hx => by
    obtain ⟨k, o, h1, h2⟩ := mem_handles.1 hx
    have := IX.mayS_len (h.wf.may _ _ h1)
    rw [h2] at this
    omega))
  clear h
  go_enter Tryz.func32, Tryz.ntmps32
  go_wp2
  go_loopw [3, 4] (fun out i wr => ∃ k : Nat, i = .int .i64 k ∧ k ≤ s.length ∧ OwnK strK wr w.heap.size out (handles (s.take k)) ∧ Below w.heap.size w wr) (fun _ i _ => s.length - (intOf i).toNat)
  case atStart => exact ⟨0, rfl, Nat.zero_le _, by simpa [handles] using OwnK.nil_ strK w w.heap.size, Below.refl _ _⟩
  case round =>
    obtain ⟨k, rfl, hk, o1, k1⟩ := hrel
    have OL := Lib.hid o1
    have K1 := Lib.hid k1
    have T1 := Lib.hid (HT.out _ k1)
    have x0 := T1.out.c0
    have x1 := T1.out.c1
    have hlen : (handles (s.take k)).length ≤ 64 := Nat.le_trans (handles_le _) (by simp; omega)
    by_cases hlt : k < s.length
    · have i1 : (k : Int) < s.length := by omega
      obtain ⟨y, hy⟩ : ∃ y, s[k]? = some y := ⟨_, List.getElem?_eq_getElem hlt⟩
      have ct := T1.out.tk hy
      cases y with
      | none =>
        have HN := Lib.hid (handles_none hy)
        simp only [Option.isSome_none] at ct
        clear hy o1 k1
        go_wp2
        go_roundw
        case rel => exact ⟨k + 1, by go_num, by omega, by rw [HN.out]; exact OL.out, K1.out⟩
        case measure => simp [intOf]; omega
      | some o =>
        have HN := Lib.hid (handles_some hy)
        obtain ⟨p0, _⟩ := T1.out.ob hy (o := o) rfl
        simp only [Option.isSome_some] at ct
        have RQ : Hid (RdK strK (wr.alloc (.cells #[.string o.handle] 9)) (wr.heap.size + 1) (some ⟨wr.heap.size, 0, none⟩) [hb o]) := Lib.hid (RdK.lit (K := strK) wr (hb o) #[.string o.handle] rfl 9)
        have O1 := Lib.hid (o1.below (bAl (Below.refl _ wr) (.cells #[.string o.handle] 9)))
        clear hy o1 k1
        have hz := K1.out.size
        go_wp2_with (at_builtin; refine IX.wpList_spreadK strK rfl (.tmp 21) (.tmp 30) rfl w.heap.size _ (handles (s.take k)) rfl O1.out (wr.heap.size + 1) (some ⟨wr.heap.size, 0, none⟩) 1 1 [hb o] rfl rfl RQ.out ?c1 ?c2 ?_)
        case c1 => show (handles (s.take k)).length + 1 ≤ 1000000; omega
        case c2 => show w.heap.size ≤ (wr.alloc _).heap.size; simp; omega
        intro v' w5 o5 g5 f5
        have b5 : Below w.heap.size w w5 := (bAl K1.out (.cells #[.string o.handle] 9)).grown g5 (by simp; omega) (fun k hk => (OL.out.lt k hk).1)
        go_wp2
        go_roundw
        case rel => exact ⟨k + 1, by go_num, by omega, by rw [HN.out]; exact o5, b5⟩
        case measure => simp [intOf]; omega
    · obtain rfl : k = s.length := by omega
      have i1 : ¬ (s.length : Int) < s.length := by omega
      have HR : Hid (handles (s.take s.length) = handles s) := Lib.hid (by rw [List.take_length])
      obtain ⟨A, c, rfl, _, _, _⟩ := OwnK.form o1
      have RD : Hid (RdK strK wr wr.heap.size A (handles s)) := Lib.hid (by
        obtain ⟨A', c', e, r, _⟩ := OwnK.form OL.out
        cases e
        rw [HR.out] at r; exact r)
      have HLL : Hid ((handles (s.take s.length)).length = (handles s).length) := Lib.hid (by rw [HR.out])
      clear o1 k1
      rw [HLL.out]
      go_wp2_with (go_at_call 57; ((with_reducible refine (CS.out wr A c RD.out).mono ?_); rintro e w5 ⟨v5, rfl, o5, k5⟩))
      go_ret
      exact ⟨_, rfl, own_base (own_str o5) K1.out.size, bThen K1.out k5⟩
end
end Go.Proofs.YtlfbjgeobibnhaaGreatDoor.TX
/-
  WALKS: the document's All, Kids.
-/
namespace Go.Proofs.YtlfbjgeobibnhaaGreatDoor.TX
open Go.RowKit HL
open IX (ptr El cellsK cellsK_at OwnK IxAt Rw numOf mayS strK RdK keys)
set_option maxRecDepth 100000
set_option linter.unusedVariables false
set_option linter.unusedSimpArgs false
def obsN (s : Sl) : List Ob := (names s).map (obAt s)
theorem obsN_eq (s : Sl) : obsR s (rowsOf s none) = obsN s := by
  show (rowsN s).map _ = _
  unfold rowsN obsN
  rw [List.map_map]
  rfl
theorem obsN_len (s : Sl) : (obsN s).length = (names s).length := by simp [obsN]
theorem str_at {w : World} {A : Option Addr} {l : List Bs} {k : Nat} (h : RdK strK w w.heap.size A l) (hk : k < l.length) : ∃ b off, A = some ⟨b, off, none⟩ ∧ ∀ W, Below w.heap.size w W → W.cell? ⟨b, off + k, none⟩ = some (.string ⟨l[k].toArray⟩) := by
  obtain ⟨b, off, e, hb, _⟩ := h.strs.at_ (by omega)
  refine ⟨b, off, e, fun W q => ?_⟩
  obtain ⟨b', off', e', _, hc⟩ := (h.below q).strs.at_ (by omega)
  rw [e] at e'; cases e'
  exact hc k _ (List.getElem?_eq_getElem hk)
theorem own_form {α : Type} {K : El α} {w : World} {b : Nat} {v : Value} {l : List α} (h : OwnK K w b v l) {m : Nat} (hm : l.length = m) : ∃ A c, v = .slice A m c ∧ OwnK K w b (.slice A m c) l ∧ RdK K w w.heap.size A l ∧ m ≤ c := by
  obtain ⟨A, c, e, r, hc, _⟩ := OwnK.form h
  subst hm
  subst e
  exact ⟨A, c, rfl, h, r, hc⟩
/-- The box of an object and the row of it alone, made behind it. -/
theorem lit_two (w : World) (a : Ob) : RdK obK ((w.alloc (.cells (obCells a) 33)).alloc (.cells (obCells a) 33)) (w.heap.size + 1 + 1) (some ⟨w.heap.size + 1, 0, none⟩) [a] := by
  have := RdK.lit (K := obK) (w.alloc (.cells (obCells a) 33)) a (obCells a) rfl 33
  simpa using this
section
variable {w : World} {b0 X BT BL : Nat} {s : Sl}
set_option maxHeartbeats 4000000 in
theorem rAll_any (h : RT w b0 X BT BL s) : Calls Tryz.prog 12 #[ptr X] w fun e w' => ∃ v', e = .returned v' ∧ OwnK obK w' w.heap.size v' (obsN s) ∧ Below w.heap.size w w' := by
  obtain ⟨m, hm⟩ : ∃ m, (names s).length = m := ⟨_, rfl⟩
  have hm64 : m ≤ 64 := hm ▸ Nat.le_trans (names_len s) h.wf.ln
  have HT := Lib.hid (fun W (q : Below w.heap.size w W) => h.then q)
  have CN := Lib.hid (rNames_any h)
  have HM := Lib.hid hm
  clear h hm
  go_enter Tryz.func12, Tryz.ntmps12
  go_wp2_with (go_at_call 32; ((with_reducible refine CN.out.mono ?_); rintro e w1 ⟨v1, rfl, o1, k1⟩; obtain ⟨A1, c1, rfl, _, r1, _⟩ := own_form o1 HM.out; have R1 := Lib.hid r1; have K1 := Lib.hid k1; clear o1 k1 r1))
  go_loopw [3, 5] (fun out i wr => ∃ k : Nat, i = .int .i64 k ∧ k ≤ m ∧ OwnK obK wr w1.heap.size out ((obsN s).take k) ∧ Below w1.heap.size w1 wr) (fun _ i _ => m - (intOf i).toNat)
  case atStart => exact ⟨0, rfl, Nat.zero_le _, by simpa using OwnK.nil_ obK w1 w1.heap.size, Below.refl _ _⟩
  case round =>
    obtain ⟨k, rfl, hk, o2, k2⟩ := hrel
    have OL := Lib.hid o2
    have KW := Lib.hid k2
    have hlen : ((obsN s).take k).length ≤ 64 := by simp; omega
    clear o2 k2
    by_cases hlt : k < m
    · have i1 : (k : Int) < m := by omega
      have hkn : k < (names s).length := by rw [HM.out]; exact hlt
      obtain ⟨b, off, rfl, hc⟩ := str_at R1.out hkn
      have cx := hc _ KW.out
      have CA := Lib.hid (rAt_any (HT.out _ (bThen K1.out KW.out)) ⟨(names s)[k].toArray⟩)
      have HN : Hid ((obsN s).take (k + 1) = (obsN s).take k ++ [obAt s (names s)[k]]) := Lib.hid (by
        rw [List.take_succ_eq_append_getElem (by rw [obsN_len]; exact hkn)]
        simp [obsN])
      obtain ⟨a, ha⟩ : ∃ a, obAt s (names s)[k] = a := ⟨_, rfl⟩
      have ha2 : obAt s (⟨(names s)[k].toArray⟩ : ByteArray).data.toList = a := ha
      rw [ha2] at CA
      rw [ha] at HN
      clear hc ha ha2
      generalize (⟨(names s)[k].toArray⟩ : ByteArray) = u at *
      generalize there s u.data.toList = tu at *
      clear hkn
      go_wp2_with (first
        | (go_at_call 28; ((with_reducible refine CA.out.mono ?_); rintro e w3 ⟨rfl, k3⟩; have m6 := (AtC.new w3 (obCells a) 33).c; have hz : w1.heap.size ≤ w3.heap.size := Nat.le_trans KW.out.size k3.size; have O3 := Lib.hid ((OL.out.below k3).below (bAl (bAl (Below.refl _ w3) (.cells (obCells a) 33)) (.cells (obCells a) 33)))))
        | (at_builtin; refine IX.wpList_spreadK obK rfl (.tmp 25) (.tmp 27) rfl w1.heap.size _ ((obsN s).take k) rfl O3.out (w3.heap.size + 1 + 1) (some ⟨w3.heap.size + 1, 0, none⟩) 1 1 [a] rfl rfl (lit_two w3 a) ?c1 ?c2 ?_))
      case c1 => show ((obsN s).take k).length + 1 ≤ 1000000; omega
      case c2 => simp; omega
      intro v' w5 o5 g5 f5
      have b5 : Below w1.heap.size w1 w5 := (bAl (bAl (bThen KW.out k3) (.cells (obCells a) 33)) (.cells (obCells a) 33)).grown g5 (by have := KW.out.size; have := k3.size; simp; omega) (fun j hj => (OL.out.lt j hj).1)
      go_wp2
      go_roundw
      case rel => exact ⟨k + 1, by go_num, by omega, by rw [HN.out]; exact o5, b5⟩
      case measure => simp [intOf]; omega
    · obtain rfl : k = m := by omega
      have i1 : ¬ (k : Int) < k := by omega
      have HR : Hid ((obsN s).take k = obsN s) := Lib.hid (by rw [← HM.out, ← obsN_len, List.take_length])
      go_wp2
      go_ret
      exact ⟨_, rfl, by rw [← HR.out]; exact own_base OL.out K1.out.size, bThen K1.out KW.out⟩
theorem names_hb (wf : Wf s) {h : Bs} (hm : h ∈ names s) : hb (obAt s h) = h := by
  obtain ⟨o, h1, h2, h3, _⟩ := there_t (mem_names.1 hm)
  rw [h3, h2]
theorem kids_eq (wf : Wf s) (p : Bs) : hs ((obsN s).filter fun o => decide (pb o = p)) = keys (rowsOf s (some p)) := by
  show hs _ = keys ((rowsN s).filter (under s p))
  unfold rowsN obsN hs keys
  rw [List.filter_map, List.filter_map, List.map_map, List.map_map]
  refine List.map_congr_left fun h hm => ?_
  exact names_hb wf (List.mem_filter.1 hm).1
def kidsK (s : Sl) (p : Bs) (k : Nat) : List Bs := hs (((obsN s).take k).filter fun o => decide (pb o = p))
theorem kidsK_0 (p : Bs) : kidsK s p 0 = [] := by simp [kidsK, hs]
theorem kidsK_len (p : Bs) (k : Nat) : (kidsK s p k).length ≤ k := by
  have h1 : (((obsN s).take k).filter fun o => decide (pb o = p)).length ≤ ((obsN s).take k).length := List.length_filter_le _ _
  have h2 : ((obsN s).take k).length ≤ k := by simp; omega
  simp only [kidsK, hs, List.length_map]
  omega
theorem kidsK_t {p : Bs} {k : Nat} (hk : k < (obsN s).length) (e : pb (obsN s)[k] = p) : kidsK s p (k + 1) = kidsK s p k ++ [hb (obsN s)[k]] := by
  unfold kidsK
  rw [List.take_succ_eq_append_getElem hk, List.filter_append, List.filter_cons_of_pos (by rw [e]; exact decide_eq_true rfl)]
  simp [hs]
theorem kidsK_f {p : Bs} {k : Nat} (hk : k < (obsN s).length) (e : ¬ pb (obsN s)[k] = p) : kidsK s p (k + 1) = kidsK s p k := by
  unfold kidsK
  rw [List.take_succ_eq_append_getElem hk, List.filter_append, List.filter_cons_of_neg (by rw [decide_eq_false e]; simp)]
  simp
theorem kidsK_all (wf : Wf s) (p : Bs) {m : Nat} (hm : (obsN s).length = m) : kidsK s p m = keys (rowsOf s (some p)) := by
  unfold kidsK
  rw [← hm, List.take_length]
  exact kids_eq wf p
set_option maxHeartbeats 4000000 in
theorem rKids_any (h : RT w b0 X BT BL s) (x : ByteArray) : Calls Tryz.prog 35 #[ptr X, .string x] w fun e w' => ∃ v', e = .returned v' ∧ OwnK strK w' w.heap.size v' (keys (rowsOf s (some x.data.toList))) ∧ Below w.heap.size w w' := by
  obtain ⟨m, hm⟩ : ∃ m, (obsN s).length = m := ⟨_, rfl⟩
  have hm64 : m ≤ 64 := hm ▸ (obsN_len s ▸ Nat.le_trans (names_len s) h.wf.ln)
  have CN := Lib.hid (rAll_any h)
  have HM := Lib.hid hm
  have HK := Lib.hid (kidsK_all h.wf x.data.toList hm)
  clear h hm
  go_enter Tryz.func35, Tryz.ntmps35
  go_wp2_with (go_at_call 12; ((with_reducible refine CN.out.mono ?_); rintro e w1 ⟨v1, rfl, o1, k1⟩; obtain ⟨A1, c1, rfl, _, r1, _⟩ := own_form o1 HM.out; have R1 := Lib.hid r1; have K1 := Lib.hid k1; clear o1 k1 r1))
  go_loopw [5, 7] (fun out i wr => ∃ k : Nat, i = .int .i64 k ∧ k ≤ m ∧ OwnK strK wr w1.heap.size out (kidsK s x.data.toList k) ∧ Below w1.heap.size w1 wr) (fun _ i _ => m - (intOf i).toNat)
  case atStart => exact ⟨0, rfl, Nat.zero_le _, by rw [kidsK_0]; exact OwnK.nil_ strK w1 w1.heap.size, Below.refl _ _⟩
  case round =>
    obtain ⟨k, rfl, hk, o2, k2⟩ := hrel
    have OL := Lib.hid o2
    have KW := Lib.hid k2
    have hlen : (kidsK s x.data.toList k).length ≤ 64 := Nat.le_trans (kidsK_len _ _) (by omega)
    clear o2 k2
    by_cases hlt : k < m
    · have i1 : (k : Int) < m := by omega
      have hkn : k < (obsN s).length := by rw [HM.out]; exact hlt
      obtain ⟨b, off, rfl, hbk, hc⟩ := obs_at (R1.out.below KW.out) (by omega)
      obtain ⟨c0, _, c2, _⟩ := hc k _ (List.getElem?_eq_getElem hkn)
      have HT1 : Hid (pb (obsN s)[k] = x.data.toList → kidsK s x.data.toList (k + 1) = kidsK s x.data.toList k ++ [TX.hb (obsN s)[k]]) := Lib.hid (kidsK_t hkn)
      have HT2 : Hid (¬ pb (obsN s)[k] = x.data.toList → kidsK s x.data.toList (k + 1) = kidsK s x.data.toList k) := Lib.hid (kidsK_f hkn)
      clear hc
      generalize (obsN s)[k] = o at *
      clear hkn
      by_cases he : o.parent = x
      · have hbe : (o.parent.toList == x.toList) = true := by rw [he]; simp
        have HN := Lib.hid (HT1.out (by rw [← he]))
        have RQ : Hid (RdK strK (wr.alloc (.cells #[.string o.handle] 9)) (wr.heap.size + 1) (some ⟨wr.heap.size, 0, none⟩) [hb o]) := Lib.hid (RdK.lit (K := strK) wr (hb o) #[.string o.handle] rfl 9)
        have O1 := Lib.hid (OL.out.below (bAl (Below.refl _ wr) (.cells #[.string o.handle] 9)))
        clear he HT1 HT2
        have hz := KW.out.size
        go_wp2_with (at_builtin; refine IX.wpList_spreadK strK rfl (.tmp 23) (.tmp 29) rfl w1.heap.size _ (kidsK s x.data.toList k) rfl O1.out (wr.heap.size + 1) (some ⟨wr.heap.size, 0, none⟩) 1 1 [hb o] rfl rfl RQ.out ?c1 ?c2 ?_)
        case c1 => show (kidsK s x.data.toList k).length + 1 ≤ 1000000; omega
        case c2 => show w1.heap.size ≤ (wr.alloc _).heap.size; simp; omega
        intro v' w5 o5 g5 f5
        have b5 : Below w1.heap.size w1 w5 := (bAl KW.out (.cells #[.string o.handle] 9)).grown g5 (by simp; omega) (fun j hj => (OL.out.lt j hj).1)
        go_wp2
        go_roundw
        case rel => exact ⟨k + 1, by go_num, by omega, by rw [HN.out]; exact o5, b5⟩
        case measure => simp [intOf]; omega
      · have hbe : (o.parent.toList == x.toList) = false := tlq_ne he
        have HN := Lib.hid (HT2.out fun z => he (by
          have : o.parent.data = x.data := Array.toList_inj.1 z
          cases h1 : o.parent; cases h2 : x; rw [h1, h2] at this; simp at this; rw [this]))
        clear he HT1 HT2
        go_wp2
        go_roundw
        case rel => exact ⟨k + 1, by go_num, by omega, by rw [HN.out]; exact OL.out, KW.out⟩
        case measure => simp [intOf]; omega
    · obtain rfl : k = m := by omega
      have i1 : ¬ (k : Int) < k := by omega
      have HR : Hid (kidsK s x.data.toList k = keys (rowsOf s (some x.data.toList))) := Lib.hid HK.out
      go_wp2
      go_ret
      exact ⟨_, rfl, by rw [← HR.out]; exact own_base OL.out K1.out.size, bThen K1.out KW.out⟩
end
end Go.Proofs.YtlfbjgeobibnhaaGreatDoor.TX
/-
  WALK: the document's below (it calls itself).
-/
namespace Go.Proofs.YtlfbjgeobibnhaaGreatDoor.TX
open Go.RowKit HL
open IX (ptr El cellsK cellsK_at OwnK IxAt Rw numOf mayS strK RdK keys)
set_option maxRecDepth 100000
set_option linter.unusedVariables false
set_option linter.unusedSimpArgs false
theorem below_len64 {s : Sl} (wf : Wf s) (n : Nat) {h : Bs} {P : List Bs} (hp : Path s h P) : (below s n h).length ≤ 64 := by
  have := acc_len (below_nodup wf n h P hp) (fun x hx => by
    obtain ⟨a, ha, rfl⟩ := List.mem_map.1 hx
    obtain ⟨_, q, hq⟩ := below_path wf n h P hp a ha
    exact hq.there) wf.ln
  simpa [hs] using this
def belowK (s : Sl) (n : Nat) (h : Bs) (k : Nat) : List Ob := obAt s h :: ((rowsOf s (some h)).take k).flatMap fun r => below s n r.1
theorem belowK_0 (s : Sl) (n : Nat) (h : Bs) : belowK s n h 0 = [obAt s h] := by simp [belowK]
theorem belowK_next {s : Sl} {n : Nat} {h : Bs} {k : Nat} (hk : k < (rowsOf s (some h)).length) : belowK s n h (k + 1) = belowK s n h k ++ below s n (rowsOf s (some h))[k].1 := by
  unfold belowK
  rw [List.take_succ_eq_append_getElem hk, List.flatMap_append]
  simp
theorem belowK_all {s : Sl} {n : Nat} {h : Bs} {m : Nat} (hm : (rowsOf s (some h)).length = m) : belowK s n h m = below s (n + 1) h := by
  unfold belowK
  rw [← hm, List.take_length]
  rfl
theorem belowK_len {s : Sl} (wf : Wf s) {n : Nat} {h : Bs} {P : List Bs} (hp : Path s h P) : ∀ k, k ≤ (rowsOf s (some h)).length → (belowK s n h k).length ≤ 1 + k * 64
  | 0, _ => by rw [belowK_0]; simp
  | k + 1, hk => by
    rw [belowK_next (by omega), List.length_append]
    have h1 := belowK_len wf hp (n := n) k (by omega)
    have h2 := below_len64 wf n (hp.kid wf (List.getElem_mem (l := rowsOf s (some h)) (n := k) (by omega)))
    omega
theorem own_lit (w : World) (base : Nat) (hb : base ≤ w.heap.size) (a : Ob) : OwnK obK ((w.alloc (.cells (obCells a) 33)).alloc (.cells (obCells a) 33)) base (.slice (some ⟨w.heap.size + 1, 0, none⟩) 1 1) [a] := by
  have := World.ownsRow_lit (e := obK.e) (size := obK.size) (base := base) (w.alloc (.cells (obCells a) 33)) (obCells a) 1 (by simp; omega) (by unfold maxLen; decide) (by rfl)
  unfold OwnK
  have e : cellsK obK [a] = (obCells a).toList := by simp only [cellsK, List.flatMap_cons, List.flatMap_nil, List.append_nil]; rfl
  rw [e]
  have q : (w.alloc (.cells (obCells a) 33)).heap.size = w.heap.size + 1 := by simp
  rw [q] at this
  exact this
section
variable {b0 X BT BL : Nat} {s : Sl}
set_option maxHeartbeats 8000000 in
theorem rBelow_any : ∀ (n : Nat) (u : ByteArray) (P : List Bs) (w : World), RT w b0 X BT BL s → Path s u.data.toList P → 65 ≤ P.length + n → Calls Tryz.prog 41 #[ptr X, .string u] w fun e w' => ∃ v', e = .returned v' ∧ OwnK obK w' w.heap.size v' (below s n u.data.toList) ∧ Below w.heap.size w w'
  | 0, u, P, w, h, hp, hn => by have := hp.len h.wf.ln; omega
  | n + 1, u, P, w, h, hp, hn => by
    have IH := Lib.hid (fun (u' : ByteArray) (P' : List Bs) (w' : World) (h' : RT w' b0 X BT BL s) (hp' : Path s u'.data.toList P') (hn' : 65 ≤ P'.length + n) => rBelow_any n u' P' w' h' hp' hn')
    have HT := Lib.hid (fun W (q : Below w.heap.size w W) => h.then q)
    have WFS := Lib.hid h.wf
    have HP := Lib.hid hp
    have HN := Lib.hid hn
    obtain ⟨m, hm⟩ : ∃ m, (rowsOf s (some u.data.toList)).length = m := ⟨_, rfl⟩
    have hm64 : m ≤ 64 := hm ▸ Nat.le_trans (rowsOf_len s _) h.wf.ln
    have HM := Lib.hid hm
    have HKM : Hid ((keys (rowsOf s (some u.data.toList))).length = m) := Lib.hid (by simpa [keys] using hm)
    obtain ⟨a, ha⟩ : ∃ a, obAt s u.data.toList = a := ⟨_, rfl⟩
    obtain ⟨ta, hta⟩ : ∃ t, there s u.data.toList = t := ⟨_, rfl⟩
    have CA := Lib.hid (rAt_any h u)
    rw [ha, hta] at CA
    have HA := Lib.hid ha
    have hb0 : Below w.heap.size w w := Below.refl _ _
    clear h hp hn hm ha hta
    go_enter Tryz.func41, Tryz.ntmps41
    go_wp2_with (first
      | (go_at_call 28; ((with_reducible refine CA.out.mono ?_); rintro e w1 ⟨rfl, k1⟩; have m1 := (AtC.new w1 (obCells a) 33).c; have K3 := Lib.hid (bAl (bAl (bThen hb0 k1) (.cells (obCells a) 33)) (.cells (obCells a) 33)); have O3 := Lib.hid (own_lit w1 w.heap.size k1.size a)))
      | (go_at_call 35; ((with_reducible refine (rKids_any (HT.out _ K3.out) u).mono ?_); rintro e w4 ⟨v4, rfl, o4, k4⟩; obtain ⟨A4, c4, rfl, o4', r4, _⟩ := own_form o4 HKM.out; have R4 := Lib.hid r4; have OK4 := Lib.hid o4'; have K4 := Lib.hid (bThen K3.out k4); have O4 := Lib.hid (O3.out.below k4); clear m1 o4 o4' r4)))
    have HAP : Hid (∀ (j : Nat) (ad : Addr), (Value.slice (some ⟨w1.heap.size + 1, 0, none⟩) 1 1).ownBlock = some j → A4 = some ad → ad.block ≠ j) := Lib.hid (fun j ad e1 e2 => by
      subst e2
      have := (OK4.out.lt ad.block rfl).1
      simp at this
      have e1 : some (w1.heap.size + 1) = some j := e1
      have e1 := Option.some.inj e1
      omega)
    clear OK4 CA k1
    go_loopw [7, 9] (fun out i wr => ∃ k : Nat, i = .int .i64 k ∧ k ≤ m ∧ OwnK obK wr w.heap.size out (belowK s n u.data.toList k) ∧ Below w.heap.size w wr ∧ RdK strK wr wr.heap.size A4 (keys (rowsOf s (some u.data.toList))) ∧ ∀ (j : Nat) (ad : Addr), out.ownBlock = some j → A4 = some ad → ad.block ≠ j) (fun _ i _ => m - (intOf i).toNat)
    case atStart => exact ⟨0, rfl, Nat.zero_le _, by rw [belowK_0, HA.out]; exact O4.out, K4.out, R4.out, HAP.out⟩
    case round =>
      obtain ⟨k, rfl, hk, o2, k2, r2, ap2⟩ := hrel
      have OL := Lib.hid o2
      have KW := Lib.hid k2
      have RD := Lib.hid r2
      have AP := Lib.hid ap2
      have hlen : (belowK s n u.data.toList k).length ≤ 100000 := by
        have := belowK_len WFS.out (n := n) HP.out k (by rw [HM.out]; exact hk)
        omega
      clear o2 k2 r2 ap2 HAP O4 R4
      by_cases hlt : k < m
      · have i1 : (k : Int) < m := by omega
        have hkr : k < (rowsOf s (some u.data.toList)).length := by rw [HM.out]; exact hlt
        have hkk : k < (keys (rowsOf s (some u.data.toList))).length := by rw [HKM.out]; exact hlt
        obtain ⟨b, off, rfl, hc⟩ := str_at RD.out hkk
        have cx := hc _ (Below.refl _ _)
        have hxe : (keys (rowsOf s (some u.data.toList)))[k] = (rowsOf s (some u.data.toList))[k].1 := by simp [keys]
        have NX := Lib.hid (belowK_next (n := n) hkr)
        have PK := HP.out.kid WFS.out (List.getElem_mem hkr)
        obtain ⟨x, hx⟩ : ∃ x : ByteArray, x.data.toList = (rowsOf s (some u.data.toList))[k].1 := ⟨⟨(rowsOf s (some u.data.toList))[k].1.toArray⟩, rfl⟩
        rw [hxe, ← hx] at cx
        have cx : wr.cell? ⟨b, off + k, none⟩ = some (.string x) := cx
        rw [← hx] at PK NX
        have hbl := below_len64 WFS.out n PK
        have CB := Lib.hid (IH.out x _ wr (HT.out _ KW.out) PK (by have := HN.out; simp only [List.length_cons]; omega))
        obtain ⟨mb, hmb⟩ : ∃ mb, (below s n x.data.toList).length = mb := ⟨_, rfl⟩
        rw [hmb] at hbl
        have HMB := Lib.hid hmb
        clear hc hxe hkr hkk PK hx hmb
        go_wp2_with (first
          | (go_at_call 41; ((with_reducible refine CB.out.mono ?_); rintro e w6 ⟨v6, rfl, o6, k6⟩; obtain ⟨A6, c6, rfl, _, r6, _⟩ := own_form o6 HMB.out; have R6 := Lib.hid r6; have O7 := Lib.hid (OL.out.below k6); clear o6 r6))
          | (at_builtin; refine IX.wpList_spreadK obK rfl (.tmp 27) (.tmp 33) rfl w.heap.size _ (belowK s n u.data.toList k) rfl O7.out w6.heap.size A6 mb c6 (below s n x.data.toList) rfl HMB.out R6.out ?c1 ?c2 ?_))
        case c1 => rw [HMB.out]; omega
        case c2 => have := KW.out.size; have := k6.size; omega
        intro v' w7 o7 g7 f7
        have b7 : Below w.heap.size w w7 := (bThen KW.out k6).grown g7 (by have := KW.out.size; have := k6.size; omega) (fun j hj => (OL.out.lt j hj).1)
        have KK : IX.Kept w6 w7 (fun j => (Value.ownBlock _) ≠ some j) := (IX.Kept.refl w6 _).grown g7 (fun j e _ q => q e)
        have RN := (RD.out.below k6).more k6.size
        have R7 := (RN.kept KK (Nat.le_refl _) (fun ad e q => AP.out _ _ q e rfl)).more KK.size
        go_wp2
        go_roundw
        case rel =>
          refine ⟨k + 1, by go_num, by omega, by rw [NX.out]; exact o7, b7, R7, fun j ad e1 e2 => ?_⟩
          rcases f7 with q | q
          · exact AP.out j ad (q ▸ e1) e2
          · rw [q] at e1
            cases e1
            cases e2
            rcases RN with z | ⟨b', off', z, hb', _⟩
            · rw [z] at HKM; have := HKM.out; simp at this; omega
            · cases z; show b ≠ _; omega
        case measure => simp [intOf]; omega
      · obtain rfl : k = m := by omega
        have i1 : ¬ (k : Int) < k := by omega
        have HR : Hid (belowK s n u.data.toList k = below s (n + 1) u.data.toList) := Lib.hid (belowK_all HM.out)
        go_wp2
        go_ret
        exact ⟨_, rfl, by rw [← HR.out]; exact OL.out, KW.out⟩
end
end Go.Proofs.YtlfbjgeobibnhaaGreatDoor.TX
/-
  WALKS: the document's Walk, Above.
-/
namespace Go.Proofs.YtlfbjgeobibnhaaGreatDoor.TX
open Go.RowKit HL
open IX (ptr El cellsK cellsK_at OwnK IxAt Rw numOf mayS strK RdK keys)
set_option maxRecDepth 100000
set_option linter.unusedVariables false
set_option linter.unusedSimpArgs false
def topO (s : Sl) (o : Ob) : List Ob := if there s (pb o) = true then [] else below s 65 (hb o)
def walkK (s : Sl) (k : Nat) : List Ob := ((obsN s).take k).flatMap (topO s)
theorem walkK_0 (s : Sl) : walkK s 0 = [] := by simp [walkK]
theorem walkK_next {s : Sl} {k : Nat} (hk : k < (obsN s).length) : walkK s (k + 1) = walkK s k ++ topO s (obsN s)[k] := by
  unfold walkK
  rw [List.take_succ_eq_append_getElem hk, List.flatMap_append]
  simp
theorem walkK_all {s : Sl} (wf : Wf s) {m : Nat} (hm : (obsN s).length = m) : walkK s m = walkL s := by
  unfold walkK walkL
  rw [← hm, List.take_length]
  show ((names s).map (obAt s)).flatMap (topO s) = (rowsN s).flatMap (topR s)
  unfold rowsN
  rw [List.flatMap_map, List.flatMap_map]
  have key : ∀ l : List Bs, (∀ h ∈ l, h ∈ names s) → l.flatMap (fun a => topO s (obAt s a)) = l.flatMap (fun a => topR s (a, (slotN s a : Int))) := fun l => by
    induction l with
    | nil => intro _; rfl
    | cons h l ih =>
      intro hl
      rw [List.flatMap_cons, List.flatMap_cons, ih fun x hx => hl x (by simp [hx])]
      congr 1
      unfold topO topR
      rw [names_hb wf (hl h (by simp))]
  exact key _ fun h hh => hh
theorem topO_len {s : Sl} (wf : Wf s) {k : Nat} (hk : k < (obsN s).length) : (topO s (obsN s)[k]).length ≤ 64 ∧ (there s (pb (obsN s)[k]) = false → Path s (hb (obsN s)[k]) [hb (obsN s)[k]]) := by
  have hk2 : k < (names s).length := by rwa [obsN_len] at hk
  have e : (obsN s)[k] = obAt s (names s)[k] := by simp [obsN]
  have hn := names_hb wf (List.getElem_mem hk2)
  have ht := mem_names.1 (List.getElem_mem hk2)
  have hP : there s (pb (obsN s)[k]) = false → Path s (hb (obsN s)[k]) [hb (obsN s)[k]] := fun q => by
    rw [e] at q ⊢
    rw [hn]
    exact .top ht q
  refine ⟨?_, hP⟩
  unfold topO
  split
  · simp
  · rename_i q
    exact below_len64 wf 65 (hP (by simpa using q))
theorem walkK_len {s : Sl} (wf : Wf s) : ∀ k, k ≤ (obsN s).length → (walkK s k).length ≤ k * 64
  | 0, _ => by rw [walkK_0]; simp
  | k + 1, hk => by
    rw [walkK_next (by omega), List.length_append]
    have h1 := walkK_len wf k (by omega)
    have h2 := (topO_len wf (k := k) (by omega)).1
    omega
section
variable {w : World} {b0 X BT BL : Nat} {s : Sl}
set_option maxHeartbeats 8000000 in
theorem rWalk_any (h : RT w b0 X BT BL s) : Calls Tryz.prog 14 #[ptr X] w fun e w' => ∃ v', e = .returned v' ∧ OwnK obK w' w.heap.size v' (walkL s) ∧ Below w.heap.size w w' := by
  obtain ⟨m, hm⟩ : ∃ m, (obsN s).length = m := ⟨_, rfl⟩
  have hm64 : m ≤ 64 := hm ▸ (obsN_len s ▸ Nat.le_trans (names_len s) h.wf.ln)
  have CN := Lib.hid (rAll_any h)
  have HT := Lib.hid (fun W (q : Below w.heap.size w W) => h.then q)
  have HM := Lib.hid hm
  have WFS := Lib.hid h.wf
  clear h hm
  go_enter Tryz.func14, Tryz.ntmps14
  go_wp2_with (go_at_call 12; ((with_reducible refine CN.out.mono ?_); rintro e w1 ⟨v1, rfl, o1, k1⟩; obtain ⟨A1, c1, rfl, _, r1, _⟩ := own_form o1 HM.out; have R1 := Lib.hid r1; have K1 := Lib.hid k1; clear o1 k1 r1))
  go_loopw [3, 5] (fun out i wr => ∃ k : Nat, i = .int .i64 k ∧ k ≤ m ∧ OwnK obK wr w1.heap.size out (walkK s k) ∧ Below w1.heap.size w1 wr) (fun _ i _ => m - (intOf i).toNat)
  case atStart => exact ⟨0, rfl, Nat.zero_le _, by rw [walkK_0]; exact OwnK.nil_ obK w1 w1.heap.size, Below.refl _ _⟩
  case round =>
    obtain ⟨k, rfl, hk, o2, k2⟩ := hrel
    have OL := Lib.hid o2
    have KW := Lib.hid k2
    have hlen : (walkK s k).length ≤ 100000 := by
      have := walkK_len WFS.out k (by rw [HM.out]; exact hk)
      omega
    clear o2 k2
    by_cases hlt : k < m
    · have i1 : (k : Int) < m := by omega
      have hkn : k < (obsN s).length := by rw [HM.out]; exact hlt
      obtain ⟨b, off, rfl, hbk, hc⟩ := obs_at (R1.out.below KW.out) (by omega)
      obtain ⟨c0, _, c2, _⟩ := hc k _ (List.getElem?_eq_getElem hkn)
      have NX := Lib.hid (walkK_next hkn)
      obtain ⟨_, hP⟩ := topO_len WFS.out hkn
      have HP := Lib.hid hP
      have HK0 := Lib.hid (R1.out)
      clear hc hP
      generalize (obsN s)[k] = o at *
      clear hkn
      obtain ⟨a, ha⟩ : ∃ a, obAt s o.parent.data.toList = a := ⟨_, rfl⟩
      have CA := Lib.hid (rAt_any (HT.out _ (bThen K1.out KW.out)) o.parent)
      rw [ha] at CA
      clear ha
      cases ht : there s o.parent.data.toList with
      | true =>
        rw [ht] at CA
        have HN : Hid (walkK s (k + 1) = walkK s k) := Lib.hid (by rw [NX.out, topO, if_pos ht]; simp)
        clear ht HP NX
        go_wp2_with (go_at_call 28; ((with_reducible refine CA.out.mono ?_); rintro e w3 ⟨rfl, k3⟩; have K3 := Lib.hid (bAl (bThen KW.out k3) (.cells (obCells a) 33)); have O3 := Lib.hid ((OL.out.below k3).below (bAl (Below.refl _ w3) (.cells (obCells a) 33)))))
        go_roundw
        case rel => exact ⟨k + 1, by go_num, by omega, by rw [HN.out]; exact O3.out, K3.out⟩
        case measure => simp [intOf]; omega
      | false =>
        rw [ht] at CA
        have PK := HP.out ht
        have HN : Hid (walkK s (k + 1) = walkK s k ++ below s 65 (TX.hb o)) := Lib.hid (by rw [NX.out, topO, if_neg (by rw [ht]; simp)])
        obtain ⟨mb, hmb⟩ : ∃ mb, (below s 65 o.handle.data.toList).length = mb := ⟨_, rfl⟩
        have hbl : mb ≤ 64 := hmb ▸ below_len64 WFS.out 65 PK
        have HMB := Lib.hid hmb
        have CB := Lib.hid (fun W (q : Below w.heap.size w W) => rBelow_any 65 o.handle _ W (HT.out _ q) PK (by simp))
        have C2 := Lib.hid (fun W (q : Below wr.heap.size wr W) => (show W.cell? ⟨b, off + k * 14, none⟩ = some (.string o.handle) from (q.cell (p := ⟨b, off + k * 14, none⟩) (Nat.lt_of_lt_of_le hbk (by have := KW.out.size; omega))).trans c0))
        clear ht HP NX PK hmb
        go_wp2_with (first
          | (go_at_call 28; ((with_reducible refine CA.out.mono ?_); rintro e w3 ⟨rfl, k3⟩; have K3 := Lib.hid (bAl (bThen KW.out k3) (.cells (obCells a) 33)); have O3 := Lib.hid ((OL.out.below k3).below (bAl (Below.refl _ w3) (.cells (obCells a) 33))); clear c0 c2; have c0 := C2.out _ (bAl k3 (.cells (obCells a) 33))))
          | (go_at_call 41; ((with_reducible refine (CB.out _ (bThen K1.out K3.out)).mono ?_); rintro e w6 ⟨v6, rfl, o6, k6⟩; obtain ⟨A6, c6, rfl, _, r6, _⟩ := own_form o6 HMB.out; have R6 := Lib.hid r6; have O7 := Lib.hid (O3.out.below k6); have K6 := Lib.hid (bThen K3.out k6); clear o6 r6))
          | (at_builtin; refine IX.wpList_spreadK obK rfl (.tmp 28) (.tmp 35) rfl w1.heap.size _ (walkK s k) rfl O7.out w6.heap.size A6 mb c6 (below s 65 o.handle.data.toList) rfl HMB.out R6.out ?c1 ?c2 ?_))
        case c1 => rw [HMB.out]; omega
        case c2 => exact K6.out.size
        intro v' w7 o7 g7 f7
        have b7 : Below w1.heap.size w1 w7 := K6.out.grown g7 K6.out.size (fun j hj => (OL.out.lt j hj).1)
        go_wp2
        go_roundw
        case rel => exact ⟨k + 1, by go_num, by omega, by rw [HN.out]; exact o7, b7⟩
        case measure => simp [intOf]; omega
    · obtain rfl : k = m := by omega
      have i1 : ¬ (k : Int) < k := by omega
      have HR : Hid (walkK s k = walkL s) := Lib.hid (walkK_all WFS.out HM.out)
      go_wp2
      go_ret
      exact ⟨_, rfl, by rw [← HR.out]; exact own_base OL.out K1.out.size, bThen K1.out KW.out⟩
end
end Go.Proofs.YtlfbjgeobibnhaaGreatDoor.TX
