/-
  WALKS: Kids, Above of a tree; the library's Index and Contains at rows of texts.
-/
import Derived.Test.YtlfbjgeobibnhaaGreatDoorQZ8
import Derived.Test.YtlfbjgeobibnhaaGreatDoorQZ3
import Derived.Test.YtlfbjgeobibnhaaGreatDoorQZ0
import Derived.StillTailTactics
import Derived.OrdersIn
import Derived.TacticsIn
import Derived.RangeFuncCalls
import Derived.OrdersHeld
import Derived.Deep.RegionHeld3
namespace Go.Proofs.YtlfbjgeobibnhaaGreatDoor.TX
open Go.RowKit HL
open IX (ptr El cellsK OwnK IxAt Rw numOf mayS putL putE ins del takeL strK RdK keys)
set_option maxRecDepth 100000
set_option linter.unusedVariables false
set_option linter.unusedSimpArgs false

theorem mem_take_succ {l : List Bs} {k : Nat} (h : k < l.length) {x : Bs} (hn : x ∉ l.take k) (hk : x ≠ l[k]) : x ∉ l.take (k + 1) := by
  rw [List.take_succ_eq_append_getElem h, List.mem_append]
  simp only [List.mem_singleton, not_or]
  exact ⟨hn, hk⟩
def Idx (l : List Bs) (x : Bs) (i : Int) : Prop := decide (0 ≤ i) = decide (x ∈ l)
set_option maxHeartbeats 400000 in
theorem index_tr (A : Option Addr) (c : Nat) (l : List Bs) (x : Bs) (B : Nat) (w : World) (h : Strs w B A l) (hn : l.length ≤ 1000000) :
    Calls Tryz.prog 74 #[.slice A l.length c, str x] w fun e w' => ∃ i : Int, e = .returned (.int .i64 i) ∧ w = w' ∧ Idx l x i := by
  have HH := Lib.hid h
  clear h
  go_enter Tryz.func74, Tryz.ntmps74
  go_wp2
  go_loop [8] (fun i => ∃ k : Nat, i = .int .i64 k ∧ k ≤ l.length ∧ x ∉ l.take k) (fun i => l.length - (intOf i).toNat)
  case atStart => exact ⟨0, rfl, Nat.zero_le _, by simp⟩
  case round =>
    obtain ⟨k, rfl, hk, hm⟩ := hrel
    have HM := Lib.hid hm
    clear hm
    by_cases hlt : k < l.length
    · obtain ⟨b, o, rfl, _, hc⟩ := HH.out.at_ (by omega)
      have hx := hc k _ (List.getElem?_eq_getElem hlt)
      have i1 : (k : Int) < l.length := by omega
      clear hc
      by_cases he : x = l[k]
      · have hb : (x == l[k]) = true := by simpa using he
        have HV : Hid (decide (x ∈ l) = true) := Lib.hid (decide_eq_true (by rw [he]; exact List.getElem_mem hlt))
        clear he
        generalize l[k] = y at *
        go_wp2
        go_ret
        exact ⟨_, rfl, rfl, by unfold Idx; rw [HV.out]; simp⟩
      · have hb : (x == l[k]) = false := by simpa using he
        have HR := Lib.hid (mem_take_succ hlt HM.out he)
        clear he
        generalize l[k] = y at hx hb
        go_wp2
        go_round
        case rel => exact ⟨k + 1, by go_num, by omega, HR.out⟩
        case measure => simp [intOf]; omega
    · have HV : Hid (decide (x ∈ l) = false) := Lib.hid (decide_eq_false (by have := HM.out; rwa [List.take_of_length_le (by omega)] at this))
      have i1 : ¬ (k : Int) < l.length := by omega
      go_wp2
      go_ret
      exact ⟨_, rfl, rfl, by unfold Idx; rw [HV.out]; rfl⟩
theorem contains_tr (A : Option Addr) (c : Nat) (l : List Bs) (x : Bs) (B : Nat) (w : World) (h : Strs w B A l) (hn : l.length ≤ 1000000) :
    Calls Tryz.prog 59 #[.slice A l.length c, str x] w fun e w' => e = .returned (.bool (decide (x ∈ l))) ∧ w = w' := by
  have C := Lib.hid (index_tr A c l x B w h hn)
  obtain ⟨b, hb⟩ : ∃ b, decide (x ∈ l) = b := ⟨_, rfl⟩
  unfold Idx at C
  simp only [hb] at C ⊢
  clear h hb
  go_enter Tryz.func59, Tryz.ntmps59
  go_wp2_with (go_at_call 74; ((with_reducible refine C.out.mono ?_); rintro e w1 ⟨i, rfl, rfl, hi⟩; have HI := Lib.hid hi; clear hi))
  go_ret
  exact ⟨by rw [← HI.out]; rfl, rfl⟩
section
variable {w : World} {b0 : Nat} {L : Lay} {s : Sl}
theorem all_nil (w : World) : Calls Tryz.prog 44 #[.pointer none] w fun e w' => ∃ v', e = .returned v' ∧ OwnK strK w' w.heap.size v' [] ∧ Below w.heap.size w w' :=
  callsIn_wide.1 (IX.all_inG (.pointer none) none 0 [] w (.inl rfl) (fun a e => by cases e) (Lib.hid fun W q => IX.held_no (.pointer none) W (.inl rfl)) (by decide))
theorem kids_any (h : Tree w b0 L s) (x : ByteArray) (hx : x.size ≤ maxLen) : Calls Tryz.prog 17 #[ptr L.T, .string x] w fun e w' => ∃ v', e = .returned v' ∧ OwnK strK w' w.heap.size v' (keys (rowsOf s (some x.data.toList))) ∧ Below w.heap.size w w' := by
  have CM := Lib.hid (made_any h.t.c)
  have c3 := h.t.c3
  have hl0 := h.t.m.look (k := x.data.toList) hx
  cases hf : L.f x.data.toList with
  | none =>
    have hl : (Instr.lookup 52 (.map (some L.M)) (.string x) false).run Tryz.prog w = .ok (.pointer none) w := by rw [hf] at hl0; exact hl0
    have HZ := Lib.hid (h.t.z _ hf)
    have CA := Lib.hid (all_nil w)
    clear h hf hl0
    go_enter Tryz.func17, Tryz.ntmps17
    go_wp2_with (first
      | (go_at_call 38; ((with_reducible refine CM.out.mono ?_); rintro e w1 ⟨rfl, rfl⟩))
      | (go_at_call 44; ((with_reducible refine CA.out.mono ?_); rintro e w1 ⟨v', rfl, o1, k1⟩; have O1 := Lib.hid o1; clear o1)))
    go_ret
    exact ⟨v', rfl, by rw [HZ.out]; exact O1.out, k1⟩
  | some B =>
    have hl : (Instr.lookup 52 (.map (some L.M)) (.string x) false).run Tryz.prog w = .ok (ptr B) w := by rw [hf] at hl0; exact hl0
    have CA := Lib.hid (IX.all_any B _ _ w (h.t.k _ _ hf).1 (Nat.le_trans (h.pl _) (by decide)))
    clear h hf hl0
    go_enter Tryz.func17, Tryz.ntmps17
    go_wp2_with (first
      | (go_at_call 38; ((with_reducible refine CM.out.mono ?_); rintro e w1 ⟨rfl, rfl⟩))
      | (go_at_call 44; ((with_reducible refine CA.out.mono ?_); rintro e w1 ⟨v', rfl, o1, k1⟩; have O1 := Lib.hid o1; clear o1)))
    go_ret
    exact ⟨v', rfl, O1.out, k1⟩
/-! ## Above -/
def upL (s : Sl) : Nat → List Bs → Bs → List Bs
  | 0, acc, _ => acc
  | n + 1, acc, p => if there s p = true then (if p ∈ acc then acc else upL s n (acc ++ [p]) (pb (obAt s p))) else acc
def above (s : Sl) (h : Bs) : List Bs := upL s 65 [] (pb (obAt s h))
def lenV : Value → Nat
  | .slice _ n _ => n
  | _ => 0
theorem nodup_len : ∀ (a b : List Bs), a.Nodup → (∀ x ∈ a, x ∈ b) → a.length ≤ b.length
  | [], _, _, _ => Nat.zero_le _
  | x :: a, b, hn, hs => by
    obtain ⟨h1, h2⟩ := List.nodup_cons.1 hn
    have hx := hs x (by simp)
    have q := nodup_len a (b.erase x) h2 fun y hy => (List.mem_erase_of_ne (fun e => by subst e; exact h1 hy)).2 (hs y (by simp [hy]))
    have l1 := List.length_erase_of_mem hx
    have l2 := List.length_pos_of_mem hx
    simp; omega
theorem acc_len {acc : List Bs} (hn : acc.Nodup) (hs : ∀ x ∈ acc, there s x = true) (hl : s.length ≤ 64) : acc.length ≤ 64 := by
  have h1 : acc.length ≤ (names s).length := nodup_len acc _ hn fun x hx => mem_names.2 (hs x hx)
  exact Nat.le_trans h1 (Nat.le_trans (names_len s) hl)
set_option maxHeartbeats 4000000 in
theorem above_any (h : Tree w b0 L s) (x : ByteArray) : Calls Tryz.prog 36 #[ptr L.T, .string x] w fun e w' => ∃ v', e = .returned v' ∧ OwnK strK w' w.heap.size v' (above s x.data.toList) ∧ Below w.heap.size w w' := by
  have hb : Below w.heap.size w w := Below.refl _ _
  have C1 := Lib.hid (at_any h x)
  have HT := Lib.hid h
  have CA := Lib.hid (fun W (q : Below w.heap.size w W) x => at_any (h.then q) x)
  obtain ⟨y, hy⟩ : ∃ y, obAt s x.data.toList = y := ⟨_, rfl⟩
  have HR : Hid (above s x.data.toList = upL s 65 [] (pb y)) := Lib.hid (by rw [← hy]; rfl)
  rw [hy] at C1
  generalize above s x.data.toList = res at *
  generalize there s x.data.toList = bx at *
  clear h hy
  go_enter Tryz.func36, Tryz.ntmps36
  go_wp2_with (go_at_call 27; ((with_reducible refine C1.out.mono ?_); rintro e w1 ⟨rfl, k1⟩))
  have M1 := Lib.hid (AtC.new w1 (obCells y) 33)
  have HB1 := Lib.hid (bAl (bThen (Below.refl _ _) k1 : Below w.heap.size w w1) (.cells (obCells y) 33))
  have HLT : Hid (w.heap.size ≤ w1.heap.size) := Lib.hid k1.size
  clear hb k1
  clear C1
  obtain ⟨w2, hw2⟩ : ∃ w2, w1.alloc (.cells (obCells y) 33) = w2 := ⟨_, rfl⟩
  have hw2' : w1.alloc (.cells #[.string y.handle, .int .u8 y.kind, .string y.parent, .int .u8 y.typ, .string y.ref, .int .i64 y.lo, .int .i64 y.hi, .int .u8 y.digits, .bool y.on, .bool y.has, .int .i64 y.value, .int .i64 y.low, .int .i64 y.high, .int .u8 y.assoc] 33) = w2 := hw2
  rw [hw2] at M1 HB1
  rw [hw2']
  clear hw2 hw2'
  generalize w1.heap.size = B6 at *
  go_loopw [5] (fun l wr => ∃ (n : Nat) (acc : List Bs) (z : Ob) (A : Option Addr) (c : Nat), l = .slice A acc.length c ∧ OwnK strK wr w.heap.size (.slice A acc.length c) acc ∧ AtC wr B6 (obCells z) ∧ Below w.heap.size w wr ∧ Hid (res = upL s n acc (pb z)) ∧ acc.length + n = 65 ∧ acc.Nodup ∧ (∀ x ∈ acc, there s x = true) ∧ (Value.slice A acc.length c).ownBlock ≠ some B6) (fun l _ => 65 - lenV l)
  case atStart => exact ⟨65, [], y, none, 0, rfl, OwnK.nil_ _ _ _, M1.out, HB1.out, HR, rfl, List.nodup_nil, by simp, by simp [Value.ownBlock]⟩
  case round =>
    obtain ⟨n, acc, z, A, c, rfl, o1, m1, hb1, HR1, hn1, hnd, hth, hne⟩ := hrel
    have hal := acc_len hnd hth HT.out.ln
    obtain ⟨m, rfl⟩ : ∃ m, n = m + 1 := ⟨n - 1, by omega⟩
    have HR2 : Hid (res = if there s (pb z) = true then (if pb z ∈ acc then acc else upL s m (acc ++ [pb z]) (pb (obAt s (pb z)))) else acc) := Lib.hid HR1.out
    have oc := m1.c
    have O1 := Lib.hid o1
    have MM1 := Lib.hid m1
    have HBB := Lib.hid hb1
    have HND := Lib.hid hnd
    have HTH := Lib.hid hth
    have HNE := Lib.hid hne
    have CP : Hid (Calls Tryz.prog 27 #[ptr L.T, .string z.parent] wr fun e w' => e = .returned (.tuple #[ob (obAt s (pb z)), .bool (there s (pb z))]) ∧ Below wr.heap.size wr w') := Lib.hid (CA.out _ hb1 z.parent)
    clear o1 m1 hb1 hnd hth HR1 hne
    cases ht : there s (pb z) with
    | false =>
      have HE : Hid (res = acc) := Lib.hid (by rw [HR2.out, ht]; simp)
      rw [ht] at CP
      generalize obAt s (pb z) = q at *
      clear ht
      go_wp2_with (go_at_call 27; ((with_reducible refine CP.out.mono ?_); rintro e w3 ⟨rfl, k3⟩))
      go_ret
      exact ⟨_, rfl, by rw [HE.out]; exact (O1.out.below k3).below (bAl (Below.refl _ _) _), bAl (bThen HBB.out k3) _⟩
    | true =>
      obtain ⟨q, q1, q2, q3, q4⟩ := there_t ht
      rw [ht, q3] at CP
      simp only [ht, q3, if_true] at HR2
      have HQ := Lib.hid q2
      have HTT := Lib.hid ht
      have CC := Lib.hid (fun W (k : Below wr.heap.size wr W) => contains_tr A c acc (TX.hb q) W.heap.size W (by
        have o2 := O1.out.below k
        obtain ⟨_, _, e8, rd, _⟩ := o2.form
        simp only [Value.slice.injEq, true_and] at e8
        obtain ⟨rfl, rfl⟩ := e8
        exact rd.strs) (by omega))
      clear ht q1 q3 q4 q2
      by_cases hin : pb z ∈ acc
      · have HE : Hid (res = acc) := Lib.hid (by rw [HR2.out, if_pos hin])
        have hd : decide (TX.hb q ∈ acc) = true := decide_eq_true (by rw [HQ.out]; exact hin)
        have CC : Hid (∀ W, Below wr.heap.size wr W → Calls Tryz.prog 59 #[.slice A acc.length c, .string q.handle] W fun e w' => e = .returned (.bool true) ∧ W = w') := Lib.hid (fun W k => by have := CC.out W k; rw [hd] at this; exact this)
        clear hin hd
        go_wp2_with (first
          | (go_at_call 27; ((with_reducible refine CP.out.mono ?_); rintro e w3 ⟨rfl, k3⟩; have K3 := Lib.hid (bAl k3 (.cells (obCells q) 33)); clear k3))
          | (go_at_call 59; ((with_reducible refine (CC.out _ K3.out).mono ?_); rintro e w4 ⟨rfl, rfl⟩)))
        go_ret
        exact ⟨_, rfl, by rw [HE.out]; exact O1.out.below K3.out, bThen HBB.out K3.out⟩
      · have HE : Hid (res = upL s m (acc ++ [pb z]) (pb q)) := Lib.hid (by rw [HR2.out, if_neg hin])
        have hd : decide (TX.hb q ∈ acc) = false := decide_eq_false (by rw [HQ.out]; exact hin)
        have CC : Hid (∀ W, Below wr.heap.size wr W → Calls Tryz.prog 59 #[.slice A acc.length c, .string q.handle] W fun e w' => e = .returned (.bool false) ∧ W = w') := Lib.hid (fun W k => by have := CC.out W k; rw [hd] at this; exact this)
        have HIN := Lib.hid hin
        clear hin hd
        have HLW : Hid (∀ k, (Value.slice A acc.length c).ownBlock = some k → k < wr.heap.size) := Lib.hid (fun k e => (O1.out.lt k e).2)
        go_wp2_with (first
          | (go_at_call 27; ((with_reducible refine CP.out.mono ?_); rintro e w3 ⟨rfl, k3⟩; have K3 := Lib.hid (bAl k3 (.cells (obCells q) 33)); have KZ := Lib.hid k3.size; have NQ := Lib.hid ((AtC.new w3 (obCells q) 33).al (.cells #[.string q.handle] 9)); have rq := RdK.lit (K := strK) (w3.alloc (.cells (obCells q) 33)) (TX.hb q) #[.string q.handle] rfl 9; rw [World.size_alloc] at rq; have RQ := Lib.hid rq; have O3 := Lib.hid ((O1.out.below K3.out).below (bAl (Below.refl _ _) (.cells #[.string q.handle] 9))); have MM3 := Lib.hid ((MM1.out.then K3.out).al (.cells #[.string q.handle] 9)); have B3 := Lib.hid (bAl (bThen HBB.out K3.out) (.cells #[.string q.handle] 9)); clear k3 oc rq))
          | (go_at_call 59; ((with_reducible refine (CC.out _ K3.out).mono ?_); rintro e w4 ⟨rfl, rfl⟩))
          | (at_builtin; refine IX.wpList_spreadK strK rfl (.tmp 32) (.tmp 35) rfl w.heap.size _ acc rfl O3.out (w3.heap.size + 1 + 1) (some ⟨w3.heap.size + 1, 0, none⟩) 1 1 [TX.hb q] rfl rfl RQ.out ?c1 ?c2 ?_))
        case c1 => show acc.length + 1 ≤ 1000000; omega
        case c2 => have := B3.out.size; simp at this ⊢; omega
        intro v' w5 o5 g5 f5
        have b5 : Below w.heap.size w w5 := B3.out.grown g5 B3.out.size (fun k hk => (O1.out.lt k hk).1)
        have nq5 := (NQ.out.kept (P := fun k => (Value.slice A acc.length c).ownBlock ≠ some k) ⟨g5.os, g5.tape, g5.output, g5.size, fun k hk e => g5.block k hk (fun q => e q.symm)⟩ (fun e => by have := HLW.out _ e; have := KZ.out; omega))
        have mm5 := (MM3.out.kept (P := fun k => (Value.slice A acc.length c).ownBlock ≠ some k) ⟨g5.os, g5.tape, g5.output, g5.size, fun k hk e => g5.block k hk (fun q => e q.symm)⟩ HNE.out)
        have nc := nq5.c
        have mc := mm5.c
        have mf := mm5.f
        have B5 := Lib.hid b5
        have MM5 := Lib.hid mm5
        have O5 := Lib.hid o5
        have F5 := Lib.hid f5
        have HB6 : Hid (B6 < w3.heap.size) := Lib.hid (Nat.lt_of_lt_of_le MM1.out.lt KZ.out)
        clear b5 nq5 mm5 o5 f5 g5
        go_wp2
        obtain ⟨A', c', e', _, _⟩ := O5.out.form
        go_roundw
        case rel =>
          have hne' : v'.ownBlock ≠ some B6 := fun e => by
            rcases F5.out with f | f
            · rw [f] at e; exact HNE.out e
            · rw [f] at e; injection e with e; have := HB6.out; have z : w3.heap.size ≤ _ := (bAl (bAl (Below.refl w3.heap.size w3) (.cells (obCells q) 33)) (.cells #[.string q.handle] 9)).size; omega
          have ok6 := O5.out.kept (put14_kept (T := B6) (off := 0) (o := q) (IX.Kept.refl w5 (fun k => k ≠ B6)) (fun _ n => n rfl)) (fun b e n => hne' (n ▸ e))
          rw [e'] at ok6 hne'
          exact ⟨m, acc ++ [TX.hb q], q, A', c', e', ok6, AtC.fill MM5.out rfl _ _ _ _ _ _ _ _ _ _ _ _ _ _, bFill B5.out HLT.out _ _ _ _ _ _ _ _ _ _ _ _ _ _, Lib.hid (by rw [HE.out, HQ.out]), by simp; omega, List.nodup_append.2 ⟨HND.out, by simp, fun a ha b hb e => by simp at hb; subst hb; subst e; exact HIN.out (HQ.out ▸ ha)⟩, fun x hx => (List.mem_append.1 hx).elim (HTH.out x) (fun hx => by simp at hx; rw [hx, HQ.out]; exact HTT.out), hne'⟩
        case measure => rw [e']; simp [lenV]; omega
end
end Go.Proofs.YtlfbjgeobibnhaaGreatDoor.TX
/-
  PLAIN: the document's tree in memory: its struct, a row of flags, a row of objects.
-/
namespace Go.Proofs.YtlfbjgeobibnhaaGreatDoor.TX
open Go.RowKit HL
open IX (ptr El cellsK cellsK_at OwnK IxAt Rw numOf mayS strK RdK keys)
set_option maxRecDepth 100000
set_option linter.unusedVariables false
set_option linter.unusedSimpArgs false

def tkC (s : Sl) : Array Value := ((s.map Option.isSome).map Value.bool).toArray
noncomputable def slC (s : Sl) : Array Value := (cellsK obK (s.map obOf)).toArray
theorem tkC_at {s : Sl} {k : Nat} {x : Option Ob} (h : s[k]? = some x) : (tkC s)[k]? = some (.bool x.isSome) := by simp [tkC, h]
theorem tkC_len (s : Sl) : (tkC s).size = s.length := by simp [tkC]
theorem slC_len (s : Sl) : (slC s).size = s.length * 14 := by
  have : (cellsK obK (s.map obOf)).length = (s.map obOf).length * 14 := IX.cellsK_len obK _
  simp [slC, this]
theorem slC_at {s : Sl} {k : Nat} {x : Option Ob} (h : s[k]? = some x) {i : Nat} (hi : i < 14) : (slC s)[k * 14 + i]? = (obCells (obOf x))[i]? := by
  obtain ⟨u, hu⟩ : ∃ u, (obCells (obOf x))[i]? = some u := by
    refine ⟨(obCells (obOf x))[i]'(by simpa using hi), ?_⟩
    exact Array.getElem?_eq_getElem _
  rw [hu]
  have := cellsK_at obK (l := s.map obOf) (j := k) (x := obOf x) (by simp [h]) (i := i) (u := u) (by rw [← hu]; exact Array.getElem?_toList)
  have e : (slC s)[k * 14 + i]? = (cellsK obK (s.map obOf))[k * 14 + i]? := by simp [slC]
  rw [e]
  exact this
theorem slC_cells {w : World} {BL : Nat} {s : Sl} (h : AtC w BL (slC s)) {k : Nat} {x : Option Ob} (e : s[k]? = some x) {o : Ob} (e2 : obOf x = o) :
    w.cell? ⟨BL, k * 14, none⟩ = some (.string o.handle) ∧ w.cell? ⟨BL, k * 14 + 1, none⟩ = some (.int .u8 o.kind) ∧ w.cell? ⟨BL, k * 14 + 2, none⟩ = some (.string o.parent) ∧ w.cell? ⟨BL, k * 14 + 3, none⟩ = some (.int .u8 o.typ) ∧ w.cell? ⟨BL, k * 14 + 4, none⟩ = some (.string o.ref) ∧ w.cell? ⟨BL, k * 14 + 5, none⟩ = some (.int .i64 o.lo) ∧ w.cell? ⟨BL, k * 14 + 6, none⟩ = some (.int .i64 o.hi) ∧ w.cell? ⟨BL, k * 14 + 7, none⟩ = some (.int .u8 o.digits) ∧ w.cell? ⟨BL, k * 14 + 8, none⟩ = some (.bool o.on) ∧ w.cell? ⟨BL, k * 14 + 9, none⟩ = some (.bool o.has) ∧ w.cell? ⟨BL, k * 14 + 10, none⟩ = some (.int .i64 o.value) ∧ w.cell? ⟨BL, k * 14 + 11, none⟩ = some (.int .i64 o.low) ∧ w.cell? ⟨BL, k * 14 + 12, none⟩ = some (.int .i64 o.high) ∧ w.cell? ⟨BL, k * 14 + 13, none⟩ = some (.int .u8 o.assoc) := by
  subst e2
  have q : ∀ i, i < 14 → w.cell? ⟨BL, k * 14 + i, none⟩ = (obCells (obOf x))[i]? := fun i hi => (h.c _).trans (slC_at e hi)
  exact ⟨q 0 (by decide), q 1 (by decide), q 2 (by decide), q 3 (by decide), q 4 (by decide), q 5 (by decide), q 6 (by decide), q 7 (by decide), q 8 (by decide), q 9 (by decide), q 10 (by decide), q 11 (by decide), q 12 (by decide), q 13 (by decide)⟩
/-- The document's tree. -/
structure RT (w : World) (b0 X BT BL : Nat) (s : Sl) : Prop where
  c : AtC w X #[.slice (some ⟨BT, 0, none⟩) s.length s.length, .slice (some ⟨BL, 0, none⟩) s.length s.length]
  t : AtC w BT (tkC s)
  l : AtC w BL (slC s)
  n1 : X ≠ BT
  n2 : X ≠ BL
  n3 : BT ≠ BL
  b1 : b0 ≤ X
  b2 : b0 ≤ BT
  b3 : b0 ≤ BL
  wf : Wf s
section
variable {w w' : World} {b0 X BT BL : Nat} {s : Sl}
theorem RT.kept (h : RT w b0 X BT BL s) {P : Nat → Prop} (k : IX.Kept w w' P) (h1 : P X) (h2 : P BT) (h3 : P BL) : RT w' b0 X BT BL s :=
  { h with c := k.atC h.c h1, t := k.atC h.t h2, l := k.atC h.l h3 }
theorem RT.then (h : RT w b0 X BT BL s) (k : Below w.heap.size w w') : RT w' b0 X BT BL s := h.kept (P := fun _ => True) (.of_below k) trivial trivial trivial
theorem RT.c0 (h : RT w b0 X BT BL s) : w.cell? ⟨X, 0, none⟩ = some (.slice (some ⟨BT, 0, none⟩) s.length s.length) := h.c.c 0
theorem RT.c1 (h : RT w b0 X BT BL s) : w.cell? ⟨X, 1, none⟩ = some (.slice (some ⟨BL, 0, none⟩) s.length s.length) := h.c.c 1
theorem RT.tk (h : RT w b0 X BT BL s) {k : Nat} {x : Option Ob} (e : s[k]? = some x) : w.cell? ⟨BT, k, none⟩ = some (.bool x.isSome) := (h.t.c k).trans (tkC_at e)
theorem RT.ob (h : RT w b0 X BT BL s) {k : Nat} {x : Option Ob} (e : s[k]? = some x) {o : Ob} (e2 : obOf x = o) :
    w.cell? ⟨BL, k * 14, none⟩ = some (.string o.handle) ∧ w.cell? ⟨BL, k * 14 + 1, none⟩ = some (.int .u8 o.kind) ∧ w.cell? ⟨BL, k * 14 + 2, none⟩ = some (.string o.parent) ∧ w.cell? ⟨BL, k * 14 + 3, none⟩ = some (.int .u8 o.typ) ∧ w.cell? ⟨BL, k * 14 + 4, none⟩ = some (.string o.ref) ∧ w.cell? ⟨BL, k * 14 + 5, none⟩ = some (.int .i64 o.lo) ∧ w.cell? ⟨BL, k * 14 + 6, none⟩ = some (.int .i64 o.hi) ∧ w.cell? ⟨BL, k * 14 + 7, none⟩ = some (.int .u8 o.digits) ∧ w.cell? ⟨BL, k * 14 + 8, none⟩ = some (.bool o.on) ∧ w.cell? ⟨BL, k * 14 + 9, none⟩ = some (.bool o.has) ∧ w.cell? ⟨BL, k * 14 + 10, none⟩ = some (.int .i64 o.value) ∧ w.cell? ⟨BL, k * 14 + 11, none⟩ = some (.int .i64 o.low) ∧ w.cell? ⟨BL, k * 14 + 12, none⟩ = some (.int .i64 o.high) ∧ w.cell? ⟨BL, k * 14 + 13, none⟩ = some (.int .u8 o.assoc) := slC_cells h.l e e2
end
theorem tkC_set (s : Sl) (k : Nat) (x : Option Ob) : (tkC s).setIfInBounds k (.bool x.isSome) = tkC (s.set k x) := by
  apply Array.ext'
  simp [tkC, List.map_set]
theorem slC_other (s : Sl) {k : Nat} (x : Option Ob) {j : Nat} (hj : j < k * 14 ∨ k * 14 + 14 ≤ j) : (slC (s.set k x))[j]? = (slC s)[j]? := by
  have hq : j = (j / 14) * 14 + j % 14 := by omega
  have hm : j % 14 < 14 := Nat.mod_lt _ (by decide)
  have hne : j / 14 ≠ k := by omega
  generalize hd : j / 14 = q at *
  generalize hr : j % 14 = i at *
  have e : (s.set k x)[q]? = s[q]? := by rw [List.getElem?_set]; rw [if_neg (by omega)]
  cases hs : s[q]? with
  | none =>
    have hl := List.getElem?_eq_none_iff.1 hs
    rw [Array.getElem?_eq_none (by rw [slC_len, List.length_set]; omega), Array.getElem?_eq_none (by rw [slC_len]; omega)]
  | some y =>
    rw [hs] at e
    rw [hq, slC_at e hm, slC_at hs hm]
set_option maxHeartbeats 2000000 in
theorem slC_put {W : World} {BL : Nat} {s : Sl} (h : AtC W BL (slC s)) {k : Nat} (hl : k < s.length) (x : Option Ob) : AtC (put14 W BL (k * 14) (obOf x)) BL (slC (s.set k x)) := by
  have e : ∀ i, i < 14 → (slC (s.set k x))[k * 14 + i]? = (obCells (obOf x))[i]? := fun i hi => slC_at (by rw [List.getElem?_set]; simp [hl]) hi
  have z : ∀ i, i < 14 → k * 14 + i < (slC s).size := fun i hi => by rw [slC_len]; omega
  have q := AtU.start (C' := slC (s.set k x)) h (k * 14)
  have q := q.step (z 0 (by decide)) (e 0 (by decide))
  have q := q.step (z 1 (by decide)) (e 1 (by decide))
  have q := q.step (z 2 (by decide)) (e 2 (by decide))
  have q := q.step (z 3 (by decide)) (e 3 (by decide))
  have q := q.step (z 4 (by decide)) (e 4 (by decide))
  have q := q.step (z 5 (by decide)) (e 5 (by decide))
  have q := q.step (z 6 (by decide)) (e 6 (by decide))
  have q := q.step (z 7 (by decide)) (e 7 (by decide))
  have q := q.step (z 8 (by decide)) (e 8 (by decide))
  have q := q.step (z 9 (by decide)) (e 9 (by decide))
  have q := q.step (z 10 (by decide)) (e 10 (by decide))
  have q := q.step (z 11 (by decide)) (e 11 (by decide))
  have q := q.step (z 12 (by decide)) (e 12 (by decide))
  have q := q.step (z 13 (by decide)) (e 13 (by decide))
  exact q.done fun j hj => slC_other s x hj
section
variable {w : World} {b0 X BT BL : Nat} {s : Sl}
/-- A flag and an object stored. -/
theorem RT.put (h : RT w b0 X BT BL s) {k : Nat} (hk : k < s.length) (x : Option Ob) (hw : Wf (s.set k x)) {v : Value} (hv : v = .bool x.isSome) {o : Ob} (ho : o = obOf x) : RT (put14 (w.setCell ⟨BT, k, none⟩ v) BL (k * 14) o) b0 X BT BL (s.set k x) := by
  subst hv
  subst ho
  have hc := put14_far (o := obOf x) (off := k * 14) (h.c.store (p := ⟨BT, k, none⟩) h.n1.symm (.bool x.isSome)) h.n2.symm
  have ht := put14_far (o := obOf x) (off := k * 14) (AtC.set h.t (i := k) (by rw [tkC_len]; exact hk) (.bool x.isSome)) h.n3.symm
  rw [tkC_set] at ht
  exact ⟨by rw [List.length_set]; exact hc, ht, slC_put (h.l.store (p := ⟨BT, k, none⟩) h.n3 _) hk x, h.n1, h.n2, h.n3, h.b1, h.b2, h.b3, hw⟩
theorem RT.obj (h : RT w b0 X BT BL s) {k : Nat} {a o : Ob} (hk : In s k a) (hw : Wf (s.set k (some o))) : RT (put14 w BL (k * 14) o) b0 X BT BL (s.set k (some o)) := by
  have hc := put14_far (o := o) (off := k * 14) h.c h.n2.symm
  have ht := put14_far (o := o) (off := k * 14) h.t h.n3.symm
  have e : tkC (s.set k (some o)) = tkC s := by
    have e2 : (s.set k (some o)).map Option.isSome = s.map Option.isSome := by
      apply List.ext_getElem?
      intro i
      rw [List.getElem?_map, List.getElem?_map, List.getElem?_set]
      split
      · rename_i q; subst q
        rw [if_pos hk.lt, show s[k]? = some (some a) from hk]; rfl
      · rfl
    unfold tkC
    rw [e2]
  exact ⟨by rw [List.length_set]; exact hc, by rw [e]; exact ht, slC_put h.l hk.lt (some o), h.n1, h.n2, h.n3, h.b1, h.b2, h.b3, hw⟩
/-- What a call on the document's tree leaves alone: all but its two rows. -/
def RK (BT BL : Nat) (w w' : World) : Prop := IX.Kept w w' (fun j => j ≠ BT ∧ j ≠ BL)
theorem RK.put {w W : World} {BT BL : Nat} (h : RK BT BL w W) (k : Nat) (v : Value) (o : Ob) : RK BT BL w (put14 (W.setCell ⟨BT, k, none⟩ v) BL (k * 14) o) := put14_kept (h.set (fun _ q => q.1 rfl) v) (fun _ q => q.2 rfl)
theorem RK.obj {w W : World} {BT BL : Nat} (h : RK BT BL w W) (k : Nat) (o : Ob) : RK BT BL w (put14 W BL (k * 14) o) := put14_kept h (fun _ q => q.2 rfl)
end
end Go.Proofs.YtlfbjgeobibnhaaGreatDoor.TX
/-
  WALKS: the document's Slot, At.
-/
namespace Go.Proofs.YtlfbjgeobibnhaaGreatDoor.TX
open Go.RowKit HL
open IX (ptr El cellsK cellsK_at OwnK IxAt Rw numOf mayS strK RdK keys)
set_option maxRecDepth 100000
set_option linter.unusedVariables false
set_option linter.unusedSimpArgs false
theorem tlq_ne {a b : ByteArray} (h : a ≠ b) : (a.toList == b.toList) = false := by
  rw [beq_eq_false_iff_ne, ne_eq, ByteArray.toList_eq, ByteArray.toList_eq]
  intro e; apply h
  obtain ⟨⟨x⟩⟩ := a
  obtain ⟨⟨y⟩⟩ := b
  simp at e; rw [e]
section
variable {w : World} {b0 X BT BL : Nat} {s : Sl}
set_option maxHeartbeats 2000000 in
theorem rSlot_any (h : RT w b0 X BT BL s) (x : ByteArray) : Calls Tryz.prog 30 #[ptr X, .string x] w fun e w' => e = .returned (.tuple #[.int .i64 (slotN s x.data.toList : Int), .bool (there s x.data.toList)]) ∧ w = w' := by
  have c0 := h.c0
  have c1 := h.c1
  have hln : s.length ≤ 64 := h.wf.ln
  have H := Lib.hid h
  clear h
  go_enter Tryz.func30, Tryz.ntmps30
  go_wp2
  go_loop [6] (fun i => ∃ k : Nat, i = .int .i64 k ∧ k ≤ s.length ∧ ∀ j a, j < k → In s j a → hb a ≠ x.data.toList) (fun i => s.length - (intOf i).toNat)
  case atStart => exact ⟨0, rfl, Nat.zero_le _, fun j a hj => by omega⟩
  case round =>
    obtain ⟨k, rfl, hk, hno⟩ := hrel
    have HNO := Lib.hid hno
    clear hno
    by_cases hlt : k < s.length
    · have i1 : (k : Int) < s.length := by omega
      obtain ⟨y, hy⟩ : ∃ y, s[k]? = some y := ⟨_, List.getElem?_eq_getElem hlt⟩
      have ct := H.out.tk hy
      cases y with
      | none =>
        have HR : Hid (∀ j a, j < k + 1 → In s j a → hb a ≠ x.data.toList) := Lib.hid (fun j a hj ha => by
          by_cases e : j = k
          · subst e; unfold In at ha; rw [hy] at ha; cases ha
          · exact HNO.out j a (by omega) ha)
        simp only [Option.isSome_none] at ct
        clear hy
        go_wp2
        go_round
        case rel => exact ⟨k + 1, by go_num, by omega, HR.out⟩
        case measure => simp [intOf]; omega
      | some o =>
        obtain ⟨p0, _⟩ := H.out.ob hy (o := o) rfl
        simp only [Option.isSome_some] at ct
        by_cases he : o.handle = x
        · have hbe : (o.handle.toList == x.toList) = true := by rw [he]; simp
          obtain ⟨q1, q2, _⟩ := slotN_in H.out.wf (show In s k o from hy)
          rw [show hb o = x.data.toList by rw [← he]] at q1 q2
          have HV := Lib.hid q1
          have HU := Lib.hid q2
          clear hy he q1 q2
          go_wp2
          go_ret2
          exact ⟨by rw [HV.out, HU.out]; rfl, rfl⟩
        · have hbe : (o.handle.toList == x.toList) = false := tlq_ne he
          have HR : Hid (∀ j a, j < k + 1 → In s j a → hb a ≠ x.data.toList) := Lib.hid (fun j a hj ha => by
            by_cases e : j = k
            · subst e
              have := In.uniq ha (show In s j o from hy)
              subst this
              intro z
              apply he
              have : a.handle.data = x.data := Array.toList_inj.1 z
              cases h1 : a.handle; cases h2 : x; rw [h1, h2] at this; simp at this; rw [this]
            · exact HNO.out j a (by omega) ha)
          clear hy he
          generalize o.handle = yh at *
          go_wp2
          go_round
          case rel => exact ⟨k + 1, by go_num, by omega, HR.out⟩
          case measure => simp [intOf]; omega
    · have hth : there s x.data.toList = false := by
        cases z : there s x.data.toList with
        | false => rfl
        | true =>
          obtain ⟨a, h1, h2, _⟩ := there_t z
          exact absurd h2 (HNO.out _ a (by have := h1.lt; omega) h1)
      have HV := Lib.hid hth
      have HU := Lib.hid (slotN_f hth).1
      obtain rfl : k = s.length := by omega
      have i1 : ¬ (s.length : Int) < s.length := by omega
      clear hth
      go_wp2
      go_ret2
      exact ⟨by rw [HV.out, HU.out]; rfl, rfl⟩
theorem rSlot_b (h : RT w b0 X BT BL s) (x : ByteArray) : Calls Tryz.prog 30 #[ptr X, .string x] w fun e w' => e = .returned (.tuple #[.int .i64 (slotN s x.data.toList : Int), .bool (there s x.data.toList)]) ∧ Below w.heap.size w w' :=
  (rSlot_any h x).mono fun e w' q => ⟨q.1, q.2 ▸ Below.refl _ _⟩
set_option maxHeartbeats 2000000 in
theorem rAt_any (h : RT w b0 X BT BL s) (x : ByteArray) : Calls Tryz.prog 28 #[ptr X, .string x] w fun e w' => e = .returned (.tuple #[ob (obAt s x.data.toList), .bool (there s x.data.toList)]) ∧ Below w.heap.size w w' := by
  have hb0 : Below w.heap.size w w := Below.refl _ _
  have CF := Lib.hid (fun W (q : Below w.heap.size w W) => rSlot_b (h.then q) x)
  have HT := Lib.hid (fun W (q : Below w.heap.size w W) => h.then q)
  have hln : s.length ≤ 64 := h.wf.ln
  cases e : there s x.data.toList with
  | false =>
    obtain ⟨e1, e2⟩ := slotN_f e
    rw [e, e1] at CF
    rw [e2]
    clear e e1 e2 h HT
    go_enter Tryz.func28, Tryz.ntmps28
    go_wp2_with (go_at_call 30; ((with_reducible refine (CF.out _ (bAl hb0 _)).mono ?_); rintro e w1 ⟨rfl, k1⟩; have mR := (AtC.new w _ _).then k1; have rc := mR.c; have rf := mR.f; have rl := mR.lt; have MR := Lib.hid mR; clear mR; replace hb0 := bThen (bAl hb0 _) k1))
    exact ret_ob2 (o := zeroOb) rfl rfl rfl rfl (AtC.fill MR.out rfl _ _ _ _ _ _ _ _ _ _ _ _ _ _) ⟨rfl, bFill hb0 (Nat.le_refl _) _ _ _ _ _ _ _ _ _ _ _ _ _ _⟩
  | true =>
    obtain ⟨o, h1, h2, h3, h4⟩ := there_t e
    rw [e] at CF
    rw [h3]
    have HO := Lib.hid h1
    have hk := h1.lt
    clear e h h1 h2 h3 h4
    generalize slotN s x.data.toList = k at *
    have hk2 : (k : Int) < s.length := by omega
    go_enter Tryz.func28, Tryz.ntmps28
    go_wp2_with (go_at_call 30; ((with_reducible refine (CF.out _ (bAl hb0 _)).mono ?_); rintro e w1 ⟨rfl, k1⟩; have mR := (AtC.new w _ _).then k1; have rc := mR.c; have rf := mR.f; have rl := mR.lt; have MR := Lib.hid mR; clear mR; replace hb0 := bThen (bAl hb0 _) k1; have tt := HT.out _ hb0; have x1 := tt.c1; obtain ⟨c0, c1, c2, c3, c4, c5, c6, c7, c8, c9, c10, c11, c12, c13⟩ := tt.ob HO.out (o := o) rfl; clear tt))
    exact ret_ob2 (o := o) rfl rfl rfl rfl (AtC.fill MR.out rfl _ _ _ _ _ _ _ _ _ _ _ _ _ _) ⟨rfl, bFill hb0 (Nat.le_refl _) _ _ _ _ _ _ _ _ _ _ _ _ _ _⟩
end
end Go.Proofs.YtlfbjgeobibnhaaGreatDoor.TX
/-
  PLAIN: a statement that draws its order, in a round of a range over a function: what only reads comes first, in the text's order; then the rest, one behind the other.
-/
namespace Go.Proofs.YtlfbjgeobibnhaaGreatDoor.TX
open Go.RowKit
set_option maxRecDepth 100000
set_option linter.unusedVariables false
set_option linter.unusedSimpArgs false

def noDefer (l : List Oper) : Bool := l.all fun o => match o.op with | .defer _ => false | _ => true
theorem noDefer_of {l : List Oper} (h : noDefer l = true) {o : Oper} (ho : o ∈ l) : ∀ c, o.op ≠ .defer c := fun c e => by
  have := List.all_eq_true.1 h o ho
  rw [e] at this
  cases this
section
variable {P : Program} {l : List Oper} {md : Region.Mode} {w : World} {r m : Nat} {Q : Exit → Act → World → Prop}
theorem round_op (hd : noDefer l = true) {i : Nat} {a : Act} {K : Act → Prop} {K' : Act → World → Prop} (h : ∀ a, K a → K' a w) (hh : stOp P l.toArray w i K a) : wpOpIn (Fence.wide.inRound r) m P l.toArray Q i K' a w := by
  unfold stOp at hh
  unfold wpOpIn
  cases ho : l.toArray[i]? with
  | none => simp only [ho] at hh ⊢; exact h _ hh
  | some o =>
    have hmem : o ∈ l := by simpa using Array.mem_of_getElem? ho
    simp only [ho] at hh ⊢
    by_cases hw : Region.wanted o (yielded l.toArray a.tmps) = true
    · rw [if_pos hw] at hh ⊢
      refine ⟨fun _ _ => trivial, ?_⟩
      rw [Oper.semAt_eq _ _ _ (noDefer_of hd hmem)]
      unfold Oper.still at hh
      generalize (execOp a.eval o).run P w = x at hh
      cases x with
      | halt x w' => cases hh
      | ok x w' =>
        cases x with
        | value v => obtain ⟨rfl, q⟩ := hh; exact h _ q
        | skip => obtain ⟨rfl, q⟩ := hh; exact h _ q
        | enter f args =>
          obtain ⟨rfl, v, hc, q⟩ := hh
          refine ⟨fun e => (by cases e), CallsIn.inRound r (callsIn_wide.2 hc) |>.mono ?_⟩
          rintro e w'' ⟨rfl, rfl⟩
          exact h _ q
        | _ => cases hh
    · rw [if_neg hw] at hh ⊢
      exact ⟨fun _ _ => trivial, h _ hh⟩
theorem round_head (hd : noDefer l = true) {n g : Nat} {G : Array Bool → Act → Prop} (hG : ∀ listed a, G listed a → wpAnyIn (Fence.wide.inRound r) m P md l.toArray Q g listed a w) (f : Nat) :
    ∀ (listed : Array Bool) (a : Act), wpAnyL P md l.toArray w n G f listed a → wpAnyIn (Fence.wide.inRound r) m P md l.toArray Q (f + g) listed a w := by
  induction f with
  | zero => intro listed a h; rw [Nat.zero_add]; exact hG _ _ h
  | succ f ih =>
    intro listed a h
    rw [Nat.add_right_comm]
    exact ⟨fun e => absurd e h.1, fun i hi => round_op hd (fun a' q => ih _ a' q) (h.2 i hi).2⟩
theorem round_seq {ops : Array Oper} {F : Fence} (t : List Oper) : ∀ (k : Nat) (listed : Array Bool) (a : Act) (w : World), (∀ j, t[j]? = ops[k + j]?) → Region.seqB md ops t.length k listed = true → wpListIn F m P ops Q t a w → wpAnyIn F m P md ops Q t.length listed a w := by
  induction t with
  | nil => intro k listed a w _ hB h; exact ⟨by simpa [Region.seqB] using hB, h⟩
  | cons o t ih =>
    intro k listed a w hl hB h
    have h0 : ops[k]? = some o := by simpa using (hl 0).symm
    simp only [List.length_cons, Region.seqB, Bool.and_eq_true, decide_eq_true_eq] at hB
    refine ⟨fun e => (by rw [hB.1] at e; cases e), fun i hi => ?_⟩
    obtain rfl : i = k := by rw [hB.1] at hi; simpa using hi
    have q : wpOpIn F m P ops Q i (wpListIn F m P ops Q t) a w := by unfold wpOpIn; simp only [h0]; exact h
    exact wpOpIn_mono (fun a' w' h' => ih (i + 1) _ a' w' (fun j => by have := hl (j + 1); rw [show i + 1 + j = i + (j + 1) by omega, ← this]; simp) hB.2 h') q
theorem round_region {id : Nat} {a : Act} (n : Nat) (hm : P.follows .mixedOrders = true) (hd : noDefer l = true) (hB : Region.lexTailB .any l.toArray n = true)
    (h : wpStill P l.toArray w.drew (fun a' => wpListIn (Fence.wide.inRound r) m P l.toArray Q (l.drop n) a' w.drew) (l.take n) a) : (Code.region id l.toArray true).wpIn (Fence.wide.inRound r) m P Q a w := by
  simp only [Region.lexTailB, Bool.and_eq_true, decide_eq_true_eq] at hB
  obtain ⟨⟨⟨⟨b1, b2⟩, b3⟩, b4⟩, b5⟩ := hB
  have hn : n < l.length := by simpa using b2
  have z1 : (l.take n).length = n := by rw [List.length_take]; omega
  have z2 : (l.drop n).length = l.toArray.size - n := by simp
  have inv : HeadInv .any l.toArray n (Array.replicate l.toArray.size false) := by
    refine ⟨by simp, fun j oj _ hl => ?_, fun t _ ht => getD_in (by simpa using ht) (getD_replicate_false _ _)⟩
    rw [getD_replicate_false] at hl; cases hl
  have H := wpAnyL_lex (md := .any) (g := l.toArray.size - n) b1 b3 b4 b2 (l.take n) 0 _ a (fun j hj => by
    rw [z1] at hj
    rw [Nat.zero_add, List.getElem?_take, if_pos hj]; simp) (by rw [z1]; omega) inv (by rw [z1]; exact b5) h
  refine wpIn_region_any hm ?_
  have key := round_head (m := m) (r := r) (Q := Q) hd (g := l.toArray.size - n) (fun listed a' q => by
    have := round_seq (md := .any) (Q := Q) (F := Fence.wide.inRound r) (m := m) (l.drop n) n listed a' w.drew (fun j => by simp [List.getElem?_drop]) (by rw [z2]; exact q.1) q.2
    rwa [z2] at this) _ _ _ H
  rw [z1, show n + (l.toArray.size - n) = l.toArray.size by simp; omega] at key
  exact key
end
end Go.Proofs.YtlfbjgeobibnhaaGreatDoor.TX
/-
  PLAIN: a statement that draws its order, in a round of a range over a function, by a condition S on the world that need not hold behind what waits for all that was taken first.
-/
namespace Go.Proofs.YtlfbjgeobibnhaaGreatDoor.TX
open Go.RowKit
set_option maxRecDepth 100000
set_option linter.unusedVariables false
set_option linter.unusedSimpArgs false
section
variable {P : Program} {ops : Array Oper} {Q : Exit → Act → World → Prop} {md : Region.Mode} {S : World → Prop} {aw : List Nat}

def wpAnyS (P : Program) (md : Region.Mode) (ops : Array Oper) (Q : Exit → Act → World → Prop) (S : World → Prop) (aw : List Nat) : Nat → Array Bool → Act → World → Prop
  | 0, listed, a, w => Region.ready md ops listed = [] ∧ Q .normal a w
  | fuel + 1, listed, a, w =>
    (Region.ready md ops listed = [] → Q .normal a w) ∧
    ∀ i ∈ Region.ready md ops listed, wpOp P ops Q i (fun a' w' => (i ∉ aw → S w') ∧ wpAnyS P md ops Q S aw fuel (listed.setIfInBounds i true) a' w') a w

theorem wpAny_of_S : ∀ (fuel : Nat) (listed : Array Bool) (a : Act) (w : World), wpAnyS P md ops Q S aw fuel listed a w → wpAny P md ops Q fuel listed a w
  | 0, _, _, _, h => h
  | fuel + 1, _, _, _, h => ⟨h.1, fun i hi => wpOp_mono (fun a' w' h' => wpAny_of_S fuel _ a' w' h'.2) (h.2 i hi)⟩

/-- What is taken first is awaited by all of 'aw'. -/
def awaitedB (md : Region.Mode) (ops : Array Oper) (aw : List Nat) (i : Nat) : Bool :=
  aw.all fun j => match ops[j]? with
    | some oj => oj.after.any fun e => Region.binds md e && e.on == i
    | none => false
theorem awaited_spec {i j : Nat} {oj : Oper} (h : awaitedB md ops aw i = true) (hj : ops[j]? = some oj) (hno : ∀ e ∈ oj.after, Region.binds md e = true → e.on ≠ i) : j ∉ aw := fun hm => by
  have h1 := List.all_eq_true.1 h j hm
  simp only [hj] at h1
  obtain ⟨e, he, hb⟩ := Array.any_eq_true'.1 h1
  simp only [Bool.and_eq_true, beq_iff_eq] at hb
  exact hno e he hb.1 hb.2

theorem wpAnyS_first {i : Nat} {oi : Oper} {v : Value} (hi : ops[i]? = some oi) (hsel : ∀ (j : Nat) (o : Oper) cs b, ops[j]? = some o → o.op ≠ .select cs b)
    (haw : awaitedB md ops aw i = true) (hQ : ∀ c a w, Q (.panic c) (a.put oi.dst v) w → Q (.panic c) a w) :
    ∀ (fuel : Nat) (listed : Array Bool) (a : Act) (w : World),
      (∀ j oj, ops[j]? = some oj → j ≠ i → listed.getD j true = false → (∀ e ∈ oj.after, Region.binds md e = true → e.on ≠ i) → oi.apart ops oj = true) →
      i ∈ Region.ready md ops listed → YieldsIf P ops S oi v a → S w →
      wpAnyS P md ops Q S aw fuel (listed.setIfInBounds i true) (a.put oi.dst v) w → wpAnyS P md ops Q S aw (fuel + 1) listed a w := by
  intro fuel
  induction fuel with
  | zero =>
    intro listed a w _ hr hy hS H
    refine ⟨fun h => (by rw [h] at hr; cases hr), fun j hj => ?_⟩
    by_cases hji : j = i
    · subst hji; exact hy.wpOp hi hS ⟨fun _ => hS, H⟩
    · have := ready_mono hj hji
      rw [H.1] at this
      cases this
  | succ fuel ih =>
    intro listed a w hfree hr hy hS H
    refine ⟨fun h => (by rw [h] at hr; cases hr), fun j hj => ?_⟩
    by_cases hji : j = i
    · subst hji; exact hy.wpOp hi hS ⟨fun _ => hS, H⟩
    · have h1 := H.2 j (ready_mono hj hji)
      obtain ⟨hjun, oj, hoj, hall⟩ := mem_ready.1 hj
      have hnot : ∀ e ∈ oj.after, Region.binds md e = true → e.on ≠ i := fun e he hb heq => by
        have h1 := hall e he hb
        have h0 := (mem_ready.1 hr).1
        rw [heq] at h1
        rcases Nat.lt_or_ge i listed.size with h' | h'
        · simp [h'] at h0 h1; rw [h0] at h1; cases h1
        · simp [Array.getElem?_eq_none h'] at h1
      have hna : j ∉ aw := awaited_spec haw hoj hnot
      have h2 := wpOp_putIf hoj (hfree j oj hoj hji hjun hnot) (fun cs b => hsel i oi cs b hi) (fun cs b => hsel j oj cs b hoj) hQ hy h1
      have hfree' : ∀ k ok, ops[k]? = some ok → k ≠ i → (listed.setIfInBounds j true).getD k true = false →
          (∀ e ∈ ok.after, Region.binds md e = true → e.on ≠ i) → oi.apart ops ok = true := fun k ok hk hki hun hno => by
        refine hfree k ok hk hki ?_ hno
        by_cases hjk : j = k
        · subst hjk; exact hjun
        · rw [getD_set_ne true hjk] at hun; exact hun
      refine wpOp_mono (fun a' w' h3 => ⟨h3.2.1, ih (listed.setIfInBounds j true) a' w' hfree' (ready_mono hr (Ne.symm hji)) h3.1 (h3.2.1 hna) ?_⟩) h2
      rw [Array.setIfInBounds_comm _ _ hji]
      exact h3.2.2

theorem wpAnyS_take {i : Nat} {oi : Oper} {v : Value} {fuel : Nat} {listed : Array Bool} {a : Act} {w : World} (hi : ops[i]? = some oi)
    (hs : Region.noSelect ops = true) (hf : Region.free md ops listed i = true) (hr : (Region.ready md ops listed).contains i = true) (haw : awaitedB md ops aw i = true)
    (hQ : ∀ c a w, Q (.panic c) (a.put oi.dst v) w → Q (.panic c) a w) (hy : YieldsIf P ops S oi v a) (hS : S w)
    (h : wpAnyS P md ops Q S aw fuel (listed.setIfInBounds i true) (a.put oi.dst v) w) : wpAnyS P md ops Q S aw (fuel + 1) listed a w :=
  wpAnyS_first hi (Region.noSelect_spec hs) haw hQ fuel listed a w (Region.free_spec hi hf) (by simpa using hr) hy hS h

/-- One operation alone may come up. -/
theorem wpAnyS_one {i : Nat} {o : Oper} {fuel : Nat} {listed : Array Bool} {a : Act} {w : World} (hr : Region.ready md ops listed = [i]) (ho : ops[i]? = some o)
    (h : ∀ K' : Act → World → Prop, Shut (∀ a w, (i ∉ aw → S w) → wpAnyS P md ops Q S aw fuel (listed.setIfInBounds i true) a w → K' a w) → if Region.wanted o (yielded ops a.tmps) = true then Oper.wp P o a w K' Q else K' (a.put o.dst undef) w) :
    wpAnyS P md ops Q S aw (fuel + 1) listed a w := by
  refine ⟨fun h0 => (by rw [h0] at hr; cases hr), ?_⟩
  rw [hr]
  intro j hj
  obtain rfl : j = i := by simpa using hj
  exact wpOp_step ho (fun K' hK => h K' (fun a w hS hW => hK a w ⟨hS, hW⟩))

theorem wpAnyS_done {listed : Array Bool} {a : Act} {w : World} (hr : Region.ready md ops listed = []) (h : Q .normal a w) :
    ∀ fuel, wpAnyS P md ops Q S aw fuel listed a w
  | 0 => ⟨hr, h⟩
  | _ + 1 => ⟨fun _ => h, by rw [hr]; simp⟩
end

/-- The post, 'False' off the normal end. -/
def OnNormal (Q : Exit → Act → World → Prop) : Exit → Act → World → Prop := fun e a w => e = .normal ∧ Q .normal a w
theorem OnNormal.noOut {Q : Exit → Act → World → Prop} : ¬ LetsOut (OnNormal Q) := fun ⟨_, _, h, _⟩ => by cases h
section
variable {P : Program} {l : List Oper} {md : Region.Mode} {r m : Nat} {Q : Exit → Act → World → Prop}
theorem round_plain_op (hd : noDefer l = true) {i : Nat} {a : Act} {w : World} {K K' : Act → World → Prop} (hK : ∀ a w, K a w → K' a w) (hh : wpOp P l.toArray (OnNormal Q) i K a w) : wpOpIn (Fence.wide.inRound r) m P l.toArray Q i K' a w := by
  unfold wpOp at hh
  unfold wpOpIn
  cases ho : l.toArray[i]? with
  | none => simp only [ho] at hh ⊢; exact hK _ _ hh
  | some o =>
    have hmem : o ∈ l := by simpa using Array.mem_of_getElem? ho
    simp only [ho] at hh ⊢
    by_cases hw : Region.wanted o (yielded l.toArray a.tmps) = true
    · rw [if_pos hw] at hh ⊢
      rcases hh with hh | hh
      · refine ⟨fun _ _ => trivial, ?_⟩
        rw [Oper.semAt_eq _ _ _ (noDefer_of hd hmem)]
        unfold Oper.wp at hh
        generalize (execOp a.eval o).run P w = x at hh
        cases x with
        | halt x w' => cases x <;> first | exact hh.elim | (obtain ⟨h, _⟩ := hh; cases h)
        | ok x w' =>
          cases x with
          | value v => exact hK _ _ hh
          | skip => exact hK _ _ hh
          | defer d => exact hK _ _ hh
          | enter f args =>
            refine ⟨fun e => (by cases e), CallsIn.inRound r (callsIn_wide.2 hh) |>.mono ?_⟩
            intro e w'' he
            cases e with
            | returned v => exact hK _ _ he
            | panicked c => obtain ⟨h, _⟩ := he; cases h
            | outgrown => exact (OnNormal.noOut he).elim
          | row row args =>
            refine ⟨fun e => (by cases e), RowsIn.mono (R := fun v w'' => K (a.put o.dst v) w'') ?_ (fun v w'' he => hK _ _ he)⟩
            intro c cs _
            obtain ⟨v, w1, q, s⟩ := hh c cs
            exact ⟨v, w1, q, stepsIn_wide.2 s⟩
          | _ => exact hh.elim
      · exact (OnNormal.noOut hh.2).elim
    · rw [if_neg hw] at hh ⊢
      exact ⟨fun _ _ => trivial, hK _ _ hh⟩
theorem round_plain (hd : noDefer l = true) : ∀ (f : Nat) (listed : Array Bool) (a : Act) (w : World), wpAny P md l.toArray (OnNormal Q) f listed a w → wpAnyIn (Fence.wide.inRound r) m P md l.toArray Q f listed a w
  | 0, _, _, _, h => ⟨h.1, h.2.2⟩
  | f + 1, _, _, _, h => ⟨fun e => (h.1 e).2, fun i hi => round_plain_op hd (fun a' w' q => round_plain hd f _ a' w' q) (h.2 i hi)⟩
/-- A statement that draws its order, in a round: as outside, with S. -/
theorem round_held (S : World → Prop) (aw : List Nat) {id : Nat} {a : Act} {w : World} (hm : P.follows .mixedOrders = true) (hd : noDefer l = true)
    (h : wpAnyS P .any l.toArray (OnNormal Q) S aw l.toArray.size (Array.replicate l.toArray.size false) a w.drew) : (Code.region id l.toArray true).wpIn (Fence.wide.inRound r) m P Q a w :=
  wpIn_region_any hm (round_plain hd _ _ _ _ (wpAny_of_S _ _ _ _ h))
end
end Go.Proofs.YtlfbjgeobibnhaaGreatDoor.TX
/-
  WALKS: All of a tree: a range over the index' iterator.
-/
namespace Go.Proofs.YtlfbjgeobibnhaaGreatDoor.TX
open Go.RowKit HL
open IX (ptr El cellsK OwnK IxAt Rw numOf mayS putL putE ins del takeL strK RdK keys rowK KeepA Iter)
set_option maxRecDepth 100000
set_option linter.unusedVariables false
set_option linter.unusedSimpArgs false
attribute [local go_sem] Oper.semAt_some

/-- The iterator, whose rows are known to be of the list. -/
theorem each_stops_in (F : Fence) (n : Nat) (hF : F.fn 75) (hro : F.round = none) (hn : 1 ≤ n) (Bb : Nat) (A : Option Addr) (c : Nat) (xs : List Rw) (w : World)
    (hb : w.cell? ⟨Bb, 0, none⟩ = some (.slice A xs.length c)) (hBb : Bb < w.heap.size) (hr : RdK rowK w w.heap.size A xs) (hlen : xs.length ≤ 1000000) :
    SeqStopsK F n Tryz.prog 75 #[.pointer (some ⟨Bb, 0, none⟩)] (fun x : {r : Rw // r ∈ xs} => #[str x.1.1, .int .i64 x.1.2]) (KeepA A) (fun ys => ys.map (·.1) = xs) (fun pre => pre.map (·.1) <+: xs) xs.length w := fun l J Jx W hW hJ hJx hY h0 => by
  refine (IX.each1_in F n hF hro hn l Bb A c xs (fun pre W => ∃ p : List {r : Rw // r ∈ xs}, p.map (·.1) = pre ∧ J p W) (fun pre W => ∃ p : List {r : Rw // r ∈ xs}, p.map (·.1) = pre ∧ Jx p W) ?_ W ?_ ((hW.cell (p := ⟨Bb, 0, none⟩) hBb).trans hb) ((hr.below hW).more hW.size) hlen ⟨[], rfl, h0⟩).mono ?_
  · rintro pre x W1 ⟨p, rfl, hp⟩ hpre
    have hx : x ∈ xs := hpre.subset (by simp)
    have hl : p.length < xs.length := by have := hpre.length_le; simp at this; omega
    obtain ⟨fn, tmps, assign, body, hy, hR⟩ := hY p ⟨x, hx⟩ W1 hp hl
    refine ⟨fn, tmps, assign, body, hy, hR.mono ?_⟩
    rintro e W' (⟨h1, h2, h3⟩ | ⟨h1, h2⟩)
    · exact .inl ⟨h1, ⟨p ++ [⟨x, hx⟩], by simp, h2⟩, h3⟩
    · exact .inr ⟨h1, ⟨p ++ [⟨x, hx⟩], by simp, h2⟩⟩
  · intro s W1 W2 row ⟨p, e, hp⟩ hg hr2
    exact ⟨p, e, hJ p W1 W2 row hp hg hr2⟩
  · rintro e W' ⟨hv, h⟩
    refine ⟨hv, ?_⟩
    rcases h with ⟨ys, rfl, p, e, hp⟩ | ⟨pre, hpre, p, e, hp⟩
    · exact .inl ⟨p, e, hp⟩
    · exact .inr ⟨p, by show p.map (·.1) <+: xs; rw [e]; exact hpre, hp⟩
theorem box_then {W W1 : World} {B : Nat} {t : TypeId} {v : Value} (h : Boxed W B t v) (k : Below W.heap.size W W1) : Boxed W1 B t v := (k.block B h.lt).trans h
theorem rowbox_own {β : Type} (BL base B : Nat) (f : β → List Ob) : OwnFrom B (fun (pre : β) W => ∃ v, Boxed W BL 38 v ∧ OwnK obK W base v (f pre)) := fun s W W' row ⟨v, h1, h2⟩ hg hr =>
  have hr' : ∀ k, row = some k → ∃ o : Obj, W.heap[k]? = some o ∧ o.isCells = false := fun k e => (hr k e).2
  ⟨v, h1.kept hg (IX.boxed_far h1 hr'), World.ownsRow.kept h2 hg (IX.own_far h2 hr')⟩
theorem plc_empty (l : List Rw) : IX.plc l [] = 0 := IX.plc_none fun r _ h => absurd h (by simp)
/-- append(own, xs...), in a statement that draws its order. -/
theorem stepK_spread {α : Type} (K : El α) {ops : Array Oper} {o : Oper} {a : Act} {Q : Exit → Act → World → Prop} {N : Act → World → Prop} {w : World} {E : Prop} (hgd : o.guard = none) (s x : Operand)
    (ho : o.op = .call { callee := .builtin .append, args := #[s, x], argTypes := #[K.T, K.T] }) (base : Nat) (v : Value) (xs : List α) (hs : a.eval s = v) (hown : OwnK K w base v xs)
    (B : Nat) (A : Option Addr) (n c : Nat) (ys : List α) (hx : a.eval x = .slice A n c) (hm : ys.length = n) (hr : RdK K w B A ys) (hl : xs.length + ys.length ≤ 1000000) (hbase : base ≤ w.heap.size)
    (h : ∀ v' w', OwnK K w' base v' (xs ++ ys) → w.grownBy w' v.ownBlock → (v'.ownBlock = v.ownBlock ∨ v'.ownBlock = some w.heap.size) → N (a.put o.dst v') w') : if Region.wanted o (yielded ops a.tmps) = true then Oper.wp Tryz.prog o a w N Q else E := by
  obtain ⟨v', w', h1, h2, h3, h5⟩ := IX.run_spreadK K o.type w base v xs hown B A n c ys hm hr hl hbase
  have hw : Region.wanted o (yielded ops a.tmps) = true := by simp [Region.wanted, hgd]
  rw [if_pos hw]
  unfold Oper.wp
  simp [execOp, ho, resolve, invoke, builtin, hs, hx, h1, Result.andThen]
  exact h v' w' h2 h3 h5
theorem own_cells {α : Type} {K : El α} {W : World} {base : Nat} {v : Value} {xs : List α} (h : OwnK K W base v xs) {j : Nat} {o : Obj} (ej : v.ownBlock = some j) (hj : W.heap[j]? = some o) : o.isCells = true := by
  rcases h.2 with ⟨rfl, _⟩ | ⟨g, cap, cur, rfl, _, hgb, _⟩
  · simp [Value.ownBlock] at ej
  · obtain rfl : g = j := by simpa [Value.ownBlock] using ej
    rw [hgb] at hj; cases hj; rfl
/-- The objects of rows. -/
def obsR (s : Sl) (l : List Rw) : List Ob := l.map fun r => obAt s r.1
section
variable {w : World} {b0 : Nat} {L : Lay} {s : Sl}
theorem row_slot (wf : Wf s) {o : Option Bs} {r : Rw} (h : r ∈ rowsOf s o) : ∃ k : Nat, r.2 = (k : Int) ∧ k < 64 ∧ In s k (obAt s r.1) ∧ hb (obAt s r.1) = r.1 := by
  obtain ⟨k, a, e1, h1, h2, _⟩ := (mem_rowsOf wf).1 h
  have := (slotN_in wf h1).2.2
  rw [h2] at this
  exact ⟨k, e1, Nat.lt_of_lt_of_le h1.lt wf.ln, by rw [this]; exact h1, by rw [this]; exact h2⟩
set_option maxHeartbeats 8000000 in
theorem all_in (h : Tree w b0 L s) :
    CallsIn Fence.wide 9 Tryz.prog 11 #[ptr L.T] w fun e w' => ∃ v', e = .returned v' ∧ OwnK obK w' w.heap.size v' (obsR s (rowsOf s none)) ∧ Below w.heap.size w w' := by
  have hF : Fence.wide.fn 11 := trivial
  have hF1 : Fence.wide.fn 38 := trivial
  have hF2 : Fence.wide.fn 39 := trivial
  have hF3 : Fence.wide.fn 75 := trivial
  have CM := Lib.hid (fun W (q : Below w.heap.size w W) => made_any (h.then q).t.c)
  have CF : Hid (∀ W, Below w.heap.size w W → Calls Tryz.prog 39 #[ptr L.P, .string ⟨#[]⟩] W fun e w' => ∃ Bb A c, e = .returned (.func (.func 75) #[] #[.pointer (some ⟨Bb, 0, none⟩)]) ∧ Iter w' W.heap.size Bb A c (rowsOf s none) ∧ Below W.heap.size W w') := Lib.hid (fun W q => by
    have := IX.from_any L.P L.vP (rowsOf s none) [] W (h.then q).t.p (Nat.le_trans (h.pl none) (by decide))
    rw [plc_empty, List.drop_zero] at this
    exact this)
  have HT := Lib.hid h
  have C2 := Lib.hid (fun W (q : Below w.heap.size w W) => (h.then q).t.c2)
  have hb : Below w.heap.size w w := Below.refl _ _
  clear h
  refine callsIn_of_wp_marks Tryz.func11 rfl hF ?_ rfl
  simp only [Tryz.ntmps11, List.size_toArray, List.length_cons, List.length_nil, Nat.reduceAdd, Nat.reduceSub, Array.replicate_succ, Array.replicate_zero, List.push_toArray, List.append_toArray, List.nil_append, List.cons_append]
  have HBL := Lib.hid (bAl (bAl hb (.cells #[ptr L.T] 24)) (.cells #[.slice none 0 0] 38))
  have c2 := C2.out _ HBL.out
  gi_wp2_with (first
    | (gi_at_call 38; refine (callsIn_wide.2 (CM.out _ (bAl hb _))).mono ?_; rintro e w1 ⟨rfl, rfl⟩)
    | (gi_at_call 39; refine (callsIn_wide.2 (CF.out _ HBL.out)).mono ?_; rintro e w2 ⟨Bb, A, c, rfl, it, k2⟩; have IT := Lib.hid it; clear it))
  have bT : Boxed w2 w.heap.size 24 (ptr L.T) := box_then ((Boxed.new w 24 (ptr L.T)).alloc (.cells #[.slice none 0 0] 38)) k2
  have bL0 : Boxed w2 (w.alloc (.cells #[ptr L.T] 24)).heap.size 38 (.slice none 0 0) := box_then (Boxed.new _ _ _) k2
  have hzL : (w.alloc (.cells #[ptr L.T] 24)).heap.size = w.heap.size + 1 := by simp
  rw [hzL] at bL0
  have hB2 := bThen HBL.out k2
  have hz2 : w.heap.size + 2 ≤ w2.heap.size := by have := k2.size; simpa using this
  have hBb : Bb < w2.heap.size := IT.out.box.lt
  have hAb : ∀ a, A = some a → w.heap.size + 2 ≤ a.block ∧ a.block < w2.heap.size := fun a e => by have := IT.out.own.lt a.block (by rw [e]; rfl); simpa using this
  have hrl := HT.out.pl none
  have hseq := each_stops_in Fence.wide (9 - 1) hF3 rfl (by omega) Bb A c (rowsOf s none) w2 IT.out.box.cell hBb ((OwnK.form IT.out.own).elim fun A' ⟨c', e, r, _⟩ => by cases e; exact r) (by omega)
  clear c2
  refine wpIn_rangeFunc_ownG rfl (by omega) (gf := 75) (lb := #[.pointer (some ⟨Bb, 0, none⟩)]) rfl hF3 (enters_of Tryz.func75 (by kernel_rfl) rfl)
    hseq (fun h k => h.t k) (IX.keepA_b (w := w2) (fun a e => (hAb a e).2)) (Below.refl _ _) (fun _ => rfl)
    (fun pre W => (∃ v, Boxed W (w.heap.size + 1) 38 v ∧ OwnK obK W w2.heap.size v (obsR s (pre.map (·.1)))) ∧ Boxed W w.heap.size 24 (ptr L.T) ∧ Below w.heap.size w W ∧ w2.heap.size ≤ W.heap.size)
    (fun _ _ _ => False)
    ?own
    (fun _ _ _ _ _ h _ _ => h)
    ⟨⟨_, bL0, OwnK.nil_ _ _ _⟩, bT, hB2, Nat.le_refl _⟩
    (fun x => { tmps := #[ptr L.T, ptr w.heap.size, .slice none 0 0, ptr (w.heap.size + 1), undef, .int .i64 x.1.2, ptr L.T, .bool true, .bool false, ptr L.T, ptr L.T, .pointer (some ⟨L.T, 2, none⟩), ptr L.P, .func (.func 75) #[] #[.pointer (some ⟨Bb, 0, none⟩)], str x.1.1, .int .i64 x.1.2, undef, undef, undef, undef, undef, undef, undef, undef, undef, undef], defers := [] }) ?assign ?body ?done ?stop
  case own => exact OwnFrom.and (rowbox_own _ _ _ (fun pre : List {r : Rw // r ∈ rowsOf s none} => obsR s (pre.map (·.1)))) (OwnFrom.and (Own.from (boxed_own _ _ (fun _ => ptr L.T)) _) (OwnFrom.and (ownFrom_below (Nat.le_refl _) (by omega)) (fun _ _ _ _ h hg _ => Nat.le_trans h hg.size)))
  case assign =>
    intro l x W K hK
    gi_wp2
    exact hK
  case body =>
    rintro l' pre ⟨⟨hd, nn⟩, hx⟩ W ⟨⟨v, hv, hrow⟩, hT, hB, hzW⟩ hlt
    obtain ⟨k, ek, hk64, hin, _⟩ := row_slot HT.out.wf hx
    obtain rfl : nn = (k : Int) := ek
    have hk2 : (k : Int) < 64 := by omega
    have cl := hv.cell
    have ct := hT.cell
    have fl := hv.frozen
    obtain ⟨c0, c1, c2, c3, c4, c5, c6, c7, c8, c9, c10, c11, c12, c13⟩ := slot_cells (HT.out.then hB).t.c hk64 hin
    have hlen : (obsR s (pre.map (·.1))).length ≤ 100 := by simp [obsR]; omega
    have hrow' : OwnK obK (W.alloc (.cells (obCells (obAt s hd)) 33)).drew w2.heap.size v (obsR s (pre.map (·.1))) := hrow.below (bAl (Below.refl _ _) _).drew
    have hlw : w.heap.size + 1 < W.heap.size := by omega
    have hne : some (w.heap.size + 1) ≠ v.ownBlock := fun e => by have := (hrow.lt _ e.symm).1; omega
    have HROW := Lib.hid hrow
    have HROW' := Lib.hid hrow'
    have HTB := Lib.hid hT
    have HBW := Lib.hid hB
    have HV := Lib.hid hv
    have HNE := Lib.hid hne
    have RQ : Hid (RdK obK (W.alloc (.cells (obCells (obAt s hd)) 33)).drew (W.heap.size + 1) (some ⟨W.heap.size, 0, none⟩) [obAt s hd]) := Lib.hid (RdK.lit W (obAt s hd) (obCells (obAt s hd)) rfl 33)
    have HV1 := Lib.hid (box_then hv (bAl (Below.refl _ W) (.cells (obCells (obAt s hd)) 33)).drew)
    have hLT : L.T < w.heap.size := HT.out.t.c.lt
    have HS := Lib.hid (fun W' (q : Below w2.heap.size W W') => (⟨(q.cell (p := ⟨w.heap.size + 1, 0, none⟩) (by show w.heap.size + 1 < w2.heap.size; omega)).trans cl, (q.cell (p := ⟨w.heap.size, 0, none⟩) (by show w.heap.size < w2.heap.size; omega)).trans ct, slot_cells (HT.out.then (hB.trans (q.mono (by omega)))).t.c hk64 hin⟩ : (fun w' : World => w'.cell? ⟨w.heap.size + 1, 0, none⟩ = some v ∧ w'.cell? ⟨w.heap.size, 0, none⟩ = some (ptr L.T) ∧ w'.cell? ⟨L.T, 4 + k * 14, none⟩ = some (.string (obAt s hd).handle) ∧ w'.cell? ⟨L.T, 4 + k * 14 + 1, none⟩ = some (.int .u8 (obAt s hd).kind) ∧ w'.cell? ⟨L.T, 4 + k * 14 + 2, none⟩ = some (.string (obAt s hd).parent) ∧ w'.cell? ⟨L.T, 4 + k * 14 + 3, none⟩ = some (.int .u8 (obAt s hd).typ) ∧ w'.cell? ⟨L.T, 4 + k * 14 + 4, none⟩ = some (.string (obAt s hd).ref) ∧ w'.cell? ⟨L.T, 4 + k * 14 + 5, none⟩ = some (.int .i64 (obAt s hd).lo) ∧ w'.cell? ⟨L.T, 4 + k * 14 + 6, none⟩ = some (.int .i64 (obAt s hd).hi) ∧ w'.cell? ⟨L.T, 4 + k * 14 + 7, none⟩ = some (.int .u8 (obAt s hd).digits) ∧ w'.cell? ⟨L.T, 4 + k * 14 + 8, none⟩ = some (.bool (obAt s hd).on) ∧ w'.cell? ⟨L.T, 4 + k * 14 + 9, none⟩ = some (.bool (obAt s hd).has) ∧ w'.cell? ⟨L.T, 4 + k * 14 + 10, none⟩ = some (.int .i64 (obAt s hd).value) ∧ w'.cell? ⟨L.T, 4 + k * 14 + 11, none⟩ = some (.int .i64 (obAt s hd).low) ∧ w'.cell? ⟨L.T, 4 + k * 14 + 12, none⟩ = some (.int .i64 (obAt s hd).high) ∧ w'.cell? ⟨L.T, 4 + k * 14 + 13, none⟩ = some (.int .u8 (obAt s hd).assoc)) W'))
    have hHeld0 := HS.out _ (Below.refl _ W).drew
    have HK7 : Hid (Below w2.heap.size W (W.alloc (.cells (obCells (obAt s hd)) 33)).drew) := Lib.hid ((bAl (Below.refl _ W) _).drew.mono hzW)
    have HKB : Hid (∀ w1, (W.alloc (.cells (obCells (obAt s hd)) 33)).drew.grownBy w1 v.ownBlock → Below w2.heap.size W w1) := Lib.hid (fun w1 g => HK7.out.grown g (by show w2.heap.size ≤ (W.alloc _).heap.size; simp; omega) (fun k e => (hrow.lt k e).1))
    clear hseq hT hB hrow hrow' hv bL0 bT hB2 hne
    obtain ⟨acc, hacc⟩ : ∃ acc, obsR s (pre.map (·.1)) = acc := ⟨_, rfl⟩
    have HACC : Hid (obsR s ((pre ++ [(⟨(hd, (k : Int)), hx⟩ : {r : Rw // r ∈ rowsOf s none})]).map fun y => y.1) = acc ++ [obAt s hd]) := Lib.hid (by rw [← hacc]; simp [obsR])
    simp only [hacc] at HROW HROW' hlen
    clear hacc
    generalize obAt s hd = o at *
    gi_wp2
    refine round_held (fun w' : World => w'.cell? ⟨w.heap.size + 1, 0, none⟩ = some v ∧ w'.cell? ⟨w.heap.size, 0, none⟩ = some (ptr L.T) ∧ w'.cell? ⟨L.T, 4 + k * 14, none⟩ = some (.string o.handle) ∧ w'.cell? ⟨L.T, 4 + k * 14 + 1, none⟩ = some (.int .u8 o.kind) ∧ w'.cell? ⟨L.T, 4 + k * 14 + 2, none⟩ = some (.string o.parent) ∧ w'.cell? ⟨L.T, 4 + k * 14 + 3, none⟩ = some (.int .u8 o.typ) ∧ w'.cell? ⟨L.T, 4 + k * 14 + 4, none⟩ = some (.string o.ref) ∧ w'.cell? ⟨L.T, 4 + k * 14 + 5, none⟩ = some (.int .i64 o.lo) ∧ w'.cell? ⟨L.T, 4 + k * 14 + 6, none⟩ = some (.int .i64 o.hi) ∧ w'.cell? ⟨L.T, 4 + k * 14 + 7, none⟩ = some (.int .u8 o.digits) ∧ w'.cell? ⟨L.T, 4 + k * 14 + 8, none⟩ = some (.bool o.on) ∧ w'.cell? ⟨L.T, 4 + k * 14 + 9, none⟩ = some (.bool o.has) ∧ w'.cell? ⟨L.T, 4 + k * 14 + 10, none⟩ = some (.int .i64 o.value) ∧ w'.cell? ⟨L.T, 4 + k * 14 + 11, none⟩ = some (.int .i64 o.low) ∧ w'.cell? ⟨L.T, 4 + k * 14 + 12, none⟩ = some (.int .i64 o.high) ∧ w'.cell? ⟨L.T, 4 + k * 14 + 13, none⟩ = some (.int .u8 o.assoc)) [9] (by kernel_rfl) (by kernel_rfl) ?_
    simp only [List.size_toArray, List.length_cons, List.length_nil, Nat.reduceAdd, Array.replicate_succ, Array.replicate_zero, List.push_toArray, List.append_toArray, List.nil_append, List.cons_append]
    -- REGION6
    refine wpAnyS_take (i := 0) (oi := { dst := some 16, op := Op.load 38 (Operand.tmp 3), type := 38, pos := "tree.go:160", after := #[], guard := none }) (v := ?vv0) rfl (by kernel_rfl) (by kernel_rfl) (by kernel_rfl) (by kernel_rfl) (fun _ _ _ h => nomatch h.1) (Or.inl ⟨by rfl, ?hy0⟩) (by assumption) ?rest0
    case hy0 => (intro w hSw; (try dsimp only at hSw); obtain ⟨s1, s2, s3, s4, s5, s6, s7, s8, s9, s10, s11, s12, s13, s14, s15, s16⟩ := hSw; go_simp; try with_reducible rfl)
    simp only [Act.put, List.setIfInBounds_toArray, List.set_cons_zero, List.set_cons_succ]
    refine wpAnyS_take (i := 1) (oi := { dst := some 17, op := Op.load 24 (Operand.tmp 1), type := 24, pos := "tree.go:160", after := #[], guard := none }) (v := ?vv1) rfl (by kernel_rfl) (by kernel_rfl) (by kernel_rfl) (by kernel_rfl) (fun _ _ _ h => nomatch h.1) (Or.inl ⟨by rfl, ?hy1⟩) (by assumption) ?rest1
    case hy1 => (intro w hSw; (try dsimp only at hSw); obtain ⟨s1, s2, s3, s4, s5, s6, s7, s8, s9, s10, s11, s12, s13, s14, s15, s16⟩ := hSw; go_simp; try with_reducible rfl)
    simp only [Act.put, List.setIfInBounds_toArray, List.set_cons_zero, List.set_cons_succ]
    refine wpAnyS_take (i := 2) (oi := { dst := some 18, op := Op.move (Operand.tmp 5), type := 3, pos := "tree.go:160", after := #[], guard := none }) (v := ?vv2) rfl (by kernel_rfl) (by kernel_rfl) (by kernel_rfl) (by kernel_rfl) (fun _ _ _ h => nomatch h.1) (Or.inl ⟨by rfl, ?hy2⟩) (by assumption) ?rest2
    case hy2 => (intro w hSw; (try dsimp only at hSw); obtain ⟨s1, s2, s3, s4, s5, s6, s7, s8, s9, s10, s11, s12, s13, s14, s15, s16⟩ := hSw; go_simp; try with_reducible rfl)
    simp only [Act.put, List.setIfInBounds_toArray, List.set_cons_zero, List.set_cons_succ]
    refine wpAnyS_take (i := 3) (oi := { dst := some 19, op := Op.nilCheck (Operand.tmp 17), type := 0, pos := "tree.go:160", after := #[{ on := 1, ground := Ground.data }], guard := none }) (v := ?vv3) rfl (by kernel_rfl) (by kernel_rfl) (by kernel_rfl) (by kernel_rfl) (fun _ _ _ h => nomatch h.1) (Or.inl ⟨by rfl, ?hy3⟩) (by assumption) ?rest3
    case hy3 => (intro w hSw; (try dsimp only at hSw); obtain ⟨s1, s2, s3, s4, s5, s6, s7, s8, s9, s10, s11, s12, s13, s14, s15, s16⟩ := hSw; go_simp; try with_reducible rfl)
    simp only [Act.put, List.setIfInBounds_toArray, List.set_cons_zero, List.set_cons_succ]
    refine wpAnyS_take (i := 4) (oi := { dst := some 20, op := Op.fieldAddr 55 (Operand.tmp 19) 4, type := 0, pos := "tree.go:160", after := #[{ on := 3, ground := Ground.data }], guard := none }) (v := ?vv4) rfl (by kernel_rfl) (by kernel_rfl) (by kernel_rfl) (by kernel_rfl) (fun _ _ _ h => nomatch h.1) (Or.inl ⟨by rfl, ?hy4⟩) (by assumption) ?rest4
    case hy4 => (intro w hSw; (try dsimp only at hSw); obtain ⟨s1, s2, s3, s4, s5, s6, s7, s8, s9, s10, s11, s12, s13, s14, s15, s16⟩ := hSw; go_simp; try with_reducible rfl)
    simp only [Act.put, List.setIfInBounds_toArray, List.set_cons_zero, List.set_cons_succ]
    refine wpAnyS_take (i := 5) (oi := { dst := some 21, op := Op.indexAddr 53 (Operand.tmp 20) (Operand.tmp 18), type := 0, pos := "tree.go:160", after := #[{ on := 4, ground := Ground.data }, { on := 2, ground := Ground.data }], guard := none }) (v := ?vv5) rfl (by kernel_rfl) (by kernel_rfl) (by kernel_rfl) (by kernel_rfl) (fun _ _ _ h => nomatch h.1) (Or.inl ⟨by rfl, ?hy5⟩) (by assumption) ?rest5
    case hy5 => (intro w hSw; (try dsimp only at hSw); obtain ⟨s1, s2, s3, s4, s5, s6, s7, s8, s9, s10, s11, s12, s13, s14, s15, s16⟩ := hSw; go_simp; try with_reducible rfl)
    simp only [Act.put, List.setIfInBounds_toArray, List.set_cons_zero, List.set_cons_succ]
    refine wpAnyS_take (i := 6) (oi := { dst := some 22, op := Op.load 33 (Operand.tmp 21), type := 33, pos := "tree.go:160", after := #[{ on := 5, ground := Ground.data }], guard := none }) (v := ?vv6) rfl (by kernel_rfl) (by kernel_rfl) (by kernel_rfl) (by kernel_rfl) (fun _ _ _ h => nomatch h.1) (Or.inl ⟨by rfl, ?hy6⟩) (by assumption) ?rest6
    case hy6 => (intro w hSw; (try dsimp only at hSw); obtain ⟨s1, s2, s3, s4, s5, s6, s7, s8, s9, s10, s11, s12, s13, s14, s15, s16⟩ := hSw; go_simp; try with_reducible rfl)
    simp only [Act.put, List.setIfInBounds_toArray, List.set_cons_zero, List.set_cons_succ]
    refine wpAnyS_one (i := 7) (o := { dst := some 23, op := Op.buildSlice 38 1 #[(0, Operand.tmp 22)], type := 38, pos := "tree.go:160", after := #[{ on := 6, ground := Ground.data }], guard := none }) (by kernel_rfl) rfl (fun K hK => ?_)
    go_simp
    refine hK.out _ _ (fun _ => HS.out _ HK7.out) ?_
    clear hK K
    try simp only [Act.put, List.setIfInBounds_toArray, List.set_cons_zero, List.set_cons_succ]
    refine wpAnyS_one (i := 8) (o := { dst := some 24, op := Op.call { callee := Callee.builtin Builtin.append, args := #[Operand.tmp 16, Operand.tmp 23], argTypes := #[38, 38] }, type := 38, pos := "tree.go:160", after := #[{ on := 0, ground := Ground.data }, { on := 7, ground := Ground.data }], guard := none }) (by kernel_rfl) rfl (fun K hK => ?_)
    refine stepK_spread obK rfl (.tmp 16) (.tmp 23) rfl w2.heap.size v acc rfl HROW'.out (W.heap.size + 1) (some ⟨W.heap.size, 0, none⟩) 1 1 [o] rfl rfl RQ.out ?c1 ?c2 ?_
    case c1 => show acc.length + 1 ≤ 1000000; omega
    case c2 => show w2.heap.size ≤ (W.alloc _).heap.size; simp; omega
    intro v' w1 o1 g1 f1
    obtain ⟨A9, c9, rfl, _, _⟩ := OwnK.form o1
    have k1 : Below w2.heap.size W w1 := HKB.out w1 g1
    have hv1 := HV1.out.kept g1 HNE.out
    have cl1 := hv1.cell
    have fl1 := hv1.frozen
    refine hK.out _ _ (fun _ => HS.out _ k1) ?_
    clear hK K
    try simp only [Act.put, List.setIfInBounds_toArray, List.set_cons_zero, List.set_cons_succ]
    refine wpAnyS_one (i := 9) (o := { dst := none, op := Op.store 38 (Operand.tmp 3) (Operand.tmp 24), type := 0, pos := "tree.go:160", after := #[{ on := 8, ground := Ground.data }, { on := 8, ground := Ground.chain }, { on := 0, ground := Ground.phase }, { on := 1, ground := Ground.phase }, { on := 2, ground := Ground.phase }, { on := 3, ground := Ground.phase }, { on := 4, ground := Ground.phase }, { on := 5, ground := Ground.phase }, { on := 6, ground := Ground.phase }, { on := 7, ground := Ground.phase }, { on := 8, ground := Ground.phase }], guard := none }) (by kernel_rfl) rfl (fun K hK => ?_)
    go_simp
    refine hK.out _ _ (fun h => absurd (by decide) h) ?_
    clear hK K
    try simp only [Act.put, List.setIfInBounds_toArray, List.set_cons_zero, List.set_cons_succ]
    refine wpAnyS_done (by kernel_rfl) ?_ _
    refine ⟨rfl, ?_⟩
    -- END6
    gi_wp2
    clear hHeld0
    have hgs := grownBy_setCell' w1 (w.heap.size + 1) (.slice A9 (acc ++ [o]).length c9)
    have e1 : (acc ++ [o]).length = acc.length + 1 := by simp
    rw [e1] at hgs o1 f1
    have hT1 : Boxed w1 w.heap.size 24 (ptr L.T) := (k1.block w.heap.size (by omega)).trans HTB.out
    have hrW : OwnK obK W w2.heap.size v acc := HROW.out
    have hown1 : OwnK obK (w1.setCell ⟨w.heap.size + 1, 0, none⟩ (.slice A9 (acc.length + 1) c9)) w2.heap.size (.slice A9 (acc.length + 1) c9) (acc ++ [o]) := World.ownsRow.kept o1 hgs (.inr fun e => by have := (o1.lt _ e).1; omega)
    have hz9 := hgs.size
    have hz8 := k1.size
    refine ⟨KeepsOthers.from ((((KeepsOthers.alloc W (.cells (obCells o) 33)).trans (KeepsOthers.drew _)).trans (KeepsOthers.of_grownBy g1 fun j ob ej hj => ?_)).trans (KeepsOthers.setCell _ _ _)) _, fun a e => ?_, ⟨_, hv1.set _, ?_⟩, hT1.other (show w.heap.size ≠ w.heap.size + 1 by omega) _, HBW.out.trans ((k1.mono (by omega)).setCell (p := ⟨w.heap.size + 1, 0, none⟩) (by show w.heap.size ≤ w.heap.size + 1; omega) _), by omega⟩
    · exact own_cells HROW'.out ej hj
    · have h9 := hAb a e
      exact (hgs.block a.block (by omega) (by simp; omega)).trans (k1.block a.block h9.2)
    · rw [HACC.out]; exact hown1
  case done =>
    rintro D ys W hD hys ⟨⟨v, hv, hrow⟩, hT, hB, hzW⟩ hK
    rw [hys] at hrow
    obtain ⟨A2, c3, rfl, _, _, _⟩ := OwnK.form hrow
    have hc1 := hv.cell
    have HRow := Lib.hid hrow
    have HBW := Lib.hid hB
    clear hrow hB hv hT hseq bT bL0 hB2 CM CF
    gi_wp2
    refine ⟨by simp, .inl ⟨_, _, rfl, run_takeDeferred hK, ?_⟩⟩
    refine ⟨_, results_tmp rfl _ _ _, _, rfl, OwnK.base (HRow.out.putObj (.deferred none) hK rfl) (by omega), HBW.out.trans (belowK_b (w := w) (Nat.le_refl _) W D _ _ (by omega) hK rfl rfl)⟩
  case stop =>
    rintro D c pre W hD hpre h hK
    exact h.elim
theorem all_any (h : Tree w b0 L s) :
    Calls Tryz.prog 11 #[ptr L.T] w fun e w' => ∃ v', e = .returned v' ∧ OwnK obK w' w.heap.size v' (obsR s (rowsOf s none)) ∧ Below w.heap.size w w' := callsIn_wide.1 (all_in h)
end
end Go.Proofs.YtlfbjgeobibnhaaGreatDoor.TX
