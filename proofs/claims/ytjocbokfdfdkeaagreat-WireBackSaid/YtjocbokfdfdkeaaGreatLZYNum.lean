/-
  WALKS: slices.Clone of bytes, Read; number; the document's Uint, Int, Truth, Text.
-/
import Derived.Test.YtjocbokfdfdkeaaGreatLZYByte
import Derived.Lib.AppendStr
import Derived.Laws.Cover3
namespace Go.Proofs.YtjocbokfdfdkeaaGreat.YX
open Go.RowKit HL
open IX (ptr El cellsK cellsK_at cellsK_len OwnK RdK Kept slice_toK slice_fromK)
set_option maxRecDepth 100000
set_option linter.unusedVariables false
set_option linter.unusedSimpArgs false

theorem eql_slice_nil {P : Program} (w : World) (t e : TypeId) (a : Option Addr) (l c : Nat) (h : P.underlying t = some (.slice e)) : (binOp .eql t (.slice a l c) (.slice none 0 0)).run P w = .ok (.bool a.isNone) w := by
  simp only [binOp]
  simp [run_equal_slice_nil w t e a l c h]
theorem own1 (w : World) (base : Nat) (hb : base ≤ w.heap.size) (x : UInt8) {v : Value} (hv : v = u8 x) : OwnK u8K (w.alloc (.cells #[v] 5)) base (.slice (some ⟨w.heap.size, 0, none⟩) 1 1) [x] := by
  subst hv
  exact World.ownsRow_lit (e := 5) (size := 1) w #[u8 x] 1 hb (by decide) (by simp)
theorem rd1 (w : World) (x : UInt8) {v : Value} (hv : v = u8 x) : RdK u8K (w.alloc (.cells #[v] 5)) (w.heap.size + 1) (some ⟨w.heap.size, 0, none⟩) [x] := by
  subst hv
  exact RdK.lit (K := u8K) w x #[u8 x] rfl 5
theorem strCells8 (s : Bs) : Lib.strCells ⟨s.toArray⟩ = cellsK u8K s := by rw [cells8]; simp [Lib.strCells]
/-- append(own, s...), s a string. -/
theorem wpList_strK {ops : Array Oper} {rest : List Oper} {o : Oper} {a : Act} {Q : Exit → Act → World → Prop} {w : World} (hgd : o.guard = none) (sl x : Operand)
    (ho : o.op = .call { callee := .builtin .append, args := #[sl, x], argTypes := #[39, 9] })
    (base : Nat) (v : Value) (l : Bs) (hs : a.eval sl = v) (hown : OwnK u8K w base v l) (s : Bs) (hx : a.eval x = str s) (hl : l.length + s.length ≤ 1000000) (hbase : base ≤ w.heap.size)
    (h : ∀ v' w', OwnK u8K w' base v' (l ++ s) → w.grownBy w' v.ownBlock → wpList Tryz.prog ops Q rest (a.put o.dst v') w') : wpList Tryz.prog ops Q (o :: rest) a w := by
  have hz : (⟨s.toArray⟩ : ByteArray).size = s.length := by simp [ByteArray.size]
  refine Lib.wpList_append_own_string w hgd sl x 39 9 ho base 5 (IX.infoOf 5) Tryz.underlying39 Tryz.underlying9 (by kernel_rfl) (by kernel_rfl) (by kernel_rfl) (by kernel_rfl) v l.length (cellsK u8K l) hs hown ⟨s.toArray⟩ hx (by rw [hz]; unfold maxLen; omega) (by rw [hz]; omega) hbase ?_
  intro v' w' h1 h2 h3
  refine h v' w' ?_ h2
  rw [hz, strCells8, ← IX.cellsK_app, ← List.length_append] at h1
  exact h1
set_option maxHeartbeats 2000000 in
theorem cloneY (A : Option Addr) (c : Nat) (l : Bs) (w : World) (h : RdK u8K w w.heap.size A l) (hn : l.length ≤ 1000000) (hA : A = none → c = 0) :
    Calls Tryz.prog 105 #[.slice A l.length c] w fun e w' => ∃ A2 c2, e = .returned (.slice A2 l.length c2) ∧ RdK u8K w' w'.heap.size A2 l ∧ l.length ≤ c2 ∧ Below w.heap.size w w' ∧ (∀ a, A2 = some a → w.heap.size ≤ a.block) := by
  cases A with
  | none =>
    obtain rfl := hA rfl
    have hl : l = [] := by
      rcases h with h | ⟨_, _, q, _⟩
      · exact h
      · cases q
    subst hl
    have hE : ∀ W, (binOp .eql 39 (.slice none 0 0) (.slice none 0 0)).run Tryz.prog W = .ok (.bool true) W := fun W => eql_slice_nil W _ _ none _ _ Tryz.underlying39
    clear h
    go_enter Tryz.func105, Tryz.ntmps105
    go_wp2
    go_ret
    exact ⟨none, ⟨0, rfl⟩, .inl rfl, Below.refl _ _, fun a q => by cases q⟩
  | some ad =>
    have O0 := Lib.hid (OwnK.lit (K := u8K) w w.heap.size (Nat.le_refl _))
    have hb1 := bAl (Below.refl w.heap.size w) (.cells #[] 5)
    have R0 := Lib.hid (h.below hb1)
    have hq : w.heap.size ≤ (w.alloc (.cells #[] 5)).heap.size := hb1.size
    have HB := Lib.hid hb1
    have HN : Hid (([] : Bs).length + l.length ≤ 1000000) := Lib.hid (by simp; omega)
    have hE : ∀ W, (binOp .eql 39 (.slice (some ad) l.length c) (.slice none 0 0)).run Tryz.prog W = .ok (.bool false) W := fun W => eql_slice_nil W _ _ (some ad) _ _ Tryz.underlying39
    clear h hb1
    go_enter Tryz.func105, Tryz.ntmps105
    go_wp2_with (at_builtin; refine IX.wpList_spreadK u8K rfl (.tmp 5) (.tmp 6) rfl w.heap.size _ [] rfl O0.out w.heap.size (some ad) l.length c l rfl rfl R0.out HN.out hq ?_)
    intro v' w5 o5 g5 f5
    have b5 := Lib.hid (HB.out.grown g5 hq (fun a ha => (O0.out.lt a ha).1))
    have O5 := Lib.hid o5
    clear o5 g5
    go_wp2
    go_ret
    have o6 : OwnK u8K w5 w.heap.size v' l := by simpa using O5.out
    obtain ⟨A2, c2, rfl, hr, hc, _⟩ := o6.form
    exact ⟨A2, c2, rfl, hr, hc, b5.out, fun a q => (o6.lt a.block (by rw [q]; rfl)).1⟩
set_option maxHeartbeats 2000000 in
theorem read_any (A : Option Addr) (c : Nat) (l : Bs) (w : World) (h : RdK u8K w w.heap.size A l) (hn : l.length ≤ 1000000) (hA : A = none → c = 0) :
    Calls Tryz.prog 73 #[.slice A l.length c] w fun e w' => ∃ B, e = .returned (ptr B) ∧ RAt w' B (some l) ∧ w.heap.size ≤ B ∧ Below w.heap.size w w' := by
  have C := Lib.hid (cloneY A c l w h hn hA)
  clear h
  go_enter Tryz.func73, Tryz.ntmps73
  go_wp2_with (go_at_call 105; ((refine C.out.mono ?_); rintro e w1 ⟨A2, c2, rfl, hr, hc, k1, _⟩; have H1 := Lib.hid (And.intro hr (And.intro hc k1)); clear hr hc k1))
  go_ret
  obtain ⟨hr, hc, k1⟩ := H1.out
  exact ⟨w1.heap.size, rfl, ⟨A2, c2, AtC.new _ _ _, hr.below (bAl (Below.refl _ _) _), hc⟩, k1.size, bAl k1 _⟩
set_option maxHeartbeats 2000000 in
theorem number_any (n : Nat) (hn : n < 18446744073709551616) (w : World) : Calls Tryz.prog 108 #[.int .u64 n] w fun e w' => ∃ v, e = .returned v ∧ OwnK u8K w' w.heap.size v (numB n) ∧ Below w.heap.size w w' := by
  have hq : w.heap.size ≤ w.heap.size := Nat.le_refl _
  have HL := Lib.hid (numB_len64 hn)
  go_enter Tryz.func108, Tryz.ntmps108
  go_wp2
  go_loopw [0, 3] (fun nv lv wr => ∃ (m : Nat) (done : Bs), nv = .int .u64 m ∧ m < 18446744073709551616 ∧ Hid (OwnK u8K wr w.heap.size lv done) ∧ Hid (numB n = done ++ numB m) ∧ Below w.heap.size w wr) (fun nv _ _ => (intOf nv).toNat)
  case atStart => exact ⟨n, [], rfl, hn, Lib.hid (OwnK.nil_ u8K w _), Lib.hid rfl, Below.refl _ _⟩
  case round =>
    obtain ⟨m, done, rfl, hm, HO, HE, k1⟩ := hrel
    have K1 := Lib.hid k1
    have hlen : done.length ≤ 10 := by have := HL.out; rw [HE.out, List.length_append] at this; omega
    have hsz : w.heap.size ≤ wr.heap.size := k1.size
    clear k1
    by_cases h : m < 128
    · have i1 : ¬ (128 : Int) ≤ (m : Int) := by omega
      have e1 : IntKind.u8.wrap (m : Int) = (m : Int) := by simp [IntKind.wrap, IntKind.bits, IntKind.signed]; omega
      obtain ⟨x, hx⟩ : ∃ x, x = UInt8.ofNat m := ⟨_, rfl⟩
      have hv : Value.int .u8 (m : Int) = YX.u8 x := by unfold YX.u8; rw [hx, u8n (by omega)]
      have HX := Lib.hid hx
      clear hx
      go_wp2_with (at_builtin; refine IX.wpList_spreadK u8K rfl (.tmp 15) (.tmp 18) rfl w.heap.size _ done rfl (HO.out.below (bAl (Below.refl _ _) _)) (wr.heap.size + 1) (some ⟨wr.heap.size, 0, none⟩) 1 1 [x] rfl rfl (rd1 wr _ rfl) ?c1 ?c2 ?_)
      case c1 => first | omega | (simp; omega)
      case c2 => first | omega | (simp; omega)
      intro v' w5 o5 g5 f5
      have b5 := Lib.hid ((bAl K1.out (.cells #[YX.u8 x] 5)).grown g5 (by simp; omega) (fun a ha => (HO.out.lt a ha).1))
      have O5 := Lib.hid o5
      clear o5 g5
      go_wp2
      go_ret
      exact ⟨_, rfl, by rw [HE.out, numB_lo h, ← HX.out]; exact O5.out, b5.out⟩
    · have i1 : (128 : Int) ≤ (m : Int) := by omega
      obtain ⟨x, hx⟩ : ∃ x, x = UInt8.ofNat (m % 128 + 128) := ⟨_, rfl⟩
      have hv : Value.int .u8 ((m : Int) % 128 + 128) = YX.u8 x := by unfold YX.u8; rw [hx, u8n (by omega)]; simp
      have HX := Lib.hid hx
      clear hx
      have e1 : IntKind.u8.wrap ((m : Int) % 128) = (m : Int) % 128 := by simp [IntKind.wrap, IntKind.bits, IntKind.signed]; omega
      have e2 : IntKind.u8.wrap ((m : Int) % 128 + 128) = (m : Int) % 128 + 128 := by simp [IntKind.wrap, IntKind.bits, IntKind.signed]; omega
      go_wp2_with (at_builtin; (refine IX.wpList_spreadK u8K rfl (.tmp 6) (.tmp 11) rfl w.heap.size _ done rfl (HO.out.below (bAl (Below.refl _ _) _)) (wr.heap.size + 1) (some ⟨wr.heap.size, 0, none⟩) 1 1 [x] rfl rfl (rd1 wr _ rfl) ?c1 ?c2 ?_))
      case c1 => first | omega | (simp; omega)
      case c2 => first | omega | (simp; omega)
      intro v' w5 o5 g5 f5
      have b5 := Lib.hid ((bAl K1.out (.cells #[YX.u8 x] 5)).grown g5 (by simp; omega) (fun a ha => (HO.out.lt a ha).1))
      have O5 := Lib.hid o5
      clear o5 g5
      go_wp2
      refine ⟨⟨m / 128, _, by simp, by omega, O5, Lib.hid (by rw [HE.out, numB_hi h, ← HX.out, List.append_assoc]; rfl), b5.out⟩, by simp [intOf]; omega⟩
end Go.Proofs.YtjocbokfdfdkeaaGreat.YX
