/-
  WALKS: the document's arena: Has, Give, Age, Take, All; Same.
-/
import Derived.Test.YtaofhooddbkglaaAProg2
import Derived.Test.YtaofhooddbkglaaAProg3
namespace Go.Proofs.Ytaofhooddbkglaa
open Go.RowKit
set_option maxRecDepth 100000
set_option linter.unusedVariables false
set_option linter.unusedSimpArgs false

abbrev rfC (T G n cT cG : Nat) : Array Value := #[.slice (some ⟨T, 0, none⟩) n cT, .slice (some ⟨G, 0, none⟩) n cG]
/-- The document's arena at block X: its rows in blocks T and G. -/
structure RfAt (W : World) (X T G cT cG : Nat) (s : Ar) : Prop where
  x : AtC W X (rfC T G s.tk.length cT cG)
  tl : T < W.heap.size
  gl : G < W.heap.size
  t : ∀ i, i < s.tk.length → W.cell? ⟨T, i, none⟩ = some (.bool (s.tk.getD i false))
  g : ∀ i, i < s.tk.length → W.cell? ⟨G, i, none⟩ = some (.int .i64 (s.ag.getD i 0 : Int))
  tf : ∀ i, W.frozen? ⟨T, i, none⟩ = false
  gf : ∀ i, W.frozen? ⟨G, i, none⟩ = false
  xt : X ≠ T
  xg : X ≠ G
  tg : T ≠ G
  ct : s.tk.length ≤ cT
  cg : s.tk.length ≤ cG
theorem RfAt.kept {W W1 : World} {X T G cT cG : Nat} {s : Ar} {P : Nat → Prop} (h : RfAt W X T G cT cG s) (k : Kept W W1 P) (p1 : P X) (p2 : P T) (p3 : P G) : RfAt W1 X T G cT cG s :=
  ⟨h.x.kept k p1, Nat.lt_of_lt_of_le h.tl k.size, Nat.lt_of_lt_of_le h.gl k.size, fun i hi => by rw [k.cell h.tl p2]; exact h.t i hi, fun i hi => by rw [k.cell h.gl p3]; exact h.g i hi,
    fun i => by rw [k.frozen h.tl p2]; exact h.tf i, fun i => by rw [k.frozen h.gl p3]; exact h.gf i, h.xt, h.xg, h.tg, h.ct, h.cg⟩
theorem RfAt.then {W W1 : World} {X T G cT cG : Nat} {s : Ar} (h : RfAt W X T G cT cG s) (k : Below W.heap.size W W1) : RfAt W1 X T G cT cG s := h.kept (P := fun _ => True) (.of_below k) trivial trivial trivial
theorem cell_set_ne {W : World} {a b : Addr} (h : a ≠ b) (v : Value) : (W.setCell a v).cell? b = W.cell? b := World.cell?_setCell_other _ _ _ _ h
theorem RfAt.setT {W : World} {X T G cT cG : Nat} {s : Ar} (h : RfAt W X T G cT cG s) {k : Nat} (hk : k < s.tk.length) (b : Bool) : RfAt (W.setCell ⟨T, k, none⟩ (.bool b)) X T G cT cG ⟨s.tk.set k b, s.ag⟩ := by
  have hsz : ∀ {B}, B < W.heap.size → B < (W.setCell ⟨T, k, none⟩ (.bool b)).heap.size := fun h => by simpa [World.setCell] using h
  refine ⟨?_, hsz h.tl, hsz h.gl, fun i hi => ?_, fun i hi => ?_, fun i => by simp; exact h.tf i, fun i => by simp; exact h.gf i, h.xt, h.xg, h.tg, by simp; exact h.ct, by simp; exact h.cg⟩
  · have := h.x.store (p := ⟨T, k, none⟩) (fun e => h.xt e.symm) (.bool b)
    simpa using this
  · simp only [List.length_set] at hi
    rw [getD_set _ _ _ _ hk]
    by_cases e : k = i
    · subst e
      rw [World.cell?_setCell_same _ _ _ (h.t k hk)]; simp
    · rw [cell_set_ne (fun x => e (by injection x)), h.t i hi, if_neg e]
  · simp only [List.length_set] at hi
    rw [cell_set_ne (fun x => h.tg (by injection x)), h.g i hi]
theorem RfAt.setG {W : World} {X T G cT cG : Nat} {s : Ar} (h : RfAt W X T G cT cG s) {k : Nat} (hk : k < s.tk.length) (hl : k < s.ag.length) (x : Nat) : RfAt (W.setCell ⟨G, k, none⟩ (.int .i64 (x : Int))) X T G cT cG ⟨s.tk, s.ag.set k x⟩ := by
  have hsz : ∀ {B}, B < W.heap.size → B < (W.setCell ⟨G, k, none⟩ (.int .i64 (x : Int))).heap.size := fun h => by simpa [World.setCell] using h
  refine ⟨?_, hsz h.tl, hsz h.gl, fun i hi => ?_, fun i hi => ?_, fun i => by simp; exact h.tf i, fun i => by simp; exact h.gf i, h.xt, h.xg, h.tg, h.ct, h.cg⟩
  · exact h.x.store (p := ⟨G, k, none⟩) (fun e => h.xg e.symm) (.int .i64 (x : Int))
  · rw [cell_set_ne (fun x => h.tg (by injection x with e; exact e.symm)), h.t i hi]
  · by_cases e : k = i
    · subst e
      rw [World.cell?_setCell_same _ _ _ (h.g k hk)]
      simp only [List.getD_eq_getElem?_getD, List.getElem?_set]; simp [hl]
    · rw [cell_set_ne (fun x => e (by injection x)), h.g i hi]
      simp only [List.getD_eq_getElem?_getD, List.getElem?_set]; simp [e]
theorem rHas_any {X T G cT cG : Nat} {s : Ar} (k : Int) (w : World) (hle : s.tk.length ≤ 64) (hR : RfAt w X T G cT cG s) : Calls Try.prog 16 #[ptr X, .int .i64 k] w fun e w' => e = .returned (.bool (takenB s k)) ∧ w = w' := by
  have hx := hR.x.c 0
  by_cases h0 : k < 0
  · have HV := Lib.hid (show takenB s k = false by simp [takenB, exB]; omega)
    generalize takenB s k = b at *
    clear hR
    go_enter Try.func16, Try.ntmps16
    go_wp2
    go_ret
    exact ⟨by rw [HV.out]; rfl, rfl⟩
  · obtain ⟨n, rfl⟩ := Int.eq_ofNat_of_zero_le (show 0 ≤ k by omega)
    by_cases hn : n < s.tk.length
    · have HV := Lib.hid (taken_nat s hn)
      have i1 : (n : Int) < s.tk.length := by omega
      have ht := hR.t n hn
      generalize takenB s n = b at *
      generalize s.tk.getD n false = c at *
      clear hR
      go_enter Try.func16, Try.ntmps16
      go_wp2
      go_ret
      exact ⟨by rw [HV.out]; rfl, rfl⟩
    · have i1 : ¬ (n : Int) < s.tk.length := by omega
      have HV := Lib.hid (show takenB s n = false by simp [takenB, exB, i1])
      generalize takenB s n = b at *
      clear hR
      go_enter Try.func16, Try.ntmps16
      go_wp2
      go_ret
      exact ⟨by rw [HV.out]; rfl, rfl⟩
theorem rGive_any {X T G cT cG : Nat} {s : Ar} (k : Int) (w : World) (hle : s.tk.length ≤ 64) (hR : RfAt w X T G cT cG s) : Calls Try.prog 12 #[ptr X, .int .i64 k] w fun e w' => e = .returned (.int .i64 (giveE s k)) ∧ RfAt w' X T G cT cG (giveS s k) ∧ Kept w w' (fun b => b ≠ T ∧ b ≠ G) := by
  have C := Lib.hid (rHas_any k w hle hR)
  have hx := hR.x.c 0
  have HR := Lib.hid hR
  cases h : takenB s k with
  | false =>
    have HE := Lib.hid (show giveE s k = 60 ∧ giveS s k = s by simp [giveE, giveS, h])
    rw [h] at C
    clear hR h
    go_enter Try.func12, Try.ntmps12
    go_wp2_with (go_at_call 16; ((with_reducible refine C.out.mono ?_); rintro e w1 ⟨rfl, rfl⟩))
    go_ret
    exact ⟨by rw [HE.out.1]; rfl, by rw [HE.out.2]; exact HR.out, .refl _ _⟩
  | true =>
    obtain ⟨n, rfl, hn, hg⟩ := taken_at h
    have HE := Lib.hid (show giveE s n = 0 ∧ giveS s n = ⟨s.tk.set n false, s.ag⟩ by simp [giveE, giveS, h])
    have i1 : (n : Int) < s.tk.length := by omega
    have ht := hR.t n hn
    have hf := hR.tf n
    rw [h] at C
    clear hR h hg
    generalize s.tk.getD n false = c at *
    go_enter Try.func12, Try.ntmps12
    go_wp2_with (go_at_call 16; ((with_reducible refine C.out.mono ?_); rintro e w1 ⟨rfl, rfl⟩))
    go_ret
    exact ⟨by rw [HE.out.1]; rfl, by rw [HE.out.2]; exact HR.out.setT hn false, (Kept.refl _ _).set (by simp) _⟩
theorem rAge_any {X T G cT cG : Nat} {s : Ar} (k : Int) (w : World) (hle : s.tk.length ≤ 64) (hl : s.ag.length = s.tk.length) (hR : RfAt w X T G cT cG s) : Calls Try.prog 18 #[ptr X, .int .i64 k] w fun e w' => e = .returned (.int .i64 (ageN s k)) ∧ w = w' := by
  have hx := hR.x.c 1
  by_cases h0 : k < 0
  · have HV := Lib.hid (show ageN s k = 0 by simp [ageN, exB]; omega)
    generalize ageN s k = b at *
    clear hR
    go_enter Try.func18, Try.ntmps18
    go_wp2
    go_ret
    exact ⟨by rw [HV.out]; rfl, rfl⟩
  · obtain ⟨n, rfl⟩ := Int.eq_ofNat_of_zero_le (show 0 ≤ k by omega)
    by_cases hn : n < s.tk.length
    · have i1 : (n : Int) < s.tk.length := by omega
      have HV := Lib.hid (show ageN s n = s.ag.getD n 0 by simp [ageN, exB, i1])
      have ht := hR.g n hn
      generalize ageN s n = b at *
      generalize s.ag.getD n 0 = c at *
      clear hR
      go_enter Try.func18, Try.ntmps18
      go_wp2
      go_ret
      exact ⟨by rw [HV.out]; rfl, rfl⟩
    · have i1 : ¬ (n : Int) < s.tk.length := by omega
      have HV := Lib.hid (show ageN s n = 0 by simp [ageN, exB, i1])
      generalize ageN s n = b at *
      clear hR
      go_enter Try.func18, Try.ntmps18
      go_wp2
      go_ret
      exact ⟨by rw [HV.out]; rfl, rfl⟩
set_option maxHeartbeats 2000000 in
theorem rTake_any {X T G cT cG : Nat} {s : Ar} (hs : ArOk s) (hg : ∀ i, s.ag.getD i 0 ≤ 1000000) (w : World) (hR : RfAt w X T G cT cG s) : Calls Try.prog 14 #[ptr X] w fun e w' => e = .returned (.tuple #[.int .i64 (takeV s), .int .i64 (takeE s)]) ∧ RfAt w' X T G cT cG (takeS s) ∧ Kept w w' (fun b => b ≠ T ∧ b ≠ G) := by
  have hx0 := hR.x.c 0
  have hx1 := hR.x.c 1
  have HR := Lib.hid hR
  have HS := Lib.hid hs
  have hle := hs.le
  have HG := Lib.hid hg
  clear hR hg hs
  go_enter Try.func14, Try.ntmps14
  go_wp2
  go_loop [4] (fun i => ∃ k : Nat, i = .int .i64 k ∧ k ≤ s.tk.length ∧ (∀ i, i < k → s.tk.getD i false = true)) (fun i => s.tk.length - (intOf i).toNat)
  case atStart => exact ⟨0, rfl, Nat.zero_le _, fun i hi => absurd hi (Nat.not_lt_zero _)⟩
  case round =>
    obtain ⟨k, rfl, hk, ha⟩ := hrel
    have HAll := Lib.hid ha
    clear ha
    by_cases hlt : k < s.tk.length
    · have i1 : (k : Int) < s.tk.length := by omega
      have i2 : (k : Int) < 64 := by omega
      have ht := HR.out.t k hlt
      cases hx : s.tk.getD k false with
      | true =>
        have HAll2 : Hid (∀ i, i < k + 1 → s.tk.getD i false = true) := Lib.hid (fun i hi => by
          rcases (show i < k ∨ i = k by omega) with h | rfl
          · exact HAll.out i h
          · exact hx)
        rw [hx] at ht
        clear hx
        go_wp2
        go_round
        case rel => exact ⟨k + 1, by go_num, by omega, HAll2.out⟩
        case measure => simp [intOf]; omega
      | false =>
        have HF := Lib.hid (free_at hlt HAll.out hx)
        have HV := Lib.hid (show takeV s = k ∧ takeE s = 0 ∧ takeS s = ⟨s.tk.set k true, s.ag.set k (s.ag.getD k 0 + 1)⟩ by simp [takeV, takeE, takeS, HF.out, hlt])
        rw [hx] at ht
        clear hx
        have hl2 : k < s.ag.length := by rw [HS.out.len]; exact hlt
        have hf := HR.out.tf k
        have hq := HR.out.gf k
        have hgk := HG.out k
        have hc := HR.out.g k hlt
        have xt := HR.out.xt
        have xg := HR.out.xg
        have tg := HR.out.tg
        generalize hgg : s.ag.getD k 0 = g at *
        go_wp2
        go_ret2
        refine ⟨by rw [HV.out.1, HV.out.2.1]; rfl, ?_, ((Kept.refl _ _).set (by simp) _).set (by simp) _⟩
        have q := (HR.out.setT hlt true).setG (k := k) (by simpa using hlt) hl2 (g + 1)
        rw [HV.out.2.2]
        simpa using q
    · have e : k = s.tk.length := by omega
      subst e
      have HF := Lib.hid (free_none HAll.out)
      have HV := Lib.hid (show takeV s = 0 ∧ takeE s = 4 ∧ takeS s = s by simp [takeV, takeE, takeS, HF.out])
      go_wp2
      go_ret2
      exact ⟨by rw [HV.out.1, HV.out.2.1]; rfl, by rw [HV.out.2.2]; exact HR.out, .refl _ _⟩
set_option maxHeartbeats 2000000 in
theorem rAll_any {X T G cT cG : Nat} {s : Ar} (hle : s.tk.length ≤ 64) (w : World) (hR : RfAt w X T G cT cG s) : Calls Try.prog 20 #[ptr X] w fun e w' => ∃ v, e = .returned v ∧ OwnI w' w.heap.size v (allL s.tk s.tk.length) ∧ Below w.heap.size w w' := by
  have hb : Below w.heap.size w w := Below.refl _ _
  have HR := Lib.hid hR
  have hx0 := hR.x.c 0
  clear hR
  go_enter Try.func20, Try.ntmps20
  go_wp2
  go_loopw [3, 4] (fun v i wr => ∃ k : Nat, i = .int .i64 k ∧ k ≤ s.tk.length ∧ OwnI wr w.heap.size v (allL s.tk k) ∧ Below w.heap.size w wr) (fun _ i _ => s.tk.length - (intOf i).toNat)
  case atStart => exact ⟨0, rfl, Nat.zero_le _, OwnI.nil_ _ _, hb⟩
  case round =>
    obtain ⟨k, rfl, hk, ho, hb1⟩ := hrel
    have HO := Lib.hid ho
    have hx := (HR.out.then hb1).x.c 0
    clear ho hb hx0
    by_cases hlt : k < s.tk.length
    · have i1 : (k : Int) < s.tk.length := by omega
      have i2 : (k : Int) < 64 := by omega
      have ht := (HR.out.then hb1).t k hlt
      have hlen := allL_len s.tk k
      cases hx2 : s.tk.getD k false with
      | false =>
        have HN := Lib.hid (allL_no hx2)
        rw [hx2] at ht
        clear hx2
        go_wp2
        go_roundw
        case rel => exact ⟨k + 1, by go_num, by omega, by rw [HN.out]; exact HO.out, hb1⟩
        case measure => simp [intOf]; omega
      | true =>
        have HY := Lib.hid (allL_yes hx2)
        rw [hx2] at ht
        clear hx2
        go_wp2_with (at_builtin; refine wpList_oneI wr rfl (.tmp 21) (.tmp 23) rfl w.heap.size u3 (allL s.tk k) rfl HO.out k rfl ?c1 hb1.size ?_)
        case c1 => omega
        intro v2 w2 ho2 hb3
        have HO3 := Lib.hid ho2
        clear ho2
        go_wp2
        go_roundw
        case rel => exact ⟨k + 1, by go_num, by omega, by rw [HY.out]; exact HO3.out, hb1.trans hb3⟩
        case measure => simp [intOf]; omega
    · have e : k = s.tk.length := by omega
      subst e
      go_wp2
      go_ret
      exact ⟨_, rfl, HO.out, hb1⟩
/-! ## Same -/
theorem OwnI.form {w : World} {base : Nat} {v : Value} {l : List Int} (h : OwnI w base v l) :
    ∃ A c, v = .slice A l.length c ∧ (l = [] ∨ ∃ b, A = some ⟨b, 0, none⟩ ∧ base ≤ b ∧ b < w.heap.size ∧ ∀ j x, l[j]? = some x → w.cell? ⟨b, j, none⟩ = some (vi x)) := by
  rcases h.2 with ⟨rfl, h0⟩ | ⟨g, cap, cur, rfl, hb, hg, hnc, _⟩
  · exact ⟨none, 0, by rw [h0], .inl (List.eq_nil_of_length_eq_zero h0)⟩
  · refine ⟨_, cap, rfl, .inr ⟨g, rfl, hb, (Array.getElem?_eq_some_iff.1 hg).1, fun j x hx => ?_⟩⟩
    have := h.cells (g := g) rfl j (vi x) (by simp [hx])
    rw [show (⟨g, 0, none⟩ : Addr).add j = ⟨g, j, none⟩ by unfold Addr.add; split <;> simp_all] at this
    exact this
set_option maxHeartbeats 1000000 in
theorem same_yes {base base2 : Nat} {v v2 : Value} {l : List Int} (hl : l.length ≤ 1000) (w : World) (h1 : OwnI w base v l) (h2 : OwnI w base2 v2 l) : Calls Try.prog 22 #[v, v2] w fun e w' => e = .returned (.bool true) ∧ Below w.heap.size w w' := by
  obtain ⟨A, c, rfl, q1⟩ := h1.form
  obtain ⟨A2, c2, rfl, q2⟩ := h2.form
  have Q1 := Lib.hid q1
  have Q2 := Lib.hid q2
  have hb : Below w.heap.size w w := Below.refl _ _
  clear h1 h2 q1 q2
  go_enter Try.func22, Try.ntmps22
  go_wp2
  go_loopw [5] (fun i wr => ∃ k : Nat, i = .int .i64 k ∧ k ≤ l.length ∧ Below w.heap.size w wr) (fun i _ => l.length - (intOf i).toNat)
  case atStart => exact ⟨0, rfl, Nat.zero_le _, hb⟩
  case round =>
    obtain ⟨k, rfl, hk, hb1⟩ := hrel
    clear hb
    by_cases hlt : k < l.length
    · have i1 : (k : Int) < l.length := by omega
      have hne : l ≠ [] := fun e => by rw [e] at hlt; simp at hlt
      obtain ⟨b, rfl, _, hbl, hc⟩ := Q1.out.resolve_left hne
      obtain ⟨b2, rfl, _, hbl2, hc2⟩ := Q2.out.resolve_left hne
      have g1 := (hb1.cell (p := ⟨b, k, none⟩) hbl).trans (hc k _ (List.getElem?_eq_getElem hlt))
      have g2 := (hb1.cell (p := ⟨b2, k, none⟩) hbl2).trans (hc2 k _ (List.getElem?_eq_getElem hlt))
      clear hc hc2 hne
      generalize l[k] = x at *
      go_wp2
      go_quiet (fail)
      go_wp2
      go_roundw
      case rel => exact ⟨k + 1, by go_num, by omega, bDrew hb1 _⟩
      case measure => simp [intOf]; omega
    · have e : k = l.length := by omega
      subst e
      go_wp2
      go_ret
      exact ⟨rfl, hb1⟩
end Go.Proofs.Ytaofhooddbkglaa
