/-
  WALK: a stamp read of a text: the program's Parse.
-/
import Derived.Test.YthdphdmiafkkgaaDoorUText
namespace Go.Proofs.YthdphdmiafkkgaaDoor.UX
open Go.RowKit FixMath
set_option maxRecDepth 100000
set_option linter.unusedVariables false
set_option linter.unusedSimpArgs false

theorem uindex_hit : ∀ (a b : List UInt8) (c : UInt8), c ∉ a → Lib.index (a ++ c :: b) [c] = (a.length : Int)
  | [], b, c, _ => by simp [Lib.index, List.isPrefixOf]
  | x :: a, b, c, h => by
    have h2 : c ≠ x ∧ c ∉ a := by simpa using h
    have ih := uindex_hit a b c h2.2
    have hx : (c == x) = false := by simpa using h2.1
    rw [List.cons_append, Lib.index, ih]
    simp only [List.isPrefixOf, hx, Bool.false_and, Bool.false_eq_true, if_false]
    rw [if_neg (by simp)]
    simp
theorem ucut_hit (a b : List UInt8) (c : UInt8) (h : c ∉ a) : Lib.cut (a ++ c :: b) [c] = (a, b, true) := by
  unfold Lib.cut
  rw [uindex_hit a b c h, if_pos (by omega)]
  simp
theorem ucut_tx (d s : Nat) : Lib.cut (txS d s) [46] = (nt d, nt s, true) := ucut_hit _ _ _ (no_dot (nt_dig d))
theorem ucut_len (l : Bs) : (Lib.cut l [46]).1.length ≤ l.length ∧ (Lib.cut l [46]).2.1.length ≤ l.length := by
  unfold Lib.cut
  split <;> simp <;> omega
noncomputable abbrev paV (l : Bs) : Value := .tuple #[sp (paD l) (paS l), .int .i64 (paE l)]
theorem paV_no {l : Bs} (h : ¬ ∃ d s, isTx l d s) : paV l = .tuple #[sp 0 0, .int .i64 120] := by
  obtain ⟨h1, h2, h3⟩ := pa_miss h
  unfold paV; rw [h1, h2, h3]; rfl
theorem paV_yes {l : Bs} {d s : Nat} (h : isTx l d s) : paV l = .tuple #[sp d s, .int .i64 0] := by
  obtain ⟨h1, h2, h3⟩ := pa_hit h
  unfold paV; rw [h1, h2, h3]
set_option maxHeartbeats 4000000 in
theorem stParse_any (l : Bs) (w : World) (hl : l.length ≤ 1000) (hE : EnvT w) : Calls Tryd.prog 15 #[str l] w fun e w' => e = .returned (paV l) ∧ Below w.heap.size w w' := by
  have hb : Below w.heap.size w w := Below.refl _ _
  obtain ⟨V, hV⟩ : ∃ V, paV l = V := ⟨_, rfl⟩
  rw [hV]
  have HP := Lib.hid hV.symm
  clear hV
  by_cases h15 : 15 < l.length
  · have HV := Lib.hid (HP.out.trans <| paV_no (l := l) (by rintro ⟨d, s, h⟩; have bd := may_bd h.1; have := txS_len (a := d) (b := s) (by omega) (by omega); rw [← h.2] at this; omega))
    have i1 : (15 : Int) < l.length := by omega
    clear HP
    go_enter Tryd.func15, Tryd.ntmps15
    go_wp2
    exact ret_st_tmp rfl rfl rfl rfl (At2.new w 0 0 _) ⟨by rw [HV.out]; rfl, bAl hb _⟩
  · have i1 : ¬ (15 : Int) < l.length := by omega
    obtain ⟨x, hx⟩ : ∃ x, (Lib.cut l [46]).1 = x := ⟨_, rfl⟩
    obtain ⟨y, hy⟩ : ∃ y, (Lib.cut l [46]).2.1 = y := ⟨_, rfl⟩
    obtain ⟨q, hq⟩ : ∃ q, (Lib.cut l [46]).2.2 = q := ⟨_, rfl⟩
    have hxy := ucut_len l
    rw [hx, hy] at hxy
    obtain ⟨m0, m, hm⟩ := hE.max
    have CC := Tryd.strings_Cut ⟨l.toArray⟩ ⟨#[46]⟩ m (w.alloc (.cells #[.int .i64 0, .int .i64 0] 23)) (by simp [ByteArray.size]; omega) ((World.cell?_alloc_past _ _ _ m0).trans hm)
    rw [show (⟨l.toArray⟩ : ByteArray).data.toList = l from rfl, show (⟨#[46]⟩ : ByteArray).data.toList = [46] from rfl, hx, hy, hq] at CC
    have CN := Lib.hid (fun (z : Bs) (hz : z.length ≤ 18) (W : World) (k : Below w.heap.size w W) => number_any ⟨z.toArray⟩ W (by simpa [ByteArray.size] using hz) (hE.then k).syn)
    have CT := Lib.hid (fun (a b : Int) (W : World) (k : Below w.heap.size w W) => stText_any a b W (hE.then k).pow)
    have HK : Hid (∀ d s, isTx l d s → x = nt d ∧ y = nt s) := Lib.hid (fun d s h => by
      have e := ucut_tx d s
      rw [← h.2] at e
      rw [← hx, ← hy, e]; exact ⟨rfl, rfl⟩)
    have hx18 : x.length ≤ 18 := by omega
    have hy18 : y.length ≤ 18 := by omega
    have C1 := Lib.hid (fun W k => CN.out x hx18 W k)
    have C2 := Lib.hid (fun W k => CN.out y hy18 W k)
    have HC := Lib.hid CC
    clear CN hE m0 hm hx hy hq CC hxy
    go_enter Tryd.func15, Tryd.ntmps15
    go_wp2_with fail
    go_at_call 24
    with_reducible refine HC.out.mono ?_
    rintro e w0 ⟨rfl, n, rfl⟩
    have r := (At2.new w 0 0 23).drew n
    replace hb := bDrew (bAl hb (.cells #[.int .i64 0, .int .i64 0] 23)) n
    clear HC
    go_wp2_with fail
    go_at_call 25
    with_reducible refine (C1.out _ hb).mono ?_
    rintro e w1 ⟨⟨a, rfl, ha⟩, k1⟩
    replace hb := bThen hb k1
    replace r := r.then k1
    have HA := Lib.hid ha
    clear ha C1 k1
    go_wp2_with fail
    go_at_call 25
    with_reducible refine (C2.out _ hb).mono ?_
    rintro e w2 ⟨⟨b, rfl, hbb⟩, k2⟩
    replace hb := bThen hb k2
    replace r := r.then k2
    have HB := Lib.hid hbb
    clear hbb C2 k2
    have HU : Hid (∀ d s, isTx l d s → a = d ∧ b = s) := Lib.hid (fun d s h => ⟨HA.out d (HK.out d s h).1, HB.out s (HK.out d s h).2⟩)
    clear HA HB HK
    cases hmay : mayS a b
    · have HV := Lib.hid (HP.out.trans <| paV_no (l := l) (by rintro ⟨d, s, h⟩; obtain ⟨e1, e2⟩ := HU.out d s h; rw [e1, e2, h.1] at hmay; cases hmay))
      have CT1 := Lib.hid (fun W k => CT.out a b W k)
      rw [txV_n hmay] at CT1
      clear CT HU hmay
      clear HP
      go_wp2_with (go_at_call 13; ((with_reducible refine (CT1.out _ (bAl hb _)).mono ?_); rintro e w3 ⟨rfl, k3⟩; replace r := (r.al _).then k3; replace hb := bThen (bAl hb _) k3; have r0 := r.c0; have r1 := r.c1; have g0 := r.f0; have g1 := r.f1))
      exact ret_st_tmp rfl rfl rfl rfl (r.set _ _) ⟨by rw [HV.out]; rfl, bSet hb (Nat.le_refl _) _ _⟩
    · have bd := may_bd hmay
      obtain ⟨a, rfl⟩ := Int.eq_ofNat_of_zero_le bd.1
      obtain ⟨b, rfl⟩ := Int.eq_ofNat_of_zero_le bd.2.2.1
      have CT1 := Lib.hid (fun W k => CT.out a b W k)
      rw [txV_y hmay] at CT1
      clear CT
      cases hT : (txS a b == l)
      · have HV := Lib.hid (HP.out.trans <| paV_no (l := l) (by rintro ⟨d, s, h⟩; obtain ⟨e1, e2⟩ := HU.out d s h; obtain rfl : a = d := (by omega); obtain rfl : b = s := (by omega); rw [h.2] at hT; simp at hT))
        clear HU hmay bd
        clear HP
        generalize txS a b = T at *
        generalize (a : Int) = a at *
        generalize (b : Int) = b at *
        go_wp2_with (go_at_call 13; ((with_reducible refine (CT1.out _ (bAl hb _)).mono ?_); rintro e w3 ⟨rfl, k3⟩; replace r := (r.al _).then k3; replace hb := bThen (bAl hb _) k3; have r0 := r.c0; have r1 := r.c1; have g0 := r.f0; have g1 := r.f1))
        exact ret_st_tmp rfl rfl rfl rfl (r.set _ _) ⟨by rw [HV.out]; rfl, bSet hb (Nat.le_refl _) _ _⟩
      · have eT : txS a b = l := by simpa using hT
        have HV := Lib.hid (HP.out.trans (paV_yes (l := l) (d := a) (s := b) ⟨hmay, eT.symm⟩))
        rw [eT] at CT1
        clear HU hmay bd eT hT
        clear HP
        generalize (a : Int) = a at *
        generalize (b : Int) = b at *
        go_wp2_with (go_at_call 13; ((with_reducible refine (CT1.out _ (bAl hb _)).mono ?_); rintro e w3 ⟨rfl, k3⟩; replace r := (r.al _).then k3; have p := (At2.new _ _ _ _).then k3; have p0 := p.c0; have p1 := p.c1; replace hb := bThen (bAl hb _) k3; have r0 := r.c0; have r1 := r.c1; have g0 := r.f0; have g1 := r.f1))
        exact ret_st_tmp rfl rfl rfl rfl (r.set _ _) ⟨by rw [HV.out]; rfl, bSet hb (Nat.le_refl _) _ _⟩
end Go.Proofs.YthdphdmiafkkgaaDoor.UX
