/-
  The law WireJoined walked.
-/
import Derived.Test.YtkgjgbenfpkekaaLAwake
namespace Go.Proofs.Ytkgjgbenfpkekaa.JX
open Go.RowKit HL
open IX (ptr El cellsK cellsK_at cellsK_len OwnK RdK Kept wpList_spreadK)
open YX (numB rdU rdB addW told rest u8K RAt u8 vU)
open PX (RowAt TelB Txt bts_telB nOf Bts)
set_option maxRecDepth 100000
set_option linter.unusedVariables false
set_option linter.unusedSimpArgs false

theorem Frs.app {w : World} {B : Nat} {L M : List Sl3} {l m : List Bs} (h : Frs w B L l) (g : Frs w B M m) : Frs w B (L ++ M) (l ++ m) := by
  refine ⟨by simp [h.1, g.1], fun i x f a b => ?_⟩
  by_cases hi : i < L.length
  · rw [List.getElem?_append_left hi] at a
    rw [List.getElem?_append_left (by rw [← h.1]; exact hi)] at b
    exact h.2 i x f a b
  · rw [List.getElem?_append_right (by omega)] at a
    rw [List.getElem?_append_right (by rw [← h.1]; omega), ← h.1] at b
    exact g.2 _ x f a b
/-- Bytes told. -/
def Jn (w0 : World) (b : Bs) (e : Ending) (w' : World) : Prop := ∃ A c, e = .returned (.tuple #[.slice A b.length c, .int .i64 0]) ∧ RdK u8K w' w'.heap.size A b ∧ (A = none → c = 0) ∧ Below w0.heap.size w0 w'
def Je (w0 : World) (e : Ending) (w' : World) : Prop := e = .returned (.tuple #[.slice none 0 0, .int .i64 3]) ∧ Below w0.heap.size w0 w'
theorem bts_jn {w0 : World} {b : Bs} {e : Ending} {w' : World} (h : Bts w0 (some b) e w') : Jn w0 b e w' := by
  obtain ⟨v, n, rfl, hb, k⟩ := h
  cases hb with
  | yes' v l hr => obtain ⟨A, c, rfl, r, _, h0⟩ := hr; exact ⟨A, c, rfl, r, h0, k⟩
theorem bts_je {w0 : World} {e : Ending} {w' : World} (h : Bts w0 none e w') : Je w0 e w' := by
  obtain ⟨v, n, rfl, hb, k⟩ := h
  cases hb with
  | no' => exact ⟨rfl, k⟩
/-- Frames told. -/
def Sj (w0 : World) (l : List Bs) (e : Ending) (w' : World) : Prop := ∃ A c L, e = .returned (.tuple #[.slice A l.length c, .int .i64 0]) ∧ RdK slK w' w'.heap.size A L ∧ Frs w' w'.heap.size L l ∧ Below w0.heap.size w0 w'
theorem sp_sj {w0 : World} {l : List Bs} {e : Ending} {w' : World} (h : Sp w0 (some l) e w') : Sj w0 l e w' := by
  obtain ⟨v, L, he, o, f, k⟩ := h
  obtain ⟨A, c, rfl, r, _⟩ := o.form
  have hl : L.length = l.length := f.1
  rw [hl] at he
  exact ⟨A, c, L, he, r, f.frs, k⟩
theorem joinF_some {l : List Bs} {a : Bs} (h : joinF l = some a) : okF l = true ∧ a = joinB l ∧ a.length ≤ 65536 := by
  unfold joinF at h
  split at h
  · rename_i q
    unfold capJ at h
    split at h
    · cases h
    · cases h; exact ⟨q, rfl, by omega⟩
  · cases h
theorem join_both {l m : List Bs} {a b : Bs} (h : joinF l = some a) (g : joinF m = some b) : joinF (l ++ m) = capJ (a ++ b) := by
  obtain ⟨h1, rfl, _⟩ := joinF_some h
  obtain ⟨g1, rfl, _⟩ := joinF_some g
  rw [joinF_ok (by rw [ok_app, h1, g1]; rfl), join_app]
theorem split_of {l : List Bs} {a : Bs} (h : joinF l = some a) : splitF a = some l := by
  obtain ⟨h1, rfl, h3⟩ := joinF_some h
  unfold splitF
  rw [if_neg (by omega)]; exact split_join h1
theorem split_cut {l : List Bs} {a : Bs} (h : joinF l = some a) (hl : l ≠ []) : splitF (a.take (a.length - 1)) = none := by
  obtain ⟨h1, rfl, h3⟩ := joinF_some h
  unfold splitF
  rw [if_neg (by rw [List.length_take]; omega)]; exact split_short h1 hl
set_option maxHeartbeats 8000000 in
theorem joined_walk (A B : Option Addr) (c d : Nat) (L M : List Sl3) (l m : List Bs) (w : World) (h : RdK slK w w.heap.size A L) (hf : Frs w w.heap.size L l) (h2 : RdK slK w w.heap.size B M) (f2 : Frs w w.heap.size M m) (hl : l.length ≤ maxLen) (hm : m.length ≤ maxLen) :
    Calls Try.prog 6 #[.slice A l.length c, .slice B m.length d] w fun e w' => e = .returned (.bool true) ∧ Below w.heap.size w w' := by
  have CA := Lib.hid (awake14_any w)
  by_cases g1 : 20 < l.length
  · have i1 : (20 : Int) < (l.length : Int) := by omega
    clear h hf h2 f2
    go_enter Try.func6, Try.ntmps6
    go_wp2_with (go_at_call 29; ((refine CA.out.mono ?_); rintro e w1 ⟨rfl, k1⟩; have K1 := Lib.hid k1; clear k1))
    go_ret
    exact ⟨rfl, K1.out⟩
  have i1 : ¬ (20 : Int) < (l.length : Int) := by omega
  by_cases g2 : 20 < m.length
  · have i2 : (20 : Int) < (m.length : Int) := by omega
    clear h hf h2 f2
    go_enter Try.func6, Try.ntmps6
    go_wp2_with (go_at_call 29; ((refine CA.out.mono ?_); rintro e w1 ⟨rfl, k1⟩; have K1 := Lib.hid k1; clear k1))
    go_ret
    exact ⟨rfl, K1.out⟩
  have i2 : ¬ (20 : Int) < (m.length : Int) := by omega
  have HL := Lib.hid h
  have FL := Lib.hid hf
  have HM := Lib.hid h2
  have FM := Lib.hid f2
  clear h hf h2 f2
  go_enter Try.func6, Try.ntmps6
  go_wp2_with (go_at_call 29; ((refine CA.out.mono ?_); rintro e w1 ⟨rfl, k1⟩; have K1 := Lib.hid k1; clear k1))
  go_loopw [5] (fun i wr => ∃ (k : Nat), i = .int .i64 k ∧ k ≤ l.length ∧ wr = w1) (fun i _ => l.length - (intOf i).toNat)
  case atStart => exact ⟨0, rfl, by omega, rfl⟩
  case round =>
    obtain ⟨k, rfl, hk, hww⟩ := hrel
    have hw2 : w1 = wr := hww.symm
    subst hw2
    clear hww
    by_cases hlt : k < l.length
    · have i3 : (k : Int) < (l.length : Int) := by omega
      obtain ⟨b1, off, x, rfl, hbb, hcc, _, _, _⟩ := fr_at HL.out FL.out hlt
      have hc := hcc _ K1.out
      clear hcc
      generalize l[k].length = n at *
      by_cases g3 : 5000 < n
      · have i4 : (5000 : Int) < (n : Int) := by omega
        go_wp2
        go_ret
        exact ⟨rfl, K1.out⟩
      · have i4 : ¬ (5000 : Int) < (n : Int) := by omega
        go_wp2
        go_roundw
        case rel => exact ⟨k + 1, by go_num, by omega, by first | rfl | trivial⟩
        case measure => (simp [intOf]; try omega)
    · obtain rfl : k = l.length := by omega
      have i3 : ¬ (l.length : Int) < (l.length : Int) := by omega
      go_wp2
      go_loopw [6] (fun i wr => ∃ (k : Nat), i = .int .i64 k ∧ k ≤ m.length ∧ wr = w1) (fun i _ => m.length - (intOf i).toNat)
      case atStart => exact ⟨0, rfl, by omega, rfl⟩
      case round =>
        obtain ⟨k, rfl, hk, hww⟩ := hrel
        have hw2 : w1 = wr := hww.symm
        subst hw2
        clear hww
        by_cases hlt : k < m.length
        · have i4 : (k : Int) < (m.length : Int) := by omega
          obtain ⟨b1, off, x, rfl, hbb, hcc, _, _, _⟩ := fr_at HM.out FM.out hlt
          have hc := hcc _ K1.out
          clear hcc
          generalize m[k].length = n at *
          by_cases g3 : 5000 < n
          · have i5 : (5000 : Int) < (n : Int) := by omega
            go_wp2
            go_ret
            exact ⟨rfl, K1.out⟩
          · have i5 : ¬ (5000 : Int) < (n : Int) := by omega
            go_wp2
            go_roundw
            case rel => exact ⟨k + 1, by go_num, by omega, by first | rfl | trivial⟩
            case measure => (simp [intOf]; try omega)
        · obtain rfl : k = m.length := by omega
          have i4 : ¬ (m.length : Int) < (m.length : Int) := by omega
          have HL1 := Lib.hid ((HL.out.below K1.out).more K1.out.size)
          have FL1 := Lib.hid ((FL.out.below K1.out).more K1.out.size)
          have HM1 := Lib.hid ((HM.out.below K1.out).more K1.out.size)
          have FM1 := Lib.hid ((FM.out.below K1.out).more K1.out.size)
          have CJ1 := Lib.hid (join_any A c L l w1 HL1.out FL1.out (by omega))
          have CJ2 := Lib.hid (fun W (k : Below w1.heap.size w1 W) => join_any B d M m W ((HM1.out.below k).more k.size) ((FM1.out.below k).more k.size) (by omega))
          clear HL FL HM FM CA
          cases hj1 : joinF l with
          | none =>
            rw [hj1] at CJ1
            have CJ1 := Lib.hid (CJ1.out.mono fun _ _ => bts_je)
            have CJ2 := Lib.hid (fun W k => (CJ2.out W k).mono fun _ _ => bts_telB)
            have hn : nOf (joinF m) = 0 ∨ nOf (joinF m) = 3 := by cases joinF m with | none => exact .inr rfl | some _ => exact .inl rfl
            generalize nOf (joinF m) = n2 at *
            generalize (joinF m).getD [] = s2 at *
            rcases hn with rfl | rfl
            all_goals
              go_wp2_with (go_at_call 24; first
                | ((with_reducible refine CJ1.out.mono ?_); rintro e w2 ⟨rfl, k2⟩; have K2 := Lib.hid k2; clear k2)
                | ((with_reducible refine (CJ2.out _ K2.out).mono ?_); rintro e w3 ⟨v3, rfl, _, k3⟩; have K3 := Lib.hid (bThen K1.out (bThen K2.out k3)); clear k3))
              go_ret
              exact ⟨by first | rfl | simp, K3.out⟩
          | some a =>
            rw [hj1] at CJ1
            have CJ1 := Lib.hid (CJ1.out.mono fun _ _ => bts_jn)
            cases hj2 : joinF m with
            | none =>
              rw [hj2] at CJ2
              have CJ2 := Lib.hid (fun W k => (CJ2.out W k).mono fun _ _ => bts_je)
              clear hj1 hj2
              go_wp2_with (go_at_call 24; first
                | ((with_reducible refine CJ1.out.mono ?_); rintro e w2 ⟨A2, c2, rfl, _, _, k2⟩; have K2 := Lib.hid k2; clear k2)
                | ((with_reducible refine (CJ2.out _ K2.out).mono ?_); rintro e w3 ⟨rfl, k3⟩; have K3 := Lib.hid (bThen K1.out (bThen K2.out k3)); clear k3))
              go_ret
              exact ⟨by first | rfl | simp, K3.out⟩
            | some b =>
              rw [hj2] at CJ2
              have CJ2 := Lib.hid (fun W k => (CJ2.out W k).mono fun _ _ => bts_jn)
              have hsp := split_of hj1
              have hla := (joinF_some hj1).2.2
              have hlb := (joinF_some hj2).2.2
              have hjb := join_both hj1 hj2
              have CS1 := Lib.hid (fun W A2 c2 (q : RdK u8K W W.heap.size A2 a) (q0 : A2 = none → c2 = 0) => (split_any A2 c2 a W q (by omega) q0).mono (fun _ _ (z : Sp _ _ _ _) => sp_sj (by rw [hsp] at z; exact z)))
              obtain ⟨ab, hab⟩ : ∃ ab, a ++ b = ab := ⟨_, rfl⟩
              obtain ⟨al, hal⟩ : ∃ al, l ++ m = al := ⟨_, rfl⟩
              have hall : al.length = l.length + m.length := by rw [← hal, List.length_append]
              have habl : ab.length = a.length + b.length := by rw [← hab, List.length_append]
              rw [hab, hal] at hjb
              have HAB := Lib.hid hab
              have CJ3 := Lib.hid (fun W A2 c2 LA (q : RdK slK W W.heap.size A2 LA) (f : Frs W W.heap.size LA al) => join_any A2 c2 LA al W q f (by omega))
              rw [hjb] at CJ3
              have FAL : Hid (∀ W, Frs W W.heap.size L l → Frs W W.heap.size M m → Frs W W.heap.size (L ++ M) al) := Lib.hid (fun W q r => by rw [← hal]; exact q.app r)
              have HLL : Hid (L.length = l.length ∧ M.length = m.length) := Lib.hid ⟨FL1.out.1, FM1.out.1⟩
              have HABL := Lib.hid habl
              have HLA := Lib.hid (And.intro hla hlb)
              have HJB := Lib.hid hjb
              have HI1 : Hid (l.length ≤ 20 ∧ m.length ≤ 20) := Lib.hid (by omega)
              have HALL := Lib.hid hall
              clear hsp hab hal hj1 hj2 hjb hla hlb habl hall
              by_cases hbig : 65536 < ab.length
              · have e : capJ ab = none := by unfold capJ; rw [if_pos hbig]
                have i5 : ¬ (ab.length : Int) ≤ 65536 := by omega
                rw [e] at CJ3
                have CJ3 := Lib.hid (fun W A2 c2 LA q f => (CJ3.out W A2 c2 LA q f).mono fun _ _ => bts_je)
                clear e hbig
                go_upto_region 22 with (first
                  | (go_at_call 24; first
                    | ((with_reducible refine CJ1.out.mono ?_); rintro e w2 ⟨A2, c2, rfl, r2, z2, k2⟩; have R2 := Lib.hid r2; have Z2 := Lib.hid z2; have K2 := Lib.hid k2; clear r2 z2 k2)
                    | ((with_reducible refine (CJ2.out _ K2.out).mono ?_); rintro e w3 ⟨A3, c3, rfl, r3, _, k3⟩; have R3 := Lib.hid r3; have R23 := Lib.hid ((R2.out.below k3).more k3.size); have K3 := Lib.hid (bThen K2.out k3); clear r3 k3))
                  | (go_at_call 26; ((with_reducible refine (CS1.out _ _ _ R23.out Z2.out).mono ?_); rintro e w4 ⟨A4, c4, L4, rfl, r4, f4, k4⟩; have R4 := Lib.hid r4; have F4 := Lib.hid f4; have R24 := Lib.hid ((R23.out.below k4).more k4.size); have R34 := Lib.hid ((R3.out.below k4).more k4.size); have K4 := Lib.hid (bThen K3.out k4); have CM4 := Lib.hid (sameF_yes A4 A c4 c l.length L4 L l w4 r4 f4 ((HL1.out.below (bThen K3.out k4)).more (bThen K3.out k4).size) ((FL1.out.below (bThen K3.out k4)).more (bThen K3.out k4).size) rfl (by have := HI1.out; omega)); clear r4 f4 k4))
                  | (go_at_call 28; ((with_reducible refine CM4.out.mono ?_); rintro e w5 ⟨rfl, k5⟩; have R25 := Lib.hid ((R24.out.below k5).more k5.size); have R35 := Lib.hid ((R34.out.below k5).more k5.size); have K5 := Lib.hid (bThen K4.out k5); clear k5)))
                clear R2 R3 R23 R24 R34 K2 K3 K4 CJ1 CJ2 CS1 CM4
                go_upto_region 23 with (at_builtin; refine wpList_spreadK u8K rfl (.tmp 98) (.tmp 99) rfl w5.heap.size _ [] rfl (OwnK.lit _ _ (Nat.le_refl _)) w5.heap.size A2 a.length c2 a rfl rfl (R25.out.below (bAl (Below.refl _ _) _)) ?c1 ?c2 ?_)
                case c1 => have := HLA.out.1; first | omega | (simp; omega)
                case c2 => simp
                intro v6 w6 o6 g6 f6
                have B6 := Lib.hid ((bAl (Below.refl w5.heap.size w5) (.cells #[] 5)).grown g6 (by simp) (fun q hq => by simp [Value.ownBlock] at hq; omega))
                have O6 : Hid (OwnK u8K w6 w5.heap.size v6 a) := Lib.hid o6
                clear o6 g6 f6
                go_upto_region 23 with (at_builtin; refine wpList_spreadK u8K rfl (.tmp 100) (.tmp 101) rfl w5.heap.size v6 a rfl O6.out w5.heap.size A3 b.length c3 b rfl rfl (R35.out.below B6.out) ?c1 ?c2 ?_)
                case c1 => have := HLA.out; omega
                case c2 => exact B6.out.size
                intro v7 w7 o7 g7 f7
                have B7 := Lib.hid (B6.out.grown g7 B6.out.size (fun q hq => (O6.out.lt q hq).1))
                have o7b : OwnK u8K w7 w5.heap.size v7 ab := by rw [← HAB.out]; exact o7
                have O7 := Lib.hid o7b
                have K7 := Lib.hid (bThen K5.out B7.out)
                have HL7 := Lib.hid ((HL1.out.below K7.out).more K7.out.size)
                have HM7 := Lib.hid ((HM1.out.below K7.out).more K7.out.size)
                clear o7 o7b g7 f7 O6 B6 R25 R35
                go_upto_region 24 with (at_builtin; refine wpList_spreadK slK rfl (.tmp 103) (.tmp 104) rfl w7.heap.size _ [] rfl (OwnK.lit _ _ (Nat.le_refl _)) w7.heap.size A l.length c L rfl HLL.out.1 (HL7.out.below (bAl (Below.refl _ _) _)) ?c1 ?c2 ?_)
                case c1 => have := HLL.out; have := HI1.out; first | omega | (simp; omega)
                case c2 => simp
                intro v8 w8 o8 g8 f8
                have B8 := Lib.hid ((bAl (Below.refl w7.heap.size w7) (.cells #[] 26)).grown g8 (by simp) (fun q hq => by simp [Value.ownBlock] at hq; omega))
                have O8 : Hid (OwnK slK w8 w7.heap.size v8 L) := Lib.hid o8
                clear o8 g8 f8
                go_upto_region 24 with (at_builtin; refine wpList_spreadK slK rfl (.tmp 105) (.tmp 106) rfl w7.heap.size v8 L rfl O8.out w7.heap.size B m.length d M rfl HLL.out.2 (HM7.out.below B8.out) ?c1 ?c2 ?_)
                case c1 => have := HLL.out; have := HI1.out; omega
                case c2 => exact B8.out.size
                intro v9 w9 o9 g9 f9
                have B9 := Lib.hid (B8.out.grown g9 B8.out.size (fun q hq => (O8.out.lt q hq).1))
                obtain ⟨A9, c9, rfl, r9, hc9, _⟩ := o9.form
                have hLM : (L ++ M).length = al.length := by rw [List.length_append, HLL.out.1, HLL.out.2, HALL.out]
                obtain ⟨A7, c7, rfl, r7, hc7, _⟩ := O7.out.form
                have Z7 := Lib.hid (own_none O7.out)
                rw [hLM]
                have K9 := Lib.hid (bThen K7.out B9.out)
                have R9 := Lib.hid r9
                have FA9 := Lib.hid (FAL.out w9 ((FL1.out.below K9.out).more K9.out.size) ((FM1.out.below K9.out).more K9.out.size))
                have R79 := Lib.hid ((r7.below B9.out).more B9.out.size)
                generalize L ++ M = LM at *
                clear o9 g9 f9 r9 r7 O7 O8 B8 HL7 HM7 hLM
                go_wp2_with (go_at_call 24; ((refine (CJ3.out _ A9 c9 LM R9.out FA9.out).mono ?_); rintro e w10 ⟨rfl, k10⟩; have K10 := Lib.hid (bThen K9.out k10); clear k10))
                go_ret
                exact ⟨by first | rfl | simp, bThen K1.out K10.out⟩
              · have e : capJ ab = some ab := by unfold capJ; rw [if_neg hbig]
                have i5 : (ab.length : Int) ≤ 65536 := by omega
                rw [e] at CJ3
                have CJ3 := Lib.hid (fun W A2 c2 LA q f => (CJ3.out W A2 c2 LA q f).mono fun _ _ => bts_jn)
                have HJB2 : Hid (joinF al = some ab) := Lib.hid (HJB.out.trans e)
                clear e hbig
                by_cases hz : al = []
                · have i6 : (al.length : Int) = 0 := by rw [hz]; rfl
                  clear hz
                  go_upto_region 22 with (first
                    | (go_at_call 24; first
                      | ((with_reducible refine CJ1.out.mono ?_); rintro e w2 ⟨A2, c2, rfl, r2, z2, k2⟩; have R2 := Lib.hid r2; have Z2 := Lib.hid z2; have K2 := Lib.hid k2; clear r2 z2 k2)
                      | ((with_reducible refine (CJ2.out _ K2.out).mono ?_); rintro e w3 ⟨A3, c3, rfl, r3, _, k3⟩; have R3 := Lib.hid r3; have R23 := Lib.hid ((R2.out.below k3).more k3.size); have K3 := Lib.hid (bThen K2.out k3); clear r3 k3))
                    | (go_at_call 26; ((with_reducible refine (CS1.out _ _ _ R23.out Z2.out).mono ?_); rintro e w4 ⟨A4, c4, L4, rfl, r4, f4, k4⟩; have R4 := Lib.hid r4; have F4 := Lib.hid f4; have R24 := Lib.hid ((R23.out.below k4).more k4.size); have R34 := Lib.hid ((R3.out.below k4).more k4.size); have K4 := Lib.hid (bThen K3.out k4); have CM4 := Lib.hid (sameF_yes A4 A c4 c l.length L4 L l w4 r4 f4 ((HL1.out.below (bThen K3.out k4)).more (bThen K3.out k4).size) ((FL1.out.below (bThen K3.out k4)).more (bThen K3.out k4).size) rfl (by have := HI1.out; omega)); clear r4 f4 k4))
                    | (go_at_call 28; ((with_reducible refine CM4.out.mono ?_); rintro e w5 ⟨rfl, k5⟩; have R25 := Lib.hid ((R24.out.below k5).more k5.size); have R35 := Lib.hid ((R34.out.below k5).more k5.size); have K5 := Lib.hid (bThen K4.out k5); clear k5)))
                  clear R2 R3 R23 R24 R34 K2 K3 K4 CJ1 CJ2 CS1 CM4
                  go_upto_region 23 with (at_builtin; refine wpList_spreadK u8K rfl (.tmp 98) (.tmp 99) rfl w5.heap.size _ [] rfl (OwnK.lit _ _ (Nat.le_refl _)) w5.heap.size A2 a.length c2 a rfl rfl (R25.out.below (bAl (Below.refl _ _) _)) ?c1 ?c2 ?_)
                  case c1 => have := HLA.out.1; first | omega | (simp; omega)
                  case c2 => simp
                  intro v6 w6 o6 g6 f6
                  have B6 := Lib.hid ((bAl (Below.refl w5.heap.size w5) (.cells #[] 5)).grown g6 (by simp) (fun q hq => by simp [Value.ownBlock] at hq; omega))
                  have O6 : Hid (OwnK u8K w6 w5.heap.size v6 a) := Lib.hid o6
                  clear o6 g6 f6
                  go_upto_region 23 with (at_builtin; refine wpList_spreadK u8K rfl (.tmp 100) (.tmp 101) rfl w5.heap.size v6 a rfl O6.out w5.heap.size A3 b.length c3 b rfl rfl (R35.out.below B6.out) ?c1 ?c2 ?_)
                  case c1 => have := HLA.out; omega
                  case c2 => exact B6.out.size
                  intro v7 w7 o7 g7 f7
                  have B7 := Lib.hid (B6.out.grown g7 B6.out.size (fun q hq => (O6.out.lt q hq).1))
                  have o7b : OwnK u8K w7 w5.heap.size v7 ab := by rw [← HAB.out]; exact o7
                  have O7 := Lib.hid o7b
                  have K7 := Lib.hid (bThen K5.out B7.out)
                  have HL7 := Lib.hid ((HL1.out.below K7.out).more K7.out.size)
                  have HM7 := Lib.hid ((HM1.out.below K7.out).more K7.out.size)
                  clear o7 o7b g7 f7 O6 B6 R25 R35
                  go_upto_region 24 with (at_builtin; refine wpList_spreadK slK rfl (.tmp 103) (.tmp 104) rfl w7.heap.size _ [] rfl (OwnK.lit _ _ (Nat.le_refl _)) w7.heap.size A l.length c L rfl HLL.out.1 (HL7.out.below (bAl (Below.refl _ _) _)) ?c1 ?c2 ?_)
                  case c1 => have := HLL.out; have := HI1.out; first | omega | (simp; omega)
                  case c2 => simp
                  intro v8 w8 o8 g8 f8
                  have B8 := Lib.hid ((bAl (Below.refl w7.heap.size w7) (.cells #[] 26)).grown g8 (by simp) (fun q hq => by simp [Value.ownBlock] at hq; omega))
                  have O8 : Hid (OwnK slK w8 w7.heap.size v8 L) := Lib.hid o8
                  clear o8 g8 f8
                  go_upto_region 24 with (at_builtin; refine wpList_spreadK slK rfl (.tmp 105) (.tmp 106) rfl w7.heap.size v8 L rfl O8.out w7.heap.size B m.length d M rfl HLL.out.2 (HM7.out.below B8.out) ?c1 ?c2 ?_)
                  case c1 => have := HLL.out; have := HI1.out; omega
                  case c2 => exact B8.out.size
                  intro v9 w9 o9 g9 f9
                  have B9 := Lib.hid (B8.out.grown g9 B8.out.size (fun q hq => (O8.out.lt q hq).1))
                  obtain ⟨A9, c9, rfl, r9, hc9, _⟩ := o9.form
                  have hLM : (L ++ M).length = al.length := by rw [List.length_append, HLL.out.1, HLL.out.2, HALL.out]
                  obtain ⟨A7, c7, rfl, r7, hc7, _⟩ := O7.out.form
                  have Z7 := Lib.hid (own_none O7.out)
                  rw [hLM]
                  have K9 := Lib.hid (bThen K7.out B9.out)
                  have R9 := Lib.hid r9
                  have FA9 := Lib.hid (FAL.out w9 ((FL1.out.below K9.out).more K9.out.size) ((FM1.out.below K9.out).more K9.out.size))
                  have R79 := Lib.hid ((r7.below B9.out).more B9.out.size)
                  generalize L ++ M = LM at *
                  clear o9 g9 f9 r9 r7 O7 O8 B8 HL7 HM7 hLM
                  go_wp2_with (go_at_call 24; ((refine (CJ3.out _ A9 c9 LM R9.out FA9.out).mono ?_); rintro e w10 ⟨A10, c10, rfl, r10, _, k10⟩; have cv1 := YX.conv_str (c := c10) r10 rfl; have cv2 := YX.conv_str (c := c7) ((R79.out.below k10).more k10.size) rfl; have K10 := Lib.hid (bThen K9.out k10); clear k10 r10))
                  go_ret
                  exact ⟨by first | rfl | simp, bThen K1.out K10.out⟩
                · have hall0 : ¬ (al.length : Int) = 0 := fun q => hz (List.eq_nil_of_length_eq_zero (by omega))
                  have hn1 : 1 ≤ ab.length := by
                    obtain ⟨q1, q2, _⟩ := joinF_some HJB2.out
                    by_cases q : ab = []
                    · exact absurd (join_nil q1 (q2 ▸ q)) hz
                    · exact List.length_pos_iff.2 q
                  have CS3 := Lib.hid (fun W A2 c2 (q : RdK u8K W W.heap.size A2 ab) (q0 : A2 = none → c2 = 0) => (split_any A2 c2 ab W q (by omega) q0).mono (fun _ _ (z : Sp _ _ _ _) => sp_sj (by rw [split_of HJB2.out] at z; exact z)))
                  have hct : (ab.take (ab.length - 1)).length = ab.length - 1 := by rw [List.length_take]; omega
                  have CS4 := Lib.hid (fun W A2 c2 (q : RdK u8K W W.heap.size A2 (ab.take (ab.length - 1))) (q0 : A2 = none → c2 = 0) => (split_any A2 c2 (ab.take (ab.length - 1)) W q (by omega) q0))
                  rw [hct, split_cut HJB2.out hz] at CS4
                  clear hct
                  have hwn : IntKind.i64.wrap ((ab.length : Int) - 1) = (ab.length : Int) - 1 := YX.wI (by omega) (by omega)
                  go_upto_region 22 with (first
                    | (go_at_call 24; first
                      | ((with_reducible refine CJ1.out.mono ?_); rintro e w2 ⟨A2, c2, rfl, r2, z2, k2⟩; have R2 := Lib.hid r2; have Z2 := Lib.hid z2; have K2 := Lib.hid k2; clear r2 z2 k2)
                      | ((with_reducible refine (CJ2.out _ K2.out).mono ?_); rintro e w3 ⟨A3, c3, rfl, r3, _, k3⟩; have R3 := Lib.hid r3; have R23 := Lib.hid ((R2.out.below k3).more k3.size); have K3 := Lib.hid (bThen K2.out k3); clear r3 k3))
                    | (go_at_call 26; ((with_reducible refine (CS1.out _ _ _ R23.out Z2.out).mono ?_); rintro e w4 ⟨A4, c4, L4, rfl, r4, f4, k4⟩; have R4 := Lib.hid r4; have F4 := Lib.hid f4; have R24 := Lib.hid ((R23.out.below k4).more k4.size); have R34 := Lib.hid ((R3.out.below k4).more k4.size); have K4 := Lib.hid (bThen K3.out k4); have CM4 := Lib.hid (sameF_yes A4 A c4 c l.length L4 L l w4 r4 f4 ((HL1.out.below (bThen K3.out k4)).more (bThen K3.out k4).size) ((FL1.out.below (bThen K3.out k4)).more (bThen K3.out k4).size) rfl (by have := HI1.out; omega)); clear r4 f4 k4))
                    | (go_at_call 28; ((with_reducible refine CM4.out.mono ?_); rintro e w5 ⟨rfl, k5⟩; have R25 := Lib.hid ((R24.out.below k5).more k5.size); have R35 := Lib.hid ((R34.out.below k5).more k5.size); have K5 := Lib.hid (bThen K4.out k5); clear k5)))
                  clear R2 R3 R23 R24 R34 K2 K3 K4 CJ1 CJ2 CS1 CM4
                  go_upto_region 23 with (at_builtin; refine wpList_spreadK u8K rfl (.tmp 98) (.tmp 99) rfl w5.heap.size _ [] rfl (OwnK.lit _ _ (Nat.le_refl _)) w5.heap.size A2 a.length c2 a rfl rfl (R25.out.below (bAl (Below.refl _ _) _)) ?c1 ?c2 ?_)
                  case c1 => have := HLA.out.1; first | omega | (simp; omega)
                  case c2 => simp
                  intro v6 w6 o6 g6 f6
                  have B6 := Lib.hid ((bAl (Below.refl w5.heap.size w5) (.cells #[] 5)).grown g6 (by simp) (fun q hq => by simp [Value.ownBlock] at hq; omega))
                  have O6 : Hid (OwnK u8K w6 w5.heap.size v6 a) := Lib.hid o6
                  clear o6 g6 f6
                  go_upto_region 23 with (at_builtin; refine wpList_spreadK u8K rfl (.tmp 100) (.tmp 101) rfl w5.heap.size v6 a rfl O6.out w5.heap.size A3 b.length c3 b rfl rfl (R35.out.below B6.out) ?c1 ?c2 ?_)
                  case c1 => have := HLA.out; omega
                  case c2 => exact B6.out.size
                  intro v7 w7 o7 g7 f7
                  have B7 := Lib.hid (B6.out.grown g7 B6.out.size (fun q hq => (O6.out.lt q hq).1))
                  have o7b : OwnK u8K w7 w5.heap.size v7 ab := by rw [← HAB.out]; exact o7
                  have O7 := Lib.hid o7b
                  have K7 := Lib.hid (bThen K5.out B7.out)
                  have HL7 := Lib.hid ((HL1.out.below K7.out).more K7.out.size)
                  have HM7 := Lib.hid ((HM1.out.below K7.out).more K7.out.size)
                  clear o7 o7b g7 f7 O6 B6 R25 R35
                  go_upto_region 24 with (at_builtin; refine wpList_spreadK slK rfl (.tmp 103) (.tmp 104) rfl w7.heap.size _ [] rfl (OwnK.lit _ _ (Nat.le_refl _)) w7.heap.size A l.length c L rfl HLL.out.1 (HL7.out.below (bAl (Below.refl _ _) _)) ?c1 ?c2 ?_)
                  case c1 => have := HLL.out; have := HI1.out; first | omega | (simp; omega)
                  case c2 => simp
                  intro v8 w8 o8 g8 f8
                  have B8 := Lib.hid ((bAl (Below.refl w7.heap.size w7) (.cells #[] 26)).grown g8 (by simp) (fun q hq => by simp [Value.ownBlock] at hq; omega))
                  have O8 : Hid (OwnK slK w8 w7.heap.size v8 L) := Lib.hid o8
                  clear o8 g8 f8
                  go_upto_region 24 with (at_builtin; refine wpList_spreadK slK rfl (.tmp 105) (.tmp 106) rfl w7.heap.size v8 L rfl O8.out w7.heap.size B m.length d M rfl HLL.out.2 (HM7.out.below B8.out) ?c1 ?c2 ?_)
                  case c1 => have := HLL.out; have := HI1.out; omega
                  case c2 => exact B8.out.size
                  intro v9 w9 o9 g9 f9
                  have B9 := Lib.hid (B8.out.grown g9 B8.out.size (fun q hq => (O8.out.lt q hq).1))
                  obtain ⟨A9, c9, rfl, r9, hc9, _⟩ := o9.form
                  have hLM : (L ++ M).length = al.length := by rw [List.length_append, HLL.out.1, HLL.out.2, HALL.out]
                  obtain ⟨A7, c7, rfl, r7, hc7, _⟩ := O7.out.form
                  have Z7 := Lib.hid (own_none O7.out)
                  rw [hLM]
                  have K9 := Lib.hid (bThen K7.out B9.out)
                  have R9 := Lib.hid r9
                  have FA9 := Lib.hid (FAL.out w9 ((FL1.out.below K9.out).more K9.out.size) ((FM1.out.below K9.out).more K9.out.size))
                  have R79 := Lib.hid ((r7.below B9.out).more B9.out.size)
                  generalize L ++ M = LM at *
                  clear o9 g9 f9 r9 r7 O7 O8 B8 HL7 HM7 hLM
                  have hst : ∀ W, (Instr.slice 26 (.slice A7 ab.length c7) none (some (.int .i64 ((ab.length : Int) - 1))) none).run Try.prog W = .ok (.slice A7 (ab.length - 1) c7) W := fun W => by
                    have := IX.slice_toK u8K (A := A7) (n := ab.length) (c := c7) (p := ab.length - 1) (by omega) hc7 W
                    rw [show ((ab.length - 1 : Nat) : Int) = (ab.length : Int) - 1 by omega] at this
                    exact this
                  go_wp2_with (first
                    | (go_at_call 24; ((refine (CJ3.out _ A9 c9 LM R9.out FA9.out).mono ?_); rintro e w10 ⟨A10, c10, rfl, r10, _, k10⟩; have cv1 := YX.conv_str (c := c10) r10 rfl; have R710 := Lib.hid ((R79.out.below k10).more k10.size); have cv2 := YX.conv_str (c := c7) R710.out rfl; have R910 := Lib.hid ((R9.out.below k10).more k10.size); have FA10 := Lib.hid ((FA9.out.below k10).more k10.size); have K10 := Lib.hid (bThen K9.out k10); clear k10 r10))
                    | (go_at_call 26; first
                      | ((with_reducible refine (CS3.out _ A7 c7 R710.out Z7.out).mono ?_); rintro e w11 ⟨A11, c11, L11, rfl, r11, f11, k11⟩; have R11 := Lib.hid r11; have F11 := Lib.hid f11; have R711 := Lib.hid ((R710.out.below k11).more k11.size); have R911 := Lib.hid ((R910.out.below k11).more k11.size); have FA11 := Lib.hid ((FA10.out.below k11).more k11.size); have K11 := Lib.hid (bThen K10.out k11); clear r11 f11 k11)
                      | ((with_reducible refine (CS4.out _ A7 c7 (YX.RdK.take R711.out _) Z7.out).mono ?_); rintro e w12 ⟨rfl, k12⟩; have K12 := Lib.hid (bThen K11.out k12); have CM12 := Lib.hid (sameF_yes A11 A9 c11 c9 al.length L11 LM al w12 ((R11.out.below k12).more k12.size) ((F11.out.below k12).more k12.size) ((R911.out.below k12).more k12.size) ((FA11.out.below k12).more k12.size) rfl (by have := HI1.out; have := HALL.out; omega)); clear k12))
                    | (go_at_call 28; ((with_reducible refine CM12.out.mono ?_); rintro e w13 ⟨rfl, k13⟩; have K13 := Lib.hid (bThen K12.out k13); clear k13)))
                  go_ret
                  exact ⟨by first | rfl | simp, bThen K1.out K13.out⟩
end Go.Proofs.Ytkgjgbenfpkekaa.JX
