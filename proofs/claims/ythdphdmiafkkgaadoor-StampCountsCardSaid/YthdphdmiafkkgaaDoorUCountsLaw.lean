/-
  The law StampCounts walked.
-/
import Derived.Test.YthdphdmiafkkgaaDoorUAwake
import Derived.OwnWalk
import Derived.RangeFuncNested
import Derived.Deep.CutRange
namespace Go.Proofs.YthdphdmiafkkgaaDoor.UX
open Go.RowKit FixMath
open IX (RdK OwnK wpList_spreadK Kept)
open YX (u8K rdY)
set_option maxRecDepth 100000
set_option linter.unusedVariables false
set_option linter.unusedSimpArgs false

/-- A kind, modulo 6. -/
def m6 (b : UInt8) : UInt8 := UInt8.ofNat (b.toNat % 6)
theorem m6_nat (b : UInt8) : (m6 b).toNat = b.toNat % 6 := YX.u8n (by omega)
theorem m6_lt (b : UInt8) : (m6 b).toNat < 6 := by rw [m6_nat]; omega
theorem eqS_it (a b : Int) : eqS a b a b = true := by simp [eqS]
/-- What k good changes made of the stamp that never was. -/
structure Cnt (l : List Nat) (k : Nat) (x y : Int) : Prop where
  st : Step 0 0 l k x y
  may : mayS x y = true
  z : k = 0 → x = 0 ∧ y = 0
  p : 0 < k → 1 ≤ x ∧ 1 ≤ y
  bx : 0 ≤ x ∧ x ≤ k
  by_ : 0 ≤ y ∧ y ≤ k
theorem Cnt.start (l : List Nat) : Cnt l 0 0 0 := ⟨Step.start _ _ _, by decide, fun _ => ⟨rfl, rfl⟩, fun h => absurd h (by omega), by omega, by omega⟩
theorem Cnt.good {l : List Nat} {k : Nat} {x y : Int} {c : Nat} (h : Cnt l k x y) (hc : l[k]? = some c) (h1 : 1 ≤ c ∧ c ≤ 4) (h2 : k = 0 → c = 1) (hk : k ≤ 1000) : Cnt l (k + 1) (x + addD c) (y + addS c) := by
  have a1 := addD_le c; have a2 := addS_le c
  have hcan : canS x y c = true := canS_iff.2 ⟨h.may, h1, fun q => h2 (by
    rcases Nat.eq_zero_or_pos k with e | e
    · exact e
    · have := h.p e; omega)⟩
  have b1 := h.bx; have b2 := h.by_
  have hm : mayS (x + addD c) (y + addS c) = true := by
    rw [mayS_iff]
    right
    rcases Nat.eq_zero_or_pos k with e | e
    · obtain rfl := h2 e
      obtain ⟨e1, e2⟩ := h.z e
      rw [e1, e2]; decide
    · have := h.p e
      omega
  have hz : nxE x y c = 0 := by unfold nxE; rw [if_pos hcan, if_pos hm]
  obtain ⟨_, _, e1, e2⟩ := nxE_0 hz
  have hs := h.st.next hc hz
  rw [e1, e2] at hs
  have hp := mayS_iff.1 hm
  refine ⟨hs, hm, fun q => absurd q (by omega), fun _ => ?_, by omega, by omega⟩
  rcases hp with ⟨q1, q2⟩ | q
  · exfalso
    have := add_one h1
    omega
  · omega
theorem Cnt.bad {l : List Nat} {k : Nat} {x y : Int} {c : Nat} (h : Cnt l k x y) (hc : l[k]? = some c) (hb : ¬ (1 ≤ c ∧ c ≤ 4) ∨ (k = 0 ∧ c ≠ 1)) : alV 0 0 l = .tuple #[sp x y, .int .i64 k, .int .i64 2] := by
  have hf : canS x y c = false := by
    cases q : canS x y c
    · rfl
    · obtain ⟨_, q2, q3⟩ := canS_iff.1 q
      rcases hb with hb | ⟨e, hb⟩
      · exact absurd q2 hb
      · exact absurd (q3 (h.z e).1) hb
  have e : nxE x y c = 2 := by unfold nxE; rw [if_neg (by simp [hf])]
  have := h.st.stop hc (by rw [e]; decide)
  rwa [e] at this
theorem al_parts {l : List Nat} {X Y E x y e : Int} {N k : Nat} (h : alV 0 0 l = .tuple #[sp X Y, .int .i64 N, .int .i64 E]) (g : alV 0 0 l = .tuple #[sp x y, .int .i64 k, .int .i64 e]) : X = x ∧ Y = y ∧ (N : Int) = k ∧ E = e := by
  have q := h.symm.trans g
  simp at q
  obtain ⟨⟨q1, q2⟩, q3, q4⟩ := q
  exact ⟨q1, q2, by omega, q4⟩
set_option maxHeartbeats 8000000 in
theorem counts_walk (A : Option Addr) (l : Bs) (c : Nat) (w : World) (hE : Env w) (h : RdK u8K w w.heap.size A l) (hm : l.length ≤ maxLen) : Calls Tryd.prog 6 #[.slice A l.length c] w fun e w' => e = .returned (.bool true) ∧ Below w.heap.size w w' := by
  unfold maxLen at hm
  have hb : Below w.heap.size w w := Below.refl _ _
  have CA := Lib.hid (awake15_any w hE)
  by_cases h200 : 200 < l.length
  · have i1 : (200 : Int) < (l.length : Int) := by omega
    clear hE
    go_enter Tryd.func6, Tryd.ntmps6
    go_wp2_with (go_at_call 17; ((refine CA.out.mono ?_); rintro e w1 ⟨rfl, k1⟩; replace hb := bThen hb k1))
    go_ret
    exact ⟨rfl, hb⟩
  · have i1 : ¬ (200 : Int) < (l.length : Int) := by omega
    have HR := Lib.hid h
    have CB := Lib.hid (fun (W : World) (A2 : Option Addr) (K : Bs) (c2 : Nat) (q : Below w.heap.size w W) (r : RdK u8K W W.heap.size A2 K) (hk : K.length ≤ 1000) => stAll_any 0 0 A2 K c2 W (hE.then q).adds r hk)
    clear h hE
    go_enter Tryd.func6, Tryd.ntmps6
    go_wp2_with (go_at_call 17; ((refine CA.out.mono ?_); rintro e w1 ⟨rfl, k1⟩; have hb1 := bThen hb k1))
    go_loopw [3, 4] (fun v i wr => ∃ k : Nat, i = .int .i64 k ∧ k ≤ l.length ∧ Hid (OwnK u8K wr w.heap.size v ((l.take k).map m6)) ∧ Below w.heap.size w wr) (fun _ i _ => l.length - (intOf i).toNat)
    case atStart => exact ⟨0, rfl, Nat.zero_le _, Lib.hid (IX.OwnK.nil_ _ _ _), hb1⟩
    case round =>
      obtain ⟨k, rfl, hk, HO, hbr⟩ := hrel
      have j0 : (0 : Int) ≤ (k : Int) := by omega
      by_cases hlt : k < l.length
      · have j1 : (k : Int) < (l.length : Int) := by omega
        obtain ⟨b, off, rfl, hB, hcc⟩ := (rdY (HR.out.below hbr)).at_ (by omega)
        have hcell := hcc k l[k] (List.getElem?_eq_getElem hlt)
        replace hcell : wr.cell? ⟨b, off + k, none⟩ = some (.int .u8 (l[k].toNat : Int)) := hcell
        have u := l[k].toNat_lt
        have hz6 := m6_nat l[k]
        have HS : Hid ((l.take (k + 1)).map m6 = (l.take k).map m6 ++ [m6 l[k]]) := Lib.hid (by rw [List.take_succ_eq_append_getElem hlt, List.map_append]; rfl)
        have hlen : ((l.take k).map m6).length = k := by simp; omega
        have H6 := Lib.hid (m6_lt l[k])
        generalize (l.take k).map m6 = L1 at *
        generalize m6 l[k] = z6 at *
        generalize l[k].toNat = z at *
        have hr : (z : Int).tmod 6 = (z6.toNat : Int) := by rw [Int.tmod_eq_emod_of_nonneg (by omega), hz6]; omega
        have hr2 : (z : Int) % 6 = (z6.toNat : Int) := by rw [hz6]; omega
        have HZ := Lib.hid hz6
        clear hcc hz6
        have HL : Hid (RdK u8K (wr.alloc (.cells #[.int .u8 (z6.toNat : Int)] 5)) (wr.heap.size + 1) (some ⟨wr.heap.size, 0, none⟩) [z6]) := Lib.hid (IX.RdK.lit wr z6 #[.int .u8 (z6.toNat : Int)] rfl 5)
        have HO2 := Lib.hid (HO.out.below (bAl (Below.refl _ wr) (.cells #[.int .u8 (z6.toNat : Int)] 5)))
        have B2 := Lib.hid (bAl hbr (.cells #[.int .u8 (z6.toNat : Int)] 5))
        have hlq := Lib.hid hlen
        have hlb : L1.length ≤ 200 := by omega
        clear hlen
        go_upto_region 8 with (at_builtin; (refine wpList_spreadK u8K rfl (.tmp 24) (.tmp 30) rfl w.heap.size _ L1 rfl HO2.out (wr.heap.size + 1) (some ⟨wr.heap.size, 0, none⟩) 1 1 [z6] rfl rfl HL.out ?c1 ?c2 ?_))
        case c1 => (first | omega | (simp; omega))
        case c2 => (first | exact Nat.le_refl _ | omega | (have := hbr.size; simp; omega))
        intro v3 w3 o3 g3 f3
        have K3 := Lib.hid (B2.out.grown g3 (by have := hbr.size; simp; omega) (fun a ha => (HO2.out.lt a ha).1))
        have O3 := Lib.hid o3
        clear o3 g3 f3
        go_wp2
        go_roundw
        case rel => exact ⟨k + 1, by go_num, by omega, Lib.hid (by rw [HS.out]; exact O3.out), K3.out⟩
        case measure => simp [intOf]; omega
      · obtain rfl : k = l.length := by omega
        have j1 : ¬ (l.length : Int) < (l.length : Int) := by omega
        have HO2 := HO.out
        rw [List.take_length] at HO2
        obtain ⟨A2, c2, rfl, r2, hc2, _⟩ := HO2.form
        have HK6 : Hid (∀ (i : Nat) (x : UInt8), (l.map m6)[i]? = some x → x.toNat < 6) := Lib.hid (fun i x q => by
          rw [List.getElem?_map] at q
          obtain ⟨b, _, rfl⟩ := Option.map_eq_some_iff.1 q
          exact m6_lt b)
        have hKl : (l.map m6).length = l.length := by simp
        have R2 := Lib.hid r2
        clear HO HO2 r2
        generalize l.map m6 = K at *
        have hKb : K.length ≤ 200 := by omega
        clear hKl
        have hKD : Hid ((kds K).length = K.length) := Lib.hid (by simp)
        have C1 := Lib.hid (CB.out wr A2 K c2 hbr R2.out (by omega))
        obtain ⟨X, hX⟩ : ∃ X, aD 0 0 (kds K) = X := ⟨_, rfl⟩
        obtain ⟨Y, hY⟩ : ∃ Y, aS 0 0 (kds K) = Y := ⟨_, rfl⟩
        obtain ⟨N, hN⟩ : ∃ N, aN 0 0 (kds K) = N := ⟨_, rfl⟩
        obtain ⟨E, hEe⟩ : ∃ E, aE 0 0 (kds K) = E := ⟨_, rfl⟩
        have hAV : alV 0 0 (kds K) = .tuple #[sp X Y, .int .i64 N, .int .i64 E] := by unfold alV; rw [hX, hY, hN, hEe]
        rw [hAV] at C1
        have HAV := Lib.hid hAV
        clear hX hY hN hEe hAV
        go_wp2_with (go_at_call 9; ((refine C1.out.mono ?_); rintro e w2 ⟨rfl, k2⟩; have hb2 := bAl (bThen hbr k2) (.cells #[.int .i64 X, .int .i64 Y] 23); have x2 := At2.new w2 X Y 23; have R4 := Lib.hid ((R2.out.below (bAl (bThen (Below.refl _ _) k2) (.cells #[.int .i64 X, .int .i64 Y] 23))).more (bAl (bThen (Below.refl _ _) k2) (.cells #[.int .i64 X, .int .i64 Y] 23)).size)))
        have X2 := Lib.hid x2
        have HB2 := Lib.hid hb2
        have hl2 := x2.lt
        clear R2 hbr CB C1 CA hb1 hb x2 hb2 HR k2
        generalize w2.alloc (.cells #[.int .i64 X, .int .i64 Y] 23) = W0 at *
        generalize w2.heap.size = B0 at *
        go_loopw [8, 9, 10, 11] (fun vd vs vm i wr => ∃ (k : Nat) (x y : Int), i = .int .i64 k ∧ vm = .int .i64 k ∧ vd = .int .i64 x ∧ vs = .int .i64 y ∧ k ≤ K.length ∧ Hid (Cnt (kds K) k x y) ∧ wr = W0) (fun _ _ _ i _ => K.length - (intOf i).toNat)
        case atStart => exact ⟨0, 0, 0, rfl, rfl, rfl, rfl, Nat.zero_le _, Lib.hid (Cnt.start _), rfl⟩
        case round =>
          obtain ⟨k, x, y, rfl, rfl, rfl, rfl, hk, HC, hwr⟩ := hrel
          subst hwr
          have hbs := HB2.out
          have x0 := X2.out.c0; have x1 := X2.out.c1
          have bx := HC.out.bx; have bY := HC.out.by_
          have CM := Lib.hid (fun W => stMay_any x y W)
          rw [HC.out.may] at CM
          by_cases hlt : k < K.length
          · obtain ⟨b, off, rfl, hB, hcc⟩ := (rdY R4.out).at_ (by omega)
            have hcell := hcc k K[k] (List.getElem?_eq_getElem hlt)
            replace hcell : wr.cell? ⟨b, off + k, none⟩ = some (.int .u8 (K[k].toNat : Int)) := hcell
            have hKD : (kds K)[k]? = some K[k].toNat := by simp [hlt]
            have h6 := HK6.out k K[k] (List.getElem?_eq_getElem hlt)
            generalize K[k].toNat = z at *
            have HG := Lib.hid (fun h1 h2 => HC.out.good hKD h1 h2 (by omega))
            have HBd := Lib.hid (fun h => HC.out.bad hKD h)
            clear hcc hKD
            have j0 : (0 : Int) ≤ (k : Int) := by omega
            have j1 : (k : Int) < (K.length : Int) := by omega
            have jne : ((k : Int) == (K.length : Int)) = false := by simp; omega
            have hz : z = 0 ∨ z = 1 ∨ z = 2 ∨ z = 3 ∨ z = 4 ∨ z = 5 := by omega
            rcases hz with rfl | rfl | rfl | rfl | rfl | rfl
            · skip
              obtain ⟨e1, e2, e3, e4⟩ := al_parts HAV.out (HBd.out (.inl (by omega)))
              have hQ := fun W => (run_eqSt W x y x y).trans (by rw [eqS_it])
              clear HG HBd HC HAV
              subst e1 e2 e4
              go_wp2_with (go_at_call 19; ((refine (CM.out _).mono ?_); rintro e w5 ⟨rfl, k5⟩; have hb5 := bThen hbs k5))
              go_ret
              exact ⟨by simp [e3], hb5⟩
            · skip
              by_cases hk0 : k = 0
              · subst hk0
                simp only [Nat.add_zero] at hcell
                have HG2 := Lib.hid (HG.out (by omega) (fun _ => rfl))
                rw [show addD 1 = 1 from rfl, show addS 1 = 1 from rfl] at HG2
                clear HG HBd HC HAV CM
                go_wp2
                go_roundw
                case rel => exact ⟨0 + 1, x + 1, y + 1, by go_num, by go_num, by go_num, by go_num, by omega, HG2, (by first | rfl | trivial)⟩
                case measure => simp [intOf]; omega
              · skip
                have HG2 := Lib.hid (HG.out (by omega) (fun _ => rfl))
                rw [show addD 1 = 1 from rfl, show addS 1 = 1 from rfl] at HG2
                clear HG HBd HC HAV CM
                go_wp2
                go_roundw
                case rel => exact ⟨k + 1, x + 1, y + 1, by go_num, by go_num, by go_num, by go_num, by omega, HG2, (by first | rfl | trivial)⟩
                case measure => simp [intOf]; omega
            · skip
              by_cases hk0 : k = 0
              · subst hk0
                simp only [Nat.add_zero] at hcell
                obtain ⟨e1, e2, e3, e4⟩ := al_parts HAV.out (HBd.out (.inr ⟨rfl, by omega⟩))
                have hQ := fun W => (run_eqSt W x y x y).trans (by rw [eqS_it])
                clear HG HBd HC HAV
                subst e1 e2 e4
                go_wp2_with (go_at_call 19; ((refine (CM.out _).mono ?_); rintro e w5 ⟨rfl, k5⟩; have hb5 := bThen hbs k5))
                go_ret
                exact ⟨by simp [e3]; omega, hb5⟩
              · have k0 : ((k : Int) == 0) = false := by simp; omega
                have HG2 := Lib.hid (HG.out (by omega) (fun q => absurd q hk0))
                rw [show addD 2 = 1 from rfl, show addS 2 = 0 from rfl] at HG2
                simp only [Int.add_zero] at HG2
                clear HG HBd HC HAV CM
                go_wp2
                go_roundw
                case rel => exact ⟨k + 1, x + 1, y, by go_num, by go_num, by go_num, rfl, by omega, HG2, (by first | rfl | trivial)⟩
                case measure => simp [intOf]; omega
            · skip
              by_cases hk0 : k = 0
              · subst hk0
                simp only [Nat.add_zero] at hcell
                obtain ⟨e1, e2, e3, e4⟩ := al_parts HAV.out (HBd.out (.inr ⟨rfl, by omega⟩))
                have hQ := fun W => (run_eqSt W x y x y).trans (by rw [eqS_it])
                clear HG HBd HC HAV
                subst e1 e2 e4
                go_wp2_with (go_at_call 19; ((refine (CM.out _).mono ?_); rintro e w5 ⟨rfl, k5⟩; have hb5 := bThen hbs k5))
                go_ret
                exact ⟨by simp [e3]; omega, hb5⟩
              · have k0 : ((k : Int) == 0) = false := by simp; omega
                have HG2 := Lib.hid (HG.out (by omega) (fun q => absurd q hk0))
                rw [show addD 3 = 0 from rfl, show addS 3 = 1 from rfl] at HG2
                simp only [Int.add_zero] at HG2
                clear HG HBd HC HAV CM
                go_wp2
                go_roundw
                case rel => exact ⟨k + 1, x, y + 1, by go_num, by go_num, rfl, by go_num, by omega, HG2, (by first | rfl | trivial)⟩
                case measure => simp [intOf]; omega
            · skip
              by_cases hk0 : k = 0
              · subst hk0
                simp only [Nat.add_zero] at hcell
                obtain ⟨e1, e2, e3, e4⟩ := al_parts HAV.out (HBd.out (.inr ⟨rfl, by omega⟩))
                have hQ := fun W => (run_eqSt W x y x y).trans (by rw [eqS_it])
                clear HG HBd HC HAV
                subst e1 e2 e4
                go_wp2_with (go_at_call 19; ((refine (CM.out _).mono ?_); rintro e w5 ⟨rfl, k5⟩; have hb5 := bThen hbs k5))
                go_ret
                exact ⟨by simp [e3]; omega, hb5⟩
              · have k0 : ((k : Int) == 0) = false := by simp; omega
                have HG2 := Lib.hid (HG.out (by omega) (fun q => absurd q hk0))
                rw [show addD 4 = 1 from rfl, show addS 4 = 0 from rfl] at HG2
                simp only [Int.add_zero] at HG2
                clear HG HBd HC HAV CM
                go_wp2
                go_roundw
                case rel => exact ⟨k + 1, x + 1, y, by go_num, by go_num, by go_num, rfl, by omega, HG2, (by first | rfl | trivial)⟩
                case measure => simp [intOf]; omega
            · skip
              obtain ⟨e1, e2, e3, e4⟩ := al_parts HAV.out (HBd.out (.inl (by omega)))
              have hQ := fun W => (run_eqSt W x y x y).trans (by rw [eqS_it])
              clear HG HBd HC HAV
              subst e1 e2 e4
              go_wp2_with (go_at_call 19; ((refine (CM.out _).mono ?_); rintro e w5 ⟨rfl, k5⟩; have hb5 := bThen hbs k5))
              go_ret
              exact ⟨by simp [e3], hb5⟩
          · obtain rfl : k = K.length := by omega
            have j1 : ¬ (K.length : Int) < (K.length : Int) := by omega
            have q := HC.out.st
            rw [← hKD.out] at q
            obtain ⟨e1, e2, e3, e4⟩ := al_parts HAV.out q.end_
            rw [hKD.out] at e3
            have hQ := fun W => (run_eqSt W x y x y).trans (by rw [eqS_it])
            clear HC HAV q
            subst e1 e2 e4
            go_wp2_with (go_at_call 19; ((refine (CM.out _).mono ?_); rintro e w5 ⟨rfl, k5⟩; have hb5 := bThen hbs k5))
            go_ret
            exact ⟨by simp [e3], hb5⟩
end Go.Proofs.YthdphdmiafkkgaaDoor.UX
