/-
  The law WireFrames walked.
-/
import Derived.Test.YtkgjgbenfpkekaaJJoin
import Derived.Test.YtkgjgbenfpkekaaJSame
import Derived.Test.YtkgjgbenfpkekaaJRefSplit
import Derived.Test.YtkgjgbenfpkekaaPTel
namespace Go.Proofs.Ytkgjgbenfpkekaa.JX
open Go.RowKit HL
open IX (ptr El cellsK cellsK_at cellsK_len OwnK RdK Kept wpList_spreadK)
open YX (numB rdU rdB addW told rest u8K RAt u8 vU)
open PX (RowAt row_made row_set set_rep TelB Txt bts_telB nOf)
set_option maxRecDepth 100000
set_option linter.unusedVariables false
set_option linter.unusedSimpArgs false

def nS (r : Option (List Bs)) : Int := match r with | some _ => 0 | none => 120
theorem own_len {w : World} {base : Nat} {v : Value} {L : List Sl3} (h : OwnK slK w base v L) : ∃ A c, v = .slice A L.length c ∧ RdK slK w w.heap.size A L := by
  obtain ⟨A, c, e, r, _⟩ := h.form
  exact ⟨A, c, e, r⟩
theorem own_rd2 {w : World} {base n c : Nat} {A : Option Addr} {L : List Sl3} (h : OwnK slK w base (.slice A n c) L) : RdK slK w w.heap.size A L := by
  obtain ⟨A', c', e, r, _⟩ := h.form
  simp only [Value.slice.injEq] at e
  obtain ⟨rfl, _, _⟩ := e
  exact r
theorem own_cell {w : World} {base n c : Nat} {A : Option Addr} {L : List Sl3} (h : OwnK slK w base (.slice A n c) L) {k : Nat} {x : Sl3} (hk : L[k]? = some x) : ∃ gx, A = some ⟨gx, 0, none⟩ ∧ (Value.slice A n c).ownBlock = some gx ∧ gx < w.heap.size ∧ w.cell? ⟨gx, k, none⟩ = some (.slice x.A x.n x.c) := by
  have hr := own_rd2 h
  rcases h.2 with ⟨e, h0⟩ | ⟨g, cap, cur, e, _⟩
  · have := List.eq_nil_of_length_eq_zero h0
    rw [this] at hk; simp at hk
  · simp only [Value.slice.injEq] at e
    obtain ⟨rfl, _, _⟩ := e
    refine ⟨g, rfl, rfl, (h.lt g rfl).2, ?_⟩
    rcases hr with q | ⟨b, off, e, _, hc⟩
    · rw [q] at hk; simp at hk
    · cases e
      have := hc _ _ (cellsK_at slK hk (i := 0) (u := .slice x.A x.n x.c) rfl)
      have e1 : 0 + (k * slK.size + 0) = k := by show 0 + (k * 1 + 0) = k; omega
      rwa [e1] at this
theorem splitL_len : ∀ (n : Nat) (b : Bs) (l : List Bs), b.length ≤ n → splitL b = some l → l.length ≤ b.length
  | n, b, l, hn, h => by
    by_cases hb : b = []
    · subst hb
      rw [splitL_nil] at h; cases h; exact Nat.le_refl _
    · cases hc : cutF b with
      | none => rw [splitL_no hb hc] at h; cases h
      | some p =>
        obtain ⟨f, r⟩ := p
        have hlt := cutF_len hc
        rw [splitL_yes hb hc] at h
        cases hr : splitL r with
        | none => rw [hr] at h; cases h
        | some l2 =>
          rw [hr] at h
          cases h
          cases n with
          | zero => omega
          | succ n =>
            have := splitL_len n r l2 (by omega) hr
            simp only [List.length_cons]
            omega
theorem cutF_small {b f r : Bs} (h : cutF b = some (f, r)) : f.length ≤ 4096 := by
  unfold cutF at h
  split at h
  · cases h
  · rename_i n q e
    split at h
    · cases h
    · injection h with h
      injection h with h1 h2
      rw [← h1, List.length_take]
      omega
theorem splitL_small : ∀ (n : Nat) (b : Bs) (l : List Bs), b.length ≤ n → splitL b = some l → ∀ f ∈ l, f.length ≤ 4096
  | n, b, l, hn, h => by
    by_cases hb : b = []
    · subst hb
      rw [splitL_nil] at h; cases h
      intro f hf; cases hf
    · cases hc : cutF b with
      | none => rw [splitL_no hb hc] at h; cases h
      | some p =>
        obtain ⟨f, r⟩ := p
        have hlt := cutF_len hc
        rw [splitL_yes hb hc] at h
        cases hr : splitL r with
        | none => rw [hr] at h; cases h
        | some l2 =>
          rw [hr] at h
          cases h
          cases n with
          | zero => omega
          | succ n =>
            intro y hy
            rcases List.mem_cons.1 hy with rfl | hy
            · exact cutF_small hc
            · exact splitL_small n r l2 (by omega) hr y hy
theorem splitF_small (b : Bs) : ∀ f ∈ (splitF b).getD [], f.length ≤ 4096 := by
  unfold splitF
  split
  · intro f hf; cases hf
  · cases h : splitL b with
    | none => intro f hf; cases hf
    | some l => exact splitL_small b.length b l (Nat.le_refl _) h
theorem splitF_len (b : Bs) : ((splitF b).getD []).length ≤ b.length := by
  unfold splitF
  split
  · simp
  · cases h : splitL b with
    | none => simp
    | some l => exact splitL_len b.length b l (Nat.le_refl _) h
/-- The program's frames, told. -/
def Sq (w0 : World) (l : List Bs) (n : Int) (e : Ending) (w' : World) : Prop := ∃ A c L, e = .returned (.tuple #[.slice A l.length c, .int .i64 n]) ∧ OwnK slK w' w0.heap.size (.slice A l.length c) L ∧ OwnFs w' w0.heap.size (.slice A l.length c) L l ∧ Below w0.heap.size w0 w'
theorem sp_sq {w0 : World} {r : Option (List Bs)} {e : Ending} {w' : World} (h : Sp w0 r e w') : Sq w0 (r.getD []) (nS r) e w' := by
  cases r with
  | none =>
    obtain ⟨he, k⟩ := h
    exact ⟨none, 0, [], he, OwnK.nil_ _ _ _, OwnFs.nil _ _ _, k⟩
  | some l =>
    obtain ⟨v, L, he, o, f, k⟩ := h
    obtain ⟨A, c, rfl, _⟩ := own_len o
    have hl : L.length = l.length := f.1
    rw [hl] at he o f
    exact ⟨A, c, L, he, o, f, k⟩
def Rq (w0 : World) (l : List Bs) (n : Int) (e : Ending) (w' : World) : Prop := ∃ A c L, e = .returned (.tuple #[.slice A l.length c, .int .i64 n]) ∧ RdK slK w' w'.heap.size A L ∧ Frs w' w'.heap.size L l ∧ Below w0.heap.size w0 w'
theorem rs_rq {w0 : World} {r : Option (List Bs)} {e : Ending} {w' : World} (h : Rs w0 r e w') : Rq w0 (r.getD []) (nS r) e w' := by
  cases r with
  | none =>
    obtain ⟨he, k⟩ := h
    exact ⟨none, 0, [], he, .inl rfl, Frs.nil _ _, k⟩
  | some l =>
    obtain ⟨v, L, he, o, f, k⟩ := h
    obtain ⟨A, c, rfl, hr⟩ := own_len o
    have hl : L.length = l.length := f.1
    rw [hl] at he
    exact ⟨A, c, L, he, hr, f.frs, k⟩
/-- Rows of one's own of these lengths, whatever they hold. -/
def Shp (w : World) (base : Nat) (v : Value) (L : List Sl3) (l : List Bs) : Prop := ∀ (i : Nat) (x : Sl3) (f : Bs), L[i]? = some x → l[i]? = some f → ∃ g f', x = ⟨some ⟨g, 0, none⟩, f.length, f.length⟩ ∧ base ≤ g ∧ g < w.heap.size ∧ v.ownBlock ≠ some g ∧ f'.length = f.length ∧ RowAt u8K w g f'
theorem OwnFs.shp {w : World} {base : Nat} {v : Value} {L : List Sl3} {l : List Bs} (h : OwnFs w base v L l) : Shp w base v L l := fun i x f a b => by
  obtain ⟨g, e, h1, h2, h3, h4⟩ := h.2 i x f a b
  exact ⟨g, f, e, h1, h2, h3, rfl, h4⟩
theorem Shp.below {w w' : World} {base : Nat} {v : Value} {L : List Sl3} {l : List Bs} (h : Shp w base v L l) (k : Below w.heap.size w w') : Shp w' base v L l := fun i x f a b => by
  obtain ⟨g, f', e, h1, h2, h3, h4, h5⟩ := h i x f a b
  exact ⟨g, f', e, h1, Nat.lt_of_lt_of_le h2 k.size, h3, h4, AtC.then h5 k⟩
theorem row_len {w : World} {g k : Nat} {f f' : Bs} (h : RowAt u8K w g f) (h' : RowAt u8K w g f') (hk : k < f.length) : k < f'.length := by
  obtain ⟨v, hv⟩ := row_f h hk
  rw [h'.c k] at hv
  have := (Array.getElem?_eq_some_iff.1 hv).1
  rw [List.size_toArray, cellsK_len] at this
  have e : f'.length * u8K.size = f'.length := by show _ * 1 = _; omega
  omega
theorem Shp.store {w : World} {base : Nat} {v : Value} {L : List Sl3} {l : List Bs} (h : Shp w base v L l) {g0 k : Nat} {f0 : Bs} (h0 : RowAt u8K w g0 f0) (hk : k < f0.length) (x : UInt8) : Shp (w.setCell ⟨g0, k, none⟩ (u8 x)) base v L l := fun i y f a b => by
  obtain ⟨g, f', e, h1, h2, h3, h4, h5⟩ := h i y f a b
  have hsz : (w.setCell ⟨g0, k, none⟩ (u8 x)).heap.size = w.heap.size := by simp [World.setCell]
  by_cases hg : g = g0
  · subst hg
    exact ⟨g, f'.set k x, e, h1, by rw [hsz]; exact h2, h3, by simp [h4], row_set1 h5 (row_len h0 h5 hk) x⟩
  · exact ⟨g, f', e, h1, by rw [hsz]; exact h2, h3, h4, AtC.kept h5 ((Kept.refl w (· ≠ g0)).set (B := g0) (fun _ q => q rfl) _) hg⟩
set_option maxHeartbeats 8000000 in
theorem frames_walk (A B : Option Addr) (c d : Nat) (L : List Sl3) (l : List Bs) (b : Bs) (w : World) (h : RdK slK w w.heap.size A L) (hf : Frs w w.heap.size L l) (hb : RdK u8K w w.heap.size B b) (hlm : ∀ f ∈ l, f.length ≤ maxLen) (hl : l.length ≤ maxLen) (hbl : b.length ≤ maxLen) (hd : b.length ≤ d) :
    Calls Try.prog 5 #[.slice A l.length c, .slice B b.length d] w fun e w' => e = .returned (.bool true) ∧ Below w.heap.size w w' := by
  by_cases g1 : 40 < l.length
  · have i1 : (40 : Int) < (l.length : Int) := by omega
    clear h hf hb
    go_enter Try.func5, Try.ntmps5
    go_wp2
    go_ret
    exact ⟨rfl, Below.refl _ _⟩
  have i1 : ¬ (40 : Int) < (l.length : Int) := by omega
  by_cases g2 : 6000 < b.length
  · have i2 : (6000 : Int) < (b.length : Int) := by omega
    clear h hf hb
    go_enter Try.func5, Try.ntmps5
    go_wp2
    go_ret
    exact ⟨rfl, Below.refl _ _⟩
  have i2 : ¬ (6000 : Int) < (b.length : Int) := by omega
  have CJ := Lib.hid (join_any A c L l w h hf (by omega))
  have CJ := Lib.hid (CJ.out.mono fun _ _ => bts_telB)
  have CR := Lib.hid (fun W (k : Below w.heap.size w W) => (refJoin_any A c L l W ((h.below k).more k.size) ((hf.below k).more k.size) (by omega)).mono fun _ _ => bts_telB)
  have CS := Lib.hid (fun W A2 c2 (q : RdK u8K W W.heap.size A2 b) (q0 : A2 = none → c2 = 0) => (split_any A2 c2 b W q (by omega) q0).mono fun _ _ => sp_sq)
  have CT := Lib.hid (fun W (k : Below w.heap.size w W) => (refSplit_any B d b W ((hb.below k).more k.size) hd).mono fun _ _ => rs_rq)
  have HBb := Lib.hid hb
  have HH := Lib.hid h
  have HF := Lib.hid hf
  have HLM := Lib.hid hlm
  clear h hf hb hlm
  have HSL : Hid (((splitF b).getD []).length ≤ 1000000) := Lib.hid (by have := splitF_len b; omega)
  have HSM := Lib.hid (splitF_small b)
  generalize joinF l = rj at *
  generalize nOf rj = nj at *
  generalize rj.getD [] = sj at *
  generalize splitF b = rs at *
  generalize nS rs = ns at *
  generalize rs.getD [] = fs at *
  go_enter Try.func5, Try.ntmps5
  go_wp2
  go_loopw [5, 6] (fun s i wr => ∃ (k m : Nat), i = .int .i64 k ∧ s = .int .i64 m ∧ k ≤ l.length ∧ m ≤ 70000 ∧ wr = w) (fun _ i _ => l.length - (intOf i).toNat)
  case atStart => exact ⟨0, 0, rfl, rfl, by omega, by omega, rfl⟩
  case round =>
    obtain ⟨k, m, rfl, rfl, hk, hm, hww⟩ := hrel
    have hw2 : w = wr := hww.symm
    subst hw2
    clear hww
    by_cases hlt : k < l.length
    · have i3 : (k : Int) < (l.length : Int) := by omega
      obtain ⟨b1, off, x, rfl, hbb, hcc, _, _, _⟩ := fr_at HH.out HF.out hlt
      have hc := hcc _ (Below.refl _ _)
      have hn := HLM.out _ (List.getElem_mem hlt)
      clear hcc
      generalize l[k].length = n at *
      by_cases g3 : 5000 < n
      · have i4 : (5000 : Int) < (n : Int) := by omega
        go_wp2
        go_ret
        exact ⟨rfl, Below.refl _ _⟩
      · have i4 : ¬ (5000 : Int) < (n : Int) := by omega
        have hw1 : IntKind.i64.wrap ((m : Int) + (n : Int)) = (m : Int) + (n : Int) := YX.wI (by omega) (by omega)
        by_cases g4 : 70000 < m + n
        · have i5 : (70000 : Int) < (m : Int) + (n : Int) := by omega
          go_wp2
          go_ret
          exact ⟨rfl, Below.refl _ _⟩
        · have i5 : ¬ (70000 : Int) < (m : Int) + (n : Int) := by omega
          go_wp2
          go_roundw
          case rel => exact ⟨k + 1, m + n, by go_num, by go_num, by omega, by omega, by first | rfl | trivial⟩
          case measure => (simp [intOf]; try omega)
    · obtain rfl : k = l.length := by omega
      have i3 : ¬ (l.length : Int) < (l.length : Int) := by omega
      clear HH HF HLM
      go_upto_region 12 with (first
        | (go_at_call 24; ((refine CJ.out.mono ?_); rintro e w1 ⟨v1, rfl, t1, k1⟩; have T1 := Lib.hid t1; have K1 := Lib.hid k1; clear t1 k1))
        | (go_at_call 25; ((refine (CR.out _ K1.out).mono ?_); rintro e w2 ⟨v2, rfl, t2, k2⟩; have K2 := Lib.hid (bThen K1.out k2); have cv1 : (convert 26 9 v1).run Try.prog w2 = .ok (str sj) w2 := T1.out _ k2; have cv2 : (convert 26 9 v2).run Try.prog w2 = .ok (str sj) w2 := t2 _ (Below.refl _ _); clear t2 k2)))
      go_upto_region 15 with (at_builtin; refine wpList_spreadK u8K rfl (.tmp 69) (.tmp 70) rfl w2.heap.size _ [] rfl (OwnK.lit _ _ (Nat.le_refl _)) w.heap.size B b.length d b rfl rfl ((HBb.out.below K2.out).below ((Below.refl w.heap.size w2).alloc K2.out.size _)) ?c1 ?c2 ?_)
      case c1 => (first | omega | (simp; omega))
      case c2 => simp
      intro v3 w3 o3 g3 f3
      have B3 := Lib.hid ((bAl (Below.refl w2.heap.size w2) (.cells #[] 5)).grown g3 (by simp) (fun a ha => by simp [Value.ownBlock] at ha; omega))
      have K3 := Lib.hid (bThen K2.out B3.out)
      have o3' : OwnK u8K w3 w2.heap.size v3 b := o3
      obtain ⟨Am, cm, rfl, rm, hcm, _⟩ := o3'.form
      have RM := Lib.hid rm
      have HM0 := Lib.hid (own_none o3')
      have HB3 := Lib.hid ((HBb.out.below K3.out).more K3.out.size)
      clear o3 o3' g3 f3 rm
      go_upto_region 18 with (first
        | (go_at_call 26; ((refine (CS.out w3 Am cm RM.out HM0.out).mono ?_); rintro e w4 ⟨A4, c4, L4, rfl, o4, f4, k4⟩; have O4 := Lib.hid o4; have F4 := Lib.hid f4; have K4 := Lib.hid k4; clear o4 f4 k4))
        | (go_at_call 27; ((refine (CT.out _ (bThen K3.out K4.out)).mono ?_); rintro e w5 ⟨A5, c5, L5, rfl, r5, f5, k5⟩; have K5 := Lib.hid k5; have CSAME := Lib.hid (sameF_yes A4 A5 c4 c5 fs.length L4 L5 fs w5 (((own_rd2 O4.out).below k5).more k5.size) ((F4.out.frs.below k5).more k5.size) r5 f5 rfl HSL.out); clear r5 f5 k5))
        | (go_at_call 28; ((refine CSAME.out.mono ?_); rintro e w6 ⟨rfl, k6⟩; have K6 := Lib.hid (bThen K4.out (bThen K5.out k6)); have B46 := Lib.hid (bThen K5.out k6); clear k6)))
      have SH6 := Lib.hid (F4.out.shp.below B46.out)
      have HL4 := Lib.hid F4.out.1
      have O6 := Lib.hid (O4.out.below B46.out)
      obtain ⟨v4, hv4⟩ : ∃ v4, v4 = Value.slice A4 fs.length c4 := ⟨_, rfl⟩
      rw [← hv4] at SH6
      have HV4 := Lib.hid hv4
      clear hv4 F4 O4 CSAME K5 T1 cv1 cv2 CJ CR CS CT
      go_loopw [16] (fun i wr => ∃ k : Nat, i = .int .i64 k ∧ k ≤ fs.length ∧ Hid (Shp wr w3.heap.size v4 L4 fs) ∧ Kept w6 wr (fun j => j < w3.heap.size ∨ v4.ownBlock = some j)) (fun i _ => fs.length - (intOf i).toNat)
      case atStart => exact ⟨0, rfl, by omega, SH6, Kept.refl _ _⟩
      case round =>
        obtain ⟨k, rfl, hk, hS, hkp⟩ := hrel
        have hsl := HSL.out
        have KP := Lib.hid hkp
        clear SH6
        by_cases hlt : k < fs.length
        · have i4 : (k : Int) < (fs.length : Int) := by omega
          have hkL : k < L4.length := by rw [HL4.out]; exact hlt
          obtain ⟨gx, eA, hob, hgx, hcell⟩ := own_cell O6.out (List.getElem?_eq_getElem hkL)
          rw [← HV4.out] at hob
          obtain ⟨g, f0, ex, hg1, hg2, hg3, hfl, hrow⟩ := hS.out k _ _ (List.getElem?_eq_getElem hkL) (List.getElem?_eq_getElem hlt)
          rw [ex] at hcell
          have HCE : Hid (∀ W, Kept w6 W (fun j => j < w3.heap.size ∨ v4.ownBlock = some j) → W.cell? ⟨gx, k, none⟩ = some (.slice (some ⟨g, 0, none⟩) fs[k].length fs[k].length)) := Lib.hid (fun W q => (q.cell hgx (.inr hob)).trans hcell)
          have HEX := Lib.hid ex
          have HFK : Hid (fs[k]? = some fs[k] ∧ L4[k]? = some L4[k]) := Lib.hid ⟨List.getElem?_eq_getElem hlt, List.getElem?_eq_getElem hkL⟩
          subst eA
          have hHg : Hid (w3.heap.size ≤ g ∧ v4.ownBlock ≠ some g) := Lib.hid ⟨hg1, hg3⟩
          have hfb := HSM.out _ (List.getElem_mem hlt)
          clear hcell ex hrow hfl hg2 f0
          generalize fs[k] = f at *
          generalize L4[k] = x at *
          clear hkL
          have cS := HCE.out wr hkp
          go_wp2
          go_loopw [17] (fun j wr2 => ∃ m2 : Nat, j = .int .i64 m2 ∧ m2 ≤ f.length ∧ Hid (Shp wr2 w3.heap.size v4 L4 fs) ∧ Kept w6 wr2 (fun j => j < w3.heap.size ∨ v4.ownBlock = some j)) (fun j _ => f.length - (intOf j).toNat)
          case atStart => exact ⟨0, rfl, by omega, hS, hkp⟩
          case round =>
            obtain ⟨m2, rfl, hm2, hS2, hk2⟩ := hrel
            have K2p := Lib.hid hk2
            have cS := HCE.out wr hk2
            by_cases hlt2 : m2 < f.length
            · have i6 : (m2 : Int) < (f.length : Int) := by omega
              obtain ⟨g', f', ex, _, hg2, _, hfl, hrow⟩ := hS2.out k x f HFK.out.2 HFK.out.1
              have eg : g' = g := by
                have e1 := ex.symm.trans HEX.out
                simp only [Sl3.mk.injEq, Option.some.injEq, Addr.mk.injEq] at e1
                exact e1.1.1
              subst eg
              have hm3 : m2 < f'.length := by omega
              obtain ⟨v0, hv0⟩ := row_f hrow hm3
              have hfz := hrow.f m2
              have SN := Lib.hid (hS2.out.store hrow hm3 77)
              have KN := Lib.hid (hk2.set (B := g') (fun _ q => q.elim (fun q => (by have := hHg.out.1; omega)) (fun q => hHg.out.2 q)) (u8 77) (i := m2))
              clear hrow ex
              go_wp2
              go_roundw
              case rel => exact ⟨m2 + 1, by go_num, by omega, SN, KN.out⟩
              case measure => (simp [intOf]; try omega)
            · obtain rfl : m2 = f.length := by omega
              have i6 : ¬ (f.length : Int) < (f.length : Int) := by omega
              go_wp2
              go_roundw
              case rel => exact ⟨k + 1, by go_num, by omega, hS2, K2p.out⟩
              case measure => (simp [intOf]; try omega)
        · obtain rfl : k = fs.length := by omega
          have i4 : ¬ (fs.length : Int) < (fs.length : Int) := by omega
          have B3w : Below w3.heap.size w3 wr := (Kept.trans (P := (· < w3.heap.size)) (.of_below K6.out) (hkp.weak (fun j h => .inl h))).below (Nat.le_refl _) (fun j hj => hj)
          have cvm := YX.conv_str (c := cm) (RM.out.below B3w) rfl
          have cvb := YX.conv_str (c := d) (HB3.out.below B3w) rfl
          have KF := Lib.hid (bThen K3.out B3w)
          clear B3w
          go_wp2
          go_ret
          exact ⟨by simp, KF.out⟩
end Go.Proofs.Ytkgjgbenfpkekaa.JX
