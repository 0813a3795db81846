/-
  WALK: PutObject.
-/
import Derived.Test.YtjocbokfdfdkeaaGreatLZPFields
import Derived.Laws.BitsAllLaws
namespace Go.Proofs.YtjocbokfdfdkeaaGreat.PX
open Go.RowKit HL
open IX (ptr El cellsK cellsK_at cellsK_len OwnK RdK Kept)
open YX (numB rdU rdB rdT rdS rdI addW intN natI rest told WAt WPt Wr RAt vS vU vI)
set_option maxRecDepth 100000
set_option linter.unusedVariables false
set_option linter.unusedSimpArgs false

theorem fds_at {w : World} {B g : Nat} {l : List Fd} (h : RdK fdK w B (some ⟨g, 0, none⟩) l) (h0 : 0 < l.length) : g < B ∧ ∀ k f, l[k]? = some f → w.cell? ⟨g, k * 3, none⟩ = some (.bool f.z) ∧ w.cell? ⟨g, k * 3 + 1, none⟩ = some (.func (.func f.p1) #[] #[ptr f.b1, ptr f.b0]) ∧ w.cell? ⟨g, k * 3 + 2, none⟩ = some (.func (.func f.p2) #[] #[ptr f.b2, ptr f.b0]) := by
  rcases h with rfl | ⟨b, off, e, hb, hc⟩
  · simp at h0
  · simp at e
    obtain ⟨rfl, rfl⟩ := e
    refine ⟨hb, fun k f hx => ?_⟩
    have q : ∀ (i : Nat) (u : Value), (fdC f)[i]? = some u → w.cell? ⟨g, k * 3 + i, none⟩ = some u := fun i u hu => by
      have := hc _ _ (cellsK_at fdK hx (i := i) (u := u) hu)
      rwa [Nat.zero_add] at this
    exact ⟨q 0 _ rfl, q 1 _ rfl, q 2 _ rfl⟩
theorem mask_next {o : Ob} {k : Nat} (h : k < 12) : maskOf ((fvL o).take (k + 1)) = maskOf ((fvL o).take k) + (if fvSet (fv o k) then 2 ^ k else 0) ∧ maskOf ((fvL o).take k) < 2 ^ k := by
  have h2 : k < (fvL o).length := by rw [fvL_len]; exact h
  have e : fv o k = (fvL o)[k] := by unfold fv; rw [List.getElem?_eq_getElem h2]; rfl
  rw [e]
  refine ⟨maskOf_next h2, ?_⟩
  have := maskOf_lt ((fvL o).take k)
  rwa [List.length_take, Nat.min_eq_left (by omega)] at this
theorem fold_next {o : Ob} {k : Nat} (h : k < 12) (s : Option Bs) : ((fvL o).take (k + 1)).foldl putF s = putF (((fvL o).take k).foldl putF s) (fv o k) := by
  have h2 : k < (fvL o).length := by rw [fvL_len]; exact h
  have e : fv o k = (fvL o)[k] := by unfold fv; rw [List.getElem?_eq_getElem h2]; rfl
  rw [List.take_succ_eq_append_getElem h2, List.foldl_append, e]; rfl
set_option maxHeartbeats 8000000 in
theorem putObject_any (Bw : Nat) (s : Option Bs) (o : Ob) (w : World) (hF : Fine o) (hw : WAt w Bw s) :
    Calls Tryz.prog 109 #[ptr Bw, ob o] w fun e w' => Wrt w Bw (objW s o) e w' := by
  have hb := bAl (Below.refl w.heap.size w) (.cells (obCells o) 24)
  have hB := AtC.new w (obCells o) 24
  have CF := Lib.hid (fields_any w.heap.size o _ hB hF)
  have hBw := hw.lt
  have HW := Lib.hid (hw.below hb)
  have HB := Lib.hid hB
  have CB := Lib.hid (fun (W : World) (s : Option Bs) (q : WAt W Bw s) => (YX.wByte_any (ptr Bw) s o.kind hF.kind W (wpt q)).mono (fun e w' r => wrt r))
  have CT := Lib.hid (fun (W : World) (s : Option Bs) (q : WAt W Bw s) => (YX.wText_any (ptr Bw) s (tx o.handle) W (by have := hF.th; omega) (wpt q)).mono (fun e w' r => wrt r))
  have CU := Lib.hid (fun (W : World) (s : Option Bs) (q : WAt W Bw s) => (YX.wUint_any (ptr Bw) s (maskOf (fvL o)) _ rfl (Nat.lt_of_lt_of_le (maskOf_lt _) (by rw [fvL_len]; decide)) W (wpt q)).mono (fun e w' r => wrt r))
  have HBL := Lib.hid hb
  clear hw hb hB hF
  go_enter Tryz.func109, Tryz.ntmps109
  go_wp2_with (go_at_call 123; ((refine CF.out.mono ?_); rintro e w2 ⟨g, l, rfl, hl, fl, hg, hr, k2⟩; have HL := Lib.hid hl; have HFL := Lib.hid fl; have HR := Lib.hid hr; have HW2 := Lib.hid (HW.out.below k2); have HB2 := Lib.hid (HB.out.then k2); have K2 := Lib.hid (bThen HBL.out k2); clear hl fl hr k2))
  go_loopw [5, 13] (fun m i wr => ∃ k : Nat, i = .int .i64 k ∧ m = .int .u64 (maskOf ((fvL o).take k)) ∧ k ≤ 12 ∧ Below w2.heap.size w2 wr) (fun _ i _ => 12 - (intOf i).toNat)
  case atStart => exact ⟨0, rfl, rfl, by omega, Below.refl _ _⟩
  case round =>
    obtain ⟨k, rfl, rfl, hk, k3⟩ := hrel
    have K3 := Lib.hid k3
    by_cases hlt : k < 12
    · have i1 : (k : Int) < 12 := by omega
      obtain ⟨f, hf⟩ : ∃ f, l[k]? = some f := ⟨_, List.getElem?_eq_getElem (by rw [HL.out]; exact hlt)⟩
      have hz := (HFL.out k f hf).z
      obtain ⟨hgl, hcc⟩ := fds_at (HR.out.below k3) (by rw [HL.out]; omega)
      obtain ⟨q0, q1, q2⟩ := hcc k f hf
      clear hcc
      have hN := mask_next (o := o) hlt
      have h2k : 2 ^ k ≤ 2048 := Nat.pow_le_pow_right (by decide) (show k ≤ 11 by omega)
      obtain ⟨hN1, hN2⟩ := hN
      generalize maskOf ((fvL o).take k) = m at *
      have hsh : IntKind.u64.wrap ((2 : Int) ^ k) = ((2 ^ k : Nat) : Int) := by
        rw [show ((2 : Int) ^ k) = ((2 ^ k : Nat) : Int) by simp]; exact YX.wU (by omega)
      have hor : Hid (bits .or .u64 (m : Int) ((2 : Int) ^ k) = ((m + 2 ^ k : Nat) : Int)) := Lib.hid (by rw [show ((2 : Int) ^ k) = ((2 ^ k : Nat) : Int) by simp, u64_or_nat m (2 ^ k) (by omega) (by omega), or_pow hN2])
      cases hzz : fvSet (fv o k) with
      | false =>
        rw [hzz] at hz hN1
        rw [hz] at q0
        have HN := Lib.hid hN1
        clear hN1 hN2 hsh hor hz hzz
        go_wp2
        go_roundw
        case rel => exact ⟨k + 1, by go_num, by rw [HN.out]; simp, by omega, bAl K3.out _⟩
        case measure => simp [intOf]; omega
      | true =>
        rw [hzz] at hz hN1
        rw [hz] at q0
        have HN := Lib.hid hN1
        clear hN1 hN2 hz hzz
        go_wp2
        go_roundw
        case rel => exact ⟨k + 1, by go_num, by rw [HN.out, hor.out]; simp, by omega, bAl K3.out _⟩
        case measure => simp [intOf]; omega
    · obtain rfl : k = 12 := by omega
      have i1 : ¬ ((12 : Nat) : Int) < 12 := by omega
      have eM : maskOf ((fvL o).take 12) = maskOf (fvL o) := by rw [List.take_of_length_le (by rw [fvL_len]; exact Nat.le_refl _)]
      rw [eM]
      clear eM
      have m3 := HB2.out.then k3
      have mc := m3.c
      have mlt := m3.lt
      have c0 : wr.cell? ⟨w.heap.size, 0, none⟩ = some (str (tx o.handle)) := (mc 0).trans (by simp [str, tx])
      have c1 := mc 1
      have HW3 := Lib.hid (HW2.out.below k3)
      have KK := Lib.hid (bThen K2.out k3)
      clear mc
      go_wp2_with (first
        | (go_at_call 80; ((refine (CB.out _ _ HW3.out).mono ?_); rintro e w4 ⟨rfl, w4h, k4⟩; have HW4 := Lib.hid w4h; have c4 := (k4.cell (o := 0) mlt (by show w.heap.size ≠ Bw; omega)).trans c0; have l4 := Nat.lt_of_lt_of_le mlt k4.size; have KK4 := Lib.hid (Kept.trans (.of_below KK.out) k4); clear w4h))
        | (go_at_call 81; ((refine (CT.out _ _ HW4.out).mono ?_); rintro e w5 ⟨rfl, w5h, k5⟩; have HW5 := Lib.hid w5h; have KK5 := Lib.hid (Kept.trans KK4.out k5); clear w5h))
        | (go_at_call 87; ((refine (CU.out _ _ HW5.out).mono ?_); rintro e w6 ⟨rfl, w6h, k6⟩; have HW6 := Lib.hid w6h; have KK6 := Lib.hid (Kept.trans KK5.out k6); have K26 := Lib.hid (Kept.trans (.of_below K3.out) (Kept.trans (Kept.trans k4 k5) k6)); clear w6h)))
      obtain ⟨s0, hs0⟩ : ∃ s0, s0 = addW (textW (addW s [UInt8.ofNat o.kind]) (tx o.handle)) (numB (maskOf (fvL o))) := ⟨_, rfl⟩
      have HW7 : Hid (WAt w6 Bw s0) := Lib.hid (by rw [hs0]; exact HW6.out)
      have HS : Hid ((fvL o).foldl putF s0 = objW s o) := Lib.hid (by rw [hs0]; rfl)
      clear HW HB CF CB CT CU HW2 HB2 HW3 HW4 HW5 HW6 KK4 KK5 k4 k5 k6 c4 l4 c0 c1 m3 mlt hs0
      go_loopw [38] (fun i wr => ∃ k : Nat, i = .int .i64 k ∧ k ≤ 12 ∧ Hid (WAt wr Bw (((fvL o).take k).foldl putF s0)) ∧ Kept w6 wr (· ≠ Bw)) (fun i _ => 12 - (intOf i).toNat)
      case atStart => exact ⟨0, rfl, by omega, HW7, Kept.refl _ _⟩
      case round =>
        obtain ⟨k, rfl, hk, HWr, k7⟩ := hrel
        have K7 := Lib.hid k7
        have K2r := Lib.hid (Kept.trans K26.out k7)
        by_cases hlt : k < 12
        · have i1 : (k : Int) < 12 := by omega
          obtain ⟨f, hf⟩ : ∃ f, l[k]? = some f := ⟨_, List.getElem?_eq_getElem (by rw [HL.out]; exact hlt)⟩
          have hFd := HFL.out k f hf
          have hz := hFd.z
          have hne : g ≠ Bw := by simp at hg; omega
          obtain ⟨hgl, hcc⟩ := fds_at HR.out (by rw [HL.out]; omega)
          obtain ⟨q0, q1, q2⟩ := hcc k f hf
          replace q0 := (K2r.out.cell hgl hne).trans q0
          replace q1 := (K2r.out.cell hgl hne).trans q1
          replace q2 := (K2r.out.cell hgl hne).trans q2
          have hgr := Nat.lt_of_lt_of_le hgl K2r.out.size
          have HN := Lib.hid (fold_next (o := o) hlt s0)
          clear hcc
          generalize ((fvL o).take k).foldl putF s0 = sk at *
          cases hzz : fvSet (fv o k) with
          | false =>
            rw [hzz] at hz
            rw [hz] at q0
            have HP : Hid (putF sk (fv o k) = sk) := Lib.hid (by unfold putF; rw [hzz]; rfl)
            clear hz hzz hFd
            go_wp2
            go_roundw
            case rel => exact ⟨k + 1, by go_num, by omega, Lib.hid (by rw [HN.out, HP.out]; exact HWr.out.below (bAl (Below.refl _ _) _)), K7.out.al _⟩
            case measure => simp [intOf]; omega
          | true =>
            rw [hzz] at hz
            rw [hz] at q0
            have HP : Hid (putF sk (fv o k) = fvW sk (fv o k)) := Lib.hid (by unfold putF; rw [hzz]; rfl)
            have hent := hFd.e1
            have bn := bAl (Below.refl wr.heap.size wr) (.cells #[.bool true, .func (.func f.p1) #[] #[ptr f.b1, ptr f.b0], .func (.func f.p2) #[] #[ptr f.b2, ptr f.b0]] 177)
            have CP := Lib.hid (hFd.put _ Bw sk (K2r.out.trans (.of_below bn)) hBw (HWr.out.below bn))
            have BN := Lib.hid bn
            unfold Ent at hent
            clear hz hzz hFd bn
            generalize f.p1 = p1 at *
            generalize f.b1 = b1 at *
            generalize f.b0 = b0 at *
            generalize f.p2 = p2 at *
            generalize f.b2 = b2 at *
            go_wp2_with ((refine CP.out.mono ?_); rintro e w8 ⟨rfl, w8h, k8⟩; have HW8 := Lib.hid w8h; have K8 := Lib.hid (K7.out.trans (Kept.trans (.of_below BN.out) k8)); clear w8h k8)
            go_roundw
            case rel => exact ⟨k + 1, by go_num, by omega, Lib.hid (by rw [HN.out, HP.out]; exact HW8.out), K8.out⟩
            case measure => simp [intOf]; omega
        · obtain rfl : k = 12 := by omega
          have i1 : ¬ ((12 : Nat) : Int) < 12 := by omega
          have eM : (fvL o).take 12 = fvL o := by rw [List.take_of_length_le (by rw [fvL_len]; exact Nat.le_refl _)]
          rw [eM, HS.out] at HWr
          clear eM
          go_wp2
          go_end0
          exact ⟨rfl, HWr.out, KK6.out.trans K7.out⟩
end Go.Proofs.YtjocbokfdfdkeaaGreat.PX
