/-
  WALK: the document's Split.
-/
import Derived.Test.YtkgjgbenfpkekaaJSplit
import Derived.Test.YtkgjgbenfpkekaaJRefUint
namespace Go.Proofs.Ytkgjgbenfpkekaa.JX
open Go.RowKit HL
open IX (ptr El cellsK cellsK_at cellsK_len OwnK RdK Kept wpList_spreadK under_K size_K addr0 addr_lit cellsK_drop)
open YX (numB rdU rdB addW told rest u8K RAt u8 vU RAtL)
set_option maxRecDepth 100000
set_option linter.unusedVariables false
set_option linter.unusedSimpArgs false

theorem slice_toU {A : Option Addr} {n c p : Nat} (hp : p ≤ n) (hc : n ≤ c) (W : World) : (Instr.slice 26 (.slice A n c) none (some (.int .u64 p)) none).run Try.prog W = .ok (.slice A p c) W := by
  show (Instr.slice u8K.T (.slice A n c) none (some (.int .u64 p)) none).run Try.prog W = .ok (.slice A p c) W
  rw [run_slice_h W u8K.T A n c (under_K u8K) .u64 (p : Int) (by omega) (by omega), u8K.el, size_K]
  cases A <;> simp [Result.andThen, sliced, addr0]
theorem slice_fromU {B n c p : Nat} {A : Option Addr} {l : Bs} (hn : l.length = n) (hp : p ≤ n) (hc : n ≤ c) :
    ∃ A2 c2, (∀ W, (Instr.slice 26 (.slice A n c) (some (.int .u64 p)) none none).run Try.prog W = .ok (.slice A2 (n - p) c2) W) ∧ (∀ w', RdK u8K w' B A l → RdK u8K w' B A2 (l.drop p)) ∧ n - p ≤ c2 := by
  subst hn
  refine ⟨if c = p then A else A.map (·.add (p * u8K.size)), c - p, fun W => ?_, fun w' h => ?_, by omega⟩
  · show (Instr.slice u8K.T (.slice A l.length c) (some (.int .u64 p)) none none).run Try.prog W = _
    rw [run_slice_l W u8K.T A l.length c (under_K u8K) .u64 (p : Int) (by omega) (by omega), u8K.el, size_K]
    simp [Result.andThen, sliced]
  · by_cases e : p = l.length
    · exact .inl (List.drop_eq_nil_of_le (by omega))
    · rw [if_neg (by omega)]
      rcases h with h | ⟨b, o, rfl, hb, hcell⟩
      · subst h; simp at hp e; omega
      refine .inr ⟨b, o + p * u8K.size, by simp [addr_lit], hb, fun m u hu => ?_⟩
      rw [← cellsK_drop, List.getElem?_drop] at hu
      rw [Nat.add_assoc]
      exact hcell _ u hu
def Cs (w : World) (g : Nat) (f : Bs) : Prop := ∀ m u, (cellsK u8K f)[m]? = some u → w.cell? ⟨g, m, none⟩ = some u
/-- Rows that read so, none of them in the block of the row that they stand in. -/
def OwnGs (w : World) (base : Nat) (v : Value) (L : List Sl3) (l : List Bs) : Prop := L.length = l.length ∧ ∀ (i : Nat) (x : Sl3) (f : Bs), L[i]? = some x → l[i]? = some f → ∃ g c, x = ⟨some ⟨g, 0, none⟩, f.length, c⟩ ∧ f.length ≤ c ∧ base ≤ g ∧ g < w.heap.size ∧ v.ownBlock ≠ some g ∧ Cs w g f
theorem OwnGs.nil (w : World) (base : Nat) (v : Value) : OwnGs w base v [] [] := ⟨rfl, fun i x f h => by simp at h⟩
theorem Cs.kept {w w' : World} {g : Nat} {f : Bs} {P : Nat → Prop} (h : Cs w g f) (hg : g < w.heap.size) (k : Kept w w' P) (hp : P g) : Cs w' g f := fun m u hu => (k.cell hg hp).trans (h m u hu)
theorem OwnGs.kept {w w' : World} {base : Nat} {v : Value} {L : List Sl3} {l : List Bs} {P : Nat → Prop} (h : OwnGs w base v L l) (k : Kept w w' P) (hp : ∀ g, g < w.heap.size → v.ownBlock ≠ some g → P g) : OwnGs w' base v L l :=
  ⟨h.1, fun i x f a b => by
    obtain ⟨g, c, e, h0, h1, h2, h3, h4⟩ := h.2 i x f a b
    exact ⟨g, c, e, h0, h1, Nat.lt_of_lt_of_le h2 k.size, h3, h4.kept h2 k (hp g h2 h3)⟩⟩
theorem OwnGs.snoc {w : World} {base : Nat} {v : Value} {L : List Sl3} {l : List Bs} (h : OwnGs w base v L l) {g c : Nat} {f : Bs} (h0 : f.length ≤ c) (h1 : base ≤ g) (hg : g < w.heap.size) (h2 : v.ownBlock ≠ some g) (h3 : Cs w g f) : OwnGs w base v (L ++ [⟨some ⟨g, 0, none⟩, f.length, c⟩]) (l ++ [f]) := by
  refine ⟨by simp [h.1], fun i y q a b => ?_⟩
  by_cases hi : i < L.length
  · rw [List.getElem?_append_left hi] at a
    rw [List.getElem?_append_left (by rw [← h.1]; exact hi)] at b
    exact h.2 i y q a b
  · rw [List.getElem?_append_right (by omega)] at a
    rw [List.getElem?_append_right (by rw [← h.1]; omega)] at b
    have hi0 : i - L.length = 0 := by have := (List.getElem?_eq_some_iff.1 a).1; simp at this; omega
    rw [hi0] at a
    rw [← h.1, hi0] at b
    simp at a b
    subst a b
    exact ⟨g, c, rfl, h0, h1, hg, h2, h3⟩
theorem OwnGs.grown {w w' : World} {base : Nat} {v v' : Value} {L : List Sl3} {l : List Bs} (h : OwnGs w base v L l) (k : w.grownBy w' v.ownBlock) (hv : v'.ownBlock = v.ownBlock ∨ v'.ownBlock = some w.heap.size) : OwnGs w' base v' L l :=
  ⟨h.1, fun i x f a b => by
    obtain ⟨g, c, e, h0, h1, h2, h3, h4⟩ := h.2 i x f a b
    refine ⟨g, c, e, h0, h1, Nat.lt_of_lt_of_le h2 k.size, fun q => ?_, h4.kept h2 (kept_grown k) h3⟩
    rcases hv with r | r
    · exact h3 (r ▸ q)
    · rw [r] at q; injection q with q; omega⟩
theorem OwnGs.frs {w : World} {base : Nat} {v : Value} {L : List Sl3} {l : List Bs} (h : OwnGs w base v L l) : Frs w w.heap.size L l :=
  ⟨h.1, fun i x f a b => by
    obtain ⟨g, c, e, h0, h1, h2, h3, h4⟩ := h.2 i x f a b
    subst e
    exact ⟨rfl, .inr ⟨g, 0, rfl, h2, fun m u hu => by rw [Nat.zero_add]; exact h4 m u hu⟩, h0⟩⟩
/-- A new row of one's own that is not empty. -/
theorem own_cs {w : World} {base : Nat} {v : Value} {f : Bs} (h : OwnK u8K w base v f) (h0 : 1 ≤ f.length) : ∃ g c, v = .slice (some ⟨g, 0, none⟩) f.length c ∧ f.length ≤ c ∧ base ≤ g ∧ g < w.heap.size ∧ Cs w g f := by
  obtain ⟨A, c, rfl, hr, hc, _⟩ := h.form
  rcases hr with q | ⟨b, off, rfl, hb, hcell⟩
  · rw [q] at h0; simp at h0
  · have e : ∃ g cap, (Value.slice (some ⟨b, off, none⟩) f.length c) = .slice (some ⟨g, 0, none⟩) f.length cap := by
      rcases h.2 with ⟨q, _⟩ | ⟨g, cap, cur, e, _⟩
      · simp at q
      · exact ⟨g, cap, e⟩
    obtain ⟨g, cap, e⟩ := e
    simp only [Value.slice.injEq, Option.some.injEq, Addr.mk.injEq] at e
    obtain ⟨⟨rfl, rfl, _⟩, _, rfl⟩ := e
    exact ⟨_, _, rfl, hc, (h.lt _ rfl).1, hb, fun m u hu => by have := hcell m u hu; rwa [Nat.zero_add] at this⟩
/-- What the document's Split tells. -/
def Rs (w0 : World) (r : Option (List Bs)) (e : Ending) (w' : World) : Prop :=
  match r with
  | some l => ∃ v L, e = .returned (.tuple #[v, .int .i64 0]) ∧ OwnK slK w' w0.heap.size v L ∧ OwnGs w' w0.heap.size v L l ∧ Below w0.heap.size w0 w'
  | none => e = .returned (.tuple #[.slice none 0 0, .int .i64 120]) ∧ Below w0.heap.size w0 w'
def lenV (v : Value) : Nat := match v with | .slice _ n _ => n | _ => 0
set_option maxHeartbeats 4000000 in
theorem refSplit_any (A : Option Addr) (c : Nat) (b : Bs) (w : World) (h : RdK u8K w w.heap.size A b) (hc : b.length ≤ c) :
    Calls Try.prog 27 #[.slice A b.length c] w fun e w' => Rs w (splitF b) e w' := by
  by_cases hbig : 65536 < b.length
  · have i1 : (65536 : Int) < (b.length : Int) := by omega
    have e1 : splitF b = none := by unfold splitF; rw [if_pos hbig]
    rw [e1]
    clear h e1
    go_enter Try.func27, Try.ntmps27
    go_wp2
    go_ret2
    exact ⟨rfl, Below.refl _ _⟩
  · have i1 : ¬ (65536 : Int) < (b.length : Int) := by omega
    have e1 : splitF b = splitL b := by unfold splitF; rw [if_neg hbig]
    obtain ⟨r, hr⟩ : ∃ r, splitL b = r := ⟨_, rfl⟩
    have HWs := Lib.hid (Way.start b)
    have HWn : Hid (∀ dn q, Way b dn q → q ≠ [] → cutF q = none → r = none) := Lib.hid (fun dn q a b c => by rw [← hr]; exact a.no b c)
    have HWe : Hid (∀ dn, Way b dn [] → r = some dn) := Lib.hid (fun dn a => by rw [← hr]; exact a.end_)
    have HIN := Lib.hid h
    rw [e1, hr]
    clear h e1 hr
    go_enter Try.func27, Try.ntmps27
    go_wp2
    go_loopw [0, 4] (fun bs v wr => ∃ (A : Option Addr) (q : Bs) (c : Nat) (L : List Sl3) (dn : List Bs), bs = .slice A q.length c ∧ Hid (Way b dn q) ∧ Hid (dn.length + q.length ≤ b.length) ∧ Hid (RdK u8K wr w.heap.size A q) ∧ q.length ≤ c ∧ Hid (OwnK slK wr w.heap.size v L) ∧ Hid (OwnGs wr w.heap.size v L dn) ∧ Below w.heap.size w wr) (fun bs _ _ => lenV bs)
    case atStart => exact ⟨A, b, c, [], [], rfl, HWs, Lib.hid (by simp), HIN, hc, Lib.hid (OwnK.nil_ _ _ _), Lib.hid (OwnGs.nil _ _ _), Below.refl _ _⟩
    case round =>
      obtain ⟨A1, q, c1, L, dn, rfl, hW, hLen, hR, hcq, hO, hG, hb3⟩ := hrel
      have K3 := Lib.hid hb3
      have hsz := hb3.size
      clear HWs HIN
      by_cases h0 : q = []
      · subst h0
        have HRR := Lib.hid (HWe.out dn hW.out)
        go_wp2
        go_ret2
        rw [HRR.out]
        exact ⟨_, L, rfl, hO.out, hG.out, K3.out⟩
      · have hq0 : 0 < q.length := List.length_pos_iff.2 h0
        have i2 : (0 : Int) < (q.length : Int) := by omega
        have b1 := bAl (Below.refl wr.heap.size wr) (.cells #[.slice A1 q.length c1, .bool false] 105)
        have R1 : RAtL (wr.alloc (.cells #[.slice A1 q.length c1, .bool false] 105)) wr.heap.size w.heap.size (some q) := ⟨A1, c1, AtC.new _ _ _, hR.out.below (b1.mono hsz), hcq⟩
        have CU := Lib.hid (YX.rUintL_some wr.heap.size w.heap.size hsz q _ R1 (by have := hLen.out; omega))
        have B1 := Lib.hid b1
        have HNO : Hid (cutF q = none → r = none) := Lib.hid (fun e => HWn.out dn q hW.out h0 e)
        clear R1 b1
        cases hu : rdU q with
        | none =>
          have e1 : told (0 : Nat) rdU (some q) = 0 := by simp [told, hu]
          have e2 : rest rdU (some q) = none := by simp [rest, hu]
          have HRR := Lib.hid (HNO.out (by unfold cutF; rw [hu]))
          rw [e1, e2] at CU
          clear e1 e2 hu
          go_wp2_with (go_at_call 57; ((refine CU.out.mono ?_); rintro e w4 ⟨rfl, r4, k4⟩; have q1 := AtC.c (C := #[.slice none 0 0, .bool true]) r4 1; have K4 := Lib.hid ((Kept.trans (P := (· ≠ wr.heap.size)) (.of_below (bThen K3.out B1.out)) k4).below (Nat.le_refl _) (fun j hj => show j ≠ wr.heap.size by omega)); clear r4 k4))
          go_ret2
          rw [HRR.out]
          exact ⟨rfl, K4.out⟩
        | some p =>
          obtain ⟨n, r2⟩ := p
          have e1 : told (0 : Nat) rdU (some q) = n := by simp [told, hu]
          have e2 : rest rdU (some q) = some r2 := by simp [rest, hu]
          have hlr := YX.rdU_rest hu
          have hn64 : n < 18446744073709551616 := (YX.rdU_inv hu).2
          have hwr : IntKind.u64.wrap (r2.length : Int) = (r2.length : Int) := YX.wU (by have := hLen.out; omega)
          rw [e1, e2] at CU
          clear e1 e2
          by_cases hbad : n < 1 ∨ 4096 < n ∨ r2.length < n
          · have HRR := Lib.hid (HNO.out (by unfold cutF; rw [hu]; simp only; rw [if_pos hbad]))
            have ht : ((n : Int) < 1) = True ∨ (((n : Int) < 1) = False ∧ ((4096 : Int) < n) = True) ∨ (((n : Int) < 1) = False ∧ ((4096 : Int) < n) = False ∧ ((r2.length : Int) < n) = True) := by
              by_cases a : n < 1
              · exact .inl (by simp; omega)
              · by_cases b : 4096 < n
                · exact .inr (.inl ⟨by simp; omega, by simp; omega⟩)
                · exact .inr (.inr ⟨by simp; omega, by simp; omega, by simp; omega⟩)
            clear hu hbad HNO
            rcases ht with i3 | ⟨i3, i4⟩ | ⟨i3, i4, i5⟩
            all_goals
              go_wp2_with (go_at_call 57; ((refine CU.out.mono ?_); rintro e w4 ⟨rfl, ⟨A4, c4, at4, rd4, hc4⟩, k4⟩; have q0 := at4.c 0; have q1 := at4.c 1; have K4 := Lib.hid ((Kept.trans (P := (· ≠ wr.heap.size)) (.of_below (bThen K3.out B1.out)) k4).below (Nat.le_refl _) (fun j hj => show j ≠ wr.heap.size by omega)); clear k4 at4 rd4))
              go_ret2
              rw [HRR.out]
              exact ⟨rfl, K4.out⟩
          · have hn1 : 1 ≤ n ∧ n ≤ 4096 ∧ n ≤ r2.length := by omega
            obtain ⟨g1, g2, g3⟩ := hn1
            have hcut : cutF q = some (r2.take n, r2.drop n) := by unfold cutF; rw [hu]; simp only; rw [if_neg hbad]
            have HW2 := Lib.hid (hW.out.next h0 hcut)
            have HL2 := Lib.hid (cutF_len hcut)
            have htn : (r2.take n).length = n := by rw [List.length_take]; omega
            have i3 : ((n : Int) < 1) = False := by simp; omega
            have i4 : ((4096 : Int) < n) = False := by simp; omega
            have i5 : ((r2.length : Int) < n) = False := by simp; omega
            have HTN := Lib.hid htn
            have HDN : Hid ((r2.drop n).length = r2.length - n) := Lib.hid List.length_drop
            clear hu hbad HNO hcut htn
            go_wp2_with (first
              | (go_at_call 57; ((refine CU.out.mono ?_); rintro e w4 ⟨rfl, ⟨A4, c4, at4, rd4, hc4⟩, k4⟩; have q0 := at4.c 0; have q1 := at4.c 1; have ql := at4.lt; have s1 := fun W => slice_toU (A := A4) g3 hc4 W; obtain ⟨A6, c6, s2, s3, s4⟩ := slice_fromU (B := w.heap.size) (A := A4) (l := r2) rfl g3 hc4; have AT4 := Lib.hid at4; have RD4 := Lib.hid rd4; have S3 := Lib.hid s3; have KK := Lib.hid k4; have K4 := Lib.hid ((Kept.trans (P := (· ≠ wr.heap.size)) (.of_below (bThen K3.out B1.out)) k4).below (Nat.le_refl _) (fun j hj => show j ≠ wr.heap.size by omega)); clear k4 at4 rd4 s3))
              | (at_builtin; refine wpList_spreadK u8K rfl (.tmp 41) (.tmp 47) rfl w4.heap.size _ [] rfl (OwnK.lit _ _ (Nat.le_refl _)) w.heap.size A4 n c4 (r2.take n) rfl HTN.out ((YX.RdK.take RD4.out n).below (((Below.refl w.heap.size w4).alloc (K4.out.size) _))) ?c1 ?c2 ?_))
            case c1 => have := HTN.out; first | omega | (simp; omega)
            case c2 => simp
            intro v5 w5 o5 g5 f5
            have B5 := Lib.hid ((bAl (Below.refl w4.heap.size w4) (.cells #[] 5)).grown g5 (by simp) (fun a ha => by simp [Value.ownBlock] at ha; omega))
            have o5' : OwnK u8K w5 w4.heap.size v5 (r2.take n) := o5
            obtain ⟨g, cg, rfl, hcg, hg1, hg2, hcs⟩ := own_cs o5' (by have := HTN.out; omega)
            have K14 : Kept wr w4 (· ≠ wr.heap.size) := Kept.trans (.of_below B1.out) KK.out
            have O4 := Lib.hid (hO.out.kept K14 (fun j e => by have := (hO.out.lt j e).2; show j ≠ wr.heap.size; omega))
            have G4 := Lib.hid (hG.out.kept K14 (fun j hj _ => show j ≠ wr.heap.size by omega))
            have hsz4 : w.heap.size ≤ w4.heap.size := K4.out.size
            have O5 := Lib.hid (O4.out.below B5.out)
            have G5 := Lib.hid ((G4.out.kept (P := fun _ => True) (.of_below B5.out) (fun _ _ _ => trivial)).snoc hcg (by omega) hg2 (fun e => by have := (O4.out.lt g e).2; omega) hcs)
            have HNE : Hid (u4.ownBlock ≠ some wr.heap.size) := Lib.hid (fun e => by have := (hO.out.lt _ e).2; omega)
            have AT5 := Lib.hid (AT4.out.then B5.out)
            rw [HTN.out] at hcg G5 ⊢
            clear o5 o5' g5 f5 hcs K14 q0 q1
            go_wp2_with (at_builtin; refine wpList_spreadK slK rfl (.tmp 40) (.tmp 49) rfl w.heap.size u4 L rfl (O5.out.below (bAl (Below.refl _ _) _)) (w5.heap.size + 1) (some ⟨w5.heap.size, 0, none⟩) 1 1 [⟨some ⟨g, 0, none⟩, n, cg⟩] rfl rfl (RdK.lit (K := slK) w5 (⟨some ⟨g, 0, none⟩, n, cg⟩ : Sl3) #[.slice (some ⟨g, 0, none⟩) n cg] rfl 26) ?c1 ?c2 ?_)
            case c1 => have := hG.out.1; have := hLen.out; simp only [List.length_singleton]; omega
            case c2 => have := B5.out.size; simp; omega
            intro v6 w6 o6 g6 f6
            have hs5 : w.heap.size ≤ w5.heap.size := Nat.le_trans hsz4 B5.out.size
            have b46 : Below w.heap.size w4 w6 := ((B5.out.mono hsz4).alloc hs5 (.cells #[.slice (some ⟨g, 0, none⟩) n cg] 26)).grown g6 (by simp; omega) (fun a ha => (O4.out.lt a ha).1)
            have RD6 := Lib.hid (S3.out w6 (RD4.out.below b46))
            have G6 := Lib.hid ((G5.out.kept (P := fun _ => True) (.of_below (bAl (Below.refl _ _) (.cells #[.slice (some ⟨g, 0, none⟩) n cg] 26))) (fun _ _ _ => trivial)).grown g6 (f6.imp id (fun h => h.trans (by simp))))
            have AT6 := AtC.kept (AT5.out.al (.cells #[.slice (some ⟨g, 0, none⟩) n cg] 26)) (kept_grown g6) HNE.out
            have q0 := AT6.c 0
            have O6 := Lib.hid o6
            have K6 := Lib.hid (K4.out.trans b46)
            have HLe : Hid ((dn ++ [r2.take n]).length + (r2.drop n).length ≤ b.length) := Lib.hid (by have := hLen.out; have := HL2.out; rw [List.length_append, List.length_singleton]; omega)
            clear o6 g6 f6 b46 AT6
            go_wp2
            go_roundw
            case rel => exact ⟨A6, r2.drop n, c6, _, dn ++ [r2.take n], by rw [HDN.out], HW2, HLe, RD6, by rw [HDN.out]; exact s4, O6, by have := G6; rw [HTN.out] at *; exact this, K6.out⟩
            case measure => (simp [lenV]; omega)
end Go.Proofs.Ytkgjgbenfpkekaa.JX
