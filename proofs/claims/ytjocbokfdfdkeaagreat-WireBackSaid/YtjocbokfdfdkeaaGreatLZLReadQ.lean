/-
  WALKS: (form[bedside/api.Request]).read and what tells it on.
-/
import Derived.Test.YtjocbokfdfdkeaaGreatLZLTail
namespace Go.Proofs.YtjocbokfdfdkeaaGreat.PX
open Go.RowKit HL
open IX (ptr El cellsK cellsK_at cellsK_len OwnK RdK Kept strK)
open YX (numB rdU rdB rdT rdS rdI addW intN natI rest told WAt WPt Wr RAt vS vU vI u8K Got)
open DX (Ch ch chCells chK zeroCh)
set_option maxRecDepth 100000
set_option linter.unusedVariables false
set_option linter.unusedSimpArgs false

def zQ : Array Value := #[.int .u8 0, .string ⟨#[]⟩, .slice none 0 0, .int .u8 0, .string ⟨#[]⟩, .int .u8 0, .string ⟨#[]⟩, .int .u8 0, .string ⟨#[]⟩, .int .i64 0, .int .i64 0, .int .u8 0, .bool false, .bool false, .int .i64 0, .int .i64 0, .int .i64 0, .int .u8 0, .int .u8 0, .int .i64 0, .int .i64 0, .bool false, .int .u8 0, .int .i64 0, .int .u16 0]
/-- What reading bytes comes to. -/
def TlQ (w0 : World) (r : Option Rq) (e : Ending) (w' : World) : Prop := Below w0.heap.size w0 w' ∧ match r with | some q => ∃ A c, e = .returned (.tuple #[rq q A q.hs.length c, .int .i64 0]) ∧ RdK strK w' w'.heap.size A q.hs ∧ (∀ a, A = some a → w0.heap.size ≤ a.block) | none => e = .returned (.tuple #[.agg zQ, .int .i64 120])
noncomputable def readQC : Code := match Tryz.f48.body with | some c => c | none => .skip
set_option maxHeartbeats 8000000 in
theorem tailQ {K : Act → World → Prop} (q : Rq) (A4 : Option Addr) (c4 : Nat) (hF : FineQ q) (hn : q.hs.length ≤ 64) (A : Option Addr) (c : Nat) (b : Bs) (w W6 : World) (B6 : Nat) (u3 u7 u8 u9 u10 u11 u12 u13 u14 u15 u16 u17 u18 u19 u20 u21 u22 u23 u24 u25 u26 u27 u28 u29 u30 : Value)
    (M : Hid (AtC W6 w.heap.size #[fn 64, fn 65])) (Z : Hid (AtC W6 (w.heap.size + 1) zQ)) (X : Hid (AtC W6 B6 (rqC q A4 q.hs.length c4))) (R1 : Hid (RdK strK W6 W6.heap.size A4 q.hs)) (H1 : Hid (∀ a, A4 = some a → w.heap.size + 2 ≤ a.block)) (RB : Hid (RdK u8K W6 W6.heap.size A b)) (KB : Hid (Below w.heap.size w W6)) (hB : w.heap.size + 2 ≤ B6)
    (HR : Hid (readQ b = if reqW (some []) q = some b then some q else none))
    (hK : ∀ a W, Code.wp Tryz.prog (nthL 2 readQC) (bodyPost Tryz.prog Tryz.f48 fun e w' => TlQ w (readQ b) e w') a W → K a W) :
    Exit.then K (bodyPost Tryz.prog Tryz.f48 fun e w' => TlQ w (readQ b) e w') .normal { tmps := #[fm 64 65, .slice A b.length c, .pointer (some ⟨w.heap.size, 0, none⟩), u3, .pointer (some ⟨w.heap.size + 1, 0, none⟩), .int .i64 0, .pointer (some ⟨B6, 0, none⟩), u7, u8, u9, u10, u11, u12, u13, u14, u15, u16, u17, u18, u19, u20, u21, u22, u23, u24, u25, u26, u27, u28, u29, u30], defers := [] } W6 := by
  refine hK _ _ ?_
  conv => arg 2; simp only [readQC, Tryz.f48, nthL]
  clear hK
  have CW := writeQ_any q A4 c4 hF 65 W6 (R1.out)
  obtain ⟨s, hs⟩ : ∃ s, reqW (some []) q = s := ⟨_, rfl⟩
  rw [hs] at CW HR
  have mc := M.out.c; have ml := M.out.lt
  have xr := range_at X.out
  have xl := X.out.lt
  have hall : (rqC q A4 q.hs.length c4 : Array Value).all (·.oneCell') = true := all_oneCell_toArray (fun x hx => by simp at hx; rcases hx with rfl | rfl | rfl | rfl | rfl | rfl | rfl | rfl | rfl | rfl | rfl | rfl | rfl | rfl | rfl | rfl | rfl | rfl | rfl | rfl | rfl | rfl | rfl | rfl | rfl <;> rfl)
  clear hs
  cases s with
  | none =>
    have C := Lib.hid (bts_none CW)
    have HN : Hid (readQ b = none) := Lib.hid (by rw [HR.out, if_neg (by simp)])
    clear CW
    rw [HN.out]
    go_upto_region 4 with (first
      | ((show wpList _ _ _ ({ dst := some 17, op := _, type := _, pos := _, after := _, guard := _ } :: _) _ _); (refine wpList_load_mid rfl _ _ rfl B6 0 rfl (rqC q A4 q.hs.length c4 : Array Value).toList _ xr Tryz.underlying29 rfl (by kernel_rfl) ?_))
      | (go_at_call 30; ((refine C.out.mono ?_); rintro e w7 ⟨rfl, k7⟩; have Z7 := Lib.hid ((Z.out.then k7).al (.cells zQ 29)); have N7 := Lib.hid (AtC.new w7 zQ 29); have K7 := Lib.hid (bAl (bThen KB.out k7) (.cells zQ 29)); have k7s := k7.size; clear k7)))
    go_upto_region 5 with fail
    have zr := range_at N7.out
    have zt := there_at Z7.out
    have zl := N7.out.lt
    have zall : zQ.all (·.oneCell') = true := by kernel_rfl
    have hE7 : Hid (w.heap.size + 1 ≠ w7.heap.size) := Lib.hid (by omega)
    change Code.wp _ _ _ _ (w7.alloc (.cells zQ 29))
    generalize w7.alloc (.cells zQ 29) = W7 at *
    go_wp2_with (first
      | ((show wpList _ _ _ ({ dst := some 29, op := _, type := _, pos := _, after := _, guard := _ } :: _) _ _); (refine wpList_load_mid rfl _ _ rfl w7.heap.size 0 rfl zQ.toList _ zr Tryz.underlying29 rfl (by kernel_rfl) ?_))
      | ((show wpList _ _ _ ({ dst := none, op := _, type := _, pos := _, after := _, guard := _ } :: _) _ _); (refine wpList_store_mid rfl _ _ _ rfl (w.heap.size + 1) 0 zQ rfl rfl zt (by kernel_rfl) zall ?_)))
    exact ret_row_tmp rfl rfl rfl rfl (set_at Z7.out rfl) (by kernel_rfl) (by kernel_rfl) ⟨set_below K7.out (by omega) _, rfl⟩
  | some b2 =>
    have C := Lib.hid (bts_some CW)
    have CE := Lib.hid (fun (W : World) (k6 : Below W6.heap.size W6 W) A6 c6 (q : RdK u8K W W.heap.size A6 b2) => equal_any (A := A6) (A2 := A) (c := c6) (c2 := c) b2 b W q ((RB.out.below k6).more k6.size) rfl rfl)
    clear CW
    by_cases hbb : b2 = b
    · have hd : decide (b2 = b) = true := decide_eq_true hbb
      have HN : Hid (readQ b = some q) := Lib.hid (by rw [HR.out, if_pos (by rw [hbb])])
      rw [hd] at CE
      rw [HN.out]
      clear hd hbb
      go_upto_region 6 with (first
        | ((show wpList _ _ _ ({ dst := some 17, op := _, type := _, pos := _, after := _, guard := _ } :: _) _ _); (refine wpList_load_mid rfl _ _ rfl B6 0 rfl (rqC q A4 q.hs.length c4 : Array Value).toList _ xr Tryz.underlying29 rfl (by kernel_rfl) ?_))
        | (go_at_call 30; ((refine C.out.mono ?_); rintro e w7 ⟨A6, c6, rfl, q6, k7⟩; have C6 := Lib.hid (CE.out w7 k7 A6 c6 q6); have Z7 := Lib.hid (Z.out.then k7); have X7 := Lib.hid (X.out.then k7); have K7 := Lib.hid (bThen KB.out k7); have R1 := Lib.hid ((R1.out.below k7).more k7.size); clear k7 q6))
        | (go_at_call 74; ((refine C6.out.mono ?_); rintro e w8 ⟨rfl, rfl⟩)))
      have zr := range_at X7.out
      have zt := there_at Z7.out
      have zl := X7.out.lt
      go_wp2_with (first
        | ((show wpList _ _ _ ({ dst := some 30, op := _, type := _, pos := _, after := _, guard := _ } :: _) _ _); (refine wpList_load_mid rfl _ _ rfl B6 0 rfl (rqC q A4 q.hs.length c4 : Array Value).toList _ zr Tryz.underlying29 rfl (by kernel_rfl) ?_))
        | ((show wpList _ _ _ ({ dst := none, op := _, type := _, pos := _, after := _, guard := _ } :: _) _ _); (refine wpList_store_mid rfl _ _ _ rfl (w.heap.size + 1) 0 (rqC q A4 q.hs.length c4) rfl rfl zt (by kernel_rfl) hall ?_)))
      have R1 := Lib.hid ((IX.RdK.kept R1.out (set_kept (B := w.heap.size + 1) (rqC q A4 q.hs.length c4)) (Nat.le_refl _) (fun a ha => by have := H1.out a ha; show a.block ≠ w.heap.size + 1; omega)).more (set_kept (B := w.heap.size + 1) (rqC q A4 q.hs.length c4)).size)
      exact ret_row_tmp rfl rfl rfl rfl (set_at Z7.out rfl) (by kernel_rfl) (by kernel_rfl) ⟨set_below K7.out (by omega) _, ⟨A4, c4, rfl, R1.out, fun a ha => by have := H1.out a ha; omega⟩⟩
    · have hd : decide (b2 = b) = false := decide_eq_false hbb
      have HN : Hid (readQ b = none) := Lib.hid (by rw [HR.out, if_neg (fun q => hbb (by injection q))])
      rw [hd] at CE
      rw [HN.out]
      clear hd hbb
      go_upto_region 4 with (first
        | ((show wpList _ _ _ ({ dst := some 17, op := _, type := _, pos := _, after := _, guard := _ } :: _) _ _); (refine wpList_load_mid rfl _ _ rfl B6 0 rfl (rqC q A4 q.hs.length c4 : Array Value).toList _ xr Tryz.underlying29 rfl (by kernel_rfl) ?_))
        | (go_at_call 30; ((refine C.out.mono ?_); rintro e w7 ⟨A6, c6, rfl, q6, k7⟩; have C6 := Lib.hid (CE.out w7 k7 A6 c6 q6); clear q6; have Z7 := Lib.hid ((Z.out.then k7).al (.cells zQ 29)); have N7 := Lib.hid (AtC.new w7 zQ 29); have K7 := Lib.hid (bAl (bThen KB.out k7) (.cells zQ 29)); have k7s := k7.size; clear k7))
        | (go_at_call 74; ((refine C6.out.mono ?_); rintro e w8 ⟨rfl, rfl⟩)))
      go_upto_region 5 with fail
      have zr := range_at N7.out
      have zt := there_at Z7.out
      have zl := N7.out.lt
      have zall : zQ.all (·.oneCell') = true := by kernel_rfl
      have hE7 : Hid (w.heap.size + 1 ≠ w7.heap.size) := Lib.hid (by omega)
      change Code.wp _ _ _ _ (w7.alloc (.cells zQ 29))
      generalize w7.alloc (.cells zQ 29) = W7 at *
      go_wp2_with (first
        | ((show wpList _ _ _ ({ dst := some 29, op := _, type := _, pos := _, after := _, guard := _ } :: _) _ _); (refine wpList_load_mid rfl _ _ rfl w7.heap.size 0 rfl zQ.toList _ zr Tryz.underlying29 rfl (by kernel_rfl) ?_))
        | ((show wpList _ _ _ ({ dst := none, op := _, type := _, pos := _, after := _, guard := _ } :: _) _ _); (refine wpList_store_mid rfl _ _ _ rfl (w.heap.size + 1) 0 zQ rfl rfl zt (by kernel_rfl) zall ?_)))
      exact ret_row_tmp rfl rfl rfl rfl (set_at Z7.out rfl) (by kernel_rfl) (by kernel_rfl) ⟨set_below K7.out (by omega) _, rfl⟩
set_option maxHeartbeats 8000000 in
theorem readQ_any (A : Option Addr) (c : Nat) (b : Bs) (w : World) (h : RdK u8K w w.heap.size A b) (hb : b.length ≤ 1000000) (hA : A = none → c = 0) :
    Calls Tryz.prog 48 #[fm 64 65, .slice A b.length c] w fun e w' => TlQ w (readQ b) e w' := by
  have M0 := (AtC.new w #[fn 64, fn 65] 74).al (.cells zQ 29)
  have Z0 := AtC.new (w.alloc (.cells #[fn 64, fn 65] 74)) zQ 29
  have e0 : (w.alloc (.cells #[fn 64, fn 65] 74)).heap.size = w.heap.size + 1 := by simp
  rw [e0] at Z0
  have b0 := bAl (bAl (Below.refl w.heap.size w) (.cells #[fn 64, fn 65] 74)) (.cells zQ 29)
  have hs0 : ((w.alloc (.cells #[fn 64, fn 65] 74)).alloc (.cells zQ 29)).heap.size = w.heap.size + 2 := by simp
  have HB := Lib.hid ((h.below b0).more b0.size)
  have hent := enters_of Tryz.func65 (by kernel_rfl) rfl
  have CG := Lib.hid (fun (Br : Nat) (W : World) (q : RAt W Br (some b)) => getRequest_any Br (some b) W q)
  have CR := Lib.hid (fun (W : World) (q : RdK u8K W W.heap.size A b) => YX.read_any A c b W q hb hA)
  have hfin := getQ_fine (some b)
  obtain ⟨⟨q, s2⟩, hq⟩ : ∃ q, getQ (some b) = q := ⟨_, rfl⟩
  rw [hq] at CG hfin
  obtain ⟨hF, hn⟩ := hfin
  replace hF : FineQ q := hF
  replace hn : q.hs.length ≤ 64 := hn
  have HR : Hid (readQ b = if reqW (some []) q = some b then some q else none) := Lib.hid (by unfold readQ; rw [hq])
  have hall : ∀ (A4 : Option Addr) (c4 : Nat), (rqC q A4 q.hs.length c4 : Array Value).all (·.oneCell') = true := fun A4 c4 => all_oneCell_toArray (fun x hx => by simp at hx; rcases hx with rfl | rfl | rfl | rfl | rfl | rfl | rfl | rfl | rfl | rfl | rfl | rfl | rfl | rfl | rfl | rfl | rfl | rfl | rfl | rfl | rfl | rfl | rfl | rfl | rfl <;> rfl)
  clear h hq e0
  go_enter Tryz.func48, Tryz.ntmps48
  go_upto_region 1 with fail
  change Code.wp _ _ _ _ ((w.alloc (.cells #[fn 64, fn 65] 74)).alloc (.cells zQ 29))
  generalize (w.alloc (.cells #[fn 64, fn 65] 74)).alloc (.cells zQ 29) = W0 at *
  have HS0 := Lib.hid hs0
  clear hs0
  have hP : ∀ W', Below W0.heap.size W0 W' → W'.cell? ⟨w.heap.size, 1, none⟩ = some (fn 65) := fun W' q => (M0.then q).c 1
  refine wp_region_held_drew (S := fun w' => Below W0.heap.size W0 w') (by kernel_rfl) (bD1L W0) (fun hHeld0 => ?_)
  refine wpAnyH_take (i := 0) (oi := { dst := some 10, op := Op.fieldAddr 74 (Operand.tmp 2) 1, type := 0, pos := "wire.go:60", after := #[], guard := none }) (v := .pointer (some ⟨w.heap.size, 1, none⟩)) rfl (by kernel_rfl) (by kernel_rfl) (by kernel_rfl) (fun _ _ _ h => h) (Or.inl ⟨by rfl, fun W hW => by go_simp⟩) (by assumption) ?_
  try simp only [Act.put, List.setIfInBounds_toArray, List.set_cons_zero, List.set_cons_succ]
  refine wpAnyH_take (i := 1) (oi := { dst := some 11, op := Op.load 72 (Operand.tmp 10), type := 72, pos := "wire.go:60", after := #[{ on := 0, ground := Ground.data }], guard := none }) (v := fn 65) rfl (by kernel_rfl) (by kernel_rfl) (by kernel_rfl) (fun _ _ _ h => h) (Or.inl ⟨by rfl, fun W hW => by have q := hP W hW; go_simp⟩) (by assumption) ?_
  try simp only [Act.put, List.setIfInBounds_toArray, List.set_cons_zero, List.set_cons_succ]
  refine wpAnyH_take (i := 2) (oi := { dst := some 12, op := Op.move (Operand.tmp 1), type := 39, pos := "wire.go:60", after := #[], guard := none }) (v := .slice A b.length c) rfl (by kernel_rfl) (by kernel_rfl) (by kernel_rfl) (fun _ _ _ h => h) (Or.inl ⟨by rfl, fun W hW => by go_simp⟩) (by assumption) ?_
  try simp only [Act.put, List.setIfInBounds_toArray, List.set_cons_zero, List.set_cons_succ]
  clear hP
  refine wpAnyH_ready (rs := [3, 5]) (by kernel_rfl) (by simp) ?_
  refine AllReadyH.cons (o := { dst := some 13, op := Op.call { callee := Callee.value (Operand.func 73), args := #[Operand.tmp 12], argTypes := #[39] }, type := 122, pos := "wire.go:60", after := #[{ on := 2, ground := Ground.data }], guard := none }) rfl (fun K hK => ?_) (AllReadyH.cons (o := { dst := some 6, op := Op.alloc 29, type := 0, pos := "wire.go:60", after := #[], guard := none }) rfl (fun K hK => ?_) AllReadyH.nil)
  · skip
    go_simp
    refine (CR.out _ ((HB.out.below hHeld0).more hHeld0.size)).mono ?_
    rintro e w3 ⟨B, rfl, r1, hB, k3⟩
    go_wp2_with fail
    have K3 := bThen hHeld0 k3
    have hk3 := K3.size
    have hB2 : W0.heap.size ≤ B := Nat.le_trans hHeld0.size hB
    have r1l := r1.lt
    refine hK.out _ _ K3 (fun hHeld1 => ?_)
    clear hK K hHeld1
    try simp only [Act.put, List.setIfInBounds_toArray, List.set_cons_zero, List.set_cons_succ]
    refine wpAnyH_ready (rs := [4, 5]) (by kernel_rfl) (by simp) ?_
    refine AllReadyH.cons (o := { dst := some 14, op := Op.call { callee := Callee.value (Operand.tmp 11), args := #[Operand.tmp 13], argTypes := #[122] }, type := 29, pos := "wire.go:60", after := #[{ on := 1, ground := Ground.data }, { on := 3, ground := Ground.data }, { on := 3, ground := Ground.chain }], guard := none }) rfl (fun K hK => ?_) (AllReadyH.cons (o := { dst := some 6, op := Op.alloc 29, type := 0, pos := "wire.go:60", after := #[], guard := none }) rfl (fun K hK => ?_) AllReadyH.nil)
    · skip
      go_simp
      refine (CG.out B _ (r1)).mono ?_
      rintro e w4 ⟨A4, c4, rfl, o4, r4, k4⟩
      go_wp2_with fail
      have K4 := belowK K3 k4 hB2
      clear r4
      refine hK.out _ _ K4 (fun hHeld2 => ?_)
      clear hK K hHeld2
      try simp only [Act.put, List.setIfInBounds_toArray, List.set_cons_zero, List.set_cons_succ]
      refine wpAnyH_ready (rs := [5]) (by kernel_rfl) (by simp) ?_
      refine AllReadyH.cons (o := { dst := some 6, op := Op.alloc 29, type := 0, pos := "wire.go:60", after := #[], guard := none }) rfl (fun K hK => ?_) AllReadyH.nil
      go_simp
      go_wp2_with fail
      have K5 := bAl K4 (.cells zQ 29)
      refine hK.out _ _ K5 (fun hHeld3 => ?_)
      clear hK K hHeld3
      try simp only [Act.put, List.setIfInBounds_toArray, List.set_cons_zero, List.set_cons_succ]
      have NB : W0.heap.size ≤ w4.heap.size := K4.size
      refine wpAnyH_ready (rs := [6]) (by kernel_rfl) (by simp) ?_
      refine AllReadyH.cons (o := { dst := none, op := Op.store 29 (Operand.tmp 6) (Operand.tmp 14), type := 0, pos := "wire.go:60", after := #[{ on := 5, ground := Ground.data }, { on := 4, ground := Ground.data }, { on := 4, ground := Ground.chain }, { on := 0, ground := Ground.phase }, { on := 1, ground := Ground.phase }, { on := 2, ground := Ground.phase }, { on := 3, ground := Ground.phase }, { on := 4, ground := Ground.phase }, { on := 5, ground := Ground.phase }], guard := none }) rfl (fun K hK => ?_) AllReadyH.nil
      have N5 : AtC _ (w4.heap.size) zQ := AtC.new w4 zQ 29
      have n5t := there_at N5
      have hN5 : W0.heap.size ≤ w4.heap.size := NB
      refine wp_store_mid _ _ _ rfl (w4.heap.size) 0 (rqC q A4 q.hs.length c4) rfl rfl n5t (by kernel_rfl) (hall _ _) ?_
      have K6 := set_below K5 hN5 (rqC q A4 q.hs.length c4)
      refine hK.out _ _ K6 (fun hHeld4 => ?_)
      clear hK K hHeld4
      try simp only [Act.put, List.setIfInBounds_toArray, List.set_cons_zero, List.set_cons_succ]
      have q0 := own_far (o4) ((Kept.of_below (bAl (Below.refl _ _) (.cells zQ 29))).trans (set_kept (B := w4.heap.size) (rqC q A4 q.hs.length c4))) (.inr (Nat.le_refl _))
      have X6 := set_at (C := rqC q A4 q.hs.length c4) N5 rfl
      refine wpAnyH_done (by kernel_rfl) ?_ _
      have hs0 := HS0.out
      exact tailQ q A4 c4 hF hn A c b w _ (w4.heap.size) _ _ _ _ _ _ _ _ _ _ _ _ _ _ _ _ _ _ _ _ _ _ _ _ _ (Lib.hid (M0.then K6)) (Lib.hid (Z0.then K6)) (Lib.hid X6) (Lib.hid (own_rd q0)) (Lib.hid (fun a ha => by have := (q0.lt a.block (by rw [ha]; rfl)).1; (try simp at this); omega)) (Lib.hid ((HB.out.below K6).more K6.size)) (Lib.hid (b0.trans (K6.mono (by omega)))) (by omega) HR (by assumption)
    · skip
      go_simp
      go_wp2_with fail
      have K3a := bAl K3 (.cells zQ 29)
      refine hK.out _ _ K3a (fun hHeld3 => ?_)
      clear hK K hHeld3
      try simp only [Act.put, List.setIfInBounds_toArray, List.set_cons_zero, List.set_cons_succ]
      have NB : W0.heap.size ≤ w3.heap.size := K3.size
      refine wpAnyH_ready (rs := [4]) (by kernel_rfl) (by simp) ?_
      refine AllReadyH.cons (o := { dst := some 14, op := Op.call { callee := Callee.value (Operand.tmp 11), args := #[Operand.tmp 13], argTypes := #[122] }, type := 29, pos := "wire.go:60", after := #[{ on := 1, ground := Ground.data }, { on := 3, ground := Ground.data }, { on := 3, ground := Ground.chain }], guard := none }) rfl (fun K hK => ?_) AllReadyH.nil
      go_simp
      refine (CG.out B _ (r1.below (bAl (Below.refl _ _) _))).mono ?_
      rintro e w4 ⟨A4, c4, rfl, o4, r4, k4⟩
      go_wp2_with fail
      have K5 := belowK K3a k4 hB2
      clear r4
      refine hK.out _ _ K5 (fun hHeld2 => ?_)
      clear hK K hHeld2
      try simp only [Act.put, List.setIfInBounds_toArray, List.set_cons_zero, List.set_cons_succ]
      refine wpAnyH_ready (rs := [6]) (by kernel_rfl) (by simp) ?_
      refine AllReadyH.cons (o := { dst := none, op := Op.store 29 (Operand.tmp 6) (Operand.tmp 14), type := 0, pos := "wire.go:60", after := #[{ on := 5, ground := Ground.data }, { on := 4, ground := Ground.data }, { on := 4, ground := Ground.chain }, { on := 0, ground := Ground.phase }, { on := 1, ground := Ground.phase }, { on := 2, ground := Ground.phase }, { on := 3, ground := Ground.phase }, { on := 4, ground := Ground.phase }, { on := 5, ground := Ground.phase }], guard := none }) rfl (fun K hK => ?_) AllReadyH.nil
      have N5 : AtC _ (w3.heap.size) zQ := (AtC.new w3 zQ 29).kept k4 (show w3.heap.size ≠ B by omega)
      have n5t := there_at N5
      have hN5 : W0.heap.size ≤ w3.heap.size := NB
      refine wp_store_mid _ _ _ rfl (w3.heap.size) 0 (rqC q A4 q.hs.length c4) rfl rfl n5t (by kernel_rfl) (hall _ _) ?_
      have K6 := set_below K5 hN5 (rqC q A4 q.hs.length c4)
      refine hK.out _ _ K6 (fun hHeld4 => ?_)
      clear hK K hHeld4
      try simp only [Act.put, List.setIfInBounds_toArray, List.set_cons_zero, List.set_cons_succ]
      have q0 := own_far (o4) (set_kept (B := w3.heap.size) (rqC q A4 q.hs.length c4)) (.inl (by simp))
      have X6 := set_at (C := rqC q A4 q.hs.length c4) N5 rfl
      refine wpAnyH_done (by kernel_rfl) ?_ _
      have hs0 := HS0.out
      exact tailQ q A4 c4 hF hn A c b w _ (w3.heap.size) _ _ _ _ _ _ _ _ _ _ _ _ _ _ _ _ _ _ _ _ _ _ _ _ _ (Lib.hid (M0.then K6)) (Lib.hid (Z0.then K6)) (Lib.hid X6) (Lib.hid (own_rd q0)) (Lib.hid (fun a ha => by have := (q0.lt a.block (by rw [ha]; rfl)).1; (try simp at this); omega)) (Lib.hid ((HB.out.below K6).more K6.size)) (Lib.hid (b0.trans (K6.mono (by omega)))) (by omega) HR (by assumption)
  · skip
    go_simp
    go_wp2_with fail
    have KA := bAl hHeld0 (.cells zQ 29)
    refine hK.out _ _ KA (fun hHeld3 => ?_)
    clear hK K hHeld3
    try simp only [Act.put, List.setIfInBounds_toArray, List.set_cons_zero, List.set_cons_succ]
    have NB : W0.heap.size ≤ W0.heap.size := Nat.le_refl _
    refine wpAnyH_ready (rs := [3]) (by kernel_rfl) (by simp) ?_
    refine AllReadyH.cons (o := { dst := some 13, op := Op.call { callee := Callee.value (Operand.func 73), args := #[Operand.tmp 12], argTypes := #[39] }, type := 122, pos := "wire.go:60", after := #[{ on := 2, ground := Ground.data }], guard := none }) rfl (fun K hK => ?_) AllReadyH.nil
    go_simp
    refine (CR.out _ ((HB.out.below KA).more KA.size)).mono ?_
    rintro e w3 ⟨B, rfl, r1, hB, k3⟩
    go_wp2_with fail
    have K3 := bThen KA k3
    have hk3 := K3.size
    have hB2 : W0.heap.size ≤ B := Nat.le_trans KA.size hB
    have r1l := r1.lt
    refine hK.out _ _ K3 (fun hHeld1 => ?_)
    clear hK K hHeld1
    try simp only [Act.put, List.setIfInBounds_toArray, List.set_cons_zero, List.set_cons_succ]
    refine wpAnyH_ready (rs := [4]) (by kernel_rfl) (by simp) ?_
    refine AllReadyH.cons (o := { dst := some 14, op := Op.call { callee := Callee.value (Operand.tmp 11), args := #[Operand.tmp 13], argTypes := #[122] }, type := 29, pos := "wire.go:60", after := #[{ on := 1, ground := Ground.data }, { on := 3, ground := Ground.data }, { on := 3, ground := Ground.chain }], guard := none }) rfl (fun K hK => ?_) AllReadyH.nil
    go_simp
    refine (CG.out B _ (r1)).mono ?_
    rintro e w4 ⟨A4, c4, rfl, o4, r4, k4⟩
    go_wp2_with fail
    have K5 := belowK K3 k4 hB2
    clear r4
    refine hK.out _ _ K5 (fun hHeld2 => ?_)
    clear hK K hHeld2
    try simp only [Act.put, List.setIfInBounds_toArray, List.set_cons_zero, List.set_cons_succ]
    refine wpAnyH_ready (rs := [6]) (by kernel_rfl) (by simp) ?_
    refine AllReadyH.cons (o := { dst := none, op := Op.store 29 (Operand.tmp 6) (Operand.tmp 14), type := 0, pos := "wire.go:60", after := #[{ on := 5, ground := Ground.data }, { on := 4, ground := Ground.data }, { on := 4, ground := Ground.chain }, { on := 0, ground := Ground.phase }, { on := 1, ground := Ground.phase }, { on := 2, ground := Ground.phase }, { on := 3, ground := Ground.phase }, { on := 4, ground := Ground.phase }, { on := 5, ground := Ground.phase }], guard := none }) rfl (fun K hK => ?_) AllReadyH.nil
    have N5 : AtC _ (W0.heap.size) zQ := ((AtC.new W0.drew zQ 29).then k3).kept k4 (show W0.heap.size ≠ B by have := hB; simp at this; omega)
    have n5t := there_at N5
    have hN5 : W0.heap.size ≤ W0.heap.size := NB
    refine wp_store_mid _ _ _ rfl (W0.heap.size) 0 (rqC q A4 q.hs.length c4) rfl rfl n5t (by kernel_rfl) (hall _ _) ?_
    have K6 := set_below K5 hN5 (rqC q A4 q.hs.length c4)
    refine hK.out _ _ K6 (fun hHeld4 => ?_)
    clear hK K hHeld4
    try simp only [Act.put, List.setIfInBounds_toArray, List.set_cons_zero, List.set_cons_succ]
    have q0 := own_far (o4) (set_kept (B := W0.heap.size) (rqC q A4 q.hs.length c4)) (.inl (by have := k3.size; simp at this; omega))
    have X6 := set_at (C := rqC q A4 q.hs.length c4) N5 rfl
    refine wpAnyH_done (by kernel_rfl) ?_ _
    have hs0 := HS0.out
    exact tailQ q A4 c4 hF hn A c b w _ (W0.heap.size) _ _ _ _ _ _ _ _ _ _ _ _ _ _ _ _ _ _ _ _ _ _ _ _ _ (Lib.hid (M0.then K6)) (Lib.hid (Z0.then K6)) (Lib.hid X6) (Lib.hid (own_rd q0)) (Lib.hid (fun a ha => by have := (q0.lt a.block (by rw [ha]; rfl)).1; (try simp at this); omega)) (Lib.hid ((HB.out.below K6).more K6.size)) (Lib.hid (b0.trans (K6.mono (by omega)))) (by omega) HR (by assumption)
theorem tellQ_any (A : Option Addr) (c : Nat) (b : Bs) (w : World) (h : RdK u8K w w.heap.size A b) (hb : b.length ≤ 1000000) (hA : A = none → c = 0) :
    Calls Tryz.prog 19 #[.slice A b.length c] w fun e w' => TlQ w (readQ b) e w' := by
  have B0 := Lib.hid (bAl (Below.refl w.heap.size w) (.cells zQ 29))
  have Z0 := Lib.hid (AtC.new w zQ 29)
  have H := Lib.hid h
  have CF := Lib.hid requests_any
  have CC := Lib.hid (fun (W : World) (q : RdK u8K W W.heap.size A b) => readQ_any A c b W q hb hA)
  obtain ⟨r, hr⟩ : ∃ r, readQ b = r := ⟨_, rfl⟩
  rw [hr] at CC ⊢
  clear h hr
  cases r with
  | none =>
    have hall : zQ.all (·.oneCell') = true := by kernel_rfl
    go_enter Tryz.func19, Tryz.ntmps19
    go_wp2_with (first
      | (go_at_call 29; ((refine (CF.out _).mono ?_); rintro e w2 ⟨rfl, k2⟩; have K2 := Lib.hid (bThen B0.out k2); have Z2 := Lib.hid (Z0.out.then k2); have zl2 := Z2.out.lt; clear k2))
      | (go_at_call 48; ((refine (CC.out _ ((H.out.below K2.out).more K2.out.size)).mono ?_); rintro e w3 ⟨k3, hE⟩; have K3 := Lib.hid (bThen K2.out k3); have Z3 := Lib.hid (Z2.out.then k3); have zt := there_at Z3.out; subst hE; clear k3))
      | ((show wpList _ _ _ ({ dst := none, op := _, type := _, pos := _, after := _, guard := _ } :: _) _ _); (refine wpList_store_mid rfl _ _ _ rfl w.heap.size 0 (zQ) rfl rfl zt (by kernel_rfl) hall ?_)))
    exact ret_row_tmp rfl rfl rfl rfl (set_at Z3.out rfl) (by kernel_rfl) (by kernel_rfl) ⟨set_below K3.out (Nat.le_refl _) _, rfl⟩
  | some q =>
    have hallA : ∀ (A4 : Option Addr) (c4 : Nat), (rqC q A4 q.hs.length c4 : Array Value).all (·.oneCell') = true := fun A4 c4 => all_oneCell_toArray (fun x hx => by simp at hx; rcases hx with rfl | rfl | rfl | rfl | rfl | rfl | rfl | rfl | rfl | rfl | rfl | rfl | rfl | rfl | rfl | rfl | rfl | rfl | rfl | rfl | rfl | rfl | rfl | rfl | rfl <;> rfl)
    go_enter Tryz.func19, Tryz.ntmps19
    go_wp2_with (first
      | (go_at_call 29; ((refine (CF.out _).mono ?_); rintro e w2 ⟨rfl, k2⟩; have K2 := Lib.hid (bThen B0.out k2); have Z2 := Lib.hid (Z0.out.then k2); have zl2 := Z2.out.lt; clear k2))
      | (go_at_call 48; ((refine (CC.out _ ((H.out.below K2.out).more K2.out.size)).mono ?_); rintro e w3 ⟨k3, ⟨A4, c4, rfl, r4, ha4⟩⟩; have K3 := Lib.hid (bThen K2.out k3); have Z3 := Lib.hid (Z2.out.then k3); have zt := there_at Z3.out; clear k3))
      | ((show wpList _ _ _ ({ dst := none, op := _, type := _, pos := _, after := _, guard := _ } :: _) _ _); (refine wpList_store_mid rfl _ _ _ rfl w.heap.size 0 (rqC q A4 q.hs.length c4) rfl rfl zt (by kernel_rfl) (hallA _ _) ?_)))
    exact ret_row_tmp rfl rfl rfl rfl (set_at Z3.out rfl) (by kernel_rfl) (by kernel_rfl) ⟨set_below K3.out (Nat.le_refl _) _, ⟨A4, c4, rfl, (IX.RdK.kept r4 (set_kept _) (Nat.le_refl _) (fun a ha => by have := ha4 a ha; show a.block ≠ w.heap.size; omega)).more (set_kept _).size, fun a ha => by have := ha4 a ha; omega⟩⟩
end Go.Proofs.YtjocbokfdfdkeaaGreat.PX
