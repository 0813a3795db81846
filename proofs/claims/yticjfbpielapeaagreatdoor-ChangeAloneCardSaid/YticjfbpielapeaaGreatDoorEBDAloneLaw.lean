/-
  WALK: the law ChangeAlone.
-/
import Derived.Test.YticjfbpielapeaaGreatDoorEB14
import Derived.Test.YticjfbpielapeaaGreatDoorEB15
import Derived.Test.YticjfbpielapeaaGreatDoorEB12
import Derived.Test.YticjfbpielapeaaGreatDoorEB8
import Derived.Test.YticjfbpielapeaaGreatDoorEB10
import Derived.Test.YticjfbpielapeaaGreatDoorEB11
namespace Go.Proofs.YticjfbpielapeaaGreatDoor.DX
open Go.RowKit HL
open IX (ptr El cellsK cellsK_at OwnK RdK strK)
open WX (hb pb rb tl_ne bs_eq)
set_option maxRecDepth 100000
set_option linter.unusedVariables false
set_option linter.unusedSimpArgs false

theorem more_meets {k : Nat} {x o : Ob} {W : World} (h : MeetsC ⟨k, x⟩ W) (fo : Fine o) : MeetsC ⟨k, moreOf k x o⟩ W := by
  have hx := h.o
  unfold moreOf
  split
  · exact ⟨h.kind, hx.kind, hx.typ, hx.digits, fo.assoc, hx.handle, hx.parent, hx.ref, hx.words, hx.kinds⟩
  · split
    · exact ⟨h.kind, hx.kind, hx.typ, hx.digits, fo.assoc, hx.handle, hx.parent, hx.ref, hx.words, hx.kinds⟩
    · split
      · exact ⟨h.kind, hx.kind, fo.typ, fo.digits, hx.assoc, hx.handle, fo.parent, fo.ref, hx.words, hx.kinds⟩
      · exact h
set_option maxHeartbeats 4000000 in
theorem alone_round (w wr : World) (i Bo : Nat) (o : Ob) (l : List Ch) (A : Option Addr) (c : Nat) (m : Bool) (w1 w2 w4 u7 u8 u9 u10 u11 u12 u13 u14 u15 u16 u17 u18 u19 u20 u21 u22 u23 u24 u25 u26 u27 u28 u29 u30 u31 u32 u33 u34 u35 u36 u37 u38 u39 u40 u41 u42 u43 u44 u45 u46 u47 u48 u49 u50 u51 u52 u53 u54 u55 u56 u57 u58 u59 u60 u61 u62 u63 u64 u65 u66 u67 u68 u69 u70 u71 u72 u73 u74 u75 u76 u77 u78 u79 u80 u81 u82 u83 u84 u85 u86 u87 : Value) {Q : Exit → Act → World → Prop} (hi : i < l.length) (hl : l.length ≤ 30) (hr : RdK chK w w.heap.size A l) (kk : Below w.heap.size w wr) (mO : AtC wr Bo (obCells o)) (hM : MeetsC l[i] w) (fo : Fine o)
    (hQ : ∀ (x7 x8 x9 x31 x32 x33 x34 x35 x36 x37 x38 x39 x40 x41 x42 x43 x44 x45 x46 x47 x48 x49 x50 x51 x52 x53 x54 x55 x56 x57 x58 x59 x60 x61 x62 x63 x64 x65 x66 x67 x68 x69 x70 x71 x72 x73 x74 x75 x76 x77 x78 x79 x80 x81 x82 : Value) (w' : World), Below w.heap.size w w' → Q .normal { tmps := #[.slice A l.length c, w1, w2, ptr Bo, w4, .bool (m && oneB l[i]), .int .i64 ((i : Int) + 1), x7, x8, x9, u10, u11, u12, u13, u14, u15, u16, u17, u18, u19, u20, u21, u22, u23, u24, u25, u26, u27, u28, u29, u30, x31, x32, x33, x34, x35, x36, x37, x38, x39, x40, x41, x42, x43, x44, x45, x46, x47, x48, x49, x50, x51, x52, x53, x54, x55, x56, x57, x58, x59, x60, x61, x62, x63, x64, x65, x66, x67, x68, x69, x70, x71, x72, x73, x74, x75, x76, x77, x78, x79, x80, x81, x82, u83, u84, u85, u86, u87], defers := [] } w') :
    Code.wp Tryz.prog aloneB Q { tmps := #[.slice A l.length c, w1, w2, ptr Bo, w4, .bool m, .int .i64 i, u7, u8, u9, u10, u11, u12, u13, u14, u15, u16, u17, u18, u19, u20, u21, u22, u23, u24, u25, u26, u27, u28, u29, u30, u31, u32, u33, u34, u35, u36, u37, u38, u39, u40, u41, u42, u43, u44, u45, u46, u47, u48, u49, u50, u51, u52, u53, u54, u55, u56, u57, u58, u59, u60, u61, u62, u63, u64, u65, u66, u67, u68, u69, u70, u71, u72, u73, u74, u75, u76, u77, u78, u79, u80, u81, u82, u83, u84, u85, u86, u87], defers := [] } wr := by
  generalize hx : l[i] = x at hM hQ
  obtain ⟨k, x⟩ := x
  have C1 := fun W (q : Below w.heap.size w W) => one_any ⟨k, x⟩ W (hM.then q)
  have C3 := fun W (q : Below w.heap.size w W) A2 c2 (r : RdK chK W W.heap.size A2 [⟨k, x⟩]) => show Calls Tryz.prog 23 #[.slice A2 1 c2] W fun e w' => e = .returned (.int .i64 (mayE [⟨k, x⟩])) ∧ Below W.heap.size W w' from may10_any A2 c2 [⟨k, x⟩] W r (by simp) (one_mem (hM.then q))
  have CN := fun W (q : Below w.heap.size w W) => one_any ⟨k, moreOf k x o⟩ W (more_meets (hM.then q) fo)
  have MN := @more_not k x o
  rw [mayE_one] at C3
  cases hb1 : oneB ⟨k, x⟩ with
  | true =>
    rw [hb1] at C1 C3 hQ
    have C2 : moreOf k x o ≠ x → ∀ W, Below w.heap.size w W → Calls Tryz.prog 30 #[ch ⟨k, moreOf k x o⟩] W fun e w' => e = .returned (.bool false) ∧ Below W.heap.size W w' := fun hne W q => by
      have := CN W q
      rw [MN hb1 hne] at this
      exact this
    rcases kinds4 hM.kind with e | e | e | e | ⟨_, n2, n3, n4, _, h2, h3, h4⟩
    · cases m with
      | true => exact alone_rn_tt w wr i Bo k x o l A c w1 w2 w4 _ _ _ _ _ _ _ _ _ _ _ _ _ _ _ _ _ _ _ _ _ _ _ _ _ _ _ _ _ _ _ _ _ _ _ _ _ _ _ _ _ _ _ _ _ _ _ _ _ _ _ _ _ _ _ _ _ _ _ _ _ _ _ _ _ _ _ _ _ _ _ _ _ _ _ _ _ _ _ _ _ (by dsimp only at e; omega) (by dsimp only at e; omega) (by dsimp only at e; omega) hi hl hx hr kk mO C1 (fun h => absurd rfl h) C3 hQ
      | false => exact alone_rn_tf w wr i Bo k x o l A c w1 w2 w4 _ _ _ _ _ _ _ _ _ _ _ _ _ _ _ _ _ _ _ _ _ _ _ _ _ _ _ _ _ _ _ _ _ _ _ _ _ _ _ _ _ _ _ _ _ _ _ _ _ _ _ _ _ _ _ _ _ _ _ _ _ _ _ _ _ _ _ _ _ _ _ _ _ _ _ _ _ _ _ _ _ (by dsimp only at e; omega) (by dsimp only at e; omega) (by dsimp only at e; omega) hi hl hx hr kk mO C1 (fun h => absurd rfl h) C3 hQ
    · dsimp only at e; subst e
      cases m with
      | true => exact alone_r2_tt w wr i Bo x o l A c w1 w2 w4 _ _ _ _ _ _ _ _ _ _ _ _ _ _ _ _ _ _ _ _ _ _ _ _ _ _ _ _ _ _ _ _ _ _ _ _ _ _ _ _ _ _ _ _ _ _ _ _ _ _ _ _ _ _ _ _ _ _ _ _ _ _ _ _ _ _ _ _ _ _ _ _ _ _ _ _ _ _ _ _ _ hi hl hx hr kk mO C1 (show _ from C2) C3 hQ
      | false => exact alone_r2_tf w wr i Bo x o l A c w1 w2 w4 _ _ _ _ _ _ _ _ _ _ _ _ _ _ _ _ _ _ _ _ _ _ _ _ _ _ _ _ _ _ _ _ _ _ _ _ _ _ _ _ _ _ _ _ _ _ _ _ _ _ _ _ _ _ _ _ _ _ _ _ _ _ _ _ _ _ _ _ _ _ _ _ _ _ _ _ _ _ _ _ _ hi hl hx hr kk mO C1 (show _ from C2) C3 hQ
    · dsimp only at e; subst e
      cases m with
      | true => exact alone_r3_tt w wr i Bo x o l A c w1 w2 w4 _ _ _ _ _ _ _ _ _ _ _ _ _ _ _ _ _ _ _ _ _ _ _ _ _ _ _ _ _ _ _ _ _ _ _ _ _ _ _ _ _ _ _ _ _ _ _ _ _ _ _ _ _ _ _ _ _ _ _ _ _ _ _ _ _ _ _ _ _ _ _ _ _ _ _ _ _ _ _ _ _ hi hl hx hr kk mO C1 (show _ from C2) C3 hQ
      | false => exact alone_r3_tf w wr i Bo x o l A c w1 w2 w4 _ _ _ _ _ _ _ _ _ _ _ _ _ _ _ _ _ _ _ _ _ _ _ _ _ _ _ _ _ _ _ _ _ _ _ _ _ _ _ _ _ _ _ _ _ _ _ _ _ _ _ _ _ _ _ _ _ _ _ _ _ _ _ _ _ _ _ _ _ _ _ _ _ _ _ _ _ _ _ _ _ hi hl hx hr kk mO C1 (show _ from C2) C3 hQ
    · dsimp only at e; subst e
      cases m with
      | true => exact alone_r4_tt w wr i Bo x o l A c w1 w2 w4 _ _ _ _ _ _ _ _ _ _ _ _ _ _ _ _ _ _ _ _ _ _ _ _ _ _ _ _ _ _ _ _ _ _ _ _ _ _ _ _ _ _ _ _ _ _ _ _ _ _ _ _ _ _ _ _ _ _ _ _ _ _ _ _ _ _ _ _ _ _ _ _ _ _ _ _ _ _ _ _ _ hi hl hx hr kk mO C1 (show _ from C2) C3 hQ
      | false => exact alone_r4_tf w wr i Bo x o l A c w1 w2 w4 _ _ _ _ _ _ _ _ _ _ _ _ _ _ _ _ _ _ _ _ _ _ _ _ _ _ _ _ _ _ _ _ _ _ _ _ _ _ _ _ _ _ _ _ _ _ _ _ _ _ _ _ _ _ _ _ _ _ _ _ _ _ _ _ _ _ _ _ _ _ _ _ _ _ _ _ _ _ _ _ _ hi hl hx hr kk mO C1 (show _ from C2) C3 hQ
    · cases m with
      | true => exact alone_rn_tt w wr i Bo k x o l A c w1 w2 w4 _ _ _ _ _ _ _ _ _ _ _ _ _ _ _ _ _ _ _ _ _ _ _ _ _ _ _ _ _ _ _ _ _ _ _ _ _ _ _ _ _ _ _ _ _ _ _ _ _ _ _ _ _ _ _ _ _ _ _ _ _ _ _ _ _ _ _ _ _ _ _ _ _ _ _ _ _ _ _ _ _ h2 h3 h4 hi hl hx hr kk mO C1 (fun h => absurd rfl h) C3 hQ
      | false => exact alone_rn_tf w wr i Bo k x o l A c w1 w2 w4 _ _ _ _ _ _ _ _ _ _ _ _ _ _ _ _ _ _ _ _ _ _ _ _ _ _ _ _ _ _ _ _ _ _ _ _ _ _ _ _ _ _ _ _ _ _ _ _ _ _ _ _ _ _ _ _ _ _ _ _ _ _ _ _ _ _ _ _ _ _ _ _ _ _ _ _ _ _ _ _ _ h2 h3 h4 hi hl hx hr kk mO C1 (fun h => absurd rfl h) C3 hQ
  | false =>
    rw [hb1] at C1 C3 hQ
    rcases kinds4 hM.kind with e | e | e | e | ⟨_, n2, n3, n4, _, h2, h3, h4⟩
    · cases m with
      | true => exact alone_rn_ft w wr i Bo k x o l A c w1 w2 w4 _ _ _ _ _ _ _ _ _ _ _ _ _ _ _ _ _ _ _ _ _ _ _ _ _ _ _ _ _ _ _ _ _ _ _ _ _ _ _ _ _ _ _ _ _ _ _ _ _ _ _ _ _ _ _ _ _ _ _ _ _ _ _ _ _ _ _ _ _ _ _ _ _ _ _ _ _ _ _ _ _ (by dsimp only at e; omega) (by dsimp only at e; omega) (by dsimp only at e; omega) hi hl hx hr kk mO C1 C3 hQ
      | false => exact alone_rn_ff w wr i Bo k x o l A c w1 w2 w4 _ _ _ _ _ _ _ _ _ _ _ _ _ _ _ _ _ _ _ _ _ _ _ _ _ _ _ _ _ _ _ _ _ _ _ _ _ _ _ _ _ _ _ _ _ _ _ _ _ _ _ _ _ _ _ _ _ _ _ _ _ _ _ _ _ _ _ _ _ _ _ _ _ _ _ _ _ _ _ _ _ (by dsimp only at e; omega) (by dsimp only at e; omega) (by dsimp only at e; omega) hi hl hx hr kk mO C1 C3 hQ
    · dsimp only at e; subst e
      cases m with
      | true => exact alone_r2_ft w wr i Bo x o l A c w1 w2 w4 _ _ _ _ _ _ _ _ _ _ _ _ _ _ _ _ _ _ _ _ _ _ _ _ _ _ _ _ _ _ _ _ _ _ _ _ _ _ _ _ _ _ _ _ _ _ _ _ _ _ _ _ _ _ _ _ _ _ _ _ _ _ _ _ _ _ _ _ _ _ _ _ _ _ _ _ _ _ _ _ _ hi hl hx hr kk mO C1 C3 hQ
      | false => exact alone_r2_ff w wr i Bo x o l A c w1 w2 w4 _ _ _ _ _ _ _ _ _ _ _ _ _ _ _ _ _ _ _ _ _ _ _ _ _ _ _ _ _ _ _ _ _ _ _ _ _ _ _ _ _ _ _ _ _ _ _ _ _ _ _ _ _ _ _ _ _ _ _ _ _ _ _ _ _ _ _ _ _ _ _ _ _ _ _ _ _ _ _ _ _ hi hl hx hr kk mO C1 C3 hQ
    · dsimp only at e; subst e
      cases m with
      | true => exact alone_r3_ft w wr i Bo x o l A c w1 w2 w4 _ _ _ _ _ _ _ _ _ _ _ _ _ _ _ _ _ _ _ _ _ _ _ _ _ _ _ _ _ _ _ _ _ _ _ _ _ _ _ _ _ _ _ _ _ _ _ _ _ _ _ _ _ _ _ _ _ _ _ _ _ _ _ _ _ _ _ _ _ _ _ _ _ _ _ _ _ _ _ _ _ hi hl hx hr kk mO C1 C3 hQ
      | false => exact alone_r3_ff w wr i Bo x o l A c w1 w2 w4 _ _ _ _ _ _ _ _ _ _ _ _ _ _ _ _ _ _ _ _ _ _ _ _ _ _ _ _ _ _ _ _ _ _ _ _ _ _ _ _ _ _ _ _ _ _ _ _ _ _ _ _ _ _ _ _ _ _ _ _ _ _ _ _ _ _ _ _ _ _ _ _ _ _ _ _ _ _ _ _ _ hi hl hx hr kk mO C1 C3 hQ
    · dsimp only at e; subst e
      cases m with
      | true => exact alone_r4_ft w wr i Bo x o l A c w1 w2 w4 _ _ _ _ _ _ _ _ _ _ _ _ _ _ _ _ _ _ _ _ _ _ _ _ _ _ _ _ _ _ _ _ _ _ _ _ _ _ _ _ _ _ _ _ _ _ _ _ _ _ _ _ _ _ _ _ _ _ _ _ _ _ _ _ _ _ _ _ _ _ _ _ _ _ _ _ _ _ _ _ _ hi hl hx hr kk mO C1 C3 hQ
      | false => exact alone_r4_ff w wr i Bo x o l A c w1 w2 w4 _ _ _ _ _ _ _ _ _ _ _ _ _ _ _ _ _ _ _ _ _ _ _ _ _ _ _ _ _ _ _ _ _ _ _ _ _ _ _ _ _ _ _ _ _ _ _ _ _ _ _ _ _ _ _ _ _ _ _ _ _ _ _ _ _ _ _ _ _ _ _ _ _ _ _ _ _ _ _ _ _ hi hl hx hr kk mO C1 C3 hQ
    · cases m with
      | true => exact alone_rn_ft w wr i Bo k x o l A c w1 w2 w4 _ _ _ _ _ _ _ _ _ _ _ _ _ _ _ _ _ _ _ _ _ _ _ _ _ _ _ _ _ _ _ _ _ _ _ _ _ _ _ _ _ _ _ _ _ _ _ _ _ _ _ _ _ _ _ _ _ _ _ _ _ _ _ _ _ _ _ _ _ _ _ _ _ _ _ _ _ _ _ _ _ h2 h3 h4 hi hl hx hr kk mO C1 C3 hQ
      | false => exact alone_rn_ff w wr i Bo k x o l A c w1 w2 w4 _ _ _ _ _ _ _ _ _ _ _ _ _ _ _ _ _ _ _ _ _ _ _ _ _ _ _ _ _ _ _ _ _ _ _ _ _ _ _ _ _ _ _ _ _ _ _ _ _ _ _ _ _ _ _ _ _ _ _ _ _ _ _ _ _ _ _ _ _ _ _ _ _ _ _ _ _ _ _ _ _ h2 h3 h4 hi hl hx hr kk mO C1 C3 hQ
noncomputable def alone4 : Code := TX.bodyC Tryz.f8 [1, 1, 1, 1]
theorem may_step {m0 : Bool} {l : List Ch} {k : Nat} (h : k < l.length) : ((m0 && !(l.take k).any fun c => !oneB c) && oneB l[k]) = (m0 && !(l.take (k + 1)).any fun c => !oneB c) := by
  rw [List.take_succ_eq_append_getElem h, List.any_append]
  cases m0 <;> cases ((l.take k).any fun c => !oneB c) <;> cases e : oneB l[k] <;> simp [e]
set_option maxHeartbeats 8000000 in
theorem alone_tail (w W0 wc : World) (Bo : Nat) (o : Ob) (l : List Ch) (A : Option Addr) (c : Nat) (m0 : Bool) (w1 w2 w4 w6 u7 u8 u9 u10 u11 u12 u13 u14 u15 u16 u17 u18 u19 u20 u21 u22 u23 u24 u25 u26 u27 u28 u29 u30 u31 u32 u33 u34 u35 u36 u37 u38 u39 u40 u41 u42 u43 u44 u45 u46 u47 u48 u49 u50 u51 u52 u53 u54 u55 u56 u57 u58 u59 u60 u61 u62 u63 u64 u65 u66 u67 u68 u69 u70 u71 u72 u73 u74 u75 u76 u77 u78 u79 u80 u81 u82 u83 u84 u85 u86 u87 : Value) (b0 : Below w.heap.size w W0) (kk : Below W0.heap.size W0 wc) (mO : AtC W0 Bo (obCells o)) (hr : RdK chK W0 W0.heap.size A l) (hl : l.length ≤ 30) (hM : ∀ c ∈ l, MeetsC c W0) (fo : Fine o) (hm : mayC l = (m0 && !l.any fun c => !oneB c)) :
    Code.wp Tryz.prog alone4 (bodyPost Tryz.prog Tryz.f8 fun e w' => e = .returned (.bool true) ∧ Below w.heap.size w w') { tmps := #[.slice A l.length c, w1, w2, ptr Bo, w4, .bool m0, w6, u7, u8, u9, u10, u11, u12, u13, u14, u15, u16, u17, u18, u19, u20, u21, u22, u23, u24, u25, u26, u27, u28, u29, u30, u31, u32, u33, u34, u35, u36, u37, u38, u39, u40, u41, u42, u43, u44, u45, u46, u47, u48, u49, u50, u51, u52, u53, u54, u55, u56, u57, u58, u59, u60, u61, u62, u63, u64, u65, u66, u67, u68, u69, u70, u71, u72, u73, u74, u75, u76, u77, u78, u79, u80, u81, u82, u83, u84, u85, u86, u87], defers := [] } wc := by
  have CM := Lib.hid (fun W (q : Below W0.heap.size W0 W) => may10_any A c l W ((hr.below q).more q.size) (by omega) (fun c hc => (hM c hc).then q))
  have B0 := Lib.hid b0
  have KK := Lib.hid kk
  have HM := Lib.hid hM
  have HR := Lib.hid hr
  have MO := Lib.hid mO
  have HE := Lib.hid hm
  clear b0 kk hM hr mO hm
  conv => arg 2; simp only [alone4, TX.bodyC, Tryz.f8, TX.pathC]
  go_wp2
  go_loopw [5, 6] (fun m i wr => ∃ k : Nat, i = .int .i64 k ∧ k ≤ l.length ∧ m = .bool (m0 && !(l.take k).any fun c => !oneB c) ∧ Below W0.heap.size W0 wr) (fun _ i _ => l.length - (intOf i).toNat)
  case atStart => exact ⟨0, rfl, Nat.zero_le _, by simp, KK.out⟩
  case round =>
    obtain ⟨k, rfl, hk, rfl, k1⟩ := hrel
    by_cases hlt : k < l.length
    · refine alone_round W0 _ k Bo o l A c _ _ _ _ _ _ _ _ _ _ _ _ _ _ _ _ _ _ _ _ _ _ _ _ _ _ _ _ _ _ _ _ _ _ _ _ _ _ _ _ _ _ _ _ _ _ _ _ _ _ _ _ _ _ _ _ _ _ _ _ _ _ _ _ _ _ _ _ _ _ _ _ _ _ _ _ _ _ _ _ _ _ _ _ _ hlt hl HR.out k1 (MO.out.then k1) (HM.out _ (List.getElem_mem hlt)) fo ?_
      rw [may_step hlt]
      intro x7 x8 x9 x31 x32 x33 x34 x35 x36 x37 x38 x39 x40 x41 x42 x43 x44 x45 x46 x47 x48 x49 x50 x51 x52 x53 x54 x55 x56 x57 x58 x59 x60 x61 x62 x63 x64 x65 x66 x67 x68 x69 x70 x71 x72 x73 x74 x75 x76 x77 x78 x79 x80 x81 x82 w11 k11
      go_wp2
      go_roundw
      case rel =>
        exact ⟨k + 1, by go_num, by omega, rfl, k11⟩
      case measure => simp [intOf]; omega
    · obtain rfl : k = l.length := by omega
      have i1 : ¬ (l.length : Int) < l.length := by omega
      have HEe := HE.out
      rw [List.take_length, ← HEe]
      have CX := CM.out _ k1
      cases hq : mayC l with
      | true =>
        rw [mayE_t hq] at CX
        have CX := Lib.hid CX
        clear HEe hq
        go_wp2_with (go_at_call 23; ((with_reducible refine CX.out.mono ?_); rintro e w3 ⟨rfl, q3⟩; have k3 := Lib.hid (B0.out.trans ((bThen k1 q3).mono B0.out.size))))
        go_ret
        exact ⟨rfl, k3.out⟩
      | false =>
        rw [mayE_f hq] at CX
        have CX := Lib.hid CX
        clear HEe hq
        go_wp2_with (go_at_call 23; ((with_reducible refine CX.out.mono ?_); rintro e w3 ⟨rfl, q3⟩; have k3 := Lib.hid (B0.out.trans ((bThen k1 q3).mono B0.out.size))))
        go_ret
        exact ⟨rfl, k3.out⟩
set_option maxHeartbeats 8000000 in
theorem alone_walk (A : Option Addr) (c : Nat) (l : List Ch) (o : Ob) (w : World) (h : RdK chK w w.heap.size A l) (n1 : l.length ≤ maxLen) (hF : ∀ c ∈ l, c.kind ≤ 255 ∧ Fine c.o) (fo : Fine o) (ht : Words w ∧ Kinds w) :
    Calls Tryz.prog 8 #[.slice A l.length c, ob o] w fun e w' => e = .returned (.bool true) ∧ Below w.heap.size w w' := by
  have h0 : Below w.heap.size w w := Below.refl _ _
  have CA := Lib.hid (fun W (k : Below w.heap.size w W) => awake10_any W ⟨ht.1.then k, ht.2.then k⟩)
  have L1 := Lib.hid (fun W (k : Below w.heap.size w W) => longC_any A c l W ((h.below k).more k.size) n1)
  have L2 := Lib.hid (fun W A2 c2 (r : RdK chK W W.heap.size A2 [⟨0, o⟩]) => show Calls Tryz.prog 10 #[.slice A2 1 c2] W fun e w' => e = .returned (.bool (longC [⟨0, o⟩])) ∧ Below W.heap.size W w' from longC_any A2 c2 [⟨0, o⟩] W r (by unfold maxLen; simp))
  cases e1 : longC l with
  | true =>
    rw [e1] at L1
    clear h hF ht e1
    go_enter Tryz.func8, Tryz.ntmps8
    go_wp2_with (first
      | (go_at_call 20; ((refine (CA.out _ (bAl h0 _)).mono ?_); rintro e w1 ⟨rfl, q1⟩; have k1 := bThen (bAl h0 _) q1))
      | (go_at_call 10; ((with_reducible refine (L1.out _ k1).mono ?_); rintro e w2 ⟨rfl, q2⟩; have k2 := bThen k1 q2)))
    go_ret
    exact ⟨rfl, k2⟩
  | false =>
    have nl := (longC_out e1).1
    have hM := meetsC_of e1 hF ht
    have HR := Lib.hid h
    have HM := Lib.hid hM
    have HP := Lib.hid (mayC_parts l)
    have CH := Lib.hid (fun W (q : Below w.heap.size w W) => handles_any A c l W ((h.below q).more q.size) (by omega))
    have HF := Lib.hid (@sortU_full (hsC l))
    have HS := Lib.hid (sortU_le (hsC l))
    rw [hsC_len] at HF HS
    rw [e1] at L1
    clear h hF ht e1 hM
    cases e2 : longC [⟨0, o⟩] with
    | true =>
      rw [e2] at L2
      clear e2 CH
      go_enter Tryz.func8, Tryz.ntmps8
      go_wp2_with (first
        | (go_at_call 20; ((refine (CA.out _ (bAl h0 _)).mono ?_); rintro e w1 ⟨rfl, q1⟩; have k1 := bThen (bAl h0 _) q1; have mO := (AtC.newAt (w := w) (B := w.heap.size) rfl).then q1; have MO1 := Lib.hid mO; clear mO q1))
        | (go_at_call 10; ((with_reducible refine (L1.out _ k1).mono ?_); rintro e w2 ⟨rfl, q2⟩; have k2 := bThen k1 q2; have mO2 := MO1.out.then q2; have cO2 := mO2.c; clear q2))
        | (go_at_call 10; ((refine (L2.out _ _ _ (rdLit rfl rfl)).mono ?_); rintro e w3 ⟨rfl, q3⟩; have k3 := bThen (bAl k2 _) q3)))
      go_ret
      exact ⟨rfl, k3⟩
    | false =>
      rw [e2] at L2
      clear e2
      go_enter Tryz.func8, Tryz.ntmps8
      go_upto_region 5 with (first
        | (go_at_call 20; ((refine (CA.out _ (bAl h0 _)).mono ?_); rintro e w1 ⟨rfl, q1⟩; have k1 := bThen (bAl h0 _) q1; have mO := (AtC.newAt (w := w) (B := w.heap.size) rfl).then q1; have MO1 := Lib.hid mO; clear mO q1))
        | (go_at_call 10; ((with_reducible refine (L1.out _ k1).mono ?_); rintro e w2 ⟨rfl, q2⟩; have k2 := bThen k1 q2; have mO2 := MO1.out.then q2; have cO2 := mO2.c; have MO2 := Lib.hid mO2; clear q2 mO2))
        | (go_at_call 10; ((refine (L2.out _ _ _ (rdLit rfl rfl)).mono ?_); rintro e w3 ⟨rfl, q3⟩; have k3 := bThen (bAl k2 _) q3; have MO3 := Lib.hid ((MO2.out.al _).then q3))))
      clear cO2
      have HP2 := HP.out
      generalize hm0 : (decide (l.length ≤ 8) && @decide ((hsC l).Nodup) (Classical.propDecidable _)) = m0 at HP2
      have HP3 := Lib.hid HP2
      have HM0 := Lib.hid hm0
      clear HP2 hm0 CA L1 L2
      go_cut [5] from 10 (fun s5 wx => s5 = .bool m0 ∧ Below w3.heap.size w3 wx)
      case first =>
        by_cases h8 : l.length ≤ 8
        · have i8 : (l.length : Int) ≤ 8 := by omega
          by_cases hd : (hsC l).Nodup
          · have hm : m0 = true := by rw [← HM0.out]; simp [h8, hd]
            have hz : ((sortU (hsC l)).length : Int) = (l.length : Int) := by
              have h1 := HS.out
              have h2 := HF.out
              by_cases hlt : (sortU (hsC l)).length < l.length
              · exact absurd hd (h2.1 hlt)
              · omega
            subst hm
            have hzb : (((sortU (hsC l)).length : Int) == (l.length : Int)) = true := by simpa using hz
            clear hd hz
            have HZ := Lib.hid hzb
            generalize sortU (hsC l) = zs at *
            go_wp2_with (go_at_call 25; ((with_reducible refine (CH.out _ k3).mono ?_); rintro e w4 ⟨A4, c4, rfl, s4, q4⟩))
            go_meet
            case rel => exact ⟨rfl, q4⟩
          · have hm : m0 = false := by rw [← HM0.out]; simp [hd]
            have hzb : (((sortU (hsC l)).length : Int) == (l.length : Int)) = false := by
              have h2 := HF.out.2 hd
              simp; omega
            subst hm
            clear hd
            generalize sortU (hsC l) = zs at *
            go_wp2_with (go_at_call 25; ((with_reducible refine (CH.out _ k3).mono ?_); rintro e w4 ⟨A4, c4, rfl, s4, q4⟩))
            go_meet
            case rel => exact ⟨rfl, q4⟩
        · have i8 : ¬ (l.length : Int) ≤ 8 := by omega
          have hm : m0 = false := by rw [← HM0.out]; simp [h8]
          subst hm
          go_wp2
          go_meet
          case rel => exact ⟨rfl, Below.refl _ _⟩
      case rest =>
        obtain ⟨rfl, kx⟩ := hcut
        rename_i K8 hK8
        refine hK8 _ _ ?_
        exact alone_tail w w3 _ w.heap.size o l A c m0 _ _ _ _ _ _ _ _ _ _ _ _ _ _ _ _ _ _ _ _ _ _ _ _ _ _ _ _ _ _ _ _ _ _ _ _ _ _ _ _ _ _ _ _ _ _ _ _ _ _ _ _ _ _ _ _ _ _ _ _ _ _ _ _ _ _ _ _ _ _ _ _ _ _ _ _ _ _ _ _ _ _ _ _ _ k3 kx MO3.out ((HR.out.below k3).more k3.size) nl (fun c hc => (HM.out c hc).then k3) fo HP3.out
end Go.Proofs.YticjfbpielapeaaGreatDoor.DX
