/-
  WALK: the library's symMerge at objects.
-/
import Derived.Test.YtncahpbjbgcnbaaGreatDoorEOKInsert
import Derived.Test.YtncahpbjbgcnbaaGreatDoorEO14
import Derived.Test.YtncahpbjbgcnbaaGreatDoorEO13
namespace Go.Proofs.YtncahpbjbgcnbaaGreatDoor.KX
open Go.RowKit HL
open IX (ptr El cellsK cellsK_at cellsK_inv OwnK RdK strK Kept)
open WX (obK hb)
open TX (Ext wp_region_ext ext_below ext_same)
set_option maxRecDepth 100000
set_option linter.unusedVariables false
set_option linter.unusedSimpArgs false

/-- The list's cut by the place found. -/
theorem cut_list (P X Y R : List Tg) (s t : Nat) : mapF (P ++ X ++ Y ++ R) = mapF (P ++ X.take s) ++ mapF (X.drop s) ++ mapF (Y.take t) ++ mapF (Y.drop t ++ R) := by
  have e1 : X.take s ++ X.drop s = X := List.take_append_drop s X
  have e2 : Y.take t ++ Y.drop t = Y := List.take_append_drop t Y
  have e3 : P ++ X ++ Y ++ R = P ++ (X.take s ++ X.drop s) ++ (Y.take t ++ Y.drop t) ++ R := by rw [e1, e2]
  rw [e3]
  simp only [mapF, List.map_append, List.append_assoc]
theorem turned (P X Y R : List Tg) (s t : Nat) : mapF (P ++ X.take s) ++ mapF (Y.take t) ++ mapF (X.drop s) ++ mapF (Y.drop t ++ R) = mapF (P ++ (X.take s ++ Y.take t) ++ (X.drop s ++ Y.drop t) ++ R) := by
  simp only [mapF, List.map_append, List.append_assoc]
theorem unturned (P X Y R : List Tg) (s t : Nat) (h : X.drop s = [] ∨ Y.take t = []) : P ++ X ++ Y ++ R = P ++ (X.take s ++ Y.take t) ++ (X.drop s ++ Y.drop t) ++ R := by
  have e1 : X.take s ++ X.drop s = X := List.take_append_drop s X
  have e2 : Y.take t ++ Y.drop t = Y := List.take_append_drop t Y
  have e3 : P ++ X ++ Y ++ R = P ++ (X.take s ++ X.drop s) ++ (Y.take t ++ Y.drop t) ++ R := by rw [e1, e2]
  rw [e3]
  rcases h with h | h <;> rw [h] <;> simp only [List.append_assoc, List.nil_append, List.append_nil]
/-- What symMerge says, of stretches of d at most. -/
def SymAt (g cap n d : Nat) : Prop := ∀ (a m b : Nat) (P X Y R : List Tg) (w : World), b - a ≤ d → Row w g (mapF (P ++ X ++ Y ++ R)) → P.length = a → a + X.length = m → m + Y.length = b → b + R.length = n → 0 < X.length → 0 < Y.length → Up X → Up Y → Ahead X Y →
    Calls Tryz.prog 69 #[.slice (some ⟨g, 0, none⟩) n cap, .int .i64 a, .int .i64 m, .int .i64 b, cmpF] w fun e w' => e = .returned (.tuple #[]) ∧ (∃ S', (X ++ Y).Perm S' ∧ Up S' ∧ Row w' g (mapF (P ++ S' ++ R))) ∧ Kept w w' (· ≠ g)
def J0 (P X Y R : List Tg) (s t g : Nat) (W : World) : Prop := Row W g (mapF (P ++ (X.take s ++ Y.take t) ++ (X.drop s ++ Y.drop t) ++ R))
def J1 (P X Y R : List Tg) (s t g : Nat) (W : World) : Prop := ∃ U, (X.take s ++ Y.take t).Perm U ∧ Up U ∧ Row W g (mapF (P ++ U ++ (X.drop s ++ Y.drop t) ++ R))
theorem sym_left_call {g cap n d a m b s h S mid : Nat} {P X Y R : List Tg} (IH : SymAt g cap n d) (F : Found X Y h s) (uX : Up X) (uY : Up Y) (hA : Ahead X Y) (ha : P.length = a) (hm : a + X.length = m) (hb : m + Y.length = b) (hn : b + R.length = n) (hd : b - a ≤ d + 1) (hX : 2 ≤ X.length) (hY : 2 ≤ Y.length) (hh1 : 2 * h ≤ X.length + Y.length) (hh2 : X.length + Y.length ≤ 2 * h + 1) (hs : 0 < s) (hsh : s < h) (hS : a + s = S) (hmid : a + h = mid) (W : World) (hr : J0 P X Y R s (h - s) g W) :
    Calls Tryz.prog 69 #[.slice (some ⟨g, 0, none⟩) n cap, .int .i64 a, .int .i64 S, .int .i64 mid, cmpF] W fun e w' => e = .returned (.tuple #[]) ∧ J1 P X Y R s (h - s) g w' ∧ Kept W w' (· ≠ g) := by
  have f1 := F.sx
  have f2 := F.hy
  refine (IH a S mid P (X.take s) (Y.take (h - s)) (X.drop s ++ Y.drop (h - s) ++ R) W (by omega) (by unfold J0 at hr; simpa only [List.append_assoc] using hr) ha (by rw [List.length_take]; omega) (by rw [List.length_take]; omega) (by simp only [List.length_append, List.length_drop]; omega) (by rw [List.length_take]; omega) (by rw [List.length_take]; omega) (up_take uX s).1 (up_take uY _).1 (ahead_cut hA s _).1).mono ?_
  rintro e w1 ⟨he, ⟨U, p, u, r⟩, k⟩
  exact ⟨he, ⟨U, p, u, by simpa only [List.append_assoc] using r⟩, k⟩
theorem sym_left_skip {g s h : Nat} {P X Y R : List Tg} (uX : Up X) (uY : Up Y) (F : Found X Y h s) (hs : ¬ (0 < s ∧ s < h)) (W : World) (hr : J0 P X Y R s (h - s) g W) : J1 P X Y R s (h - s) g W := by
  refine ⟨X.take s ++ Y.take (h - s), List.Perm.refl _, ?_, hr⟩
  have f := F.sh
  by_cases z : s = 0
  · subst z; simpa using (up_take uY _).1
  · have : h - s = 0 := by omega
    rw [this]; simpa using (up_take uX s).1
theorem sym_right_call {g cap n d a m b s h mid Z : Nat} {P X Y R : List Tg} (IH : SymAt g cap n d) (F : Found X Y h s) (uX : Up X) (uY : Up Y) (hA : Ahead X Y) (ha : P.length = a) (hm : a + X.length = m) (hb : m + Y.length = b) (hn : b + R.length = n) (hd : b - a ≤ d + 1) (hX : 2 ≤ X.length) (hY : 2 ≤ Y.length) (hh1 : 2 * h ≤ X.length + Y.length) (hh2 : X.length + Y.length ≤ 2 * h + 1) (hs : s < X.length) (hsh : h - s < Y.length) (hZ : m + (h - s) = Z) (hmid : a + h = mid) (W : World) (hr : J1 P X Y R s (h - s) g W) :
    Calls Tryz.prog 69 #[.slice (some ⟨g, 0, none⟩) n cap, .int .i64 mid, .int .i64 Z, .int .i64 b, cmpF] W fun e w' => e = .returned (.tuple #[]) ∧ (∃ S', (X ++ Y).Perm S' ∧ Up S' ∧ Row w' g (mapF (P ++ S' ++ R))) ∧ Kept W w' (· ≠ g) := by
  have f1 := F.sx
  have f2 := F.hy
  have f3 := F.sh
  obtain ⟨U, p, u, r⟩ := hr
  have hU : U.length = h := by rw [← p.length_eq, List.length_append, List.length_take, List.length_take]; omega
  refine (IH mid Z b (P ++ U) (X.drop s) (Y.drop (h - s)) R W (by omega) (by simpa only [List.append_assoc] using r) (by rw [List.length_append]; omega) (by rw [List.length_drop]; omega) (by rw [List.length_drop]; omega) hn (by rw [List.length_drop]; omega) (by rw [List.length_drop]; omega) (up_take uX s).2 (up_take uY _).2 (ahead_cut hA s _).2).mono ?_
  rintro e w1 ⟨he, ⟨V, q, v, r⟩, k⟩
  obtain ⟨m1, m2⟩ := merge_step p q u v uX uY F.one F.two
  exact ⟨he, ⟨U ++ V, m2, m1, by simpa only [List.append_assoc] using r⟩, k⟩
theorem sym_right_skip {g s h : Nat} {P X Y R : List Tg} (uX : Up X) (uY : Up Y) (F : Found X Y h s) (hs : ¬ (s < X.length ∧ h - s < Y.length)) (W : World) (hr : J1 P X Y R s (h - s) g W) : ∃ S', (X ++ Y).Perm S' ∧ Up S' ∧ Row W g (mapF (P ++ S' ++ R)) := by
  obtain ⟨U, p, u, r⟩ := hr
  have uv : Up (X.drop s ++ Y.drop (h - s)) := by
    by_cases z : s < X.length
    · have : Y.drop (h - s) = [] := List.drop_eq_nil_of_le (by omega)
      rw [this]; simpa using (up_take uX s).2
    · have : X.drop s = [] := List.drop_eq_nil_of_le (by omega)
      rw [this]; simpa using (up_take uY _).2
  obtain ⟨m1, m2⟩ := merge_step p (List.Perm.refl _) u uv uX uY F.one F.two
  exact ⟨_, m2, m1, by simpa only [List.append_assoc] using r⟩
theorem sym_rot_call {g cap n a m b s h S Z : Nat} {P X Y R : List Tg} (F : Found X Y h s) (ha : P.length = a) (hm : a + X.length = m) (hb : m + Y.length = b) (hn : b + R.length = n) (hn2 : n ≤ 100000) (hs : s < X.length) (hsh : s < h) (hS : a + s = S) (hZ : m + (h - s) = Z) (W : World) (hr : Row W g (mapF (P ++ X ++ Y ++ R))) :
    Calls Tryz.prog 90 #[.slice (some ⟨g, 0, none⟩) n cap, .int .i64 S, .int .i64 m, .int .i64 Z, cmpF] W fun e w' => e = .returned (.tuple #[]) ∧ J0 P X Y R s (h - s) g w' ∧ Kept W w' (· ≠ g) := by
  have f1 := F.sx
  have f2 := F.hy
  rw [cut_list P X Y R s (h - s)] at hr
  have := rotate_any cmpF g cap n S m Z (mapF (P ++ X.take s)) (mapF (X.drop s)) (mapF (Y.take (h - s))) (mapF (Y.drop (h - s) ++ R)) W hr (by simp [mapF]; omega) (by simp [mapF]; omega) (by simp [mapF]; omega) (by simp [mapF]; omega) (by simp [mapF]; omega) (by simp [mapF]; omega) hn2
  rw [turned] at this
  exact this
theorem sym_rot_skip {g s h : Nat} {P X Y R : List Tg} (F : Found X Y h s) (hs : ¬ (s < X.length ∧ s < h)) (W : World) (hr : Row W g (mapF (P ++ X ++ Y ++ R))) : J0 P X Y R s (h - s) g W := by
  unfold J0
  rw [← unturned P X Y R s (h - s) ?_]
  · exact hr
  · by_cases z : s < X.length
    · right
      have : h - s = 0 := by omega
      rw [this]; rfl
    · left
      exact List.drop_eq_nil_of_le (by omega)
set_option maxHeartbeats 64000000 in
theorem sym_general (g cap n d a m b : Nat) (P X Y R : List Tg) (w : World) (IH : SymAt g cap n d) (hd : b - a ≤ d + 1) (hrow : Row w g (mapF (P ++ X ++ Y ++ R))) (ha : P.length = a) (hm : a + X.length = m) (hb : m + Y.length = b) (hn : b + R.length = n) (hn2 : n ≤ 100000) (hX : 2 ≤ X.length) (hY : 2 ≤ Y.length) (uX : Up X) (uY : Up Y) (hA : Ahead X Y) :
    Calls Tryz.prog 69 #[.slice (some ⟨g, 0, none⟩) n cap, .int .i64 a, .int .i64 m, .int .i64 b, cmpF] w fun e w' => e = .returned (.tuple #[]) ∧ (∃ S', (X ++ Y).Perm S' ∧ Up S' ∧ Row w' g (mapF (P ++ S' ++ R))) ∧ Kept w w' (· ≠ g) := by
  obtain ⟨h, hh⟩ : ∃ h, (X.length + Y.length) / 2 = h := ⟨_, rfl⟩
  have hh1 : 2 * h ≤ X.length + Y.length := by omega
  have hh2 : X.length + Y.length ≤ 2 * h + 1 := by omega
  obtain ⟨mid, hmid⟩ : ∃ mid, a + h = mid := ⟨_, rfl⟩
  have CROT := Lib.hid (fun s S Z F h1 h2 h3 h4 W r => sym_rot_call (g := g) (cap := cap) (h := h) (s := s) (S := S) (Z := Z) F ha hm hb hn hn2 h1 h2 h3 h4 W r)
  have CLEFT := Lib.hid (fun s S F h1 h2 h3 W r => sym_left_call (h := h) (s := s) (S := S) (mid := mid) (R := R) IH F uX uY hA ha hm hb hn hd hX hY hh1 hh2 h1 h2 h3 hmid W r)
  have CRIGHT := Lib.hid (fun s Z F h1 h2 h3 W r => sym_right_call (h := h) (s := s) (Z := Z) (mid := mid) (R := R) IH F uX uY hA ha hm hb hn hd hX hY hh1 hh2 h1 h2 h3 hmid W r)
  have SLEFT := Lib.hid (fun s F h1 W r => sym_left_skip (g := g) (h := h) (s := s) (P := P) (R := R) uX uY F h1 W r)
  have SRIGHT := Lib.hid (fun s F h1 W r => sym_right_skip (g := g) (h := h) (s := s) (P := P) (R := R) uX uY F h1 W r)
  have SROT := Lib.hid (fun s F h1 W r => sym_rot_skip (g := g) (h := h) (s := s) (P := P) (X := X) (Y := Y) (R := R) F h1 W r)
  obtain ⟨J0', hJ0⟩ : ∃ J : Nat → World → Prop, J = fun s => J0 P X Y R s (h - s) g := ⟨_, rfl⟩
  obtain ⟨J1', hJ1⟩ : ∃ J : Nat → World → Prop, J = fun s => J1 P X Y R s (h - s) g := ⟨_, rfl⟩
  obtain ⟨E, hE⟩ : ∃ E : World → Prop, E = fun w' => ∃ S', (X ++ Y).Perm S' ∧ Up S' ∧ Row w' g (mapF (P ++ S' ++ R)) := ⟨_, rfl⟩
  have e0 : ∀ s W, J0 P X Y R s (h - s) g W = J0' s W := fun s W => by rw [hJ0]
  have e1 : ∀ s W, J1 P X Y R s (h - s) g W = J1' s W := fun s W => by rw [hJ1]
  have e2 : ∀ W, (∃ S', (X ++ Y).Perm S' ∧ Up S' ∧ Row W g (mapF (P ++ S' ++ R))) = E W := fun W => by rw [hE]
  simp only [e0, e1, e2] at CROT CLEFT CRIGHT SLEFT SRIGHT SROT ⊢
  clear e0 e1 e2 hJ0 hJ1 hE
  obtain ⟨L, hL⟩ : ∃ L, mapF (P ++ X ++ Y ++ R) = L := ⟨_, rfl⟩
  rw [hL] at CROT SROT hrow
  have GET1 : Hid (∀ c, (hc : c < X.length) → L[a + c]? = some X[c].1) := Lib.hid (fun c hc => by
    rw [← hL]
    have : (P ++ X ++ Y ++ R)[a + c]? = some X[c] := by
      rw [List.append_assoc, List.append_assoc, List.getElem?_append_right (by omega), show a + c - P.length = c by omega, List.getElem?_append_left hc, List.getElem?_eq_getElem hc]
    simp only [mapF, List.getElem?_map, this, Option.map])
  have GET2 : Hid (∀ c, (hc : c < Y.length) → L[m + c]? = some Y[c].1) := Lib.hid (fun c hc => by
    rw [← hL]
    have : (P ++ X ++ Y ++ R)[m + c]? = some Y[c] := by
      rw [List.append_assoc, List.getElem?_append_right (by rw [List.length_append]; omega), show m + c - (P ++ X).length = c by rw [List.length_append]; omega, List.getElem?_append_left hc, List.getElem?_eq_getElem hc]
    simp only [mapF, List.getElem?_map, this, Option.map])
  have HRW := Lib.hid hrow
  have q0 : ((a : Int) + (b : Int)) / 2 = (mid : Int) := by omega
  have q1 : ((m : Int) - (a : Int) == 1) = false := by simp; omega
  have q2 : ((b : Int) - (m : Int) == 1) = false := by simp; omega
  have BG := Lib.hid (fun k => bnd_gt (X := X) (Y := Y) (h := h) k hh1 hh2)
  have BL := Lib.hid (fun k => bnd_le (X := X) (Y := Y) (h := h) k hh1 hh2)
  obtain ⟨lx, hlx⟩ : ∃ l, X.length = l := ⟨_, rfl⟩
  obtain ⟨ly, hly⟩ : ∃ l, Y.length = l := ⟨_, rfl⟩
  obtain ⟨N1, hN1⟩ : ∃ N, mid + m = N := ⟨_, rfl⟩
  obtain ⟨N2, hN2⟩ : ∃ N, mid + m - 1 = N := ⟨_, rfl⟩
  have q3 : IntKind.i64.wrap ((mid : Int) + (m : Int)) = (N1 : Int) := by rw [IntWalk.i64_in _ (by omega)]; omega
  have q4 : IntKind.i64.wrap ((N1 : Int) - 1) = (N2 : Int) := by rw [IntWalk.i64_in _ (by omega)]; omega
  have CC0 := Lib.hid (fun x y W => cmpO_any x y W)
  have HUX := Lib.hid uX
  have HUY := Lib.hid uY
  have HA := Lib.hid hA
  have HLX := Lib.hid hlx
  have HLY := Lib.hid hly
  have HN1 := Lib.hid hN1
  have HN2 := Lib.hid hN2
  rw [hlx] at hm hh1 hh2
  rw [hly] at hb hh1 hh2
  have HM := Lib.hid hm
  have HB := Lib.hid hb
  have HMID := Lib.hid hmid
  have HH1 := Lib.hid hh1
  have HH2 := Lib.hid hh2
  have HNN := Lib.hid hn
  have hx2 : 2 ≤ lx := by omega
  have hy2 : 2 ≤ ly := by omega
  have mn : m ≤ n := by omega
  have bn : b ≤ n := by omega
  have hN1b : N1 ≤ 200000 := by omega
  have hc1 : mid ≤ n := by omega
  by_cases hgt : mid < m
  · obtain ⟨lo, hlo⟩ : ∃ lo, h - ly = lo := ⟨_, rfl⟩
    obtain ⟨S0, hS0⟩ : ∃ S, a + lo = S := ⟨_, rfl⟩
    have HB0 : Hid (Bnd X Y h lo h) := Lib.hid (by have := BG.out (by omega); rw [hly, hlo] at this; exact this)
    have q5 : IntKind.i64.wrap ((N1 : Int) - (b : Int)) = (S0 : Int) := by rw [IntWalk.i64_in _ (by omega)]; omega
    have q6 : (mid : Int) < (m : Int) := by omega
    have HS0 := Lib.hid hS0
    have HT0 : Hid (a + h = mid) := HMID
    have hst : S0 ≤ mid := by omega
    clear hrow hh hh1 hh2 hmid hm hb hn hX hY uX uY hA hlx hly IH hL ha BG BL hN1 hN2 hlo hS0 hd q2 q1 hgt
    have q1 : ((m : Int) - (a : Int) == 1) = false := by have := HM.out; simp; omega
    have q2 : ((b : Int) - (m : Int) == 1) = false := by have := HB.out; simp; omega
    go_enter Tryz.func69, Tryz.ntmps69
    go_wp2
    go_loopw [20, 21] (fun sv tv wr => ∃ s t S T : Nat, sv = .int .i64 S ∧ tv = .int .i64 T ∧ Hid (a + s = S) ∧ Hid (a + t = T) ∧ S ≤ T ∧ T ≤ n ∧ Hid (Find X Y h lo h s t) ∧ Hid (Row wr g L) ∧ Hid (Kept w wr (· ≠ g))) (fun sv tv _ => (intOf tv).toNat - (intOf sv).toNat)
    case atStart => exact ⟨lo, h, S0, mid, rfl, rfl, HS0, HT0, hst, by omega, Lib.hid (Find.start HB0.out), HRW, Lib.hid (Kept.refl w _)⟩
    case round =>
      obtain ⟨s, t, S, T, rfl, rfl, HSS, HTT, hST, hTn, HFI, HR, KW⟩ := hrel
      by_cases hlt : S < T
      · have i1 : (S : Int) < (T : Int) := by omega
        have i1d : decide ((S : Int) < (T : Int)) = true := decide_eq_true i1
        obtain ⟨C, hC⟩ : ∃ C, (S + T) / 2 = C := ⟨_, rfl⟩
        have hCS : S ≤ C := by omega
        have hCT : C < T := by omega
        have hw1 : ((S : Int) + (T : Int)) / 2 = (C : Int) := by omega
        obtain ⟨c, hc⟩ : ∃ c, C - a = c := ⟨_, rfl⟩
        have hsc : s ≤ c := by have := HSS.out; omega
        have hct : c < t := by have := HTT.out; have := HSS.out; omega
        have hac : a + c = C := by have := HSS.out; omega
        have hth : t ≤ h := by have := HFI.out.le; have := HB0.out.h_; omega
        have htx : t ≤ lx := by have := HFI.out.le; have := HB0.out.x; have := HLX.out; omega
        have hcy : h - 1 - c < ly := by have := HFI.out.ge; have := HB0.out.y; have := HLY.out; omega
        obtain ⟨Q, hQ⟩ : ∃ Q, m + (h - 1 - c) = Q := ⟨_, rfl⟩
        have hwQ : IntKind.i64.wrap ((N2 : Int) - (C : Int)) = (Q : Int) := by
          have := HN2.out; have := HMID.out
          rw [IntWalk.i64_in _ (by omega)]; omega
        have hkc : C < n := by omega
        have hkq : Q < n := by have := HB.out; omega
        have k1 : (C : Int) < (n : Int) := by omega
        have k2 : (Q : Int) < (n : Int) := by omega
        have hx : X[c]? = some (X[c]'(by have := HLX.out; omega)) := List.getElem?_eq_getElem (by have := HLX.out; omega)
        have hy : Y[h - 1 - c]? = some (Y[h - 1 - c]'(by have := HLY.out; omega)) := List.getElem?_eq_getElem (by have := HLY.out; omega)
        have hxp := GET1.out c (by have := HLX.out; omega)
        have hxq := GET2.out (h - 1 - c) (by have := HLY.out; omega)
        rw [hac] at hxp
        rw [hQ] at hxq
        have FI := fit_iff HA.out hx hy
        generalize X[c]'(by have := HLX.out; omega) = x at *
        generalize Y[h - 1 - c]'(by have := HLY.out; omega) = y at *
        have HC := Lib.hid hac
        have HRO := HR
        obtain ⟨CL, hat, hbg⟩ := HR.out
        have CC := Lib.hid (fun W => CC0.out y.1 x.1 W)
        by_cases hl : hb y.1 < hb x.1
        · have hneg := (cmp_neg y.1 x.1).2 hl
          have HNX : Hid (Find X Y h lo h s c) := Lib.hid (HFI.out.left HB0.out HUX.out HUY.out hsc hct hx hy (fun f => (FI.1 f) hl))
          generalize Lib.compareBytes (hb y.1) (hb x.1) = r at *
          have n1 : decide (r < 0) = true := decide_eq_true hneg
          clear hx hy FI hl HFI hQ hc hC hac hsc hct hth htx hcy hkc hkq
          generalize x.1 = xp at *
          generalize y.1 = xq at *
          have az := fun y : Ext wr => row_cells14 (hat.then y.b) hbg hxp
          have a0 := fun y : Ext wr => (az y).1
          have a1 := fun y : Ext wr => (az y).2.1
          have a2 := fun y : Ext wr => (az y).2.2.1
          have a3 := fun y : Ext wr => (az y).2.2.2.1
          have a4 := fun y : Ext wr => (az y).2.2.2.2.1
          have a5 := fun y : Ext wr => (az y).2.2.2.2.2.1
          have a6 := fun y : Ext wr => (az y).2.2.2.2.2.2.1
          have a7 := fun y : Ext wr => (az y).2.2.2.2.2.2.2.1
          have a8 := fun y : Ext wr => (az y).2.2.2.2.2.2.2.2.1
          have a9 := fun y : Ext wr => (az y).2.2.2.2.2.2.2.2.2.1
          have a10 := fun y : Ext wr => (az y).2.2.2.2.2.2.2.2.2.2.1
          have a11 := fun y : Ext wr => (az y).2.2.2.2.2.2.2.2.2.2.2.1
          have a12 := fun y : Ext wr => (az y).2.2.2.2.2.2.2.2.2.2.2.2.1
          have a13 := fun y : Ext wr => (az y).2.2.2.2.2.2.2.2.2.2.2.2.2
          clear az
          have bz := fun y : Ext wr => row_cells14 (hat.then y.b) hbg hxq
          have b0 := fun y : Ext wr => (bz y).1
          have b1 := fun y : Ext wr => (bz y).2.1
          have b2 := fun y : Ext wr => (bz y).2.2.1
          have b3 := fun y : Ext wr => (bz y).2.2.2.1
          have b4 := fun y : Ext wr => (bz y).2.2.2.2.1
          have b5 := fun y : Ext wr => (bz y).2.2.2.2.2.1
          have b6 := fun y : Ext wr => (bz y).2.2.2.2.2.2.1
          have b7 := fun y : Ext wr => (bz y).2.2.2.2.2.2.2.1
          have b8 := fun y : Ext wr => (bz y).2.2.2.2.2.2.2.2.1
          have b9 := fun y : Ext wr => (bz y).2.2.2.2.2.2.2.2.2.1
          have b10 := fun y : Ext wr => (bz y).2.2.2.2.2.2.2.2.2.2.1
          have b11 := fun y : Ext wr => (bz y).2.2.2.2.2.2.2.2.2.2.2.1
          have b12 := fun y : Ext wr => (bz y).2.2.2.2.2.2.2.2.2.2.2.2.1
          have b13 := fun y : Ext wr => (bz y).2.2.2.2.2.2.2.2.2.2.2.2.2
          clear bz
          go_wp2_with fail
          refine wp_region_ext (by kernel_rfl) (by kernel_rfl) ?_
          repeat (go_big_quiet_step ((go_at_call 33; exact ext_below (CC.out _))))
          refine wpQuiet_nil ?_
          rintro _ ⟨y, rfl⟩
          clear a0 a1 a2 a3 a4 a5 a6 a7 a8 a9 a10 a11 a12 a13 b0 b1 b2 b3 b4 b5 b6 b7 b8 b9 b10 b11 b12 b13
          go_wp2
          go_roundw
          case rel => exact ⟨s, c, S, C, rfl, rfl, HSS, HC, hCS, by omega, HNX, Lib.hid (HRO.out.then y.b), Lib.hid (KW.out.then y.b)⟩
          case measure => simp [intOf]; omega
        · have hneg : ¬ Lib.compareBytes (hb y.1) (hb x.1) < 0 := fun k => hl ((cmp_neg y.1 x.1).1 k)
          have HNX : Hid (Find X Y h lo h (c + 1) t) := Lib.hid (HFI.out.right HB0.out HUX.out HUY.out hsc hct hx hy (FI.2 hl))
          generalize Lib.compareBytes (hb y.1) (hb x.1) = r at *
          have n1 : decide (r < 0) = false := decide_eq_false hneg
          clear hx hy FI hl HFI hQ hc hC hac hsc hct hth htx hcy hkc hkq
          generalize x.1 = xp at *
          generalize y.1 = xq at *
          have az := fun y : Ext wr => row_cells14 (hat.then y.b) hbg hxp
          have a0 := fun y : Ext wr => (az y).1
          have a1 := fun y : Ext wr => (az y).2.1
          have a2 := fun y : Ext wr => (az y).2.2.1
          have a3 := fun y : Ext wr => (az y).2.2.2.1
          have a4 := fun y : Ext wr => (az y).2.2.2.2.1
          have a5 := fun y : Ext wr => (az y).2.2.2.2.2.1
          have a6 := fun y : Ext wr => (az y).2.2.2.2.2.2.1
          have a7 := fun y : Ext wr => (az y).2.2.2.2.2.2.2.1
          have a8 := fun y : Ext wr => (az y).2.2.2.2.2.2.2.2.1
          have a9 := fun y : Ext wr => (az y).2.2.2.2.2.2.2.2.2.1
          have a10 := fun y : Ext wr => (az y).2.2.2.2.2.2.2.2.2.2.1
          have a11 := fun y : Ext wr => (az y).2.2.2.2.2.2.2.2.2.2.2.1
          have a12 := fun y : Ext wr => (az y).2.2.2.2.2.2.2.2.2.2.2.2.1
          have a13 := fun y : Ext wr => (az y).2.2.2.2.2.2.2.2.2.2.2.2.2
          clear az
          have bz := fun y : Ext wr => row_cells14 (hat.then y.b) hbg hxq
          have b0 := fun y : Ext wr => (bz y).1
          have b1 := fun y : Ext wr => (bz y).2.1
          have b2 := fun y : Ext wr => (bz y).2.2.1
          have b3 := fun y : Ext wr => (bz y).2.2.2.1
          have b4 := fun y : Ext wr => (bz y).2.2.2.2.1
          have b5 := fun y : Ext wr => (bz y).2.2.2.2.2.1
          have b6 := fun y : Ext wr => (bz y).2.2.2.2.2.2.1
          have b7 := fun y : Ext wr => (bz y).2.2.2.2.2.2.2.1
          have b8 := fun y : Ext wr => (bz y).2.2.2.2.2.2.2.2.1
          have b9 := fun y : Ext wr => (bz y).2.2.2.2.2.2.2.2.2.1
          have b10 := fun y : Ext wr => (bz y).2.2.2.2.2.2.2.2.2.2.1
          have b11 := fun y : Ext wr => (bz y).2.2.2.2.2.2.2.2.2.2.2.1
          have b12 := fun y : Ext wr => (bz y).2.2.2.2.2.2.2.2.2.2.2.2.1
          have b13 := fun y : Ext wr => (bz y).2.2.2.2.2.2.2.2.2.2.2.2.2
          clear bz
          go_wp2_with fail
          refine wp_region_ext (by kernel_rfl) (by kernel_rfl) ?_
          repeat (go_big_quiet_step ((go_at_call 33; exact ext_below (CC.out _))))
          refine wpQuiet_nil ?_
          rintro _ ⟨y, rfl⟩
          clear a0 a1 a2 a3 a4 a5 a6 a7 a8 a9 a10 a11 a12 a13 b0 b1 b2 b3 b4 b5 b6 b7 b8 b9 b10 b11 b12 b13
          go_wp2
          go_roundw
          case rel => exact ⟨c + 1, t, C + 1, T, by first | rfl | go_num, rfl, Lib.hid (by have := HC.out; omega), HTT, by omega, hTn, HNX, Lib.hid (HRO.out.then y.b), Lib.hid (KW.out.then y.b)⟩
          case measure => simp [intOf]; omega
      · have i1 : ¬ (S : Int) < (T : Int) := by omega
        have i1d : decide ((S : Int) < (T : Int)) = false := decide_eq_false i1
        have est : s = t := by have := HSS.out; have := HTT.out; omega
        have HF : Hid (Found X Y h s) := Lib.hid (by have f := HFI.out; rw [← est] at f; exact f.found HB0.out HUX.out HUY.out HA.out)
        obtain ⟨Z, hZ⟩ : ∃ Z, m + (h - s) = Z := ⟨_, rfl⟩
        have hsub : s ≤ h := HF.out.sh
        have hslx : s ≤ lx := by have := HF.out.sx; have := HLX.out; omega
        have hsly : h - s ≤ ly := by have := HF.out.hy; have := HLY.out; omega
        have hwZ : IntKind.i64.wrap ((N1 : Int) - (S : Int)) = (Z : Int) := by
          have := HN1.out; have := HMID.out; have := HSS.out
          rw [IntWalk.i64_in _ (by have := HB.out; omega)]; omega
        have HZ := Lib.hid hZ
        clear est HFI
        have hh0 : 0 < h := by have := HH1.out; have := HH2.out; omega
        have hcase : (s < lx ∧ s < h ∧ 0 < s ∧ h - s < ly) ∨ (s < lx ∧ s < h ∧ 0 < s ∧ ¬ h - s < ly) ∨ (s < lx ∧ s < h ∧ s = 0 ∧ h - s < ly) ∨ (s < lx ∧ s < h ∧ s = 0 ∧ ¬ h - s < ly) ∨ (s < lx ∧ s = h ∧ 0 < s ∧ h - s < ly) := by have := HM.out; have := HMID.out; omega
        clear hh0
        rcases hcase with c1 | c1 | c1 | c1 | c1
        · have t1 : (S : Int) < (m : Int) := by have := HM.out; have := HB.out; have := HMID.out; have := HSS.out; have := HZ.out; omega
          have t1d : decide ((S : Int) < (m : Int)) = true := decide_eq_true t1
          have t2 : (m : Int) < (Z : Int) := by have := HM.out; have := HB.out; have := HMID.out; have := HSS.out; have := HZ.out; omega
          have t2d : decide ((m : Int) < (Z : Int)) = true := decide_eq_true t2
          have t3 : (a : Int) < (S : Int) := by have := HM.out; have := HB.out; have := HMID.out; have := HSS.out; have := HZ.out; omega
          have t3d : decide ((a : Int) < (S : Int)) = true := decide_eq_true t3
          have t4 : (S : Int) < (mid : Int) := by have := HM.out; have := HB.out; have := HMID.out; have := HSS.out; have := HZ.out; omega
          have t4d : decide ((S : Int) < (mid : Int)) = true := decide_eq_true t4
          have t5 : (mid : Int) < (Z : Int) := by have := HM.out; have := HB.out; have := HMID.out; have := HSS.out; have := HZ.out; omega
          have t5d : decide ((mid : Int) < (Z : Int)) = true := decide_eq_true t5
          have t6 : (Z : Int) < (b : Int) := by have := HM.out; have := HB.out; have := HMID.out; have := HSS.out; have := HZ.out; omega
          have t6d : decide ((Z : Int) < (b : Int)) = true := decide_eq_true t6
          have CR0 := Lib.hid (fun W => CROT.out s S Z HF.out (by have := HLX.out; omega) (by omega) HSS.out HZ.out W)
          have CL := Lib.hid (fun W => CLEFT.out s S HF.out (by omega) (by omega) HSS.out W)
          have CR := Lib.hid (fun W => CRIGHT.out s Z HF.out (by have := HLX.out; omega) (by have := HLY.out; omega) HZ.out W)
          clear CROT CLEFT CRIGHT SROT SLEFT SRIGHT c1 hsub hslx hsly hZ
          go_wp2_with (go_at_call 90; ((with_reducible refine (CR0.out _ HR.out).mono ?_); rintro e w2 ⟨rfl, r2, k2⟩; have R1 := Lib.hid r2; have K1 := Lib.hid (KW.out.trans k2); clear r2 k2; clear CR0))
          go_wp2_with (go_at_call 69; first | ((with_reducible refine (CL.out _ R1.out).mono ?_); rintro e w3 ⟨rfl, r3, k3⟩; have R2 := Lib.hid r3; have K2 := Lib.hid (K1.out.trans k3); clear r3 k3) | ((with_reducible refine (CR.out _ R2.out).mono ?_); rintro e w4 ⟨rfl, r4, k4⟩; have RE := Lib.hid r4; have K3 := Lib.hid (K2.out.trans k4); clear r4 k4))
          go_end0
          exact ⟨rfl, RE.out, K3.out⟩
        · have t1 : (S : Int) < (m : Int) := by have := HM.out; have := HB.out; have := HMID.out; have := HSS.out; have := HZ.out; omega
          have t1d : decide ((S : Int) < (m : Int)) = true := decide_eq_true t1
          have t2 : (m : Int) < (Z : Int) := by have := HM.out; have := HB.out; have := HMID.out; have := HSS.out; have := HZ.out; omega
          have t2d : decide ((m : Int) < (Z : Int)) = true := decide_eq_true t2
          have t3 : (a : Int) < (S : Int) := by have := HM.out; have := HB.out; have := HMID.out; have := HSS.out; have := HZ.out; omega
          have t3d : decide ((a : Int) < (S : Int)) = true := decide_eq_true t3
          have t4 : (S : Int) < (mid : Int) := by have := HM.out; have := HB.out; have := HMID.out; have := HSS.out; have := HZ.out; omega
          have t4d : decide ((S : Int) < (mid : Int)) = true := decide_eq_true t4
          have t5 : (mid : Int) < (Z : Int) := by have := HM.out; have := HB.out; have := HMID.out; have := HSS.out; have := HZ.out; omega
          have t5d : decide ((mid : Int) < (Z : Int)) = true := decide_eq_true t5
          have t6 : ¬ (Z : Int) < (b : Int) := by have := HM.out; have := HB.out; have := HMID.out; have := HSS.out; have := HZ.out; omega
          have t6d : decide ((Z : Int) < (b : Int)) = false := decide_eq_false t6
          have CR0 := Lib.hid (fun W => CROT.out s S Z HF.out (by have := HLX.out; omega) (by omega) HSS.out HZ.out W)
          have CL := Lib.hid (fun W => CLEFT.out s S HF.out (by omega) (by omega) HSS.out W)
          have SR := Lib.hid (fun W => SRIGHT.out s HF.out (by have := HLX.out; have := HLY.out; omega) W)
          clear CROT CLEFT CRIGHT SROT SLEFT SRIGHT c1 hsub hslx hsly hZ
          go_wp2_with (go_at_call 90; ((with_reducible refine (CR0.out _ HR.out).mono ?_); rintro e w2 ⟨rfl, r2, k2⟩; have R1 := Lib.hid r2; have K1 := Lib.hid (KW.out.trans k2); clear r2 k2; clear CR0))
          go_wp2_with (go_at_call 69; ((with_reducible refine (CL.out _ R1.out).mono ?_); rintro e w3 ⟨rfl, r3, k3⟩; have R2 := Lib.hid r3; have K2 := Lib.hid (K1.out.trans k3); clear r3 k3; clear CL))
          have RE := Lib.hid (SR.out _ R2.out)
          have K3 := K2
          go_end0
          exact ⟨rfl, RE.out, K3.out⟩
        · have t1 : (S : Int) < (m : Int) := by have := HM.out; have := HB.out; have := HMID.out; have := HSS.out; have := HZ.out; omega
          have t1d : decide ((S : Int) < (m : Int)) = true := decide_eq_true t1
          have t2 : (m : Int) < (Z : Int) := by have := HM.out; have := HB.out; have := HMID.out; have := HSS.out; have := HZ.out; omega
          have t2d : decide ((m : Int) < (Z : Int)) = true := decide_eq_true t2
          have t3 : ¬ (a : Int) < (S : Int) := by have := HM.out; have := HB.out; have := HMID.out; have := HSS.out; have := HZ.out; omega
          have t3d : decide ((a : Int) < (S : Int)) = false := decide_eq_false t3
          have t5 : (mid : Int) < (Z : Int) := by have := HM.out; have := HB.out; have := HMID.out; have := HSS.out; have := HZ.out; omega
          have t5d : decide ((mid : Int) < (Z : Int)) = true := decide_eq_true t5
          have t6 : (Z : Int) < (b : Int) := by have := HM.out; have := HB.out; have := HMID.out; have := HSS.out; have := HZ.out; omega
          have t6d : decide ((Z : Int) < (b : Int)) = true := decide_eq_true t6
          have CR0 := Lib.hid (fun W => CROT.out s S Z HF.out (by have := HLX.out; omega) (by omega) HSS.out HZ.out W)
          have SL0 := Lib.hid (fun W => SLEFT.out s HF.out (by omega) W)
          have CR := Lib.hid (fun W => CRIGHT.out s Z HF.out (by have := HLX.out; omega) (by have := HLY.out; omega) HZ.out W)
          clear CROT CLEFT CRIGHT SROT SLEFT SRIGHT c1 hsub hslx hsly hZ
          go_wp2_with (go_at_call 90; ((with_reducible refine (CR0.out _ HR.out).mono ?_); rintro e w2 ⟨rfl, r2, k2⟩; have R1 := Lib.hid r2; have K1 := Lib.hid (KW.out.trans k2); clear r2 k2; clear CR0))
          have R2 := Lib.hid (SL0.out _ R1.out)
          have K2 := K1
          go_wp2_with (go_at_call 69; ((with_reducible refine (CR.out _ R2.out).mono ?_); rintro e w4 ⟨rfl, r4, k4⟩; have RE := Lib.hid r4; have K3 := Lib.hid (K2.out.trans k4); clear r4 k4))
          go_end0
          exact ⟨rfl, RE.out, K3.out⟩
        · have t1 : (S : Int) < (m : Int) := by have := HM.out; have := HB.out; have := HMID.out; have := HSS.out; have := HZ.out; omega
          have t1d : decide ((S : Int) < (m : Int)) = true := decide_eq_true t1
          have t2 : (m : Int) < (Z : Int) := by have := HM.out; have := HB.out; have := HMID.out; have := HSS.out; have := HZ.out; omega
          have t2d : decide ((m : Int) < (Z : Int)) = true := decide_eq_true t2
          have t3 : ¬ (a : Int) < (S : Int) := by have := HM.out; have := HB.out; have := HMID.out; have := HSS.out; have := HZ.out; omega
          have t3d : decide ((a : Int) < (S : Int)) = false := decide_eq_false t3
          have t5 : (mid : Int) < (Z : Int) := by have := HM.out; have := HB.out; have := HMID.out; have := HSS.out; have := HZ.out; omega
          have t5d : decide ((mid : Int) < (Z : Int)) = true := decide_eq_true t5
          have t6 : ¬ (Z : Int) < (b : Int) := by have := HM.out; have := HB.out; have := HMID.out; have := HSS.out; have := HZ.out; omega
          have t6d : decide ((Z : Int) < (b : Int)) = false := decide_eq_false t6
          have CR0 := Lib.hid (fun W => CROT.out s S Z HF.out (by have := HLX.out; omega) (by omega) HSS.out HZ.out W)
          have SL0 := Lib.hid (fun W => SLEFT.out s HF.out (by omega) W)
          have SR := Lib.hid (fun W => SRIGHT.out s HF.out (by have := HLX.out; have := HLY.out; omega) W)
          clear CROT CLEFT CRIGHT SROT SLEFT SRIGHT c1 hsub hslx hsly hZ
          go_wp2_with (go_at_call 90; ((with_reducible refine (CR0.out _ HR.out).mono ?_); rintro e w2 ⟨rfl, r2, k2⟩; have R1 := Lib.hid r2; have K1 := Lib.hid (KW.out.trans k2); clear r2 k2; clear CR0))
          have R2 := Lib.hid (SL0.out _ R1.out)
          have K2 := K1
          have RE := Lib.hid (SR.out _ R2.out)
          have K3 := K2
          go_end0
          exact ⟨rfl, RE.out, K3.out⟩
        · have t1 : (S : Int) < (m : Int) := by have := HM.out; have := HB.out; have := HMID.out; have := HSS.out; have := HZ.out; omega
          have t1d : decide ((S : Int) < (m : Int)) = true := decide_eq_true t1
          have t2 : ¬ (m : Int) < (Z : Int) := by have := HM.out; have := HB.out; have := HMID.out; have := HSS.out; have := HZ.out; omega
          have t2d : decide ((m : Int) < (Z : Int)) = false := decide_eq_false t2
          have t3 : (a : Int) < (S : Int) := by have := HM.out; have := HB.out; have := HMID.out; have := HSS.out; have := HZ.out; omega
          have t3d : decide ((a : Int) < (S : Int)) = true := decide_eq_true t3
          have t4 : ¬ (S : Int) < (mid : Int) := by have := HM.out; have := HB.out; have := HMID.out; have := HSS.out; have := HZ.out; omega
          have t4d : decide ((S : Int) < (mid : Int)) = false := decide_eq_false t4
          have t5 : (mid : Int) < (Z : Int) := by have := HM.out; have := HB.out; have := HMID.out; have := HSS.out; have := HZ.out; omega
          have t5d : decide ((mid : Int) < (Z : Int)) = true := decide_eq_true t5
          have t6 : (Z : Int) < (b : Int) := by have := HM.out; have := HB.out; have := HMID.out; have := HSS.out; have := HZ.out; omega
          have t6d : decide ((Z : Int) < (b : Int)) = true := decide_eq_true t6
          have SR0 := Lib.hid (fun W => SROT.out s HF.out (by have := HLX.out; omega) W)
          have SL0 := Lib.hid (fun W => SLEFT.out s HF.out (by omega) W)
          have CR := Lib.hid (fun W => CRIGHT.out s Z HF.out (by have := HLX.out; omega) (by have := HLY.out; omega) HZ.out W)
          clear CROT CLEFT CRIGHT SROT SLEFT SRIGHT c1 hsub hslx hsly hZ
          have R1 := Lib.hid (SR0.out _ HR.out)
          have K1 := KW
          have R2 := Lib.hid (SL0.out _ R1.out)
          have K2 := K1
          go_wp2_with (go_at_call 69; ((with_reducible refine (CR.out _ R2.out).mono ?_); rintro e w4 ⟨rfl, r4, k4⟩; have RE := Lib.hid r4; have K3 := Lib.hid (K2.out.trans k4); clear r4 k4))
          go_end0
          exact ⟨rfl, RE.out, K3.out⟩
  · obtain ⟨S0, hS0⟩ : ∃ S, a = S := ⟨_, rfl⟩
    have HB0 : Hid (Bnd X Y h 0 lx) := Lib.hid (by have := BL.out (by omega); rw [hlx] at this; exact this)
    have q6 : ¬ (mid : Int) < (m : Int) := by omega
    have HS0 : Hid (a + 0 = a) := Lib.hid rfl
    have HT0 : Hid (a + lx = m) := HM
    have hst : a ≤ m := by omega
    clear hrow hh hh1 hh2 hmid hm hb hn hX hY uX uY hA hlx hly IH hL ha BG BL hN1 hN2 hd q2 q1 hgt hS0
    have q1 : ((m : Int) - (a : Int) == 1) = false := by have := HM.out; simp; omega
    have q2 : ((b : Int) - (m : Int) == 1) = false := by have := HB.out; simp; omega
    go_enter Tryz.func69, Tryz.ntmps69
    go_wp2
    go_loopw [20, 21] (fun sv tv wr => ∃ s t S T : Nat, sv = .int .i64 S ∧ tv = .int .i64 T ∧ Hid (a + s = S) ∧ Hid (a + t = T) ∧ S ≤ T ∧ T ≤ n ∧ Hid (Find X Y h 0 lx s t) ∧ Hid (Row wr g L) ∧ Hid (Kept w wr (· ≠ g))) (fun sv tv _ => (intOf tv).toNat - (intOf sv).toNat)
    case atStart => exact ⟨0, lx, a, m, rfl, rfl, HS0, HT0, hst, by omega, Lib.hid (Find.start HB0.out), HRW, Lib.hid (Kept.refl w _)⟩
    case round =>
      obtain ⟨s, t, S, T, rfl, rfl, HSS, HTT, hST, hTn, HFI, HR, KW⟩ := hrel
      by_cases hlt : S < T
      · have i1 : (S : Int) < (T : Int) := by omega
        have i1d : decide ((S : Int) < (T : Int)) = true := decide_eq_true i1
        obtain ⟨C, hC⟩ : ∃ C, (S + T) / 2 = C := ⟨_, rfl⟩
        have hCS : S ≤ C := by omega
        have hCT : C < T := by omega
        have hw1 : ((S : Int) + (T : Int)) / 2 = (C : Int) := by omega
        obtain ⟨c, hc⟩ : ∃ c, C - a = c := ⟨_, rfl⟩
        have hsc : s ≤ c := by have := HSS.out; omega
        have hct : c < t := by have := HTT.out; have := HSS.out; omega
        have hac : a + c = C := by have := HSS.out; omega
        have hth : t ≤ h := by have := HFI.out.le; have := HB0.out.h_; omega
        have htx : t ≤ lx := by have := HFI.out.le; have := HB0.out.x; have := HLX.out; omega
        have hcy : h - 1 - c < ly := by have := HFI.out.ge; have := HB0.out.y; have := HLY.out; omega
        obtain ⟨Q, hQ⟩ : ∃ Q, m + (h - 1 - c) = Q := ⟨_, rfl⟩
        have hwQ : IntKind.i64.wrap ((N2 : Int) - (C : Int)) = (Q : Int) := by
          have := HN2.out; have := HMID.out
          rw [IntWalk.i64_in _ (by omega)]; omega
        have hkc : C < n := by omega
        have hkq : Q < n := by have := HB.out; omega
        have k1 : (C : Int) < (n : Int) := by omega
        have k2 : (Q : Int) < (n : Int) := by omega
        have hx : X[c]? = some (X[c]'(by have := HLX.out; omega)) := List.getElem?_eq_getElem (by have := HLX.out; omega)
        have hy : Y[h - 1 - c]? = some (Y[h - 1 - c]'(by have := HLY.out; omega)) := List.getElem?_eq_getElem (by have := HLY.out; omega)
        have hxp := GET1.out c (by have := HLX.out; omega)
        have hxq := GET2.out (h - 1 - c) (by have := HLY.out; omega)
        rw [hac] at hxp
        rw [hQ] at hxq
        have FI := fit_iff HA.out hx hy
        generalize X[c]'(by have := HLX.out; omega) = x at *
        generalize Y[h - 1 - c]'(by have := HLY.out; omega) = y at *
        have HC := Lib.hid hac
        have HRO := HR
        obtain ⟨CL, hat, hbg⟩ := HR.out
        have CC := Lib.hid (fun W => CC0.out y.1 x.1 W)
        by_cases hl : hb y.1 < hb x.1
        · have hneg := (cmp_neg y.1 x.1).2 hl
          have HNX : Hid (Find X Y h 0 lx s c) := Lib.hid (HFI.out.left HB0.out HUX.out HUY.out hsc hct hx hy (fun f => (FI.1 f) hl))
          generalize Lib.compareBytes (hb y.1) (hb x.1) = r at *
          have n1 : decide (r < 0) = true := decide_eq_true hneg
          clear hx hy FI hl HFI hQ hc hC hac hsc hct hth htx hcy hkc hkq
          generalize x.1 = xp at *
          generalize y.1 = xq at *
          have az := fun y : Ext wr => row_cells14 (hat.then y.b) hbg hxp
          have a0 := fun y : Ext wr => (az y).1
          have a1 := fun y : Ext wr => (az y).2.1
          have a2 := fun y : Ext wr => (az y).2.2.1
          have a3 := fun y : Ext wr => (az y).2.2.2.1
          have a4 := fun y : Ext wr => (az y).2.2.2.2.1
          have a5 := fun y : Ext wr => (az y).2.2.2.2.2.1
          have a6 := fun y : Ext wr => (az y).2.2.2.2.2.2.1
          have a7 := fun y : Ext wr => (az y).2.2.2.2.2.2.2.1
          have a8 := fun y : Ext wr => (az y).2.2.2.2.2.2.2.2.1
          have a9 := fun y : Ext wr => (az y).2.2.2.2.2.2.2.2.2.1
          have a10 := fun y : Ext wr => (az y).2.2.2.2.2.2.2.2.2.2.1
          have a11 := fun y : Ext wr => (az y).2.2.2.2.2.2.2.2.2.2.2.1
          have a12 := fun y : Ext wr => (az y).2.2.2.2.2.2.2.2.2.2.2.2.1
          have a13 := fun y : Ext wr => (az y).2.2.2.2.2.2.2.2.2.2.2.2.2
          clear az
          have bz := fun y : Ext wr => row_cells14 (hat.then y.b) hbg hxq
          have b0 := fun y : Ext wr => (bz y).1
          have b1 := fun y : Ext wr => (bz y).2.1
          have b2 := fun y : Ext wr => (bz y).2.2.1
          have b3 := fun y : Ext wr => (bz y).2.2.2.1
          have b4 := fun y : Ext wr => (bz y).2.2.2.2.1
          have b5 := fun y : Ext wr => (bz y).2.2.2.2.2.1
          have b6 := fun y : Ext wr => (bz y).2.2.2.2.2.2.1
          have b7 := fun y : Ext wr => (bz y).2.2.2.2.2.2.2.1
          have b8 := fun y : Ext wr => (bz y).2.2.2.2.2.2.2.2.1
          have b9 := fun y : Ext wr => (bz y).2.2.2.2.2.2.2.2.2.1
          have b10 := fun y : Ext wr => (bz y).2.2.2.2.2.2.2.2.2.2.1
          have b11 := fun y : Ext wr => (bz y).2.2.2.2.2.2.2.2.2.2.2.1
          have b12 := fun y : Ext wr => (bz y).2.2.2.2.2.2.2.2.2.2.2.2.1
          have b13 := fun y : Ext wr => (bz y).2.2.2.2.2.2.2.2.2.2.2.2.2
          clear bz
          go_wp2_with fail
          refine wp_region_ext (by kernel_rfl) (by kernel_rfl) ?_
          repeat (go_big_quiet_step ((go_at_call 33; exact ext_below (CC.out _))))
          refine wpQuiet_nil ?_
          rintro _ ⟨y, rfl⟩
          clear a0 a1 a2 a3 a4 a5 a6 a7 a8 a9 a10 a11 a12 a13 b0 b1 b2 b3 b4 b5 b6 b7 b8 b9 b10 b11 b12 b13
          go_wp2
          go_roundw
          case rel => exact ⟨s, c, S, C, rfl, rfl, HSS, HC, hCS, by omega, HNX, Lib.hid (HRO.out.then y.b), Lib.hid (KW.out.then y.b)⟩
          case measure => simp [intOf]; omega
        · have hneg : ¬ Lib.compareBytes (hb y.1) (hb x.1) < 0 := fun k => hl ((cmp_neg y.1 x.1).1 k)
          have HNX : Hid (Find X Y h 0 lx (c + 1) t) := Lib.hid (HFI.out.right HB0.out HUX.out HUY.out hsc hct hx hy (FI.2 hl))
          generalize Lib.compareBytes (hb y.1) (hb x.1) = r at *
          have n1 : decide (r < 0) = false := decide_eq_false hneg
          clear hx hy FI hl HFI hQ hc hC hac hsc hct hth htx hcy hkc hkq
          generalize x.1 = xp at *
          generalize y.1 = xq at *
          have az := fun y : Ext wr => row_cells14 (hat.then y.b) hbg hxp
          have a0 := fun y : Ext wr => (az y).1
          have a1 := fun y : Ext wr => (az y).2.1
          have a2 := fun y : Ext wr => (az y).2.2.1
          have a3 := fun y : Ext wr => (az y).2.2.2.1
          have a4 := fun y : Ext wr => (az y).2.2.2.2.1
          have a5 := fun y : Ext wr => (az y).2.2.2.2.2.1
          have a6 := fun y : Ext wr => (az y).2.2.2.2.2.2.1
          have a7 := fun y : Ext wr => (az y).2.2.2.2.2.2.2.1
          have a8 := fun y : Ext wr => (az y).2.2.2.2.2.2.2.2.1
          have a9 := fun y : Ext wr => (az y).2.2.2.2.2.2.2.2.2.1
          have a10 := fun y : Ext wr => (az y).2.2.2.2.2.2.2.2.2.2.1
          have a11 := fun y : Ext wr => (az y).2.2.2.2.2.2.2.2.2.2.2.1
          have a12 := fun y : Ext wr => (az y).2.2.2.2.2.2.2.2.2.2.2.2.1
          have a13 := fun y : Ext wr => (az y).2.2.2.2.2.2.2.2.2.2.2.2.2
          clear az
          have bz := fun y : Ext wr => row_cells14 (hat.then y.b) hbg hxq
          have b0 := fun y : Ext wr => (bz y).1
          have b1 := fun y : Ext wr => (bz y).2.1
          have b2 := fun y : Ext wr => (bz y).2.2.1
          have b3 := fun y : Ext wr => (bz y).2.2.2.1
          have b4 := fun y : Ext wr => (bz y).2.2.2.2.1
          have b5 := fun y : Ext wr => (bz y).2.2.2.2.2.1
          have b6 := fun y : Ext wr => (bz y).2.2.2.2.2.2.1
          have b7 := fun y : Ext wr => (bz y).2.2.2.2.2.2.2.1
          have b8 := fun y : Ext wr => (bz y).2.2.2.2.2.2.2.2.1
          have b9 := fun y : Ext wr => (bz y).2.2.2.2.2.2.2.2.2.1
          have b10 := fun y : Ext wr => (bz y).2.2.2.2.2.2.2.2.2.2.1
          have b11 := fun y : Ext wr => (bz y).2.2.2.2.2.2.2.2.2.2.2.1
          have b12 := fun y : Ext wr => (bz y).2.2.2.2.2.2.2.2.2.2.2.2.1
          have b13 := fun y : Ext wr => (bz y).2.2.2.2.2.2.2.2.2.2.2.2.2
          clear bz
          go_wp2_with fail
          refine wp_region_ext (by kernel_rfl) (by kernel_rfl) ?_
          repeat (go_big_quiet_step ((go_at_call 33; exact ext_below (CC.out _))))
          refine wpQuiet_nil ?_
          rintro _ ⟨y, rfl⟩
          clear a0 a1 a2 a3 a4 a5 a6 a7 a8 a9 a10 a11 a12 a13 b0 b1 b2 b3 b4 b5 b6 b7 b8 b9 b10 b11 b12 b13
          go_wp2
          go_roundw
          case rel => exact ⟨c + 1, t, C + 1, T, by first | rfl | go_num, rfl, Lib.hid (by have := HC.out; omega), HTT, by omega, hTn, HNX, Lib.hid (HRO.out.then y.b), Lib.hid (KW.out.then y.b)⟩
          case measure => simp [intOf]; omega
      · have i1 : ¬ (S : Int) < (T : Int) := by omega
        have i1d : decide ((S : Int) < (T : Int)) = false := decide_eq_false i1
        have est : s = t := by have := HSS.out; have := HTT.out; omega
        have HF : Hid (Found X Y h s) := Lib.hid (by have f := HFI.out; rw [← est] at f; exact f.found HB0.out HUX.out HUY.out HA.out)
        obtain ⟨Z, hZ⟩ : ∃ Z, m + (h - s) = Z := ⟨_, rfl⟩
        have hsub : s ≤ h := HF.out.sh
        have hslx : s ≤ lx := by have := HF.out.sx; have := HLX.out; omega
        have hsly : h - s ≤ ly := by have := HF.out.hy; have := HLY.out; omega
        have hwZ : IntKind.i64.wrap ((N1 : Int) - (S : Int)) = (Z : Int) := by
          have := HN1.out; have := HMID.out; have := HSS.out
          rw [IntWalk.i64_in _ (by have := HB.out; omega)]; omega
        have HZ := Lib.hid hZ
        clear est HFI
        have hh0 : 0 < h := by have := HH1.out; have := HH2.out; omega
        have hcase : (s < lx ∧ s < h ∧ 0 < s ∧ h - s < ly) ∨ (s < lx ∧ s < h ∧ 0 < s ∧ ¬ h - s < ly) ∨ (s < lx ∧ s < h ∧ s = 0 ∧ h - s < ly) ∨ (s < lx ∧ s < h ∧ s = 0 ∧ ¬ h - s < ly) ∨ (s = lx ∧ s < h ∧ 0 < s) ∨ (s = lx ∧ s = h ∧ 0 < s) := by have := HM.out; have := HMID.out; omega
        clear hh0
        rcases hcase with c1 | c1 | c1 | c1 | c1 | c1
        · have t1 : (S : Int) < (m : Int) := by have := HM.out; have := HB.out; have := HMID.out; have := HSS.out; have := HZ.out; omega
          have t1d : decide ((S : Int) < (m : Int)) = true := decide_eq_true t1
          have t2 : (m : Int) < (Z : Int) := by have := HM.out; have := HB.out; have := HMID.out; have := HSS.out; have := HZ.out; omega
          have t2d : decide ((m : Int) < (Z : Int)) = true := decide_eq_true t2
          have t3 : (a : Int) < (S : Int) := by have := HM.out; have := HB.out; have := HMID.out; have := HSS.out; have := HZ.out; omega
          have t3d : decide ((a : Int) < (S : Int)) = true := decide_eq_true t3
          have t4 : (S : Int) < (mid : Int) := by have := HM.out; have := HB.out; have := HMID.out; have := HSS.out; have := HZ.out; omega
          have t4d : decide ((S : Int) < (mid : Int)) = true := decide_eq_true t4
          have t5 : (mid : Int) < (Z : Int) := by have := HM.out; have := HB.out; have := HMID.out; have := HSS.out; have := HZ.out; omega
          have t5d : decide ((mid : Int) < (Z : Int)) = true := decide_eq_true t5
          have t6 : (Z : Int) < (b : Int) := by have := HM.out; have := HB.out; have := HMID.out; have := HSS.out; have := HZ.out; omega
          have t6d : decide ((Z : Int) < (b : Int)) = true := decide_eq_true t6
          have CR0 := Lib.hid (fun W => CROT.out s S Z HF.out (by have := HLX.out; omega) (by omega) HSS.out HZ.out W)
          have CL := Lib.hid (fun W => CLEFT.out s S HF.out (by omega) (by omega) HSS.out W)
          have CR := Lib.hid (fun W => CRIGHT.out s Z HF.out (by have := HLX.out; omega) (by have := HLY.out; omega) HZ.out W)
          clear CROT CLEFT CRIGHT SROT SLEFT SRIGHT c1 hsub hslx hsly hZ
          go_wp2_with (go_at_call 90; ((with_reducible refine (CR0.out _ HR.out).mono ?_); rintro e w2 ⟨rfl, r2, k2⟩; have R1 := Lib.hid r2; have K1 := Lib.hid (KW.out.trans k2); clear r2 k2; clear CR0))
          go_wp2_with (go_at_call 69; first | ((with_reducible refine (CL.out _ R1.out).mono ?_); rintro e w3 ⟨rfl, r3, k3⟩; have R2 := Lib.hid r3; have K2 := Lib.hid (K1.out.trans k3); clear r3 k3) | ((with_reducible refine (CR.out _ R2.out).mono ?_); rintro e w4 ⟨rfl, r4, k4⟩; have RE := Lib.hid r4; have K3 := Lib.hid (K2.out.trans k4); clear r4 k4))
          go_end0
          exact ⟨rfl, RE.out, K3.out⟩
        · have t1 : (S : Int) < (m : Int) := by have := HM.out; have := HB.out; have := HMID.out; have := HSS.out; have := HZ.out; omega
          have t1d : decide ((S : Int) < (m : Int)) = true := decide_eq_true t1
          have t2 : (m : Int) < (Z : Int) := by have := HM.out; have := HB.out; have := HMID.out; have := HSS.out; have := HZ.out; omega
          have t2d : decide ((m : Int) < (Z : Int)) = true := decide_eq_true t2
          have t3 : (a : Int) < (S : Int) := by have := HM.out; have := HB.out; have := HMID.out; have := HSS.out; have := HZ.out; omega
          have t3d : decide ((a : Int) < (S : Int)) = true := decide_eq_true t3
          have t4 : (S : Int) < (mid : Int) := by have := HM.out; have := HB.out; have := HMID.out; have := HSS.out; have := HZ.out; omega
          have t4d : decide ((S : Int) < (mid : Int)) = true := decide_eq_true t4
          have t5 : (mid : Int) < (Z : Int) := by have := HM.out; have := HB.out; have := HMID.out; have := HSS.out; have := HZ.out; omega
          have t5d : decide ((mid : Int) < (Z : Int)) = true := decide_eq_true t5
          have t6 : ¬ (Z : Int) < (b : Int) := by have := HM.out; have := HB.out; have := HMID.out; have := HSS.out; have := HZ.out; omega
          have t6d : decide ((Z : Int) < (b : Int)) = false := decide_eq_false t6
          have CR0 := Lib.hid (fun W => CROT.out s S Z HF.out (by have := HLX.out; omega) (by omega) HSS.out HZ.out W)
          have CL := Lib.hid (fun W => CLEFT.out s S HF.out (by omega) (by omega) HSS.out W)
          have SR := Lib.hid (fun W => SRIGHT.out s HF.out (by have := HLX.out; have := HLY.out; omega) W)
          clear CROT CLEFT CRIGHT SROT SLEFT SRIGHT c1 hsub hslx hsly hZ
          go_wp2_with (go_at_call 90; ((with_reducible refine (CR0.out _ HR.out).mono ?_); rintro e w2 ⟨rfl, r2, k2⟩; have R1 := Lib.hid r2; have K1 := Lib.hid (KW.out.trans k2); clear r2 k2; clear CR0))
          go_wp2_with (go_at_call 69; ((with_reducible refine (CL.out _ R1.out).mono ?_); rintro e w3 ⟨rfl, r3, k3⟩; have R2 := Lib.hid r3; have K2 := Lib.hid (K1.out.trans k3); clear r3 k3; clear CL))
          have RE := Lib.hid (SR.out _ R2.out)
          have K3 := K2
          go_end0
          exact ⟨rfl, RE.out, K3.out⟩
        · have t1 : (S : Int) < (m : Int) := by have := HM.out; have := HB.out; have := HMID.out; have := HSS.out; have := HZ.out; omega
          have t1d : decide ((S : Int) < (m : Int)) = true := decide_eq_true t1
          have t2 : (m : Int) < (Z : Int) := by have := HM.out; have := HB.out; have := HMID.out; have := HSS.out; have := HZ.out; omega
          have t2d : decide ((m : Int) < (Z : Int)) = true := decide_eq_true t2
          have t3 : ¬ (a : Int) < (S : Int) := by have := HM.out; have := HB.out; have := HMID.out; have := HSS.out; have := HZ.out; omega
          have t3d : decide ((a : Int) < (S : Int)) = false := decide_eq_false t3
          have t5 : (mid : Int) < (Z : Int) := by have := HM.out; have := HB.out; have := HMID.out; have := HSS.out; have := HZ.out; omega
          have t5d : decide ((mid : Int) < (Z : Int)) = true := decide_eq_true t5
          have t6 : (Z : Int) < (b : Int) := by have := HM.out; have := HB.out; have := HMID.out; have := HSS.out; have := HZ.out; omega
          have t6d : decide ((Z : Int) < (b : Int)) = true := decide_eq_true t6
          have CR0 := Lib.hid (fun W => CROT.out s S Z HF.out (by have := HLX.out; omega) (by omega) HSS.out HZ.out W)
          have SL0 := Lib.hid (fun W => SLEFT.out s HF.out (by omega) W)
          have CR := Lib.hid (fun W => CRIGHT.out s Z HF.out (by have := HLX.out; omega) (by have := HLY.out; omega) HZ.out W)
          clear CROT CLEFT CRIGHT SROT SLEFT SRIGHT c1 hsub hslx hsly hZ
          go_wp2_with (go_at_call 90; ((with_reducible refine (CR0.out _ HR.out).mono ?_); rintro e w2 ⟨rfl, r2, k2⟩; have R1 := Lib.hid r2; have K1 := Lib.hid (KW.out.trans k2); clear r2 k2; clear CR0))
          have R2 := Lib.hid (SL0.out _ R1.out)
          have K2 := K1
          go_wp2_with (go_at_call 69; ((with_reducible refine (CR.out _ R2.out).mono ?_); rintro e w4 ⟨rfl, r4, k4⟩; have RE := Lib.hid r4; have K3 := Lib.hid (K2.out.trans k4); clear r4 k4))
          go_end0
          exact ⟨rfl, RE.out, K3.out⟩
        · have t1 : (S : Int) < (m : Int) := by have := HM.out; have := HB.out; have := HMID.out; have := HSS.out; have := HZ.out; omega
          have t1d : decide ((S : Int) < (m : Int)) = true := decide_eq_true t1
          have t2 : (m : Int) < (Z : Int) := by have := HM.out; have := HB.out; have := HMID.out; have := HSS.out; have := HZ.out; omega
          have t2d : decide ((m : Int) < (Z : Int)) = true := decide_eq_true t2
          have t3 : ¬ (a : Int) < (S : Int) := by have := HM.out; have := HB.out; have := HMID.out; have := HSS.out; have := HZ.out; omega
          have t3d : decide ((a : Int) < (S : Int)) = false := decide_eq_false t3
          have t5 : (mid : Int) < (Z : Int) := by have := HM.out; have := HB.out; have := HMID.out; have := HSS.out; have := HZ.out; omega
          have t5d : decide ((mid : Int) < (Z : Int)) = true := decide_eq_true t5
          have t6 : ¬ (Z : Int) < (b : Int) := by have := HM.out; have := HB.out; have := HMID.out; have := HSS.out; have := HZ.out; omega
          have t6d : decide ((Z : Int) < (b : Int)) = false := decide_eq_false t6
          have CR0 := Lib.hid (fun W => CROT.out s S Z HF.out (by have := HLX.out; omega) (by omega) HSS.out HZ.out W)
          have SL0 := Lib.hid (fun W => SLEFT.out s HF.out (by omega) W)
          have SR := Lib.hid (fun W => SRIGHT.out s HF.out (by have := HLX.out; have := HLY.out; omega) W)
          clear CROT CLEFT CRIGHT SROT SLEFT SRIGHT c1 hsub hslx hsly hZ
          go_wp2_with (go_at_call 90; ((with_reducible refine (CR0.out _ HR.out).mono ?_); rintro e w2 ⟨rfl, r2, k2⟩; have R1 := Lib.hid r2; have K1 := Lib.hid (KW.out.trans k2); clear r2 k2; clear CR0))
          have R2 := Lib.hid (SL0.out _ R1.out)
          have K2 := K1
          have RE := Lib.hid (SR.out _ R2.out)
          have K3 := K2
          go_end0
          exact ⟨rfl, RE.out, K3.out⟩
        · have t1 : ¬ (S : Int) < (m : Int) := by have := HM.out; have := HB.out; have := HMID.out; have := HSS.out; have := HZ.out; omega
          have t1d : decide ((S : Int) < (m : Int)) = false := decide_eq_false t1
          have t3 : (a : Int) < (S : Int) := by have := HM.out; have := HB.out; have := HMID.out; have := HSS.out; have := HZ.out; omega
          have t3d : decide ((a : Int) < (S : Int)) = true := decide_eq_true t3
          have t4 : (S : Int) < (mid : Int) := by have := HM.out; have := HB.out; have := HMID.out; have := HSS.out; have := HZ.out; omega
          have t4d : decide ((S : Int) < (mid : Int)) = true := decide_eq_true t4
          have t5 : ¬ (mid : Int) < (Z : Int) := by have := HM.out; have := HB.out; have := HMID.out; have := HSS.out; have := HZ.out; omega
          have t5d : decide ((mid : Int) < (Z : Int)) = false := decide_eq_false t5
          have SR0 := Lib.hid (fun W => SROT.out s HF.out (by have := HLX.out; omega) W)
          have CL := Lib.hid (fun W => CLEFT.out s S HF.out (by omega) (by omega) HSS.out W)
          have SR := Lib.hid (fun W => SRIGHT.out s HF.out (by have := HLX.out; have := HLY.out; omega) W)
          clear CROT CLEFT CRIGHT SROT SLEFT SRIGHT c1 hsub hslx hsly hZ
          have R1 := Lib.hid (SR0.out _ HR.out)
          have K1 := KW
          go_wp2_with (go_at_call 69; ((with_reducible refine (CL.out _ R1.out).mono ?_); rintro e w3 ⟨rfl, r3, k3⟩; have R2 := Lib.hid r3; have K2 := Lib.hid (K1.out.trans k3); clear r3 k3; clear CL))
          have RE := Lib.hid (SR.out _ R2.out)
          have K3 := K2
          go_end0
          exact ⟨rfl, RE.out, K3.out⟩
        · have t1 : ¬ (S : Int) < (m : Int) := by have := HM.out; have := HB.out; have := HMID.out; have := HSS.out; have := HZ.out; omega
          have t1d : decide ((S : Int) < (m : Int)) = false := decide_eq_false t1
          have t3 : (a : Int) < (S : Int) := by have := HM.out; have := HB.out; have := HMID.out; have := HSS.out; have := HZ.out; omega
          have t3d : decide ((a : Int) < (S : Int)) = true := decide_eq_true t3
          have t4 : ¬ (S : Int) < (mid : Int) := by have := HM.out; have := HB.out; have := HMID.out; have := HSS.out; have := HZ.out; omega
          have t4d : decide ((S : Int) < (mid : Int)) = false := decide_eq_false t4
          have t5 : ¬ (mid : Int) < (Z : Int) := by have := HM.out; have := HB.out; have := HMID.out; have := HSS.out; have := HZ.out; omega
          have t5d : decide ((mid : Int) < (Z : Int)) = false := decide_eq_false t5
          have SR0 := Lib.hid (fun W => SROT.out s HF.out (by have := HLX.out; omega) W)
          have SL0 := Lib.hid (fun W => SLEFT.out s HF.out (by omega) W)
          have SR := Lib.hid (fun W => SRIGHT.out s HF.out (by have := HLX.out; have := HLY.out; omega) W)
          clear CROT CLEFT CRIGHT SROT SLEFT SRIGHT c1 hsub hslx hsly hZ
          have R1 := Lib.hid (SR0.out _ HR.out)
          have K1 := KW
          have R2 := Lib.hid (SL0.out _ R1.out)
          have K2 := K1
          have RE := Lib.hid (SR.out _ R2.out)
          have K3 := K2
          go_wp2
          go_end0
          exact ⟨rfl, RE.out, K3.out⟩
end Go.Proofs.YtncahpbjbgcnbaaGreatDoor.KX
