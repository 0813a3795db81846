/-
  WALK: the document's GetObject.
-/
import Derived.Test.YtejjlmdaalfenaaPGet
namespace Go.Proofs.Ytejjlmdaalfenaa.PX
open Go.RowKit HL
open IX (ptr El cellsK cellsK_at cellsK_len OwnK RdK Kept)
open YX (numB rdU rdB rdT rdS rdI addW intN natI rest told WAt WPt Wr RAt vS vU vI Lim)
set_option maxRecDepth 100000
set_option linter.unusedVariables false
set_option linter.unusedSimpArgs false

theorem lim_of {s t : Option Bs} (h : Lim s) (hn : s = none → t = none) (hl : ∀ m l, s = some m → t = some l → l.length ≤ m.length) : Lim t := by
  cases t with
  | none => simp [Lim]
  | some l =>
    cases s with
    | none => cases hn rfl
    | some m => have := hl m l rfl rfl; have h : m.length ≤ 1000000 := h; show l.length ≤ 1000000; omega
theorem lim_rest {α : Type} {f : Bs → Option (α × Bs)} (hf : ∀ l x r, f l = some (x, r) → r.length ≤ l.length) {s : Option Bs} (h : Lim s) : Lim (rest f s) :=
  lim_of h (fun e => by rw [e]; rfl) (fun m l e e2 => by rw [e] at e2; exact rest_len hf e2)
theorem lim_get {m : Nat} {o : Ob} {s : Option Bs} (h : Lim s) (k : Nat) : Lim (getTo m (o, s) k).2 :=
  lim_of h (fun e => by rw [e]; exact getTo_none m o k) (fun b l e e2 => by rw [e] at e2; exact getTo_len m o b k l e2)
set_option maxHeartbeats 16000000 in
theorem rGetObject_any (Br : Nat) (s : Option Bs) (w : World) (hs : Lim s) (hr : RAt w Br s) :
    Calls Try.prog 17 #[ptr Br] w fun e w' => Rdr w Br (ob (getO s).1) (getO s).2 e w' := by
  have hBr := hr.lt
  have b1 := bAl (Below.refl w.heap.size w) (.cells (obCells zeroOb) 42)
  have HR0 := Lib.hid (hr.below b1)
  have B1 := Lib.hid b1
  have MR := Lib.hid (AtC.new w (obCells zeroOb) 42)
  have CB := Lib.hid (fun (W : World) (s : Option Bs) (_ : Lim s) (q : RAt W Br s) => YX.rByte_any Br s W q)
  have CT := Lib.hid (fun (W : World) (s : Option Bs) (l : Lim s) (q : RAt W Br s) => YX.rText_any Br s l W q)
  have CI := Lib.hid (fun (W : World) (s : Option Bs) (l : Lim s) (q : RAt W Br s) => YX.rInt_any Br s l W q)
  have CU := Lib.hid (fun (W : World) (s : Option Bs) (l : Lim s) (q : RAt W Br s) => YX.rUint_any Br s l W q)
  have l1 : Lim (s1 s) := lim_rest lenB hs
  have l2 : Lim (s2 s) := lim_rest lenS l1
  have l3 : Lim (s3 s) := lim_rest lenU l2
  clear hr b1
  go_enter Try.func17, Try.ntmps17
  go_wp2_with (first
    | (go_at_call 51; ((refine (CB.out _ s hs HR0.out).mono ?_); rintro e w1 ⟨rfl, r1, k1⟩; have HR1 : Hid (RAt _ Br (s1 s)) := Lib.hid (r1.below (bAl (Below.refl _ _) (.cells (obCells ⟨⟨#[]⟩, told 0 rdB s, ⟨#[]⟩, 0, ⟨#[]⟩, 0, 0, 0, false, false, 0, 0, 0, 0⟩) 42))); have M1 := Lib.hid (AtC.new w1 (obCells ⟨⟨#[]⟩, told 0 rdB s, ⟨#[]⟩, 0, ⟨#[]⟩, 0, 0, 0, false, false, 0, 0, 0, 0⟩) 42); have K1 := Lib.hid ((Kept.trans (.of_below B1.out) k1).al (.cells (obCells ⟨⟨#[]⟩, told 0 rdB s, ⟨#[]⟩, 0, ⟨#[]⟩, 0, 0, 0, false, false, 0, 0, 0, 0⟩) 42)); have MR1 := Lib.hid ((MR.out.kept k1 (show w.heap.size ≠ Br by omega)).al (.cells (obCells ⟨⟨#[]⟩, told 0 rdB s, ⟨#[]⟩, 0, ⟨#[]⟩, 0, 0, 0, false, false, 0, 0, 0, 0⟩) 42)); have hB1 : w.heap.size < w1.heap.size := (by have := k1.size; simp at this; omega); clear r1 k1))
    | (go_at_call 52; ((refine (CT.out _ (s1 s) l1 HR1.out).mono ?_); rintro e w2 ⟨rfl, r2, k2⟩; have m2 := M1.out.kept k2 (show w1.heap.size ≠ Br by omega); have m2c := m2.c; have m2f := m2.f; have m2l := m2.lt; have N2 := Lib.hid (m2.set (i := 0) (by simp) (vS (told ([] : Bs) rdS (s1 s)))); have HR2 : Hid (RAt _ Br (s2 s)) := Lib.hid (r2.other (B2 := w1.heap.size) ((Kept.refl _ _).set (B := w1.heap.size) (i := 0) (fun _ q => q rfl) (vS (told ([] : Bs) rdS (s1 s)))) (by omega)); have K2 := Lib.hid ((K1.out.trans k2).set (B := w1.heap.size) (i := 0) (fun q => absurd q (by omega)) (vS (told ([] : Bs) rdS (s1 s)))); have MR2 := Lib.hid ((MR1.out.kept k2 (show w.heap.size ≠ Br by omega)).store (p := ⟨w1.heap.size, 0, none⟩) (by show w1.heap.size ≠ w.heap.size; omega) (vS (told ([] : Bs) rdS (s1 s)))); clear r2 k2))
    | (go_at_call 53; ((refine (CU.out _ (s2 s) l2 HR2.out).mono ?_); rintro e w3 ⟨rfl, r3, k3⟩; have m3 := N2.out.kept k3 (show w1.heap.size ≠ Br by omega); have N3 : Hid (AtC w3 w1.heap.size (obCells (ob0 (told 0 rdB s) (told [] rdS (s1 s))))) := Lib.hid m3; have HR3 : Hid (RAt w3 Br (s3 s)) := Lib.hid r3; have K3 := Lib.hid (K2.out.trans k3); have MR3 := Lib.hid (MR2.out.kept k3 (show w.heap.size ≠ Br by omega)); clear r3 k3 m3)))
  have hm : told 0 rdU (s2 s) < 18446744073709551616 := YX.told_lt _
  have HG : Hid (getTo (told 0 rdU (s2 s)) (ob0 (told 0 rdB s) (told [] rdS (s1 s)), s3 s) 12 = getO s) := Lib.hid rfl
  have HLM : Hid (∀ k, Lim (getTo (told 0 rdU (s2 s)) (ob0 (told 0 rdB s) (told [] rdS (s1 s)), s3 s) k).2) := Lib.hid (fun k => lim_get l3 k)
  have HR6 : Hid (RAt w3 Br (getTo (told 0 rdU (s2 s)) (ob0 (told 0 rdB s) (told [] rdS (s1 s)), s3 s) 0).2) := HR3
  have N6 : Hid (AtC w3 w1.heap.size (obCells (getTo (told 0 rdU (s2 s)) (ob0 (told 0 rdB s) (told [] rdS (s1 s)), s3 s) 0).1)) := N3
  clear HR0 MR CU HR1 M1 K1 MR1 m2 m2c m2f m2l N2 HR2 K2 MR2 N3 HR3 l1 l2 l3 hs
  generalize told 0 rdU (s2 s) = m at *
  generalize hp : (ob0 (told 0 rdB s) (told [] rdS (s1 s)), s3 s) = p at *
  clear hp
  generalize w1.heap.size = Bo at *
  have hne : Bo ≠ Br := by omega
  go_loopw [5, 6] (fun bit i wr => ∃ k : Nat, i = .int .i64 k ∧ bit = .int .u64 ((2 : Int) ^ k) ∧ k ≤ 12 ∧ Hid (RAt wr Br (getTo m p k).2) ∧ Hid (AtC wr Bo (obCells (getTo m p k).1)) ∧ Kept w3 wr (fun j => j ≠ Br ∧ j ≠ Bo)) (fun _ i _ => 12 - (intOf i).toNat)
  case atStart => exact ⟨0, rfl, rfl, by omega, HR6, N6, Kept.refl _ _⟩
  case round =>
    obtain ⟨k, rfl, rfl, hk, HRr, HNr, k7⟩ := hrel
    have K7 := Lib.hid k7
    by_cases hlt : k < 12
    · have i1 : (k : Int) < 12 := by omega
      have HN := Lib.hid (getTo_succ m p k)
      have h2k : 2 ^ k ≤ 2048 := Nat.pow_le_pow_right (by decide) (show k ≤ 11 by omega)
      obtain ⟨c, hc⟩ : ∃ c : Nat, m &&& 2 ^ k = c := ⟨_, rfl⟩
      have hand : bits .and .u64 (m : Int) ((2 : Int) ^ k) = (c : Int) := by rw [show ((2 : Int) ^ k) = ((2 ^ k : Nat) : Int) by simp, u64_and_nat m (2 ^ k) hm (by omega), hc]
      have hsh : IntKind.u64.wrap ((2 : Int) ^ k * 2) = (2 : Int) ^ (k + 1) := by
        rw [show ((2 : Int) ^ k * 2) = ((2 ^ k * 2 : Nat) : Int) by simp, YX.wU (by omega), show ((2 : Int) ^ (k + 1)) = ((2 ^ (k + 1) : Nat) : Int) by simp, Nat.pow_succ]
      have hbit := and_pow m k
      rw [hc] at hbit
      clear hc k7
      cases hb : m.testBit k with
      | false =>
        have hc0 : c = 0 := hbit.2 hb
        subst hc0
        have HS : Hid (getTo m p (k + 1) = getTo m p k) := Lib.hid (by rw [HN.out]; unfold stepF; rw [hb]; rfl)
        clear hbit hb
        go_wp2
        go_roundw
        case rel => exact ⟨k + 1, by go_num, rfl, by omega, Lib.hid (by rw [HS.out]; exact HRr.out), Lib.hid (by rw [HS.out]; exact HNr.out), K7.out⟩
        case measure => simp [intOf]; omega
      | true =>
        have hc0 : ¬ (c : Int) = 0 := fun q => by
          have q : c = 0 := by omega
          rw [hbit.1 q] at hb; cases hb
        have HS : Hid (getTo m p (k + 1) = (setF (getTo m p k).1 k (rdV k (getTo m p k).2).1, (rdV k (getTo m p k).2).2)) := Lib.hid (by rw [HN.out]; unfold stepF; rw [hb]; rfl)
        clear hbit hb HN
        have h12 : k = 0 ∨ k = 1 ∨ k = 2 ∨ k = 3 ∨ k = 4 ∨ k = 5 ∨ k = 6 ∨ k = 7 ∨ k = 8 ∨ k = 9 ∨ k = 10 ∨ k = 11 := by omega
        rcases h12 with rfl | rfl | rfl | rfl | rfl | rfl | rfl | rfl | rfl | rfl | rfl | rfl
        · have hS : Hid (getTo m p (0 + 1) = (setF (getTo m p 0).1 0 (rdV 0 (getTo m p 0).2).1, (rdV 0 (getTo m p 0).2).2)) := Lib.hid HS.out
          have hA : Hid (AtC wr Bo (obCells (getTo m p 0).1)) := HNr
          have hLm := HLM.out 0
          have hE := cells_set (getTo m p 0).1 (i := 0) (by decide) (getTo m p 0).2
          obtain ⟨ok, hok⟩ : ∃ ok, (getTo m p 0).1 = ok := ⟨_, rfl⟩
          obtain ⟨sk, hsk⟩ : ∃ sk, (getTo m p 0).2 = sk := ⟨_, rfl⟩
          rw [hok, hsk] at hS
          rw [hok] at hA
          rw [hok, hsk] at hE
          rw [hsk] at hLm
          have hR : Hid (RAt wr Br sk) := by rw [← hsk]; exact HRr
          have HE := Lib.hid hE
          clear HNr HRr hok hsk hE HS
          have ac := hA.out.c
          have af := hA.out.f
          have al := hA.out.lt
          have hand : bits .and .u64 (m : Int) (1 : Int) = (c : Int) := hand
          have hsh : IntKind.u64.wrap (2 : Int) = (2 : Int) := hsh
          go_wp2_with (go_at_call 52; ((refine (CT.out _ sk hLm hR.out).mono ?_); rintro e w8 ⟨rfl, r8, k8⟩; have m8 := hA.out.kept k8 hne; have m8c := m8.c; have m8f := m8.f; have m8l := m8.lt; have HR8 := Lib.hid r8; have K8 := Lib.hid (K7.out.trans (k8.weak (fun j q => q.1))); clear r8 k8))
          go_roundw
          case rel => exact ⟨1, by go_num, rfl, by decide, Lib.hid (by rw [hS.out]; exact HR8.out.other (B2 := Bo) ((Kept.refl _ _).set (B := Bo) (i := 2) (fun _ q => q rfl) (vS (told ([] : Bs) rdS sk))) (by omega)), Lib.hid (by rw [hS.out, ← HE.out]; exact m8.set (i := 2) (by simp) (vS (told ([] : Bs) rdS sk))), K8.out.set (B := Bo) (i := 2) (fun _ q => q.2 rfl) (vS (told ([] : Bs) rdS sk))⟩
          case measure => simp [intOf]
        · have hS : Hid (getTo m p (1 + 1) = (setF (getTo m p 1).1 1 (rdV 1 (getTo m p 1).2).1, (rdV 1 (getTo m p 1).2).2)) := Lib.hid HS.out
          have hA : Hid (AtC wr Bo (obCells (getTo m p 1).1)) := HNr
          have hLm := HLM.out 1
          have hE := cells_set (getTo m p 1).1 (i := 1) (by decide) (getTo m p 1).2
          obtain ⟨ok, hok⟩ : ∃ ok, (getTo m p 1).1 = ok := ⟨_, rfl⟩
          obtain ⟨sk, hsk⟩ : ∃ sk, (getTo m p 1).2 = sk := ⟨_, rfl⟩
          rw [hok, hsk] at hS
          rw [hok] at hA
          rw [hok, hsk] at hE
          rw [hsk] at hLm
          have hR : Hid (RAt wr Br sk) := by rw [← hsk]; exact HRr
          have HE := Lib.hid hE
          clear HNr HRr hok hsk hE HS
          have ac := hA.out.c
          have af := hA.out.f
          have al := hA.out.lt
          have hand : bits .and .u64 (m : Int) (2 : Int) = (c : Int) := hand
          have hsh : IntKind.u64.wrap (4 : Int) = (4 : Int) := hsh
          go_wp2_with (go_at_call 51; ((refine (CB.out _ sk hLm hR.out).mono ?_); rintro e w8 ⟨rfl, r8, k8⟩; have m8 := hA.out.kept k8 hne; have m8c := m8.c; have m8f := m8.f; have m8l := m8.lt; have HR8 := Lib.hid r8; have K8 := Lib.hid (K7.out.trans (k8.weak (fun j q => q.1))); clear r8 k8))
          go_roundw
          case rel => exact ⟨2, by go_num, rfl, by decide, Lib.hid (by rw [hS.out]; exact HR8.out.other (B2 := Bo) ((Kept.refl _ _).set (B := Bo) (i := 3) (fun _ q => q rfl) (.int .u8 ((told (0 : Nat) rdB sk : Nat) : Int))) (by omega)), Lib.hid (by rw [hS.out, ← HE.out]; exact m8.set (i := 3) (by simp) (.int .u8 ((told (0 : Nat) rdB sk : Nat) : Int))), K8.out.set (B := Bo) (i := 3) (fun _ q => q.2 rfl) (.int .u8 ((told (0 : Nat) rdB sk : Nat) : Int))⟩
          case measure => simp [intOf]
        · have hS : Hid (getTo m p (2 + 1) = (setF (getTo m p 2).1 2 (rdV 2 (getTo m p 2).2).1, (rdV 2 (getTo m p 2).2).2)) := Lib.hid HS.out
          have hA : Hid (AtC wr Bo (obCells (getTo m p 2).1)) := HNr
          have hLm := HLM.out 2
          have hE := cells_set (getTo m p 2).1 (i := 2) (by decide) (getTo m p 2).2
          obtain ⟨ok, hok⟩ : ∃ ok, (getTo m p 2).1 = ok := ⟨_, rfl⟩
          obtain ⟨sk, hsk⟩ : ∃ sk, (getTo m p 2).2 = sk := ⟨_, rfl⟩
          rw [hok, hsk] at hS
          rw [hok] at hA
          rw [hok, hsk] at hE
          rw [hsk] at hLm
          have hR : Hid (RAt wr Br sk) := by rw [← hsk]; exact HRr
          have HE := Lib.hid hE
          clear HNr HRr hok hsk hE HS
          have ac := hA.out.c
          have af := hA.out.f
          have al := hA.out.lt
          have hand : bits .and .u64 (m : Int) (4 : Int) = (c : Int) := hand
          have hsh : IntKind.u64.wrap (8 : Int) = (8 : Int) := hsh
          go_wp2_with (go_at_call 52; ((refine (CT.out _ sk hLm hR.out).mono ?_); rintro e w8 ⟨rfl, r8, k8⟩; have m8 := hA.out.kept k8 hne; have m8c := m8.c; have m8f := m8.f; have m8l := m8.lt; have HR8 := Lib.hid r8; have K8 := Lib.hid (K7.out.trans (k8.weak (fun j q => q.1))); clear r8 k8))
          go_roundw
          case rel => exact ⟨3, by go_num, rfl, by decide, Lib.hid (by rw [hS.out]; exact HR8.out.other (B2 := Bo) ((Kept.refl _ _).set (B := Bo) (i := 4) (fun _ q => q rfl) (vS (told ([] : Bs) rdS sk))) (by omega)), Lib.hid (by rw [hS.out, ← HE.out]; exact m8.set (i := 4) (by simp) (vS (told ([] : Bs) rdS sk))), K8.out.set (B := Bo) (i := 4) (fun _ q => q.2 rfl) (vS (told ([] : Bs) rdS sk))⟩
          case measure => simp [intOf]
        · have hS : Hid (getTo m p (3 + 1) = (setF (getTo m p 3).1 3 (rdV 3 (getTo m p 3).2).1, (rdV 3 (getTo m p 3).2).2)) := Lib.hid HS.out
          have hA : Hid (AtC wr Bo (obCells (getTo m p 3).1)) := HNr
          have hLm := HLM.out 3
          have hE := cells_set (getTo m p 3).1 (i := 3) (by decide) (getTo m p 3).2
          obtain ⟨ok, hok⟩ : ∃ ok, (getTo m p 3).1 = ok := ⟨_, rfl⟩
          obtain ⟨sk, hsk⟩ : ∃ sk, (getTo m p 3).2 = sk := ⟨_, rfl⟩
          rw [hok, hsk] at hS
          rw [hok] at hA
          rw [hok, hsk] at hE
          rw [hsk] at hLm
          have hR : Hid (RAt wr Br sk) := by rw [← hsk]; exact HRr
          have HE := Lib.hid hE
          clear HNr HRr hok hsk hE HS
          have ac := hA.out.c
          have af := hA.out.f
          have al := hA.out.lt
          have hand : bits .and .u64 (m : Int) (8 : Int) = (c : Int) := hand
          have hsh : IntKind.u64.wrap (16 : Int) = (16 : Int) := hsh
          go_wp2_with (go_at_call 54; ((refine (CI.out _ sk hLm hR.out).mono ?_); rintro e w8 ⟨rfl, r8, k8⟩; have m8 := hA.out.kept k8 hne; have m8c := m8.c; have m8f := m8.f; have m8l := m8.lt; have HR8 := Lib.hid r8; have K8 := Lib.hid (K7.out.trans (k8.weak (fun j q => q.1))); clear r8 k8))
          go_roundw
          case rel => exact ⟨4, by go_num, rfl, by decide, Lib.hid (by rw [hS.out]; exact HR8.out.other (B2 := Bo) ((Kept.refl _ _).set (B := Bo) (i := 5) (fun _ q => q rfl) (vI (told (0 : Int) rdI sk))) (by omega)), Lib.hid (by rw [hS.out, ← HE.out]; exact m8.set (i := 5) (by simp) (vI (told (0 : Int) rdI sk))), K8.out.set (B := Bo) (i := 5) (fun _ q => q.2 rfl) (vI (told (0 : Int) rdI sk))⟩
          case measure => simp [intOf]
        · have hS : Hid (getTo m p (4 + 1) = (setF (getTo m p 4).1 4 (rdV 4 (getTo m p 4).2).1, (rdV 4 (getTo m p 4).2).2)) := Lib.hid HS.out
          have hA : Hid (AtC wr Bo (obCells (getTo m p 4).1)) := HNr
          have hLm := HLM.out 4
          have hE := cells_set (getTo m p 4).1 (i := 4) (by decide) (getTo m p 4).2
          obtain ⟨ok, hok⟩ : ∃ ok, (getTo m p 4).1 = ok := ⟨_, rfl⟩
          obtain ⟨sk, hsk⟩ : ∃ sk, (getTo m p 4).2 = sk := ⟨_, rfl⟩
          rw [hok, hsk] at hS
          rw [hok] at hA
          rw [hok, hsk] at hE
          rw [hsk] at hLm
          have hR : Hid (RAt wr Br sk) := by rw [← hsk]; exact HRr
          have HE := Lib.hid hE
          clear HNr HRr hok hsk hE HS
          have ac := hA.out.c
          have af := hA.out.f
          have al := hA.out.lt
          have hand : bits .and .u64 (m : Int) (16 : Int) = (c : Int) := hand
          have hsh : IntKind.u64.wrap (32 : Int) = (32 : Int) := hsh
          go_wp2_with (go_at_call 54; ((refine (CI.out _ sk hLm hR.out).mono ?_); rintro e w8 ⟨rfl, r8, k8⟩; have m8 := hA.out.kept k8 hne; have m8c := m8.c; have m8f := m8.f; have m8l := m8.lt; have HR8 := Lib.hid r8; have K8 := Lib.hid (K7.out.trans (k8.weak (fun j q => q.1))); clear r8 k8))
          go_roundw
          case rel => exact ⟨5, by go_num, rfl, by decide, Lib.hid (by rw [hS.out]; exact HR8.out.other (B2 := Bo) ((Kept.refl _ _).set (B := Bo) (i := 6) (fun _ q => q rfl) (vI (told (0 : Int) rdI sk))) (by omega)), Lib.hid (by rw [hS.out, ← HE.out]; exact m8.set (i := 6) (by simp) (vI (told (0 : Int) rdI sk))), K8.out.set (B := Bo) (i := 6) (fun _ q => q.2 rfl) (vI (told (0 : Int) rdI sk))⟩
          case measure => simp [intOf]
        · have hS : Hid (getTo m p (5 + 1) = (setF (getTo m p 5).1 5 (rdV 5 (getTo m p 5).2).1, (rdV 5 (getTo m p 5).2).2)) := Lib.hid HS.out
          have hA : Hid (AtC wr Bo (obCells (getTo m p 5).1)) := HNr
          have hLm := HLM.out 5
          have hE := cells_set (getTo m p 5).1 (i := 5) (by decide) (getTo m p 5).2
          obtain ⟨ok, hok⟩ : ∃ ok, (getTo m p 5).1 = ok := ⟨_, rfl⟩
          obtain ⟨sk, hsk⟩ : ∃ sk, (getTo m p 5).2 = sk := ⟨_, rfl⟩
          rw [hok, hsk] at hS
          rw [hok] at hA
          rw [hok, hsk] at hE
          rw [hsk] at hLm
          have hR : Hid (RAt wr Br sk) := by rw [← hsk]; exact HRr
          have HE := Lib.hid hE
          clear HNr HRr hok hsk hE HS
          have ac := hA.out.c
          have af := hA.out.f
          have al := hA.out.lt
          have hand : bits .and .u64 (m : Int) (32 : Int) = (c : Int) := hand
          have hsh : IntKind.u64.wrap (64 : Int) = (64 : Int) := hsh
          go_wp2_with (go_at_call 51; ((refine (CB.out _ sk hLm hR.out).mono ?_); rintro e w8 ⟨rfl, r8, k8⟩; have m8 := hA.out.kept k8 hne; have m8c := m8.c; have m8f := m8.f; have m8l := m8.lt; have HR8 := Lib.hid r8; have K8 := Lib.hid (K7.out.trans (k8.weak (fun j q => q.1))); clear r8 k8))
          go_roundw
          case rel => exact ⟨6, by go_num, rfl, by decide, Lib.hid (by rw [hS.out]; exact HR8.out.other (B2 := Bo) ((Kept.refl _ _).set (B := Bo) (i := 7) (fun _ q => q rfl) (.int .u8 ((told (0 : Nat) rdB sk : Nat) : Int))) (by omega)), Lib.hid (by rw [hS.out, ← HE.out]; exact m8.set (i := 7) (by simp) (.int .u8 ((told (0 : Nat) rdB sk : Nat) : Int))), K8.out.set (B := Bo) (i := 7) (fun _ q => q.2 rfl) (.int .u8 ((told (0 : Nat) rdB sk : Nat) : Int))⟩
          case measure => simp [intOf]
        · have hS : Hid (getTo m p (6 + 1) = (setF (getTo m p 6).1 6 (rdV 6 (getTo m p 6).2).1, (rdV 6 (getTo m p 6).2).2)) := Lib.hid HS.out
          have hA : Hid (AtC wr Bo (obCells (getTo m p 6).1)) := HNr
          have hLm := HLM.out 6
          have hE := cells_set (getTo m p 6).1 (i := 6) (by decide) (getTo m p 6).2
          obtain ⟨ok, hok⟩ : ∃ ok, (getTo m p 6).1 = ok := ⟨_, rfl⟩
          obtain ⟨sk, hsk⟩ : ∃ sk, (getTo m p 6).2 = sk := ⟨_, rfl⟩
          rw [hok, hsk] at hS
          rw [hok] at hA
          rw [hok, hsk] at hE
          rw [hsk] at hLm
          have hR : Hid (RAt wr Br sk) := by rw [← hsk]; exact HRr
          have HE := Lib.hid hE
          clear HNr HRr hok hsk hE HS
          have ac := hA.out.c
          have af := hA.out.f
          have al := hA.out.lt
          have hand : bits .and .u64 (m : Int) (64 : Int) = (c : Int) := hand
          have hsh : IntKind.u64.wrap (128 : Int) = (128 : Int) := hsh
          go_wp2
          go_roundw
          case rel => exact ⟨7, by go_num, rfl, by decide, Lib.hid (by rw [hS.out]; exact hR.out.other (B2 := Bo) ((Kept.refl _ _).set (B := Bo) (i := 8) (fun _ q => q rfl) (.bool true)) (by omega)), Lib.hid (by rw [hS.out, ← HE.out]; exact hA.out.set (i := 8) (by simp) (.bool true)), K7.out.set (B := Bo) (i := 8) (fun _ q => q.2 rfl) (.bool true)⟩
          case measure => simp [intOf]
        · have hS : Hid (getTo m p (7 + 1) = (setF (getTo m p 7).1 7 (rdV 7 (getTo m p 7).2).1, (rdV 7 (getTo m p 7).2).2)) := Lib.hid HS.out
          have hA : Hid (AtC wr Bo (obCells (getTo m p 7).1)) := HNr
          have hLm := HLM.out 7
          have hE := cells_set (getTo m p 7).1 (i := 7) (by decide) (getTo m p 7).2
          obtain ⟨ok, hok⟩ : ∃ ok, (getTo m p 7).1 = ok := ⟨_, rfl⟩
          obtain ⟨sk, hsk⟩ : ∃ sk, (getTo m p 7).2 = sk := ⟨_, rfl⟩
          rw [hok, hsk] at hS
          rw [hok] at hA
          rw [hok, hsk] at hE
          rw [hsk] at hLm
          have hR : Hid (RAt wr Br sk) := by rw [← hsk]; exact HRr
          have HE := Lib.hid hE
          clear HNr HRr hok hsk hE HS
          have ac := hA.out.c
          have af := hA.out.f
          have al := hA.out.lt
          have hand : bits .and .u64 (m : Int) (128 : Int) = (c : Int) := hand
          have hsh : IntKind.u64.wrap (256 : Int) = (256 : Int) := hsh
          go_wp2
          go_roundw
          case rel => exact ⟨8, by go_num, rfl, by decide, Lib.hid (by rw [hS.out]; exact hR.out.other (B2 := Bo) ((Kept.refl _ _).set (B := Bo) (i := 9) (fun _ q => q rfl) (.bool true)) (by omega)), Lib.hid (by rw [hS.out, ← HE.out]; exact hA.out.set (i := 9) (by simp) (.bool true)), K7.out.set (B := Bo) (i := 9) (fun _ q => q.2 rfl) (.bool true)⟩
          case measure => simp [intOf]
        · have hS : Hid (getTo m p (8 + 1) = (setF (getTo m p 8).1 8 (rdV 8 (getTo m p 8).2).1, (rdV 8 (getTo m p 8).2).2)) := Lib.hid HS.out
          have hA : Hid (AtC wr Bo (obCells (getTo m p 8).1)) := HNr
          have hLm := HLM.out 8
          have hE := cells_set (getTo m p 8).1 (i := 8) (by decide) (getTo m p 8).2
          obtain ⟨ok, hok⟩ : ∃ ok, (getTo m p 8).1 = ok := ⟨_, rfl⟩
          obtain ⟨sk, hsk⟩ : ∃ sk, (getTo m p 8).2 = sk := ⟨_, rfl⟩
          rw [hok, hsk] at hS
          rw [hok] at hA
          rw [hok, hsk] at hE
          rw [hsk] at hLm
          have hR : Hid (RAt wr Br sk) := by rw [← hsk]; exact HRr
          have HE := Lib.hid hE
          clear HNr HRr hok hsk hE HS
          have ac := hA.out.c
          have af := hA.out.f
          have al := hA.out.lt
          have hand : bits .and .u64 (m : Int) (256 : Int) = (c : Int) := hand
          have hsh : IntKind.u64.wrap (512 : Int) = (512 : Int) := hsh
          go_wp2_with (go_at_call 54; ((refine (CI.out _ sk hLm hR.out).mono ?_); rintro e w8 ⟨rfl, r8, k8⟩; have m8 := hA.out.kept k8 hne; have m8c := m8.c; have m8f := m8.f; have m8l := m8.lt; have HR8 := Lib.hid r8; have K8 := Lib.hid (K7.out.trans (k8.weak (fun j q => q.1))); clear r8 k8))
          go_roundw
          case rel => exact ⟨9, by go_num, rfl, by decide, Lib.hid (by rw [hS.out]; exact HR8.out.other (B2 := Bo) ((Kept.refl _ _).set (B := Bo) (i := 10) (fun _ q => q rfl) (vI (told (0 : Int) rdI sk))) (by omega)), Lib.hid (by rw [hS.out, ← HE.out]; exact m8.set (i := 10) (by simp) (vI (told (0 : Int) rdI sk))), K8.out.set (B := Bo) (i := 10) (fun _ q => q.2 rfl) (vI (told (0 : Int) rdI sk))⟩
          case measure => simp [intOf]
        · have hS : Hid (getTo m p (9 + 1) = (setF (getTo m p 9).1 9 (rdV 9 (getTo m p 9).2).1, (rdV 9 (getTo m p 9).2).2)) := Lib.hid HS.out
          have hA : Hid (AtC wr Bo (obCells (getTo m p 9).1)) := HNr
          have hLm := HLM.out 9
          have hE := cells_set (getTo m p 9).1 (i := 9) (by decide) (getTo m p 9).2
          obtain ⟨ok, hok⟩ : ∃ ok, (getTo m p 9).1 = ok := ⟨_, rfl⟩
          obtain ⟨sk, hsk⟩ : ∃ sk, (getTo m p 9).2 = sk := ⟨_, rfl⟩
          rw [hok, hsk] at hS
          rw [hok] at hA
          rw [hok, hsk] at hE
          rw [hsk] at hLm
          have hR : Hid (RAt wr Br sk) := by rw [← hsk]; exact HRr
          have HE := Lib.hid hE
          clear HNr HRr hok hsk hE HS
          have ac := hA.out.c
          have af := hA.out.f
          have al := hA.out.lt
          have hand : bits .and .u64 (m : Int) (512 : Int) = (c : Int) := hand
          have hsh : IntKind.u64.wrap (1024 : Int) = (1024 : Int) := hsh
          go_wp2_with (go_at_call 54; ((refine (CI.out _ sk hLm hR.out).mono ?_); rintro e w8 ⟨rfl, r8, k8⟩; have m8 := hA.out.kept k8 hne; have m8c := m8.c; have m8f := m8.f; have m8l := m8.lt; have HR8 := Lib.hid r8; have K8 := Lib.hid (K7.out.trans (k8.weak (fun j q => q.1))); clear r8 k8))
          go_roundw
          case rel => exact ⟨10, by go_num, rfl, by decide, Lib.hid (by rw [hS.out]; exact HR8.out.other (B2 := Bo) ((Kept.refl _ _).set (B := Bo) (i := 11) (fun _ q => q rfl) (vI (told (0 : Int) rdI sk))) (by omega)), Lib.hid (by rw [hS.out, ← HE.out]; exact m8.set (i := 11) (by simp) (vI (told (0 : Int) rdI sk))), K8.out.set (B := Bo) (i := 11) (fun _ q => q.2 rfl) (vI (told (0 : Int) rdI sk))⟩
          case measure => simp [intOf]
        · have hS : Hid (getTo m p (10 + 1) = (setF (getTo m p 10).1 10 (rdV 10 (getTo m p 10).2).1, (rdV 10 (getTo m p 10).2).2)) := Lib.hid HS.out
          have hA : Hid (AtC wr Bo (obCells (getTo m p 10).1)) := HNr
          have hLm := HLM.out 10
          have hE := cells_set (getTo m p 10).1 (i := 10) (by decide) (getTo m p 10).2
          obtain ⟨ok, hok⟩ : ∃ ok, (getTo m p 10).1 = ok := ⟨_, rfl⟩
          obtain ⟨sk, hsk⟩ : ∃ sk, (getTo m p 10).2 = sk := ⟨_, rfl⟩
          rw [hok, hsk] at hS
          rw [hok] at hA
          rw [hok, hsk] at hE
          rw [hsk] at hLm
          have hR : Hid (RAt wr Br sk) := by rw [← hsk]; exact HRr
          have HE := Lib.hid hE
          clear HNr HRr hok hsk hE HS
          have ac := hA.out.c
          have af := hA.out.f
          have al := hA.out.lt
          have hand : bits .and .u64 (m : Int) (1024 : Int) = (c : Int) := hand
          have hsh : IntKind.u64.wrap (2048 : Int) = (2048 : Int) := hsh
          go_wp2_with (go_at_call 54; ((refine (CI.out _ sk hLm hR.out).mono ?_); rintro e w8 ⟨rfl, r8, k8⟩; have m8 := hA.out.kept k8 hne; have m8c := m8.c; have m8f := m8.f; have m8l := m8.lt; have HR8 := Lib.hid r8; have K8 := Lib.hid (K7.out.trans (k8.weak (fun j q => q.1))); clear r8 k8))
          go_roundw
          case rel => exact ⟨11, by go_num, rfl, by decide, Lib.hid (by rw [hS.out]; exact HR8.out.other (B2 := Bo) ((Kept.refl _ _).set (B := Bo) (i := 12) (fun _ q => q rfl) (vI (told (0 : Int) rdI sk))) (by omega)), Lib.hid (by rw [hS.out, ← HE.out]; exact m8.set (i := 12) (by simp) (vI (told (0 : Int) rdI sk))), K8.out.set (B := Bo) (i := 12) (fun _ q => q.2 rfl) (vI (told (0 : Int) rdI sk))⟩
          case measure => simp [intOf]
        · have hS : Hid (getTo m p (11 + 1) = (setF (getTo m p 11).1 11 (rdV 11 (getTo m p 11).2).1, (rdV 11 (getTo m p 11).2).2)) := Lib.hid HS.out
          have hA : Hid (AtC wr Bo (obCells (getTo m p 11).1)) := HNr
          have hLm := HLM.out 11
          have hE := cells_set (getTo m p 11).1 (i := 11) (by decide) (getTo m p 11).2
          obtain ⟨ok, hok⟩ : ∃ ok, (getTo m p 11).1 = ok := ⟨_, rfl⟩
          obtain ⟨sk, hsk⟩ : ∃ sk, (getTo m p 11).2 = sk := ⟨_, rfl⟩
          rw [hok, hsk] at hS
          rw [hok] at hA
          rw [hok, hsk] at hE
          rw [hsk] at hLm
          have hR : Hid (RAt wr Br sk) := by rw [← hsk]; exact HRr
          have HE := Lib.hid hE
          clear HNr HRr hok hsk hE HS
          have ac := hA.out.c
          have af := hA.out.f
          have al := hA.out.lt
          have hand : bits .and .u64 (m : Int) (2048 : Int) = (c : Int) := hand
          have hsh : IntKind.u64.wrap (4096 : Int) = (4096 : Int) := hsh
          go_wp2_with (go_at_call 51; ((refine (CB.out _ sk hLm hR.out).mono ?_); rintro e w8 ⟨rfl, r8, k8⟩; have m8 := hA.out.kept k8 hne; have m8c := m8.c; have m8f := m8.f; have m8l := m8.lt; have HR8 := Lib.hid r8; have K8 := Lib.hid (K7.out.trans (k8.weak (fun j q => q.1))); clear r8 k8))
          go_roundw
          case rel => exact ⟨12, by go_num, rfl, by decide, Lib.hid (by rw [hS.out]; exact HR8.out.other (B2 := Bo) ((Kept.refl _ _).set (B := Bo) (i := 13) (fun _ q => q rfl) (.int .u8 ((told (0 : Nat) rdB sk : Nat) : Int))) (by omega)), Lib.hid (by rw [hS.out, ← HE.out]; exact m8.set (i := 13) (by simp) (.int .u8 ((told (0 : Nat) rdB sk : Nat) : Int))), K8.out.set (B := Bo) (i := 13) (fun _ q => q.2 rfl) (.int .u8 ((told (0 : Nat) rdB sk : Nat) : Int))⟩
          case measure => simp [intOf]
    · obtain rfl : k = 12 := by omega
      have i1 : ¬ ((12 : Nat) : Int) < 12 := by omega
      rw [HG.out] at HRr HNr
      obtain ⟨q, hq⟩ : ∃ q, getO s = q := ⟨_, rfl⟩
      rw [hq] at HRr HNr
      have HQ := Lib.hid hq
      clear hq HG
      have mc := HNr.out.c
      have mR := MR3.out.kept (P := fun j => j ≠ Br ∧ j ≠ Bo) k7 ⟨by omega, by omega⟩
      have mRc := mR.c
      have mRf := mR.f
      have mRl := mR.lt
      go_wp2
      have hKw : Kept w wr (· ≠ Br) := K3.out.trans' K7.out (fun i hi h => ⟨h, by omega⟩)
      refine ret_ob (o := q.1) rfl rfl rfl (AtC.fill mR rfl _ _ _ _ _ _ _ _ _ _ _ _ _ _) ⟨by rw [HQ.out], ?_, ?_⟩
      · rw [HQ.out]
        refine RAt.other (B2 := w.heap.size) HRr.out ?_ hBr
        exact kFill (Kept.refl _ _) (fun _ h => h rfl) _ _ _ _ _ _ _ _ _ _ _ _ _ _
      · exact kFill hKw (fun h => absurd h (by omega)) _ _ _ _ _ _ _ _ _ _ _ _ _ _
end Go.Proofs.Ytejjlmdaalfenaa.PX
