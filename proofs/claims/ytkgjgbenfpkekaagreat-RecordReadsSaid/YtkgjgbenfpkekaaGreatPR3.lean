/-
  WALK: the document's GetObject.
-/
import Derived.Test.YtkgjgbenfpkekaaGreatPGet
import Derived.Test.YtkgjgbenfpkekaaGreatPGetEn
namespace Go.Proofs.YtkgjgbenfpkekaaGreat.PX
open Go.RowKit HL
open IX (ptr El cellsK cellsK_at cellsK_len OwnK RdK Kept)
open YX (numB rdU rdB rdT rdS rdI addW intN natI rest told WAt WPt Wr RAt vS vU vI Lim)
set_option maxRecDepth 100000
set_option linter.unusedVariables false
set_option linter.unusedSimpArgs false

theorem lim_of {s t : Option Bs} (h : Lim s) (hn : s = none → t = none) (hl : ∀ m l, s = some m → t = some l → l.length ≤ m.length) : Lim t := by
  cases t with
  | none => simp [Lim]
  | some l =>
    cases s with
    | none => cases hn rfl
    | some m => have := hl m l rfl rfl; have h : m.length ≤ 1000000 := h; show l.length ≤ 1000000; omega
theorem lim_rest {α : Type} {f : Bs → Option (α × Bs)} (hf : ∀ l x r, f l = some (x, r) → r.length ≤ l.length) {s : Option Bs} (h : Lim s) : Lim (rest f s) :=
  lim_of h (fun e => by rw [e]; rfl) (fun m l e e2 => by rw [e] at e2; exact rest_len hf e2)
theorem lim_get {m : Nat} {o : Ob} {s : Option Bs} (h : Lim s) (k : Nat) : Lim (getTo m (o, s) k).2 :=
  lim_of h (fun e => by rw [e]; exact getTo_none m o k) (fun b l e e2 => by rw [e] at e2; exact getTo_len m o b k l e2)
set_option maxHeartbeats 16000000 in
theorem rGetObject_any (Br : Nat) (s : Option Bs) (w : World) (hs : Lim s) (hr : RAt w Br s) :
    Calls Tryz.prog 41 #[ptr Br] w fun e w' => Rdr w Br (ob (getO s).1) (getO s).2 e w' := by
  have hBr := hr.lt
  have b1 := bAl (Below.refl w.heap.size w) (.cells (obCells zeroOb) 45)
  have HR0 := Lib.hid (hr.below b1)
  have B1 := Lib.hid b1
  have MR := Lib.hid (AtC.new w (obCells zeroOb) 45)
  have CB := Lib.hid (fun (W : World) (s : Option Bs) (_ : Lim s) (q : RAt W Br s) => YX.rByte_any Br s W q)
  have CT := Lib.hid (fun (W : World) (s : Option Bs) (l : Lim s) (q : RAt W Br s) => YX.rText_any Br s l W q)
  have CI := Lib.hid (fun (W : World) (s : Option Bs) (l : Lim s) (q : RAt W Br s) => YX.rInt_any Br s l W q)
  have CU := Lib.hid (fun (W : World) (s : Option Bs) (l : Lim s) (q : RAt W Br s) => YX.rUint_any Br s l W q)
  have l1 : Lim (s1 s) := lim_rest lenB hs
  have l2 : Lim (s2 s) := lim_rest lenS l1
  have l3 : Lim (s3 s) := lim_rest lenU l2
  clear hr b1
  go_enter Tryz.func41, Tryz.ntmps41
  go_wp2_with (first
    | (go_at_call 75; ((refine (CB.out _ s hs HR0.out).mono ?_); rintro e w1 ⟨rfl, r1, k1⟩; have HR1 : Hid (RAt _ Br (s1 s)) := Lib.hid (r1.below (bAl (Below.refl _ _) (.cells (obCells ⟨⟨#[]⟩, told 0 rdB s, ⟨#[]⟩, 0, ⟨#[]⟩, 0, 0, 0, false, false, 0, 0, 0, 0⟩) 45))); have M1 := Lib.hid (AtC.new w1 (obCells ⟨⟨#[]⟩, told 0 rdB s, ⟨#[]⟩, 0, ⟨#[]⟩, 0, 0, 0, false, false, 0, 0, 0, 0⟩) 45); have K1 := Lib.hid ((Kept.trans (.of_below B1.out) k1).al (.cells (obCells ⟨⟨#[]⟩, told 0 rdB s, ⟨#[]⟩, 0, ⟨#[]⟩, 0, 0, 0, false, false, 0, 0, 0, 0⟩) 45)); have MR1 := Lib.hid ((MR.out.kept k1 (show w.heap.size ≠ Br by omega)).al (.cells (obCells ⟨⟨#[]⟩, told 0 rdB s, ⟨#[]⟩, 0, ⟨#[]⟩, 0, 0, 0, false, false, 0, 0, 0, 0⟩) 45)); have hB1 : w.heap.size < w1.heap.size := (by have := k1.size; simp at this; omega); clear r1 k1))
    | (go_at_call 76; ((refine (CT.out _ (s1 s) l1 HR1.out).mono ?_); rintro e w2 ⟨rfl, r2, k2⟩; have m2 := M1.out.kept k2 (show w1.heap.size ≠ Br by omega); have m2c := m2.c; have m2f := m2.f; have m2l := m2.lt; have N2 := Lib.hid (m2.set (i := 0) (by simp) (vS (told ([] : Bs) rdS (s1 s)))); have HR2 : Hid (RAt _ Br (s2 s)) := Lib.hid (r2.other (B2 := w1.heap.size) ((Kept.refl _ _).set (B := w1.heap.size) (i := 0) (fun _ q => q rfl) (vS (told ([] : Bs) rdS (s1 s)))) (by omega)); have K2 := Lib.hid ((K1.out.trans k2).set (B := w1.heap.size) (i := 0) (fun q => absurd q (by omega)) (vS (told ([] : Bs) rdS (s1 s)))); have MR2 := Lib.hid ((MR1.out.kept k2 (show w.heap.size ≠ Br by omega)).store (p := ⟨w1.heap.size, 0, none⟩) (by show w1.heap.size ≠ w.heap.size; omega) (vS (told ([] : Bs) rdS (s1 s)))); clear r2 k2))
    | (go_at_call 40; ((refine (CU.out _ (s2 s) l2 HR2.out).mono ?_); rintro e w3 ⟨rfl, r3, k3⟩; have m3 := N2.out.kept k3 (show w1.heap.size ≠ Br by omega); have N3 : Hid (AtC w3 w1.heap.size (obCells (ob0 (told 0 rdB s) (told [] rdS (s1 s))))) := Lib.hid m3; have HR3 : Hid (RAt w3 Br (s3 s)) := Lib.hid r3; have K3 := Lib.hid (K2.out.trans k3); have MR3 := Lib.hid (MR2.out.kept k3 (show w.heap.size ≠ Br by omega)); clear r3 k3 m3)))
  have hm : told 0 rdU (s2 s) < 18446744073709551616 := YX.told_lt _
  have HG : Hid (getTo (told 0 rdU (s2 s)) (ob0 (told 0 rdB s) (told [] rdS (s1 s)), s3 s) 12 = getO s) := Lib.hid rfl
  have HLM : Hid (∀ k, Lim (getTo (told 0 rdU (s2 s)) (ob0 (told 0 rdB s) (told [] rdS (s1 s)), s3 s) k).2) := Lib.hid (fun k => lim_get l3 k)
  have HR6 : Hid (RAt w3 Br (getTo (told 0 rdU (s2 s)) (ob0 (told 0 rdB s) (told [] rdS (s1 s)), s3 s) 0).2) := HR3
  have N6 : Hid (AtC w3 w1.heap.size (obCells (getTo (told 0 rdU (s2 s)) (ob0 (told 0 rdB s) (told [] rdS (s1 s)), s3 s) 0).1)) := N3
  clear HR0 MR CU HR1 M1 K1 MR1 m2 m2c m2f m2l N2 HR2 K2 MR2 N3 HR3 l1 l2 l3 hs
  generalize told 0 rdU (s2 s) = m at *
  generalize hp : (ob0 (told 0 rdB s) (told [] rdS (s1 s)), s3 s) = p at *
  clear hp
  generalize w1.heap.size = Bo at *
  have hne : Bo ≠ Br := by omega
  go_loopw [5, 6] (fun bit i wr => ∃ k : Nat, i = .int .i64 k ∧ bit = .int .u64 ((2 : Int) ^ k) ∧ k ≤ 12 ∧ Hid (RAt wr Br (getTo m p k).2) ∧ Hid (AtC wr Bo (obCells (getTo m p k).1)) ∧ Kept w3 wr (fun j => j ≠ Br ∧ j ≠ Bo)) (fun _ i _ => 12 - (intOf i).toNat)
  case atStart => exact ⟨0, rfl, rfl, by omega, HR6, N6, Kept.refl _ _⟩
  case round =>
    obtain ⟨k, rfl, rfl, hk, HRr, HNr, k7⟩ := hrel
    have K7 := Lib.hid k7
    by_cases hlt : k < 12
    · have i1 : (k : Int) < 12 := by omega
      have HN := Lib.hid (getTo_succ m p k)
      have h2k : 2 ^ k ≤ 2048 := Nat.pow_le_pow_right (by decide) (show k ≤ 11 by omega)
      obtain ⟨c, hc⟩ : ∃ c : Nat, m &&& 2 ^ k = c := ⟨_, rfl⟩
      have hand : bits .and .u64 (m : Int) ((2 : Int) ^ k) = (c : Int) := by rw [show ((2 : Int) ^ k) = ((2 ^ k : Nat) : Int) by simp, u64_and_nat m (2 ^ k) hm (by omega), hc]
      have hsh : IntKind.u64.wrap ((2 : Int) ^ k * 2) = (2 : Int) ^ (k + 1) := by
        rw [show ((2 : Int) ^ k * 2) = ((2 ^ k * 2 : Nat) : Int) by simp, YX.wU (by omega), show ((2 : Int) ^ (k + 1)) = ((2 ^ (k + 1) : Nat) : Int) by simp, Nat.pow_succ]
      have hbit := and_pow m k
      rw [hc] at hbit
      clear hc k7
      cases hb : m.testBit k with
      | false =>
        have hc0 : c = 0 := hbit.2 hb
        subst hc0
        have HS : Hid (getTo m p (k + 1) = getTo m p k) := Lib.hid (by rw [HN.out]; unfold stepF; rw [hb]; rfl)
        clear hbit hb
        go_wp2
        go_roundw
        case rel => exact ⟨k + 1, by go_num, rfl, by omega, Lib.hid (by rw [HS.out]; exact HRr.out), Lib.hid (by rw [HS.out]; exact HNr.out), K7.out⟩
        case measure => simp [intOf]; omega
      | true =>
        have hc0 : ¬ (c : Int) = 0 := fun q => by
          have q : c = 0 := by omega
          rw [hbit.1 q] at hb; cases hb
        have HS : Hid (getTo m p (k + 1) = (setF (getTo m p k).1 k (rdV k (getTo m p k).2).1, (rdV k (getTo m p k).2).2)) := Lib.hid (by rw [HN.out]; unfold stepF; rw [hb]; rfl)
        clear hbit hb HN
        have h12 : k = 0 ∨ k = 1 ∨ k = 2 ∨ k = 3 ∨ k = 4 ∨ k = 5 ∨ k = 6 ∨ k = 7 ∨ k = 8 ∨ k = 9 ∨ k = 10 ∨ k = 11 := by omega
        rcases h12 with rfl | rfl | rfl | rfl | rfl | rfl | rfl | rfl | rfl | rfl | rfl | rfl
        · have hS : Hid (getTo m p (0 + 1) = (setF (getTo m p 0).1 0 (rdV 0 (getTo m p 0).2).1, (rdV 0 (getTo m p 0).2).2)) := Lib.hid HS.out
          have hA : Hid (AtC wr Bo (obCells (getTo m p 0).1)) := HNr
          have hLm := HLM.out 0
          have hE := cells_set (getTo m p 0).1 (i := 0) (by decide) (getTo m p 0).2
          obtain ⟨ok, hok⟩ : ∃ ok, (getTo m p 0).1 = ok := ⟨_, rfl⟩
          obtain ⟨sk, hsk⟩ : ∃ sk, (getTo m p 0).2 = sk := ⟨_, rfl⟩
          rw [hok, hsk] at hS
          rw [hok] at hA
          rw [hok, hsk] at hE
          rw [hsk] at hLm
          have hR : Hid (RAt wr Br sk) := by rw [← hsk]; exact HRr
          have HE := Lib.hid hE
          clear HNr HRr hok hsk hE HS
          have ac := hA.out.c
          have af := hA.out.f
          have al := hA.out.lt
          have hand : bits .and .u64 (m : Int) (1 : Int) = (c : Int) := hand
          have hsh : IntKind.u64.wrap (2 : Int) = (2 : Int) := hsh
          go_wp2_with (go_at_call 76; ((refine (CT.out _ sk hLm hR.out).mono ?_); rintro e w8 ⟨rfl, r8, k8⟩; have m8 := hA.out.kept k8 hne; have m8c := m8.c; have m8f := m8.f; have m8l := m8.lt; have HR8 := Lib.hid r8; have K8 := Lib.hid (K7.out.trans (k8.weak (fun j q => q.1))); clear r8 k8))
          go_roundw
          case rel => exact ⟨1, by go_num, rfl, by decide, Lib.hid (by rw [hS.out]; exact HR8.out.other (B2 := Bo) ((Kept.refl _ _).set (B := Bo) (i := 2) (fun _ q => q rfl) (vS (told ([] : Bs) rdS sk))) (by omega)), Lib.hid (by rw [hS.out, ← HE.out]; exact m8.set (i := 2) (by simp) (vS (told ([] : Bs) rdS sk))), K8.out.set (B := Bo) (i := 2) (fun _ q => q.2 rfl) (vS (told ([] : Bs) rdS sk))⟩
          case measure => simp [intOf]
        · have hS : Hid (getTo m p (1 + 1) = (setF (getTo m p 1).1 1 (rdV 1 (getTo m p 1).2).1, (rdV 1 (getTo m p 1).2).2)) := Lib.hid HS.out
          have hA : Hid (AtC wr Bo (obCells (getTo m p 1).1)) := HNr
          have hLm := HLM.out 1
          have hE := cells_set (getTo m p 1).1 (i := 1) (by decide) (getTo m p 1).2
          obtain ⟨ok, hok⟩ : ∃ ok, (getTo m p 1).1 = ok := ⟨_, rfl⟩
          obtain ⟨sk, hsk⟩ : ∃ sk, (getTo m p 1).2 = sk := ⟨_, rfl⟩
          rw [hok, hsk] at hS
          rw [hok] at hA
          rw [hok, hsk] at hE
          rw [hsk] at hLm
          have hR : Hid (RAt wr Br sk) := by rw [← hsk]; exact HRr
          have HE := Lib.hid hE
          clear HNr HRr hok hsk hE HS
          have ac := hA.out.c
          have af := hA.out.f
          have al := hA.out.lt
          have hand : bits .and .u64 (m : Int) (2 : Int) = (c : Int) := hand
          have hsh : IntKind.u64.wrap (4 : Int) = (4 : Int) := hsh
          go_wp2_with (go_at_call 75; ((refine (CB.out _ sk hLm hR.out).mono ?_); rintro e w8 ⟨rfl, r8, k8⟩; have m8 := hA.out.kept k8 hne; have m8c := m8.c; have m8f := m8.f; have m8l := m8.lt; have HR8 := Lib.hid r8; have K8 := Lib.hid (K7.out.trans (k8.weak (fun j q => q.1))); clear r8 k8))
          go_roundw
          case rel => exact ⟨2, by go_num, rfl, by decide, Lib.hid (by rw [hS.out]; exact HR8.out.other (B2 := Bo) ((Kept.refl _ _).set (B := Bo) (i := 3) (fun _ q => q rfl) (.int .u8 ((told (0 : Nat) rdB sk : Nat) : Int))) (by omega)), Lib.hid (by rw [hS.out, ← HE.out]; exact m8.set (i := 3) (by simp) (.int .u8 ((told (0 : Nat) rdB sk : Nat) : Int))), K8.out.set (B := Bo) (i := 3) (fun _ q => q.2 rfl) (.int .u8 ((told (0 : Nat) rdB sk : Nat) : Int))⟩
          case measure => simp [intOf]
        · have hS : Hid (getTo m p (2 + 1) = (setF (getTo m p 2).1 2 (rdV 2 (getTo m p 2).2).1, (rdV 2 (getTo m p 2).2).2)) := Lib.hid HS.out
          have hA : Hid (AtC wr Bo (obCells (getTo m p 2).1)) := HNr
          have hLm := HLM.out 2
          have hE := cells_set (getTo m p 2).1 (i := 2) (by decide) (getTo m p 2).2
          obtain ⟨ok, hok⟩ : ∃ ok, (getTo m p 2).1 = ok := ⟨_, rfl⟩
          obtain ⟨sk, hsk⟩ : ∃ sk, (getTo m p 2).2 = sk := ⟨_, rfl⟩
          rw [hok, hsk] at hS
          rw [hok] at hA
          rw [hok, hsk] at hE
          rw [hsk] at hLm
          have hR : Hid (RAt wr Br sk) := by rw [← hsk]; exact HRr
          have HE := Lib.hid hE
          clear HNr HRr hok hsk hE HS
          have ac := hA.out.c
          have af := hA.out.f
          have al := hA.out.lt
          have hand : bits .and .u64 (m : Int) (4 : Int) = (c : Int) := hand
          have hsh : IntKind.u64.wrap (8 : Int) = (8 : Int) := hsh
          go_wp2_with (go_at_call 76; ((refine (CT.out _ sk hLm hR.out).mono ?_); rintro e w8 ⟨rfl, r8, k8⟩; have m8 := hA.out.kept k8 hne; have m8c := m8.c; have m8f := m8.f; have m8l := m8.lt; have HR8 := Lib.hid r8; have K8 := Lib.hid (K7.out.trans (k8.weak (fun j q => q.1))); clear r8 k8))
          go_roundw
          case rel => exact ⟨3, by go_num, rfl, by decide, Lib.hid (by rw [hS.out]; exact HR8.out.other (B2 := Bo) ((Kept.refl _ _).set (B := Bo) (i := 4) (fun _ q => q rfl) (vS (told ([] : Bs) rdS sk))) (by omega)), Lib.hid (by rw [hS.out, ← HE.out]; exact m8.set (i := 4) (by simp) (vS (told ([] : Bs) rdS sk))), K8.out.set (B := Bo) (i := 4) (fun _ q => q.2 rfl) (vS (told ([] : Bs) rdS sk))⟩
          case measure => simp [intOf]
        · have hS : Hid (getTo m p (3 + 1) = (setF (getTo m p 3).1 3 (rdV 3 (getTo m p 3).2).1, (rdV 3 (getTo m p 3).2).2)) := Lib.hid HS.out
          have hA : Hid (AtC wr Bo (obCells (getTo m p 3).1)) := HNr
          have hLm := HLM.out 3
          have hE := cells_set (getTo m p 3).1 (i := 3) (by decide) (getTo m p 3).2
          obtain ⟨ok, hok⟩ : ∃ ok, (getTo m p 3).1 = ok := ⟨_, rfl⟩
          obtain ⟨sk, hsk⟩ : ∃ sk, (getTo m p 3).2 = sk := ⟨_, rfl⟩
          rw [hok, hsk] at hS
          rw [hok] at hA
          rw [hok, hsk] at hE
          rw [hsk] at hLm
          have hR : Hid (RAt wr Br sk) := by rw [← hsk]; exact HRr
          have HE := Lib.hid hE
          clear HNr HRr hok hsk hE HS
          have ac := hA.out.c
          have af := hA.out.f
          have al := hA.out.lt
          have hand : bits .and .u64 (m : Int) (8 : Int) = (c : Int) := hand
          have hsh : IntKind.u64.wrap (16 : Int) = (16 : Int) := hsh
          go_wp2_with (go_at_call 77; ((refine (CI.out _ sk hLm hR.out).mono ?_); rintro e w8 ⟨rfl, r8, k8⟩; have m8 := hA.out.kept k8 hne; have m8c := m8.c; have m8f := m8.f; have m8l := m8.lt; have HR8 := Lib.hid r8; have K8 := Lib.hid (K7.out.trans (k8.weak (fun j q => q.1))); clear r8 k8))
          go_roundw
          case rel => exact ⟨4, by go_num, rfl, by decide, Lib.hid (by rw [hS.out]; exact HR8.out.other (B2 := Bo) ((Kept.refl _ _).set (B := Bo) (i := 5) (fun _ q => q rfl) (vI (told (0 : Int) rdI sk))) (by omega)), Lib.hid (by rw [hS.out, ← HE.out]; exact m8.set (i := 5) (by simp) (vI (told (0 : Int) rdI sk))), K8.out.set (B := Bo) (i := 5) (fun _ q => q.2 rfl) (vI (told (0 : Int) rdI sk))⟩
          case measure => simp [intOf]
        · have hS : Hid (getTo m p (4 + 1) = (setF (getTo m p 4).1 4 (rdV 4 (getTo m p 4).2).1, (rdV 4 (getTo m p 4).2).2)) := Lib.hid HS.out
          have hA : Hid (AtC wr Bo (obCells (getTo m p 4).1)) := HNr
          have hLm := HLM.out 4
          have hE := cells_set (getTo m p 4).1 (i := 4) (by decide) (getTo m p 4).2
          obtain ⟨ok, hok⟩ : ∃ ok, (getTo m p 4).1 = ok := ⟨_, rfl⟩
          obtain ⟨sk, hsk⟩ : ∃ sk, (getTo m p 4).2 = sk := ⟨_, rfl⟩
          rw [hok, hsk] at hS
          rw [hok] at hA
          rw [hok, hsk] at hE
          rw [hsk] at hLm
          have hR : Hid (RAt wr Br sk) := by rw [← hsk]; exact HRr
          have HE := Lib.hid hE
          clear HNr HRr hok hsk hE HS
          have ac := hA.out.c
          have af := hA.out.f
          have al := hA.out.lt
          have hand : bits .and .u64 (m : Int) (16 : Int) = (c : Int) := hand
          have hsh : IntKind.u64.wrap (32 : Int) = (32 : Int) := hsh
          go_wp2_with (go_at_call 77; ((refine (CI.out _ sk hLm hR.out).mono ?_); rintro e w8 ⟨rfl, r8, k8⟩; have m8 := hA.out.kept k8 hne; have m8c := m8.c; have m8f := m8.f; have m8l := m8.lt; have HR8 := Lib.hid r8; have K8 := Lib.hid (K7.out.trans (k8.weak (fun j q => q.1))); clear r8 k8))
          go_roundw
          case rel => exact ⟨5, by go_num, rfl, by decide, Lib.hid (by rw [hS.out]; exact HR8.out.other (B2 := Bo) ((Kept.refl _ _).set (B := Bo) (i := 6) (fun _ q => q rfl) (vI (told (0 : Int) rdI sk))) (by omega)), Lib.hid (by rw [hS.out, ← HE.out]; exact m8.set (i := 6) (by simp) (vI (told (0 : Int) rdI sk))), K8.out.set (B := Bo) (i := 6) (fun _ q => q.2 rfl) (vI (told (0 : Int) rdI sk))⟩
          case measure => simp [intOf]
        · have hS : Hid (getTo m p (5 + 1) = (setF (getTo m p 5).1 5 (rdV 5 (getTo m p 5).2).1, (rdV 5 (getTo m p 5).2).2)) := Lib.hid HS.out
          have hA : Hid (AtC wr Bo (obCells (getTo m p 5).1)) := HNr
          have hLm := HLM.out 5
          have hE := cells_set (getTo m p 5).1 (i := 5) (by decide) (getTo m p 5).2
          obtain ⟨ok, hok⟩ : ∃ ok, (getTo m p 5).1 = ok := ⟨_, rfl⟩
          obtain ⟨sk, hsk⟩ : ∃ sk, (getTo m p 5).2 = sk := ⟨_, rfl⟩
          rw [hok, hsk] at hS
          rw [hok] at hA
          rw [hok, hsk] at hE
          rw [hsk] at hLm
          have hR : Hid (RAt wr Br sk) := by rw [← hsk]; exact HRr
          have HE := Lib.hid hE
          clear HNr HRr hok hsk hE HS
          have ac := hA.out.c
          have af := hA.out.f
          have al := hA.out.lt
          have hand : bits .and .u64 (m : Int) (32 : Int) = (c : Int) := hand
          have hsh : IntKind.u64.wrap (64 : Int) = (64 : Int) := hsh
          go_wp2_with (go_at_call 75; ((refine (CB.out _ sk hLm hR.out).mono ?_); rintro e w8 ⟨rfl, r8, k8⟩; have m8 := hA.out.kept k8 hne; have m8c := m8.c; have m8f := m8.f; have m8l := m8.lt; have HR8 := Lib.hid r8; have K8 := Lib.hid (K7.out.trans (k8.weak (fun j q => q.1))); clear r8 k8))
          go_roundw
          case rel => exact ⟨6, by go_num, rfl, by decide, Lib.hid (by rw [hS.out]; exact HR8.out.other (B2 := Bo) ((Kept.refl _ _).set (B := Bo) (i := 7) (fun _ q => q rfl) (.int .u8 ((told (0 : Nat) rdB sk : Nat) : Int))) (by omega)), Lib.hid (by rw [hS.out, ← HE.out]; exact m8.set (i := 7) (by simp) (.int .u8 ((told (0 : Nat) rdB sk : Nat) : Int))), K8.out.set (B := Bo) (i := 7) (fun _ q => q.2 rfl) (.int .u8 ((told (0 : Nat) rdB sk : Nat) : Int))⟩
          case measure => simp [intOf]
        · have hS : Hid (getTo m p (6 + 1) = (setF (getTo m p 6).1 6 (rdV 6 (getTo m p 6).2).1, (rdV 6 (getTo m p 6).2).2)) := Lib.hid HS.out
          have hA : Hid (AtC wr Bo (obCells (getTo m p 6).1)) := HNr
          have hLm := HLM.out 6
          have hE := cells_set (getTo m p 6).1 (i := 6) (by decide) (getTo m p 6).2
          obtain ⟨ok, hok⟩ : ∃ ok, (getTo m p 6).1 = ok := ⟨_, rfl⟩
          obtain ⟨sk, hsk⟩ : ∃ sk, (getTo m p 6).2 = sk := ⟨_, rfl⟩
          rw [hok, hsk] at hS
          rw [hok] at hA
          rw [hok, hsk] at hE
          rw [hsk] at hLm
          have hR : Hid (RAt wr Br sk) := by rw [← hsk]; exact HRr
          have HE := Lib.hid hE
          clear HNr HRr hok hsk hE HS
          have ac := hA.out.c
          have af := hA.out.f
          have al := hA.out.lt
          have hand : bits .and .u64 (m : Int) (64 : Int) = (c : Int) := hand
          have hsh : IntKind.u64.wrap (128 : Int) = (128 : Int) := hsh
          go_wp2
          go_roundw
          case rel => exact ⟨7, by go_num, rfl, by decide, Lib.hid (by rw [hS.out]; exact hR.out.other (B2 := Bo) ((Kept.refl _ _).set (B := Bo) (i := 8) (fun _ q => q rfl) (.bool true)) (by omega)), Lib.hid (by rw [hS.out, ← HE.out]; exact hA.out.set (i := 8) (by simp) (.bool true)), K7.out.set (B := Bo) (i := 8) (fun _ q => q.2 rfl) (.bool true)⟩
          case measure => simp [intOf]
        · have hS : Hid (getTo m p (7 + 1) = (setF (getTo m p 7).1 7 (rdV 7 (getTo m p 7).2).1, (rdV 7 (getTo m p 7).2).2)) := Lib.hid HS.out
          have hA : Hid (AtC wr Bo (obCells (getTo m p 7).1)) := HNr
          have hLm := HLM.out 7
          have hE := cells_set (getTo m p 7).1 (i := 7) (by decide) (getTo m p 7).2
          obtain ⟨ok, hok⟩ : ∃ ok, (getTo m p 7).1 = ok := ⟨_, rfl⟩
          obtain ⟨sk, hsk⟩ : ∃ sk, (getTo m p 7).2 = sk := ⟨_, rfl⟩
          rw [hok, hsk] at hS
          rw [hok] at hA
          rw [hok, hsk] at hE
          rw [hsk] at hLm
          have hR : Hid (RAt wr Br sk) := by rw [← hsk]; exact HRr
          have HE := Lib.hid hE
          clear HNr HRr hok hsk hE HS
          have ac := hA.out.c
          have af := hA.out.f
          have al := hA.out.lt
          have hand : bits .and .u64 (m : Int) (128 : Int) = (c : Int) := hand
          have hsh : IntKind.u64.wrap (256 : Int) = (256 : Int) := hsh
          go_wp2
          go_roundw
          case rel => exact ⟨8, by go_num, rfl, by decide, Lib.hid (by rw [hS.out]; exact hR.out.other (B2 := Bo) ((Kept.refl _ _).set (B := Bo) (i := 9) (fun _ q => q rfl) (.bool true)) (by omega)), Lib.hid (by rw [hS.out, ← HE.out]; exact hA.out.set (i := 9) (by simp) (.bool true)), K7.out.set (B := Bo) (i := 9) (fun _ q => q.2 rfl) (.bool true)⟩
          case measure => simp [intOf]
        · have hS : Hid (getTo m p (8 + 1) = (setF (getTo m p 8).1 8 (rdV 8 (getTo m p 8).2).1, (rdV 8 (getTo m p 8).2).2)) := Lib.hid HS.out
          have hA : Hid (AtC wr Bo (obCells (getTo m p 8).1)) := HNr
          have hLm := HLM.out 8
          have hE := cells_set (getTo m p 8).1 (i := 8) (by decide) (getTo m p 8).2
          obtain ⟨ok, hok⟩ : ∃ ok, (getTo m p 8).1 = ok := ⟨_, rfl⟩
          obtain ⟨sk, hsk⟩ : ∃ sk, (getTo m p 8).2 = sk := ⟨_, rfl⟩
          rw [hok, hsk] at hS
          rw [hok] at hA
          rw [hok, hsk] at hE
          rw [hsk] at hLm
          have hR : Hid (RAt wr Br sk) := by rw [← hsk]; exact HRr
          have HE := Lib.hid hE
          clear HNr HRr hok hsk hE HS
          have ac := hA.out.c
          have af := hA.out.f
          have al := hA.out.lt
          have hand : bits .and .u64 (m : Int) (256 : Int) = (c : Int) := hand
          have hsh : IntKind.u64.wrap (512 : Int) = (512 : Int) := hsh
          go_wp2_with (go_at_call 77; ((refine (CI.out _ sk hLm hR.out).mono ?_); rintro e w8 ⟨rfl, r8, k8⟩; have m8 := hA.out.kept k8 hne; have m8c := m8.c; have m8f := m8.f; have m8l := m8.lt; have HR8 := Lib.hid r8; have K8 := Lib.hid (K7.out.trans (k8.weak (fun j q => q.1))); clear r8 k8))
          go_roundw
          case rel => exact ⟨9, by go_num, rfl, by decide, Lib.hid (by rw [hS.out]; exact HR8.out.other (B2 := Bo) ((Kept.refl _ _).set (B := Bo) (i := 10) (fun _ q => q rfl) (vI (told (0 : Int) rdI sk))) (by omega)), Lib.hid (by rw [hS.out, ← HE.out]; exact m8.set (i := 10) (by simp) (vI (told (0 : Int) rdI sk))), K8.out.set (B := Bo) (i := 10) (fun _ q => q.2 rfl) (vI (told (0 : Int) rdI sk))⟩
          case measure => simp [intOf]
        · have hS : Hid (getTo m p (9 + 1) = (setF (getTo m p 9).1 9 (rdV 9 (getTo m p 9).2).1, (rdV 9 (getTo m p 9).2).2)) := Lib.hid HS.out
          have hA : Hid (AtC wr Bo (obCells (getTo m p 9).1)) := HNr
          have hLm := HLM.out 9
          have hE := cells_set (getTo m p 9).1 (i := 9) (by decide) (getTo m p 9).2
          obtain ⟨ok, hok⟩ : ∃ ok, (getTo m p 9).1 = ok := ⟨_, rfl⟩
          obtain ⟨sk, hsk⟩ : ∃ sk, (getTo m p 9).2 = sk := ⟨_, rfl⟩
          rw [hok, hsk] at hS
          rw [hok] at hA
          rw [hok, hsk] at hE
          rw [hsk] at hLm
          have hR : Hid (RAt wr Br sk) := by rw [← hsk]; exact HRr
          have HE := Lib.hid hE
          clear HNr HRr hok hsk hE HS
          have ac := hA.out.c
          have af := hA.out.f
          have al := hA.out.lt
          have hand : bits .and .u64 (m : Int) (512 : Int) = (c : Int) := hand
          have hsh : IntKind.u64.wrap (1024 : Int) = (1024 : Int) := hsh
          go_wp2_with (go_at_call 77; ((refine (CI.out _ sk hLm hR.out).mono ?_); rintro e w8 ⟨rfl, r8, k8⟩; have m8 := hA.out.kept k8 hne; have m8c := m8.c; have m8f := m8.f; have m8l := m8.lt; have HR8 := Lib.hid r8; have K8 := Lib.hid (K7.out.trans (k8.weak (fun j q => q.1))); clear r8 k8))
          go_roundw
          case rel => exact ⟨10, by go_num, rfl, by decide, Lib.hid (by rw [hS.out]; exact HR8.out.other (B2 := Bo) ((Kept.refl _ _).set (B := Bo) (i := 11) (fun _ q => q rfl) (vI (told (0 : Int) rdI sk))) (by omega)), Lib.hid (by rw [hS.out, ← HE.out]; exact m8.set (i := 11) (by simp) (vI (told (0 : Int) rdI sk))), K8.out.set (B := Bo) (i := 11) (fun _ q => q.2 rfl) (vI (told (0 : Int) rdI sk))⟩
          case measure => simp [intOf]
        · have hS : Hid (getTo m p (10 + 1) = (setF (getTo m p 10).1 10 (rdV 10 (getTo m p 10).2).1, (rdV 10 (getTo m p 10).2).2)) := Lib.hid HS.out
          have hA : Hid (AtC wr Bo (obCells (getTo m p 10).1)) := HNr
          have hLm := HLM.out 10
          have hE := cells_set (getTo m p 10).1 (i := 10) (by decide) (getTo m p 10).2
          obtain ⟨ok, hok⟩ : ∃ ok, (getTo m p 10).1 = ok := ⟨_, rfl⟩
          obtain ⟨sk, hsk⟩ : ∃ sk, (getTo m p 10).2 = sk := ⟨_, rfl⟩
          rw [hok, hsk] at hS
          rw [hok] at hA
          rw [hok, hsk] at hE
          rw [hsk] at hLm
          have hR : Hid (RAt wr Br sk) := by rw [← hsk]; exact HRr
          have HE := Lib.hid hE
          clear HNr HRr hok hsk hE HS
          have ac := hA.out.c
          have af := hA.out.f
          have al := hA.out.lt
          have hand : bits .and .u64 (m : Int) (1024 : Int) = (c : Int) := hand
          have hsh : IntKind.u64.wrap (2048 : Int) = (2048 : Int) := hsh
          go_wp2_with (go_at_call 77; ((refine (CI.out _ sk hLm hR.out).mono ?_); rintro e w8 ⟨rfl, r8, k8⟩; have m8 := hA.out.kept k8 hne; have m8c := m8.c; have m8f := m8.f; have m8l := m8.lt; have HR8 := Lib.hid r8; have K8 := Lib.hid (K7.out.trans (k8.weak (fun j q => q.1))); clear r8 k8))
          go_roundw
          case rel => exact ⟨11, by go_num, rfl, by decide, Lib.hid (by rw [hS.out]; exact HR8.out.other (B2 := Bo) ((Kept.refl _ _).set (B := Bo) (i := 12) (fun _ q => q rfl) (vI (told (0 : Int) rdI sk))) (by omega)), Lib.hid (by rw [hS.out, ← HE.out]; exact m8.set (i := 12) (by simp) (vI (told (0 : Int) rdI sk))), K8.out.set (B := Bo) (i := 12) (fun _ q => q.2 rfl) (vI (told (0 : Int) rdI sk))⟩
          case measure => simp [intOf]
        · have hS : Hid (getTo m p (11 + 1) = (setF (getTo m p 11).1 11 (rdV 11 (getTo m p 11).2).1, (rdV 11 (getTo m p 11).2).2)) := Lib.hid HS.out
          have hA : Hid (AtC wr Bo (obCells (getTo m p 11).1)) := HNr
          have hLm := HLM.out 11
          have hE := cells_set (getTo m p 11).1 (i := 11) (by decide) (getTo m p 11).2
          obtain ⟨ok, hok⟩ : ∃ ok, (getTo m p 11).1 = ok := ⟨_, rfl⟩
          obtain ⟨sk, hsk⟩ : ∃ sk, (getTo m p 11).2 = sk := ⟨_, rfl⟩
          rw [hok, hsk] at hS
          rw [hok] at hA
          rw [hok, hsk] at hE
          rw [hsk] at hLm
          have hR : Hid (RAt wr Br sk) := by rw [← hsk]; exact HRr
          have HE := Lib.hid hE
          clear HNr HRr hok hsk hE HS
          have ac := hA.out.c
          have af := hA.out.f
          have al := hA.out.lt
          have hand : bits .and .u64 (m : Int) (2048 : Int) = (c : Int) := hand
          have hsh : IntKind.u64.wrap (4096 : Int) = (4096 : Int) := hsh
          go_wp2_with (go_at_call 75; ((refine (CB.out _ sk hLm hR.out).mono ?_); rintro e w8 ⟨rfl, r8, k8⟩; have m8 := hA.out.kept k8 hne; have m8c := m8.c; have m8f := m8.f; have m8l := m8.lt; have HR8 := Lib.hid r8; have K8 := Lib.hid (K7.out.trans (k8.weak (fun j q => q.1))); clear r8 k8))
          go_roundw
          case rel => exact ⟨12, by go_num, rfl, by decide, Lib.hid (by rw [hS.out]; exact HR8.out.other (B2 := Bo) ((Kept.refl _ _).set (B := Bo) (i := 13) (fun _ q => q rfl) (.int .u8 ((told (0 : Nat) rdB sk : Nat) : Int))) (by omega)), Lib.hid (by rw [hS.out, ← HE.out]; exact m8.set (i := 13) (by simp) (.int .u8 ((told (0 : Nat) rdB sk : Nat) : Int))), K8.out.set (B := Bo) (i := 13) (fun _ q => q.2 rfl) (.int .u8 ((told (0 : Nat) rdB sk : Nat) : Int))⟩
          case measure => simp [intOf]
    · obtain rfl : k = 12 := by omega
      have i1 : ¬ ((12 : Nat) : Int) < 12 := by omega
      rw [HG.out] at HRr HNr
      obtain ⟨q, hq⟩ : ∃ q, getO s = q := ⟨_, rfl⟩
      rw [hq] at HRr HNr
      have HQ := Lib.hid hq
      clear hq HG
      have mc := HNr.out.c
      have mR := MR3.out.kept (P := fun j => j ≠ Br ∧ j ≠ Bo) k7 ⟨by omega, by omega⟩
      have mRc := mR.c
      have mRf := mR.f
      have mRl := mR.lt
      go_wp2
      have hKw : Kept w wr (· ≠ Br) := K3.out.trans' K7.out (fun i hi h => ⟨h, by omega⟩)
      refine ret_ob (o := q.1) rfl rfl rfl (AtC.fill mR rfl _ _ _ _ _ _ _ _ _ _ _ _ _ _) ⟨by rw [HQ.out], ?_, ?_⟩
      · rw [HQ.out]
        refine RAt.other (B2 := w.heap.size) HRr.out ?_ hBr
        exact kFill (Kept.refl _ _) (fun _ h => h rfl) _ _ _ _ _ _ _ _ _ _ _ _ _ _
      · exact kFill hKw (fun h => absurd h (by omega)) _ _ _ _ _ _ _ _ _ _ _ _ _ _
end Go.Proofs.YtkgjgbenfpkekaaGreat.PX
/-
  WALKS: the document's GetChange and GetEntry; Left of a reader.
-/
namespace Go.Proofs.YtkgjgbenfpkekaaGreat.PX
open Go.RowKit HL
open IX (ptr El cellsK cellsK_at cellsK_len OwnK RdK Kept)
open YX (numB rdU rdB rdT rdS rdI addW intN natI rest told WAt WPt Wr RAt vS vU vI Lim)
open DX (Ch chCells ch zeroCh)
set_option maxRecDepth 100000
set_option linter.unusedVariables false
set_option linter.unusedSimpArgs false

theorem lim_getO {s : Option Bs} (h : Lim s) : Lim (getO s).2 := lim_get (lim_rest lenU (lim_rest lenS (lim_rest lenB h))) 12
set_option maxHeartbeats 8000000 in
theorem rGetChange_any (Br : Nat) (s : Option Bs) (w : World) (hs : Lim s) (hr : RAt w Br s) :
    Calls Tryz.prog 47 #[ptr Br] w fun e w' => Rdr w Br (ch (getC s).1) (getC s).2 e w' := by
  have hBr := hr.lt
  have hb := bAl (Below.refl w.heap.size w) (.cells (chCells zeroCh) 47)
  have HR := Lib.hid (hr.below hb)
  have HB := Lib.hid (AtC.new w (chCells zeroCh) 47)
  have HBL := Lib.hid hb
  have CB := fun (W : World) (q : RAt W Br s) => YX.rByte_any Br s W q
  have CO := fun (W : World) (q : RAt W Br (rest rdB s)) => rGetObject_any Br (rest rdB s) W (lim_rest lenB hs) q
  obtain ⟨k, hk⟩ : ∃ k, told 0 rdB s = k := ⟨_, rfl⟩
  obtain ⟨s2, hs2⟩ : ∃ s2, rest rdB s = s2 := ⟨_, rfl⟩
  obtain ⟨⟨o, s3⟩, hq⟩ : ∃ q, getO s2 = q := ⟨_, rfl⟩
  have HQ : Hid (getC s = (⟨k, o⟩, s3)) := Lib.hid (by unfold getC; rw [hs2, hq, hk])
  rw [hk, hs2] at CB
  rw [hs2, hq] at CO
  replace CB := Lib.hid CB
  replace CO := Lib.hid CO
  clear hr hb hk hs2 hq hs
  go_enter Tryz.func47, Tryz.ntmps47
  go_upto_region 3 with (first
    | (go_at_call 75; ((refine (CB.out _ HR.out).mono ?_); rintro e w1 ⟨rfl, r1, k1⟩; have M1 := Lib.hid (AtC.new w1 (chCells ⟨k, zeroOb⟩) 47); have HR1 := Lib.hid (r1.below (bAl (Below.refl _ w1) (.cells (chCells ⟨k, zeroOb⟩) 47))); have K1 := Lib.hid ((Kept.trans (.of_below HBL.out) k1).al (.cells (chCells ⟨k, zeroOb⟩) 47)); have MR1 := Lib.hid ((HB.out.kept k1 (show w.heap.size ≠ Br by omega)).al (.cells (chCells ⟨k, zeroOb⟩) 47)); have hB1 : w.heap.size < w1.heap.size := (by have := k1.size; simp at this; omega); clear r1 k1))
    | (go_at_call 41; ((refine (CO.out _ HR1.out).mono ?_); rintro e w2 ⟨rfl, r2, k2⟩; have m2 := M1.out.kept k2 (show w1.heap.size ≠ Br by omega); have m2c := m2.c; have m2f := m2.f; have m2l := m2.lt; have N2 : Hid (AtC (stC w2 w1.heap.size 1 (obCells o).toList) w1.heap.size (chCells ⟨k, o⟩)) := Lib.hid (at_mid (obCells o).toList [.int .u8 (k : Int)] (obCells zeroOb).toList [] w2 m2 rfl); have HR2 := Lib.hid (r2.other (B2 := w1.heap.size) (kept_stC (fun _ h => h rfl) (obCells o).toList 1 w2 (Kept.refl _ _)) (by omega)); have K2 := Lib.hid (kept_stC (B := w1.heap.size) (fun h => absurd h (by omega)) (obCells o).toList 1 w2 (K1.out.trans k2)); have MR2 := Lib.hid (at_store (obCells o).toList 1 w2 _ (show w.heap.size ≠ w1.heap.size by omega) (MR1.out.kept k2 (show w.heap.size ≠ Br by omega))); clear r2 k2)))
  have eW : ((((((((((((((w2.setCell ⟨w1.heap.size, 1, none⟩ (.string o.handle)).setCell ⟨w1.heap.size, 2, none⟩ (.int .u8 o.kind)).setCell ⟨w1.heap.size, 3, none⟩ (.string o.parent)).setCell ⟨w1.heap.size, 4, none⟩ (.int .u8 o.typ)).setCell ⟨w1.heap.size, 5, none⟩ (.string o.ref)).setCell ⟨w1.heap.size, 6, none⟩ (.int .i64 o.lo)).setCell ⟨w1.heap.size, 7, none⟩ (.int .i64 o.hi)).setCell ⟨w1.heap.size, 8, none⟩ (.int .u8 o.digits)).setCell ⟨w1.heap.size, 9, none⟩ (.bool o.on)).setCell ⟨w1.heap.size, 10, none⟩ (.bool o.has)).setCell ⟨w1.heap.size, 11, none⟩ (.int .i64 o.value)).setCell ⟨w1.heap.size, 12, none⟩ (.int .i64 o.low)).setCell ⟨w1.heap.size, 13, none⟩ (.int .i64 o.high)).setCell ⟨w1.heap.size, 14, none⟩ (.int .u8 o.assoc)) = stC w2 w1.heap.size 1 (obCells o).toList := rfl
  rw [eW]
  clear eW m2 m2c m2f m2l
  generalize stC w2 w1.heap.size 1 (obCells o).toList = W5 at *
  have n5 := N2.out
  have m6 := MR2.out
  have hc : W5.rangeAt w1.heap.size 0 (chCells ⟨k, o⟩).toList := fun j v hv => by
    rw [Nat.zero_add, n5.c j, ← hv]; exact Array.getElem?_toList.symm
  have ht : W5.there w.heap.size 0 (chCells ⟨k, o⟩).size := fun j hj => by
    rw [Nat.zero_add]
    refine ⟨?_, m6.f j⟩
    rw [m6.c j]
    have hj : j < 15 := hj
    have : j < (chCells zeroCh).size := hj
    rw [Array.getElem?_eq_getElem this]; rfl
  have h1 : (chCells ⟨k, o⟩).all (·.oneCell') = true := all_oneCell_toArray (fun v hv => by simp at hv; rcases hv with rfl | rfl | rfl | rfl | rfl | rfl | rfl | rfl | rfl | rfl | rfl | rfl | rfl | rfl | rfl <;> rfl)
  refine wp_region_list ?_
  refine wpList_load_mid rfl _ _ rfl w1.heap.size 0 rfl (chCells ⟨k, o⟩).toList _ hc Tryz.underlying47 rfl (by kernel_rfl) ?_
  refine wpList_store_mid rfl _ _ _ rfl w.heap.size 0 (chCells ⟨k, o⟩) rfl rfl ht (by kernel_rfl) h1 ?_
  have eS : W5.setCells w.heap.size 0 (chCells ⟨k, o⟩).toList = stC W5 w.heap.size 0 (chCells ⟨k, o⟩).toList := setCells_st _ _ _ _
  rw [eS]
  have mF := at_all (chCells zeroCh).toList (chCells ⟨k, o⟩).toList m6 rfl
  have HF : Hid (RAt (stC W5 w.heap.size 0 (chCells ⟨k, o⟩).toList) Br s3) := Lib.hid (RAt.other (B2 := w.heap.size) HR2.out (kept_stC (fun _ h => h rfl) _ 0 W5 (Kept.refl _ _)) hBr)
  have KF : Hid (Kept w (stC W5 w.heap.size 0 (chCells ⟨k, o⟩).toList) (· ≠ Br)) := Lib.hid (kept_stC (fun h => absurd h (by omega)) _ 0 W5 K2.out)
  clear eS hc ht h1 n5 m6
  generalize stC W5 w.heap.size 0 (chCells ⟨k, o⟩).toList = W6 at *
  go_wp2
  refine ret_row (C := chCells ⟨k, o⟩) (B := w.heap.size) rfl rfl rfl mF (by kernel_rfl) (by kernel_rfl) ⟨by rw [HQ.out], ?_, ?_⟩
  · rw [HQ.out]; exact HF.out
  · exact KF.out
set_option maxHeartbeats 8000000 in
theorem rGetEntry_any (Br : Nat) (s : Option Bs) (w : World) (hs : Lim s) (hr : RAt w Br s) :
    Calls Tryz.prog 52 #[ptr Br] w fun e w' => Rdr w Br (en (getE s).1) (getE s).2 e w' := by
  have hBr := hr.lt
  have hb := bAl (Below.refl w.heap.size w) (.cells (enC zeroEn) 103)
  have HR := Lib.hid (hr.below hb)
  have HB := Lib.hid (AtC.new w (enC zeroEn) 103)
  have HBL := Lib.hid hb
  have l1 : Lim (rest rdS s) := lim_rest lenS hs
  have l2 : Lim (rest rdT (rest rdS s)) := lim_rest lenT l1
  have l3 : Lim (getO (rest rdT (rest rdS s))).2 := lim_getO l2
  have CT := fun (W : World) (q : RAt W Br s) => YX.rText_any Br s hs W q
  have CB := fun (W : World) (q : RAt W Br (rest rdS s)) => YX.rTruth_any Br (rest rdS s) W q
  have CO := fun (W : World) (q : RAt W Br (rest rdT (rest rdS s))) => rGetObject_any Br (rest rdT (rest rdS s)) W l2 q
  have CI := fun (W : World) (q : RAt W Br (getO (rest rdT (rest rdS s))).2) => YX.rInt_any Br _ l3 W q
  have CJ := fun (W : World) (q : RAt W Br (rest rdI (getO (rest rdT (rest rdS s))).2)) => YX.rInt_any Br _ (lim_rest lenI l3) W q
  clear l1 l2 l3
  obtain ⟨t, ht⟩ : ∃ t, told [] rdS s = t := ⟨_, rfl⟩
  obtain ⟨s1, hs1⟩ : ∃ s1, rest rdS s = s1 := ⟨_, rfl⟩
  obtain ⟨b, hb1⟩ : ∃ b, (told 0 rdT s1 == 1) = b := ⟨_, rfl⟩
  obtain ⟨s2, hs2⟩ : ∃ s2, rest rdT s1 = s2 := ⟨_, rfl⟩
  obtain ⟨⟨o, s3⟩, hq⟩ : ∃ q, getO s2 = q := ⟨_, rfl⟩
  obtain ⟨d, hd⟩ : ∃ d, told (0 : Int) rdI s3 = d := ⟨_, rfl⟩
  obtain ⟨s4, hs4⟩ : ∃ s4, rest rdI s3 = s4 := ⟨_, rfl⟩
  obtain ⟨st, hst⟩ : ∃ st, told (0 : Int) rdI s4 = st := ⟨_, rfl⟩
  obtain ⟨s5, hs5⟩ : ∃ s5, rest rdI s4 = s5 := ⟨_, rfl⟩
  have HQ : Hid (getE s = (⟨bt t, b, o, d, st⟩, s5)) := Lib.hid (by unfold getE e4 e3 e2 e1; rw [hs1, hs2, hq]; simp only; rw [hs4, hs5, ht, hb1, hd, hst])
  rw [ht, hs1] at CT
  rw [hs1] at CB
  simp only [hb1, hs2] at CB
  rw [hs1, hs2, hq] at CO CI CJ
  simp only [hs4] at CI CJ
  simp only [hd, hst, hs4, hs5] at CI CJ
  replace CT := Lib.hid CT
  replace CB := Lib.hid CB
  replace CO := Lib.hid CO
  replace CI := Lib.hid CI
  replace CJ := Lib.hid CJ
  clear hr hb ht hs1 hb1 hs2 hq hd hs4 hst hs5 hs
  go_enter Tryz.func52, Tryz.ntmps52
  go_upto_region 6 with (first
    | (go_at_call 76; ((refine (CT.out _ HR.out).mono ?_); rintro e w1 ⟨rfl, r1, k1⟩; have M1 := Lib.hid (AtC.new w1 (enC ⟨bt t, false, zeroOb, 0, 0⟩) 103); have HR1 := Lib.hid (r1.below (bAl (Below.refl _ w1) (.cells (enC ⟨bt t, false, zeroOb, 0, 0⟩) 103))); have K1 := Lib.hid ((Kept.trans (.of_below HBL.out) k1).al (.cells (enC ⟨bt t, false, zeroOb, 0, 0⟩) 103)); have MR1 := Lib.hid ((HB.out.kept k1 (show w.heap.size ≠ Br by omega)).al (.cells (enC ⟨bt t, false, zeroOb, 0, 0⟩) 103)); have hB1 : w.heap.size < w1.heap.size := (by have := k1.size; simp at this; omega); clear r1 k1))
    | (go_at_call 78; ((refine (CB.out _ HR1.out).mono ?_); rintro e w3 ⟨rfl, r, k⟩; have m := M1.out.kept k (show w1.heap.size ≠ Br by omega); have m3c := m.c; have m3f := m.f; have m3l := m.lt; have N3 : Hid (AtC _ w1.heap.size (enC ⟨bt t, b, zeroOb, 0, 0⟩)) := Lib.hid (at_mid [.bool b] [vS t] [.bool false] ((obCells zeroOb).toList ++ [.int .i64 0, .int .i64 0]) w3 m rfl); have HR3 := Lib.hid (r.other (B2 := w1.heap.size) ((Kept.refl _ _).set (B := w1.heap.size) (i := 1) (fun _ q => q rfl) (.bool b)) (by omega)); have K3 := Lib.hid ((K1.out.trans k).set (B := w1.heap.size) (i := 1) (fun q => absurd q (by omega)) (.bool b)); have MR3 := Lib.hid ((MR1.out.kept k (show w.heap.size ≠ Br by omega)).store (p := ⟨w1.heap.size, 1, none⟩) (by show w1.heap.size ≠ w.heap.size; omega) (.bool b)); clear r k m))
    | (go_at_call 41; ((refine (CO.out _ HR3.out).mono ?_); rintro e w4 ⟨rfl, r, k⟩; have m := N3.out.kept k (show w1.heap.size ≠ Br by omega); have m4c := m.c; have m4f := m.f; have m4l := m.lt; have N4 : Hid (AtC (stC w4 w1.heap.size 2 (obCells o).toList) w1.heap.size (enC ⟨bt t, b, o, 0, 0⟩)) := Lib.hid (at_mid (obCells o).toList [vS t, .bool b] (obCells zeroOb).toList [.int .i64 0, .int .i64 0] w4 m rfl); have HR4 := Lib.hid (r.other (B2 := w1.heap.size) (kept_stC (fun _ h => h rfl) (obCells o).toList 2 w4 (Kept.refl _ _)) (by omega)); have K4 := Lib.hid (kept_stC (B := w1.heap.size) (fun h => absurd h (by omega)) (obCells o).toList 2 w4 (K3.out.trans k)); have MR4 := Lib.hid (at_store (obCells o).toList 2 w4 _ (show w.heap.size ≠ w1.heap.size by omega) (MR3.out.kept k (show w.heap.size ≠ Br by omega))); clear r k m))
    | (go_at_call 77; first
      | ((refine (CJ.out _ HR5.out).mono ?_); rintro e w6 ⟨rfl, r, k⟩; have m := N5.out.kept k (show w1.heap.size ≠ Br by omega); have m6c := m.c; have m6f := m.f; have m6l := m.lt; have N6 : Hid (AtC _ w1.heap.size (enC ⟨bt t, b, o, d, st⟩)) := Lib.hid (at_mid [.int .i64 st] (vS t :: .bool b :: (obCells o).toList ++ [.int .i64 d]) [.int .i64 0] [] w6 m rfl); have HR6 := Lib.hid (r.other (B2 := w1.heap.size) ((Kept.refl _ _).set (B := w1.heap.size) (i := 17) (fun _ q => q rfl) (.int .i64 st)) (by omega)); have K6 := Lib.hid ((K5.out.trans k).set (B := w1.heap.size) (i := 17) (fun q => absurd q (by omega)) (.int .i64 st)); have MR6 := Lib.hid ((MR5.out.kept k (show w.heap.size ≠ Br by omega)).store (p := ⟨w1.heap.size, 17, none⟩) (by show w1.heap.size ≠ w.heap.size; omega) (.int .i64 st)); clear r k m)
      | ((refine (CI.out _ HR4.out).mono ?_); rintro e w5 ⟨rfl, r, k⟩; have m := N4.out.kept k (show w1.heap.size ≠ Br by omega); have m5c := m.c; have m5f := m.f; have m5l := m.lt; have N5 : Hid (AtC _ w1.heap.size (enC ⟨bt t, b, o, d, 0⟩)) := Lib.hid (at_mid [.int .i64 d] (vS t :: .bool b :: (obCells o).toList) [.int .i64 0] [.int .i64 0] w5 m rfl); have HR5 := Lib.hid (r.other (B2 := w1.heap.size) ((Kept.refl _ _).set (B := w1.heap.size) (i := 16) (fun _ q => q rfl) (.int .i64 d)) (by omega)); have K5 := Lib.hid ((K4.out.trans k).set (B := w1.heap.size) (i := 16) (fun q => absurd q (by omega)) (.int .i64 d)); have MR5 := Lib.hid ((MR4.out.kept k (show w.heap.size ≠ Br by omega)).store (p := ⟨w1.heap.size, 16, none⟩) (by show w1.heap.size ≠ w.heap.size; omega) (.int .i64 d)); clear r k m)))
  clear m3c m3f m3l m4c m4f m4l m5c m5f m5l m6c m6f m6l HR HB HBL CT CB CO CI CJ
  have n5 : AtC (w6.setCell ⟨w1.heap.size, 17, none⟩ (.int .i64 st)) w1.heap.size (enC ⟨bt t, b, o, d, st⟩) := N6.out
  clear N6
  generalize w6.setCell ⟨w1.heap.size, 17, none⟩ (.int .i64 st) = W5 at *
  have m6 := MR6.out
  have hc : W5.rangeAt w1.heap.size 0 (enC ⟨bt t, b, o, d, st⟩).toList := fun j v hv => by
    rw [Nat.zero_add, n5.c j, ← hv]; exact Array.getElem?_toList.symm
  have ht : W5.there w.heap.size 0 (enC ⟨bt t, b, o, d, st⟩).size := fun j hj => by
    rw [Nat.zero_add]
    refine ⟨?_, m6.f j⟩
    rw [m6.c j]
    have hj : j < 18 := hj
    have : j < (enC zeroEn).size := hj
    rw [Array.getElem?_eq_getElem this]; rfl
  have h1 : (enC ⟨bt t, b, o, d, st⟩).all (·.oneCell') = true := all_oneCell_toArray (fun v hv => by simp at hv; rcases hv with rfl | rfl | rfl | rfl | rfl | rfl | rfl | rfl | rfl | rfl | rfl | rfl | rfl | rfl | rfl | rfl | rfl | rfl <;> rfl)
  refine wp_region_list ?_
  refine wpList_load_mid rfl _ _ rfl w1.heap.size 0 rfl (enC ⟨bt t, b, o, d, st⟩).toList _ hc Tryz.underlying103 rfl (by kernel_rfl) ?_
  refine wpList_store_mid rfl _ _ _ rfl w.heap.size 0 (enC ⟨bt t, b, o, d, st⟩) rfl rfl ht (by kernel_rfl) h1 ?_
  have eS : W5.setCells w.heap.size 0 (enC ⟨bt t, b, o, d, st⟩).toList = stC W5 w.heap.size 0 (enC ⟨bt t, b, o, d, st⟩).toList := setCells_st _ _ _ _
  rw [eS]
  have mF := at_all (enC zeroEn).toList (enC ⟨bt t, b, o, d, st⟩).toList m6 rfl
  have HF : Hid (RAt (stC W5 w.heap.size 0 (enC ⟨bt t, b, o, d, st⟩).toList) Br s5) := Lib.hid (RAt.other (B2 := w.heap.size) HR6.out (kept_stC (fun _ h => h rfl) _ 0 W5 (Kept.refl _ _)) hBr)
  have KF : Hid (Kept w (stC W5 w.heap.size 0 (enC ⟨bt t, b, o, d, st⟩).toList) (· ≠ Br)) := Lib.hid (kept_stC (fun h => absurd h (by omega)) _ 0 W5 K6.out)
  clear eS hc ht h1 n5 m6
  generalize stC W5 w.heap.size 0 (enC ⟨bt t, b, o, d, st⟩).toList = W6 at *
  go_wp2
  refine ret_row (C := enC ⟨bt t, b, o, d, st⟩) (B := w.heap.size) rfl rfl rfl mF (by kernel_rfl) (by kernel_rfl) ⟨by rw [HQ.out], ?_, ?_⟩
  · rw [HQ.out]; exact HF.out
  · exact KF.out
end Go.Proofs.YtkgjgbenfpkekaaGreat.PX
