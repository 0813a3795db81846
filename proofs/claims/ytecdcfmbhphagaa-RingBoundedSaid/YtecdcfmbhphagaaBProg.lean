/-
  WALKS: made, Many, Dropped, back, never of a ring.
-/
import Derived.Test.YtecdcfmbhphagaaBKit
import Derived.BigQuiet
import Derived.LaidEqlPtr
import Derived.WalkMore
import Derived.Shelf.Abstract
namespace Go.Proofs.Ytecdcfmbhphagaa.BX
open Go.RowKit HL
open IX (ptr El cellsK cellsK_at cellsK_len OwnK RdK Kept)
set_option maxRecDepth 100000
set_option linter.unusedVariables false
set_option linter.unusedSimpArgs false

theorem ring_some : (Try.prog.info? 61).isSome = true := by kernel_rfl
theorem ring_info : Try.prog.info? 61 = some ((Try.prog.info? 61).get ring_some) := (Option.some_get ring_some).symm
theorem made_any {B : Nat} (w : World) (c0 : w.cell? ⟨B, 0, none⟩ = some (ptr B)) : Calls Try.prog 27 #[ptr B] w fun e w' => e = .returned (.bool true) ∧ w = w' := by
  have HE := fun W => run_eql_ptr_same (P := Try.prog) W (tp := 23) ⟨B, 0, none⟩ Try.underlying23 ring_info
  go_enter Try.func27, Try.ntmps27
  go_wp2
  go_ret
  exact ⟨rfl, rfl⟩
theorem many_any {B : Nat} {g : Rg} {R : List (Int × En)} (w : World) (h : RgAt w B g R) (hn : g.all.length ≤ 1000000) : Calls Try.prog 20 #[ptr B] w fun e w' => e = .returned (.int .i64 (kept g).length) ∧ Below w.heap.size w w' := by
  have C := Lib.hid (made_any w h.c0)
  have c2 := h.c2
  have c3 := h.c3
  have hl := h.lt
  have s8 := h.s8
  clear h
  have HM : Hid (min (g.all.length : Int) (g.size : Int) = ((kept g).length : Int)) := Lib.hid (by rw [kept_len]; omega)
  generalize (kept g).length = m at *
  generalize g.all.length = n at *
  generalize g.size = s at *
  go_enter Try.func20, Try.ntmps20
  go_wp2_with (go_at_call 27; ((with_reducible refine C.out.mono ?_); rintro e w1 ⟨rfl, rfl⟩))
  go_quiet (fail)
  go_wp2
  go_ret
  exact ⟨by rw [← HM.out]; rfl, ⟨rfl, rfl, rfl, Nat.le_refl _, fun _ _ => rfl⟩⟩
theorem bD1 (W : World) : Below W.heap.size W W.drew := ⟨rfl, rfl, rfl, Nat.le_refl _, fun _ _ => rfl⟩
theorem wrap_sub {a b : Nat} (h : b ≤ a) (ha : a ≤ 1000000) : IntKind.i64.wrap ((a : Int) - (b : Int)) = ((a - b : Nat) : Int) := by
  simp [IntKind.wrap, IntKind.bits, IntKind.signed]; omega
theorem dropped_any {B : Nat} {g : Rg} {R : List (Int × En)} (w : World) (h : RgAt w B g R) (hn : g.all.length ≤ 1000000) : Calls Try.prog 18 #[ptr B] w fun e w' => e = .returned (.int .i64 (dropN g)) ∧ Below w.heap.size w w' := by
  have C := Lib.hid (made_any w h.c0)
  have CM := Lib.hid (fun W (k : Below w.heap.size w W) => many_any W (h.below k) hn)
  have c3 : ∀ W, Below w.heap.size w W → W.cell? ⟨B, 3, none⟩ = some (.int .i64 g.all.length) := fun W k => (h.below k).c3
  have hl := h.lt
  have hk := kept_len g
  have HW := Lib.hid (wrap_sub (a := g.all.length) (b := (kept g).length) (by omega) hn)
  have HD : Hid (dropN g = g.all.length - (kept g).length) := Lib.hid (by show g.all.length - g.size = _; omega)
  have hle : (kept g).length ≤ g.all.length := by omega
  clear h hk
  generalize (kept g).length = m at *
  generalize g.all.length = n at *
  generalize g.size = s at *
  go_enter Try.func18, Try.ntmps18
  go_wp2_with (go_at_call 27; ((with_reducible refine C.out.mono ?_); rintro e w1 ⟨rfl, rfl⟩))
  have hw := HW.out
  go_region_held3 (fun w' => w'.cell? ⟨B, 3, none⟩ = some (.int .i64 n) ∧ Below w.heap.size w w')
    (first | with_reducible assumption | with_reducible exact ⟨c3 _ (Below.refl _ _), Below.refl _ _⟩ | with_reducible exact ⟨c3 _ (keepD (by assumption) k3), keepD (by assumption) k3⟩ | exact ⟨c3 _ (bD1 w), bD1 w⟩)
    (first
    | (go_at_call 20; (with_reducible refine (CM.out _ (‹_ ∧ Below w.heap.size w _›).2).mono ?_); rintro e w1 ⟨rfl, k3⟩; have K3 := Lib.hid (bThen (‹_ ∧ Below w.heap.size w _›).2 k3)))
  go_wp2
  go_ret
  exact ⟨by rw [HD.out]; rfl, K3.out⟩
theorem back_any {B : Nat} (w : World) : Calls Try.prog 33 #[ptr B] w fun e w' => e = .returned (.func (.func 39) #[] #[.pointer (some ⟨w.heap.size, 0, none⟩)]) ∧ w' = w.alloc (.cells #[ptr B] 23) := by
  go_enter Try.func33, Try.ntmps33
  go_wp2
  go_ret
  exact ⟨rfl, rfl⟩
theorem en_one (e : En) : (enC e).all (·.oneCell') = true := all_oneCell_toArray (fun x hx => by simp at hx; rcases hx with rfl | rfl | rfl | rfl | rfl | rfl | rfl | rfl | rfl | rfl | rfl | rfl | rfl | rfl | rfl | rfl | rfl | rfl <;> rfl)
/-- An entry's zero cells. -/
theorem en_new (W : World) : AtC (W.alloc (.cells (enC zeroEn) 35)) W.heap.size (enC zeroEn) := AtC.new _ _ _
theorem never_any {B : Nat} (h : ByteArray) (w : World) (hB : B < w.heap.size) (c1 : w.cell? ⟨B, 1, none⟩ = some (.string h)) : Calls Try.prog 34 #[ptr B] w fun e w' => e = .returned (en (neverE h)) ∧ Below w.heap.size w w' := by
  have hb := bAl (Below.refl w.heap.size w) (.cells (enC zeroEn) 35)
  have hc1 := (hb.cell (p := ⟨B, 1, none⟩) hB).trans c1
  have M := en_new w
  go_enter Try.func34, Try.ntmps34
  go_upto_region 1 with fail
  change Code.wp _ _ _ _ (w.alloc (.cells (enC zeroEn) 35))
  generalize w.alloc (.cells (enC zeroEn) 35) = W at *
  have zt : W.there w.heap.size 0 (enC (neverE h)).size := there_at (C := enC zeroEn) M
  have zall := en_one (neverE h)
  go_wp2_with ((show wpList _ _ _ ({ dst := none, op := _, type := _, pos := _, after := _, guard := _ } :: _) _ _); (refine wpList_store_mid rfl _ _ _ rfl w.heap.size 0 (enC (neverE h)) rfl rfl zt (by kernel_rfl) zall ?_))
  exact ret_row (C := enC (neverE h)) (B := w.heap.size) rfl rfl rfl (set_at M rfl) (by kernel_rfl) (by kernel_rfl) ⟨rfl, set_below hb (Nat.le_refl _) _⟩
end Go.Proofs.Ytecdcfmbhphagaa.BX
