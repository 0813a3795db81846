/-
  WALK: the program's list of fields.
-/
import Derived.Test.YtmhilhdmbbdnaaaGreatDoorOKit
import Derived.Test.YtmhilhdmbbdnaaaGreatDoorOKit2
namespace Go.Proofs.YtmhilhdmbbdnaaaGreatDoor
open Go.RowKit
set_option maxRecDepth 100000
set_option linter.unusedVariables false

/-- The field parent. -/
abbrev fld0 : Value := .agg #[.int .u16 1, .string ⟨#[112, 97, 114, 101, 110, 116]⟩, .func (.func 103) #[] #[], .nilFunc, .nilFunc, .nilFunc]
/-- The field type. -/
abbrev fld1 : Value := .agg #[.int .u16 2, .string ⟨#[116, 121, 112, 101]⟩, .nilFunc, .nilFunc, .func (.func 104) #[] #[], .nilFunc]
/-- The field ref. -/
abbrev fld2 : Value := .agg #[.int .u16 4, .string ⟨#[114, 101, 102]⟩, .func (.func 105) #[] #[], .nilFunc, .nilFunc, .nilFunc]
/-- The field lo. -/
abbrev fld3 : Value := .agg #[.int .u16 8, .string ⟨#[108, 111]⟩, .nilFunc, .func (.func 106) #[] #[], .nilFunc, .nilFunc]
/-- The field hi. -/
abbrev fld4 : Value := .agg #[.int .u16 16, .string ⟨#[104, 105]⟩, .nilFunc, .func (.func 107) #[] #[], .nilFunc, .nilFunc]
/-- The field digits. -/
abbrev fld5 : Value := .agg #[.int .u16 32, .string ⟨#[100, 105, 103, 105, 116, 115]⟩, .nilFunc, .nilFunc, .func (.func 108) #[] #[], .nilFunc]
/-- The field on. -/
abbrev fld6 : Value := .agg #[.int .u16 64, .string ⟨#[111, 110]⟩, .nilFunc, .nilFunc, .nilFunc, .func (.func 109) #[] #[]]
/-- The field has. -/
abbrev fld7 : Value := .agg #[.int .u16 128, .string ⟨#[104, 97, 115]⟩, .nilFunc, .nilFunc, .nilFunc, .func (.func 110) #[] #[]]
/-- The field value. -/
abbrev fld8 : Value := .agg #[.int .u16 256, .string ⟨#[118, 97, 108, 117, 101]⟩, .nilFunc, .func (.func 111) #[] #[], .nilFunc, .nilFunc]
/-- The field low. -/
abbrev fld9 : Value := .agg #[.int .u16 512, .string ⟨#[108, 111, 119]⟩, .nilFunc, .func (.func 112) #[] #[], .nilFunc, .nilFunc]
/-- The field high. -/
abbrev fld10 : Value := .agg #[.int .u16 1024, .string ⟨#[104, 105, 103, 104]⟩, .nilFunc, .func (.func 113) #[] #[], .nilFunc, .nilFunc]
/-- The field assoc. -/
abbrev fld11 : Value := .agg #[.int .u16 2048, .string ⟨#[97, 115, 115, 111, 99]⟩, .nilFunc, .nilFunc, .func (.func 114) #[] #[], .nilFunc]
def fieldsL : List Value := [.int .u16 1, .string ⟨#[112, 97, 114, 101, 110, 116]⟩, .func (.func 103) #[] #[], .nilFunc, .nilFunc, .nilFunc, .int .u16 2, .string ⟨#[116, 121, 112, 101]⟩, .nilFunc, .nilFunc, .func (.func 104) #[] #[], .nilFunc, .int .u16 4, .string ⟨#[114, 101, 102]⟩, .func (.func 105) #[] #[], .nilFunc, .nilFunc, .nilFunc, .int .u16 8, .string ⟨#[108, 111]⟩, .nilFunc, .func (.func 106) #[] #[], .nilFunc, .nilFunc, .int .u16 16, .string ⟨#[104, 105]⟩, .nilFunc, .func (.func 107) #[] #[], .nilFunc, .nilFunc, .int .u16 32, .string ⟨#[100, 105, 103, 105, 116, 115]⟩, .nilFunc, .nilFunc, .func (.func 108) #[] #[], .nilFunc, .int .u16 64, .string ⟨#[111, 110]⟩, .nilFunc, .nilFunc, .nilFunc, .func (.func 109) #[] #[], .int .u16 128, .string ⟨#[104, 97, 115]⟩, .nilFunc, .nilFunc, .nilFunc, .func (.func 110) #[] #[], .int .u16 256, .string ⟨#[118, 97, 108, 117, 101]⟩, .nilFunc, .func (.func 111) #[] #[], .nilFunc, .nilFunc, .int .u16 512, .string ⟨#[108, 111, 119]⟩, .nilFunc, .func (.func 112) #[] #[], .nilFunc, .nilFunc, .int .u16 1024, .string ⟨#[104, 105, 103, 104]⟩, .nilFunc, .func (.func 113) #[] #[], .nilFunc, .nilFunc, .int .u16 2048, .string ⟨#[97, 115, 115, 111, 99]⟩, .nilFunc, .nilFunc, .func (.func 114) #[] #[], .nilFunc]
def fieldsA : Array Value := fieldsL.toArray
set_option maxHeartbeats 8000000 in
theorem fields_any (w : World) : Calls Tryz.prog 95 #[] w fun e w' => e = .returned (.agg fieldsA) ∧ Below w.heap.size w w' := by
  have hb : Below w.heap.size w w := Below.refl _ _
  have hg : ∀ o : Obj, (w.alloc o).heap[w.heap.size]? = some o := fun o => by unfold World.alloc; simp
  go_enter Tryz.func95, Tryz.ntmps95
  go_wp2
  rw [storeAs (vs' := fieldsL) (t := 108) (cur := Tryz.zeroCells108)]
  rotate_left
  · kernel_rfl
  · exact hg _
  · kernel_rfl
  · intro v hv
    exact (List.all_eq_true (l := fieldsL)).1 (by kernel_rfl) v hv
  go_wp2
  exact ret_row rfl rfl rfl (AtC.row (hg _)) (Tryz.isAgg108 _) ((Tryz.sizeOf108 _).trans (congrArg (fun n => Result.ok n _) (by kernel_rfl))) ⟨rfl, bRow (bAl hb _) (Nat.le_refl _) _⟩
end Go.Proofs.YtmhilhdmbbdnaaaGreatDoor
