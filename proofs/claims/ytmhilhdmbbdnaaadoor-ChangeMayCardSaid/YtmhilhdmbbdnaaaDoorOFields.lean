/-
  WALK: the program's list of fields.
-/
import Derived.Test.YtmhilhdmbbdnaaaDoorOKit
import Derived.Test.YtmhilhdmbbdnaaaDoorOKit2
namespace Go.Proofs.YtmhilhdmbbdnaaaDoor
open Go.RowKit
set_option maxRecDepth 100000
set_option linter.unusedVariables false

/-- The field parent. -/
abbrev fld0 : Value := .agg #[.int .u16 1, .string ⟨#[112, 97, 114, 101, 110, 116]⟩, .func (.func 88) #[] #[], .nilFunc, .nilFunc, .nilFunc]
/-- The field type. -/
abbrev fld1 : Value := .agg #[.int .u16 2, .string ⟨#[116, 121, 112, 101]⟩, .nilFunc, .nilFunc, .func (.func 89) #[] #[], .nilFunc]
/-- The field ref. -/
abbrev fld2 : Value := .agg #[.int .u16 4, .string ⟨#[114, 101, 102]⟩, .func (.func 90) #[] #[], .nilFunc, .nilFunc, .nilFunc]
/-- The field lo. -/
abbrev fld3 : Value := .agg #[.int .u16 8, .string ⟨#[108, 111]⟩, .nilFunc, .func (.func 91) #[] #[], .nilFunc, .nilFunc]
/-- The field hi. -/
abbrev fld4 : Value := .agg #[.int .u16 16, .string ⟨#[104, 105]⟩, .nilFunc, .func (.func 92) #[] #[], .nilFunc, .nilFunc]
/-- The field digits. -/
abbrev fld5 : Value := .agg #[.int .u16 32, .string ⟨#[100, 105, 103, 105, 116, 115]⟩, .nilFunc, .nilFunc, .func (.func 93) #[] #[], .nilFunc]
/-- The field on. -/
abbrev fld6 : Value := .agg #[.int .u16 64, .string ⟨#[111, 110]⟩, .nilFunc, .nilFunc, .nilFunc, .func (.func 94) #[] #[]]
/-- The field has. -/
abbrev fld7 : Value := .agg #[.int .u16 128, .string ⟨#[104, 97, 115]⟩, .nilFunc, .nilFunc, .nilFunc, .func (.func 95) #[] #[]]
/-- The field value. -/
abbrev fld8 : Value := .agg #[.int .u16 256, .string ⟨#[118, 97, 108, 117, 101]⟩, .nilFunc, .func (.func 96) #[] #[], .nilFunc, .nilFunc]
/-- The field low. -/
abbrev fld9 : Value := .agg #[.int .u16 512, .string ⟨#[108, 111, 119]⟩, .nilFunc, .func (.func 97) #[] #[], .nilFunc, .nilFunc]
/-- The field high. -/
abbrev fld10 : Value := .agg #[.int .u16 1024, .string ⟨#[104, 105, 103, 104]⟩, .nilFunc, .func (.func 98) #[] #[], .nilFunc, .nilFunc]
/-- The field assoc. -/
abbrev fld11 : Value := .agg #[.int .u16 2048, .string ⟨#[97, 115, 115, 111, 99]⟩, .nilFunc, .nilFunc, .func (.func 99) #[] #[], .nilFunc]
def fieldsL : List Value := [.int .u16 1, .string ⟨#[112, 97, 114, 101, 110, 116]⟩, .func (.func 88) #[] #[], .nilFunc, .nilFunc, .nilFunc, .int .u16 2, .string ⟨#[116, 121, 112, 101]⟩, .nilFunc, .nilFunc, .func (.func 89) #[] #[], .nilFunc, .int .u16 4, .string ⟨#[114, 101, 102]⟩, .func (.func 90) #[] #[], .nilFunc, .nilFunc, .nilFunc, .int .u16 8, .string ⟨#[108, 111]⟩, .nilFunc, .func (.func 91) #[] #[], .nilFunc, .nilFunc, .int .u16 16, .string ⟨#[104, 105]⟩, .nilFunc, .func (.func 92) #[] #[], .nilFunc, .nilFunc, .int .u16 32, .string ⟨#[100, 105, 103, 105, 116, 115]⟩, .nilFunc, .nilFunc, .func (.func 93) #[] #[], .nilFunc, .int .u16 64, .string ⟨#[111, 110]⟩, .nilFunc, .nilFunc, .nilFunc, .func (.func 94) #[] #[], .int .u16 128, .string ⟨#[104, 97, 115]⟩, .nilFunc, .nilFunc, .nilFunc, .func (.func 95) #[] #[], .int .u16 256, .string ⟨#[118, 97, 108, 117, 101]⟩, .nilFunc, .func (.func 96) #[] #[], .nilFunc, .nilFunc, .int .u16 512, .string ⟨#[108, 111, 119]⟩, .nilFunc, .func (.func 97) #[] #[], .nilFunc, .nilFunc, .int .u16 1024, .string ⟨#[104, 105, 103, 104]⟩, .nilFunc, .func (.func 98) #[] #[], .nilFunc, .nilFunc, .int .u16 2048, .string ⟨#[97, 115, 115, 111, 99]⟩, .nilFunc, .nilFunc, .func (.func 99) #[] #[], .nilFunc]
def fieldsA : Array Value := fieldsL.toArray
set_option maxHeartbeats 8000000 in
theorem fields_any (w : World) : Calls Tryd.prog 79 #[] w fun e w' => e = .returned (.agg fieldsA) ∧ Below w.heap.size w w' := by
  have hb : Below w.heap.size w w := Below.refl _ _
  have hg : ∀ o : Obj, (w.alloc o).heap[w.heap.size]? = some o := fun o => by unfold World.alloc; simp
  go_enter Tryd.func79, Tryd.ntmps79
  go_wp2
  rw [storeAs (vs' := fieldsL) (t := 90) (cur := Tryd.zeroCells90)]
  rotate_left
  · kernel_rfl
  · exact hg _
  · kernel_rfl
  · intro v hv
    exact (List.all_eq_true (l := fieldsL)).1 (by kernel_rfl) v hv
  go_wp2
  exact ret_row rfl rfl rfl (AtC.row (hg _)) (Tryd.isAgg90 _) ((Tryd.sizeOf90 _).trans (congrArg (fun n => Result.ok n _) (by kernel_rfl))) ⟨rfl, bRow (bAl hb _) (Nat.le_refl _) _⟩
end Go.Proofs.YtmhilhdmbbdnaaaDoor
