/-
  WALK: the great statement of TreeNil, in whatever order its operations come.
-/
import Derived.Test.YtenjpimmjpkjbaaDoorRNil
import Derived.Test.YtenjpimmjpkjbaaDoorRExt
namespace Go.Proofs.YtenjpimmjpkjbaaDoor.TX
open Go.RowKit HL
open IX (ptr)
set_option maxRecDepth 100000
set_option linter.unusedVariables false
set_option linter.unusedSimpArgs false

noncomputable def nilC : Code := bodyC Tryd.f3 [1, 1, 1, 1, 0, 1, 2, 3, 1, 0, 2, 1, 1, 0]
set_option maxHeartbeats 8000000 in
theorem nil_region {o : Ob} {B0 B2 n : Nat} {p : Option Addr} {wx : World} {v2 v6 v8 v10 v11 v12 v13 v14 v15 v16 v17 v18 v19 v20 v21 v22 v23 v24 v25 v26 v27 v28 v29 v30 v31 v32 v33 v34 v35 v36 v37 v38 v39 v40 v41 v42 v43 v44 v45 v46 v47 v48 v49 v50 v51 v52 v53 v54 v55 v56 v57 v58 v59 v60 v61 v62 v63 v64 v65 v66 v67 v68 v69 v70 v71 v72 v73 v74 v75 v76 v77 v78 v79 v80 v81 v82 v83 v84 v85 v86 v87 v88 v89 v90 v91 v92 v93 v94 v95 v96 v97 v98 v99 v100 v101 v102 v103 v104 v105 v106 v107 v108 v109 v110 v111 v112 v113 v114 v115 v116 v117 v118 v119 v120 v121 v122 v123 v124 v125 v126 v127 v128 : Value} {Q : Exit → Act → World → Prop} (hn : n < 2)
    (xs : ∀ x : Ext wx, x.W.cell? ⟨B2, n, none⟩ = some (.pointer p)) (cs : ∀ x : Ext wx, ∀ i, x.W.cell? ⟨B0, i, none⟩ = (obCells o)[i]?) (hU : ∀ x : Ext wx, Unm x.W (.pointer p))
    (hQ : ∀ (u42 u43 u44 u45 u46 u47 u48 u49 u50 u51 u52 u53 u54 u55 u56 u57 u58 u59 u60 u61 u62 u63 u64 u65 u66 u67 u68 u69 u70 u71 u72 u73 u74 u75 u76 u77 u78 u79 u80 u81 u82 u83 u84 u85 u86 u87 u88 u89 u90 u91 u92 u93 u94 u95 u96 u97 u98 u99 u100 u101 u102 u103 u104 u105 u106 u107 u108 u109 u110 u111 u112 u113 u114 u115 u116 u117 u118 u119 u120 u121 u122 u123 u124 : Value) (w' : World), Below wx.heap.size wx w' → Q .normal { tmps := #[ob o, ptr B0, v2, .pointer none, .slice (some ⟨B2, 0, none⟩) 2 2, .int .i64 n, v6, .bool false, v8, .bool false, v10, v11, v12, v13, v14, v15, v16, v17, v18, v19, v20, v21, v22, v23, v24, v25, v26, v27, v28, v29, v30, v31, v32, v33, v34, v35, v36, v37, v38, v39, v40, v41, u42, u43, u44, u45, u46, u47, u48, u49, u50, u51, u52, u53, u54, u55, u56, u57, u58, u59, u60, u61, u62, u63, u64, u65, u66, u67, u68, u69, u70, u71, u72, u73, u74, u75, u76, u77, u78, u79, u80, u81, u82, u83, u84, u85, u86, u87, u88, u89, u90, u91, u92, u93, u94, u95, u96, u97, u98, u99, u100, u101, u102, u103, u104, u105, u106, u107, u108, u109, u110, u111, u112, u113, u114, u115, u116, u117, u118, u119, u120, u121, u122, u123, u124, .bool false, v126, v127, v128], defers := [] } w') :
    Code.wp Tryd.prog nilC Q { tmps := #[ob o, ptr B0, v2, .pointer none, .slice (some ⟨B2, 0, none⟩) 2 2, .int .i64 n, v6, .bool false, v8, .bool false, v10, v11, v12, v13, v14, v15, v16, v17, v18, v19, v20, v21, v22, v23, v24, v25, v26, v27, v28, v29, v30, v31, v32, v33, v34, v35, v36, v37, v38, v39, v40, v41, v42, v43, v44, v45, v46, v47, v48, v49, v50, v51, v52, v53, v54, v55, v56, v57, v58, v59, v60, v61, v62, v63, v64, v65, v66, v67, v68, v69, v70, v71, v72, v73, v74, v75, v76, v77, v78, v79, v80, v81, v82, v83, v84, v85, v86, v87, v88, v89, v90, v91, v92, v93, v94, v95, v96, v97, v98, v99, v100, v101, v102, v103, v104, v105, v106, v107, v108, v109, v110, v111, v112, v113, v114, v115, v116, v117, v118, v119, v120, v121, v122, v123, v124, v125, v126, v127, v128], defers := [] } wx := by
  have HQ := Lib.hid hQ
  have HU := Lib.hid hU
  have i1 : (n : Int) < 2 := by omega
  clear hQ hU
  conv => arg 2; simp only [nilC, bodyC, Tryd.f3, pathC]
  go_wp2_with fail
  try simp only [List.append]
  refine wp_region_ext (by kernel_rfl) (by kernel_rfl) ?_
  repeat (go_big_quiet_step (first
    | (go_at_call 11; exact ext_below (add_un _ _ _ (HU.out _)))
    | (go_at_call 12; exact ext_below (set_un _ _ _ (HU.out _)))
    | (go_at_call 13; exact ext_same (remove_un _ _ _ (HU.out _)))
    | (go_at_call 14; exact ext_same (many_no _ _ (HU.out _)))
    | (go_at_call 15; exact ext_same (slots_no _ _ (HU.out _)))
    | (go_at_call 16; exact ext_below (all_no _ _ (HU.out _)))
    | (go_at_call 17; exact ext_below (walk_no _ _ (HU.out _)))
    | (go_at_call 18; exact ext_same (kids_no _ _ _ (HU.out _)))
    | (go_at_call 19; exact ext_below (above_no _ _ _ (HU.out _)))))
  refine wpQuiet_nil ?_
  rintro _ ⟨y, rfl⟩
  exact HQ.out _ _ _ _ _ _ _ _ _ _ _ _ _ _ _ _ _ _ _ _ _ _ _ _ _ _ _ _ _ _ _ _ _ _ _ _ _ _ _ _ _ _ _ _ _ _ _ _ _ _ _ _ _ _ _ _ _ _ _ _ _ _ _ _ _ _ _ _ _ _ _ _ _ _ _ _ _ _ _ _ _ _ _ _ y.b
end Go.Proofs.YtenjpimmjpkjbaaDoor.TX
