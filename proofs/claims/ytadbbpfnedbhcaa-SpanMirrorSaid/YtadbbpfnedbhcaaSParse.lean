/-
  WALK: a span's Parse of the program.
-/
import Derived.Test.YtadbbpfnedbhcaaSMay
import Derived.Test.YtadbbpfnedbhcaaSCut
import Derived.Test.YtadbbpfnedbhcaaShelf
namespace Go.Proofs.Ytadbbpfnedbhcaa
open Go.RowKit FixMath
set_option maxRecDepth 100000
set_option linter.unusedVariables false
set_option linter.unusedSimpArgs false

theorem text_may {l : Bs} {d : Nat} (h : isText l d) : mayB (readZ l) = true := by
  have := countsB_out (isText_iff.1 h).1
  exact mayB_iff.2 (by omega)
theorem spParseV_1 {x y : Bs} {d : Nat} (h : isText x d) (k : isText y d) (l : readZ y < readZ x) : spParseV x y d = .tuple #[sp 0 0, .int .i64 30] := by unfold spParseV; rw [if_pos ⟨h, k⟩, if_pos l]
theorem spParseV_2 {x y : Bs} {d : Nat} (h : isText x d) (k : isText y d) (l : ¬ readZ y < readZ x) : spParseV x y d = .tuple #[sp (readZ x) (readZ y), .int .i64 0] := by unfold spParseV; rw [if_pos ⟨h, k⟩, if_neg l]
theorem spParseV_3 {x y : Bs} {d : Nat} (h : ¬ (isText x d ∧ isText y d)) : spParseV x y d = .tuple #[sp 0 0, .int .i64 20] := by unfold spParseV; rw [if_neg h]

theorem cutB (s : ByteArray) (hs : s.size ≤ 200) (m : Int) (w : World) (hm : w.cell? ⟨0, 0, none⟩ = some (.int .i64 m)) (x y : ByteArray) (hx : x.data.toList = (Lib.cut s.data.toList dd).1) (hy : y.data.toList = (Lib.cut s.data.toList dd).2.1) :
    Calls Try.prog 34 #[.string s, .string ⟨#[46, 46]⟩] w fun e w' => e = .returned (.tuple #[.string x, .string y, .bool (Lib.cut s.data.toList dd).2.2]) ∧ ∃ n, w' = w.drewN n := by
  have h := Try.strings_Cut s ⟨#[46, 46]⟩ m w (by omega) hm
  have ex : x = ⟨(Lib.cut s.data.toList dd).1.toArray⟩ := bytes_ext (by rw [hx])
  have ey : y = ⟨(Lib.cut s.data.toList dd).2.1.toArray⟩ := bytes_ext (by rw [hy])
  rw [ex, ey]
  exact h

theorem spParse_any (s : ByteArray) (d : Nat) (w : World) (hs : s.size ≤ 200) (m : Int) (hm : w.cell? ⟨0, 0, none⟩ = some (.int .i64 m)) (hlt : 0 < w.heap.size) :
    Calls Try.prog 25 #[.string s, .int .u8 d] w fun e w' => e = .returned (spParse s.data.toList d) ∧ Below w.heap.size w w' := by
  have hb : Below w.heap.size w w := Below.refl _ _
  obtain ⟨x, hx⟩ : ∃ x : ByteArray, x.data.toList = (Lib.cut s.data.toList dd).1 := ⟨⟨(Lib.cut s.data.toList dd).1.toArray⟩, by simp⟩
  obtain ⟨y, hy⟩ : ∃ y : ByteArray, y.data.toList = (Lib.cut s.data.toList dd).2.1 := ⟨⟨(Lib.cut s.data.toList dd).2.1.toArray⟩, by simp⟩
  have hl := cut_len s.data.toList
  rw [← hx, ← hy] at hl
  have hxs : x.size ≤ maxLen := by have := hl.1; simp at this; unfold maxLen; omega
  have hys : y.size ≤ maxLen := by have := hl.2; simp at this; unfold maxLen; omega
  have hm2 : (w.alloc (.cells #[.int .i64 0, .int .i64 0] 23)).cell? ⟨0, 0, none⟩ = some (.int .i64 m) := (World.cell?_alloc_past _ _ _ hlt).trans hm
  have CC := Lib.hid (cutB s hs m _ hm2 x y hx hy)
  have CX := fun W => Lib.hid (parse_any x d W hxs)
  have CY := fun W => Lib.hid (parse_any y d W hys)
  have HW : Hid (spParse s.data.toList d = spParseV x.data.toList y.data.toList d) := Lib.hid (by unfold spParse; rw [hx, hy])
  generalize (Lib.cut s.data.toList dd).2.2 = q at *
  clear hm hlt hm2 hx hy hl hxs hys hs
  by_cases h1 : isText x.data.toList d
  · by_cases h2 : isText y.data.toList d
    · have a1 := text_may h1
      have a2 := text_may h2
      by_cases h3 : readZ y.data.toList < readZ x.data.toList
      · have HV := Lib.hid (HW.out.trans (spParseV_1 h1 h2 h3))
        have CM := fun W => Lib.hid (spanMay_eq (spanE_3 a1 a2 h3) W)
        rw [parseV_t h1] at CX
        rw [parseV_t h2] at CY
        generalize readZ x.data.toList = lo at *
        generalize readZ y.data.toList = hi at *
        clear HW h1 h2 h3 a1 a2
        go_enter Try.func25, Try.ntmps25
        go_wp2_with (first
          | (go_at_call 34; (with_reducible refine CC.out.mono ?_); rintro e w0 ⟨rfl, n, rfl⟩; replace hb := bDrew (bAl hb (.cells #[.int .i64 0, .int .i64 0] 23)) n; have r := (At2.new w 0 0 23).drew n)
          | (go_at_call 35; first | ((with_reducible refine (CX _).out.mono ?_); rintro e w1 ⟨rfl, k1⟩; replace hb := bThen hb k1; replace r := r.then k1) | ((with_reducible refine (CY _).out.mono ?_); rintro e w1 ⟨rfl, k1⟩; replace hb := bThen hb k1; replace r := r.then k1))
          | (go_at_call 10; ((with_reducible refine (CM _).out.mono ?_); rintro e w1 ⟨rfl, k1⟩; replace hb := bThen (bAl hb _) k1; replace r := (r.al _).then k1; have p := (At2.new _ _ _ _).then k1; have r0 := r.c0; have r1 := r.c1; have g0 := r.f0; have g1 := r.f1; have p0 := p.c0; have p1 := p.c1)))
        exact ret_sp_tmp rfl rfl rfl rfl (r.set _ _) ⟨by rw [HV.out]; rfl, bSet hb (Nat.le_refl _) _ _⟩
      · have HV := Lib.hid (HW.out.trans (spParseV_2 h1 h2 h3))
        have CM := fun W => Lib.hid (spanMay_eq (spanE_4 a1 a2 h3) W)
        rw [parseV_t h1] at CX
        rw [parseV_t h2] at CY
        generalize readZ x.data.toList = lo at *
        generalize readZ y.data.toList = hi at *
        clear HW h1 h2 h3 a1 a2
        go_enter Try.func25, Try.ntmps25
        go_wp2_with (first
          | (go_at_call 34; (with_reducible refine CC.out.mono ?_); rintro e w0 ⟨rfl, n, rfl⟩; replace hb := bDrew (bAl hb (.cells #[.int .i64 0, .int .i64 0] 23)) n; have r := (At2.new w 0 0 23).drew n)
          | (go_at_call 35; first | ((with_reducible refine (CX _).out.mono ?_); rintro e w1 ⟨rfl, k1⟩; replace hb := bThen hb k1; replace r := r.then k1) | ((with_reducible refine (CY _).out.mono ?_); rintro e w1 ⟨rfl, k1⟩; replace hb := bThen hb k1; replace r := r.then k1))
          | (go_at_call 10; ((with_reducible refine (CM _).out.mono ?_); rintro e w1 ⟨rfl, k1⟩; replace hb := bThen (bAl hb _) k1; replace r := (r.al _).then k1; have p := (At2.new _ _ _ _).then k1; have r0 := r.c0; have r1 := r.c1; have g0 := r.f0; have g1 := r.f1; have p0 := p.c0; have p1 := p.c1)))
        exact ret_sp_tmp rfl rfl rfl rfl (r.set _ _) ⟨by rw [HV.out]; rfl, bSet hb (Nat.le_refl _) _ _⟩
    · have HV := Lib.hid (HW.out.trans (spParseV_3 (fun h => h2 h.2)))
      rw [parseV_t h1] at CX
      rw [parseV_f h2] at CY
      generalize readZ x.data.toList = lo at *
      clear HW h1 h2
      go_enter Try.func25, Try.ntmps25
      go_wp2_with (first
        | (go_at_call 34; (with_reducible refine CC.out.mono ?_); rintro e w0 ⟨rfl, n, rfl⟩; replace hb := bDrew (bAl hb (.cells #[.int .i64 0, .int .i64 0] 23)) n; have r := (At2.new w 0 0 23).drew n)
        | (go_at_call 35; first | ((with_reducible refine (CX _).out.mono ?_); rintro e w1 ⟨rfl, k1⟩; replace hb := bThen hb k1; replace r := r.then k1) | ((with_reducible refine (CY _).out.mono ?_); rintro e w1 ⟨rfl, k1⟩; replace hb := bThen hb k1; replace r := r.then k1; have r0 := r.c0; have r1 := r.c1; have g0 := r.f0; have g1 := r.f1)))
      exact ret_sp_tmp rfl rfl rfl rfl (r.set _ _) ⟨by rw [HV.out]; rfl, bSet hb (Nat.le_refl _) _ _⟩
  · have HV := Lib.hid (HW.out.trans (spParseV_3 (fun h => h1 h.1)))
    rw [parseV_f h1] at CX
    clear HW h1
    go_enter Try.func25, Try.ntmps25
    go_wp2_with (first
      | (go_at_call 34; (with_reducible refine CC.out.mono ?_); rintro e w0 ⟨rfl, n, rfl⟩; replace hb := bDrew (bAl hb (.cells #[.int .i64 0, .int .i64 0] 23)) n; have r := (At2.new w 0 0 23).drew n)
      | (go_at_call 35; ((with_reducible refine (CX _).out.mono ?_); rintro e w1 ⟨rfl, k1⟩; replace hb := bThen hb k1; replace r := r.then k1; have r0 := r.c0; have r1 := r.c1; have g0 := r.f0; have g1 := r.f1)))
    exact ret_sp_tmp rfl rfl rfl rfl (r.set _ _) ⟨by rw [HV.out]; rfl, bSet hb (Nat.le_refl _) _ _⟩
end Go.Proofs.Ytadbbpfnedbhcaa
