/-
  PLAIN: the order of Walk: below an object, from the top on; the way up; no object comes twice.
-/
import Derived.Test.YtlfbjgeobibnhaaGreatDoorQZ9
namespace Go.Proofs.YtlfbjgeobibnhaaGreatDoor.TX
open Go.RowKit HL
open IX (Rw keys Up)
set_option linter.unusedVariables false
set_option linter.unusedSimpArgs false

section
variable {s : Sl} {h g x : Bs} {p q : List Bs}
/-- The handles from h up to one whose Parent is not there. -/
inductive Path (s : Sl) : Bs → List Bs → Prop
  | top {h : Bs} : there s h = true → there s (pb (obAt s h)) = false → Path s h [h]
  | up {h : Bs} {p : List Bs} : there s h = true → Path s (pb (obAt s h)) p → Path s h (h :: p)
theorem Path.there (k : Path s h p) : there s h = true := by cases k <;> assumption
theorem Path.uniq (k : Path s h p) : ∀ {q : List Bs}, Path s h q → p = q := by
  induction k with
  | top h1 h2 =>
    intro q k2
    cases k2 with
    | top _ _ => rfl
    | up _ k3 => have := k3.there; rw [h2] at this; cases this
  | up h1 k3 ih =>
    intro q k2
    cases k2 with
    | top _ h2 => have := k3.there; rw [h2] at this; cases this
    | up _ k4 => rw [ih k4]
theorem Path.tail (k : Path s h p) : x ∈ p → ∃ q : List Bs, q.length ≤ p.length ∧ Path s x q := by
  induction k with
  | top h1 h2 =>
    intro hx
    obtain rfl : x = _ := by simpa using hx
    exact ⟨_, Nat.le_refl _, .top h1 h2⟩
  | up h1 k3 ih =>
    intro hx
    rcases List.mem_cons.1 hx with rfl | hx
    · exact ⟨_, Nat.le_refl _, .up h1 k3⟩
    · obtain ⟨q, l, kq⟩ := ih hx
      exact ⟨q, Nat.le_trans l (by simp), kq⟩
theorem Path.nodup (k : Path s h p) : p.Nodup := by
  induction k with
  | top _ _ => simp
  | up h1 k3 ih =>
    refine List.nodup_cons.2 ⟨fun hx => ?_, ih⟩
    obtain ⟨q, l, kq⟩ := k3.tail hx
    have := (Path.up h1 k3).uniq kq
    rw [← this] at l
    simp at l
    omega
theorem Path.mem (k : Path s h p) : ∀ x ∈ p, TX.there s x = true := by
  induction k with
  | top h1 _ => intro x hx; obtain rfl : x = _ := by simpa using hx
                exact h1
  | up h1 k3 ih =>
    intro x hx
    rcases List.mem_cons.1 hx with rfl | hx
    · exact h1
    · exact ih x hx
theorem Path.len (k : Path s h p) (hl : s.length ≤ 64) : p.length ≤ 64 := acc_len k.nodup k.mem hl
theorem kid_spec (wf : Wf s) {o : Option Bs} {r : Rw} (hr : r ∈ rowsOf s o) : TX.there s r.1 = true ∧ hb (obAt s r.1) = r.1 ∧ ∀ p, o = some p → pb (obAt s r.1) = p := by
  obtain ⟨k, a, e1, h1, h2, h3⟩ := (mem_rowsOf wf).1 hr
  obtain ⟨t1, _, t3⟩ := slotN_in wf h1
  rw [h2] at t1 t3
  exact ⟨t1, by rw [t3, h2], fun p e => by rw [t3]; exact h3 p e⟩
theorem Path.kid (wf : Wf s) (k : Path s h p) {r : Rw} (hr : r ∈ rowsOf s (some h)) : Path s r.1 (r.1 :: p) := by
  obtain ⟨t1, _, t3⟩ := kid_spec wf hr
  exact .up t1 (by rw [t3 h rfl]; exact k)
/-- An object and all below it. -/
def below (s : Sl) : Nat → Bs → List Ob
  | 0, _ => []
  | n + 1, h => obAt s h :: (rowsOf s (some h)).flatMap fun r => below s n r.1
def Fin (s : Sl) : Nat → Bs → Prop
  | 0, _ => False
  | n + 1, h => TX.there s h = true ∧ ∀ r ∈ rowsOf s (some h), Fin s n r.1
theorem fin_of_path (wf : Wf s) : ∀ (n : Nat) (h : Bs) (p : List Bs), Path s h p → 65 ≤ p.length + n → Fin s n h
  | 0, h, p, k, hn => by have := k.len wf.ln; omega
  | n + 1, h, p, k, hn => ⟨k.there, fun r hr => fin_of_path wf n r.1 (r.1 :: p) (k.kid wf hr) (by simp; omega)⟩
def topR (s : Sl) (r : Rw) : List Ob := if TX.there s (pb (obAt s r.1)) = true then [] else below s 65 r.1
/-- The walk. -/
def walkL (s : Sl) : List Ob := (rowsOf s none).flatMap (topR s)
theorem top_path (wf : Wf s) {r : Rw} (hr : r ∈ rowsOf s none) (ht : TX.there s (pb (obAt s r.1)) = false) : Path s r.1 [r.1] := .top (kid_spec wf hr).1 ht
theorem top_fin (wf : Wf s) {r : Rw} (hr : r ∈ rowsOf s none) (ht : TX.there s (pb (obAt s r.1)) = false) : Fin s 65 r.1 := fin_of_path wf 65 _ _ (top_path wf hr ht) (by simp)
theorem below_path (wf : Wf s) : ∀ (n : Nat) (h : Bs) (p : List Bs), Path s h p → ∀ a ∈ below s n h, obAt s (hb a) = a ∧ ∃ q, Path s (hb a) (q ++ p)
  | 0, h, p, k, a, ha => by cases ha
  | n + 1, h, p, k, a, ha => by
    rcases List.mem_cons.1 ha with rfl | ha
    · obtain ⟨o, h1, h2, h3, _⟩ := there_t k.there
      rw [h3, h2]
      exact ⟨h3, [], k⟩
    · obtain ⟨r, hr, ha⟩ := List.mem_flatMap.1 ha
      obtain ⟨e, q, kq⟩ := below_path wf n r.1 _ (k.kid wf hr) a ha
      exact ⟨e, q ++ [r.1], by simpa using kq⟩
def hs (l : List Ob) : List Bs := l.map hb
theorem hs_flat {α : Type} (l : List α) (f : α → List Ob) : hs (l.flatMap f) = l.flatMap fun x => hs (f x) := by unfold hs; rw [List.map_flatMap]
theorem nodup_flat {α : Type} {f : α → List Bs} : ∀ l : List α, (∀ x ∈ l, (f x).Nodup) → l.Pairwise (fun x y => ∀ z ∈ f x, z ∉ f y) → (l.flatMap f).Nodup
  | [], _, _ => by simp
  | x :: l, h1, h2 => by
    obtain ⟨h3, h4⟩ := List.pairwise_cons.1 h2
    rw [List.flatMap_cons, List.nodup_append]
    refine ⟨h1 x (by simp), nodup_flat l (fun y hy => h1 y (by simp [hy])) h4, fun a ha b hb e => ?_⟩
    subst e
    obtain ⟨y, hy, hz⟩ := List.mem_flatMap.1 hb
    exact h3 y hy a ha hz
theorem rows_apart (o : Option Bs) : (rowsOf s o).Pairwise fun a b => a.1 ≠ b.1 := by
  have this : ((rowsOf s o).map fun r : Rw => r.1).Pairwise (· < ·) := rowsOf_up s o
  rw [List.pairwise_map] at this
  exact this.imp fun h e => by rw [e] at h; exact List.lt_irrefl _ h
theorem below_nodup (wf : Wf s) : ∀ (n : Nat) (h : Bs) (p : List Bs), Path s h p → (hs (below s n h)).Nodup
  | 0, h, p, k => by simp [hs, below]
  | n + 1, h, p, k => by
    have e0 : hb (obAt s h) = h := by obtain ⟨o, h1, h2, h3, _⟩ := there_t k.there; rw [h3, h2]
    show (hb (obAt s h) :: hs ((rowsOf s (some h)).flatMap fun r => below s n r.1)).Nodup
    rw [hs_flat, e0]
    refine List.nodup_cons.2 ⟨fun hx => ?_, nodup_flat _ (fun r hr => below_nodup wf n r.1 _ (k.kid wf hr)) ?_⟩
    · obtain ⟨r, hr, hz⟩ := List.mem_flatMap.1 hx
      obtain ⟨a, ha, ea⟩ := List.mem_map.1 hz
      obtain ⟨_, q, kq⟩ := below_path wf n r.1 _ (k.kid wf hr) a ha
      rw [ea] at kq
      have := congrArg List.length (k.uniq kq)
      simp at this
      omega
    · refine (List.Pairwise.and_mem.1 (rows_apart (some h))).imp ?_
      rintro a b ⟨ha, hb', hab⟩ z hz hz2
      obtain ⟨a1, ha1, rfl⟩ := List.mem_map.1 hz
      obtain ⟨b1, hb1, e⟩ := List.mem_map.1 hz2
      obtain ⟨_, q1, k1⟩ := below_path wf n a.1 _ (k.kid wf ha) a1 ha1
      obtain ⟨_, q2, k2⟩ := below_path wf n b.1 _ (k.kid wf hb') b1 hb1
      rw [e] at k2
      have e2 := k1.uniq k2
      have := (List.append_inj' e2 (by simp)).2
      simp at this
      exact hab this
theorem walk_nodup (wf : Wf s) : (hs (walkL s)).Nodup := by
  unfold walkL
  rw [hs_flat]
  have key : ∀ r ∈ rowsOf s none, ∀ z ∈ hs (topR s r), ∃ q, Path s z (q ++ [r.1]) := fun r hr z hz => by
    obtain ⟨a, ha, rfl⟩ := List.mem_map.1 hz
    unfold topR at ha
    split at ha
    · cases ha
    · rename_i ht
      exact (below_path wf 65 r.1 _ (top_path wf hr (by simpa using ht)) a ha).2
  refine nodup_flat _ (fun r hr => ?_) ?_
  · unfold topR
    split
    · simp [hs]
    · rename_i ht; exact below_nodup wf 65 _ _ (top_path wf hr (by simpa using ht))
  · refine (List.Pairwise.and_mem.1 (rows_apart none)).imp ?_
    rintro a b ⟨ha, hb', hab⟩ z hz hz2
    obtain ⟨q1, k1⟩ := key a ha z hz
    obtain ⟨q2, k2⟩ := key b hb' z hz2
    have := (List.append_inj' (k1.uniq k2) (by simp)).2
    simp at this
    exact hab this
theorem walkL_mem (wf : Wf s) {a : Ob} (ha : a ∈ walkL s) : ∃ r ∈ rowsOf s none, TX.there s (pb (obAt s r.1)) = false ∧ a ∈ below s 65 r.1 := by
  obtain ⟨r, hr, h⟩ := List.mem_flatMap.1 ha
  unfold topR at h
  split at h
  · cases h
  · rename_i ht; exact ⟨r, hr, by simpa using ht, h⟩
theorem walk_spec (wf : Wf s) {a : Ob} (ha : a ∈ walkL s) : obAt s (hb a) = a ∧ ∃ p, Path s (hb a) p := by
  obtain ⟨r, hr, ht, h⟩ := walkL_mem wf ha
  obtain ⟨e, q, k⟩ := below_path wf 65 r.1 _ (top_path wf hr ht) a h
  exact ⟨e, _, k⟩
theorem walk_len (wf : Wf s) : (walkL s).length ≤ 64 := by
  have := acc_len (s := s) (walk_nodup wf) (fun x hx => by
    obtain ⟨a, ha, rfl⟩ := List.mem_map.1 hx
    obtain ⟨_, p, k⟩ := walk_spec wf ha
    exact k.there) wf.ln
  unfold hs at this
  rwa [List.length_map] at this
end
end Go.Proofs.YtlfbjgeobibnhaaGreatDoor.TX
/-
  WALK: the closure of Walk, which calls itself for the kids.
-/
namespace Go.Proofs.YtlfbjgeobibnhaaGreatDoor.TX
open Go.RowKit HL
open IX (ptr El cellsK OwnK IxAt Rw numOf mayS putL putE ins del takeL strK RdK keys rowK KeepA Iter)
set_option maxRecDepth 100000
set_option linter.unusedVariables false
set_option linter.unusedSimpArgs false
attribute [local go_sem] Oper.semAt_some

/-- append(own, xs...), inside a fence. -/
theorem wpListIn_spreadK {α : Type} (K : El α) {F : Fence} {n : Nat} {ops : Array Oper} {rest : List Oper} {o : Oper} {a : Act} {Q : Exit → Act → World → Prop} {w : World} (hF : ∀ f, F.fn f) (hgd : o.guard = none) (s x : Operand)
    (ho : o.op = .call { callee := .builtin .append, args := #[s, x], argTypes := #[K.T, K.T] }) (base : Nat) (v : Value) (xs : List α) (hs : a.eval s = v) (hown : OwnK K w base v xs)
    (B : Nat) (A : Option Addr) (m c : Nat) (ys : List α) (hx : a.eval x = .slice A m c) (hm : ys.length = m) (hr : RdK K w B A ys) (hl : xs.length + ys.length ≤ 1000000) (hbase : base ≤ w.heap.size)
    (h : ∀ v' w', OwnK K w' base v' (xs ++ ys) → w.grownBy w' v.ownBlock → (v'.ownBlock = v.ownBlock ∨ v'.ownBlock = some w.heap.size) → wpListIn F n Tryz.prog ops Q rest (a.put o.dst v') w') : wpListIn F n Tryz.prog ops Q (o :: rest) a w := by
  obtain ⟨v', w', h1, h2, h3, h5⟩ := IX.run_spreadK K o.type w base v xs hown B A m c ys hm hr hl hbase
  have hw : Region.wanted o (yielded ops a.tmps) = true := by simp [Region.wanted, hgd]
  unfold wpListIn
  rw [if_pos hw]
  refine ⟨fun f _ => hF f, ?_⟩
  rw [Oper.semAt_eq _ _ _ (fun c e => by rw [ho] at e; cases e)]
  simp [execOp, ho, resolve, invoke, builtin, hs, hx, h1, Result.andThen]
  exact h v' w' h2 h3 h5
def walkF (z : Nat) : Value := .func (.func 40) #[] #[ptr (z + 1), ptr z, ptr (z + 2)]
/-- The walk's own: the boxes of the tree, of what is listed, and of the closure. -/
structure WJ (w : World) (L : Lay) (W : World) (v : Value) (xs : List Ob) : Prop where
  b : Below w.heap.size w W
  l : Boxed W (w.heap.size + 1) 38 v
  t : Boxed W w.heap.size 24 (ptr L.T)
  f : Boxed W (w.heap.size + 2) 74 (walkF w.heap.size)
  o : OwnK obK W (w.heap.size + 3) v xs
/-- What a call of it leaves alone. -/
structure WG (c : Nat) (W W' : World) (v v' : Value) : Prop where
  k : IX.Kept W W' (fun k => k ≠ c ∧ v.ownBlock ≠ some k)
  f : ∀ k, v'.ownBlock = some k → v.ownBlock = some k ∨ W.heap.size ≤ k
section
variable {w W W' W2 : World} {L : Lay} {v v' v2 : Value} {xs ys : List Ob} {c : Nat}
theorem WJ.z (h : WJ w L W v xs) : w.heap.size + 3 ≤ W.heap.size := h.f.lt
theorem WJ.grown (h : WJ w L W v xs) {row : Option Nat} (g : W.grownBy W' row) (hr : ∀ k, row = some k → w.heap.size ≤ k ∧ ∃ o : Obj, W.heap[k]? = some o ∧ o.isCells = false) : WJ w L W' v xs :=
  have hc : ∀ k, row = some k → ∃ o : Obj, W.heap[k]? = some o ∧ o.isCells = false := fun k e => (hr k e).2
  ⟨h.b.grown g (by have := h.z; omega) fun k e => (hr k e).1, h.l.kept g (IX.boxed_far h.l hc), h.t.kept g (IX.boxed_far h.t hc), h.f.kept g (IX.boxed_far h.f hc), World.ownsRow.kept h.o g (IX.own_far h.o hc)⟩
theorem WJ.then (h : WJ w L W v xs) (k : Below W.heap.size W W') : WJ w L W' v xs := h.grown (IX.grownBy_of_below k) fun _ e => by cases e
theorem WG.refl : WG c W W v v := ⟨IX.Kept.refl _ _, fun _ e => .inl e⟩
theorem WG.of_below (k : Below W.heap.size W W') : WG c W W' v v := ⟨IX.Kept.of_below k, fun _ e => .inl e⟩
theorem WG.trans (h : WG c W W' v v') (k : WG c W' W2 v' v2) : WG c W W2 v v2 :=
  ⟨h.k.trans' k.k fun i hi e => ⟨e.1, fun q => (by rcases h.f i q with q | q; exact e.2 q; omega)⟩, fun i e => by
    rcases k.f i e with q | q
    · exact h.f i q
    · have := h.k.size; exact .inr (by omega)⟩
theorem WG.grown (h : WG c W W' v v') {row : Option Nat} (g : W'.grownBy W2 row) (hr : ∀ k, row = some k → W.heap.size ≤ k) : WG c W W2 v v' :=
  ⟨⟨g.os.trans h.k.os, g.tape.trans h.k.tape, g.output.trans h.k.output, Nat.le_trans h.k.size g.size, fun k hk e => (g.block k (Nat.lt_of_lt_of_le hk h.k.size) (fun q => by have := hr k q.symm; omega)).trans (h.k.block k hk e)⟩, h.f⟩
theorem WG.others (h : WG c W W' v v') (hc : ∀ o : Obj, W.heap[c]? = some o → o.isCells = true) (ho : ∀ (k : Nat) (o : Obj), v.ownBlock = some k → W.heap[k]? = some o → o.isCells = true) : KeepsOthers W W' :=
  ⟨h.k.size, fun k o hk hn => (h.k.block k (Array.getElem?_eq_some_iff.1 hk).1 ⟨fun e => (by subst e; rw [hc o hk] at hn; cases hn), fun e => (by rw [ho k o e hk] at hn; cases hn)⟩).trans hk⟩
theorem boxed_cells {W : World} {B : Nat} {t : TypeId} {v : Value} (h : Boxed W B t v) : ∀ o : Obj, W.heap[B]? = some o → o.isCells = true := fun o e => by
  have h : W.heap[B]? = some (Obj.cells #[v] t (0, 0)) := h
  rw [h] at e; cases e; rfl
theorem atC_grown {w w' : World} {B : Nat} {C : Array Value} {row : Option Nat} (h : AtC w B C) (hg : w.grownBy w' row) (hne : ∀ q, row = some q → q ≠ B) : AtC w' B C := by
  have hq : w'.heap[B]? = w.heap[B]? := hg.block B h.lt (fun e => hne B e.symm rfl)
  exact ⟨Nat.lt_of_lt_of_le h.lt hg.size, fun i => by rw [← h.c i]; simp only [World.cell?, hq], fun i => by rw [← h.f i]; simp only [World.frozen?, hq]⟩
/-- An object is put behind what is listed. -/
theorem WJ.app {Wa w1 : World} {o : Ob} (h : WJ w L W v xs) (ka : Below W.heap.size W Wa) (g : Wa.grownBy w1 v.ownBlock) (ho : OwnK obK w1 (w.heap.size + 3) v' (xs ++ [o])) (f : v'.ownBlock = v.ownBlock ∨ v'.ownBlock = some Wa.heap.size) :
    WJ w L (w1.setCell ⟨w.heap.size + 1, 0, none⟩ v') v' (xs ++ [o]) ∧ WG (w.heap.size + 1) W (w1.setCell ⟨w.heap.size + 1, 0, none⟩ v') v v' := by
  have ja := h.then ka
  have hz := ja.z
  have far : ∀ {B : Nat}, B < w.heap.size + 3 → some B ≠ v.ownBlock := fun hB e => by have := (ja.o.lt _ e.symm).1; omega
  have g2 := grownBy_setCell' w1 (w.heap.size + 1) v'
  have b1 : Below w.heap.size w w1 := ja.b.grown g (by omega) fun k e => by have := (ja.o.lt k e).1; omega
  refine ⟨⟨b1.setCell (p := ⟨w.heap.size + 1, 0, none⟩) (by show w.heap.size ≤ w.heap.size + 1; omega) _, (ja.l.kept g (far (by omega))).set v', (ja.t.kept g (far (by omega))).other (show w.heap.size ≠ w.heap.size + 1 by omega) _, (ja.f.kept g (far (by omega))).other (show w.heap.size + 2 ≠ w.heap.size + 1 by omega) _, World.ownsRow.kept ho g2 (.inr fun e => by have := (ho.lt _ e).1; omega)⟩, ⟨?_, fun k e => ?_⟩⟩
  · refine IX.Kept.set (P := fun k => k ≠ w.heap.size + 1 ∧ v.ownBlock ≠ some k) ⟨g.os.trans ka.os, g.tape.trans ka.tape, g.output.trans ka.output, Nat.le_trans ka.size g.size, fun k hk (e : k ≠ w.heap.size + 1 ∧ v.ownBlock ≠ some k) => (g.block k (Nat.lt_of_lt_of_le hk ka.size) (fun q => e.2 q.symm)).trans (ka.block k hk)⟩ (fun _ e => e.1 rfl) v'
  · rcases f with f | f
    · exact .inl (f ▸ e)
    · rw [f] at e; cases e; exact .inr ka.size
end
section
variable {w : World} {b0 : Nat} {L : Lay} {s : Sl}
/-- An object's kids: what the map has for its handle, and the iterator over them. -/
theorem kids_from (h : Tree w b0 L s) (x : ByteArray) (hx : x.size ≤ maxLen) : ∃ pv : Value, (∀ W, Below w.heap.size w W → (Instr.lookup 52 (.map (some L.M)) (.string x) false).run Tryz.prog W = .ok pv W) ∧
    ∀ W, Below w.heap.size w W → Calls Tryz.prog 39 #[pv, .string ⟨#[]⟩] W fun e w' => ∃ Bb A c, e = .returned (.func (.func 75) #[] #[.pointer (some ⟨Bb, 0, none⟩)]) ∧ Iter w' W.heap.size Bb A c (rowsOf s (some x.data.toList)) ∧ Below W.heap.size W w' := by
  cases hf : L.f x.data.toList with
  | none =>
    refine ⟨.pointer none, fun W q => ?_, fun W q => ?_⟩
    · have := (h.then q).t.m.look (k := x.data.toList) hx
      rw [hf] at this; exact this
    · rw [h.t.z _ hf]
      exact IX.from_no (.pointer none) [] W (.inl rfl)
  | some B =>
    refine ⟨ptr B, fun W q => ?_, fun W q => ?_⟩
    · have := (h.then q).t.m.look (k := x.data.toList) hx
      rw [hf] at this; exact this
    · have := IX.from_any B _ _ [] W ((h.then q).t.k _ _ hf).1 (Nat.le_trans (h.pl _) (by decide))
      rw [plc_empty, List.drop_zero] at this
      exact this
theorem flat_len {α : Type} {f : α → List Ob} : ∀ l : List α, (∀ x ∈ l, (f x).length ≤ 64) → (l.flatMap f).length ≤ 64 * l.length
  | [], _ => by simp
  | x :: l, h => by
    have h1 := h x (by simp)
    have h2 := flat_len l fun y hy => h y (by simp [hy])
    rw [List.flatMap_cons, List.length_append, List.length_cons]
    omega
def Walks (w : World) (L : Lay) (s : Sl) (n : Nat) (x : Bs) : Prop := ∀ (W : World) (v : Value) (xs : List Ob), WJ w L W v xs → xs.length + 4200 * n ≤ 900000 →
  Calls Tryz.prog 40 #[ob (obAt s x), ptr (w.heap.size + 1), ptr w.heap.size, ptr (w.heap.size + 2)] W fun e W' => e = .returned (.tuple #[]) ∧ ∃ v', WJ w L W' v' (xs ++ below s n x) ∧ WG (w.heap.size + 1) W W' v v'
set_option maxHeartbeats 8000000 in
theorem walk1_step (h : Tree w b0 L s) (n : Nat) (x : Bs) (hth : there s x = true) (h64 : ∀ r ∈ rowsOf s (some x), (below s n r.1).length ≤ 64) (ih : ∀ r ∈ rowsOf s (some x), Walks w L s n r.1) : Walks w L s (n + 1) x := by
  intro W v xs hJ hlen
  have hF : Fence.wide.fn 40 := trivial
  have hF2 : Fence.wide.fn 39 := trivial
  have hF3 : Fence.wide.fn 75 := trivial
  obtain ⟨o, hin, ho, eo, _⟩ := there_t hth
  obtain ⟨pv, hl, hfrom⟩ := kids_from h o.handle (by have := IX.mayS_len (h.wf.may _ _ hin); show (hb o).length ≤ _; unfold maxLen; omega)
  have HL := Lib.hid hl
  have CF := Lib.hid hfrom
  have HB : Hid (below s (n + 1) x = o :: (rowsOf s (some x)).flatMap fun r => below s n r.1) := Lib.hid (by rw [← eo]; rfl)
  have e1 : rowsOf s (some o.handle.data.toList) = rowsOf s (some x) := by rw [← ho]
  rw [e1] at CF
  rw [HB.out]
  rw [eo]
  have HT := Lib.hid h
  have IH := Lib.hid ih
  have H64 := Lib.hid h64
  have HJ := Lib.hid hJ
  have HLEN := Lib.hid hlen
  clear h hl hfrom ih h64 hJ hlen hin eo e1 hth
  refine (callsIn_wide (n := 9)).1 ?_
  refine callsIn_of_wp_marks Tryz.func40 rfl hF ?_ rfl
  simp only [Tryz.ntmps40, List.size_toArray, List.length_cons, List.length_nil, Nat.reduceAdd, Nat.reduceSub, Array.replicate_succ, Array.replicate_zero, List.push_toArray, List.append_toArray, List.nil_append, List.cons_append]
  have ja := HJ.out.then (bAl (Below.refl _ W) (.cells (obCells o) 33))
  have cl := ja.l.cell
  have ho0 : OwnK obK ((W.alloc (.cells (obCells o) 33)).alloc (.cells (obCells o) 33)) (w.heap.size + 3) v xs := ja.o.below (bAl (Below.refl _ _) _)
  have HO0 := Lib.hid ho0
  clear ho0
  have RD : Hid (RdK obK ((W.alloc (.cells (obCells o) 33)).alloc (.cells (obCells o) 33)) (W.heap.size + 1 + 1) (some ⟨W.heap.size + 1, 0, none⟩) [o]) := Lib.hid (by
    have := RdK.lit (K := obK) (W.alloc (.cells (obCells o) 33)) o (obCells o) rfl 33
    simpa using this)
  have KA : Hid (Below W.heap.size W ((W.alloc (.cells (obCells o) 33)).alloc (.cells (obCells o) 33))) := Lib.hid (bAl (bAl (Below.refl _ W) _) _)
  have MO : Hid (AtC ((W.alloc (.cells (obCells o) 33)).alloc (.cells (obCells o) 33)) W.heap.size (obCells o)) := Lib.hid ((AtC.new W (obCells o) 33).al _)
  have hz := HJ.out.z
  have hx1 : xs.length + 1 ≤ 100000 * 10 := by have := HLEN.out; omega
  clear ja
  gi_wp2_with (gi_at_builtin; refine wpListIn_spreadK obK (fun _ => trivial) rfl (.tmp 7) (.tmp 9) rfl (w.heap.size + 3) v xs rfl HO0.out (W.heap.size + 1 + 1) (some ⟨W.heap.size + 1, 0, none⟩) 1 1 [o] rfl rfl RD.out (show xs.length + 1 ≤ 1000000 from (by omega)) (by (show w.heap.size + 3 ≤ ((W.alloc _).alloc _).heap.size); simp; omega) ?_)
  intro v' w1 o1 g1 f1
  obtain ⟨A9, c9, rfl, _, _⟩ := OwnK.form o1
  have e1 : (xs ++ [o]).length = xs.length + 1 := (by simp)
  have j1 := HJ.out.app KA.out g1 o1 (f1.imp id (fun e => e.trans (by simp)))
  have hne : some (w.heap.size + 1) ≠ v.ownBlock := fun e => (by have := (HJ.out.o.lt _ e.symm).1; omega)
  have m1 : AtC w1 W.heap.size (obCells o) := atC_grown MO.out g1 (fun q e => (by have := (HJ.out.o.lt _ e).2; omega))
  have m2 := m1.store (p := ⟨w.heap.size + 1, 0, none⟩) (show w.heap.size + 1 ≠ W.heap.size from (by omega)) (.slice A9 (xs ++ [o]).length c9)
  have hv1 := ((HJ.out.then KA.out).l).kept g1 hne
  rw [e1] at j1 m2
  have cl1 := hv1.cell
  have fl1 := hv1.frozen
  have J1 := Lib.hid j1.1
  have G1 := Lib.hid j1.2
  have M2 := Lib.hid m2
  have ct := j1.1.t.cell
  have c3 := (HT.out.then j1.1.b).t.c3
  have ch := m2.c 0
  have ch : (w1.setCell ⟨w.heap.size + 1, 0, none⟩ (.slice A9 (xs.length + 1) c9)).cell? ⟨W.heap.size, 0, none⟩ = some (.string o.handle) := ch
  clear o1 g1 f1 j1 m1 m2 hv1 hne e1
  gi_wp2
  generalize w1.setCell ⟨w.heap.size + 1, 0, none⟩ (.slice A9 (xs.length + 1) c9) = w2 at *
  generalize (.slice A9 (xs.length + 1) c9 : Value) = nv at *
  refine wpIn_wide.2 ?_
  have BD : Hid (Below w.heap.size w w2.drew) := Lib.hid J1.out.b.drew
  have hlk : (Instr.lookup 52 (.map (some L.M)) (.string o.handle) false).run Tryz.prog w2.drew = .ok pv w2.drew := HL.out _ BD.out
  have hbs : w2.heap.size = w2.drew.heap.size := rfl
  clear cl1 fl1
  go_still_tail 7, (by kernel_rfl)
  change wpList _ _ _ _ _ w2.drew
  go_wp2_with fail
  refine (CF.out _ BD.out).mono ?_
  rintro e w3 ⟨Bb, A, c, rfl, it, k3⟩
  have IT := Lib.hid it
  have hD3 : Below w2.heap.size w2 w3 := (Below.refl _ w2).drew.trans k3
  have J3 := Lib.hid (J1.out.then hD3)
  have G3 := Lib.hid (G1.out.trans (WG.of_below hD3))
  have hz2 := J1.out.z
  have hz3 : w2.heap.size ≤ w3.heap.size := hD3.size
  have hzW : W.heap.size ≤ w2.heap.size := G1.out.k.size
  have hBb : Bb < w3.heap.size := IT.out.box.lt
  have hAb : ∀ a, A = some a → w2.heap.size ≤ a.block ∧ a.block < w3.heap.size := fun a e => IT.out.own.lt a.block (by rw [e]; rfl)
  have hAn : ∀ k, nv.ownBlock = some k → ∀ a, A = some a → k ≠ a.block := fun k e a ea => by have := (J1.out.o.lt k e).2; have := (hAb a ea).1; omega
  have hrl := HT.out.pl (some x)
  have hseq := each_stops_in Fence.wide (9 - 1) hF3 rfl (by omega) Bb A c (rowsOf s (some x)) w3 IT.out.box.cell hBb ((OwnK.form IT.out.own).elim fun A' ⟨c', e, r, _⟩ => by cases e; exact r) (by omega)
  clear it k3 ct c3 ch hlk hbs
  go_wp2_with fail
  gi_wp2
  refine wpIn_rangeFunc_ownG rfl (by omega) (gf := 75) (lb := #[.pointer (some ⟨Bb, 0, none⟩)]) rfl hF3 (enters_of Tryz.func75 (by kernel_rfl) rfl)
    hseq (fun h k => h.t k) (IX.keepA_b (w := w3) (fun a e => (hAb a e).2)) (Below.refl _ _) (fun _ => rfl)
    (fun pre W' => ∃ v', WJ w L W' v' (xs ++ o :: pre.flatMap fun r => below s n r.1.1) ∧ WG (w.heap.size + 1) W W' v v' ∧ w3.heap.size ≤ W'.heap.size ∧ ∀ k, v'.ownBlock = some k → ∀ a, A = some a → k ≠ a.block)
    (fun _ _ _ => False)
    ?own
    (fun _ _ _ _ _ h _ _ => h)
    ⟨nv, J3.out, G3.out, Nat.le_refl _, hAn⟩
    (fun r => { tmps := #[ob o, ptr (w.heap.size + 1), ptr w.heap.size, ptr (w.heap.size + 2), ptr W.heap.size, undef, .int .i64 r.1.2, v, ob o, .slice (some ⟨W.heap.size + 1, 0, none⟩) 1 1, .slice A9 (xs.length + 1) c9, ptr L.T, ptr L.T, .pointer (some ⟨L.T, 3, none⟩), .map (some L.M), ptr W.heap.size, .string o.handle, pv, .func (.func 75) #[] #[.pointer (some ⟨Bb, 0, none⟩)], str r.1.1, .int .i64 r.1.2, undef, undef, undef, undef, undef, undef, undef, undef], defers := [] }) ?assign ?body ?done ?stop
  case own =>
    rintro pre W1 W2 row ⟨v', j, g, hs, hn⟩ hgr hr
    exact ⟨v', j.grown hgr (fun k e => ⟨by have := (hr k e).1; omega, (hr k e).2⟩), g.grown hgr (fun k e => by have := (hr k e).1; omega), Nat.le_trans hs hgr.size, hn⟩
  case assign =>
    intro l r W1 K hK
    gi_wp2
    exact hK
  case body =>
    rintro l' pre ⟨⟨hd, nn⟩, hx⟩ W1 ⟨v', j, g, hs, hn⟩ hlt
    obtain ⟨k, ek, hk64, hin, _⟩ := row_slot HT.out.wf hx
    obtain rfl : nn = (k : Int) := ek
    have hk2 : (k : Int) < 64 := by omega
    obtain ⟨c0, c1, c2, c3, c4, c5, c6, c7, c8, c9, c10, c11, c12, c13⟩ := slot_cells (HT.out.then j.b).t.c hk64 hin
    have hfl := flat_len pre fun r _ => H64.out r.1 r.2
    have CW := Lib.hid (IH.out (hd, (k : Int)) hx W1.drew v' _ (j.then (Below.refl _ W1).drew) (by have := HLEN.out; rw [List.length_append, List.length_cons]; omega))
    have cf : W1.cell? ⟨w.heap.size + 2, 0, none⟩ = some (.func (.func 40) #[] #[ptr (w.heap.size + 1), ptr w.heap.size, ptr (w.heap.size + 2)]) := j.f.cell
    have ct := j.t.cell
    have HJ1 := Lib.hid j
    have HG1 := Lib.hid g
    have HPF : Hid ((xs ++ o :: (pre ++ [(⟨(hd, (k : Int)), hx⟩ : {r : Rw // r ∈ rowsOf s (some x)})]).flatMap fun r => below s n r.1.1) = (xs ++ o :: pre.flatMap fun r => below s n r.1.1) ++ below s n hd) := Lib.hid (by simp)
    clear j g hseq
    generalize obAt s hd = o' at c0 c1 c2 c3 c4 c5 c6 c7 c8 c9 c10 c11 c12 c13 CW
    gi_wp2
    refine round_region 7 (by kernel_rfl) (by kernel_rfl) (by kernel_rfl) ?_
    simp only [List.take_succ_cons, List.take_zero, List.drop_succ_cons, List.drop_zero]
    repeat still_step
    refine wpStill_nil ?_
    gi_wp2_with (gi_at_call 40; refine (CallsIn.inRound l' (callsIn_wide.2 CW.out)).mono ?_; rintro e W2 ⟨rfl, v2, j2, g2⟩)
    have g3 : WG (w.heap.size + 1) W1 W2 v' v2 := (WG.of_below (Below.refl _ W1).drew).trans g2
    refine ⟨(g3.others (boxed_cells HJ1.out.l) (fun q ob e1 e2 => own_cells HJ1.out.o e1 e2)).from _, fun a e => g3.k.block a.block ?_ ⟨?_, fun e2 => hn _ e2 a e rfl⟩, v2, ?_, HG1.out.trans g3, Nat.le_trans hs g3.k.size, fun q e a ea => ?_⟩
    · have := (hAb a e).2; omega
    · have := (hAb a e).1; omega
    · rw [HPF.out]; exact j2
    · rcases g3.f q e with h9 | h9
      · exact hn q h9 a ea
      · have := (hAb a ea).2; omega
  case done =>
    rintro D ys W1 hD hys ⟨v', j, g, hs, hn⟩ hK
    have HE : Hid ((xs ++ o :: ys.flatMap fun r => below s n r.1.1) = xs ++ o :: (rowsOf s (some x)).flatMap fun r => below s n r.1) := Lib.hid (by have q := congrArg (fun l : List Rw => l.flatMap fun r => below s n r.1) hys; simp only [List.flatMap_map] at q; rw [q])
    have HJ1 := Lib.hid j
    have HG1 := Lib.hid g
    clear j g hseq
    gi_wp2
    refine ⟨by simp, .inl ⟨_, _, rfl, run_takeDeferred hK, ?_⟩⟩
    have hr : ∀ k, some D = some k → w3.heap.size ≤ k ∧ ∃ ob : Obj, W1.heap[k]? = some ob ∧ ob.isCells = false := fun k e => by cases e; exact ⟨hD, _, hK, rfl⟩
    refine ⟨.tuple #[], ?_, rfl, v', ?_, HG1.out.grown (grownBy_putObj' W1 D (.deferred none)) fun k e => by have := (hr k e).1; omega⟩
    · simp [results, Tryz.f40, go_sem]
    · rw [← HE.out]
      exact HJ1.out.grown (grownBy_putObj' W1 D (.deferred none)) fun k e => ⟨by have := (hr k e).1; omega, (hr k e).2⟩
  case stop =>
    rintro D c pre W hD hpre h hK
    exact h.elim
theorem below_len (wf : Wf s) {n : Nat} {x : Bs} {p : List Bs} (k : Path s x p) : (below s n x).length ≤ 64 := by
  have := acc_len (s := s) (below_nodup wf n x p k) (fun y hy => by
    obtain ⟨a, ha, rfl⟩ := List.mem_map.1 hy
    obtain ⟨_, q, kq⟩ := below_path wf n x p k a ha
    exact kq.there) wf.ln
  unfold hs at this
  rwa [List.length_map] at this
theorem walk1_any (h : Tree w b0 L s) : ∀ (n : Nat) (x : Bs) (p : List Bs), Path s x p → Fin s n x → Walks w L s n x
  | 0, _, _, _, f => f.elim
  | n + 1, x, p, k, f => walk1_step h n x k.there (fun r hr => below_len h.wf (k.kid h.wf hr)) fun r hr => walk1_any h n r.1 _ (k.kid h.wf hr) (f.2 r hr)
end
end Go.Proofs.YtlfbjgeobibnhaaGreatDoor.TX
/-
  WALK: Walk of a tree.
-/
namespace Go.Proofs.YtlfbjgeobibnhaaGreatDoor.TX
open Go.RowKit HL
open IX (ptr El cellsK cellsK_at OwnK IxAt Rw numOf mayS putL putE ins del takeL strK RdK keys rowK KeepA Iter)
set_option maxRecDepth 100000
set_option linter.unusedVariables false
set_option linter.unusedSimpArgs false

section
variable {w : World} {b0 : Nat} {L : Lay} {s : Sl}
theorem obs_at {w : World} {B : Nat} {A : Option Addr} {l : List Ob} (h : RdK obK w B A l) (h0 : 0 < l.length) : ∃ b off, A = some ⟨b, off, none⟩ ∧ b < B ∧ ∀ j o, l[j]? = some o → w.cell? ⟨b, off + j * 14, none⟩ = some (.string o.handle) ∧ w.cell? ⟨b, off + j * 14 + 1, none⟩ = some (.int .u8 o.kind) ∧ w.cell? ⟨b, off + j * 14 + 2, none⟩ = some (.string o.parent) ∧ w.cell? ⟨b, off + j * 14 + 3, none⟩ = some (.int .u8 o.typ) ∧ w.cell? ⟨b, off + j * 14 + 4, none⟩ = some (.string o.ref) ∧ w.cell? ⟨b, off + j * 14 + 5, none⟩ = some (.int .i64 o.lo) ∧ w.cell? ⟨b, off + j * 14 + 6, none⟩ = some (.int .i64 o.hi) ∧ w.cell? ⟨b, off + j * 14 + 7, none⟩ = some (.int .u8 o.digits) ∧ w.cell? ⟨b, off + j * 14 + 8, none⟩ = some (.bool o.on) ∧ w.cell? ⟨b, off + j * 14 + 9, none⟩ = some (.bool o.has) ∧ w.cell? ⟨b, off + j * 14 + 10, none⟩ = some (.int .i64 o.value) ∧ w.cell? ⟨b, off + j * 14 + 11, none⟩ = some (.int .i64 o.low) ∧ w.cell? ⟨b, off + j * 14 + 12, none⟩ = some (.int .i64 o.high) ∧ w.cell? ⟨b, off + j * 14 + 13, none⟩ = some (.int .u8 o.assoc) := by
  rcases h with rfl | ⟨b, off, e, hb, hc⟩
  · simp at h0
  · refine ⟨b, off, e, hb, fun j o hx => ?_⟩
    have q : ∀ (i : Nat) (u : Value), (obCells o)[i]? = some u → w.cell? ⟨b, off + j * 14 + i, none⟩ = some u := fun i u hu => by
      have := hc _ _ (cellsK_at obK hx (i := i) (u := u) (by rw [← hu]; exact Array.getElem?_toList))
      rw [Nat.add_assoc]; exact this
    exact ⟨q 0 _ rfl, q 1 _ rfl, q 2 _ rfl, q 3 _ rfl, q 4 _ rfl, q 5 _ rfl, q 6 _ rfl, q 7 _ rfl, q 8 _ rfl, q 9 _ rfl, q 10 _ rfl, q 11 _ rfl, q 12 _ rfl, q 13 _ rfl⟩
theorem WJ.init (w : World) (L : Lay) : WJ w L (((w.alloc (.cells #[ptr L.T] 24)).alloc (.cells #[.slice none 0 0] 38)).alloc (.cells #[walkF w.heap.size] 74)) (.slice none 0 0) [] := by
  have hz1 : (w.alloc (.cells #[ptr L.T] 24)).heap.size = w.heap.size + 1 := by simp
  have hz2 : ((w.alloc (.cells #[ptr L.T] 24)).alloc (.cells #[.slice none 0 0] 38)).heap.size = w.heap.size + 2 := by simp
  have b1 := Boxed.new w 24 (ptr L.T)
  have b2 := Boxed.new (w.alloc (.cells #[ptr L.T] 24)) 38 (.slice none 0 0)
  have b3 := Boxed.new ((w.alloc (.cells #[ptr L.T] 24)).alloc (.cells #[.slice none 0 0] 38)) 74 (walkF w.heap.size)
  rw [hz1] at b2
  rw [hz2] at b3
  exact ⟨bAl (bAl (bAl (Below.refl _ w) _) _) _, b2.alloc _, (b1.alloc _).alloc _, b3, OwnK.nil_ _ _ _⟩
set_option maxHeartbeats 4000000 in
theorem walk_any (h : Tree w b0 L s) : Calls Tryz.prog 13 #[ptr L.T] w fun e w' => ∃ v', e = .returned v' ∧ OwnK obK w' w.heap.size v' (walkL s) ∧ Below w.heap.size w w' := by
  have HT := Lib.hid h
  have CA := Lib.hid (fun W (q : Below w.heap.size w W) => all_any (h.then q))
  have CS := Lib.hid (fun W (q : Below w.heap.size w W) x => slot_any (h.then q) x)
  have J0 := Lib.hid (WJ.init w L)
  clear h
  go_enter Tryz.func13, Tryz.ntmps13
  go_wp2_with (go_at_call 11; refine (CA.out _ J0.out.b).mono ?_; rintro e w5 ⟨vA, rfl, o5, k5⟩; obtain ⟨A, cA, rfl, rA, _, _⟩ := OwnK.form o5)
  have J5 := Lib.hid (J0.out.then k5)
  have hz5 : w.heap.size + 3 ≤ (((w.alloc (.cells #[ptr L.T] 24)).alloc (.cells #[.slice none 0 0] 38)).alloc (.cells #[walkF w.heap.size] 74)).heap.size := by simp
  have O5 := Lib.hid (o5.base hz5)
  have HLN : Hid ((obsR s (rowsOf s none)).length = (rowsOf s none).length) := Lib.hid (by simp [obsR])
  have hlen : (obsR s (rowsOf s none)).length ≤ 64 := by rw [HLN.out]; exact HT.out.pl none
  have HAT : Hid (∀ (j : Nat) (hj : j < (rowsOf s none).length), (obsR s (rowsOf s none))[j]? = some (obAt s (rowsOf s none)[j].1)) := Lib.hid (fun j hj => by simp [obsR, hj])
  clear o5 k5 rA J0 CA hz5
  generalize obsR s (rowsOf s none) = l at *
  go_loopw [13] (fun i wr => ∃ (k : Nat) (v : Value), i = .int .i64 k ∧ k ≤ l.length ∧ WJ w L wr v (((rowsOf s none).take k).flatMap (topR s)) ∧ OwnK obK wr (w.heap.size + 3) (.slice A l.length cA) l ∧ ∀ q, v.ownBlock = some q → (Value.slice A l.length cA).ownBlock ≠ some q) (fun i _ => l.length - (intOf i).toNat)
  case atStart => exact ⟨0, _, rfl, Nat.zero_le _, by simpa using J5.out, O5.out, fun q e => by simp [Value.ownBlock] at e⟩
  case round =>
    obtain ⟨k, v, rfl, hk, j, oa, hn⟩ := hrel
    by_cases hlt : k < l.length
    · have rr : RdK obK wr wr.heap.size A l := by
        obtain ⟨A', c', e, r, _⟩ := OwnK.form oa
        cases e; exact r
      obtain ⟨b, off, rfl, hbB, hc⟩ := obs_at rr (by omega)
      have hkr : k < (rowsOf s none).length := by rw [← HLN.out]; exact hlt
      have hrow : (rowsOf s none)[k] ∈ rowsOf s none := List.getElem_mem hkr
      have hTK : Hid ((rowsOf s none).take (k + 1) = (rowsOf s none).take k ++ [(rowsOf s none)[k]]) := Lib.hid (List.take_succ_eq_append_getElem hkr)
      have ht : topR s (rowsOf s none)[k] = if there s (pb (obAt s (rowsOf s none)[k].1)) = true then [] else below s 65 (rowsOf s none)[k].1 := rfl
      obtain ⟨c0, c1, c2, c3, c4, c5, c6, c7, c8, c9, c10, c11, c12, c13⟩ := hc k _ (HAT.out k hkr)
      generalize (rowsOf s none)[k] = r at *
      obtain ⟨o, ho⟩ : ∃ o, obAt s r.1 = o := ⟨_, rfl⟩
      rw [ho] at c0 c1 c2 c3 c4 c5 c6 c7 c8 c9 c10 c11 c12 c13 ht
      have i1 : (k : Int) < l.length := by omega
      have HJ := Lib.hid j
      have OA := Lib.hid oa
      have HN := Lib.hid hn
      have J6 := Lib.hid (j.then (bAl (Below.refl _ wr) (.cells (obCells o) 33)))
      have ct := J6.out.t.cell
      have CS6 := Lib.hid (CS.out _ J6.out.b o.parent)
      have hxs : (((rowsOf s none).take k).flatMap (topR s)).length ≤ 64 * 64 := by
        refine Nat.le_trans (flat_len _ fun q hq => ?_) (Nat.mul_le_mul_left 64 (by rw [List.length_take]; omega))
        unfold topR
        split
        · simp
        · rename_i hq2; exact below_len HT.out.wf (top_path HT.out.wf (List.mem_of_mem_take hq) (by simpa using hq2))
      have HXS := Lib.hid hxs
      clear j oa hc hn hxs rr
      cases hth : there s (pb o) with
      | true =>
        rw [hth] at ht CS6
        have HT2 : Hid (topR s r = []) := Lib.hid (by rw [ht]; rfl)
        have CS6 : Hid (Calls Tryz.prog 29 #[ptr L.T, .string o.parent] (wr.alloc (.cells (obCells o) 33)) fun e w' => e = .returned (.tuple #[.int .i64 (slotN s o.parent.data.toList : Int), .bool true]) ∧ Below (wr.alloc (.cells (obCells o) 33)).heap.size (wr.alloc (.cells (obCells o) 33)) w') := CS6
        clear ht hth
        go_wp2_with (go_at_call 29; refine CS6.out.mono ?_; rintro e w7 ⟨rfl, k7⟩)
        go_roundw
        case rel =>
          refine ⟨k + 1, v, by go_num, by omega, ?_, (OA.out.below (bAl (Below.refl _ wr) _)).below k7, HN.out⟩
          rw [hTK.out, List.flatMap_append, List.flatMap_cons, HT2.out]
          simpa using J6.out.then k7
        case measure => simp [intOf]; omega
      | false =>
        rw [hth] at ht CS6
        have HT2 : Hid (topR s r = below s 65 r.1) := Lib.hid (by rw [ht]; rfl)
        have CW : Hid (Walks w L s 65 r.1) := Lib.hid (walk1_any HT.out 65 r.1 _ (top_path HT.out.wf hrow (by rw [ho]; exact hth)) (top_fin HT.out.wf hrow (by rw [ho]; exact hth)))
        unfold Walks at CW
        rw [ho] at CW
        clear ht hth
        have HWW : Hid (wr.heap.size ≤ (wr.alloc (.cells (obCells o) 33)).heap.size) := Lib.hid (by simp)
        go_wp2_with (first
          | (go_at_call 29; refine CS6.out.mono ?_; rintro e w7 ⟨rfl, k7⟩; have M7 := ((AtC.new wr (obCells o) 33).then k7).c; have J7 := Lib.hid (J6.out.then k7); have cf : w7.cell? ⟨w.heap.size + 2, 0, none⟩ = some (.func (.func 40) #[] #[ptr (w.heap.size + 1), ptr w.heap.size, ptr (w.heap.size + 2)]) := J7.out.f.cell)
          | (go_at_call 40; refine (CW.out w7 v _ J7.out (by have := HXS.out; omega)).mono ?_; rintro e w8 ⟨rfl, v2, j8, g8⟩))
        go_roundw
        case rel =>
          have o7 := (OA.out.below (bAl (Below.refl _ wr) _)).below k7
          have hz7 := k7.size
          refine ⟨k + 1, v2, by go_num, by omega, ?_, o7.kept g8.k (fun q e => ⟨fun h => by have := (OA.out.lt q e).1; omega, fun h => HN.out q h e⟩), fun q e e2 => ?_⟩
          · rw [hTK.out, List.flatMap_append, List.flatMap_cons, HT2.out]
            simpa using j8
          · rcases g8.f q e with h9 | h9
            · exact HN.out q h9 e2
            · have := (OA.out.lt q e2).2; have := HWW.out; omega
        case measure => simp [intOf]; omega
    · obtain rfl : k = l.length := by omega
      have HR : Hid (((rowsOf s none).take l.length).flatMap (topR s) = walkL s) := Lib.hid (by rw [HLN.out, List.take_length]; rfl)
      have cl := j.l.cell
      have HJ := Lib.hid j
      have i1 : ¬ (l.length : Int) < l.length := by omega
      clear j oa hn
      go_wp2
      go_ret
      exact ⟨v, rfl, by rw [← HR.out]; exact HJ.out.o.base (by omega), HJ.out.b⟩
end
end Go.Proofs.YtlfbjgeobibnhaaGreatDoor.TX
