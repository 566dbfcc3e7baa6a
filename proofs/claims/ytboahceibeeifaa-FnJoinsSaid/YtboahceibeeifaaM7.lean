/- Joins: the joins of a layout: the tree of its cuts; the numbers of the patches. Rows of joins: an element stored; a row that is owned. Rows of joins: taken from the law's own type. Joins: a row appended to a row that is owned, whether it is empty or not; rows of joins that are owned. -/
import Derived.Test.YtboahceibeeifaaJnN
import Derived.Test.YtboahceibeeifaaCutP
import Derived.Test.YtboahceibeeifaaCutV
import Derived.Test.YtboahceibeeifaaJnF
import Derived.Test.YtboahceibeeifaaBlkR
import Derived.Laws.OwnMore
import Derived.Test.YtboahceibeeifaaBlkT
import Derived.WalkSmall
import Derived.BigQuiet
import Derived.Outline
import Derived.IntWalk
import Derived.OwnWalk
import Derived.Test.YtboahceibeeifaaLayB
import Derived.Deep.AppendLies
import Derived.ArgAppend

set_option linter.unusedSimpArgs false
set_option linter.unusedVariables false
namespace Go.Proofs.Ytboahceibeeifaa

/-- The numbers of the patches on one side of the line. -/
def idxs (c : C2) (b : Bool) (xs : List P5) (k : Nat) : List Nat := (List.range k).filter fun i => sel2 c (pat xs i) == b
def numK (c : C2) (b : Bool) (xs : List P5) (ns : List Int) (k : Nat) : List Int := (idxs c b xs k).map fun i => ns.getD i 0
theorem numK_yes {c : C2} {b : Bool} {xs : List P5} {ns : List Int} {k : Nat} (h : sel2 c (pat xs k) = b) : numK c b xs ns (k + 1) = numK c b xs ns k ++ [ns.getD k 0] := by
  have e : [k].filter (fun i => sel2 c (pat xs i) == b) = [k] := List.filter_cons_of_pos (by rw [h]; exact beq_self_eq_true b)
  unfold numK idxs
  rw [List.range_succ, List.filter_append, e, List.map_append]; rfl
theorem numK_no {c : C2} {b : Bool} {xs : List P5} {ns : List Int} {k : Nat} (h : sel2 c (pat xs k) ≠ b) : numK c b xs ns (k + 1) = numK c b xs ns k := by
  have e : [k].filter (fun i => sel2 c (pat xs i) == b) = [] := List.filter_cons_of_neg (by rw [beq_iff_eq]; exact h)
  unfold numK idxs
  rw [List.range_succ, List.filter_append, e, List.append_nil]
theorem idxs_len (c : C2) (b : Bool) (xs : List P5) (k : Nat) : (idxs c b xs k).length ≤ k := by
  have := List.length_filter_le (fun i => sel2 c (pat xs i) == b) (List.range k)
  simpa [idxs] using this
theorem numK_len (c : C2) (b : Bool) (xs : List P5) (ns : List Int) (k : Nat) : (numK c b xs ns k).length ≤ k := by
  have := idxs_len c b xs k
  simpa [numK] using this
theorem idxs_lt {c : C2} {b : Bool} {xs : List P5} {k i : Nat} (h : i ∈ idxs c b xs k) : i < k := by
  simpa using (List.mem_filter.1 h).1
theorem map_range (xs : List P5) : (List.range xs.length).map (pat xs) = xs := by
  apply List.ext_getElem (by simp)
  intro i h1 h2
  simp only [List.getElem_map, List.getElem_range]
  exact pat_get h2
theorem filter_idx (c : C2) (b : Bool) (xs : List P5) : (xs.filter fun p => sel2 c p == b) = (idxs c b xs xs.length).map (pat xs) := by
  have : (xs.filter fun p => sel2 c p == b) = ((List.range xs.length).map (pat xs)).filter fun p => sel2 c p == b := by rw [map_range]
  rw [this, List.filter_map]; rfl
variable {m n : Int} {xs : List P5} {c : C2}
theorem pL1_idx (h : LayOk m n xs) (hc : hasC m n xs c = true) : pL1 m n c xs = (idxs c false xs xs.length).map (pat xs) := by
  rw [pL1_sel h hc, ← filter_idx]
  refine List.filter_congr (fun p _ => ?_)
  cases sel2 c p <;> rfl
theorem pL2_idx (h : LayOk m n xs) (hc : hasC m n xs c = true) : pL2 m n c xs = ((idxs c true xs xs.length).map (pat xs)).map (mv (pX2 c) (pY2 c)) := by
  rw [pL2_sel h hc, ← filter_idx]
  congr 1
  refine List.filter_congr (fun p _ => ?_)
  cases sel2 c p <;> rfl
theorem num1_len (h : LayOk m n xs) (hc : hasC m n xs c = true) (ns : List Int) : (numK c false xs ns xs.length).length = (pL1 m n c xs).length := by
  rw [pL1_idx h hc]; simp [numK]
theorem num2_len (h : LayOk m n xs) (hc : hasC m n xs c = true) (ns : List Int) : (numK c true xs ns xs.length).length = (pL2 m n c xs).length := by
  rw [pL2_idx h hc]; simp [numK]

/-- The joins of a part whose patches have these numbers; the next number; the unit that they make. -/
inductive TreeIs : Int → Int → List P5 → List Int → Int → List J3 → Int → Bool → Prop
  | one {m n : Int} {xs : List P5} {ns : List Int} {t : Int} (h : LayOk m n xs) (hl : xs.length = 1) (hn : ns.length = xs.length) : TreeIs m n xs ns t [] (ns.getD 0 0) true
  | knot {m n : Int} {xs : List P5} {ns : List Int} {t : Int} (h : LayOk m n xs) (hl : xs.length ≠ 1) (hn : ns.length = xs.length) (hc : cutsL m n xs = []) : TreeIs m n xs ns t [] 0 false
  | join {m n : Int} {xs : List P5} {ns : List Int} {t : Int} {c : C2} {r : List C2} {j1 j2 : List J3} {u1 u2 : Int} {b1 b2 : Bool} (h : LayOk m n xs) (hl : xs.length ≠ 1) (hn : ns.length = xs.length) (hc : cutsL m n xs = c :: r)
      (t1 : TreeIs (pM1 m c) (pN1 n c) (pL1 m n c xs) (numK c false xs ns xs.length) t j1 u1 b1) (t2 : TreeIs (pM2 m c) (pN2 n c) (pL2 m n c xs) (numK c true xs ns xs.length) (t + j1.length) j2 u2 b2) :
      TreeIs m n xs ns t (if b1 && b2 then j1 ++ j2 ++ [⟨c.up, u1, u2⟩] else []) (if b1 && b2 then t + (j1.length + j2.length) else 0) (b1 && b2)
theorem TreeIs.lay {ns : List Int} {t : Int} {js : List J3} {u : Int} {b : Bool} (h : TreeIs m n xs ns t js u b) : LayOk m n xs := by cases h <;> assumption
theorem TreeIs.nums {ns : List Int} {t : Int} {js : List J3} {u : Int} {b : Bool} (h : TreeIs m n xs ns t js u b) : ns.length = xs.length := by cases h <;> assumption
theorem TreeIs.len {ns : List Int} {t : Int} {js : List J3} {u : Int} {b : Bool} (h : TreeIs m n xs ns t js u b) : js.length + 1 ≤ xs.length := by
  induction h with
  | one h hl hn => simp; omega
  | knot h hl hn hc => have := h.2.2.1.1; simp; omega
  | @join m n xs ns t c r j1 j2 u1 u2 b1 b2 h hl hn hc t1 t2 ih1 ih2 =>
    have := part_len h (first_cut hc)
    split
    · simp; omega
    · have := h.2.2.1.1; simp; omega
theorem TreeIs.full {ns : List Int} {t : Int} {js : List J3} {u : Int} {b : Bool} (h : TreeIs m n xs ns t js u b) : b = true → js.length + 1 = xs.length := by
  induction h with
  | one h hl hn => intro _; simp; omega
  | knot h hl hn hc => intro k; cases k
  | @join m n xs ns t c r j1 j2 u1 u2 b1 b2 h hl hn hc t1 t2 ih1 ih2 =>
    intro k
    have := part_len h (first_cut hc)
    rw [Bool.and_eq_true] at k
    have h1 := ih1 k.1
    have h2 := ih2 k.2
    rw [k.1, k.2]
    simp; omega
theorem tree_ex : ∀ (k : Nat) (m n : Int) (xs : List P5) (ns : List Int) (t : Int), xs.length ≤ k → LayOk m n xs → ns.length = xs.length → ∃ js u b, TreeIs m n xs ns t js u b
  | 0, m, n, xs, ns, t, hk, h, _ => by have := h.2.2.1; omega
  | k + 1, m, n, xs, ns, t, hk, h, hn => by
    by_cases hl : xs.length = 1
    · exact ⟨_, _, _, .one h hl hn⟩
    · cases hc : cutsL m n xs with
      | nil => exact ⟨_, _, _, .knot h hl hn hc⟩
      | cons c r =>
        have hh := first_cut hc
        have l1 := lay1 h hh
        have l2 := lay2 h hh
        have hs := part_len h hh
        have z1 := l1.2.2.1
        have z2 := l2.2.2.1
        obtain ⟨j1, u1, b1, t1⟩ := tree_ex k _ _ _ (numK c false xs ns xs.length) t (by omega) l1 (num1_len h hh ns)
        obtain ⟨j2, u2, b2, t2⟩ := tree_ex k _ _ _ (numK c true xs ns xs.length) (t + j1.length) (by omega) l2 (num2_len h hh ns)
        exact ⟨_, _, _, .join h hl hn hc t1 t2⟩
theorem tree_knot {ns : List Int} {t : Int} {js : List J3} {u : Int} {b : Bool} (h : TreeIs m n xs ns t js u b) : ∀ {q}, KnotIs m n xs q → b = q.isNone := by
  induction h with
  | one h hl hn =>
    intro q hq
    cases hq with
    | one => rfl
    | knot _ h2 => exact absurd hl h2
    | left _ h2 => exact absurd hl h2
    | right _ h2 => exact absurd hl h2
  | knot h hl hn hc =>
    intro q hq
    cases hq with
    | one _ h2 => exact absurd h2 hl
    | knot => rfl
    | left _ _ h3 => rw [hc] at h3; cases h3
    | right _ _ h3 => rw [hc] at h3; cases h3
  | @join m n xs ns t c r j1 j2 u1 u2 b1 b2 h hl hn hc t1 t2 ih1 ih2 =>
    intro q hq
    cases hq with
    | one _ h2 => exact absurd h2 hl
    | knot _ _ h3 => rw [hc] at h3; cases h3
    | left _ _ h3 k1 =>
      rw [hc] at h3
      obtain ⟨rfl, _⟩ := List.cons.inj h3
      rw [ih1 k1]; rfl
    | right _ _ h3 k1 k2 =>
      rw [hc] at h3
      obtain ⟨rfl, _⟩ := List.cons.inj h3
      rw [ih1 k1, ih2 k2]; rfl
/-- The numbers of all patches. -/
def numsN (k : Nat) : List Int := (List.range k).map fun i : Nat => (i : Int)
theorem numsN_len (k : Nat) : (numsN k).length = k := by simp [numsN]
theorem numsN_succ (k : Nat) : numsN (k + 1) = numsN k ++ [(k : Int)] := by simp [numsN, List.range_succ]
theorem numsN_at {k i : Nat} (h : i < k) : (numsN k).getD i 0 = i := by simp [numsN, List.getD, h]
noncomputable def treeR (m n : Int) (xs : List P5) : List J3 × Int × Bool := Classical.epsilon (fun r => LayOk m n xs → TreeIs m n xs (numsN xs.length) xs.length r.1 r.2.1 r.2.2)
theorem treeR_is (h : layB m n xs = true) : TreeIs m n xs (numsN xs.length) xs.length (treeR m n xs).1 (treeR m n xs).2.1 (treeR m n xs).2.2 := by
  have := Classical.epsilon_spec (p := fun r : List J3 × Int × Bool => LayOk m n xs → TreeIs m n xs (numsN xs.length) xs.length r.1 r.2.1 r.2.2) (by
    obtain ⟨js, u, b, t⟩ := tree_ex _ m n xs (numsN xs.length) xs.length (Nat.le_refl _) (lay_of h) (numsN_len _)
    exact ⟨(js, u, b), fun _ => t⟩)
  exact this (lay_of h)
theorem treeR_sew (h : layB m n xs = true) : (treeR m n xs).2.2 = sewB m n xs := by
  rw [tree_knot (treeR_is h) (knotR_is h), sew_lay h]
noncomputable def joinsL (m n : Int) (xs : List P5) : List J3 := if sewB m n xs then (treeR m n xs).1 else []
theorem joins_no (h : sewB m n xs = false) : joinsL m n xs = [] := by simp [joinsL, h]
theorem joins_yes (h : sewB m n xs = true) : joinsL m n xs = (treeR m n xs).1 := by simp [joinsL, h]
theorem joins_tree (h : sewB m n xs = true) : TreeIs m n xs (numsN xs.length) xs.length (joinsL m n xs) (treeR m n xs).2.1 true := by
  have hl := sew_layB h
  have := treeR_is hl
  rw [treeR_sew hl, h] at this
  rwa [joins_yes h]

/-- A part of a layout, moved; the numbers of its patches there. -/
def Sub (W : List P5) (l t : Int) (xs : List P5) (ns : List Int) : Prop := ns.length = xs.length ∧ ∀ k, k < xs.length → ∃ i : Nat, i < W.length ∧ ns.getD k 0 = i ∧ pat xs k = mv l t (pat W i)
theorem Sub.all (xs : List P5) : Sub xs 0 0 xs (numsN xs.length) := by
  refine ⟨numsN_len _, fun k hk => ⟨k, hk, numsN_at hk, by rw [mv_zero]⟩⟩
variable {W : List P5} {l t : Int} {ns : List Int}
theorem getD_map_int (f : Nat → Int) {I : List Nat} {k : Nat} (h : k < I.length) : (I.map f).getD k 0 = f I[k] := by simp [List.getD, h]
theorem pat_mapI (f : Nat → P5) {I : List Nat} {k : Nat} (h : k < I.length) : pat (I.map f) k = f I[k] := by simp [pat, List.getD, h]
theorem Sub.left (h : Sub W l t xs ns) (lay : LayOk m n xs) (hc : hasC m n xs c = true) : Sub W l t (pL1 m n c xs) (numK c false xs ns xs.length) := by
  refine ⟨num1_len lay hc ns, fun k hk => ?_⟩
  rw [pL1_idx lay hc, List.length_map] at hk
  obtain ⟨i, hi, e1, e2⟩ := h.2 _ (idxs_lt (List.getElem_mem hk))
  refine ⟨i, hi, ?_, ?_⟩
  · rw [← e1]; exact getD_map_int _ hk
  · rw [← e2, pL1_idx lay hc]; exact pat_mapI _ hk
theorem Sub.right (h : Sub W l t xs ns) (lay : LayOk m n xs) (hc : hasC m n xs c = true) : Sub W (l + pX2 c) (t + pY2 c) (pL2 m n c xs) (numK c true xs ns xs.length) := by
  refine ⟨num2_len lay hc ns, fun k hk => ?_⟩
  rw [pL2_idx lay hc, List.map_map, List.length_map] at hk
  obtain ⟨i, hi, e1, e2⟩ := h.2 _ (idxs_lt (List.getElem_mem hk))
  refine ⟨i, hi, ?_, ?_⟩
  · rw [← e1]; exact getD_map_int _ hk
  · rw [pL2_idx lay hc, List.map_map]
    refine (pat_mapI _ hk).trans ?_
    show mv (pX2 c) (pY2 c) (pat xs _) = _
    rw [e2]; unfold mv; congr 1 <;> simp only <;> omega
theorem Sub.one {M N : Int} (h : Sub W l t xs ns) (lay : LayOk m n xs) (hl : xs.length = 1) (hW : LayOk M N W) : ns.getD 0 0 = patL M N W l t := by
  obtain ⟨i, hi, e1, e2⟩ := h.2 0 (by omega)
  have hm := lay.1
  have hn := lay.2.1
  obtain ⟨k, hk, hc⟩ := some_at lay (x := 0) (y := 0) (by omega) (by omega) (by omega) (by omega)
  obtain rfl : k = 0 := by omega
  rw [e2] at hc
  obtain ⟨⟨c0, c1⟩, c2, c3⟩ := hc
  have f := lay.fit (show 0 < xs.length by omega)
  rw [e2] at f
  obtain ⟨⟨f0, _⟩, ⟨f1, _⟩, ⟨f2, _⟩, ⟨f3, _⟩, _⟩ := f
  simp only [mv] at c0 c1 c2 c3 f0 f1 f2 f3
  have hcov : Cov (pat W i) l t := by unfold Cov; omega
  rw [e1]
  exact patL_at (lay_yes hW).symm hi hcov (fun j hj hc' => by
    have := at_most hW (show j < W.length by omega) hi hc' hcov
    omega)

end Go.Proofs.Ytboahceibeeifaa

set_option linter.unusedSimpArgs false
set_option linter.unusedVariables false
namespace Go.Proofs.Ytboahceibeeifaa
open Go.ChangeShapes Go.WideShapes Go.ChangeAt Go.RowKit

abbrev setJn (w : World) (g j : Nat) (v0 : Bool) (v1 : Int) (v2 : Int) : World := (((w.setCell ⟨g, j * 3, none⟩ (.bool v0)).setCell ⟨g, j * 3 + 1, none⟩ (.int .i64 v1)).setCell ⟨g, j * 3 + 2, none⟩ (.int .i64 v2))
theorem ElJn.set_same {w : World} {g j : Nat} {c : J3} (h : ElJn w g j c) (v0 : Bool) (v1 : Int) (v2 : Int) : ElJn (setJn w g j v0 v1 v2) g j ⟨v0, v1, v2⟩ := by
  obtain ⟨h0, h1, h2⟩ := h
  refine ⟨?_, ?_, ?_⟩
  · rw [World.cell?_setCell_other _ _ _ _ (ad_ne (by omega)), World.cell?_setCell_other _ _ _ _ (ad_ne (by omega))]
    exact World.cell?_setCell_same _ _ _ (by exact h0)
  · rw [World.cell?_setCell_other _ _ _ _ (ad_ne (by omega))]
    exact World.cell?_setCell_same _ _ _ (by rw [World.cell?_setCell_other _ _ _ _ (ad_ne (by omega))]; exact h1)
  · exact World.cell?_setCell_same _ _ _ (by rw [World.cell?_setCell_other _ _ _ _ (ad_ne (by omega)), World.cell?_setCell_other _ _ _ _ (ad_ne (by omega))]; exact h2)
theorem ElJn.set_other {w : World} {g i j : Nat} {c : J3} (h : ElJn w g i c) (hij : i ≠ j) (v0 : Bool) (v1 : Int) (v2 : Int) : ElJn (setJn w g j v0 v1 v2) g i c := by
  obtain ⟨h0, h1, h2⟩ := h
  refine ⟨?_, ?_, ?_⟩
  all_goals
    rw [World.cell?_setCell_other _ _ _ _ (ad_ne (by omega)), World.cell?_setCell_other _ _ _ _ (ad_ne (by omega)), World.cell?_setCell_other _ _ _ _ (ad_ne (by omega))]
    assumption
theorem SoftJn.set {w : World} {g i j : Nat} (h : SoftJn w g i) (v0 : Bool) (v1 : Int) (v2 : Int) : SoftJn (setJn w g j v0 v1 v2) g i := by
  obtain ⟨h0, h1, h2⟩ := h
  refine ⟨?_, ?_, ?_⟩
  all_goals
    rw [World.frozen?_setCell, World.frozen?_setCell, World.frozen?_setCell]
    assumption
theorem JnIn.set {lo hi g n cap : Nat} {w : World} {xs : List J3} (h : JnIn lo hi w (.slice (some ⟨g, 0, none⟩) n cap) xs) (j : Nat) (hj : j < xs.length) (v0 : Bool) (v1 : Int) (v2 : Int) :
    JnIn lo hi (setJn w g j v0 v1 v2) (.slice (some ⟨g, 0, none⟩) n cap) (xs.set j ⟨v0, v1, v2⟩) := by
  obtain ⟨hl, ⟨h, _⟩ | ⟨g', cap', hv, hcp, hg, hlt, hc⟩⟩ := h
  · subst h; simp at hj
  · simp only [Value.slice.injEq, Option.some.injEq, Addr.mk.injEq, and_true] at hv
    obtain ⟨rfl, rfl, rfl⟩ := hv
    refine ⟨by simpa using hl, .inr ⟨g, cap, by simp, by simpa using hcp, hg, hlt, fun i hi => ?_⟩⟩
    rw [List.length_set] at hi
    obtain ⟨h1, h2⟩ := hc i hi
    refine ⟨?_, h2.set v0 v1 v2⟩
    by_cases e : i = j
    · subst e
      have := h1.set_same v0 v1 v2
      simpa [List.getD, hi] using this
    · have := h1.set_other e v0 v1 v2
      simpa [List.getD, List.getElem?_set, e, Ne.symm e] using this

theorem ElJn.set_far {w : World} {g i : Nat} {c : J3} (h : ElJn w g i c) {p : Addr} (hp : p.block ≠ g) (x : Value) : ElJn (w.setCell p x) g i c := by
  obtain ⟨h0, h1, h2⟩ := h
  have hn : ∀ o : Nat, p ≠ ⟨g, o, none⟩ := fun o e => hp (by rw [e])
  exact ⟨(World.cell?_setCell_other _ _ _ _ (hn _)).trans h0, (World.cell?_setCell_other _ _ _ _ (hn _)).trans h1, (World.cell?_setCell_other _ _ _ _ (hn _)).trans h2⟩
theorem SoftJn.set_far {w : World} {g i : Nat} (h : SoftJn w g i) (p : Addr) (x : Value) : SoftJn (w.setCell p x) g i := by
  obtain ⟨h0, h1, h2⟩ := h
  exact ⟨(World.frozen?_setCell _ _ _ _).trans h0, (World.frozen?_setCell _ _ _ _).trans h1, (World.frozen?_setCell _ _ _ _).trans h2⟩
theorem JnIn.set_far {lo hi : Nat} {w : World} {v : Value} {xs : List J3} (h : JnIn lo hi w v xs) {p : Addr} (hp : p.block < lo) (x : Value) : JnIn lo hi (w.setCell p x) v xs := by
  obtain ⟨hl, h | ⟨g, cap, hv, hcp, hg, hlt, hc⟩⟩ := h
  · exact ⟨hl, .inl h⟩
  · exact ⟨hl, .inr ⟨g, cap, hv, hcp, hg, hlt, fun i hi => ⟨(hc i hi).1.set_far (by omega) x, (hc i hi).2.set_far p x⟩⟩⟩

/-- Their places. -/
def placesJn (xs : List J3) : List Value := xs.flatMap fun c => [.bool c.up, .int .i64 c.a, .int .i64 c.b]
theorem placesJn_length (xs : List J3) : (placesJn xs).length = xs.length * 3 := by
  induction xs with
  | nil => rfl
  | cons c r ih => simp [placesJn] at ih ⊢; omega
theorem placesJn_at : ∀ (xs : List J3) (i : Nat), i < xs.length → (placesJn xs)[i * 3]? = some (.bool (xs.getD i J3.zero).up) ∧ (placesJn xs)[i * 3 + 1]? = some (.int .i64 (xs.getD i J3.zero).a) ∧ (placesJn xs)[i * 3 + 2]? = some (.int .i64 (xs.getD i J3.zero).b)
  | [], i, h => by simp at h
  | c :: r, 0, _ => ⟨rfl, rfl, rfl⟩
  | c :: r, i + 1, h => by
    have ih := placesJn_at r i (by simpa using h)
    have e : placesJn (c :: r) = .bool c.up :: .int .i64 c.a :: .int .i64 c.b :: placesJn r := rfl
    rw [e, show (i + 1) * 3 = i * 3 + 1 + 1 + 1 by omega]
    exact ih
theorem placesJn_append (xs ys : List J3) : placesJn (xs ++ ys) = placesJn xs ++ placesJn ys := by simp [placesJn]

theorem JnIn.of_owns {w : World} {base e : Nat} {v : Value} {xs : List J3} (h : w.ownsRow base e 3 v xs.length (placesJn xs)) (hl : xs.length ≤ 1048576) : JnIn base w.heap.size w v xs := by
  refine ⟨hl, ?_⟩
  have h0 := h
  obtain ⟨_, ⟨h1, h2⟩ | ⟨g, cap, cur, hv, hg, hh, hcp, _⟩⟩ := h
  · exact .inl ⟨List.length_eq_zero_iff.1 h2, none, 0, h1⟩
  · subst hv
    refine .inr ⟨g, cap, rfl, hcp, hg, lt_of_heap hh, fun i hi => ⟨?_, h0.frozenAt _, h0.frozenAt _, h0.frozenAt _⟩⟩
    obtain ⟨p0, p1, p2⟩ := placesJn_at xs i hi
    exact ⟨(h0.cellAt _ (by omega)).trans p0, (h0.cellAt _ (by omega)).trans p1, (h0.cellAt _ (by omega)).trans p2⟩
theorem placesJn_zero (n : Nat) : (madeCells (Value.agg #[.bool false, .int .i64 0, .int .i64 0]).cells (n * 3)).toList = placesJn (List.replicate n J3.zero) := by
  apply List.ext_getElem?
  intro i
  by_cases h : i < n * 3
  · obtain ⟨k, hk⟩ : ∃ k, i = k * 3 ∨ i = k * 3 + 1 ∨ i = k * 3 + 2 := ⟨i / 3, by omega⟩
    have hkn : k < n := by omega
    obtain ⟨p0, p1, p2⟩ := placesJn_at (List.replicate n J3.zero) k (by simpa using hkn)
    have ez : (List.replicate n J3.zero).getD k J3.zero = J3.zero := by simp [List.getD, hkn]
    rw [ez] at p0 p1 p2
    rcases hk with rfl | rfl | rfl
    · rw [p0]; simp [madeCells, Value.cells, J3.zero, h]
    · rw [p1]; simp [madeCells, Value.cells, J3.zero, h]
    · rw [p2]; simp [madeCells, Value.cells, J3.zero, h]
  · rw [List.getElem?_eq_none (by simp [madeCells]; omega), List.getElem?_eq_none (by rw [placesJn_length]; simp; omega)]

end Go.Proofs.Ytboahceibeeifaa

set_option linter.unusedSimpArgs false
set_option linter.unusedVariables false
namespace Go.Proofs.Ytboahceibeeifaa
open Go.ChangeShapes Go.WideShapes Go.ChangeAt Go.RowKit

theorem ToJn_any (x0 : Bool) (x1 : Int) (x2 : Int) (w : World) :
    Calls Try.prog 53 #[.agg #[.bool x0, .int .i64 x1, .int .i64 x2]] w fun e w' => e = .returned (.agg #[.bool x0, .int .i64 x1, .int .i64 x2]) ∧ Below w.heap.size w w' := by
  go_enter Try.func53, Try.ntmps53
  go_wp2
  exact bodyPost_ret (v := .agg #[.bool x0, .int .i64 x1, .int .i64 x2]) (by simp [results, Try.results53, go_sem]) rfl ⟨rfl, (((Below.refl _ _).alloc (Nat.le_refl _) _).alloc (by simp) _).alloc (by simp; omega) _⟩

theorem info_Jn : (Try.prog.info? 40).map (fun i => (i.zero, i.size, i.bytes)) = some (some (.agg #[.bool false, .int .i64 0, .int .i64 0]), 3, 24) := by kernel_rfl

/-- A slice of them that came in: its elements are read one by one, wherever they lie. -/
def ArgJn (w : World) (a : Option Addr) (len : Nat) (xs : List J3) : Prop :=
  xs.length = len ∧ len ≤ maxLen ∧ (len = 0 ∨ ∃ xb xo, a = some ⟨xb, xo, none⟩ ∧ xb < w.heap.size ∧ ∀ i, i < len →
    w.cell? ⟨xb, xo + i * 3, none⟩ = some (.bool (xs.getD i J3.zero).up) ∧ w.cell? ⟨xb, xo + i * 3 + 1, none⟩ = some (.int .i64 (xs.getD i J3.zero).a) ∧ w.cell? ⟨xb, xo + i * 3 + 2, none⟩ = some (.int .i64 (xs.getD i J3.zero).b))
theorem ArgJn.below {w w' : World} {a : Option Addr} {len : Nat} {xs : List J3} (h : ArgJn w a len xs) (hb : Below w.heap.size w w') : ArgJn w' a len xs := by
  obtain ⟨h1, h2, h | ⟨xb, xo, ha, hlt, hc⟩⟩ := h
  · exact ⟨h1, h2, .inl h⟩
  · refine ⟨h1, h2, .inr ⟨xb, xo, ha, Nat.lt_of_lt_of_le hlt hb.size, fun i hi => ?_⟩⟩
    obtain ⟨c0, c1, c2⟩ := hc i hi
    exact ⟨(hb.cell (p := ⟨xb, _, none⟩) hlt).trans c0, (hb.cell (p := ⟨xb, _, none⟩) hlt).trans c1, (hb.cell (p := ⟨xb, _, none⟩) hlt).trans c2⟩

/-- A new row is handed back. -/
def FreshJn (xs : List J3) (w : World) (e : Ending) (w' : World) : Prop := ∃ v, e = .returned v ∧ JnIn w.heap.size w'.heap.size w' v xs ∧ Below w.heap.size w w'

/-- The first k elements are those of the list. -/
def UpJn (k : Nat) (xs ys : List J3) : Prop := ys.length = xs.length ∧ ∀ i, i < k → ys.getD i J3.zero = xs.getD i J3.zero
theorem UpJn.set {k : Nat} {xs ys : List J3} (h : UpJn k xs ys) (hk : k < xs.length) {c : J3} (hc : c = xs.getD k J3.zero) : UpJn (k + 1) xs (ys.set k c) := by
  obtain ⟨h1, h2⟩ := h
  refine ⟨by simpa using h1, fun i hi => ?_⟩
  by_cases e : i = k
  · subst e; simp [List.getD, h1, hk] at hc ⊢; exact hc
  · have := h2 i (by omega)
    simpa [List.getD, List.getElem?_set, e, Ne.symm e] using this
theorem UpJn.all {xs ys : List J3} (h : UpJn xs.length xs ys) : ys = xs := by
  obtain ⟨h1, h2⟩ := h
  apply List.ext_getElem h1
  intro i a b
  have := h2 i b
  simpa [List.getD, a, b] using this

set_option maxHeartbeats 800000 in
theorem ToJnS_any (a : Option Addr) (len cap : Nat) (xs : List J3) (w : World) (r : ArgJn w a len xs) (hlen : len ≤ 1048576) :
    Calls Try.prog 27 #[.slice a len cap] w (FreshJn xs w) := by
  obtain ⟨i0, hi, hz0, hz1, hz2⟩ := info_parts3 info_Jn
  have R := Lib.hid r
  obtain ⟨hxl, _, _⟩ := r
  subst hxl
  go_enter Try.func27, Try.ntmps27
  go_wp2_with (at_make; refine wpList_make_full _ rfl _ _ 28 rfl w.heap.size 40 i0 _ 3 Try.underlying28 hi hz0 hz1 .i64 .i64 _ _ xs.length rfl rfl rfl rfl (by rw [hz2]; omega) (by unfold maxLen; omega) (Nat.le_refl _) ?_; intro w0 hown0 hgrow0)
  have hb0 := own_none hgrow0
  rw [placesJn_zero] at hown0
  have hin0 := JnIn.of_owns (xs := List.replicate xs.length J3.zero) (by rw [List.length_replicate]; exact hown0) (by simpa using hlen)
  have HB := Lib.hid hb0
  have HW := Lib.hid hin0
  clear hb0 hown0 hgrow0 hin0
  go_loopw [4] (fun i wr => ∃ (k : Nat) (ys : List J3), k ≤ xs.length ∧ i = .int .i64 k ∧ Hid (UpJn k xs ys) ∧ Hid (JnIn w.heap.size w0.heap.size wr (.slice (some ⟨w.heap.size, 0, none⟩) xs.length xs.length) ys) ∧ Below w.heap.size w wr ∧ w0.heap.size ≤ wr.heap.size) (fun i _ => xs.length - (intOf i).toNat)
  case atStart => exact ⟨0, _, Nat.zero_le _, rfl, ⟨by simp, fun i hi => by omega⟩, HW.out, HB.out, Nat.le_refl _⟩
  case round =>
    obtain ⟨k, ys, hk, rfl, hup, hin, hbel, hsz⟩ := hrel
    by_cases hlt : k < xs.length
    · obtain ⟨_, _, h | ⟨xb, xo, rfl, hxb, hc⟩⟩ := (R.out.below hbel)
      · omega
      obtain ⟨c0, c1, c2⟩ := hc k hlt
      clear hc
      obtain ⟨c, hc⟩ : ∃ c, c = xs.getD k J3.zero := ⟨_, rfl⟩
      rw [← hc] at c0 c1 c2
      have HC := Lib.hid hc
      clear hc
      go_wp2_with fail
      refine (ToJn_any _ _ _ _).mono ?_
      rintro e w1 ⟨rfl, hb1⟩
      have hyl := hup.out.1
      have hin1 : Hid (JnIn w.heap.size w0.heap.size w1 (.slice (some ⟨w.heap.size, 0, none⟩) xs.length xs.length) ys) := Lib.hid (hin.out.below (hb1.mono hsz))
      obtain ⟨g, hg, _, _, ⟨e0, e1, e2⟩, f0, f1, f2⟩ := hin1.out.at (Below.refl _ _) (i := k) (by omega)
      obtain rfl : w.heap.size = g := by simpa using hg
      have HN := Lib.hid (hin1.out.set k (by omega) c.up c.a c.b)
      have HU := Lib.hid (hup.out.set (c := ⟨c.up, c.a, c.b⟩) hlt HC.out)
      have hbw : Below w.heap.size w w1 := hbel.trans (hb1.mono hbel.size)
      have HB1 := Lib.hid (Below.setCell (Below.setCell (Below.setCell hbw (p := ⟨w.heap.size, k * 3, none⟩) (Nat.le_refl _) (.bool c.up)) (p := ⟨w.heap.size, k * 3 + 1, none⟩) (Nat.le_refl _) (.int .i64 c.a)) (p := ⟨w.heap.size, k * 3 + 2, none⟩) (Nat.le_refl _) (.int .i64 c.b))
      have hs1 : w0.heap.size ≤ w1.heap.size := by have := hb1.size; omega
      clear hg hin hup hbw hb1 hbel HC
      generalize ys.getD k J3.zero = y at e0 e1 e2
      go_wp2_with fail
      go_roundw
      case rel => exact ⟨k + 1, _, by omega, by go_num, HU, HN, HB1.out, by simp [World.setCell]; exact hs1⟩
      case measure => simp [intOf] <;> omega
    · obtain rfl : k = xs.length := by omega
      have hall := hup.out.all
      subst hall
      go_wp2_with fail
      go_ret
      exact ⟨_, rfl, hin.out.wide (Nat.le_refl _) hsz, hbel⟩

end Go.Proofs.Ytboahceibeeifaa

set_option linter.unusedSimpArgs false
set_option linter.unusedVariables false
namespace Go.Proofs.Ytboahceibeeifaa
open Go.ChangeShapes Go.WideShapes Go.ChangeAt Go.RowKit

section
variable {P : Program}
theorem run_append_zero (w : World) (t ty e : TypeId) (i : TypeInfo) (ht : P.underlying t = some (.slice e)) (hi : P.info? e = some i) (b : Option Addr) (n cap : Nat) (h : n ≤ cap) (a : Option Addr) (c : Nat) :
    (Builtin.append_ #[t, t] ty #[.slice b n cap, .slice a 0 c]).run P w = .ok (.slice b n cap) w := by
  have hst : ∀ x : Addr, (storeCells x ([] : List Value)).run P w = .ok () w := fun x => rfl
  cases a with
  | none => cases b <;> simp [Builtin.append_, run_underlying ht, sizeOf, typeInfo, hi, Builtin.lenOf, h, Builtin.firstCells, hst]
  | some x =>
    have hfc := run_firstCells_some (P := P) w i.size 0 x 0 c [] (by simp) (by simp)
    cases b <;> simp [Builtin.append_, run_underlying ht, sizeOf, typeInfo, hi, Builtin.lenOf, h, hfc, hst]
/-- What is to be appended: nothing, or cells that are read. -/
def RowOf (w : World) (vx : Value) (m : Nat) (news : List Value) : Prop := (m = 0 ∧ ∃ a c, vx = .slice a 0 c) ∨ ∃ ad c, vx = .slice (some ad) m c ∧ ∀ j u, news[j]? = some u → w.cell? (ad.add j) = some u
theorem wp_append_row {w : World} {o : Oper} {a : Act} {K : Act → World → Prop} {Q : Exit → Act → World → Prop} (s x : Operand) (t : TypeId)
    (ho : o.op = .call { callee := .builtin .append, args := #[s, x], argTypes := #[t, t] })
    (base : Nat) (e : TypeId) (i : TypeInfo) (z : Value) (size bytes : Nat) (ht : P.underlying t = some (.slice e)) (hi : P.info? e = some i) (hz : i.zero = some z)
    (hsize : i.size = size) (hby : i.bytes = bytes) (hzs : z.cells.size = size) (hsz : 0 < size)
    (v : Value) (n : Nat) (xs : List Value) (hs : a.eval s = v) (hown : w.ownsRow base e size v n xs)
    (vx : Value) (m : Nat) (news : List Value) (hx : a.eval x = vx) (hl : news.length = m * size) (hrow : RowOf w vx m news) (h1 : ∀ u ∈ news, u.oneCell' = true)
    (h63 : n + m ≤ maxLen) (hbytes : (n + m) * bytes ≤ 140737488355328) (hbase : base ≤ w.heap.size) (H : Nat) (hH : w.heap.size = H)
    (h : ∀ v' w', w'.ownsRow base e size v' (n + m) (xs ++ news) → w.grownBy w' v.ownBlock → (∀ g, v'.ownBlock = some g → v.ownBlock = some g ∨ g = H) → K (a.put o.dst v') w') : o.wp P a w K Q := by
  rcases Nat.eq_zero_or_pos m with hm | hm
  · subst hm
    have hn : news = [] := List.length_eq_zero_iff.1 (by simpa using hl)
    subst hn
    obtain ⟨a', c', rfl⟩ : ∃ a c, vx = .slice a 0 c := by
      rcases hrow with ⟨_, h⟩ | ⟨ad, c, h, _⟩
      · exact h
      · exact ⟨_, _, h⟩
    obtain ⟨b, cap, hv, hc⟩ : ∃ b cap, v = .slice b n cap ∧ n ≤ cap := by
      obtain ⟨_, ⟨h1, h2⟩ | ⟨g, cap, cur, hv, _, _, hcp, _⟩⟩ := hown
      · subst h2; exact ⟨_, _, h1, Nat.le_refl _⟩
      · exact ⟨_, _, hv, hcp⟩
    have hr := run_append_zero (P := P) w t o.type e i ht hi b n cap hc a' c'
    unfold Oper.wp execOp
    simp only [ho, resolve, invoke, builtin, Sem.run_bind, Sem.run_pure, Result.andThen_ok, List.map_toArray, List.map_cons, List.map_nil, hs, hx, hv, hr]
    rw [← hv]
    exact h v w (by simpa using hown) ⟨rfl, rfl, rfl, Nat.le_refl _, fun _ _ _ => rfl⟩ (fun g hg => .inl hg)
  · obtain ⟨ad, c, rfl, hnews⟩ : ∃ ad c, vx = .slice (some ad) m c ∧ ∀ j u, news[j]? = some u → w.cell? (ad.add j) = some u := by
      rcases hrow with ⟨h, _⟩ | h
      · omega
      · exact h
    refine wp_append_lies w s x t ho base e i z size bytes ht hi hz hsize hby hzs hsz v n xs hs hown ad m c news hx hl hnews h1 hm h63 hbytes hbase H hH ?_
    intro g cap w' h2 h3 h4 h5
    exact h _ w' h2 h3 (fun g' hg => by simp only [Value.ownBlock, Option.some.injEq] at hg; subst hg; exact h4)
theorem wpList_append_row {w : World} {ops : Array Oper} {rest : List Oper} {o : Oper} {a : Act} {Q : Exit → Act → World → Prop} (hgd : o.guard = none) (s x : Operand) (t : TypeId)
    (ho : o.op = .call { callee := .builtin .append, args := #[s, x], argTypes := #[t, t] })
    (base : Nat) (e : TypeId) (i : TypeInfo) (z : Value) (size bytes : Nat) (ht : P.underlying t = some (.slice e)) (hi : P.info? e = some i) (hz : i.zero = some z)
    (hsize : i.size = size) (hby : i.bytes = bytes) (hzs : z.cells.size = size) (hsz : 0 < size)
    (v : Value) (n : Nat) (xs : List Value) (hs : a.eval s = v) (hown : w.ownsRow base e size v n xs)
    (vx : Value) (m : Nat) (news : List Value) (hx : a.eval x = vx) (hl : news.length = m * size) (hrow : RowOf w vx m news) (h1 : ∀ u ∈ news, u.oneCell' = true)
    (h63 : n + m ≤ maxLen) (hbytes : (n + m) * bytes ≤ 140737488355328) (hbase : base ≤ w.heap.size) (H : Nat) (hH : w.heap.size = H)
    (h : ∀ v' w', w'.ownsRow base e size v' (n + m) (xs ++ news) → w.grownBy w' v.ownBlock → (∀ g, v'.ownBlock = some g → v.ownBlock = some g ∨ g = H) → wpList P ops Q rest (a.put o.dst v') w') : wpList P ops Q (o :: rest) a w :=
  wpList_plain hgd fun _ hK => wp_append_row s x t ho base e i z size bytes ht hi hz hsize hby hzs hsz v n xs hs hown vx m news hx hl hrow h1 h63 hbytes hbase H hH fun v' w' h2 h3 h4 => hK _ _ (h v' w' h2 h3 h4)
end

theorem oneJn (js : List J3) : ∀ u ∈ placesJn js, u.oneCell' = true := by
  intro u hu
  simp only [placesJn, List.mem_flatMap] at hu
  obtain ⟨c, _, hc⟩ := hu
  simp only [List.mem_cons, List.not_mem_nil, or_false] at hc
  rcases hc with rfl | rfl | rfl <;> rfl
theorem JnIn.rowOf {lo hi : Nat} {w w' : World} {v : Value} {js : List J3} (h : JnIn lo hi w v js) (hb : Below hi w w') : RowOf w' v js.length (placesJn js) := by
  obtain ⟨_, ⟨rfl, a, c, hv⟩ | ⟨g, cap, hv, hcp, hg, hlt, hc⟩⟩ := h
  · exact .inl ⟨rfl, a, c, hv⟩
  · refine .inr ⟨_, _, hv, fun j u hu => ?_⟩
    have hj : j < js.length * 3 := by
      rcases Nat.lt_or_ge j (js.length * 3) with h | h
      · exact h
      · rw [List.getElem?_eq_none (by rw [placesJn_length]; exact h)] at hu; cases hu
    have ad : (⟨g, 0, none⟩ : Addr).add j = ⟨g, j, none⟩ := by cases j <;> simp [Addr.add]
    rw [ad]
    obtain ⟨k, hk⟩ : ∃ k, j = k * 3 ∨ j = k * 3 + 1 ∨ j = k * 3 + 2 := ⟨j / 3, by omega⟩
    have hkn : k < js.length := by omega
    obtain ⟨p0, p1, p2⟩ := placesJn_at js k hkn
    obtain ⟨e0, e1, e2⟩ := (hc k hkn).1.below hb hlt
    rcases hk with rfl | rfl | rfl
    · rw [e0, ← hu, p0]
    · rw [e1, ← hu, p1]
    · rw [e2, ← hu, p2]
/-- A row of joins that is owned. -/
def OwnJ (b : Nat) (w : World) (v : Value) (js : List J3) : Prop := w.ownsRow b 40 3 v js.length (placesJn js)
theorem OwnJ.nil (b : Nat) (w : World) : OwnJ b w (.slice none 0 0) [] := World.ownsRow_nil _ _ _ _
theorem OwnJ.row {b : Nat} {w : World} {v : Value} {js : List J3} (h : OwnJ b w v js) (hl : js.length ≤ 1048576) : JnIn b w.heap.size w v js := JnIn.of_owns h hl
theorem OwnJ.below {b : Nat} {w w' : World} {v : Value} {js : List J3} (h : OwnJ b w v js) (hb : Below w.heap.size w w') : OwnJ b w' v js := owL h hb
theorem OwnJ.both {b n : Nat} {w : World} {v : Value} {js ks : List J3} (h : w.ownsRow b 40 3 v n (placesJn js ++ placesJn ks)) : OwnJ b w v (js ++ ks) := by
  have h1 := h.1
  simp [placesJn_length] at h1
  unfold OwnJ
  rw [placesJn_append, show (js ++ ks).length = n by simp; omega]
  exact h
theorem OwnJ.one (up : Bool) (a b : Int) : ([.bool up, .int .i64 a, .int .i64 b] : List Value) = placesJn [⟨up, a, b⟩] := rfl
theorem OwnJ.wide {b b' : Nat} {w : World} {v : Value} {js : List J3} (h : OwnJ b w v js) (hb : b' ≤ b) : OwnJ b' w v js := by
  obtain ⟨h1, h2 | ⟨g, cap, cur, hv, hg, r⟩⟩ := h
  · exact ⟨h1, .inl h2⟩
  · exact ⟨h1, .inr ⟨g, cap, cur, hv, Nat.le_trans hb hg, r⟩⟩

end Go.Proofs.Ytboahceibeeifaa
