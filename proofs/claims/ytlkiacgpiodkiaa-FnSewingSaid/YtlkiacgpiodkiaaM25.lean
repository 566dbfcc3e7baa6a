/- Joins: the joins of a layout: the tree of its cuts; the numbers of the patches. Joins: the joins of a layout make the whole of it: the numbers. Orders of sewing: the joins of a layout make a tree. -/
import Derived.Test.YtlkiacgpiodkiaaM09
import Derived.Test.YtlkiacgpiodkiaaM22
import Derived.Test.YtlkiacgpiodkiaaM24
import Derived.Test.YtlkiacgpiodkiaaM11

set_option linter.unusedSimpArgs false
set_option linter.unusedVariables false
namespace Go.Proofs.Ytlkiacgpiodkiaa

/-- The numbers of the patches on one side of the line. -/
def idxs (c : C2) (b : Bool) (xs : List P5) (k : Nat) : List Nat := (List.range k).filter fun i => sel2 c (pat xs i) == b
def numK (c : C2) (b : Bool) (xs : List P5) (ns : List Int) (k : Nat) : List Int := (idxs c b xs k).map fun i => ns.getD i 0
theorem numK_yes {c : C2} {b : Bool} {xs : List P5} {ns : List Int} {k : Nat} (h : sel2 c (pat xs k) = b) : numK c b xs ns (k + 1) = numK c b xs ns k ++ [ns.getD k 0] := by
  have e : [k].filter (fun i => sel2 c (pat xs i) == b) = [k] := List.filter_cons_of_pos (by rw [h]; exact beq_self_eq_true b)
  unfold numK idxs
  rw [List.range_succ, List.filter_append, e, List.map_append]; rfl
theorem numK_no {c : C2} {b : Bool} {xs : List P5} {ns : List Int} {k : Nat} (h : sel2 c (pat xs k) ≠ b) : numK c b xs ns (k + 1) = numK c b xs ns k := by
  have e : [k].filter (fun i => sel2 c (pat xs i) == b) = [] := List.filter_cons_of_neg (by rw [beq_iff_eq]; exact h)
  unfold numK idxs
  rw [List.range_succ, List.filter_append, e, List.append_nil]
theorem idxs_len (c : C2) (b : Bool) (xs : List P5) (k : Nat) : (idxs c b xs k).length ≤ k := by
  have := List.length_filter_le (fun i => sel2 c (pat xs i) == b) (List.range k)
  simpa [idxs] using this
theorem numK_len (c : C2) (b : Bool) (xs : List P5) (ns : List Int) (k : Nat) : (numK c b xs ns k).length ≤ k := by
  have := idxs_len c b xs k
  simpa [numK] using this
theorem idxs_lt {c : C2} {b : Bool} {xs : List P5} {k i : Nat} (h : i ∈ idxs c b xs k) : i < k := by
  simpa using (List.mem_filter.1 h).1
theorem map_range (xs : List P5) : (List.range xs.length).map (pat xs) = xs := by
  apply List.ext_getElem (by simp)
  intro i h1 h2
  simp only [List.getElem_map, List.getElem_range]
  exact pat_get h2
theorem filter_idx (c : C2) (b : Bool) (xs : List P5) : (xs.filter fun p => sel2 c p == b) = (idxs c b xs xs.length).map (pat xs) := by
  have : (xs.filter fun p => sel2 c p == b) = ((List.range xs.length).map (pat xs)).filter fun p => sel2 c p == b := by rw [map_range]
  rw [this, List.filter_map]; rfl
variable {m n : Int} {xs : List P5} {c : C2}
theorem pL1_idx (h : LayOk m n xs) (hc : hasC m n xs c = true) : pL1 m n c xs = (idxs c false xs xs.length).map (pat xs) := by
  rw [pL1_sel h hc, ← filter_idx]
  refine List.filter_congr (fun p _ => ?_)
  cases sel2 c p <;> rfl
theorem pL2_idx (h : LayOk m n xs) (hc : hasC m n xs c = true) : pL2 m n c xs = ((idxs c true xs xs.length).map (pat xs)).map (mv (pX2 c) (pY2 c)) := by
  rw [pL2_sel h hc, ← filter_idx]
  congr 1
  refine List.filter_congr (fun p _ => ?_)
  cases sel2 c p <;> rfl
theorem num1_len (h : LayOk m n xs) (hc : hasC m n xs c = true) (ns : List Int) : (numK c false xs ns xs.length).length = (pL1 m n c xs).length := by
  rw [pL1_idx h hc]; simp [numK]
theorem num2_len (h : LayOk m n xs) (hc : hasC m n xs c = true) (ns : List Int) : (numK c true xs ns xs.length).length = (pL2 m n c xs).length := by
  rw [pL2_idx h hc]; simp [numK]

/-- The joins of a part whose patches have these numbers; the next number; the unit that they make. -/
inductive TreeIs : Int → Int → List P5 → List Int → Int → List J3 → Int → Bool → Prop
  | one {m n : Int} {xs : List P5} {ns : List Int} {t : Int} (h : LayOk m n xs) (hl : xs.length = 1) (hn : ns.length = xs.length) : TreeIs m n xs ns t [] (ns.getD 0 0) true
  | knot {m n : Int} {xs : List P5} {ns : List Int} {t : Int} (h : LayOk m n xs) (hl : xs.length ≠ 1) (hn : ns.length = xs.length) (hc : cutsL m n xs = []) : TreeIs m n xs ns t [] 0 false
  | join {m n : Int} {xs : List P5} {ns : List Int} {t : Int} {c : C2} {r : List C2} {j1 j2 : List J3} {u1 u2 : Int} {b1 b2 : Bool} (h : LayOk m n xs) (hl : xs.length ≠ 1) (hn : ns.length = xs.length) (hc : cutsL m n xs = c :: r)
      (t1 : TreeIs (pM1 m c) (pN1 n c) (pL1 m n c xs) (numK c false xs ns xs.length) t j1 u1 b1) (t2 : TreeIs (pM2 m c) (pN2 n c) (pL2 m n c xs) (numK c true xs ns xs.length) (t + j1.length) j2 u2 b2) :
      TreeIs m n xs ns t (if b1 && b2 then j1 ++ j2 ++ [⟨c.up, u1, u2⟩] else []) (if b1 && b2 then t + (j1.length + j2.length) else 0) (b1 && b2)
theorem TreeIs.lay {ns : List Int} {t : Int} {js : List J3} {u : Int} {b : Bool} (h : TreeIs m n xs ns t js u b) : LayOk m n xs := by cases h <;> assumption
theorem TreeIs.nums {ns : List Int} {t : Int} {js : List J3} {u : Int} {b : Bool} (h : TreeIs m n xs ns t js u b) : ns.length = xs.length := by cases h <;> assumption
theorem TreeIs.len {ns : List Int} {t : Int} {js : List J3} {u : Int} {b : Bool} (h : TreeIs m n xs ns t js u b) : js.length + 1 ≤ xs.length := by
  induction h with
  | one h hl hn => simp; omega
  | knot h hl hn hc => have := h.2.2.1.1; simp; omega
  | @join m n xs ns t c r j1 j2 u1 u2 b1 b2 h hl hn hc t1 t2 ih1 ih2 =>
    have := part_len h (first_cut hc)
    split
    · simp; omega
    · have := h.2.2.1.1; simp; omega
theorem TreeIs.full {ns : List Int} {t : Int} {js : List J3} {u : Int} {b : Bool} (h : TreeIs m n xs ns t js u b) : b = true → js.length + 1 = xs.length := by
  induction h with
  | one h hl hn => intro _; simp; omega
  | knot h hl hn hc => intro k; cases k
  | @join m n xs ns t c r j1 j2 u1 u2 b1 b2 h hl hn hc t1 t2 ih1 ih2 =>
    intro k
    have := part_len h (first_cut hc)
    rw [Bool.and_eq_true] at k
    have h1 := ih1 k.1
    have h2 := ih2 k.2
    rw [k.1, k.2]
    simp; omega
theorem tree_ex : ∀ (k : Nat) (m n : Int) (xs : List P5) (ns : List Int) (t : Int), xs.length ≤ k → LayOk m n xs → ns.length = xs.length → ∃ js u b, TreeIs m n xs ns t js u b
  | 0, m, n, xs, ns, t, hk, h, _ => by have := h.2.2.1; omega
  | k + 1, m, n, xs, ns, t, hk, h, hn => by
    by_cases hl : xs.length = 1
    · exact ⟨_, _, _, .one h hl hn⟩
    · cases hc : cutsL m n xs with
      | nil => exact ⟨_, _, _, .knot h hl hn hc⟩
      | cons c r =>
        have hh := first_cut hc
        have l1 := lay1 h hh
        have l2 := lay2 h hh
        have hs := part_len h hh
        have z1 := l1.2.2.1
        have z2 := l2.2.2.1
        obtain ⟨j1, u1, b1, t1⟩ := tree_ex k _ _ _ (numK c false xs ns xs.length) t (by omega) l1 (num1_len h hh ns)
        obtain ⟨j2, u2, b2, t2⟩ := tree_ex k _ _ _ (numK c true xs ns xs.length) (t + j1.length) (by omega) l2 (num2_len h hh ns)
        exact ⟨_, _, _, .join h hl hn hc t1 t2⟩
theorem tree_knot {ns : List Int} {t : Int} {js : List J3} {u : Int} {b : Bool} (h : TreeIs m n xs ns t js u b) : ∀ {q}, KnotIs m n xs q → b = q.isNone := by
  induction h with
  | one h hl hn =>
    intro q hq
    cases hq with
    | one => rfl
    | knot _ h2 => exact absurd hl h2
    | left _ h2 => exact absurd hl h2
    | right _ h2 => exact absurd hl h2
  | knot h hl hn hc =>
    intro q hq
    cases hq with
    | one _ h2 => exact absurd h2 hl
    | knot => rfl
    | left _ _ h3 => rw [hc] at h3; cases h3
    | right _ _ h3 => rw [hc] at h3; cases h3
  | @join m n xs ns t c r j1 j2 u1 u2 b1 b2 h hl hn hc t1 t2 ih1 ih2 =>
    intro q hq
    cases hq with
    | one _ h2 => exact absurd h2 hl
    | knot _ _ h3 => rw [hc] at h3; cases h3
    | left _ _ h3 k1 =>
      rw [hc] at h3
      obtain ⟨rfl, _⟩ := List.cons.inj h3
      rw [ih1 k1]; rfl
    | right _ _ h3 k1 k2 =>
      rw [hc] at h3
      obtain ⟨rfl, _⟩ := List.cons.inj h3
      rw [ih1 k1, ih2 k2]; rfl
/-- The numbers of all patches. -/
def numsN (k : Nat) : List Int := (List.range k).map fun i : Nat => (i : Int)
theorem numsN_len (k : Nat) : (numsN k).length = k := by simp [numsN]
theorem numsN_succ (k : Nat) : numsN (k + 1) = numsN k ++ [(k : Int)] := by simp [numsN, List.range_succ]
theorem numsN_at {k i : Nat} (h : i < k) : (numsN k).getD i 0 = i := by simp [numsN, List.getD, h]
noncomputable def treeR (m n : Int) (xs : List P5) : List J3 × Int × Bool := Classical.epsilon (fun r => LayOk m n xs → TreeIs m n xs (numsN xs.length) xs.length r.1 r.2.1 r.2.2)
theorem treeR_is (h : layB m n xs = true) : TreeIs m n xs (numsN xs.length) xs.length (treeR m n xs).1 (treeR m n xs).2.1 (treeR m n xs).2.2 := by
  have := Classical.epsilon_spec (p := fun r : List J3 × Int × Bool => LayOk m n xs → TreeIs m n xs (numsN xs.length) xs.length r.1 r.2.1 r.2.2) (by
    obtain ⟨js, u, b, t⟩ := tree_ex _ m n xs (numsN xs.length) xs.length (Nat.le_refl _) (lay_of h) (numsN_len _)
    exact ⟨(js, u, b), fun _ => t⟩)
  exact this (lay_of h)
theorem treeR_sew (h : layB m n xs = true) : (treeR m n xs).2.2 = sewB m n xs := by
  rw [tree_knot (treeR_is h) (knotR_is h), sew_lay h]
noncomputable def joinsL (m n : Int) (xs : List P5) : List J3 := if sewB m n xs then (treeR m n xs).1 else []
theorem joins_no (h : sewB m n xs = false) : joinsL m n xs = [] := by simp [joinsL, h]
theorem joins_yes (h : sewB m n xs = true) : joinsL m n xs = (treeR m n xs).1 := by simp [joinsL, h]
theorem joins_tree (h : sewB m n xs = true) : TreeIs m n xs (numsN xs.length) xs.length (joinsL m n xs) (treeR m n xs).2.1 true := by
  have hl := sew_layB h
  have := treeR_is hl
  rw [treeR_sew hl, h] at this
  rwa [joins_yes h]

/-- A part of a layout, moved; the numbers of its patches there. -/
def Sub (W : List P5) (l t : Int) (xs : List P5) (ns : List Int) : Prop := ns.length = xs.length ∧ ∀ k, k < xs.length → ∃ i : Nat, i < W.length ∧ ns.getD k 0 = i ∧ pat xs k = mv l t (pat W i)
theorem Sub.all (xs : List P5) : Sub xs 0 0 xs (numsN xs.length) := by
  refine ⟨numsN_len _, fun k hk => ⟨k, hk, numsN_at hk, by rw [mv_zero]⟩⟩
variable {W : List P5} {l t : Int} {ns : List Int}
theorem getD_map_int (f : Nat → Int) {I : List Nat} {k : Nat} (h : k < I.length) : (I.map f).getD k 0 = f I[k] := by simp [List.getD, h]
theorem pat_mapI (f : Nat → P5) {I : List Nat} {k : Nat} (h : k < I.length) : pat (I.map f) k = f I[k] := by simp [pat, List.getD, h]
theorem Sub.left (h : Sub W l t xs ns) (lay : LayOk m n xs) (hc : hasC m n xs c = true) : Sub W l t (pL1 m n c xs) (numK c false xs ns xs.length) := by
  refine ⟨num1_len lay hc ns, fun k hk => ?_⟩
  rw [pL1_idx lay hc, List.length_map] at hk
  obtain ⟨i, hi, e1, e2⟩ := h.2 _ (idxs_lt (List.getElem_mem hk))
  refine ⟨i, hi, ?_, ?_⟩
  · rw [← e1]; exact getD_map_int _ hk
  · rw [← e2, pL1_idx lay hc]; exact pat_mapI _ hk
theorem Sub.right (h : Sub W l t xs ns) (lay : LayOk m n xs) (hc : hasC m n xs c = true) : Sub W (l + pX2 c) (t + pY2 c) (pL2 m n c xs) (numK c true xs ns xs.length) := by
  refine ⟨num2_len lay hc ns, fun k hk => ?_⟩
  rw [pL2_idx lay hc, List.map_map, List.length_map] at hk
  obtain ⟨i, hi, e1, e2⟩ := h.2 _ (idxs_lt (List.getElem_mem hk))
  refine ⟨i, hi, ?_, ?_⟩
  · rw [← e1]; exact getD_map_int _ hk
  · rw [pL2_idx lay hc, List.map_map]
    refine (pat_mapI _ hk).trans ?_
    show mv (pX2 c) (pY2 c) (pat xs _) = _
    rw [e2]; unfold mv; congr 1 <;> simp only <;> omega
theorem Sub.one {M N : Int} (h : Sub W l t xs ns) (lay : LayOk m n xs) (hl : xs.length = 1) (hW : LayOk M N W) : ns.getD 0 0 = patL M N W l t := by
  obtain ⟨i, hi, e1, e2⟩ := h.2 0 (by omega)
  have hm := lay.1
  have hn := lay.2.1
  obtain ⟨k, hk, hc⟩ := some_at lay (x := 0) (y := 0) (by omega) (by omega) (by omega) (by omega)
  obtain rfl : k = 0 := by omega
  rw [e2] at hc
  obtain ⟨⟨c0, c1⟩, c2, c3⟩ := hc
  have f := lay.fit (show 0 < xs.length by omega)
  rw [e2] at f
  obtain ⟨⟨f0, _⟩, ⟨f1, _⟩, ⟨f2, _⟩, ⟨f3, _⟩, _⟩ := f
  simp only [mv] at c0 c1 c2 c3 f0 f1 f2 f3
  have hcov : Cov (pat W i) l t := by unfold Cov; omega
  rw [e1]
  exact patL_at (lay_yes hW).symm hi hcov (fun j hj hc' => by
    have := at_most hW (show j < W.length by omega) hi hc' hcov
    omega)

end Go.Proofs.Ytlkiacgpiodkiaa

set_option linter.unusedSimpArgs false
set_option linter.unusedVariables false
namespace Go.Proofs.Ytlkiacgpiodkiaa

/-- The units with these numbers are the patches of the part. -/
def St (l t : Int) (xs : List P5) (ns : List Int) (us : List U6) : Prop :=
  ns.length = xs.length ∧ (∀ k, k < xs.length → ∃ i : Nat, ns.getD k 0 = i ∧ i < us.length ∧ (un us i).j = false ∧ mv l t (un us i).p = pat xs k) ∧
    ∀ k k', k < xs.length → k' < xs.length → ns.getD k 0 = ns.getD k' 0 → k = k'
theorem mem_num {c : C2} {b : Bool} {xs : List P5} {ns : List Int} {z : Int} (h : z ∈ numK c b xs ns xs.length) : ∃ i, i ∈ idxs c b xs xs.length ∧ z = ns.getD i 0 := by
  unfold numK at h
  obtain ⟨i, hi, rfl⟩ := List.mem_map.1 h
  exact ⟨i, hi, rfl⟩
theorem mem_getD {ns : List Int} {k : Nat} (h : k < ns.length) : ns.getD k 0 ∈ ns := by
  simp only [List.getD, List.getElem?_eq_getElem h, Option.getD_some]; exact List.getElem_mem h
theorem num_sub {c : C2} {b : Bool} {xs : List P5} {ns : List Int} (hn : ns.length = xs.length) {z : Int} (h : z ∈ numK c b xs ns xs.length) : z ∈ ns := by
  obtain ⟨i, hi, rfl⟩ := mem_num h
  exact mem_getD (by rw [hn]; exact idxs_lt hi)
variable {m n l t : Int} {xs : List P5} {c : C2} {ns : List Int} {us : List U6}
theorem St.apart (h : St l t xs ns us) {z : Int} (h1 : z ∈ numK c false xs ns xs.length) (h2 : z ∈ numK c true xs ns xs.length) : False := by
  obtain ⟨i, hi, rfl⟩ := mem_num h1
  obtain ⟨j, hj, e⟩ := mem_num h2
  have := h.2.2 i j (idxs_lt hi) (idxs_lt hj) e
  subst this
  have a := (List.mem_filter.1 hi).2
  have b := (List.mem_filter.1 hj).2
  rw [beq_iff_eq] at a b
  rw [a] at b; cases b
theorem num_inj (h : St l t xs ns us) {b : Bool} {k k' : Nat} (hk : k < (idxs c b xs xs.length).length) (hk' : k' < (idxs c b xs xs.length).length) (e : (numK c b xs ns xs.length).getD k 0 = (numK c b xs ns xs.length).getD k' 0) : k = k' := by
  have e1 : (numK c b xs ns xs.length).getD k 0 = ns.getD (idxs c b xs xs.length)[k] 0 := getD_map_int _ hk
  have e2 : (numK c b xs ns xs.length).getD k' 0 = ns.getD (idxs c b xs xs.length)[k'] 0 := getD_map_int _ hk'
  rw [e1, e2] at e
  have := h.2.2 _ _ (idxs_lt (List.getElem_mem hk)) (idxs_lt (List.getElem_mem hk')) e
  have nd : (idxs c b xs xs.length).Nodup := List.Pairwise.filter _ List.nodup_range
  exact (List.getElem_inj nd).1 this
theorem St.left (h : St l t xs ns us) (lay : LayOk m n xs) (hc : hasC m n xs c = true) : St l t (pL1 m n c xs) (numK c false xs ns xs.length) us := by
  have hl : (pL1 m n c xs).length = (idxs c false xs xs.length).length := by rw [pL1_idx lay hc]; simp
  refine ⟨num1_len lay hc ns, fun k hk => ?_, fun k k' hk hk' e => num_inj h (by omega) (by omega) e⟩
  rw [hl] at hk
  obtain ⟨i, e1, hi, hj, e2⟩ := h.2.1 _ (idxs_lt (List.getElem_mem hk))
  refine ⟨i, ?_, hi, hj, ?_⟩
  · rw [← e1]; exact getD_map_int _ hk
  · rw [e2, pL1_idx lay hc]; exact (pat_mapI _ hk).symm
theorem St.right (h : St l t xs ns us) (lay : LayOk m n xs) (hc : hasC m n xs c = true) : St (l + pX2 c) (t + pY2 c) (pL2 m n c xs) (numK c true xs ns xs.length) us := by
  have hl : (pL2 m n c xs).length = (idxs c true xs xs.length).length := by rw [pL2_idx lay hc]; simp
  refine ⟨num2_len lay hc ns, fun k hk => ?_, fun k k' hk hk' e => num_inj h (by omega) (by omega) e⟩
  rw [hl] at hk
  obtain ⟨i, e1, hi, hj, e2⟩ := h.2.1 _ (idxs_lt (List.getElem_mem hk))
  refine ⟨i, ?_, hi, hj, ?_⟩
  · rw [← e1]; exact getD_map_int _ hk
  · rw [pL2_idx lay hc, List.map_map]
    refine Eq.trans ?_ (pat_mapI _ hk).symm
    show _ = mv (pX2 c) (pY2 c) (pat xs _)
    rw [← e2]; unfold mv; congr 1 <;> simp only <;> omega
theorem St.keep {us' : List U6} (h : St l t xs ns us) (hl : us.length ≤ us'.length) (hk : ∀ i : Nat, i < us.length → (i : Int) ∈ ns → un us' i = un us i) : St l t xs ns us' := by
  refine ⟨h.1, fun k hk' => ?_, h.2.2⟩
  obtain ⟨i, e1, hi, hj, e2⟩ := h.2.1 k hk'
  have e : un us' i = un us i := hk i hi (by rw [← e1]; exact mem_getD (by rw [h.1]; exact hk'))
  exact ⟨i, e1, by omega, by rw [e]; exact hj, by rw [e]; exact e2⟩
/-- The unit is the whole part. -/
def Whole (l t m n : Int) (p : P5) : Prop := p.x = l ∧ p.y = t ∧ p.w = m ∧ p.h = n
theorem one_whole (lay : LayOk m n xs) (hl : xs.length = 1) : (pat xs 0).x = 0 ∧ (pat xs 0).y = 0 ∧ (pat xs 0).w = m ∧ (pat xs 0).h = n := by
  have hm := lay.1
  have hn := lay.2.1
  have f := lay.fit (show 0 < xs.length by omega)
  obtain ⟨⟨f0, f01⟩, ⟨f1, f11⟩, ⟨f2, f21⟩, ⟨f3, f31⟩, _⟩ := f
  obtain ⟨k, hk, hc⟩ := some_at lay (x := 0) (y := 0) (by omega) (by omega) (by omega) (by omega)
  obtain rfl : k = 0 := by omega
  obtain ⟨⟨c0, c1⟩, c2, c3⟩ := hc
  obtain ⟨k, hk, hc⟩ := some_at lay (x := m - 1) (y := n - 1) (by omega) (by omega) (by omega) (by omega)
  obtain rfl : k = 0 := by omega
  obtain ⟨⟨d0, d1⟩, d2, d3⟩ := hc
  omega
theorem unF_one {us : List U6} {j : J3} {r : List J3} (h : FitJ us j) : unF us (j :: r) = unF (putJ us j) r := by rw [unF, if_pos h]
theorem part_whole {l t : Int} {c : C2} {a b : P5} (h1 : Whole l t (pM1 m c) (pN1 n c) a) (h2 : Whole (l + pX2 c) (t + pY2 c) (pM2 m c) (pN2 n c) b) : Side c.up a b ∧ Whole l t m n (sewP c.up a b) := by
  obtain ⟨up, z⟩ := c
  unfold Whole at *
  cases up <;> simp [Side, sewP, pM1, pN1, pM2, pN2, pX2, pY2] at * <;> omega
theorem part_flip {l t : Int} {c : C2} {a b : P5} (h1 : Whole l t (pM1 m c) (pN1 n c) a) (h2 : Whole (l + pX2 c) (t + pY2 c) (pM2 m c) (pN2 n c) b) (hm : 1 ≤ m) (hn : 1 ≤ n) : ¬ Side (!c.up) a b := by
  obtain ⟨up, z⟩ := c
  unfold Whole at *
  cases up <;> simp [Side, pM1, pN1, pM2, pN2, pX2, pY2] at * <;> omega
/-- What the joins of a part do to the units. -/
def Made (l t m n : Int) (xs : List P5) (ns : List Int) (us : List U6) (js : List J3) (u : Int) (us' : List U6) : Prop :=
  (∀ r, unF us (js ++ r) = unF us' r) ∧ us'.length = us.length + js.length ∧ (∃ A : Nat, u = A ∧ A < us'.length ∧ (un us' A).j = false ∧ Whole l t m n (un us' A).p ∧ ((A : Int) ∈ ns ∨ us.length ≤ A) ∧ (xs.length = 1 ∨ A + 1 = us'.length)) ∧
    ∀ i : Nat, i < us.length → (i : Int) ∉ ns → un us' i = un us i
/-- The last join. -/
theorem made_two {j1 j2 : List J3} {u1 u2 : Int} {us1 us2 : List U6} (h : St l t xs ns us) (lay : LayOk m n xs) (hc : hasC m n xs c = true)
    (m1 : Made l t (pM1 m c) (pN1 n c) (pL1 m n c xs) (numK c false xs ns xs.length) us j1 u1 us1) (m2 : Made (l + pX2 c) (t + pY2 c) (pM2 m c) (pN2 n c) (pL2 m n c xs) (numK c true xs ns xs.length) us1 j2 u2 us2) :
    ∃ A1 A2 : Nat, u1 = A1 ∧ u2 = A2 ∧ (∀ r, unF us (j1 ++ j2 ++ r) = unF us2 r) ∧ us2.length = us.length + (j1.length + j2.length) ∧ FitJ us2 ⟨c.up, A1, A2⟩ ∧ ¬ FitJ us2 ⟨!c.up, A1, A2⟩ ∧ Whole l t m n (sewP c.up (un us2 A1).p (un us2 A2).p) ∧
      ∀ i : Nat, i < us.length → (i : Int) ∉ ns → un us2 i = un us i ∧ i ≠ A1 ∧ i ≠ A2 := by
  obtain ⟨f1, l1, ⟨A1, rfl, a1, ha1, w1, in1, _⟩, k1⟩ := m1
  obtain ⟨f2, l2, ⟨A2, rfl, a2, ha2, w2, in2, _⟩, k2⟩ := m2
  have hns := h.1
  have ns2 : ∀ z : Int, z ∈ numK c true xs ns xs.length → z < us.length := fun z hz => by
    obtain ⟨i, hi, rfl⟩ := mem_num hz
    obtain ⟨q, e1, hq, _⟩ := h.2.1 i (idxs_lt hi)
    rw [e1]; omega
  have not2 : (A1 : Int) ∉ numK c true xs ns xs.length := fun hz => by
    rcases in1 with k | k
    · exact h.apart k hz
    · have := ns2 _ hz; omega
  have e1 : un us2 A1 = un us1 A1 := k2 A1 (by omega) not2
  have hne : A1 ≠ A2 := fun e => by
    subst e
    rcases in2 with k | k
    · exact not2 k
    · omega
  have hw1 : Whole l t (pM1 m c) (pN1 n c) (un us2 A1).p := by rw [e1]; exact w1
  obtain ⟨hs, hw⟩ := part_whole hw1 w2
  have hm := lay.1
  have hn := lay.2.1
  refine ⟨A1, A2, rfl, rfl, fun r => by rw [List.append_assoc, f1, f2], by omega, ?_, ?_, hw, fun i hi hz => ⟨?_, ?_, ?_⟩⟩
  · unfold FitJ InU
    simp only [Int.toNat_natCast]
    exact ⟨by omega, by omega, by omega, by rw [e1]; exact ha1, ha2, hs⟩
  · intro k
    have k6 := k.2.2.2.2.2
    simp only [Int.toNat_natCast] at k6
    exact part_flip hw1 w2 hm.1 hn.1 k6
  · have hz1 : (i : Int) ∉ numK c false xs ns xs.length := fun k => hz (num_sub hns k)
    have hz2 : (i : Int) ∉ numK c true xs ns xs.length := fun k => hz (num_sub hns k)
    rw [k2 i (by omega) hz2, k1 i hi hz1]
  · intro e
    subst e
    rcases in1 with k | k
    · exact hz (num_sub hns k)
    · omega
  · intro e
    subst e
    rcases in2 with k | k
    · exact hz (num_sub hns k)
    · omega
theorem tree_made {T : Int} {js : List J3} {u : Int} {b : Bool} (h : TreeIs m n xs ns T js u b) : b = true → ∀ (l t : Int) (us : List U6), T = us.length → St l t xs ns us → ∃ us', Made l t m n xs ns us js u us' := by
  induction h with
  | @one m n xs ns T h hl hn =>
    intro _ l t us hT hs
    obtain ⟨i, e1, hi, hj, e2⟩ := hs.2.1 0 (by omega)
    obtain ⟨g0, g1, g2, g3⟩ := one_whole h hl
    rw [← e2] at g0 g1 g2 g3
    simp only [mv] at g0 g1 g2 g3
    refine ⟨us, fun r => rfl, by simp, ⟨i, e1, hi, hj, ⟨by omega, by omega, g2, g3⟩, .inl ?_, .inl hl⟩, fun _ _ _ => rfl⟩
    rw [← e1]; exact mem_getD (by omega)
  | knot => intro k; cases k
  | @join m n xs ns T c r j1 j2 u1 u2 b1 b2 h hl hn hc t1 t2 ih1 ih2 =>
    intro k l t us hT hs
    rw [Bool.and_eq_true] at k
    obtain ⟨rfl, rfl⟩ := k
    have hh := first_cut hc
    obtain ⟨us1, m1⟩ := ih1 rfl l t us hT (hs.left h hh)
    have hl1 := m1.2.1
    have hs2 : St (l + pX2 c) (t + pY2 c) (pL2 m n c xs) (numK c true xs ns xs.length) us1 := (hs.right h hh).keep (by omega) (fun i hi hz => m1.2.2.2 i hi (fun k => hs.apart k hz))
    obtain ⟨us2, m2⟩ := ih2 rfl _ _ us1 (by omega) hs2
    obtain ⟨A1, A2, e1, e2, hf, hlen, hfit, _, hw, hk⟩ := made_two hs h hh m1 m2
    subst e1 e2
    simp only [Bool.and_self, if_true]
    refine ⟨putJ us2 ⟨c.up, A1, A2⟩, fun r => ?_, ?_, ⟨us2.length, by omega, by rw [putJ_len]; omega, ?_, ?_, .inr (by omega), .inr (by rw [putJ_len])⟩, fun i hi hz => ?_⟩
    · rw [List.append_assoc, hf]; exact unF_one hfit
    · rw [putJ_len]; simp; omega
    · rw [un_new]; rfl
    · rw [un_new, mkU_p]; simpa using hw
    · obtain ⟨q1, q2, q3⟩ := hk i hi hz
      rw [un_put hfit (by omega)]
      simp only [Int.toNat_natCast]
      rw [if_neg (by omega), q1]
theorem St.all (h : LayOk m n xs) : St 0 0 xs (numsN xs.length) (xs.map mkU) := by
  refine ⟨numsN_len _, fun k hk => ⟨k, numsN_at hk, by simpa using hk, ?_, ?_⟩, fun k k' hk hk' e => ?_⟩
  · rw [un_get (by simpa using hk), List.getElem_map]; rfl
  · rw [un_get (by simpa using hk), List.getElem_map, mkU_p, mv_zero, ← pat_get hk]
  · rw [numsN_at hk, numsN_at hk'] at e; omega
/-- The last join turned the other way. -/
def flipL (js : List J3) : List J3 := js.set (js.length - 1) ⟨!(jn js (js.length - 1)).up, (jn js (js.length - 1)).a, (jn js (js.length - 1)).b⟩
theorem flip_end (js : List J3) (up : Bool) (a b : Int) : flipL (js ++ [⟨up, a, b⟩]) = js ++ [⟨!up, a, b⟩] := by
  have e : jn (js ++ [⟨up, a, b⟩]) ((js ++ [(⟨up, a, b⟩ : J3)]).length - 1) = ⟨up, a, b⟩ := by simp [jn]
  unfold flipL
  rw [e]
  simp
theorem joins_len (h : sewB m n xs = true) : (joinsL m n xs).length + 1 = xs.length := (joins_tree h).full rfl
/-- They make the whole. -/
theorem joins_whole (h : sewB m n xs = true) : areJ m n xs (joinsL m n xs) = true ∧ boxB m n xs (joinsL m n xs) (xs.length + (joinsL m n xs).length - 1) = true ∧
    Whole 0 0 m n (boxP m n xs (joinsL m n xs) (xs.length + (joinsL m n xs).length - 1)) ∧ boxB m n xs (joinsL m n xs) (xs.length + (joinsL m n xs).length) = false := by
  have hl := sew_layB h
  have lay := lay_of hl
  have h1 := lay.2.2.1.1
  have hjl := joins_len h
  obtain ⟨us', f, hlen, ⟨A, hA, hA2, _, hw, hin, hend⟩, _⟩ := tree_made (joins_tree h) rfl 0 0 (xs.map mkU) (by simp) (St.all lay)
  have hu : unL m n xs (joinsL m n xs) = us' := by
    rw [unL_yes hl]; have := f []; simpa [unF] using this
  rw [List.length_map] at hlen
  have hAe : (A : Int) = xs.length + (joinsL m n xs).length - 1 := by
    rcases hend with k | k
    · omega
    · omega
  refine ⟨?_, ?_, ?_, ?_⟩
  · unfold areJ
    rw [hl, hu, hlen]
    simp only [Bool.true_and, Bool.and_eq_true, beq_iff_eq]
    omega
  · unfold boxB; rw [hu]; apply decide_eq_true; unfold InU; omega
  · unfold boxP; rw [hu, if_pos (by unfold InU; omega), ← hAe]; simpa using hw
  · unfold boxB; rw [hu]; apply decide_eq_false; unfold InU; omega
theorem joins_flip (h : sewB m n xs = true) (h1 : xs.length ≠ 1) : areJ m n xs (flipL (joinsL m n xs)) = false := by
  have hl := sew_layB h
  have lay := lay_of hl
  have tr := joins_tree h
  obtain ⟨J, hJ⟩ : ∃ J, J = joinsL m n xs := ⟨_, rfl⟩
  obtain ⟨b, hb⟩ : ∃ b, b = true := ⟨_, rfl⟩
  obtain ⟨T, hT⟩ : ∃ T : Int, T = xs.length := ⟨_, rfl⟩
  obtain ⟨u, hu⟩ : ∃ u, u = (treeR m n xs).2.1 := ⟨_, rfl⟩
  rw [← hJ] at tr ⊢
  rw [← hb, ← hT, ← hu] at tr
  clear hJ hu
  cases tr with
  | one _ hl1 => exact absurd hl1 h1
  | knot => cases hb
  | @join _ _ _ _ _ c r j1 j2 u1 u2 b1 b2 h' hl' hn hc t1 t2 =>
    rw [Bool.and_eq_true] at hb
    obtain ⟨rfl, rfl⟩ := hb
    have hh := first_cut hc
    have hs := St.all lay
    obtain ⟨us1, m1⟩ := tree_made t1 rfl 0 0 (xs.map mkU) (by simp [hT]) (hs.left lay hh)
    have hl1 := m1.2.1
    have hs2 : St (0 + pX2 c) (0 + pY2 c) (pL2 m n c xs) (numK c true xs (numsN xs.length) xs.length) us1 := (hs.right lay hh).keep (by omega) (fun i hi hz => m1.2.2.2 i hi (fun k => hs.apart k hz))
    obtain ⟨us2, m2⟩ := tree_made t2 rfl _ _ us1 (by rw [hl1, hT]; simp) hs2
    obtain ⟨A1, A2, e1, e2, hf, hlen, _, hno, _⟩ := made_two hs lay hh m1 m2
    subst e1 e2
    simp only [Bool.and_self, if_true]
    rw [flip_end]
    have hu : unL m n xs (j1 ++ j2 ++ [⟨!c.up, A1, A2⟩]) = us2 := by
      rw [unL_yes hl, hf, unF, if_neg hno]
    unfold areJ
    rw [hu, hlen]
    simp
    omega
theorem joins_drop (h : sewB m n xs = true) (h1 : xs.length ≠ 1) : areJ m n xs ((joinsL m n xs).drop 1) = false := by
  have hjl := joins_len h
  unfold areJ
  have : (((joinsL m n xs).drop 1).length : Int) ≠ (xs.length : Int) - 1 := by simp; omega
  rw [beq_eq_false_iff_ne.2 this]; simp
theorem are_nil (h : sewB m n xs = false) : areJ m n xs [] = false := by
  cases e : areJ m n xs [] with
  | false => rfl
  | true =>
    have hl := are_lay e
    have h1 := (are_len e).1
    simp at h1
    have k := knotR_is hl
    have hs := sew_lay hl
    rw [h] at hs
    exfalso
    cases hq : knotR m n xs with
    | none => rw [hq] at hs; cases hs
    | some q =>
      rw [hq] at k
      cases k with
      | knot _ h2 => omega
      | left _ h2 => omega
      | right _ h2 => omega

/-- Depths: what the joins of a part do. -/
theorem pow_two {a b : Nat} {x y : Nat} (hx : x ≤ 2 ^ a) (hy : y ≤ 2 ^ b) : x + y ≤ 2 ^ (1 + max a b) := by
  have h1 : 2 ^ a ≤ 2 ^ max a b := Nat.pow_le_pow_right (by decide) (Nat.le_max_left _ _)
  have h2 : 2 ^ b ≤ 2 ^ max a b := Nat.pow_le_pow_right (by decide) (Nat.le_max_right _ _)
  rw [Nat.pow_add]; omega
theorem dp_old {ds es : List Int} {i : Nat} (h : i < ds.length) : dp (ds ++ es) i = dp ds i := by
  unfold dp; rw [List.getD_eq_getElem?_getD, List.getElem?_append_left h, ← List.getD_eq_getElem?_getD]
theorem tree_depth {T : Int} {js : List J3} {u : Int} {b : Bool} (h : TreeIs m n xs ns T js u b) : b = true → ∀ (ds : List Int), T = ds.length → (∀ k, k < xs.length → ∃ i : Nat, ns.getD k 0 = i ∧ i < ds.length ∧ dp ds i = 0) →
    ∃ (ds' : List Int) (A d : Nat), (∀ r, dpF ds (js ++ r) = dpF ds' r) ∧ ds'.length = ds.length + js.length ∧ u = A ∧ A < ds'.length ∧ dp ds' A = d ∧ d + 1 ≤ xs.length ∧ xs.length ≤ 2 ^ d ∧ (xs.length = 1 ∨ A + 1 = ds'.length) ∧ ∀ i, i < ds.length → dp ds' i = dp ds i := by
  induction h with
  | @one m n xs ns T h hl hn =>
    intro _ ds hT hs
    obtain ⟨i, e1, hi, e2⟩ := hs 0 (by omega)
    exact ⟨ds, i, 0, fun r => rfl, by simp, e1, hi, by rw [e2]; rfl, by omega, by rw [hl]; decide, .inl hl, fun _ _ => rfl⟩
  | knot => intro k; cases k
  | @join m n xs ns T c r j1 j2 u1 u2 b1 b2 h hl hn hc t1 t2 ih1 ih2 =>
    intro k ds hT hs
    rw [Bool.and_eq_true] at k
    obtain ⟨rfl, rfl⟩ := k
    have hh := first_cut hc
    have hpl := part_len h hh
    have sub : ∀ (b : Bool) (k : Nat), k < (idxs c b xs xs.length).length → ∃ i : Nat, (numK c b xs ns xs.length).getD k 0 = i ∧ i < ds.length ∧ dp ds i = 0 := fun b k hk => by
      obtain ⟨i, e1, hi, e2⟩ := hs _ (idxs_lt (List.getElem_mem hk))
      exact ⟨i, by rw [← e1]; exact getD_map_int _ hk, hi, e2⟩
    have q1 : (pL1 m n c xs).length = (idxs c false xs xs.length).length := by rw [pL1_idx h hh]; simp
    have q2 : (pL2 m n c xs).length = (idxs c true xs xs.length).length := by rw [pL2_idx h hh]; simp
    obtain ⟨d1, A1, x1, f1, l1, rfl, a1, e1, b1, p1, _, k1⟩ := ih1 rfl ds hT (fun k hk => sub false k (by omega))
    obtain ⟨d2, A2, x2, f2, l2, rfl, a2, e2, b2, p2, _, k2⟩ := ih2 rfl d1 (by omega) (fun k hk => by
      obtain ⟨i, g1, g2, g3⟩ := sub true k (by omega)
      exact ⟨i, g1, by omega, by rw [k1 i g2]; exact g3⟩)
    simp only [Bool.and_self, if_true]
    have hok : DpOk d2 ⟨c.up, A1, A2⟩ := by unfold DpOk InU; simp only; omega
    refine ⟨d2 ++ [dpJ d2 ⟨c.up, A1, A2⟩], d2.length, 1 + max x1 x2, fun r => ?_, by simp; omega, by omega, by simp, ?_, by omega, ?_, .inr (by simp), fun i hi => ?_⟩
    · rw [List.append_assoc, List.append_assoc, f1, f2]
      show dpF d2 (⟨c.up, A1, A2⟩ :: r) = _
      rw [dpF, if_pos hok]
    · have : dp (d2 ++ [dpJ d2 ⟨c.up, A1, A2⟩]) d2.length = dpJ d2 ⟨c.up, A1, A2⟩ := by simp [dp]
      rw [this]
      unfold dpJ
      simp only [Int.toNat_natCast]
      rw [k2 A1 a1, e1, e2]; omega
    · rw [← hpl]; exact pow_two p1 p2
    · rw [dp_old (by omega), k2 i (by omega), k1 i hi]
theorem joins_depth (h : sewB m n xs = true) : ∃ d : Nat, depJ (joinsL m n xs) xs.length = d ∧ d + 1 ≤ xs.length ∧ xs.length ≤ 2 ^ d := by
  have hl := sew_layB h
  have lay := lay_of hl
  have hx := lay.2.2.1
  have hjl := joins_len h
  obtain ⟨ds', A, d, f, hlen, hA, hA2, e, b1, b2, hend, _⟩ := tree_depth (joins_tree h) rfl (List.replicate xs.length 0) (by simp) (fun k hk => ⟨k, numsN_at hk, by simpa using hk, by
    unfold dp; rw [List.getD_eq_getElem?_getD, List.getElem?_replicate]; split <;> rfl⟩)
  refine ⟨d, ?_, b1, b2⟩
  unfold depJ
  rw [if_pos ⟨by omega, by omega⟩, Int.toNat_natCast]
  have := f []
  rw [List.append_nil] at this
  rw [this, dpF]
  rw [List.length_replicate] at hlen
  have hAe : A = ds'.length - 1 := by
    rcases hend with k | k
    · omega
    · omega
  rw [← hAe]; exact e
/-- The longest seam. -/
theorem lon_bd {us : List U6} {js : List J3} (hf : ∀ k, k < js.length → 1 ≤ lenJ us (jn js k) ∧ lenJ us (jn js k) ≤ max m n) (hmn : 0 ≤ max m n) : ∀ k, k ≤ js.length → 0 ≤ lonK us js k ∧ lonK us js k ≤ max m n ∧ (0 < k → 1 ≤ lonK us js k)
  | 0, _ => ⟨Int.le_refl _, hmn, fun h => by omega⟩
  | k + 1, h => by
    obtain ⟨h1, h2, _⟩ := lon_bd hf hmn k (by omega)
    obtain ⟨g1, g2⟩ := hf k (by omega)
    show 0 ≤ max _ _ ∧ max _ _ ≤ _ ∧ (0 < k + 1 → 1 ≤ max _ _)
    omega
theorem joins_longest (h : sewB m n xs = true) : 0 ≤ lonJ m n xs (joinsL m n xs) ∧ lonJ m n xs (joinsL m n xs) ≤ max m n ∧ (lonJ m n xs (joinsL m n xs) = 0 ↔ xs.length = 1) := by
  have hl := sew_layB h
  have lay := lay_of hl
  have hm := lay.1
  have hn := lay.2.1
  have hjl := joins_len h
  have ha := (joins_whole h).1
  rw [← lon_yes ha]
  obtain ⟨h1, h2, h3⟩ := lon_bd (m := m) (n := n) (us := unL m n xs (joinsL m n xs)) (js := joinsL m n xs) (fun k hk => by
    have hi := are_in ha hk
    obtain ⟨i0, i1⟩ := hi
    have f := unL_fit (m := m) (n := n) (xs := xs) (js := joinsL m n xs) (i := (jn (joinsL m n xs) k).a.toNat) (by omega)
    obtain ⟨⟨f0, _⟩, ⟨f1, _⟩, ⟨f2, f3⟩, ⟨f4, f5⟩, _⟩ := f
    rw [show lenJ (unL m n xs (joinsL m n xs)) (jn (joinsL m n xs) k) = if (jn (joinsL m n xs) k).up then (un (unL m n xs (joinsL m n xs)) (jn (joinsL m n xs) k).a.toNat).p.h else (un (unL m n xs (joinsL m n xs)) (jn (joinsL m n xs) k).a.toNat).p.w from rfl]
    split <;> omega) (by omega) _ (Nat.le_refl _)
  refine ⟨h1, h2, fun e => ?_, fun e => ?_⟩
  · rcases Nat.eq_zero_or_pos (joinsL m n xs).length with z | z
    · omega
    · have := h3 z; omega
  · have : (joinsL m n xs).length = 0 := by omega
    rw [this]; rfl

end Go.Proofs.Ytlkiacgpiodkiaa

set_option linter.unusedSimpArgs false
set_option linter.unusedVariables false
namespace Go.Proofs.Ytlkiacgpiodkiaa

def stK (us : List U6) (js : List J3) : Nat → List U6
  | 0 => us
  | k + 1 => putJ (stK us js k) (jn js k)
theorem stK_len (us : List U6) (js : List J3) : ∀ k, (stK us js k).length = us.length + k
  | 0 => rfl
  | k + 1 => by simp only [stK, putJ_len, stK_len us js k]; omega
theorem unF_fit {us : List U6} {js : List J3} (h : (unF us js).length = us.length + js.length) : ∀ k, k ≤ js.length → unF (stK us js k) (js.drop k) = unF us js ∧ ∀ i, i < k → FitJ (stK us js i) (jn js i)
  | 0, _ => ⟨by simp [stK], fun i hi => by omega⟩
  | k + 1, hk => by
    obtain ⟨h1, h2⟩ := unF_fit h k (by omega)
    by_cases hf : FitJ (stK us js k) (jn js k)
    · refine ⟨unF_yes (by omega) h1 hf, fun i hi => ?_⟩
      rcases Nat.lt_or_ge i k with h3 | h3
      · exact h2 i h3
      · obtain rfl : i = k := by omega
        exact hf
    · have h3 := unF_no (by omega) h1 hf
      have h4 := stK_len us js k
      rw [h3, h] at h4
      omega
theorem stK_used {us : List U6} {js : List J3} (h : (unF us js).length = us.length + js.length) (h0 : ∀ i, i < us.length → (un us i).j = false) :
    ∀ k, k ≤ js.length → ∀ i, i < us.length + k → (un (stK us js k) i).j = usedJ js k i
  | 0, _, i, hi => by rw [usedJ_zero]; exact h0 i hi
  | k + 1, hk, i, hi => by
    have hf := (unF_fit h js.length (Nat.le_refl _)).2 k (by omega)
    have ih := stK_used h h0 k (by omega)
    have hl := stK_len us js k
    simp only [stK]
    rw [usedJ_succ (by omega)]
    by_cases e : i = us.length + k
    · subst e
      have := un_new (stK us js k) (jn js k)
      rw [hl] at this
      rw [this]
      have hfar : usedJ js k (us.length + k) = false := by
        unfold usedJ
        rw [List.any_eq_false]
        intro j hj
        obtain ⟨i, hi, rfl⟩ := List.mem_iff_getElem.1 hj
        have hi' := hi
        rw [List.length_take] at hi'
        obtain ⟨⟨a0, a1⟩, ⟨b0, b1⟩, _⟩ := (unF_fit h js.length (Nat.le_refl _)).2 i (by omega)
        rw [stK_len] at a1 b1
        rw [List.getElem_take, ← jn_get (by omega)]
        generalize jn js i = j at a0 a1 b0 b1
        simp only [Bool.or_eq_true, beq_iff_eq]
        omega
      obtain ⟨⟨a0, a1⟩, ⟨b0, b1⟩, _⟩ := hf
      rw [hl] at a1 b1
      rw [hfar]
      have e1 : ((jn js k).a.toNat == us.length + k) = false := by
        generalize jn js k = j at a0 a1
        simp only [beq_eq_false_iff_ne]; omega
      have e2 : ((jn js k).b.toNat == us.length + k) = false := by
        generalize jn js k = j at b0 b1
        simp only [beq_eq_false_iff_ne]; omega
      rw [e1, e2]; rfl
    · rw [un_put hf (by rw [hl]; omega)]
      have := ih i (by omega)
      split
      · rename_i e1
        have : ((jn js k).a.toNat == i || (jn js k).b.toNat == i) = true := by
          rw [Bool.or_eq_true, beq_iff_eq, beq_iff_eq]
          exact e1.symm
        rw [this, Bool.or_true]; rfl
      · rename_i e1
        have e2 : ((jn js k).a.toNat == i || (jn js k).b.toNat == i) = false := by
          rw [Bool.or_eq_false_iff, beq_eq_false_iff_ne, beq_eq_false_iff_ne]
          exact ⟨fun e => e1 (.inr e), fun e => e1 (.inl e)⟩
        rw [e2, Bool.or_false]; exact this
theorem are_aps {m n : Int} {xs : List P5} {js : List J3} (h : areJ m n xs js = true) : Aps js js.length := by
  obtain ⟨_, h2⟩ := are_len h
  rw [unL_yes (are_lay h)] at h2
  have h2' : (unF (xs.map mkU) js).length = (xs.map mkU).length + js.length := by rw [h2]; simp
  have h0 : ∀ i, i < (xs.map mkU).length → (un (xs.map mkU) i).j = false := by
    intro i hi
    rw [un_get hi, List.getElem_map]; rfl
  intro i hi
  obtain ⟨_, h3⟩ := unF_fit h2' js.length (Nat.le_refl _)
  obtain ⟨⟨a0, a1⟩, ⟨b0, b1⟩, hne, ja, jb, _⟩ := h3 i hi
  have hl := stK_len (xs.map mkU) js i
  rw [hl] at a1 b1
  have hu := stK_used h2' h0 i (by omega)
  refine ⟨hne, ?_, ?_⟩
  · rw [← hu _ (by omega)]; exact ja
  · rw [← hu _ (by omega)]; exact jb
theorem joins_make {m n : Int} {xs : List P5} (h : sewB m n xs = true) : treeB (joinsL m n xs) xs.length = true := by
  obtain ⟨d, hd, _⟩ := joins_depth h
  exact tree_yes (by omega) (are_aps (joins_whole h).1)
theorem one_tree : treeB [] 1 = true := by
  unfold treeB; exact decide_eq_true ⟨by decide, fun i hi => by simp at hi⟩
/-- A list of joins by hand: two orders. -/
theorem four_two : cntB [⟨false, 0, 1⟩, ⟨false, 2, 3⟩, ⟨false, 4, 5⟩] 4 = 2 := by decide
end Go.Proofs.Ytlkiacgpiodkiaa
