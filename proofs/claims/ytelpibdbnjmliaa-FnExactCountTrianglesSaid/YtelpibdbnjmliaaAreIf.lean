/- Areas: numbers of the program's map of areas, filled color by color; a look-up and a store at a step of a drawn region. -/
import Derived.Test.YtelpibdbnjmliaaMapL
import Derived.Test.YtelpibdbnjmliaaAreG
import Derived.Test.YtelpibdbnjmliaaRegM
import Derived.Test.YtelpibdbnjmliaaWith
import Derived.Test.YtelpibdbnjmliaaBlkIu
namespace Go.Proofs.Ytelpibdbnjmliaa
open Go.ChangeShapes Go.WideShapes Go.ChangeAt Go.RowKit Go.Maps

/-- What stands in the map when c colors of t are through. -/
def fO (t : List Int) (xs : List C3) (c : Nat) (j : Int) : Int := if j ∈ t.take c then arL xs j xs.length else 0
/-- .. and m cells for the next one. -/
def fI (t : List Int) (xs : List C3) (c m : Nat) (j : Int) : Int := if j ∈ t.take c then arL xs j xs.length else if j = t.getD c 0 then arL xs j m else 0
def ks (t : List Int) (c m : Nat) : List Int := if m = 0 then t.take c else t.take c ++ [t.getD c 0]
theorem take_one (t : List Int) (c : Nat) (h : c < t.length) : t.take (c + 1) = t.take c ++ [t.getD c 0] := by
  rw [List.take_succ_eq_append_getElem h]
  simp [List.getD, h]
theorem fI_zero (t : List Int) (xs : List C3) (c : Nat) (j : Int) : fO t xs c j = fI t xs c 0 j := by
  unfold fO fI
  split
  · rfl
  · split
    · rw [arL_zero]
    · rfl
theorem fI_full (t : List Int) (xs : List C3) (c : Nat) (h : c < t.length) (j : Int) : fI t xs c xs.length j = fO t xs (c + 1) j := by
  unfold fO fI
  rw [take_one t c h]
  by_cases h1 : j ∈ t.take c
  · simp [h1]
  · by_cases h2 : j = t.getD c 0 <;> simp [h1, h2]
theorem fI_at (t : List Int) (xs : List C3) (c m : Nat) (h : t.getD c 0 ∉ t.take c) : fI t xs c m (t.getD c 0) = arL xs (t.getD c 0) m := by
  unfold fI
  rw [if_neg h, if_pos rfl]
theorem fI_step (t : List Int) (xs : List C3) (c m : Nat) (h : t.getD c 0 ∉ t.take c) (j : Int) : (if j = t.getD c 0 then arL xs (t.getD c 0) (m + 1) else fI t xs c m j) = fI t xs c (m + 1) j := by
  unfold fI
  by_cases h1 : j = t.getD c 0
  · subst h1
    rw [if_pos rfl, if_neg h, if_pos rfl]
  · rw [if_neg h1]
    simp only [if_neg h1]
/-- One more cell. -/
theorem MapLD.step {w w1 : World} {b n : Nat} {t : List Int} {xs : List C3} {c m : Nat} {D : DataW Unit} {z : Int} (h : MapLD w b n (ks t c m) (fI t xs c m) D) (hk : (Lit.int .i64 (t.getD c 0)).wf = true) (hn : t.getD c 0 ∉ t.take c) (hz : z = arL xs (t.getD c 0) (m + 1))
    (h1 : w1.ownsMap Try.prog 3 (plainElem Try.prog 3) b (n + 1) (D.put (.int .i64 (t.getD c 0)) (.lit (.int .i64 z)))) : MapL w1 b (n + 1) (ks t c (m + 1)) (fI t xs c (m + 1)) := by
  subst hz
  have e : ks t c (m + 1) = t.take c ++ [t.getD c 0] := by unfold ks; simp
  by_cases hm : m = 0
  · have hl : t.getD c 0 ∉ ks t c m := by unfold ks; rw [if_pos hm]; exact hn
    have := (h.put_new hk hl h1).congr (fI_step t xs c m hn)
    rw [e]
    unfold ks at this
    rw [if_pos hm] at this
    exact this
  · have hl : t.getD c 0 ∈ ks t c m := by unfold ks; rw [if_neg hm]; simp
    have := (h.put_old hk hl h1).congr (fI_step t xs c m hn)
    rw [e]
    unfold ks at this
    rw [if_neg hm] at this
    exact this
theorem cols_nodup (xs : List C3) : (cols xs 6).Nodup := by
  unfold cols
  refine List.Pairwise.map _ (fun a b (h : a ≠ b) => ?_) (List.Pairwise.filter _ List.nodup_range)
  omega
theorem nodup_take {t : List Int} (h : t.Nodup) {c : Nat} (hc : c < t.length) : t.getD c 0 ∉ t.take c := by
  intro hm
  obtain ⟨i, hi, e⟩ := List.getElem_of_mem hm
  simp only [List.length_take] at hi
  rw [List.getElem_take] at e
  have h1 : t.getD c 0 = t[c] := by simp [List.getD, hc]
  rw [h1] at e
  have := (List.getElem_inj h (h₀ := by omega) (h₁ := hc)).1 e
  omega
/-- What is asked of the colors. -/
theorem colors_fact (n : Int) (xs : List C3) (c : Nat) (h : c < (colorsOf n xs).length) : BlkOk n xs ∧ 0 ≤ (colorsOf n xs).getD c 0 ∧ (colorsOf n xs).getD c 0 ≤ 5 ∧ (colorsOf n xs).getD c 0 ∉ (colorsOf n xs).take c := by
  by_cases hb : BlkOk n xs
  · rw [colors_yes hb] at h ⊢
    obtain ⟨j, hj, hj6⟩ := cols_at h
    have := nodup_take (cols_nodup xs) h
    refine ⟨hb, ?_, ?_, this⟩ <;> rw [hj] <;> omega
  · rw [colors_no hb] at h
    exact absurd h (by simp)
theorem colors_le (n : Int) (xs : List C3) : (colorsOf n xs).length ≤ 6 := by
  by_cases hb : BlkOk n xs
  · rw [colors_yes hb]; exact cols_le xs 6
  · rw [colors_no hb]; simp
/-- A color that has an area is listed. -/
theorem area_none {n : Int} {xs : List C3} (hb : BlkOk n xs) {j : Int} (h : j ∉ cols xs 6) : arL xs j xs.length = 0 := by
  have hu := usd_area xs j xs.length (Nat.le_refl _)
  have hp := arL_bound xs j xs.length (Nat.le_refl _)
  by_cases hz : arL xs j xs.length = 0
  · exact hz
  · rw [show decide (0 < arL xs j xs.length) = true by simp; omega] at hu
    unfold usd at hu
    rw [List.take_length, List.any_eq_true] at hu
    obtain ⟨x, hx, hxj⟩ := hu
    have ho : OkC x.s x.a x.b := hb.2.2 x hx
    unfold OkC at ho
    have hj : 0 ≤ j ∧ j ≤ 5 := by
      simp only [Bool.or_eq_true, beq_iff_eq] at hxj
      omega
    obtain ⟨i, rfl⟩ : ∃ i : Nat, j = i := ⟨j.toNat, by omega⟩
    refine absurd ((mem_cols (xs := xs) (k := i) (by omega)).2 ?_) h
    unfold usd
    rw [List.take_length, List.any_eq_true]
    exact ⟨x, hx, hxj⟩
theorem fO_end (n : Int) (xs : List C3) (j : Int) : fO (colorsOf n xs) xs (colorsOf n xs).length j = areaOf n xs j := by
  unfold fO
  rw [List.take_length]
  by_cases hb : BlkOk n xs
  · rw [colors_yes hb, area_yes j hb]
    by_cases h : j ∈ cols xs 6
    · rw [if_pos h]
    · rw [if_neg h, area_none hb h]
  · rw [colors_no hb, area_no j hb]
    simp

/-- A new map is handed back; its keys are l; at the key k stands f k. -/
def FreshL (l : List Int) (f : Int → Int) (w : World) (e : Ending) (w' : World) : Prop := ∃ b n : Nat, e = .returned (.map (some b)) ∧ MapL w' b n l f ∧ w.heap.size ≤ b ∧ Below w.heap.size w w'

theorem size_drew_alloc (w : World) (o : Obj) : (w.alloc o).drew.heap.size = w.heap.size + 1 := by
  show (w.alloc o).heap.size = _
  simp
theorem bel0d (w : World) (o : Obj) : Below w.heap.size w (w.alloc o).drew := ⟨(bel0 w o).os, (bel0 w o).tape, (bel0 w o).output, (bel0 w o).size, (bel0 w o).block⟩
theorem Within.of_grown {u v : World} {j lo hi : Nat} (h : u.grownBy v (some j)) (h0 : lo ≤ j) (h1 : j < hi) : Within lo hi u v := ⟨h.os, h.tape, h.output, h.size, fun k hk ho => h.block k hk (by simp; omega)⟩
theorem Within.frozen {lo hi : Nat} {u w : World} (h : Within lo hi u w) {p : Addr} {x : Value} (hc : u.cell? p = some x) (hf : u.frozen? p = false) (ho : p.block < lo ∨ hi ≤ p.block) : w.frozen? p = false :=
  (World.frozen?_of_block (w := u) (h.block p.block (lt_of_cell hc) ho)).trans hf
theorem IntIn.apart {a b lo hi : Nat} {w w' : World} {v : Value} {zs : List Int} (h : IntIn a b w v zs) (k : Within lo hi w w') (ho : hi ≤ a) : IntIn a b w' v zs := by
  obtain ⟨hl, h | ⟨g, cap, hv, hg, hlt, hc⟩⟩ := h
  · exact ⟨hl, .inl h⟩
  · exact ⟨hl, .inr ⟨g, cap, hv, hg, hlt, fun i hj => ⟨k.cell (hc i hj).1 (.inr (by show hi ≤ g; omega)), k.frozen (hc i hj).1 (hc i hj).2 (.inr (by show hi ≤ g; omega))⟩⟩⟩

section
variable {o : Oper} {a : Act} {w : World} {K : Act → World → Prop} {Q : Exit → Act → World → Prop}
/-- A look-up at a step of a region. -/
theorem op_look (m x : Operand) (hop : o.op = Op.lookup 55 m x false) {b n : Nat} {f : Int → Int} {D : DataW Unit} {k z : Int} (hz : f k = z) (hm : a.eval m = .map (some b)) (hx : a.eval x = .int .i64 k) (hk : (Lit.int .i64 k).wf = true) (h : MapD w b n f D)
    (hK : K (a.put o.dst (.int .i64 z)) w) : Oper.wp Try.prog o a w K Q := by
  subst hz
  have hrun := run_look h hk
  unfold Oper.wp
  simp [execOp, hop, hm, hx, hrun, Result.andThen]
  exact hK
/-- A store at a step of a region. -/
theorem op_put (m x v : Operand) (hop : o.op = Op.mapUpdate 55 m x v) {b n : Nat} {f : Int → Int} {D : DataW Unit} {k z : Int} (hm : a.eval m = .map (some b)) (hx : a.eval x = .int .i64 k) (hv : a.eval v = .int .i64 z) (hk : (Lit.int .i64 k).wf = true) (hz : (Lit.int .i64 z).wf = true) (h : MapD w b n f D) (hn : n ≤ 1000000)
    (hK : ∀ w1, w1.ownsMap Try.prog 3 (plainElem Try.prog 3) b (n + 1) (D.put (.int .i64 k) (.lit (.int .i64 z))) → w.grownBy w1 (some b) → K (a.put o.dst undef) w1) : Oper.wp Try.prog o a w K Q := by
  obtain ⟨w', hrun, r1, r2⟩ := h.1.update (t := 55) (e := 3) mlaw Try.underlying55 (by unfold maxLen; omega) (keyOf_int_mk Try.underlying3 hk) (plainElem_int Try.underlying3 hz)
  unfold Oper.wp
  simp [execOp, hop, hm, hx, hv, hrun, Result.andThen]
  exact hK w' r1 r2
variable {P : Program} {md : Region.Mode} {l : List Oper} {S : World → Prop}
/-- Two operations may come up, both wanted. -/
theorem reg_two (i j : Nat) {oi oj : Oper} {fuel : Nat} {listed : Array Bool} {a : Act} {w : World} (hi : l[i]? = some oi) (hj : l[j]? = some oj) (hr : Region.ready md l.toArray listed = [i, j])
    (hw : Region.wanted oi (yielded l.toArray a.tmps) = true) (hw2 : Region.wanted oj (yielded l.toArray a.tmps) = true)
    (h : ∀ K' : Act → World → Prop, Shut (∀ a w, S w → (S w → wpAnyH P md l.toArray Q S fuel (listed.setIfInBounds i true) a w) → K' a w) → Oper.wp P oi a w K' Q)
    (h2 : ∀ K' : Act → World → Prop, Shut (∀ a w, S w → (S w → wpAnyH P md l.toArray Q S fuel (listed.setIfInBounds j true) a w) → K' a w) → Oper.wp P oj a w K' Q) :
    wpAnyH P md l.toArray Q S (fuel + 1) listed a w :=
  wpAnyH_ready hr (by simp) (AllReadyH.cons (by simpa using hi) (fun K hK => by rw [if_pos hw]; exact h K hK) (AllReadyH.cons (by simpa using hj) (fun K hK => by rw [if_pos hw2]; exact h2 K hK) AllReadyH.nil))
end

end Go.Proofs.Ytelpibdbnjmliaa
