/- Exchanges: the first use of the colors; what undoes an exchange. Exchanges: the model's ListOk. Exchanges: the model's IsExchange. Exchanges: the model's SwapList and UndoList. -/
import Derived.Test.YtfidnhhlcdbaeaaGreatDoorM10
import Derived.Test.YtfidnhhlcdbaeaaGreatDoorM06
import Derived.Test.YtfidnhhlcdbaeaaGreatDoorM00
import Derived.Test.YtfidnhhlcdbaeaaGreatDoorM01
import Derived.BigQuiet
import Derived.Deep.QuietTactic
import Derived.Deep.AppendLies
import Derived.OwnWalk

namespace Go.Proofs.YtfidnhhlcdbaeaaGreatDoor
open Go.ChangeShapes Go.WideShapes Go.ChangeAt Go.RowKit

theorem col_mem {a : Int} : Col a ↔ a ∈ idL := by
  unfold Col idL
  simp
  omega
/-- No more different ones than there are. -/
theorem pigeon : ∀ (d l : List Int), d.Nodup → (∀ x ∈ d, x ∈ l) → d.length ≤ l.length
  | [], _, _, _ => by simp
  | x :: r, l, hn, hs => by
    obtain ⟨h1, h2⟩ := List.nodup_cons.1 hn
    have hx : x ∈ l := hs x (by simp)
    have ih := pigeon r (l.erase x) h2 (fun y hy => (List.mem_erase_of_ne (fun e => h1 (by rw [← e]; exact hy))).2 (hs y (by simp [hy])))
    rw [List.length_erase_of_mem hx] at ih
    have : 0 < l.length := List.length_pos_of_mem hx
    simp only [List.length_cons]
    omega
theorem idx_at {d : List Int} (hn : d.Nodup) {i : Nat} (hi : i < d.length) : d.idxOf (d.getD i 0) = i := by
  have e : d.getD i 0 = d[i] := by simp [List.getD, hi]
  rw [e]
  have hl : d.idxOf d[i] < d.length := List.idxOf_lt_length_iff.2 (List.getElem_mem hi)
  have h2 : d[d.idxOf d[i]] = d[i] := List.getElem_idxOf hl
  exact (List.getElem_inj hn).1 h2
theorem idx_inj {d : List Int} {a b : Int} (ha : a ∈ d) (hb : b ∈ d) (h : d.idxOf a = d.idxOf b) : a = b := by
  have h1 : d[d.idxOf a]'(List.idxOf_lt_length_iff.2 ha) = a := List.getElem_idxOf _
  have h2 : d[d.idxOf b]'(List.idxOf_lt_length_iff.2 hb) = b := List.getElem_idxOf _
  rw [← h1, ← h2]
  simp only [h]
/-- All colors are in an exchange. -/
theorem exch_all {l : List Int} (h : Exch l) {a : Int} (ha : Col a) : a ∈ l := by
  by_cases hm : a ∈ l
  · exact hm
  · have := pigeon (a :: l) idL (List.nodup_cons.2 ⟨hm, h.2⟩) (fun x hx => by
      rcases List.mem_cons.1 hx with rfl | hx
      · exact col_mem.1 ha
      · exact col_mem.1 (h.1.2 x hx))
    simp only [List.length_cons, h.1.1] at this
    exact absurd this (by decide)
theorem exch_inj {l : List Int} (h : Exch l) {a b : Int} (ha : Col a) (hb : Col b) (e : atL l a = atL l b) : a = b := by
  unfold Col at ha hb
  have h6 := h.1.1
  have e1 : atL l a = l[a.toNat] := by simp [atL, List.getD, show a.toNat < l.length by omega]
  have e2 : atL l b = l[b.toNat] := by simp [atL, List.getD, show b.toNat < l.length by omega]
  rw [e1, e2] at e
  have := (List.getElem_inj h.2).1 e
  omega
theorem exch_of {l : List Int} (h : LstOk l) (hi : ∀ a b, Col a → Col b → atL l a = atL l b → a = b) : Exch l := by
  refine ⟨h, List.pairwise_iff_getElem.2 (fun i j hi' hj hij e => ?_)⟩
  have h6 := h.1
  have := hi (i : Int) (j : Int) ⟨by omega, by omega⟩ ⟨by omega, by omega⟩ (by simp [atL, List.getD, hi', hj, e])
  omega

/-! ### The first use -/
def fuSeq (xs : List C3) : List Int := xs.flatMap fun c => [c.a, c.b]
def fuStep (st : List Int × Int) (a : Int) : List Int × Int := if atL st.1 a < 0 then (st.1.set a.toNat st.2, st.2 + 1) else st
def fuFold (t : List Int) : List Int × Int := t.foldl fuStep ([-1, -1, -1, -1, -1, -1], 0)
theorem fuFold_snoc (t : List Int) (a : Int) : fuFold (t ++ [a]) = fuStep (fuFold t) a := by simp [fuFold, List.foldl_append]
def fuL (xs : List C3) : List Int := (fuFold (fuSeq xs ++ idL)).1
def ddStep (d : List Int) (a : Int) : List Int := if a ∈ d then d else d ++ [a]
def dd (t : List Int) : List Int := t.foldl ddStep []
def pos (d : List Int) (a : Int) : Int := if a ∈ d then (d.idxOf a : Int) else -1
def FInv (st : List Int × Int) (d : List Int) : Prop := st.1.length = 6 ∧ st.2 = (d.length : Int) ∧ ∀ a, Col a → atL st.1 a = pos d a
theorem FInv.step {st : List Int × Int} {d : List Int} (h : FInv st d) {a : Int} (ha : Col a) : FInv (fuStep st a) (ddStep d a) := by
  obtain ⟨h1, h2, h3⟩ := h
  have e := h3 a ha
  unfold fuStep ddStep
  by_cases hm : a ∈ d
  · have : ¬ atL st.1 a < 0 := by rw [e]; unfold pos; rw [if_pos hm]; omega
    rw [if_neg this, if_pos hm]
    exact ⟨h1, h2, h3⟩
  · have : atL st.1 a < 0 := by rw [e]; unfold pos; rw [if_neg hm]; decide
    rw [if_pos this, if_neg hm]
    refine ⟨by simpa using h1, by rw [h2]; simp, fun b hb => ?_⟩
    unfold Col at ha hb
    by_cases hab : b = a
    · subst hab
      have e1 : atL (st.1.set b.toNat st.2) b = st.2 := by simp [atL, List.getD, show b.toNat < st.1.length by omega]
      rw [e1, h2]
      unfold pos
      rw [if_pos (by simp), List.idxOf_append, if_neg hm]
      simp
    · have e1 : atL (st.1.set a.toNat st.2) b = atL st.1 b := by
        simp [atL, List.getD, show ¬ a.toNat = b.toNat by omega]
      rw [e1, h3 b hb]
      unfold pos
      by_cases hbd : b ∈ d
      · rw [if_pos hbd, if_pos (by simp [hbd]), List.idxOf_append, if_pos hbd]
      · rw [if_neg hbd, if_neg (by simp [hbd, hab])]
theorem FInv.fold : ∀ (t : List Int) (st : List Int × Int) (d : List Int), FInv st d → (∀ a ∈ t, Col a) → FInv (t.foldl fuStep st) (t.foldl ddStep d)
  | [], _, _, h, _ => h
  | a :: t, st, d, h, ht => FInv.fold t _ _ (h.step (ht a (by simp))) (fun b hb => ht b (by simp [hb]))
theorem fu_inv (t : List Int) (ht : ∀ a ∈ t, Col a) : FInv (fuFold t) (dd t) := by
  refine FInv.fold t _ _ ⟨rfl, rfl, fun a ha => ?_⟩ ht
  unfold Col at ha
  have : a = 0 ∨ a = 1 ∨ a = 2 ∨ a = 3 ∨ a = 4 ∨ a = 5 := by omega
  rcases this with rfl | rfl | rfl | rfl | rfl | rfl <;> rfl
theorem dd_pre : ∀ (t d : List Int), ∃ r, t.foldl ddStep d = d ++ r
  | [], d => ⟨[], by simp⟩
  | a :: t, d => by
    obtain ⟨r, hr⟩ := dd_pre t (ddStep d a)
    rw [List.foldl_cons, hr]
    unfold ddStep
    split
    · exact ⟨r, rfl⟩
    · exact ⟨a :: r, by simp⟩
theorem dd_nodup : ∀ (t d : List Int), d.Nodup → (t.foldl ddStep d).Nodup
  | [], _, h => h
  | a :: t, d, h => dd_nodup t _ (by
    unfold ddStep
    split
    · exact h
    · rename_i hm
      exact List.nodup_append.2 ⟨h, by simp, fun x hx y hy e => hm (by simp at hy; rw [← hy, ← e]; exact hx)⟩)
theorem dd_mem : ∀ (t d : List Int) (x : Int), x ∈ t.foldl ddStep d ↔ x ∈ d ∨ x ∈ t
  | [], d, x => by simp
  | a :: t, d, x => by
    rw [List.foldl_cons, dd_mem t _ x]
    unfold ddStep
    split
    · rename_i hm
      simp only [List.mem_cons]
      constructor
      · rintro (h | h)
        · exact .inl h
        · exact .inr (.inr h)
      · rintro (h | rfl | h)
        · exact .inl h
        · exact .inl hm
        · exact .inr h
    · simp only [List.mem_append, List.mem_cons, List.not_mem_nil, or_false]
      constructor
      · rintro ((h | h) | h)
        · exact .inl h
        · exact .inr (.inl h)
        · exact .inr (.inr h)
      · rintro (h | h | h)
        · exact .inl (.inl h)
        · exact .inl (.inr h)
        · exact .inr h
theorem dd_has {t : List Int} {a : Int} (h : a ∈ t) : a ∈ dd t := (dd_mem t [] a).2 (.inr h)
theorem dd_map (f : Int → Int) : ∀ (t d : List Int), (∀ a b, (a ∈ d ∨ a ∈ t) → (b ∈ d ∨ b ∈ t) → f a = f b → a = b) → (t.map f).foldl ddStep (d.map f) = (t.foldl ddStep d).map f
  | [], _, _ => rfl
  | a :: t, d, h => by
    have e : ddStep (d.map f) (f a) = (ddStep d a).map f := by
      unfold ddStep
      by_cases hm : a ∈ d
      · rw [if_pos hm, if_pos (List.mem_map.2 ⟨a, hm, rfl⟩)]
      · rw [if_neg hm, if_neg (fun hx => by
          obtain ⟨b, hb, he⟩ := List.mem_map.1 hx
          exact hm (by rw [← h b a (.inl hb) (.inr (by simp)) he]; exact hb))]
        simp
    rw [List.map_cons, List.foldl_cons, List.foldl_cons, e]
    refine dd_map f t _ (fun x y hx hy he => h x y ?_ ?_ he)
    · rcases hx with hx | hx
      · have := (dd_mem [a] d x).1 (by simpa using hx)
        rcases this with h1 | h1
        · exact .inl h1
        · exact .inr (by simp at h1; simp [h1])
      · exact .inr (by simp [hx])
    · rcases hy with hy | hy
      · have := (dd_mem [a] d y).1 (by simpa using hy)
        rcases this with h1 | h1
        · exact .inl h1
        · exact .inr (by simp at h1; simp [h1])
      · exact .inr (by simp [hy])
theorem seq_col {n : Int} {xs : List C3} (h : BlkOk n xs) : ∀ a ∈ fuSeq xs, Col a := by
  intro a ha
  unfold fuSeq at ha
  rw [List.mem_flatMap] at ha
  obtain ⟨c, hc, hac⟩ := ha
  obtain ⟨h1, h2⟩ := okC_col (h.2.2 c hc)
  simp at hac
  rcases hac with rfl | rfl
  · exact h1
  · exact h2
/-- The colors in the order of their first use, the unused ones behind. -/
def fuD (xs : List C3) : List Int := dd (fuSeq xs ++ idL)
theorem fuD_pre (xs : List C3) : ∃ r, fuD xs = dd (fuSeq xs) ++ r := by
  unfold fuD dd
  rw [List.foldl_append]
  exact dd_pre _ _
theorem fuD_nodup (xs : List C3) : (fuD xs).Nodup := dd_nodup _ _ List.nodup_nil
theorem fuD_mem (xs : List C3) {a : Int} (ha : Col a) : a ∈ fuD xs := (dd_mem _ _ a).2 (.inr (by rw [List.mem_append]; exact .inr (col_mem.1 ha)))
theorem fuD_len {n : Int} {xs : List C3} (h : BlkOk n xs) : (fuD xs).length ≤ 6 := by
  refine pigeon (fuD xs) idL (fuD_nodup xs) (fun x hx => ?_)
  have := (dd_mem _ _ x).1 hx
  rcases this with h1 | h1
  · cases h1
  · rw [List.mem_append] at h1
    rcases h1 with h1 | h1
    · exact col_mem.1 (seq_col h x h1)
    · exact h1
theorem fuL_at {n : Int} {xs : List C3} (h : BlkOk n xs) {a : Int} (ha : Col a) : atL (fuL xs) a = ((fuD xs).idxOf a : Int) := by
  have := (fu_inv (fuSeq xs ++ idL) (fun b hb => by
    rw [List.mem_append] at hb
    rcases hb with hb | hb
    · exact seq_col h b hb
    · exact col_mem.2 hb)).2.2 a ha
  unfold fuL
  rw [this]
  exact if_pos (fuD_mem xs ha)
theorem fuL_len {n : Int} {xs : List C3} (h : BlkOk n xs) : (fuL xs).length = 6 :=
  (fu_inv (fuSeq xs ++ idL) (fun b hb => by
    rw [List.mem_append] at hb
    rcases hb with hb | hb
    · exact seq_col h b hb
    · exact col_mem.2 hb)).1
theorem fuL_exch {n : Int} {xs : List C3} (h : BlkOk n xs) : Exch (fuL xs) := by
  refine exch_of ⟨fuL_len h, fun z hz => ?_⟩ (fun a b ha hb e => ?_)
  · obtain ⟨i, hi, rfl⟩ := List.getElem_of_mem hz
    have h6 := fuL_len h
    have e : (fuL xs)[i] = atL (fuL xs) (i : Int) := by simp [atL, List.getD, hi]
    have hc : Col (i : Int) := ⟨by omega, by omega⟩
    rw [e, fuL_at h hc]
    have h1 := fuD_len h
    have h2 : (fuD xs).idxOf (i : Int) < (fuD xs).length := List.idxOf_lt_length_iff.2 (fuD_mem xs hc)
    omega
  · rw [fuL_at h ha, fuL_at h hb] at e
    exact idx_inj (fuD_mem xs ha) (fuD_mem xs hb) (by omega)
theorem seq_ex (zs : List Int) (xs : List C3) : fuSeq (exL zs xs) = (fuSeq xs).map (atL zs) := by
  unfold fuSeq exL
  induction xs with
  | nil => rfl
  | cons c r ih =>
    simp only [List.map_cons, List.flatMap_cons, List.map_append] at ih ⊢
    rw [ih, exC_a, exC_b]
    rfl
/-- A used color keeps its number. -/
theorem fuD_used {xs : List C3} {a : Int} (h : a ∈ fuSeq xs) : (fuD xs).idxOf a = (dd (fuSeq xs)).idxOf a := by
  obtain ⟨r, hr⟩ := fuD_pre xs
  rw [hr, List.idxOf_append, if_pos (dd_has h)]
theorem ddMap {zs : List Int} (hz : Exch zs) {n : Int} {xs : List C3} (h : BlkOk n xs) : dd (fuSeq (exL zs xs)) = (dd (fuSeq xs)).map (atL zs) := by
  rw [seq_ex]
  unfold dd
  refine dd_map (atL zs) (fuSeq xs) [] (fun a b ha hb e => ?_)
  rcases ha with ha | ha
  · cases ha
  · rcases hb with hb | hb
    · cases hb
    · exact exch_inj hz (seq_col h a ha) (seq_col h b hb) e
theorem idx_map {f : Int → Int} : ∀ (d : List Int) (a : Int), a ∈ d → (∀ b ∈ d, f b = f a → b = a) → (d.map f).idxOf (f a) = d.idxOf a
  | x :: r, a, ha, hi => by
    rw [List.map_cons, List.idxOf_cons, List.idxOf_cons]
    by_cases e : x = a
    · subst e; simp
    · have e2 : ¬ f x = f a := fun h => e (hi x (by simp) h)
      have ha' : a ∈ r := by rcases List.mem_cons.1 ha with rfl | h; exact absurd rfl e; exact h
      have ih := idx_map r a ha' (fun b hb => hi b (by simp [hb]))
      have b1 : (x == a) = false := by simpa using e
      have b2 : (f x == f a) = false := by simpa using e2
      rw [b1, b2, ih]
/-- The first use of a block in other cloth makes the same of it. -/
theorem first_same {l : List Int} (hl : Exch l) {n : Int} {xs : List C3} (h : BlkOk n xs) : exL (fuL (exL l xs)) (exL l xs) = exL (fuL xs) xs := by
  have hb := exL_ok hl.1 h
  have key : ∀ a ∈ fuSeq xs, atL (fuL (exL l xs)) (atL l a) = atL (fuL xs) a := fun a ha => by
    have hc := seq_col h a ha
    have hm : atL l a ∈ fuSeq (exL l xs) := by rw [seq_ex]; exact List.mem_map.2 ⟨a, ha, rfl⟩
    rw [fuL_at hb (atL_ok hl.1 hc), fuL_at h hc, fuD_used hm, fuD_used ha, ddMap hl h, idx_map (dd (fuSeq xs)) a (dd_has ha) (fun b hb' e => by
      have hb2 := (dd_mem (fuSeq xs) [] b).1 hb'
      rcases hb2 with hb2 | hb2
      · cases hb2
      · exact exch_inj hl (seq_col h b hb2) hc e)]
  rw [exL_comp hl.1.1 h]
  unfold exL
  apply List.map_congr_left
  intro c hc
  obtain ⟨h1, h2⟩ := okC_col (h.2.2 c hc)
  have ma : c.a ∈ fuSeq xs := by unfold fuSeq; rw [List.mem_flatMap]; exact ⟨c, hc, by simp⟩
  have mb : c.b ∈ fuSeq xs := by unfold fuSeq; rw [List.mem_flatMap]; exact ⟨c, hc, by simp⟩
  exact exC_congr (by rw [atL_map hl.1.1 _ h1]; exact key _ ma) (by rw [atL_map hl.1.1 _ h2]; exact key _ mb)
theorem dd_range : ∀ m : Fin 7, idL.foldl ddStep ((List.range m.val).map (fun i : Nat => (i : Int))) = idL := by decide
/-- The first use of what the first use has made keeps all colors. -/
theorem first_id {n : Int} {xs : List C3} (h : BlkOk n xs) : fuL (exL (fuL xs) xs) = idL := by
  have hf := fuL_exch h
  have hb := exL_ok hf.1 h
  have hnd : (dd (fuSeq xs)).Nodup := dd_nodup _ _ List.nodup_nil
  have hlen : (dd (fuSeq xs)).length ≤ 6 := by
    obtain ⟨r, hr⟩ := fuD_pre xs
    have := fuD_len h
    rw [hr, List.length_append] at this
    omega
  have hd : dd (fuSeq (exL (fuL xs) xs)) = (List.range (dd (fuSeq xs)).length).map (fun i : Nat => (i : Int)) := by
    rw [ddMap hf h]
    apply List.ext_getElem (by simp)
    intro i a b
    simp only [List.length_map] at a
    have hm : (dd (fuSeq xs))[i] ∈ fuSeq xs := by
      rcases (dd_mem (fuSeq xs) [] _).1 (List.getElem_mem a) with h1 | h1
      · cases h1
      · exact h1
    have e := idx_at hnd a
    have e0 : (dd (fuSeq xs)).getD i 0 = (dd (fuSeq xs))[i] := by simp [List.getD, a]
    rw [e0] at e
    simp only [List.getElem_map, List.getElem_range]
    rw [fuL_at h (seq_col h _ hm), fuD_used hm, e]
  have hD : fuD (exL (fuL xs) xs) = idL := by
    have := dd_range ⟨(dd (fuSeq xs)).length, by omega⟩
    unfold fuD
    have e : dd (fuSeq (exL (fuL xs) xs) ++ idL) = idL.foldl ddStep (dd (fuSeq (exL (fuL xs) xs))) := by unfold dd; rw [List.foldl_append]
    rw [e, hd]
    exact this
  refine lst_ext (fuL_len hb) rfl (fun a ha => ?_)
  rw [fuL_at hb ha, hD, atL_id ha]
  unfold Col at ha
  have : a = 0 ∨ a = 1 ∨ a = 2 ∨ a = 3 ∨ a = 4 ∨ a = 5 := by omega
  rcases this with rfl | rfl | rfl | rfl | rfl | rfl <;> rfl

/-! ### What undoes an exchange -/
def undL (l : List Int) : List Int := idL.map (fun b => (l.idxOf b : Int))
theorem und_at {l : List Int} {b : Int} (hb : Col b) : atL (undL l) b = (l.idxOf b : Int) := by
  have := atL_map (ys := idL) rfl (fun b => (l.idxOf b : Int)) hb
  unfold undL
  rw [this, atL_id hb]
theorem und_ok {l : List Int} (h : Exch l) : LstOk (undL l) := by
  refine ⟨by simp [undL, idL], fun z hz => ?_⟩
  unfold undL at hz
  rw [List.mem_map] at hz
  obtain ⟨b, hb, rfl⟩ := hz
  have := List.idxOf_lt_length_iff.2 (exch_all h (col_mem.2 hb))
  rw [h.1.1] at this
  omega
theorem und_undoes {l : List Int} (h : Exch l) {n : Int} {xs : List C3} (hb : BlkOk n xs) : exL (undL l) (exL l xs) = xs := by
  rw [exL_comp h.1.1 hb]
  have e : l.map (atL (undL l)) = idL := lst_ext (by simp [h.1.1]) rfl (fun a ha => by
    rw [atL_map h.1.1 _ ha, und_at (atL_ok h.1 ha), atL_id ha]
    unfold Col at ha
    have h6 := h.1.1
    have := idx_at h.2 (i := a.toNat) (by omega)
    unfold atL
    rw [this]
    omega)
  rw [e, exL_id hb]
/-- A list that has at each color of l its place is that one. -/
theorem und_is {l o : List Int} (h : Exch l) (ho : o.length = 6) (hk : ∀ j, j < 6 → atL o (l.getD j 0) = j) : o = undL l := by
  refine lst_ext ho (und_ok h).1 (fun b hb => ?_)
  have hm := exch_all h hb
  have hl := List.idxOf_lt_length_iff.2 hm
  have e : l.getD (l.idxOf b) 0 = b := by
    have := List.getElem_idxOf hl
    simp [List.getD, hl, this]
  have := hk (l.idxOf b) (by rw [← h.1.1]; exact hl)
  rw [e] at this
  rw [this, und_at hb]

end Go.Proofs.YtfidnhhlcdbaeaaGreatDoor

namespace Go.Proofs.YtfidnhhlcdbaeaaGreatDoor
open Go.ChangeShapes Go.WideShapes Go.ChangeAt Go.RowKit

/-- As Booleans. -/
noncomputable def lstB (zs : List Int) : Bool := @decide (LstOk zs) (Classical.propDecidable _)
theorem lst_yes {zs : List Int} (h : LstOk zs) : true = lstB zs := by unfold lstB; simp [h]
theorem lst_no {zs : List Int} (h : ¬ LstOk zs) : false = lstB zs := by unfold lstB; simp [h]
noncomputable def exB (zs : List Int) : Bool := @decide (Exch zs) (Classical.propDecidable _)
theorem ex_yes {zs : List Int} (h : Exch zs) : true = exB zs := by unfold exB; simp [h]
theorem ex_no {zs : List Int} (h : ¬ Exch zs) : false = exB zs := by unfold exB; simp [h]
set_option maxHeartbeats 400000 in
theorem SpecListOk_any (lo hi : Nat) (v : Value) (zs : List Int) (w : World) (r : IntO lo hi w v zs) :
    Calls Tryz.prog 30 #[v] w fun e w' => e = .returned (.bool (lstB zs)) ∧ w' = w := by
  obtain ⟨a, cap, rfl⟩ := r.form
  have R := Lib.hid r
  have hl := r.1
  clear r
  go_enter Tryz.func30, Tryz.ntmps30
  go_wp2_with fail
  go_loop [3] (fun i => ∃ k : Nat, k ≤ zs.length ∧ i = .int .i64 k ∧ Hid (∀ j, j < k → 0 ≤ zs.getD j 0 ∧ zs.getD j 0 ≤ 5)) (fun i => zs.length - (intOf i).toNat)
  case atStart => exact ⟨0, Nat.zero_le _, rfl, Lib.hid (fun j hj => by omega)⟩
  case round =>
    obtain ⟨k, hk, rfl, hall⟩ := hrel
    by_cases hlt : k < zs.length
    · obtain ⟨g, o, rfl, _, _, e0, _⟩ := R.out.at (Below.refl _ _) hlt
      by_cases hz : 0 ≤ zs.getD k 0 ∧ zs.getD k 0 ≤ 5
      · obtain ⟨z0, z5⟩ := hz
        have HN : Hid (∀ j, j < k + 1 → 0 ≤ zs.getD j 0 ∧ zs.getD j 0 ≤ 5) := Lib.hid (fun j hj => by
          rcases Nat.lt_succ_iff_lt_or_eq.1 hj with h | rfl
          · exact hall.out j h
          · exact ⟨z0, z5⟩)
        generalize zs.getD k 0 = z at e0 z0 z5
        clear hall
        go_wp2_with fail
        refine (In_yes _ _ _ _ z0 z5).mono ?_
        rintro e w' ⟨rfl, rfl⟩
        go_wp2_with fail
        go_round
        case rel => exact ⟨k + 1, by omega, by go_num, HN⟩
        case measure => simp [intOf] <;> omega
      · have HF := Lib.hid (lst_no (zs := zs) (fun h => hz (h.2 _ (by simp [List.getD, hlt]))))
        have hz' : zs.getD k 0 < 0 ∨ 5 < zs.getD k 0 := by omega
        generalize zs.getD k 0 = z at e0 hz'
        clear hall hz
        go_wp2_with fail
        refine (In_no _ _ _ _ hz').mono ?_
        rintro e w' ⟨rfl, rfl⟩
        go_wp2_with fail
        go_ret
        exact ⟨ret_bool HF.out, rfl⟩
    · obtain rfl : k = zs.length := by omega
      have HA : Hid (LstOk zs ↔ zs.length = 6) := Lib.hid ⟨fun h => h.1, fun h => ⟨h, fun z hz => by
        obtain ⟨j, hj, rfl⟩ := List.getElem_of_mem hz
        have := hall.out j hj
        simpa [List.getD, hj] using this⟩⟩
      clear hall
      by_cases h6 : zs.length = 6
      · have hb : ((zs.length : Int) == 6) = true := by simp; omega
        have HF := Lib.hid (lst_yes (HA.out.2 h6))
        clear h6
        go_wp2_with fail
        go_ret
        exact ⟨ret_bool HF.out, rfl⟩
      · have hb : ((zs.length : Int) == 6) = false := by simp; omega
        have HF := Lib.hid (lst_no (fun h => h6 (HA.out.1 h)))
        clear h6
        go_wp2_with fail
        go_ret
        exact ⟨ret_bool HF.out, rfl⟩

end Go.Proofs.YtfidnhhlcdbaeaaGreatDoor

namespace Go.Proofs.YtfidnhhlcdbaeaaGreatDoor
open Go.ChangeShapes Go.WideShapes Go.ChangeAt Go.RowKit

theorem bel_q {b : Nat} {w u : World} (h : Below b w u) (n : Nat) : Below b w (u.drewN n) := ⟨h.os, h.tape, h.output, h.size, h.block⟩
end Go.Proofs.YtfidnhhlcdbaeaaGreatDoor

namespace Go.Proofs.YtfidnhhlcdbaeaaGreatDoor
open Go.ChangeShapes Go.WideShapes Go.ChangeAt Go.RowKit

theorem info_int6 : (Tryz.prog.info? 3).map (fun i => (i.zero, i.size, i.bytes)) = some (some (.int .i64 0), 1, 8) := by kernel_rfl
theorem idL_take : ∀ k : Fin 6, idL.take (k.val + 1) = idL.take k.val ++ [(k.val : Int)] := by decide
theorem own_fresh (W : World) (e : Nat) : (W.alloc (.cells #[] e)).ownsRow W.heap.size e 1 (.slice (some ⟨W.heap.size, 0, none⟩) 0 0) 0 [] :=
  ⟨by simp, .inr ⟨_, 0, #[], rfl, Nat.le_refl _, heap_alloc_new _ _, by simp, by simp, rfl, rfl⟩⟩
theorem news1 (W : World) (c : Value) (t : TypeId) : ∀ (j : Nat) u, ([c] : List Value)[j]? = some u → (W.alloc (.cells #[c] t)).cell? ((⟨W.heap.size, 0, none⟩ : Addr).add j) = some u :=
  World.news_of_block (cs := #[c]) (fr := (0, 0)) (heap_alloc_new W _)
theorem own_ge6 {w : World} {base e size n : Nat} {v : Value} {xs : List Value} (h : w.ownsRow base e size v n xs) : ∀ k, v.ownBlock = some k → base ≤ k := by
  intro k hk
  obtain ⟨_, h | ⟨g, cap, cur, hv, hg, _⟩⟩ := h
  · rw [h.1] at hk; cases hk
  · rw [hv] at hk; simp [Value.ownBlock] at hk; omega
theorem owns_bel6 {w w' : World} {b e size n : Nat} {v : Value} {xs : List Value} (h : w.ownsRow b e size v n xs) (hb : Below w.heap.size w w') : w'.ownsRow b e size v n xs := by
  obtain ⟨h1, h2 | ⟨g, cap, cur, hv, hg, hh, r⟩⟩ := h
  · exact ⟨h1, .inl h2⟩
  · exact ⟨h1, .inr ⟨g, cap, cur, hv, hg, by rw [hb.block g (lt_of_heapI hh)]; exact hh, r⟩⟩
set_option maxRecDepth 100000 in
set_option maxHeartbeats 1000000 in
theorem SpecSame6_cap (w : World) : Calls Tryz.prog 29 #[] w (fun e w' => ∃ g cp, e = .returned (.slice (some ⟨g, 0, none⟩) 6 cp) ∧ 6 ≤ cp ∧ IntIn w.heap.size w'.heap.size w' (.slice (some ⟨g, 0, none⟩) 6 cp) idL ∧ Below w.heap.size w w') := by
  obtain ⟨i0, hi0, hz0, hz1, hz2⟩ : ∃ i, Tryz.prog.info? 3 = some i ∧ i.zero = some (.int .i64 0) ∧ i.size = 1 ∧ i.bytes = 8 := info_parts3 info_int6
  go_enter Tryz.func29, Tryz.ntmps29
  go_wp2_with fail
  go_loopw [1, 2] (fun q i wr => ∃ k : Nat, k ≤ 6 ∧ i = .int .i64 k ∧ Hid (wr.ownsRow w.heap.size 3 1 q k (ivals (idL.take k))) ∧ Hid (Below w.heap.size w wr)) (fun _ i _ => 6 - (intOf i).toNat)
  case atStart => exact ⟨0, Nat.zero_le _, rfl, Lib.hid (own_fresh w 3), Lib.hid (bel0 w _)⟩
  case round =>
    obtain ⟨k, hk, rfl, hown, hbel⟩ := hrel
    by_cases hlt : k < 6
    · have HT := Lib.hid (idL_take ⟨k, hlt⟩)
      have HO1 := Lib.hid (owns_bel6 hown.out (bel0 wr (.cells #[.int .i64 k] 3)))
      have HNW := Lib.hid (news1 wr (.int .i64 k) 3)
      have HB1 := Lib.hid (bel_n hbel.out (Nat.le_refl _) (.cells #[.int .i64 k] 3))
      have HB2 : Hid (w.heap.size ≤ (wr.alloc (.cells #[.int .i64 k] 3)).heap.size) := Lib.hid HB1.out.size
      clear hown hbel
      go_wp2_with (at_builtin; refine wpList_append_lies _ rfl _ _ 31 rfl w.heap.size 3 i0 (.int .i64 0) 1 8 Tryz.underlying31 hi0 hz0 hz1 hz2 rfl (by decide) _ _ _ rfl HO1.out ⟨wr.heap.size, 0, none⟩ 1 1 [.int .i64 k] rfl rfl HNW.out (by simp [Value.oneCell']) (by omega) (by unfold maxLen; omega) (by omega) HB2.out (wr.heap.size + 1) (by simp) ?_; intro gg cc w2 hown2 hgrow hat hlt2)
      have hbw := (Below.refl w.heap.size _).grown hgrow HB2.out (own_ge6 HO1.out)
      have HN2 : Hid (w2.ownsRow w.heap.size 3 1 (.slice (some ⟨gg, 0, none⟩) (k + 1) cc) (k + 1) (ivals (idL.take (k + 1)))) := Lib.hid (by rw [show idL.take (k + 1) = idL.take k ++ [(k : Int)] from HT.out]; unfold ivals at hown2 ⊢; rw [List.map_append]; exact hown2)
      have HB4 := Lib.hid (HB1.out.trans hbw)
      clear hown2 hgrow hat hlt2 hbw HO1 HNW
      go_wp2_with fail
      go_roundw
      case rel => exact ⟨k + 1, by omega, by go_num, HN2, HB4⟩
      case measure => simp [intOf] <;> omega
    · obtain rfl : k = 6 := by omega
      have hin := IntIn.of_owns (zs := idL) hown.out (by decide)
      have HI := Lib.hid hin
      obtain ⟨_, ⟨_, h6⟩ | ⟨g, cp, _, rfl, _, _, hcap, _⟩⟩ := hown.out
      · omega
      have HK := Lib.hid hcap
      clear hin hown hcap
      go_wp2_with fail
      go_ret
      exact ⟨g, cp, rfl, HK.out, HI.out, hbel.out⟩
theorem SpecSame6_any (w : World) : Calls Tryz.prog 29 #[] w (FreshI idL w) := by
  refine (SpecSame6_cap w).mono ?_
  rintro e w' ⟨g, cp, rfl, _, R, hb⟩
  exact ⟨_, rfl, R, hb⟩
/-- What SwapList answers. -/
noncomputable def swapAns (a b : Int) : List Int := @ite _ (Col a ∧ Col b) (Classical.propDecidable _) (swpL a b) []
theorem swap_yes {a b : Int} (h : Col a ∧ Col b) : swapAns a b = swpL a b := if_pos h
theorem swap_no {a b : Int} (h : ¬ (Col a ∧ Col b)) : swapAns a b = [] := if_neg h
theorem fresh_nil (w : World) (c : Nat) : FreshI [] w (.returned (.slice (some ⟨w.heap.size, 0, none⟩) 0 c)) (w.alloc (.cells #[] 3)) := ⟨_, rfl, ⟨by simp, .inl ⟨rfl, _, _, rfl⟩⟩, bel0 w _⟩
set_option maxHeartbeats 1000000 in
theorem SpecSwapList_any (a b : Int) (w : World) : Calls Tryz.prog 10 #[.int .i64 a, .int .i64 b] w (FreshI (swapAns a b) w) := by
  by_cases ha : Col a
  · by_cases hb : Col b
    · rw [swap_yes ⟨ha, hb⟩]
      have HSW : Hid (swpL a b = (idL.set a.toNat b).set b.toNat a) := Lib.hid rfl
      unfold Col at ha hb
      obtain ⟨i, rfl⟩ : ∃ j : Nat, a = j := ⟨a.toNat, by omega⟩
      obtain ⟨j, rfl⟩ : ∃ j : Nat, b = j := ⟨b.toNat, by omega⟩
      rw [HSW.out, Int.toNat_natCast, Int.toNat_natCast]
      obtain ⟨a0, a5⟩ := ha
      obtain ⟨b0, b5⟩ := hb
      go_enter Tryz.func10, Tryz.ntmps10
      go_wp2_with fail
      refine (In_yes _ _ _ _ a0 a5).mono ?_
      rintro e w' ⟨rfl, rfl⟩
      go_wp2_with fail
      refine (In_yes _ _ _ _ b0 b5).mono ?_
      rintro e w' ⟨rfl, rfl⟩
      go_wp2_with fail
      refine (SpecSame6_any _).mono ?_
      rintro e w1 ⟨v, rfl, R, hb1⟩
      have hl6 : idL.length = 6 := rfl
      obtain ⟨av, cv, rfl⟩ := R.form
      obtain ⟨g, rfl, hg1, hg2, e0, f0⟩ := R.at (Below.refl _ _) (i := i) (by omega)
      have R2 := R.set i (by omega) (j : Int)
      obtain ⟨g2, hg, _, _, e1, f1⟩ := R2.at (Below.refl _ _) (i := j) (by simp; omega)
      simp only [Option.some.injEq, Addr.mk.injEq, and_true] at hg
      subst hg
      have R3 := R2.set j (by simp; omega) (i : Int)
      have HR := Lib.hid R3
      have HB := Lib.hid (Below.setCell (Below.setCell hb1 (p := ⟨g, i, none⟩) hg1 (.int .i64 j)) (p := ⟨g, j, none⟩) hg1 (.int .i64 i))
      have hil : (i : Int) < 6 := by omega
      have hjl : (j : Int) < 6 := by omega
      generalize idL.getD i 0 = y0 at e0
      generalize (idL.set i (j : Int)).getD j 0 = y1 at e1
      clear R R2 R3 hb1
      go_wp2_with fail
      go_ret
      exact ⟨_, rfl, HR.out.wide (Nat.le_refl _) (by simp [World.setCell]), HB.out⟩
    · rw [swap_no (fun h => hb h.2)]
      have hb' : b < 0 ∨ 5 < b := by unfold Col at hb; omega
      unfold Col at ha
      obtain ⟨a0, a5⟩ := ha
      go_enter Tryz.func10, Tryz.ntmps10
      go_wp2_with fail
      refine (In_yes _ _ _ _ a0 a5).mono ?_
      rintro e w' ⟨rfl, rfl⟩
      go_wp2_with fail
      refine (In_no _ _ _ _ hb').mono ?_
      rintro e w' ⟨rfl, rfl⟩
      go_wp2_with fail
      go_ret
      exact fresh_nil _ _
  · rw [swap_no (fun h => ha h.1)]
    have ha' : a < 0 ∨ 5 < a := by unfold Col at ha; omega
    go_enter Tryz.func10, Tryz.ntmps10
    go_wp2_with fail
    refine (In_no _ _ _ _ ha').mono ?_
    rintro e w' ⟨rfl, rfl⟩
    go_wp2_with fail
    go_ret
    exact fresh_nil _ _
/-- What UndoList answers. -/
noncomputable def undoAns (zs : List Int) : List Int := @ite _ (Exch zs) (Classical.propDecidable _) (undL zs) []
theorem undo_yes {zs : List Int} (h : Exch zs) : undoAns zs = undL zs := if_pos h
theorem undo_no {zs : List Int} (h : ¬ Exch zs) : undoAns zs = [] := if_neg h
theorem atL_set {ys : List Int} {i : Nat} {a z : Int} (hi : i < ys.length) (ha : 0 ≤ a) : atL (ys.set i z) a = if a = i then z else atL ys a := by
  unfold atL
  by_cases e : a = i
  · subst e
    simp [List.getD, hi]
  · rw [if_neg e]
    simp [List.getD, show ¬ i = a.toNat by omega]
theorem made_zero (n : Nat) : (madeCells (Value.int .i64 0).cells (n * 1)).toList = ivals (List.replicate n 0) := by
  apply List.ext_getElem
  · simp [madeCells, ivals]
  · intro i a b
    simp [madeCells, ivals, Value.cells, Nat.mod_one]
end Go.Proofs.YtfidnhhlcdbaeaaGreatDoor
