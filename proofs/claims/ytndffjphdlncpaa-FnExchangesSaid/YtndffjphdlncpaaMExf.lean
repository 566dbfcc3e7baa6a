/- Exchanges: what a list of colors makes of cells. Exchanges: the first use of the colors; what undoes an exchange. Rows of integers that begin anywhere in a block. Exchanges: the model's ListOk. Exchanges: the model's IsExchange. Rows of integers that came in; taken from the law's argument. -/
import Derived.Test.YtndffjphdlncpaaMTur
import Derived.Test.YtndffjphdlncpaaMCel
import Derived.Test.YtndffjphdlncpaaMInt
import Derived.Test.YtndffjphdlncpaaMBlk
import Derived.BigQuiet
import Derived.Deep.QuietTactic
import Derived.OwnWalk

namespace Go.Proofs.Ytndffjphdlncpaa
open Go.ChangeShapes Go.WideShapes Go.ChangeAt Go.RowKit

/-- By what the color a is replaced. -/
def atL (zs : List Int) (a : Int) : Int := zs.getD a.toNat 0
def LstOk (zs : List Int) : Prop := zs.length = 6 ∧ ∀ z ∈ zs, 0 ≤ z ∧ z ≤ 5
def Col (a : Int) : Prop := 0 ≤ a ∧ a ≤ 5
def Exch (zs : List Int) : Prop := LstOk zs ∧ zs.Nodup
theorem atL_ok {zs : List Int} (h : LstOk zs) {a : Int} (ha : Col a) : Col (atL zs a) := by
  unfold Col at ha
  have hl : a.toNat < zs.length := by rw [h.1]; omega
  exact h.2 _ (by simp [atL, List.getD, hl])
theorem atL_map {ys : List Int} (h : ys.length = 6) (f : Int → Int) {a : Int} (ha : Col a) : atL (ys.map f) a = f (atL ys a) := by
  unfold Col at ha
  have hl : a.toNat < ys.length := by rw [h]; omega
  simp [atL, List.getD, hl]
theorem lst_ext {ys zs : List Int} (h1 : ys.length = 6) (h2 : zs.length = 6) (h : ∀ a, Col a → atL ys a = atL zs a) : ys = zs := by
  apply List.ext_getElem (by rw [h1, h2])
  intro i a b
  have := h (i : Int) ⟨by omega, by omega⟩
  simpa [atL, List.getD, a, b] using this
/-- A valid cell in other colors. -/
def exC (zs : List Int) (c : C3) : C3 := if atL zs c.a = atL zs c.b then ⟨0, atL zs c.a, atL zs c.a⟩ else ⟨c.s, atL zs c.a, atL zs c.b⟩
theorem exC_a (zs : List Int) (c : C3) : (exC zs c).a = atL zs c.a := by unfold exC; split <;> rfl
theorem exC_b (zs : List Int) (c : C3) : (exC zs c).b = atL zs c.b := by
  unfold exC
  split
  · rename_i h; exact h
  · rfl
theorem okC_col {c : C3} (h : c.Ok) : Col c.a ∧ Col c.b := by
  change OkC c.s c.a c.b at h
  unfold OkC at h
  exact ⟨h.2.1, h.2.2.1⟩
theorem exC_ok {zs : List Int} {c : C3} (h : LstOk zs) (hc : c.Ok) : (exC zs c).Ok := by
  obtain ⟨ha, hb⟩ := okC_col hc
  have h1 := atL_ok h ha
  have h2 := atL_ok h hb
  change OkC c.s c.a c.b at hc
  unfold Col at h1 h2
  unfold exC
  split
  · show OkC 0 (atL zs c.a) (atL zs c.a)
    unfold OkC
    omega
  · rename_i hn
    show OkC c.s (atL zs c.a) (atL zs c.b)
    have : ¬ c.a = c.b := fun e => hn (by rw [e])
    unfold OkC at hc ⊢
    refine ⟨hc.1, h1, h2, ⟨fun e => absurd (hc.2.2.2.1 e) this, fun e => absurd e hn⟩⟩
/-- What SplitCell makes of the replaced colors. -/
theorem sp_exC {zs : List Int} {c : C3} (h : LstOk zs) (hc : c.Ok) : spS c.s (atL zs c.a) (atL zs c.b) = (exC zs c).s ∧ spA c.s (atL zs c.a) (atL zs c.b) = (exC zs c).a ∧ spB c.s (atL zs c.a) (atL zs c.b) = (exC zs c).b := by
  obtain ⟨ha, hb⟩ := okC_col hc
  have h1 := atL_ok h ha
  have hok := exC_ok h hc
  by_cases e : atL zs c.a = atL zs c.b
  · have ex : exC zs c = ⟨0, atL zs c.a, atL zs c.a⟩ := if_pos e
    rw [ex, ← e]
    obtain ⟨e1, e2, e3⟩ := sp_same c.s (atL zs c.a)
    rw [e1, e2, e3, wh_yes h1]
    exact ⟨rfl, rfl, rfl⟩
  · have ex : exC zs c = ⟨c.s, atL zs c.a, atL zs c.b⟩ := if_neg e
    rw [ex] at hok ⊢
    exact sp_ok e hok
noncomputable def exZ (zs : List Int) (c : C3) : C3 := @ite _ (c.Ok ∧ LstOk zs) (Classical.propDecidable _) (exC zs c) C3.zero
theorem exZ_yes {zs : List Int} {c : C3} (h : c.Ok) (k : LstOk zs) : exZ zs c = exC zs c := if_pos ⟨h, k⟩
theorem exZ_no {zs : List Int} {c : C3} (h : ¬ (c.Ok ∧ LstOk zs)) : exZ zs c = C3.zero := if_neg h
def exL (zs : List Int) (xs : List C3) : List C3 := xs.map (exC zs)
theorem exL_length (zs : List Int) (xs : List C3) : (exL zs xs).length = xs.length := by simp [exL]
theorem exL_ok {zs : List Int} {n : Int} {xs : List C3} (h : LstOk zs) (hb : BlkOk n xs) : BlkOk n (exL zs xs) := by
  refine ⟨hb.1, by rw [exL_length]; exact hb.2.1, fun c hc => ?_⟩
  unfold exL at hc
  rw [List.mem_map] at hc
  obtain ⟨x, hx, rfl⟩ := hc
  exact exC_ok h (hb.2.2 x hx)
theorem exC_comp {ys zs : List Int} (h : ys.length = 6) {c : C3} (hc : c.Ok) : exC zs (exC ys c) = exC (ys.map (atL zs)) c := by
  obtain ⟨ha, hb⟩ := okC_col hc
  have e1 := atL_map h (atL zs) ha
  have e2 := atL_map h (atL zs) hb
  by_cases e : atL ys c.a = atL ys c.b
  · have ex : exC ys c = ⟨0, atL ys c.a, atL ys c.a⟩ := if_pos e
    rw [ex]
    unfold exC
    rw [e1, e2]
    simp [e]
  · have ex : exC ys c = ⟨c.s, atL ys c.a, atL ys c.b⟩ := if_neg e
    rw [ex]
    unfold exC
    rw [e1, e2]
theorem exC_congr {ys zs : List Int} {c : C3} (h1 : atL ys c.a = atL zs c.a) (h2 : atL ys c.b = atL zs c.b) : exC ys c = exC zs c := by
  unfold exC
  rw [h1, h2]
def idL : List Int := [0, 1, 2, 3, 4, 5]
theorem idL_ok : LstOk idL := by
  refine ⟨rfl, fun z hz => ?_⟩
  simp [idL] at hz
  omega
theorem atL_id {a : Int} (h : Col a) : atL idL a = a := by
  unfold Col at h
  have : a = 0 ∨ a = 1 ∨ a = 2 ∨ a = 3 ∨ a = 4 ∨ a = 5 := by omega
  rcases this with rfl | rfl | rfl | rfl | rfl | rfl <;> rfl
theorem exC_id {c : C3} (hc : c.Ok) : exC idL c = c := by
  obtain ⟨ha, hb⟩ := okC_col hc
  obtain ⟨s, a, b⟩ := c
  change OkC s a b at hc
  unfold exC
  dsimp only at ha hb ⊢
  rw [atL_id ha, atL_id hb]
  unfold OkC at hc
  split
  · rename_i e
    rw [hc.2.2.2.2 e, e]
  · rfl
theorem exL_id {n : Int} {xs : List C3} (hb : BlkOk n xs) : exL idL xs = xs := by
  unfold exL
  have : ∀ l : List C3, (∀ c ∈ l, c.Ok) → l.map (exC idL) = l := fun l hl => by
    induction l with
    | nil => rfl
    | cons x r ih => rw [List.map_cons, exC_id (hl x (by simp)), ih (fun c hc => hl c (by simp [hc]))]
  exact this xs hb.2.2
theorem exL_comp {ys zs : List Int} {n : Int} {xs : List C3} (h : ys.length = 6) (hb : BlkOk n xs) : exL zs (exL ys xs) = exL (ys.map (atL zs)) xs := by
  unfold exL
  rw [List.map_map]
  apply List.map_congr_left
  intro c hc
  exact exC_comp h (hb.2.2 c hc)
/-- The list that exchanges two colors. -/
def swpL (a b : Int) : List Int := (idL.set a.toNat b).set b.toNat a
theorem swp_all : ∀ a b : Fin 6, LstOk (swpL a.val b.val) ∧ (swpL a.val b.val).map (atL (swpL a.val b.val)) = idL ∧ ∀ c : Fin 6, (atL (swpL a.val b.val) c.val = a.val ↔ (c.val : Int) = b.val) := by
  unfold LstOk
  decide
theorem swp_ok {a b : Int} (ha : Col a) (hb : Col b) : LstOk (swpL a b) ∧ (swpL a b).map (atL (swpL a b)) = idL ∧ ∀ c, Col c → (atL (swpL a b) c = a ↔ c = b) := by
  unfold Col at ha hb
  obtain ⟨i, rfl⟩ : ∃ j : Nat, a = j := ⟨a.toNat, by omega⟩
  obtain ⟨k, rfl⟩ : ∃ j : Nat, b = j := ⟨b.toNat, by omega⟩
  obtain ⟨h1, h2, h3⟩ := swp_all ⟨i, by omega⟩ ⟨k, by omega⟩
  refine ⟨h1, h2, fun c hc => ?_⟩
  unfold Col at hc
  obtain ⟨j, rfl⟩ : ∃ j : Nat, c = j := ⟨c.toNat, by omega⟩
  exact h3 ⟨j, by omega⟩
theorem swp_twice {a b n : Int} {xs : List C3} (ha : Col a) (hb : Col b) (h : BlkOk n xs) : exL (swpL a b) (exL (swpL a b) xs) = xs := by
  obtain ⟨h1, h2, _⟩ := swp_ok ha hb
  rw [exL_comp h1.1 h, h2, exL_id h]
theorem ar2_ex (zs : List Int) (c : C3) (k : Int) : ar2 (exC zs c) k = (if atL zs c.a = k then 2 else 0) + (if atL zs c.b = k then 2 else 0) := by
  unfold ar2
  rw [exC_a, exC_b]
theorem arL_all' {zs : List Int} {i k : Int} : ∀ xs : List C3, (∀ c ∈ xs, ar2 (exC zs c) i = ar2 c k) → ((exL zs xs).map (fun c => ar2 c i)).sum = (xs.map (fun c => ar2 c k)).sum
  | [], _ => rfl
  | x :: r, h => by
    have ih := arL_all' r (fun c hc => h c (by simp [hc]))
    unfold exL at ih ⊢
    simp only [List.map_cons, List.sum_cons, h x (by simp), ih]
theorem swp_area {a b n : Int} {xs : List C3} (ha : Col a) (hb : Col b) (h : BlkOk n xs) : arL (exL (swpL a b) xs) a (exL (swpL a b) xs).length = arL xs b xs.length := by
  obtain ⟨_, _, h3⟩ := swp_ok ha hb
  unfold arL
  rw [List.take_length, List.take_length]
  refine arL_all' xs (fun c hc => ?_)
  obtain ⟨h1, h2⟩ := okC_col (h.2.2 c hc)
  rw [ar2_ex]
  unfold ar2
  have e1 := h3 c.a h1
  have e2 := h3 c.b h2
  by_cases p : c.a = b <;> by_cases q : c.b = b <;> simp [p, q] <;> simp_all

end Go.Proofs.Ytndffjphdlncpaa

namespace Go.Proofs.Ytndffjphdlncpaa
open Go.ChangeShapes Go.WideShapes Go.ChangeAt Go.RowKit

theorem col_mem {a : Int} : Col a ↔ a ∈ idL := by
  unfold Col idL
  simp
  omega
/-- No more different ones than there are. -/
theorem pigeon : ∀ (d l : List Int), d.Nodup → (∀ x ∈ d, x ∈ l) → d.length ≤ l.length
  | [], _, _, _ => by simp
  | x :: r, l, hn, hs => by
    obtain ⟨h1, h2⟩ := List.nodup_cons.1 hn
    have hx : x ∈ l := hs x (by simp)
    have ih := pigeon r (l.erase x) h2 (fun y hy => (List.mem_erase_of_ne (fun e => h1 (by rw [← e]; exact hy))).2 (hs y (by simp [hy])))
    rw [List.length_erase_of_mem hx] at ih
    have : 0 < l.length := List.length_pos_of_mem hx
    simp only [List.length_cons]
    omega
theorem idx_at {d : List Int} (hn : d.Nodup) {i : Nat} (hi : i < d.length) : d.idxOf (d.getD i 0) = i := by
  have e : d.getD i 0 = d[i] := by simp [List.getD, hi]
  rw [e]
  have hl : d.idxOf d[i] < d.length := List.idxOf_lt_length_iff.2 (List.getElem_mem hi)
  have h2 : d[d.idxOf d[i]] = d[i] := List.getElem_idxOf hl
  exact (List.getElem_inj hn).1 h2
theorem idx_inj {d : List Int} {a b : Int} (ha : a ∈ d) (hb : b ∈ d) (h : d.idxOf a = d.idxOf b) : a = b := by
  have h1 : d[d.idxOf a]'(List.idxOf_lt_length_iff.2 ha) = a := List.getElem_idxOf _
  have h2 : d[d.idxOf b]'(List.idxOf_lt_length_iff.2 hb) = b := List.getElem_idxOf _
  rw [← h1, ← h2]
  simp only [h]
/-- All colors are in an exchange. -/
theorem exch_all {l : List Int} (h : Exch l) {a : Int} (ha : Col a) : a ∈ l := by
  by_cases hm : a ∈ l
  · exact hm
  · have := pigeon (a :: l) idL (List.nodup_cons.2 ⟨hm, h.2⟩) (fun x hx => by
      rcases List.mem_cons.1 hx with rfl | hx
      · exact col_mem.1 ha
      · exact col_mem.1 (h.1.2 x hx))
    simp only [List.length_cons, h.1.1] at this
    exact absurd this (by decide)
theorem exch_inj {l : List Int} (h : Exch l) {a b : Int} (ha : Col a) (hb : Col b) (e : atL l a = atL l b) : a = b := by
  unfold Col at ha hb
  have h6 := h.1.1
  have e1 : atL l a = l[a.toNat] := by simp [atL, List.getD, show a.toNat < l.length by omega]
  have e2 : atL l b = l[b.toNat] := by simp [atL, List.getD, show b.toNat < l.length by omega]
  rw [e1, e2] at e
  have := (List.getElem_inj h.2).1 e
  omega
theorem exch_of {l : List Int} (h : LstOk l) (hi : ∀ a b, Col a → Col b → atL l a = atL l b → a = b) : Exch l := by
  refine ⟨h, List.pairwise_iff_getElem.2 (fun i j hi' hj hij e => ?_)⟩
  have h6 := h.1
  have := hi (i : Int) (j : Int) ⟨by omega, by omega⟩ ⟨by omega, by omega⟩ (by simp [atL, List.getD, hi', hj, e])
  omega

/-! ### The first use -/
def fuSeq (xs : List C3) : List Int := xs.flatMap fun c => [c.a, c.b]
def fuStep (st : List Int × Int) (a : Int) : List Int × Int := if atL st.1 a < 0 then (st.1.set a.toNat st.2, st.2 + 1) else st
def fuFold (t : List Int) : List Int × Int := t.foldl fuStep ([-1, -1, -1, -1, -1, -1], 0)
theorem fuFold_snoc (t : List Int) (a : Int) : fuFold (t ++ [a]) = fuStep (fuFold t) a := by simp [fuFold, List.foldl_append]
def fuL (xs : List C3) : List Int := (fuFold (fuSeq xs ++ idL)).1
def ddStep (d : List Int) (a : Int) : List Int := if a ∈ d then d else d ++ [a]
def dd (t : List Int) : List Int := t.foldl ddStep []
def pos (d : List Int) (a : Int) : Int := if a ∈ d then (d.idxOf a : Int) else -1
def FInv (st : List Int × Int) (d : List Int) : Prop := st.1.length = 6 ∧ st.2 = (d.length : Int) ∧ ∀ a, Col a → atL st.1 a = pos d a
theorem FInv.step {st : List Int × Int} {d : List Int} (h : FInv st d) {a : Int} (ha : Col a) : FInv (fuStep st a) (ddStep d a) := by
  obtain ⟨h1, h2, h3⟩ := h
  have e := h3 a ha
  unfold fuStep ddStep
  by_cases hm : a ∈ d
  · have : ¬ atL st.1 a < 0 := by rw [e]; unfold pos; rw [if_pos hm]; omega
    rw [if_neg this, if_pos hm]
    exact ⟨h1, h2, h3⟩
  · have : atL st.1 a < 0 := by rw [e]; unfold pos; rw [if_neg hm]; decide
    rw [if_pos this, if_neg hm]
    refine ⟨by simpa using h1, by rw [h2]; simp, fun b hb => ?_⟩
    unfold Col at ha hb
    by_cases hab : b = a
    · subst hab
      have e1 : atL (st.1.set b.toNat st.2) b = st.2 := by simp [atL, List.getD, show b.toNat < st.1.length by omega]
      rw [e1, h2]
      unfold pos
      rw [if_pos (by simp), List.idxOf_append, if_neg hm]
      simp
    · have e1 : atL (st.1.set a.toNat st.2) b = atL st.1 b := by
        simp [atL, List.getD, show ¬ a.toNat = b.toNat by omega]
      rw [e1, h3 b hb]
      unfold pos
      by_cases hbd : b ∈ d
      · rw [if_pos hbd, if_pos (by simp [hbd]), List.idxOf_append, if_pos hbd]
      · rw [if_neg hbd, if_neg (by simp [hbd, hab])]
theorem FInv.fold : ∀ (t : List Int) (st : List Int × Int) (d : List Int), FInv st d → (∀ a ∈ t, Col a) → FInv (t.foldl fuStep st) (t.foldl ddStep d)
  | [], _, _, h, _ => h
  | a :: t, st, d, h, ht => FInv.fold t _ _ (h.step (ht a (by simp))) (fun b hb => ht b (by simp [hb]))
theorem fu_inv (t : List Int) (ht : ∀ a ∈ t, Col a) : FInv (fuFold t) (dd t) := by
  refine FInv.fold t _ _ ⟨rfl, rfl, fun a ha => ?_⟩ ht
  unfold Col at ha
  have : a = 0 ∨ a = 1 ∨ a = 2 ∨ a = 3 ∨ a = 4 ∨ a = 5 := by omega
  rcases this with rfl | rfl | rfl | rfl | rfl | rfl <;> rfl
theorem dd_pre : ∀ (t d : List Int), ∃ r, t.foldl ddStep d = d ++ r
  | [], d => ⟨[], by simp⟩
  | a :: t, d => by
    obtain ⟨r, hr⟩ := dd_pre t (ddStep d a)
    rw [List.foldl_cons, hr]
    unfold ddStep
    split
    · exact ⟨r, rfl⟩
    · exact ⟨a :: r, by simp⟩
theorem dd_nodup : ∀ (t d : List Int), d.Nodup → (t.foldl ddStep d).Nodup
  | [], _, h => h
  | a :: t, d, h => dd_nodup t _ (by
    unfold ddStep
    split
    · exact h
    · rename_i hm
      exact List.nodup_append.2 ⟨h, by simp, fun x hx y hy e => hm (by simp at hy; rw [← hy, ← e]; exact hx)⟩)
theorem dd_mem : ∀ (t d : List Int) (x : Int), x ∈ t.foldl ddStep d ↔ x ∈ d ∨ x ∈ t
  | [], d, x => by simp
  | a :: t, d, x => by
    rw [List.foldl_cons, dd_mem t _ x]
    unfold ddStep
    split
    · rename_i hm
      simp only [List.mem_cons]
      constructor
      · rintro (h | h)
        · exact .inl h
        · exact .inr (.inr h)
      · rintro (h | rfl | h)
        · exact .inl h
        · exact .inl hm
        · exact .inr h
    · simp only [List.mem_append, List.mem_cons, List.not_mem_nil, or_false]
      constructor
      · rintro ((h | h) | h)
        · exact .inl h
        · exact .inr (.inl h)
        · exact .inr (.inr h)
      · rintro (h | h | h)
        · exact .inl (.inl h)
        · exact .inl (.inr h)
        · exact .inr h
theorem dd_has {t : List Int} {a : Int} (h : a ∈ t) : a ∈ dd t := (dd_mem t [] a).2 (.inr h)
theorem dd_map (f : Int → Int) : ∀ (t d : List Int), (∀ a b, (a ∈ d ∨ a ∈ t) → (b ∈ d ∨ b ∈ t) → f a = f b → a = b) → (t.map f).foldl ddStep (d.map f) = (t.foldl ddStep d).map f
  | [], _, _ => rfl
  | a :: t, d, h => by
    have e : ddStep (d.map f) (f a) = (ddStep d a).map f := by
      unfold ddStep
      by_cases hm : a ∈ d
      · rw [if_pos hm, if_pos (List.mem_map.2 ⟨a, hm, rfl⟩)]
      · rw [if_neg hm, if_neg (fun hx => by
          obtain ⟨b, hb, he⟩ := List.mem_map.1 hx
          exact hm (by rw [← h b a (.inl hb) (.inr (by simp)) he]; exact hb))]
        simp
    rw [List.map_cons, List.foldl_cons, List.foldl_cons, e]
    refine dd_map f t _ (fun x y hx hy he => h x y ?_ ?_ he)
    · rcases hx with hx | hx
      · have := (dd_mem [a] d x).1 (by simpa using hx)
        rcases this with h1 | h1
        · exact .inl h1
        · exact .inr (by simp at h1; simp [h1])
      · exact .inr (by simp [hx])
    · rcases hy with hy | hy
      · have := (dd_mem [a] d y).1 (by simpa using hy)
        rcases this with h1 | h1
        · exact .inl h1
        · exact .inr (by simp at h1; simp [h1])
      · exact .inr (by simp [hy])
theorem seq_col {n : Int} {xs : List C3} (h : BlkOk n xs) : ∀ a ∈ fuSeq xs, Col a := by
  intro a ha
  unfold fuSeq at ha
  rw [List.mem_flatMap] at ha
  obtain ⟨c, hc, hac⟩ := ha
  obtain ⟨h1, h2⟩ := okC_col (h.2.2 c hc)
  simp at hac
  rcases hac with rfl | rfl
  · exact h1
  · exact h2
/-- The colors in the order of their first use, the unused ones behind. -/
def fuD (xs : List C3) : List Int := dd (fuSeq xs ++ idL)
theorem fuD_pre (xs : List C3) : ∃ r, fuD xs = dd (fuSeq xs) ++ r := by
  unfold fuD dd
  rw [List.foldl_append]
  exact dd_pre _ _
theorem fuD_nodup (xs : List C3) : (fuD xs).Nodup := dd_nodup _ _ List.nodup_nil
theorem fuD_mem (xs : List C3) {a : Int} (ha : Col a) : a ∈ fuD xs := (dd_mem _ _ a).2 (.inr (by rw [List.mem_append]; exact .inr (col_mem.1 ha)))
theorem fuD_len {n : Int} {xs : List C3} (h : BlkOk n xs) : (fuD xs).length ≤ 6 := by
  refine pigeon (fuD xs) idL (fuD_nodup xs) (fun x hx => ?_)
  have := (dd_mem _ _ x).1 hx
  rcases this with h1 | h1
  · cases h1
  · rw [List.mem_append] at h1
    rcases h1 with h1 | h1
    · exact col_mem.1 (seq_col h x h1)
    · exact h1
theorem fuL_at {n : Int} {xs : List C3} (h : BlkOk n xs) {a : Int} (ha : Col a) : atL (fuL xs) a = ((fuD xs).idxOf a : Int) := by
  have := (fu_inv (fuSeq xs ++ idL) (fun b hb => by
    rw [List.mem_append] at hb
    rcases hb with hb | hb
    · exact seq_col h b hb
    · exact col_mem.2 hb)).2.2 a ha
  unfold fuL
  rw [this]
  exact if_pos (fuD_mem xs ha)
theorem fuL_len {n : Int} {xs : List C3} (h : BlkOk n xs) : (fuL xs).length = 6 :=
  (fu_inv (fuSeq xs ++ idL) (fun b hb => by
    rw [List.mem_append] at hb
    rcases hb with hb | hb
    · exact seq_col h b hb
    · exact col_mem.2 hb)).1
theorem fuL_exch {n : Int} {xs : List C3} (h : BlkOk n xs) : Exch (fuL xs) := by
  refine exch_of ⟨fuL_len h, fun z hz => ?_⟩ (fun a b ha hb e => ?_)
  · obtain ⟨i, hi, rfl⟩ := List.getElem_of_mem hz
    have h6 := fuL_len h
    have e : (fuL xs)[i] = atL (fuL xs) (i : Int) := by simp [atL, List.getD, hi]
    have hc : Col (i : Int) := ⟨by omega, by omega⟩
    rw [e, fuL_at h hc]
    have h1 := fuD_len h
    have h2 : (fuD xs).idxOf (i : Int) < (fuD xs).length := List.idxOf_lt_length_iff.2 (fuD_mem xs hc)
    omega
  · rw [fuL_at h ha, fuL_at h hb] at e
    exact idx_inj (fuD_mem xs ha) (fuD_mem xs hb) (by omega)
theorem seq_ex (zs : List Int) (xs : List C3) : fuSeq (exL zs xs) = (fuSeq xs).map (atL zs) := by
  unfold fuSeq exL
  induction xs with
  | nil => rfl
  | cons c r ih =>
    simp only [List.map_cons, List.flatMap_cons, List.map_append] at ih ⊢
    rw [ih, exC_a, exC_b]
    rfl
/-- A used color keeps its number. -/
theorem fuD_used {xs : List C3} {a : Int} (h : a ∈ fuSeq xs) : (fuD xs).idxOf a = (dd (fuSeq xs)).idxOf a := by
  obtain ⟨r, hr⟩ := fuD_pre xs
  rw [hr, List.idxOf_append, if_pos (dd_has h)]
theorem ddMap {zs : List Int} (hz : Exch zs) {n : Int} {xs : List C3} (h : BlkOk n xs) : dd (fuSeq (exL zs xs)) = (dd (fuSeq xs)).map (atL zs) := by
  rw [seq_ex]
  unfold dd
  refine dd_map (atL zs) (fuSeq xs) [] (fun a b ha hb e => ?_)
  rcases ha with ha | ha
  · cases ha
  · rcases hb with hb | hb
    · cases hb
    · exact exch_inj hz (seq_col h a ha) (seq_col h b hb) e
theorem idx_map {f : Int → Int} : ∀ (d : List Int) (a : Int), a ∈ d → (∀ b ∈ d, f b = f a → b = a) → (d.map f).idxOf (f a) = d.idxOf a
  | x :: r, a, ha, hi => by
    rw [List.map_cons, List.idxOf_cons, List.idxOf_cons]
    by_cases e : x = a
    · subst e; simp
    · have e2 : ¬ f x = f a := fun h => e (hi x (by simp) h)
      have ha' : a ∈ r := by rcases List.mem_cons.1 ha with rfl | h; exact absurd rfl e; exact h
      have ih := idx_map r a ha' (fun b hb => hi b (by simp [hb]))
      have b1 : (x == a) = false := by simpa using e
      have b2 : (f x == f a) = false := by simpa using e2
      rw [b1, b2, ih]
/-- The first use of a block in other cloth makes the same of it. -/
theorem first_same {l : List Int} (hl : Exch l) {n : Int} {xs : List C3} (h : BlkOk n xs) : exL (fuL (exL l xs)) (exL l xs) = exL (fuL xs) xs := by
  have hb := exL_ok hl.1 h
  have key : ∀ a ∈ fuSeq xs, atL (fuL (exL l xs)) (atL l a) = atL (fuL xs) a := fun a ha => by
    have hc := seq_col h a ha
    have hm : atL l a ∈ fuSeq (exL l xs) := by rw [seq_ex]; exact List.mem_map.2 ⟨a, ha, rfl⟩
    rw [fuL_at hb (atL_ok hl.1 hc), fuL_at h hc, fuD_used hm, fuD_used ha, ddMap hl h, idx_map (dd (fuSeq xs)) a (dd_has ha) (fun b hb' e => by
      have hb2 := (dd_mem (fuSeq xs) [] b).1 hb'
      rcases hb2 with hb2 | hb2
      · cases hb2
      · exact exch_inj hl (seq_col h b hb2) hc e)]
  rw [exL_comp hl.1.1 h]
  unfold exL
  apply List.map_congr_left
  intro c hc
  obtain ⟨h1, h2⟩ := okC_col (h.2.2 c hc)
  have ma : c.a ∈ fuSeq xs := by unfold fuSeq; rw [List.mem_flatMap]; exact ⟨c, hc, by simp⟩
  have mb : c.b ∈ fuSeq xs := by unfold fuSeq; rw [List.mem_flatMap]; exact ⟨c, hc, by simp⟩
  exact exC_congr (by rw [atL_map hl.1.1 _ h1]; exact key _ ma) (by rw [atL_map hl.1.1 _ h2]; exact key _ mb)
theorem dd_range : ∀ m : Fin 7, idL.foldl ddStep ((List.range m.val).map (fun i : Nat => (i : Int))) = idL := by decide
/-- The first use of what the first use has made keeps all colors. -/
theorem first_id {n : Int} {xs : List C3} (h : BlkOk n xs) : fuL (exL (fuL xs) xs) = idL := by
  have hf := fuL_exch h
  have hb := exL_ok hf.1 h
  have hnd : (dd (fuSeq xs)).Nodup := dd_nodup _ _ List.nodup_nil
  have hlen : (dd (fuSeq xs)).length ≤ 6 := by
    obtain ⟨r, hr⟩ := fuD_pre xs
    have := fuD_len h
    rw [hr, List.length_append] at this
    omega
  have hd : dd (fuSeq (exL (fuL xs) xs)) = (List.range (dd (fuSeq xs)).length).map (fun i : Nat => (i : Int)) := by
    rw [ddMap hf h]
    apply List.ext_getElem (by simp)
    intro i a b
    simp only [List.length_map] at a
    have hm : (dd (fuSeq xs))[i] ∈ fuSeq xs := by
      rcases (dd_mem (fuSeq xs) [] _).1 (List.getElem_mem a) with h1 | h1
      · cases h1
      · exact h1
    have e := idx_at hnd a
    have e0 : (dd (fuSeq xs)).getD i 0 = (dd (fuSeq xs))[i] := by simp [List.getD, a]
    rw [e0] at e
    simp only [List.getElem_map, List.getElem_range]
    rw [fuL_at h (seq_col h _ hm), fuD_used hm, e]
  have hD : fuD (exL (fuL xs) xs) = idL := by
    have := dd_range ⟨(dd (fuSeq xs)).length, by omega⟩
    unfold fuD
    have e : dd (fuSeq (exL (fuL xs) xs) ++ idL) = idL.foldl ddStep (dd (fuSeq (exL (fuL xs) xs))) := by unfold dd; rw [List.foldl_append]
    rw [e, hd]
    exact this
  refine lst_ext (fuL_len hb) rfl (fun a ha => ?_)
  rw [fuL_at hb ha, hD, atL_id ha]
  unfold Col at ha
  have : a = 0 ∨ a = 1 ∨ a = 2 ∨ a = 3 ∨ a = 4 ∨ a = 5 := by omega
  rcases this with rfl | rfl | rfl | rfl | rfl | rfl <;> rfl

/-! ### What undoes an exchange -/
def undL (l : List Int) : List Int := idL.map (fun b => (l.idxOf b : Int))
theorem und_at {l : List Int} {b : Int} (hb : Col b) : atL (undL l) b = (l.idxOf b : Int) := by
  have := atL_map (ys := idL) rfl (fun b => (l.idxOf b : Int)) hb
  unfold undL
  rw [this, atL_id hb]
theorem und_ok {l : List Int} (h : Exch l) : LstOk (undL l) := by
  refine ⟨by simp [undL, idL], fun z hz => ?_⟩
  unfold undL at hz
  rw [List.mem_map] at hz
  obtain ⟨b, hb, rfl⟩ := hz
  have := List.idxOf_lt_length_iff.2 (exch_all h (col_mem.2 hb))
  rw [h.1.1] at this
  omega
theorem und_undoes {l : List Int} (h : Exch l) {n : Int} {xs : List C3} (hb : BlkOk n xs) : exL (undL l) (exL l xs) = xs := by
  rw [exL_comp h.1.1 hb]
  have e : l.map (atL (undL l)) = idL := lst_ext (by simp [h.1.1]) rfl (fun a ha => by
    rw [atL_map h.1.1 _ ha, und_at (atL_ok h.1 ha), atL_id ha]
    unfold Col at ha
    have h6 := h.1.1
    have := idx_at h.2 (i := a.toNat) (by omega)
    unfold atL
    rw [this]
    omega)
  rw [e, exL_id hb]
/-- A list that has at each color of l its place is that one. -/
theorem und_is {l o : List Int} (h : Exch l) (ho : o.length = 6) (hk : ∀ j, j < 6 → atL o (l.getD j 0) = j) : o = undL l := by
  refine lst_ext ho (und_ok h).1 (fun b hb => ?_)
  have hm := exch_all h hb
  have hl := List.idxOf_lt_length_iff.2 hm
  have e : l.getD (l.idxOf b) 0 = b := by
    have := List.getElem_idxOf hl
    simp [List.getD, hl, this]
  have := hk (l.idxOf b) (by rw [← h.1.1]; exact hl)
  rw [e] at this
  rw [this, und_at hb]

end Go.Proofs.Ytndffjphdlncpaa

namespace Go.Proofs.Ytndffjphdlncpaa
open Go.ChangeShapes Go.WideShapes Go.ChangeAt Go.RowKit

/-- A slice of ints in a block from lo on, below hi, from some place on. -/
def IntO (lo hi : Nat) (w : World) (v : Value) (zs : List Int) : Prop :=
  zs.length ≤ 1048576 ∧ ((zs = [] ∧ ∃ a c, v = .slice a 0 c) ∨
    ∃ g o cap, v = .slice (some ⟨g, o, none⟩) zs.length cap ∧ lo ≤ g ∧ g < hi ∧ ∀ i, i < zs.length → w.cell? ⟨g, o + i, none⟩ = some (.int .i64 (zs.getD i 0)) ∧ w.frozen? ⟨g, o + i, none⟩ = false)
theorem IntO.below {lo hi : Nat} {w w' : World} {v : Value} {zs : List Int} (h : IntO lo hi w v zs) (hb : Below hi w w') : IntO lo hi w' v zs := by
  obtain ⟨hl, h | ⟨g, o, cap, hv, hg, hlt, hc⟩⟩ := h
  · exact ⟨hl, .inl h⟩
  · exact ⟨hl, .inr ⟨g, o, cap, hv, hg, hlt, fun i hi => ⟨(hb.cell (p := ⟨g, o + i, none⟩) hlt).trans (hc i hi).1, (hb.frozen (p := ⟨g, o + i, none⟩) hlt).trans (hc i hi).2⟩⟩⟩
theorem IntO.wide {lo hi lo' hi' : Nat} {w : World} {v : Value} {zs : List Int} (h : IntO lo hi w v zs) (h1 : lo' ≤ lo) (h2 : hi ≤ hi') : IntO lo' hi' w v zs := by
  obtain ⟨hl, h | ⟨g, o, cap, hv, hg, hlt, hc⟩⟩ := h
  · exact ⟨hl, .inl h⟩
  · exact ⟨hl, .inr ⟨g, o, cap, hv, by omega, by omega, hc⟩⟩
theorem IntO.form {lo hi : Nat} {w : World} {v : Value} {zs : List Int} (h : IntO lo hi w v zs) : ∃ a cap, v = .slice a zs.length cap := by
  obtain ⟨_, ⟨rfl, a, c, hv⟩ | ⟨g, o, cap, hv, _⟩⟩ := h
  · exact ⟨a, c, hv⟩
  · exact ⟨_, _, hv⟩
theorem IntO.at {lo hi : Nat} {w w' : World} {a : Option Addr} {n cap : Nat} {zs : List Int} (h : IntO lo hi w (.slice a n cap) zs) (hb : Below hi w w') {i : Nat} (hi' : i < zs.length) :
    ∃ g o, a = some ⟨g, o, none⟩ ∧ lo ≤ g ∧ g < hi ∧ w'.cell? ⟨g, o + i, none⟩ = some (.int .i64 (zs.getD i 0)) ∧ w'.frozen? ⟨g, o + i, none⟩ = false := by
  obtain ⟨_, ⟨rfl, _⟩ | ⟨g, o, cap, hv, hg, hlt, hc⟩⟩ := h
  · simp at hi'
  · simp only [Value.slice.injEq] at hv
    exact ⟨g, o, hv.1, hg, hlt, (hb.cell (p := ⟨g, o + i, none⟩) hlt).trans (hc i hi').1, (hb.frozen (p := ⟨g, o + i, none⟩) hlt).trans (hc i hi').2⟩
theorem IntIn.o {lo hi : Nat} {w : World} {v : Value} {zs : List Int} (h : IntIn lo hi w v zs) : IntO lo hi w v zs := by
  obtain ⟨hl, h | ⟨g, cap, hv, hg, hlt, hc⟩⟩ := h
  · exact ⟨hl, .inl h⟩
  · exact ⟨hl, .inr ⟨g, 0, cap, hv, hg, hlt, fun i hi => by rw [Nat.zero_add]; exact hc i hi⟩⟩

end Go.Proofs.Ytndffjphdlncpaa

namespace Go.Proofs.Ytndffjphdlncpaa
open Go.ChangeShapes Go.WideShapes Go.ChangeAt Go.RowKit

/-- As Booleans. -/
noncomputable def lstB (zs : List Int) : Bool := @decide (LstOk zs) (Classical.propDecidable _)
theorem lst_yes {zs : List Int} (h : LstOk zs) : true = lstB zs := by unfold lstB; simp [h]
theorem lst_no {zs : List Int} (h : ¬ LstOk zs) : false = lstB zs := by unfold lstB; simp [h]
noncomputable def exB (zs : List Int) : Bool := @decide (Exch zs) (Classical.propDecidable _)
theorem ex_yes {zs : List Int} (h : Exch zs) : true = exB zs := by unfold exB; simp [h]
theorem ex_no {zs : List Int} (h : ¬ Exch zs) : false = exB zs := by unfold exB; simp [h]
set_option maxHeartbeats 400000 in
theorem SpecListOk_any (lo hi : Nat) (v : Value) (zs : List Int) (w : World) (r : IntO lo hi w v zs) :
    Calls Try.prog 28 #[v] w fun e w' => e = .returned (.bool (lstB zs)) ∧ w' = w := by
  obtain ⟨a, cap, rfl⟩ := r.form
  have R := Lib.hid r
  have hl := r.1
  clear r
  go_enter Try.func28, Try.ntmps28
  go_wp2_with fail
  go_loop [3] (fun i => ∃ k : Nat, k ≤ zs.length ∧ i = .int .i64 k ∧ Hid (∀ j, j < k → 0 ≤ zs.getD j 0 ∧ zs.getD j 0 ≤ 5)) (fun i => zs.length - (intOf i).toNat)
  case atStart => exact ⟨0, Nat.zero_le _, rfl, Lib.hid (fun j hj => by omega)⟩
  case round =>
    obtain ⟨k, hk, rfl, hall⟩ := hrel
    by_cases hlt : k < zs.length
    · obtain ⟨g, o, rfl, _, _, e0, _⟩ := R.out.at (Below.refl _ _) hlt
      by_cases hz : 0 ≤ zs.getD k 0 ∧ zs.getD k 0 ≤ 5
      · obtain ⟨z0, z5⟩ := hz
        have HN : Hid (∀ j, j < k + 1 → 0 ≤ zs.getD j 0 ∧ zs.getD j 0 ≤ 5) := Lib.hid (fun j hj => by
          rcases Nat.lt_succ_iff_lt_or_eq.1 hj with h | rfl
          · exact hall.out j h
          · exact ⟨z0, z5⟩)
        generalize zs.getD k 0 = z at e0 z0 z5
        clear hall
        go_wp2_with fail
        refine (In_yes _ _ _ _ z0 z5).mono ?_
        rintro e w' ⟨rfl, rfl⟩
        go_wp2_with fail
        go_round
        case rel => exact ⟨k + 1, by omega, by go_num, HN⟩
        case measure => simp [intOf] <;> omega
      · have HF := Lib.hid (lst_no (zs := zs) (fun h => hz (h.2 _ (by simp [List.getD, hlt]))))
        have hz' : zs.getD k 0 < 0 ∨ 5 < zs.getD k 0 := by omega
        generalize zs.getD k 0 = z at e0 hz'
        clear hall hz
        go_wp2_with fail
        refine (In_no _ _ _ _ hz').mono ?_
        rintro e w' ⟨rfl, rfl⟩
        go_wp2_with fail
        go_ret
        exact ⟨ret_bool HF.out, rfl⟩
    · obtain rfl : k = zs.length := by omega
      have HA : Hid (LstOk zs ↔ zs.length = 6) := Lib.hid ⟨fun h => h.1, fun h => ⟨h, fun z hz => by
        obtain ⟨j, hj, rfl⟩ := List.getElem_of_mem hz
        have := hall.out j hj
        simpa [List.getD, hj] using this⟩⟩
      clear hall
      by_cases h6 : zs.length = 6
      · have hb : ((zs.length : Int) == 6) = true := by simp; omega
        have HF := Lib.hid (lst_yes (HA.out.2 h6))
        clear h6
        go_wp2_with fail
        go_ret
        exact ⟨ret_bool HF.out, rfl⟩
      · have hb : ((zs.length : Int) == 6) = false := by simp; omega
        have HF := Lib.hid (lst_no (fun h => h6 (HA.out.1 h)))
        clear h6
        go_wp2_with fail
        go_ret
        exact ⟨ret_bool HF.out, rfl⟩

end Go.Proofs.Ytndffjphdlncpaa

namespace Go.Proofs.Ytndffjphdlncpaa
open Go.ChangeShapes Go.WideShapes Go.ChangeAt Go.RowKit

theorem bel_q {b : Nat} {w u : World} (h : Below b w u) (n : Nat) : Below b w (u.drewN n) := ⟨h.os, h.tape, h.output, h.size, h.block⟩
set_option maxHeartbeats 1000000 in
theorem SpecIsExchange_any (lo hi : Nat) (v : Value) (zs : List Int) (w : World) (r : IntO lo hi w v zs) (hhi : hi ≤ w.heap.size) :
    Calls Try.prog 24 #[v] w fun e w' => e = .returned (.bool (exB zs)) ∧ Below w.heap.size w w' := by
  obtain ⟨a, cap, rfl⟩ := r.form
  have HR := Lib.hid (fun W (hb : Below w.heap.size w W) => r.below (hb.mono hhi))
  have hl := r.1
  clear r
  go_enter Try.func24, Try.ntmps24
  go_wp2_with fail
  go_loopw [3] (fun i wr => ∃ k : Nat, k ≤ zs.length ∧ i = .int .i64 k ∧ Hid (∀ j m, m < j → j < k → ¬ zs.getD m 0 = zs.getD j 0) ∧ Hid (Below w.heap.size w wr)) (fun i _ => zs.length - (intOf i).toNat)
  case atStart => exact ⟨0, Nat.zero_le _, rfl, Lib.hid (fun j m _ hj => by omega), Lib.hid (Below.refl _ _)⟩
  case round =>
    obtain ⟨k, hk, rfl, hall, hbel⟩ := hrel
    by_cases hlt : k < zs.length
    · obtain ⟨wo, rfl⟩ : ∃ wo : World, wo = wr := ⟨_, rfl⟩
      go_wp2_with fail
      go_loopw [4] (fun i wr => ∃ m : Nat, m ≤ k ∧ i = .int .i64 m ∧ Hid (∀ q, q < m → ¬ zs.getD q 0 = zs.getD k 0) ∧ Hid (Below w.heap.size w wr)) (fun i _ => k - (intOf i).toNat)
      case atStart => exact ⟨0, Nat.zero_le _, rfl, Lib.hid (fun q hq => by omega), hbel⟩
      case round =>
        clear hbel
        obtain ⟨m, hm, rfl, hno, hbel⟩ := hrel
        by_cases hlt2 : m < k
        · have hml : m < zs.length := by omega
          obtain ⟨g, o, rfl, _, _, e0, _⟩ := (HR.out _ hbel.out).at (Below.refl _ _) hlt
          obtain ⟨g2, o2, hg2, _, _, e1, _⟩ := (HR.out _ hbel.out).at (Below.refl _ _) hml
          simp only [Option.some.injEq, Addr.mk.injEq, and_true] at hg2
          obtain ⟨rfl, rfl⟩ := hg2
          have HBQ := Lib.hid (fun q => bel_q hbel.out q)
          by_cases he : zs.getD m 0 = zs.getD k 0
          · have HF := Lib.hid (ex_no (zs := zs) (fun h => by
              have e1 : zs.getD m 0 = zs[m] := by simp [List.getD, hml]
              have e2 : zs.getD k 0 = zs[k] := by simp [List.getD, hlt]
              rw [e1, e2] at he
              have := (List.getElem_inj h.2).1 he
              omega))
            rw [he] at e1
            have hb : (zs.getD k 0 == zs.getD k 0) = true := by simp
            generalize zs.getD k 0 = z at e0 e1 hb
            clear he hno hall hbel
            go_wp2_with fail
            go_quiet (fail)
            go_wp2_with fail
            go_ret
            exact ⟨ret_bool HF.out, HBQ.out _⟩
          · have HN : Hid (∀ q, q < m + 1 → ¬ zs.getD q 0 = zs.getD k 0) := Lib.hid (fun q hq => by
              rcases Nat.lt_succ_iff_lt_or_eq.1 hq with h | rfl
              · exact hno.out q h
              · exact he)
            have hb : (zs.getD m 0 == zs.getD k 0) = false := by simpa using he
            obtain ⟨z, hz⟩ : ∃ z, z = zs.getD k 0 := ⟨_, rfl⟩
            rw [← hz] at e0 hb
            have HZ := Lib.hid hz
            clear hz
            generalize zs.getD m 0 = y at e1 hb
            clear he hno hbel
            go_wp2_with fail
            go_quiet (fail)
            go_wp2_with fail
            go_roundw
            case rel => exact ⟨m + 1, by omega, by go_num, HN, Lib.hid (HBQ.out _)⟩
            case measure => simp [intOf] <;> omega
        · obtain rfl : m = k := by omega
          have HN : Hid (∀ j q, q < j → j < m + 1 → ¬ zs.getD q 0 = zs.getD j 0) := Lib.hid (fun j q hq hj => by
            rcases Nat.lt_succ_iff_lt_or_eq.1 hj with h | rfl
            · exact hall.out j q hq h
            · exact hno.out q hq)
          clear hno hall
          go_wp2_with fail
          go_roundw
          case rel => exact ⟨m + 1, by omega, by go_num, HN, hbel⟩
          case measure => simp [intOf] <;> omega
    · obtain rfl : k = zs.length := by omega
      have HE : Hid (lstB zs = exB zs) := Lib.hid (by
        by_cases h : LstOk zs
        · rw [← lst_yes h]
          refine ex_yes ⟨h, List.pairwise_iff_getElem.2 (fun i j hi' hj hij e => ?_)⟩
          exact hall.out j i hij hj (by simp [List.getD, hi', hj, e])
        · rw [← lst_no h]
          exact ex_no (fun k => h k.1))
      clear hall
      go_wp2_with fail
      refine (SpecListOk_any lo hi _ zs _ (HR.out _ hbel.out)).mono ?_
      rw [HE.out]
      rintro e w' ⟨rfl, rfl⟩
      go_wp2_with fail
      go_ret
      exact ⟨rfl, hbel.out⟩

end Go.Proofs.Ytndffjphdlncpaa

namespace Go.Proofs.Ytndffjphdlncpaa
open Go.ChangeShapes Go.WideShapes Go.ChangeAt Go.RowKit

/-- A slice of ints that came in. -/
def ArgI (w : World) (a : Option Addr) (len : Nat) (zs : List Int) : Prop :=
  zs.length = len ∧ len ≤ maxLen ∧ (len = 0 ∨ ∃ x : Addr, a = some x ∧ ∀ i, i < len → w.cell? (x.add i) = some (.int .i64 (zs.getD i 0)))
theorem add_block (x : Addr) (i : Nat) : (x.add i).block = x.block := by unfold Addr.add; split <;> rfl
theorem ArgI.below {w w' : World} {a : Option Addr} {len : Nat} {zs : List Int} (h : ArgI w a len zs) (hb : Below w.heap.size w w') : ArgI w' a len zs := by
  obtain ⟨h1, h2, h | ⟨x, hx, hc⟩⟩ := h
  · exact ⟨h1, h2, .inl h⟩
  · exact ⟨h1, h2, .inr ⟨x, hx, fun i hi => (hb.cell (lt_of_cell (hc i hi))).trans (hc i hi)⟩⟩
theorem ArgI.of_row {w : World} {a : Option Addr} {len cap : Nat} {zs : List Int} (h : (a = none ∧ len = 0 ∧ cap = 0 ∧ zs = []) ∨ ∃ x, a = some x ∧ len ≤ cap ∧ cap ≤ maxLen ∧ zs.length = cap ∧ (∀ i, i < zs.length → w.cell? (x.add i) = some (.int .i64 (zs.getD i 0))) ∧ ∀ n ∈ zs, (Lit.int .i64 n).wf = true) : ArgI w a len (zs.take len) := by
  rcases h with ⟨_, rfl, _, rfl⟩ | ⟨x, rfl, h1, h2, rfl, hc, _⟩
  · exact ⟨rfl, Nat.zero_le _, .inl rfl⟩
  · refine ⟨by simp; omega, Nat.le_trans h1 h2, .inr ⟨x, rfl, fun i hi => ?_⟩⟩
    rw [hc i (by omega)]
    simp [List.getD, hi]

theorem infoA : (Try.prog.info? 3).map (fun i => (i.zero, i.size, i.bytes)) = some (some (.int .i64 0), 1, 8) := by kernel_rfl
theorem madeA (n : Nat) : (madeCells (Value.int .i64 0).cells (n * 1)).toList = ivals (List.replicate n 0) := by
  apply List.ext_getElem
  · simp [madeCells, ivals]
  · intro i a b
    simp [madeCells, ivals, Value.cells, Nat.mod_one]
set_option maxHeartbeats 400000 in
theorem ToIntS_any (a : Option Addr) (len cap : Nat) (zs : List Int) (w : World) (r : ArgI w a len zs) (hlen : len ≤ 1048576) :
    Calls Try.prog 29 #[.slice a len cap] w (FreshI zs w) := by
  obtain ⟨i0, hi0, hz0, hz1, hz2⟩ : ∃ i, Try.prog.info? 3 = some i ∧ i.zero = some (.int .i64 0) ∧ i.size = 1 ∧ i.bytes = 8 := info_parts3 infoA
  have HR := Lib.hid (fun W (hb : Below w.heap.size w W) => r.below hb)
  obtain ⟨hxl, _, _⟩ := r
  subst hxl
  go_enter Try.func29, Try.ntmps29
  go_wp2_with (at_make; refine wpList_make_full _ rfl _ _ 27 rfl w.heap.size 3 i0 _ 1 Try.underlying27 hi0 hz0 hz1 .i64 .i64 _ _ zs.length rfl rfl rfl rfl (by rw [hz2]; omega) (by unfold maxLen; omega) (Nat.le_refl _) ?_; intro w0 hown0 hgrow0)
  have hb0 := own_none hgrow0
  rw [madeA] at hown0
  have hin0 := IntIn.of_owns (zs := List.replicate zs.length 0) (by rw [List.length_replicate]; exact hown0) (by simpa using hlen)
  have HB := Lib.hid hb0
  have HW := Lib.hid hin0
  clear hb0 hown0 hgrow0 hin0
  go_loopw [4] (fun i wr => ∃ (k : Nat) (ys : List Int), k ≤ zs.length ∧ i = .int .i64 k ∧ Hid (UpToI k zs ys) ∧ Hid (IntIn w.heap.size w0.heap.size wr (.slice (some ⟨w.heap.size, 0, none⟩) zs.length zs.length) ys) ∧ Hid (Below w.heap.size w wr) ∧ w0.heap.size ≤ wr.heap.size) (fun i _ => zs.length - (intOf i).toNat)
  case atStart => exact ⟨0, _, Nat.zero_le _, rfl, Lib.hid ⟨by simp, fun i hi => by omega⟩, HW, HB, Nat.le_refl _⟩
  case round =>
    obtain ⟨k, ys, hk, rfl, hup, hin, hbel, hsz⟩ := hrel
    by_cases hlt : k < zs.length
    · obtain ⟨_, _, h | ⟨x, rfl, hc⟩⟩ := HR.out _ hbel.out
      · omega
      have c0 := hc k hlt
      clear hc
      have hyl := hup.out.1
      obtain ⟨g, hg, _, _, e0, f0⟩ := hin.out.at (Below.refl _ _) (i := k) (by omega)
      obtain rfl : w.heap.size = g := by simpa using hg
      have HN := Lib.hid (hin.out.set k (by omega) (zs.getD k 0))
      have HU := Lib.hid (hup.out.set (c := zs.getD k 0) hlt rfl)
      have HB1 := Lib.hid (Below.setCell hbel.out (p := ⟨w.heap.size, k, none⟩) (Nat.le_refl _) (.int .i64 (zs.getD k 0)))
      generalize zs.getD k 0 = z at c0 HN HU HB1
      generalize ys.getD k 0 = y at e0
      clear hg hin hup hbel
      go_wp2_with fail
      go_roundw
      case rel => exact ⟨k + 1, _, by omega, by go_num, HU, HN, HB1, by simp [World.setCell]; exact hsz⟩
      case measure => simp [intOf] <;> omega
    · obtain rfl : k = zs.length := by omega
      have hall := hup.out.all
      subst hall
      go_wp2_with fail
      go_ret
      exact ⟨_, rfl, hin.out.wide (Nat.le_refl _) hsz, hbel.out⟩

end Go.Proofs.Ytndffjphdlncpaa
