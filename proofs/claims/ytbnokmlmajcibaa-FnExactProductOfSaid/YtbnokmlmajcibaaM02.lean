/- Blocks: the model's CellAt. Rows of integers: what a slice of ints holds. Blocks: the model's ColorsOf. Areas: how much of a row of cells has a color. -/
import Derived.Test.YtbnokmlmajcibaaM00
import Derived.Test.YtbnokmlmajcibaaM01
import Derived.Test.YtbnokmlmajcibaaRows
import Derived.WalkKit
import Derived.Lib.Hide
import Derived.Laws.OwnMore
import Derived.Deep.AppendLies
import Derived.OwnWalk
import Derived.WalkArith

namespace Go.Proofs.Ytbnokmlmajcibaa
open Go.ChangeShapes Go.WideShapes Go.ChangeAt Go.RowKit

/-- x, y is a place of a block of size n. -/
def InB (n x y : Int) : Prop := (0 ≤ x ∧ x ≤ n - 1) ∧ (0 ≤ y ∧ y ≤ n - 1)
theorem idx {n x y : Int} (n0 : 1 ≤ n) (n1 : n ≤ 4) (h : InB n x y) : ∃ k : Nat, y * n + x = k ∧ (k : Int) < n * n ∧ IntKind.i64.wrap (y * n) = y * n ∧ IntKind.i64.wrap (y * n + x) = (k : Int) := by
  obtain ⟨⟨x0, x1⟩, y0, y1⟩ := h
  have hn : n = 1 ∨ n = 2 ∨ n = 3 ∨ n = 4 := by omega
  have key : 0 ≤ y * n ∧ y * n + x < n * n ∧ y * n + x ≤ 16 := by rcases hn with rfl | rfl | rfl | rfl <;> omega
  obtain ⟨k0, k1, k2⟩ := key
  refine ⟨(y * n + x).toNat, by omega, by omega, ?_, ?_⟩
  · rw [IntKind.wrap_i64]; omega
  · rw [IntKind.wrap_i64]; omega

/-- The cell at a place. -/
noncomputable def cAt (n : Int) (xs : List C3) (x y : Int) : C3 := @ite _ (BlkOk n xs ∧ InB n x y) (Classical.propDecidable _) (xs.getD (y * n + x).toNat C3.zero) C3.zero
theorem cAt_yes {n : Int} {xs : List C3} {x y : Int} (h : BlkOk n xs) (k : InB n x y) : cAt n xs x y = xs.getD (y * n + x).toNat C3.zero := if_pos ⟨h, k⟩
theorem cAt_no {n : Int} {xs : List C3} {x y : Int} (h : ¬ (BlkOk n xs ∧ InB n x y)) : cAt n xs x y = C3.zero := if_neg h

theorem SpecBlockOk_yes (lo hi : Nat) (n : Int) (v : Value) (xs : List C3) (w : World) (r : CellIn lo hi w v xs) (hhi : hi ≤ w.heap.size) (h : BlkOk n xs) :
    Calls Try.prog 46 #[.agg #[.int .i64 n, v]] w fun e w' => e = .returned (.bool true) ∧ Below w.heap.size w w' := by
  have hc := SpecBlockOk_any lo hi n v xs w r hhi
  rw [← blk_yes h] at hc
  exact hc
theorem SpecBlockOk_no (lo hi : Nat) (n : Int) (v : Value) (xs : List C3) (w : World) (r : CellIn lo hi w v xs) (hhi : hi ≤ w.heap.size) (h : ¬ BlkOk n xs) :
    Calls Try.prog 46 #[.agg #[.int .i64 n, v]] w fun e w' => e = .returned (.bool false) ∧ Below w.heap.size w w' := by
  have hc := SpecBlockOk_any lo hi n v xs w r hhi
  rw [← blk_no h] at hc
  exact hc

end Go.Proofs.Ytbnokmlmajcibaa

namespace Go.Proofs.Ytbnokmlmajcibaa
open Go.ChangeShapes Go.WideShapes Go.ChangeAt Go.RowKit

/-- A slice of ints in a block from lo on, below hi. -/
def IntIn (lo hi : Nat) (w : World) (v : Value) (zs : List Int) : Prop :=
  zs.length ≤ 1048576 ∧ ((zs = [] ∧ ∃ a c, v = .slice a 0 c) ∨
    ∃ g cap, v = .slice (some ⟨g, 0, none⟩) zs.length cap ∧ lo ≤ g ∧ g < hi ∧ ∀ i, i < zs.length → w.cell? ⟨g, i, none⟩ = some (.int .i64 (zs.getD i 0)) ∧ w.frozen? ⟨g, i, none⟩ = false)
theorem IntIn.below {lo hi : Nat} {w w' : World} {v : Value} {zs : List Int} (h : IntIn lo hi w v zs) (hb : Below hi w w') : IntIn lo hi w' v zs := by
  obtain ⟨hl, h | ⟨g, cap, hv, hg, hlt, hc⟩⟩ := h
  · exact ⟨hl, .inl h⟩
  · exact ⟨hl, .inr ⟨g, cap, hv, hg, hlt, fun i hi => ⟨(hb.cell (p := ⟨g, i, none⟩) hlt).trans (hc i hi).1, (hb.frozen (p := ⟨g, i, none⟩) hlt).trans (hc i hi).2⟩⟩⟩
theorem IntIn.wide {lo hi lo' hi' : Nat} {w : World} {v : Value} {zs : List Int} (h : IntIn lo hi w v zs) (h1 : lo' ≤ lo) (h2 : hi ≤ hi') : IntIn lo' hi' w v zs := by
  obtain ⟨hl, h | ⟨g, cap, hv, hg, hlt, hc⟩⟩ := h
  · exact ⟨hl, .inl h⟩
  · exact ⟨hl, .inr ⟨g, cap, hv, by omega, by omega, hc⟩⟩
theorem IntIn.form {lo hi : Nat} {w : World} {v : Value} {zs : List Int} (h : IntIn lo hi w v zs) : ∃ a cap, v = .slice a zs.length cap := by
  obtain ⟨_, ⟨rfl, a, c, hv⟩ | ⟨g, cap, hv, _⟩⟩ := h
  · exact ⟨a, c, hv⟩
  · exact ⟨_, _, hv⟩
theorem IntIn.at {lo hi : Nat} {w w' : World} {a : Option Addr} {n cap : Nat} {zs : List Int} (h : IntIn lo hi w (.slice a n cap) zs) (hb : Below hi w w') {i : Nat} (hi' : i < zs.length) :
    ∃ g, a = some ⟨g, 0, none⟩ ∧ lo ≤ g ∧ g < hi ∧ w'.cell? ⟨g, i, none⟩ = some (.int .i64 (zs.getD i 0)) ∧ w'.frozen? ⟨g, i, none⟩ = false := by
  obtain ⟨_, ⟨rfl, _⟩ | ⟨g, cap, hv, hg, hlt, hc⟩⟩ := h
  · simp at hi'
  · simp only [Value.slice.injEq] at hv
    exact ⟨g, hv.1, hg, hlt, (hb.cell (p := ⟨g, i, none⟩) hlt).trans (hc i hi').1, (hb.frozen (p := ⟨g, i, none⟩) hlt).trans (hc i hi').2⟩
theorem IntIn.set {lo hi g n cap : Nat} {w : World} {zs : List Int} (h : IntIn lo hi w (.slice (some ⟨g, 0, none⟩) n cap) zs) (j : Nat) (hj : j < zs.length) (z : Int) :
    IntIn lo hi (w.setCell ⟨g, j, none⟩ (.int .i64 z)) (.slice (some ⟨g, 0, none⟩) n cap) (zs.set j z) := by
  obtain ⟨hl, ⟨h, _⟩ | ⟨g', cap', hv, hg, hlt, hc⟩⟩ := h
  · subst h; simp at hj
  · simp only [Value.slice.injEq, Option.some.injEq, Addr.mk.injEq, and_true] at hv
    obtain ⟨rfl, rfl, rfl⟩ := hv
    refine ⟨by simpa using hl, .inr ⟨g, cap, by simp, hg, hlt, fun i hi => ?_⟩⟩
    rw [List.length_set] at hi
    obtain ⟨h1, h2⟩ := hc i hi
    refine ⟨?_, by rw [World.frozen?_setCell]; exact h2⟩
    by_cases e : i = j
    · subst e
      rw [World.cell?_setCell_same _ _ _ h1]
      simp [List.getD, hi]
    · rw [World.cell?_setCell_other _ _ _ _ (by simp <;> omega), h1]
      simp [List.getD, Ne.symm e]
theorem IntIn.set_far {lo hi : Nat} {w : World} {v : Value} {zs : List Int} (h : IntIn lo hi w v zs) {p : Addr} (hp : p.block < lo) (x : Value) : IntIn lo hi (w.setCell p x) v zs := by
  obtain ⟨hl, h | ⟨g, cap, hv, hg, hlt, hc⟩⟩ := h
  · exact ⟨hl, .inl h⟩
  · refine ⟨hl, .inr ⟨g, cap, hv, hg, hlt, fun i hi => ⟨?_, by rw [World.frozen?_setCell]; exact (hc i hi).2⟩⟩⟩
    have hn : p ≠ ⟨g, i, none⟩ := fun e => by rw [e] at hp; simp at hp; omega
    rw [World.cell?_setCell_other _ _ _ _ hn]; exact (hc i hi).1

/-- A list of ints as values. -/
def ivals (zs : List Int) : List Value := zs.map (.int .i64 ·)
theorem lt_of_heapI {w : World} {g : Nat} {o : Obj} (h : w.heap[g]? = some o) : g < w.heap.size := (Array.getElem?_eq_some_iff.1 h).1
theorem IntIn.of_owns {w : World} {base e : Nat} {v : Value} {zs : List Int} (h : w.ownsRow base e 1 v zs.length (ivals zs)) (hl : zs.length ≤ 1048576) : IntIn base w.heap.size w v zs := by
  refine ⟨hl, ?_⟩
  have h0 := h
  obtain ⟨_, ⟨h1, h2⟩ | ⟨g, cap, cur, hv, hg, hh, _⟩⟩ := h
  · exact .inl ⟨List.length_eq_zero_iff.1 h2, none, 0, h1⟩
  · subst hv
    refine .inr ⟨g, cap, rfl, hg, lt_of_heapI hh, fun i hi => ⟨?_, h0.frozenAt i⟩⟩
    rw [h0.cellAt i (by omega)]
    simp [ivals, List.getD, hi]
/-- A new row of ints is handed back. -/
def FreshI (zs : List Int) (w : World) (e : Ending) (w' : World) : Prop := ∃ v, e = .returned v ∧ IntIn w.heap.size w'.heap.size w' v zs ∧ Below w.heap.size w w'

/-- The first k elements are those of the list. -/
def UpToI (k : Nat) (xs ys : List Int) : Prop := ys.length = xs.length ∧ ∀ i, i < k → ys.getD i 0 = xs.getD i 0
theorem UpToI.set {k : Nat} {xs ys : List Int} (h : UpToI k xs ys) (hk : k < xs.length) {c : Int} (hc : c = xs.getD k 0) : UpToI (k + 1) xs (ys.set k c) := by
  obtain ⟨h1, h2⟩ := h
  refine ⟨by simpa using h1, fun i hi => ?_⟩
  by_cases e : i = k
  · subst e; simp [List.getD, h1, hk] at hc ⊢; exact hc
  · have := h2 i (by omega)
    simpa [List.getD, List.getElem?_set, e, Ne.symm e] using this
theorem UpToI.all {xs ys : List Int} (h : UpToI xs.length xs ys) : ys = xs := by
  obtain ⟨h1, h2⟩ := h
  apply List.ext_getElem h1
  intro i a b
  have := h2 i b
  simpa [List.getD, a, b] using this

/-- The marks from k on. -/
def markI (k n : Nat) : List Int := (List.range n).map fun i => ((k + i : Nat) : Int)
theorem markI_length (k n : Nat) : (markI k n).length = n := by simp [markI]
theorem markI_at {k n i : Nat} (h : i < n) : (markI k n).getD i 0 = ((k + i : Nat) : Int) := by simp [markI, List.getD, h]

end Go.Proofs.Ytbnokmlmajcibaa

namespace Go.Proofs.Ytbnokmlmajcibaa
open Go.ChangeShapes Go.WideShapes Go.ChangeAt Go.RowKit

/-- The color c is used in the first k cells. -/
def usd (xs : List C3) (c : Int) (k : Nat) : Bool := (xs.take k).any fun x => (x.a == c) || (x.b == c)
theorem usd_succ (xs : List C3) (c : Int) (k : Nat) (h : k < xs.length) : usd xs c (k + 1) = (usd xs c k || ((xs.getD k C3.zero).a == c) || ((xs.getD k C3.zero).b == c)) := by
  unfold usd
  rw [List.take_succ_eq_append_getElem h, List.any_append]
  simp [List.getD, h, Bool.or_assoc]
/-- The used ones of the first colors. -/
def cols (xs : List C3) (c : Nat) : List Int := ((List.range c).filter (fun d : Nat => usd xs (d : Int) xs.length)).map (fun d : Nat => (d : Int))
theorem cols_succ (xs : List C3) (c : Nat) : cols xs (c + 1) = cols xs c ++ (if usd xs (c : Int) xs.length then [(c : Int)] else []) := by
  unfold cols
  rw [List.range_succ, List.filter_append, List.map_append]
  congr 1
  by_cases h : usd xs (c : Int) xs.length <;> simp [h]
theorem cols_le (xs : List C3) (c : Nat) : (cols xs c).length ≤ c := by
  unfold cols
  rw [List.length_map]
  have := List.length_filter_le (fun d : Nat => usd xs (d : Int) xs.length) (List.range c)
  simpa using this
noncomputable def colorsOf (n : Int) (xs : List C3) : List Int := @ite _ (BlkOk n xs) (Classical.propDecidable _) (cols xs 6) []
theorem colors_yes {n : Int} {xs : List C3} (h : BlkOk n xs) : colorsOf n xs = cols xs 6 := if_pos h
theorem colors_no {n : Int} {xs : List C3} (h : ¬ BlkOk n xs) : colorsOf n xs = [] := if_neg h

theorem info_int : (Try.prog.info? 3).map (fun i => (i.zero, i.size, i.bytes)) = some (some (.int .i64 0), 1, 8) := by kernel_rfl
theorem own_new1 (W : World) (q e : Nat) (h : W.heap.size = q) : (W.alloc (.cells #[] e)).ownsRow q e 1 (.slice (some ⟨q, 0, none⟩) 0 0) 0 [] := by
  subst h
  exact ⟨by simp, .inr ⟨_, 0, #[], rfl, Nat.le_refl _, heap_alloc_new _ _, by simp, by simp, rfl, rfl⟩⟩
theorem news_one (W : World) (q : Nat) (c : Value) (t : TypeId) (h : W.heap.size = q) : ∀ (j : Nat) u, ([c] : List Value)[j]? = some u → (W.alloc (.cells #[c] t)).cell? ((⟨q, 0, none⟩ : Addr).add j) = some u := by
  subst h
  exact World.news_of_block (cs := #[c]) (fr := (0, 0)) (heap_alloc_new W _)
theorem own_ge1 {w : World} {base e size n : Nat} {v : Value} {xs : List Value} (h : w.ownsRow base e size v n xs) : ∀ k, v.ownBlock = some k → base ≤ k := by
  intro k hk
  obtain ⟨_, h | ⟨g, cap, cur, hv, hg, _⟩⟩ := h
  · rw [h.1] at hk; cases hk
  · rw [hv] at hk; simp [Value.ownBlock] at hk; omega
theorem owns_below1 {w w' : World} {b e size n : Nat} {v : Value} {xs : List Value} (h : w.ownsRow b e size v n xs) (hb : Below w.heap.size w w') : w'.ownsRow b e size v n xs := by
  obtain ⟨h1, h2 | ⟨g, cap, cur, hv, hg, hh, r⟩⟩ := h
  · exact ⟨h1, .inl h2⟩
  · exact ⟨h1, .inr ⟨g, cap, cur, hv, hg, by rw [hb.block g (lt_of_heapI hh)]; exact hh, r⟩⟩

end Go.Proofs.Ytbnokmlmajcibaa

namespace Go.Proofs.Ytbnokmlmajcibaa
open Go.ChangeShapes Go.WideShapes Go.ChangeAt Go.RowKit

theorem wf_small {k : Int} (h0 : 0 ≤ k) (h1 : k ≤ 1000000) : (Lit.int .i64 k).wf = true := WalkArith.wf_i64 (by omega)
/-- How much of a valid cell has the color k. -/
def ar2 (c : C3) (k : Int) : Int := (if c.a = k then 2 else 0) + (if c.b = k then 2 else 0)
theorem ar2_bound (c : C3) (k : Int) : 0 ≤ ar2 c k ∧ ar2 c k ≤ 4 := by unfold ar2; split <;> split <;> omega
/-- .. of any cell. -/
noncomputable def arC (c : C3) (k : Int) : Int := @ite _ (OkC c.s c.a c.b) (Classical.propDecidable _) (ar2 c k) 0
theorem arC_yes {c : C3} (k : Int) (h : OkC c.s c.a c.b) : arC c k = ar2 c k := if_pos h
theorem arC_no {c : C3} (k : Int) (h : ¬ OkC c.s c.a c.b) : arC c k = 0 := if_neg h
/-- .. of the first m cells. -/
def arL (xs : List C3) (k : Int) (m : Nat) : Int := ((xs.take m).map (fun c => ar2 c k)).sum
theorem arL_zero (xs : List C3) (k : Int) : arL xs k 0 = 0 := by simp [arL]
theorem arL_succ (xs : List C3) (k : Int) {m : Nat} (h : m < xs.length) : arL xs k (m + 1) = arL xs k m + ar2 (xs.getD m C3.zero) k := by
  unfold arL
  rw [List.take_succ_eq_append_getElem h, List.map_append, List.sum_append]
  simp [List.getD, h]
theorem arL_bound (xs : List C3) (k : Int) : ∀ m : Nat, m ≤ xs.length → 0 ≤ arL xs k m ∧ arL xs k m ≤ 4 * m
  | 0, _ => by rw [arL_zero]; omega
  | m + 1, h => by
    have ih := arL_bound xs k m (by omega)
    rw [arL_succ xs k (by omega)]
    have := ar2_bound (xs.getD m C3.zero) k
    omega
noncomputable def areaOf (n : Int) (xs : List C3) (k : Int) : Int := @ite _ (BlkOk n xs) (Classical.propDecidable _) (arL xs k xs.length) 0
theorem area_yes {n : Int} {xs : List C3} (k : Int) (h : BlkOk n xs) : areaOf n xs k = arL xs k xs.length := if_pos h
theorem area_no {n : Int} {xs : List C3} (k : Int) (h : ¬ BlkOk n xs) : areaOf n xs k = 0 := if_neg h
theorem blk_len {n : Int} {xs : List C3} (h : BlkOk n xs) : 1 ≤ xs.length ∧ xs.length ≤ 16 := by
  have h1 := h.2.1
  have := sq_wrap h.1.1 h.1.2
  omega
/-- The areas of the first c colors. -/
def tab (xs : List C3) (c : Nat) : List Int := (List.range c).map (fun d : Nat => arL xs (d : Int) xs.length)
theorem tab_succ (xs : List C3) (c : Nat) : tab xs (c + 1) = tab xs c ++ [arL xs (c : Int) xs.length] := by
  unfold tab
  rw [List.range_succ, List.map_append]
  rfl
theorem tab_length (xs : List C3) (c : Nat) : (tab xs c).length = c := by simp [tab]
theorem tab_at (xs : List C3) {c k : Nat} (h : k < c) : (tab xs c).getD k 0 = arL xs (k : Int) xs.length := by simp [tab, List.getD, h]
noncomputable def areaTable (n : Int) (xs : List C3) : List Int := @ite _ (BlkOk n xs) (Classical.propDecidable _) (tab xs 6) []
theorem table_yes {n : Int} {xs : List C3} (h : BlkOk n xs) : areaTable n xs = tab xs 6 := if_pos h
theorem table_no {n : Int} {xs : List C3} (h : ¬ BlkOk n xs) : areaTable n xs = [] := if_neg h
/-- The place of the greatest of the first k numbers, the first of several. -/
def bst (t : List Int) : Nat → Int
  | 0 => -1
  | k + 1 => if bst t k < 0 ∨ t.getD (bst t k).toNat 0 < t.getD k 0 then k else bst t k
theorem bst_range (t : List Int) : ∀ k : Nat, -1 ≤ bst t k ∧ bst t k < k ∧ (0 < k → 0 ≤ bst t k)
  | 0 => by simp [bst]
  | k + 1 => by
    have ih := bst_range t k
    unfold bst
    split
    · omega
    · omega
noncomputable def mainOf (n : Int) (xs : List C3) : Int := bst (areaTable n xs) (areaTable n xs).length
/-- All used colors have one area. -/
def BalP (n : Int) (xs : List C3) : Prop := BlkOk n xs ∧ ∀ k, k < (cols xs 6).length → arL xs ((cols xs 6).getD k 0) xs.length = arL xs ((cols xs 6).getD 0 0) xs.length
noncomputable def balB (n : Int) (xs : List C3) : Bool := @decide (BalP n xs) (Classical.propDecidable _)
theorem bal_yes {n : Int} {xs : List C3} (h : BalP n xs) : true = balB n xs := by unfold balB; simp [h]
theorem bal_no {n : Int} {xs : List C3} (h : ¬ BalP n xs) : false = balB n xs := by unfold balB; simp [h]
/-- Twice the number of split cells among the first m. -/
def tri (xs : List C3) (m : Nat) : Int := ((xs.take m).map (fun c => if c.s = 0 then (0 : Int) else 2)).sum
theorem tri_zero (xs : List C3) : tri xs 0 = 0 := by simp [tri]
theorem tri_succ (xs : List C3) {m : Nat} (h : m < xs.length) : tri xs (m + 1) = tri xs m + (if (xs.getD m C3.zero).s = 0 then 0 else 2) := by
  unfold tri
  rw [List.take_succ_eq_append_getElem h, List.map_append, List.sum_append]
  simp [List.getD, h]
theorem tri_bound (xs : List C3) : ∀ m : Nat, m ≤ xs.length → 0 ≤ tri xs m ∧ tri xs m ≤ 2 * m
  | 0, _ => by rw [tri_zero]; omega
  | m + 1, h => by
    have ih := tri_bound xs m (by omega)
    rw [tri_succ xs (by omega)]
    split <;> omega
noncomputable def trisOf (n : Int) (xs : List C3) : Int := @ite _ (BlkOk n xs) (Classical.propDecidable _) (tri xs xs.length) (-1)
theorem tris_yes {n : Int} {xs : List C3} (h : BlkOk n xs) : trisOf n xs = tri xs xs.length := if_pos h
theorem tris_no {n : Int} {xs : List C3} (h : ¬ BlkOk n xs) : trisOf n xs = -1 := if_neg h
/-- A valid block has a color. -/
theorem cols_pos {n : Int} {xs : List C3} (h : BlkOk n xs) : 0 < (cols xs 6).length := by
  have hk : 0 < xs.length := (blk_len h).1
  have ho : (xs.getD 0 C3.zero).Ok := h.2.2 _ (by simp [List.getD, hk])
  have hu : usd xs (xs.getD 0 C3.zero).a xs.length = true := by
    unfold usd
    rw [List.take_length, List.any_eq_true]
    exact ⟨xs[0], List.getElem_mem hk, by simp [List.getD, hk]⟩
  generalize xs.getD 0 C3.zero = x at hu ho
  obtain ⟨x1, x2, x3⟩ := x
  change OkC x1 x2 x3 at ho
  unfold OkC at ho
  obtain ⟨j, rfl⟩ : ∃ j : Nat, x2 = j := ⟨x2.toNat, by omega⟩
  have : ((j : Nat) : Int) ∈ cols xs 6 := by
    unfold cols
    rw [List.mem_map]
    exact ⟨j, List.mem_filter.2 ⟨List.mem_range.2 (by omega), hu⟩, rfl⟩
  exact List.length_pos_of_mem this
theorem cols_at {xs : List C3} {k : Nat} (h : k < (cols xs 6).length) : ∃ j : Nat, (cols xs 6).getD k 0 = j ∧ j < 6 := by
  have hm : (cols xs 6).getD k 0 ∈ cols xs 6 := by simp [List.getD, h]
  unfold cols at hm ⊢
  rw [List.mem_map] at hm
  obtain ⟨j, hj, he⟩ := hm
  exact ⟨j, he.symm, by have := (List.mem_filter.1 hj).1; simpa using this⟩

end Go.Proofs.Ytbnokmlmajcibaa
