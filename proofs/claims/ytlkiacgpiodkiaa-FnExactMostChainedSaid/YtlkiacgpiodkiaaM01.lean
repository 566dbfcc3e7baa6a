/- Rows of cells: what a slice of cells holds. Rows of cells: an element stored; a row that is owned. Rows of joins: an element stored; a row that is owned. -/
import Derived.Test.YtlkiacgpiodkiaaRows
import Derived.Test.YtlkiacgpiodkiaaM00
import Derived.WalkKit
import Derived.Lib.Hide
import Derived.Laws.OwnMore

set_option linter.unusedSimpArgs false
set_option linter.unusedVariables false
namespace Go.Proofs.Ytlkiacgpiodkiaa
open Go.ChangeShapes Go.WideShapes Go.ChangeAt Go.RowKit

/-- A cell's three numbers. -/
structure C3 where
  s : Int
  a : Int
  b : Int
theorem C3.ext' {x y : C3} (h1 : x.s = y.s) (h2 : x.a = y.a) (h3 : x.b = y.b) : x = y := by cases x; cases y; simp_all
/-- As a value; as three places. -/
def C3.v (c : C3) : Value := .agg #[.int .i64 c.s, .int .i64 c.a, .int .i64 c.b]
def C3.zero : C3 := ⟨0, 0, 0⟩
def C3.Ok (c : C3) : Prop := OkC c.s c.a c.b

/-- Element number i of a row at block g holds c. -/
def El (w : World) (g i : Nat) (c : C3) : Prop :=
  w.cell? ⟨g, i * 3, none⟩ = some (.int .i64 c.s) ∧ w.cell? ⟨g, i * 3 + 1, none⟩ = some (.int .i64 c.a) ∧ w.cell? ⟨g, i * 3 + 2, none⟩ = some (.int .i64 c.b)
def Soft (w : World) (g i : Nat) : Prop :=
  w.frozen? ⟨g, i * 3, none⟩ = false ∧ w.frozen? ⟨g, i * 3 + 1, none⟩ = false ∧ w.frozen? ⟨g, i * 3 + 2, none⟩ = false
theorem El.lt {w : World} {g i : Nat} {c : C3} (h : El w g i c) : g < w.heap.size := lt_of_cell h.1
theorem El.below {w w' : World} {g i B : Nat} {c : C3} (h : El w g i c) (hb : Below B w w') (hg : g < B) : El w' g i c :=
  ⟨(hb.cell (p := ⟨g, i * 3, none⟩) hg).trans h.1, (hb.cell (p := ⟨g, i * 3 + 1, none⟩) hg).trans h.2.1, (hb.cell (p := ⟨g, i * 3 + 2, none⟩) hg).trans h.2.2⟩
theorem Soft.below {w w' : World} {g i B : Nat} (h : Soft w g i) (hb : Below B w w') (hg : g < B) : Soft w' g i :=
  ⟨(hb.frozen (p := ⟨g, i * 3, none⟩) hg).trans h.1, (hb.frozen (p := ⟨g, i * 3 + 1, none⟩) hg).trans h.2.1, (hb.frozen (p := ⟨g, i * 3 + 2, none⟩) hg).trans h.2.2⟩

/-- A slice of cells in a block from lo on, below hi. -/
def CellIn (lo hi : Nat) (w : World) (v : Value) (xs : List C3) : Prop :=
  xs.length ≤ 1048576 ∧ ((xs = [] ∧ ∃ a c, v = .slice a 0 c) ∨
    ∃ g cap, v = .slice (some ⟨g, 0, none⟩) xs.length cap ∧ lo ≤ g ∧ g < hi ∧ ∀ i, i < xs.length → El w g i (xs.getD i C3.zero) ∧ Soft w g i)
theorem CellIn.below {lo hi : Nat} {w w' : World} {v : Value} {xs : List C3} (h : CellIn lo hi w v xs) (hb : Below hi w w') : CellIn lo hi w' v xs := by
  obtain ⟨hl, h | ⟨g, cap, hv, hg, hlt, hc⟩⟩ := h
  · exact ⟨hl, .inl h⟩
  · exact ⟨hl, .inr ⟨g, cap, hv, hg, hlt, fun i hi => ⟨(hc i hi).1.below hb hlt, (hc i hi).2.below hb hlt⟩⟩⟩
theorem CellIn.wide {lo hi lo' hi' : Nat} {w : World} {v : Value} {xs : List C3} (h : CellIn lo hi w v xs) (h1 : lo' ≤ lo) (h2 : hi ≤ hi') : CellIn lo' hi' w v xs := by
  obtain ⟨hl, h | ⟨g, cap, hv, hg, hlt, hc⟩⟩ := h
  · exact ⟨hl, .inl h⟩
  · exact ⟨hl, .inr ⟨g, cap, hv, by omega, by omega, hc⟩⟩
/-- Its shape. -/
theorem CellIn.form {lo hi : Nat} {w : World} {v : Value} {xs : List C3} (h : CellIn lo hi w v xs) : ∃ a cap, v = .slice a xs.length cap := by
  obtain ⟨_, ⟨rfl, a, c, hv⟩ | ⟨g, cap, hv, _⟩⟩ := h
  · exact ⟨a, c, hv⟩
  · exact ⟨_, _, hv⟩
/-- Element i, at a world in which only new blocks have come. -/
theorem CellIn.at {lo hi : Nat} {w w' : World} {a : Option Addr} {n cap : Nat} {xs : List C3} (h : CellIn lo hi w (.slice a n cap) xs) (hb : Below hi w w') {i : Nat} (hi' : i < xs.length) :
    ∃ g, a = some ⟨g, 0, none⟩ ∧ lo ≤ g ∧ g < hi ∧ El w' g i (xs.getD i C3.zero) ∧ Soft w' g i := by
  obtain ⟨_, ⟨rfl, _⟩ | ⟨g, cap, hv, hg, hlt, hc⟩⟩ := h
  · simp at hi'
  · simp only [Value.slice.injEq] at hv
    exact ⟨g, hv.1, hg, hlt, (hc i hi').1.below hb hlt, (hc i hi').2.below hb hlt⟩

/-- A block is valid. -/
def BlkOk (n : Int) (xs : List C3) : Prop := (1 ≤ n ∧ n ≤ 4) ∧ (xs.length : Int) = n * n ∧ ∀ c ∈ xs, c.Ok
/-- .. as a Boolean. -/
noncomputable def blkB (n : Int) (xs : List C3) : Bool := @decide (BlkOk n xs) (Classical.propDecidable _)
theorem blk_yes {n : Int} {xs : List C3} (h : BlkOk n xs) : true = blkB n xs := by unfold blkB; simp [h]
theorem blk_no {n : Int} {xs : List C3} (h : ¬ BlkOk n xs) : false = blkB n xs := by unfold blkB; simp [h]
theorem blk_no_size {n : Int} {xs : List C3} (h : ¬ (1 ≤ n ∧ n ≤ 4)) : false = blkB n xs := blk_no (fun k => h k.1)
theorem blk_no_len {n : Int} {xs : List C3} (h : ¬ (xs.length : Int) = n * n) : false = blkB n xs := blk_no (fun k => h k.2.1)
theorem blk_no_cell {n : Int} {xs : List C3} {i : Nat} (hi : i < xs.length) (h : ¬ (xs.getD i C3.zero).Ok) : false = blkB n xs := blk_no (fun k => h (k.2.2 _ (by simp [List.getD, hi])))
theorem blk_all {n : Int} {xs : List C3} (h1 : 1 ≤ n ∧ n ≤ 4) (h2 : (xs.length : Int) = n * n) (h : ∀ i, i < xs.length → (xs.getD i C3.zero).Ok) : true = blkB n xs :=
  blk_yes ⟨h1, h2, fun c hc => by obtain ⟨i, hi, rfl⟩ := List.getElem_of_mem hc; have := h i hi; simpa [List.getD, hi] using this⟩
theorem sq_wrap {n : Int} (h0 : 1 ≤ n) (h1 : n ≤ 4) : IntKind.i64.wrap (n * n) = n * n ∧ 1 ≤ n * n ∧ n * n ≤ 16 := by
  have : n = 1 ∨ n = 2 ∨ n = 3 ∨ n = 4 := by omega
  rcases this with rfl | rfl | rfl | rfl <;> decide

end Go.Proofs.Ytlkiacgpiodkiaa

set_option linter.unusedSimpArgs false
set_option linter.unusedVariables false
namespace Go.Proofs.Ytlkiacgpiodkiaa
open Go.ChangeShapes Go.WideShapes Go.ChangeAt Go.RowKit

/-- Element j of the row at block g overwritten, place by place. -/
abbrev setEl (w : World) (g j : Nat) (s a b : Int) : World := ((w.setCell ⟨g, j * 3, none⟩ (.int .i64 s)).setCell ⟨g, j * 3 + 1, none⟩ (.int .i64 a)).setCell ⟨g, j * 3 + 2, none⟩ (.int .i64 b)

theorem ad_ne {g i j : Nat} (h : i ≠ j) : (⟨g, i, none⟩ : Addr) ≠ ⟨g, j, none⟩ := by simp
theorem El.set_same {w : World} {g j : Nat} {c : C3} (h : El w g j c) (s a b : Int) : El (setEl w g j s a b) g j ⟨s, a, b⟩ := by
  obtain ⟨h0, h1, h2⟩ := h
  refine ⟨?_, ?_, ?_⟩
  · rw [World.cell?_setCell_other _ _ _ _ (ad_ne (by omega)), World.cell?_setCell_other _ _ _ _ (ad_ne (by omega)), World.cell?_setCell_same _ _ _ h0]
  · rw [World.cell?_setCell_other _ _ _ _ (ad_ne (by omega))]
    exact World.cell?_setCell_same _ _ _ (by rw [World.cell?_setCell_other _ _ _ _ (ad_ne (by omega))]; exact h1)
  · exact World.cell?_setCell_same _ _ _ (by rw [World.cell?_setCell_other _ _ _ _ (ad_ne (by omega)), World.cell?_setCell_other _ _ _ _ (ad_ne (by omega))]; exact h2)
theorem El.set_other {w : World} {g i j : Nat} {c : C3} (h : El w g i c) (hij : i ≠ j) (s a b : Int) : El (setEl w g j s a b) g i c := by
  obtain ⟨h0, h1, h2⟩ := h
  refine ⟨?_, ?_, ?_⟩
  all_goals
    rw [World.cell?_setCell_other _ _ _ _ (ad_ne (by omega)), World.cell?_setCell_other _ _ _ _ (ad_ne (by omega)), World.cell?_setCell_other _ _ _ _ (ad_ne (by omega))]
    assumption
theorem Soft.set {w : World} {g i j : Nat} (h : Soft w g i) (s a b : Int) : Soft (setEl w g j s a b) g i := by
  obtain ⟨h0, h1, h2⟩ := h
  refine ⟨?_, ?_, ?_⟩
  all_goals
    rw [World.frozen?_setCell, World.frozen?_setCell, World.frozen?_setCell]
    assumption
theorem CellIn.set {lo hi g n cap : Nat} {w : World} {xs : List C3} (h : CellIn lo hi w (.slice (some ⟨g, 0, none⟩) n cap) xs) (j : Nat) (hj : j < xs.length) (s a b : Int) :
    CellIn lo hi (setEl w g j s a b) (.slice (some ⟨g, 0, none⟩) n cap) (xs.set j ⟨s, a, b⟩) := by
  obtain ⟨hl, ⟨h, _⟩ | ⟨g', cap', hv, hg, hlt, hc⟩⟩ := h
  · subst h; simp at hj
  · simp only [Value.slice.injEq, Option.some.injEq, Addr.mk.injEq, and_true] at hv
    obtain ⟨rfl, rfl, rfl⟩ := hv
    refine ⟨by simpa using hl, .inr ⟨g, cap, by simp, hg, hlt, fun i hi => ?_⟩⟩
    rw [List.length_set] at hi
    obtain ⟨h1, h2⟩ := hc i hi
    refine ⟨?_, h2.set s a b⟩
    by_cases e : i = j
    · subst e
      have := h1.set_same s a b
      simpa [List.getD, hi] using this
    · have := h1.set_other e s a b
      simpa [List.getD, List.getElem?_set, e, Ne.symm e] using this

theorem El.set_far {w : World} {g i : Nat} {c : C3} (h : El w g i c) {p : Addr} (hp : p.block ≠ g) (x : Value) : El (w.setCell p x) g i c := by
  obtain ⟨h0, h1, h2⟩ := h
  have hn : ∀ o : Nat, p ≠ ⟨g, o, none⟩ := fun o e => hp (by rw [e])
  exact ⟨(World.cell?_setCell_other _ _ _ _ (hn _)).trans h0, (World.cell?_setCell_other _ _ _ _ (hn _)).trans h1, (World.cell?_setCell_other _ _ _ _ (hn _)).trans h2⟩
theorem Soft.set_far {w : World} {g i : Nat} (h : Soft w g i) (p : Addr) (x : Value) : Soft (w.setCell p x) g i := by
  obtain ⟨h0, h1, h2⟩ := h
  exact ⟨(World.frozen?_setCell _ _ _ _).trans h0, (World.frozen?_setCell _ _ _ _).trans h1, (World.frozen?_setCell _ _ _ _).trans h2⟩
theorem CellIn.set_far {lo hi : Nat} {w : World} {v : Value} {xs : List C3} (h : CellIn lo hi w v xs) {p : Addr} (hp : p.block < lo) (x : Value) : CellIn lo hi (w.setCell p x) v xs := by
  obtain ⟨hl, h | ⟨g, cap, hv, hg, hlt, hc⟩⟩ := h
  · exact ⟨hl, .inl h⟩
  · exact ⟨hl, .inr ⟨g, cap, hv, hg, hlt, fun i hi => ⟨(hc i hi).1.set_far (by omega) x, (hc i hi).2.set_far p x⟩⟩⟩

/-- The places of a list of cells. -/
def places (xs : List C3) : List Value := xs.flatMap fun c => [.int .i64 c.s, .int .i64 c.a, .int .i64 c.b]
theorem places_length (xs : List C3) : (places xs).length = xs.length * 3 := by
  induction xs with
  | nil => rfl
  | cons c r ih => simp [places] at ih ⊢; omega
theorem places_at : ∀ (xs : List C3) (i : Nat), i < xs.length → (places xs)[i * 3]? = some (.int .i64 (xs.getD i C3.zero).s) ∧ (places xs)[i * 3 + 1]? = some (.int .i64 (xs.getD i C3.zero).a) ∧ (places xs)[i * 3 + 2]? = some (.int .i64 (xs.getD i C3.zero).b)
  | [], i, h => by simp at h
  | c :: r, 0, _ => ⟨rfl, rfl, rfl⟩
  | c :: r, i + 1, h => by
    have ih := places_at r i (by simpa using h)
    have e : places (c :: r) = .int .i64 c.s :: .int .i64 c.a :: .int .i64 c.b :: places r := rfl
    rw [e, show (i + 1) * 3 = i * 3 + 1 + 1 + 1 by omega]
    exact ih
theorem places_append (xs ys : List C3) : places (xs ++ ys) = places xs ++ places ys := by simp [places]

theorem lt_of_heap {w : World} {g : Nat} {o : Obj} (h : w.heap[g]? = some o) : g < w.heap.size := (Array.getElem?_eq_some_iff.1 h).1
theorem CellIn.of_owns {w : World} {base e : Nat} {v : Value} {xs : List C3} (h : w.ownsRow base e 3 v xs.length (places xs)) (hl : xs.length ≤ 1048576) : CellIn base w.heap.size w v xs := by
  refine ⟨hl, ?_⟩
  have h0 := h
  obtain ⟨_, ⟨h1, h2⟩ | ⟨g, cap, cur, hv, hg, hh, _⟩⟩ := h
  · exact .inl ⟨List.length_eq_zero_iff.1 h2, none, 0, h1⟩
  · subst hv
    refine .inr ⟨g, cap, rfl, hg, lt_of_heap hh, fun i hi => ⟨?_, h0.frozenAt _, h0.frozenAt _, h0.frozenAt _⟩⟩
    obtain ⟨p0, p1, p2⟩ := places_at xs i hi
    exact ⟨(h0.cellAt _ (by omega)).trans p0, (h0.cellAt _ (by omega)).trans p1, (h0.cellAt _ (by omega)).trans p2⟩
theorem places_zero (n : Nat) : (madeCells (Value.agg #[.int .i64 0, .int .i64 0, .int .i64 0]).cells (n * 3)).toList = places (List.replicate n C3.zero) := by
  apply List.ext_getElem?
  intro i
  by_cases h : i < n * 3
  · obtain ⟨k, hk⟩ : ∃ k, i = k * 3 ∨ i = k * 3 + 1 ∨ i = k * 3 + 2 := ⟨i / 3, by omega⟩
    have hkn : k < n := by omega
    obtain ⟨p0, p1, p2⟩ := places_at (List.replicate n C3.zero) k (by simpa using hkn)
    have ez : (List.replicate n C3.zero).getD k C3.zero = C3.zero := by simp [List.getD, hkn]
    rw [ez] at p0 p1 p2
    rcases hk with rfl | rfl | rfl
    · rw [p0]; simp [madeCells, Value.cells, C3.zero, h]
    · rw [p1]; simp [madeCells, Value.cells, C3.zero, h]
    · rw [p2]; simp [madeCells, Value.cells, C3.zero, h]
  · rw [List.getElem?_eq_none (by simp [madeCells]; omega), List.getElem?_eq_none (by rw [places_length]; simp; omega)]

end Go.Proofs.Ytlkiacgpiodkiaa

set_option linter.unusedSimpArgs false
set_option linter.unusedVariables false
namespace Go.Proofs.Ytlkiacgpiodkiaa
open Go.ChangeShapes Go.WideShapes Go.ChangeAt Go.RowKit

abbrev setJn (w : World) (g j : Nat) (v0 : Bool) (v1 : Int) (v2 : Int) : World := (((w.setCell ⟨g, j * 3, none⟩ (.bool v0)).setCell ⟨g, j * 3 + 1, none⟩ (.int .i64 v1)).setCell ⟨g, j * 3 + 2, none⟩ (.int .i64 v2))
theorem ElJn.set_same {w : World} {g j : Nat} {c : J3} (h : ElJn w g j c) (v0 : Bool) (v1 : Int) (v2 : Int) : ElJn (setJn w g j v0 v1 v2) g j ⟨v0, v1, v2⟩ := by
  obtain ⟨h0, h1, h2⟩ := h
  refine ⟨?_, ?_, ?_⟩
  · rw [World.cell?_setCell_other _ _ _ _ (ad_ne (by omega)), World.cell?_setCell_other _ _ _ _ (ad_ne (by omega))]
    exact World.cell?_setCell_same _ _ _ (by exact h0)
  · rw [World.cell?_setCell_other _ _ _ _ (ad_ne (by omega))]
    exact World.cell?_setCell_same _ _ _ (by rw [World.cell?_setCell_other _ _ _ _ (ad_ne (by omega))]; exact h1)
  · exact World.cell?_setCell_same _ _ _ (by rw [World.cell?_setCell_other _ _ _ _ (ad_ne (by omega)), World.cell?_setCell_other _ _ _ _ (ad_ne (by omega))]; exact h2)
theorem ElJn.set_other {w : World} {g i j : Nat} {c : J3} (h : ElJn w g i c) (hij : i ≠ j) (v0 : Bool) (v1 : Int) (v2 : Int) : ElJn (setJn w g j v0 v1 v2) g i c := by
  obtain ⟨h0, h1, h2⟩ := h
  refine ⟨?_, ?_, ?_⟩
  all_goals
    rw [World.cell?_setCell_other _ _ _ _ (ad_ne (by omega)), World.cell?_setCell_other _ _ _ _ (ad_ne (by omega)), World.cell?_setCell_other _ _ _ _ (ad_ne (by omega))]
    assumption
theorem SoftJn.set {w : World} {g i j : Nat} (h : SoftJn w g i) (v0 : Bool) (v1 : Int) (v2 : Int) : SoftJn (setJn w g j v0 v1 v2) g i := by
  obtain ⟨h0, h1, h2⟩ := h
  refine ⟨?_, ?_, ?_⟩
  all_goals
    rw [World.frozen?_setCell, World.frozen?_setCell, World.frozen?_setCell]
    assumption
theorem JnIn.set {lo hi g n cap : Nat} {w : World} {xs : List J3} (h : JnIn lo hi w (.slice (some ⟨g, 0, none⟩) n cap) xs) (j : Nat) (hj : j < xs.length) (v0 : Bool) (v1 : Int) (v2 : Int) :
    JnIn lo hi (setJn w g j v0 v1 v2) (.slice (some ⟨g, 0, none⟩) n cap) (xs.set j ⟨v0, v1, v2⟩) := by
  obtain ⟨hl, ⟨h, _⟩ | ⟨g', cap', hv, hcp, hg, hlt, hc⟩⟩ := h
  · subst h; simp at hj
  · simp only [Value.slice.injEq, Option.some.injEq, Addr.mk.injEq, and_true] at hv
    obtain ⟨rfl, rfl, rfl⟩ := hv
    refine ⟨by simpa using hl, .inr ⟨g, cap, by simp, by simpa using hcp, hg, hlt, fun i hi => ?_⟩⟩
    rw [List.length_set] at hi
    obtain ⟨h1, h2⟩ := hc i hi
    refine ⟨?_, h2.set v0 v1 v2⟩
    by_cases e : i = j
    · subst e
      have := h1.set_same v0 v1 v2
      simpa [List.getD, hi] using this
    · have := h1.set_other e v0 v1 v2
      simpa [List.getD, List.getElem?_set, e, Ne.symm e] using this

theorem ElJn.set_far {w : World} {g i : Nat} {c : J3} (h : ElJn w g i c) {p : Addr} (hp : p.block ≠ g) (x : Value) : ElJn (w.setCell p x) g i c := by
  obtain ⟨h0, h1, h2⟩ := h
  have hn : ∀ o : Nat, p ≠ ⟨g, o, none⟩ := fun o e => hp (by rw [e])
  exact ⟨(World.cell?_setCell_other _ _ _ _ (hn _)).trans h0, (World.cell?_setCell_other _ _ _ _ (hn _)).trans h1, (World.cell?_setCell_other _ _ _ _ (hn _)).trans h2⟩
theorem SoftJn.set_far {w : World} {g i : Nat} (h : SoftJn w g i) (p : Addr) (x : Value) : SoftJn (w.setCell p x) g i := by
  obtain ⟨h0, h1, h2⟩ := h
  exact ⟨(World.frozen?_setCell _ _ _ _).trans h0, (World.frozen?_setCell _ _ _ _).trans h1, (World.frozen?_setCell _ _ _ _).trans h2⟩
theorem JnIn.set_far {lo hi : Nat} {w : World} {v : Value} {xs : List J3} (h : JnIn lo hi w v xs) {p : Addr} (hp : p.block < lo) (x : Value) : JnIn lo hi (w.setCell p x) v xs := by
  obtain ⟨hl, h | ⟨g, cap, hv, hcp, hg, hlt, hc⟩⟩ := h
  · exact ⟨hl, .inl h⟩
  · exact ⟨hl, .inr ⟨g, cap, hv, hcp, hg, hlt, fun i hi => ⟨(hc i hi).1.set_far (by omega) x, (hc i hi).2.set_far p x⟩⟩⟩

/-- Their places. -/
def placesJn (xs : List J3) : List Value := xs.flatMap fun c => [.bool c.up, .int .i64 c.a, .int .i64 c.b]
theorem placesJn_length (xs : List J3) : (placesJn xs).length = xs.length * 3 := by
  induction xs with
  | nil => rfl
  | cons c r ih => simp [placesJn] at ih ⊢; omega
theorem placesJn_at : ∀ (xs : List J3) (i : Nat), i < xs.length → (placesJn xs)[i * 3]? = some (.bool (xs.getD i J3.zero).up) ∧ (placesJn xs)[i * 3 + 1]? = some (.int .i64 (xs.getD i J3.zero).a) ∧ (placesJn xs)[i * 3 + 2]? = some (.int .i64 (xs.getD i J3.zero).b)
  | [], i, h => by simp at h
  | c :: r, 0, _ => ⟨rfl, rfl, rfl⟩
  | c :: r, i + 1, h => by
    have ih := placesJn_at r i (by simpa using h)
    have e : placesJn (c :: r) = .bool c.up :: .int .i64 c.a :: .int .i64 c.b :: placesJn r := rfl
    rw [e, show (i + 1) * 3 = i * 3 + 1 + 1 + 1 by omega]
    exact ih
theorem placesJn_append (xs ys : List J3) : placesJn (xs ++ ys) = placesJn xs ++ placesJn ys := by simp [placesJn]

theorem JnIn.of_owns {w : World} {base e : Nat} {v : Value} {xs : List J3} (h : w.ownsRow base e 3 v xs.length (placesJn xs)) (hl : xs.length ≤ 1048576) : JnIn base w.heap.size w v xs := by
  refine ⟨hl, ?_⟩
  have h0 := h
  obtain ⟨_, ⟨h1, h2⟩ | ⟨g, cap, cur, hv, hg, hh, hcp, _⟩⟩ := h
  · exact .inl ⟨List.length_eq_zero_iff.1 h2, none, 0, h1⟩
  · subst hv
    refine .inr ⟨g, cap, rfl, hcp, hg, lt_of_heap hh, fun i hi => ⟨?_, h0.frozenAt _, h0.frozenAt _, h0.frozenAt _⟩⟩
    obtain ⟨p0, p1, p2⟩ := placesJn_at xs i hi
    exact ⟨(h0.cellAt _ (by omega)).trans p0, (h0.cellAt _ (by omega)).trans p1, (h0.cellAt _ (by omega)).trans p2⟩
theorem placesJn_zero (n : Nat) : (madeCells (Value.agg #[.bool false, .int .i64 0, .int .i64 0]).cells (n * 3)).toList = placesJn (List.replicate n J3.zero) := by
  apply List.ext_getElem?
  intro i
  by_cases h : i < n * 3
  · obtain ⟨k, hk⟩ : ∃ k, i = k * 3 ∨ i = k * 3 + 1 ∨ i = k * 3 + 2 := ⟨i / 3, by omega⟩
    have hkn : k < n := by omega
    obtain ⟨p0, p1, p2⟩ := placesJn_at (List.replicate n J3.zero) k (by simpa using hkn)
    have ez : (List.replicate n J3.zero).getD k J3.zero = J3.zero := by simp [List.getD, hkn]
    rw [ez] at p0 p1 p2
    rcases hk with rfl | rfl | rfl
    · rw [p0]; simp [madeCells, Value.cells, J3.zero, h]
    · rw [p1]; simp [madeCells, Value.cells, J3.zero, h]
    · rw [p2]; simp [madeCells, Value.cells, J3.zero, h]
  · rw [List.getElem?_eq_none (by simp [madeCells]; omega), List.getElem?_eq_none (by rw [placesJn_length]; simp; omega)]

end Go.Proofs.Ytlkiacgpiodkiaa
