/- Rows of joins: what a slice of them holds. Rows of units: what a slice of them holds. Rows of joins: an element stored; a row that is owned. Rows of joins: taken from the law's own type. Rows of joins: compared by their fields. Rows of joins: marked, and held against the marks. Joins: units, joins that fit, depths: the numbers. -/
import Derived.Test.YtboahceibeeifaaRows
import Derived.Test.YtboahceibeeifaaBase
import Derived.WalkKit
import Derived.Lib.Hide
import Derived.Test.YtboahceibeeifaaBlkR
import Derived.Laws.OwnMore
import Derived.Test.YtboahceibeeifaaBlkT
import Derived.WalkSmall
import Derived.BigQuiet
import Derived.Outline
import Derived.IntWalk
import Derived.OwnWalk
import Derived.Test.YtboahceibeeifaaBlkZ
import Derived.Deep.RegionHeld3
import Derived.Test.YtboahceibeeifaaBlkM
import Derived.Test.YtboahceibeeifaaCutN

set_option linter.unusedSimpArgs false
set_option linter.unusedVariables false
namespace Go.Proofs.Ytboahceibeeifaa
open Go.ChangeShapes Go.WideShapes Go.ChangeAt Go.RowKit

structure J3 where
  up : Bool
  a : Int
  b : Int
theorem J3.ext' {x y : J3} (h0 : x.up = y.up) (h1 : x.a = y.a) (h2 : x.b = y.b) : x = y := by cases x; cases y; simp_all
/-- As a value. -/
def J3.v (c : J3) : Value := .agg #[.bool c.up, .int .i64 c.a, .int .i64 c.b]
def J3.zero : J3 := ⟨false, 0, 0⟩
/-- Its numbers are int64s. -/
def J3.Wf (c : J3) : Prop := (Lit.int .i64 c.a).wf = true ∧ (Lit.int .i64 c.b).wf = true
instance : Inhabited J3 := ⟨J3.zero⟩

/-- Element number i of a row at block g holds c. -/
def ElJn (w : World) (g i : Nat) (c : J3) : Prop :=
  w.cell? ⟨g, i * 3, none⟩ = some (.bool c.up) ∧ w.cell? ⟨g, i * 3 + 1, none⟩ = some (.int .i64 c.a) ∧ w.cell? ⟨g, i * 3 + 2, none⟩ = some (.int .i64 c.b)
def SoftJn (w : World) (g i : Nat) : Prop :=
  w.frozen? ⟨g, i * 3, none⟩ = false ∧ w.frozen? ⟨g, i * 3 + 1, none⟩ = false ∧ w.frozen? ⟨g, i * 3 + 2, none⟩ = false
theorem ElJn.lt {w : World} {g i : Nat} {c : J3} (h : ElJn w g i c) : g < w.heap.size := lt_of_cell h.1
theorem ElJn.below {w w' : World} {g i B : Nat} {c : J3} (h : ElJn w g i c) (hb : Below B w w') (hg : g < B) : ElJn w' g i c :=
  ⟨(hb.cell (p := ⟨g, i * 3, none⟩) hg).trans h.1, (hb.cell (p := ⟨g, i * 3 + 1, none⟩) hg).trans h.2.1, (hb.cell (p := ⟨g, i * 3 + 2, none⟩) hg).trans h.2.2⟩
theorem SoftJn.below {w w' : World} {g i B : Nat} (h : SoftJn w g i) (hb : Below B w w') (hg : g < B) : SoftJn w' g i :=
  ⟨(hb.frozen (p := ⟨g, i * 3, none⟩) hg).trans h.1, (hb.frozen (p := ⟨g, i * 3 + 1, none⟩) hg).trans h.2.1, (hb.frozen (p := ⟨g, i * 3 + 2, none⟩) hg).trans h.2.2⟩

/-- A slice of them in a block from lo on, below hi. -/
def JnIn (lo hi : Nat) (w : World) (v : Value) (xs : List J3) : Prop :=
  xs.length ≤ 1048576 ∧ ((xs = [] ∧ ∃ a c, v = .slice a 0 c) ∨
    ∃ g cap, v = .slice (some ⟨g, 0, none⟩) xs.length cap ∧ xs.length ≤ cap ∧ lo ≤ g ∧ g < hi ∧ ∀ i, i < xs.length → ElJn w g i (xs.getD i J3.zero) ∧ SoftJn w g i)
theorem JnIn.below {lo hi : Nat} {w w' : World} {v : Value} {xs : List J3} (h : JnIn lo hi w v xs) (hb : Below hi w w') : JnIn lo hi w' v xs := by
  obtain ⟨hl, h | ⟨g, cap, hv, hcp, hg, hlt, hc⟩⟩ := h
  · exact ⟨hl, .inl h⟩
  · exact ⟨hl, .inr ⟨g, cap, hv, hcp, hg, hlt, fun i hi => ⟨(hc i hi).1.below hb hlt, (hc i hi).2.below hb hlt⟩⟩⟩
theorem JnIn.wide {lo hi lo' hi' : Nat} {w : World} {v : Value} {xs : List J3} (h : JnIn lo hi w v xs) (h1 : lo' ≤ lo) (h2 : hi ≤ hi') : JnIn lo' hi' w v xs := by
  obtain ⟨hl, h | ⟨g, cap, hv, hcp, hg, hlt, hc⟩⟩ := h
  · exact ⟨hl, .inl h⟩
  · exact ⟨hl, .inr ⟨g, cap, hv, hcp, by omega, by omega, hc⟩⟩
/-- Its shape. -/
theorem JnIn.form {lo hi : Nat} {w : World} {v : Value} {xs : List J3} (h : JnIn lo hi w v xs) : ∃ a cap, v = .slice a xs.length cap := by
  obtain ⟨_, ⟨rfl, a, c, hv⟩ | ⟨g, cap, hv, _⟩⟩ := h
  · exact ⟨a, c, hv⟩
  · exact ⟨_, _, hv⟩
/-- Element i, at a world in which only new blocks have come. -/
theorem JnIn.at {lo hi : Nat} {w w' : World} {a : Option Addr} {n cap : Nat} {xs : List J3} (h : JnIn lo hi w (.slice a n cap) xs) (hb : Below hi w w') {i : Nat} (hi' : i < xs.length) :
    ∃ g, a = some ⟨g, 0, none⟩ ∧ lo ≤ g ∧ g < hi ∧ ElJn w' g i (xs.getD i J3.zero) ∧ SoftJn w' g i := by
  obtain ⟨_, ⟨rfl, _⟩ | ⟨g, cap, hv, hcp, hg, hlt, hc⟩⟩ := h
  · simp at hi'
  · simp only [Value.slice.injEq] at hv
    exact ⟨g, hv.1, hg, hlt, (hc i hi').1.below hb hlt, (hc i hi').2.below hb hlt⟩
/-- It may be cut as far as it is long. -/
theorem JnIn.cap {lo hi : Nat} {w : World} {a : Option Addr} {n cap : Nat} {xs : List J3} (h : JnIn lo hi w (.slice a n cap) xs) : n ≤ cap := by
  obtain ⟨_, ⟨rfl, a', c', hv⟩ | ⟨g, cap', hv, hcp, _⟩⟩ := h
  · simp only [Value.slice.injEq] at hv; omega
  · simp only [Value.slice.injEq] at hv; omega
/-- Its first k elements. -/
theorem JnIn.take {lo hi g : Nat} {w : World} {n cap : Nat} {xs : List J3} (h : JnIn lo hi w (.slice (some ⟨g, 0, none⟩) n cap) xs) (k : Nat) (hk : k ≤ xs.length) : JnIn lo hi w (.slice (some ⟨g, 0, none⟩) k cap) (xs.take k) := by
  obtain ⟨hl, ⟨h, _⟩ | ⟨g', cap', hv, hcp, hg, hlt, hc⟩⟩ := h
  · subst h
    simp at hk
    subst hk
    exact ⟨by simp, .inl ⟨by simp, _, _, rfl⟩⟩
  · simp only [Value.slice.injEq, Option.some.injEq, Addr.mk.injEq, and_true] at hv
    obtain ⟨rfl, _, rfl⟩ := hv
    have e : (xs.take k).length = k := by simp; omega
    refine ⟨by omega, .inr ⟨g, cap, by rw [e], by omega, hg, hlt, fun i hi => ?_⟩⟩
    have := hc i (by omega)
    rwa [show (xs.take k).getD i J3.zero = xs.getD i J3.zero by simp [List.getD, show i < k by omega]]

end Go.Proofs.Ytboahceibeeifaa

set_option linter.unusedSimpArgs false
set_option linter.unusedVariables false
namespace Go.Proofs.Ytboahceibeeifaa
open Go.ChangeShapes Go.WideShapes Go.ChangeAt Go.RowKit

structure U6 where
  x : Int
  y : Int
  w : Int
  h : Int
  c : Int
  j : Bool
theorem U6.ext' {x y : U6} (h0 : x.x = y.x) (h1 : x.y = y.y) (h2 : x.w = y.w) (h3 : x.h = y.h) (h4 : x.c = y.c) (h5 : x.j = y.j) : x = y := by cases x; cases y; simp_all
/-- As a value. -/
def U6.v (c : U6) : Value := .agg #[.int .i64 c.x, .int .i64 c.y, .int .i64 c.w, .int .i64 c.h, .int .i64 c.c, .bool c.j]
def U6.zero : U6 := ⟨0, 0, 0, 0, 0, false⟩
/-- Its numbers are int64s. -/
def U6.Wf (c : U6) : Prop := (Lit.int .i64 c.x).wf = true ∧ (Lit.int .i64 c.y).wf = true ∧ (Lit.int .i64 c.w).wf = true ∧ (Lit.int .i64 c.h).wf = true ∧ (Lit.int .i64 c.c).wf = true
instance : Inhabited U6 := ⟨U6.zero⟩

/-- Element number i of a row at block g holds c. -/
def ElUn (w : World) (g i : Nat) (c : U6) : Prop :=
  w.cell? ⟨g, i * 6, none⟩ = some (.int .i64 c.x) ∧ w.cell? ⟨g, i * 6 + 1, none⟩ = some (.int .i64 c.y) ∧ w.cell? ⟨g, i * 6 + 2, none⟩ = some (.int .i64 c.w) ∧ w.cell? ⟨g, i * 6 + 3, none⟩ = some (.int .i64 c.h) ∧ w.cell? ⟨g, i * 6 + 4, none⟩ = some (.int .i64 c.c) ∧ w.cell? ⟨g, i * 6 + 5, none⟩ = some (.bool c.j)
def SoftUn (w : World) (g i : Nat) : Prop :=
  w.frozen? ⟨g, i * 6, none⟩ = false ∧ w.frozen? ⟨g, i * 6 + 1, none⟩ = false ∧ w.frozen? ⟨g, i * 6 + 2, none⟩ = false ∧ w.frozen? ⟨g, i * 6 + 3, none⟩ = false ∧ w.frozen? ⟨g, i * 6 + 4, none⟩ = false ∧ w.frozen? ⟨g, i * 6 + 5, none⟩ = false
theorem ElUn.lt {w : World} {g i : Nat} {c : U6} (h : ElUn w g i c) : g < w.heap.size := lt_of_cell h.1
theorem ElUn.below {w w' : World} {g i B : Nat} {c : U6} (h : ElUn w g i c) (hb : Below B w w') (hg : g < B) : ElUn w' g i c :=
  ⟨(hb.cell (p := ⟨g, i * 6, none⟩) hg).trans h.1, (hb.cell (p := ⟨g, i * 6 + 1, none⟩) hg).trans h.2.1, (hb.cell (p := ⟨g, i * 6 + 2, none⟩) hg).trans h.2.2.1, (hb.cell (p := ⟨g, i * 6 + 3, none⟩) hg).trans h.2.2.2.1, (hb.cell (p := ⟨g, i * 6 + 4, none⟩) hg).trans h.2.2.2.2.1, (hb.cell (p := ⟨g, i * 6 + 5, none⟩) hg).trans h.2.2.2.2.2⟩
theorem SoftUn.below {w w' : World} {g i B : Nat} (h : SoftUn w g i) (hb : Below B w w') (hg : g < B) : SoftUn w' g i :=
  ⟨(hb.frozen (p := ⟨g, i * 6, none⟩) hg).trans h.1, (hb.frozen (p := ⟨g, i * 6 + 1, none⟩) hg).trans h.2.1, (hb.frozen (p := ⟨g, i * 6 + 2, none⟩) hg).trans h.2.2.1, (hb.frozen (p := ⟨g, i * 6 + 3, none⟩) hg).trans h.2.2.2.1, (hb.frozen (p := ⟨g, i * 6 + 4, none⟩) hg).trans h.2.2.2.2.1, (hb.frozen (p := ⟨g, i * 6 + 5, none⟩) hg).trans h.2.2.2.2.2⟩

/-- A slice of them in a block from lo on, below hi. -/
def UnIn (lo hi : Nat) (w : World) (v : Value) (xs : List U6) : Prop :=
  xs.length ≤ 1048576 ∧ ((xs = [] ∧ ∃ a c, v = .slice a 0 c) ∨
    ∃ g cap, v = .slice (some ⟨g, 0, none⟩) xs.length cap ∧ xs.length ≤ cap ∧ lo ≤ g ∧ g < hi ∧ ∀ i, i < xs.length → ElUn w g i (xs.getD i U6.zero) ∧ SoftUn w g i)
theorem UnIn.below {lo hi : Nat} {w w' : World} {v : Value} {xs : List U6} (h : UnIn lo hi w v xs) (hb : Below hi w w') : UnIn lo hi w' v xs := by
  obtain ⟨hl, h | ⟨g, cap, hv, hcp, hg, hlt, hc⟩⟩ := h
  · exact ⟨hl, .inl h⟩
  · exact ⟨hl, .inr ⟨g, cap, hv, hcp, hg, hlt, fun i hi => ⟨(hc i hi).1.below hb hlt, (hc i hi).2.below hb hlt⟩⟩⟩
theorem UnIn.wide {lo hi lo' hi' : Nat} {w : World} {v : Value} {xs : List U6} (h : UnIn lo hi w v xs) (h1 : lo' ≤ lo) (h2 : hi ≤ hi') : UnIn lo' hi' w v xs := by
  obtain ⟨hl, h | ⟨g, cap, hv, hcp, hg, hlt, hc⟩⟩ := h
  · exact ⟨hl, .inl h⟩
  · exact ⟨hl, .inr ⟨g, cap, hv, hcp, by omega, by omega, hc⟩⟩
/-- Its shape. -/
theorem UnIn.form {lo hi : Nat} {w : World} {v : Value} {xs : List U6} (h : UnIn lo hi w v xs) : ∃ a cap, v = .slice a xs.length cap := by
  obtain ⟨_, ⟨rfl, a, c, hv⟩ | ⟨g, cap, hv, _⟩⟩ := h
  · exact ⟨a, c, hv⟩
  · exact ⟨_, _, hv⟩
/-- Element i, at a world in which only new blocks have come. -/
theorem UnIn.at {lo hi : Nat} {w w' : World} {a : Option Addr} {n cap : Nat} {xs : List U6} (h : UnIn lo hi w (.slice a n cap) xs) (hb : Below hi w w') {i : Nat} (hi' : i < xs.length) :
    ∃ g, a = some ⟨g, 0, none⟩ ∧ lo ≤ g ∧ g < hi ∧ ElUn w' g i (xs.getD i U6.zero) ∧ SoftUn w' g i := by
  obtain ⟨_, ⟨rfl, _⟩ | ⟨g, cap, hv, hcp, hg, hlt, hc⟩⟩ := h
  · simp at hi'
  · simp only [Value.slice.injEq] at hv
    exact ⟨g, hv.1, hg, hlt, (hc i hi').1.below hb hlt, (hc i hi').2.below hb hlt⟩
/-- It may be cut as far as it is long. -/
theorem UnIn.cap {lo hi : Nat} {w : World} {a : Option Addr} {n cap : Nat} {xs : List U6} (h : UnIn lo hi w (.slice a n cap) xs) : n ≤ cap := by
  obtain ⟨_, ⟨rfl, a', c', hv⟩ | ⟨g, cap', hv, hcp, _⟩⟩ := h
  · simp only [Value.slice.injEq] at hv; omega
  · simp only [Value.slice.injEq] at hv; omega
/-- Its first k elements. -/
theorem UnIn.take {lo hi g : Nat} {w : World} {n cap : Nat} {xs : List U6} (h : UnIn lo hi w (.slice (some ⟨g, 0, none⟩) n cap) xs) (k : Nat) (hk : k ≤ xs.length) : UnIn lo hi w (.slice (some ⟨g, 0, none⟩) k cap) (xs.take k) := by
  obtain ⟨hl, ⟨h, _⟩ | ⟨g', cap', hv, hcp, hg, hlt, hc⟩⟩ := h
  · subst h
    simp at hk
    subst hk
    exact ⟨by simp, .inl ⟨by simp, _, _, rfl⟩⟩
  · simp only [Value.slice.injEq, Option.some.injEq, Addr.mk.injEq, and_true] at hv
    obtain ⟨rfl, _, rfl⟩ := hv
    have e : (xs.take k).length = k := by simp; omega
    refine ⟨by omega, .inr ⟨g, cap, by rw [e], by omega, hg, hlt, fun i hi => ?_⟩⟩
    have := hc i (by omega)
    rwa [show (xs.take k).getD i U6.zero = xs.getD i U6.zero by simp [List.getD, show i < k by omega]]

end Go.Proofs.Ytboahceibeeifaa

set_option linter.unusedSimpArgs false
set_option linter.unusedVariables false
namespace Go.Proofs.Ytboahceibeeifaa
open Go.ChangeShapes Go.WideShapes Go.ChangeAt Go.RowKit

abbrev setJn (w : World) (g j : Nat) (v0 : Bool) (v1 : Int) (v2 : Int) : World := (((w.setCell ⟨g, j * 3, none⟩ (.bool v0)).setCell ⟨g, j * 3 + 1, none⟩ (.int .i64 v1)).setCell ⟨g, j * 3 + 2, none⟩ (.int .i64 v2))
theorem ElJn.set_same {w : World} {g j : Nat} {c : J3} (h : ElJn w g j c) (v0 : Bool) (v1 : Int) (v2 : Int) : ElJn (setJn w g j v0 v1 v2) g j ⟨v0, v1, v2⟩ := by
  obtain ⟨h0, h1, h2⟩ := h
  refine ⟨?_, ?_, ?_⟩
  · rw [World.cell?_setCell_other _ _ _ _ (ad_ne (by omega)), World.cell?_setCell_other _ _ _ _ (ad_ne (by omega))]
    exact World.cell?_setCell_same _ _ _ (by exact h0)
  · rw [World.cell?_setCell_other _ _ _ _ (ad_ne (by omega))]
    exact World.cell?_setCell_same _ _ _ (by rw [World.cell?_setCell_other _ _ _ _ (ad_ne (by omega))]; exact h1)
  · exact World.cell?_setCell_same _ _ _ (by rw [World.cell?_setCell_other _ _ _ _ (ad_ne (by omega)), World.cell?_setCell_other _ _ _ _ (ad_ne (by omega))]; exact h2)
theorem ElJn.set_other {w : World} {g i j : Nat} {c : J3} (h : ElJn w g i c) (hij : i ≠ j) (v0 : Bool) (v1 : Int) (v2 : Int) : ElJn (setJn w g j v0 v1 v2) g i c := by
  obtain ⟨h0, h1, h2⟩ := h
  refine ⟨?_, ?_, ?_⟩
  all_goals
    rw [World.cell?_setCell_other _ _ _ _ (ad_ne (by omega)), World.cell?_setCell_other _ _ _ _ (ad_ne (by omega)), World.cell?_setCell_other _ _ _ _ (ad_ne (by omega))]
    assumption
theorem SoftJn.set {w : World} {g i j : Nat} (h : SoftJn w g i) (v0 : Bool) (v1 : Int) (v2 : Int) : SoftJn (setJn w g j v0 v1 v2) g i := by
  obtain ⟨h0, h1, h2⟩ := h
  refine ⟨?_, ?_, ?_⟩
  all_goals
    rw [World.frozen?_setCell, World.frozen?_setCell, World.frozen?_setCell]
    assumption
theorem JnIn.set {lo hi g n cap : Nat} {w : World} {xs : List J3} (h : JnIn lo hi w (.slice (some ⟨g, 0, none⟩) n cap) xs) (j : Nat) (hj : j < xs.length) (v0 : Bool) (v1 : Int) (v2 : Int) :
    JnIn lo hi (setJn w g j v0 v1 v2) (.slice (some ⟨g, 0, none⟩) n cap) (xs.set j ⟨v0, v1, v2⟩) := by
  obtain ⟨hl, ⟨h, _⟩ | ⟨g', cap', hv, hcp, hg, hlt, hc⟩⟩ := h
  · subst h; simp at hj
  · simp only [Value.slice.injEq, Option.some.injEq, Addr.mk.injEq, and_true] at hv
    obtain ⟨rfl, rfl, rfl⟩ := hv
    refine ⟨by simpa using hl, .inr ⟨g, cap, by simp, by simpa using hcp, hg, hlt, fun i hi => ?_⟩⟩
    rw [List.length_set] at hi
    obtain ⟨h1, h2⟩ := hc i hi
    refine ⟨?_, h2.set v0 v1 v2⟩
    by_cases e : i = j
    · subst e
      have := h1.set_same v0 v1 v2
      simpa [List.getD, hi] using this
    · have := h1.set_other e v0 v1 v2
      simpa [List.getD, List.getElem?_set, e, Ne.symm e] using this

theorem ElJn.set_far {w : World} {g i : Nat} {c : J3} (h : ElJn w g i c) {p : Addr} (hp : p.block ≠ g) (x : Value) : ElJn (w.setCell p x) g i c := by
  obtain ⟨h0, h1, h2⟩ := h
  have hn : ∀ o : Nat, p ≠ ⟨g, o, none⟩ := fun o e => hp (by rw [e])
  exact ⟨(World.cell?_setCell_other _ _ _ _ (hn _)).trans h0, (World.cell?_setCell_other _ _ _ _ (hn _)).trans h1, (World.cell?_setCell_other _ _ _ _ (hn _)).trans h2⟩
theorem SoftJn.set_far {w : World} {g i : Nat} (h : SoftJn w g i) (p : Addr) (x : Value) : SoftJn (w.setCell p x) g i := by
  obtain ⟨h0, h1, h2⟩ := h
  exact ⟨(World.frozen?_setCell _ _ _ _).trans h0, (World.frozen?_setCell _ _ _ _).trans h1, (World.frozen?_setCell _ _ _ _).trans h2⟩
theorem JnIn.set_far {lo hi : Nat} {w : World} {v : Value} {xs : List J3} (h : JnIn lo hi w v xs) {p : Addr} (hp : p.block < lo) (x : Value) : JnIn lo hi (w.setCell p x) v xs := by
  obtain ⟨hl, h | ⟨g, cap, hv, hcp, hg, hlt, hc⟩⟩ := h
  · exact ⟨hl, .inl h⟩
  · exact ⟨hl, .inr ⟨g, cap, hv, hcp, hg, hlt, fun i hi => ⟨(hc i hi).1.set_far (by omega) x, (hc i hi).2.set_far p x⟩⟩⟩

/-- Their places. -/
def placesJn (xs : List J3) : List Value := xs.flatMap fun c => [.bool c.up, .int .i64 c.a, .int .i64 c.b]
theorem placesJn_length (xs : List J3) : (placesJn xs).length = xs.length * 3 := by
  induction xs with
  | nil => rfl
  | cons c r ih => simp [placesJn] at ih ⊢; omega
theorem placesJn_at : ∀ (xs : List J3) (i : Nat), i < xs.length → (placesJn xs)[i * 3]? = some (.bool (xs.getD i J3.zero).up) ∧ (placesJn xs)[i * 3 + 1]? = some (.int .i64 (xs.getD i J3.zero).a) ∧ (placesJn xs)[i * 3 + 2]? = some (.int .i64 (xs.getD i J3.zero).b)
  | [], i, h => by simp at h
  | c :: r, 0, _ => ⟨rfl, rfl, rfl⟩
  | c :: r, i + 1, h => by
    have ih := placesJn_at r i (by simpa using h)
    have e : placesJn (c :: r) = .bool c.up :: .int .i64 c.a :: .int .i64 c.b :: placesJn r := rfl
    rw [e, show (i + 1) * 3 = i * 3 + 1 + 1 + 1 by omega]
    exact ih
theorem placesJn_append (xs ys : List J3) : placesJn (xs ++ ys) = placesJn xs ++ placesJn ys := by simp [placesJn]

theorem JnIn.of_owns {w : World} {base e : Nat} {v : Value} {xs : List J3} (h : w.ownsRow base e 3 v xs.length (placesJn xs)) (hl : xs.length ≤ 1048576) : JnIn base w.heap.size w v xs := by
  refine ⟨hl, ?_⟩
  have h0 := h
  obtain ⟨_, ⟨h1, h2⟩ | ⟨g, cap, cur, hv, hg, hh, hcp, _⟩⟩ := h
  · exact .inl ⟨List.length_eq_zero_iff.1 h2, none, 0, h1⟩
  · subst hv
    refine .inr ⟨g, cap, rfl, hcp, hg, lt_of_heap hh, fun i hi => ⟨?_, h0.frozenAt _, h0.frozenAt _, h0.frozenAt _⟩⟩
    obtain ⟨p0, p1, p2⟩ := placesJn_at xs i hi
    exact ⟨(h0.cellAt _ (by omega)).trans p0, (h0.cellAt _ (by omega)).trans p1, (h0.cellAt _ (by omega)).trans p2⟩
theorem placesJn_zero (n : Nat) : (madeCells (Value.agg #[.bool false, .int .i64 0, .int .i64 0]).cells (n * 3)).toList = placesJn (List.replicate n J3.zero) := by
  apply List.ext_getElem?
  intro i
  by_cases h : i < n * 3
  · obtain ⟨k, hk⟩ : ∃ k, i = k * 3 ∨ i = k * 3 + 1 ∨ i = k * 3 + 2 := ⟨i / 3, by omega⟩
    have hkn : k < n := by omega
    obtain ⟨p0, p1, p2⟩ := placesJn_at (List.replicate n J3.zero) k (by simpa using hkn)
    have ez : (List.replicate n J3.zero).getD k J3.zero = J3.zero := by simp [List.getD, hkn]
    rw [ez] at p0 p1 p2
    rcases hk with rfl | rfl | rfl
    · rw [p0]; simp [madeCells, Value.cells, J3.zero, h]
    · rw [p1]; simp [madeCells, Value.cells, J3.zero, h]
    · rw [p2]; simp [madeCells, Value.cells, J3.zero, h]
  · rw [List.getElem?_eq_none (by simp [madeCells]; omega), List.getElem?_eq_none (by rw [placesJn_length]; simp; omega)]

end Go.Proofs.Ytboahceibeeifaa

set_option linter.unusedSimpArgs false
set_option linter.unusedVariables false
namespace Go.Proofs.Ytboahceibeeifaa
open Go.ChangeShapes Go.WideShapes Go.ChangeAt Go.RowKit

theorem ToJn_any (x0 : Bool) (x1 : Int) (x2 : Int) (w : World) :
    Calls Try.prog 53 #[.agg #[.bool x0, .int .i64 x1, .int .i64 x2]] w fun e w' => e = .returned (.agg #[.bool x0, .int .i64 x1, .int .i64 x2]) ∧ Below w.heap.size w w' := by
  go_enter Try.func53, Try.ntmps53
  go_wp2
  exact bodyPost_ret (v := .agg #[.bool x0, .int .i64 x1, .int .i64 x2]) (by simp [results, Try.results53, go_sem]) rfl ⟨rfl, (((Below.refl _ _).alloc (Nat.le_refl _) _).alloc (by simp) _).alloc (by simp; omega) _⟩

theorem info_Jn : (Try.prog.info? 40).map (fun i => (i.zero, i.size, i.bytes)) = some (some (.agg #[.bool false, .int .i64 0, .int .i64 0]), 3, 24) := by kernel_rfl

/-- A slice of them that came in: its elements are read one by one, wherever they lie. -/
def ArgJn (w : World) (a : Option Addr) (len : Nat) (xs : List J3) : Prop :=
  xs.length = len ∧ len ≤ maxLen ∧ (len = 0 ∨ ∃ xb xo, a = some ⟨xb, xo, none⟩ ∧ xb < w.heap.size ∧ ∀ i, i < len →
    w.cell? ⟨xb, xo + i * 3, none⟩ = some (.bool (xs.getD i J3.zero).up) ∧ w.cell? ⟨xb, xo + i * 3 + 1, none⟩ = some (.int .i64 (xs.getD i J3.zero).a) ∧ w.cell? ⟨xb, xo + i * 3 + 2, none⟩ = some (.int .i64 (xs.getD i J3.zero).b))
theorem ArgJn.below {w w' : World} {a : Option Addr} {len : Nat} {xs : List J3} (h : ArgJn w a len xs) (hb : Below w.heap.size w w') : ArgJn w' a len xs := by
  obtain ⟨h1, h2, h | ⟨xb, xo, ha, hlt, hc⟩⟩ := h
  · exact ⟨h1, h2, .inl h⟩
  · refine ⟨h1, h2, .inr ⟨xb, xo, ha, Nat.lt_of_lt_of_le hlt hb.size, fun i hi => ?_⟩⟩
    obtain ⟨c0, c1, c2⟩ := hc i hi
    exact ⟨(hb.cell (p := ⟨xb, _, none⟩) hlt).trans c0, (hb.cell (p := ⟨xb, _, none⟩) hlt).trans c1, (hb.cell (p := ⟨xb, _, none⟩) hlt).trans c2⟩

/-- A new row is handed back. -/
def FreshJn (xs : List J3) (w : World) (e : Ending) (w' : World) : Prop := ∃ v, e = .returned v ∧ JnIn w.heap.size w'.heap.size w' v xs ∧ Below w.heap.size w w'

/-- The first k elements are those of the list. -/
def UpJn (k : Nat) (xs ys : List J3) : Prop := ys.length = xs.length ∧ ∀ i, i < k → ys.getD i J3.zero = xs.getD i J3.zero
theorem UpJn.set {k : Nat} {xs ys : List J3} (h : UpJn k xs ys) (hk : k < xs.length) {c : J3} (hc : c = xs.getD k J3.zero) : UpJn (k + 1) xs (ys.set k c) := by
  obtain ⟨h1, h2⟩ := h
  refine ⟨by simpa using h1, fun i hi => ?_⟩
  by_cases e : i = k
  · subst e; simp [List.getD, h1, hk] at hc ⊢; exact hc
  · have := h2 i (by omega)
    simpa [List.getD, List.getElem?_set, e, Ne.symm e] using this
theorem UpJn.all {xs ys : List J3} (h : UpJn xs.length xs ys) : ys = xs := by
  obtain ⟨h1, h2⟩ := h
  apply List.ext_getElem h1
  intro i a b
  have := h2 i b
  simpa [List.getD, a, b] using this

set_option maxHeartbeats 800000 in
theorem ToJnS_any (a : Option Addr) (len cap : Nat) (xs : List J3) (w : World) (r : ArgJn w a len xs) (hlen : len ≤ 1048576) :
    Calls Try.prog 27 #[.slice a len cap] w (FreshJn xs w) := by
  obtain ⟨i0, hi, hz0, hz1, hz2⟩ := info_parts3 info_Jn
  have R := Lib.hid r
  obtain ⟨hxl, _, _⟩ := r
  subst hxl
  go_enter Try.func27, Try.ntmps27
  go_wp2_with (at_make; refine wpList_make_full _ rfl _ _ 28 rfl w.heap.size 40 i0 _ 3 Try.underlying28 hi hz0 hz1 .i64 .i64 _ _ xs.length rfl rfl rfl rfl (by rw [hz2]; omega) (by unfold maxLen; omega) (Nat.le_refl _) ?_; intro w0 hown0 hgrow0)
  have hb0 := own_none hgrow0
  rw [placesJn_zero] at hown0
  have hin0 := JnIn.of_owns (xs := List.replicate xs.length J3.zero) (by rw [List.length_replicate]; exact hown0) (by simpa using hlen)
  have HB := Lib.hid hb0
  have HW := Lib.hid hin0
  clear hb0 hown0 hgrow0 hin0
  go_loopw [4] (fun i wr => ∃ (k : Nat) (ys : List J3), k ≤ xs.length ∧ i = .int .i64 k ∧ Hid (UpJn k xs ys) ∧ Hid (JnIn w.heap.size w0.heap.size wr (.slice (some ⟨w.heap.size, 0, none⟩) xs.length xs.length) ys) ∧ Below w.heap.size w wr ∧ w0.heap.size ≤ wr.heap.size) (fun i _ => xs.length - (intOf i).toNat)
  case atStart => exact ⟨0, _, Nat.zero_le _, rfl, ⟨by simp, fun i hi => by omega⟩, HW.out, HB.out, Nat.le_refl _⟩
  case round =>
    obtain ⟨k, ys, hk, rfl, hup, hin, hbel, hsz⟩ := hrel
    by_cases hlt : k < xs.length
    · obtain ⟨_, _, h | ⟨xb, xo, rfl, hxb, hc⟩⟩ := (R.out.below hbel)
      · omega
      obtain ⟨c0, c1, c2⟩ := hc k hlt
      clear hc
      obtain ⟨c, hc⟩ : ∃ c, c = xs.getD k J3.zero := ⟨_, rfl⟩
      rw [← hc] at c0 c1 c2
      have HC := Lib.hid hc
      clear hc
      go_wp2_with fail
      refine (ToJn_any _ _ _ _).mono ?_
      rintro e w1 ⟨rfl, hb1⟩
      have hyl := hup.out.1
      have hin1 : Hid (JnIn w.heap.size w0.heap.size w1 (.slice (some ⟨w.heap.size, 0, none⟩) xs.length xs.length) ys) := Lib.hid (hin.out.below (hb1.mono hsz))
      obtain ⟨g, hg, _, _, ⟨e0, e1, e2⟩, f0, f1, f2⟩ := hin1.out.at (Below.refl _ _) (i := k) (by omega)
      obtain rfl : w.heap.size = g := by simpa using hg
      have HN := Lib.hid (hin1.out.set k (by omega) c.up c.a c.b)
      have HU := Lib.hid (hup.out.set (c := ⟨c.up, c.a, c.b⟩) hlt HC.out)
      have hbw : Below w.heap.size w w1 := hbel.trans (hb1.mono hbel.size)
      have HB1 := Lib.hid (Below.setCell (Below.setCell (Below.setCell hbw (p := ⟨w.heap.size, k * 3, none⟩) (Nat.le_refl _) (.bool c.up)) (p := ⟨w.heap.size, k * 3 + 1, none⟩) (Nat.le_refl _) (.int .i64 c.a)) (p := ⟨w.heap.size, k * 3 + 2, none⟩) (Nat.le_refl _) (.int .i64 c.b))
      have hs1 : w0.heap.size ≤ w1.heap.size := by have := hb1.size; omega
      clear hg hin hup hbw hb1 hbel HC
      generalize ys.getD k J3.zero = y at e0 e1 e2
      go_wp2_with fail
      go_roundw
      case rel => exact ⟨k + 1, _, by omega, by go_num, HU, HN, HB1.out, by simp [World.setCell]; exact hs1⟩
      case measure => simp [intOf] <;> omega
    · obtain rfl : k = xs.length := by omega
      have hall := hup.out.all
      subst hall
      go_wp2_with fail
      go_ret
      exact ⟨_, rfl, hin.out.wide (Nat.le_refl _) hsz, hbel⟩

end Go.Proofs.Ytboahceibeeifaa

set_option linter.unusedSimpArgs false
set_option linter.unusedVariables false
namespace Go.Proofs.Ytboahceibeeifaa
open Go.ChangeShapes Go.WideShapes Go.ChangeAt Go.RowKit

theorem EqJn_same (x0 : Bool) (x1 : Int) (x2 : Int) (w : World) :
    Calls Try.prog 48 #[.agg #[.bool x0, .int .i64 x1, .int .i64 x2], .agg #[.bool x0, .int .i64 x1, .int .i64 x2]] w fun e w' => e = .returned (.bool true) ∧ Below w.heap.size w w' := by
  go_enter Try.func48, Try.ntmps48
  go_wp2
  go_ret
  exact ⟨rfl, ((Below.refl _ _).alloc (Nat.le_refl _) _).alloc (by simp) _⟩

set_option maxHeartbeats 800000 in
theorem EqJnS_any (l1 h1 l2 h2 : Nat) (v1 v2 : Value) (xs : List J3) (w : World) (r1 : JnIn l1 h1 w v1 xs) (r2 : JnIn l2 h2 w v2 xs) (hh1 : h1 ≤ w.heap.size) (hh2 : h2 ≤ w.heap.size) :
    Calls Try.prog 20 #[v1, v2] w fun e w' => e = .returned (.bool true) ∧ Below w.heap.size w w' := by
  obtain ⟨a1, c1, rfl⟩ := r1.form
  obtain ⟨a2, c2, rfl⟩ := r2.form
  have R1 := Lib.hid r1
  have R2 := Lib.hid r2
  have hl := r1.1
  clear r1 r2
  go_enter Try.func20, Try.ntmps20
  go_wp2_with fail
  go_loopw [5] (fun i wr => ∃ k : Nat, k ≤ xs.length ∧ i = .int .i64 k ∧ Below w.heap.size w wr) (fun i _ => xs.length - (intOf i).toNat)
  case atStart => exact ⟨0, Nat.zero_le _, rfl, Below.refl _ _⟩
  case round =>
    obtain ⟨k, hk, rfl, hbel⟩ := hrel
    by_cases hlt : k < xs.length
    · obtain ⟨g1, rfl, _, hg1, ⟨e0, e1, e2⟩, _⟩ := R1.out.at (hbel.mono hh1) hlt
      obtain ⟨g2, rfl, _, hg2, ⟨d0, d1, d2⟩, _⟩ := R2.out.at (hbel.mono hh2) hlt
      generalize xs.getD k J3.zero = c at e0 e1 e2 d0 d1 d2
      have KP : ∀ u v, Below u.heap.size u v → (u.cell? ⟨g1, k * 3, none⟩ = some (.bool c.up) ∧ u.cell? ⟨g1, k * 3 + 1, none⟩ = some (.int .i64 c.a) ∧ u.cell? ⟨g1, k * 3 + 2, none⟩ = some (.int .i64 c.b) ∧ u.cell? ⟨g2, k * 3, none⟩ = some (.bool c.up) ∧ u.cell? ⟨g2, k * 3 + 1, none⟩ = some (.int .i64 c.a) ∧ u.cell? ⟨g2, k * 3 + 2, none⟩ = some (.int .i64 c.b)) → (v.cell? ⟨g1, k * 3, none⟩ = some (.bool c.up) ∧ v.cell? ⟨g1, k * 3 + 1, none⟩ = some (.int .i64 c.a) ∧ v.cell? ⟨g1, k * 3 + 2, none⟩ = some (.int .i64 c.b) ∧ v.cell? ⟨g2, k * 3, none⟩ = some (.bool c.up) ∧ v.cell? ⟨g2, k * 3 + 1, none⟩ = some (.int .i64 c.a) ∧ v.cell? ⟨g2, k * 3 + 2, none⟩ = some (.int .i64 c.b)) := fun u v hb h => ⟨kept hb h.1, kept hb h.2.1, kept hb h.2.2.1, kept hb h.2.2.2.1, kept hb h.2.2.2.2.1, kept hb h.2.2.2.2.2⟩
      go_wp2_with fail
      go_region_held3 (fun w' => w'.cell? ⟨g1, k * 3, none⟩ = some (.bool c.up) ∧ w'.cell? ⟨g1, k * 3 + 1, none⟩ = some (.int .i64 c.a) ∧ w'.cell? ⟨g1, k * 3 + 2, none⟩ = some (.int .i64 c.b) ∧ w'.cell? ⟨g2, k * 3, none⟩ = some (.bool c.up) ∧ w'.cell? ⟨g2, k * 3 + 1, none⟩ = some (.int .i64 c.a) ∧ w'.cell? ⟨g2, k * 3 + 2, none⟩ = some (.int .i64 c.b)) (first | (refine KP _ _ (by assumption) ?_; assumption) | go_keep)
        ((go_at_call 48; refine (EqJn_same _ _ _ _).mono ?_; rintro e w1 ⟨rfl, hb1⟩))
      have HB : Below w.heap.size w w1 := bel_c hbel (Nat.le_refl _) ((⟨rfl, rfl, rfl, Nat.le_refl _, fun _ _ => rfl⟩ : Below wr.heap.size wr wr.drew).trans hb1)
      have HBh := Lib.hid HB
      clear HB hb1 KP
      go_wp2_with fail
      go_roundw
      case rel => exact ⟨k + 1, by omega, by go_num, HBh.out⟩
      case measure => simp [intOf] <;> omega
    · obtain rfl : k = xs.length := by omega
      go_wp2_with fail
      go_ret
      exact ⟨rfl, hbel⟩

end Go.Proofs.Ytboahceibeeifaa

set_option linter.unusedSimpArgs false
set_option linter.unusedVariables false
namespace Go.Proofs.Ytboahceibeeifaa
open Go.ChangeShapes Go.WideShapes Go.ChangeAt Go.RowKit

theorem JnIn.within {lo hi l2 h2 : Nat} {u w : World} {v : Value} {xs : List J3} (r : JnIn l2 h2 u v xs) (h : Within lo hi u w) (ho : h2 ≤ lo ∨ hi ≤ l2) (hh : h2 ≤ u.heap.size) : JnIn l2 h2 w v xs := by
  obtain ⟨hl, r | ⟨g, cap, hv, hcp, hg, hlt, hc⟩⟩ := r
  · exact ⟨hl, .inl r⟩
  · refine ⟨hl, .inr ⟨g, cap, hv, hcp, hg, hlt, fun i hi => ?_⟩⟩
    have hb : w.heap[g]? = u.heap[g]? := h.block g (by omega) (by omega)
    obtain ⟨⟨e0, e1, e2⟩, f0, f1, f2⟩ := hc i hi
    exact ⟨⟨(World.cell?_of_block (w := u) hb).trans e0, (World.cell?_of_block (w := u) hb).trans e1, (World.cell?_of_block (w := u) hb).trans e2⟩,
      (World.frozen?_of_block (w := u) hb).trans f0, (World.frozen?_of_block (w := u) hb).trans f1, (World.frozen?_of_block (w := u) hb).trans f2⟩

/-- The marks from k on. -/
def markJn (k n : Nat) : List J3 := (List.range n).map fun i => ⟨decide ((k : Int).tmod 3 = 0), ((k + 3 * i + 1 : Nat) : Int), ((k + 3 * i + 2 : Nat) : Int)⟩
theorem markJn_length (k n : Nat) : (markJn k n).length = n := by simp [markJn]
theorem markJn_at {k n i : Nat} (h : i < n) : (markJn k n).getD i J3.zero = ⟨decide ((k : Int).tmod 3 = 0), ((k + 3 * i + 1 : Nat) : Int), ((k + 3 * i + 2 : Nat) : Int)⟩ := by simp [markJn, List.getD, h]

set_option maxHeartbeats 800000 in
theorem MarkJnS_any (lo hi : Nat) (v : Value) (xs : List J3) (k : Nat) (w : World) (r : JnIn lo hi w v xs) (hk1 : k ≤ 100000000) :
    Calls Try.prog 23 #[v, .int .i64 k] w fun e w' => e = .returned (.int .i64 ((k + 3 * xs.length : Nat) : Int)) ∧ JnIn lo hi w' v (markJn k xs.length) ∧ Within lo hi w w' := by
  obtain ⟨a1, c1, rfl⟩ := r.form
  have R := Lib.hid r
  have hl := r.1
  clear r
  go_enter Try.func23, Try.ntmps23
  go_wp2_with fail
  go_loopw [1, 5] (fun q i wr => ∃ (m : Nat) (ys : List J3), m ≤ xs.length ∧ i = .int .i64 m ∧ q = .int .i64 ((k + 3 * m : Nat) : Int) ∧ Hid (UpJn m (markJn k xs.length) ys) ∧ Hid (JnIn lo hi wr (.slice a1 xs.length c1) ys) ∧ Within lo hi w wr) (fun _ i _ => xs.length - (intOf i).toNat)
  case atStart => exact ⟨0, xs, Nat.zero_le _, rfl, rfl, ⟨by simp [markJn], fun i hi => by omega⟩, R.out, Within.refl _ _ _⟩
  case round =>
    obtain ⟨m, ys, hm, rfl, rfl, hup, hin, hbel⟩ := hrel
    by_cases hlt : m < xs.length
    · have hyl : ys.length = xs.length := by have := hup.out.1; rw [markJn_length] at this; exact this
      obtain ⟨g, rfl, hg, hg1, ⟨e0, e1, e2⟩, f0, f1, f2⟩ := hin.out.at (Below.refl _ _) (i := m) (by omega)
      have HN := Lib.hid (hin.out.set m (by omega) (decide ((k : Int).tmod 3 = 0)) ((k + 3 * m + 1 : Nat) : Int) ((k + 3 * m + 2 : Nat) : Int))
      have HU := Lib.hid (hup.out.set (c := ⟨decide ((k : Int).tmod 3 = 0), ((k + 3 * m + 1 : Nat) : Int), ((k + 3 * m + 2 : Nat) : Int)⟩) (by rw [markJn_length]; exact hlt) (markJn_at hlt).symm)
      have HB := Lib.hid (Within.setCell (Within.setCell (Within.setCell hbel (p := ⟨g, m * 3, none⟩) hg hg1 (.bool (decide ((k : Int).tmod 3 = 0)))) (p := ⟨g, m * 3 + 1, none⟩) hg hg1 (.int .i64 ((k + 3 * m + 1 : Nat) : Int))) (p := ⟨g, m * 3 + 2, none⟩) hg hg1 (.int .i64 ((k + 3 * m + 2 : Nat) : Int)))
      generalize ys.getD m J3.zero = y at e0 e1 e2
      clear hbel hup hin
      go_wp2_with fail
      go_roundw
      case rel => exact ⟨m + 1, _, by omega, by go_num, by go_num, HU, HN, HB.out⟩
      case measure => simp [intOf] <;> omega
    · obtain rfl : m = xs.length := by omega
      go_wp2_with fail
      go_ret
      refine ⟨rfl, ?_, hbel⟩
      have h1 := hup.out
      have h2 : ys = markJn k xs.length := UpJn.all (by rw [markJn_length]; exact h1)
      rw [← h2]; exact hin.out

set_option maxHeartbeats 800000 in
theorem HeldJnS_any (lo hi : Nat) (v : Value) (n k : Nat) (w : World) (r : JnIn lo hi w v (markJn k n)) (hk1 : k ≤ 100000000) :
    Calls Try.prog 24 #[v, .int .i64 k] w fun e w' => e = .returned (.int .i64 ((k + 3 * n : Nat) : Int)) ∧ w' = w := by
  have hl := r.1
  have hf := r.form
  rw [markJn_length] at hl hf
  obtain ⟨a1, c1, rfl⟩ := hf
  have R := Lib.hid r
  clear r
  go_enter Try.func24, Try.ntmps24
  go_wp2_with fail
  go_loop [1, 5] (fun q i => ∃ m : Nat, m ≤ n ∧ i = .int .i64 m ∧ q = .int .i64 ((k + 3 * m : Nat) : Int)) (fun _ i => n - (intOf i).toNat)
  case atStart => exact ⟨0, Nat.zero_le _, rfl, rfl⟩
  case round =>
    obtain ⟨m, hm, rfl, rfl⟩ := hrel
    by_cases hlt : m < n
    · obtain ⟨g, rfl, _, _, ⟨e0, e1, e2⟩, _⟩ := R.out.at (Below.refl _ _) (i := m) (by rw [markJn_length]; exact hlt)
      rw [markJn_at hlt] at e0 e1 e2
      simp only at e0 e1 e2
      go_wp2_with fail
      any_goals (first | (exfalso; rename_i hz hw; by_cases z : (k : Int) % 3 = 0 <;> simp [z] at hz; done) | skip)
      go_round
      case rel => exact ⟨m + 1, by omega, by go_num, by go_num⟩
      case measure => simp [intOf] <;> omega
    · obtain rfl : m = n := by omega
      go_wp2_with fail
      go_ret
      exact ⟨rfl, rfl⟩

end Go.Proofs.Ytboahceibeeifaa

set_option linter.unusedSimpArgs false
set_option linter.unusedVariables false
namespace Go.Proofs.Ytboahceibeeifaa

/-- A patch as a unit; a unit's rectangle; used. -/
def mkU (p : P5) : U6 := ⟨p.x, p.y, p.w, p.h, p.c, false⟩
def U6.p (u : U6) : P5 := ⟨u.x, u.y, u.w, u.h, u.c⟩
def U6.u (u : U6) : U6 := ⟨u.x, u.y, u.w, u.h, u.c, true⟩
theorem mkU_p (p : P5) : (mkU p).p = p := rfl
theorem U6.u_p (u : U6) : u.u.p = u.p := rfl
abbrev un (us : List U6) (i : Nat) : U6 := us.getD i U6.zero
abbrev jn (js : List J3) (i : Nat) : J3 := js.getD i J3.zero
theorem un_get {us : List U6} {i : Nat} (h : i < us.length) : un us i = us[i] := by simp [un, List.getD, h]
theorem jn_get {js : List J3} {i : Nat} (h : i < js.length) : jn js i = js[i] := by simp [jn, List.getD, h]
/-- A whole side in common, the first one on the left or above. -/
def Side (up : Bool) (a b : P5) : Prop := if up then a.x + a.w = b.x ∧ a.y = b.y ∧ a.h = b.h else a.y + a.h = b.y ∧ a.x = b.x ∧ a.w = b.w
instance (up : Bool) (a b : P5) : Decidable (Side up a b) := by unfold Side; infer_instance
def sewP (up : Bool) (a b : P5) : P5 := if up then ⟨a.x, a.y, a.w + b.w, a.h, a.c⟩ else ⟨a.x, a.y, a.w, a.h + b.h, a.c⟩
/-- It is one of the first k. -/
def InU (k : Nat) (a : Int) : Prop := 0 ≤ a ∧ a < k
instance (k : Nat) (a : Int) : Decidable (InU k a) := by unfold InU; infer_instance
def FitJ (us : List U6) (j : J3) : Prop := InU us.length j.a ∧ InU us.length j.b ∧ j.a ≠ j.b ∧ (un us j.a.toNat).j = false ∧ (un us j.b.toNat).j = false ∧ Side j.up (un us j.a.toNat).p (un us j.b.toNat).p
instance (us : List U6) (j : J3) : Decidable (FitJ us j) := by unfold FitJ; infer_instance
def useJ (us : List U6) (j : J3) : List U6 := (us.set j.a.toNat (un us j.a.toNat).u).set j.b.toNat (un us j.b.toNat).u
def putJ (us : List U6) (j : J3) : List U6 := useJ us j ++ [mkU (sewP j.up (un us j.a.toNat).p (un us j.b.toNat).p)]
/-- The units, as far as the joins are valid. -/
def unF : List U6 → List J3 → List U6
  | us, [] => us
  | us, j :: r => if FitJ us j then unF (putJ us j) r else us
theorem drop_jn {js : List J3} {k : Nat} (h : k < js.length) : js.drop k = jn js k :: js.drop (k + 1) := by
  rw [jn_get h]; exact List.drop_eq_getElem_cons h
theorem unF_yes {us U : List U6} {js : List J3} {k : Nat} (hk : k < js.length) (h : unF us (js.drop k) = U) (hf : FitJ us (jn js k)) : unF (putJ us (jn js k)) (js.drop (k + 1)) = U := by
  rw [drop_jn hk, unF, if_pos hf] at h; exact h
theorem unF_no {us U : List U6} {js : List J3} {k : Nat} (hk : k < js.length) (h : unF us (js.drop k) = U) (hf : ¬ FitJ us (jn js k)) : us = U := by
  rw [drop_jn hk, unF, if_neg hf] at h; exact h
theorem unF_all {us U : List U6} {js : List J3} (h : unF us (js.drop js.length) = U) : us = U := by
  rw [List.drop_length] at h; exact h
theorem useJ_len (us : List U6) (j : J3) : (useJ us j).length = us.length := by simp [useJ]
theorem putJ_len (us : List U6) (j : J3) : (putJ us j).length = us.length + 1 := by simp [putJ, useJ]

/-- How many are not used. -/
def cnU (us : List U6) : Nat := (us.filter fun u => !u.j).length
theorem cnU_set : ∀ (us : List U6) (i : Nat) (x : U6), i < us.length → (un us i).j = false → x.j = true → cnU (us.set i x) + 1 = cnU us
  | [], i, _, h, _, _ => by simp at h
  | u :: r, 0, x, _, h, hx => by
    have h' : u.j = false := h
    simp [cnU, h', hx]
  | u :: r, i + 1, x, hi, h, hx => by
    have ih := cnU_set r i x (by simpa using hi) (by simpa [un] using h) hx
    by_cases z : u.j
    · simpa [cnU, z] using ih
    · simp only [cnU, List.set_cons_succ, List.filter_cons] at ih ⊢
      simp [z]; omega
theorem cnU_put {us : List U6} {j : J3} (h : FitJ us j) : cnU (putJ us j) + 1 = cnU us := by
  obtain ⟨⟨a0, a1⟩, ⟨b0, b1⟩, hne, ha, hb, _⟩ := h
  have h1 := cnU_set us j.a.toNat (un us j.a.toNat).u (by omega) ha rfl
  have e : un (us.set j.a.toNat (un us j.a.toNat).u) j.b.toNat = un us j.b.toNat := by
    unfold un; rw [List.getD_eq_getElem?_getD, List.getElem?_set_ne (by omega), ← List.getD_eq_getElem?_getD]
  have h2 := cnU_set (us.set j.a.toNat (un us j.a.toNat).u) j.b.toNat (un us j.b.toNat).u (by simp; omega) (by rw [e]; exact hb) rfl
  have h3 : cnU (putJ us j) = cnU (useJ us j) + 1 := by simp [cnU, putJ, mkU]
  rw [h3]; unfold useJ; omega
/-- What stays: all lie within the layout; the unused ones are counted. -/
def UOk (m n : Int) (N : Nat) (us : List U6) : Prop := (∀ i, i < us.length → Fit m n (un us i).p) ∧ cnU us + us.length = 2 * N ∧ N ≤ us.length
theorem UOk.le {m n : Int} {N : Nat} {us : List U6} (h : UOk m n N us) (hN : N ≤ 12) : us.length ≤ 24 := by have := h.2.1; omega
theorem UOk.start {m n : Int} {xs : List P5} (h : LayOk m n xs) : UOk m n xs.length (xs.map mkU) := by
  refine ⟨fun i hi => ?_, ?_, by simp⟩
  · rw [List.length_map] at hi
    rw [un_get (by simpa using hi), List.getElem_map, mkU_p, ← pat_get hi]; exact h.fit hi
  · have : (xs.map mkU).filter (fun u => !u.j) = xs.map mkU := List.filter_eq_self.2 (fun u hu => by
      obtain ⟨p, _, rfl⟩ := List.mem_map.1 hu; rfl)
    unfold cnU; rw [this, List.length_map]; omega
theorem un_set {us : List U6} {i k : Nat} {x : U6} (hk : k < us.length) : un (us.set k x) i = if k = i then x else un us i := by
  unfold un; rw [List.getD_eq_getElem?_getD, List.getElem?_set]
  by_cases e : k = i
  · subst e; simp [hk]
  · simp [e, List.getD_eq_getElem?_getD]
theorem un_use {us : List U6} {j : J3} (h : FitJ us j) (i : Nat) : un (useJ us j) i = if j.b.toNat = i ∨ j.a.toNat = i then (un us i).u else un us i := by
  obtain ⟨⟨a0, a1⟩, ⟨b0, b1⟩, _⟩ := h
  unfold useJ
  rw [un_set (by simp; omega), un_set (by omega)]
  by_cases e : j.b.toNat = i
  · simp [e]
  · by_cases e2 : j.a.toNat = i
    · simp [e, e2]
    · simp [e, e2]
theorem un_old {us vs : List U6} {i : Nat} (hi : i < us.length) : un (us ++ vs) i = un us i := by
  unfold un; rw [List.getD_eq_getElem?_getD, List.getElem?_append_left hi, ← List.getD_eq_getElem?_getD]
theorem un_last (us : List U6) (u : U6) : un (us ++ [u]) us.length = u := by simp [un]
theorem un_put {us : List U6} {j : J3} (h : FitJ us j) {i : Nat} (hi : i < us.length) : un (putJ us j) i = if j.b.toNat = i ∨ j.a.toNat = i then (un us i).u else un us i := by
  unfold putJ; rw [un_old (by rw [useJ_len]; exact hi), un_use h]
theorem un_new (us : List U6) (j : J3) : un (putJ us j) us.length = mkU (sewP j.up (un us j.a.toNat).p (un us j.b.toNat).p) := by
  have := un_last (useJ us j) (mkU (sewP j.up (un us j.a.toNat).p (un us j.b.toNat).p))
  rwa [useJ_len] at this
theorem p_put {us : List U6} {j : J3} (h : FitJ us j) {i : Nat} (hi : i < us.length) : (un (putJ us j) i).p = (un us i).p := by
  rw [un_put h hi]; split <;> rfl
theorem sew_fit {m n : Int} {up : Bool} {a b : P5} (ha : Fit m n a) (hb : Fit m n b) (h : Side up a b) : Fit m n (sewP up a b) := by
  obtain ⟨a0, a1, a2, a3, a4⟩ := ha
  obtain ⟨b0, b1, b2, b3, b4⟩ := hb
  cases up <;> simp only [Side, sewP, if_true, if_false, Bool.false_eq_true] at h ⊢ <;> refine ⟨?_, ?_, ?_, ?_, a4⟩ <;> simp only <;> omega
theorem UOk.put {m n : Int} {N : Nat} {us : List U6} {j : J3} (h : UOk m n N us) (hf : FitJ us j) : UOk m n N (putJ us j) := by
  obtain ⟨h1, h2, h3⟩ := h
  have hc := cnU_put hf
  refine ⟨fun i hi => ?_, by rw [putJ_len]; omega, by rw [putJ_len]; omega⟩
  rw [putJ_len] at hi
  by_cases e : i < us.length
  · rw [p_put hf e]; exact h1 i e
  · obtain rfl : i = us.length := by omega
    rw [un_new, mkU_p]
    obtain ⟨⟨a0, a1⟩, ⟨b0, b1⟩, _, _, _, hs⟩ := hf
    exact sew_fit (h1 _ (by omega)) (h1 _ (by omega)) hs

/-- The units of a layout. -/
noncomputable def unL (m n : Int) (xs : List P5) (js : List J3) : List U6 := if layB m n xs then unF (xs.map mkU) js else []
theorem unL_no {m n : Int} {xs : List P5} {js : List J3} (h : layB m n xs = false) : unL m n xs js = [] := by simp [unL, h]
theorem unL_yes {m n : Int} {xs : List P5} {js : List J3} (h : layB m n xs = true) : unL m n xs js = unF (xs.map mkU) js := by simp [unL, h]
theorem unF_ok {m n : Int} {N : Nat} : ∀ (js : List J3) (us : List U6), UOk m n N us → UOk m n N (unF us js)
  | [], us, h => h
  | j :: r, us, h => by
    unfold unF; split
    · next hf => exact unF_ok r _ (h.put hf)
    · exact h
theorem unF_len : ∀ (js : List J3) (us : List U6), us.length ≤ (unF us js).length ∧ (unF us js).length ≤ us.length + js.length
  | [], us => by simp [unF]
  | j :: r, us => by
    unfold unF; split
    · have := unF_len r (putJ us j)
      rw [putJ_len] at this
      simp; omega
    · simp
theorem unL_len {m n : Int} {xs : List P5} {js : List J3} : (unL m n xs js).length ≤ 24 := by
  by_cases h : layB m n xs = true
  · rw [unL_yes h]
    have hl := lay_of h
    exact (unF_ok js _ (UOk.start hl)).le hl.2.2.1.2
  · rw [unL_no (by simpa using h)]; simp
theorem unL_fit {m n : Int} {xs : List P5} {js : List J3} {i : Nat} (hi : i < (unL m n xs js).length) : Fit m n (un (unL m n xs js) i).p := by
  by_cases h : layB m n xs = true
  · rw [unL_yes h] at hi ⊢
    exact (unF_ok js _ (UOk.start (lay_of h))).1 i hi
  · rw [unL_no (by simpa using h)] at hi; simp at hi
/-- What UnitBox answers. -/
noncomputable def boxP (m n : Int) (xs : List P5) (js : List J3) (u : Int) : P5 := if InU (unL m n xs js).length u then (un (unL m n xs js) u.toNat).p else P5.zero
noncomputable def boxB (m n : Int) (xs : List P5) (js : List J3) (u : Int) : Bool := decide (InU (unL m n xs js).length u)
/-- They are joins. -/
noncomputable def areJ (m n : Int) (xs : List P5) (js : List J3) : Bool := layB m n xs && ((js.length : Int) == (xs.length : Int) - 1) && (((unL m n xs js).length : Int) == (xs.length : Int) + js.length)
theorem are_lay {m n : Int} {xs : List P5} {js : List J3} (h : areJ m n xs js = true) : layB m n xs = true := by
  simp only [areJ, Bool.and_eq_true] at h; exact h.1.1
theorem are_len {m n : Int} {xs : List P5} {js : List J3} (h : areJ m n xs js = true) : js.length + 1 = xs.length ∧ (unL m n xs js).length = xs.length + js.length := by
  simp only [areJ, Bool.and_eq_true, beq_iff_eq] at h; omega
theorem unF_in : ∀ (js : List J3) (us : List U6), (unF us js).length = us.length + js.length → ∀ j ∈ js, InU (unF us js).length j.a
  | [], _, _, j, h => by simp at h
  | i :: r, us, h, j, hj => by
    unfold unF at h ⊢
    by_cases hf : FitJ us i
    · rw [if_pos hf] at h ⊢
      have hl := unF_len r (putJ us i)
      rw [putJ_len] at hl
      rcases List.mem_cons.1 hj with rfl | hj
      · obtain ⟨⟨a0, a1⟩, _⟩ := hf
        exact ⟨a0, by omega⟩
      · exact unF_in r _ (by rw [h, putJ_len]; simp; omega) j hj
    · rw [if_neg hf] at h; simp at h
theorem are_in {m n : Int} {xs : List P5} {js : List J3} (h : areJ m n xs js = true) {k : Nat} (hk : k < js.length) : InU (unL m n xs js).length (jn js k).a := by
  have h2 := are_len h
  rw [unL_yes (are_lay h)] at h2 ⊢
  exact unF_in js _ (by rw [h2.2]; simp) _ (by rw [jn_get hk]; exact List.getElem_mem hk)
/-- The length of a seam; the longest one. -/
def lenJ (us : List U6) (j : J3) : Int := if j.up then (un us j.a.toNat).h else (un us j.a.toNat).w
def lonK (us : List U6) (js : List J3) : Nat → Int
  | 0 => 0
  | k + 1 => max (lonK us js k) (lenJ us (jn js k))
noncomputable def lonJ (m n : Int) (xs : List P5) (js : List J3) : Int := if areJ m n xs js then lonK (unL m n xs js) js js.length else -1
theorem lon_no {m n : Int} {xs : List P5} {js : List J3} (h : areJ m n xs js = false) : -1 = lonJ m n xs js := by simp [lonJ, h]
theorem lon_yes {m n : Int} {xs : List P5} {js : List J3} (h : areJ m n xs js = true) : lonK (unL m n xs js) js js.length = lonJ m n xs js := by simp [lonJ, h]

/-- Depths. -/
abbrev dp (ds : List Int) (i : Nat) : Int := ds.getD i 0
def DpOk (ds : List Int) (j : J3) : Prop := InU ds.length j.a ∧ InU ds.length j.b
instance (ds : List Int) (j : J3) : Decidable (DpOk ds j) := by unfold DpOk; infer_instance
def dpJ (ds : List Int) (j : J3) : Int := 1 + max (dp ds j.a.toNat) (dp ds j.b.toNat)
def dpF : List Int → List J3 → Int
  | ds, [] => dp ds (ds.length - 1)
  | ds, j :: r => if DpOk ds j then dpF (ds ++ [dpJ ds j]) r else -1
def depJ (js : List J3) (n : Int) : Int := if (1 ≤ n ∧ n ≤ 12) ∧ (js.length : Int) = n - 1 then dpF (List.replicate n.toNat 0) js else -1
theorem dpF_yes {ds : List Int} {d : Int} {js : List J3} {k : Nat} (hk : k < js.length) (h : dpF ds (js.drop k) = d) (hf : DpOk ds (jn js k)) : dpF (ds ++ [dpJ ds (jn js k)]) (js.drop (k + 1)) = d := by
  rw [drop_jn hk, dpF, if_pos hf] at h; exact h
theorem dpF_no {ds : List Int} {d : Int} {js : List J3} {k : Nat} (hk : k < js.length) (h : dpF ds (js.drop k) = d) (hf : ¬ DpOk ds (jn js k)) : -1 = d := by
  rw [drop_jn hk, dpF, if_neg hf] at h; exact h
theorem dpF_all {ds : List Int} {d : Int} {js : List J3} (h : dpF ds (js.drop js.length) = d) : dp ds (ds.length - 1) = d := by
  rw [List.drop_length] at h; exact h
/-- All depths are small. -/
def DpB (k : Nat) (ds : List Int) : Prop := ∀ i, 0 ≤ dp ds i ∧ dp ds i ≤ k
theorem DpB.start (n : Nat) : DpB 0 (List.replicate n 0) := fun i => by
  have : dp (List.replicate n (0 : Int)) i = 0 := by
    unfold dp; rw [List.getD_eq_getElem?_getD, List.getElem?_replicate]; split <;> rfl
  rw [this]; omega
theorem DpB.put {k : Nat} {ds : List Int} (h : DpB k ds) (j : J3) : DpB (k + 1) (ds ++ [dpJ ds j]) := fun i => by
  have ha := h j.a.toNat
  have hb := h j.b.toNat
  have hi := h i
  rcases Nat.lt_trichotomy i ds.length with e | e | e
  · have : dp (ds ++ [dpJ ds j]) i = dp ds i := by
      unfold dp; rw [List.getD_eq_getElem?_getD, List.getElem?_append_left e, ← List.getD_eq_getElem?_getD]
    rw [this]; omega
  · subst e
    have : dp (ds ++ [dpJ ds j]) ds.length = dpJ ds j := by simp [dp]
    rw [this]; unfold dpJ; omega
  · have : dp (ds ++ [dpJ ds j]) i = 0 := by
      unfold dp; rw [List.getD_eq_getElem?_getD, List.getElem?_eq_none (by simp; omega)]; rfl
    rw [this]; omega

end Go.Proofs.Ytboahceibeeifaa
