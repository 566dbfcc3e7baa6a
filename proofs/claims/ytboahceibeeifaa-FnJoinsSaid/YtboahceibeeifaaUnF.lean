/- Rows of units: what a slice of them holds. -/
import Derived.Test.YtboahceibeeifaaRows
import Derived.Test.YtboahceibeeifaaBase
import Derived.WalkKit
import Derived.Lib.Hide

set_option linter.unusedSimpArgs false
set_option linter.unusedVariables false
namespace Go.Proofs.Ytboahceibeeifaa
open Go.ChangeShapes Go.WideShapes Go.ChangeAt Go.RowKit

structure U6 where
  x : Int
  y : Int
  w : Int
  h : Int
  c : Int
  j : Bool
theorem U6.ext' {x y : U6} (h0 : x.x = y.x) (h1 : x.y = y.y) (h2 : x.w = y.w) (h3 : x.h = y.h) (h4 : x.c = y.c) (h5 : x.j = y.j) : x = y := by cases x; cases y; simp_all
/-- As a value. -/
def U6.v (c : U6) : Value := .agg #[.int .i64 c.x, .int .i64 c.y, .int .i64 c.w, .int .i64 c.h, .int .i64 c.c, .bool c.j]
def U6.zero : U6 := ⟨0, 0, 0, 0, 0, false⟩
/-- Its numbers are int64s. -/
def U6.Wf (c : U6) : Prop := (Lit.int .i64 c.x).wf = true ∧ (Lit.int .i64 c.y).wf = true ∧ (Lit.int .i64 c.w).wf = true ∧ (Lit.int .i64 c.h).wf = true ∧ (Lit.int .i64 c.c).wf = true
instance : Inhabited U6 := ⟨U6.zero⟩

/-- Element number i of a row at block g holds c. -/
def ElUn (w : World) (g i : Nat) (c : U6) : Prop :=
  w.cell? ⟨g, i * 6, none⟩ = some (.int .i64 c.x) ∧ w.cell? ⟨g, i * 6 + 1, none⟩ = some (.int .i64 c.y) ∧ w.cell? ⟨g, i * 6 + 2, none⟩ = some (.int .i64 c.w) ∧ w.cell? ⟨g, i * 6 + 3, none⟩ = some (.int .i64 c.h) ∧ w.cell? ⟨g, i * 6 + 4, none⟩ = some (.int .i64 c.c) ∧ w.cell? ⟨g, i * 6 + 5, none⟩ = some (.bool c.j)
def SoftUn (w : World) (g i : Nat) : Prop :=
  w.frozen? ⟨g, i * 6, none⟩ = false ∧ w.frozen? ⟨g, i * 6 + 1, none⟩ = false ∧ w.frozen? ⟨g, i * 6 + 2, none⟩ = false ∧ w.frozen? ⟨g, i * 6 + 3, none⟩ = false ∧ w.frozen? ⟨g, i * 6 + 4, none⟩ = false ∧ w.frozen? ⟨g, i * 6 + 5, none⟩ = false
theorem ElUn.lt {w : World} {g i : Nat} {c : U6} (h : ElUn w g i c) : g < w.heap.size := lt_of_cell h.1
theorem ElUn.below {w w' : World} {g i B : Nat} {c : U6} (h : ElUn w g i c) (hb : Below B w w') (hg : g < B) : ElUn w' g i c :=
  ⟨(hb.cell (p := ⟨g, i * 6, none⟩) hg).trans h.1, (hb.cell (p := ⟨g, i * 6 + 1, none⟩) hg).trans h.2.1, (hb.cell (p := ⟨g, i * 6 + 2, none⟩) hg).trans h.2.2.1, (hb.cell (p := ⟨g, i * 6 + 3, none⟩) hg).trans h.2.2.2.1, (hb.cell (p := ⟨g, i * 6 + 4, none⟩) hg).trans h.2.2.2.2.1, (hb.cell (p := ⟨g, i * 6 + 5, none⟩) hg).trans h.2.2.2.2.2⟩
theorem SoftUn.below {w w' : World} {g i B : Nat} (h : SoftUn w g i) (hb : Below B w w') (hg : g < B) : SoftUn w' g i :=
  ⟨(hb.frozen (p := ⟨g, i * 6, none⟩) hg).trans h.1, (hb.frozen (p := ⟨g, i * 6 + 1, none⟩) hg).trans h.2.1, (hb.frozen (p := ⟨g, i * 6 + 2, none⟩) hg).trans h.2.2.1, (hb.frozen (p := ⟨g, i * 6 + 3, none⟩) hg).trans h.2.2.2.1, (hb.frozen (p := ⟨g, i * 6 + 4, none⟩) hg).trans h.2.2.2.2.1, (hb.frozen (p := ⟨g, i * 6 + 5, none⟩) hg).trans h.2.2.2.2.2⟩

/-- A slice of them in a block from lo on, below hi. -/
def UnIn (lo hi : Nat) (w : World) (v : Value) (xs : List U6) : Prop :=
  xs.length ≤ 1048576 ∧ ((xs = [] ∧ ∃ a c, v = .slice a 0 c) ∨
    ∃ g cap, v = .slice (some ⟨g, 0, none⟩) xs.length cap ∧ xs.length ≤ cap ∧ lo ≤ g ∧ g < hi ∧ ∀ i, i < xs.length → ElUn w g i (xs.getD i U6.zero) ∧ SoftUn w g i)
theorem UnIn.below {lo hi : Nat} {w w' : World} {v : Value} {xs : List U6} (h : UnIn lo hi w v xs) (hb : Below hi w w') : UnIn lo hi w' v xs := by
  obtain ⟨hl, h | ⟨g, cap, hv, hcp, hg, hlt, hc⟩⟩ := h
  · exact ⟨hl, .inl h⟩
  · exact ⟨hl, .inr ⟨g, cap, hv, hcp, hg, hlt, fun i hi => ⟨(hc i hi).1.below hb hlt, (hc i hi).2.below hb hlt⟩⟩⟩
theorem UnIn.wide {lo hi lo' hi' : Nat} {w : World} {v : Value} {xs : List U6} (h : UnIn lo hi w v xs) (h1 : lo' ≤ lo) (h2 : hi ≤ hi') : UnIn lo' hi' w v xs := by
  obtain ⟨hl, h | ⟨g, cap, hv, hcp, hg, hlt, hc⟩⟩ := h
  · exact ⟨hl, .inl h⟩
  · exact ⟨hl, .inr ⟨g, cap, hv, hcp, by omega, by omega, hc⟩⟩
/-- Its shape. -/
theorem UnIn.form {lo hi : Nat} {w : World} {v : Value} {xs : List U6} (h : UnIn lo hi w v xs) : ∃ a cap, v = .slice a xs.length cap := by
  obtain ⟨_, ⟨rfl, a, c, hv⟩ | ⟨g, cap, hv, _⟩⟩ := h
  · exact ⟨a, c, hv⟩
  · exact ⟨_, _, hv⟩
/-- Element i, at a world in which only new blocks have come. -/
theorem UnIn.at {lo hi : Nat} {w w' : World} {a : Option Addr} {n cap : Nat} {xs : List U6} (h : UnIn lo hi w (.slice a n cap) xs) (hb : Below hi w w') {i : Nat} (hi' : i < xs.length) :
    ∃ g, a = some ⟨g, 0, none⟩ ∧ lo ≤ g ∧ g < hi ∧ ElUn w' g i (xs.getD i U6.zero) ∧ SoftUn w' g i := by
  obtain ⟨_, ⟨rfl, _⟩ | ⟨g, cap, hv, hcp, hg, hlt, hc⟩⟩ := h
  · simp at hi'
  · simp only [Value.slice.injEq] at hv
    exact ⟨g, hv.1, hg, hlt, (hc i hi').1.below hb hlt, (hc i hi').2.below hb hlt⟩
/-- It may be cut as far as it is long. -/
theorem UnIn.cap {lo hi : Nat} {w : World} {a : Option Addr} {n cap : Nat} {xs : List U6} (h : UnIn lo hi w (.slice a n cap) xs) : n ≤ cap := by
  obtain ⟨_, ⟨rfl, a', c', hv⟩ | ⟨g, cap', hv, hcp, _⟩⟩ := h
  · simp only [Value.slice.injEq] at hv; omega
  · simp only [Value.slice.injEq] at hv; omega
/-- Its first k elements. -/
theorem UnIn.take {lo hi g : Nat} {w : World} {n cap : Nat} {xs : List U6} (h : UnIn lo hi w (.slice (some ⟨g, 0, none⟩) n cap) xs) (k : Nat) (hk : k ≤ xs.length) : UnIn lo hi w (.slice (some ⟨g, 0, none⟩) k cap) (xs.take k) := by
  obtain ⟨hl, ⟨h, _⟩ | ⟨g', cap', hv, hcp, hg, hlt, hc⟩⟩ := h
  · subst h
    simp at hk
    subst hk
    exact ⟨by simp, .inl ⟨by simp, _, _, rfl⟩⟩
  · simp only [Value.slice.injEq, Option.some.injEq, Addr.mk.injEq, and_true] at hv
    obtain ⟨rfl, _, rfl⟩ := hv
    have e : (xs.take k).length = k := by simp; omega
    refine ⟨by omega, .inr ⟨g, cap, by rw [e], by omega, hg, hlt, fun i hi => ?_⟩⟩
    have := hc i (by omega)
    rwa [show (xs.take k).getD i U6.zero = xs.getD i U6.zero by simp [List.getD, show i < k by omega]]

end Go.Proofs.Ytboahceibeeifaa
