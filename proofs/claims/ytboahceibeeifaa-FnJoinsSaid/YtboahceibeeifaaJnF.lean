/- Rows of joins: what a slice of them holds. -/
import Derived.Test.YtboahceibeeifaaRows
import Derived.Test.YtboahceibeeifaaBase
import Derived.WalkKit
import Derived.Lib.Hide

set_option linter.unusedSimpArgs false
set_option linter.unusedVariables false
namespace Go.Proofs.Ytboahceibeeifaa
open Go.ChangeShapes Go.WideShapes Go.ChangeAt Go.RowKit

structure J3 where
  up : Bool
  a : Int
  b : Int
theorem J3.ext' {x y : J3} (h0 : x.up = y.up) (h1 : x.a = y.a) (h2 : x.b = y.b) : x = y := by cases x; cases y; simp_all
/-- As a value. -/
def J3.v (c : J3) : Value := .agg #[.bool c.up, .int .i64 c.a, .int .i64 c.b]
def J3.zero : J3 := ⟨false, 0, 0⟩
/-- Its numbers are int64s. -/
def J3.Wf (c : J3) : Prop := (Lit.int .i64 c.a).wf = true ∧ (Lit.int .i64 c.b).wf = true
instance : Inhabited J3 := ⟨J3.zero⟩

/-- Element number i of a row at block g holds c. -/
def ElJn (w : World) (g i : Nat) (c : J3) : Prop :=
  w.cell? ⟨g, i * 3, none⟩ = some (.bool c.up) ∧ w.cell? ⟨g, i * 3 + 1, none⟩ = some (.int .i64 c.a) ∧ w.cell? ⟨g, i * 3 + 2, none⟩ = some (.int .i64 c.b)
def SoftJn (w : World) (g i : Nat) : Prop :=
  w.frozen? ⟨g, i * 3, none⟩ = false ∧ w.frozen? ⟨g, i * 3 + 1, none⟩ = false ∧ w.frozen? ⟨g, i * 3 + 2, none⟩ = false
theorem ElJn.lt {w : World} {g i : Nat} {c : J3} (h : ElJn w g i c) : g < w.heap.size := lt_of_cell h.1
theorem ElJn.below {w w' : World} {g i B : Nat} {c : J3} (h : ElJn w g i c) (hb : Below B w w') (hg : g < B) : ElJn w' g i c :=
  ⟨(hb.cell (p := ⟨g, i * 3, none⟩) hg).trans h.1, (hb.cell (p := ⟨g, i * 3 + 1, none⟩) hg).trans h.2.1, (hb.cell (p := ⟨g, i * 3 + 2, none⟩) hg).trans h.2.2⟩
theorem SoftJn.below {w w' : World} {g i B : Nat} (h : SoftJn w g i) (hb : Below B w w') (hg : g < B) : SoftJn w' g i :=
  ⟨(hb.frozen (p := ⟨g, i * 3, none⟩) hg).trans h.1, (hb.frozen (p := ⟨g, i * 3 + 1, none⟩) hg).trans h.2.1, (hb.frozen (p := ⟨g, i * 3 + 2, none⟩) hg).trans h.2.2⟩

/-- A slice of them in a block from lo on, below hi. -/
def JnIn (lo hi : Nat) (w : World) (v : Value) (xs : List J3) : Prop :=
  xs.length ≤ 1048576 ∧ ((xs = [] ∧ ∃ a c, v = .slice a 0 c) ∨
    ∃ g cap, v = .slice (some ⟨g, 0, none⟩) xs.length cap ∧ xs.length ≤ cap ∧ lo ≤ g ∧ g < hi ∧ ∀ i, i < xs.length → ElJn w g i (xs.getD i J3.zero) ∧ SoftJn w g i)
theorem JnIn.below {lo hi : Nat} {w w' : World} {v : Value} {xs : List J3} (h : JnIn lo hi w v xs) (hb : Below hi w w') : JnIn lo hi w' v xs := by
  obtain ⟨hl, h | ⟨g, cap, hv, hcp, hg, hlt, hc⟩⟩ := h
  · exact ⟨hl, .inl h⟩
  · exact ⟨hl, .inr ⟨g, cap, hv, hcp, hg, hlt, fun i hi => ⟨(hc i hi).1.below hb hlt, (hc i hi).2.below hb hlt⟩⟩⟩
theorem JnIn.wide {lo hi lo' hi' : Nat} {w : World} {v : Value} {xs : List J3} (h : JnIn lo hi w v xs) (h1 : lo' ≤ lo) (h2 : hi ≤ hi') : JnIn lo' hi' w v xs := by
  obtain ⟨hl, h | ⟨g, cap, hv, hcp, hg, hlt, hc⟩⟩ := h
  · exact ⟨hl, .inl h⟩
  · exact ⟨hl, .inr ⟨g, cap, hv, hcp, by omega, by omega, hc⟩⟩
/-- Its shape. -/
theorem JnIn.form {lo hi : Nat} {w : World} {v : Value} {xs : List J3} (h : JnIn lo hi w v xs) : ∃ a cap, v = .slice a xs.length cap := by
  obtain ⟨_, ⟨rfl, a, c, hv⟩ | ⟨g, cap, hv, _⟩⟩ := h
  · exact ⟨a, c, hv⟩
  · exact ⟨_, _, hv⟩
/-- Element i, at a world in which only new blocks have come. -/
theorem JnIn.at {lo hi : Nat} {w w' : World} {a : Option Addr} {n cap : Nat} {xs : List J3} (h : JnIn lo hi w (.slice a n cap) xs) (hb : Below hi w w') {i : Nat} (hi' : i < xs.length) :
    ∃ g, a = some ⟨g, 0, none⟩ ∧ lo ≤ g ∧ g < hi ∧ ElJn w' g i (xs.getD i J3.zero) ∧ SoftJn w' g i := by
  obtain ⟨_, ⟨rfl, _⟩ | ⟨g, cap, hv, hcp, hg, hlt, hc⟩⟩ := h
  · simp at hi'
  · simp only [Value.slice.injEq] at hv
    exact ⟨g, hv.1, hg, hlt, (hc i hi').1.below hb hlt, (hc i hi').2.below hb hlt⟩
/-- It may be cut as far as it is long. -/
theorem JnIn.cap {lo hi : Nat} {w : World} {a : Option Addr} {n cap : Nat} {xs : List J3} (h : JnIn lo hi w (.slice a n cap) xs) : n ≤ cap := by
  obtain ⟨_, ⟨rfl, a', c', hv⟩ | ⟨g, cap', hv, hcp, _⟩⟩ := h
  · simp only [Value.slice.injEq] at hv; omega
  · simp only [Value.slice.injEq] at hv; omega
/-- Its first k elements. -/
theorem JnIn.take {lo hi g : Nat} {w : World} {n cap : Nat} {xs : List J3} (h : JnIn lo hi w (.slice (some ⟨g, 0, none⟩) n cap) xs) (k : Nat) (hk : k ≤ xs.length) : JnIn lo hi w (.slice (some ⟨g, 0, none⟩) k cap) (xs.take k) := by
  obtain ⟨hl, ⟨h, _⟩ | ⟨g', cap', hv, hcp, hg, hlt, hc⟩⟩ := h
  · subst h
    simp at hk
    subst hk
    exact ⟨by simp, .inl ⟨by simp, _, _, rfl⟩⟩
  · simp only [Value.slice.injEq, Option.some.injEq, Addr.mk.injEq, and_true] at hv
    obtain ⟨rfl, _, rfl⟩ := hv
    have e : (xs.take k).length = k := by simp; omega
    refine ⟨by omega, .inr ⟨g, cap, by rw [e], by omega, hg, hlt, fun i hi => ?_⟩⟩
    have := hc i (by omega)
    rwa [show (xs.take k).getD i J3.zero = xs.getD i J3.zero by simp [List.getD, show i < k by omega]]

end Go.Proofs.Ytboahceibeeifaa
