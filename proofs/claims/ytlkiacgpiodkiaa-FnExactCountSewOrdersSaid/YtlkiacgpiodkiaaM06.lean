/- Rows of patchs: marked, and held against the marks. Layouts: their size in the law; taken from the law's own type, compared, marked and held. Layouts: what stays in view in the walks of the laws. -/
import Derived.Test.YtlkiacgpiodkiaaM05
import Derived.Test.YtlkiacgpiodkiaaM04

set_option linter.unusedSimpArgs false
set_option linter.unusedVariables false
namespace Go.Proofs.Ytlkiacgpiodkiaa
open Go.ChangeShapes Go.WideShapes Go.ChangeAt Go.RowKit

theorem PatIn.within {lo hi l2 h2 : Nat} {u w : World} {v : Value} {xs : List P5} (r : PatIn l2 h2 u v xs) (h : Within lo hi u w) (ho : h2 ≤ lo ∨ hi ≤ l2) (hh : h2 ≤ u.heap.size) : PatIn l2 h2 w v xs := by
  obtain ⟨hl, r | ⟨g, cap, hv, hcp, hg, hlt, hc⟩⟩ := r
  · exact ⟨hl, .inl r⟩
  · refine ⟨hl, .inr ⟨g, cap, hv, hcp, hg, hlt, fun i hi => ?_⟩⟩
    have hb : w.heap[g]? = u.heap[g]? := h.block g (by omega) (by omega)
    obtain ⟨⟨e0, e1, e2, e3, e4⟩, f0, f1, f2, f3, f4⟩ := hc i hi
    exact ⟨⟨(World.cell?_of_block (w := u) hb).trans e0, (World.cell?_of_block (w := u) hb).trans e1, (World.cell?_of_block (w := u) hb).trans e2, (World.cell?_of_block (w := u) hb).trans e3, (World.cell?_of_block (w := u) hb).trans e4⟩,
      (World.frozen?_of_block (w := u) hb).trans f0, (World.frozen?_of_block (w := u) hb).trans f1, (World.frozen?_of_block (w := u) hb).trans f2, (World.frozen?_of_block (w := u) hb).trans f3, (World.frozen?_of_block (w := u) hb).trans f4⟩

/-- The marks from k on. -/
def markPat (k n : Nat) : List P5 := (List.range n).map fun i => ⟨((k + 5 * i : Nat) : Int), ((k + 5 * i + 1 : Nat) : Int), ((k + 5 * i + 2 : Nat) : Int), ((k + 5 * i + 3 : Nat) : Int), ((k + 5 * i + 4 : Nat) : Int)⟩
theorem markPat_length (k n : Nat) : (markPat k n).length = n := by simp [markPat]
theorem markPat_at {k n i : Nat} (h : i < n) : (markPat k n).getD i P5.zero = ⟨((k + 5 * i : Nat) : Int), ((k + 5 * i + 1 : Nat) : Int), ((k + 5 * i + 2 : Nat) : Int), ((k + 5 * i + 3 : Nat) : Int), ((k + 5 * i + 4 : Nat) : Int)⟩ := by simp [markPat, List.getD, h]

end Go.Proofs.Ytlkiacgpiodkiaa

set_option linter.unusedSimpArgs false
set_option linter.unusedVariables false
namespace Go.Proofs.Ytlkiacgpiodkiaa
open Go.ChangeShapes Go.WideShapes Go.ChangeAt Go.RowKit

/-- A new layout is handed back. -/
def FreshL (m n : Int) (xs : List P5) (w : World) (e : Ending) (w' : World) : Prop := ∃ v, e = .returned (.agg #[.int .i64 m, .int .i64 n, v]) ∧ PatIn w.heap.size w'.heap.size w' v xs ∧ Below w.heap.size w w'

/-- The number behind the last mark. -/
def mkP (xs : List P5) : Int := ((1 + 5 * xs.length : Nat) : Int)
theorem mkP_pos (xs : List P5) : ¬ mkP xs < 0 := by unfold mkP; omega
end Go.Proofs.Ytlkiacgpiodkiaa

set_option linter.unusedSimpArgs false
set_option linter.unusedVariables false
namespace Go.Proofs.Ytlkiacgpiodkiaa
open Go.ChangeShapes Go.WideShapes Go.ChangeAt Go.RowKit

/-- Three places of a layout. -/
def Tri (p : Nat) (x y z : Value) (u : World) : Prop := u.cell? ⟨p, 0, none⟩ = some x ∧ u.cell? ⟨p, 1, none⟩ = some y ∧ u.cell? ⟨p, 2, none⟩ = some z
theorem Tri.keep {p : Nat} {x y z : Value} {u v : World} (h : Tri p x y z u) (hb : Below u.heap.size u v) : Tri p x y z v := ⟨kept hb h.1, kept hb h.2.1, kept hb h.2.2⟩
theorem Tri.new (w : World) (x y z : Value) (T : TypeId) : Tri w.heap.size x y z (w.alloc (.cells #[x, y, z] T)) := ⟨by simp, by simp, by simp⟩
theorem Tri.within {p lo hi : Nat} {x y z : Value} {u v : World} (h : Tri p x y z u) (hb : Within lo hi u v) (ho : p < lo ∨ hi ≤ p) : Tri p x y z v := ⟨hb.cell h.1 ho, hb.cell h.2.1 ho, hb.cell h.2.2 ho⟩
theorem bel_wL {b lo hi : Nat} {w u v : World} (h : Below b w u) (hb : b ≤ w.heap.size) (k : Within lo hi u v) (hl : b ≤ lo) : Below b w v :=
  ⟨k.os.trans h.os, k.tape.trans h.tape, k.output.trans h.output, Nat.le_trans h.size k.size, fun i hi => (k.block i (by have := h.size; omega) (.inl (by omega))).trans (h.block i hi)⟩

end Go.Proofs.Ytlkiacgpiodkiaa
