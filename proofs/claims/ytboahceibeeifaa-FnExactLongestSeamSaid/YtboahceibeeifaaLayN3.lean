/- Layouts: what stays in view in the walks of the laws. -/
import Derived.Test.YtboahceibeeifaaLayZ
set_option linter.unusedSimpArgs false
set_option linter.unusedVariables false
namespace Go.Proofs.Ytboahceibeeifaa
open Go.ChangeShapes Go.WideShapes Go.ChangeAt Go.RowKit

/-- Three places of a layout. -/
def Tri (p : Nat) (x y z : Value) (u : World) : Prop := u.cell? ⟨p, 0, none⟩ = some x ∧ u.cell? ⟨p, 1, none⟩ = some y ∧ u.cell? ⟨p, 2, none⟩ = some z
theorem Tri.keep {p : Nat} {x y z : Value} {u v : World} (h : Tri p x y z u) (hb : Below u.heap.size u v) : Tri p x y z v := ⟨kept hb h.1, kept hb h.2.1, kept hb h.2.2⟩
theorem Tri.new (w : World) (x y z : Value) (T : TypeId) : Tri w.heap.size x y z (w.alloc (.cells #[x, y, z] T)) := ⟨by simp, by simp, by simp⟩
theorem Tri.within {p lo hi : Nat} {x y z : Value} {u v : World} (h : Tri p x y z u) (hb : Within lo hi u v) (ho : p < lo ∨ hi ≤ p) : Tri p x y z v := ⟨hb.cell h.1 ho, hb.cell h.2.1 ho, hb.cell h.2.2 ho⟩
theorem bel_wL {b lo hi : Nat} {w u v : World} (h : Below b w u) (hb : b ≤ w.heap.size) (k : Within lo hi u v) (hl : b ≤ lo) : Below b w v :=
  ⟨k.os.trans h.os, k.tape.trans h.tape, k.output.trans h.output, Nat.le_trans h.size k.size, fun i hi => (k.block i (by have := h.size; omega) (.inl (by omega))).trans (h.block i hi)⟩

end Go.Proofs.Ytboahceibeeifaa
