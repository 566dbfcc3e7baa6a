/- Blocks: what a statement leaves that lays a variable and calls. -/
import Derived.Test.YtfidnhhlcdbaeaaBlkN
import Derived.Test.YtfidnhhlcdbaeaaBlkG
namespace Go.Proofs.Ytfidnhhlcdbaeaa
open Go.ChangeShapes Go.WideShapes Go.ChangeAt Go.RowKit

/-- What such a statement leaves: the new variable's block, and the row that it leads to. -/
def WR (n : Int) (ok : Bool) (ys : List C3) (w0 : World) (q t : Value) (wx : World) : Prop :=
  ∃ (p : Nat) (a : Option Addr) (c l h : Nat), q = .pointer (some ⟨p, 0, none⟩) ∧ t = .bool ok ∧ BoxB p (.int .i64 n) (.slice a ys.length c) wx ∧ CellIn l h wx (.slice a ys.length c) ys ∧ (p < l ∨ h ≤ p) ∧ w0.heap.size ≤ l ∧ w0.heap.size ≤ p ∧ h ≤ wx.heap.size ∧ Below w0.heap.size w0 wx
theorem Three.within {p lo hi : Nat} {c : C3} {u v : World} (h : Three p c u) (hb : Within lo hi u v) (ho : p < lo ∨ hi ≤ p) : Three p c v := ⟨hb.cell h.1 ho, hb.cell h.2.1 ho, hb.cell h.2.2 ho⟩
theorem BoxB.two {p : Nat} {x y x' y' : Value} {u : World} (h : BoxB p x y u) : BoxB p x' y' ((u.setCell ⟨p, 0, none⟩ x').setCell ⟨p, 1, none⟩ y') := by
  obtain ⟨h0, h1, h2, h3⟩ := h
  have h1' : (u.setCell ⟨p, 0, none⟩ x').cell? ⟨p, 1, none⟩ = some y := (World.cell?_setCell_other _ _ _ _ (by simp)).trans h1
  exact ⟨(World.cell?_setCell_other _ _ _ _ (by simp)).trans (World.cell?_setCell_same _ _ _ h0), World.cell?_setCell_same _ _ _ h1', by rw [World.frozen?_setCell, World.frozen?_setCell]; exact h2, by rw [World.frozen?_setCell, World.frozen?_setCell]; exact h3⟩
theorem WR.old {n : Int} {ok : Bool} {ys : List C3} {w0 z : World} {a : Option Addr} {c l p : Nat} {x y : Value} (R : CellIn l z.heap.size z (.slice a ys.length c) ys) (b : BoxB p x y z) (B : Below w0.heap.size w0 z) (hl : w0.heap.size ≤ l) (hp : w0.heap.size ≤ p) (hpl : p < l ∨ p < l) :
    WR n ok ys w0 (.pointer (some ⟨p, 0, none⟩)) (.bool ok) ((z.setCell ⟨p, 0, none⟩ (.int .i64 n)).setCell ⟨p, 1, none⟩ (.slice a ys.length c)) :=
  ⟨p, a, c, l, z.heap.size, rfl, rfl, b.two, (R.set_far (by show p < l; omega) _).set_far (by show p < l; omega) _, .inl (by omega), hl, hp, by simp [World.setCell], (B.setCell (p := ⟨p, 0, none⟩) hp _).setCell (p := ⟨p, 1, none⟩) hp _⟩
theorem WR.new {n : Int} {ok : Bool} {ys : List C3} {w0 z : World} {a : Option Addr} {c l : Nat} (R : CellIn l z.heap.size z (.slice a ys.length c) ys) (B : Below w0.heap.size w0 z) (hl : w0.heap.size ≤ l) :
    WR n ok ys w0 (.pointer (some ⟨z.heap.size, 0, none⟩)) (.bool ok) (z.alloc (.cells #[.int .i64 n, .slice a ys.length c] 26)) :=
  ⟨z.heap.size, a, c, l, z.heap.size, rfl, rfl, BoxB.new _ _ _ _, R.below (bel0 _ _), .inr (Nat.le_refl _), hl, B.size, by simp, bel_n B (Nat.le_refl _) _⟩

end Go.Proofs.Ytfidnhhlcdbaeaa
