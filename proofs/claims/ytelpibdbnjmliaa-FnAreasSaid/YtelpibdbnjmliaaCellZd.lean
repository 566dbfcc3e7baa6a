/- Cells: DrawCell. -/
import Derived.Test.YtelpibdbnjmliaaCellV
namespace Go.Proofs.Ytelpibdbnjmliaa
open Go.ChangeShapes Go.WideShapes Go.ChangeAt Go.RowKit

theorem Src.up {w : World} {b b' : Nat} {a : Option Addr} {len : Nat} (h : Src w b a len) (hb : b ≤ b') : Src w b' a len := by
  obtain ⟨hm, h | ⟨xb, xo, ha, hlt, hc⟩⟩ := h
  · exact ⟨hm, .inl h⟩
  · exact ⟨hm, .inr ⟨xb, xo, ha, Nat.lt_of_lt_of_le hlt hb, hc⟩⟩

/-- A valid cell is handed back. -/
def GivenC (w : World) (e : Ending) (w' : World) : Prop :=
  ∃ s x y : Int, OkC s x y ∧ e = .returned (.agg #[.int .i64 s, .int .i64 x, .int .i64 y]) ∧ Below w.heap.size w w'

end Go.Proofs.Ytelpibdbnjmliaa
