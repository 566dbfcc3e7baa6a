/- Blocks: their size in the law, and taken from the law's own type. -/
import Derived.Test.YtboahceibeeifaaBlkT

set_option linter.unusedSimpArgs false
set_option linter.unusedVariables false
namespace Go.Proofs.Ytboahceibeeifaa
open Go.ChangeShapes Go.WideShapes Go.ChangeAt Go.RowKit

theorem bel0 (w : World) (o : Obj) : Below w.heap.size w (w.alloc o) := (Below.refl _ _).alloc (Nat.le_refl _) o
theorem bel_n {b : Nat} {w u : World} (h : Below b w u) (hb : b ≤ w.heap.size) (o : Obj) : Below b w (u.alloc o) := h.alloc (Nat.le_trans hb h.size) _
theorem bel_c {b : Nat} {w u v : World} (h : Below b w u) (hb : b ≤ w.heap.size) (k : Below u.heap.size u v) : Below b w v := h.trans (k.mono (Nat.le_trans hb h.size))
theorem kept {u v : World} {p : Addr} {x : Value} (hb : Below u.heap.size u v) (h : u.cell? p = some x) : v.cell? p = some x :=
  (World.cell?_of_block (hb.block p.block (lt_of_cell h))).trans h
theorem keptF {u v : World} {p : Addr} {x : Value} (hb : Below u.heap.size u v) (h : u.cell? p = some x) (hf : u.frozen? p = false) : v.frozen? p = false :=
  (World.frozen?_of_block (hb.block p.block (lt_of_cell h))).trans hf

/-- A new block is handed back. -/
def FreshB (n : Int) (xs : List C3) (w : World) (e : Ending) (w' : World) : Prop := ∃ v, e = .returned (.agg #[.int .i64 n, v]) ∧ CellIn w.heap.size w'.heap.size w' v xs ∧ Below w.heap.size w w'

end Go.Proofs.Ytboahceibeeifaa
