/- A relation of worlds: of the old blocks only those of one span may have changed. -/
import Derived.Test.YtboahceibeeifaaBase

set_option linter.unusedSimpArgs false
set_option linter.unusedVariables false
namespace Go.Proofs.Ytboahceibeeifaa
open Go.RowKit

/-- Of the blocks that stood, only those from lo on, below hi, may have changed. -/
structure Within (lo hi : Nat) (w w' : World) : Prop where
  os : w'.os = w.os
  tape : w'.tape = w.tape
  output : w'.output = w.output
  size : w.heap.size ≤ w'.heap.size
  block : ∀ k, k < w.heap.size → (k < lo ∨ hi ≤ k) → w'.heap[k]? = w.heap[k]?
theorem Within.refl (lo hi : Nat) (w : World) : Within lo hi w w := ⟨rfl, rfl, rfl, Nat.le_refl _, fun _ _ _ => rfl⟩
theorem Within.trans {lo hi : Nat} {u v w : World} (h : Within lo hi u v) (k : Within lo hi v w) : Within lo hi u w :=
  ⟨k.os.trans h.os, k.tape.trans h.tape, k.output.trans h.output, Nat.le_trans h.size k.size, fun i hi ho => (k.block i (by have := h.size; omega) ho).trans (h.block i hi ho)⟩
theorem Within.of_below {lo hi : Nat} {u w : World} (h : Below u.heap.size u w) : Within lo hi u w := ⟨h.os, h.tape, h.output, h.size, fun k hk _ => h.block k hk⟩
theorem Within.setCell {lo hi : Nat} {u w : World} (h : Within lo hi u w) {p : Addr} (h0 : lo ≤ p.block) (h1 : p.block < hi) (v : Value) : Within lo hi u (w.setCell p v) :=
  ⟨h.os, h.tape, h.output, by simp [World.setCell]; exact h.size, fun k hk ho => by rw [Below.heap_setCell _ _ _ _ (by omega)]; exact h.block k hk ho⟩
theorem Within.below {lo hi : Nat} {u w : World} (h : Within lo hi u w) (hl : lo ≤ u.heap.size) : Below lo u w := ⟨h.os, h.tape, h.output, h.size, fun k hk => h.block k (by omega) (.inl hk)⟩
theorem Within.cell {lo hi : Nat} {u w : World} (h : Within lo hi u w) {p : Addr} {x : Value} (hc : u.cell? p = some x) (ho : p.block < lo ∨ hi ≤ p.block) : w.cell? p = some x :=
  (World.cell?_of_block (w := u) (h.block p.block (lt_of_cell hc) ho)).trans hc

end Go.Proofs.Ytboahceibeeifaa
