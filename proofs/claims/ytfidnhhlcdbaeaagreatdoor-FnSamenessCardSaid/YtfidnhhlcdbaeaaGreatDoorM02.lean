/- Rows of cells, and blocks: compared. A relation of worlds: of the old blocks only those of one span may have changed. Rows of cells, and blocks: marked, and held against the marks. Blocks: marks from one on; what stays in view in the walks of the laws. -/
import Derived.Test.YtfidnhhlcdbaeaaGreatDoorM01
import Derived.Deep.RegionHeld3
import Derived.Test.YtfidnhhlcdbaeaaGreatDoorM00

namespace Go.Proofs.YtfidnhhlcdbaeaaGreatDoor
open Go.ChangeShapes Go.WideShapes Go.ChangeAt Go.RowKit

end Go.Proofs.YtfidnhhlcdbaeaaGreatDoor

namespace Go.Proofs.YtfidnhhlcdbaeaaGreatDoor
open Go.RowKit

/-- Of the blocks that stood, only those from lo on, below hi, may have changed. -/
structure Within (lo hi : Nat) (w w' : World) : Prop where
  os : w'.os = w.os
  tape : w'.tape = w.tape
  output : w'.output = w.output
  size : w.heap.size ≤ w'.heap.size
  block : ∀ k, k < w.heap.size → (k < lo ∨ hi ≤ k) → w'.heap[k]? = w.heap[k]?
theorem Within.refl (lo hi : Nat) (w : World) : Within lo hi w w := ⟨rfl, rfl, rfl, Nat.le_refl _, fun _ _ _ => rfl⟩
theorem Within.trans {lo hi : Nat} {u v w : World} (h : Within lo hi u v) (k : Within lo hi v w) : Within lo hi u w :=
  ⟨k.os.trans h.os, k.tape.trans h.tape, k.output.trans h.output, Nat.le_trans h.size k.size, fun i hi ho => (k.block i (by have := h.size; omega) ho).trans (h.block i hi ho)⟩
theorem Within.of_below {lo hi : Nat} {u w : World} (h : Below u.heap.size u w) : Within lo hi u w := ⟨h.os, h.tape, h.output, h.size, fun k hk _ => h.block k hk⟩
theorem Within.setCell {lo hi : Nat} {u w : World} (h : Within lo hi u w) {p : Addr} (h0 : lo ≤ p.block) (h1 : p.block < hi) (v : Value) : Within lo hi u (w.setCell p v) :=
  ⟨h.os, h.tape, h.output, by simp [World.setCell]; exact h.size, fun k hk ho => by rw [Below.heap_setCell _ _ _ _ (by omega)]; exact h.block k hk ho⟩
theorem Within.below {lo hi : Nat} {u w : World} (h : Within lo hi u w) (hl : lo ≤ u.heap.size) : Below lo u w := ⟨h.os, h.tape, h.output, h.size, fun k hk => h.block k (by omega) (.inl hk)⟩
theorem Within.cell {lo hi : Nat} {u w : World} (h : Within lo hi u w) {p : Addr} {x : Value} (hc : u.cell? p = some x) (ho : p.block < lo ∨ hi ≤ p.block) : w.cell? p = some x :=
  (World.cell?_of_block (w := u) (h.block p.block (lt_of_cell hc) ho)).trans hc

end Go.Proofs.YtfidnhhlcdbaeaaGreatDoor

namespace Go.Proofs.YtfidnhhlcdbaeaaGreatDoor
open Go.ChangeShapes Go.WideShapes Go.ChangeAt Go.RowKit

theorem CellIn.within {lo hi l2 h2 : Nat} {u w : World} {v : Value} {xs : List C3} (r : CellIn l2 h2 u v xs) (h : Within lo hi u w) (ho : h2 ≤ lo ∨ hi ≤ l2) (hh : h2 ≤ u.heap.size) : CellIn l2 h2 w v xs := by
  obtain ⟨hl, r | ⟨g, cap, hv, hg, hlt, hc⟩⟩ := r
  · exact ⟨hl, .inl r⟩
  · refine ⟨hl, .inr ⟨g, cap, hv, hg, hlt, fun i hi => ?_⟩⟩
    have hb : w.heap[g]? = u.heap[g]? := h.block g (by omega) (by omega)
    obtain ⟨⟨e0, e1, e2⟩, f0, f1, f2⟩ := hc i hi
    exact ⟨⟨(World.cell?_of_block (w := u) hb).trans e0, (World.cell?_of_block (w := u) hb).trans e1, (World.cell?_of_block (w := u) hb).trans e2⟩,
      (World.frozen?_of_block (w := u) hb).trans f0, (World.frozen?_of_block (w := u) hb).trans f1, (World.frozen?_of_block (w := u) hb).trans f2⟩

/-- The marks from k on. -/
def markC (k n : Nat) : List C3 := (List.range n).map fun i => ⟨((k + 3 * i : Nat) : Int), ((k + 3 * i + 1 : Nat) : Int), ((k + 3 * i + 2 : Nat) : Int)⟩
theorem markC_length (k n : Nat) : (markC k n).length = n := by simp [markC]
theorem markC_at {k n i : Nat} (h : i < n) : (markC k n).getD i C3.zero = ⟨((k + 3 * i : Nat) : Int), ((k + 3 * i + 1 : Nat) : Int), ((k + 3 * i + 2 : Nat) : Int)⟩ := by simp [markC, List.getD, h]

end Go.Proofs.YtfidnhhlcdbaeaaGreatDoor

namespace Go.Proofs.YtfidnhhlcdbaeaaGreatDoor
open Go.ChangeShapes Go.WideShapes Go.ChangeAt Go.RowKit

/-- The number behind the last mark. -/
def mkN (xs : List C3) : Int := ((1 + 3 * xs.length : Nat) : Int)
theorem mkN_pos (xs : List C3) : ¬ mkN xs < 0 := by unfold mkN; omega
/-- Two places of a block. -/
def Two (p : Nat) (x y : Value) (u : World) : Prop := u.cell? ⟨p, 0, none⟩ = some x ∧ u.cell? ⟨p, 1, none⟩ = some y
theorem Two.keep {p : Nat} {x y : Value} {u v : World} (h : Two p x y u) (hb : Below u.heap.size u v) : Two p x y v := ⟨kept hb h.1, kept hb h.2⟩
theorem Two.new (w : World) (x y : Value) (T : TypeId) : Two w.heap.size x y (w.alloc (.cells #[x, y] T)) := ⟨by simp, by simp⟩
theorem Two.within {p lo hi : Nat} {x y : Value} {u v : World} (h : Two p x y u) (hb : Within lo hi u v) (ho : p < lo ∨ hi ≤ p) : Two p x y v := ⟨hb.cell h.1 ho, hb.cell h.2 ho⟩
def Three (p : Nat) (c : C3) (u : World) : Prop := u.cell? ⟨p, 0, none⟩ = some (.int .i64 c.s) ∧ u.cell? ⟨p, 1, none⟩ = some (.int .i64 c.a) ∧ u.cell? ⟨p, 2, none⟩ = some (.int .i64 c.b)
theorem Three.keep {p : Nat} {c : C3} {u v : World} (h : Three p c u) (hb : Below u.heap.size u v) : Three p c v := ⟨kept hb h.1, kept hb h.2.1, kept hb h.2.2⟩
theorem Three.new (w : World) (c : C3) (T : TypeId) : Three w.heap.size c (w.alloc (.cells #[.int .i64 c.s, .int .i64 c.a, .int .i64 c.b] T)) := by
  refine ⟨?_, ?_, ?_⟩ <;> simp
theorem bel_w {b lo hi : Nat} {w u v : World} (h : Below b w u) (hb : b ≤ w.heap.size) (k : Within lo hi u v) (hl : b ≤ lo) : Below b w v :=
  ⟨k.os.trans h.os, k.tape.trans h.tape, k.output.trans h.output, Nat.le_trans h.size k.size, fun i hi => (k.block i (by have := h.size; omega) (.inl (by omega))).trans (h.block i hi)⟩

end Go.Proofs.YtfidnhhlcdbaeaaGreatDoor
