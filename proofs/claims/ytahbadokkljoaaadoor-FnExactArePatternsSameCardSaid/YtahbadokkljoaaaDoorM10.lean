/- Contracts of the drawing cursor: each drawing function returns a number of its range and touches the cursor's block alone. Cells: a drawn cell is valid. Blocks: a drawn block is valid. Rows of integers that begin anywhere in a block. -/
import Derived.Test.YtahbadokkljoaaaDoorRows
import Derived.Test.YtahbadokkljoaaaDoorM00
import Derived.WalkKit
import Derived.ProofKit
import Derived.OpenShut
import Derived.WalkSmall
import Derived.BigQuiet
import Derived.Deep.QuietTactic
import Derived.Outline
import Derived.IntWalk
import Derived.Lib.Hide
import Derived.Test.YtahbadokkljoaaaDoorM03
import Derived.Test.YtahbadokkljoaaaDoorM09
import Derived.Test.YtahbadokkljoaaaDoorM02

namespace Go.Proofs.YtahbadokkljoaaaDoor
open Go.ChangeShapes Go.WideShapes Go.ChangeAt Go.RowKit

end Go.Proofs.YtahbadokkljoaaaDoor

namespace Go.Proofs.YtahbadokkljoaaaDoor
open Go.ChangeShapes Go.WideShapes Go.ChangeAt Go.RowKit

theorem ok_zero : OkC 0 0 0 := by unfold OkC; omega
theorem sp_valid (s a b : Int) : OkC (spS s a b) (spA s a b) (spB s a b) := by
  by_cases h : a = b
  · subst h
    obtain ⟨e1, e2, e3⟩ := sp_same s a
    rw [e1, e2, e3]
    unfold wh OkC
    split <;> omega
  · by_cases k : OkC s a b
    · obtain ⟨e1, e2, e3⟩ := sp_ok h k
      rw [e1, e2, e3]; exact k
    · obtain ⟨e1, e2, e3⟩ := sp_no h k
      rw [e1, e2, e3]; exact ok_zero
/-- A valid cell is what SplitCell makes of its parts. -/
theorem sp_self {s a b : Int} (k : OkC s a b) : spS s a b = s ∧ spA s a b = a ∧ spB s a b = b := by
  by_cases h : a = b
  · subst h
    obtain ⟨e1, e2, e3⟩ := sp_same s a
    rw [e1, e2, e3]
    unfold OkC at k
    exact ⟨by omega, wh_yes (by omega), wh_yes (by omega)⟩
  · exact sp_ok h k

/-- A valid cell is handed back; the cursor goes on. -/
def DrawnC (b : Nat) (a : Option Addr) (len cap : Nat) (w : World) (e : Ending) (w' : World) : Prop :=
  ∃ s x y : Int, OkC s x y ∧ e = .returned (.agg #[.int .i64 s, .int .i64 x, .int .i64 y]) ∧ Cur w' b a len cap ∧ But b w w'

end Go.Proofs.YtahbadokkljoaaaDoor

namespace Go.Proofs.YtahbadokkljoaaaDoor
open Go.ChangeShapes Go.WideShapes Go.ChangeAt Go.RowKit

theorem CellIn.but {lo hi b : Nat} {w w' : World} {v : Value} {xs : List C3} (h : CellIn lo hi w v xs) (hb : But b w w') (hl : b < lo) (hh : hi ≤ w.heap.size) : CellIn lo hi w' v xs := by
  obtain ⟨hl', h | ⟨g, cap, hv, hg, hlt, hc⟩⟩ := h
  · exact ⟨hl', .inl h⟩
  · refine ⟨hl', .inr ⟨g, cap, hv, hg, hlt, fun i hi => ?_⟩⟩
    have hg1 : g < w.heap.size := by omega
    have hg2 : g ≠ b := by omega
    obtain ⟨⟨e0, e1, e2⟩, f0, f1, f2⟩ := hc i hi
    exact ⟨⟨(hb.cell (p := ⟨g, _, none⟩) hg1 hg2).trans e0, (hb.cell (p := ⟨g, _, none⟩) hg1 hg2).trans e1, (hb.cell (p := ⟨g, _, none⟩) hg1 hg2).trans e2⟩,
      (hb.frozen (p := ⟨g, _, none⟩) hg1 hg2).trans f0, (hb.frozen (p := ⟨g, _, none⟩) hg1 hg2).trans f1, (hb.frozen (p := ⟨g, _, none⟩) hg1 hg2).trans f2⟩

/-- A block's two places: what they hold, and that they may be written. -/
def BoxB (p : Nat) (x y : Value) (u : World) : Prop := u.cell? ⟨p, 0, none⟩ = some x ∧ u.cell? ⟨p, 1, none⟩ = some y ∧ u.frozen? ⟨p, 0, none⟩ = false ∧ u.frozen? ⟨p, 1, none⟩ = false
theorem BoxB.lt {p : Nat} {x y : Value} {u : World} (h : BoxB p x y u) : p < u.heap.size := lt_of_cell h.1
theorem BoxB.but {p b : Nat} {x y : Value} {u w : World} (h : BoxB p x y u) (hb : But b u w) (hp : p ≠ b) : BoxB p x y w := by
  have hl := h.lt
  obtain ⟨h0, h1, h2, h3⟩ := h
  exact ⟨(hb.cell (p := ⟨p, 0, none⟩) hl hp).trans h0, (hb.cell (p := ⟨p, 1, none⟩) hl hp).trans h1, (hb.frozen (p := ⟨p, 0, none⟩) hl hp).trans h2, (hb.frozen (p := ⟨p, 1, none⟩) hl hp).trans h3⟩
theorem BoxB.below {p B : Nat} {x y : Value} {u w : World} (h : BoxB p x y u) (hb : Below B u w) (hp : p < B) : BoxB p x y w := by
  obtain ⟨h0, h1, h2, h3⟩ := h
  exact ⟨(hb.cell (p := ⟨p, 0, none⟩) hp).trans h0, (hb.cell (p := ⟨p, 1, none⟩) hp).trans h1, (hb.frozen (p := ⟨p, 0, none⟩) hp).trans h2, (hb.frozen (p := ⟨p, 1, none⟩) hp).trans h3⟩
theorem BoxB.new (w : World) (x y : Value) (T : TypeId) : BoxB w.heap.size x y (w.alloc (.cells #[x, y] T)) := ⟨by simp, by simp, by simp, by simp⟩

theorem BoxB.store {p : Nat} {x y : Value} {u : World} (h : BoxB p x y u) (z : Value) : BoxB p x z (u.setCell ⟨p, 1, none⟩ z) := by
  obtain ⟨h0, h1, h2, h3⟩ := h
  exact ⟨(World.cell?_setCell_other _ _ _ _ (by simp)).trans h0, World.cell?_setCell_same _ _ _ h1, (World.frozen?_setCell _ _ _ _).trans h2, (World.frozen?_setCell _ _ _ _).trans h3⟩
theorem BoxB.set_far {p q o : Nat} {x y : Value} {u : World} (h : BoxB p x y u) (hq : q ≠ p) (z : Value) : BoxB p x y (u.setCell ⟨q, o, none⟩ z) := by
  obtain ⟨h0, h1, h2, h3⟩ := h
  have hn : ∀ i : Nat, (⟨q, o, none⟩ : Addr) ≠ ⟨p, i, none⟩ := by intro i; simp
  exact ⟨(World.cell?_setCell_other _ _ _ _ (hn _)).trans h0, (World.cell?_setCell_other _ _ _ _ (hn _)).trans h1, (World.frozen?_setCell _ _ _ _).trans h2, (World.frozen?_setCell _ _ _ _).trans h3⟩

/-- A valid block is handed back; the cursor goes on. -/
def DrawnB2 (b : Nat) (a : Option Addr) (len cap : Nat) (w : World) (e : Ending) (w' : World) : Prop :=
  ∃ (n : Int) (v : Value) (xs : List C3), BlkOk n xs ∧ e = .returned (.agg #[.int .i64 n, v]) ∧ CellIn w.heap.size w'.heap.size w' v xs ∧ Cur w' b a len cap ∧ But b w w'

theorem add1 {x : Int} (h : 0 ≤ x ∧ x < 4) : IntKind.i64.wrap (1 + x) = 1 + x := by rw [IntKind.wrap_i64]; omega

theorem plain_ok {n a : Int} (h : PlOk n a) : BlkOk n (plC n a) := by
  rw [(pl_yes h).2.1]
  obtain ⟨hn, ha⟩ := h
  have s := (sq_wrap hn.1 hn.2).2.1
  refine ⟨hn, ?_, ?_⟩
  · rw [List.length_replicate]; omega
  · intro c hc
    have := (List.mem_replicate.1 hc).2
    subst this
    unfold C3.Ok OkC
    simp; omega

end Go.Proofs.YtahbadokkljoaaaDoor

namespace Go.Proofs.YtahbadokkljoaaaDoor
open Go.ChangeShapes Go.WideShapes Go.ChangeAt Go.RowKit

/-- A slice of ints in a block from lo on, below hi, from some place on. -/
def IntO (lo hi : Nat) (w : World) (v : Value) (zs : List Int) : Prop :=
  zs.length ≤ 1048576 ∧ ((zs = [] ∧ ∃ a c, v = .slice a 0 c) ∨
    ∃ g o cap, v = .slice (some ⟨g, o, none⟩) zs.length cap ∧ lo ≤ g ∧ g < hi ∧ ∀ i, i < zs.length → w.cell? ⟨g, o + i, none⟩ = some (.int .i64 (zs.getD i 0)) ∧ w.frozen? ⟨g, o + i, none⟩ = false)
theorem IntO.below {lo hi : Nat} {w w' : World} {v : Value} {zs : List Int} (h : IntO lo hi w v zs) (hb : Below hi w w') : IntO lo hi w' v zs := by
  obtain ⟨hl, h | ⟨g, o, cap, hv, hg, hlt, hc⟩⟩ := h
  · exact ⟨hl, .inl h⟩
  · exact ⟨hl, .inr ⟨g, o, cap, hv, hg, hlt, fun i hi => ⟨(hb.cell (p := ⟨g, o + i, none⟩) hlt).trans (hc i hi).1, (hb.frozen (p := ⟨g, o + i, none⟩) hlt).trans (hc i hi).2⟩⟩⟩
theorem IntO.wide {lo hi lo' hi' : Nat} {w : World} {v : Value} {zs : List Int} (h : IntO lo hi w v zs) (h1 : lo' ≤ lo) (h2 : hi ≤ hi') : IntO lo' hi' w v zs := by
  obtain ⟨hl, h | ⟨g, o, cap, hv, hg, hlt, hc⟩⟩ := h
  · exact ⟨hl, .inl h⟩
  · exact ⟨hl, .inr ⟨g, o, cap, hv, by omega, by omega, hc⟩⟩
theorem IntO.form {lo hi : Nat} {w : World} {v : Value} {zs : List Int} (h : IntO lo hi w v zs) : ∃ a cap, v = .slice a zs.length cap := by
  obtain ⟨_, ⟨rfl, a, c, hv⟩ | ⟨g, o, cap, hv, _⟩⟩ := h
  · exact ⟨a, c, hv⟩
  · exact ⟨_, _, hv⟩
theorem IntO.at {lo hi : Nat} {w w' : World} {a : Option Addr} {n cap : Nat} {zs : List Int} (h : IntO lo hi w (.slice a n cap) zs) (hb : Below hi w w') {i : Nat} (hi' : i < zs.length) :
    ∃ g o, a = some ⟨g, o, none⟩ ∧ lo ≤ g ∧ g < hi ∧ w'.cell? ⟨g, o + i, none⟩ = some (.int .i64 (zs.getD i 0)) ∧ w'.frozen? ⟨g, o + i, none⟩ = false := by
  obtain ⟨_, ⟨rfl, _⟩ | ⟨g, o, cap, hv, hg, hlt, hc⟩⟩ := h
  · simp at hi'
  · simp only [Value.slice.injEq] at hv
    exact ⟨g, o, hv.1, hg, hlt, (hb.cell (p := ⟨g, o + i, none⟩) hlt).trans (hc i hi').1, (hb.frozen (p := ⟨g, o + i, none⟩) hlt).trans (hc i hi').2⟩
theorem IntIn.o {lo hi : Nat} {w : World} {v : Value} {zs : List Int} (h : IntIn lo hi w v zs) : IntO lo hi w v zs := by
  obtain ⟨hl, h | ⟨g, cap, hv, hg, hlt, hc⟩⟩ := h
  · exact ⟨hl, .inl h⟩
  · exact ⟨hl, .inr ⟨g, 0, cap, hv, hg, hlt, fun i hi => by rw [Nat.zero_add]; exact hc i hi⟩⟩

end Go.Proofs.YtahbadokkljoaaaDoor
