/- Cells: the model's SplitCell. Contracts of the drawing cursor: each drawing function returns a number of its range and touches the cursor's block alone. Cells: a drawn cell is valid. Blocks: a drawn block is valid. -/
import Derived.Test.YtfidnhhlcdbaeaaDoorM04
import Derived.Test.YtfidnhhlcdbaeaaDoorRows
import Derived.Test.YtfidnhhlcdbaeaaDoorM00
import Derived.WalkKit
import Derived.ProofKit
import Derived.OpenShut
import Derived.WalkSmall
import Derived.BigQuiet
import Derived.Deep.QuietTactic
import Derived.Outline
import Derived.IntWalk
import Derived.Lib.Hide

namespace Go.Proofs.YtfidnhhlcdbaeaaDoor
open Go.ChangeShapes Go.WideShapes Go.ChangeAt Go.RowKit

/-- The parts of SplitCell's answer. -/
def spS (s a b : Int) : Int := if a = b then 0 else if OkC s a b then s else 0
def spA (s a b : Int) : Int := if a = b then wh a else if OkC s a b then a else 0
def spB (s a b : Int) : Int := if a = b then wh a else if OkC s a b then b else 0

theorem sp_same (s a : Int) : spS s a a = 0 ∧ spA s a a = wh a ∧ spB s a a = wh a := ⟨if_pos rfl, if_pos rfl, if_pos rfl⟩
theorem sp_ok {s a b : Int} (h : ¬ a = b) (k : OkC s a b) : spS s a b = s ∧ spA s a b = a ∧ spB s a b = b := by
  unfold spS spA spB
  simp only [if_neg h, if_pos k, and_self]
theorem sp_no {s a b : Int} (h : ¬ a = b) (k : ¬ OkC s a b) : spS s a b = 0 ∧ spA s a b = 0 ∧ spB s a b = 0 := by
  unfold spS spA spB
  simp only [if_neg h, if_neg k, and_self]

theorem SpecSplit_any (s a b : Int) (w : World) :
    Calls Tryd.prog 98 #[.int .i64 s, .int .i64 a, .int .i64 b] w fun e w' => e = .returned (.agg #[.int .i64 (spS s a b), .int .i64 (spA s a b), .int .i64 (spB s a b)]) ∧ Below w.heap.size w w' := by
  by_cases h : a = b
  · subst h
    obtain ⟨e1, e2, e3⟩ := sp_same s a
    rw [e1, e2, e3]
    clear e1 e2 e3
    go_enter Tryd.func98, Tryd.ntmps98
    go_wp2_with (refine (SpecWhole_any _ _).mono ?_; rintro e w' ⟨rfl, rfl⟩)
    exact bodyPost_ret (v := .agg #[.int .i64 0, .int .i64 (wh a), .int .i64 (wh a)]) (by simp [results, Tryd.results98, go_sem]) rfl ⟨rfl, ((Below.refl _ _).alloc (Nat.le_refl _) _).alloc (by simp) _⟩
  · by_cases k : OkC s a b
    · obtain ⟨e1, e2, e3⟩ := sp_ok h k
      rw [e1, e2, e3]
      clear e1 e2 e3
      have k' := Lib.hid (decide_eq_true k)
      clear k
      go_enter Tryd.func98, Tryd.ntmps98
      go_wp2_with (refine (SpecOk_any _ _ _ _).mono ?_; rw [k'.out]; rintro e w' ⟨rfl, rfl⟩)
      exact bodyPost_ret (v := .agg #[.int .i64 s, .int .i64 a, .int .i64 b]) (by simp [results, Tryd.results98, go_sem]) rfl ⟨rfl, (((Below.refl _ _).alloc (Nat.le_refl _) _).alloc (by simp) _).alloc (by simp; omega) _⟩
    · obtain ⟨e1, e2, e3⟩ := sp_no h k
      rw [e1, e2, e3]
      clear e1 e2 e3
      have k' := Lib.hid (decide_eq_false k)
      clear k
      go_enter Tryd.func98, Tryd.ntmps98
      go_wp2_with (refine (SpecOk_any _ _ _ _).mono ?_; rw [k'.out]; rintro e w' ⟨rfl, rfl⟩)
      exact bodyPost_ret (v := .agg #[.int .i64 0, .int .i64 0, .int .i64 0]) (by simp [results, Tryd.results98, go_sem]) rfl ⟨rfl, (((Below.refl _ _).alloc (Nat.le_refl _) _).alloc (by simp) _).alloc (by simp; omega) _⟩

end Go.Proofs.YtfidnhhlcdbaeaaDoor

namespace Go.Proofs.YtfidnhhlcdbaeaaDoor
open Go.ChangeShapes Go.WideShapes Go.ChangeAt Go.RowKit

end Go.Proofs.YtfidnhhlcdbaeaaDoor

namespace Go.Proofs.YtfidnhhlcdbaeaaDoor
open Go.ChangeShapes Go.WideShapes Go.ChangeAt Go.RowKit

theorem ok_zero : OkC 0 0 0 := by unfold OkC; omega
theorem sp_valid (s a b : Int) : OkC (spS s a b) (spA s a b) (spB s a b) := by
  by_cases h : a = b
  · subst h
    obtain ⟨e1, e2, e3⟩ := sp_same s a
    rw [e1, e2, e3]
    unfold wh OkC
    split <;> omega
  · by_cases k : OkC s a b
    · obtain ⟨e1, e2, e3⟩ := sp_ok h k
      rw [e1, e2, e3]; exact k
    · obtain ⟨e1, e2, e3⟩ := sp_no h k
      rw [e1, e2, e3]; exact ok_zero
/-- A valid cell is what SplitCell makes of its parts. -/
theorem sp_self {s a b : Int} (k : OkC s a b) : spS s a b = s ∧ spA s a b = a ∧ spB s a b = b := by
  by_cases h : a = b
  · subst h
    obtain ⟨e1, e2, e3⟩ := sp_same s a
    rw [e1, e2, e3]
    unfold OkC at k
    exact ⟨by omega, wh_yes (by omega), wh_yes (by omega)⟩
  · exact sp_ok h k

/-- A valid cell is handed back; the cursor goes on. -/
def DrawnC (b : Nat) (a : Option Addr) (len cap : Nat) (w : World) (e : Ending) (w' : World) : Prop :=
  ∃ s x y : Int, OkC s x y ∧ e = .returned (.agg #[.int .i64 s, .int .i64 x, .int .i64 y]) ∧ Cur w' b a len cap ∧ But b w w'

end Go.Proofs.YtfidnhhlcdbaeaaDoor

namespace Go.Proofs.YtfidnhhlcdbaeaaDoor
open Go.ChangeShapes Go.WideShapes Go.ChangeAt Go.RowKit

theorem CellIn.but {lo hi b : Nat} {w w' : World} {v : Value} {xs : List C3} (h : CellIn lo hi w v xs) (hb : But b w w') (hl : b < lo) (hh : hi ≤ w.heap.size) : CellIn lo hi w' v xs := by
  obtain ⟨hl', h | ⟨g, cap, hv, hg, hlt, hc⟩⟩ := h
  · exact ⟨hl', .inl h⟩
  · refine ⟨hl', .inr ⟨g, cap, hv, hg, hlt, fun i hi => ?_⟩⟩
    have hg1 : g < w.heap.size := by omega
    have hg2 : g ≠ b := by omega
    obtain ⟨⟨e0, e1, e2⟩, f0, f1, f2⟩ := hc i hi
    exact ⟨⟨(hb.cell (p := ⟨g, _, none⟩) hg1 hg2).trans e0, (hb.cell (p := ⟨g, _, none⟩) hg1 hg2).trans e1, (hb.cell (p := ⟨g, _, none⟩) hg1 hg2).trans e2⟩,
      (hb.frozen (p := ⟨g, _, none⟩) hg1 hg2).trans f0, (hb.frozen (p := ⟨g, _, none⟩) hg1 hg2).trans f1, (hb.frozen (p := ⟨g, _, none⟩) hg1 hg2).trans f2⟩

/-- A block's two places: what they hold, and that they may be written. -/
def BoxB (p : Nat) (x y : Value) (u : World) : Prop := u.cell? ⟨p, 0, none⟩ = some x ∧ u.cell? ⟨p, 1, none⟩ = some y ∧ u.frozen? ⟨p, 0, none⟩ = false ∧ u.frozen? ⟨p, 1, none⟩ = false
theorem BoxB.lt {p : Nat} {x y : Value} {u : World} (h : BoxB p x y u) : p < u.heap.size := lt_of_cell h.1
theorem BoxB.but {p b : Nat} {x y : Value} {u w : World} (h : BoxB p x y u) (hb : But b u w) (hp : p ≠ b) : BoxB p x y w := by
  have hl := h.lt
  obtain ⟨h0, h1, h2, h3⟩ := h
  exact ⟨(hb.cell (p := ⟨p, 0, none⟩) hl hp).trans h0, (hb.cell (p := ⟨p, 1, none⟩) hl hp).trans h1, (hb.frozen (p := ⟨p, 0, none⟩) hl hp).trans h2, (hb.frozen (p := ⟨p, 1, none⟩) hl hp).trans h3⟩
theorem BoxB.below {p B : Nat} {x y : Value} {u w : World} (h : BoxB p x y u) (hb : Below B u w) (hp : p < B) : BoxB p x y w := by
  obtain ⟨h0, h1, h2, h3⟩ := h
  exact ⟨(hb.cell (p := ⟨p, 0, none⟩) hp).trans h0, (hb.cell (p := ⟨p, 1, none⟩) hp).trans h1, (hb.frozen (p := ⟨p, 0, none⟩) hp).trans h2, (hb.frozen (p := ⟨p, 1, none⟩) hp).trans h3⟩
theorem BoxB.new (w : World) (x y : Value) (T : TypeId) : BoxB w.heap.size x y (w.alloc (.cells #[x, y] T)) := ⟨by simp, by simp, by simp, by simp⟩

theorem BoxB.store {p : Nat} {x y : Value} {u : World} (h : BoxB p x y u) (z : Value) : BoxB p x z (u.setCell ⟨p, 1, none⟩ z) := by
  obtain ⟨h0, h1, h2, h3⟩ := h
  exact ⟨(World.cell?_setCell_other _ _ _ _ (by simp)).trans h0, World.cell?_setCell_same _ _ _ h1, (World.frozen?_setCell _ _ _ _).trans h2, (World.frozen?_setCell _ _ _ _).trans h3⟩
theorem BoxB.set_far {p q o : Nat} {x y : Value} {u : World} (h : BoxB p x y u) (hq : q ≠ p) (z : Value) : BoxB p x y (u.setCell ⟨q, o, none⟩ z) := by
  obtain ⟨h0, h1, h2, h3⟩ := h
  have hn : ∀ i : Nat, (⟨q, o, none⟩ : Addr) ≠ ⟨p, i, none⟩ := by intro i; simp
  exact ⟨(World.cell?_setCell_other _ _ _ _ (hn _)).trans h0, (World.cell?_setCell_other _ _ _ _ (hn _)).trans h1, (World.frozen?_setCell _ _ _ _).trans h2, (World.frozen?_setCell _ _ _ _).trans h3⟩

/-- A valid block is handed back; the cursor goes on. -/
def DrawnB2 (b : Nat) (a : Option Addr) (len cap : Nat) (w : World) (e : Ending) (w' : World) : Prop :=
  ∃ (n : Int) (v : Value) (xs : List C3), BlkOk n xs ∧ e = .returned (.agg #[.int .i64 n, v]) ∧ CellIn w.heap.size w'.heap.size w' v xs ∧ Cur w' b a len cap ∧ But b w w'

theorem add1 {x : Int} (h : 0 ≤ x ∧ x < 4) : IntKind.i64.wrap (1 + x) = 1 + x := by rw [IntKind.wrap_i64]; omega

theorem plain_ok {n a : Int} (h : PlOk n a) : BlkOk n (plC n a) := by
  rw [(pl_yes h).2.1]
  obtain ⟨hn, ha⟩ := h
  have s := (sq_wrap hn.1 hn.2).2.1
  refine ⟨hn, ?_, ?_⟩
  · rw [List.length_replicate]; omega
  · intro c hc
    have := (List.mem_replicate.1 hc).2
    subst this
    unfold C3.Ok OkC
    simp; omega

end Go.Proofs.YtfidnhhlcdbaeaaDoor
