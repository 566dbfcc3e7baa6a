/- Blocks: the model's WithCell. -/
import Derived.Test.YtfidnhhlcdbaeaaBlkC
import Derived.Test.YtfidnhhlcdbaeaaBlkK
namespace Go.Proofs.Ytfidnhhlcdbaeaa
open Go.ChangeShapes Go.WideShapes Go.ChangeAt Go.RowKit

theorem SpecOk_yes (s a b : Int) (w : World) (k : OkC s a b) :
    Calls Try.prog 28 #[.agg #[.int .i64 s, .int .i64 a, .int .i64 b]] w fun e w' => e = .returned (.bool true) ∧ Below w.heap.size w w' := by
  refine (SpecOk_any s a b w).mono ?_
  rintro e w' ⟨rfl, rfl⟩
  exact ⟨ret_bool (decide_eq_true k), bel0 _ _⟩
theorem SpecOk_no (s a b : Int) (w : World) (k : ¬ OkC s a b) :
    Calls Try.prog 28 #[.agg #[.int .i64 s, .int .i64 a, .int .i64 b]] w fun e w' => e = .returned (.bool false) ∧ Below w.heap.size w w' := by
  refine (SpecOk_any s a b w).mono ?_
  rintro e w' ⟨rfl, rfl⟩
  exact ⟨ret_bool (decide_eq_false k), bel0 _ _⟩

/-- A new block and a truth value are handed back. -/
def FreshBB (n : Int) (ys : List C3) (ok : Bool) (w : World) (e : Ending) (w' : World) : Prop := ∃ v, e = .returned (.tuple #[.agg #[.int .i64 n, v], .bool ok]) ∧ CellIn w.heap.size w'.heap.size w' v ys ∧ Below w.heap.size w w'
/-- What WithCell makes. -/
noncomputable def withC (n : Int) (xs : List C3) (x y : Int) (c : C3) : List C3 := @ite _ (BlkOk n xs ∧ c.Ok ∧ InB n x y) (Classical.propDecidable _) (xs.set (y * n + x).toNat c) xs
noncomputable def withB (n : Int) (xs : List C3) (x y : Int) (c : C3) : Bool := @decide (BlkOk n xs ∧ c.Ok ∧ InB n x y) (Classical.propDecidable _)
theorem with_yes {n : Int} {xs : List C3} {x y : Int} {c : C3} (h : BlkOk n xs ∧ c.Ok ∧ InB n x y) : withC n xs x y c = xs.set (y * n + x).toNat c ∧ withB n xs x y c = true := ⟨if_pos h, by unfold withB; simp [h]⟩
theorem with_no {n : Int} {xs : List C3} {x y : Int} {c : C3} (h : ¬ (BlkOk n xs ∧ c.Ok ∧ InB n x y)) : withC n xs x y c = xs ∧ withB n xs x y c = false := ⟨if_neg h, by unfold withB; simp [h]⟩

/-- What the walk keeps in view: the argument's box, the cell's, the answer's, the copy's. -/
def SW (p q : Nat) (n s a b : Int) (sl cp : Value) (u : World) : Prop :=
  u.cell? ⟨p, 0, none⟩ = some (.int .i64 n) ∧ u.cell? ⟨p, 1, none⟩ = some sl ∧
  u.cell? ⟨p + 1, 0, none⟩ = some (.int .i64 s) ∧ u.cell? ⟨p + 1, 1, none⟩ = some (.int .i64 a) ∧ u.cell? ⟨p + 1, 2, none⟩ = some (.int .i64 b) ∧
  u.cell? ⟨p + 1 + 1, 0, none⟩ = some (.int .i64 0) ∧ u.cell? ⟨p + 1 + 1, 1, none⟩ = some (.slice none 0 0) ∧ u.frozen? ⟨p + 1 + 1, 0, none⟩ = false ∧ u.frozen? ⟨p + 1 + 1, 1, none⟩ = false ∧
  u.cell? ⟨q, 0, none⟩ = some (.int .i64 n) ∧ u.cell? ⟨q, 1, none⟩ = some cp
theorem SW.keep {p q : Nat} {n s a b : Int} {sl cp : Value} {u v : World} (h : SW p q n s a b sl cp u) (hb : Below u.heap.size u v) : SW p q n s a b sl cp v := by
  obtain ⟨h0, h1, h2, h3, h4, h5, h6, f5, f6, h7, h8⟩ := h
  exact ⟨kept hb h0, kept hb h1, kept hb h2, kept hb h3, kept hb h4, kept hb h5, kept hb h6, keptF hb h5 f5, keptF hb h6 f6, kept hb h7, kept hb h8⟩

end Go.Proofs.Ytfidnhhlcdbaeaa
