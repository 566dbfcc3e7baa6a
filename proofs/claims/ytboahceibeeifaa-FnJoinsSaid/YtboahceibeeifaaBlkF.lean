/- Rows of cells: what a slice of cells holds. -/
import Derived.Test.YtboahceibeeifaaRows
import Derived.Test.YtboahceibeeifaaBase
import Derived.Test.YtboahceibeeifaaCellS
import Derived.WalkKit
import Derived.Lib.Hide

set_option linter.unusedSimpArgs false
set_option linter.unusedVariables false
namespace Go.Proofs.Ytboahceibeeifaa
open Go.ChangeShapes Go.WideShapes Go.ChangeAt Go.RowKit

/-- A cell's three numbers. -/
structure C3 where
  s : Int
  a : Int
  b : Int
theorem C3.ext' {x y : C3} (h1 : x.s = y.s) (h2 : x.a = y.a) (h3 : x.b = y.b) : x = y := by cases x; cases y; simp_all
/-- As a value; as three places. -/
def C3.v (c : C3) : Value := .agg #[.int .i64 c.s, .int .i64 c.a, .int .i64 c.b]
def C3.zero : C3 := ⟨0, 0, 0⟩
def C3.Ok (c : C3) : Prop := OkC c.s c.a c.b

/-- Element number i of a row at block g holds c. -/
def El (w : World) (g i : Nat) (c : C3) : Prop :=
  w.cell? ⟨g, i * 3, none⟩ = some (.int .i64 c.s) ∧ w.cell? ⟨g, i * 3 + 1, none⟩ = some (.int .i64 c.a) ∧ w.cell? ⟨g, i * 3 + 2, none⟩ = some (.int .i64 c.b)
def Soft (w : World) (g i : Nat) : Prop :=
  w.frozen? ⟨g, i * 3, none⟩ = false ∧ w.frozen? ⟨g, i * 3 + 1, none⟩ = false ∧ w.frozen? ⟨g, i * 3 + 2, none⟩ = false
theorem El.lt {w : World} {g i : Nat} {c : C3} (h : El w g i c) : g < w.heap.size := lt_of_cell h.1
theorem El.below {w w' : World} {g i B : Nat} {c : C3} (h : El w g i c) (hb : Below B w w') (hg : g < B) : El w' g i c :=
  ⟨(hb.cell (p := ⟨g, i * 3, none⟩) hg).trans h.1, (hb.cell (p := ⟨g, i * 3 + 1, none⟩) hg).trans h.2.1, (hb.cell (p := ⟨g, i * 3 + 2, none⟩) hg).trans h.2.2⟩
theorem Soft.below {w w' : World} {g i B : Nat} (h : Soft w g i) (hb : Below B w w') (hg : g < B) : Soft w' g i :=
  ⟨(hb.frozen (p := ⟨g, i * 3, none⟩) hg).trans h.1, (hb.frozen (p := ⟨g, i * 3 + 1, none⟩) hg).trans h.2.1, (hb.frozen (p := ⟨g, i * 3 + 2, none⟩) hg).trans h.2.2⟩

/-- A slice of cells in a block from lo on, below hi. -/
def CellIn (lo hi : Nat) (w : World) (v : Value) (xs : List C3) : Prop :=
  xs.length ≤ 1048576 ∧ ((xs = [] ∧ ∃ a c, v = .slice a 0 c) ∨
    ∃ g cap, v = .slice (some ⟨g, 0, none⟩) xs.length cap ∧ lo ≤ g ∧ g < hi ∧ ∀ i, i < xs.length → El w g i (xs.getD i C3.zero) ∧ Soft w g i)
theorem CellIn.below {lo hi : Nat} {w w' : World} {v : Value} {xs : List C3} (h : CellIn lo hi w v xs) (hb : Below hi w w') : CellIn lo hi w' v xs := by
  obtain ⟨hl, h | ⟨g, cap, hv, hg, hlt, hc⟩⟩ := h
  · exact ⟨hl, .inl h⟩
  · exact ⟨hl, .inr ⟨g, cap, hv, hg, hlt, fun i hi => ⟨(hc i hi).1.below hb hlt, (hc i hi).2.below hb hlt⟩⟩⟩
theorem CellIn.wide {lo hi lo' hi' : Nat} {w : World} {v : Value} {xs : List C3} (h : CellIn lo hi w v xs) (h1 : lo' ≤ lo) (h2 : hi ≤ hi') : CellIn lo' hi' w v xs := by
  obtain ⟨hl, h | ⟨g, cap, hv, hg, hlt, hc⟩⟩ := h
  · exact ⟨hl, .inl h⟩
  · exact ⟨hl, .inr ⟨g, cap, hv, by omega, by omega, hc⟩⟩
/-- Its shape. -/
theorem CellIn.form {lo hi : Nat} {w : World} {v : Value} {xs : List C3} (h : CellIn lo hi w v xs) : ∃ a cap, v = .slice a xs.length cap := by
  obtain ⟨_, ⟨rfl, a, c, hv⟩ | ⟨g, cap, hv, _⟩⟩ := h
  · exact ⟨a, c, hv⟩
  · exact ⟨_, _, hv⟩
/-- Element i, at a world in which only new blocks have come. -/
theorem CellIn.at {lo hi : Nat} {w w' : World} {a : Option Addr} {n cap : Nat} {xs : List C3} (h : CellIn lo hi w (.slice a n cap) xs) (hb : Below hi w w') {i : Nat} (hi' : i < xs.length) :
    ∃ g, a = some ⟨g, 0, none⟩ ∧ lo ≤ g ∧ g < hi ∧ El w' g i (xs.getD i C3.zero) ∧ Soft w' g i := by
  obtain ⟨_, ⟨rfl, _⟩ | ⟨g, cap, hv, hg, hlt, hc⟩⟩ := h
  · simp at hi'
  · simp only [Value.slice.injEq] at hv
    exact ⟨g, hv.1, hg, hlt, (hc i hi').1.below hb hlt, (hc i hi').2.below hb hlt⟩

/-- A block is valid. -/
def BlkOk (n : Int) (xs : List C3) : Prop := (1 ≤ n ∧ n ≤ 4) ∧ (xs.length : Int) = n * n ∧ ∀ c ∈ xs, c.Ok
/-- .. as a Boolean. -/
noncomputable def blkB (n : Int) (xs : List C3) : Bool := @decide (BlkOk n xs) (Classical.propDecidable _)
theorem blk_yes {n : Int} {xs : List C3} (h : BlkOk n xs) : true = blkB n xs := by unfold blkB; simp [h]
theorem blk_no {n : Int} {xs : List C3} (h : ¬ BlkOk n xs) : false = blkB n xs := by unfold blkB; simp [h]
theorem blk_no_size {n : Int} {xs : List C3} (h : ¬ (1 ≤ n ∧ n ≤ 4)) : false = blkB n xs := blk_no (fun k => h k.1)
theorem blk_no_len {n : Int} {xs : List C3} (h : ¬ (xs.length : Int) = n * n) : false = blkB n xs := blk_no (fun k => h k.2.1)
theorem blk_no_cell {n : Int} {xs : List C3} {i : Nat} (hi : i < xs.length) (h : ¬ (xs.getD i C3.zero).Ok) : false = blkB n xs := blk_no (fun k => h (k.2.2 _ (by simp [List.getD, hi])))
theorem blk_all {n : Int} {xs : List C3} (h1 : 1 ≤ n ∧ n ≤ 4) (h2 : (xs.length : Int) = n * n) (h : ∀ i, i < xs.length → (xs.getD i C3.zero).Ok) : true = blkB n xs :=
  blk_yes ⟨h1, h2, fun c hc => by obtain ⟨i, hi, rfl⟩ := List.getElem_of_mem hc; have := h i hi; simpa [List.getD, hi] using this⟩
theorem sq_wrap {n : Int} (h0 : 1 ≤ n) (h1 : n ≤ 4) : IntKind.i64.wrap (n * n) = n * n ∧ 1 ≤ n * n ∧ n * n ≤ 16 := by
  have : n = 1 ∨ n = 2 ∨ n = 3 ∨ n = 4 := by omega
  rcases this with rfl | rfl | rfl | rfl <;> decide

end Go.Proofs.Ytboahceibeeifaa
