/- Turns: what the walks of TurnBlock and MirrorBlock keep. -/
import Derived.Test.YtfidnhhlcdbaeaaTurC
import Derived.Test.YtfidnhhlcdbaeaaBlkP
import Derived.Test.YtfidnhhlcdbaeaaRegM
import Derived.Deep.AppendLies
import Derived.IntWalk
namespace Go.Proofs.Ytfidnhhlcdbaeaa
open Go.ChangeShapes Go.WideShapes Go.ChangeAt Go.RowKit

/-- What the walk keeps: the argument's box at p, the answer's behind it, the block under way at o. -/
def TBk (p o : Nat) (n : Int) (sl v : Value) (u : World) : Prop :=
  u.cell? ⟨o, 1, none⟩ = some v ∧ u.cell? ⟨o, 0, none⟩ = some (.int .i64 n) ∧ u.frozen? ⟨o, 1, none⟩ = false ∧ u.cell? ⟨p, 0, none⟩ = some (.int .i64 n) ∧ u.cell? ⟨p, 1, none⟩ = some sl ∧
  u.cell? ⟨p + 1, 0, none⟩ = some (.int .i64 0) ∧ u.cell? ⟨p + 1, 1, none⟩ = some (.slice none 0 0) ∧ u.frozen? ⟨p + 1, 0, none⟩ = false ∧ u.frozen? ⟨p + 1, 1, none⟩ = false
theorem TBk.far {p o : Nat} {n : Int} {sl v : Value} {u w : World} (h : TBk p o n sl v u) (hb : Below (o + 1) u w) (hp : p + 1 < o) : TBk p o n sl v w := by
  obtain ⟨h0, h1, h2, h3, h4, h5, h6, h7, h8⟩ := h
  have l0 : o < o + 1 := by omega
  have l1 : p < o + 1 := by omega
  have l2 : p + 1 < o + 1 := by omega
  exact ⟨(hb.cell (p := ⟨o, 1, none⟩) l0).trans h0, (hb.cell (p := ⟨o, 0, none⟩) l0).trans h1, (hb.frozen (p := ⟨o, 1, none⟩) l0).trans h2, (hb.cell (p := ⟨p, 0, none⟩) l1).trans h3, (hb.cell (p := ⟨p, 1, none⟩) l1).trans h4, (hb.cell (p := ⟨p + 1, 0, none⟩) l2).trans h5, (hb.cell (p := ⟨p + 1, 1, none⟩) l2).trans h6, (hb.frozen (p := ⟨p + 1, 0, none⟩) l2).trans h7, (hb.frozen (p := ⟨p + 1, 1, none⟩) l2).trans h8⟩
theorem TBk.store {p o : Nat} {n : Int} {sl v : Value} {u : World} (h : TBk p o n sl v u) (hp : p + 1 < o) (v' : Value) : TBk p o n sl v' (u.setCell ⟨o, 1, none⟩ v') := by
  obtain ⟨h0, h1, h2, h3, h4, h5, h6, h7, h8⟩ := h
  have n0 : ∀ k : Nat, (⟨o, 1, none⟩ : Addr) ≠ ⟨p, k, none⟩ := by intro k e; injection e with e1; omega
  have n1 : ∀ k : Nat, (⟨o, 1, none⟩ : Addr) ≠ ⟨p + 1, k, none⟩ := by intro k e; injection e with e1; omega
  exact ⟨World.cell?_setCell_same _ _ _ h0, (World.cell?_setCell_other _ _ _ _ (by simp)).trans h1, (World.frozen?_setCell _ _ _ _).trans h2, (World.cell?_setCell_other _ _ _ _ (n0 0)).trans h3, (World.cell?_setCell_other _ _ _ _ (n0 1)).trans h4, (World.cell?_setCell_other _ _ _ _ (n1 0)).trans h5, (World.cell?_setCell_other _ _ _ _ (n1 1)).trans h6, (World.frozen?_setCell _ _ _ _).trans h7, (World.frozen?_setCell _ _ _ _).trans h8⟩
theorem TBk.start (n : Int) (sl : Value) (w w1 : World) (hb : Below ((w.alloc (.cells #[.int .i64 n, sl] 26)).alloc (.cells #[.int .i64 0, .slice none 0 0] 26)).heap.size ((w.alloc (.cells #[.int .i64 n, sl] 26)).alloc (.cells #[.int .i64 0, .slice none 0 0] 26)) w1) :
    TBk w.heap.size w1.heap.size n sl (.slice none 0 0) (w1.alloc (.cells #[.int .i64 n, .slice none 0 0] 26)) := by
  refine ⟨by simp, by simp, by simp, kept (bel0 w1 _) (kept hb ?_), kept (bel0 w1 _) (kept hb ?_), kept (bel0 w1 _) (kept hb ?_), kept (bel0 w1 _) (kept hb ?_), keptF (x := .int .i64 0) (bel0 w1 _) (kept hb ?_) (keptF (x := .int .i64 0) hb ?_ ?_), keptF (x := .slice none 0 0) (bel0 w1 _) (kept hb ?_) (keptF (x := .slice none 0 0) hb ?_ ?_)⟩ <;> go_simp
theorem bel_draw {w u : World} {b : Nat} (h : Below b w u) : Below b w u.drew := ⟨h.os, h.tape, h.output, h.size, h.block⟩
theorem places_more (xs : List C3) (c : C3) : places (xs ++ [c]) = places xs ++ [.int .i64 c.s, .int .i64 c.a, .int .i64 c.b] := by
  rw [places_append]; rfl
theorem tIdx {m x y : Nat} (h1 : 1 ≤ m) (hm : m ≤ 4) (hx : x < m) (hy : y < m) : ∃ j : Nat, j = (m - 1 - x) * m + y ∧ j < m * m ∧ IntKind.i64.wrap ((m : Int) - 1) = (m : Int) - 1 ∧ IntKind.i64.wrap ((m : Int) - 1 - x) = (m : Int) - 1 - x ∧ IntKind.i64.wrap (((m : Int) - 1 - x) * m) = ((m : Int) - 1 - x) * m ∧ IntKind.i64.wrap (((m : Int) - 1 - x) * m + y) = (j : Int) := by
  have hm' : m = 1 ∨ m = 2 ∨ m = 3 ∨ m = 4 := by omega
  refine ⟨_, rfl, ?_, IntWalk.i64_in _ (by omega), IntWalk.i64_in _ (by omega), ?_, ?_⟩
  · rcases hm' with rfl | rfl | rfl | rfl <;> omega
  · rcases hm' with rfl | rfl | rfl | rfl <;> exact IntWalk.i64_in _ (by omega)
  · rcases hm' with rfl | rfl | rfl | rfl <;> (rw [IntWalk.i64_in _ (by omega)]; omega)
theorem mIdx {m x y : Nat} (h1 : 1 ≤ m) (hm : m ≤ 4) (hx : x < m) (hy : y < m) : ∃ j : Nat, j = y * m + (m - 1 - x) ∧ j < m * m ∧ IntKind.i64.wrap ((y : Int) * m) = (y : Int) * m ∧ IntKind.i64.wrap ((y : Int) * m + m) = (y : Int) * m + m ∧ IntKind.i64.wrap ((y : Int) * m + m - 1) = (y : Int) * m + m - 1 ∧ IntKind.i64.wrap ((y : Int) * m + m - 1 - x) = (j : Int) := by
  have hm' : m = 1 ∨ m = 2 ∨ m = 3 ∨ m = 4 := by omega
  refine ⟨_, rfl, ?_, ?_, ?_, ?_, ?_⟩
  · rcases hm' with rfl | rfl | rfl | rfl <;> omega
  · rcases hm' with rfl | rfl | rfl | rfl <;> exact IntWalk.i64_in _ (by omega)
  · rcases hm' with rfl | rfl | rfl | rfl <;> exact IntWalk.i64_in _ (by omega)
  · rcases hm' with rfl | rfl | rfl | rfl <;> exact IntWalk.i64_in _ (by omega)
  · rcases hm' with rfl | rfl | rfl | rfl <;> (rw [IntWalk.i64_in _ (by omega)]; omega)
/-- A cell behind a row of cells, in three pieces. -/
theorem news3 (u : World) (c : C3) : ∀ (j : Nat) x, ([.int .i64 c.s, .int .i64 c.a, .int .i64 c.b] : List Value)[j]? = some x → (u.alloc (.cells #[.int .i64 c.s, .int .i64 c.a, .int .i64 c.b] 29)).cell? ((⟨u.heap.size, 0, none⟩ : Addr).add j) = some x :=
  fun j x hx => news_at u u.heap.size #[.int .i64 c.s, .int .i64 c.a, .int .i64 c.b] 29 rfl j x hx
section
variable {P : Program} {md : Region.Mode} {l : List Oper} {S : World → Prop} {Q : Exit → Act → World → Prop}
/-- Two operations may come up, both wanted. -/
theorem reg_pair (i j : Nat) {oi oj : Oper} {fuel : Nat} {listed : Array Bool} {a : Act} {w : World} (hi : l[i]? = some oi) (hj : l[j]? = some oj) (hr : Region.ready md l.toArray listed = [i, j])
    (hw : Region.wanted oi (yielded l.toArray a.tmps) = true) (hw2 : Region.wanted oj (yielded l.toArray a.tmps) = true)
    (h : ∀ K' : Act → World → Prop, Shut (∀ a w, S w → (S w → wpAnyH P md l.toArray Q S fuel (listed.setIfInBounds i true) a w) → K' a w) → Oper.wp P oi a w K' Q)
    (h2 : ∀ K' : Act → World → Prop, Shut (∀ a w, S w → (S w → wpAnyH P md l.toArray Q S fuel (listed.setIfInBounds j true) a w) → K' a w) → Oper.wp P oj a w K' Q) :
    wpAnyH P md l.toArray Q S (fuel + 1) listed a w :=
  wpAnyH_ready hr (by simp) (AllReadyH.cons (by simpa using hi) (fun K hK => by rw [if_pos hw]; exact h K hK) (AllReadyH.cons (by simpa using hj) (fun K hK => by rw [if_pos hw2]; exact h2 K hK) AllReadyH.nil))
end


end Go.Proofs.Ytfidnhhlcdbaeaa
