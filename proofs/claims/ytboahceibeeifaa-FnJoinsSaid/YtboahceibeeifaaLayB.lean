/- Boxes of layouts and of patches; rows that are owned. -/
import Derived.Test.YtboahceibeeifaaPatR
import Derived.Test.YtboahceibeeifaaBlkZ
import Derived.Test.YtboahceibeeifaaWith
import Derived.Deep.AppendLies

set_option linter.unusedSimpArgs false
set_option linter.unusedVariables false
namespace Go.Proofs.Ytboahceibeeifaa
open Go.ChangeShapes Go.WideShapes Go.ChangeAt Go.RowKit

theorem owL {w w' : World} {b e size n : Nat} {v : Value} {xs : List Value} (h : w.ownsRow b e size v n xs) (hb : Below w.heap.size w w') : w'.ownsRow b e size v n xs := by
  obtain ⟨h1, h2 | ⟨g, cap, cur, hv, hg, hh, r⟩⟩ := h
  · exact ⟨h1, .inl h2⟩
  · exact ⟨h1, .inr ⟨g, cap, cur, hv, hg, by rw [hb.block g (lt_of_heap hh)]; exact hh, r⟩⟩
theorem newsL (W : World) (q : Nat) (cs : Array Value) (t : TypeId) (h : W.heap.size = q) : ∀ (j : Nat) u, cs.toList[j]? = some u → (W.alloc (.cells cs t)).cell? ((⟨q, 0, none⟩ : Addr).add j) = some u := by
  subst h
  exact World.news_of_block (fr := (0, 0)) (heap_alloc_new W _)
theorem ogL {w : World} {base e size n : Nat} {v : Value} {xs : List Value} (h : w.ownsRow base e size v n xs) : ∀ k, v.ownBlock = some k → base ≤ k := by
  intro k hk
  obtain ⟨_, h | ⟨g, cap, cur, hv, hg, _⟩⟩ := h
  · rw [h.1] at hk; cases hk
  · rw [hv] at hk; simp [Value.ownBlock] at hk; omega
theorem osL {w : World} {b e size n : Nat} {v : Value} {xs : List Value} (h : w.ownsRow b e size v n xs) {p : Addr} (hp : p.block < b) (x : Value) : (w.setCell p x).ownsRow b e size v n xs := by
  obtain ⟨h1, h2 | ⟨g, cap, cur, hv, hg, hh, r⟩⟩ := h
  · exact ⟨h1, .inl h2⟩
  · exact ⟨h1, .inr ⟨g, cap, cur, hv, hg, by rw [Below.heap_setCell _ _ _ _ (by omega)]; exact hh, r⟩⟩

/-- A layout's box. -/
def BoxL (p : Nat) (x y z : Value) (u : World) : Prop := u.cell? ⟨p, 0, none⟩ = some x ∧ u.cell? ⟨p, 1, none⟩ = some y ∧ u.cell? ⟨p, 2, none⟩ = some z ∧ u.frozen? ⟨p, 0, none⟩ = false ∧ u.frozen? ⟨p, 1, none⟩ = false ∧ u.frozen? ⟨p, 2, none⟩ = false
theorem BoxL.lt {p : Nat} {x y z : Value} {u : World} (h : BoxL p x y z u) : p < u.heap.size := lt_of_cell h.1
theorem BoxL.new (w : World) (x y z : Value) (T : TypeId) : BoxL w.heap.size x y z (w.alloc (.cells #[x, y, z] T)) := ⟨by simp, by simp, by simp, by simp, by simp, by simp⟩
theorem BoxL.below {p B : Nat} {x y z : Value} {u w : World} (h : BoxL p x y z u) (hb : Below B u w) (hp : p < B) : BoxL p x y z w := by
  obtain ⟨h0, h1, h2, f0, f1, f2⟩ := h
  exact ⟨(hb.cell (p := ⟨p, 0, none⟩) hp).trans h0, (hb.cell (p := ⟨p, 1, none⟩) hp).trans h1, (hb.cell (p := ⟨p, 2, none⟩) hp).trans h2, (hb.frozen (p := ⟨p, 0, none⟩) hp).trans f0, (hb.frozen (p := ⟨p, 1, none⟩) hp).trans f1, (hb.frozen (p := ⟨p, 2, none⟩) hp).trans f2⟩
theorem BoxL.but {p b : Nat} {x y z : Value} {u w : World} (h : BoxL p x y z u) (hb : But b u w) (hp : p ≠ b) : BoxL p x y z w := by
  have hl := h.lt
  obtain ⟨h0, h1, h2, f0, f1, f2⟩ := h
  exact ⟨(hb.cell (p := ⟨p, 0, none⟩) hl hp).trans h0, (hb.cell (p := ⟨p, 1, none⟩) hl hp).trans h1, (hb.cell (p := ⟨p, 2, none⟩) hl hp).trans h2, (hb.frozen (p := ⟨p, 0, none⟩) hl hp).trans f0, (hb.frozen (p := ⟨p, 1, none⟩) hl hp).trans f1, (hb.frozen (p := ⟨p, 2, none⟩) hl hp).trans f2⟩
theorem BoxL.store {p : Nat} {x y z : Value} {u : World} (h : BoxL p x y z u) (v : Value) : BoxL p x y v (u.setCell ⟨p, 2, none⟩ v) := by
  obtain ⟨h0, h1, h2, f0, f1, f2⟩ := h
  exact ⟨(World.cell?_setCell_other _ _ _ _ (by simp)).trans h0, (World.cell?_setCell_other _ _ _ _ (by simp)).trans h1, World.cell?_setCell_same _ _ _ h2, (World.frozen?_setCell _ _ _ _).trans f0, (World.frozen?_setCell _ _ _ _).trans f1, (World.frozen?_setCell _ _ _ _).trans f2⟩
theorem BoxL.far {p : Nat} {x y z : Value} {u : World} (h : BoxL p x y z u) {q : Addr} (hq : q.block ≠ p) (v : Value) : BoxL p x y z (u.setCell q v) := by
  obtain ⟨h0, h1, h2, f0, f1, f2⟩ := h
  have hn : ∀ o : Nat, q ≠ ⟨p, o, none⟩ := fun o e => hq (by rw [e])
  exact ⟨(World.cell?_setCell_other _ _ _ _ (hn 0)).trans h0, (World.cell?_setCell_other _ _ _ _ (hn 1)).trans h1, (World.cell?_setCell_other _ _ _ _ (hn 2)).trans h2, (World.frozen?_setCell _ _ _ _).trans f0, (World.frozen?_setCell _ _ _ _).trans f1, (World.frozen?_setCell _ _ _ _).trans f2⟩
theorem placesPat_more (xs : List P5) (c : P5) : placesPat (xs ++ [c]) = placesPat xs ++ [.int .i64 c.x, .int .i64 c.y, .int .i64 c.w, .int .i64 c.h, .int .i64 c.c] := by
  rw [placesPat_append]; rfl

end Go.Proofs.Ytboahceibeeifaa
