/- Layouts: the program's overlapsAny. Boxes of layouts and of patches; rows that are owned. A region that draws its order, walked by hand: one operation at a time, in the order of the text. -/
import Derived.Test.YtlkiacgpiodkiaaM08
import Derived.Test.YtlkiacgpiodkiaaM05
import Derived.Test.YtlkiacgpiodkiaaM03
import Derived.Deep.AppendLies
import Derived.Deep.RegionHeld3

set_option linter.unusedSimpArgs false
set_option linter.unusedVariables false
namespace Go.Proofs.Ytlkiacgpiodkiaa
open Go.ChangeShapes Go.WideShapes Go.ChangeAt Go.RowKit

/-- It overlaps one of the others. -/
def Ov (p : P5) (ys : List P5) : Prop := ∃ j, j < ys.length ∧ Hit p (pat ys j)
noncomputable def ovB (p : P5) (ys : List P5) : Bool := @decide (Ov p ys) (Classical.propDecidable _)
theorem ov_yes {p : P5} {ys : List P5} {j : Nat} (hj : j < ys.length) (h : Hit p (pat ys j)) : true = ovB p ys := by
  have : Ov p ys := ⟨j, hj, h⟩
  unfold ovB; simp [this]
theorem ov_no {p : P5} {ys : List P5} (h : ∀ j, j < ys.length → ¬ Hit p (pat ys j)) : false = ovB p ys := by
  have : ¬ Ov p ys := fun ⟨j, hj, k⟩ => h j hj k
  unfold ovB; simp [this]
theorem hit_of {p q : P5} (_hp : InP p) (_hq : InP q) (h1 : 0 < cwP p q) (h2 : 0 < chP p q) : Hit p q := (hit_is p q).2 (.inl ⟨h1, h2⟩)
theorem hit_not {p q : P5} (hp : InP p) (hq : InP q) (h : ¬ (0 < cwP p q ∧ 0 < chP p q)) : ¬ Hit p q := fun k => by
  rcases (hit_is p q).1 k with k | k
  · exact h k
  · exact k.2 ⟨hp, hq⟩

end Go.Proofs.Ytlkiacgpiodkiaa

set_option linter.unusedSimpArgs false
set_option linter.unusedVariables false
namespace Go.Proofs.Ytlkiacgpiodkiaa
open Go.ChangeShapes Go.WideShapes Go.ChangeAt Go.RowKit

theorem owL {w w' : World} {b e size n : Nat} {v : Value} {xs : List Value} (h : w.ownsRow b e size v n xs) (hb : Below w.heap.size w w') : w'.ownsRow b e size v n xs := by
  obtain ⟨h1, h2 | ⟨g, cap, cur, hv, hg, hh, r⟩⟩ := h
  · exact ⟨h1, .inl h2⟩
  · exact ⟨h1, .inr ⟨g, cap, cur, hv, hg, by rw [hb.block g (lt_of_heap hh)]; exact hh, r⟩⟩
theorem newsL (W : World) (q : Nat) (cs : Array Value) (t : TypeId) (h : W.heap.size = q) : ∀ (j : Nat) u, cs.toList[j]? = some u → (W.alloc (.cells cs t)).cell? ((⟨q, 0, none⟩ : Addr).add j) = some u := by
  subst h
  exact World.news_of_block (fr := (0, 0)) (heap_alloc_new W _)
theorem ogL {w : World} {base e size n : Nat} {v : Value} {xs : List Value} (h : w.ownsRow base e size v n xs) : ∀ k, v.ownBlock = some k → base ≤ k := by
  intro k hk
  obtain ⟨_, h | ⟨g, cap, cur, hv, hg, _⟩⟩ := h
  · rw [h.1] at hk; cases hk
  · rw [hv] at hk; simp [Value.ownBlock] at hk; omega
theorem osL {w : World} {b e size n : Nat} {v : Value} {xs : List Value} (h : w.ownsRow b e size v n xs) {p : Addr} (hp : p.block < b) (x : Value) : (w.setCell p x).ownsRow b e size v n xs := by
  obtain ⟨h1, h2 | ⟨g, cap, cur, hv, hg, hh, r⟩⟩ := h
  · exact ⟨h1, .inl h2⟩
  · exact ⟨h1, .inr ⟨g, cap, cur, hv, hg, by rw [Below.heap_setCell _ _ _ _ (by omega)]; exact hh, r⟩⟩

/-- A layout's box. -/
def BoxL (p : Nat) (x y z : Value) (u : World) : Prop := u.cell? ⟨p, 0, none⟩ = some x ∧ u.cell? ⟨p, 1, none⟩ = some y ∧ u.cell? ⟨p, 2, none⟩ = some z ∧ u.frozen? ⟨p, 0, none⟩ = false ∧ u.frozen? ⟨p, 1, none⟩ = false ∧ u.frozen? ⟨p, 2, none⟩ = false
theorem BoxL.lt {p : Nat} {x y z : Value} {u : World} (h : BoxL p x y z u) : p < u.heap.size := lt_of_cell h.1
theorem BoxL.new (w : World) (x y z : Value) (T : TypeId) : BoxL w.heap.size x y z (w.alloc (.cells #[x, y, z] T)) := ⟨by simp, by simp, by simp, by simp, by simp, by simp⟩
theorem BoxL.below {p B : Nat} {x y z : Value} {u w : World} (h : BoxL p x y z u) (hb : Below B u w) (hp : p < B) : BoxL p x y z w := by
  obtain ⟨h0, h1, h2, f0, f1, f2⟩ := h
  exact ⟨(hb.cell (p := ⟨p, 0, none⟩) hp).trans h0, (hb.cell (p := ⟨p, 1, none⟩) hp).trans h1, (hb.cell (p := ⟨p, 2, none⟩) hp).trans h2, (hb.frozen (p := ⟨p, 0, none⟩) hp).trans f0, (hb.frozen (p := ⟨p, 1, none⟩) hp).trans f1, (hb.frozen (p := ⟨p, 2, none⟩) hp).trans f2⟩
theorem BoxL.but {p b : Nat} {x y z : Value} {u w : World} (h : BoxL p x y z u) (hb : But b u w) (hp : p ≠ b) : BoxL p x y z w := by
  have hl := h.lt
  obtain ⟨h0, h1, h2, f0, f1, f2⟩ := h
  exact ⟨(hb.cell (p := ⟨p, 0, none⟩) hl hp).trans h0, (hb.cell (p := ⟨p, 1, none⟩) hl hp).trans h1, (hb.cell (p := ⟨p, 2, none⟩) hl hp).trans h2, (hb.frozen (p := ⟨p, 0, none⟩) hl hp).trans f0, (hb.frozen (p := ⟨p, 1, none⟩) hl hp).trans f1, (hb.frozen (p := ⟨p, 2, none⟩) hl hp).trans f2⟩
theorem BoxL.store {p : Nat} {x y z : Value} {u : World} (h : BoxL p x y z u) (v : Value) : BoxL p x y v (u.setCell ⟨p, 2, none⟩ v) := by
  obtain ⟨h0, h1, h2, f0, f1, f2⟩ := h
  exact ⟨(World.cell?_setCell_other _ _ _ _ (by simp)).trans h0, (World.cell?_setCell_other _ _ _ _ (by simp)).trans h1, World.cell?_setCell_same _ _ _ h2, (World.frozen?_setCell _ _ _ _).trans f0, (World.frozen?_setCell _ _ _ _).trans f1, (World.frozen?_setCell _ _ _ _).trans f2⟩
theorem BoxL.far {p : Nat} {x y z : Value} {u : World} (h : BoxL p x y z u) {q : Addr} (hq : q.block ≠ p) (v : Value) : BoxL p x y z (u.setCell q v) := by
  obtain ⟨h0, h1, h2, f0, f1, f2⟩ := h
  have hn : ∀ o : Nat, q ≠ ⟨p, o, none⟩ := fun o e => hq (by rw [e])
  exact ⟨(World.cell?_setCell_other _ _ _ _ (hn 0)).trans h0, (World.cell?_setCell_other _ _ _ _ (hn 1)).trans h1, (World.cell?_setCell_other _ _ _ _ (hn 2)).trans h2, (World.frozen?_setCell _ _ _ _).trans f0, (World.frozen?_setCell _ _ _ _).trans f1, (World.frozen?_setCell _ _ _ _).trans f2⟩
theorem placesPat_more (xs : List P5) (c : P5) : placesPat (xs ++ [c]) = placesPat xs ++ [.int .i64 c.x, .int .i64 c.y, .int .i64 c.w, .int .i64 c.h, .int .i64 c.c] := by
  rw [placesPat_append]; rfl

end Go.Proofs.Ytlkiacgpiodkiaa

set_option linter.unusedSimpArgs false
set_option linter.unusedVariables false
namespace Go.Proofs.Ytlkiacgpiodkiaa

variable {P : Program} {md : Region.Mode} {l : List Oper} {Q : Exit → Act → World → Prop} {S : World → Prop}

/-- Operation number i is wanted and yields v in every world that meets S. -/
theorem reg_take (i : Nat) {oi : Oper} {v : Value} {fuel : Nat} {listed : Array Bool} {a : Act} {w : World} (hi : l[i]? = some oi)
    (hs : Region.noSelect l.toArray = true) (hf : Region.free md l.toArray listed i = true) (hr : (Region.ready md l.toArray listed).contains i = true)
    (hQ : ∀ c a w, Q (.panic c) (a.put oi.dst v) w → Q (.panic c) a w) (hw : Region.wanted oi (yielded l.toArray a.tmps) = true)
    (hy : ∀ w, S w → (execOp a.eval oi).run P w = .ok (.value v) w) (hS : S w)
    (h : wpAnyH P md l.toArray Q S fuel (listed.setIfInBounds i true) (a.put oi.dst v) w) : wpAnyH P md l.toArray Q S (fuel + 1) listed a w :=
  wpAnyH_take (by simpa using hi) hs hf hr hQ (Or.inl ⟨hw, hy⟩) hS h
/-- Operation number i is passed over by its guard. -/
theorem reg_skip (i : Nat) {oi : Oper} {fuel : Nat} {listed : Array Bool} {a : Act} {w : World} (hi : l[i]? = some oi)
    (hs : Region.noSelect l.toArray = true) (hf : Region.free md l.toArray listed i = true) (hr : (Region.ready md l.toArray listed).contains i = true)
    (hQ : ∀ c a w, Q (.panic c) (a.put oi.dst undef) w → Q (.panic c) a w) (hw : Region.wanted oi (yielded l.toArray a.tmps) = false) (hS : S w)
    (h : wpAnyH P md l.toArray Q S fuel (listed.setIfInBounds i true) (a.put oi.dst undef) w) : wpAnyH P md l.toArray Q S (fuel + 1) listed a w :=
  wpAnyH_take (by simpa using hi) hs hf hr hQ (Or.inr ⟨hw, rfl⟩) hS h
/-- Operation number i alone may come up, is wanted, and may write: S anew behind it. -/
theorem reg_call (i : Nat) {oi : Oper} {fuel : Nat} {listed : Array Bool} {a : Act} {w : World} (hi : l[i]? = some oi) (hr : Region.ready md l.toArray listed = [i])
    (hw : Region.wanted oi (yielded l.toArray a.tmps) = true)
    (h : ∀ K' : Act → World → Prop, Shut (∀ a w, S w → (S w → wpAnyH P md l.toArray Q S fuel (listed.setIfInBounds i true) a w) → K' a w) → Oper.wp P oi a w K' Q) :
    wpAnyH P md l.toArray Q S (fuel + 1) listed a w :=
  wpAnyH_ready hr (by simp) (AllReadyH.cons (by simpa using hi) (fun K hK => by rw [if_pos hw]; exact h K hK) AllReadyH.nil)
theorem reg_begin {id : Nat} {a : Act} {w : World} (S : World → Prop) (hm : P.follows .mixedOrders = true) (hS : S w.drew)
    (h : wpAnyH P .any l.toArray Q S l.length (Array.replicate l.length false) a w.drew) : (Code.region id l.toArray true).wp P Q a w :=
  wp_region_held_drew (S := S) hm hS (fun _ => by simpa using h)

end Go.Proofs.Ytlkiacgpiodkiaa
