/- Blocks: what a statement leaves that lays a variable and calls. Cells: the color at a side. Cells: the model's ColorAt. A region that draws its order, walked by hand: one operation at a time, in the order of the text. -/
import Derived.Test.YtndffjphdlncpaaMBlm
import Derived.Test.YtndffjphdlncpaaMBld
import Derived.Test.YtndffjphdlncpaaMCel
import Derived.Deep.RegionHeld3

namespace Go.Proofs.Ytndffjphdlncpaa
open Go.ChangeShapes Go.WideShapes Go.ChangeAt Go.RowKit

/-- What such a statement leaves: the new variable's block, and the row that it leads to. -/
def WR (n : Int) (ok : Bool) (ys : List C3) (w0 : World) (q t : Value) (wx : World) : Prop :=
  ∃ (p : Nat) (a : Option Addr) (c l h : Nat), q = .pointer (some ⟨p, 0, none⟩) ∧ t = .bool ok ∧ BoxB p (.int .i64 n) (.slice a ys.length c) wx ∧ CellIn l h wx (.slice a ys.length c) ys ∧ (p < l ∨ h ≤ p) ∧ w0.heap.size ≤ l ∧ w0.heap.size ≤ p ∧ h ≤ wx.heap.size ∧ Below w0.heap.size w0 wx
theorem Three.within {p lo hi : Nat} {c : C3} {u v : World} (h : Three p c u) (hb : Within lo hi u v) (ho : p < lo ∨ hi ≤ p) : Three p c v := ⟨hb.cell h.1 ho, hb.cell h.2.1 ho, hb.cell h.2.2 ho⟩
theorem BoxB.two {p : Nat} {x y x' y' : Value} {u : World} (h : BoxB p x y u) : BoxB p x' y' ((u.setCell ⟨p, 0, none⟩ x').setCell ⟨p, 1, none⟩ y') := by
  obtain ⟨h0, h1, h2, h3⟩ := h
  have h1' : (u.setCell ⟨p, 0, none⟩ x').cell? ⟨p, 1, none⟩ = some y := (World.cell?_setCell_other _ _ _ _ (by simp)).trans h1
  exact ⟨(World.cell?_setCell_other _ _ _ _ (by simp)).trans (World.cell?_setCell_same _ _ _ h0), World.cell?_setCell_same _ _ _ h1', by rw [World.frozen?_setCell, World.frozen?_setCell]; exact h2, by rw [World.frozen?_setCell, World.frozen?_setCell]; exact h3⟩
theorem WR.old {n : Int} {ok : Bool} {ys : List C3} {w0 z : World} {a : Option Addr} {c l p : Nat} {x y : Value} (R : CellIn l z.heap.size z (.slice a ys.length c) ys) (b : BoxB p x y z) (B : Below w0.heap.size w0 z) (hl : w0.heap.size ≤ l) (hp : w0.heap.size ≤ p) (hpl : p < l ∨ p < l) :
    WR n ok ys w0 (.pointer (some ⟨p, 0, none⟩)) (.bool ok) ((z.setCell ⟨p, 0, none⟩ (.int .i64 n)).setCell ⟨p, 1, none⟩ (.slice a ys.length c)) :=
  ⟨p, a, c, l, z.heap.size, rfl, rfl, b.two, (R.set_far (by show p < l; omega) _).set_far (by show p < l; omega) _, .inl (by omega), hl, hp, by simp [World.setCell], (B.setCell (p := ⟨p, 0, none⟩) hp _).setCell (p := ⟨p, 1, none⟩) hp _⟩
theorem WR.new {n : Int} {ok : Bool} {ys : List C3} {w0 z : World} {a : Option Addr} {c l : Nat} (R : CellIn l z.heap.size z (.slice a ys.length c) ys) (B : Below w0.heap.size w0 z) (hl : w0.heap.size ≤ l) :
    WR n ok ys w0 (.pointer (some ⟨z.heap.size, 0, none⟩)) (.bool ok) (z.alloc (.cells #[.int .i64 n, .slice a ys.length c] 26)) :=
  ⟨z.heap.size, a, c, l, z.heap.size, rfl, rfl, BoxB.new _ _ _ _, R.below (bel0 _ _), .inr (Nat.le_refl _), hl, B.size, by simp, bel_n B (Nat.le_refl _) _⟩

end Go.Proofs.Ytndffjphdlncpaa

namespace Go.Proofs.Ytndffjphdlncpaa
open Go.ChangeShapes Go.WideShapes Go.ChangeAt Go.RowKit

/-- The color at a side. -/
def colAt (s a b d : Int) : Int := if OkC s a b ∧ 0 ≤ d ∧ d ≤ 3 then (if d = 0 ∨ (d = 1 ∧ s = 1) ∨ (d = 3 ∧ s = 2) then a else b) else -1

theorem colAt_bad {s a b : Int} (d : Int) (k : ¬ OkC s a b) : colAt s a b d = -1 := if_neg (fun h => k h.1)
theorem colAt_out {d : Int} (s a b : Int) (k : d < 0 ∨ 3 < d) : colAt s a b d = -1 := if_neg (fun h => by omega)
theorem colAt_a {s a b d : Int} (k : OkC s a b) (d0 : 0 ≤ d) (d1 : d ≤ 3) (h : d = 0 ∨ (d = 1 ∧ s = 1) ∨ (d = 3 ∧ s = 2)) : colAt s a b d = a := by
  unfold colAt; rw [if_pos ⟨k, d0, d1⟩, if_pos h]
theorem colAt_b {s a b d : Int} (k : OkC s a b) (d0 : 0 ≤ d) (d1 : d ≤ 3) (h : ¬ (d = 0 ∨ (d = 1 ∧ s = 1) ∨ (d = 3 ∧ s = 2))) : colAt s a b d = b := by
  unfold colAt; rw [if_pos ⟨k, d0, d1⟩, if_neg h]

theorem ret_num {a b : Int} (h : a = b) : Ending.returned (.int .i64 a) = .returned (.int .i64 b) := by rw [h]

/-- What is left when a cell is valid and a side is there: the four sides, the three kinds. -/
theorem side_cases {d : Int} (d0 : 0 ≤ d) (d1 : d ≤ 3) : d = 0 ∨ d = 1 ∨ d = 2 ∨ d = 3 := by omega

end Go.Proofs.Ytndffjphdlncpaa

namespace Go.Proofs.Ytndffjphdlncpaa
open Go.ChangeShapes Go.WideShapes Go.ChangeAt Go.RowKit

end Go.Proofs.Ytndffjphdlncpaa

namespace Go.Proofs.Ytndffjphdlncpaa

variable {P : Program} {md : Region.Mode} {l : List Oper} {Q : Exit → Act → World → Prop} {S : World → Prop}

/-- Operation number i is wanted and yields v in every world that meets S. -/
theorem reg_take (i : Nat) {oi : Oper} {v : Value} {fuel : Nat} {listed : Array Bool} {a : Act} {w : World} (hi : l[i]? = some oi)
    (hs : Region.noSelect l.toArray = true) (hf : Region.free md l.toArray listed i = true) (hr : (Region.ready md l.toArray listed).contains i = true)
    (hQ : ∀ c a w, Q (.panic c) (a.put oi.dst v) w → Q (.panic c) a w) (hw : Region.wanted oi (yielded l.toArray a.tmps) = true)
    (hy : ∀ w, S w → (execOp a.eval oi).run P w = .ok (.value v) w) (hS : S w)
    (h : wpAnyH P md l.toArray Q S fuel (listed.setIfInBounds i true) (a.put oi.dst v) w) : wpAnyH P md l.toArray Q S (fuel + 1) listed a w :=
  wpAnyH_take (by simpa using hi) hs hf hr hQ (Or.inl ⟨hw, hy⟩) hS h
/-- Operation number i is passed over by its guard. -/
theorem reg_skip (i : Nat) {oi : Oper} {fuel : Nat} {listed : Array Bool} {a : Act} {w : World} (hi : l[i]? = some oi)
    (hs : Region.noSelect l.toArray = true) (hf : Region.free md l.toArray listed i = true) (hr : (Region.ready md l.toArray listed).contains i = true)
    (hQ : ∀ c a w, Q (.panic c) (a.put oi.dst undef) w → Q (.panic c) a w) (hw : Region.wanted oi (yielded l.toArray a.tmps) = false) (hS : S w)
    (h : wpAnyH P md l.toArray Q S fuel (listed.setIfInBounds i true) (a.put oi.dst undef) w) : wpAnyH P md l.toArray Q S (fuel + 1) listed a w :=
  wpAnyH_take (by simpa using hi) hs hf hr hQ (Or.inr ⟨hw, rfl⟩) hS h
/-- Operation number i alone may come up, is wanted, and may write: S anew behind it. -/
theorem reg_call (i : Nat) {oi : Oper} {fuel : Nat} {listed : Array Bool} {a : Act} {w : World} (hi : l[i]? = some oi) (hr : Region.ready md l.toArray listed = [i])
    (hw : Region.wanted oi (yielded l.toArray a.tmps) = true)
    (h : ∀ K' : Act → World → Prop, Shut (∀ a w, S w → (S w → wpAnyH P md l.toArray Q S fuel (listed.setIfInBounds i true) a w) → K' a w) → Oper.wp P oi a w K' Q) :
    wpAnyH P md l.toArray Q S (fuel + 1) listed a w :=
  wpAnyH_ready hr (by simp) (AllReadyH.cons (by simpa using hi) (fun K hK => by rw [if_pos hw]; exact h K hK) AllReadyH.nil)
theorem reg_begin {id : Nat} {a : Act} {w : World} (S : World → Prop) (hm : P.follows .mixedOrders = true) (hS : S w.drew)
    (h : wpAnyH P .any l.toArray Q S l.length (Array.replicate l.length false) a w.drew) : (Code.region id l.toArray true).wp P Q a w :=
  wp_region_held_drew (S := S) hm hS (fun _ => by simpa using h)

end Go.Proofs.Ytndffjphdlncpaa
