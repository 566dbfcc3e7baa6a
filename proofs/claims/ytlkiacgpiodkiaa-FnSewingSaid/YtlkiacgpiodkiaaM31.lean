/- Cuts: the program's split. Cuts: the program's cuts. Cuts: the program's knot: a layout is split once. -/
import Derived.Test.YtlkiacgpiodkiaaM30
import Derived.Deep.RegionHeld3
import Derived.Deep.DeepCutAuto
import Derived.Test.YtlkiacgpiodkiaaM10
import Derived.Test.YtlkiacgpiodkiaaM12

set_option linter.unusedSimpArgs false
set_option linter.unusedVariables false
namespace Go.Proofs.Ytlkiacgpiodkiaa
open Go.ChangeShapes Go.WideShapes Go.ChangeAt Go.RowKit

/-- Both parts are handed back. -/
def SplitIs (m n : Int) (c : C2) (xs : List P5) (w : World) (e : Ending) (w' : World) : Prop :=
  ∃ v1 v2 k, e = .returned (.tuple #[.agg #[.int .i64 (pM1 m c), .int .i64 (pN1 n c), v1, .int .i64 0, .int .i64 0], .agg #[.int .i64 (pM2 m c), .int .i64 (pN2 n c), v2, .int .i64 (pX2 c), .int .i64 (pY2 c)]]) ∧
    PatIn w.heap.size k w' v1 (pL1 m n c xs) ∧ PatIn k w'.heap.size w' v2 (pL2 m n c xs) ∧ w.heap.size ≤ k ∧ k ≤ w'.heap.size ∧ Below w.heap.size w w'
/-- Five cells that may be written. -/
def cv5 (u : World) (p i : Nat) : Value := (u.cell? ⟨p, i, none⟩).getD undef
def Lv5 (p : Nat) (u : World) : Prop := ∀ i, i < 5 → u.cell? ⟨p, i, none⟩ = some (cv5 u p i) ∧ u.frozen? ⟨p, i, none⟩ = false
theorem Lv5.of {p : Nat} {u : World} (h : ∀ i, i < 5 → ∃ x, u.cell? ⟨p, i, none⟩ = some x ∧ u.frozen? ⟨p, i, none⟩ = false) : Lv5 p u := fun i hi => by
  obtain ⟨x, h1, h2⟩ := h i hi
  exact ⟨by unfold cv5; rw [h1]; rfl, h2⟩
theorem Lv5.box {p : Nat} {m n : Int} {v : Value} {l t : Int} {u : World} (h : BoxQ p m n v l t u) : Lv5 p u := Lv5.of (fun i hi => by
  obtain ⟨⟨h0, h1, h2, h3, h4⟩, f0, f1, f2, f3, f4⟩ := h
  obtain rfl | rfl | rfl | rfl | rfl : i = 0 ∨ i = 1 ∨ i = 2 ∨ i = 3 ∨ i = 4 := by omega
  · exact ⟨_, h0, f0⟩
  · exact ⟨_, h1, f1⟩
  · exact ⟨_, h2, f2⟩
  · exact ⟨_, h3, f3⟩
  · exact ⟨_, h4, f4⟩)
abbrev set5 (u : World) (p : Nat) (x0 x1 x2 x3 x4 : Value) : World := ((((u.setCell ⟨p, 0, none⟩ x0).setCell ⟨p, 1, none⟩ x1).setCell ⟨p, 2, none⟩ x2).setCell ⟨p, 3, none⟩ x3).setCell ⟨p, 4, none⟩ x4
theorem set5_far {u : World} {p : Nat} {q : Addr} (h : p ≠ q.block) {x0 x1 x2 x3 x4 : Value} : (set5 u p x0 x1 x2 x3 x4).cell? q = u.cell? q := by
  have hn : ∀ o : Nat, (⟨p, o, none⟩ : Addr) ≠ q := fun o e => h (by rw [← e])
  unfold set5
  rw [World.cell?_setCell_other _ _ _ _ (hn _), World.cell?_setCell_other _ _ _ _ (hn _), World.cell?_setCell_other _ _ _ _ (hn _), World.cell?_setCell_other _ _ _ _ (hn _), World.cell?_setCell_other _ _ _ _ (hn _)]
theorem set5_frozen {u : World} {p : Nat} {q : Addr} {x0 x1 x2 x3 x4 : Value} : (set5 u p x0 x1 x2 x3 x4).frozen? q = u.frozen? q := by
  unfold set5
  rw [World.frozen?_setCell, World.frozen?_setCell, World.frozen?_setCell, World.frozen?_setCell, World.frozen?_setCell]
theorem Lv5.below {p : Nat} {u v : World} (h : Lv5 p u) (hb : Below u.heap.size u v) : Lv5 p v := Lv5.of (fun i hi => ⟨_, kept hb (h i hi).1, keptF hb (h i hi).1 (h i hi).2⟩)
theorem set_some {u : World} {p q : Addr} {x y : Value} (h : u.cell? p = some x) : ∃ z, (u.setCell q y).cell? p = some z := by
  by_cases e : q = p
  · subst e; exact ⟨y, World.cell?_setCell_same _ _ _ h⟩
  · exact ⟨x, (World.cell?_setCell_other _ _ _ _ e).trans h⟩
theorem Lv5.set {p : Nat} {u : World} (h : Lv5 p u) (q : Addr) (y : Value) : Lv5 p (u.setCell q y) := Lv5.of (fun i hi => by
  obtain ⟨z, hz⟩ := set_some (q := q) (y := y) (h i hi).1
  exact ⟨z, hz, (World.frozen?_setCell _ _ _ _).trans (h i hi).2⟩)
theorem Lv5.all {p q : Nat} {u : World} (h : Lv5 p u) (x0 x1 x2 x3 x4 : Value) : Lv5 p (set5 u q x0 x1 x2 x3 x4) := ((((h.set _ _).set _ _).set _ _).set _ _).set _ _

end Go.Proofs.Ytlkiacgpiodkiaa

set_option linter.unusedSimpArgs false
set_option linter.unusedVariables false
namespace Go.Proofs.Ytlkiacgpiodkiaa
open Go.ChangeShapes Go.WideShapes Go.ChangeAt Go.RowKit

theorem c24_0 {t : Nat} (h : t < 12) : c24 (12 * 0 + t) = ⟨true, (t : Int)⟩ := C2.ext' (by simp [c24, h]) (by simp [c24]; omega)
theorem c24_1 {t : Nat} (h : t < 12) : c24 (12 * 1 + t) = ⟨false, (t : Int)⟩ := C2.ext' (by simp [c24]) (by simp [c24]; omega)

end Go.Proofs.Ytlkiacgpiodkiaa

set_option linter.unusedSimpArgs false
set_option linter.unusedVariables false
namespace Go.Proofs.Ytlkiacgpiodkiaa
open Go.ChangeShapes Go.WideShapes Go.ChangeAt Go.RowKit

/-- Two parts in boxes of their own. -/
def WS (G : World) (M1 N1 M2 N2 X2 Y2 : Int) (L1 L2 : List P5) (q t : Value) (u : World) : Prop :=
  ∃ pA pB vA vB k kk, q = .pointer (some ⟨pA, 0, none⟩) ∧ t = .pointer (some ⟨pB, 0, none⟩) ∧ Hid (BoxQ pA M1 N1 vA 0 0 u) ∧ Hid (BoxQ pB M2 N2 vB X2 Y2 u) ∧
    Hid (PatIn G.heap.size k u vA L1) ∧ Hid (PatIn G.heap.size kk u vB L2) ∧ k ≤ u.heap.size ∧ kk ≤ u.heap.size ∧ Hid (Below G.heap.size G u)
/-- Both parts are handed back: in letters. -/
def SplitV (M1 N1 M2 N2 X2 Y2 : Int) (L1 L2 : List P5) (w : World) (e : Ending) (w' : World) : Prop :=
  ∃ v1 v2 k, e = .returned (.tuple #[.agg #[.int .i64 M1, .int .i64 N1, v1, .int .i64 0, .int .i64 0], .agg #[.int .i64 M2, .int .i64 N2, v2, .int .i64 X2, .int .i64 Y2]]) ∧
    PatIn w.heap.size k w' v1 L1 ∧ PatIn k w'.heap.size w' v2 L2 ∧ w.heap.size ≤ k ∧ k ≤ w'.heap.size ∧ Below w.heap.size w w'

theorem within5 {u : World} {p : Nat} {x0 x1 x2 x3 x4 : Value} : Within p (p + 1) u (set5 u p x0 x1 x2 x3 x4) := by
  unfold set5
  refine Within.setCell (Within.setCell (Within.setCell (Within.setCell (Within.setCell (Within.refl _ _ _) ?_ ?_ _) ?_ ?_ _) ?_ ?_ _) ?_ ?_ _) ?_ ?_ _ <;> simp
theorem row5 {lo hi p : Nat} {u : World} {v x0 x1 x2 x3 x4 : Value} {xs : List P5} (r : PatIn lo hi u v xs) (h : hi ≤ p ∨ p < lo) (hh : hi ≤ u.heap.size) : PatIn lo hi (set5 u p x0 x1 x2 x3 x4) v xs :=
  r.within within5 (h.imp id (fun z => z)) hh
theorem BoxQ.put5 {p : Nat} {m n m' n' : Int} {v : Value} {l t l' t' : Int} {u : World} {av : Option Addr} {len cap : Nat} (h : BoxQ p m n v l t u) : BoxQ p m' n' (.slice av len cap) l' t' (set5 u p (.int .i64 m') (.int .i64 n') (.slice av len cap) (.int .i64 l') (.int .i64 t')) := by
  obtain ⟨⟨e0, e1, e2, e3, e4⟩, f0, f1, f2, f3, f4⟩ := h
  refine ⟨⟨?_, ?_, ?_, ?_, ?_⟩, set5_frozen.trans f0, set5_frozen.trans f1, set5_frozen.trans f2, set5_frozen.trans f3, set5_frozen.trans f4⟩
  all_goals unfold set5
  · rw [World.cell?_setCell_other _ _ _ _ (by simp), World.cell?_setCell_other _ _ _ _ (by simp), World.cell?_setCell_other _ _ _ _ (by simp), World.cell?_setCell_other _ _ _ _ (by simp)]
    exact World.cell?_setCell_same _ _ _ e0
  · rw [World.cell?_setCell_other _ _ _ _ (by simp), World.cell?_setCell_other _ _ _ _ (by simp), World.cell?_setCell_other _ _ _ _ (by simp)]
    exact World.cell?_setCell_same _ _ _ ((World.cell?_setCell_other _ _ _ _ (by simp)).trans e1)
  · rw [World.cell?_setCell_other _ _ _ _ (by simp), World.cell?_setCell_other _ _ _ _ (by simp)]
    exact World.cell?_setCell_same _ _ _ ((World.cell?_setCell_other _ _ _ _ (by simp)).trans ((World.cell?_setCell_other _ _ _ _ (by simp)).trans e2))
  · rw [World.cell?_setCell_other _ _ _ _ (by simp)]
    exact World.cell?_setCell_same _ _ _ ((World.cell?_setCell_other _ _ _ _ (by simp)).trans ((World.cell?_setCell_other _ _ _ _ (by simp)).trans ((World.cell?_setCell_other _ _ _ _ (by simp)).trans e3)))
  · exact World.cell?_setCell_same _ _ _ ((World.cell?_setCell_other _ _ _ _ (by simp)).trans ((World.cell?_setCell_other _ _ _ _ (by simp)).trans ((World.cell?_setCell_other _ _ _ _ (by simp)).trans ((World.cell?_setCell_other _ _ _ _ (by simp)).trans e4))))
theorem BoxQ.far5 {p q : Nat} {m n : Int} {v : Value} {l t : Int} {u : World} (h : BoxQ p m n v l t u) (hq : q ≠ p) {x0 x1 x2 x3 x4 : Value} : BoxQ p m n v l t (set5 u q x0 x1 x2 x3 x4) :=
  ((((h.far hq _).far hq _).far hq _).far hq _).far hq _
section
variable {P : Program} {md : Region.Mode} {l : List Oper} {Q : Exit → Act → World → Prop} {S : World → Prop}
theorem reg_two (i j : Nat) {oi oj : Oper} {fuel : Nat} {listed : Array Bool} {a : Act} {w : World} (hi : l[i]? = some oi) (hj : l[j]? = some oj) (hr : Region.ready md l.toArray listed = [i, j])
    (hw : Region.wanted oi (yielded l.toArray a.tmps) = true) (hw2 : Region.wanted oj (yielded l.toArray a.tmps) = true)
    (h : ∀ K' : Act → World → Prop, Shut (∀ a w, S w → (S w → wpAnyH P md l.toArray Q S fuel (listed.setIfInBounds i true) a w) → K' a w) → Oper.wp P oi a w K' Q)
    (h2 : ∀ K' : Act → World → Prop, Shut (∀ a w, S w → (S w → wpAnyH P md l.toArray Q S fuel (listed.setIfInBounds j true) a w) → K' a w) → Oper.wp P oj a w K' Q) :
    wpAnyH P md l.toArray Q S (fuel + 1) listed a w :=
  wpAnyH_ready hr (by simp) (AllReadyH.cons (by simpa using hi) (fun K hK => by rw [if_pos hw]; exact h K hK) (AllReadyH.cons (by simpa using hj) (fun K hK => by rw [if_pos hw2]; exact h2 K hK) AllReadyH.nil))
theorem reg_three (i j k : Nat) {oi oj ok : Oper} {fuel : Nat} {listed : Array Bool} {a : Act} {w : World} (hi : l[i]? = some oi) (hj : l[j]? = some oj) (hk : l[k]? = some ok) (hr : Region.ready md l.toArray listed = [i, j, k])
    (hw : Region.wanted oi (yielded l.toArray a.tmps) = true) (hw2 : Region.wanted oj (yielded l.toArray a.tmps) = true) (hw3 : Region.wanted ok (yielded l.toArray a.tmps) = true)
    (h : ∀ K' : Act → World → Prop, Shut (∀ a w, S w → (S w → wpAnyH P md l.toArray Q S fuel (listed.setIfInBounds i true) a w) → K' a w) → Oper.wp P oi a w K' Q)
    (h2 : ∀ K' : Act → World → Prop, Shut (∀ a w, S w → (S w → wpAnyH P md l.toArray Q S fuel (listed.setIfInBounds j true) a w) → K' a w) → Oper.wp P oj a w K' Q)
    (h3 : ∀ K' : Act → World → Prop, Shut (∀ a w, S w → (S w → wpAnyH P md l.toArray Q S fuel (listed.setIfInBounds k true) a w) → K' a w) → Oper.wp P ok a w K' Q) :
    wpAnyH P md l.toArray Q S (fuel + 1) listed a w :=
  wpAnyH_ready hr (by simp) (AllReadyH.cons (by simpa using hi) (fun K hK => by rw [if_pos hw]; exact h K hK) (AllReadyH.cons (by simpa using hj) (fun K hK => by rw [if_pos hw2]; exact h2 K hK) (AllReadyH.cons (by simpa using hk) (fun K hK => by rw [if_pos hw3]; exact h3 K hK) AllReadyH.nil)))
end

/-- A knot is handed back, or none. -/
def KnotV (M N : Int) (X : List P5) (ok : Bool) (lo : Nat) (w : World) (e : Ending) (w' : World) : Prop :=
  ∃ v, e = .returned (.tuple #[.agg #[.int .i64 M, .int .i64 N, v], .bool ok]) ∧ PatIn lo w'.heap.size w' v X ∧ Below w.heap.size w w'

end Go.Proofs.Ytlkiacgpiodkiaa
