/- A map from ints to ints that the call has made: what stands at each key. -/
import Derived.Test.YtelpibdbnjmliaaBlkZ
import Derived.Maps.OwnOps
import Derived.Maps.OwnSet
import Derived.Maps.Views
namespace Go.Proofs.Ytelpibdbnjmliaa
open Go.ChangeShapes Go.WideShapes Go.ChangeAt Go.RowKit Go.Maps

theorem mlaw : Keyed Try.prog 3 := int_keyed Try.underlying3
theorem mzero (w : World) : (zeroValue 3).run Try.prog w = .ok (.int .i64 0) w := by kernel_rfl
/-- Block b is a map of at most n entries; at the key k stands f k. -/
def MapD (w : World) (b n : Nat) (f : Int → Int) (D : DataW Unit) : Prop :=
  w.ownsMap Try.prog 3 (plainElem Try.prog 3) b n D ∧ ∀ k : Int, (Lit.int .i64 k).wf = true → D.atKey (.int .i64 k) (.lit (.int .i64 0)) = .lit (.int .i64 (f k))
def MapI (w : World) (b n : Nat) (f : Int → Int) : Prop := ∃ D : DataW Unit, MapD w b n f D
theorem MapI.made (w : World) : MapI (w.alloc (.map #[] 0)) w.heap.size 0 (fun _ => 0) := ⟨.map [], World.ownsMap_made _ _ _ _, fun _ _ => rfl⟩
theorem MapD.lt {w : World} {b n : Nat} {f : Int → Int} {D : DataW Unit} (h : MapD w b n f D) : b < w.heap.size := h.1.lt
theorem MapD.below {w w' : World} {b n B : Nat} {f : Int → Int} {D : DataW Unit} (h : MapD w b n f D) (hb : Below B w w') (hB : b < B) : MapD w' b n f D := by
  obtain ⟨⟨es, clock, h1, F, h2, h3⟩, h4⟩ := h
  exact ⟨⟨es, clock, (hb.block b hB).trans h1, F, h2, h3⟩, h4⟩
theorem MapI.below {w w' : World} {b n B : Nat} {f : Int → Int} (h : MapI w b n f) (hb : Below B w w') (hB : b < B) : MapI w' b n f := by
  obtain ⟨D, h⟩ := h
  exact ⟨D, h.below hb hB⟩
theorem MapI.congr {w : World} {b n : Nat} {f g : Int → Int} (h : MapI w b n f) (e : ∀ k, f k = g k) : MapI w b n g := by
  obtain ⟨D, h1, h2⟩ := h
  exact ⟨D, h1, fun k hk => by rw [← e k]; exact h2 k hk⟩
/-- What a look-up has found. -/
theorem MapD.at {w : World} {b n : Nat} {f : Int → Int} {D : DataW Unit} (h : MapD w b n f D) {k c : Int} (hk : (Lit.int .i64 k).wf = true) (hat : D.atKey (.int .i64 k) (.lit (.int .i64 0)) = .lit (.int .i64 c)) : c = f k := by
  have := (h.2 k hk).symm.trans hat
  simp only [DataW.lit.injEq, Lit.int.injEq, true_and] at this
  exact this.symm
/-- What a store has left. -/
theorem MapD.put {w w1 : World} {b n : Nat} {f : Int → Int} {D : DataW Unit} (h : MapD w b n f D) {k c : Int} (hk : (Lit.int .i64 k).wf = true) (h1 : w1.ownsMap Try.prog 3 (plainElem Try.prog 3) b (n + 1) (D.put (.int .i64 k) (.lit (.int .i64 c)))) :
    MapI w1 b (n + 1) (fun j => if j = k then c else f j) := by
  refine ⟨_, h1, fun j hj => ?_⟩
  by_cases e : j = k
  · subst e
    rw [atKey_put_same h.1.isMap (by trivial)]
    simp
  · rw [atKey_put_other (by simp [e])]
    simp only [if_neg e]
    exact h.2 j hj

end Go.Proofs.Ytelpibdbnjmliaa
