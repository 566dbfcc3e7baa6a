/- Rows of strings. -/
import Derived.Test.YthnelahnlinbnaaDoorRows
import Derived.Test.YthnelahnlinbnaaDoorBase
import Derived.Test.YthnelahnlinbnaaDoorFieldF
import Derived.WalkKit
namespace Go.Proofs.YthnelahnlinbnaaDoor
open Go.ChangeShapes Go.WideShapes Go.ChangeAt Go.RowKit

/-- A slice of strings in a block from lo on, below hi. -/
def StrIn (lo hi : Nat) (w : World) (v : Value) (fs : List ByteArray) : Prop :=
  fs.length ≤ 1048576 ∧ ((fs = [] ∧ ∃ a c, v = .slice a 0 c) ∨
    ∃ g cap, v = .slice (some ⟨g, 0, none⟩) fs.length cap ∧ lo ≤ g ∧ g < hi ∧ ∀ i, i < fs.length → w.cell? ⟨g, i, none⟩ = some (.string (fs.getD i ⟨#[]⟩)) ∧ w.frozen? ⟨g, i, none⟩ = false)
theorem StrIn.of_owns {w : World} {base e : Nat} {v : Value} {fs : List ByteArray} (h : w.ownsRow base e 1 v fs.length (strs fs)) (hl : fs.length ≤ 1048576) : StrIn base w.heap.size w v fs := by
  refine ⟨hl, ?_⟩
  have h0 := h
  obtain ⟨_, ⟨h1, h2⟩ | ⟨g, cap, cur, hv, hg, hh, _⟩⟩ := h
  · exact .inl ⟨List.length_eq_zero_iff.1 h2, none, 0, h1⟩
  · subst hv
    refine .inr ⟨g, cap, rfl, hg, lt_of_block hh, fun i hi => ⟨?_, h0.frozenAt i⟩⟩
    rw [h0.cellAt i (by omega)]
    simp [strs, List.getD, hi]
theorem StrIn.below {lo hi : Nat} {w w' : World} {v : Value} {fs : List ByteArray} (h : StrIn lo hi w v fs) (hb : Below hi w w') : StrIn lo hi w' v fs := by
  obtain ⟨hl, h | ⟨g, cap, hv, hg, hlt, hc⟩⟩ := h
  · exact ⟨hl, .inl h⟩
  · refine ⟨hl, .inr ⟨g, cap, hv, hg, hlt, fun i hi => ?_⟩⟩
    rw [hb.cell (p := ⟨g, i, none⟩) hlt, hb.frozen (p := ⟨g, i, none⟩) hlt]
    exact hc i hi
theorem StrIn.set {lo hi g n cap : Nat} {w : World} {fs : List ByteArray} (h : StrIn lo hi w (.slice (some ⟨g, 0, none⟩) n cap) fs) (j : Nat) (hj : j < fs.length) (t : ByteArray) :
    StrIn lo hi (w.setCell ⟨g, j, none⟩ (.string t)) (.slice (some ⟨g, 0, none⟩) n cap) (fs.set j t) := by
  obtain ⟨hl, ⟨h, _⟩ | ⟨g', cap', hv, hg, hlt, hc⟩⟩ := h
  · subst h; simp at hj
  · simp only [Value.slice.injEq, Option.some.injEq, Addr.mk.injEq, and_true, true_and] at hv
    obtain ⟨rfl, rfl, rfl⟩ := hv
    refine ⟨by simpa using hl, .inr ⟨g, cap, by simp, hg, hlt, fun i hi => ?_⟩⟩
    rw [List.length_set] at hi
    obtain ⟨h1, h2⟩ := hc i hi
    refine ⟨?_, by rw [World.frozen?_setCell]; exact h2⟩
    by_cases e : i = j
    · subst e
      rw [World.cell?_setCell_same _ _ _ h1]
      simp [List.getD, hi]
    · rw [World.cell?_setCell_other _ _ _ _ (by simp <;> omega), h1]
      simp [List.getD, List.getElem?_set, e, Ne.symm e]

def Tag (s : ByteArray) (ok : Bool) (fs : List ByteArray) : Prop := (ok = true ∧ OkS s ∧ fs = allF s) ∨ (ok = false ∧ ¬ OkS s ∧ fs = [])
/-- SplitFields' answer as a row of strings. -/
def SplitRow (s : ByteArray) (w : World) (e : Ending) (w' : World) : Prop :=
  ∃ (v : Value) (fs : List ByteArray) (ok : Bool), e = .returned (.tuple #[v, .bool ok]) ∧ Tag s ok fs ∧ Hid (StrIn w.heap.size w'.heap.size w' v fs) ∧ fs.length ≤ 24 ∧ Below w.heap.size w w'
theorem SplitRow.of {s : ByteArray} {w : World} {e : Ending} {w' : World} (h : SplitPost 9 s w e w') : SplitRow s w e w' := by
  obtain ⟨v, fs, h1, h2, h3⟩ := h
  have hl : fs.length ≤ 24 := by
    rcases h1 with ⟨ho, hf, _⟩ | ⟨_, hf, _⟩
    · rw [hf]; exact ho.2.2
    · rw [hf]; simp
  rcases h1 with ⟨ho, hf, he⟩ | ⟨ho, hf, he⟩
  · exact ⟨v, fs, true, he, .inl ⟨rfl, ho, hf⟩, StrIn.of_owns h2 (by omega), hl, h3⟩
  · exact ⟨v, fs, false, he, .inr ⟨rfl, ho, hf⟩, StrIn.of_owns h2 (by omega), hl, h3⟩
theorem SplitRow.same {s : ByteArray} {f1 f2 : List ByteArray} {o1 o2 : Bool} (h1 : Tag s o1 f1) (h2 : Tag s o2 f2) : o2 = o1 ∧ f2 = f1 := by
  rcases h1 with ⟨a, b, c⟩ | ⟨a, b, c⟩ <;> rcases h2 with ⟨d, e, f⟩ | ⟨d, e, f⟩
  · exact ⟨by rw [a, d], by rw [c, f]⟩
  · exact absurd b e
  · exact absurd e b
  · exact ⟨by rw [a, d], by rw [c, f]⟩

end Go.Proofs.YthnelahnlinbnaaDoor
