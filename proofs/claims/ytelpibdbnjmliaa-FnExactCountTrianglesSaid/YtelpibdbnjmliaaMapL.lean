/- A map from ints to ints that the call has made: its keys. -/
import Derived.Test.YtelpibdbnjmliaaMapI
import Derived.Maps.RangeWalk
namespace Go.Proofs.Ytelpibdbnjmliaa
open Go.ChangeShapes Go.WideShapes Go.ChangeAt Go.RowKit Go.Maps

/-- Block b is a map of at most n entries; at the key k stands f k; its keys are those of l, which bears none twice. -/
def MapLD (w : World) (b n : Nat) (l : List Int) (f : Int → Int) (D : DataW Unit) : Prop :=
  MapD w b n f D ∧ (∀ k : Int, (Lit.int .i64 k).wf = true → Maps.has D (.int .i64 k) = decide (k ∈ l)) ∧ Maps.size D = l.length
def MapL (w : World) (b n : Nat) (l : List Int) (f : Int → Int) : Prop := ∃ D : DataW Unit, MapLD w b n l f D
theorem MapL.made (w : World) : MapL (w.alloc (.map #[] 0)) w.heap.size 0 [] (fun _ => 0) := ⟨.map [], ⟨World.ownsMap_made _ _ _ _, fun _ _ => rfl⟩, fun _ _ => rfl, rfl⟩
theorem MapL.mapI {w : World} {b n : Nat} {l : List Int} {f : Int → Int} (h : MapL w b n l f) : MapI w b n f := by
  obtain ⟨D, h, _⟩ := h
  exact ⟨D, h⟩
theorem MapLD.below {w w' : World} {b n B : Nat} {l : List Int} {f : Int → Int} {D : DataW Unit} (h : MapLD w b n l f D) (hb : Below B w w') (hB : b < B) : MapLD w' b n l f D := ⟨h.1.below hb hB, h.2⟩
theorem MapL.below {w w' : World} {b n B : Nat} {l : List Int} {f : Int → Int} (h : MapL w b n l f) (hb : Below B w w') (hB : b < B) : MapL w' b n l f := by
  obtain ⟨D, h⟩ := h
  exact ⟨D, h.below hb hB⟩
theorem MapL.congr {w : World} {b n : Nat} {l : List Int} {f g : Int → Int} (h : MapL w b n l f) (e : ∀ k, f k = g k) : MapL w b n l g := by
  obtain ⟨D, ⟨h1, h2⟩, h3⟩ := h
  exact ⟨D, ⟨h1, fun k hk => by rw [← e k]; exact h2 k hk⟩, h3⟩
theorem MapL.mono {w : World} {b n n' : Nat} {l : List Int} {f : Int → Int} (h : MapL w b n l f) (hn : n ≤ n') : MapL w b n' l f := by
  obtain ⟨D, ⟨h1, h2⟩, h3⟩ := h
  exact ⟨D, ⟨h1.mono hn, h2⟩, h3⟩
/-- A store at a key that is there. -/
theorem MapLD.put_old {w w1 : World} {b n : Nat} {l : List Int} {f : Int → Int} {D : DataW Unit} (h : MapLD w b n l f D) {k c : Int} (hk : (Lit.int .i64 k).wf = true) (hl : k ∈ l) (h1 : w1.ownsMap Try.prog 3 (plainElem Try.prog 3) b (n + 1) (D.put (.int .i64 k) (.lit (.int .i64 c)))) :
    MapL w1 b (n + 1) l (fun j => if j = k then c else f j) := by
  have ht := h.1.1.tidy mlaw
  have hh : Maps.has D (.int .i64 k) = true := by rw [h.2.1 k hk]; simpa using hl
  refine ⟨_, ⟨h1, fun j hj => ?_⟩, fun j hj => ?_, ?_⟩
  · by_cases e : j = k
    · subst e
      rw [atKey_put_same h.1.1.isMap (by trivial)]
      simp
    · rw [atKey_put_other (by simp [e])]
      simp only [if_neg e]
      exact h.1.2 j hj
  · by_cases e : j = k
    · subst e
      rw [has_put_same h.1.1.isMap (by trivial)]
      simpa using hl
    · rw [has_put_other (by simp [e])]
      exact h.2.1 j hj
  · rw [size_put ht, hh]
    exact h.2.2
/-- A store at a new key. -/
theorem MapLD.put_new {w w1 : World} {b n : Nat} {l : List Int} {f : Int → Int} {D : DataW Unit} (h : MapLD w b n l f D) {k c : Int} (hk : (Lit.int .i64 k).wf = true) (hl : k ∉ l) (h1 : w1.ownsMap Try.prog 3 (plainElem Try.prog 3) b (n + 1) (D.put (.int .i64 k) (.lit (.int .i64 c)))) :
    MapL w1 b (n + 1) (l ++ [k]) (fun j => if j = k then c else f j) := by
  have ht := h.1.1.tidy mlaw
  have hh : Maps.has D (.int .i64 k) = false := by rw [h.2.1 k hk]; simpa using hl
  refine ⟨_, ⟨h1, fun j hj => ?_⟩, fun j hj => ?_, ?_⟩
  · by_cases e : j = k
    · subst e
      rw [atKey_put_same h.1.1.isMap (by trivial)]
      simp
    · rw [atKey_put_other (by simp [e])]
      simp only [if_neg e]
      exact h.1.2 j hj
  · by_cases e : j = k
    · subst e
      rw [has_put_same h.1.1.isMap (by trivial)]
      simp
    · rw [has_put_other (by simp [e]), h.2.1 j hj]
      simp [e]
  · rw [size_put ht, hh, List.length_append]
    simp [h.2.2]

/-- A look-up, whatever the world, as long as the map lies there. -/
theorem run_look {w : World} {b n : Nat} {f : Int → Int} {D : DataW Unit} (h : MapD w b n f D) {k : Int} (hk : (Lit.int .i64 k).wf = true) :
    (Instr.lookup 55 (.map (some b)) (.int .i64 k) false).run Try.prog w = .ok (.int .i64 (f k)) w := by
  obtain ⟨c, hrun, hat, _⟩ := h.1.lookup_int (t := 55) (e := 3) mlaw Try.underlying55 Try.underlying3 (mzero _) (keyOf_int_mk Try.underlying3 hk)
  rw [hrun, h.at hk hat]

end Go.Proofs.Ytelpibdbnjmliaa
