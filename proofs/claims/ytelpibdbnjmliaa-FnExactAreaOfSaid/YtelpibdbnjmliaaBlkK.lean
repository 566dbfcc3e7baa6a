/- Blocks: the model's copy. -/
import Derived.Test.YtelpibdbnjmliaaBlkZ
import Derived.Deep.RegionHeld3
import Derived.Deep.AppendLies
namespace Go.Proofs.Ytelpibdbnjmliaa
open Go.ChangeShapes Go.WideShapes Go.ChangeAt Go.RowKit

theorem own_new3 (w : World) (e : Nat) : (w.alloc (.cells #[] e)).ownsRow w.heap.size e 3 (.slice (some ⟨w.heap.size, 0, none⟩) 0 0) 0 [] :=
  ⟨by simp, .inr ⟨_, 0, #[], rfl, Nat.le_refl _, heap_alloc_new _ _, by simp, by simp, rfl, rfl⟩⟩
theorem bel_dr {b : Nat} {w u : World} (h : Below b w u) : Below b w u.drew := ⟨h.os, h.tape, h.output, h.size, h.block⟩
theorem places_one (xs : List C3) : ∀ u ∈ places xs, u.oneCell' = true := by
  intro u hu
  simp only [places, List.mem_flatMap] at hu
  obtain ⟨c, _, hc⟩ := hu
  simp only [List.mem_cons, List.not_mem_nil, or_false] at hc
  rcases hc with rfl | rfl | rfl <;> rfl
/-- The places of a row that is not empty, read one by one. -/
theorem CellIn.news {lo hi : Nat} {w : World} {a : Option Addr} {n cap : Nat} {xs : List C3} (h : CellIn lo hi w (.slice a n cap) xs) (h0 : 0 < xs.length) :
    ∃ g, a = some ⟨g, 0, none⟩ ∧ lo ≤ g ∧ g < hi ∧ ∀ w', Below hi w w' → ∀ (j : Nat) u, (places xs)[j]? = some u → w'.cell? ((⟨g, 0, none⟩ : Addr).add j) = some u := by
  obtain ⟨_, ⟨rfl, _⟩ | ⟨g, cap, hv, hg, hlt, hc⟩⟩ := h
  · simp at h0
  · simp only [Value.slice.injEq] at hv
    refine ⟨g, hv.1, hg, hlt, fun w' hb j u hu => ?_⟩
    have hj : j < xs.length * 3 := by
      rcases Nat.lt_or_ge j (xs.length * 3) with h | h
      · exact h
      · rw [List.getElem?_eq_none (by rw [places_length]; exact h)] at hu; cases hu
    have ad : (⟨g, 0, none⟩ : Addr).add j = ⟨g, j, none⟩ := by cases j <;> simp [Addr.add]
    rw [ad]
    obtain ⟨k, hk⟩ : ∃ k, j = k * 3 ∨ j = k * 3 + 1 ∨ j = k * 3 + 2 := ⟨j / 3, by omega⟩
    have hkn : k < xs.length := by omega
    obtain ⟨p0, p1, p2⟩ := places_at xs k hkn
    obtain ⟨e0, e1, e2⟩ := (hc k hkn).1.below hb hlt
    rcases hk with rfl | rfl | rfl
    · rw [e0, ← hu, p0]
    · rw [e1, ← hu, p1]
    · rw [e2, ← hu, p2]

end Go.Proofs.Ytelpibdbnjmliaa
