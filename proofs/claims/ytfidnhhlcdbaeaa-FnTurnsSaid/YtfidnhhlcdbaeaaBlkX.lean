/- Blocks: the model's StarBlock. -/
import Derived.Test.YtfidnhhlcdbaeaaBlkZ
import Derived.Test.YtfidnhhlcdbaeaaCellWs
namespace Go.Proofs.Ytfidnhhlcdbaeaa
open Go.ChangeShapes Go.WideShapes Go.ChangeAt Go.RowKit

/-- The cells of the star. -/
def starC : List C3 := [⟨1, 0, 1⟩, ⟨0, 1, 1⟩, ⟨2, 1, 0⟩, ⟨0, 1, 1⟩, ⟨0, 1, 1⟩, ⟨0, 1, 1⟩, ⟨2, 0, 1⟩, ⟨0, 1, 1⟩, ⟨1, 1, 0⟩]
theorem star_ok : BlkOk 3 starC := by
  refine ⟨by decide, by decide, ?_⟩
  intro c hc
  simp only [starC, List.mem_cons, List.not_mem_nil, or_false] at hc
  rcases hc with rfl | rfl | rfl | rfl | rfl | rfl | rfl | rfl | rfl <;> (unfold C3.Ok OkC; decide)

theorem owns_whole {w : World} {g e : Nat} {base : Nat} {xs : List C3} (h : w.heap[g]? = some (.cells (places xs).toArray e (0, 0))) (hb : base ≤ g) (hl : xs.length ≤ 1048576) :
    w.ownsRow base e 3 (.slice (some ⟨g, 0, none⟩) xs.length xs.length) xs.length (places xs) :=
  ⟨places_length xs, .inr ⟨g, xs.length, (places xs).toArray, rfl, hb, h, Nat.le_refl _, by unfold maxLen; omega, by simp [places_length], by simp [← places_length]⟩⟩

theorem heap_at (W : World) (q : Nat) (cs : Array Value) (t : TypeId) (h : W.heap.size = q) : (W.alloc (.cells cs t)).heap[q]? = some (.cells cs t (0, 0)) := by
  subst h; exact heap_alloc_new W _

set_option maxHeartbeats 400000 in
theorem SpecStar_any (w : World) :
    Calls Try.prog 49 #[] w (FreshB 3 starC w) := by
  have CW : ∀ w, Calls Try.prog 59 #[.int .i64 1] w fun e w' => e = .returned (.agg #[.int .i64 0, .int .i64 1, .int .i64 1]) ∧ w' = w.alloc (.cells #[.int .i64 0, .int .i64 1, .int .i64 1] 29) := fun w => by have := SpecWhole_any 1 w; rw [wh_yes (by omega)] at this; exact this
  go_enter Try.func49, Try.ntmps49
  go_wp2_with fail
  refine (CW _).mono ?_
  rintro e w' ⟨rfl, rfl⟩
  go_wp2_with fail
  refine bodyPost_ret (v := .agg #[.int .i64 3, .slice (some ⟨w.heap.size + 1 + 1 + 1, 0, none⟩) 9 9]) (by simp [results, Try.results49, go_sem]) rfl ⟨.slice (some ⟨w.heap.size + 1 + 1 + 1, 0, none⟩) 9 9, rfl, ?_, ?_⟩
  · exact CellIn.of_owns (xs := starC) (owns_whole (heap_at _ _ (places starC).toArray 29 (by simp)) (by omega) (by decide)) (by decide)
  · exact bel_n (bel_n (bel_n (bel0 w _) (Nat.le_refl _) _) (Nat.le_refl _) _) (Nat.le_refl _) _

end Go.Proofs.Ytfidnhhlcdbaeaa
