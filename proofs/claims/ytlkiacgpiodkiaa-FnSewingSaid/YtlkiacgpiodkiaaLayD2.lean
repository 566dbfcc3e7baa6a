/- Layouts: SampleLayout, its row owned. -/
import Derived.Test.YtlkiacgpiodkiaaM24

set_option linter.unusedSimpArgs false
set_option linter.unusedVariables false
namespace Go.Proofs.Ytlkiacgpiodkiaa
open Go.ChangeShapes Go.WideShapes Go.ChangeAt Go.RowKit

/-- The sample, its row owned. -/
def OwnSmp (w : World) (e : Ending) (w' : World) : Prop := ∃ g : Nat, e = .returned (.agg #[.int .i64 3, .int .i64 3, .slice (some ⟨g, 0, none⟩) 5 5]) ∧ w'.ownsRow w.heap.size 73 5 (.slice (some ⟨g, 0, none⟩) 5 5) 5 (placesPat smpL) ∧ Below w.heap.size w w'
theorem SpecSample_own (w : World) : Calls Try.prog 49 #[] w (OwnSmp w) := by
  have hown := World.ownsRow_lit (base := w.heap.size) (e := 73) (size := 5) (w.alloc (.cells #[.int .i64 3, .int .i64 3, .slice (some ⟨w.heap.size + 1, 0, none⟩) 5 5] 50)) #[.int .i64 0, .int .i64 0, .int .i64 2, .int .i64 1, .int .i64 0, .int .i64 2, .int .i64 0, .int .i64 1, .int .i64 2, .int .i64 1, .int .i64 1, .int .i64 2, .int .i64 2, .int .i64 1, .int .i64 2, .int .i64 0, .int .i64 1, .int .i64 1, .int .i64 2, .int .i64 3, .int .i64 1, .int .i64 1, .int .i64 1, .int .i64 1, .int .i64 4] 5 (by simp) (by decide) rfl
  have HI : Hid (((w.alloc (.cells #[.int .i64 3, .int .i64 3, .slice (some ⟨w.heap.size + 1, 0, none⟩) 5 5] 50)).alloc (.cells #[.int .i64 0, .int .i64 0, .int .i64 2, .int .i64 1, .int .i64 0, .int .i64 2, .int .i64 0, .int .i64 1, .int .i64 2, .int .i64 1, .int .i64 1, .int .i64 2, .int .i64 2, .int .i64 1, .int .i64 2, .int .i64 0, .int .i64 1, .int .i64 1, .int .i64 2, .int .i64 3, .int .i64 1, .int .i64 1, .int .i64 1, .int .i64 1, .int .i64 4] 73)).ownsRow w.heap.size 73 5 (.slice (some ⟨w.heap.size + 1, 0, none⟩) 5 5) 5 (placesPat smpL)) := Lib.hid (by simpa [smpL, placesPat] using hown)
  clear hown
  go_enter Try.func49, Try.ntmps49
  go_wp2_with fail
  refine bodyPost_ret (v := .agg #[.int .i64 3, .int .i64 3, .slice (some ⟨w.heap.size + 1, 0, none⟩) 5 5]) (by simp [results, Try.results49, go_sem]) rfl ⟨_, rfl, HI.out, ?_⟩
  exact bel_n (bel0 w _) (Nat.le_refl _) _

end Go.Proofs.Ytlkiacgpiodkiaa
