/- Layouts: SampleLayout of both. -/
import Derived.Test.YtboahceibeeifaaLayP
import Derived.Test.YtboahceibeeifaaLayB
import Derived.Test.YtboahceibeeifaaLayZ

set_option linter.unusedSimpArgs false
set_option linter.unusedVariables false
namespace Go.Proofs.Ytboahceibeeifaa
open Go.ChangeShapes Go.WideShapes Go.ChangeAt Go.RowKit

theorem SpecSampleLayout_any (w : World) :
    Calls Try.prog 56 #[] w (FreshL 3 3 smpL w) := by
  have hown := World.ownsRow_lit (base := w.heap.size + 1) (e := 34) (size := 5) (w.alloc (.cells #[.int .i64 3, .int .i64 3, .slice (some ⟨w.heap.size + 1, 0, none⟩) 5 5] 26)) #[.int .i64 0, .int .i64 0, .int .i64 2, .int .i64 1, .int .i64 0, .int .i64 2, .int .i64 0, .int .i64 1, .int .i64 2, .int .i64 1, .int .i64 1, .int .i64 2, .int .i64 2, .int .i64 1, .int .i64 2, .int .i64 0, .int .i64 1, .int .i64 1, .int .i64 2, .int .i64 3, .int .i64 1, .int .i64 1, .int .i64 1, .int .i64 1, .int .i64 4] 5 (by simp) (by decide) rfl
  have hin : PatIn (w.heap.size + 1) ((w.alloc (.cells #[.int .i64 3, .int .i64 3, .slice (some ⟨w.heap.size + 1, 0, none⟩) 5 5] 26)).alloc (.cells #[.int .i64 0, .int .i64 0, .int .i64 2, .int .i64 1, .int .i64 0, .int .i64 2, .int .i64 0, .int .i64 1, .int .i64 2, .int .i64 1, .int .i64 1, .int .i64 2, .int .i64 2, .int .i64 1, .int .i64 2, .int .i64 0, .int .i64 1, .int .i64 1, .int .i64 2, .int .i64 3, .int .i64 1, .int .i64 1, .int .i64 1, .int .i64 1, .int .i64 4] 34)).heap.size ((w.alloc (.cells #[.int .i64 3, .int .i64 3, .slice (some ⟨w.heap.size + 1, 0, none⟩) 5 5] 26)).alloc (.cells #[.int .i64 0, .int .i64 0, .int .i64 2, .int .i64 1, .int .i64 0, .int .i64 2, .int .i64 0, .int .i64 1, .int .i64 2, .int .i64 1, .int .i64 1, .int .i64 2, .int .i64 2, .int .i64 1, .int .i64 2, .int .i64 0, .int .i64 1, .int .i64 1, .int .i64 2, .int .i64 3, .int .i64 1, .int .i64 1, .int .i64 1, .int .i64 1, .int .i64 4] 34)) (.slice (some ⟨w.heap.size + 1, 0, none⟩) 5 5) smpL := PatIn.of_owns (xs := smpL) (by simpa [smpL, placesPat] using hown) (by decide)
  have HI := Lib.hid (hin.wide (lo' := w.heap.size + 1) (hi' := w.heap.size + 1 + 1) (Nat.le_refl _) (by simp))
  clear hown hin
  go_enter Try.func56, Try.ntmps56
  go_wp2_with fail
  refine bodyPost_ret (v := .agg #[.int .i64 3, .int .i64 3, .slice (some ⟨w.heap.size + 1, 0, none⟩) 5 5]) (by simp [results, Try.results56, go_sem]) rfl ⟨_, rfl, ?_, ?_⟩
  · exact HI.out.wide (by omega) (by simp)
  · exact bel_n (bel0 w _) (Nat.le_refl _) _

end Go.Proofs.Ytboahceibeeifaa
