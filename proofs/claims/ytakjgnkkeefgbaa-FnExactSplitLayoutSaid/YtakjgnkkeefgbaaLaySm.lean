/- Layouts: SampleLayout of both. -/
import Derived.Test.YtakjgnkkeefgbaaLayP
import Derived.Test.YtakjgnkkeefgbaaLayB
import Derived.Test.YtakjgnkkeefgbaaLayZ
namespace Go.Proofs.Ytakjgnkkeefgbaa
open Go.ChangeShapes Go.WideShapes Go.ChangeAt Go.RowKit

theorem SpecSampleLayout_any (w : World) :
    Calls Try.prog 53 #[] w (FreshL 3 3 smpL w) := by
  have hown := World.ownsRow_lit (base := w.heap.size + 1) (e := 67) (size := 5) (w.alloc (.cells #[.int .i64 3, .int .i64 3, .slice (some ⟨w.heap.size + 1, 0, none⟩) 5 5] 26)) #[.int .i64 0, .int .i64 0, .int .i64 2, .int .i64 1, .int .i64 0, .int .i64 2, .int .i64 0, .int .i64 1, .int .i64 2, .int .i64 1, .int .i64 1, .int .i64 2, .int .i64 2, .int .i64 1, .int .i64 2, .int .i64 0, .int .i64 1, .int .i64 1, .int .i64 2, .int .i64 3, .int .i64 1, .int .i64 1, .int .i64 1, .int .i64 1, .int .i64 4] 5 (by simp) (by decide) rfl
  have hin : PatIn (w.heap.size + 1) ((w.alloc (.cells #[.int .i64 3, .int .i64 3, .slice (some ⟨w.heap.size + 1, 0, none⟩) 5 5] 26)).alloc (.cells #[.int .i64 0, .int .i64 0, .int .i64 2, .int .i64 1, .int .i64 0, .int .i64 2, .int .i64 0, .int .i64 1, .int .i64 2, .int .i64 1, .int .i64 1, .int .i64 2, .int .i64 2, .int .i64 1, .int .i64 2, .int .i64 0, .int .i64 1, .int .i64 1, .int .i64 2, .int .i64 3, .int .i64 1, .int .i64 1, .int .i64 1, .int .i64 1, .int .i64 4] 67)).heap.size ((w.alloc (.cells #[.int .i64 3, .int .i64 3, .slice (some ⟨w.heap.size + 1, 0, none⟩) 5 5] 26)).alloc (.cells #[.int .i64 0, .int .i64 0, .int .i64 2, .int .i64 1, .int .i64 0, .int .i64 2, .int .i64 0, .int .i64 1, .int .i64 2, .int .i64 1, .int .i64 1, .int .i64 2, .int .i64 2, .int .i64 1, .int .i64 2, .int .i64 0, .int .i64 1, .int .i64 1, .int .i64 2, .int .i64 3, .int .i64 1, .int .i64 1, .int .i64 1, .int .i64 1, .int .i64 4] 67)) (.slice (some ⟨w.heap.size + 1, 0, none⟩) 5 5) smpL := PatIn.of_owns (xs := smpL) (by simpa [smpL, placesPat] using hown) (by decide)
  have HI := Lib.hid (hin.wide (lo' := w.heap.size + 1) (hi' := w.heap.size + 1 + 1) (Nat.le_refl _) (by simp))
  clear hown hin
  go_enter Try.func53, Try.ntmps53
  go_wp2_with fail
  refine bodyPost_ret (v := .agg #[.int .i64 3, .int .i64 3, .slice (some ⟨w.heap.size + 1, 0, none⟩) 5 5]) (by simp [results, Try.results53, go_sem]) rfl ⟨_, rfl, ?_, ?_⟩
  · exact HI.out.wide (by omega) (by simp)
  · exact bel_n (bel0 w _) (Nat.le_refl _) _

theorem ImplSampleLayout_any (w : World) :
    Calls Try.prog 21 #[] w (FreshL 3 3 smpL w) := by
  have hown := World.ownsRow_lit (base := w.heap.size + 1) (e := 67) (size := 5) (w.alloc (.cells #[.int .i64 3, .int .i64 3, .slice (some ⟨w.heap.size + 1, 0, none⟩) 5 5] 26)) #[.int .i64 0, .int .i64 0, .int .i64 2, .int .i64 1, .int .i64 0, .int .i64 2, .int .i64 0, .int .i64 1, .int .i64 2, .int .i64 1, .int .i64 1, .int .i64 2, .int .i64 2, .int .i64 1, .int .i64 2, .int .i64 0, .int .i64 1, .int .i64 1, .int .i64 2, .int .i64 3, .int .i64 1, .int .i64 1, .int .i64 1, .int .i64 1, .int .i64 4] 5 (by simp) (by decide) rfl
  have hin : PatIn (w.heap.size + 1) ((w.alloc (.cells #[.int .i64 3, .int .i64 3, .slice (some ⟨w.heap.size + 1, 0, none⟩) 5 5] 26)).alloc (.cells #[.int .i64 0, .int .i64 0, .int .i64 2, .int .i64 1, .int .i64 0, .int .i64 2, .int .i64 0, .int .i64 1, .int .i64 2, .int .i64 1, .int .i64 1, .int .i64 2, .int .i64 2, .int .i64 1, .int .i64 2, .int .i64 0, .int .i64 1, .int .i64 1, .int .i64 2, .int .i64 3, .int .i64 1, .int .i64 1, .int .i64 1, .int .i64 1, .int .i64 4] 67)).heap.size ((w.alloc (.cells #[.int .i64 3, .int .i64 3, .slice (some ⟨w.heap.size + 1, 0, none⟩) 5 5] 26)).alloc (.cells #[.int .i64 0, .int .i64 0, .int .i64 2, .int .i64 1, .int .i64 0, .int .i64 2, .int .i64 0, .int .i64 1, .int .i64 2, .int .i64 1, .int .i64 1, .int .i64 2, .int .i64 2, .int .i64 1, .int .i64 2, .int .i64 0, .int .i64 1, .int .i64 1, .int .i64 2, .int .i64 3, .int .i64 1, .int .i64 1, .int .i64 1, .int .i64 1, .int .i64 4] 67)) (.slice (some ⟨w.heap.size + 1, 0, none⟩) 5 5) smpL := PatIn.of_owns (xs := smpL) (by simpa [smpL, placesPat] using hown) (by decide)
  have HI := Lib.hid (hin.wide (lo' := w.heap.size + 1) (hi' := w.heap.size + 1 + 1) (Nat.le_refl _) (by simp))
  clear hown hin
  go_enter Try.func21, Try.ntmps21
  go_wp2_with fail
  refine bodyPost_ret (v := .agg #[.int .i64 3, .int .i64 3, .slice (some ⟨w.heap.size + 1, 0, none⟩) 5 5]) (by simp [results, Try.results21, go_sem]) rfl ⟨_, rfl, ?_, ?_⟩
  · exact HI.out.wide (by omega) (by simp)
  · exact bel_n (bel0 w _) (Nat.le_refl _) _

end Go.Proofs.Ytakjgnkkeefgbaa
