/- Areas: the model's CellArea. -/
import Derived.Test.YtfidnhhlcdbaeaaAreF
import Derived.Test.YtfidnhhlcdbaeaaBlkW
namespace Go.Proofs.Ytfidnhhlcdbaeaa
open Go.ChangeShapes Go.WideShapes Go.ChangeAt Go.RowKit

theorem SpecArea_any (s a b k : Int) (w : World) :
    Calls Try.prog 54 #[.agg #[.int .i64 s, .int .i64 a, .int .i64 b], .int .i64 k] w fun e w' => e = .returned (.int .i64 (arC ⟨s, a, b⟩ k)) ∧ Below w.heap.size w w' := by
  by_cases h : OkC s a b
  · rw [arC_yes (c := ⟨s, a, b⟩) k h]
    have HC := Lib.hid h
    have P : ∀ w1 : World, Below (w.alloc (.cells #[.int .i64 s, .int .i64 a, .int .i64 b] 29)).heap.size (w.alloc (.cells #[.int .i64 s, .int .i64 a, .int .i64 b] 29)) w1 → w1.cell? ⟨w.heap.size, 1, none⟩ = some (.int .i64 a) ∧ w1.cell? ⟨w.heap.size, 2, none⟩ = some (.int .i64 b) ∧ Below w.heap.size w w1 := fun w1 hb =>
      ⟨kept (p := ⟨w.heap.size, 1, none⟩) (x := .int .i64 a) hb (by go_simp), kept (p := ⟨w.heap.size, 2, none⟩) (x := .int .i64 b) hb (by go_simp), bel_c (bel0 w _) (Nat.le_refl _) hb⟩
    clear h
    by_cases h1 : a = k
    · have b1 : (a == k) = true := by simpa using h1
      by_cases h2 : b = k
      · have b2 : (b == k) = true := by simpa using h2
        have HE : Hid (ar2 ⟨s, a, b⟩ k = 4) := Lib.hid (by unfold ar2; simp [h1, h2])
        rw [HE.out]
        clear h1 h2
        go_enter Try.func54, Try.ntmps54
        go_wp2_with fail
        refine (SpecOk_yes _ _ _ _ HC.out).mono ?_
        rintro e w1 ⟨rfl, hb⟩
        obtain ⟨c1, c2, B⟩ := P w1 hb
        clear hb P
        go_wp2_with fail
        go_ret
        exact ⟨rfl, B⟩
      · have b2 : (b == k) = false := by simpa using h2
        have HE : Hid (ar2 ⟨s, a, b⟩ k = 2) := Lib.hid (by unfold ar2; simp [h1, h2])
        rw [HE.out]
        clear h1 h2
        go_enter Try.func54, Try.ntmps54
        go_wp2_with fail
        refine (SpecOk_yes _ _ _ _ HC.out).mono ?_
        rintro e w1 ⟨rfl, hb⟩
        obtain ⟨c1, c2, B⟩ := P w1 hb
        clear hb P
        go_wp2_with fail
        go_ret
        exact ⟨rfl, B⟩
    · have b1 : (a == k) = false := by simpa using h1
      by_cases h2 : b = k
      · have b2 : (b == k) = true := by simpa using h2
        have HE : Hid (ar2 ⟨s, a, b⟩ k = 2) := Lib.hid (by unfold ar2; simp [h1, h2])
        rw [HE.out]
        clear h1 h2
        go_enter Try.func54, Try.ntmps54
        go_wp2_with fail
        refine (SpecOk_yes _ _ _ _ HC.out).mono ?_
        rintro e w1 ⟨rfl, hb⟩
        obtain ⟨c1, c2, B⟩ := P w1 hb
        clear hb P
        go_wp2_with fail
        go_ret
        exact ⟨rfl, B⟩
      · have b2 : (b == k) = false := by simpa using h2
        have HE : Hid (ar2 ⟨s, a, b⟩ k = 0) := Lib.hid (by unfold ar2; simp [h1, h2])
        rw [HE.out]
        clear h1 h2
        go_enter Try.func54, Try.ntmps54
        go_wp2_with fail
        refine (SpecOk_yes _ _ _ _ HC.out).mono ?_
        rintro e w1 ⟨rfl, hb⟩
        obtain ⟨c1, c2, B⟩ := P w1 hb
        clear hb P
        go_wp2_with fail
        go_ret
        exact ⟨rfl, B⟩
  · rw [arC_no (c := ⟨s, a, b⟩) k h]
    have HC := Lib.hid h
    clear h
    go_enter Try.func54, Try.ntmps54
    go_wp2_with fail
    refine (SpecOk_no _ _ _ _ HC.out).mono ?_
    rintro e w1 ⟨rfl, hb⟩
    go_wp2_with fail
    go_ret
    exact ⟨rfl, bel_c (bel0 w _) (Nat.le_refl _) hb⟩

theorem SpecArea_ok (c : C3) (k : Int) (w : World) (h : c.Ok) :
    Calls Try.prog 54 #[.agg #[.int .i64 c.s, .int .i64 c.a, .int .i64 c.b], .int .i64 k] w fun e w' => e = .returned (.int .i64 (ar2 c k)) ∧ Below w.heap.size w w' := by
  have := SpecArea_any c.s c.a c.b k w
  rw [arC_yes (c := ⟨c.s, c.a, c.b⟩) k h] at this
  exact this

end Go.Proofs.Ytfidnhhlcdbaeaa
