/- Layouts: the program's hasPatch. -/
import Derived.Test.YtlfeohahaidohaaLayP
import Derived.Test.YtlfeohahaidohaaLayIk
namespace Go.Proofs.Ytlfeohahaidohaa
open Go.ChangeShapes Go.WideShapes Go.ChangeAt Go.RowKit

/-- The layout is valid, and i one of its patches. -/
noncomputable def hpB (m n : Int) (xs : List P5) (i : Int) : Bool := layB m n xs && decide (0 ≤ i ∧ i < xs.length)
set_option maxHeartbeats 3200000 in
set_option maxRecDepth 20000 in
theorem HasPatch_any (lo hi : Nat) (m n : Int) (v : Value) (xs : List P5) (i : Int) (w : World) (r : PatIn lo hi w v xs) (hhi : hi ≤ w.heap.size) (wf : ∀ c ∈ xs, c.Wf) :
    Calls Try.prog 31 #[.agg #[.int .i64 m, .int .i64 n, v], .int .i64 i] w fun e w' => e = .returned (.bool (hpB m n xs i)) ∧ Below w.heap.size w w' := by
  obtain ⟨a, cap, rfl⟩ := r.form
  have R : Hid (PatIn lo hi (w.alloc (.cells #[.int .i64 m, .int .i64 n, .slice a xs.length cap] 26)) (.slice a xs.length cap) xs) := Lib.hid (r.below ((bel0 w _).mono hhi))
  have R0 := Lib.hid r
  have hl := r.1
  have hhi1 : hi ≤ (w.alloc (.cells #[.int .i64 m, .int .i64 n, .slice a xs.length cap] 26)).heap.size := by simp; omega
  clear r
  by_cases h : layB m n xs = false
  · have HB := Lib.hid h
    have HR : Hid (false = hpB m n xs i) := Lib.hid (by simp [hpB, h])
    clear h
    go_enter Try.func31, Try.ntmps31
    go_wp2_with fail
    refine (ImplLayoutOk_any lo hi m n _ xs _ R.out hhi1 wf).mono ?_
    rw [HB.out]
    rintro e w1 ⟨rfl, hb1⟩
    go_wp2_with fail
    go_ret
    exact ⟨ret_bool HR.out, bel_c (bel0 w _) (Nat.le_refl _) hb1⟩
  · have HB : Hid (layB m n xs = true) := Lib.hid (by simpa using h)
    clear h
    by_cases h0 : 0 ≤ i
    · by_cases h1 : i < xs.length
      · have HR : Hid (true = hpB m n xs i) := Lib.hid (by simp [hpB, HB.out, h0, h1])
        go_enter Try.func31, Try.ntmps31
        go_wp2_with fail
        refine (ImplLayoutOk_any lo hi m n _ xs _ R.out hhi1 wf).mono ?_
        rw [HB.out]
        rintro e w1 ⟨rfl, hb1⟩
        have HB1 : Below (w.heap.size + 1) (w.alloc (.cells #[.int .i64 m, .int .i64 n, .slice a xs.length cap] 26)) w1 := by simpa using hb1
        have b0 : w1.cell? ⟨w.heap.size, 0, none⟩ = some (.int .i64 m) := (HB1.cell (p := ⟨w.heap.size, 0, none⟩) (by simp)).trans (by simp)
        have b1 : w1.cell? ⟨w.heap.size, 1, none⟩ = some (.int .i64 n) := (HB1.cell (p := ⟨w.heap.size, 1, none⟩) (by simp)).trans (by simp)
        have b2 : w1.cell? ⟨w.heap.size, 2, none⟩ = some (.slice a xs.length cap) := (HB1.cell (p := ⟨w.heap.size, 2, none⟩) (by simp)).trans (by simp)
        go_wp2_with fail
        go_ret
        exact ⟨ret_bool HR.out, bel_c (bel0 w _) (Nat.le_refl _) hb1⟩
      · have HR : Hid (false = hpB m n xs i) := Lib.hid (by simp [hpB, HB.out]; omega)
        go_enter Try.func31, Try.ntmps31
        go_wp2_with fail
        refine (ImplLayoutOk_any lo hi m n _ xs _ R.out hhi1 wf).mono ?_
        rw [HB.out]
        rintro e w1 ⟨rfl, hb1⟩
        have HB1 : Below (w.heap.size + 1) (w.alloc (.cells #[.int .i64 m, .int .i64 n, .slice a xs.length cap] 26)) w1 := by simpa using hb1
        have b0 : w1.cell? ⟨w.heap.size, 0, none⟩ = some (.int .i64 m) := (HB1.cell (p := ⟨w.heap.size, 0, none⟩) (by simp)).trans (by simp)
        have b1 : w1.cell? ⟨w.heap.size, 1, none⟩ = some (.int .i64 n) := (HB1.cell (p := ⟨w.heap.size, 1, none⟩) (by simp)).trans (by simp)
        have b2 : w1.cell? ⟨w.heap.size, 2, none⟩ = some (.slice a xs.length cap) := (HB1.cell (p := ⟨w.heap.size, 2, none⟩) (by simp)).trans (by simp)
        go_wp2_with fail
        go_ret
        exact ⟨ret_bool (by rw [← HR.out]; simp <;> omega), bel_c (bel0 w _) (Nat.le_refl _) hb1⟩
    · have HR : Hid (false = hpB m n xs i) := Lib.hid (by simp [hpB, HB.out]; omega)
      go_enter Try.func31, Try.ntmps31
      go_wp2_with fail
      refine (ImplLayoutOk_any lo hi m n _ xs _ R.out hhi1 wf).mono ?_
      rw [HB.out]
      rintro e w1 ⟨rfl, hb1⟩
      have HB1 : Below (w.heap.size + 1) (w.alloc (.cells #[.int .i64 m, .int .i64 n, .slice a xs.length cap] 26)) w1 := by simpa using hb1
      have b0 : w1.cell? ⟨w.heap.size, 0, none⟩ = some (.int .i64 m) := (HB1.cell (p := ⟨w.heap.size, 0, none⟩) (by simp)).trans (by simp)
      have b1 : w1.cell? ⟨w.heap.size, 1, none⟩ = some (.int .i64 n) := (HB1.cell (p := ⟨w.heap.size, 1, none⟩) (by simp)).trans (by simp)
      have b2 : w1.cell? ⟨w.heap.size, 2, none⟩ = some (.slice a xs.length cap) := (HB1.cell (p := ⟨w.heap.size, 2, none⟩) (by simp)).trans (by simp)
      go_wp2_with fail
      go_ret
      exact ⟨ret_bool HR.out, bel_c (bel0 w _) (Nat.le_refl _) hb1⟩

end Go.Proofs.Ytlfeohahaidohaa
