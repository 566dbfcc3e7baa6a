/- Layouts: the program's SeamLength. -/
import Derived.Test.YtlfeohahaidohaaLayP
import Derived.Test.YtlfeohahaidohaaLayIk
namespace Go.Proofs.Ytlfeohahaidohaa
open Go.ChangeShapes Go.WideShapes Go.ChangeAt Go.RowKit

set_option maxHeartbeats 3200000 in
set_option maxRecDepth 20000 in
theorem ImplSeamLength_any (lo hi : Nat) (m n : Int) (v : Value) (xs : List P5) (w : World) (r : PatIn lo hi w v xs) (hhi : hi ≤ w.heap.size) (wf : ∀ c ∈ xs, c.Wf) :
    Calls Try.prog 16 #[.agg #[.int .i64 m, .int .i64 n, v]] w fun e w' => e = .returned (.int .i64 (seamL m n xs)) ∧ Below w.heap.size w w' := by
  obtain ⟨a, cap, rfl⟩ := r.form
  have R : Hid (PatIn lo hi (w.alloc (.cells #[.int .i64 m, .int .i64 n, .slice a xs.length cap] 26)) (.slice a xs.length cap) xs) := Lib.hid (r.below ((bel0 w _).mono hhi))
  have R0 := Lib.hid r
  have hl := r.1
  have hhi1 : hi ≤ (w.alloc (.cells #[.int .i64 m, .int .i64 n, .slice a xs.length cap] 26)).heap.size := by simp; omega
  clear r
  by_cases h : layB m n xs = false
  · have HB := Lib.hid h
    have HR := Lib.hid (seam_no h)
    clear h
    go_enter Try.func16, Try.ntmps16
    go_wp2_with fail
    refine (ImplLayoutOk_any lo hi m n _ xs _ R.out hhi1 wf).mono ?_
    rw [HB.out]
    rintro e w1 ⟨rfl, hb1⟩
    go_wp2_with fail
    go_ret
    exact ⟨ret_int HR.out, bel_c (bel0 w _) (Nat.le_refl _) hb1⟩
  · have HB : Hid (layB m n xs = true) := Lib.hid (by simpa using h)
    clear h
    obtain ⟨⟨p00, p01⟩, ⟨p10, p11⟩, ⟨p20, p21⟩, HL4, _⟩ := lay_of HB.out
    have HF : Hid (∀ i, i < xs.length → Fit m n (pat xs i)) := Lib.hid (fun i hi => (HL4 i hi).1)
    clear HL4
    go_enter Try.func16, Try.ntmps16
    go_wp2_with fail
    refine (ImplLayoutOk_any lo hi m n _ xs _ R.out hhi1 wf).mono ?_
    rw [HB.out]
    rintro e w1 ⟨rfl, hb1⟩
    have HB1 : Below (w.heap.size + 1) (w.alloc (.cells #[.int .i64 m, .int .i64 n, .slice a xs.length cap] 26)) w1 := by simpa using hb1
    have b0 : w1.cell? ⟨w.heap.size, 0, none⟩ = some (.int .i64 m) := (HB1.cell (p := ⟨w.heap.size, 0, none⟩) (by simp)).trans (by simp)
    have b1 : w1.cell? ⟨w.heap.size, 1, none⟩ = some (.int .i64 n) := (HB1.cell (p := ⟨w.heap.size, 1, none⟩) (by simp)).trans (by simp)
    have b2 : w1.cell? ⟨w.heap.size, 2, none⟩ = some (.slice a xs.length cap) := (HB1.cell (p := ⟨w.heap.size, 2, none⟩) (by simp)).trans (by simp)
    clear hb1
    go_wp2_with fail
    go_loopw [3, 18] (fun s i wr => ∃ (k : Nat) (A : Int), k ≤ xs.length ∧ i = .int .i64 k ∧ s = .int .i64 (A - (m + n)) ∧ Hid (A = half xs k) ∧ 0 ≤ A ∧ A ≤ 24 * k ∧ Below (w.heap.size + 1) (w.alloc (.cells #[.int .i64 m, .int .i64 n, .slice a xs.length cap] 26)) wr) (fun _ i _ => xs.length - (intOf i).toNat)
    case atStart => exact ⟨0, 0, Nat.zero_le _, rfl, by first | rfl | (congr 1; omega), Lib.hid rfl, by omega, by omega, HB1⟩
    case round =>
      obtain ⟨k, A, hk, rfl, rfl, HA, A0, A1, hbel⟩ := hrel
      have hsz := hbel.size
      simp at hsz
      have b0 : wr.cell? ⟨w.heap.size, 0, none⟩ = some (.int .i64 m) := (hbel.cell (p := ⟨w.heap.size, 0, none⟩) (by simp)).trans (by simp)
      have b1 : wr.cell? ⟨w.heap.size, 1, none⟩ = some (.int .i64 n) := (hbel.cell (p := ⟨w.heap.size, 1, none⟩) (by simp)).trans (by simp)
      have b2 : wr.cell? ⟨w.heap.size, 2, none⟩ = some (.slice a xs.length cap) := (hbel.cell (p := ⟨w.heap.size, 2, none⟩) (by simp)).trans (by simp)
      by_cases hlt : k < xs.length
      · obtain ⟨g, rfl, hg, hg1, hel, _⟩ := R0.out.at (((bel0 w _).trans (hbel.mono (by omega))).mono hhi) hlt
        obtain ⟨e0, e1, e2, e3, e4⟩ := hel
        obtain ⟨c, hc⟩ : ∃ c, c = xs.getD k P5.zero := ⟨_, rfl⟩
        rw [← hc] at e0 e1 e2 e3 e4
        have HC : Hid (c = pat xs k) := Lib.hid hc
        obtain ⟨⟨f00, f01⟩, ⟨f10, f11⟩, ⟨f20, f21⟩, ⟨f30, f31⟩, _⟩ : Fit m n c := by rw [hc]; exact HF.out k hlt
        have HB0 : Hid (Below w.heap.size w wr) := Lib.hid ((bel0 w _).trans (hbel.mono (by omega)))
        clear hc
        have b0' := kept (bel0 wr (.cells #[.int .i64 c.x, .int .i64 c.y, .int .i64 c.w, .int .i64 c.h, .int .i64 c.c] 31)) b0
        have b1' := kept (bel0 wr (.cells #[.int .i64 c.x, .int .i64 c.y, .int .i64 c.w, .int .i64 c.h, .int .i64 c.c] 31)) b1
        have b2' := kept (bel0 wr (.cells #[.int .i64 c.x, .int .i64 c.y, .int .i64 c.w, .int .i64 c.h, .int .i64 c.c] 31)) b2
        have HS := Lib.hid (half_succ HA.out HC.out)
        have HBY := Lib.hid (bel_n hbel (by simp) (.cells #[.int .i64 c.x, .int .i64 c.y, .int .i64 c.w, .int .i64 c.h, .int .i64 c.c] 31))
        clear hbel
        go_wp2_with fail
        go_roundw
        case rel => exact ⟨k + 1, A + c.w + c.h, by omega, by go_num, by congr 1; omega, HS, by omega, by omega, HBY.out⟩
        case measure => simp [intOf] <;> omega
      · obtain rfl : k = xs.length := by omega
        have HH := Lib.hid (seam_yes HB.out HA.out)
        have HB0 : Hid (Below w.heap.size w wr) := Lib.hid ((bel0 w _).trans (hbel.mono (by omega)))
        clear hbel
        go_wp2_with fail
        go_ret
        exact ⟨ret_int (by rw [← HH.out]; omega), HB0.out⟩

end Go.Proofs.Ytlfeohahaidohaa
