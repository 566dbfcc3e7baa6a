/- Layouts: the program's PatchAt. -/
import Derived.Test.YtboahceibeeifaaLayP
import Derived.Test.YtboahceibeeifaaLayIk

set_option linter.unusedSimpArgs false
set_option linter.unusedVariables false
namespace Go.Proofs.Ytboahceibeeifaa
open Go.ChangeShapes Go.WideShapes Go.ChangeAt Go.RowKit

set_option maxHeartbeats 3200000 in
set_option maxRecDepth 20000 in
theorem ImplPatchAt_any (lo hi : Nat) (m n : Int) (v : Value) (xs : List P5) (x y : Int) (w : World) (r : PatIn lo hi w v xs) (hhi : hi ≤ w.heap.size) (wf : ∀ c ∈ xs, c.Wf) :
    Calls Try.prog 59 #[.agg #[.int .i64 m, .int .i64 n, v], .int .i64 x, .int .i64 y] w fun e w' => e = .returned (.int .i64 (patL m n xs x y)) ∧ Below w.heap.size w w' := by
  obtain ⟨a, cap, rfl⟩ := r.form
  have R : Hid (PatIn lo hi (w.alloc (.cells #[.int .i64 m, .int .i64 n, .slice a xs.length cap] 26)) (.slice a xs.length cap) xs) := Lib.hid (r.below ((bel0 w _).mono hhi))
  have R0 := Lib.hid r
  have hl := r.1
  have hhi1 : hi ≤ (w.alloc (.cells #[.int .i64 m, .int .i64 n, .slice a xs.length cap] 26)).heap.size := by simp; omega
  clear r
  by_cases h : layB m n xs = false
  · have HB := Lib.hid h
    have HR := Lib.hid (patL_no (x := x) (y := y) h)
    clear h
    go_enter Try.func59, Try.ntmps59
    go_wp2_with fail
    refine (ImplLayoutOk_any lo hi m n _ xs _ R.out hhi1 wf).mono ?_
    rw [HB.out]
    rintro e w1 ⟨rfl, hb1⟩
    go_wp2_with fail
    go_ret
    exact ⟨ret_int HR.out, bel_c (bel0 w _) (Nat.le_refl _) hb1⟩
  · have HB : Hid (layB m n xs = true) := Lib.hid (by simpa using h)
    clear h
    obtain ⟨⟨p00, p01⟩, ⟨p10, p11⟩, ⟨p20, p21⟩, HL4, _⟩ := lay_of HB.out
    have HF : Hid (∀ i, i < xs.length → Fit m n (pat xs i)) := Lib.hid (fun i hi => (HL4 i hi).1)
    clear HL4
    go_enter Try.func59, Try.ntmps59
    go_wp2_with fail
    refine (ImplLayoutOk_any lo hi m n _ xs _ R.out hhi1 wf).mono ?_
    rw [HB.out]
    rintro e w1 ⟨rfl, hb1⟩
    have HB1 : Below (w.heap.size + 1) (w.alloc (.cells #[.int .i64 m, .int .i64 n, .slice a xs.length cap] 26)) w1 := by simpa using hb1
    have b0 : w1.cell? ⟨w.heap.size, 0, none⟩ = some (.int .i64 m) := (HB1.cell (p := ⟨w.heap.size, 0, none⟩) (by simp)).trans (by simp)
    have b1 : w1.cell? ⟨w.heap.size, 1, none⟩ = some (.int .i64 n) := (HB1.cell (p := ⟨w.heap.size, 1, none⟩) (by simp)).trans (by simp)
    have b2 : w1.cell? ⟨w.heap.size, 2, none⟩ = some (.slice a xs.length cap) := (HB1.cell (p := ⟨w.heap.size, 2, none⟩) (by simp)).trans (by simp)
    clear hb1
    go_wp2_with fail
    go_loopw [15] (fun i wr => ∃ k : Nat, k ≤ xs.length ∧ i = .int .i64 k ∧ Hid (∀ j, j < k → ¬ Cov (pat xs j) x y) ∧ Below (w.heap.size + 1) (w.alloc (.cells #[.int .i64 m, .int .i64 n, .slice a xs.length cap] 26)) wr) (fun i _ => xs.length - (intOf i).toNat)
    case atStart => exact ⟨0, Nat.zero_le _, rfl, Lib.hid (fun j hj => by omega), HB1⟩
    case round =>
      obtain ⟨k, hk, rfl, hno, hbel⟩ := hrel
      have hsz := hbel.size
      simp at hsz
      have b0 : wr.cell? ⟨w.heap.size, 0, none⟩ = some (.int .i64 m) := (hbel.cell (p := ⟨w.heap.size, 0, none⟩) (by simp)).trans (by simp)
      have b1 : wr.cell? ⟨w.heap.size, 1, none⟩ = some (.int .i64 n) := (hbel.cell (p := ⟨w.heap.size, 1, none⟩) (by simp)).trans (by simp)
      have b2 : wr.cell? ⟨w.heap.size, 2, none⟩ = some (.slice a xs.length cap) := (hbel.cell (p := ⟨w.heap.size, 2, none⟩) (by simp)).trans (by simp)
      by_cases hlt : k < xs.length
      · obtain ⟨g, rfl, hg, hg1, hel, _⟩ := R0.out.at (((bel0 w _).trans (hbel.mono (by omega))).mono hhi) hlt
        obtain ⟨e0, e1, e2, e3, e4⟩ := hel
        obtain ⟨c, hc⟩ : ∃ c, c = xs.getD k P5.zero := ⟨_, rfl⟩
        rw [← hc] at e0 e1 e2 e3 e4
        have HC : Hid (c = pat xs k) := Lib.hid hc
        obtain ⟨⟨f00, f01⟩, ⟨f10, f11⟩, ⟨f20, f21⟩, ⟨f30, f31⟩, _⟩ : Fit m n c := by rw [hc]; exact HF.out k hlt
        have HB0 : Hid (Below w.heap.size w wr) := Lib.hid ((bel0 w _).trans (hbel.mono (by omega)))
        clear hc
        have b0' := kept (bel0 wr (.cells #[.int .i64 c.x, .int .i64 c.y, .int .i64 c.w, .int .i64 c.h, .int .i64 c.c] 34)) b0
        have b1' := kept (bel0 wr (.cells #[.int .i64 c.x, .int .i64 c.y, .int .i64 c.w, .int .i64 c.h, .int .i64 c.c] 34)) b1
        have b2' := kept (bel0 wr (.cells #[.int .i64 c.x, .int .i64 c.y, .int .i64 c.w, .int .i64 c.h, .int .i64 c.c] 34)) b2
        have HBX := Lib.hid (bel_n HB0.out (Nat.le_refl _) (.cells #[.int .i64 c.x, .int .i64 c.y, .int .i64 c.w, .int .i64 c.h, .int .i64 c.c] 34))
        have HBY := Lib.hid (bel_n hbel (by simp) (.cells #[.int .i64 c.x, .int .i64 c.y, .int .i64 c.w, .int .i64 c.h, .int .i64 c.c] 34))
        by_cases z0 : c.x ≤ x
        · by_cases z1 : x < c.x + c.w
          · by_cases z2 : c.y ≤ y
            · by_cases z3 : y < c.y + c.h
              · have HH := Lib.hid (patL_at HB.out hlt (by rw [← HC.out]; exact ⟨⟨by omega, by omega⟩, by omega, by omega⟩) hno.out)
                clear hbel
                go_wp2_with fail
                go_ret
                exact ⟨ret_int HH.out, HBX.out⟩
              · have HN : Hid (∀ j, j < k + 1 → ¬ Cov (pat xs j) x y) := Lib.hid (fun j hj => by
                  rcases Nat.lt_succ_iff_lt_or_eq.1 hj with h | rfl
                  · exact hno.out j h
                  · rw [← HC.out]; rintro ⟨⟨_, _⟩, _, _⟩; omega)
                clear hbel
                go_wp2_with fail
                go_roundw
                case rel => exact ⟨k + 1, by omega, by go_num, HN, HBY.out⟩
                case measure => simp [intOf] <;> omega
            · have HN : Hid (∀ j, j < k + 1 → ¬ Cov (pat xs j) x y) := Lib.hid (fun j hj => by
                rcases Nat.lt_succ_iff_lt_or_eq.1 hj with h | rfl
                · exact hno.out j h
                · rw [← HC.out]; rintro ⟨⟨_, _⟩, _, _⟩; omega)
              clear hbel
              go_wp2_with fail
              go_roundw
              case rel => exact ⟨k + 1, by omega, by go_num, HN, HBY.out⟩
              case measure => simp [intOf] <;> omega
          · have HN : Hid (∀ j, j < k + 1 → ¬ Cov (pat xs j) x y) := Lib.hid (fun j hj => by
              rcases Nat.lt_succ_iff_lt_or_eq.1 hj with h | rfl
              · exact hno.out j h
              · rw [← HC.out]; rintro ⟨⟨_, _⟩, _, _⟩; omega)
            clear hbel
            go_wp2_with fail
            go_roundw
            case rel => exact ⟨k + 1, by omega, by go_num, HN, HBY.out⟩
            case measure => simp [intOf] <;> omega
        · have HN : Hid (∀ j, j < k + 1 → ¬ Cov (pat xs j) x y) := Lib.hid (fun j hj => by
            rcases Nat.lt_succ_iff_lt_or_eq.1 hj with h | rfl
            · exact hno.out j h
            · rw [← HC.out]; rintro ⟨⟨_, _⟩, _, _⟩; omega)
          clear hbel
          go_wp2_with fail
          go_roundw
          case rel => exact ⟨k + 1, by omega, by go_num, HN, HBY.out⟩
          case measure => simp [intOf] <;> omega
      · obtain rfl : k = xs.length := by omega
        have HH := Lib.hid (patL_none HB.out hno.out)
        have HB0 : Hid (Below w.heap.size w wr) := Lib.hid ((bel0 w _).trans (hbel.mono (by omega)))
        clear hbel
        go_wp2_with fail
        go_ret
        exact ⟨ret_int HH.out, HB0.out⟩

end Go.Proofs.Ytboahceibeeifaa
