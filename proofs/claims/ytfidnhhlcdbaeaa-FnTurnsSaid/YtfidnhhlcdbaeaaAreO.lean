/- Areas: the model's AreaOf. -/
import Derived.Test.YtfidnhhlcdbaeaaAreC
namespace Go.Proofs.Ytfidnhhlcdbaeaa
open Go.ChangeShapes Go.WideShapes Go.ChangeAt Go.RowKit

set_option maxHeartbeats 400000 in
theorem SpecAreaOf_any (lo hi : Nat) (n k : Int) (v : Value) (xs : List C3) (w : World) (r : CellIn lo hi w v xs) (hhi : hi ≤ w.heap.size) :
    Calls Try.prog 39 #[.agg #[.int .i64 n, v], .int .i64 k] w fun e w' => e = .returned (.int .i64 (areaOf n xs k)) ∧ Below w.heap.size w w' := by
  obtain ⟨a, cap, rfl⟩ := r.form
  have hl := r.1
  have HR := Lib.hid (fun W (hb : Below w.heap.size w W) => r.below (hb.mono hhi))
  clear r
  by_cases hb : BlkOk n xs
  · rw [area_yes k hb]
    have HB := Lib.hid hb
    have hx := (blk_len hb).2
    clear hb
    go_enter Try.func39, Try.ntmps39
    go_wp2_with fail
    refine (SpecBlockOk_yes lo hi n _ xs _ (HR.out _ (bel0 _ _)) (by simp; omega) HB.out).mono ?_
    rintro e w1 ⟨rfl, hb1⟩
    have p1 := kept (p := ⟨w.heap.size, 1, none⟩) (x := .slice a xs.length cap) hb1 (by go_simp)
    have B1 := bel_c (bel0 w _) (Nat.le_refl _) hb1
    have HP := Lib.hid p1
    have HB1 := Lib.hid B1
    clear hb1 p1 B1
    go_wp2_with fail
    go_loopw [5, 6] (fun q i wr => ∃ m : Nat, m ≤ xs.length ∧ i = .int .i64 m ∧ q = .int .i64 (arL xs k m) ∧ Hid (wr.cell? ⟨w.heap.size, 1, none⟩ = some (.slice a xs.length cap)) ∧ Hid (Below w.heap.size w wr)) (fun _ i _ => xs.length - (intOf i).toNat)
    case atStart => exact ⟨0, Nat.zero_le _, rfl, by rw [arL_zero], HP, HB1⟩
    case round =>
      obtain ⟨m, hk, rfl, rfl, hp, hbel⟩ := hrel
      have p1 := hp.out
      by_cases hlt : m < xs.length
      · obtain ⟨g, rfl, _, _, ⟨e0, e1, e2⟩, _⟩ := (HR.out _ hbel.out).at (Below.refl _ _) hlt
        have hok := Lib.hid (HB.out.2.2 (xs.getD m C3.zero) (by simp [List.getD, hlt]))
        have HN := Lib.hid (arL_succ xs k hlt)
        have hA := arL_bound xs k m hk
        have hZ := ar2_bound (xs.getD m C3.zero) k
        generalize xs.getD m C3.zero = c at e0 e1 e2 hok HN hZ
        generalize hAA : arL xs k m = A at HN hA ⊢
        clear hAA
        go_wp2_with fail
        refine (SpecArea_ok _ _ _ hok.out).mono ?_
        generalize hzz : ar2 c k = z at HN hZ ⊢
        clear hzz
        rintro e w2 ⟨rfl, hb2⟩
        have HP2 := Lib.hid (kept hb2 p1)
        have HB2 := Lib.hid (bel_c hbel.out (Nat.le_refl _) hb2)
        clear hb2 hp hbel
        go_wp2_with fail
        go_roundw
        case rel => exact ⟨m + 1, by omega, by go_num, by rw [HN.out], HP2, HB2⟩
        case measure => simp [intOf] <;> omega
      · obtain rfl : m = xs.length := by omega
        go_wp2_with fail
        go_ret
        exact ⟨rfl, hbel.out⟩
  · rw [area_no k hb]
    have HB := Lib.hid hb
    clear hb
    go_enter Try.func39, Try.ntmps39
    go_wp2_with fail
    refine (SpecBlockOk_no lo hi n _ xs _ (HR.out _ (bel0 _ _)) (by simp; omega) HB.out).mono ?_
    rintro e w1 ⟨rfl, hb1⟩
    go_wp2_with fail
    go_ret
    exact ⟨rfl, bel_c (bel0 w _) (Nat.le_refl _) hb1⟩

end Go.Proofs.Ytfidnhhlcdbaeaa
