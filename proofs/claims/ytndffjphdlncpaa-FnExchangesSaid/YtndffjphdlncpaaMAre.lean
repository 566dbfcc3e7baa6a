/- Areas: the model's CellArea. Areas: the model's AreaOf. -/
import Derived.Test.YtndffjphdlncpaaMImp
import Derived.Test.YtndffjphdlncpaaMBlm

namespace Go.Proofs.Ytndffjphdlncpaa
open Go.ChangeShapes Go.WideShapes Go.ChangeAt Go.RowKit

theorem SpecArea_any (s a b k : Int) (w : World) :
    Calls Try.prog 54 #[.agg #[.int .i64 s, .int .i64 a, .int .i64 b], .int .i64 k] w fun e w' => e = .returned (.int .i64 (arC ⟨s, a, b⟩ k)) ∧ Below w.heap.size w w' := by
  by_cases h : OkC s a b
  · rw [arC_yes (c := ⟨s, a, b⟩) k h]
    have HC := Lib.hid h
    have P : ∀ w1 : World, Below (w.alloc (.cells #[.int .i64 s, .int .i64 a, .int .i64 b] 41)).heap.size (w.alloc (.cells #[.int .i64 s, .int .i64 a, .int .i64 b] 41)) w1 → w1.cell? ⟨w.heap.size, 1, none⟩ = some (.int .i64 a) ∧ w1.cell? ⟨w.heap.size, 2, none⟩ = some (.int .i64 b) ∧ Below w.heap.size w w1 := fun w1 hb =>
      ⟨kept (p := ⟨w.heap.size, 1, none⟩) (x := .int .i64 a) hb (by go_simp), kept (p := ⟨w.heap.size, 2, none⟩) (x := .int .i64 b) hb (by go_simp), bel_c (bel0 w _) (Nat.le_refl _) hb⟩
    clear h
    by_cases h1 : a = k
    · have b1 : (a == k) = true := by simpa using h1
      by_cases h2 : b = k
      · have b2 : (b == k) = true := by simpa using h2
        have HE : Hid (ar2 ⟨s, a, b⟩ k = 4) := Lib.hid (by unfold ar2; simp [h1, h2])
        rw [HE.out]
        clear h1 h2
        go_enter Try.func54, Try.ntmps54
        go_wp2_with fail
        refine (SpecOk_yes _ _ _ _ HC.out).mono ?_
        rintro e w1 ⟨rfl, hb⟩
        obtain ⟨c1, c2, B⟩ := P w1 hb
        clear hb P
        go_wp2_with fail
        go_ret
        exact ⟨rfl, B⟩
      · have b2 : (b == k) = false := by simpa using h2
        have HE : Hid (ar2 ⟨s, a, b⟩ k = 2) := Lib.hid (by unfold ar2; simp [h1, h2])
        rw [HE.out]
        clear h1 h2
        go_enter Try.func54, Try.ntmps54
        go_wp2_with fail
        refine (SpecOk_yes _ _ _ _ HC.out).mono ?_
        rintro e w1 ⟨rfl, hb⟩
        obtain ⟨c1, c2, B⟩ := P w1 hb
        clear hb P
        go_wp2_with fail
        go_ret
        exact ⟨rfl, B⟩
    · have b1 : (a == k) = false := by simpa using h1
      by_cases h2 : b = k
      · have b2 : (b == k) = true := by simpa using h2
        have HE : Hid (ar2 ⟨s, a, b⟩ k = 2) := Lib.hid (by unfold ar2; simp [h1, h2])
        rw [HE.out]
        clear h1 h2
        go_enter Try.func54, Try.ntmps54
        go_wp2_with fail
        refine (SpecOk_yes _ _ _ _ HC.out).mono ?_
        rintro e w1 ⟨rfl, hb⟩
        obtain ⟨c1, c2, B⟩ := P w1 hb
        clear hb P
        go_wp2_with fail
        go_ret
        exact ⟨rfl, B⟩
      · have b2 : (b == k) = false := by simpa using h2
        have HE : Hid (ar2 ⟨s, a, b⟩ k = 0) := Lib.hid (by unfold ar2; simp [h1, h2])
        rw [HE.out]
        clear h1 h2
        go_enter Try.func54, Try.ntmps54
        go_wp2_with fail
        refine (SpecOk_yes _ _ _ _ HC.out).mono ?_
        rintro e w1 ⟨rfl, hb⟩
        obtain ⟨c1, c2, B⟩ := P w1 hb
        clear hb P
        go_wp2_with fail
        go_ret
        exact ⟨rfl, B⟩
  · rw [arC_no (c := ⟨s, a, b⟩) k h]
    have HC := Lib.hid h
    clear h
    go_enter Try.func54, Try.ntmps54
    go_wp2_with fail
    refine (SpecOk_no _ _ _ _ HC.out).mono ?_
    rintro e w1 ⟨rfl, hb⟩
    go_wp2_with fail
    go_ret
    exact ⟨rfl, bel_c (bel0 w _) (Nat.le_refl _) hb⟩

theorem SpecArea_ok (c : C3) (k : Int) (w : World) (h : c.Ok) :
    Calls Try.prog 54 #[.agg #[.int .i64 c.s, .int .i64 c.a, .int .i64 c.b], .int .i64 k] w fun e w' => e = .returned (.int .i64 (ar2 c k)) ∧ Below w.heap.size w w' := by
  have := SpecArea_any c.s c.a c.b k w
  rw [arC_yes (c := ⟨c.s, c.a, c.b⟩) k h] at this
  exact this

end Go.Proofs.Ytndffjphdlncpaa

namespace Go.Proofs.Ytndffjphdlncpaa
open Go.ChangeShapes Go.WideShapes Go.ChangeAt Go.RowKit

set_option maxHeartbeats 400000 in
theorem SpecAreaOf_any (lo hi : Nat) (n k : Int) (v : Value) (xs : List C3) (w : World) (r : CellIn lo hi w v xs) (hhi : hi ≤ w.heap.size) :
    Calls Try.prog 21 #[.agg #[.int .i64 n, v], .int .i64 k] w fun e w' => e = .returned (.int .i64 (areaOf n xs k)) ∧ Below w.heap.size w w' := by
  obtain ⟨a, cap, rfl⟩ := r.form
  have hl := r.1
  have HR := Lib.hid (fun W (hb : Below w.heap.size w W) => r.below (hb.mono hhi))
  clear r
  by_cases hb : BlkOk n xs
  · rw [area_yes k hb]
    have HB := Lib.hid hb
    have hx := (blk_len hb).2
    clear hb
    go_enter Try.func21, Try.ntmps21
    go_wp2_with fail
    refine (SpecBlockOk_yes lo hi n _ xs _ (HR.out _ (bel0 _ _)) (by simp; omega) HB.out).mono ?_
    rintro e w1 ⟨rfl, hb1⟩
    have p1 := kept (p := ⟨w.heap.size, 1, none⟩) (x := .slice a xs.length cap) hb1 (by go_simp)
    have B1 := bel_c (bel0 w _) (Nat.le_refl _) hb1
    have HP := Lib.hid p1
    have HB1 := Lib.hid B1
    clear hb1 p1 B1
    go_wp2_with fail
    go_loopw [5, 6] (fun q i wr => ∃ m : Nat, m ≤ xs.length ∧ i = .int .i64 m ∧ q = .int .i64 (arL xs k m) ∧ Hid (wr.cell? ⟨w.heap.size, 1, none⟩ = some (.slice a xs.length cap)) ∧ Hid (Below w.heap.size w wr)) (fun _ i _ => xs.length - (intOf i).toNat)
    case atStart => exact ⟨0, Nat.zero_le _, rfl, by rw [arL_zero], HP, HB1⟩
    case round =>
      obtain ⟨m, hk, rfl, rfl, hp, hbel⟩ := hrel
      have p1 := hp.out
      by_cases hlt : m < xs.length
      · obtain ⟨g, rfl, _, _, ⟨e0, e1, e2⟩, _⟩ := (HR.out _ hbel.out).at (Below.refl _ _) hlt
        have hok := Lib.hid (HB.out.2.2 (xs.getD m C3.zero) (by simp [List.getD, hlt]))
        have HN := Lib.hid (arL_succ xs k hlt)
        have hA := arL_bound xs k m hk
        have hZ := ar2_bound (xs.getD m C3.zero) k
        generalize xs.getD m C3.zero = c at e0 e1 e2 hok HN hZ
        generalize hAA : arL xs k m = A at HN hA ⊢
        clear hAA
        go_wp2_with fail
        refine (SpecArea_ok _ _ _ hok.out).mono ?_
        generalize hzz : ar2 c k = z at HN hZ ⊢
        clear hzz
        rintro e w2 ⟨rfl, hb2⟩
        have HP2 := Lib.hid (kept hb2 p1)
        have HB2 := Lib.hid (bel_c hbel.out (Nat.le_refl _) hb2)
        clear hb2 hp hbel
        go_wp2_with fail
        go_roundw
        case rel => exact ⟨m + 1, by omega, by go_num, by rw [HN.out], HP2, HB2⟩
        case measure => simp [intOf] <;> omega
      · obtain rfl : m = xs.length := by omega
        go_wp2_with fail
        go_ret
        exact ⟨rfl, hbel.out⟩
  · rw [area_no k hb]
    have HB := Lib.hid hb
    clear hb
    go_enter Try.func21, Try.ntmps21
    go_wp2_with fail
    refine (SpecBlockOk_no lo hi n _ xs _ (HR.out _ (bel0 _ _)) (by simp; omega) HB.out).mono ?_
    rintro e w1 ⟨rfl, hb1⟩
    go_wp2_with fail
    go_ret
    exact ⟨rfl, bel_c (bel0 w _) (Nat.le_refl _) hb1⟩

end Go.Proofs.Ytndffjphdlncpaa
