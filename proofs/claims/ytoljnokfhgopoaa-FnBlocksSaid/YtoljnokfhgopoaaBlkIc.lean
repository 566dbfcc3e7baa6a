/- Blocks: the program's CellAt. -/
import Derived.Test.YtoljnokfhgopoaaBlkIa
namespace Go.Proofs.Ytoljnokfhgopoaa
open Go.ChangeShapes Go.WideShapes Go.ChangeAt Go.RowKit

theorem HasC_yes (lo hi : Nat) (n x y : Int) (v : Value) (xs : List C3) (w : World) (r : CellIn lo hi w v xs) (hhi : hi ≤ w.heap.size) (h : BlkOk n xs) (k : InB n x y) :
    Calls Try.prog 44 #[.agg #[.int .i64 n, v], .int .i64 x, .int .i64 y] w fun e w' => e = .returned (.bool true) ∧ Below w.heap.size w w' := by
  have hc := HasC_any lo hi n x y v xs w r hhi
  rw [← hasC_yes h k] at hc
  exact hc
theorem HasC_no (lo hi : Nat) (n x y : Int) (v : Value) (xs : List C3) (w : World) (r : CellIn lo hi w v xs) (hhi : hi ≤ w.heap.size) (h : ¬ (BlkOk n xs ∧ InB n x y)) :
    Calls Try.prog 44 #[.agg #[.int .i64 n, v], .int .i64 x, .int .i64 y] w fun e w' => e = .returned (.bool false) ∧ Below w.heap.size w w' := by
  have hc := HasC_any lo hi n x y v xs w r hhi
  rw [← hasC_no h] at hc
  exact hc

set_option maxHeartbeats 400000 in
theorem ImplCellAt_any (lo hi : Nat) (n x y : Int) (v : Value) (xs : List C3) (w : World) (r : CellIn lo hi w v xs) (hhi : hi ≤ w.heap.size) :
    Calls Try.prog 19 #[.agg #[.int .i64 n, v], .int .i64 x, .int .i64 y] w fun e w' => e = .returned (.agg #[.int .i64 (cAt n xs x y).s, .int .i64 (cAt n xs x y).a, .int .i64 (cAt n xs x y).b]) ∧ Below w.heap.size w w' := by
  obtain ⟨a, cap, rfl⟩ := r.form
  have R : ∀ W, Below w.heap.size w W → Hid (CellIn lo hi W (.slice a xs.length cap) xs) := fun W hb => Lib.hid (r.below (hb.mono hhi))
  have hl := r.1
  clear r
  by_cases h : BlkOk n xs ∧ InB n x y
  · rw [cAt_yes h.1 h.2]
    obtain ⟨k, hk1, hk2, hk3, hk4⟩ := idx h.1.1.1 h.1.1.2 h.2
    have HKT : Hid ((y * n + x).toNat = k) := Lib.hid (by rw [hk1]; simp)
    rw [HKT.out]
    obtain ⟨c, hc⟩ : ∃ c, xs.getD k C3.zero = c := ⟨_, rfl⟩
    rw [hc]
    have HC := Lib.hid hc
    have hkl : k < xs.length := by have := h.1.2.1; omega
    have HB := Lib.hid h
    clear hc hk1 hk2 h
    go_enter Try.func19, Try.ntmps19
    go_wp2_with fail
    refine (HasC_yes lo hi n x y _ xs _ (R _ (bel_n (bel0 w _) (Nat.le_refl _) _)).out (by simp; omega) HB.out.1 HB.out.2).mono ?_
    rintro e w1 ⟨rfl, hb1⟩
    have HBB := Lib.hid (bel_c (bel_n (bel0 w _) (Nat.le_refl _) _) (Nat.le_refl _) hb1)
    obtain ⟨g, rfl, hg, hg1, ⟨e0, e1, e2⟩, _⟩ := (R _ HBB.out).out.at (Below.refl _ _) hkl
    rw [HC.out] at e0 e1 e2
    have c0 := kept (p := ⟨w.heap.size, 0, none⟩) (x := .int .i64 n) hb1 (by go_simp)
    have c1 := kept (p := ⟨w.heap.size, 1, none⟩) (x := .slice (some ⟨g, 0, none⟩) xs.length cap) hb1 (by go_simp)
    have d0 := kept (p := ⟨w.heap.size + 1, 0, none⟩) (x := .int .i64 0) hb1 (by go_simp)
    have d1 := kept (p := ⟨w.heap.size + 1, 1, none⟩) (x := .int .i64 0) hb1 (by go_simp)
    have d2 := kept (p := ⟨w.heap.size + 1, 2, none⟩) (x := .int .i64 0) hb1 (by go_simp)
    have g0 := keptF (p := ⟨w.heap.size + 1, 0, none⟩) (x := .int .i64 0) hb1 (by go_simp) (by go_simp)
    have g1 := keptF (p := ⟨w.heap.size + 1, 1, none⟩) (x := .int .i64 0) hb1 (by go_simp) (by go_simp)
    have g2 := keptF (p := ⟨w.heap.size + 1, 2, none⟩) (x := .int .i64 0) hb1 (by go_simp) (by go_simp)
    clear hb1 R
    go_wp2_with fail
    refine bodyPost_ret (v := .agg #[.int .i64 c.s, .int .i64 c.a, .int .i64 c.b]) (by simp [results, Try.results19, go_sem, d0, d1, d2]) rfl ⟨rfl, ?_⟩
    refine Below.setCell (Below.setCell (Below.setCell HBB.out ?_ _) ?_ _) ?_ _ <;> (simp <;> omega)
  · rw [cAt_no h]
    have HB := Lib.hid h
    clear h
    go_enter Try.func19, Try.ntmps19
    go_wp2_with fail
    refine (HasC_no lo hi n x y _ xs _ (R _ (bel_n (bel0 w _) (Nat.le_refl _) _)).out (by simp; omega) HB.out).mono ?_
    rintro e w1 ⟨rfl, hb1⟩
    have HBB := Lib.hid (bel_c (bel_n (bel0 w _) (Nat.le_refl _) _) (Nat.le_refl _) hb1)
    have c0 := kept (p := ⟨w.heap.size, 0, none⟩) (x := .int .i64 n) hb1 (by go_simp)
    have d0 := kept (p := ⟨w.heap.size + 1, 0, none⟩) (x := .int .i64 0) hb1 (by go_simp)
    have d1 := kept (p := ⟨w.heap.size + 1, 1, none⟩) (x := .int .i64 0) hb1 (by go_simp)
    have d2 := kept (p := ⟨w.heap.size + 1, 2, none⟩) (x := .int .i64 0) hb1 (by go_simp)
    have g0 := keptF (p := ⟨w.heap.size + 1, 0, none⟩) (x := .int .i64 0) hb1 (by go_simp) (by go_simp)
    have g1 := keptF (p := ⟨w.heap.size + 1, 1, none⟩) (x := .int .i64 0) hb1 (by go_simp) (by go_simp)
    have g2 := keptF (p := ⟨w.heap.size + 1, 2, none⟩) (x := .int .i64 0) hb1 (by go_simp) (by go_simp)
    clear hb1 R
    go_wp2_with fail
    refine bodyPost_ret (v := .agg #[.int .i64 0, .int .i64 0, .int .i64 0]) (by simp [results, Try.results19, go_sem, d0, d1, d2]) rfl ⟨rfl, ?_⟩
    refine Below.setCell (Below.setCell (Below.setCell HBB.out ?_ _) ?_ _) ?_ _ <;> (simp <;> omega)

end Go.Proofs.Ytoljnokfhgopoaa
