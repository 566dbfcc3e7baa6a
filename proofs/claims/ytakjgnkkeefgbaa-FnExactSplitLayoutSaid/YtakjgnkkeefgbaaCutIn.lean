/- Cuts: the program's SplitLayout. -/
import Derived.Test.YtakjgnkkeefgbaaCutIm
import Derived.RegionTactic
set_option linter.unusedSimpArgs false
set_option linter.unusedVariables false
namespace Go.Proofs.Ytakjgnkkeefgbaa
open Go.ChangeShapes Go.WideShapes Go.ChangeAt Go.RowKit

set_option maxHeartbeats 3200000 in
set_option maxRecDepth 20000 in
theorem ImplSplitLayout_any (lo hi : Nat) (m n : Int) (v : Value) (xs : List P5) (up : Bool) (a : Int) (wf : ∀ c ∈ xs, c.Wf) (w : World) (r : PatIn lo hi w v xs) (hhi : hi ≤ w.heap.size) :
    Calls Try.prog 18 #[.agg #[.int .i64 m, .int .i64 n, v], .agg #[.bool up, .int .i64 a]] w (SplitLV (sM1 m n xs ⟨up, a⟩) (sN1 m n xs ⟨up, a⟩) (sL1 m n xs ⟨up, a⟩) (sM2 m n xs ⟨up, a⟩) (sN2 m n xs ⟨up, a⟩) (sL2 m n xs ⟨up, a⟩) (cutB m n xs ⟨up, a⟩) w) := by
  obtain ⟨b, cap, rfl⟩ := r.form
  have R := Lib.hid r
  have hl := r.1
  have HR : Hid (∀ u : World, Below w.heap.size w u → PatIn lo hi u (.slice b xs.length cap) xs ∧ hi ≤ u.heap.size) := Lib.hid (fun u hb => ⟨r.below (hb.mono hhi), Nat.le_trans hhi hb.size⟩)
  have CK : Hid (∀ u : World, Below w.heap.size w u → Calls Try.prog 19 #[.agg #[.int .i64 m, .int .i64 n, .slice b xs.length cap], .agg #[.bool up, .int .i64 a]] u fun e w' => e = .returned (.bool (cutB m n xs ⟨up, a⟩)) ∧ Below u.heap.size u w') := Lib.hid (fun u hb => ImplIsCut_any lo hi m n _ xs up a wf u (HR.out u hb).1 (HR.out u hb).2)
  clear r wf
  have HB0 : Hid (Below w.heap.size w ((((w.alloc (.cells #[.int .i64 m, .int .i64 n, .slice b xs.length cap] 26)).alloc (.cells #[.bool up, .int .i64 a] 38)).alloc (.cells #[.int .i64 0, .int .i64 0, .slice none 0 0] 26)).alloc (.cells #[.int .i64 0, .int .i64 0, .slice none 0 0] 26))) := Lib.hid (bel_n (bel_n (bel_n (bel0 w _) (Nat.le_refl _) _) (Nat.le_refl _) _) (Nat.le_refl _) _)
  by_cases h : cutB m n xs ⟨up, a⟩ = false
  · obtain ⟨e1, e2, e3, e4, e5, e6⟩ := s_no h
    rw [e1, e2, e3, e4, e5, e6, h]
    rw [h] at CK
    clear h e1 e2 e3 e4 e5 e6
    go_enter Try.func18, Try.ntmps18
    go_wp2_with fail
    refine (CK.out _ HB0.out).mono ?_
    rintro e w1 ⟨rfl, hb1⟩
    have BRA : BoxL (w.heap.size + 1 + 1) (.int .i64 0) (.int .i64 0) (.slice none 0 0) w1 := by
      have := BoxL.new ((w.alloc (.cells #[.int .i64 m, .int .i64 n, .slice b xs.length cap] 26)).alloc (.cells #[.bool up, .int .i64 a] 38)) (.int .i64 0) (.int .i64 0) (.slice none 0 0) 26
      rw [show ((w.alloc (.cells #[.int .i64 m, .int .i64 n, .slice b xs.length cap] 26)).alloc (.cells #[.bool up, .int .i64 a] 38)).heap.size = w.heap.size + 1 + 1 by simp] at this
      exact (this.below (bel0 _ (.cells #[.int .i64 0, .int .i64 0, .slice none 0 0] 26)) (by simp)).below hb1 (by simp)
    have BRB : BoxL (w.heap.size + 1 + 1 + 1) (.int .i64 0) (.int .i64 0) (.slice none 0 0) w1 := by
      have := BoxL.new (((w.alloc (.cells #[.int .i64 m, .int .i64 n, .slice b xs.length cap] 26)).alloc (.cells #[.bool up, .int .i64 a] 38)).alloc (.cells #[.int .i64 0, .int .i64 0, .slice none 0 0] 26)) (.int .i64 0) (.int .i64 0) (.slice none 0 0) 26
      rw [show (((w.alloc (.cells #[.int .i64 m, .int .i64 n, .slice b xs.length cap] 26)).alloc (.cells #[.bool up, .int .i64 a] 38)).alloc (.cells #[.int .i64 0, .int .i64 0, .slice none 0 0] 26)).heap.size = w.heap.size + 1 + 1 + 1 by simp] at this
      exact this.below hb1 (by simp)
    obtain ⟨d0, d1, d2, z0, z1, z2⟩ := BRA
    obtain ⟨g0, g1, g2, y0, y1, y2⟩ := BRB
    have HBZ := Lib.hid (bel_c HB0.out (Nat.le_refl _) hb1)
    have hs1 := hb1.size
    simp at hs1
    clear hb1
    go_wp2_with fail
    refine bodyPost_ret (v := .tuple #[.agg #[.int .i64 0, .int .i64 0, .slice none 0 0], .agg #[.int .i64 0, .int .i64 0, .slice none 0 0], .bool false]) (by simp [results, Try.results18, go_sem, d0, d1, d2, g0, g1, g2]) rfl ⟨_, _, w.heap.size, rfl, ⟨by simp, .inl ⟨rfl, _, _, rfl⟩⟩, ⟨by simp, .inl ⟨rfl, _, _, rfl⟩⟩, Nat.le_refl _, by simp [World.setCell]; omega, ?_⟩
    refine Below.setCell (Below.setCell (Below.setCell (Below.setCell (Below.setCell (Below.setCell HBZ.out ?_ _) ?_ _) ?_ _) ?_ _) ?_ _) ?_ _ <;> (simp <;> omega)
  · have h' : cutB m n xs ⟨up, a⟩ = true := by simpa using h
    obtain ⟨e1, e2, e3, e4, e5, e6⟩ := s_yes h'
    rw [e1, e2, e3, e4, e5, e6, h']
    rw [h'] at CK
    obtain ⟨lay, hc⟩ := cut_of h'
    clear h h' e1 e2 e3 e4 e5 e6
    obtain ⟨M1, hM1⟩ : ∃ M1, M1 = pM1 m ⟨up, a⟩ := ⟨_, rfl⟩
    obtain ⟨N1, hN1⟩ : ∃ N1, N1 = pN1 n ⟨up, a⟩ := ⟨_, rfl⟩
    obtain ⟨M2, hM2⟩ : ∃ M2, M2 = pM2 m ⟨up, a⟩ := ⟨_, rfl⟩
    obtain ⟨N2, hN2⟩ : ∃ N2, N2 = pN2 n ⟨up, a⟩ := ⟨_, rfl⟩
    obtain ⟨X2, hX2⟩ : ∃ X2, X2 = pX2 ⟨up, a⟩ := ⟨_, rfl⟩
    obtain ⟨Y2, hY2⟩ : ∃ Y2, Y2 = pY2 ⟨up, a⟩ := ⟨_, rfl⟩
    obtain ⟨L1, hL1⟩ : ∃ L1, L1 = pL1 m n ⟨up, a⟩ xs := ⟨_, rfl⟩
    obtain ⟨L2, hL2⟩ : ∃ L2, L2 = pL2 m n ⟨up, a⟩ xs := ⟨_, rfl⟩
    have CS : Hid (∀ u : World, Below w.heap.size w u → Calls Try.prog 42 #[.agg #[.int .i64 m, .int .i64 n, .slice b xs.length cap], .agg #[.bool up, .int .i64 a]] u (SplitV M1 N1 M2 N2 X2 Y2 L1 L2 u)) := Lib.hid (fun u hb => by
      rw [hM1, hN1, hM2, hN2, hX2, hY2, hL1, hL2]
      exact Split_any lo hi m n _ xs up a u (HR.out u hb).1 (HR.out u hb).2 lay hc)
    rw [← hM1, ← hN1, ← hL1, ← hM2, ← hN2, ← hL2]
    clear lay hc hM1 hN1 hM2 hN2 hX2 hY2 hL1 hL2
    go_enter Try.func18, Try.ntmps18
    go_wp2_with fail
    refine (CK.out _ HB0.out).mono ?_
    rintro e w1 ⟨rfl, hb1⟩
    have BRA : BoxL (w.heap.size + 1 + 1) (.int .i64 0) (.int .i64 0) (.slice none 0 0) w1 := by
      have := BoxL.new ((w.alloc (.cells #[.int .i64 m, .int .i64 n, .slice b xs.length cap] 26)).alloc (.cells #[.bool up, .int .i64 a] 38)) (.int .i64 0) (.int .i64 0) (.slice none 0 0) 26
      rw [show ((w.alloc (.cells #[.int .i64 m, .int .i64 n, .slice b xs.length cap] 26)).alloc (.cells #[.bool up, .int .i64 a] 38)).heap.size = w.heap.size + 1 + 1 by simp] at this
      exact (this.below (bel0 _ (.cells #[.int .i64 0, .int .i64 0, .slice none 0 0] 26)) (by simp)).below hb1 (by simp)
    have BRB : BoxL (w.heap.size + 1 + 1 + 1) (.int .i64 0) (.int .i64 0) (.slice none 0 0) w1 := by
      have := BoxL.new (((w.alloc (.cells #[.int .i64 m, .int .i64 n, .slice b xs.length cap] 26)).alloc (.cells #[.bool up, .int .i64 a] 38)).alloc (.cells #[.int .i64 0, .int .i64 0, .slice none 0 0] 26)) (.int .i64 0) (.int .i64 0) (.slice none 0 0) 26
      rw [show (((w.alloc (.cells #[.int .i64 m, .int .i64 n, .slice b xs.length cap] 26)).alloc (.cells #[.bool up, .int .i64 a] 38)).alloc (.cells #[.int .i64 0, .int .i64 0, .slice none 0 0] 26)).heap.size = w.heap.size + 1 + 1 + 1 by simp] at this
      exact this.below hb1 (by simp)
    have b0 := kept (p := ⟨w.heap.size, 0, none⟩) (x := .int .i64 m) hb1 (by exact kept (bel0 _ _) (kept (bel0 _ _) (kept (bel0 _ _) (by go_simp))))
    have b1 := kept (p := ⟨w.heap.size, 1, none⟩) (x := .int .i64 n) hb1 (by exact kept (bel0 _ _) (kept (bel0 _ _) (kept (bel0 _ _) (by go_simp))))
    have b2 := kept (p := ⟨w.heap.size, 2, none⟩) (x := .slice b xs.length cap) hb1 (by exact kept (bel0 _ _) (kept (bel0 _ _) (kept (bel0 _ _) (by go_simp))))
    have b3 := kept (p := ⟨w.heap.size + 1, 0, none⟩) (x := .bool up) hb1 (by exact kept (bel0 _ _) (kept (bel0 _ _) (by go_simp)))
    have b4 := kept (p := ⟨w.heap.size + 1, 1, none⟩) (x := .int .i64 a) hb1 (by exact kept (bel0 _ _) (kept (bel0 _ _) (by go_simp)))
    have HB1 := Lib.hid (bel_c HB0.out (Nat.le_refl _) hb1)
    have hs1 := hb1.size
    simp at hs1
    have HRA := Lib.hid BRA
    have HRB := Lib.hid BRB
    clear hb1 BRA BRB
    go_wp2_with fail
    refine (CS.out _ HB1.out).mono ?_
    rintro e y ⟨v1, v2, k, rfl, RA, RB, hk1, hk2, hby⟩
    obtain ⟨aA, cA, rfl⟩ := RA.form
    obtain ⟨aB, cB, rfl⟩ := RB.form
    have BY : Below y.heap.size y ((y.alloc (.cells #[.int .i64 M1, .int .i64 N1, .slice aA L1.length cA, .int .i64 0, .int .i64 0] 60)).alloc (.cells #[.int .i64 M2, .int .i64 N2, .slice aB L2.length cB, .int .i64 X2, .int .i64 Y2] 60)) := bel_n (bel0 y _) (Nat.le_refl _) _
    have hsy := hby.size
    have RA0 := Lib.hid (RA.below (BY.mono hk2))
    have RB0 := Lib.hid (RB.below BY)
    have HRA2 := Lib.hid ((HRA.out.below hby HRA.out.lt).below BY (by omega))
    have HRB2 := Lib.hid ((HRB.out.below hby HRB.out.lt).below BY (by omega))
    have HBZ := Lib.hid (bel_c (bel_c HB1.out (Nat.le_refl _) hby) (Nat.le_refl _) BY)
    obtain ⟨d0, d1, d2, z0, z1, z2⟩ := HRA2.out
    obtain ⟨g0, g1, g2, y0, y1, y2⟩ := HRB2.out
    clear RA RB BY hby b0 b1 b2 b3 b4
    go_wp2_with fail
    go_region
    go_wp2_with fail
    refine bodyPost_ret (v := .tuple #[.agg #[.int .i64 M1, .int .i64 N1, .slice aA L1.length cA], .agg #[.int .i64 M2, .int .i64 N2, .slice aB L2.length cB], .bool true]) (by simp [results, Try.results18, go_sem, d0, d1, d2, g0, g1, g2]) rfl ⟨_, _, k, rfl, ?_, ?_, ?_, ?_, ?_⟩
    · refine PatIn.wide (lo := w1.heap.size) (hi := k) (PatIn.below (PatIn.set_far (PatIn.set_far (PatIn.set_far (PatIn.set_far (PatIn.set_far (PatIn.set_far (RA0.out) ?_ _) ?_ _) ?_ _) ?_ _) ?_ _) ?_ _) (bel_dr9 (Below.refl _ _))) ?_ ?_
      all_goals first | omega | (simp [World.setCell] <;> omega)
    · refine PatIn.wide (lo := k) (hi := y.heap.size) (PatIn.below (PatIn.set_far (PatIn.set_far (PatIn.set_far (PatIn.set_far (PatIn.set_far (PatIn.set_far (RB0.out) ?_ _) ?_ _) ?_ _) ?_ _) ?_ _) ?_ _) (bel_dr9 (Below.refl _ _))) ?_ ?_
      all_goals first | omega | (simp [World.setCell] <;> omega)
    · omega
    · simp [World.setCell]; omega
    · refine bel_dr9 (Below.setCell (Below.setCell (Below.setCell (Below.setCell (Below.setCell (Below.setCell HBZ.out ?_ _) ?_ _) ?_ _) ?_ _) ?_ _) ?_ _)
      all_goals first | omega | (simp [World.setCell] <;> omega)

end Go.Proofs.Ytakjgnkkeefgbaa
