/- Layouts: the model's AreBeside. -/
import Derived.Test.YtlfeohahaidohaaLayP
import Derived.Test.YtlfeohahaidohaaLayS
namespace Go.Proofs.Ytlfeohahaidohaa
open Go.ChangeShapes Go.WideShapes Go.ChangeAt Go.RowKit

set_option maxHeartbeats 3200000 in
set_option maxRecDepth 20000 in
theorem SpecAreBeside_any (lo hi : Nat) (m n : Int) (v : Value) (xs : List P5) (i k : Int) (w : World) (r : PatIn lo hi w v xs) (hhi : hi ≤ w.heap.size) :
    Calls Try.prog 23 #[.agg #[.int .i64 m, .int .i64 n, v], .int .i64 i, .int .i64 k] w fun e w' => e = .returned (.bool (besB m n xs i k)) ∧ Below w.heap.size w w' := by
  obtain ⟨a, cap, rfl⟩ := r.form
  have R : Hid (PatIn lo hi (w.alloc (.cells #[.int .i64 m, .int .i64 n, .slice a xs.length cap] 26)) (.slice a xs.length cap) xs) := Lib.hid (r.below ((bel0 w _).mono hhi))
  have R0 := Lib.hid r
  have hl := r.1
  have hhi1 : hi ≤ (w.alloc (.cells #[.int .i64 m, .int .i64 n, .slice a xs.length cap] 26)).heap.size := by simp; omega
  clear r
  by_cases h : layB m n xs = false
  · have HB := Lib.hid h
    have HR := Lib.hid (bes_no_lay (i := i) (k := k) h)
    clear h
    go_enter Try.func23, Try.ntmps23
    go_wp2_with fail
    refine (SpecLayoutOk_any lo hi m n _ xs _ R.out hhi1).mono ?_
    rw [HB.out]
    rintro e w1 ⟨rfl, hb1⟩
    go_wp2_with fail
    go_ret
    exact ⟨ret_bool HR.out, bel_c (bel0 w _) (Nat.le_refl _) hb1⟩
  · have HB : Hid (layB m n xs = true) := Lib.hid (by simpa using h)
    clear h
    obtain ⟨⟨p00, p01⟩, ⟨p10, p11⟩, ⟨p20, p21⟩, HL4, _⟩ := lay_of HB.out
    have HF : Hid (∀ i, i < xs.length → Fit m n (pat xs i)) := Lib.hid (fun i hi => (HL4 i hi).1)
    clear HL4
    by_cases hi : 0 ≤ i ∧ i < xs.length
    · by_cases hk : 0 ≤ k ∧ k < xs.length
      · by_cases hne : i = k
        · have HH := Lib.hid (bes_no_eq (m := m) (n := n) (xs := xs) hne)
          subst hne
          have hi1 : i ≤ (xs.length : Int) - 1 := by omega
          obtain ⟨i0, i2⟩ := hi
          go_enter Try.func23, Try.ntmps23
          go_wp2_with fail
          refine (SpecLayoutOk_any lo hi m n _ xs _ R.out hhi1).mono ?_
          rw [HB.out]
          rintro e w1 ⟨rfl, hb1⟩
          have HB1 : Below (w.heap.size + 1) (w.alloc (.cells #[.int .i64 m, .int .i64 n, .slice a xs.length cap] 26)) w1 := by simpa using hb1
          have b0 : w1.cell? ⟨w.heap.size, 0, none⟩ = some (.int .i64 m) := (HB1.cell (p := ⟨w.heap.size, 0, none⟩) (by simp)).trans (by simp)
          have b1 : w1.cell? ⟨w.heap.size, 1, none⟩ = some (.int .i64 n) := (HB1.cell (p := ⟨w.heap.size, 1, none⟩) (by simp)).trans (by simp)
          have b2 : w1.cell? ⟨w.heap.size, 2, none⟩ = some (.slice a xs.length cap) := (HB1.cell (p := ⟨w.heap.size, 2, none⟩) (by simp)).trans (by simp)
          go_wp2_with fail
          refine (In_yes _ _ _ _ i0 hi1).mono ?_
          rintro e w' ⟨rfl, rfl⟩
          go_wp2_with fail
          refine (In_yes _ _ _ _ i0 hi1).mono ?_
          rintro e w' ⟨rfl, rfl⟩
          go_wp2_with fail
          go_ret
          exact ⟨ret_bool HH.out, bel_c (bel0 w _) (Nat.le_refl _) hb1⟩
        · obtain ⟨i, rfl⟩ : ∃ i' : Nat, i = i' := ⟨i.toNat, by omega⟩
          obtain ⟨k, rfl⟩ : ∃ k' : Nat, k = k' := ⟨k.toNat, by omega⟩
          have hi' : i < xs.length := by omega
          have hk' : k < xs.length := by omega
          have hik : i ≠ k := by omega
          have hne' : ((i : Int) == (k : Int)) = false := by simpa using hne
          have i0 : (0 : Int) ≤ (i : Int) := by omega
          have k0 : (0 : Int) ≤ (k : Int) := by omega
          have i1 : (i : Int) ≤ (xs.length : Int) - 1 := by omega
          have k1 : (k : Int) ≤ (xs.length : Int) - 1 := by omega
          have i2 : (i : Int) < (xs.length : Int) := by omega
          have k2 : (k : Int) < (xs.length : Int) := by omega
          clear hi hk hne
          go_enter Try.func23, Try.ntmps23
          go_wp2_with fail
          refine (SpecLayoutOk_any lo hi m n _ xs _ R.out hhi1).mono ?_
          rw [HB.out]
          rintro e w1 ⟨rfl, hb1⟩
          have HB1 : Below (w.heap.size + 1) (w.alloc (.cells #[.int .i64 m, .int .i64 n, .slice a xs.length cap] 26)) w1 := by simpa using hb1
          have b0 : w1.cell? ⟨w.heap.size, 0, none⟩ = some (.int .i64 m) := (HB1.cell (p := ⟨w.heap.size, 0, none⟩) (by simp)).trans (by simp)
          have b1 : w1.cell? ⟨w.heap.size, 1, none⟩ = some (.int .i64 n) := (HB1.cell (p := ⟨w.heap.size, 1, none⟩) (by simp)).trans (by simp)
          have b2 : w1.cell? ⟨w.heap.size, 2, none⟩ = some (.slice a xs.length cap) := (HB1.cell (p := ⟨w.heap.size, 2, none⟩) (by simp)).trans (by simp)
          obtain ⟨g, rfl, hg, hg1, ⟨e0, e1, e2, e3, e4⟩, _⟩ := R0.out.at (((bel0 w _).trans (HB1.mono (by omega))).mono hhi) hi'
          obtain ⟨g', hg', _, _, ⟨q0, q1, q2, q3, q4⟩, _⟩ := R0.out.at (((bel0 w _).trans (HB1.mono (by omega))).mono hhi) hk'
          obtain rfl : g = g' := by simpa using hg'
          clear hg'
          obtain ⟨c, hc⟩ : ∃ c, c = xs.getD i P5.zero := ⟨_, rfl⟩
          obtain ⟨d, hd⟩ : ∃ d, d = xs.getD k P5.zero := ⟨_, rfl⟩
          rw [← hc] at e0 e1 e2 e3 e4
          rw [← hd] at q0 q1 q2 q3 q4
          have HC : Hid (c = pat xs i) := Lib.hid hc
          have HD : Hid (d = pat xs k) := Lib.hid hd
          obtain ⟨⟨f00, f01⟩, ⟨f10, f11⟩, ⟨f20, f21⟩, ⟨f30, f31⟩, _⟩ : Fit m n c := by rw [hc]; exact HF.out i hi'
          obtain ⟨⟨d00, d01⟩, ⟨d10, d11⟩, ⟨d20, d21⟩, ⟨d30, d31⟩, _⟩ : Fit m n d := by rw [hd]; exact HF.out k hk'
          clear hc hd
          have b0' := kept (bel0 w1 (.cells #[.int .i64 c.x, .int .i64 c.y, .int .i64 c.w, .int .i64 c.h, .int .i64 c.c] 31)) b0
          have b1' := kept (bel0 w1 (.cells #[.int .i64 c.x, .int .i64 c.y, .int .i64 c.w, .int .i64 c.h, .int .i64 c.c] 31)) b1
          have b2' := kept (bel0 w1 (.cells #[.int .i64 c.x, .int .i64 c.y, .int .i64 c.w, .int .i64 c.h, .int .i64 c.c] 31)) b2
          have q0' := kept (bel0 w1 (.cells #[.int .i64 c.x, .int .i64 c.y, .int .i64 c.w, .int .i64 c.h, .int .i64 c.c] 31)) q0
          have q1' := kept (bel0 w1 (.cells #[.int .i64 c.x, .int .i64 c.y, .int .i64 c.w, .int .i64 c.h, .int .i64 c.c] 31)) q1
          have q2' := kept (bel0 w1 (.cells #[.int .i64 c.x, .int .i64 c.y, .int .i64 c.w, .int .i64 c.h, .int .i64 c.c] 31)) q2
          have q3' := kept (bel0 w1 (.cells #[.int .i64 c.x, .int .i64 c.y, .int .i64 c.w, .int .i64 c.h, .int .i64 c.c] 31)) q3
          have q4' := kept (bel0 w1 (.cells #[.int .i64 c.x, .int .i64 c.y, .int .i64 c.w, .int .i64 c.h, .int .i64 c.c] 31)) q4
          have p0' : ((w1.alloc (.cells #[.int .i64 c.x, .int .i64 c.y, .int .i64 c.w, .int .i64 c.h, .int .i64 c.c] 31)).alloc (.cells #[.int .i64 d.x, .int .i64 d.y, .int .i64 d.w, .int .i64 d.h, .int .i64 d.c] 31)).cell? ⟨w1.heap.size, 0, none⟩ = some (.int .i64 c.x) := kept (bel0 _ _) (by simp)
          have p1' : ((w1.alloc (.cells #[.int .i64 c.x, .int .i64 c.y, .int .i64 c.w, .int .i64 c.h, .int .i64 c.c] 31)).alloc (.cells #[.int .i64 d.x, .int .i64 d.y, .int .i64 d.w, .int .i64 d.h, .int .i64 d.c] 31)).cell? ⟨w1.heap.size, 1, none⟩ = some (.int .i64 c.y) := kept (bel0 _ _) (by simp)
          have p2' : ((w1.alloc (.cells #[.int .i64 c.x, .int .i64 c.y, .int .i64 c.w, .int .i64 c.h, .int .i64 c.c] 31)).alloc (.cells #[.int .i64 d.x, .int .i64 d.y, .int .i64 d.w, .int .i64 d.h, .int .i64 d.c] 31)).cell? ⟨w1.heap.size, 2, none⟩ = some (.int .i64 c.w) := kept (bel0 _ _) (by simp)
          have p3' : ((w1.alloc (.cells #[.int .i64 c.x, .int .i64 c.y, .int .i64 c.w, .int .i64 c.h, .int .i64 c.c] 31)).alloc (.cells #[.int .i64 d.x, .int .i64 d.y, .int .i64 d.w, .int .i64 d.h, .int .i64 d.c] 31)).cell? ⟨w1.heap.size, 3, none⟩ = some (.int .i64 c.h) := kept (bel0 _ _) (by simp)
          have p4' : ((w1.alloc (.cells #[.int .i64 c.x, .int .i64 c.y, .int .i64 c.w, .int .i64 c.h, .int .i64 c.c] 31)).alloc (.cells #[.int .i64 d.x, .int .i64 d.y, .int .i64 d.w, .int .i64 d.h, .int .i64 d.c] 31)).cell? ⟨w1.heap.size, 4, none⟩ = some (.int .i64 c.c) := kept (bel0 _ _) (by simp)
          have HBZ := Lib.hid (bel_n (bel_n (bel_c (bel0 w _) (Nat.le_refl _) hb1) (Nat.le_refl _) (.cells #[.int .i64 c.x, .int .i64 c.y, .int .i64 c.w, .int .i64 c.h, .int .i64 c.c] 31)) (Nat.le_refl _) (.cells #[.int .i64 d.x, .int .i64 d.y, .int .i64 d.w, .int .i64 d.h, .int .i64 d.c] 31))
          clear hb1 HB1
          go_wp2_with fail
          refine (In_yes _ _ _ _ i0 i1).mono ?_
          rintro e w' ⟨rfl, rfl⟩
          go_wp2_with fail
          refine (In_yes _ _ _ _ k0 k1).mono ?_
          rintro e w' ⟨rfl, rfl⟩
          by_cases hA : c.x + c.w = d.x
          · have eA : (c.x + c.w == d.x) = true := by simp [hA]
            by_cases y1 : c.y < d.y + d.h
            · by_cases y2 : d.y < c.y + c.h
              · have HH := Lib.hid (bes_t HB.out hi' hk' hik (by rw [← HC.out, ← HD.out]; unfold Bes; omega))
                clear hA
                go_wp2_with fail
                go_ret
                exact ⟨ret_bool (by first | exact HH.out | (rw [← HH.out]; first | rfl | (simp <;> omega))), HBZ.out⟩
              · have HH := Lib.hid (bes_f (m := m) (n := n) (xs := xs) (i := i) (k := k) (by rw [← HC.out, ← HD.out]; unfold Bes; omega))
                clear hA
                go_wp2_with fail
                go_ret
                exact ⟨ret_bool (by first | exact HH.out | (rw [← HH.out]; first | rfl | (simp <;> omega))), HBZ.out⟩
            · have HH := Lib.hid (bes_f (m := m) (n := n) (xs := xs) (i := i) (k := k) (by rw [← HC.out, ← HD.out]; unfold Bes; omega))
              clear hA
              go_wp2_with fail
              go_ret
              exact ⟨ret_bool (by first | exact HH.out | (rw [← HH.out]; first | rfl | (simp <;> omega))), HBZ.out⟩
          · have eA : (c.x + c.w == d.x) = false := by simp [hA]
            by_cases hB : d.x + d.w = c.x
            · have eB : (d.x + d.w == c.x) = true := by simp [hB]
              by_cases y1 : c.y < d.y + d.h
              · by_cases y2 : d.y < c.y + c.h
                · have HH := Lib.hid (bes_t HB.out hi' hk' hik (by rw [← HC.out, ← HD.out]; unfold Bes; omega))
                  clear hA hB
                  go_wp2_with fail
                  go_ret
                  exact ⟨ret_bool (by first | exact HH.out | (rw [← HH.out]; first | rfl | (simp <;> omega))), HBZ.out⟩
                · have HH := Lib.hid (bes_f (m := m) (n := n) (xs := xs) (i := i) (k := k) (by rw [← HC.out, ← HD.out]; unfold Bes; omega))
                  clear hA hB
                  go_wp2_with fail
                  go_ret
                  exact ⟨ret_bool (by first | exact HH.out | (rw [← HH.out]; first | rfl | (simp <;> omega))), HBZ.out⟩
              · have HH := Lib.hid (bes_f (m := m) (n := n) (xs := xs) (i := i) (k := k) (by rw [← HC.out, ← HD.out]; unfold Bes; omega))
                clear hA hB
                go_wp2_with fail
                go_ret
                exact ⟨ret_bool (by first | exact HH.out | (rw [← HH.out]; first | rfl | (simp <;> omega))), HBZ.out⟩
            · have eB : (d.x + d.w == c.x) = false := by simp [hB]
              by_cases hC : c.y + c.h = d.y
              · have eC : (c.y + c.h == d.y) = true := by simp [hC]
                by_cases y1 : c.x < d.x + d.w
                · by_cases y2 : d.x < c.x + c.w
                  · have HH := Lib.hid (bes_t HB.out hi' hk' hik (by rw [← HC.out, ← HD.out]; unfold Bes; omega))
                    clear hA hB hC
                    go_wp2_with fail
                    go_ret
                    exact ⟨ret_bool (by first | exact HH.out | (rw [← HH.out]; first | rfl | (simp <;> omega))), HBZ.out⟩
                  · have HH := Lib.hid (bes_f (m := m) (n := n) (xs := xs) (i := i) (k := k) (by rw [← HC.out, ← HD.out]; unfold Bes; omega))
                    clear hA hB hC
                    go_wp2_with fail
                    go_ret
                    exact ⟨ret_bool (by first | exact HH.out | (rw [← HH.out]; first | rfl | (simp <;> omega))), HBZ.out⟩
                · have HH := Lib.hid (bes_f (m := m) (n := n) (xs := xs) (i := i) (k := k) (by rw [← HC.out, ← HD.out]; unfold Bes; omega))
                  clear hA hB hC
                  go_wp2_with fail
                  go_ret
                  exact ⟨ret_bool (by first | exact HH.out | (rw [← HH.out]; first | rfl | (simp <;> omega))), HBZ.out⟩
              · have eC : (c.y + c.h == d.y) = false := by simp [hC]
                by_cases hD : d.y + d.h = c.y
                · have eD : (d.y + d.h == c.y) = true := by simp [hD]
                  by_cases y1 : c.x < d.x + d.w
                  · by_cases y2 : d.x < c.x + c.w
                    · have HH := Lib.hid (bes_t HB.out hi' hk' hik (by rw [← HC.out, ← HD.out]; unfold Bes; omega))
                      clear hA hB hC hD
                      go_wp2_with fail
                      go_ret
                      exact ⟨ret_bool (by first | exact HH.out | (rw [← HH.out]; first | rfl | (simp <;> omega))), HBZ.out⟩
                    · have HH := Lib.hid (bes_f (m := m) (n := n) (xs := xs) (i := i) (k := k) (by rw [← HC.out, ← HD.out]; unfold Bes; omega))
                      clear hA hB hC hD
                      go_wp2_with fail
                      go_ret
                      exact ⟨ret_bool (by first | exact HH.out | (rw [← HH.out]; first | rfl | (simp <;> omega))), HBZ.out⟩
                  · have HH := Lib.hid (bes_f (m := m) (n := n) (xs := xs) (i := i) (k := k) (by rw [← HC.out, ← HD.out]; unfold Bes; omega))
                    clear hA hB hC hD
                    go_wp2_with fail
                    go_ret
                    exact ⟨ret_bool (by first | exact HH.out | (rw [← HH.out]; first | rfl | (simp <;> omega))), HBZ.out⟩
                · have eD : (d.y + d.h == c.y) = false := by simp [hD]
                  have HH := Lib.hid (bes_f (m := m) (n := n) (xs := xs) (i := i) (k := k) (by rw [← HC.out, ← HD.out]; unfold Bes; omega))
                  clear hA hB hC hD
                  go_wp2_with fail
                  go_ret
                  exact ⟨ret_bool (by first | exact HH.out | (rw [← HH.out]; first | rfl | (simp <;> omega))), HBZ.out⟩
      · have HH := Lib.hid (bes_no_k (m := m) (n := n) (i := i) hk)
        have hk' : k < 0 ∨ (xs.length : Int) - 1 < k := by omega
        have i0 := hi.1
        have i1 : i ≤ (xs.length : Int) - 1 := by omega
        clear hk hi
        go_enter Try.func23, Try.ntmps23
        go_wp2_with fail
        refine (SpecLayoutOk_any lo hi m n _ xs _ R.out hhi1).mono ?_
        rw [HB.out]
        rintro e w1 ⟨rfl, hb1⟩
        have HB1 : Below (w.heap.size + 1) (w.alloc (.cells #[.int .i64 m, .int .i64 n, .slice a xs.length cap] 26)) w1 := by simpa using hb1
        have b0 : w1.cell? ⟨w.heap.size, 0, none⟩ = some (.int .i64 m) := (HB1.cell (p := ⟨w.heap.size, 0, none⟩) (by simp)).trans (by simp)
        have b1 : w1.cell? ⟨w.heap.size, 1, none⟩ = some (.int .i64 n) := (HB1.cell (p := ⟨w.heap.size, 1, none⟩) (by simp)).trans (by simp)
        have b2 : w1.cell? ⟨w.heap.size, 2, none⟩ = some (.slice a xs.length cap) := (HB1.cell (p := ⟨w.heap.size, 2, none⟩) (by simp)).trans (by simp)
        go_wp2_with fail
        refine (In_yes _ _ _ _ i0 i1).mono ?_
        rintro e w' ⟨rfl, rfl⟩
        go_wp2_with fail
        refine (In_no _ _ _ _ hk').mono ?_
        rintro e w' ⟨rfl, rfl⟩
        go_wp2_with fail
        go_ret
        exact ⟨ret_bool HH.out, bel_c (bel0 w _) (Nat.le_refl _) hb1⟩
    · have HH := Lib.hid (bes_no_i (m := m) (n := n) (k := k) hi)
      have hi' : i < 0 ∨ (xs.length : Int) - 1 < i := by omega
      clear hi
      go_enter Try.func23, Try.ntmps23
      go_wp2_with fail
      refine (SpecLayoutOk_any lo hi m n _ xs _ R.out hhi1).mono ?_
      rw [HB.out]
      rintro e w1 ⟨rfl, hb1⟩
      have HB1 : Below (w.heap.size + 1) (w.alloc (.cells #[.int .i64 m, .int .i64 n, .slice a xs.length cap] 26)) w1 := by simpa using hb1
      have b0 : w1.cell? ⟨w.heap.size, 0, none⟩ = some (.int .i64 m) := (HB1.cell (p := ⟨w.heap.size, 0, none⟩) (by simp)).trans (by simp)
      have b1 : w1.cell? ⟨w.heap.size, 1, none⟩ = some (.int .i64 n) := (HB1.cell (p := ⟨w.heap.size, 1, none⟩) (by simp)).trans (by simp)
      have b2 : w1.cell? ⟨w.heap.size, 2, none⟩ = some (.slice a xs.length cap) := (HB1.cell (p := ⟨w.heap.size, 2, none⟩) (by simp)).trans (by simp)
      go_wp2_with fail
      refine (In_no _ _ _ _ hi').mono ?_
      rintro e w' ⟨rfl, rfl⟩
      go_wp2_with fail
      go_ret
      exact ⟨ret_bool HH.out, bel_c (bel0 w _) (Nat.le_refl _) hb1⟩

end Go.Proofs.Ytlfeohahaidohaa
