/- The walk of FnExactFirstKnot. -/
import Derived.Test.YtakjgnkkeefgbaaCutIm
import Derived.Test.YtakjgnkkeefgbaaCutSe
import Derived.Test.YtakjgnkkeefgbaaLayN3
namespace Go.Proofs.Ytakjgnkkeefgbaa
open Go.ChangeShapes Go.WideShapes Go.ChangeAt Go.RowKit

set_option maxHeartbeats 4000000 in
theorem KnotLaw_walk (m n : Int) (a : Option Addr) (len cap : Nat) (xs : List P5) (w : World) (x0 : ArgPat w a len xs) (wf : ∀ c ∈ xs, c.Wf) :
    Calls Try.prog 9 #[.agg #[.int .i64 m, .int .i64 n, .slice a len cap]] w fun e w' => e = .returned (.bool true) ∧ Below w.heap.size w w' := by
  have hm : len ≤ 9223372036854775807 := by have := x0.2.1; unfold maxLen at this; omega
  have HA : Hid (∀ W, Below w.heap.size w W → ArgPat W a len xs) := Lib.hid (fun W hb => x0.below hb)
  clear x0
  have CS := fun lo hi v w r h => SpecFirstKnot_any lo hi m n v xs w r h
  have CI := fun lo hi v w r h => ImplFirstKnot_any lo hi m n v xs wf w r h
  generalize (knotR m n xs).isSome = ok at CS CI
  generalize kX (knotR m n xs) = ys at CS CI
  generalize kM (knotR m n xs) = q1 at CS CI
  generalize kN (knotR m n xs) = q2 at CS CI
  have hq := mkP_pos xs
  have hp := mkP_pos ys
  by_cases hl : len ≤ 1048576
  · have hs : ¬ ((1048576 : Int) - (len : Int) < 0) := by omega
    have hl' : (len : Int) ≤ 1048576 := by omega
    go_enter Try.func9, Try.ntmps9
    have A0 := Tri.new w (.int .i64 m) (.int .i64 n) (.slice a len cap) 43
    have B := bel0 w (.cells #[.int .i64 m, .int .i64 n, .slice a len cap] 43)
    go_wp2_with fail
    refine (SzL_yes m n a len cap 1048576 _ (by omega) hl').mono ?_
    rintro e w1 ⟨rfl, hb⟩
    have A0_ := A0.keep hb
    have B_ := bel_c B (Nat.le_refl _) hb
    have zw1 : w.heap.size + 1 ≤ w1.heap.size := by have := hb.size; first | exact this | simpa using this
    clear A0 B
    have A0 := A0_
    have B := B_
    clear A0_ B_ hb
    obtain ⟨c_A00, c_A01, c_A02⟩ := id A0
    go_wp2_with fail
    clear c_A00 c_A01 c_A02
    refine (ToLayout_any m n a len cap xs _ (HA.out _ B) hl).mono ?_
    rintro e w2 ⟨v, rfl, R1, hb⟩
    obtain ⟨a1, c1, rfl⟩ := R1.form
    have A0_ := A0.keep hb
    have B_ := bel_c B (Nat.le_refl _) hb
    have zw2 : w1.heap.size ≤ w2.heap.size := by have := hb.size; first | exact this | simpa using this
    clear A0 B
    have A0 := A0_
    have B := B_
    clear A0_ B_ hb
    go_wp2_with fail
    refine (CS _ _ _ _ R1 (by omega)).mono ?_
    rintro e w3 ⟨v, rfl, S1, hb⟩
    obtain ⟨b1, d1, rfl⟩ := S1.form
    have A0_ := A0.keep hb
    have R1_ := R1.below (hb.mono (by omega))
    have B_ := bel_c B (Nat.le_refl _) hb
    have zw3 : w2.heap.size ≤ w3.heap.size := by have := hb.size; first | exact this | simpa using this
    clear A0 R1 B
    have A0 := A0_
    have R1 := R1_
    have B := B_
    clear A0_ R1_ B_ hb
    clear R1
    have NB := bel0 w3 (.cells #[.int .i64 q1, .int .i64 q2, .slice b1 ys.length d1] 26)
    have A0_ := A0.keep NB
    have S1_ := S1.below (NB.mono (by omega))
    have B_ := bel_n B (Nat.le_refl _) (.cells #[.int .i64 q1, .int .i64 q2, .slice b1 ys.length d1] 26)
    clear A0 S1 B
    have A0 := A0_
    have S1 := S1_
    have B := B_
    clear A0_ S1_ B_ NB
    have P1 := Tri.new w3 (.int .i64 q1) (.int .i64 q2) (.slice b1 ys.length d1) 26
    obtain ⟨c_A00, c_A01, c_A02⟩ := id A0
    go_wp2_with fail
    clear c_A00 c_A01 c_A02
    refine (ToLayout_any m n a len cap xs _ (HA.out _ B) hl).mono ?_
    rintro e w4 ⟨v, rfl, R2, hb⟩
    simp at R2
    obtain ⟨a2, c2, rfl⟩ := R2.form
    have A0_ := A0.keep hb
    have S1_ := S1.below (hb.mono (by simp <;> omega))
    have P1_ := P1.keep hb
    have B_ := bel_c B (Nat.le_refl _) hb
    have zw4 : w3.heap.size + 1 ≤ w4.heap.size := by have := hb.size; first | exact this | simpa using this
    clear A0 S1 P1 B
    have A0 := A0_
    have S1 := S1_
    have P1 := P1_
    have B := B_
    clear A0_ S1_ P1_ B_ hb
    have NB := bel0 w4 (.cells #[.int .i64 m, .int .i64 n, .slice a2 xs.length c2] 26)
    have A0_ := A0.keep NB
    have S1_ := S1.below (NB.mono (by omega))
    have P1_ := P1.keep NB
    have R2_ := R2.below (NB.mono (by omega))
    have B_ := bel_n B (Nat.le_refl _) (.cells #[.int .i64 m, .int .i64 n, .slice a2 xs.length c2] 26)
    clear A0 S1 P1 R2 B
    have A0 := A0_
    have S1 := S1_
    have P1 := P1_
    have R2 := R2_
    have B := B_
    clear A0_ S1_ P1_ R2_ B_ NB
    have P2 := Tri.new w4 (.int .i64 m) (.int .i64 n) (.slice a2 xs.length c2) 26
    go_wp2_with fail
    refine (CI _ _ _ _ R2 (by simp)).mono ?_
    rintro e w5 ⟨v, rfl, S2, hb⟩
    simp at S2
    obtain ⟨b2, d2, rfl⟩ := S2.form
    have A0_ := A0.keep hb
    have S1_ := S1.below (hb.mono (by simp <;> omega))
    have P1_ := P1.keep hb
    have R2_ := R2.below (hb.mono (by simp <;> omega))
    have P2_ := P2.keep hb
    have B_ := bel_c B (Nat.le_refl _) hb
    have zw5 : w4.heap.size + 1 ≤ w5.heap.size := by have := hb.size; first | exact this | simpa using this
    clear A0 S1 P1 R2 P2 B
    have A0 := A0_
    have S1 := S1_
    have P1 := P1_
    have R2 := R2_
    have P2 := P2_
    have B := B_
    clear A0_ S1_ P1_ R2_ P2_ B_ hb
    have NB := bel0 w5 (.cells #[.int .i64 q1, .int .i64 q2, .slice b2 ys.length d2] 26)
    have A0_ := A0.keep NB
    have S1_ := S1.below (NB.mono (by omega))
    have P1_ := P1.keep NB
    have R2_ := R2.below (NB.mono (by omega))
    have P2_ := P2.keep NB
    have S2_ := S2.below (NB.mono (by omega))
    have B_ := bel_n B (Nat.le_refl _) (.cells #[.int .i64 q1, .int .i64 q2, .slice b2 ys.length d2] 26)
    clear A0 S1 P1 R2 P2 S2 B
    have A0 := A0_
    have S1 := S1_
    have P1 := P1_
    have R2 := R2_
    have P2 := P2_
    have S2 := S2_
    have B := B_
    clear A0_ S1_ P1_ R2_ P2_ S2_ B_ NB
    have P3 := Tri.new w5 (.int .i64 q1) (.int .i64 q2) (.slice b2 ys.length d2) 26
    obtain ⟨c_P30, c_P31, c_P32⟩ := id P3
    obtain ⟨c_P10, c_P11, c_P12⟩ := id P1
    go_wp2_with fail
    clear c_P30 c_P31 c_P32 c_P10 c_P11 c_P12
    refine (EqLayout_any _ _ _ _ q1 q2 _ _ ys _ S2 S1 (by first | omega | (simp; done) | (simp; omega)) (by first | omega | (simp; done) | (simp; omega))).mono ?_
    rintro e w6 ⟨rfl, hb⟩
    have A0_ := A0.keep hb
    have S1_ := S1.below (hb.mono (by simp <;> omega))
    have P1_ := P1.keep hb
    have R2_ := R2.below (hb.mono (by simp <;> omega))
    have P2_ := P2.keep hb
    have S2_ := S2.below (hb.mono (by simp <;> omega))
    have P3_ := P3.keep hb
    have B_ := bel_c B (Nat.le_refl _) hb
    have zw6 : w5.heap.size + 1 ≤ w6.heap.size := by have := hb.size; first | exact this | simpa using this
    clear A0 S1 P1 R2 P2 S2 P3 B
    have A0 := A0_
    have S1 := S1_
    have P1 := P1_
    have R2 := R2_
    have P2 := P2_
    have S2 := S2_
    have P3 := P3_
    have B := B_
    clear A0_ S1_ P1_ R2_ P2_ S2_ P3_ B_ hb
    have D0 : Below w6.heap.size w6 w6.drew := ⟨rfl, rfl, rfl, Nat.le_refl _, fun _ _ => rfl⟩
    have BD := Lib.hid (bel_c B (Nat.le_refl _) D0)
    have RD := Lib.hid (R2.below (D0.mono (by omega)))
    have zR : w4.heap.size ≤ w6.heap.size := by omega
    have KP : ∀ u v, Below u.heap.size u v → (u.cell? ⟨w.heap.size, 0, none⟩ = some (.int .i64 m) ∧ u.cell? ⟨w.heap.size, 1, none⟩ = some (.int .i64 n) ∧ u.cell? ⟨w.heap.size, 2, none⟩ = some (.slice a len cap) ∧ u.cell? ⟨w4.heap.size, 0, none⟩ = some (.int .i64 m) ∧ u.cell? ⟨w4.heap.size, 1, none⟩ = some (.int .i64 n) ∧ u.cell? ⟨w4.heap.size, 2, none⟩ = some (.slice a2 xs.length c2)) → (v.cell? ⟨w.heap.size, 0, none⟩ = some (.int .i64 m) ∧ v.cell? ⟨w.heap.size, 1, none⟩ = some (.int .i64 n) ∧ v.cell? ⟨w.heap.size, 2, none⟩ = some (.slice a len cap) ∧ v.cell? ⟨w4.heap.size, 0, none⟩ = some (.int .i64 m) ∧ v.cell? ⟨w4.heap.size, 1, none⟩ = some (.int .i64 n) ∧ v.cell? ⟨w4.heap.size, 2, none⟩ = some (.slice a2 xs.length c2)) := fun u v hb h => ⟨kept hb h.1, kept hb h.2.1, kept hb h.2.2.1, kept hb h.2.2.2.1, kept hb h.2.2.2.2.1, kept hb h.2.2.2.2.2⟩
    obtain ⟨c_A00, c_A01, c_A02⟩ := id A0
    obtain ⟨c_P20, c_P21, c_P22⟩ := id P2
    go_wp2_with fail
    go_region_held3 (fun w' => w'.cell? ⟨w.heap.size, 0, none⟩ = some (.int .i64 m) ∧ w'.cell? ⟨w.heap.size, 1, none⟩ = some (.int .i64 n) ∧ w'.cell? ⟨w.heap.size, 2, none⟩ = some (.slice a len cap) ∧ w'.cell? ⟨w4.heap.size, 0, none⟩ = some (.int .i64 m) ∧ w'.cell? ⟨w4.heap.size, 1, none⟩ = some (.int .i64 n) ∧ w'.cell? ⟨w4.heap.size, 2, none⟩ = some (.slice a2 xs.length c2)) (first | (refine KP _ _ (by assumption) ?_; assumption) | go_keep)
      ((first
        | (go_at_call 25; refine (ToLayout_any m n a len cap xs _ (HA.out _ BD.out) hl).mono ?_; rintro e w7 ⟨vx, rfl, inx, hbx⟩; have IX := Lib.hid (RD.out.below (hbx.mono zR)); have JX := Lib.hid inx)
        | (go_at_call 27; refine (EqLayout_any _ _ _ _ m n _ _ xs _ IX.out JX.out (Nat.le_trans zR hbx.size) (Nat.le_refl _)).mono ?_; rintro e w8 ⟨rfl, hby⟩)))
    clear c_A00 c_A01 c_A02 c_P20 c_P21 c_P22 IX JX RD BD KP
    have hb : Below w6.heap.size w6 w8 := bel_c (D0.trans hbx) (Nat.le_refl _) hby
    clear D0 hbx hby
    have A0_ := A0.keep hb
    have S1_ := S1.below (hb.mono (by omega))
    have P1_ := P1.keep hb
    have R2_ := R2.below (hb.mono (by omega))
    have P2_ := P2.keep hb
    have S2_ := S2.below (hb.mono (by omega))
    have P3_ := P3.keep hb
    have B_ := bel_c B (Nat.le_refl _) hb
    have zw8 : w6.heap.size ≤ w8.heap.size := by have := hb.size; first | exact this | simpa using this
    clear A0 S1 P1 R2 P2 S2 P3 B
    have A0 := A0_
    have S1 := S1_
    have P1 := P1_
    have R2 := R2_
    have P2 := P2_
    have S2 := S2_
    have P3 := P3_
    have B := B_
    clear A0_ S1_ P1_ R2_ P2_ S2_ P3_ B_ hb
    obtain ⟨c_P20, c_P21, c_P22⟩ := id P2
    go_wp2_with fail
    clear c_P20 c_P21 c_P22
    refine (MarkLayout_any _ _ m n _ xs _ R2 (by omega)).mono ?_
    rintro e w9 ⟨rfl, Rm, hw⟩
    clear R2
    have A0_ := A0.within hw (by omega)
    have S1_ := S1.within hw (by omega) (by omega)
    have P1_ := P1.within hw (by omega)
    have P2_ := P2.within hw (by omega)
    have S2_ := S2.within hw (by omega) (by omega)
    have P3_ := P3.within hw (by omega)
    have B_ := bel_wL B (Nat.le_refl _) hw (by omega)
    have zw9 : w8.heap.size ≤ w9.heap.size := by have := hw.size; first | exact this | simpa using this
    clear A0 S1 P1 P2 S2 P3 B
    have A0 := A0_
    have S1 := S1_
    have P1 := P1_
    have P2 := P2_
    have S2 := S2_
    have P3 := P3_
    have B := B_
    clear A0_ S1_ P1_ P2_ S2_ P3_ B_ hw
    have R2 := Rm
    clear Rm
    clear R2
    clear P2
    obtain ⟨c_P30, c_P31, c_P32⟩ := id P3
    obtain ⟨c_P10, c_P11, c_P12⟩ := id P1
    go_wp2_with fail
    clear c_P30 c_P31 c_P32 c_P10 c_P11 c_P12
    refine (EqLayout_any _ _ _ _ q1 q2 _ _ ys _ S2 S1 (by first | omega | (simp; done) | (simp; omega)) (by first | omega | (simp; done) | (simp; omega))).mono ?_
    rintro e w10 ⟨rfl, hb⟩
    have A0_ := A0.keep hb
    have S1_ := S1.below (hb.mono (by omega))
    have P1_ := P1.keep hb
    have S2_ := S2.below (hb.mono (by omega))
    have P3_ := P3.keep hb
    have B_ := bel_c B (Nat.le_refl _) hb
    have zw10 : w9.heap.size ≤ w10.heap.size := by have := hb.size; first | exact this | simpa using this
    clear A0 S1 P1 S2 P3 B
    have A0 := A0_
    have S1 := S1_
    have P1 := P1_
    have S2 := S2_
    have P3 := P3_
    have B := B_
    clear A0_ S1_ P1_ S2_ P3_ B_ hb
    obtain ⟨c_P30, c_P31, c_P32⟩ := id P3
    go_wp2_with fail
    clear c_P30 c_P31 c_P32
    refine (MarkLayout_any _ _ q1 q2 _ ys _ S2 (by omega)).mono ?_
    rintro e w11 ⟨rfl, Rm, hw⟩
    clear S2
    have A0_ := A0.within hw (by omega)
    have S1_ := S1.within hw (by omega) (by omega)
    have P1_ := P1.within hw (by omega)
    have P3_ := P3.within hw (by omega)
    have B_ := bel_wL B (Nat.le_refl _) hw (by omega)
    have zw11 : w10.heap.size ≤ w11.heap.size := by have := hw.size; first | exact this | simpa using this
    clear A0 S1 P1 P3 B
    have A0 := A0_
    have S1 := S1_
    have P1 := P1_
    have P3 := P3_
    have B := B_
    clear A0_ S1_ P1_ P3_ B_ hw
    have S2 := Rm
    clear Rm
    obtain ⟨c_P30, c_P31, c_P32⟩ := id P3
    go_wp2_with fail
    clear c_P30 c_P31 c_P32
    refine (HeldLayout_any _ _ q1 q2 _ ys _ S2 (by omega)).mono ?_
    rintro e w12 ⟨rfl, hb⟩
    have A0_ := A0.keep hb
    have S1_ := S1.below (hb.mono (by omega))
    have P1_ := P1.keep hb
    have P3_ := P3.keep hb
    have S2_ := S2.below (hb.mono (by omega))
    have B_ := bel_c B (Nat.le_refl _) hb
    have zw12 : w11.heap.size ≤ w12.heap.size := by have := hb.size; first | exact this | simpa using this
    clear A0 S1 P1 P3 S2 B
    have A0 := A0_
    have S1 := S1_
    have P1 := P1_
    have P3 := P3_
    have S2 := S2_
    have B := B_
    clear A0_ S1_ P1_ P3_ S2_ B_ hb
    obtain ⟨c_A00, c_A01, c_A02⟩ := id A0
    go_wp2_with fail
    clear c_A00 c_A01 c_A02
    refine (ToLayout_any m n a len cap xs _ (HA.out _ B) hl).mono ?_
    rintro e w13 ⟨v, rfl, R3, hb⟩
    obtain ⟨a3, c3, rfl⟩ := R3.form
    have A0_ := A0.keep hb
    have S1_ := S1.below (hb.mono (by omega))
    have P1_ := P1.keep hb
    have P3_ := P3.keep hb
    have S2_ := S2.below (hb.mono (by omega))
    have B_ := bel_c B (Nat.le_refl _) hb
    have zw13 : w12.heap.size ≤ w13.heap.size := by have := hb.size; first | exact this | simpa using this
    clear A0 S1 P1 P3 S2 B
    have A0 := A0_
    have S1 := S1_
    have P1 := P1_
    have P3 := P3_
    have S2 := S2_
    have B := B_
    clear A0_ S1_ P1_ P3_ S2_ B_ hb
    go_wp2_with fail
    refine (CI _ _ _ _ R3 (by omega)).mono ?_
    rintro e w14 ⟨v, rfl, S4, hb⟩
    obtain ⟨b4, d4, rfl⟩ := S4.form
    have A0_ := A0.keep hb
    have S1_ := S1.below (hb.mono (by omega))
    have P1_ := P1.keep hb
    have P3_ := P3.keep hb
    have S2_ := S2.below (hb.mono (by omega))
    have R3_ := R3.below (hb.mono (by omega))
    have B_ := bel_c B (Nat.le_refl _) hb
    have zw14 : w13.heap.size ≤ w14.heap.size := by have := hb.size; first | exact this | simpa using this
    clear A0 S1 P1 P3 S2 R3 B
    have A0 := A0_
    have S1 := S1_
    have P1 := P1_
    have P3 := P3_
    have S2 := S2_
    have R3 := R3_
    have B := B_
    clear A0_ S1_ P1_ P3_ S2_ R3_ B_ hb
    clear R3
    have NB := bel0 w14 (.cells #[.int .i64 q1, .int .i64 q2, .slice b4 ys.length d4] 26)
    have A0_ := A0.keep NB
    have S1_ := S1.below (NB.mono (by omega))
    have P1_ := P1.keep NB
    have P3_ := P3.keep NB
    have S2_ := S2.below (NB.mono (by omega))
    have S4_ := S4.below (NB.mono (by omega))
    have B_ := bel_n B (Nat.le_refl _) (.cells #[.int .i64 q1, .int .i64 q2, .slice b4 ys.length d4] 26)
    clear A0 S1 P1 P3 S2 S4 B
    have A0 := A0_
    have S1 := S1_
    have P1 := P1_
    have P3 := P3_
    have S2 := S2_
    have S4 := S4_
    have B := B_
    clear A0_ S1_ P1_ P3_ S2_ S4_ B_ NB
    have P4 := Tri.new w14 (.int .i64 q1) (.int .i64 q2) (.slice b4 ys.length d4) 26
    obtain ⟨c_P40, c_P41, c_P42⟩ := id P4
    obtain ⟨c_P10, c_P11, c_P12⟩ := id P1
    go_wp2_with fail
    clear c_P40 c_P41 c_P42 c_P10 c_P11 c_P12
    refine (EqLayout_any _ _ _ _ q1 q2 _ _ ys _ S4 S1 (by first | omega | (simp; done) | (simp; omega)) (by first | omega | (simp; done) | (simp; omega))).mono ?_
    rintro e w15 ⟨rfl, hb⟩
    have A0_ := A0.keep hb
    have S1_ := S1.below (hb.mono (by simp <;> omega))
    have P1_ := P1.keep hb
    have P3_ := P3.keep hb
    have S2_ := S2.below (hb.mono (by simp <;> omega))
    have S4_ := S4.below (hb.mono (by simp <;> omega))
    have P4_ := P4.keep hb
    have B_ := bel_c B (Nat.le_refl _) hb
    have zw15 : w14.heap.size + 1 ≤ w15.heap.size := by have := hb.size; first | exact this | simpa using this
    clear A0 S1 P1 P3 S2 S4 P4 B
    have A0 := A0_
    have S1 := S1_
    have P1 := P1_
    have P3 := P3_
    have S2 := S2_
    have S4 := S4_
    have P4 := P4_
    have B := B_
    clear A0_ S1_ P1_ P3_ S2_ S4_ P4_ B_ hb
    clear P4
    clear S4
    obtain ⟨c_P30, c_P31, c_P32⟩ := id P3
    go_wp2_with fail
    clear c_P30 c_P31 c_P32
    refine (HeldLayout_any _ _ q1 q2 _ ys _ S2 (by omega)).mono ?_
    rintro e w16 ⟨rfl, hb⟩
    have A0_ := A0.keep hb
    have S1_ := S1.below (hb.mono (by omega))
    have P1_ := P1.keep hb
    have P3_ := P3.keep hb
    have S2_ := S2.below (hb.mono (by omega))
    have B_ := bel_c B (Nat.le_refl _) hb
    have zw16 : w15.heap.size ≤ w16.heap.size := by have := hb.size; first | exact this | simpa using this
    clear A0 S1 P1 P3 S2 B
    have A0 := A0_
    have S1 := S1_
    have P1 := P1_
    have P3 := P3_
    have S2 := S2_
    have B := B_
    clear A0_ S1_ P1_ P3_ S2_ B_ hb
    go_wp2_with fail
    go_ret
    exact ⟨rfl, B⟩
  · have hl' : (1048576 : Int) < len := by omega
    go_enter Try.func9, Try.ntmps9
    go_wp2_with fail
    refine (SzL_no m n a len cap 1048576 _ (by omega) (by omega) hm hl').mono ?_
    rintro e w1 ⟨rfl, hb1⟩
    go_wp2_with fail
    go_ret
    exact ⟨rfl, bel_c (bel0 w _) (Nat.le_refl _) hb1⟩

end Go.Proofs.Ytakjgnkkeefgbaa
