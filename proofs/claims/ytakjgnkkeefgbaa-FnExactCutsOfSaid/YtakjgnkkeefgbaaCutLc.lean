/- The walk of FnExactCutsOf. -/
import Derived.Test.YtakjgnkkeefgbaaCutIm
import Derived.Test.YtakjgnkkeefgbaaCutSb
import Derived.Test.YtakjgnkkeefgbaaLayN3
import Derived.Test.YtakjgnkkeefgbaaCutLn
namespace Go.Proofs.Ytakjgnkkeefgbaa
open Go.ChangeShapes Go.WideShapes Go.ChangeAt Go.RowKit

set_option maxHeartbeats 1000000 in
theorem CutsLaw_walk (m n : Int) (a : Option Addr) (len cap : Nat) (xs : List P5) (w : World) (x0 : ArgPat w a len xs) (wf : ∀ c ∈ xs, c.Wf) :
    Calls Try.prog 5 #[.agg #[.int .i64 m, .int .i64 n, .slice a len cap]] w fun e w' => e = .returned (.bool true) ∧ Below w.heap.size w w' := by
  have hm : len ≤ 9223372036854775807 := by have := x0.2.1; unfold maxLen at this; omega
  have HA : Hid (∀ W, Below w.heap.size w W → ArgPat W a len xs) := Lib.hid (fun W hb => x0.below hb)
  clear x0
  have CS := fun lo hi v w r h => SpecCutsOf_any lo hi m n v xs w r h
  have CI := fun lo hi v w r h => ImplCutsOf_any lo hi m n v xs wf w r h
  generalize cutsB m n xs = zs at CS CI
  have hq := mkP_pos xs
  have hp := mkC_pos zs
  by_cases hl : len ≤ 1048576
  · have hs : ¬ ((1048576 : Int) - (len : Int) < 0) := by omega
    have hl' : (len : Int) ≤ 1048576 := by omega
    go_enter Try.func5, Try.ntmps5
    have A0 := Tri.new w (.int .i64 m) (.int .i64 n) (.slice a len cap) 43
    have B := bel0 w (.cells #[.int .i64 m, .int .i64 n, .slice a len cap] 43)
    go_wp2_with fail
    refine (SzL_yes m n a len cap 1048576 _ (by omega) hl').mono ?_
    rintro e w1 ⟨rfl, hb⟩
    have A0_ := A0.keep hb
    have B_ := bel_c B (Nat.le_refl _) hb
    have zw1 : w.heap.size + 1 ≤ w1.heap.size := by have := hb.size; simpa using this
    clear A0 B
    have A0 := A0_
    have B := B_
    clear A0_ B_ hb
    obtain ⟨c_A00, c_A01, c_A02⟩ := id A0
    go_wp2_with fail
    clear c_A00 c_A01 c_A02
    refine (ToLayout_any m n a len cap xs _ (HA.out _ B) hl).mono ?_
    rintro e w2 ⟨v, rfl, R1, hb⟩
    obtain ⟨a1, c1, rfl⟩ := R1.form
    have A0_ := A0.keep hb
    have B_ := bel_c B (Nat.le_refl _) hb
    have zw2 : w1.heap.size ≤ w2.heap.size := by have := hb.size; simpa using this
    clear A0 B
    have A0 := A0_
    have B := B_
    clear A0_ B_ hb
    go_wp2_with fail
    refine (CS _ _ _ _ R1 (by omega)).mono ?_
    rintro e w3 ⟨u1, rfl, I1, hb⟩
    obtain ⟨b1, d1, rfl⟩ := I1.form
    have A0_ := A0.keep hb
    have R1_ := R1.below (hb.mono (by omega))
    have B_ := bel_c B (Nat.le_refl _) hb
    have zw3 : w2.heap.size ≤ w3.heap.size := by have := hb.size; simpa using this
    clear A0 R1 B
    have A0 := A0_
    have R1 := R1_
    have B := B_
    clear A0_ R1_ B_ hb
    clear R1
    obtain ⟨c_A00, c_A01, c_A02⟩ := id A0
    go_wp2_with fail
    clear c_A00 c_A01 c_A02
    refine (ToLayout_any m n a len cap xs _ (HA.out _ B) hl).mono ?_
    rintro e w4 ⟨v, rfl, R2, hb⟩
    obtain ⟨a2, c2, rfl⟩ := R2.form
    have A0_ := A0.keep hb
    have I1_ := I1.below (hb.mono (by omega))
    have B_ := bel_c B (Nat.le_refl _) hb
    have zw4 : w3.heap.size ≤ w4.heap.size := by have := hb.size; simpa using this
    clear A0 I1 B
    have A0 := A0_
    have I1 := I1_
    have B := B_
    clear A0_ I1_ B_ hb
    have NB := bel0 w4 (.cells #[.int .i64 m, .int .i64 n, .slice a2 xs.length c2] 26)
    have A0_ := A0.keep NB
    have I1_ := I1.below (NB.mono (by omega))
    have R2_ := R2.below (NB.mono (by omega))
    have B_ := bel_n B (Nat.le_refl _) (.cells #[.int .i64 m, .int .i64 n, .slice a2 xs.length c2] 26)
    clear A0 I1 R2 B
    have A0 := A0_
    have I1 := I1_
    have R2 := R2_
    have B := B_
    clear A0_ I1_ R2_ B_ NB
    have P2 := Tri.new w4 (.int .i64 m) (.int .i64 n) (.slice a2 xs.length c2) 26
    go_wp2_with fail
    refine (CI _ _ _ _ R2 (by simp)).mono ?_
    rintro e w5 ⟨u2, rfl, I2, hb⟩
    simp at I2
    obtain ⟨b2, d2, rfl⟩ := I2.form
    have A0_ := A0.keep hb
    have I1_ := I1.below (hb.mono (by simp <;> omega))
    have R2_ := R2.below (hb.mono (by simp <;> omega))
    have P2_ := P2.keep hb
    have B_ := bel_c B (Nat.le_refl _) hb
    have zw5 : w4.heap.size + 1 ≤ w5.heap.size := by have := hb.size; simpa using this
    clear A0 I1 R2 P2 B
    have A0 := A0_
    have I1 := I1_
    have R2 := R2_
    have P2 := P2_
    have B := B_
    clear A0_ I1_ R2_ P2_ B_ hb
    go_wp2_with fail
    refine (EqCutS_any _ _ _ _ _ _ zs _ I2 I1 (by omega) (by omega)).mono ?_
    rintro e w6 ⟨rfl, hb⟩
    have A0_ := A0.keep hb
    have I1_ := I1.below (hb.mono (by omega))
    have R2_ := R2.below (hb.mono (by omega))
    have P2_ := P2.keep hb
    have I2_ := I2.below (hb.mono (by omega))
    have B_ := bel_c B (Nat.le_refl _) hb
    have zw6 : w5.heap.size ≤ w6.heap.size := by have := hb.size; simpa using this
    clear A0 I1 R2 P2 I2 B
    have A0 := A0_
    have I1 := I1_
    have R2 := R2_
    have P2 := P2_
    have I2 := I2_
    have B := B_
    clear A0_ I1_ R2_ P2_ I2_ B_ hb
    have D0 : Below w6.heap.size w6 w6.drew := ⟨rfl, rfl, rfl, Nat.le_refl _, fun _ _ => rfl⟩
    have BD := Lib.hid (bel_c B (Nat.le_refl _) D0)
    have RD := Lib.hid (R2.below (D0.mono (by omega)))
    have zR : w4.heap.size ≤ w6.heap.size := by omega
    have KP : ∀ u v, Below u.heap.size u v → (u.cell? ⟨w.heap.size, 0, none⟩ = some (.int .i64 m) ∧ u.cell? ⟨w.heap.size, 1, none⟩ = some (.int .i64 n) ∧ u.cell? ⟨w.heap.size, 2, none⟩ = some (.slice a len cap) ∧ u.cell? ⟨w4.heap.size, 0, none⟩ = some (.int .i64 m) ∧ u.cell? ⟨w4.heap.size, 1, none⟩ = some (.int .i64 n) ∧ u.cell? ⟨w4.heap.size, 2, none⟩ = some (.slice a2 xs.length c2)) → (v.cell? ⟨w.heap.size, 0, none⟩ = some (.int .i64 m) ∧ v.cell? ⟨w.heap.size, 1, none⟩ = some (.int .i64 n) ∧ v.cell? ⟨w.heap.size, 2, none⟩ = some (.slice a len cap) ∧ v.cell? ⟨w4.heap.size, 0, none⟩ = some (.int .i64 m) ∧ v.cell? ⟨w4.heap.size, 1, none⟩ = some (.int .i64 n) ∧ v.cell? ⟨w4.heap.size, 2, none⟩ = some (.slice a2 xs.length c2)) := fun u v hb h => ⟨kept hb h.1, kept hb h.2.1, kept hb h.2.2.1, kept hb h.2.2.2.1, kept hb h.2.2.2.2.1, kept hb h.2.2.2.2.2⟩
    obtain ⟨c_A00, c_A01, c_A02⟩ := id A0
    obtain ⟨c_P20, c_P21, c_P22⟩ := id P2
    go_wp2_with fail
    go_region_held3 (fun w' => w'.cell? ⟨w.heap.size, 0, none⟩ = some (.int .i64 m) ∧ w'.cell? ⟨w.heap.size, 1, none⟩ = some (.int .i64 n) ∧ w'.cell? ⟨w.heap.size, 2, none⟩ = some (.slice a len cap) ∧ w'.cell? ⟨w4.heap.size, 0, none⟩ = some (.int .i64 m) ∧ w'.cell? ⟨w4.heap.size, 1, none⟩ = some (.int .i64 n) ∧ w'.cell? ⟨w4.heap.size, 2, none⟩ = some (.slice a2 xs.length c2)) (first | (refine KP _ _ (by assumption) ?_; assumption) | go_keep)
      ((first
        | (go_at_call 25; refine (ToLayout_any m n a len cap xs _ (HA.out _ BD.out) hl).mono ?_; rintro e w7 ⟨vx, rfl, inx, hbx⟩; have IX := Lib.hid (RD.out.below (hbx.mono zR)); have JX := Lib.hid inx)
        | (go_at_call 27; refine (EqLayout_any _ _ _ _ m n _ _ xs _ IX.out JX.out (Nat.le_trans zR hbx.size) (Nat.le_refl _)).mono ?_; rintro e w8 ⟨rfl, hby⟩)))
    clear c_A00 c_A01 c_A02 c_P20 c_P21 c_P22 IX JX RD BD KP
    have hb : Below w6.heap.size w6 w8 := bel_c (D0.trans hbx) (Nat.le_refl _) hby
    clear D0 hbx hby
    have A0_ := A0.keep hb
    have I1_ := I1.below (hb.mono (by omega))
    have R2_ := R2.below (hb.mono (by omega))
    have P2_ := P2.keep hb
    have I2_ := I2.below (hb.mono (by omega))
    have B_ := bel_c B (Nat.le_refl _) hb
    have zw8 : w6.heap.size ≤ w8.heap.size := by have := hb.size; simpa using this
    clear A0 I1 R2 P2 I2 B
    have A0 := A0_
    have I1 := I1_
    have R2 := R2_
    have P2 := P2_
    have I2 := I2_
    have B := B_
    clear A0_ I1_ R2_ P2_ I2_ B_ hb
    obtain ⟨c_P20, c_P21, c_P22⟩ := id P2
    go_wp2_with fail
    clear c_P20 c_P21 c_P22
    refine (MarkLayout_any _ _ m n _ xs _ R2 (by omega)).mono ?_
    rintro e w9 ⟨rfl, Rm, hw⟩
    clear R2
    have A0_ := A0.within hw (by omega)
    have I1_ := I1.within hw (by omega) (by omega)
    have P2_ := P2.within hw (by omega)
    have I2_ := I2.within hw (by omega) (by omega)
    have B_ := bel_wL B (Nat.le_refl _) hw (by omega)
    have zw9 : w8.heap.size ≤ w9.heap.size := by have := hw.size; simpa using this
    clear A0 I1 P2 I2 B
    have A0 := A0_
    have I1 := I1_
    have P2 := P2_
    have I2 := I2_
    have B := B_
    clear A0_ I1_ P2_ I2_ B_ hw
    have R2 := Rm
    clear Rm
    clear R2
    clear P2
    go_wp2_with fail
    refine (EqCutS_any _ _ _ _ _ _ zs _ I2 I1 (by omega) (by omega)).mono ?_
    rintro e w10 ⟨rfl, hb⟩
    have A0_ := A0.keep hb
    have I1_ := I1.below (hb.mono (by omega))
    have I2_ := I2.below (hb.mono (by omega))
    have B_ := bel_c B (Nat.le_refl _) hb
    have zw10 : w9.heap.size ≤ w10.heap.size := by have := hb.size; simpa using this
    clear A0 I1 I2 B
    have A0 := A0_
    have I1 := I1_
    have I2 := I2_
    have B := B_
    clear A0_ I1_ I2_ B_ hb
    go_wp2_with fail
    refine (MarkCOne _ _ _ zs _ I2).mono ?_
    rintro e w11 ⟨rfl, Im, hw⟩
    clear I2
    have A0_ := A0.within hw (by omega)
    have I1_ := I1.within hw (by omega) (by omega)
    have B_ := bel_wL B (Nat.le_refl _) hw (by omega)
    have zw11 : w10.heap.size ≤ w11.heap.size := by have := hw.size; simpa using this
    clear A0 I1 B
    have A0 := A0_
    have I1 := I1_
    have B := B_
    clear A0_ I1_ B_ hw
    have I2 := Im
    clear Im
    go_wp2_with fail
    refine (HeldCOne _ _ _ zs _ I2).mono ?_
    rintro e w' ⟨rfl, hw'⟩
    have hw'' := hw'.symm
    subst hw''
    clear hw'
    obtain ⟨c_A00, c_A01, c_A02⟩ := id A0
    go_wp2_with fail
    clear c_A00 c_A01 c_A02
    refine (ToLayout_any m n a len cap xs _ (HA.out _ B) hl).mono ?_
    rintro e w12 ⟨v, rfl, R3, hb⟩
    obtain ⟨a3, c3, rfl⟩ := R3.form
    have A0_ := A0.keep hb
    have I1_ := I1.below (hb.mono (by omega))
    have I2_ := I2.below (hb.mono (by omega))
    have B_ := bel_c B (Nat.le_refl _) hb
    have zw12 : w11.heap.size ≤ w12.heap.size := by have := hb.size; simpa using this
    clear A0 I1 I2 B
    have A0 := A0_
    have I1 := I1_
    have I2 := I2_
    have B := B_
    clear A0_ I1_ I2_ B_ hb
    go_wp2_with fail
    refine (CI _ _ _ _ R3 (by omega)).mono ?_
    rintro e w13 ⟨u3, rfl, I3, hb⟩
    obtain ⟨b3, d3, rfl⟩ := I3.form
    have A0_ := A0.keep hb
    have I1_ := I1.below (hb.mono (by omega))
    have I2_ := I2.below (hb.mono (by omega))
    have R3_ := R3.below (hb.mono (by omega))
    have B_ := bel_c B (Nat.le_refl _) hb
    have zw13 : w12.heap.size ≤ w13.heap.size := by have := hb.size; simpa using this
    clear A0 I1 I2 R3 B
    have A0 := A0_
    have I1 := I1_
    have I2 := I2_
    have R3 := R3_
    have B := B_
    clear A0_ I1_ I2_ R3_ B_ hb
    clear R3
    go_wp2_with fail
    refine (EqCutS_any _ _ _ _ _ _ zs _ I3 I1 (by omega) (by omega)).mono ?_
    rintro e w14 ⟨rfl, hb⟩
    have A0_ := A0.keep hb
    have I1_ := I1.below (hb.mono (by omega))
    have I2_ := I2.below (hb.mono (by omega))
    have I3_ := I3.below (hb.mono (by omega))
    have B_ := bel_c B (Nat.le_refl _) hb
    have zw14 : w13.heap.size ≤ w14.heap.size := by have := hb.size; simpa using this
    clear A0 I1 I2 I3 B
    have A0 := A0_
    have I1 := I1_
    have I2 := I2_
    have I3 := I3_
    have B := B_
    clear A0_ I1_ I2_ I3_ B_ hb
    go_wp2_with fail
    refine (HeldCOne _ _ _ zs _ I2).mono ?_
    rintro e w' ⟨rfl, hw'⟩
    have hw'' := hw'.symm
    subst hw''
    clear hw'
    go_wp2_with fail
    go_ret
    exact ⟨rfl, B⟩
  · have hl' : (1048576 : Int) < len := by omega
    go_enter Try.func5, Try.ntmps5
    go_wp2_with fail
    refine (SzL_no m n a len cap 1048576 _ (by omega) (by omega) hm hl').mono ?_
    rintro e w1 ⟨rfl, hb1⟩
    go_wp2_with fail
    go_ret
    exact ⟨rfl, bel_c (bel0 w _) (Nat.le_refl _) hb1⟩

end Go.Proofs.Ytakjgnkkeefgbaa
