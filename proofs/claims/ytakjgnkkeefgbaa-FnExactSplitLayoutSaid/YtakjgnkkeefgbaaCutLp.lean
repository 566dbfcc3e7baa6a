/- The walk of FnExactSplitLayout. -/
import Derived.Test.YtakjgnkkeefgbaaCutLx
import Derived.Test.YtakjgnkkeefgbaaCutIn
import Derived.Deep.RegionHeld3
import Derived.Deep.DeepCutAuto
set_option linter.unusedSimpArgs false
set_option linter.unusedVariables false
namespace Go.Proofs.Ytakjgnkkeefgbaa
open Go.ChangeShapes Go.WideShapes Go.ChangeAt Go.RowKit

set_option maxHeartbeats 40000000 in
set_option maxRecDepth 20000 in
theorem SplitLaw_walk (m n : Int) (up : Bool) (z : Int) (a : Option Addr) (len cap : Nat) (xs : List P5) (w : World) (x0 : ArgPat w a len xs) (wf : ∀ c ∈ xs, c.Wf) :
    Calls Try.prog 6 #[.agg #[.int .i64 m, .int .i64 n, .slice a len cap], .agg #[.bool up, .int .i64 z]] w fun e w' => e = .returned (.bool true) ∧ Below w.heap.size w w' := by
  have hm : len ≤ 9223372036854775807 := by have := x0.2.1; unfold maxLen at this; omega
  have HA : Hid (∀ W, Below w.heap.size w W → ArgPat W a len xs) := Lib.hid (fun W hb => x0.below hb)
  clear x0
  have CS := fun lo hi v w r h => SpecSplitLayout_any lo hi m n v xs up z w r h
  have CI := fun lo hi v w r h => ImplSplitLayout_any lo hi m n v xs up z wf w r h
  generalize cutB m n xs ⟨up, z⟩ = ok at CS CI
  generalize sM1 m n xs ⟨up, z⟩ = M1 at CS CI
  generalize sN1 m n xs ⟨up, z⟩ = N1 at CS CI
  generalize sL1 m n xs ⟨up, z⟩ = L1 at CS CI
  generalize sM2 m n xs ⟨up, z⟩ = M2 at CS CI
  generalize sN2 m n xs ⟨up, z⟩ = N2 at CS CI
  generalize sL2 m n xs ⟨up, z⟩ = L2 at CS CI
  have CSH := Lib.hid CS
  have CIH := Lib.hid CI
  clear CS CI
  have hq := mkP_pos xs
  obtain ⟨K1, hK1⟩ : ∃ K1 : Int, K1 = ((1 + 5 * L1.length : Nat) : Int) := ⟨_, rfl⟩
  obtain ⟨K2, hK2⟩ : ∃ K2 : Int, K2 = ((1 + 5 * L1.length + 5 * L2.length : Nat) : Int) := ⟨_, rfl⟩
  have hp1 : ¬ K1 < 0 := by omega
  have hp2 : ¬ K2 < 0 := by omega
  have HK1 := Lib.hid hK1
  have HK2 := Lib.hid hK2
  clear hK1 hK2
  by_cases hl : len ≤ 1048576
  · have hs : ¬ ((1048576 : Int) - (len : Int) < 0) := by omega
    have hl' : (len : Int) ≤ 1048576 := by omega
    go_enter Try.func6, Try.ntmps6
    have XL := (Tri.new w (.int .i64 m) (.int .i64 n) (.slice a len cap) 43).keep (bel0 _ (.cells #[.bool up, .int .i64 z] 44))
    have XC := Duo.new (w.alloc (.cells #[.int .i64 m, .int .i64 n, .slice a len cap] 43)) (.bool up) (.int .i64 z) 44
    rw [show (w.alloc (.cells #[.int .i64 m, .int .i64 n, .slice a len cap] 43)).heap.size = w.heap.size + 1 by simp] at XC
    have B := bel_n (bel0 w (.cells #[.int .i64 m, .int .i64 n, .slice a len cap] 43)) (Nat.le_refl _) (.cells #[.bool up, .int .i64 z] 44)
    go_wp2_with fail
    refine (SzL_yes m n a len cap 1048576 _ (by omega) hl').mono ?_
    rintro e w1 ⟨rfl, hb⟩
    have z0 := B.size
    have zz := XC.1
    clear z0 zz
    have XL := XL.keep hb
    have XC := XC.keep hb
    have B := bel_c B (Nat.le_refl _) hb
    have zw1 : ((w.alloc (.cells #[.int .i64 m, .int .i64 n, .slice a len cap] 43)).alloc (.cells #[.bool up, .int .i64 z] 44)).heap.size ≤ w1.heap.size := hb.size
    clear hb
    have zw : w.heap.size + 1 < w1.heap.size := lt_of_cell XC.1
    have KP : ∀ u v : World, Below u.heap.size u v → (u.cell? ⟨w.heap.size, 0, none⟩ = some (.int .i64 m) ∧ u.cell? ⟨w.heap.size, 1, none⟩ = some (.int .i64 n) ∧ u.cell? ⟨w.heap.size, 2, none⟩ = some (.slice a len cap) ∧ u.cell? ⟨w.heap.size + 1, 0, none⟩ = some (.bool up) ∧ u.cell? ⟨w.heap.size + 1, 1, none⟩ = some (.int .i64 z) ∧ Below w1.heap.size w1 u) → (v.cell? ⟨w.heap.size, 0, none⟩ = some (.int .i64 m) ∧ v.cell? ⟨w.heap.size, 1, none⟩ = some (.int .i64 n) ∧ v.cell? ⟨w.heap.size, 2, none⟩ = some (.slice a len cap) ∧ v.cell? ⟨w.heap.size + 1, 0, none⟩ = some (.bool up) ∧ v.cell? ⟨w.heap.size + 1, 1, none⟩ = some (.int .i64 z) ∧ Below w1.heap.size w1 v) := fun u v hb h => ⟨kept hb h.1, kept hb h.2.1, kept hb h.2.2.1, kept hb h.2.2.2.1, kept hb h.2.2.2.2.1, bel_c h.2.2.2.2.2 (Nat.le_refl _) hb⟩
    have D0 : Below w1.heap.size w1 w1.drew := ⟨rfl, rfl, rfl, Nat.le_refl _, fun _ _ => rfl⟩
    have S0 : w1.drew.cell? ⟨w.heap.size, 0, none⟩ = some (.int .i64 m) ∧ w1.drew.cell? ⟨w.heap.size, 1, none⟩ = some (.int .i64 n) ∧ w1.drew.cell? ⟨w.heap.size, 2, none⟩ = some (.slice a len cap) ∧ w1.drew.cell? ⟨w.heap.size + 1, 0, none⟩ = some (.bool up) ∧ w1.drew.cell? ⟨w.heap.size + 1, 1, none⟩ = some (.int .i64 z) ∧ Below w1.heap.size w1 w1.drew := ⟨kept D0 XL.1, kept D0 XL.2.1, kept D0 XL.2.2, kept D0 XC.1, kept D0 XC.2, D0⟩
    have KS : ∀ (u : World) (p : Nat) (x0 x1 x2 : Value), w1.heap.size ≤ p → (u.cell? ⟨w.heap.size, 0, none⟩ = some (.int .i64 m) ∧ u.cell? ⟨w.heap.size, 1, none⟩ = some (.int .i64 n) ∧ u.cell? ⟨w.heap.size, 2, none⟩ = some (.slice a len cap) ∧ u.cell? ⟨w.heap.size + 1, 0, none⟩ = some (.bool up) ∧ u.cell? ⟨w.heap.size + 1, 1, none⟩ = some (.int .i64 z) ∧ Below w1.heap.size w1 u) → ((set3 u p x0 x1 x2).cell? ⟨w.heap.size, 0, none⟩ = some (.int .i64 m) ∧ (set3 u p x0 x1 x2).cell? ⟨w.heap.size, 1, none⟩ = some (.int .i64 n) ∧ (set3 u p x0 x1 x2).cell? ⟨w.heap.size, 2, none⟩ = some (.slice a len cap) ∧ (set3 u p x0 x1 x2).cell? ⟨w.heap.size + 1, 0, none⟩ = some (.bool up) ∧ (set3 u p x0 x1 x2).cell? ⟨w.heap.size + 1, 1, none⟩ = some (.int .i64 z) ∧ Below w1.heap.size w1 (set3 u p x0 x1 x2)) := fun u p x0 x1 x2 hp h => ⟨(set3_far (by first | omega | (simp; omega))).trans h.1, (set3_far (by first | omega | (simp; omega))).trans h.2.1, (set3_far (by first | omega | (simp; omega))).trans h.2.2.1, (set3_far (by first | omega | (simp; omega))).trans h.2.2.2.1, (set3_far (by first | omega | (simp; omega))).trans h.2.2.2.2.1, ((h.2.2.2.2.2.setCell hp _).setCell hp _).setCell hp _⟩
    have KP1 := Lib.hid KP
    have KS1 := Lib.hid KS
    have CT : Hid (∀ u : World, (u.cell? ⟨w.heap.size, 0, none⟩ = some (.int .i64 m) ∧ u.cell? ⟨w.heap.size, 1, none⟩ = some (.int .i64 n) ∧ u.cell? ⟨w.heap.size, 2, none⟩ = some (.slice a len cap) ∧ u.cell? ⟨w.heap.size + 1, 0, none⟩ = some (.bool up) ∧ u.cell? ⟨w.heap.size + 1, 1, none⟩ = some (.int .i64 z) ∧ Below w1.heap.size w1 u) → Calls Try.prog 25 #[.agg #[.int .i64 m, .int .i64 n, .slice a len cap]] u (FreshL m n xs u)) := Lib.hid (fun u h => ToLayout_any m n a len cap xs u (HA.out _ (bel_c B (Nat.le_refl _) h.2.2.2.2.2)) hl)
    clear KP KS D0
    obtain ⟨cL0, cL1, cL2⟩ := id XL
    obtain ⟨cC0, cC1⟩ := id XC
    go_upto_region 5 with fail
    go_cut [6, 7, 8] (fun q t r wx => WWS w1 M1 N1 M2 N2 L1 L2 ok q t r wx)
    case first =>
     (try simp only [List.append_eq, List.cons_append, List.nil_append])
     have hS := S0
     refine reg_begin (fun w' => w'.cell? ⟨w.heap.size, 0, none⟩ = some (.int .i64 m) ∧ w'.cell? ⟨w.heap.size, 1, none⟩ = some (.int .i64 n) ∧ w'.cell? ⟨w.heap.size, 2, none⟩ = some (.slice a len cap) ∧ w'.cell? ⟨w.heap.size + 1, 0, none⟩ = some (.bool up) ∧ w'.cell? ⟨w.heap.size + 1, 1, none⟩ = some (.int .i64 z) ∧ Below w1.heap.size w1 w') (by kernel_rfl) hS ?_
     refine rt 0 (v := ?_) rfl (by intro w hSw; (try dsimp only at hSw); go_simp; first | done | with_reducible rfl) hS ?_
     (try simp only [Act.put, List.setIfInBounds_toArray, List.set_cons_zero, List.set_cons_succ])
     refine rt 2 (v := ?_) rfl (by intro w hSw; (try dsimp only at hSw); go_simp; first | done | with_reducible rfl) hS ?_
     (try simp only [Act.put, List.setIfInBounds_toArray, List.set_cons_zero, List.set_cons_succ])
     have hz0 : w1.drew.heap.size ≤ w1.heap.size ∧ w1.heap.size ≤ w1.drew.heap.size := ⟨Nat.le_refl _, Nat.le_refl _⟩
     generalize w1.drew = U0 at hS hz0 ⊢
     refine reg_three 1 9 10 rfl rfl rfl (by kernel_rfl) (by rfl) (by rfl) (by rfl) (fun K hK => ?_) (fun K hK => ?_) (fun K hK => ?_)
     · as_aux_lemma =>
       go_simp
       go_at_call 25
       refine (args_eqL (CT.out _ hS) (by with_reducible rfl)).mono ?_
       rintro e y1 ⟨v, rfl, RR, hb⟩
       obtain ⟨aT, cT, rfl⟩ := RR.form
       have RT0 := Lib.hid RR
       clear RR
       have hzy1 := hb.size
       refine hK.out _ _ (KP1.out _ _ hb hS) (fun hS' => ?_)
       clear hK K hS; have hS := hS'; clear hS'
       (try simp only [Act.put, List.setIfInBounds_toArray, List.set_cons_zero, List.set_cons_succ])
       clear hb
       refine reg_three 3 9 10 rfl rfl rfl (by kernel_rfl) (by rfl) (by rfl) (by rfl) (fun K hK => ?_) (fun K hK => ?_) (fun K hK => ?_)
       · as_aux_lemma =>
         go_simp
         go_at_call 26
         refine (args_eqL (ToCut_any up z _) (by with_reducible rfl)).mono ?_
         rintro e y2 ⟨rfl, hb⟩
         have hzy2 := hb.size
         have RT0 := Lib.hid (RT0.out.below (hb.mono (by omega)))
         refine hK.out _ _ (KP1.out _ _ hb hS) (fun hS' => ?_)
         clear hK K hS; have hS := hS'; clear hS'
         (try simp only [Act.put, List.setIfInBounds_toArray, List.set_cons_zero, List.set_cons_succ])
         clear hb
         refine reg_three 4 9 10 rfl rfl rfl (by kernel_rfl) (by rfl) (by rfl) (by rfl) (fun K hK => ?_) (fun K hK => ?_) (fun K hK => ?_)
         go_simp
         go_at_call 32
         refine (args_eqL (CSH.out _ _ _ _ RT0.out (by omega)) (by with_reducible rfl)).mono ?_
         rintro e y3 ⟨vA, vB, rfl, RA, RB, hb⟩
         have RA0 := Lib.hid RA
         have RB0 := Lib.hid RB
         obtain ⟨aA, cA, rfl⟩ := RA.form
         obtain ⟨aB, cB, rfl⟩ := RB.form
         clear RA RB
         have hzy3 := hb.size
         refine hK.out _ _ (KP1.out _ _ hb hS) (fun hS' => ?_)
         clear hK K hS; have hS := hS'; clear hS'
         (try simp only [Act.put, List.setIfInBounds_toArray, List.set_cons_zero, List.set_cons_succ])
         clear hb
         refine rt 5 (v := ?_) rfl (by intro w _; go_simp; first | done | with_reducible rfl) hS ?_
         (try simp only [Act.put, List.setIfInBounds_toArray, List.set_cons_zero, List.set_cons_succ])
         refine rt 6 (v := ?_) rfl (by intro w _; go_simp; first | done | with_reducible rfl) hS ?_
         (try simp only [Act.put, List.setIfInBounds_toArray, List.set_cons_zero, List.set_cons_succ])
         refine rt 7 (v := ?_) rfl (by intro w _; go_simp; first | done | with_reducible rfl) hS ?_
         (try simp only [Act.put, List.setIfInBounds_toArray, List.set_cons_zero, List.set_cons_succ])
         refine rt 8 (v := ?_) rfl (by intro w _; go_simp; first | done | with_reducible rfl) hS ?_
         (try simp only [Act.put, List.setIfInBounds_toArray, List.set_cons_zero, List.set_cons_succ])
         refine reg_two 9 10 rfl rfl (by kernel_rfl) (by rfl) (by rfl) (fun K hK => ?_) (fun K hK => ?_)
         go_simp
         refine hK.out _ _ (KP1.out _ _ (bel0 _ _) hS) (fun hS' => ?_)
         clear hK K hS; have hS := hS'; clear hS'
         (try simp only [Act.put, List.setIfInBounds_toArray, List.set_cons_zero, List.set_cons_succ])
         obtain ⟨V4, hV, hbe, hx, hzV4⟩ := zstep y3
         have HX9 := Lib.hid hx
         have RA0 := Lib.hid (RA0.out.below (hbe.mono (by omega)))
         have RB0 := Lib.hid (RB0.out.below (hbe.mono (by omega)))
         rw [← hV] at hS ⊢
         clear hV hbe hx
         refine reg_call 10 rfl (by kernel_rfl) (by rfl) (fun K hK => ?_)
         go_simp
         refine hK.out _ _ (KP1.out _ _ (bel0 _ _) hS) (fun hS' => ?_)
         clear hK K hS; have hS := hS'; clear hS'
         (try simp only [Act.put, List.setIfInBounds_toArray, List.set_cons_zero, List.set_cons_succ])
         obtain ⟨V5, hV, hbe, hx, hzV5⟩ := zstep V4
         have HX10 := Lib.hid hx
         have HX9 := Lib.hid (HX9.out.below hbe (by omega))
         have RA0 := Lib.hid (RA0.out.below (hbe.mono (by omega)))
         have RB0 := Lib.hid (RB0.out.below (hbe.mono (by omega)))
         rw [← hV] at hS ⊢
         clear hV hbe hx
         clear KP1
         refine reg_call 11 rfl (by kernel_rfl) (by rfl) (fun K hK => ?_)
         have ec0 := HX9.out.1
         have ec1 := HX9.out.2.1
         have ec2 := HX9.out.2.2.1
         have ec3 := HX9.out.2.2.2.1
         have ec4 := HX9.out.2.2.2.2.1
         have ec5 := HX9.out.2.2.2.2.2
         go_simp
         refine hK.out _ _ (KS1.out _ y3.heap.size (.int .i64 M1) (.int .i64 N1) (.slice aA L1.length cA) (by omega) hS) (fun hS' => ?_)
         clear hK K hS ec0 ec1 ec2 ec3 ec4 ec5; have hS := hS'; clear hS'
         (try simp only [Act.put, List.setIfInBounds_toArray, List.set_cons_zero, List.set_cons_succ])
         have HY := Lib.hid (HX10.out.far3e (show y3.heap.size ≠ V4.heap.size by omega) (.int .i64 M1) (.int .i64 N1) (.slice aA L1.length cA))
         refine reg_call 12 rfl (by kernel_rfl) (by rfl) (fun K hK => ?_)
         have ec0 := HY.out.1
         have ec1 := HY.out.2.1
         have ec2 := HY.out.2.2.1
         have ec3 := HY.out.2.2.2.1
         have ec4 := HY.out.2.2.2.2.1
         have ec5 := HY.out.2.2.2.2.2
         go_simp
         refine hK.out _ _ (KS1.out _ V4.heap.size (.int .i64 M2) (.int .i64 N2) (.slice aB L2.length cB) (by omega) hS) (fun hS' => ?_)
         clear hK K hS ec0 ec1 ec2 ec3 ec4 ec5; have hS := hS'; clear hS'
         (try simp only [Act.put, List.setIfInBounds_toArray, List.set_cons_zero, List.set_cons_succ])
         refine rt 13 (v := ?_) rfl (by intro w _; go_simp; first | done | with_reducible rfl) hS ?_
         (try simp only [Act.put, List.setIfInBounds_toArray, List.set_cons_zero, List.set_cons_succ])
         refine wpAnyH_done (by kernel_rfl) ?_ _
         have HBW := Lib.hid hS.2.2.2.2.2
         clear hS
         go_wp2_with fail
         go_meet
         exact wws_end HX9.out HX10.out (show y3.heap.size ≠ V4.heap.size by omega) (RA0.out.wide (lo' := y2.heap.size) (hi' := y3.heap.size) (by omega) (by omega)) (RB0.out.wide (by omega) (by omega)) (by omega) (by omega) (by omega) (by omega) (by omega) (by omega) HBW.out
         go_simp
         refine hK.out _ _ (KP1.out _ _ (bel0 _ _) hS) (fun hS' => ?_)
         clear hK K hS; have hS := hS'; clear hS'
         (try simp only [Act.put, List.setIfInBounds_toArray, List.set_cons_zero, List.set_cons_succ])
         obtain ⟨V4, hV, hbe, hx, hzV4⟩ := zstep y3
         have HX10 := Lib.hid hx
         have RA0 := Lib.hid (RA0.out.below (hbe.mono (by omega)))
         have RB0 := Lib.hid (RB0.out.below (hbe.mono (by omega)))
         rw [← hV] at hS ⊢
         clear hV hbe hx
         refine reg_call 9 rfl (by kernel_rfl) (by rfl) (fun K hK => ?_)
         go_simp
         refine hK.out _ _ (KP1.out _ _ (bel0 _ _) hS) (fun hS' => ?_)
         clear hK K hS; have hS := hS'; clear hS'
         (try simp only [Act.put, List.setIfInBounds_toArray, List.set_cons_zero, List.set_cons_succ])
         obtain ⟨V5, hV, hbe, hx, hzV5⟩ := zstep V4
         have HX9 := Lib.hid hx
         have HX10 := Lib.hid (HX10.out.below hbe (by omega))
         have RA0 := Lib.hid (RA0.out.below (hbe.mono (by omega)))
         have RB0 := Lib.hid (RB0.out.below (hbe.mono (by omega)))
         rw [← hV] at hS ⊢
         clear hV hbe hx
         clear KP1
         refine reg_call 11 rfl (by kernel_rfl) (by rfl) (fun K hK => ?_)
         have ec0 := HX9.out.1
         have ec1 := HX9.out.2.1
         have ec2 := HX9.out.2.2.1
         have ec3 := HX9.out.2.2.2.1
         have ec4 := HX9.out.2.2.2.2.1
         have ec5 := HX9.out.2.2.2.2.2
         go_simp
         refine hK.out _ _ (KS1.out _ V4.heap.size (.int .i64 M1) (.int .i64 N1) (.slice aA L1.length cA) (by omega) hS) (fun hS' => ?_)
         clear hK K hS ec0 ec1 ec2 ec3 ec4 ec5; have hS := hS'; clear hS'
         (try simp only [Act.put, List.setIfInBounds_toArray, List.set_cons_zero, List.set_cons_succ])
         have HY := Lib.hid (HX10.out.far3e (show V4.heap.size ≠ y3.heap.size by omega) (.int .i64 M1) (.int .i64 N1) (.slice aA L1.length cA))
         refine reg_call 12 rfl (by kernel_rfl) (by rfl) (fun K hK => ?_)
         have ec0 := HY.out.1
         have ec1 := HY.out.2.1
         have ec2 := HY.out.2.2.1
         have ec3 := HY.out.2.2.2.1
         have ec4 := HY.out.2.2.2.2.1
         have ec5 := HY.out.2.2.2.2.2
         go_simp
         refine hK.out _ _ (KS1.out _ y3.heap.size (.int .i64 M2) (.int .i64 N2) (.slice aB L2.length cB) (by omega) hS) (fun hS' => ?_)
         clear hK K hS ec0 ec1 ec2 ec3 ec4 ec5; have hS := hS'; clear hS'
         (try simp only [Act.put, List.setIfInBounds_toArray, List.set_cons_zero, List.set_cons_succ])
         refine rt 13 (v := ?_) rfl (by intro w _; go_simp; first | done | with_reducible rfl) hS ?_
         (try simp only [Act.put, List.setIfInBounds_toArray, List.set_cons_zero, List.set_cons_succ])
         refine wpAnyH_done (by kernel_rfl) ?_ _
         have HBW := Lib.hid hS.2.2.2.2.2
         clear hS
         go_wp2_with fail
         go_meet
         exact wws_end HX9.out HX10.out (show V4.heap.size ≠ y3.heap.size by omega) (RA0.out.wide (lo' := y2.heap.size) (hi' := y3.heap.size) (by omega) (by omega)) (RB0.out.wide (by omega) (by omega)) (by omega) (by omega) (by omega) (by omega) (by omega) (by omega) HBW.out
         go_simp
         refine hK.out _ _ (KP1.out _ _ (bel0 _ _) hS) (fun hS' => ?_)
         clear hK K hS; have hS := hS'; clear hS'
         (try simp only [Act.put, List.setIfInBounds_toArray, List.set_cons_zero, List.set_cons_succ])
         obtain ⟨V3, hV, hbe, hx, hzV3⟩ := zstep y2
         have HX9 := Lib.hid hx
         have RT0 := Lib.hid (RT0.out.below (hbe.mono (by omega)))
         rw [← hV] at hS ⊢
         clear hV hbe hx
         refine reg_two 4 10 rfl rfl (by kernel_rfl) (by rfl) (by rfl) (fun K hK => ?_) (fun K hK => ?_)
         go_simp
         go_at_call 32
         refine (args_eqL (CSH.out _ _ _ _ RT0.out (by omega)) (by with_reducible rfl)).mono ?_
         rintro e y4 ⟨vA, vB, rfl, RA, RB, hb⟩
         have RA0 := Lib.hid RA
         have RB0 := Lib.hid RB
         obtain ⟨aA, cA, rfl⟩ := RA.form
         obtain ⟨aB, cB, rfl⟩ := RB.form
         clear RA RB
         have hzy4 := hb.size
         have HX9 := Lib.hid (HX9.out.below hb (by omega))
         refine hK.out _ _ (KP1.out _ _ hb hS) (fun hS' => ?_)
         clear hK K hS; have hS := hS'; clear hS'
         (try simp only [Act.put, List.setIfInBounds_toArray, List.set_cons_zero, List.set_cons_succ])
         clear hb
         refine rt 5 (v := ?_) rfl (by intro w _; go_simp; first | done | with_reducible rfl) hS ?_
         (try simp only [Act.put, List.setIfInBounds_toArray, List.set_cons_zero, List.set_cons_succ])
         refine rt 6 (v := ?_) rfl (by intro w _; go_simp; first | done | with_reducible rfl) hS ?_
         (try simp only [Act.put, List.setIfInBounds_toArray, List.set_cons_zero, List.set_cons_succ])
         refine rt 7 (v := ?_) rfl (by intro w _; go_simp; first | done | with_reducible rfl) hS ?_
         (try simp only [Act.put, List.setIfInBounds_toArray, List.set_cons_zero, List.set_cons_succ])
         refine rt 8 (v := ?_) rfl (by intro w _; go_simp; first | done | with_reducible rfl) hS ?_
         (try simp only [Act.put, List.setIfInBounds_toArray, List.set_cons_zero, List.set_cons_succ])
         refine reg_call 10 rfl (by kernel_rfl) (by rfl) (fun K hK => ?_)
         go_simp
         refine hK.out _ _ (KP1.out _ _ (bel0 _ _) hS) (fun hS' => ?_)
         clear hK K hS; have hS := hS'; clear hS'
         (try simp only [Act.put, List.setIfInBounds_toArray, List.set_cons_zero, List.set_cons_succ])
         obtain ⟨V5, hV, hbe, hx, hzV5⟩ := zstep y4
         have HX10 := Lib.hid hx
         have HX9 := Lib.hid (HX9.out.below hbe (by omega))
         have RA0 := Lib.hid (RA0.out.below (hbe.mono (by omega)))
         have RB0 := Lib.hid (RB0.out.below (hbe.mono (by omega)))
         rw [← hV] at hS ⊢
         clear hV hbe hx
         clear KP1
         refine reg_call 11 rfl (by kernel_rfl) (by rfl) (fun K hK => ?_)
         have ec0 := HX9.out.1
         have ec1 := HX9.out.2.1
         have ec2 := HX9.out.2.2.1
         have ec3 := HX9.out.2.2.2.1
         have ec4 := HX9.out.2.2.2.2.1
         have ec5 := HX9.out.2.2.2.2.2
         go_simp
         refine hK.out _ _ (KS1.out _ y2.heap.size (.int .i64 M1) (.int .i64 N1) (.slice aA L1.length cA) (by omega) hS) (fun hS' => ?_)
         clear hK K hS ec0 ec1 ec2 ec3 ec4 ec5; have hS := hS'; clear hS'
         (try simp only [Act.put, List.setIfInBounds_toArray, List.set_cons_zero, List.set_cons_succ])
         have HY := Lib.hid (HX10.out.far3e (show y2.heap.size ≠ y4.heap.size by omega) (.int .i64 M1) (.int .i64 N1) (.slice aA L1.length cA))
         refine reg_call 12 rfl (by kernel_rfl) (by rfl) (fun K hK => ?_)
         have ec0 := HY.out.1
         have ec1 := HY.out.2.1
         have ec2 := HY.out.2.2.1
         have ec3 := HY.out.2.2.2.1
         have ec4 := HY.out.2.2.2.2.1
         have ec5 := HY.out.2.2.2.2.2
         go_simp
         refine hK.out _ _ (KS1.out _ y4.heap.size (.int .i64 M2) (.int .i64 N2) (.slice aB L2.length cB) (by omega) hS) (fun hS' => ?_)
         clear hK K hS ec0 ec1 ec2 ec3 ec4 ec5; have hS := hS'; clear hS'
         (try simp only [Act.put, List.setIfInBounds_toArray, List.set_cons_zero, List.set_cons_succ])
         refine rt 13 (v := ?_) rfl (by intro w _; go_simp; first | done | with_reducible rfl) hS ?_
         (try simp only [Act.put, List.setIfInBounds_toArray, List.set_cons_zero, List.set_cons_succ])
         refine wpAnyH_done (by kernel_rfl) ?_ _
         have HBW := Lib.hid hS.2.2.2.2.2
         clear hS
         go_wp2_with fail
         go_meet
         exact wws_end HX9.out HX10.out (show y2.heap.size ≠ y4.heap.size by omega) (RA0.out.wide (lo' := V3.heap.size) (hi' := y4.heap.size) (by omega) (by omega)) (RB0.out.wide (by omega) (by omega)) (by omega) (by omega) (by omega) (by omega) (by omega) (by omega) HBW.out
         go_simp
         refine hK.out _ _ (KP1.out _ _ (bel0 _ _) hS) (fun hS' => ?_)
         clear hK K hS; have hS := hS'; clear hS'
         (try simp only [Act.put, List.setIfInBounds_toArray, List.set_cons_zero, List.set_cons_succ])
         obtain ⟨V4, hV, hbe, hx, hzV4⟩ := zstep V3
         have HX10 := Lib.hid hx
         have HX9 := Lib.hid (HX9.out.below hbe (by omega))
         have RT0 := Lib.hid (RT0.out.below (hbe.mono (by omega)))
         rw [← hV] at hS ⊢
         clear hV hbe hx
         refine reg_call 4 rfl (by kernel_rfl) (by rfl) (fun K hK => ?_)
         go_simp
         go_at_call 32
         refine (args_eqL (CSH.out _ _ _ _ RT0.out (by omega)) (by with_reducible rfl)).mono ?_
         rintro e y5 ⟨vA, vB, rfl, RA, RB, hb⟩
         have RA0 := Lib.hid RA
         have RB0 := Lib.hid RB
         obtain ⟨aA, cA, rfl⟩ := RA.form
         obtain ⟨aB, cB, rfl⟩ := RB.form
         clear RA RB
         have hzy5 := hb.size
         have HX9 := Lib.hid (HX9.out.below hb (by omega))
         have HX10 := Lib.hid (HX10.out.below hb (by omega))
         refine hK.out _ _ (KP1.out _ _ hb hS) (fun hS' => ?_)
         clear hK K hS; have hS := hS'; clear hS'
         (try simp only [Act.put, List.setIfInBounds_toArray, List.set_cons_zero, List.set_cons_succ])
         clear hb
         refine rt 5 (v := ?_) rfl (by intro w _; go_simp; first | done | with_reducible rfl) hS ?_
         (try simp only [Act.put, List.setIfInBounds_toArray, List.set_cons_zero, List.set_cons_succ])
         refine rt 6 (v := ?_) rfl (by intro w _; go_simp; first | done | with_reducible rfl) hS ?_
         (try simp only [Act.put, List.setIfInBounds_toArray, List.set_cons_zero, List.set_cons_succ])
         refine rt 7 (v := ?_) rfl (by intro w _; go_simp; first | done | with_reducible rfl) hS ?_
         (try simp only [Act.put, List.setIfInBounds_toArray, List.set_cons_zero, List.set_cons_succ])
         refine rt 8 (v := ?_) rfl (by intro w _; go_simp; first | done | with_reducible rfl) hS ?_
         (try simp only [Act.put, List.setIfInBounds_toArray, List.set_cons_zero, List.set_cons_succ])
         clear KP1
         refine reg_call 11 rfl (by kernel_rfl) (by rfl) (fun K hK => ?_)
         have ec0 := HX9.out.1
         have ec1 := HX9.out.2.1
         have ec2 := HX9.out.2.2.1
         have ec3 := HX9.out.2.2.2.1
         have ec4 := HX9.out.2.2.2.2.1
         have ec5 := HX9.out.2.2.2.2.2
         go_simp
         refine hK.out _ _ (KS1.out _ y2.heap.size (.int .i64 M1) (.int .i64 N1) (.slice aA L1.length cA) (by omega) hS) (fun hS' => ?_)
         clear hK K hS ec0 ec1 ec2 ec3 ec4 ec5; have hS := hS'; clear hS'
         (try simp only [Act.put, List.setIfInBounds_toArray, List.set_cons_zero, List.set_cons_succ])
         have HY := Lib.hid (HX10.out.far3e (show y2.heap.size ≠ V3.heap.size by omega) (.int .i64 M1) (.int .i64 N1) (.slice aA L1.length cA))
         refine reg_call 12 rfl (by kernel_rfl) (by rfl) (fun K hK => ?_)
         have ec0 := HY.out.1
         have ec1 := HY.out.2.1
         have ec2 := HY.out.2.2.1
         have ec3 := HY.out.2.2.2.1
         have ec4 := HY.out.2.2.2.2.1
         have ec5 := HY.out.2.2.2.2.2
         go_simp
         refine hK.out _ _ (KS1.out _ V3.heap.size (.int .i64 M2) (.int .i64 N2) (.slice aB L2.length cB) (by omega) hS) (fun hS' => ?_)
         clear hK K hS ec0 ec1 ec2 ec3 ec4 ec5; have hS := hS'; clear hS'
         (try simp only [Act.put, List.setIfInBounds_toArray, List.set_cons_zero, List.set_cons_succ])
         refine rt 13 (v := ?_) rfl (by intro w _; go_simp; first | done | with_reducible rfl) hS ?_
         (try simp only [Act.put, List.setIfInBounds_toArray, List.set_cons_zero, List.set_cons_succ])
         refine wpAnyH_done (by kernel_rfl) ?_ _
         have HBW := Lib.hid hS.2.2.2.2.2
         clear hS
         go_wp2_with fail
         go_meet
         exact wws_end HX9.out HX10.out (show y2.heap.size ≠ V3.heap.size by omega) (RA0.out.wide (lo' := V4.heap.size) (hi' := y5.heap.size) (by omega) (by omega)) (RB0.out.wide (by omega) (by omega)) (by omega) (by omega) (by omega) (by omega) (by omega) (by omega) HBW.out
         go_simp
         refine hK.out _ _ (KP1.out _ _ (bel0 _ _) hS) (fun hS' => ?_)
         clear hK K hS; have hS := hS'; clear hS'
         (try simp only [Act.put, List.setIfInBounds_toArray, List.set_cons_zero, List.set_cons_succ])
         obtain ⟨V3, hV, hbe, hx, hzV3⟩ := zstep y2
         have HX10 := Lib.hid hx
         have RT0 := Lib.hid (RT0.out.below (hbe.mono (by omega)))
         rw [← hV] at hS ⊢
         clear hV hbe hx
         refine reg_two 4 9 rfl rfl (by kernel_rfl) (by rfl) (by rfl) (fun K hK => ?_) (fun K hK => ?_)
         go_simp
         go_at_call 32
         refine (args_eqL (CSH.out _ _ _ _ RT0.out (by omega)) (by with_reducible rfl)).mono ?_
         rintro e y4 ⟨vA, vB, rfl, RA, RB, hb⟩
         have RA0 := Lib.hid RA
         have RB0 := Lib.hid RB
         obtain ⟨aA, cA, rfl⟩ := RA.form
         obtain ⟨aB, cB, rfl⟩ := RB.form
         clear RA RB
         have hzy4 := hb.size
         have HX10 := Lib.hid (HX10.out.below hb (by omega))
         refine hK.out _ _ (KP1.out _ _ hb hS) (fun hS' => ?_)
         clear hK K hS; have hS := hS'; clear hS'
         (try simp only [Act.put, List.setIfInBounds_toArray, List.set_cons_zero, List.set_cons_succ])
         clear hb
         refine rt 5 (v := ?_) rfl (by intro w _; go_simp; first | done | with_reducible rfl) hS ?_
         (try simp only [Act.put, List.setIfInBounds_toArray, List.set_cons_zero, List.set_cons_succ])
         refine rt 6 (v := ?_) rfl (by intro w _; go_simp; first | done | with_reducible rfl) hS ?_
         (try simp only [Act.put, List.setIfInBounds_toArray, List.set_cons_zero, List.set_cons_succ])
         refine rt 7 (v := ?_) rfl (by intro w _; go_simp; first | done | with_reducible rfl) hS ?_
         (try simp only [Act.put, List.setIfInBounds_toArray, List.set_cons_zero, List.set_cons_succ])
         refine rt 8 (v := ?_) rfl (by intro w _; go_simp; first | done | with_reducible rfl) hS ?_
         (try simp only [Act.put, List.setIfInBounds_toArray, List.set_cons_zero, List.set_cons_succ])
         refine reg_call 9 rfl (by kernel_rfl) (by rfl) (fun K hK => ?_)
         go_simp
         refine hK.out _ _ (KP1.out _ _ (bel0 _ _) hS) (fun hS' => ?_)
         clear hK K hS; have hS := hS'; clear hS'
         (try simp only [Act.put, List.setIfInBounds_toArray, List.set_cons_zero, List.set_cons_succ])
         obtain ⟨V5, hV, hbe, hx, hzV5⟩ := zstep y4
         have HX9 := Lib.hid hx
         have HX10 := Lib.hid (HX10.out.below hbe (by omega))
         have RA0 := Lib.hid (RA0.out.below (hbe.mono (by omega)))
         have RB0 := Lib.hid (RB0.out.below (hbe.mono (by omega)))
         rw [← hV] at hS ⊢
         clear hV hbe hx
         clear KP1
         refine reg_call 11 rfl (by kernel_rfl) (by rfl) (fun K hK => ?_)
         have ec0 := HX9.out.1
         have ec1 := HX9.out.2.1
         have ec2 := HX9.out.2.2.1
         have ec3 := HX9.out.2.2.2.1
         have ec4 := HX9.out.2.2.2.2.1
         have ec5 := HX9.out.2.2.2.2.2
         go_simp
         refine hK.out _ _ (KS1.out _ y4.heap.size (.int .i64 M1) (.int .i64 N1) (.slice aA L1.length cA) (by omega) hS) (fun hS' => ?_)
         clear hK K hS ec0 ec1 ec2 ec3 ec4 ec5; have hS := hS'; clear hS'
         (try simp only [Act.put, List.setIfInBounds_toArray, List.set_cons_zero, List.set_cons_succ])
         have HY := Lib.hid (HX10.out.far3e (show y4.heap.size ≠ y2.heap.size by omega) (.int .i64 M1) (.int .i64 N1) (.slice aA L1.length cA))
         refine reg_call 12 rfl (by kernel_rfl) (by rfl) (fun K hK => ?_)
         have ec0 := HY.out.1
         have ec1 := HY.out.2.1
         have ec2 := HY.out.2.2.1
         have ec3 := HY.out.2.2.2.1
         have ec4 := HY.out.2.2.2.2.1
         have ec5 := HY.out.2.2.2.2.2
         go_simp
         refine hK.out _ _ (KS1.out _ y2.heap.size (.int .i64 M2) (.int .i64 N2) (.slice aB L2.length cB) (by omega) hS) (fun hS' => ?_)
         clear hK K hS ec0 ec1 ec2 ec3 ec4 ec5; have hS := hS'; clear hS'
         (try simp only [Act.put, List.setIfInBounds_toArray, List.set_cons_zero, List.set_cons_succ])
         refine rt 13 (v := ?_) rfl (by intro w _; go_simp; first | done | with_reducible rfl) hS ?_
         (try simp only [Act.put, List.setIfInBounds_toArray, List.set_cons_zero, List.set_cons_succ])
         refine wpAnyH_done (by kernel_rfl) ?_ _
         have HBW := Lib.hid hS.2.2.2.2.2
         clear hS
         go_wp2_with fail
         go_meet
         exact wws_end HX9.out HX10.out (show y4.heap.size ≠ y2.heap.size by omega) (RA0.out.wide (lo' := V3.heap.size) (hi' := y4.heap.size) (by omega) (by omega)) (RB0.out.wide (by omega) (by omega)) (by omega) (by omega) (by omega) (by omega) (by omega) (by omega) HBW.out
         go_simp
         refine hK.out _ _ (KP1.out _ _ (bel0 _ _) hS) (fun hS' => ?_)
         clear hK K hS; have hS := hS'; clear hS'
         (try simp only [Act.put, List.setIfInBounds_toArray, List.set_cons_zero, List.set_cons_succ])
         obtain ⟨V4, hV, hbe, hx, hzV4⟩ := zstep V3
         have HX9 := Lib.hid hx
         have HX10 := Lib.hid (HX10.out.below hbe (by omega))
         have RT0 := Lib.hid (RT0.out.below (hbe.mono (by omega)))
         rw [← hV] at hS ⊢
         clear hV hbe hx
         refine reg_call 4 rfl (by kernel_rfl) (by rfl) (fun K hK => ?_)
         go_simp
         go_at_call 32
         refine (args_eqL (CSH.out _ _ _ _ RT0.out (by omega)) (by with_reducible rfl)).mono ?_
         rintro e y5 ⟨vA, vB, rfl, RA, RB, hb⟩
         have RA0 := Lib.hid RA
         have RB0 := Lib.hid RB
         obtain ⟨aA, cA, rfl⟩ := RA.form
         obtain ⟨aB, cB, rfl⟩ := RB.form
         clear RA RB
         have hzy5 := hb.size
         have HX10 := Lib.hid (HX10.out.below hb (by omega))
         have HX9 := Lib.hid (HX9.out.below hb (by omega))
         refine hK.out _ _ (KP1.out _ _ hb hS) (fun hS' => ?_)
         clear hK K hS; have hS := hS'; clear hS'
         (try simp only [Act.put, List.setIfInBounds_toArray, List.set_cons_zero, List.set_cons_succ])
         clear hb
         refine rt 5 (v := ?_) rfl (by intro w _; go_simp; first | done | with_reducible rfl) hS ?_
         (try simp only [Act.put, List.setIfInBounds_toArray, List.set_cons_zero, List.set_cons_succ])
         refine rt 6 (v := ?_) rfl (by intro w _; go_simp; first | done | with_reducible rfl) hS ?_
         (try simp only [Act.put, List.setIfInBounds_toArray, List.set_cons_zero, List.set_cons_succ])
         refine rt 7 (v := ?_) rfl (by intro w _; go_simp; first | done | with_reducible rfl) hS ?_
         (try simp only [Act.put, List.setIfInBounds_toArray, List.set_cons_zero, List.set_cons_succ])
         refine rt 8 (v := ?_) rfl (by intro w _; go_simp; first | done | with_reducible rfl) hS ?_
         (try simp only [Act.put, List.setIfInBounds_toArray, List.set_cons_zero, List.set_cons_succ])
         clear KP1
         refine reg_call 11 rfl (by kernel_rfl) (by rfl) (fun K hK => ?_)
         have ec0 := HX9.out.1
         have ec1 := HX9.out.2.1
         have ec2 := HX9.out.2.2.1
         have ec3 := HX9.out.2.2.2.1
         have ec4 := HX9.out.2.2.2.2.1
         have ec5 := HX9.out.2.2.2.2.2
         go_simp
         refine hK.out _ _ (KS1.out _ V3.heap.size (.int .i64 M1) (.int .i64 N1) (.slice aA L1.length cA) (by omega) hS) (fun hS' => ?_)
         clear hK K hS ec0 ec1 ec2 ec3 ec4 ec5; have hS := hS'; clear hS'
         (try simp only [Act.put, List.setIfInBounds_toArray, List.set_cons_zero, List.set_cons_succ])
         have HY := Lib.hid (HX10.out.far3e (show V3.heap.size ≠ y2.heap.size by omega) (.int .i64 M1) (.int .i64 N1) (.slice aA L1.length cA))
         refine reg_call 12 rfl (by kernel_rfl) (by rfl) (fun K hK => ?_)
         have ec0 := HY.out.1
         have ec1 := HY.out.2.1
         have ec2 := HY.out.2.2.1
         have ec3 := HY.out.2.2.2.1
         have ec4 := HY.out.2.2.2.2.1
         have ec5 := HY.out.2.2.2.2.2
         go_simp
         refine hK.out _ _ (KS1.out _ y2.heap.size (.int .i64 M2) (.int .i64 N2) (.slice aB L2.length cB) (by omega) hS) (fun hS' => ?_)
         clear hK K hS ec0 ec1 ec2 ec3 ec4 ec5; have hS := hS'; clear hS'
         (try simp only [Act.put, List.setIfInBounds_toArray, List.set_cons_zero, List.set_cons_succ])
         refine rt 13 (v := ?_) rfl (by intro w _; go_simp; first | done | with_reducible rfl) hS ?_
         (try simp only [Act.put, List.setIfInBounds_toArray, List.set_cons_zero, List.set_cons_succ])
         refine wpAnyH_done (by kernel_rfl) ?_ _
         have HBW := Lib.hid hS.2.2.2.2.2
         clear hS
         go_wp2_with fail
         go_meet
         exact wws_end HX9.out HX10.out (show V3.heap.size ≠ y2.heap.size by omega) (RA0.out.wide (lo' := V4.heap.size) (hi' := y5.heap.size) (by omega) (by omega)) (RB0.out.wide (by omega) (by omega)) (by omega) (by omega) (by omega) (by omega) (by omega) (by omega) HBW.out
       · as_aux_lemma =>
         go_simp
         refine hK.out _ _ (KP1.out _ _ (bel0 _ _) hS) (fun hS' => ?_)
         clear hK K hS; have hS := hS'; clear hS'
         (try simp only [Act.put, List.setIfInBounds_toArray, List.set_cons_zero, List.set_cons_succ])
         obtain ⟨V2, hV, hbe, hx, hzV2⟩ := zstep y1
         have HX9 := Lib.hid hx
         have RT0 := Lib.hid (RT0.out.below (hbe.mono (by omega)))
         rw [← hV] at hS ⊢
         clear hV hbe hx
         refine reg_two 3 10 rfl rfl (by kernel_rfl) (by rfl) (by rfl) (fun K hK => ?_) (fun K hK => ?_)
         go_simp
         go_at_call 26
         refine (args_eqL (ToCut_any up z _) (by with_reducible rfl)).mono ?_
         rintro e y3 ⟨rfl, hb⟩
         have hzy3 := hb.size
         have HX9 := Lib.hid (HX9.out.below hb (by omega))
         have RT0 := Lib.hid (RT0.out.below (hb.mono (by omega)))
         refine hK.out _ _ (KP1.out _ _ hb hS) (fun hS' => ?_)
         clear hK K hS; have hS := hS'; clear hS'
         (try simp only [Act.put, List.setIfInBounds_toArray, List.set_cons_zero, List.set_cons_succ])
         clear hb
         refine reg_two 4 10 rfl rfl (by kernel_rfl) (by rfl) (by rfl) (fun K hK => ?_) (fun K hK => ?_)
         go_simp
         go_at_call 32
         refine (args_eqL (CSH.out _ _ _ _ RT0.out (by omega)) (by with_reducible rfl)).mono ?_
         rintro e y4 ⟨vA, vB, rfl, RA, RB, hb⟩
         have RA0 := Lib.hid RA
         have RB0 := Lib.hid RB
         obtain ⟨aA, cA, rfl⟩ := RA.form
         obtain ⟨aB, cB, rfl⟩ := RB.form
         clear RA RB
         have hzy4 := hb.size
         have HX9 := Lib.hid (HX9.out.below hb (by omega))
         refine hK.out _ _ (KP1.out _ _ hb hS) (fun hS' => ?_)
         clear hK K hS; have hS := hS'; clear hS'
         (try simp only [Act.put, List.setIfInBounds_toArray, List.set_cons_zero, List.set_cons_succ])
         clear hb
         refine rt 5 (v := ?_) rfl (by intro w _; go_simp; first | done | with_reducible rfl) hS ?_
         (try simp only [Act.put, List.setIfInBounds_toArray, List.set_cons_zero, List.set_cons_succ])
         refine rt 6 (v := ?_) rfl (by intro w _; go_simp; first | done | with_reducible rfl) hS ?_
         (try simp only [Act.put, List.setIfInBounds_toArray, List.set_cons_zero, List.set_cons_succ])
         refine rt 7 (v := ?_) rfl (by intro w _; go_simp; first | done | with_reducible rfl) hS ?_
         (try simp only [Act.put, List.setIfInBounds_toArray, List.set_cons_zero, List.set_cons_succ])
         refine rt 8 (v := ?_) rfl (by intro w _; go_simp; first | done | with_reducible rfl) hS ?_
         (try simp only [Act.put, List.setIfInBounds_toArray, List.set_cons_zero, List.set_cons_succ])
         refine reg_call 10 rfl (by kernel_rfl) (by rfl) (fun K hK => ?_)
         go_simp
         refine hK.out _ _ (KP1.out _ _ (bel0 _ _) hS) (fun hS' => ?_)
         clear hK K hS; have hS := hS'; clear hS'
         (try simp only [Act.put, List.setIfInBounds_toArray, List.set_cons_zero, List.set_cons_succ])
         obtain ⟨V5, hV, hbe, hx, hzV5⟩ := zstep y4
         have HX10 := Lib.hid hx
         have HX9 := Lib.hid (HX9.out.below hbe (by omega))
         have RA0 := Lib.hid (RA0.out.below (hbe.mono (by omega)))
         have RB0 := Lib.hid (RB0.out.below (hbe.mono (by omega)))
         rw [← hV] at hS ⊢
         clear hV hbe hx
         clear KP1
         refine reg_call 11 rfl (by kernel_rfl) (by rfl) (fun K hK => ?_)
         have ec0 := HX9.out.1
         have ec1 := HX9.out.2.1
         have ec2 := HX9.out.2.2.1
         have ec3 := HX9.out.2.2.2.1
         have ec4 := HX9.out.2.2.2.2.1
         have ec5 := HX9.out.2.2.2.2.2
         go_simp
         refine hK.out _ _ (KS1.out _ y1.heap.size (.int .i64 M1) (.int .i64 N1) (.slice aA L1.length cA) (by omega) hS) (fun hS' => ?_)
         clear hK K hS ec0 ec1 ec2 ec3 ec4 ec5; have hS := hS'; clear hS'
         (try simp only [Act.put, List.setIfInBounds_toArray, List.set_cons_zero, List.set_cons_succ])
         have HY := Lib.hid (HX10.out.far3e (show y1.heap.size ≠ y4.heap.size by omega) (.int .i64 M1) (.int .i64 N1) (.slice aA L1.length cA))
         refine reg_call 12 rfl (by kernel_rfl) (by rfl) (fun K hK => ?_)
         have ec0 := HY.out.1
         have ec1 := HY.out.2.1
         have ec2 := HY.out.2.2.1
         have ec3 := HY.out.2.2.2.1
         have ec4 := HY.out.2.2.2.2.1
         have ec5 := HY.out.2.2.2.2.2
         go_simp
         refine hK.out _ _ (KS1.out _ y4.heap.size (.int .i64 M2) (.int .i64 N2) (.slice aB L2.length cB) (by omega) hS) (fun hS' => ?_)
         clear hK K hS ec0 ec1 ec2 ec3 ec4 ec5; have hS := hS'; clear hS'
         (try simp only [Act.put, List.setIfInBounds_toArray, List.set_cons_zero, List.set_cons_succ])
         refine rt 13 (v := ?_) rfl (by intro w _; go_simp; first | done | with_reducible rfl) hS ?_
         (try simp only [Act.put, List.setIfInBounds_toArray, List.set_cons_zero, List.set_cons_succ])
         refine wpAnyH_done (by kernel_rfl) ?_ _
         have HBW := Lib.hid hS.2.2.2.2.2
         clear hS
         go_wp2_with fail
         go_meet
         exact wws_end HX9.out HX10.out (show y1.heap.size ≠ y4.heap.size by omega) (RA0.out.wide (lo' := y3.heap.size) (hi' := y4.heap.size) (by omega) (by omega)) (RB0.out.wide (by omega) (by omega)) (by omega) (by omega) (by omega) (by omega) (by omega) (by omega) HBW.out
         go_simp
         refine hK.out _ _ (KP1.out _ _ (bel0 _ _) hS) (fun hS' => ?_)
         clear hK K hS; have hS := hS'; clear hS'
         (try simp only [Act.put, List.setIfInBounds_toArray, List.set_cons_zero, List.set_cons_succ])
         obtain ⟨V4, hV, hbe, hx, hzV4⟩ := zstep y3
         have HX10 := Lib.hid hx
         have HX9 := Lib.hid (HX9.out.below hbe (by omega))
         have RT0 := Lib.hid (RT0.out.below (hbe.mono (by omega)))
         rw [← hV] at hS ⊢
         clear hV hbe hx
         refine reg_call 4 rfl (by kernel_rfl) (by rfl) (fun K hK => ?_)
         go_simp
         go_at_call 32
         refine (args_eqL (CSH.out _ _ _ _ RT0.out (by omega)) (by with_reducible rfl)).mono ?_
         rintro e y5 ⟨vA, vB, rfl, RA, RB, hb⟩
         have RA0 := Lib.hid RA
         have RB0 := Lib.hid RB
         obtain ⟨aA, cA, rfl⟩ := RA.form
         obtain ⟨aB, cB, rfl⟩ := RB.form
         clear RA RB
         have hzy5 := hb.size
         have HX9 := Lib.hid (HX9.out.below hb (by omega))
         have HX10 := Lib.hid (HX10.out.below hb (by omega))
         refine hK.out _ _ (KP1.out _ _ hb hS) (fun hS' => ?_)
         clear hK K hS; have hS := hS'; clear hS'
         (try simp only [Act.put, List.setIfInBounds_toArray, List.set_cons_zero, List.set_cons_succ])
         clear hb
         refine rt 5 (v := ?_) rfl (by intro w _; go_simp; first | done | with_reducible rfl) hS ?_
         (try simp only [Act.put, List.setIfInBounds_toArray, List.set_cons_zero, List.set_cons_succ])
         refine rt 6 (v := ?_) rfl (by intro w _; go_simp; first | done | with_reducible rfl) hS ?_
         (try simp only [Act.put, List.setIfInBounds_toArray, List.set_cons_zero, List.set_cons_succ])
         refine rt 7 (v := ?_) rfl (by intro w _; go_simp; first | done | with_reducible rfl) hS ?_
         (try simp only [Act.put, List.setIfInBounds_toArray, List.set_cons_zero, List.set_cons_succ])
         refine rt 8 (v := ?_) rfl (by intro w _; go_simp; first | done | with_reducible rfl) hS ?_
         (try simp only [Act.put, List.setIfInBounds_toArray, List.set_cons_zero, List.set_cons_succ])
         clear KP1
         refine reg_call 11 rfl (by kernel_rfl) (by rfl) (fun K hK => ?_)
         have ec0 := HX9.out.1
         have ec1 := HX9.out.2.1
         have ec2 := HX9.out.2.2.1
         have ec3 := HX9.out.2.2.2.1
         have ec4 := HX9.out.2.2.2.2.1
         have ec5 := HX9.out.2.2.2.2.2
         go_simp
         refine hK.out _ _ (KS1.out _ y1.heap.size (.int .i64 M1) (.int .i64 N1) (.slice aA L1.length cA) (by omega) hS) (fun hS' => ?_)
         clear hK K hS ec0 ec1 ec2 ec3 ec4 ec5; have hS := hS'; clear hS'
         (try simp only [Act.put, List.setIfInBounds_toArray, List.set_cons_zero, List.set_cons_succ])
         have HY := Lib.hid (HX10.out.far3e (show y1.heap.size ≠ y3.heap.size by omega) (.int .i64 M1) (.int .i64 N1) (.slice aA L1.length cA))
         refine reg_call 12 rfl (by kernel_rfl) (by rfl) (fun K hK => ?_)
         have ec0 := HY.out.1
         have ec1 := HY.out.2.1
         have ec2 := HY.out.2.2.1
         have ec3 := HY.out.2.2.2.1
         have ec4 := HY.out.2.2.2.2.1
         have ec5 := HY.out.2.2.2.2.2
         go_simp
         refine hK.out _ _ (KS1.out _ y3.heap.size (.int .i64 M2) (.int .i64 N2) (.slice aB L2.length cB) (by omega) hS) (fun hS' => ?_)
         clear hK K hS ec0 ec1 ec2 ec3 ec4 ec5; have hS := hS'; clear hS'
         (try simp only [Act.put, List.setIfInBounds_toArray, List.set_cons_zero, List.set_cons_succ])
         refine rt 13 (v := ?_) rfl (by intro w _; go_simp; first | done | with_reducible rfl) hS ?_
         (try simp only [Act.put, List.setIfInBounds_toArray, List.set_cons_zero, List.set_cons_succ])
         refine wpAnyH_done (by kernel_rfl) ?_ _
         have HBW := Lib.hid hS.2.2.2.2.2
         clear hS
         go_wp2_with fail
         go_meet
         exact wws_end HX9.out HX10.out (show y1.heap.size ≠ y3.heap.size by omega) (RA0.out.wide (lo' := V4.heap.size) (hi' := y5.heap.size) (by omega) (by omega)) (RB0.out.wide (by omega) (by omega)) (by omega) (by omega) (by omega) (by omega) (by omega) (by omega) HBW.out
         go_simp
         refine hK.out _ _ (KP1.out _ _ (bel0 _ _) hS) (fun hS' => ?_)
         clear hK K hS; have hS := hS'; clear hS'
         (try simp only [Act.put, List.setIfInBounds_toArray, List.set_cons_zero, List.set_cons_succ])
         obtain ⟨V3, hV, hbe, hx, hzV3⟩ := zstep V2
         have HX10 := Lib.hid hx
         have HX9 := Lib.hid (HX9.out.below hbe (by omega))
         have RT0 := Lib.hid (RT0.out.below (hbe.mono (by omega)))
         rw [← hV] at hS ⊢
         clear hV hbe hx
         refine reg_call 3 rfl (by kernel_rfl) (by rfl) (fun K hK => ?_)
         go_simp
         go_at_call 26
         refine (args_eqL (ToCut_any up z _) (by with_reducible rfl)).mono ?_
         rintro e y4 ⟨rfl, hb⟩
         have hzy4 := hb.size
         have HX9 := Lib.hid (HX9.out.below hb (by omega))
         have HX10 := Lib.hid (HX10.out.below hb (by omega))
         have RT0 := Lib.hid (RT0.out.below (hb.mono (by omega)))
         refine hK.out _ _ (KP1.out _ _ hb hS) (fun hS' => ?_)
         clear hK K hS; have hS := hS'; clear hS'
         (try simp only [Act.put, List.setIfInBounds_toArray, List.set_cons_zero, List.set_cons_succ])
         clear hb
         refine reg_call 4 rfl (by kernel_rfl) (by rfl) (fun K hK => ?_)
         go_simp
         go_at_call 32
         refine (args_eqL (CSH.out _ _ _ _ RT0.out (by omega)) (by with_reducible rfl)).mono ?_
         rintro e y5 ⟨vA, vB, rfl, RA, RB, hb⟩
         have RA0 := Lib.hid RA
         have RB0 := Lib.hid RB
         obtain ⟨aA, cA, rfl⟩ := RA.form
         obtain ⟨aB, cB, rfl⟩ := RB.form
         clear RA RB
         have hzy5 := hb.size
         have HX9 := Lib.hid (HX9.out.below hb (by omega))
         have HX10 := Lib.hid (HX10.out.below hb (by omega))
         refine hK.out _ _ (KP1.out _ _ hb hS) (fun hS' => ?_)
         clear hK K hS; have hS := hS'; clear hS'
         (try simp only [Act.put, List.setIfInBounds_toArray, List.set_cons_zero, List.set_cons_succ])
         clear hb
         refine rt 5 (v := ?_) rfl (by intro w _; go_simp; first | done | with_reducible rfl) hS ?_
         (try simp only [Act.put, List.setIfInBounds_toArray, List.set_cons_zero, List.set_cons_succ])
         refine rt 6 (v := ?_) rfl (by intro w _; go_simp; first | done | with_reducible rfl) hS ?_
         (try simp only [Act.put, List.setIfInBounds_toArray, List.set_cons_zero, List.set_cons_succ])
         refine rt 7 (v := ?_) rfl (by intro w _; go_simp; first | done | with_reducible rfl) hS ?_
         (try simp only [Act.put, List.setIfInBounds_toArray, List.set_cons_zero, List.set_cons_succ])
         refine rt 8 (v := ?_) rfl (by intro w _; go_simp; first | done | with_reducible rfl) hS ?_
         (try simp only [Act.put, List.setIfInBounds_toArray, List.set_cons_zero, List.set_cons_succ])
         clear KP1
         refine reg_call 11 rfl (by kernel_rfl) (by rfl) (fun K hK => ?_)
         have ec0 := HX9.out.1
         have ec1 := HX9.out.2.1
         have ec2 := HX9.out.2.2.1
         have ec3 := HX9.out.2.2.2.1
         have ec4 := HX9.out.2.2.2.2.1
         have ec5 := HX9.out.2.2.2.2.2
         go_simp
         refine hK.out _ _ (KS1.out _ y1.heap.size (.int .i64 M1) (.int .i64 N1) (.slice aA L1.length cA) (by omega) hS) (fun hS' => ?_)
         clear hK K hS ec0 ec1 ec2 ec3 ec4 ec5; have hS := hS'; clear hS'
         (try simp only [Act.put, List.setIfInBounds_toArray, List.set_cons_zero, List.set_cons_succ])
         have HY := Lib.hid (HX10.out.far3e (show y1.heap.size ≠ V2.heap.size by omega) (.int .i64 M1) (.int .i64 N1) (.slice aA L1.length cA))
         refine reg_call 12 rfl (by kernel_rfl) (by rfl) (fun K hK => ?_)
         have ec0 := HY.out.1
         have ec1 := HY.out.2.1
         have ec2 := HY.out.2.2.1
         have ec3 := HY.out.2.2.2.1
         have ec4 := HY.out.2.2.2.2.1
         have ec5 := HY.out.2.2.2.2.2
         go_simp
         refine hK.out _ _ (KS1.out _ V2.heap.size (.int .i64 M2) (.int .i64 N2) (.slice aB L2.length cB) (by omega) hS) (fun hS' => ?_)
         clear hK K hS ec0 ec1 ec2 ec3 ec4 ec5; have hS := hS'; clear hS'
         (try simp only [Act.put, List.setIfInBounds_toArray, List.set_cons_zero, List.set_cons_succ])
         refine rt 13 (v := ?_) rfl (by intro w _; go_simp; first | done | with_reducible rfl) hS ?_
         (try simp only [Act.put, List.setIfInBounds_toArray, List.set_cons_zero, List.set_cons_succ])
         refine wpAnyH_done (by kernel_rfl) ?_ _
         have HBW := Lib.hid hS.2.2.2.2.2
         clear hS
         go_wp2_with fail
         go_meet
         exact wws_end HX9.out HX10.out (show y1.heap.size ≠ V2.heap.size by omega) (RA0.out.wide (lo' := y4.heap.size) (hi' := y5.heap.size) (by omega) (by omega)) (RB0.out.wide (by omega) (by omega)) (by omega) (by omega) (by omega) (by omega) (by omega) (by omega) HBW.out
       · as_aux_lemma =>
         go_simp
         refine hK.out _ _ (KP1.out _ _ (bel0 _ _) hS) (fun hS' => ?_)
         clear hK K hS; have hS := hS'; clear hS'
         (try simp only [Act.put, List.setIfInBounds_toArray, List.set_cons_zero, List.set_cons_succ])
         obtain ⟨V2, hV, hbe, hx, hzV2⟩ := zstep y1
         have HX10 := Lib.hid hx
         have RT0 := Lib.hid (RT0.out.below (hbe.mono (by omega)))
         rw [← hV] at hS ⊢
         clear hV hbe hx
         refine reg_two 3 9 rfl rfl (by kernel_rfl) (by rfl) (by rfl) (fun K hK => ?_) (fun K hK => ?_)
         go_simp
         go_at_call 26
         refine (args_eqL (ToCut_any up z _) (by with_reducible rfl)).mono ?_
         rintro e y3 ⟨rfl, hb⟩
         have hzy3 := hb.size
         have HX10 := Lib.hid (HX10.out.below hb (by omega))
         have RT0 := Lib.hid (RT0.out.below (hb.mono (by omega)))
         refine hK.out _ _ (KP1.out _ _ hb hS) (fun hS' => ?_)
         clear hK K hS; have hS := hS'; clear hS'
         (try simp only [Act.put, List.setIfInBounds_toArray, List.set_cons_zero, List.set_cons_succ])
         clear hb
         refine reg_two 4 9 rfl rfl (by kernel_rfl) (by rfl) (by rfl) (fun K hK => ?_) (fun K hK => ?_)
         go_simp
         go_at_call 32
         refine (args_eqL (CSH.out _ _ _ _ RT0.out (by omega)) (by with_reducible rfl)).mono ?_
         rintro e y4 ⟨vA, vB, rfl, RA, RB, hb⟩
         have RA0 := Lib.hid RA
         have RB0 := Lib.hid RB
         obtain ⟨aA, cA, rfl⟩ := RA.form
         obtain ⟨aB, cB, rfl⟩ := RB.form
         clear RA RB
         have hzy4 := hb.size
         have HX10 := Lib.hid (HX10.out.below hb (by omega))
         refine hK.out _ _ (KP1.out _ _ hb hS) (fun hS' => ?_)
         clear hK K hS; have hS := hS'; clear hS'
         (try simp only [Act.put, List.setIfInBounds_toArray, List.set_cons_zero, List.set_cons_succ])
         clear hb
         refine rt 5 (v := ?_) rfl (by intro w _; go_simp; first | done | with_reducible rfl) hS ?_
         (try simp only [Act.put, List.setIfInBounds_toArray, List.set_cons_zero, List.set_cons_succ])
         refine rt 6 (v := ?_) rfl (by intro w _; go_simp; first | done | with_reducible rfl) hS ?_
         (try simp only [Act.put, List.setIfInBounds_toArray, List.set_cons_zero, List.set_cons_succ])
         refine rt 7 (v := ?_) rfl (by intro w _; go_simp; first | done | with_reducible rfl) hS ?_
         (try simp only [Act.put, List.setIfInBounds_toArray, List.set_cons_zero, List.set_cons_succ])
         refine rt 8 (v := ?_) rfl (by intro w _; go_simp; first | done | with_reducible rfl) hS ?_
         (try simp only [Act.put, List.setIfInBounds_toArray, List.set_cons_zero, List.set_cons_succ])
         refine reg_call 9 rfl (by kernel_rfl) (by rfl) (fun K hK => ?_)
         go_simp
         refine hK.out _ _ (KP1.out _ _ (bel0 _ _) hS) (fun hS' => ?_)
         clear hK K hS; have hS := hS'; clear hS'
         (try simp only [Act.put, List.setIfInBounds_toArray, List.set_cons_zero, List.set_cons_succ])
         obtain ⟨V5, hV, hbe, hx, hzV5⟩ := zstep y4
         have HX9 := Lib.hid hx
         have HX10 := Lib.hid (HX10.out.below hbe (by omega))
         have RA0 := Lib.hid (RA0.out.below (hbe.mono (by omega)))
         have RB0 := Lib.hid (RB0.out.below (hbe.mono (by omega)))
         rw [← hV] at hS ⊢
         clear hV hbe hx
         clear KP1
         refine reg_call 11 rfl (by kernel_rfl) (by rfl) (fun K hK => ?_)
         have ec0 := HX9.out.1
         have ec1 := HX9.out.2.1
         have ec2 := HX9.out.2.2.1
         have ec3 := HX9.out.2.2.2.1
         have ec4 := HX9.out.2.2.2.2.1
         have ec5 := HX9.out.2.2.2.2.2
         go_simp
         refine hK.out _ _ (KS1.out _ y4.heap.size (.int .i64 M1) (.int .i64 N1) (.slice aA L1.length cA) (by omega) hS) (fun hS' => ?_)
         clear hK K hS ec0 ec1 ec2 ec3 ec4 ec5; have hS := hS'; clear hS'
         (try simp only [Act.put, List.setIfInBounds_toArray, List.set_cons_zero, List.set_cons_succ])
         have HY := Lib.hid (HX10.out.far3e (show y4.heap.size ≠ y1.heap.size by omega) (.int .i64 M1) (.int .i64 N1) (.slice aA L1.length cA))
         refine reg_call 12 rfl (by kernel_rfl) (by rfl) (fun K hK => ?_)
         have ec0 := HY.out.1
         have ec1 := HY.out.2.1
         have ec2 := HY.out.2.2.1
         have ec3 := HY.out.2.2.2.1
         have ec4 := HY.out.2.2.2.2.1
         have ec5 := HY.out.2.2.2.2.2
         go_simp
         refine hK.out _ _ (KS1.out _ y1.heap.size (.int .i64 M2) (.int .i64 N2) (.slice aB L2.length cB) (by omega) hS) (fun hS' => ?_)
         clear hK K hS ec0 ec1 ec2 ec3 ec4 ec5; have hS := hS'; clear hS'
         (try simp only [Act.put, List.setIfInBounds_toArray, List.set_cons_zero, List.set_cons_succ])
         refine rt 13 (v := ?_) rfl (by intro w _; go_simp; first | done | with_reducible rfl) hS ?_
         (try simp only [Act.put, List.setIfInBounds_toArray, List.set_cons_zero, List.set_cons_succ])
         refine wpAnyH_done (by kernel_rfl) ?_ _
         have HBW := Lib.hid hS.2.2.2.2.2
         clear hS
         go_wp2_with fail
         go_meet
         exact wws_end HX9.out HX10.out (show y4.heap.size ≠ y1.heap.size by omega) (RA0.out.wide (lo' := y3.heap.size) (hi' := y4.heap.size) (by omega) (by omega)) (RB0.out.wide (by omega) (by omega)) (by omega) (by omega) (by omega) (by omega) (by omega) (by omega) HBW.out
         go_simp
         refine hK.out _ _ (KP1.out _ _ (bel0 _ _) hS) (fun hS' => ?_)
         clear hK K hS; have hS := hS'; clear hS'
         (try simp only [Act.put, List.setIfInBounds_toArray, List.set_cons_zero, List.set_cons_succ])
         obtain ⟨V4, hV, hbe, hx, hzV4⟩ := zstep y3
         have HX9 := Lib.hid hx
         have HX10 := Lib.hid (HX10.out.below hbe (by omega))
         have RT0 := Lib.hid (RT0.out.below (hbe.mono (by omega)))
         rw [← hV] at hS ⊢
         clear hV hbe hx
         refine reg_call 4 rfl (by kernel_rfl) (by rfl) (fun K hK => ?_)
         go_simp
         go_at_call 32
         refine (args_eqL (CSH.out _ _ _ _ RT0.out (by omega)) (by with_reducible rfl)).mono ?_
         rintro e y5 ⟨vA, vB, rfl, RA, RB, hb⟩
         have RA0 := Lib.hid RA
         have RB0 := Lib.hid RB
         obtain ⟨aA, cA, rfl⟩ := RA.form
         obtain ⟨aB, cB, rfl⟩ := RB.form
         clear RA RB
         have hzy5 := hb.size
         have HX10 := Lib.hid (HX10.out.below hb (by omega))
         have HX9 := Lib.hid (HX9.out.below hb (by omega))
         refine hK.out _ _ (KP1.out _ _ hb hS) (fun hS' => ?_)
         clear hK K hS; have hS := hS'; clear hS'
         (try simp only [Act.put, List.setIfInBounds_toArray, List.set_cons_zero, List.set_cons_succ])
         clear hb
         refine rt 5 (v := ?_) rfl (by intro w _; go_simp; first | done | with_reducible rfl) hS ?_
         (try simp only [Act.put, List.setIfInBounds_toArray, List.set_cons_zero, List.set_cons_succ])
         refine rt 6 (v := ?_) rfl (by intro w _; go_simp; first | done | with_reducible rfl) hS ?_
         (try simp only [Act.put, List.setIfInBounds_toArray, List.set_cons_zero, List.set_cons_succ])
         refine rt 7 (v := ?_) rfl (by intro w _; go_simp; first | done | with_reducible rfl) hS ?_
         (try simp only [Act.put, List.setIfInBounds_toArray, List.set_cons_zero, List.set_cons_succ])
         refine rt 8 (v := ?_) rfl (by intro w _; go_simp; first | done | with_reducible rfl) hS ?_
         (try simp only [Act.put, List.setIfInBounds_toArray, List.set_cons_zero, List.set_cons_succ])
         clear KP1
         refine reg_call 11 rfl (by kernel_rfl) (by rfl) (fun K hK => ?_)
         have ec0 := HX9.out.1
         have ec1 := HX9.out.2.1
         have ec2 := HX9.out.2.2.1
         have ec3 := HX9.out.2.2.2.1
         have ec4 := HX9.out.2.2.2.2.1
         have ec5 := HX9.out.2.2.2.2.2
         go_simp
         refine hK.out _ _ (KS1.out _ y3.heap.size (.int .i64 M1) (.int .i64 N1) (.slice aA L1.length cA) (by omega) hS) (fun hS' => ?_)
         clear hK K hS ec0 ec1 ec2 ec3 ec4 ec5; have hS := hS'; clear hS'
         (try simp only [Act.put, List.setIfInBounds_toArray, List.set_cons_zero, List.set_cons_succ])
         have HY := Lib.hid (HX10.out.far3e (show y3.heap.size ≠ y1.heap.size by omega) (.int .i64 M1) (.int .i64 N1) (.slice aA L1.length cA))
         refine reg_call 12 rfl (by kernel_rfl) (by rfl) (fun K hK => ?_)
         have ec0 := HY.out.1
         have ec1 := HY.out.2.1
         have ec2 := HY.out.2.2.1
         have ec3 := HY.out.2.2.2.1
         have ec4 := HY.out.2.2.2.2.1
         have ec5 := HY.out.2.2.2.2.2
         go_simp
         refine hK.out _ _ (KS1.out _ y1.heap.size (.int .i64 M2) (.int .i64 N2) (.slice aB L2.length cB) (by omega) hS) (fun hS' => ?_)
         clear hK K hS ec0 ec1 ec2 ec3 ec4 ec5; have hS := hS'; clear hS'
         (try simp only [Act.put, List.setIfInBounds_toArray, List.set_cons_zero, List.set_cons_succ])
         refine rt 13 (v := ?_) rfl (by intro w _; go_simp; first | done | with_reducible rfl) hS ?_
         (try simp only [Act.put, List.setIfInBounds_toArray, List.set_cons_zero, List.set_cons_succ])
         refine wpAnyH_done (by kernel_rfl) ?_ _
         have HBW := Lib.hid hS.2.2.2.2.2
         clear hS
         go_wp2_with fail
         go_meet
         exact wws_end HX9.out HX10.out (show y3.heap.size ≠ y1.heap.size by omega) (RA0.out.wide (lo' := V4.heap.size) (hi' := y5.heap.size) (by omega) (by omega)) (RB0.out.wide (by omega) (by omega)) (by omega) (by omega) (by omega) (by omega) (by omega) (by omega) HBW.out
         go_simp
         refine hK.out _ _ (KP1.out _ _ (bel0 _ _) hS) (fun hS' => ?_)
         clear hK K hS; have hS := hS'; clear hS'
         (try simp only [Act.put, List.setIfInBounds_toArray, List.set_cons_zero, List.set_cons_succ])
         obtain ⟨V3, hV, hbe, hx, hzV3⟩ := zstep V2
         have HX9 := Lib.hid hx
         have HX10 := Lib.hid (HX10.out.below hbe (by omega))
         have RT0 := Lib.hid (RT0.out.below (hbe.mono (by omega)))
         rw [← hV] at hS ⊢
         clear hV hbe hx
         refine reg_call 3 rfl (by kernel_rfl) (by rfl) (fun K hK => ?_)
         go_simp
         go_at_call 26
         refine (args_eqL (ToCut_any up z _) (by with_reducible rfl)).mono ?_
         rintro e y4 ⟨rfl, hb⟩
         have hzy4 := hb.size
         have HX10 := Lib.hid (HX10.out.below hb (by omega))
         have HX9 := Lib.hid (HX9.out.below hb (by omega))
         have RT0 := Lib.hid (RT0.out.below (hb.mono (by omega)))
         refine hK.out _ _ (KP1.out _ _ hb hS) (fun hS' => ?_)
         clear hK K hS; have hS := hS'; clear hS'
         (try simp only [Act.put, List.setIfInBounds_toArray, List.set_cons_zero, List.set_cons_succ])
         clear hb
         refine reg_call 4 rfl (by kernel_rfl) (by rfl) (fun K hK => ?_)
         go_simp
         go_at_call 32
         refine (args_eqL (CSH.out _ _ _ _ RT0.out (by omega)) (by with_reducible rfl)).mono ?_
         rintro e y5 ⟨vA, vB, rfl, RA, RB, hb⟩
         have RA0 := Lib.hid RA
         have RB0 := Lib.hid RB
         obtain ⟨aA, cA, rfl⟩ := RA.form
         obtain ⟨aB, cB, rfl⟩ := RB.form
         clear RA RB
         have hzy5 := hb.size
         have HX10 := Lib.hid (HX10.out.below hb (by omega))
         have HX9 := Lib.hid (HX9.out.below hb (by omega))
         refine hK.out _ _ (KP1.out _ _ hb hS) (fun hS' => ?_)
         clear hK K hS; have hS := hS'; clear hS'
         (try simp only [Act.put, List.setIfInBounds_toArray, List.set_cons_zero, List.set_cons_succ])
         clear hb
         refine rt 5 (v := ?_) rfl (by intro w _; go_simp; first | done | with_reducible rfl) hS ?_
         (try simp only [Act.put, List.setIfInBounds_toArray, List.set_cons_zero, List.set_cons_succ])
         refine rt 6 (v := ?_) rfl (by intro w _; go_simp; first | done | with_reducible rfl) hS ?_
         (try simp only [Act.put, List.setIfInBounds_toArray, List.set_cons_zero, List.set_cons_succ])
         refine rt 7 (v := ?_) rfl (by intro w _; go_simp; first | done | with_reducible rfl) hS ?_
         (try simp only [Act.put, List.setIfInBounds_toArray, List.set_cons_zero, List.set_cons_succ])
         refine rt 8 (v := ?_) rfl (by intro w _; go_simp; first | done | with_reducible rfl) hS ?_
         (try simp only [Act.put, List.setIfInBounds_toArray, List.set_cons_zero, List.set_cons_succ])
         clear KP1
         refine reg_call 11 rfl (by kernel_rfl) (by rfl) (fun K hK => ?_)
         have ec0 := HX9.out.1
         have ec1 := HX9.out.2.1
         have ec2 := HX9.out.2.2.1
         have ec3 := HX9.out.2.2.2.1
         have ec4 := HX9.out.2.2.2.2.1
         have ec5 := HX9.out.2.2.2.2.2
         go_simp
         refine hK.out _ _ (KS1.out _ V2.heap.size (.int .i64 M1) (.int .i64 N1) (.slice aA L1.length cA) (by omega) hS) (fun hS' => ?_)
         clear hK K hS ec0 ec1 ec2 ec3 ec4 ec5; have hS := hS'; clear hS'
         (try simp only [Act.put, List.setIfInBounds_toArray, List.set_cons_zero, List.set_cons_succ])
         have HY := Lib.hid (HX10.out.far3e (show V2.heap.size ≠ y1.heap.size by omega) (.int .i64 M1) (.int .i64 N1) (.slice aA L1.length cA))
         refine reg_call 12 rfl (by kernel_rfl) (by rfl) (fun K hK => ?_)
         have ec0 := HY.out.1
         have ec1 := HY.out.2.1
         have ec2 := HY.out.2.2.1
         have ec3 := HY.out.2.2.2.1
         have ec4 := HY.out.2.2.2.2.1
         have ec5 := HY.out.2.2.2.2.2
         go_simp
         refine hK.out _ _ (KS1.out _ y1.heap.size (.int .i64 M2) (.int .i64 N2) (.slice aB L2.length cB) (by omega) hS) (fun hS' => ?_)
         clear hK K hS ec0 ec1 ec2 ec3 ec4 ec5; have hS := hS'; clear hS'
         (try simp only [Act.put, List.setIfInBounds_toArray, List.set_cons_zero, List.set_cons_succ])
         refine rt 13 (v := ?_) rfl (by intro w _; go_simp; first | done | with_reducible rfl) hS ?_
         (try simp only [Act.put, List.setIfInBounds_toArray, List.set_cons_zero, List.set_cons_succ])
         refine wpAnyH_done (by kernel_rfl) ?_ _
         have HBW := Lib.hid hS.2.2.2.2.2
         clear hS
         go_wp2_with fail
         go_meet
         exact wws_end HX9.out HX10.out (show V2.heap.size ≠ y1.heap.size by omega) (RA0.out.wide (lo' := y4.heap.size) (hi' := y5.heap.size) (by omega) (by omega)) (RB0.out.wide (by omega) (by omega)) (by omega) (by omega) (by omega) (by omega) (by omega) (by omega) HBW.out
     · as_aux_lemma =>
       go_simp
       refine hK.out _ _ (KP1.out _ _ (bel0 _ _) hS) (fun hS' => ?_)
       clear hK K hS; have hS := hS'; clear hS'
       (try simp only [Act.put, List.setIfInBounds_toArray, List.set_cons_zero, List.set_cons_succ])
       obtain ⟨V1, hV, hbe, hx, hzV1⟩ := zstep U0
       have HX9 := Lib.hid hx
       rw [← hV] at hS ⊢
       clear hV hbe hx
       refine reg_two 1 10 rfl rfl (by kernel_rfl) (by rfl) (by rfl) (fun K hK => ?_) (fun K hK => ?_)
       · as_aux_lemma =>
         go_simp
         go_at_call 25
         refine (args_eqL (CT.out _ hS) (by with_reducible rfl)).mono ?_
         rintro e y2 ⟨v, rfl, RR, hb⟩
         obtain ⟨aT, cT, rfl⟩ := RR.form
         have RT0 := Lib.hid RR
         clear RR
         have hzy2 := hb.size
         have HX9 := Lib.hid (HX9.out.below hb (by omega))
         refine hK.out _ _ (KP1.out _ _ hb hS) (fun hS' => ?_)
         clear hK K hS; have hS := hS'; clear hS'
         (try simp only [Act.put, List.setIfInBounds_toArray, List.set_cons_zero, List.set_cons_succ])
         clear hb
         refine reg_two 3 10 rfl rfl (by kernel_rfl) (by rfl) (by rfl) (fun K hK => ?_) (fun K hK => ?_)
         go_simp
         go_at_call 26
         refine (args_eqL (ToCut_any up z _) (by with_reducible rfl)).mono ?_
         rintro e y3 ⟨rfl, hb⟩
         have hzy3 := hb.size
         have HX9 := Lib.hid (HX9.out.below hb (by omega))
         have RT0 := Lib.hid (RT0.out.below (hb.mono (by omega)))
         refine hK.out _ _ (KP1.out _ _ hb hS) (fun hS' => ?_)
         clear hK K hS; have hS := hS'; clear hS'
         (try simp only [Act.put, List.setIfInBounds_toArray, List.set_cons_zero, List.set_cons_succ])
         clear hb
         refine reg_two 4 10 rfl rfl (by kernel_rfl) (by rfl) (by rfl) (fun K hK => ?_) (fun K hK => ?_)
         go_simp
         go_at_call 32
         refine (args_eqL (CSH.out _ _ _ _ RT0.out (by omega)) (by with_reducible rfl)).mono ?_
         rintro e y4 ⟨vA, vB, rfl, RA, RB, hb⟩
         have RA0 := Lib.hid RA
         have RB0 := Lib.hid RB
         obtain ⟨aA, cA, rfl⟩ := RA.form
         obtain ⟨aB, cB, rfl⟩ := RB.form
         clear RA RB
         have hzy4 := hb.size
         have HX9 := Lib.hid (HX9.out.below hb (by omega))
         refine hK.out _ _ (KP1.out _ _ hb hS) (fun hS' => ?_)
         clear hK K hS; have hS := hS'; clear hS'
         (try simp only [Act.put, List.setIfInBounds_toArray, List.set_cons_zero, List.set_cons_succ])
         clear hb
         refine rt 5 (v := ?_) rfl (by intro w _; go_simp; first | done | with_reducible rfl) hS ?_
         (try simp only [Act.put, List.setIfInBounds_toArray, List.set_cons_zero, List.set_cons_succ])
         refine rt 6 (v := ?_) rfl (by intro w _; go_simp; first | done | with_reducible rfl) hS ?_
         (try simp only [Act.put, List.setIfInBounds_toArray, List.set_cons_zero, List.set_cons_succ])
         refine rt 7 (v := ?_) rfl (by intro w _; go_simp; first | done | with_reducible rfl) hS ?_
         (try simp only [Act.put, List.setIfInBounds_toArray, List.set_cons_zero, List.set_cons_succ])
         refine rt 8 (v := ?_) rfl (by intro w _; go_simp; first | done | with_reducible rfl) hS ?_
         (try simp only [Act.put, List.setIfInBounds_toArray, List.set_cons_zero, List.set_cons_succ])
         refine reg_call 10 rfl (by kernel_rfl) (by rfl) (fun K hK => ?_)
         go_simp
         refine hK.out _ _ (KP1.out _ _ (bel0 _ _) hS) (fun hS' => ?_)
         clear hK K hS; have hS := hS'; clear hS'
         (try simp only [Act.put, List.setIfInBounds_toArray, List.set_cons_zero, List.set_cons_succ])
         obtain ⟨V5, hV, hbe, hx, hzV5⟩ := zstep y4
         have HX10 := Lib.hid hx
         have HX9 := Lib.hid (HX9.out.below hbe (by omega))
         have RA0 := Lib.hid (RA0.out.below (hbe.mono (by omega)))
         have RB0 := Lib.hid (RB0.out.below (hbe.mono (by omega)))
         rw [← hV] at hS ⊢
         clear hV hbe hx
         clear KP1
         refine reg_call 11 rfl (by kernel_rfl) (by rfl) (fun K hK => ?_)
         have ec0 := HX9.out.1
         have ec1 := HX9.out.2.1
         have ec2 := HX9.out.2.2.1
         have ec3 := HX9.out.2.2.2.1
         have ec4 := HX9.out.2.2.2.2.1
         have ec5 := HX9.out.2.2.2.2.2
         go_simp
         refine hK.out _ _ (KS1.out _ U0.heap.size (.int .i64 M1) (.int .i64 N1) (.slice aA L1.length cA) (by omega) hS) (fun hS' => ?_)
         clear hK K hS ec0 ec1 ec2 ec3 ec4 ec5; have hS := hS'; clear hS'
         (try simp only [Act.put, List.setIfInBounds_toArray, List.set_cons_zero, List.set_cons_succ])
         have HY := Lib.hid (HX10.out.far3e (show U0.heap.size ≠ y4.heap.size by omega) (.int .i64 M1) (.int .i64 N1) (.slice aA L1.length cA))
         refine reg_call 12 rfl (by kernel_rfl) (by rfl) (fun K hK => ?_)
         have ec0 := HY.out.1
         have ec1 := HY.out.2.1
         have ec2 := HY.out.2.2.1
         have ec3 := HY.out.2.2.2.1
         have ec4 := HY.out.2.2.2.2.1
         have ec5 := HY.out.2.2.2.2.2
         go_simp
         refine hK.out _ _ (KS1.out _ y4.heap.size (.int .i64 M2) (.int .i64 N2) (.slice aB L2.length cB) (by omega) hS) (fun hS' => ?_)
         clear hK K hS ec0 ec1 ec2 ec3 ec4 ec5; have hS := hS'; clear hS'
         (try simp only [Act.put, List.setIfInBounds_toArray, List.set_cons_zero, List.set_cons_succ])
         refine rt 13 (v := ?_) rfl (by intro w _; go_simp; first | done | with_reducible rfl) hS ?_
         (try simp only [Act.put, List.setIfInBounds_toArray, List.set_cons_zero, List.set_cons_succ])
         refine wpAnyH_done (by kernel_rfl) ?_ _
         have HBW := Lib.hid hS.2.2.2.2.2
         clear hS
         go_wp2_with fail
         go_meet
         exact wws_end HX9.out HX10.out (show U0.heap.size ≠ y4.heap.size by omega) (RA0.out.wide (lo' := y3.heap.size) (hi' := y4.heap.size) (by omega) (by omega)) (RB0.out.wide (by omega) (by omega)) (by omega) (by omega) (by omega) (by omega) (by omega) (by omega) HBW.out
         go_simp
         refine hK.out _ _ (KP1.out _ _ (bel0 _ _) hS) (fun hS' => ?_)
         clear hK K hS; have hS := hS'; clear hS'
         (try simp only [Act.put, List.setIfInBounds_toArray, List.set_cons_zero, List.set_cons_succ])
         obtain ⟨V4, hV, hbe, hx, hzV4⟩ := zstep y3
         have HX10 := Lib.hid hx
         have HX9 := Lib.hid (HX9.out.below hbe (by omega))
         have RT0 := Lib.hid (RT0.out.below (hbe.mono (by omega)))
         rw [← hV] at hS ⊢
         clear hV hbe hx
         refine reg_call 4 rfl (by kernel_rfl) (by rfl) (fun K hK => ?_)
         go_simp
         go_at_call 32
         refine (args_eqL (CSH.out _ _ _ _ RT0.out (by omega)) (by with_reducible rfl)).mono ?_
         rintro e y5 ⟨vA, vB, rfl, RA, RB, hb⟩
         have RA0 := Lib.hid RA
         have RB0 := Lib.hid RB
         obtain ⟨aA, cA, rfl⟩ := RA.form
         obtain ⟨aB, cB, rfl⟩ := RB.form
         clear RA RB
         have hzy5 := hb.size
         have HX9 := Lib.hid (HX9.out.below hb (by omega))
         have HX10 := Lib.hid (HX10.out.below hb (by omega))
         refine hK.out _ _ (KP1.out _ _ hb hS) (fun hS' => ?_)
         clear hK K hS; have hS := hS'; clear hS'
         (try simp only [Act.put, List.setIfInBounds_toArray, List.set_cons_zero, List.set_cons_succ])
         clear hb
         refine rt 5 (v := ?_) rfl (by intro w _; go_simp; first | done | with_reducible rfl) hS ?_
         (try simp only [Act.put, List.setIfInBounds_toArray, List.set_cons_zero, List.set_cons_succ])
         refine rt 6 (v := ?_) rfl (by intro w _; go_simp; first | done | with_reducible rfl) hS ?_
         (try simp only [Act.put, List.setIfInBounds_toArray, List.set_cons_zero, List.set_cons_succ])
         refine rt 7 (v := ?_) rfl (by intro w _; go_simp; first | done | with_reducible rfl) hS ?_
         (try simp only [Act.put, List.setIfInBounds_toArray, List.set_cons_zero, List.set_cons_succ])
         refine rt 8 (v := ?_) rfl (by intro w _; go_simp; first | done | with_reducible rfl) hS ?_
         (try simp only [Act.put, List.setIfInBounds_toArray, List.set_cons_zero, List.set_cons_succ])
         clear KP1
         refine reg_call 11 rfl (by kernel_rfl) (by rfl) (fun K hK => ?_)
         have ec0 := HX9.out.1
         have ec1 := HX9.out.2.1
         have ec2 := HX9.out.2.2.1
         have ec3 := HX9.out.2.2.2.1
         have ec4 := HX9.out.2.2.2.2.1
         have ec5 := HX9.out.2.2.2.2.2
         go_simp
         refine hK.out _ _ (KS1.out _ U0.heap.size (.int .i64 M1) (.int .i64 N1) (.slice aA L1.length cA) (by omega) hS) (fun hS' => ?_)
         clear hK K hS ec0 ec1 ec2 ec3 ec4 ec5; have hS := hS'; clear hS'
         (try simp only [Act.put, List.setIfInBounds_toArray, List.set_cons_zero, List.set_cons_succ])
         have HY := Lib.hid (HX10.out.far3e (show U0.heap.size ≠ y3.heap.size by omega) (.int .i64 M1) (.int .i64 N1) (.slice aA L1.length cA))
         refine reg_call 12 rfl (by kernel_rfl) (by rfl) (fun K hK => ?_)
         have ec0 := HY.out.1
         have ec1 := HY.out.2.1
         have ec2 := HY.out.2.2.1
         have ec3 := HY.out.2.2.2.1
         have ec4 := HY.out.2.2.2.2.1
         have ec5 := HY.out.2.2.2.2.2
         go_simp
         refine hK.out _ _ (KS1.out _ y3.heap.size (.int .i64 M2) (.int .i64 N2) (.slice aB L2.length cB) (by omega) hS) (fun hS' => ?_)
         clear hK K hS ec0 ec1 ec2 ec3 ec4 ec5; have hS := hS'; clear hS'
         (try simp only [Act.put, List.setIfInBounds_toArray, List.set_cons_zero, List.set_cons_succ])
         refine rt 13 (v := ?_) rfl (by intro w _; go_simp; first | done | with_reducible rfl) hS ?_
         (try simp only [Act.put, List.setIfInBounds_toArray, List.set_cons_zero, List.set_cons_succ])
         refine wpAnyH_done (by kernel_rfl) ?_ _
         have HBW := Lib.hid hS.2.2.2.2.2
         clear hS
         go_wp2_with fail
         go_meet
         exact wws_end HX9.out HX10.out (show U0.heap.size ≠ y3.heap.size by omega) (RA0.out.wide (lo' := V4.heap.size) (hi' := y5.heap.size) (by omega) (by omega)) (RB0.out.wide (by omega) (by omega)) (by omega) (by omega) (by omega) (by omega) (by omega) (by omega) HBW.out
         go_simp
         refine hK.out _ _ (KP1.out _ _ (bel0 _ _) hS) (fun hS' => ?_)
         clear hK K hS; have hS := hS'; clear hS'
         (try simp only [Act.put, List.setIfInBounds_toArray, List.set_cons_zero, List.set_cons_succ])
         obtain ⟨V3, hV, hbe, hx, hzV3⟩ := zstep y2
         have HX10 := Lib.hid hx
         have HX9 := Lib.hid (HX9.out.below hbe (by omega))
         have RT0 := Lib.hid (RT0.out.below (hbe.mono (by omega)))
         rw [← hV] at hS ⊢
         clear hV hbe hx
         refine reg_call 3 rfl (by kernel_rfl) (by rfl) (fun K hK => ?_)
         go_simp
         go_at_call 26
         refine (args_eqL (ToCut_any up z _) (by with_reducible rfl)).mono ?_
         rintro e y4 ⟨rfl, hb⟩
         have hzy4 := hb.size
         have HX9 := Lib.hid (HX9.out.below hb (by omega))
         have HX10 := Lib.hid (HX10.out.below hb (by omega))
         have RT0 := Lib.hid (RT0.out.below (hb.mono (by omega)))
         refine hK.out _ _ (KP1.out _ _ hb hS) (fun hS' => ?_)
         clear hK K hS; have hS := hS'; clear hS'
         (try simp only [Act.put, List.setIfInBounds_toArray, List.set_cons_zero, List.set_cons_succ])
         clear hb
         refine reg_call 4 rfl (by kernel_rfl) (by rfl) (fun K hK => ?_)
         go_simp
         go_at_call 32
         refine (args_eqL (CSH.out _ _ _ _ RT0.out (by omega)) (by with_reducible rfl)).mono ?_
         rintro e y5 ⟨vA, vB, rfl, RA, RB, hb⟩
         have RA0 := Lib.hid RA
         have RB0 := Lib.hid RB
         obtain ⟨aA, cA, rfl⟩ := RA.form
         obtain ⟨aB, cB, rfl⟩ := RB.form
         clear RA RB
         have hzy5 := hb.size
         have HX9 := Lib.hid (HX9.out.below hb (by omega))
         have HX10 := Lib.hid (HX10.out.below hb (by omega))
         refine hK.out _ _ (KP1.out _ _ hb hS) (fun hS' => ?_)
         clear hK K hS; have hS := hS'; clear hS'
         (try simp only [Act.put, List.setIfInBounds_toArray, List.set_cons_zero, List.set_cons_succ])
         clear hb
         refine rt 5 (v := ?_) rfl (by intro w _; go_simp; first | done | with_reducible rfl) hS ?_
         (try simp only [Act.put, List.setIfInBounds_toArray, List.set_cons_zero, List.set_cons_succ])
         refine rt 6 (v := ?_) rfl (by intro w _; go_simp; first | done | with_reducible rfl) hS ?_
         (try simp only [Act.put, List.setIfInBounds_toArray, List.set_cons_zero, List.set_cons_succ])
         refine rt 7 (v := ?_) rfl (by intro w _; go_simp; first | done | with_reducible rfl) hS ?_
         (try simp only [Act.put, List.setIfInBounds_toArray, List.set_cons_zero, List.set_cons_succ])
         refine rt 8 (v := ?_) rfl (by intro w _; go_simp; first | done | with_reducible rfl) hS ?_
         (try simp only [Act.put, List.setIfInBounds_toArray, List.set_cons_zero, List.set_cons_succ])
         clear KP1
         refine reg_call 11 rfl (by kernel_rfl) (by rfl) (fun K hK => ?_)
         have ec0 := HX9.out.1
         have ec1 := HX9.out.2.1
         have ec2 := HX9.out.2.2.1
         have ec3 := HX9.out.2.2.2.1
         have ec4 := HX9.out.2.2.2.2.1
         have ec5 := HX9.out.2.2.2.2.2
         go_simp
         refine hK.out _ _ (KS1.out _ U0.heap.size (.int .i64 M1) (.int .i64 N1) (.slice aA L1.length cA) (by omega) hS) (fun hS' => ?_)
         clear hK K hS ec0 ec1 ec2 ec3 ec4 ec5; have hS := hS'; clear hS'
         (try simp only [Act.put, List.setIfInBounds_toArray, List.set_cons_zero, List.set_cons_succ])
         have HY := Lib.hid (HX10.out.far3e (show U0.heap.size ≠ y2.heap.size by omega) (.int .i64 M1) (.int .i64 N1) (.slice aA L1.length cA))
         refine reg_call 12 rfl (by kernel_rfl) (by rfl) (fun K hK => ?_)
         have ec0 := HY.out.1
         have ec1 := HY.out.2.1
         have ec2 := HY.out.2.2.1
         have ec3 := HY.out.2.2.2.1
         have ec4 := HY.out.2.2.2.2.1
         have ec5 := HY.out.2.2.2.2.2
         go_simp
         refine hK.out _ _ (KS1.out _ y2.heap.size (.int .i64 M2) (.int .i64 N2) (.slice aB L2.length cB) (by omega) hS) (fun hS' => ?_)
         clear hK K hS ec0 ec1 ec2 ec3 ec4 ec5; have hS := hS'; clear hS'
         (try simp only [Act.put, List.setIfInBounds_toArray, List.set_cons_zero, List.set_cons_succ])
         refine rt 13 (v := ?_) rfl (by intro w _; go_simp; first | done | with_reducible rfl) hS ?_
         (try simp only [Act.put, List.setIfInBounds_toArray, List.set_cons_zero, List.set_cons_succ])
         refine wpAnyH_done (by kernel_rfl) ?_ _
         have HBW := Lib.hid hS.2.2.2.2.2
         clear hS
         go_wp2_with fail
         go_meet
         exact wws_end HX9.out HX10.out (show U0.heap.size ≠ y2.heap.size by omega) (RA0.out.wide (lo' := y4.heap.size) (hi' := y5.heap.size) (by omega) (by omega)) (RB0.out.wide (by omega) (by omega)) (by omega) (by omega) (by omega) (by omega) (by omega) (by omega) HBW.out
       · as_aux_lemma =>
         go_simp
         refine hK.out _ _ (KP1.out _ _ (bel0 _ _) hS) (fun hS' => ?_)
         clear hK K hS; have hS := hS'; clear hS'
         (try simp only [Act.put, List.setIfInBounds_toArray, List.set_cons_zero, List.set_cons_succ])
         obtain ⟨V2, hV, hbe, hx, hzV2⟩ := zstep V1
         have HX10 := Lib.hid hx
         have HX9 := Lib.hid (HX9.out.below hbe (by omega))
         rw [← hV] at hS ⊢
         clear hV hbe hx
         refine reg_call 1 rfl (by kernel_rfl) (by rfl) (fun K hK => ?_)
         go_simp
         go_at_call 25
         refine (args_eqL (CT.out _ hS) (by with_reducible rfl)).mono ?_
         rintro e y3 ⟨v, rfl, RR, hb⟩
         obtain ⟨aT, cT, rfl⟩ := RR.form
         have RT0 := Lib.hid RR
         clear RR
         have hzy3 := hb.size
         have HX9 := Lib.hid (HX9.out.below hb (by omega))
         have HX10 := Lib.hid (HX10.out.below hb (by omega))
         refine hK.out _ _ (KP1.out _ _ hb hS) (fun hS' => ?_)
         clear hK K hS; have hS := hS'; clear hS'
         (try simp only [Act.put, List.setIfInBounds_toArray, List.set_cons_zero, List.set_cons_succ])
         clear hb
         refine reg_call 3 rfl (by kernel_rfl) (by rfl) (fun K hK => ?_)
         go_simp
         go_at_call 26
         refine (args_eqL (ToCut_any up z _) (by with_reducible rfl)).mono ?_
         rintro e y4 ⟨rfl, hb⟩
         have hzy4 := hb.size
         have HX9 := Lib.hid (HX9.out.below hb (by omega))
         have HX10 := Lib.hid (HX10.out.below hb (by omega))
         have RT0 := Lib.hid (RT0.out.below (hb.mono (by omega)))
         refine hK.out _ _ (KP1.out _ _ hb hS) (fun hS' => ?_)
         clear hK K hS; have hS := hS'; clear hS'
         (try simp only [Act.put, List.setIfInBounds_toArray, List.set_cons_zero, List.set_cons_succ])
         clear hb
         refine reg_call 4 rfl (by kernel_rfl) (by rfl) (fun K hK => ?_)
         go_simp
         go_at_call 32
         refine (args_eqL (CSH.out _ _ _ _ RT0.out (by omega)) (by with_reducible rfl)).mono ?_
         rintro e y5 ⟨vA, vB, rfl, RA, RB, hb⟩
         have RA0 := Lib.hid RA
         have RB0 := Lib.hid RB
         obtain ⟨aA, cA, rfl⟩ := RA.form
         obtain ⟨aB, cB, rfl⟩ := RB.form
         clear RA RB
         have hzy5 := hb.size
         have HX9 := Lib.hid (HX9.out.below hb (by omega))
         have HX10 := Lib.hid (HX10.out.below hb (by omega))
         refine hK.out _ _ (KP1.out _ _ hb hS) (fun hS' => ?_)
         clear hK K hS; have hS := hS'; clear hS'
         (try simp only [Act.put, List.setIfInBounds_toArray, List.set_cons_zero, List.set_cons_succ])
         clear hb
         refine rt 5 (v := ?_) rfl (by intro w _; go_simp; first | done | with_reducible rfl) hS ?_
         (try simp only [Act.put, List.setIfInBounds_toArray, List.set_cons_zero, List.set_cons_succ])
         refine rt 6 (v := ?_) rfl (by intro w _; go_simp; first | done | with_reducible rfl) hS ?_
         (try simp only [Act.put, List.setIfInBounds_toArray, List.set_cons_zero, List.set_cons_succ])
         refine rt 7 (v := ?_) rfl (by intro w _; go_simp; first | done | with_reducible rfl) hS ?_
         (try simp only [Act.put, List.setIfInBounds_toArray, List.set_cons_zero, List.set_cons_succ])
         refine rt 8 (v := ?_) rfl (by intro w _; go_simp; first | done | with_reducible rfl) hS ?_
         (try simp only [Act.put, List.setIfInBounds_toArray, List.set_cons_zero, List.set_cons_succ])
         clear KP1
         refine reg_call 11 rfl (by kernel_rfl) (by rfl) (fun K hK => ?_)
         have ec0 := HX9.out.1
         have ec1 := HX9.out.2.1
         have ec2 := HX9.out.2.2.1
         have ec3 := HX9.out.2.2.2.1
         have ec4 := HX9.out.2.2.2.2.1
         have ec5 := HX9.out.2.2.2.2.2
         go_simp
         refine hK.out _ _ (KS1.out _ U0.heap.size (.int .i64 M1) (.int .i64 N1) (.slice aA L1.length cA) (by omega) hS) (fun hS' => ?_)
         clear hK K hS ec0 ec1 ec2 ec3 ec4 ec5; have hS := hS'; clear hS'
         (try simp only [Act.put, List.setIfInBounds_toArray, List.set_cons_zero, List.set_cons_succ])
         have HY := Lib.hid (HX10.out.far3e (show U0.heap.size ≠ V1.heap.size by omega) (.int .i64 M1) (.int .i64 N1) (.slice aA L1.length cA))
         refine reg_call 12 rfl (by kernel_rfl) (by rfl) (fun K hK => ?_)
         have ec0 := HY.out.1
         have ec1 := HY.out.2.1
         have ec2 := HY.out.2.2.1
         have ec3 := HY.out.2.2.2.1
         have ec4 := HY.out.2.2.2.2.1
         have ec5 := HY.out.2.2.2.2.2
         go_simp
         refine hK.out _ _ (KS1.out _ V1.heap.size (.int .i64 M2) (.int .i64 N2) (.slice aB L2.length cB) (by omega) hS) (fun hS' => ?_)
         clear hK K hS ec0 ec1 ec2 ec3 ec4 ec5; have hS := hS'; clear hS'
         (try simp only [Act.put, List.setIfInBounds_toArray, List.set_cons_zero, List.set_cons_succ])
         refine rt 13 (v := ?_) rfl (by intro w _; go_simp; first | done | with_reducible rfl) hS ?_
         (try simp only [Act.put, List.setIfInBounds_toArray, List.set_cons_zero, List.set_cons_succ])
         refine wpAnyH_done (by kernel_rfl) ?_ _
         have HBW := Lib.hid hS.2.2.2.2.2
         clear hS
         go_wp2_with fail
         go_meet
         exact wws_end HX9.out HX10.out (show U0.heap.size ≠ V1.heap.size by omega) (RA0.out.wide (lo' := y4.heap.size) (hi' := y5.heap.size) (by omega) (by omega)) (RB0.out.wide (by omega) (by omega)) (by omega) (by omega) (by omega) (by omega) (by omega) (by omega) HBW.out
     · as_aux_lemma =>
       go_simp
       refine hK.out _ _ (KP1.out _ _ (bel0 _ _) hS) (fun hS' => ?_)
       clear hK K hS; have hS := hS'; clear hS'
       (try simp only [Act.put, List.setIfInBounds_toArray, List.set_cons_zero, List.set_cons_succ])
       obtain ⟨V1, hV, hbe, hx, hzV1⟩ := zstep U0
       have HX10 := Lib.hid hx
       rw [← hV] at hS ⊢
       clear hV hbe hx
       refine reg_two 1 9 rfl rfl (by kernel_rfl) (by rfl) (by rfl) (fun K hK => ?_) (fun K hK => ?_)
       · as_aux_lemma =>
         go_simp
         go_at_call 25
         refine (args_eqL (CT.out _ hS) (by with_reducible rfl)).mono ?_
         rintro e y2 ⟨v, rfl, RR, hb⟩
         obtain ⟨aT, cT, rfl⟩ := RR.form
         have RT0 := Lib.hid RR
         clear RR
         have hzy2 := hb.size
         have HX10 := Lib.hid (HX10.out.below hb (by omega))
         refine hK.out _ _ (KP1.out _ _ hb hS) (fun hS' => ?_)
         clear hK K hS; have hS := hS'; clear hS'
         (try simp only [Act.put, List.setIfInBounds_toArray, List.set_cons_zero, List.set_cons_succ])
         clear hb
         refine reg_two 3 9 rfl rfl (by kernel_rfl) (by rfl) (by rfl) (fun K hK => ?_) (fun K hK => ?_)
         go_simp
         go_at_call 26
         refine (args_eqL (ToCut_any up z _) (by with_reducible rfl)).mono ?_
         rintro e y3 ⟨rfl, hb⟩
         have hzy3 := hb.size
         have HX10 := Lib.hid (HX10.out.below hb (by omega))
         have RT0 := Lib.hid (RT0.out.below (hb.mono (by omega)))
         refine hK.out _ _ (KP1.out _ _ hb hS) (fun hS' => ?_)
         clear hK K hS; have hS := hS'; clear hS'
         (try simp only [Act.put, List.setIfInBounds_toArray, List.set_cons_zero, List.set_cons_succ])
         clear hb
         refine reg_two 4 9 rfl rfl (by kernel_rfl) (by rfl) (by rfl) (fun K hK => ?_) (fun K hK => ?_)
         go_simp
         go_at_call 32
         refine (args_eqL (CSH.out _ _ _ _ RT0.out (by omega)) (by with_reducible rfl)).mono ?_
         rintro e y4 ⟨vA, vB, rfl, RA, RB, hb⟩
         have RA0 := Lib.hid RA
         have RB0 := Lib.hid RB
         obtain ⟨aA, cA, rfl⟩ := RA.form
         obtain ⟨aB, cB, rfl⟩ := RB.form
         clear RA RB
         have hzy4 := hb.size
         have HX10 := Lib.hid (HX10.out.below hb (by omega))
         refine hK.out _ _ (KP1.out _ _ hb hS) (fun hS' => ?_)
         clear hK K hS; have hS := hS'; clear hS'
         (try simp only [Act.put, List.setIfInBounds_toArray, List.set_cons_zero, List.set_cons_succ])
         clear hb
         refine rt 5 (v := ?_) rfl (by intro w _; go_simp; first | done | with_reducible rfl) hS ?_
         (try simp only [Act.put, List.setIfInBounds_toArray, List.set_cons_zero, List.set_cons_succ])
         refine rt 6 (v := ?_) rfl (by intro w _; go_simp; first | done | with_reducible rfl) hS ?_
         (try simp only [Act.put, List.setIfInBounds_toArray, List.set_cons_zero, List.set_cons_succ])
         refine rt 7 (v := ?_) rfl (by intro w _; go_simp; first | done | with_reducible rfl) hS ?_
         (try simp only [Act.put, List.setIfInBounds_toArray, List.set_cons_zero, List.set_cons_succ])
         refine rt 8 (v := ?_) rfl (by intro w _; go_simp; first | done | with_reducible rfl) hS ?_
         (try simp only [Act.put, List.setIfInBounds_toArray, List.set_cons_zero, List.set_cons_succ])
         refine reg_call 9 rfl (by kernel_rfl) (by rfl) (fun K hK => ?_)
         go_simp
         refine hK.out _ _ (KP1.out _ _ (bel0 _ _) hS) (fun hS' => ?_)
         clear hK K hS; have hS := hS'; clear hS'
         (try simp only [Act.put, List.setIfInBounds_toArray, List.set_cons_zero, List.set_cons_succ])
         obtain ⟨V5, hV, hbe, hx, hzV5⟩ := zstep y4
         have HX9 := Lib.hid hx
         have HX10 := Lib.hid (HX10.out.below hbe (by omega))
         have RA0 := Lib.hid (RA0.out.below (hbe.mono (by omega)))
         have RB0 := Lib.hid (RB0.out.below (hbe.mono (by omega)))
         rw [← hV] at hS ⊢
         clear hV hbe hx
         clear KP1
         refine reg_call 11 rfl (by kernel_rfl) (by rfl) (fun K hK => ?_)
         have ec0 := HX9.out.1
         have ec1 := HX9.out.2.1
         have ec2 := HX9.out.2.2.1
         have ec3 := HX9.out.2.2.2.1
         have ec4 := HX9.out.2.2.2.2.1
         have ec5 := HX9.out.2.2.2.2.2
         go_simp
         refine hK.out _ _ (KS1.out _ y4.heap.size (.int .i64 M1) (.int .i64 N1) (.slice aA L1.length cA) (by omega) hS) (fun hS' => ?_)
         clear hK K hS ec0 ec1 ec2 ec3 ec4 ec5; have hS := hS'; clear hS'
         (try simp only [Act.put, List.setIfInBounds_toArray, List.set_cons_zero, List.set_cons_succ])
         have HY := Lib.hid (HX10.out.far3e (show y4.heap.size ≠ U0.heap.size by omega) (.int .i64 M1) (.int .i64 N1) (.slice aA L1.length cA))
         refine reg_call 12 rfl (by kernel_rfl) (by rfl) (fun K hK => ?_)
         have ec0 := HY.out.1
         have ec1 := HY.out.2.1
         have ec2 := HY.out.2.2.1
         have ec3 := HY.out.2.2.2.1
         have ec4 := HY.out.2.2.2.2.1
         have ec5 := HY.out.2.2.2.2.2
         go_simp
         refine hK.out _ _ (KS1.out _ U0.heap.size (.int .i64 M2) (.int .i64 N2) (.slice aB L2.length cB) (by omega) hS) (fun hS' => ?_)
         clear hK K hS ec0 ec1 ec2 ec3 ec4 ec5; have hS := hS'; clear hS'
         (try simp only [Act.put, List.setIfInBounds_toArray, List.set_cons_zero, List.set_cons_succ])
         refine rt 13 (v := ?_) rfl (by intro w _; go_simp; first | done | with_reducible rfl) hS ?_
         (try simp only [Act.put, List.setIfInBounds_toArray, List.set_cons_zero, List.set_cons_succ])
         refine wpAnyH_done (by kernel_rfl) ?_ _
         have HBW := Lib.hid hS.2.2.2.2.2
         clear hS
         go_wp2_with fail
         go_meet
         exact wws_end HX9.out HX10.out (show y4.heap.size ≠ U0.heap.size by omega) (RA0.out.wide (lo' := y3.heap.size) (hi' := y4.heap.size) (by omega) (by omega)) (RB0.out.wide (by omega) (by omega)) (by omega) (by omega) (by omega) (by omega) (by omega) (by omega) HBW.out
         go_simp
         refine hK.out _ _ (KP1.out _ _ (bel0 _ _) hS) (fun hS' => ?_)
         clear hK K hS; have hS := hS'; clear hS'
         (try simp only [Act.put, List.setIfInBounds_toArray, List.set_cons_zero, List.set_cons_succ])
         obtain ⟨V4, hV, hbe, hx, hzV4⟩ := zstep y3
         have HX9 := Lib.hid hx
         have HX10 := Lib.hid (HX10.out.below hbe (by omega))
         have RT0 := Lib.hid (RT0.out.below (hbe.mono (by omega)))
         rw [← hV] at hS ⊢
         clear hV hbe hx
         refine reg_call 4 rfl (by kernel_rfl) (by rfl) (fun K hK => ?_)
         go_simp
         go_at_call 32
         refine (args_eqL (CSH.out _ _ _ _ RT0.out (by omega)) (by with_reducible rfl)).mono ?_
         rintro e y5 ⟨vA, vB, rfl, RA, RB, hb⟩
         have RA0 := Lib.hid RA
         have RB0 := Lib.hid RB
         obtain ⟨aA, cA, rfl⟩ := RA.form
         obtain ⟨aB, cB, rfl⟩ := RB.form
         clear RA RB
         have hzy5 := hb.size
         have HX10 := Lib.hid (HX10.out.below hb (by omega))
         have HX9 := Lib.hid (HX9.out.below hb (by omega))
         refine hK.out _ _ (KP1.out _ _ hb hS) (fun hS' => ?_)
         clear hK K hS; have hS := hS'; clear hS'
         (try simp only [Act.put, List.setIfInBounds_toArray, List.set_cons_zero, List.set_cons_succ])
         clear hb
         refine rt 5 (v := ?_) rfl (by intro w _; go_simp; first | done | with_reducible rfl) hS ?_
         (try simp only [Act.put, List.setIfInBounds_toArray, List.set_cons_zero, List.set_cons_succ])
         refine rt 6 (v := ?_) rfl (by intro w _; go_simp; first | done | with_reducible rfl) hS ?_
         (try simp only [Act.put, List.setIfInBounds_toArray, List.set_cons_zero, List.set_cons_succ])
         refine rt 7 (v := ?_) rfl (by intro w _; go_simp; first | done | with_reducible rfl) hS ?_
         (try simp only [Act.put, List.setIfInBounds_toArray, List.set_cons_zero, List.set_cons_succ])
         refine rt 8 (v := ?_) rfl (by intro w _; go_simp; first | done | with_reducible rfl) hS ?_
         (try simp only [Act.put, List.setIfInBounds_toArray, List.set_cons_zero, List.set_cons_succ])
         clear KP1
         refine reg_call 11 rfl (by kernel_rfl) (by rfl) (fun K hK => ?_)
         have ec0 := HX9.out.1
         have ec1 := HX9.out.2.1
         have ec2 := HX9.out.2.2.1
         have ec3 := HX9.out.2.2.2.1
         have ec4 := HX9.out.2.2.2.2.1
         have ec5 := HX9.out.2.2.2.2.2
         go_simp
         refine hK.out _ _ (KS1.out _ y3.heap.size (.int .i64 M1) (.int .i64 N1) (.slice aA L1.length cA) (by omega) hS) (fun hS' => ?_)
         clear hK K hS ec0 ec1 ec2 ec3 ec4 ec5; have hS := hS'; clear hS'
         (try simp only [Act.put, List.setIfInBounds_toArray, List.set_cons_zero, List.set_cons_succ])
         have HY := Lib.hid (HX10.out.far3e (show y3.heap.size ≠ U0.heap.size by omega) (.int .i64 M1) (.int .i64 N1) (.slice aA L1.length cA))
         refine reg_call 12 rfl (by kernel_rfl) (by rfl) (fun K hK => ?_)
         have ec0 := HY.out.1
         have ec1 := HY.out.2.1
         have ec2 := HY.out.2.2.1
         have ec3 := HY.out.2.2.2.1
         have ec4 := HY.out.2.2.2.2.1
         have ec5 := HY.out.2.2.2.2.2
         go_simp
         refine hK.out _ _ (KS1.out _ U0.heap.size (.int .i64 M2) (.int .i64 N2) (.slice aB L2.length cB) (by omega) hS) (fun hS' => ?_)
         clear hK K hS ec0 ec1 ec2 ec3 ec4 ec5; have hS := hS'; clear hS'
         (try simp only [Act.put, List.setIfInBounds_toArray, List.set_cons_zero, List.set_cons_succ])
         refine rt 13 (v := ?_) rfl (by intro w _; go_simp; first | done | with_reducible rfl) hS ?_
         (try simp only [Act.put, List.setIfInBounds_toArray, List.set_cons_zero, List.set_cons_succ])
         refine wpAnyH_done (by kernel_rfl) ?_ _
         have HBW := Lib.hid hS.2.2.2.2.2
         clear hS
         go_wp2_with fail
         go_meet
         exact wws_end HX9.out HX10.out (show y3.heap.size ≠ U0.heap.size by omega) (RA0.out.wide (lo' := V4.heap.size) (hi' := y5.heap.size) (by omega) (by omega)) (RB0.out.wide (by omega) (by omega)) (by omega) (by omega) (by omega) (by omega) (by omega) (by omega) HBW.out
         go_simp
         refine hK.out _ _ (KP1.out _ _ (bel0 _ _) hS) (fun hS' => ?_)
         clear hK K hS; have hS := hS'; clear hS'
         (try simp only [Act.put, List.setIfInBounds_toArray, List.set_cons_zero, List.set_cons_succ])
         obtain ⟨V3, hV, hbe, hx, hzV3⟩ := zstep y2
         have HX9 := Lib.hid hx
         have HX10 := Lib.hid (HX10.out.below hbe (by omega))
         have RT0 := Lib.hid (RT0.out.below (hbe.mono (by omega)))
         rw [← hV] at hS ⊢
         clear hV hbe hx
         refine reg_call 3 rfl (by kernel_rfl) (by rfl) (fun K hK => ?_)
         go_simp
         go_at_call 26
         refine (args_eqL (ToCut_any up z _) (by with_reducible rfl)).mono ?_
         rintro e y4 ⟨rfl, hb⟩
         have hzy4 := hb.size
         have HX10 := Lib.hid (HX10.out.below hb (by omega))
         have HX9 := Lib.hid (HX9.out.below hb (by omega))
         have RT0 := Lib.hid (RT0.out.below (hb.mono (by omega)))
         refine hK.out _ _ (KP1.out _ _ hb hS) (fun hS' => ?_)
         clear hK K hS; have hS := hS'; clear hS'
         (try simp only [Act.put, List.setIfInBounds_toArray, List.set_cons_zero, List.set_cons_succ])
         clear hb
         refine reg_call 4 rfl (by kernel_rfl) (by rfl) (fun K hK => ?_)
         go_simp
         go_at_call 32
         refine (args_eqL (CSH.out _ _ _ _ RT0.out (by omega)) (by with_reducible rfl)).mono ?_
         rintro e y5 ⟨vA, vB, rfl, RA, RB, hb⟩
         have RA0 := Lib.hid RA
         have RB0 := Lib.hid RB
         obtain ⟨aA, cA, rfl⟩ := RA.form
         obtain ⟨aB, cB, rfl⟩ := RB.form
         clear RA RB
         have hzy5 := hb.size
         have HX10 := Lib.hid (HX10.out.below hb (by omega))
         have HX9 := Lib.hid (HX9.out.below hb (by omega))
         refine hK.out _ _ (KP1.out _ _ hb hS) (fun hS' => ?_)
         clear hK K hS; have hS := hS'; clear hS'
         (try simp only [Act.put, List.setIfInBounds_toArray, List.set_cons_zero, List.set_cons_succ])
         clear hb
         refine rt 5 (v := ?_) rfl (by intro w _; go_simp; first | done | with_reducible rfl) hS ?_
         (try simp only [Act.put, List.setIfInBounds_toArray, List.set_cons_zero, List.set_cons_succ])
         refine rt 6 (v := ?_) rfl (by intro w _; go_simp; first | done | with_reducible rfl) hS ?_
         (try simp only [Act.put, List.setIfInBounds_toArray, List.set_cons_zero, List.set_cons_succ])
         refine rt 7 (v := ?_) rfl (by intro w _; go_simp; first | done | with_reducible rfl) hS ?_
         (try simp only [Act.put, List.setIfInBounds_toArray, List.set_cons_zero, List.set_cons_succ])
         refine rt 8 (v := ?_) rfl (by intro w _; go_simp; first | done | with_reducible rfl) hS ?_
         (try simp only [Act.put, List.setIfInBounds_toArray, List.set_cons_zero, List.set_cons_succ])
         clear KP1
         refine reg_call 11 rfl (by kernel_rfl) (by rfl) (fun K hK => ?_)
         have ec0 := HX9.out.1
         have ec1 := HX9.out.2.1
         have ec2 := HX9.out.2.2.1
         have ec3 := HX9.out.2.2.2.1
         have ec4 := HX9.out.2.2.2.2.1
         have ec5 := HX9.out.2.2.2.2.2
         go_simp
         refine hK.out _ _ (KS1.out _ y2.heap.size (.int .i64 M1) (.int .i64 N1) (.slice aA L1.length cA) (by omega) hS) (fun hS' => ?_)
         clear hK K hS ec0 ec1 ec2 ec3 ec4 ec5; have hS := hS'; clear hS'
         (try simp only [Act.put, List.setIfInBounds_toArray, List.set_cons_zero, List.set_cons_succ])
         have HY := Lib.hid (HX10.out.far3e (show y2.heap.size ≠ U0.heap.size by omega) (.int .i64 M1) (.int .i64 N1) (.slice aA L1.length cA))
         refine reg_call 12 rfl (by kernel_rfl) (by rfl) (fun K hK => ?_)
         have ec0 := HY.out.1
         have ec1 := HY.out.2.1
         have ec2 := HY.out.2.2.1
         have ec3 := HY.out.2.2.2.1
         have ec4 := HY.out.2.2.2.2.1
         have ec5 := HY.out.2.2.2.2.2
         go_simp
         refine hK.out _ _ (KS1.out _ U0.heap.size (.int .i64 M2) (.int .i64 N2) (.slice aB L2.length cB) (by omega) hS) (fun hS' => ?_)
         clear hK K hS ec0 ec1 ec2 ec3 ec4 ec5; have hS := hS'; clear hS'
         (try simp only [Act.put, List.setIfInBounds_toArray, List.set_cons_zero, List.set_cons_succ])
         refine rt 13 (v := ?_) rfl (by intro w _; go_simp; first | done | with_reducible rfl) hS ?_
         (try simp only [Act.put, List.setIfInBounds_toArray, List.set_cons_zero, List.set_cons_succ])
         refine wpAnyH_done (by kernel_rfl) ?_ _
         have HBW := Lib.hid hS.2.2.2.2.2
         clear hS
         go_wp2_with fail
         go_meet
         exact wws_end HX9.out HX10.out (show y2.heap.size ≠ U0.heap.size by omega) (RA0.out.wide (lo' := y4.heap.size) (hi' := y5.heap.size) (by omega) (by omega)) (RB0.out.wide (by omega) (by omega)) (by omega) (by omega) (by omega) (by omega) (by omega) (by omega) HBW.out
       · as_aux_lemma =>
         go_simp
         refine hK.out _ _ (KP1.out _ _ (bel0 _ _) hS) (fun hS' => ?_)
         clear hK K hS; have hS := hS'; clear hS'
         (try simp only [Act.put, List.setIfInBounds_toArray, List.set_cons_zero, List.set_cons_succ])
         obtain ⟨V2, hV, hbe, hx, hzV2⟩ := zstep V1
         have HX9 := Lib.hid hx
         have HX10 := Lib.hid (HX10.out.below hbe (by omega))
         rw [← hV] at hS ⊢
         clear hV hbe hx
         refine reg_call 1 rfl (by kernel_rfl) (by rfl) (fun K hK => ?_)
         go_simp
         go_at_call 25
         refine (args_eqL (CT.out _ hS) (by with_reducible rfl)).mono ?_
         rintro e y3 ⟨v, rfl, RR, hb⟩
         obtain ⟨aT, cT, rfl⟩ := RR.form
         have RT0 := Lib.hid RR
         clear RR
         have hzy3 := hb.size
         have HX10 := Lib.hid (HX10.out.below hb (by omega))
         have HX9 := Lib.hid (HX9.out.below hb (by omega))
         refine hK.out _ _ (KP1.out _ _ hb hS) (fun hS' => ?_)
         clear hK K hS; have hS := hS'; clear hS'
         (try simp only [Act.put, List.setIfInBounds_toArray, List.set_cons_zero, List.set_cons_succ])
         clear hb
         refine reg_call 3 rfl (by kernel_rfl) (by rfl) (fun K hK => ?_)
         go_simp
         go_at_call 26
         refine (args_eqL (ToCut_any up z _) (by with_reducible rfl)).mono ?_
         rintro e y4 ⟨rfl, hb⟩
         have hzy4 := hb.size
         have HX10 := Lib.hid (HX10.out.below hb (by omega))
         have HX9 := Lib.hid (HX9.out.below hb (by omega))
         have RT0 := Lib.hid (RT0.out.below (hb.mono (by omega)))
         refine hK.out _ _ (KP1.out _ _ hb hS) (fun hS' => ?_)
         clear hK K hS; have hS := hS'; clear hS'
         (try simp only [Act.put, List.setIfInBounds_toArray, List.set_cons_zero, List.set_cons_succ])
         clear hb
         refine reg_call 4 rfl (by kernel_rfl) (by rfl) (fun K hK => ?_)
         go_simp
         go_at_call 32
         refine (args_eqL (CSH.out _ _ _ _ RT0.out (by omega)) (by with_reducible rfl)).mono ?_
         rintro e y5 ⟨vA, vB, rfl, RA, RB, hb⟩
         have RA0 := Lib.hid RA
         have RB0 := Lib.hid RB
         obtain ⟨aA, cA, rfl⟩ := RA.form
         obtain ⟨aB, cB, rfl⟩ := RB.form
         clear RA RB
         have hzy5 := hb.size
         have HX10 := Lib.hid (HX10.out.below hb (by omega))
         have HX9 := Lib.hid (HX9.out.below hb (by omega))
         refine hK.out _ _ (KP1.out _ _ hb hS) (fun hS' => ?_)
         clear hK K hS; have hS := hS'; clear hS'
         (try simp only [Act.put, List.setIfInBounds_toArray, List.set_cons_zero, List.set_cons_succ])
         clear hb
         refine rt 5 (v := ?_) rfl (by intro w _; go_simp; first | done | with_reducible rfl) hS ?_
         (try simp only [Act.put, List.setIfInBounds_toArray, List.set_cons_zero, List.set_cons_succ])
         refine rt 6 (v := ?_) rfl (by intro w _; go_simp; first | done | with_reducible rfl) hS ?_
         (try simp only [Act.put, List.setIfInBounds_toArray, List.set_cons_zero, List.set_cons_succ])
         refine rt 7 (v := ?_) rfl (by intro w _; go_simp; first | done | with_reducible rfl) hS ?_
         (try simp only [Act.put, List.setIfInBounds_toArray, List.set_cons_zero, List.set_cons_succ])
         refine rt 8 (v := ?_) rfl (by intro w _; go_simp; first | done | with_reducible rfl) hS ?_
         (try simp only [Act.put, List.setIfInBounds_toArray, List.set_cons_zero, List.set_cons_succ])
         clear KP1
         refine reg_call 11 rfl (by kernel_rfl) (by rfl) (fun K hK => ?_)
         have ec0 := HX9.out.1
         have ec1 := HX9.out.2.1
         have ec2 := HX9.out.2.2.1
         have ec3 := HX9.out.2.2.2.1
         have ec4 := HX9.out.2.2.2.2.1
         have ec5 := HX9.out.2.2.2.2.2
         go_simp
         refine hK.out _ _ (KS1.out _ V1.heap.size (.int .i64 M1) (.int .i64 N1) (.slice aA L1.length cA) (by omega) hS) (fun hS' => ?_)
         clear hK K hS ec0 ec1 ec2 ec3 ec4 ec5; have hS := hS'; clear hS'
         (try simp only [Act.put, List.setIfInBounds_toArray, List.set_cons_zero, List.set_cons_succ])
         have HY := Lib.hid (HX10.out.far3e (show V1.heap.size ≠ U0.heap.size by omega) (.int .i64 M1) (.int .i64 N1) (.slice aA L1.length cA))
         refine reg_call 12 rfl (by kernel_rfl) (by rfl) (fun K hK => ?_)
         have ec0 := HY.out.1
         have ec1 := HY.out.2.1
         have ec2 := HY.out.2.2.1
         have ec3 := HY.out.2.2.2.1
         have ec4 := HY.out.2.2.2.2.1
         have ec5 := HY.out.2.2.2.2.2
         go_simp
         refine hK.out _ _ (KS1.out _ U0.heap.size (.int .i64 M2) (.int .i64 N2) (.slice aB L2.length cB) (by omega) hS) (fun hS' => ?_)
         clear hK K hS ec0 ec1 ec2 ec3 ec4 ec5; have hS := hS'; clear hS'
         (try simp only [Act.put, List.setIfInBounds_toArray, List.set_cons_zero, List.set_cons_succ])
         refine rt 13 (v := ?_) rfl (by intro w _; go_simp; first | done | with_reducible rfl) hS ?_
         (try simp only [Act.put, List.setIfInBounds_toArray, List.set_cons_zero, List.set_cons_succ])
         refine wpAnyH_done (by kernel_rfl) ?_ _
         have HBW := Lib.hid hS.2.2.2.2.2
         clear hS
         go_wp2_with fail
         go_meet
         exact wws_end HX9.out HX10.out (show V1.heap.size ≠ U0.heap.size by omega) (RA0.out.wide (lo' := y4.heap.size) (hi' := y5.heap.size) (by omega) (by omega)) (RB0.out.wide (by omega) (by omega)) (by omega) (by omega) (by omega) (by omega) (by omega) (by omega) HBW.out
    case rest =>
     as_aux_lemma =>
      obtain ⟨pP, pQ, aP, cP, aQ, cQ, loP, hiP, rfl, rfl, rfl, HXA, HXB, HRA, HRB, lzP, hzP, pzP, pzQ, HBW⟩ := hcut
      generalize wc = w2 at *
      have hb := HBW.out
      have XP_ := Tri.of_box HXA.out
      have XQ_ := Tri.of_box HXB.out
      have RP_ := HRA.out
      have RQ_ := HRB.out
      clear HXA HXB HRA HRB HBW S0 KP1 KS1 CT cL0 cL1 cL2 cC0 cC1
      have XL := XL.keep hb
      have XC := XC.keep hb
      have B := bel_c B (Nat.le_refl _) hb
      have zw2 : w1.heap.size ≤ w2.heap.size := hb.size
      clear hb
      have XP := XP_
      have XQ := XQ_
      have RP := RP_
      have RQ := RQ_
      clear XP_ XQ_ RP_ RQ_
      have qP := XP.lt
      have qQ := XQ.lt
      obtain ⟨cL0, cL1, cL2⟩ := id XL
      go_wp2_with fail
      clear cL0 cL1 cL2
      refine (ToLayout_any m n a len cap xs _ (HA.out _ B) hl).mono ?_
      rintro e w3 ⟨v, rfl, R, hb⟩
      obtain ⟨ax, cx, rfl⟩ := R.form
      have XL := XL.keep hb
      have XC := XC.keep hb
      have XP := XP.keep hb
      have XQ := XQ.keep hb
      have RP := RP.below (hb.mono (by omega))
      have RQ := RQ.below (hb.mono (by omega))
      have B := bel_c B (Nat.le_refl _) hb
      have zw3 : w2.heap.size ≤ w3.heap.size := hb.size
      clear hb
      have Rx := R
      clear R
      have NB := bel0 w3 (.cells #[.int .i64 m, .int .i64 n, .slice ax xs.length cx] 26)
      have XL := XL.keep NB
      have XC := XC.keep NB
      have XP := XP.keep NB
      have XQ := XQ.keep NB
      have RP := RP.below (NB.mono (by omega))
      have RQ := RQ.below (NB.mono (by omega))
      have Rx := Rx.below (NB.mono (by omega))
      have B := bel_n B (Nat.le_refl _) (.cells #[.int .i64 m, .int .i64 n, .slice ax xs.length cx] 26)
      have XX := Tri.new w3 (.int .i64 m) (.int .i64 n) (.slice ax xs.length cx) 26
      have zw4 : w3.heap.size + 1 ≤ (w3.alloc (.cells #[.int .i64 m, .int .i64 n, .slice ax xs.length cx] 26)).heap.size := by simp
      obtain ⟨w4, hV⟩ : ∃ V, V = w3.alloc (.cells #[.int .i64 m, .int .i64 n, .slice ax xs.length cx] 26) := ⟨_, rfl⟩
      rw [← hV] at B zw4 XL XC XP XQ XX RP RQ Rx
      go_wp2_with fail
      rw [← hV]
      clear hV NB
      have KP : ∀ u v : World, Below u.heap.size u v → (u.cell? ⟨w.heap.size, 0, none⟩ = some (.int .i64 m) ∧ u.cell? ⟨w.heap.size, 1, none⟩ = some (.int .i64 n) ∧ u.cell? ⟨w.heap.size, 2, none⟩ = some (.slice a len cap) ∧ u.cell? ⟨w.heap.size + 1, 0, none⟩ = some (.bool up) ∧ u.cell? ⟨w.heap.size + 1, 1, none⟩ = some (.int .i64 z) ∧ u.cell? ⟨w3.heap.size, 0, none⟩ = some (.int .i64 m) ∧ u.cell? ⟨w3.heap.size, 1, none⟩ = some (.int .i64 n) ∧ u.cell? ⟨w3.heap.size, 2, none⟩ = some (.slice ax xs.length cx) ∧ Below w4.heap.size w4 u) → (v.cell? ⟨w.heap.size, 0, none⟩ = some (.int .i64 m) ∧ v.cell? ⟨w.heap.size, 1, none⟩ = some (.int .i64 n) ∧ v.cell? ⟨w.heap.size, 2, none⟩ = some (.slice a len cap) ∧ v.cell? ⟨w.heap.size + 1, 0, none⟩ = some (.bool up) ∧ v.cell? ⟨w.heap.size + 1, 1, none⟩ = some (.int .i64 z) ∧ v.cell? ⟨w3.heap.size, 0, none⟩ = some (.int .i64 m) ∧ v.cell? ⟨w3.heap.size, 1, none⟩ = some (.int .i64 n) ∧ v.cell? ⟨w3.heap.size, 2, none⟩ = some (.slice ax xs.length cx) ∧ Below w4.heap.size w4 v) := fun u v hb h => ⟨kept hb h.1, kept hb h.2.1, kept hb h.2.2.1, kept hb h.2.2.2.1, kept hb h.2.2.2.2.1, kept hb h.2.2.2.2.2.1, kept hb h.2.2.2.2.2.2.1, kept hb h.2.2.2.2.2.2.2.1, bel_c h.2.2.2.2.2.2.2.2 (Nat.le_refl _) hb⟩
      have D0 : Below w4.heap.size w4 w4.drew := ⟨rfl, rfl, rfl, Nat.le_refl _, fun _ _ => rfl⟩
      have S0 : w4.drew.cell? ⟨w.heap.size, 0, none⟩ = some (.int .i64 m) ∧ w4.drew.cell? ⟨w.heap.size, 1, none⟩ = some (.int .i64 n) ∧ w4.drew.cell? ⟨w.heap.size, 2, none⟩ = some (.slice a len cap) ∧ w4.drew.cell? ⟨w.heap.size + 1, 0, none⟩ = some (.bool up) ∧ w4.drew.cell? ⟨w.heap.size + 1, 1, none⟩ = some (.int .i64 z) ∧ w4.drew.cell? ⟨w3.heap.size, 0, none⟩ = some (.int .i64 m) ∧ w4.drew.cell? ⟨w3.heap.size, 1, none⟩ = some (.int .i64 n) ∧ w4.drew.cell? ⟨w3.heap.size, 2, none⟩ = some (.slice ax xs.length cx) ∧ Below w4.heap.size w4 w4.drew := ⟨kept D0 XL.1, kept D0 XL.2.1, kept D0 XL.2.2, kept D0 XC.1, kept D0 XC.2, kept D0 XX.1, kept D0 XX.2.1, kept D0 XX.2.2, D0⟩
      have KS : ∀ (u : World) (p : Nat) (x0 x1 x2 : Value), w4.heap.size ≤ p → (u.cell? ⟨w.heap.size, 0, none⟩ = some (.int .i64 m) ∧ u.cell? ⟨w.heap.size, 1, none⟩ = some (.int .i64 n) ∧ u.cell? ⟨w.heap.size, 2, none⟩ = some (.slice a len cap) ∧ u.cell? ⟨w.heap.size + 1, 0, none⟩ = some (.bool up) ∧ u.cell? ⟨w.heap.size + 1, 1, none⟩ = some (.int .i64 z) ∧ u.cell? ⟨w3.heap.size, 0, none⟩ = some (.int .i64 m) ∧ u.cell? ⟨w3.heap.size, 1, none⟩ = some (.int .i64 n) ∧ u.cell? ⟨w3.heap.size, 2, none⟩ = some (.slice ax xs.length cx) ∧ Below w4.heap.size w4 u) → ((set3 u p x0 x1 x2).cell? ⟨w.heap.size, 0, none⟩ = some (.int .i64 m) ∧ (set3 u p x0 x1 x2).cell? ⟨w.heap.size, 1, none⟩ = some (.int .i64 n) ∧ (set3 u p x0 x1 x2).cell? ⟨w.heap.size, 2, none⟩ = some (.slice a len cap) ∧ (set3 u p x0 x1 x2).cell? ⟨w.heap.size + 1, 0, none⟩ = some (.bool up) ∧ (set3 u p x0 x1 x2).cell? ⟨w.heap.size + 1, 1, none⟩ = some (.int .i64 z) ∧ (set3 u p x0 x1 x2).cell? ⟨w3.heap.size, 0, none⟩ = some (.int .i64 m) ∧ (set3 u p x0 x1 x2).cell? ⟨w3.heap.size, 1, none⟩ = some (.int .i64 n) ∧ (set3 u p x0 x1 x2).cell? ⟨w3.heap.size, 2, none⟩ = some (.slice ax xs.length cx) ∧ Below w4.heap.size w4 (set3 u p x0 x1 x2)) := fun u p x0 x1 x2 hp h => ⟨(set3_far (by first | omega | (simp; omega))).trans h.1, (set3_far (by first | omega | (simp; omega))).trans h.2.1, (set3_far (by first | omega | (simp; omega))).trans h.2.2.1, (set3_far (by first | omega | (simp; omega))).trans h.2.2.2.1, (set3_far (by first | omega | (simp; omega))).trans h.2.2.2.2.1, (set3_far (by first | omega | (simp; omega))).trans h.2.2.2.2.2.1, (set3_far (by first | omega | (simp; omega))).trans h.2.2.2.2.2.2.1, (set3_far (by first | omega | (simp; omega))).trans h.2.2.2.2.2.2.2.1, ((h.2.2.2.2.2.2.2.2.setCell hp _).setCell hp _).setCell hp _⟩
      have KP1 := Lib.hid KP
      have KS1 := Lib.hid KS
      have RXU : Hid (∀ u : World, (u.cell? ⟨w.heap.size, 0, none⟩ = some (.int .i64 m) ∧ u.cell? ⟨w.heap.size, 1, none⟩ = some (.int .i64 n) ∧ u.cell? ⟨w.heap.size, 2, none⟩ = some (.slice a len cap) ∧ u.cell? ⟨w.heap.size + 1, 0, none⟩ = some (.bool up) ∧ u.cell? ⟨w.heap.size + 1, 1, none⟩ = some (.int .i64 z) ∧ u.cell? ⟨w3.heap.size, 0, none⟩ = some (.int .i64 m) ∧ u.cell? ⟨w3.heap.size, 1, none⟩ = some (.int .i64 n) ∧ u.cell? ⟨w3.heap.size, 2, none⟩ = some (.slice ax xs.length cx) ∧ Below w4.heap.size w4 u) → PatIn w2.heap.size w3.heap.size u (.slice ax xs.length cx) xs ∧ w3.heap.size ≤ u.heap.size) := Lib.hid (fun u h => ⟨Rx.below (h.2.2.2.2.2.2.2.2.mono (by omega)), by have := h.2.2.2.2.2.2.2.2.size; omega⟩)
      clear KP KS D0
      obtain ⟨cL0, cL1, cL2⟩ := id XL
      obtain ⟨cC0, cC1⟩ := id XC
      obtain ⟨cX0, cX1, cX2⟩ := id XX
      go_upto_region 7 with fail
      go_cut [10, 11, 12] (fun q t r wx => WWI w4 M1 N1 M2 N2 L1 L2 ok q t r wx)
      case first =>
       (try simp only [List.append_eq, List.cons_append, List.nil_append])
       have hS := S0
       refine reg_begin (fun w' => w'.cell? ⟨w.heap.size, 0, none⟩ = some (.int .i64 m) ∧ w'.cell? ⟨w.heap.size, 1, none⟩ = some (.int .i64 n) ∧ w'.cell? ⟨w.heap.size, 2, none⟩ = some (.slice a len cap) ∧ w'.cell? ⟨w.heap.size + 1, 0, none⟩ = some (.bool up) ∧ w'.cell? ⟨w.heap.size + 1, 1, none⟩ = some (.int .i64 z) ∧ w'.cell? ⟨w3.heap.size, 0, none⟩ = some (.int .i64 m) ∧ w'.cell? ⟨w3.heap.size, 1, none⟩ = some (.int .i64 n) ∧ w'.cell? ⟨w3.heap.size, 2, none⟩ = some (.slice ax xs.length cx) ∧ Below w4.heap.size w4 w') (by kernel_rfl) hS ?_
       refine rt 0 (v := ?_) rfl (by intro w hSw; (try dsimp only at hSw); go_simp; first | done | with_reducible rfl) hS ?_
       (try simp only [Act.put, List.setIfInBounds_toArray, List.set_cons_zero, List.set_cons_succ])
       refine rt 1 (v := ?_) rfl (by intro w hSw; (try dsimp only at hSw); go_simp; first | done | with_reducible rfl) hS ?_
       (try simp only [Act.put, List.setIfInBounds_toArray, List.set_cons_zero, List.set_cons_succ])
       have hz0 : w4.drew.heap.size ≤ w4.heap.size ∧ w4.heap.size ≤ w4.drew.heap.size := ⟨Nat.le_refl _, Nat.le_refl _⟩
       generalize w4.drew = U0 at hS hz0 ⊢
       refine reg_three 2 8 9 rfl rfl rfl (by kernel_rfl) (by rfl) (by rfl) (by rfl) (fun K hK => ?_) (fun K hK => ?_) (fun K hK => ?_)
       · as_aux_lemma =>
         go_simp
         go_at_call 26
         refine (args_eqL (ToCut_any up z _) (by with_reducible rfl)).mono ?_
         rintro e y1 ⟨rfl, hb⟩
         have hzy1 := hb.size
         refine hK.out _ _ (KP1.out _ _ hb hS) (fun hS' => ?_)
         clear hK K hS; have hS := hS'; clear hS'
         (try simp only [Act.put, List.setIfInBounds_toArray, List.set_cons_zero, List.set_cons_succ])
         clear hb
         refine reg_three 3 8 9 rfl rfl rfl (by kernel_rfl) (by rfl) (by rfl) (by rfl) (fun K hK => ?_) (fun K hK => ?_) (fun K hK => ?_)
         · as_aux_lemma =>
           go_simp
           go_at_call 18
           refine (args_eqL (CIH.out _ _ _ _ (RXU.out _ hS).1 (RXU.out _ hS).2) (by with_reducible rfl)).mono ?_
           rintro e y2 ⟨vA, vB, k, rfl, RA, RB, hk1, hk2, hb⟩
           have RA0 := Lib.hid RA
           have RB0 := Lib.hid RB
           obtain ⟨aA, cA, rfl⟩ := RA.form
           obtain ⟨aB, cB, rfl⟩ := RB.form
           clear RA RB
           have hzy2 := hb.size
           refine hK.out _ _ (KP1.out _ _ hb hS) (fun hS' => ?_)
           clear hK K hS; have hS := hS'; clear hS'
           (try simp only [Act.put, List.setIfInBounds_toArray, List.set_cons_zero, List.set_cons_succ])
           clear hb
           refine rt 4 (v := ?_) rfl (by intro w _; go_simp; first | done | with_reducible rfl) hS ?_
           (try simp only [Act.put, List.setIfInBounds_toArray, List.set_cons_zero, List.set_cons_succ])
           refine rt 5 (v := ?_) rfl (by intro w _; go_simp; first | done | with_reducible rfl) hS ?_
           (try simp only [Act.put, List.setIfInBounds_toArray, List.set_cons_zero, List.set_cons_succ])
           refine rt 6 (v := ?_) rfl (by intro w _; go_simp; first | done | with_reducible rfl) hS ?_
           (try simp only [Act.put, List.setIfInBounds_toArray, List.set_cons_zero, List.set_cons_succ])
           refine rt 7 (v := ?_) rfl (by intro w _; go_simp; first | done | with_reducible rfl) hS ?_
           (try simp only [Act.put, List.setIfInBounds_toArray, List.set_cons_zero, List.set_cons_succ])
           refine reg_two 8 9 rfl rfl (by kernel_rfl) (by rfl) (by rfl) (fun K hK => ?_) (fun K hK => ?_)
           go_simp
           refine hK.out _ _ (KP1.out _ _ (bel0 _ _) hS) (fun hS' => ?_)
           clear hK K hS; have hS := hS'; clear hS'
           (try simp only [Act.put, List.setIfInBounds_toArray, List.set_cons_zero, List.set_cons_succ])
           obtain ⟨V3, hV, hbe, hx, hzV3⟩ := zstep y2
           have HX8 := Lib.hid hx
           have RA0 := Lib.hid (RA0.out.below (hbe.mono (by omega)))
           have RB0 := Lib.hid (RB0.out.below (hbe.mono (by omega)))
           rw [← hV] at hS ⊢
           clear hV hbe hx
           refine reg_call 9 rfl (by kernel_rfl) (by rfl) (fun K hK => ?_)
           go_simp
           refine hK.out _ _ (KP1.out _ _ (bel0 _ _) hS) (fun hS' => ?_)
           clear hK K hS; have hS := hS'; clear hS'
           (try simp only [Act.put, List.setIfInBounds_toArray, List.set_cons_zero, List.set_cons_succ])
           obtain ⟨V4, hV, hbe, hx, hzV4⟩ := zstep V3
           have HX9 := Lib.hid hx
           have HX8 := Lib.hid (HX8.out.below hbe (by omega))
           have RA0 := Lib.hid (RA0.out.below (hbe.mono (by omega)))
           have RB0 := Lib.hid (RB0.out.below (hbe.mono (by omega)))
           rw [← hV] at hS ⊢
           clear hV hbe hx
           clear KP1
           refine reg_call 10 rfl (by kernel_rfl) (by rfl) (fun K hK => ?_)
           have ec0 := HX8.out.1
           have ec1 := HX8.out.2.1
           have ec2 := HX8.out.2.2.1
           have ec3 := HX8.out.2.2.2.1
           have ec4 := HX8.out.2.2.2.2.1
           have ec5 := HX8.out.2.2.2.2.2
           go_simp
           refine hK.out _ _ (KS1.out _ y2.heap.size (.int .i64 M1) (.int .i64 N1) (.slice aA L1.length cA) (by omega) hS) (fun hS' => ?_)
           clear hK K hS ec0 ec1 ec2 ec3 ec4 ec5; have hS := hS'; clear hS'
           (try simp only [Act.put, List.setIfInBounds_toArray, List.set_cons_zero, List.set_cons_succ])
           have HY := Lib.hid (HX9.out.far3e (show y2.heap.size ≠ V3.heap.size by omega) (.int .i64 M1) (.int .i64 N1) (.slice aA L1.length cA))
           refine reg_call 11 rfl (by kernel_rfl) (by rfl) (fun K hK => ?_)
           have ec0 := HY.out.1
           have ec1 := HY.out.2.1
           have ec2 := HY.out.2.2.1
           have ec3 := HY.out.2.2.2.1
           have ec4 := HY.out.2.2.2.2.1
           have ec5 := HY.out.2.2.2.2.2
           go_simp
           refine hK.out _ _ (KS1.out _ V3.heap.size (.int .i64 M2) (.int .i64 N2) (.slice aB L2.length cB) (by omega) hS) (fun hS' => ?_)
           clear hK K hS ec0 ec1 ec2 ec3 ec4 ec5; have hS := hS'; clear hS'
           (try simp only [Act.put, List.setIfInBounds_toArray, List.set_cons_zero, List.set_cons_succ])
           refine rt 12 (v := ?_) rfl (by intro w _; go_simp; first | done | with_reducible rfl) hS ?_
           (try simp only [Act.put, List.setIfInBounds_toArray, List.set_cons_zero, List.set_cons_succ])
           refine wpAnyH_done (by kernel_rfl) ?_ _
           have HBW := Lib.hid hS.2.2.2.2.2.2.2.2
           clear hS
           go_wp2_with fail
           go_meet
           exact wwi_end HX8.out HX9.out (show y2.heap.size ≠ V3.heap.size by omega) RA0.out RB0.out (by omega) (by omega) (by omega) (by omega) (by omega) (by omega) (by omega) (by omega) HBW.out
           go_simp
           refine hK.out _ _ (KP1.out _ _ (bel0 _ _) hS) (fun hS' => ?_)
           clear hK K hS; have hS := hS'; clear hS'
           (try simp only [Act.put, List.setIfInBounds_toArray, List.set_cons_zero, List.set_cons_succ])
           obtain ⟨V3, hV, hbe, hx, hzV3⟩ := zstep y2
           have HX9 := Lib.hid hx
           have RA0 := Lib.hid (RA0.out.below (hbe.mono (by omega)))
           have RB0 := Lib.hid (RB0.out.below (hbe.mono (by omega)))
           rw [← hV] at hS ⊢
           clear hV hbe hx
           refine reg_call 8 rfl (by kernel_rfl) (by rfl) (fun K hK => ?_)
           go_simp
           refine hK.out _ _ (KP1.out _ _ (bel0 _ _) hS) (fun hS' => ?_)
           clear hK K hS; have hS := hS'; clear hS'
           (try simp only [Act.put, List.setIfInBounds_toArray, List.set_cons_zero, List.set_cons_succ])
           obtain ⟨V4, hV, hbe, hx, hzV4⟩ := zstep V3
           have HX8 := Lib.hid hx
           have HX9 := Lib.hid (HX9.out.below hbe (by omega))
           have RA0 := Lib.hid (RA0.out.below (hbe.mono (by omega)))
           have RB0 := Lib.hid (RB0.out.below (hbe.mono (by omega)))
           rw [← hV] at hS ⊢
           clear hV hbe hx
           clear KP1
           refine reg_call 10 rfl (by kernel_rfl) (by rfl) (fun K hK => ?_)
           have ec0 := HX8.out.1
           have ec1 := HX8.out.2.1
           have ec2 := HX8.out.2.2.1
           have ec3 := HX8.out.2.2.2.1
           have ec4 := HX8.out.2.2.2.2.1
           have ec5 := HX8.out.2.2.2.2.2
           go_simp
           refine hK.out _ _ (KS1.out _ V3.heap.size (.int .i64 M1) (.int .i64 N1) (.slice aA L1.length cA) (by omega) hS) (fun hS' => ?_)
           clear hK K hS ec0 ec1 ec2 ec3 ec4 ec5; have hS := hS'; clear hS'
           (try simp only [Act.put, List.setIfInBounds_toArray, List.set_cons_zero, List.set_cons_succ])
           have HY := Lib.hid (HX9.out.far3e (show V3.heap.size ≠ y2.heap.size by omega) (.int .i64 M1) (.int .i64 N1) (.slice aA L1.length cA))
           refine reg_call 11 rfl (by kernel_rfl) (by rfl) (fun K hK => ?_)
           have ec0 := HY.out.1
           have ec1 := HY.out.2.1
           have ec2 := HY.out.2.2.1
           have ec3 := HY.out.2.2.2.1
           have ec4 := HY.out.2.2.2.2.1
           have ec5 := HY.out.2.2.2.2.2
           go_simp
           refine hK.out _ _ (KS1.out _ y2.heap.size (.int .i64 M2) (.int .i64 N2) (.slice aB L2.length cB) (by omega) hS) (fun hS' => ?_)
           clear hK K hS ec0 ec1 ec2 ec3 ec4 ec5; have hS := hS'; clear hS'
           (try simp only [Act.put, List.setIfInBounds_toArray, List.set_cons_zero, List.set_cons_succ])
           refine rt 12 (v := ?_) rfl (by intro w _; go_simp; first | done | with_reducible rfl) hS ?_
           (try simp only [Act.put, List.setIfInBounds_toArray, List.set_cons_zero, List.set_cons_succ])
           refine wpAnyH_done (by kernel_rfl) ?_ _
           have HBW := Lib.hid hS.2.2.2.2.2.2.2.2
           clear hS
           go_wp2_with fail
           go_meet
           exact wwi_end HX8.out HX9.out (show V3.heap.size ≠ y2.heap.size by omega) RA0.out RB0.out (by omega) (by omega) (by omega) (by omega) (by omega) (by omega) (by omega) (by omega) HBW.out
         · as_aux_lemma =>
           go_simp
           refine hK.out _ _ (KP1.out _ _ (bel0 _ _) hS) (fun hS' => ?_)
           clear hK K hS; have hS := hS'; clear hS'
           (try simp only [Act.put, List.setIfInBounds_toArray, List.set_cons_zero, List.set_cons_succ])
           obtain ⟨V2, hV, hbe, hx, hzV2⟩ := zstep y1
           have HX8 := Lib.hid hx
           rw [← hV] at hS ⊢
           clear hV hbe hx
           refine reg_two 3 9 rfl rfl (by kernel_rfl) (by rfl) (by rfl) (fun K hK => ?_) (fun K hK => ?_)
           go_simp
           go_at_call 18
           refine (args_eqL (CIH.out _ _ _ _ (RXU.out _ hS).1 (RXU.out _ hS).2) (by with_reducible rfl)).mono ?_
           rintro e y3 ⟨vA, vB, k, rfl, RA, RB, hk1, hk2, hb⟩
           have RA0 := Lib.hid RA
           have RB0 := Lib.hid RB
           obtain ⟨aA, cA, rfl⟩ := RA.form
           obtain ⟨aB, cB, rfl⟩ := RB.form
           clear RA RB
           have hzy3 := hb.size
           have HX8 := Lib.hid (HX8.out.below hb (by omega))
           refine hK.out _ _ (KP1.out _ _ hb hS) (fun hS' => ?_)
           clear hK K hS; have hS := hS'; clear hS'
           (try simp only [Act.put, List.setIfInBounds_toArray, List.set_cons_zero, List.set_cons_succ])
           clear hb
           refine rt 4 (v := ?_) rfl (by intro w _; go_simp; first | done | with_reducible rfl) hS ?_
           (try simp only [Act.put, List.setIfInBounds_toArray, List.set_cons_zero, List.set_cons_succ])
           refine rt 5 (v := ?_) rfl (by intro w _; go_simp; first | done | with_reducible rfl) hS ?_
           (try simp only [Act.put, List.setIfInBounds_toArray, List.set_cons_zero, List.set_cons_succ])
           refine rt 6 (v := ?_) rfl (by intro w _; go_simp; first | done | with_reducible rfl) hS ?_
           (try simp only [Act.put, List.setIfInBounds_toArray, List.set_cons_zero, List.set_cons_succ])
           refine rt 7 (v := ?_) rfl (by intro w _; go_simp; first | done | with_reducible rfl) hS ?_
           (try simp only [Act.put, List.setIfInBounds_toArray, List.set_cons_zero, List.set_cons_succ])
           refine reg_call 9 rfl (by kernel_rfl) (by rfl) (fun K hK => ?_)
           go_simp
           refine hK.out _ _ (KP1.out _ _ (bel0 _ _) hS) (fun hS' => ?_)
           clear hK K hS; have hS := hS'; clear hS'
           (try simp only [Act.put, List.setIfInBounds_toArray, List.set_cons_zero, List.set_cons_succ])
           obtain ⟨V4, hV, hbe, hx, hzV4⟩ := zstep y3
           have HX9 := Lib.hid hx
           have HX8 := Lib.hid (HX8.out.below hbe (by omega))
           have RA0 := Lib.hid (RA0.out.below (hbe.mono (by omega)))
           have RB0 := Lib.hid (RB0.out.below (hbe.mono (by omega)))
           rw [← hV] at hS ⊢
           clear hV hbe hx
           clear KP1
           refine reg_call 10 rfl (by kernel_rfl) (by rfl) (fun K hK => ?_)
           have ec0 := HX8.out.1
           have ec1 := HX8.out.2.1
           have ec2 := HX8.out.2.2.1
           have ec3 := HX8.out.2.2.2.1
           have ec4 := HX8.out.2.2.2.2.1
           have ec5 := HX8.out.2.2.2.2.2
           go_simp
           refine hK.out _ _ (KS1.out _ y1.heap.size (.int .i64 M1) (.int .i64 N1) (.slice aA L1.length cA) (by omega) hS) (fun hS' => ?_)
           clear hK K hS ec0 ec1 ec2 ec3 ec4 ec5; have hS := hS'; clear hS'
           (try simp only [Act.put, List.setIfInBounds_toArray, List.set_cons_zero, List.set_cons_succ])
           have HY := Lib.hid (HX9.out.far3e (show y1.heap.size ≠ y3.heap.size by omega) (.int .i64 M1) (.int .i64 N1) (.slice aA L1.length cA))
           refine reg_call 11 rfl (by kernel_rfl) (by rfl) (fun K hK => ?_)
           have ec0 := HY.out.1
           have ec1 := HY.out.2.1
           have ec2 := HY.out.2.2.1
           have ec3 := HY.out.2.2.2.1
           have ec4 := HY.out.2.2.2.2.1
           have ec5 := HY.out.2.2.2.2.2
           go_simp
           refine hK.out _ _ (KS1.out _ y3.heap.size (.int .i64 M2) (.int .i64 N2) (.slice aB L2.length cB) (by omega) hS) (fun hS' => ?_)
           clear hK K hS ec0 ec1 ec2 ec3 ec4 ec5; have hS := hS'; clear hS'
           (try simp only [Act.put, List.setIfInBounds_toArray, List.set_cons_zero, List.set_cons_succ])
           refine rt 12 (v := ?_) rfl (by intro w _; go_simp; first | done | with_reducible rfl) hS ?_
           (try simp only [Act.put, List.setIfInBounds_toArray, List.set_cons_zero, List.set_cons_succ])
           refine wpAnyH_done (by kernel_rfl) ?_ _
           have HBW := Lib.hid hS.2.2.2.2.2.2.2.2
           clear hS
           go_wp2_with fail
           go_meet
           exact wwi_end HX8.out HX9.out (show y1.heap.size ≠ y3.heap.size by omega) RA0.out RB0.out (by omega) (by omega) (by omega) (by omega) (by omega) (by omega) (by omega) (by omega) HBW.out
           go_simp
           refine hK.out _ _ (KP1.out _ _ (bel0 _ _) hS) (fun hS' => ?_)
           clear hK K hS; have hS := hS'; clear hS'
           (try simp only [Act.put, List.setIfInBounds_toArray, List.set_cons_zero, List.set_cons_succ])
           obtain ⟨V3, hV, hbe, hx, hzV3⟩ := zstep V2
           have HX9 := Lib.hid hx
           have HX8 := Lib.hid (HX8.out.below hbe (by omega))
           rw [← hV] at hS ⊢
           clear hV hbe hx
           refine reg_call 3 rfl (by kernel_rfl) (by rfl) (fun K hK => ?_)
           go_simp
           go_at_call 18
           refine (args_eqL (CIH.out _ _ _ _ (RXU.out _ hS).1 (RXU.out _ hS).2) (by with_reducible rfl)).mono ?_
           rintro e y4 ⟨vA, vB, k, rfl, RA, RB, hk1, hk2, hb⟩
           have RA0 := Lib.hid RA
           have RB0 := Lib.hid RB
           obtain ⟨aA, cA, rfl⟩ := RA.form
           obtain ⟨aB, cB, rfl⟩ := RB.form
           clear RA RB
           have hzy4 := hb.size
           have HX8 := Lib.hid (HX8.out.below hb (by omega))
           have HX9 := Lib.hid (HX9.out.below hb (by omega))
           refine hK.out _ _ (KP1.out _ _ hb hS) (fun hS' => ?_)
           clear hK K hS; have hS := hS'; clear hS'
           (try simp only [Act.put, List.setIfInBounds_toArray, List.set_cons_zero, List.set_cons_succ])
           clear hb
           refine rt 4 (v := ?_) rfl (by intro w _; go_simp; first | done | with_reducible rfl) hS ?_
           (try simp only [Act.put, List.setIfInBounds_toArray, List.set_cons_zero, List.set_cons_succ])
           refine rt 5 (v := ?_) rfl (by intro w _; go_simp; first | done | with_reducible rfl) hS ?_
           (try simp only [Act.put, List.setIfInBounds_toArray, List.set_cons_zero, List.set_cons_succ])
           refine rt 6 (v := ?_) rfl (by intro w _; go_simp; first | done | with_reducible rfl) hS ?_
           (try simp only [Act.put, List.setIfInBounds_toArray, List.set_cons_zero, List.set_cons_succ])
           refine rt 7 (v := ?_) rfl (by intro w _; go_simp; first | done | with_reducible rfl) hS ?_
           (try simp only [Act.put, List.setIfInBounds_toArray, List.set_cons_zero, List.set_cons_succ])
           clear KP1
           refine reg_call 10 rfl (by kernel_rfl) (by rfl) (fun K hK => ?_)
           have ec0 := HX8.out.1
           have ec1 := HX8.out.2.1
           have ec2 := HX8.out.2.2.1
           have ec3 := HX8.out.2.2.2.1
           have ec4 := HX8.out.2.2.2.2.1
           have ec5 := HX8.out.2.2.2.2.2
           go_simp
           refine hK.out _ _ (KS1.out _ y1.heap.size (.int .i64 M1) (.int .i64 N1) (.slice aA L1.length cA) (by omega) hS) (fun hS' => ?_)
           clear hK K hS ec0 ec1 ec2 ec3 ec4 ec5; have hS := hS'; clear hS'
           (try simp only [Act.put, List.setIfInBounds_toArray, List.set_cons_zero, List.set_cons_succ])
           have HY := Lib.hid (HX9.out.far3e (show y1.heap.size ≠ V2.heap.size by omega) (.int .i64 M1) (.int .i64 N1) (.slice aA L1.length cA))
           refine reg_call 11 rfl (by kernel_rfl) (by rfl) (fun K hK => ?_)
           have ec0 := HY.out.1
           have ec1 := HY.out.2.1
           have ec2 := HY.out.2.2.1
           have ec3 := HY.out.2.2.2.1
           have ec4 := HY.out.2.2.2.2.1
           have ec5 := HY.out.2.2.2.2.2
           go_simp
           refine hK.out _ _ (KS1.out _ V2.heap.size (.int .i64 M2) (.int .i64 N2) (.slice aB L2.length cB) (by omega) hS) (fun hS' => ?_)
           clear hK K hS ec0 ec1 ec2 ec3 ec4 ec5; have hS := hS'; clear hS'
           (try simp only [Act.put, List.setIfInBounds_toArray, List.set_cons_zero, List.set_cons_succ])
           refine rt 12 (v := ?_) rfl (by intro w _; go_simp; first | done | with_reducible rfl) hS ?_
           (try simp only [Act.put, List.setIfInBounds_toArray, List.set_cons_zero, List.set_cons_succ])
           refine wpAnyH_done (by kernel_rfl) ?_ _
           have HBW := Lib.hid hS.2.2.2.2.2.2.2.2
           clear hS
           go_wp2_with fail
           go_meet
           exact wwi_end HX8.out HX9.out (show y1.heap.size ≠ V2.heap.size by omega) RA0.out RB0.out (by omega) (by omega) (by omega) (by omega) (by omega) (by omega) (by omega) (by omega) HBW.out
         · as_aux_lemma =>
           go_simp
           refine hK.out _ _ (KP1.out _ _ (bel0 _ _) hS) (fun hS' => ?_)
           clear hK K hS; have hS := hS'; clear hS'
           (try simp only [Act.put, List.setIfInBounds_toArray, List.set_cons_zero, List.set_cons_succ])
           obtain ⟨V2, hV, hbe, hx, hzV2⟩ := zstep y1
           have HX9 := Lib.hid hx
           rw [← hV] at hS ⊢
           clear hV hbe hx
           refine reg_two 3 8 rfl rfl (by kernel_rfl) (by rfl) (by rfl) (fun K hK => ?_) (fun K hK => ?_)
           go_simp
           go_at_call 18
           refine (args_eqL (CIH.out _ _ _ _ (RXU.out _ hS).1 (RXU.out _ hS).2) (by with_reducible rfl)).mono ?_
           rintro e y3 ⟨vA, vB, k, rfl, RA, RB, hk1, hk2, hb⟩
           have RA0 := Lib.hid RA
           have RB0 := Lib.hid RB
           obtain ⟨aA, cA, rfl⟩ := RA.form
           obtain ⟨aB, cB, rfl⟩ := RB.form
           clear RA RB
           have hzy3 := hb.size
           have HX9 := Lib.hid (HX9.out.below hb (by omega))
           refine hK.out _ _ (KP1.out _ _ hb hS) (fun hS' => ?_)
           clear hK K hS; have hS := hS'; clear hS'
           (try simp only [Act.put, List.setIfInBounds_toArray, List.set_cons_zero, List.set_cons_succ])
           clear hb
           refine rt 4 (v := ?_) rfl (by intro w _; go_simp; first | done | with_reducible rfl) hS ?_
           (try simp only [Act.put, List.setIfInBounds_toArray, List.set_cons_zero, List.set_cons_succ])
           refine rt 5 (v := ?_) rfl (by intro w _; go_simp; first | done | with_reducible rfl) hS ?_
           (try simp only [Act.put, List.setIfInBounds_toArray, List.set_cons_zero, List.set_cons_succ])
           refine rt 6 (v := ?_) rfl (by intro w _; go_simp; first | done | with_reducible rfl) hS ?_
           (try simp only [Act.put, List.setIfInBounds_toArray, List.set_cons_zero, List.set_cons_succ])
           refine rt 7 (v := ?_) rfl (by intro w _; go_simp; first | done | with_reducible rfl) hS ?_
           (try simp only [Act.put, List.setIfInBounds_toArray, List.set_cons_zero, List.set_cons_succ])
           refine reg_call 8 rfl (by kernel_rfl) (by rfl) (fun K hK => ?_)
           go_simp
           refine hK.out _ _ (KP1.out _ _ (bel0 _ _) hS) (fun hS' => ?_)
           clear hK K hS; have hS := hS'; clear hS'
           (try simp only [Act.put, List.setIfInBounds_toArray, List.set_cons_zero, List.set_cons_succ])
           obtain ⟨V4, hV, hbe, hx, hzV4⟩ := zstep y3
           have HX8 := Lib.hid hx
           have HX9 := Lib.hid (HX9.out.below hbe (by omega))
           have RA0 := Lib.hid (RA0.out.below (hbe.mono (by omega)))
           have RB0 := Lib.hid (RB0.out.below (hbe.mono (by omega)))
           rw [← hV] at hS ⊢
           clear hV hbe hx
           clear KP1
           refine reg_call 10 rfl (by kernel_rfl) (by rfl) (fun K hK => ?_)
           have ec0 := HX8.out.1
           have ec1 := HX8.out.2.1
           have ec2 := HX8.out.2.2.1
           have ec3 := HX8.out.2.2.2.1
           have ec4 := HX8.out.2.2.2.2.1
           have ec5 := HX8.out.2.2.2.2.2
           go_simp
           refine hK.out _ _ (KS1.out _ y3.heap.size (.int .i64 M1) (.int .i64 N1) (.slice aA L1.length cA) (by omega) hS) (fun hS' => ?_)
           clear hK K hS ec0 ec1 ec2 ec3 ec4 ec5; have hS := hS'; clear hS'
           (try simp only [Act.put, List.setIfInBounds_toArray, List.set_cons_zero, List.set_cons_succ])
           have HY := Lib.hid (HX9.out.far3e (show y3.heap.size ≠ y1.heap.size by omega) (.int .i64 M1) (.int .i64 N1) (.slice aA L1.length cA))
           refine reg_call 11 rfl (by kernel_rfl) (by rfl) (fun K hK => ?_)
           have ec0 := HY.out.1
           have ec1 := HY.out.2.1
           have ec2 := HY.out.2.2.1
           have ec3 := HY.out.2.2.2.1
           have ec4 := HY.out.2.2.2.2.1
           have ec5 := HY.out.2.2.2.2.2
           go_simp
           refine hK.out _ _ (KS1.out _ y1.heap.size (.int .i64 M2) (.int .i64 N2) (.slice aB L2.length cB) (by omega) hS) (fun hS' => ?_)
           clear hK K hS ec0 ec1 ec2 ec3 ec4 ec5; have hS := hS'; clear hS'
           (try simp only [Act.put, List.setIfInBounds_toArray, List.set_cons_zero, List.set_cons_succ])
           refine rt 12 (v := ?_) rfl (by intro w _; go_simp; first | done | with_reducible rfl) hS ?_
           (try simp only [Act.put, List.setIfInBounds_toArray, List.set_cons_zero, List.set_cons_succ])
           refine wpAnyH_done (by kernel_rfl) ?_ _
           have HBW := Lib.hid hS.2.2.2.2.2.2.2.2
           clear hS
           go_wp2_with fail
           go_meet
           exact wwi_end HX8.out HX9.out (show y3.heap.size ≠ y1.heap.size by omega) RA0.out RB0.out (by omega) (by omega) (by omega) (by omega) (by omega) (by omega) (by omega) (by omega) HBW.out
           go_simp
           refine hK.out _ _ (KP1.out _ _ (bel0 _ _) hS) (fun hS' => ?_)
           clear hK K hS; have hS := hS'; clear hS'
           (try simp only [Act.put, List.setIfInBounds_toArray, List.set_cons_zero, List.set_cons_succ])
           obtain ⟨V3, hV, hbe, hx, hzV3⟩ := zstep V2
           have HX8 := Lib.hid hx
           have HX9 := Lib.hid (HX9.out.below hbe (by omega))
           rw [← hV] at hS ⊢
           clear hV hbe hx
           refine reg_call 3 rfl (by kernel_rfl) (by rfl) (fun K hK => ?_)
           go_simp
           go_at_call 18
           refine (args_eqL (CIH.out _ _ _ _ (RXU.out _ hS).1 (RXU.out _ hS).2) (by with_reducible rfl)).mono ?_
           rintro e y4 ⟨vA, vB, k, rfl, RA, RB, hk1, hk2, hb⟩
           have RA0 := Lib.hid RA
           have RB0 := Lib.hid RB
           obtain ⟨aA, cA, rfl⟩ := RA.form
           obtain ⟨aB, cB, rfl⟩ := RB.form
           clear RA RB
           have hzy4 := hb.size
           have HX9 := Lib.hid (HX9.out.below hb (by omega))
           have HX8 := Lib.hid (HX8.out.below hb (by omega))
           refine hK.out _ _ (KP1.out _ _ hb hS) (fun hS' => ?_)
           clear hK K hS; have hS := hS'; clear hS'
           (try simp only [Act.put, List.setIfInBounds_toArray, List.set_cons_zero, List.set_cons_succ])
           clear hb
           refine rt 4 (v := ?_) rfl (by intro w _; go_simp; first | done | with_reducible rfl) hS ?_
           (try simp only [Act.put, List.setIfInBounds_toArray, List.set_cons_zero, List.set_cons_succ])
           refine rt 5 (v := ?_) rfl (by intro w _; go_simp; first | done | with_reducible rfl) hS ?_
           (try simp only [Act.put, List.setIfInBounds_toArray, List.set_cons_zero, List.set_cons_succ])
           refine rt 6 (v := ?_) rfl (by intro w _; go_simp; first | done | with_reducible rfl) hS ?_
           (try simp only [Act.put, List.setIfInBounds_toArray, List.set_cons_zero, List.set_cons_succ])
           refine rt 7 (v := ?_) rfl (by intro w _; go_simp; first | done | with_reducible rfl) hS ?_
           (try simp only [Act.put, List.setIfInBounds_toArray, List.set_cons_zero, List.set_cons_succ])
           clear KP1
           refine reg_call 10 rfl (by kernel_rfl) (by rfl) (fun K hK => ?_)
           have ec0 := HX8.out.1
           have ec1 := HX8.out.2.1
           have ec2 := HX8.out.2.2.1
           have ec3 := HX8.out.2.2.2.1
           have ec4 := HX8.out.2.2.2.2.1
           have ec5 := HX8.out.2.2.2.2.2
           go_simp
           refine hK.out _ _ (KS1.out _ V2.heap.size (.int .i64 M1) (.int .i64 N1) (.slice aA L1.length cA) (by omega) hS) (fun hS' => ?_)
           clear hK K hS ec0 ec1 ec2 ec3 ec4 ec5; have hS := hS'; clear hS'
           (try simp only [Act.put, List.setIfInBounds_toArray, List.set_cons_zero, List.set_cons_succ])
           have HY := Lib.hid (HX9.out.far3e (show V2.heap.size ≠ y1.heap.size by omega) (.int .i64 M1) (.int .i64 N1) (.slice aA L1.length cA))
           refine reg_call 11 rfl (by kernel_rfl) (by rfl) (fun K hK => ?_)
           have ec0 := HY.out.1
           have ec1 := HY.out.2.1
           have ec2 := HY.out.2.2.1
           have ec3 := HY.out.2.2.2.1
           have ec4 := HY.out.2.2.2.2.1
           have ec5 := HY.out.2.2.2.2.2
           go_simp
           refine hK.out _ _ (KS1.out _ y1.heap.size (.int .i64 M2) (.int .i64 N2) (.slice aB L2.length cB) (by omega) hS) (fun hS' => ?_)
           clear hK K hS ec0 ec1 ec2 ec3 ec4 ec5; have hS := hS'; clear hS'
           (try simp only [Act.put, List.setIfInBounds_toArray, List.set_cons_zero, List.set_cons_succ])
           refine rt 12 (v := ?_) rfl (by intro w _; go_simp; first | done | with_reducible rfl) hS ?_
           (try simp only [Act.put, List.setIfInBounds_toArray, List.set_cons_zero, List.set_cons_succ])
           refine wpAnyH_done (by kernel_rfl) ?_ _
           have HBW := Lib.hid hS.2.2.2.2.2.2.2.2
           clear hS
           go_wp2_with fail
           go_meet
           exact wwi_end HX8.out HX9.out (show V2.heap.size ≠ y1.heap.size by omega) RA0.out RB0.out (by omega) (by omega) (by omega) (by omega) (by omega) (by omega) (by omega) (by omega) HBW.out
       · as_aux_lemma =>
         go_simp
         refine hK.out _ _ (KP1.out _ _ (bel0 _ _) hS) (fun hS' => ?_)
         clear hK K hS; have hS := hS'; clear hS'
         (try simp only [Act.put, List.setIfInBounds_toArray, List.set_cons_zero, List.set_cons_succ])
         obtain ⟨V1, hV, hbe, hx, hzV1⟩ := zstep U0
         have HX8 := Lib.hid hx
         rw [← hV] at hS ⊢
         clear hV hbe hx
         refine reg_two 2 9 rfl rfl (by kernel_rfl) (by rfl) (by rfl) (fun K hK => ?_) (fun K hK => ?_)
         · as_aux_lemma =>
           go_simp
           go_at_call 26
           refine (args_eqL (ToCut_any up z _) (by with_reducible rfl)).mono ?_
           rintro e y2 ⟨rfl, hb⟩
           have hzy2 := hb.size
           have HX8 := Lib.hid (HX8.out.below hb (by omega))
           refine hK.out _ _ (KP1.out _ _ hb hS) (fun hS' => ?_)
           clear hK K hS; have hS := hS'; clear hS'
           (try simp only [Act.put, List.setIfInBounds_toArray, List.set_cons_zero, List.set_cons_succ])
           clear hb
           refine reg_two 3 9 rfl rfl (by kernel_rfl) (by rfl) (by rfl) (fun K hK => ?_) (fun K hK => ?_)
           go_simp
           go_at_call 18
           refine (args_eqL (CIH.out _ _ _ _ (RXU.out _ hS).1 (RXU.out _ hS).2) (by with_reducible rfl)).mono ?_
           rintro e y3 ⟨vA, vB, k, rfl, RA, RB, hk1, hk2, hb⟩
           have RA0 := Lib.hid RA
           have RB0 := Lib.hid RB
           obtain ⟨aA, cA, rfl⟩ := RA.form
           obtain ⟨aB, cB, rfl⟩ := RB.form
           clear RA RB
           have hzy3 := hb.size
           have HX8 := Lib.hid (HX8.out.below hb (by omega))
           refine hK.out _ _ (KP1.out _ _ hb hS) (fun hS' => ?_)
           clear hK K hS; have hS := hS'; clear hS'
           (try simp only [Act.put, List.setIfInBounds_toArray, List.set_cons_zero, List.set_cons_succ])
           clear hb
           refine rt 4 (v := ?_) rfl (by intro w _; go_simp; first | done | with_reducible rfl) hS ?_
           (try simp only [Act.put, List.setIfInBounds_toArray, List.set_cons_zero, List.set_cons_succ])
           refine rt 5 (v := ?_) rfl (by intro w _; go_simp; first | done | with_reducible rfl) hS ?_
           (try simp only [Act.put, List.setIfInBounds_toArray, List.set_cons_zero, List.set_cons_succ])
           refine rt 6 (v := ?_) rfl (by intro w _; go_simp; first | done | with_reducible rfl) hS ?_
           (try simp only [Act.put, List.setIfInBounds_toArray, List.set_cons_zero, List.set_cons_succ])
           refine rt 7 (v := ?_) rfl (by intro w _; go_simp; first | done | with_reducible rfl) hS ?_
           (try simp only [Act.put, List.setIfInBounds_toArray, List.set_cons_zero, List.set_cons_succ])
           refine reg_call 9 rfl (by kernel_rfl) (by rfl) (fun K hK => ?_)
           go_simp
           refine hK.out _ _ (KP1.out _ _ (bel0 _ _) hS) (fun hS' => ?_)
           clear hK K hS; have hS := hS'; clear hS'
           (try simp only [Act.put, List.setIfInBounds_toArray, List.set_cons_zero, List.set_cons_succ])
           obtain ⟨V4, hV, hbe, hx, hzV4⟩ := zstep y3
           have HX9 := Lib.hid hx
           have HX8 := Lib.hid (HX8.out.below hbe (by omega))
           have RA0 := Lib.hid (RA0.out.below (hbe.mono (by omega)))
           have RB0 := Lib.hid (RB0.out.below (hbe.mono (by omega)))
           rw [← hV] at hS ⊢
           clear hV hbe hx
           clear KP1
           refine reg_call 10 rfl (by kernel_rfl) (by rfl) (fun K hK => ?_)
           have ec0 := HX8.out.1
           have ec1 := HX8.out.2.1
           have ec2 := HX8.out.2.2.1
           have ec3 := HX8.out.2.2.2.1
           have ec4 := HX8.out.2.2.2.2.1
           have ec5 := HX8.out.2.2.2.2.2
           go_simp
           refine hK.out _ _ (KS1.out _ U0.heap.size (.int .i64 M1) (.int .i64 N1) (.slice aA L1.length cA) (by omega) hS) (fun hS' => ?_)
           clear hK K hS ec0 ec1 ec2 ec3 ec4 ec5; have hS := hS'; clear hS'
           (try simp only [Act.put, List.setIfInBounds_toArray, List.set_cons_zero, List.set_cons_succ])
           have HY := Lib.hid (HX9.out.far3e (show U0.heap.size ≠ y3.heap.size by omega) (.int .i64 M1) (.int .i64 N1) (.slice aA L1.length cA))
           refine reg_call 11 rfl (by kernel_rfl) (by rfl) (fun K hK => ?_)
           have ec0 := HY.out.1
           have ec1 := HY.out.2.1
           have ec2 := HY.out.2.2.1
           have ec3 := HY.out.2.2.2.1
           have ec4 := HY.out.2.2.2.2.1
           have ec5 := HY.out.2.2.2.2.2
           go_simp
           refine hK.out _ _ (KS1.out _ y3.heap.size (.int .i64 M2) (.int .i64 N2) (.slice aB L2.length cB) (by omega) hS) (fun hS' => ?_)
           clear hK K hS ec0 ec1 ec2 ec3 ec4 ec5; have hS := hS'; clear hS'
           (try simp only [Act.put, List.setIfInBounds_toArray, List.set_cons_zero, List.set_cons_succ])
           refine rt 12 (v := ?_) rfl (by intro w _; go_simp; first | done | with_reducible rfl) hS ?_
           (try simp only [Act.put, List.setIfInBounds_toArray, List.set_cons_zero, List.set_cons_succ])
           refine wpAnyH_done (by kernel_rfl) ?_ _
           have HBW := Lib.hid hS.2.2.2.2.2.2.2.2
           clear hS
           go_wp2_with fail
           go_meet
           exact wwi_end HX8.out HX9.out (show U0.heap.size ≠ y3.heap.size by omega) RA0.out RB0.out (by omega) (by omega) (by omega) (by omega) (by omega) (by omega) (by omega) (by omega) HBW.out
           go_simp
           refine hK.out _ _ (KP1.out _ _ (bel0 _ _) hS) (fun hS' => ?_)
           clear hK K hS; have hS := hS'; clear hS'
           (try simp only [Act.put, List.setIfInBounds_toArray, List.set_cons_zero, List.set_cons_succ])
           obtain ⟨V3, hV, hbe, hx, hzV3⟩ := zstep y2
           have HX9 := Lib.hid hx
           have HX8 := Lib.hid (HX8.out.below hbe (by omega))
           rw [← hV] at hS ⊢
           clear hV hbe hx
           refine reg_call 3 rfl (by kernel_rfl) (by rfl) (fun K hK => ?_)
           go_simp
           go_at_call 18
           refine (args_eqL (CIH.out _ _ _ _ (RXU.out _ hS).1 (RXU.out _ hS).2) (by with_reducible rfl)).mono ?_
           rintro e y4 ⟨vA, vB, k, rfl, RA, RB, hk1, hk2, hb⟩
           have RA0 := Lib.hid RA
           have RB0 := Lib.hid RB
           obtain ⟨aA, cA, rfl⟩ := RA.form
           obtain ⟨aB, cB, rfl⟩ := RB.form
           clear RA RB
           have hzy4 := hb.size
           have HX8 := Lib.hid (HX8.out.below hb (by omega))
           have HX9 := Lib.hid (HX9.out.below hb (by omega))
           refine hK.out _ _ (KP1.out _ _ hb hS) (fun hS' => ?_)
           clear hK K hS; have hS := hS'; clear hS'
           (try simp only [Act.put, List.setIfInBounds_toArray, List.set_cons_zero, List.set_cons_succ])
           clear hb
           refine rt 4 (v := ?_) rfl (by intro w _; go_simp; first | done | with_reducible rfl) hS ?_
           (try simp only [Act.put, List.setIfInBounds_toArray, List.set_cons_zero, List.set_cons_succ])
           refine rt 5 (v := ?_) rfl (by intro w _; go_simp; first | done | with_reducible rfl) hS ?_
           (try simp only [Act.put, List.setIfInBounds_toArray, List.set_cons_zero, List.set_cons_succ])
           refine rt 6 (v := ?_) rfl (by intro w _; go_simp; first | done | with_reducible rfl) hS ?_
           (try simp only [Act.put, List.setIfInBounds_toArray, List.set_cons_zero, List.set_cons_succ])
           refine rt 7 (v := ?_) rfl (by intro w _; go_simp; first | done | with_reducible rfl) hS ?_
           (try simp only [Act.put, List.setIfInBounds_toArray, List.set_cons_zero, List.set_cons_succ])
           clear KP1
           refine reg_call 10 rfl (by kernel_rfl) (by rfl) (fun K hK => ?_)
           have ec0 := HX8.out.1
           have ec1 := HX8.out.2.1
           have ec2 := HX8.out.2.2.1
           have ec3 := HX8.out.2.2.2.1
           have ec4 := HX8.out.2.2.2.2.1
           have ec5 := HX8.out.2.2.2.2.2
           go_simp
           refine hK.out _ _ (KS1.out _ U0.heap.size (.int .i64 M1) (.int .i64 N1) (.slice aA L1.length cA) (by omega) hS) (fun hS' => ?_)
           clear hK K hS ec0 ec1 ec2 ec3 ec4 ec5; have hS := hS'; clear hS'
           (try simp only [Act.put, List.setIfInBounds_toArray, List.set_cons_zero, List.set_cons_succ])
           have HY := Lib.hid (HX9.out.far3e (show U0.heap.size ≠ y2.heap.size by omega) (.int .i64 M1) (.int .i64 N1) (.slice aA L1.length cA))
           refine reg_call 11 rfl (by kernel_rfl) (by rfl) (fun K hK => ?_)
           have ec0 := HY.out.1
           have ec1 := HY.out.2.1
           have ec2 := HY.out.2.2.1
           have ec3 := HY.out.2.2.2.1
           have ec4 := HY.out.2.2.2.2.1
           have ec5 := HY.out.2.2.2.2.2
           go_simp
           refine hK.out _ _ (KS1.out _ y2.heap.size (.int .i64 M2) (.int .i64 N2) (.slice aB L2.length cB) (by omega) hS) (fun hS' => ?_)
           clear hK K hS ec0 ec1 ec2 ec3 ec4 ec5; have hS := hS'; clear hS'
           (try simp only [Act.put, List.setIfInBounds_toArray, List.set_cons_zero, List.set_cons_succ])
           refine rt 12 (v := ?_) rfl (by intro w _; go_simp; first | done | with_reducible rfl) hS ?_
           (try simp only [Act.put, List.setIfInBounds_toArray, List.set_cons_zero, List.set_cons_succ])
           refine wpAnyH_done (by kernel_rfl) ?_ _
           have HBW := Lib.hid hS.2.2.2.2.2.2.2.2
           clear hS
           go_wp2_with fail
           go_meet
           exact wwi_end HX8.out HX9.out (show U0.heap.size ≠ y2.heap.size by omega) RA0.out RB0.out (by omega) (by omega) (by omega) (by omega) (by omega) (by omega) (by omega) (by omega) HBW.out
         · as_aux_lemma =>
           go_simp
           refine hK.out _ _ (KP1.out _ _ (bel0 _ _) hS) (fun hS' => ?_)
           clear hK K hS; have hS := hS'; clear hS'
           (try simp only [Act.put, List.setIfInBounds_toArray, List.set_cons_zero, List.set_cons_succ])
           obtain ⟨V2, hV, hbe, hx, hzV2⟩ := zstep V1
           have HX9 := Lib.hid hx
           have HX8 := Lib.hid (HX8.out.below hbe (by omega))
           rw [← hV] at hS ⊢
           clear hV hbe hx
           refine reg_call 2 rfl (by kernel_rfl) (by rfl) (fun K hK => ?_)
           go_simp
           go_at_call 26
           refine (args_eqL (ToCut_any up z _) (by with_reducible rfl)).mono ?_
           rintro e y3 ⟨rfl, hb⟩
           have hzy3 := hb.size
           have HX8 := Lib.hid (HX8.out.below hb (by omega))
           have HX9 := Lib.hid (HX9.out.below hb (by omega))
           refine hK.out _ _ (KP1.out _ _ hb hS) (fun hS' => ?_)
           clear hK K hS; have hS := hS'; clear hS'
           (try simp only [Act.put, List.setIfInBounds_toArray, List.set_cons_zero, List.set_cons_succ])
           clear hb
           refine reg_call 3 rfl (by kernel_rfl) (by rfl) (fun K hK => ?_)
           go_simp
           go_at_call 18
           refine (args_eqL (CIH.out _ _ _ _ (RXU.out _ hS).1 (RXU.out _ hS).2) (by with_reducible rfl)).mono ?_
           rintro e y4 ⟨vA, vB, k, rfl, RA, RB, hk1, hk2, hb⟩
           have RA0 := Lib.hid RA
           have RB0 := Lib.hid RB
           obtain ⟨aA, cA, rfl⟩ := RA.form
           obtain ⟨aB, cB, rfl⟩ := RB.form
           clear RA RB
           have hzy4 := hb.size
           have HX8 := Lib.hid (HX8.out.below hb (by omega))
           have HX9 := Lib.hid (HX9.out.below hb (by omega))
           refine hK.out _ _ (KP1.out _ _ hb hS) (fun hS' => ?_)
           clear hK K hS; have hS := hS'; clear hS'
           (try simp only [Act.put, List.setIfInBounds_toArray, List.set_cons_zero, List.set_cons_succ])
           clear hb
           refine rt 4 (v := ?_) rfl (by intro w _; go_simp; first | done | with_reducible rfl) hS ?_
           (try simp only [Act.put, List.setIfInBounds_toArray, List.set_cons_zero, List.set_cons_succ])
           refine rt 5 (v := ?_) rfl (by intro w _; go_simp; first | done | with_reducible rfl) hS ?_
           (try simp only [Act.put, List.setIfInBounds_toArray, List.set_cons_zero, List.set_cons_succ])
           refine rt 6 (v := ?_) rfl (by intro w _; go_simp; first | done | with_reducible rfl) hS ?_
           (try simp only [Act.put, List.setIfInBounds_toArray, List.set_cons_zero, List.set_cons_succ])
           refine rt 7 (v := ?_) rfl (by intro w _; go_simp; first | done | with_reducible rfl) hS ?_
           (try simp only [Act.put, List.setIfInBounds_toArray, List.set_cons_zero, List.set_cons_succ])
           clear KP1
           refine reg_call 10 rfl (by kernel_rfl) (by rfl) (fun K hK => ?_)
           have ec0 := HX8.out.1
           have ec1 := HX8.out.2.1
           have ec2 := HX8.out.2.2.1
           have ec3 := HX8.out.2.2.2.1
           have ec4 := HX8.out.2.2.2.2.1
           have ec5 := HX8.out.2.2.2.2.2
           go_simp
           refine hK.out _ _ (KS1.out _ U0.heap.size (.int .i64 M1) (.int .i64 N1) (.slice aA L1.length cA) (by omega) hS) (fun hS' => ?_)
           clear hK K hS ec0 ec1 ec2 ec3 ec4 ec5; have hS := hS'; clear hS'
           (try simp only [Act.put, List.setIfInBounds_toArray, List.set_cons_zero, List.set_cons_succ])
           have HY := Lib.hid (HX9.out.far3e (show U0.heap.size ≠ V1.heap.size by omega) (.int .i64 M1) (.int .i64 N1) (.slice aA L1.length cA))
           refine reg_call 11 rfl (by kernel_rfl) (by rfl) (fun K hK => ?_)
           have ec0 := HY.out.1
           have ec1 := HY.out.2.1
           have ec2 := HY.out.2.2.1
           have ec3 := HY.out.2.2.2.1
           have ec4 := HY.out.2.2.2.2.1
           have ec5 := HY.out.2.2.2.2.2
           go_simp
           refine hK.out _ _ (KS1.out _ V1.heap.size (.int .i64 M2) (.int .i64 N2) (.slice aB L2.length cB) (by omega) hS) (fun hS' => ?_)
           clear hK K hS ec0 ec1 ec2 ec3 ec4 ec5; have hS := hS'; clear hS'
           (try simp only [Act.put, List.setIfInBounds_toArray, List.set_cons_zero, List.set_cons_succ])
           refine rt 12 (v := ?_) rfl (by intro w _; go_simp; first | done | with_reducible rfl) hS ?_
           (try simp only [Act.put, List.setIfInBounds_toArray, List.set_cons_zero, List.set_cons_succ])
           refine wpAnyH_done (by kernel_rfl) ?_ _
           have HBW := Lib.hid hS.2.2.2.2.2.2.2.2
           clear hS
           go_wp2_with fail
           go_meet
           exact wwi_end HX8.out HX9.out (show U0.heap.size ≠ V1.heap.size by omega) RA0.out RB0.out (by omega) (by omega) (by omega) (by omega) (by omega) (by omega) (by omega) (by omega) HBW.out
       · as_aux_lemma =>
         go_simp
         refine hK.out _ _ (KP1.out _ _ (bel0 _ _) hS) (fun hS' => ?_)
         clear hK K hS; have hS := hS'; clear hS'
         (try simp only [Act.put, List.setIfInBounds_toArray, List.set_cons_zero, List.set_cons_succ])
         obtain ⟨V1, hV, hbe, hx, hzV1⟩ := zstep U0
         have HX9 := Lib.hid hx
         rw [← hV] at hS ⊢
         clear hV hbe hx
         refine reg_two 2 8 rfl rfl (by kernel_rfl) (by rfl) (by rfl) (fun K hK => ?_) (fun K hK => ?_)
         · as_aux_lemma =>
           go_simp
           go_at_call 26
           refine (args_eqL (ToCut_any up z _) (by with_reducible rfl)).mono ?_
           rintro e y2 ⟨rfl, hb⟩
           have hzy2 := hb.size
           have HX9 := Lib.hid (HX9.out.below hb (by omega))
           refine hK.out _ _ (KP1.out _ _ hb hS) (fun hS' => ?_)
           clear hK K hS; have hS := hS'; clear hS'
           (try simp only [Act.put, List.setIfInBounds_toArray, List.set_cons_zero, List.set_cons_succ])
           clear hb
           refine reg_two 3 8 rfl rfl (by kernel_rfl) (by rfl) (by rfl) (fun K hK => ?_) (fun K hK => ?_)
           go_simp
           go_at_call 18
           refine (args_eqL (CIH.out _ _ _ _ (RXU.out _ hS).1 (RXU.out _ hS).2) (by with_reducible rfl)).mono ?_
           rintro e y3 ⟨vA, vB, k, rfl, RA, RB, hk1, hk2, hb⟩
           have RA0 := Lib.hid RA
           have RB0 := Lib.hid RB
           obtain ⟨aA, cA, rfl⟩ := RA.form
           obtain ⟨aB, cB, rfl⟩ := RB.form
           clear RA RB
           have hzy3 := hb.size
           have HX9 := Lib.hid (HX9.out.below hb (by omega))
           refine hK.out _ _ (KP1.out _ _ hb hS) (fun hS' => ?_)
           clear hK K hS; have hS := hS'; clear hS'
           (try simp only [Act.put, List.setIfInBounds_toArray, List.set_cons_zero, List.set_cons_succ])
           clear hb
           refine rt 4 (v := ?_) rfl (by intro w _; go_simp; first | done | with_reducible rfl) hS ?_
           (try simp only [Act.put, List.setIfInBounds_toArray, List.set_cons_zero, List.set_cons_succ])
           refine rt 5 (v := ?_) rfl (by intro w _; go_simp; first | done | with_reducible rfl) hS ?_
           (try simp only [Act.put, List.setIfInBounds_toArray, List.set_cons_zero, List.set_cons_succ])
           refine rt 6 (v := ?_) rfl (by intro w _; go_simp; first | done | with_reducible rfl) hS ?_
           (try simp only [Act.put, List.setIfInBounds_toArray, List.set_cons_zero, List.set_cons_succ])
           refine rt 7 (v := ?_) rfl (by intro w _; go_simp; first | done | with_reducible rfl) hS ?_
           (try simp only [Act.put, List.setIfInBounds_toArray, List.set_cons_zero, List.set_cons_succ])
           refine reg_call 8 rfl (by kernel_rfl) (by rfl) (fun K hK => ?_)
           go_simp
           refine hK.out _ _ (KP1.out _ _ (bel0 _ _) hS) (fun hS' => ?_)
           clear hK K hS; have hS := hS'; clear hS'
           (try simp only [Act.put, List.setIfInBounds_toArray, List.set_cons_zero, List.set_cons_succ])
           obtain ⟨V4, hV, hbe, hx, hzV4⟩ := zstep y3
           have HX8 := Lib.hid hx
           have HX9 := Lib.hid (HX9.out.below hbe (by omega))
           have RA0 := Lib.hid (RA0.out.below (hbe.mono (by omega)))
           have RB0 := Lib.hid (RB0.out.below (hbe.mono (by omega)))
           rw [← hV] at hS ⊢
           clear hV hbe hx
           clear KP1
           refine reg_call 10 rfl (by kernel_rfl) (by rfl) (fun K hK => ?_)
           have ec0 := HX8.out.1
           have ec1 := HX8.out.2.1
           have ec2 := HX8.out.2.2.1
           have ec3 := HX8.out.2.2.2.1
           have ec4 := HX8.out.2.2.2.2.1
           have ec5 := HX8.out.2.2.2.2.2
           go_simp
           refine hK.out _ _ (KS1.out _ y3.heap.size (.int .i64 M1) (.int .i64 N1) (.slice aA L1.length cA) (by omega) hS) (fun hS' => ?_)
           clear hK K hS ec0 ec1 ec2 ec3 ec4 ec5; have hS := hS'; clear hS'
           (try simp only [Act.put, List.setIfInBounds_toArray, List.set_cons_zero, List.set_cons_succ])
           have HY := Lib.hid (HX9.out.far3e (show y3.heap.size ≠ U0.heap.size by omega) (.int .i64 M1) (.int .i64 N1) (.slice aA L1.length cA))
           refine reg_call 11 rfl (by kernel_rfl) (by rfl) (fun K hK => ?_)
           have ec0 := HY.out.1
           have ec1 := HY.out.2.1
           have ec2 := HY.out.2.2.1
           have ec3 := HY.out.2.2.2.1
           have ec4 := HY.out.2.2.2.2.1
           have ec5 := HY.out.2.2.2.2.2
           go_simp
           refine hK.out _ _ (KS1.out _ U0.heap.size (.int .i64 M2) (.int .i64 N2) (.slice aB L2.length cB) (by omega) hS) (fun hS' => ?_)
           clear hK K hS ec0 ec1 ec2 ec3 ec4 ec5; have hS := hS'; clear hS'
           (try simp only [Act.put, List.setIfInBounds_toArray, List.set_cons_zero, List.set_cons_succ])
           refine rt 12 (v := ?_) rfl (by intro w _; go_simp; first | done | with_reducible rfl) hS ?_
           (try simp only [Act.put, List.setIfInBounds_toArray, List.set_cons_zero, List.set_cons_succ])
           refine wpAnyH_done (by kernel_rfl) ?_ _
           have HBW := Lib.hid hS.2.2.2.2.2.2.2.2
           clear hS
           go_wp2_with fail
           go_meet
           exact wwi_end HX8.out HX9.out (show y3.heap.size ≠ U0.heap.size by omega) RA0.out RB0.out (by omega) (by omega) (by omega) (by omega) (by omega) (by omega) (by omega) (by omega) HBW.out
           go_simp
           refine hK.out _ _ (KP1.out _ _ (bel0 _ _) hS) (fun hS' => ?_)
           clear hK K hS; have hS := hS'; clear hS'
           (try simp only [Act.put, List.setIfInBounds_toArray, List.set_cons_zero, List.set_cons_succ])
           obtain ⟨V3, hV, hbe, hx, hzV3⟩ := zstep y2
           have HX8 := Lib.hid hx
           have HX9 := Lib.hid (HX9.out.below hbe (by omega))
           rw [← hV] at hS ⊢
           clear hV hbe hx
           refine reg_call 3 rfl (by kernel_rfl) (by rfl) (fun K hK => ?_)
           go_simp
           go_at_call 18
           refine (args_eqL (CIH.out _ _ _ _ (RXU.out _ hS).1 (RXU.out _ hS).2) (by with_reducible rfl)).mono ?_
           rintro e y4 ⟨vA, vB, k, rfl, RA, RB, hk1, hk2, hb⟩
           have RA0 := Lib.hid RA
           have RB0 := Lib.hid RB
           obtain ⟨aA, cA, rfl⟩ := RA.form
           obtain ⟨aB, cB, rfl⟩ := RB.form
           clear RA RB
           have hzy4 := hb.size
           have HX9 := Lib.hid (HX9.out.below hb (by omega))
           have HX8 := Lib.hid (HX8.out.below hb (by omega))
           refine hK.out _ _ (KP1.out _ _ hb hS) (fun hS' => ?_)
           clear hK K hS; have hS := hS'; clear hS'
           (try simp only [Act.put, List.setIfInBounds_toArray, List.set_cons_zero, List.set_cons_succ])
           clear hb
           refine rt 4 (v := ?_) rfl (by intro w _; go_simp; first | done | with_reducible rfl) hS ?_
           (try simp only [Act.put, List.setIfInBounds_toArray, List.set_cons_zero, List.set_cons_succ])
           refine rt 5 (v := ?_) rfl (by intro w _; go_simp; first | done | with_reducible rfl) hS ?_
           (try simp only [Act.put, List.setIfInBounds_toArray, List.set_cons_zero, List.set_cons_succ])
           refine rt 6 (v := ?_) rfl (by intro w _; go_simp; first | done | with_reducible rfl) hS ?_
           (try simp only [Act.put, List.setIfInBounds_toArray, List.set_cons_zero, List.set_cons_succ])
           refine rt 7 (v := ?_) rfl (by intro w _; go_simp; first | done | with_reducible rfl) hS ?_
           (try simp only [Act.put, List.setIfInBounds_toArray, List.set_cons_zero, List.set_cons_succ])
           clear KP1
           refine reg_call 10 rfl (by kernel_rfl) (by rfl) (fun K hK => ?_)
           have ec0 := HX8.out.1
           have ec1 := HX8.out.2.1
           have ec2 := HX8.out.2.2.1
           have ec3 := HX8.out.2.2.2.1
           have ec4 := HX8.out.2.2.2.2.1
           have ec5 := HX8.out.2.2.2.2.2
           go_simp
           refine hK.out _ _ (KS1.out _ y2.heap.size (.int .i64 M1) (.int .i64 N1) (.slice aA L1.length cA) (by omega) hS) (fun hS' => ?_)
           clear hK K hS ec0 ec1 ec2 ec3 ec4 ec5; have hS := hS'; clear hS'
           (try simp only [Act.put, List.setIfInBounds_toArray, List.set_cons_zero, List.set_cons_succ])
           have HY := Lib.hid (HX9.out.far3e (show y2.heap.size ≠ U0.heap.size by omega) (.int .i64 M1) (.int .i64 N1) (.slice aA L1.length cA))
           refine reg_call 11 rfl (by kernel_rfl) (by rfl) (fun K hK => ?_)
           have ec0 := HY.out.1
           have ec1 := HY.out.2.1
           have ec2 := HY.out.2.2.1
           have ec3 := HY.out.2.2.2.1
           have ec4 := HY.out.2.2.2.2.1
           have ec5 := HY.out.2.2.2.2.2
           go_simp
           refine hK.out _ _ (KS1.out _ U0.heap.size (.int .i64 M2) (.int .i64 N2) (.slice aB L2.length cB) (by omega) hS) (fun hS' => ?_)
           clear hK K hS ec0 ec1 ec2 ec3 ec4 ec5; have hS := hS'; clear hS'
           (try simp only [Act.put, List.setIfInBounds_toArray, List.set_cons_zero, List.set_cons_succ])
           refine rt 12 (v := ?_) rfl (by intro w _; go_simp; first | done | with_reducible rfl) hS ?_
           (try simp only [Act.put, List.setIfInBounds_toArray, List.set_cons_zero, List.set_cons_succ])
           refine wpAnyH_done (by kernel_rfl) ?_ _
           have HBW := Lib.hid hS.2.2.2.2.2.2.2.2
           clear hS
           go_wp2_with fail
           go_meet
           exact wwi_end HX8.out HX9.out (show y2.heap.size ≠ U0.heap.size by omega) RA0.out RB0.out (by omega) (by omega) (by omega) (by omega) (by omega) (by omega) (by omega) (by omega) HBW.out
         · as_aux_lemma =>
           go_simp
           refine hK.out _ _ (KP1.out _ _ (bel0 _ _) hS) (fun hS' => ?_)
           clear hK K hS; have hS := hS'; clear hS'
           (try simp only [Act.put, List.setIfInBounds_toArray, List.set_cons_zero, List.set_cons_succ])
           obtain ⟨V2, hV, hbe, hx, hzV2⟩ := zstep V1
           have HX8 := Lib.hid hx
           have HX9 := Lib.hid (HX9.out.below hbe (by omega))
           rw [← hV] at hS ⊢
           clear hV hbe hx
           refine reg_call 2 rfl (by kernel_rfl) (by rfl) (fun K hK => ?_)
           go_simp
           go_at_call 26
           refine (args_eqL (ToCut_any up z _) (by with_reducible rfl)).mono ?_
           rintro e y3 ⟨rfl, hb⟩
           have hzy3 := hb.size
           have HX9 := Lib.hid (HX9.out.below hb (by omega))
           have HX8 := Lib.hid (HX8.out.below hb (by omega))
           refine hK.out _ _ (KP1.out _ _ hb hS) (fun hS' => ?_)
           clear hK K hS; have hS := hS'; clear hS'
           (try simp only [Act.put, List.setIfInBounds_toArray, List.set_cons_zero, List.set_cons_succ])
           clear hb
           refine reg_call 3 rfl (by kernel_rfl) (by rfl) (fun K hK => ?_)
           go_simp
           go_at_call 18
           refine (args_eqL (CIH.out _ _ _ _ (RXU.out _ hS).1 (RXU.out _ hS).2) (by with_reducible rfl)).mono ?_
           rintro e y4 ⟨vA, vB, k, rfl, RA, RB, hk1, hk2, hb⟩
           have RA0 := Lib.hid RA
           have RB0 := Lib.hid RB
           obtain ⟨aA, cA, rfl⟩ := RA.form
           obtain ⟨aB, cB, rfl⟩ := RB.form
           clear RA RB
           have hzy4 := hb.size
           have HX9 := Lib.hid (HX9.out.below hb (by omega))
           have HX8 := Lib.hid (HX8.out.below hb (by omega))
           refine hK.out _ _ (KP1.out _ _ hb hS) (fun hS' => ?_)
           clear hK K hS; have hS := hS'; clear hS'
           (try simp only [Act.put, List.setIfInBounds_toArray, List.set_cons_zero, List.set_cons_succ])
           clear hb
           refine rt 4 (v := ?_) rfl (by intro w _; go_simp; first | done | with_reducible rfl) hS ?_
           (try simp only [Act.put, List.setIfInBounds_toArray, List.set_cons_zero, List.set_cons_succ])
           refine rt 5 (v := ?_) rfl (by intro w _; go_simp; first | done | with_reducible rfl) hS ?_
           (try simp only [Act.put, List.setIfInBounds_toArray, List.set_cons_zero, List.set_cons_succ])
           refine rt 6 (v := ?_) rfl (by intro w _; go_simp; first | done | with_reducible rfl) hS ?_
           (try simp only [Act.put, List.setIfInBounds_toArray, List.set_cons_zero, List.set_cons_succ])
           refine rt 7 (v := ?_) rfl (by intro w _; go_simp; first | done | with_reducible rfl) hS ?_
           (try simp only [Act.put, List.setIfInBounds_toArray, List.set_cons_zero, List.set_cons_succ])
           clear KP1
           refine reg_call 10 rfl (by kernel_rfl) (by rfl) (fun K hK => ?_)
           have ec0 := HX8.out.1
           have ec1 := HX8.out.2.1
           have ec2 := HX8.out.2.2.1
           have ec3 := HX8.out.2.2.2.1
           have ec4 := HX8.out.2.2.2.2.1
           have ec5 := HX8.out.2.2.2.2.2
           go_simp
           refine hK.out _ _ (KS1.out _ V1.heap.size (.int .i64 M1) (.int .i64 N1) (.slice aA L1.length cA) (by omega) hS) (fun hS' => ?_)
           clear hK K hS ec0 ec1 ec2 ec3 ec4 ec5; have hS := hS'; clear hS'
           (try simp only [Act.put, List.setIfInBounds_toArray, List.set_cons_zero, List.set_cons_succ])
           have HY := Lib.hid (HX9.out.far3e (show V1.heap.size ≠ U0.heap.size by omega) (.int .i64 M1) (.int .i64 N1) (.slice aA L1.length cA))
           refine reg_call 11 rfl (by kernel_rfl) (by rfl) (fun K hK => ?_)
           have ec0 := HY.out.1
           have ec1 := HY.out.2.1
           have ec2 := HY.out.2.2.1
           have ec3 := HY.out.2.2.2.1
           have ec4 := HY.out.2.2.2.2.1
           have ec5 := HY.out.2.2.2.2.2
           go_simp
           refine hK.out _ _ (KS1.out _ U0.heap.size (.int .i64 M2) (.int .i64 N2) (.slice aB L2.length cB) (by omega) hS) (fun hS' => ?_)
           clear hK K hS ec0 ec1 ec2 ec3 ec4 ec5; have hS := hS'; clear hS'
           (try simp only [Act.put, List.setIfInBounds_toArray, List.set_cons_zero, List.set_cons_succ])
           refine rt 12 (v := ?_) rfl (by intro w _; go_simp; first | done | with_reducible rfl) hS ?_
           (try simp only [Act.put, List.setIfInBounds_toArray, List.set_cons_zero, List.set_cons_succ])
           refine wpAnyH_done (by kernel_rfl) ?_ _
           have HBW := Lib.hid hS.2.2.2.2.2.2.2.2
           clear hS
           go_wp2_with fail
           go_meet
           exact wwi_end HX8.out HX9.out (show V1.heap.size ≠ U0.heap.size by omega) RA0.out RB0.out (by omega) (by omega) (by omega) (by omega) (by omega) (by omega) (by omega) (by omega) HBW.out
      case rest =>
       as_aux_lemma =>
        obtain ⟨pG, pH, aG, cG, aH, cH, loG, kG, hiG, rfl, rfl, rfl, HXA, HXB, HRA, HRB, lzG, ozG, uzG, pzG, pzH, HBW⟩ := hcut
        generalize wc = w5 at *
        have hb := HBW.out
        have XG_ := Tri.of_box HXA.out
        have XH_ := Tri.of_box HXB.out
        have RG_ := HRA.out
        have RH_ := HRB.out
        clear HXA HXB HRA HRB HBW S0 KP1 KS1 RXU cL0 cL1 cL2 cC0 cC1 cX0 cX1 cX2
        have XL := XL.keep hb
        have XC := XC.keep hb
        have XP := XP.keep hb
        have XQ := XQ.keep hb
        have XX := XX.keep hb
        have RP := RP.below (hb.mono (by omega))
        have RQ := RQ.below (hb.mono (by omega))
        have Rx := Rx.below (hb.mono (by omega))
        have B := bel_c B (Nat.le_refl _) hb
        have zw5 : w4.heap.size ≤ w5.heap.size := hb.size
        clear hb
        have XG := XG_
        have XH := XH_
        have RG := RG_
        have RH := RH_
        clear XG_ XH_ RG_ RH_
        have qG := XG.lt
        have qH := XH.lt
        obtain ⟨cG0, cG1, cG2⟩ := id XG
        obtain ⟨cP0, cP1, cP2⟩ := id XP
        go_wp2_with fail
        clear cG0 cG1 cG2 cP0 cP1 cP2
        refine (EqLayout_any _ _ _ _ M1 N1 _ _ L1 _ RG RP (by omega) (by omega)).mono ?_
        rintro e w6 ⟨rfl, hb⟩
        have XL := XL.keep hb
        have XC := XC.keep hb
        have XP := XP.keep hb
        have XQ := XQ.keep hb
        have XX := XX.keep hb
        have XG := XG.keep hb
        have XH := XH.keep hb
        have RP := RP.below (hb.mono (by omega))
        have RQ := RQ.below (hb.mono (by omega))
        have Rx := Rx.below (hb.mono (by omega))
        have RG := RG.below (hb.mono (by omega))
        have RH := RH.below (hb.mono (by omega))
        have B := bel_c B (Nat.le_refl _) hb
        have zw6 : w5.heap.size ≤ w6.heap.size := hb.size
        clear hb
        obtain ⟨cH0, cH1, cH2⟩ := id XH
        obtain ⟨cQ0, cQ1, cQ2⟩ := id XQ
        go_wp2_with fail
        clear cH0 cH1 cH2 cQ0 cQ1 cQ2
        refine (EqLayout_any _ _ _ _ M2 N2 _ _ L2 _ RH RQ (by omega) (by omega)).mono ?_
        rintro e w7 ⟨rfl, hb⟩
        have XL := XL.keep hb
        have XC := XC.keep hb
        have XP := XP.keep hb
        have XQ := XQ.keep hb
        have XX := XX.keep hb
        have XG := XG.keep hb
        have XH := XH.keep hb
        have RP := RP.below (hb.mono (by omega))
        have RQ := RQ.below (hb.mono (by omega))
        have Rx := Rx.below (hb.mono (by omega))
        have RG := RG.below (hb.mono (by omega))
        have RH := RH.below (hb.mono (by omega))
        have B := bel_c B (Nat.le_refl _) hb
        have zw7 : w6.heap.size ≤ w7.heap.size := hb.size
        clear hb
        have BH := Lib.hid B
        have RHq := Lib.hid Rx
        have KP : ∀ u v : World, Below u.heap.size u v → (u.cell? ⟨w.heap.size, 0, none⟩ = some (.int .i64 m) ∧ u.cell? ⟨w.heap.size, 1, none⟩ = some (.int .i64 n) ∧ u.cell? ⟨w.heap.size, 2, none⟩ = some (.slice a len cap) ∧ u.cell? ⟨w.heap.size + 1, 0, none⟩ = some (.bool up) ∧ u.cell? ⟨w.heap.size + 1, 1, none⟩ = some (.int .i64 z) ∧ u.cell? ⟨w3.heap.size, 0, none⟩ = some (.int .i64 m) ∧ u.cell? ⟨w3.heap.size, 1, none⟩ = some (.int .i64 n) ∧ u.cell? ⟨w3.heap.size, 2, none⟩ = some (.slice ax xs.length cx) ∧ Below w7.heap.size w7 u) → (v.cell? ⟨w.heap.size, 0, none⟩ = some (.int .i64 m) ∧ v.cell? ⟨w.heap.size, 1, none⟩ = some (.int .i64 n) ∧ v.cell? ⟨w.heap.size, 2, none⟩ = some (.slice a len cap) ∧ v.cell? ⟨w.heap.size + 1, 0, none⟩ = some (.bool up) ∧ v.cell? ⟨w.heap.size + 1, 1, none⟩ = some (.int .i64 z) ∧ v.cell? ⟨w3.heap.size, 0, none⟩ = some (.int .i64 m) ∧ v.cell? ⟨w3.heap.size, 1, none⟩ = some (.int .i64 n) ∧ v.cell? ⟨w3.heap.size, 2, none⟩ = some (.slice ax xs.length cx) ∧ Below w7.heap.size w7 v) := fun u v hb h => ⟨kept hb h.1, kept hb h.2.1, kept hb h.2.2.1, kept hb h.2.2.2.1, kept hb h.2.2.2.2.1, kept hb h.2.2.2.2.2.1, kept hb h.2.2.2.2.2.2.1, kept hb h.2.2.2.2.2.2.2.1, bel_c h.2.2.2.2.2.2.2.2 (Nat.le_refl _) hb⟩
        have D0 : Below w7.heap.size w7 w7.drew := ⟨rfl, rfl, rfl, Nat.le_refl _, fun _ _ => rfl⟩
        have S0 : w7.drew.cell? ⟨w.heap.size, 0, none⟩ = some (.int .i64 m) ∧ w7.drew.cell? ⟨w.heap.size, 1, none⟩ = some (.int .i64 n) ∧ w7.drew.cell? ⟨w.heap.size, 2, none⟩ = some (.slice a len cap) ∧ w7.drew.cell? ⟨w.heap.size + 1, 0, none⟩ = some (.bool up) ∧ w7.drew.cell? ⟨w.heap.size + 1, 1, none⟩ = some (.int .i64 z) ∧ w7.drew.cell? ⟨w3.heap.size, 0, none⟩ = some (.int .i64 m) ∧ w7.drew.cell? ⟨w3.heap.size, 1, none⟩ = some (.int .i64 n) ∧ w7.drew.cell? ⟨w3.heap.size, 2, none⟩ = some (.slice ax xs.length cx) ∧ Below w7.heap.size w7 w7.drew := ⟨kept D0 XL.1, kept D0 XL.2.1, kept D0 XL.2.2, kept D0 XC.1, kept D0 XC.2, kept D0 XX.1, kept D0 XX.2.1, kept D0 XX.2.2, D0⟩
        obtain ⟨cL0, cL1, cL2⟩ := id XL
        obtain ⟨cC0, cC1⟩ := id XC
        obtain ⟨cX0, cX1, cX2⟩ := id XX
        go_wp2_with fail
        go_region_held3 (fun w' => w'.cell? ⟨w.heap.size, 0, none⟩ = some (.int .i64 m) ∧ w'.cell? ⟨w.heap.size, 1, none⟩ = some (.int .i64 n) ∧ w'.cell? ⟨w.heap.size, 2, none⟩ = some (.slice a len cap) ∧ w'.cell? ⟨w.heap.size + 1, 0, none⟩ = some (.bool up) ∧ w'.cell? ⟨w.heap.size + 1, 1, none⟩ = some (.int .i64 z) ∧ w'.cell? ⟨w3.heap.size, 0, none⟩ = some (.int .i64 m) ∧ w'.cell? ⟨w3.heap.size, 1, none⟩ = some (.int .i64 n) ∧ w'.cell? ⟨w3.heap.size, 2, none⟩ = some (.slice ax xs.length cx) ∧ Below w7.heap.size w7 w') (first | assumption | (refine KP _ _ (by assumption) ?_; assumption))
          ((first
            | (go_at_call 25; refine (args_eqL (ToLayout_any m n a len cap xs _ (HA.out _ (bel_c BH.out (Nat.le_refl _) D0)) hl) (by with_reducible rfl)).mono ?_; rintro e w8 ⟨v, rfl, RR, hb_w8⟩; have RY := Lib.hid RR; clear RR)
            | (go_at_call 27; refine (args_eqL (EqLayout_any _ _ _ _ m n _ _ xs _ (RHq.out.below ((D0.trans hb_w8).mono (by omega))) RY.out (by have := hb_w8.size; simp at this; omega) (Nat.le_refl _)) (by with_reducible rfl)).mono ?_; rintro e w9 ⟨rfl, hb_w9⟩)))
        have SE : w9.cell? ⟨w.heap.size, 0, none⟩ = some (.int .i64 m) ∧ w9.cell? ⟨w.heap.size, 1, none⟩ = some (.int .i64 n) ∧ w9.cell? ⟨w.heap.size, 2, none⟩ = some (.slice a len cap) ∧ w9.cell? ⟨w.heap.size + 1, 0, none⟩ = some (.bool up) ∧ w9.cell? ⟨w.heap.size + 1, 1, none⟩ = some (.int .i64 z) ∧ w9.cell? ⟨w3.heap.size, 0, none⟩ = some (.int .i64 m) ∧ w9.cell? ⟨w3.heap.size, 1, none⟩ = some (.int .i64 n) ∧ w9.cell? ⟨w3.heap.size, 2, none⟩ = some (.slice ax xs.length cx) ∧ Below w7.heap.size w7 w9 := by assumption
        have hb := SE.2.2.2.2.2.2.2.2
        clear SE S0 KP D0 cL0 cL1 cL2 cC0 cC1 cX0 cX1 cX2
        all_goals try clear hb_w8 hb_w9
        have XL := XL.keep hb
        have XC := XC.keep hb
        have XP := XP.keep hb
        have XQ := XQ.keep hb
        have XX := XX.keep hb
        have XG := XG.keep hb
        have XH := XH.keep hb
        have RP := RP.below (hb.mono (by omega))
        have RQ := RQ.below (hb.mono (by omega))
        have Rx := Rx.below (hb.mono (by omega))
        have RG := RG.below (hb.mono (by omega))
        have RH := RH.below (hb.mono (by omega))
        have B := bel_c B (Nat.le_refl _) hb
        have zw9 : w7.heap.size ≤ w9.heap.size := hb.size
        clear hb
        clear RY RHq BH
        obtain ⟨cX0, cX1, cX2⟩ := id XX
        go_wp2_with fail
        clear cX0 cX1 cX2
        refine (MarkLayout_any _ _ m n _ xs _ Rx (by omega)).mono ?_
        rintro e w10 ⟨rfl, Rm, hw⟩
        have XL := XL.within hw (by omega)
        have XC := XC.within hw (by omega)
        have XP := XP.within hw (by omega)
        have XQ := XQ.within hw (by omega)
        have XX := XX.within hw (by omega)
        have XG := XG.within hw (by omega)
        have XH := XH.within hw (by omega)
        have RP := RP.within hw (by omega) (by omega)
        have RQ := RQ.within hw (by omega) (by omega)
        have RG := RG.within hw (by omega) (by omega)
        have RH := RH.within hw (by omega) (by omega)
        have B := bel_wL B (Nat.le_refl _) hw (by omega)
        have zw10 : w9.heap.size ≤ w10.heap.size := hw.size
        clear hw Rx
        have Rx := Rm
        clear Rm
        obtain ⟨cG0, cG1, cG2⟩ := id XG
        obtain ⟨cP0, cP1, cP2⟩ := id XP
        go_wp2_with fail
        clear cG0 cG1 cG2 cP0 cP1 cP2
        refine (EqLayout_any _ _ _ _ M1 N1 _ _ L1 _ RG RP (by omega) (by omega)).mono ?_
        rintro e w11 ⟨rfl, hb⟩
        have XL := XL.keep hb
        have XC := XC.keep hb
        have XP := XP.keep hb
        have XQ := XQ.keep hb
        have XX := XX.keep hb
        have XG := XG.keep hb
        have XH := XH.keep hb
        have RP := RP.below (hb.mono (by omega))
        have RQ := RQ.below (hb.mono (by omega))
        have Rx := Rx.below (hb.mono (by omega))
        have RG := RG.below (hb.mono (by omega))
        have RH := RH.below (hb.mono (by omega))
        have B := bel_c B (Nat.le_refl _) hb
        have zw11 : w10.heap.size ≤ w11.heap.size := hb.size
        clear hb
        obtain ⟨cH0, cH1, cH2⟩ := id XH
        obtain ⟨cQ0, cQ1, cQ2⟩ := id XQ
        go_wp2_with fail
        clear cH0 cH1 cH2 cQ0 cQ1 cQ2
        refine (EqLayout_any _ _ _ _ M2 N2 _ _ L2 _ RH RQ (by omega) (by omega)).mono ?_
        rintro e w12 ⟨rfl, hb⟩
        have XL := XL.keep hb
        have XC := XC.keep hb
        have XP := XP.keep hb
        have XQ := XQ.keep hb
        have XX := XX.keep hb
        have XG := XG.keep hb
        have XH := XH.keep hb
        have RP := RP.below (hb.mono (by omega))
        have RQ := RQ.below (hb.mono (by omega))
        have Rx := Rx.below (hb.mono (by omega))
        have RG := RG.below (hb.mono (by omega))
        have RH := RH.below (hb.mono (by omega))
        have B := bel_c B (Nat.le_refl _) hb
        have zw12 : w11.heap.size ≤ w12.heap.size := hb.size
        clear hb
        have lk1 := RG.1
        have lk2 := RH.1
        obtain ⟨cG0, cG1, cG2⟩ := id XG
        go_wp2_with fail
        clear cG0 cG1 cG2
        refine (MarkLayoutE _ _ M1 N1 _ L1 1 1 K1 _ RG (by omega) (by omega) rfl HK1.out).mono ?_
        rintro e w13 ⟨rfl, Rm, hw⟩
        have XL := XL.within hw (by omega)
        have XC := XC.within hw (by omega)
        have XP := XP.within hw (by omega)
        have XQ := XQ.within hw (by omega)
        have XX := XX.within hw (by omega)
        have XG := XG.within hw (by omega)
        have XH := XH.within hw (by omega)
        have RP := RP.within hw (by omega) (by omega)
        have RQ := RQ.within hw (by omega) (by omega)
        have Rx := Rx.within hw (by omega) (by omega)
        have RH := RH.within hw (by omega) (by omega)
        have B := bel_wL B (Nat.le_refl _) hw (by omega)
        have zw13 : w12.heap.size ≤ w13.heap.size := hw.size
        clear hw RG
        have RG := Rm
        clear Rm
        obtain ⟨cH0, cH1, cH2⟩ := id XH
        go_wp2_with fail
        clear cH0 cH1 cH2
        refine (MarkLayoutE _ _ M2 N2 _ L2 (1 + 5 * L1.length) K1 K2 _ RH (by omega) (by omega) HK1.out HK2.out).mono ?_
        rintro e w14 ⟨rfl, Rm, hw⟩
        have XL := XL.within hw (by omega)
        have XC := XC.within hw (by omega)
        have XP := XP.within hw (by omega)
        have XQ := XQ.within hw (by omega)
        have XX := XX.within hw (by omega)
        have XG := XG.within hw (by omega)
        have XH := XH.within hw (by omega)
        have RP := RP.within hw (by omega) (by omega)
        have RQ := RQ.within hw (by omega) (by omega)
        have Rx := Rx.within hw (by omega) (by omega)
        have RG := RG.within hw (by omega) (by omega)
        have B := bel_wL B (Nat.le_refl _) hw (by omega)
        have zw14 : w13.heap.size ≤ w14.heap.size := hw.size
        clear hw RH
        have RH := Rm
        clear Rm
        obtain ⟨cG0, cG1, cG2⟩ := id XG
        go_wp2_with fail
        clear cG0 cG1 cG2
        refine (HeldLayoutE _ _ M1 N1 _ L1.length 1 1 K1 _ RG (by omega) (by omega) rfl HK1.out).mono ?_
        rintro e w15 ⟨rfl, hb⟩
        have XL := XL.keep hb
        have XC := XC.keep hb
        have XP := XP.keep hb
        have XQ := XQ.keep hb
        have XX := XX.keep hb
        have XG := XG.keep hb
        have XH := XH.keep hb
        have RP := RP.below (hb.mono (by omega))
        have RQ := RQ.below (hb.mono (by omega))
        have Rx := Rx.below (hb.mono (by omega))
        have RG := RG.below (hb.mono (by omega))
        have RH := RH.below (hb.mono (by omega))
        have B := bel_c B (Nat.le_refl _) hb
        have zw15 : w14.heap.size ≤ w15.heap.size := hb.size
        clear hb
        obtain ⟨cH0, cH1, cH2⟩ := id XH
        go_wp2_with fail
        clear cH0 cH1 cH2
        refine (HeldLayoutE _ _ M2 N2 _ L2.length (1 + 5 * L1.length) K1 K2 _ RH (by omega) (by omega) HK1.out HK2.out).mono ?_
        rintro e w16 ⟨rfl, hb⟩
        have XL := XL.keep hb
        have XC := XC.keep hb
        have XP := XP.keep hb
        have XQ := XQ.keep hb
        have XX := XX.keep hb
        have XG := XG.keep hb
        have XH := XH.keep hb
        have RP := RP.below (hb.mono (by omega))
        have RQ := RQ.below (hb.mono (by omega))
        have Rx := Rx.below (hb.mono (by omega))
        have RG := RG.below (hb.mono (by omega))
        have RH := RH.below (hb.mono (by omega))
        have B := bel_c B (Nat.le_refl _) hb
        have zw16 : w15.heap.size ≤ w16.heap.size := hb.size
        clear hb
        have KP : ∀ u v : World, Below u.heap.size u v → (u.cell? ⟨w.heap.size, 0, none⟩ = some (.int .i64 m) ∧ u.cell? ⟨w.heap.size, 1, none⟩ = some (.int .i64 n) ∧ u.cell? ⟨w.heap.size, 2, none⟩ = some (.slice a len cap) ∧ u.cell? ⟨w.heap.size + 1, 0, none⟩ = some (.bool up) ∧ u.cell? ⟨w.heap.size + 1, 1, none⟩ = some (.int .i64 z) ∧ Below w16.heap.size w16 u) → (v.cell? ⟨w.heap.size, 0, none⟩ = some (.int .i64 m) ∧ v.cell? ⟨w.heap.size, 1, none⟩ = some (.int .i64 n) ∧ v.cell? ⟨w.heap.size, 2, none⟩ = some (.slice a len cap) ∧ v.cell? ⟨w.heap.size + 1, 0, none⟩ = some (.bool up) ∧ v.cell? ⟨w.heap.size + 1, 1, none⟩ = some (.int .i64 z) ∧ Below w16.heap.size w16 v) := fun u v hb h => ⟨kept hb h.1, kept hb h.2.1, kept hb h.2.2.1, kept hb h.2.2.2.1, kept hb h.2.2.2.2.1, bel_c h.2.2.2.2.2 (Nat.le_refl _) hb⟩
        have D0 : Below w16.heap.size w16 w16.drew := ⟨rfl, rfl, rfl, Nat.le_refl _, fun _ _ => rfl⟩
        have S0 : w16.drew.cell? ⟨w.heap.size, 0, none⟩ = some (.int .i64 m) ∧ w16.drew.cell? ⟨w.heap.size, 1, none⟩ = some (.int .i64 n) ∧ w16.drew.cell? ⟨w.heap.size, 2, none⟩ = some (.slice a len cap) ∧ w16.drew.cell? ⟨w.heap.size + 1, 0, none⟩ = some (.bool up) ∧ w16.drew.cell? ⟨w.heap.size + 1, 1, none⟩ = some (.int .i64 z) ∧ Below w16.heap.size w16 w16.drew := ⟨kept D0 XL.1, kept D0 XL.2.1, kept D0 XL.2.2, kept D0 XC.1, kept D0 XC.2, D0⟩
        have KS : ∀ (u : World) (p : Nat) (x0 x1 x2 : Value), w16.heap.size ≤ p → (u.cell? ⟨w.heap.size, 0, none⟩ = some (.int .i64 m) ∧ u.cell? ⟨w.heap.size, 1, none⟩ = some (.int .i64 n) ∧ u.cell? ⟨w.heap.size, 2, none⟩ = some (.slice a len cap) ∧ u.cell? ⟨w.heap.size + 1, 0, none⟩ = some (.bool up) ∧ u.cell? ⟨w.heap.size + 1, 1, none⟩ = some (.int .i64 z) ∧ Below w16.heap.size w16 u) → ((set3 u p x0 x1 x2).cell? ⟨w.heap.size, 0, none⟩ = some (.int .i64 m) ∧ (set3 u p x0 x1 x2).cell? ⟨w.heap.size, 1, none⟩ = some (.int .i64 n) ∧ (set3 u p x0 x1 x2).cell? ⟨w.heap.size, 2, none⟩ = some (.slice a len cap) ∧ (set3 u p x0 x1 x2).cell? ⟨w.heap.size + 1, 0, none⟩ = some (.bool up) ∧ (set3 u p x0 x1 x2).cell? ⟨w.heap.size + 1, 1, none⟩ = some (.int .i64 z) ∧ Below w16.heap.size w16 (set3 u p x0 x1 x2)) := fun u p x0 x1 x2 hp h => ⟨(set3_far (by first | omega | (simp; omega))).trans h.1, (set3_far (by first | omega | (simp; omega))).trans h.2.1, (set3_far (by first | omega | (simp; omega))).trans h.2.2.1, (set3_far (by first | omega | (simp; omega))).trans h.2.2.2.1, (set3_far (by first | omega | (simp; omega))).trans h.2.2.2.2.1, ((h.2.2.2.2.2.setCell hp _).setCell hp _).setCell hp _⟩
        have KP1 := Lib.hid KP
        have KS1 := Lib.hid KS
        have CT : Hid (∀ u : World, (u.cell? ⟨w.heap.size, 0, none⟩ = some (.int .i64 m) ∧ u.cell? ⟨w.heap.size, 1, none⟩ = some (.int .i64 n) ∧ u.cell? ⟨w.heap.size, 2, none⟩ = some (.slice a len cap) ∧ u.cell? ⟨w.heap.size + 1, 0, none⟩ = some (.bool up) ∧ u.cell? ⟨w.heap.size + 1, 1, none⟩ = some (.int .i64 z) ∧ Below w16.heap.size w16 u) → Calls Try.prog 25 #[.agg #[.int .i64 m, .int .i64 n, .slice a len cap]] u (FreshL m n xs u)) := Lib.hid (fun u h => ToLayout_any m n a len cap xs u (HA.out _ (bel_c B (Nat.le_refl _) h.2.2.2.2.2)) hl)
        clear KP KS D0
        obtain ⟨cL0, cL1, cL2⟩ := id XL
        obtain ⟨cC0, cC1⟩ := id XC
        go_upto_region 28 with fail
        go_cut [16, 17, 18] (fun q t r wx => WWI w16 M1 N1 M2 N2 L1 L2 ok q t r wx)
        case first =>
         (try simp only [List.append_eq, List.cons_append, List.nil_append])
         have hS := S0
         refine reg_begin (fun w' => w'.cell? ⟨w.heap.size, 0, none⟩ = some (.int .i64 m) ∧ w'.cell? ⟨w.heap.size, 1, none⟩ = some (.int .i64 n) ∧ w'.cell? ⟨w.heap.size, 2, none⟩ = some (.slice a len cap) ∧ w'.cell? ⟨w.heap.size + 1, 0, none⟩ = some (.bool up) ∧ w'.cell? ⟨w.heap.size + 1, 1, none⟩ = some (.int .i64 z) ∧ Below w16.heap.size w16 w') (by kernel_rfl) hS ?_
         refine rt 0 (v := ?_) rfl (by intro w hSw; (try dsimp only at hSw); go_simp; first | done | with_reducible rfl) hS ?_
         (try simp only [Act.put, List.setIfInBounds_toArray, List.set_cons_zero, List.set_cons_succ])
         refine rt 2 (v := ?_) rfl (by intro w hSw; (try dsimp only at hSw); go_simp; first | done | with_reducible rfl) hS ?_
         (try simp only [Act.put, List.setIfInBounds_toArray, List.set_cons_zero, List.set_cons_succ])
         have hz0 : w16.drew.heap.size ≤ w16.heap.size ∧ w16.heap.size ≤ w16.drew.heap.size := ⟨Nat.le_refl _, Nat.le_refl _⟩
         generalize w16.drew = U0 at hS hz0 ⊢
         refine reg_three 1 9 10 rfl rfl rfl (by kernel_rfl) (by rfl) (by rfl) (by rfl) (fun K hK => ?_) (fun K hK => ?_) (fun K hK => ?_)
         · as_aux_lemma =>
           go_simp
           go_at_call 25
           refine (args_eqL (CT.out _ hS) (by with_reducible rfl)).mono ?_
           rintro e y1 ⟨v, rfl, RR, hb⟩
           obtain ⟨aT, cT, rfl⟩ := RR.form
           have RT0 := Lib.hid RR
           clear RR
           have hzy1 := hb.size
           refine hK.out _ _ (KP1.out _ _ hb hS) (fun hS' => ?_)
           clear hK K hS; have hS := hS'; clear hS'
           (try simp only [Act.put, List.setIfInBounds_toArray, List.set_cons_zero, List.set_cons_succ])
           clear hb
           refine reg_three 3 9 10 rfl rfl rfl (by kernel_rfl) (by rfl) (by rfl) (by rfl) (fun K hK => ?_) (fun K hK => ?_) (fun K hK => ?_)
           · as_aux_lemma =>
             go_simp
             go_at_call 26
             refine (args_eqL (ToCut_any up z _) (by with_reducible rfl)).mono ?_
             rintro e y2 ⟨rfl, hb⟩
             have hzy2 := hb.size
             have RT0 := Lib.hid (RT0.out.below (hb.mono (by omega)))
             refine hK.out _ _ (KP1.out _ _ hb hS) (fun hS' => ?_)
             clear hK K hS; have hS := hS'; clear hS'
             (try simp only [Act.put, List.setIfInBounds_toArray, List.set_cons_zero, List.set_cons_succ])
             clear hb
             refine reg_three 4 9 10 rfl rfl rfl (by kernel_rfl) (by rfl) (by rfl) (by rfl) (fun K hK => ?_) (fun K hK => ?_) (fun K hK => ?_)
             go_simp
             go_at_call 18
             refine (args_eqL (CIH.out _ _ _ _ RT0.out (by omega)) (by with_reducible rfl)).mono ?_
             rintro e y3 ⟨vA, vB, k, rfl, RA, RB, hk1, hk2, hb⟩
             have RA0 := Lib.hid RA
             have RB0 := Lib.hid RB
             obtain ⟨aA, cA, rfl⟩ := RA.form
             obtain ⟨aB, cB, rfl⟩ := RB.form
             clear RA RB
             have hzy3 := hb.size
             refine hK.out _ _ (KP1.out _ _ hb hS) (fun hS' => ?_)
             clear hK K hS; have hS := hS'; clear hS'
             (try simp only [Act.put, List.setIfInBounds_toArray, List.set_cons_zero, List.set_cons_succ])
             clear hb
             refine rt 5 (v := ?_) rfl (by intro w _; go_simp; first | done | with_reducible rfl) hS ?_
             (try simp only [Act.put, List.setIfInBounds_toArray, List.set_cons_zero, List.set_cons_succ])
             refine rt 6 (v := ?_) rfl (by intro w _; go_simp; first | done | with_reducible rfl) hS ?_
             (try simp only [Act.put, List.setIfInBounds_toArray, List.set_cons_zero, List.set_cons_succ])
             refine rt 7 (v := ?_) rfl (by intro w _; go_simp; first | done | with_reducible rfl) hS ?_
             (try simp only [Act.put, List.setIfInBounds_toArray, List.set_cons_zero, List.set_cons_succ])
             refine rt 8 (v := ?_) rfl (by intro w _; go_simp; first | done | with_reducible rfl) hS ?_
             (try simp only [Act.put, List.setIfInBounds_toArray, List.set_cons_zero, List.set_cons_succ])
             refine reg_two 9 10 rfl rfl (by kernel_rfl) (by rfl) (by rfl) (fun K hK => ?_) (fun K hK => ?_)
             go_simp
             refine hK.out _ _ (KP1.out _ _ (bel0 _ _) hS) (fun hS' => ?_)
             clear hK K hS; have hS := hS'; clear hS'
             (try simp only [Act.put, List.setIfInBounds_toArray, List.set_cons_zero, List.set_cons_succ])
             obtain ⟨V4, hV, hbe, hx, hzV4⟩ := zstep y3
             have HX9 := Lib.hid hx
             have RA0 := Lib.hid (RA0.out.below (hbe.mono (by omega)))
             have RB0 := Lib.hid (RB0.out.below (hbe.mono (by omega)))
             rw [← hV] at hS ⊢
             clear hV hbe hx
             refine reg_call 10 rfl (by kernel_rfl) (by rfl) (fun K hK => ?_)
             go_simp
             refine hK.out _ _ (KP1.out _ _ (bel0 _ _) hS) (fun hS' => ?_)
             clear hK K hS; have hS := hS'; clear hS'
             (try simp only [Act.put, List.setIfInBounds_toArray, List.set_cons_zero, List.set_cons_succ])
             obtain ⟨V5, hV, hbe, hx, hzV5⟩ := zstep V4
             have HX10 := Lib.hid hx
             have HX9 := Lib.hid (HX9.out.below hbe (by omega))
             have RA0 := Lib.hid (RA0.out.below (hbe.mono (by omega)))
             have RB0 := Lib.hid (RB0.out.below (hbe.mono (by omega)))
             rw [← hV] at hS ⊢
             clear hV hbe hx
             clear KP1
             refine reg_call 11 rfl (by kernel_rfl) (by rfl) (fun K hK => ?_)
             have ec0 := HX9.out.1
             have ec1 := HX9.out.2.1
             have ec2 := HX9.out.2.2.1
             have ec3 := HX9.out.2.2.2.1
             have ec4 := HX9.out.2.2.2.2.1
             have ec5 := HX9.out.2.2.2.2.2
             go_simp
             refine hK.out _ _ (KS1.out _ y3.heap.size (.int .i64 M1) (.int .i64 N1) (.slice aA L1.length cA) (by omega) hS) (fun hS' => ?_)
             clear hK K hS ec0 ec1 ec2 ec3 ec4 ec5; have hS := hS'; clear hS'
             (try simp only [Act.put, List.setIfInBounds_toArray, List.set_cons_zero, List.set_cons_succ])
             have HY := Lib.hid (HX10.out.far3e (show y3.heap.size ≠ V4.heap.size by omega) (.int .i64 M1) (.int .i64 N1) (.slice aA L1.length cA))
             refine reg_call 12 rfl (by kernel_rfl) (by rfl) (fun K hK => ?_)
             have ec0 := HY.out.1
             have ec1 := HY.out.2.1
             have ec2 := HY.out.2.2.1
             have ec3 := HY.out.2.2.2.1
             have ec4 := HY.out.2.2.2.2.1
             have ec5 := HY.out.2.2.2.2.2
             go_simp
             refine hK.out _ _ (KS1.out _ V4.heap.size (.int .i64 M2) (.int .i64 N2) (.slice aB L2.length cB) (by omega) hS) (fun hS' => ?_)
             clear hK K hS ec0 ec1 ec2 ec3 ec4 ec5; have hS := hS'; clear hS'
             (try simp only [Act.put, List.setIfInBounds_toArray, List.set_cons_zero, List.set_cons_succ])
             refine rt 13 (v := ?_) rfl (by intro w _; go_simp; first | done | with_reducible rfl) hS ?_
             (try simp only [Act.put, List.setIfInBounds_toArray, List.set_cons_zero, List.set_cons_succ])
             refine wpAnyH_done (by kernel_rfl) ?_ _
             have HBW := Lib.hid hS.2.2.2.2.2
             clear hS
             go_wp2_with fail
             go_meet
             exact wwi_end HX9.out HX10.out (show y3.heap.size ≠ V4.heap.size by omega) RA0.out RB0.out (by omega) (by omega) (by omega) (by omega) (by omega) (by omega) (by omega) (by omega) HBW.out
             go_simp
             refine hK.out _ _ (KP1.out _ _ (bel0 _ _) hS) (fun hS' => ?_)
             clear hK K hS; have hS := hS'; clear hS'
             (try simp only [Act.put, List.setIfInBounds_toArray, List.set_cons_zero, List.set_cons_succ])
             obtain ⟨V4, hV, hbe, hx, hzV4⟩ := zstep y3
             have HX10 := Lib.hid hx
             have RA0 := Lib.hid (RA0.out.below (hbe.mono (by omega)))
             have RB0 := Lib.hid (RB0.out.below (hbe.mono (by omega)))
             rw [← hV] at hS ⊢
             clear hV hbe hx
             refine reg_call 9 rfl (by kernel_rfl) (by rfl) (fun K hK => ?_)
             go_simp
             refine hK.out _ _ (KP1.out _ _ (bel0 _ _) hS) (fun hS' => ?_)
             clear hK K hS; have hS := hS'; clear hS'
             (try simp only [Act.put, List.setIfInBounds_toArray, List.set_cons_zero, List.set_cons_succ])
             obtain ⟨V5, hV, hbe, hx, hzV5⟩ := zstep V4
             have HX9 := Lib.hid hx
             have HX10 := Lib.hid (HX10.out.below hbe (by omega))
             have RA0 := Lib.hid (RA0.out.below (hbe.mono (by omega)))
             have RB0 := Lib.hid (RB0.out.below (hbe.mono (by omega)))
             rw [← hV] at hS ⊢
             clear hV hbe hx
             clear KP1
             refine reg_call 11 rfl (by kernel_rfl) (by rfl) (fun K hK => ?_)
             have ec0 := HX9.out.1
             have ec1 := HX9.out.2.1
             have ec2 := HX9.out.2.2.1
             have ec3 := HX9.out.2.2.2.1
             have ec4 := HX9.out.2.2.2.2.1
             have ec5 := HX9.out.2.2.2.2.2
             go_simp
             refine hK.out _ _ (KS1.out _ V4.heap.size (.int .i64 M1) (.int .i64 N1) (.slice aA L1.length cA) (by omega) hS) (fun hS' => ?_)
             clear hK K hS ec0 ec1 ec2 ec3 ec4 ec5; have hS := hS'; clear hS'
             (try simp only [Act.put, List.setIfInBounds_toArray, List.set_cons_zero, List.set_cons_succ])
             have HY := Lib.hid (HX10.out.far3e (show V4.heap.size ≠ y3.heap.size by omega) (.int .i64 M1) (.int .i64 N1) (.slice aA L1.length cA))
             refine reg_call 12 rfl (by kernel_rfl) (by rfl) (fun K hK => ?_)
             have ec0 := HY.out.1
             have ec1 := HY.out.2.1
             have ec2 := HY.out.2.2.1
             have ec3 := HY.out.2.2.2.1
             have ec4 := HY.out.2.2.2.2.1
             have ec5 := HY.out.2.2.2.2.2
             go_simp
             refine hK.out _ _ (KS1.out _ y3.heap.size (.int .i64 M2) (.int .i64 N2) (.slice aB L2.length cB) (by omega) hS) (fun hS' => ?_)
             clear hK K hS ec0 ec1 ec2 ec3 ec4 ec5; have hS := hS'; clear hS'
             (try simp only [Act.put, List.setIfInBounds_toArray, List.set_cons_zero, List.set_cons_succ])
             refine rt 13 (v := ?_) rfl (by intro w _; go_simp; first | done | with_reducible rfl) hS ?_
             (try simp only [Act.put, List.setIfInBounds_toArray, List.set_cons_zero, List.set_cons_succ])
             refine wpAnyH_done (by kernel_rfl) ?_ _
             have HBW := Lib.hid hS.2.2.2.2.2
             clear hS
             go_wp2_with fail
             go_meet
             exact wwi_end HX9.out HX10.out (show V4.heap.size ≠ y3.heap.size by omega) RA0.out RB0.out (by omega) (by omega) (by omega) (by omega) (by omega) (by omega) (by omega) (by omega) HBW.out
             go_simp
             refine hK.out _ _ (KP1.out _ _ (bel0 _ _) hS) (fun hS' => ?_)
             clear hK K hS; have hS := hS'; clear hS'
             (try simp only [Act.put, List.setIfInBounds_toArray, List.set_cons_zero, List.set_cons_succ])
             obtain ⟨V3, hV, hbe, hx, hzV3⟩ := zstep y2
             have HX9 := Lib.hid hx
             have RT0 := Lib.hid (RT0.out.below (hbe.mono (by omega)))
             rw [← hV] at hS ⊢
             clear hV hbe hx
             refine reg_two 4 10 rfl rfl (by kernel_rfl) (by rfl) (by rfl) (fun K hK => ?_) (fun K hK => ?_)
             go_simp
             go_at_call 18
             refine (args_eqL (CIH.out _ _ _ _ RT0.out (by omega)) (by with_reducible rfl)).mono ?_
             rintro e y4 ⟨vA, vB, k, rfl, RA, RB, hk1, hk2, hb⟩
             have RA0 := Lib.hid RA
             have RB0 := Lib.hid RB
             obtain ⟨aA, cA, rfl⟩ := RA.form
             obtain ⟨aB, cB, rfl⟩ := RB.form
             clear RA RB
             have hzy4 := hb.size
             have HX9 := Lib.hid (HX9.out.below hb (by omega))
             refine hK.out _ _ (KP1.out _ _ hb hS) (fun hS' => ?_)
             clear hK K hS; have hS := hS'; clear hS'
             (try simp only [Act.put, List.setIfInBounds_toArray, List.set_cons_zero, List.set_cons_succ])
             clear hb
             refine rt 5 (v := ?_) rfl (by intro w _; go_simp; first | done | with_reducible rfl) hS ?_
             (try simp only [Act.put, List.setIfInBounds_toArray, List.set_cons_zero, List.set_cons_succ])
             refine rt 6 (v := ?_) rfl (by intro w _; go_simp; first | done | with_reducible rfl) hS ?_
             (try simp only [Act.put, List.setIfInBounds_toArray, List.set_cons_zero, List.set_cons_succ])
             refine rt 7 (v := ?_) rfl (by intro w _; go_simp; first | done | with_reducible rfl) hS ?_
             (try simp only [Act.put, List.setIfInBounds_toArray, List.set_cons_zero, List.set_cons_succ])
             refine rt 8 (v := ?_) rfl (by intro w _; go_simp; first | done | with_reducible rfl) hS ?_
             (try simp only [Act.put, List.setIfInBounds_toArray, List.set_cons_zero, List.set_cons_succ])
             refine reg_call 10 rfl (by kernel_rfl) (by rfl) (fun K hK => ?_)
             go_simp
             refine hK.out _ _ (KP1.out _ _ (bel0 _ _) hS) (fun hS' => ?_)
             clear hK K hS; have hS := hS'; clear hS'
             (try simp only [Act.put, List.setIfInBounds_toArray, List.set_cons_zero, List.set_cons_succ])
             obtain ⟨V5, hV, hbe, hx, hzV5⟩ := zstep y4
             have HX10 := Lib.hid hx
             have HX9 := Lib.hid (HX9.out.below hbe (by omega))
             have RA0 := Lib.hid (RA0.out.below (hbe.mono (by omega)))
             have RB0 := Lib.hid (RB0.out.below (hbe.mono (by omega)))
             rw [← hV] at hS ⊢
             clear hV hbe hx
             clear KP1
             refine reg_call 11 rfl (by kernel_rfl) (by rfl) (fun K hK => ?_)
             have ec0 := HX9.out.1
             have ec1 := HX9.out.2.1
             have ec2 := HX9.out.2.2.1
             have ec3 := HX9.out.2.2.2.1
             have ec4 := HX9.out.2.2.2.2.1
             have ec5 := HX9.out.2.2.2.2.2
             go_simp
             refine hK.out _ _ (KS1.out _ y2.heap.size (.int .i64 M1) (.int .i64 N1) (.slice aA L1.length cA) (by omega) hS) (fun hS' => ?_)
             clear hK K hS ec0 ec1 ec2 ec3 ec4 ec5; have hS := hS'; clear hS'
             (try simp only [Act.put, List.setIfInBounds_toArray, List.set_cons_zero, List.set_cons_succ])
             have HY := Lib.hid (HX10.out.far3e (show y2.heap.size ≠ y4.heap.size by omega) (.int .i64 M1) (.int .i64 N1) (.slice aA L1.length cA))
             refine reg_call 12 rfl (by kernel_rfl) (by rfl) (fun K hK => ?_)
             have ec0 := HY.out.1
             have ec1 := HY.out.2.1
             have ec2 := HY.out.2.2.1
             have ec3 := HY.out.2.2.2.1
             have ec4 := HY.out.2.2.2.2.1
             have ec5 := HY.out.2.2.2.2.2
             go_simp
             refine hK.out _ _ (KS1.out _ y4.heap.size (.int .i64 M2) (.int .i64 N2) (.slice aB L2.length cB) (by omega) hS) (fun hS' => ?_)
             clear hK K hS ec0 ec1 ec2 ec3 ec4 ec5; have hS := hS'; clear hS'
             (try simp only [Act.put, List.setIfInBounds_toArray, List.set_cons_zero, List.set_cons_succ])
             refine rt 13 (v := ?_) rfl (by intro w _; go_simp; first | done | with_reducible rfl) hS ?_
             (try simp only [Act.put, List.setIfInBounds_toArray, List.set_cons_zero, List.set_cons_succ])
             refine wpAnyH_done (by kernel_rfl) ?_ _
             have HBW := Lib.hid hS.2.2.2.2.2
             clear hS
             go_wp2_with fail
             go_meet
             exact wwi_end HX9.out HX10.out (show y2.heap.size ≠ y4.heap.size by omega) RA0.out RB0.out (by omega) (by omega) (by omega) (by omega) (by omega) (by omega) (by omega) (by omega) HBW.out
             go_simp
             refine hK.out _ _ (KP1.out _ _ (bel0 _ _) hS) (fun hS' => ?_)
             clear hK K hS; have hS := hS'; clear hS'
             (try simp only [Act.put, List.setIfInBounds_toArray, List.set_cons_zero, List.set_cons_succ])
             obtain ⟨V4, hV, hbe, hx, hzV4⟩ := zstep V3
             have HX10 := Lib.hid hx
             have HX9 := Lib.hid (HX9.out.below hbe (by omega))
             have RT0 := Lib.hid (RT0.out.below (hbe.mono (by omega)))
             rw [← hV] at hS ⊢
             clear hV hbe hx
             refine reg_call 4 rfl (by kernel_rfl) (by rfl) (fun K hK => ?_)
             go_simp
             go_at_call 18
             refine (args_eqL (CIH.out _ _ _ _ RT0.out (by omega)) (by with_reducible rfl)).mono ?_
             rintro e y5 ⟨vA, vB, k, rfl, RA, RB, hk1, hk2, hb⟩
             have RA0 := Lib.hid RA
             have RB0 := Lib.hid RB
             obtain ⟨aA, cA, rfl⟩ := RA.form
             obtain ⟨aB, cB, rfl⟩ := RB.form
             clear RA RB
             have hzy5 := hb.size
             have HX9 := Lib.hid (HX9.out.below hb (by omega))
             have HX10 := Lib.hid (HX10.out.below hb (by omega))
             refine hK.out _ _ (KP1.out _ _ hb hS) (fun hS' => ?_)
             clear hK K hS; have hS := hS'; clear hS'
             (try simp only [Act.put, List.setIfInBounds_toArray, List.set_cons_zero, List.set_cons_succ])
             clear hb
             refine rt 5 (v := ?_) rfl (by intro w _; go_simp; first | done | with_reducible rfl) hS ?_
             (try simp only [Act.put, List.setIfInBounds_toArray, List.set_cons_zero, List.set_cons_succ])
             refine rt 6 (v := ?_) rfl (by intro w _; go_simp; first | done | with_reducible rfl) hS ?_
             (try simp only [Act.put, List.setIfInBounds_toArray, List.set_cons_zero, List.set_cons_succ])
             refine rt 7 (v := ?_) rfl (by intro w _; go_simp; first | done | with_reducible rfl) hS ?_
             (try simp only [Act.put, List.setIfInBounds_toArray, List.set_cons_zero, List.set_cons_succ])
             refine rt 8 (v := ?_) rfl (by intro w _; go_simp; first | done | with_reducible rfl) hS ?_
             (try simp only [Act.put, List.setIfInBounds_toArray, List.set_cons_zero, List.set_cons_succ])
             clear KP1
             refine reg_call 11 rfl (by kernel_rfl) (by rfl) (fun K hK => ?_)
             have ec0 := HX9.out.1
             have ec1 := HX9.out.2.1
             have ec2 := HX9.out.2.2.1
             have ec3 := HX9.out.2.2.2.1
             have ec4 := HX9.out.2.2.2.2.1
             have ec5 := HX9.out.2.2.2.2.2
             go_simp
             refine hK.out _ _ (KS1.out _ y2.heap.size (.int .i64 M1) (.int .i64 N1) (.slice aA L1.length cA) (by omega) hS) (fun hS' => ?_)
             clear hK K hS ec0 ec1 ec2 ec3 ec4 ec5; have hS := hS'; clear hS'
             (try simp only [Act.put, List.setIfInBounds_toArray, List.set_cons_zero, List.set_cons_succ])
             have HY := Lib.hid (HX10.out.far3e (show y2.heap.size ≠ V3.heap.size by omega) (.int .i64 M1) (.int .i64 N1) (.slice aA L1.length cA))
             refine reg_call 12 rfl (by kernel_rfl) (by rfl) (fun K hK => ?_)
             have ec0 := HY.out.1
             have ec1 := HY.out.2.1
             have ec2 := HY.out.2.2.1
             have ec3 := HY.out.2.2.2.1
             have ec4 := HY.out.2.2.2.2.1
             have ec5 := HY.out.2.2.2.2.2
             go_simp
             refine hK.out _ _ (KS1.out _ V3.heap.size (.int .i64 M2) (.int .i64 N2) (.slice aB L2.length cB) (by omega) hS) (fun hS' => ?_)
             clear hK K hS ec0 ec1 ec2 ec3 ec4 ec5; have hS := hS'; clear hS'
             (try simp only [Act.put, List.setIfInBounds_toArray, List.set_cons_zero, List.set_cons_succ])
             refine rt 13 (v := ?_) rfl (by intro w _; go_simp; first | done | with_reducible rfl) hS ?_
             (try simp only [Act.put, List.setIfInBounds_toArray, List.set_cons_zero, List.set_cons_succ])
             refine wpAnyH_done (by kernel_rfl) ?_ _
             have HBW := Lib.hid hS.2.2.2.2.2
             clear hS
             go_wp2_with fail
             go_meet
             exact wwi_end HX9.out HX10.out (show y2.heap.size ≠ V3.heap.size by omega) RA0.out RB0.out (by omega) (by omega) (by omega) (by omega) (by omega) (by omega) (by omega) (by omega) HBW.out
             go_simp
             refine hK.out _ _ (KP1.out _ _ (bel0 _ _) hS) (fun hS' => ?_)
             clear hK K hS; have hS := hS'; clear hS'
             (try simp only [Act.put, List.setIfInBounds_toArray, List.set_cons_zero, List.set_cons_succ])
             obtain ⟨V3, hV, hbe, hx, hzV3⟩ := zstep y2
             have HX10 := Lib.hid hx
             have RT0 := Lib.hid (RT0.out.below (hbe.mono (by omega)))
             rw [← hV] at hS ⊢
             clear hV hbe hx
             refine reg_two 4 9 rfl rfl (by kernel_rfl) (by rfl) (by rfl) (fun K hK => ?_) (fun K hK => ?_)
             go_simp
             go_at_call 18
             refine (args_eqL (CIH.out _ _ _ _ RT0.out (by omega)) (by with_reducible rfl)).mono ?_
             rintro e y4 ⟨vA, vB, k, rfl, RA, RB, hk1, hk2, hb⟩
             have RA0 := Lib.hid RA
             have RB0 := Lib.hid RB
             obtain ⟨aA, cA, rfl⟩ := RA.form
             obtain ⟨aB, cB, rfl⟩ := RB.form
             clear RA RB
             have hzy4 := hb.size
             have HX10 := Lib.hid (HX10.out.below hb (by omega))
             refine hK.out _ _ (KP1.out _ _ hb hS) (fun hS' => ?_)
             clear hK K hS; have hS := hS'; clear hS'
             (try simp only [Act.put, List.setIfInBounds_toArray, List.set_cons_zero, List.set_cons_succ])
             clear hb
             refine rt 5 (v := ?_) rfl (by intro w _; go_simp; first | done | with_reducible rfl) hS ?_
             (try simp only [Act.put, List.setIfInBounds_toArray, List.set_cons_zero, List.set_cons_succ])
             refine rt 6 (v := ?_) rfl (by intro w _; go_simp; first | done | with_reducible rfl) hS ?_
             (try simp only [Act.put, List.setIfInBounds_toArray, List.set_cons_zero, List.set_cons_succ])
             refine rt 7 (v := ?_) rfl (by intro w _; go_simp; first | done | with_reducible rfl) hS ?_
             (try simp only [Act.put, List.setIfInBounds_toArray, List.set_cons_zero, List.set_cons_succ])
             refine rt 8 (v := ?_) rfl (by intro w _; go_simp; first | done | with_reducible rfl) hS ?_
             (try simp only [Act.put, List.setIfInBounds_toArray, List.set_cons_zero, List.set_cons_succ])
             refine reg_call 9 rfl (by kernel_rfl) (by rfl) (fun K hK => ?_)
             go_simp
             refine hK.out _ _ (KP1.out _ _ (bel0 _ _) hS) (fun hS' => ?_)
             clear hK K hS; have hS := hS'; clear hS'
             (try simp only [Act.put, List.setIfInBounds_toArray, List.set_cons_zero, List.set_cons_succ])
             obtain ⟨V5, hV, hbe, hx, hzV5⟩ := zstep y4
             have HX9 := Lib.hid hx
             have HX10 := Lib.hid (HX10.out.below hbe (by omega))
             have RA0 := Lib.hid (RA0.out.below (hbe.mono (by omega)))
             have RB0 := Lib.hid (RB0.out.below (hbe.mono (by omega)))
             rw [← hV] at hS ⊢
             clear hV hbe hx
             clear KP1
             refine reg_call 11 rfl (by kernel_rfl) (by rfl) (fun K hK => ?_)
             have ec0 := HX9.out.1
             have ec1 := HX9.out.2.1
             have ec2 := HX9.out.2.2.1
             have ec3 := HX9.out.2.2.2.1
             have ec4 := HX9.out.2.2.2.2.1
             have ec5 := HX9.out.2.2.2.2.2
             go_simp
             refine hK.out _ _ (KS1.out _ y4.heap.size (.int .i64 M1) (.int .i64 N1) (.slice aA L1.length cA) (by omega) hS) (fun hS' => ?_)
             clear hK K hS ec0 ec1 ec2 ec3 ec4 ec5; have hS := hS'; clear hS'
             (try simp only [Act.put, List.setIfInBounds_toArray, List.set_cons_zero, List.set_cons_succ])
             have HY := Lib.hid (HX10.out.far3e (show y4.heap.size ≠ y2.heap.size by omega) (.int .i64 M1) (.int .i64 N1) (.slice aA L1.length cA))
             refine reg_call 12 rfl (by kernel_rfl) (by rfl) (fun K hK => ?_)
             have ec0 := HY.out.1
             have ec1 := HY.out.2.1
             have ec2 := HY.out.2.2.1
             have ec3 := HY.out.2.2.2.1
             have ec4 := HY.out.2.2.2.2.1
             have ec5 := HY.out.2.2.2.2.2
             go_simp
             refine hK.out _ _ (KS1.out _ y2.heap.size (.int .i64 M2) (.int .i64 N2) (.slice aB L2.length cB) (by omega) hS) (fun hS' => ?_)
             clear hK K hS ec0 ec1 ec2 ec3 ec4 ec5; have hS := hS'; clear hS'
             (try simp only [Act.put, List.setIfInBounds_toArray, List.set_cons_zero, List.set_cons_succ])
             refine rt 13 (v := ?_) rfl (by intro w _; go_simp; first | done | with_reducible rfl) hS ?_
             (try simp only [Act.put, List.setIfInBounds_toArray, List.set_cons_zero, List.set_cons_succ])
             refine wpAnyH_done (by kernel_rfl) ?_ _
             have HBW := Lib.hid hS.2.2.2.2.2
             clear hS
             go_wp2_with fail
             go_meet
             exact wwi_end HX9.out HX10.out (show y4.heap.size ≠ y2.heap.size by omega) RA0.out RB0.out (by omega) (by omega) (by omega) (by omega) (by omega) (by omega) (by omega) (by omega) HBW.out
             go_simp
             refine hK.out _ _ (KP1.out _ _ (bel0 _ _) hS) (fun hS' => ?_)
             clear hK K hS; have hS := hS'; clear hS'
             (try simp only [Act.put, List.setIfInBounds_toArray, List.set_cons_zero, List.set_cons_succ])
             obtain ⟨V4, hV, hbe, hx, hzV4⟩ := zstep V3
             have HX9 := Lib.hid hx
             have HX10 := Lib.hid (HX10.out.below hbe (by omega))
             have RT0 := Lib.hid (RT0.out.below (hbe.mono (by omega)))
             rw [← hV] at hS ⊢
             clear hV hbe hx
             refine reg_call 4 rfl (by kernel_rfl) (by rfl) (fun K hK => ?_)
             go_simp
             go_at_call 18
             refine (args_eqL (CIH.out _ _ _ _ RT0.out (by omega)) (by with_reducible rfl)).mono ?_
             rintro e y5 ⟨vA, vB, k, rfl, RA, RB, hk1, hk2, hb⟩
             have RA0 := Lib.hid RA
             have RB0 := Lib.hid RB
             obtain ⟨aA, cA, rfl⟩ := RA.form
             obtain ⟨aB, cB, rfl⟩ := RB.form
             clear RA RB
             have hzy5 := hb.size
             have HX10 := Lib.hid (HX10.out.below hb (by omega))
             have HX9 := Lib.hid (HX9.out.below hb (by omega))
             refine hK.out _ _ (KP1.out _ _ hb hS) (fun hS' => ?_)
             clear hK K hS; have hS := hS'; clear hS'
             (try simp only [Act.put, List.setIfInBounds_toArray, List.set_cons_zero, List.set_cons_succ])
             clear hb
             refine rt 5 (v := ?_) rfl (by intro w _; go_simp; first | done | with_reducible rfl) hS ?_
             (try simp only [Act.put, List.setIfInBounds_toArray, List.set_cons_zero, List.set_cons_succ])
             refine rt 6 (v := ?_) rfl (by intro w _; go_simp; first | done | with_reducible rfl) hS ?_
             (try simp only [Act.put, List.setIfInBounds_toArray, List.set_cons_zero, List.set_cons_succ])
             refine rt 7 (v := ?_) rfl (by intro w _; go_simp; first | done | with_reducible rfl) hS ?_
             (try simp only [Act.put, List.setIfInBounds_toArray, List.set_cons_zero, List.set_cons_succ])
             refine rt 8 (v := ?_) rfl (by intro w _; go_simp; first | done | with_reducible rfl) hS ?_
             (try simp only [Act.put, List.setIfInBounds_toArray, List.set_cons_zero, List.set_cons_succ])
             clear KP1
             refine reg_call 11 rfl (by kernel_rfl) (by rfl) (fun K hK => ?_)
             have ec0 := HX9.out.1
             have ec1 := HX9.out.2.1
             have ec2 := HX9.out.2.2.1
             have ec3 := HX9.out.2.2.2.1
             have ec4 := HX9.out.2.2.2.2.1
             have ec5 := HX9.out.2.2.2.2.2
             go_simp
             refine hK.out _ _ (KS1.out _ V3.heap.size (.int .i64 M1) (.int .i64 N1) (.slice aA L1.length cA) (by omega) hS) (fun hS' => ?_)
             clear hK K hS ec0 ec1 ec2 ec3 ec4 ec5; have hS := hS'; clear hS'
             (try simp only [Act.put, List.setIfInBounds_toArray, List.set_cons_zero, List.set_cons_succ])
             have HY := Lib.hid (HX10.out.far3e (show V3.heap.size ≠ y2.heap.size by omega) (.int .i64 M1) (.int .i64 N1) (.slice aA L1.length cA))
             refine reg_call 12 rfl (by kernel_rfl) (by rfl) (fun K hK => ?_)
             have ec0 := HY.out.1
             have ec1 := HY.out.2.1
             have ec2 := HY.out.2.2.1
             have ec3 := HY.out.2.2.2.1
             have ec4 := HY.out.2.2.2.2.1
             have ec5 := HY.out.2.2.2.2.2
             go_simp
             refine hK.out _ _ (KS1.out _ y2.heap.size (.int .i64 M2) (.int .i64 N2) (.slice aB L2.length cB) (by omega) hS) (fun hS' => ?_)
             clear hK K hS ec0 ec1 ec2 ec3 ec4 ec5; have hS := hS'; clear hS'
             (try simp only [Act.put, List.setIfInBounds_toArray, List.set_cons_zero, List.set_cons_succ])
             refine rt 13 (v := ?_) rfl (by intro w _; go_simp; first | done | with_reducible rfl) hS ?_
             (try simp only [Act.put, List.setIfInBounds_toArray, List.set_cons_zero, List.set_cons_succ])
             refine wpAnyH_done (by kernel_rfl) ?_ _
             have HBW := Lib.hid hS.2.2.2.2.2
             clear hS
             go_wp2_with fail
             go_meet
             exact wwi_end HX9.out HX10.out (show V3.heap.size ≠ y2.heap.size by omega) RA0.out RB0.out (by omega) (by omega) (by omega) (by omega) (by omega) (by omega) (by omega) (by omega) HBW.out
           · as_aux_lemma =>
             go_simp
             refine hK.out _ _ (KP1.out _ _ (bel0 _ _) hS) (fun hS' => ?_)
             clear hK K hS; have hS := hS'; clear hS'
             (try simp only [Act.put, List.setIfInBounds_toArray, List.set_cons_zero, List.set_cons_succ])
             obtain ⟨V2, hV, hbe, hx, hzV2⟩ := zstep y1
             have HX9 := Lib.hid hx
             have RT0 := Lib.hid (RT0.out.below (hbe.mono (by omega)))
             rw [← hV] at hS ⊢
             clear hV hbe hx
             refine reg_two 3 10 rfl rfl (by kernel_rfl) (by rfl) (by rfl) (fun K hK => ?_) (fun K hK => ?_)
             go_simp
             go_at_call 26
             refine (args_eqL (ToCut_any up z _) (by with_reducible rfl)).mono ?_
             rintro e y3 ⟨rfl, hb⟩
             have hzy3 := hb.size
             have HX9 := Lib.hid (HX9.out.below hb (by omega))
             have RT0 := Lib.hid (RT0.out.below (hb.mono (by omega)))
             refine hK.out _ _ (KP1.out _ _ hb hS) (fun hS' => ?_)
             clear hK K hS; have hS := hS'; clear hS'
             (try simp only [Act.put, List.setIfInBounds_toArray, List.set_cons_zero, List.set_cons_succ])
             clear hb
             refine reg_two 4 10 rfl rfl (by kernel_rfl) (by rfl) (by rfl) (fun K hK => ?_) (fun K hK => ?_)
             go_simp
             go_at_call 18
             refine (args_eqL (CIH.out _ _ _ _ RT0.out (by omega)) (by with_reducible rfl)).mono ?_
             rintro e y4 ⟨vA, vB, k, rfl, RA, RB, hk1, hk2, hb⟩
             have RA0 := Lib.hid RA
             have RB0 := Lib.hid RB
             obtain ⟨aA, cA, rfl⟩ := RA.form
             obtain ⟨aB, cB, rfl⟩ := RB.form
             clear RA RB
             have hzy4 := hb.size
             have HX9 := Lib.hid (HX9.out.below hb (by omega))
             refine hK.out _ _ (KP1.out _ _ hb hS) (fun hS' => ?_)
             clear hK K hS; have hS := hS'; clear hS'
             (try simp only [Act.put, List.setIfInBounds_toArray, List.set_cons_zero, List.set_cons_succ])
             clear hb
             refine rt 5 (v := ?_) rfl (by intro w _; go_simp; first | done | with_reducible rfl) hS ?_
             (try simp only [Act.put, List.setIfInBounds_toArray, List.set_cons_zero, List.set_cons_succ])
             refine rt 6 (v := ?_) rfl (by intro w _; go_simp; first | done | with_reducible rfl) hS ?_
             (try simp only [Act.put, List.setIfInBounds_toArray, List.set_cons_zero, List.set_cons_succ])
             refine rt 7 (v := ?_) rfl (by intro w _; go_simp; first | done | with_reducible rfl) hS ?_
             (try simp only [Act.put, List.setIfInBounds_toArray, List.set_cons_zero, List.set_cons_succ])
             refine rt 8 (v := ?_) rfl (by intro w _; go_simp; first | done | with_reducible rfl) hS ?_
             (try simp only [Act.put, List.setIfInBounds_toArray, List.set_cons_zero, List.set_cons_succ])
             refine reg_call 10 rfl (by kernel_rfl) (by rfl) (fun K hK => ?_)
             go_simp
             refine hK.out _ _ (KP1.out _ _ (bel0 _ _) hS) (fun hS' => ?_)
             clear hK K hS; have hS := hS'; clear hS'
             (try simp only [Act.put, List.setIfInBounds_toArray, List.set_cons_zero, List.set_cons_succ])
             obtain ⟨V5, hV, hbe, hx, hzV5⟩ := zstep y4
             have HX10 := Lib.hid hx
             have HX9 := Lib.hid (HX9.out.below hbe (by omega))
             have RA0 := Lib.hid (RA0.out.below (hbe.mono (by omega)))
             have RB0 := Lib.hid (RB0.out.below (hbe.mono (by omega)))
             rw [← hV] at hS ⊢
             clear hV hbe hx
             clear KP1
             refine reg_call 11 rfl (by kernel_rfl) (by rfl) (fun K hK => ?_)
             have ec0 := HX9.out.1
             have ec1 := HX9.out.2.1
             have ec2 := HX9.out.2.2.1
             have ec3 := HX9.out.2.2.2.1
             have ec4 := HX9.out.2.2.2.2.1
             have ec5 := HX9.out.2.2.2.2.2
             go_simp
             refine hK.out _ _ (KS1.out _ y1.heap.size (.int .i64 M1) (.int .i64 N1) (.slice aA L1.length cA) (by omega) hS) (fun hS' => ?_)
             clear hK K hS ec0 ec1 ec2 ec3 ec4 ec5; have hS := hS'; clear hS'
             (try simp only [Act.put, List.setIfInBounds_toArray, List.set_cons_zero, List.set_cons_succ])
             have HY := Lib.hid (HX10.out.far3e (show y1.heap.size ≠ y4.heap.size by omega) (.int .i64 M1) (.int .i64 N1) (.slice aA L1.length cA))
             refine reg_call 12 rfl (by kernel_rfl) (by rfl) (fun K hK => ?_)
             have ec0 := HY.out.1
             have ec1 := HY.out.2.1
             have ec2 := HY.out.2.2.1
             have ec3 := HY.out.2.2.2.1
             have ec4 := HY.out.2.2.2.2.1
             have ec5 := HY.out.2.2.2.2.2
             go_simp
             refine hK.out _ _ (KS1.out _ y4.heap.size (.int .i64 M2) (.int .i64 N2) (.slice aB L2.length cB) (by omega) hS) (fun hS' => ?_)
             clear hK K hS ec0 ec1 ec2 ec3 ec4 ec5; have hS := hS'; clear hS'
             (try simp only [Act.put, List.setIfInBounds_toArray, List.set_cons_zero, List.set_cons_succ])
             refine rt 13 (v := ?_) rfl (by intro w _; go_simp; first | done | with_reducible rfl) hS ?_
             (try simp only [Act.put, List.setIfInBounds_toArray, List.set_cons_zero, List.set_cons_succ])
             refine wpAnyH_done (by kernel_rfl) ?_ _
             have HBW := Lib.hid hS.2.2.2.2.2
             clear hS
             go_wp2_with fail
             go_meet
             exact wwi_end HX9.out HX10.out (show y1.heap.size ≠ y4.heap.size by omega) RA0.out RB0.out (by omega) (by omega) (by omega) (by omega) (by omega) (by omega) (by omega) (by omega) HBW.out
             go_simp
             refine hK.out _ _ (KP1.out _ _ (bel0 _ _) hS) (fun hS' => ?_)
             clear hK K hS; have hS := hS'; clear hS'
             (try simp only [Act.put, List.setIfInBounds_toArray, List.set_cons_zero, List.set_cons_succ])
             obtain ⟨V4, hV, hbe, hx, hzV4⟩ := zstep y3
             have HX10 := Lib.hid hx
             have HX9 := Lib.hid (HX9.out.below hbe (by omega))
             have RT0 := Lib.hid (RT0.out.below (hbe.mono (by omega)))
             rw [← hV] at hS ⊢
             clear hV hbe hx
             refine reg_call 4 rfl (by kernel_rfl) (by rfl) (fun K hK => ?_)
             go_simp
             go_at_call 18
             refine (args_eqL (CIH.out _ _ _ _ RT0.out (by omega)) (by with_reducible rfl)).mono ?_
             rintro e y5 ⟨vA, vB, k, rfl, RA, RB, hk1, hk2, hb⟩
             have RA0 := Lib.hid RA
             have RB0 := Lib.hid RB
             obtain ⟨aA, cA, rfl⟩ := RA.form
             obtain ⟨aB, cB, rfl⟩ := RB.form
             clear RA RB
             have hzy5 := hb.size
             have HX9 := Lib.hid (HX9.out.below hb (by omega))
             have HX10 := Lib.hid (HX10.out.below hb (by omega))
             refine hK.out _ _ (KP1.out _ _ hb hS) (fun hS' => ?_)
             clear hK K hS; have hS := hS'; clear hS'
             (try simp only [Act.put, List.setIfInBounds_toArray, List.set_cons_zero, List.set_cons_succ])
             clear hb
             refine rt 5 (v := ?_) rfl (by intro w _; go_simp; first | done | with_reducible rfl) hS ?_
             (try simp only [Act.put, List.setIfInBounds_toArray, List.set_cons_zero, List.set_cons_succ])
             refine rt 6 (v := ?_) rfl (by intro w _; go_simp; first | done | with_reducible rfl) hS ?_
             (try simp only [Act.put, List.setIfInBounds_toArray, List.set_cons_zero, List.set_cons_succ])
             refine rt 7 (v := ?_) rfl (by intro w _; go_simp; first | done | with_reducible rfl) hS ?_
             (try simp only [Act.put, List.setIfInBounds_toArray, List.set_cons_zero, List.set_cons_succ])
             refine rt 8 (v := ?_) rfl (by intro w _; go_simp; first | done | with_reducible rfl) hS ?_
             (try simp only [Act.put, List.setIfInBounds_toArray, List.set_cons_zero, List.set_cons_succ])
             clear KP1
             refine reg_call 11 rfl (by kernel_rfl) (by rfl) (fun K hK => ?_)
             have ec0 := HX9.out.1
             have ec1 := HX9.out.2.1
             have ec2 := HX9.out.2.2.1
             have ec3 := HX9.out.2.2.2.1
             have ec4 := HX9.out.2.2.2.2.1
             have ec5 := HX9.out.2.2.2.2.2
             go_simp
             refine hK.out _ _ (KS1.out _ y1.heap.size (.int .i64 M1) (.int .i64 N1) (.slice aA L1.length cA) (by omega) hS) (fun hS' => ?_)
             clear hK K hS ec0 ec1 ec2 ec3 ec4 ec5; have hS := hS'; clear hS'
             (try simp only [Act.put, List.setIfInBounds_toArray, List.set_cons_zero, List.set_cons_succ])
             have HY := Lib.hid (HX10.out.far3e (show y1.heap.size ≠ y3.heap.size by omega) (.int .i64 M1) (.int .i64 N1) (.slice aA L1.length cA))
             refine reg_call 12 rfl (by kernel_rfl) (by rfl) (fun K hK => ?_)
             have ec0 := HY.out.1
             have ec1 := HY.out.2.1
             have ec2 := HY.out.2.2.1
             have ec3 := HY.out.2.2.2.1
             have ec4 := HY.out.2.2.2.2.1
             have ec5 := HY.out.2.2.2.2.2
             go_simp
             refine hK.out _ _ (KS1.out _ y3.heap.size (.int .i64 M2) (.int .i64 N2) (.slice aB L2.length cB) (by omega) hS) (fun hS' => ?_)
             clear hK K hS ec0 ec1 ec2 ec3 ec4 ec5; have hS := hS'; clear hS'
             (try simp only [Act.put, List.setIfInBounds_toArray, List.set_cons_zero, List.set_cons_succ])
             refine rt 13 (v := ?_) rfl (by intro w _; go_simp; first | done | with_reducible rfl) hS ?_
             (try simp only [Act.put, List.setIfInBounds_toArray, List.set_cons_zero, List.set_cons_succ])
             refine wpAnyH_done (by kernel_rfl) ?_ _
             have HBW := Lib.hid hS.2.2.2.2.2
             clear hS
             go_wp2_with fail
             go_meet
             exact wwi_end HX9.out HX10.out (show y1.heap.size ≠ y3.heap.size by omega) RA0.out RB0.out (by omega) (by omega) (by omega) (by omega) (by omega) (by omega) (by omega) (by omega) HBW.out
             go_simp
             refine hK.out _ _ (KP1.out _ _ (bel0 _ _) hS) (fun hS' => ?_)
             clear hK K hS; have hS := hS'; clear hS'
             (try simp only [Act.put, List.setIfInBounds_toArray, List.set_cons_zero, List.set_cons_succ])
             obtain ⟨V3, hV, hbe, hx, hzV3⟩ := zstep V2
             have HX10 := Lib.hid hx
             have HX9 := Lib.hid (HX9.out.below hbe (by omega))
             have RT0 := Lib.hid (RT0.out.below (hbe.mono (by omega)))
             rw [← hV] at hS ⊢
             clear hV hbe hx
             refine reg_call 3 rfl (by kernel_rfl) (by rfl) (fun K hK => ?_)
             go_simp
             go_at_call 26
             refine (args_eqL (ToCut_any up z _) (by with_reducible rfl)).mono ?_
             rintro e y4 ⟨rfl, hb⟩
             have hzy4 := hb.size
             have HX9 := Lib.hid (HX9.out.below hb (by omega))
             have HX10 := Lib.hid (HX10.out.below hb (by omega))
             have RT0 := Lib.hid (RT0.out.below (hb.mono (by omega)))
             refine hK.out _ _ (KP1.out _ _ hb hS) (fun hS' => ?_)
             clear hK K hS; have hS := hS'; clear hS'
             (try simp only [Act.put, List.setIfInBounds_toArray, List.set_cons_zero, List.set_cons_succ])
             clear hb
             refine reg_call 4 rfl (by kernel_rfl) (by rfl) (fun K hK => ?_)
             go_simp
             go_at_call 18
             refine (args_eqL (CIH.out _ _ _ _ RT0.out (by omega)) (by with_reducible rfl)).mono ?_
             rintro e y5 ⟨vA, vB, k, rfl, RA, RB, hk1, hk2, hb⟩
             have RA0 := Lib.hid RA
             have RB0 := Lib.hid RB
             obtain ⟨aA, cA, rfl⟩ := RA.form
             obtain ⟨aB, cB, rfl⟩ := RB.form
             clear RA RB
             have hzy5 := hb.size
             have HX9 := Lib.hid (HX9.out.below hb (by omega))
             have HX10 := Lib.hid (HX10.out.below hb (by omega))
             refine hK.out _ _ (KP1.out _ _ hb hS) (fun hS' => ?_)
             clear hK K hS; have hS := hS'; clear hS'
             (try simp only [Act.put, List.setIfInBounds_toArray, List.set_cons_zero, List.set_cons_succ])
             clear hb
             refine rt 5 (v := ?_) rfl (by intro w _; go_simp; first | done | with_reducible rfl) hS ?_
             (try simp only [Act.put, List.setIfInBounds_toArray, List.set_cons_zero, List.set_cons_succ])
             refine rt 6 (v := ?_) rfl (by intro w _; go_simp; first | done | with_reducible rfl) hS ?_
             (try simp only [Act.put, List.setIfInBounds_toArray, List.set_cons_zero, List.set_cons_succ])
             refine rt 7 (v := ?_) rfl (by intro w _; go_simp; first | done | with_reducible rfl) hS ?_
             (try simp only [Act.put, List.setIfInBounds_toArray, List.set_cons_zero, List.set_cons_succ])
             refine rt 8 (v := ?_) rfl (by intro w _; go_simp; first | done | with_reducible rfl) hS ?_
             (try simp only [Act.put, List.setIfInBounds_toArray, List.set_cons_zero, List.set_cons_succ])
             clear KP1
             refine reg_call 11 rfl (by kernel_rfl) (by rfl) (fun K hK => ?_)
             have ec0 := HX9.out.1
             have ec1 := HX9.out.2.1
             have ec2 := HX9.out.2.2.1
             have ec3 := HX9.out.2.2.2.1
             have ec4 := HX9.out.2.2.2.2.1
             have ec5 := HX9.out.2.2.2.2.2
             go_simp
             refine hK.out _ _ (KS1.out _ y1.heap.size (.int .i64 M1) (.int .i64 N1) (.slice aA L1.length cA) (by omega) hS) (fun hS' => ?_)
             clear hK K hS ec0 ec1 ec2 ec3 ec4 ec5; have hS := hS'; clear hS'
             (try simp only [Act.put, List.setIfInBounds_toArray, List.set_cons_zero, List.set_cons_succ])
             have HY := Lib.hid (HX10.out.far3e (show y1.heap.size ≠ V2.heap.size by omega) (.int .i64 M1) (.int .i64 N1) (.slice aA L1.length cA))
             refine reg_call 12 rfl (by kernel_rfl) (by rfl) (fun K hK => ?_)
             have ec0 := HY.out.1
             have ec1 := HY.out.2.1
             have ec2 := HY.out.2.2.1
             have ec3 := HY.out.2.2.2.1
             have ec4 := HY.out.2.2.2.2.1
             have ec5 := HY.out.2.2.2.2.2
             go_simp
             refine hK.out _ _ (KS1.out _ V2.heap.size (.int .i64 M2) (.int .i64 N2) (.slice aB L2.length cB) (by omega) hS) (fun hS' => ?_)
             clear hK K hS ec0 ec1 ec2 ec3 ec4 ec5; have hS := hS'; clear hS'
             (try simp only [Act.put, List.setIfInBounds_toArray, List.set_cons_zero, List.set_cons_succ])
             refine rt 13 (v := ?_) rfl (by intro w _; go_simp; first | done | with_reducible rfl) hS ?_
             (try simp only [Act.put, List.setIfInBounds_toArray, List.set_cons_zero, List.set_cons_succ])
             refine wpAnyH_done (by kernel_rfl) ?_ _
             have HBW := Lib.hid hS.2.2.2.2.2
             clear hS
             go_wp2_with fail
             go_meet
             exact wwi_end HX9.out HX10.out (show y1.heap.size ≠ V2.heap.size by omega) RA0.out RB0.out (by omega) (by omega) (by omega) (by omega) (by omega) (by omega) (by omega) (by omega) HBW.out
           · as_aux_lemma =>
             go_simp
             refine hK.out _ _ (KP1.out _ _ (bel0 _ _) hS) (fun hS' => ?_)
             clear hK K hS; have hS := hS'; clear hS'
             (try simp only [Act.put, List.setIfInBounds_toArray, List.set_cons_zero, List.set_cons_succ])
             obtain ⟨V2, hV, hbe, hx, hzV2⟩ := zstep y1
             have HX10 := Lib.hid hx
             have RT0 := Lib.hid (RT0.out.below (hbe.mono (by omega)))
             rw [← hV] at hS ⊢
             clear hV hbe hx
             refine reg_two 3 9 rfl rfl (by kernel_rfl) (by rfl) (by rfl) (fun K hK => ?_) (fun K hK => ?_)
             go_simp
             go_at_call 26
             refine (args_eqL (ToCut_any up z _) (by with_reducible rfl)).mono ?_
             rintro e y3 ⟨rfl, hb⟩
             have hzy3 := hb.size
             have HX10 := Lib.hid (HX10.out.below hb (by omega))
             have RT0 := Lib.hid (RT0.out.below (hb.mono (by omega)))
             refine hK.out _ _ (KP1.out _ _ hb hS) (fun hS' => ?_)
             clear hK K hS; have hS := hS'; clear hS'
             (try simp only [Act.put, List.setIfInBounds_toArray, List.set_cons_zero, List.set_cons_succ])
             clear hb
             refine reg_two 4 9 rfl rfl (by kernel_rfl) (by rfl) (by rfl) (fun K hK => ?_) (fun K hK => ?_)
             go_simp
             go_at_call 18
             refine (args_eqL (CIH.out _ _ _ _ RT0.out (by omega)) (by with_reducible rfl)).mono ?_
             rintro e y4 ⟨vA, vB, k, rfl, RA, RB, hk1, hk2, hb⟩
             have RA0 := Lib.hid RA
             have RB0 := Lib.hid RB
             obtain ⟨aA, cA, rfl⟩ := RA.form
             obtain ⟨aB, cB, rfl⟩ := RB.form
             clear RA RB
             have hzy4 := hb.size
             have HX10 := Lib.hid (HX10.out.below hb (by omega))
             refine hK.out _ _ (KP1.out _ _ hb hS) (fun hS' => ?_)
             clear hK K hS; have hS := hS'; clear hS'
             (try simp only [Act.put, List.setIfInBounds_toArray, List.set_cons_zero, List.set_cons_succ])
             clear hb
             refine rt 5 (v := ?_) rfl (by intro w _; go_simp; first | done | with_reducible rfl) hS ?_
             (try simp only [Act.put, List.setIfInBounds_toArray, List.set_cons_zero, List.set_cons_succ])
             refine rt 6 (v := ?_) rfl (by intro w _; go_simp; first | done | with_reducible rfl) hS ?_
             (try simp only [Act.put, List.setIfInBounds_toArray, List.set_cons_zero, List.set_cons_succ])
             refine rt 7 (v := ?_) rfl (by intro w _; go_simp; first | done | with_reducible rfl) hS ?_
             (try simp only [Act.put, List.setIfInBounds_toArray, List.set_cons_zero, List.set_cons_succ])
             refine rt 8 (v := ?_) rfl (by intro w _; go_simp; first | done | with_reducible rfl) hS ?_
             (try simp only [Act.put, List.setIfInBounds_toArray, List.set_cons_zero, List.set_cons_succ])
             refine reg_call 9 rfl (by kernel_rfl) (by rfl) (fun K hK => ?_)
             go_simp
             refine hK.out _ _ (KP1.out _ _ (bel0 _ _) hS) (fun hS' => ?_)
             clear hK K hS; have hS := hS'; clear hS'
             (try simp only [Act.put, List.setIfInBounds_toArray, List.set_cons_zero, List.set_cons_succ])
             obtain ⟨V5, hV, hbe, hx, hzV5⟩ := zstep y4
             have HX9 := Lib.hid hx
             have HX10 := Lib.hid (HX10.out.below hbe (by omega))
             have RA0 := Lib.hid (RA0.out.below (hbe.mono (by omega)))
             have RB0 := Lib.hid (RB0.out.below (hbe.mono (by omega)))
             rw [← hV] at hS ⊢
             clear hV hbe hx
             clear KP1
             refine reg_call 11 rfl (by kernel_rfl) (by rfl) (fun K hK => ?_)
             have ec0 := HX9.out.1
             have ec1 := HX9.out.2.1
             have ec2 := HX9.out.2.2.1
             have ec3 := HX9.out.2.2.2.1
             have ec4 := HX9.out.2.2.2.2.1
             have ec5 := HX9.out.2.2.2.2.2
             go_simp
             refine hK.out _ _ (KS1.out _ y4.heap.size (.int .i64 M1) (.int .i64 N1) (.slice aA L1.length cA) (by omega) hS) (fun hS' => ?_)
             clear hK K hS ec0 ec1 ec2 ec3 ec4 ec5; have hS := hS'; clear hS'
             (try simp only [Act.put, List.setIfInBounds_toArray, List.set_cons_zero, List.set_cons_succ])
             have HY := Lib.hid (HX10.out.far3e (show y4.heap.size ≠ y1.heap.size by omega) (.int .i64 M1) (.int .i64 N1) (.slice aA L1.length cA))
             refine reg_call 12 rfl (by kernel_rfl) (by rfl) (fun K hK => ?_)
             have ec0 := HY.out.1
             have ec1 := HY.out.2.1
             have ec2 := HY.out.2.2.1
             have ec3 := HY.out.2.2.2.1
             have ec4 := HY.out.2.2.2.2.1
             have ec5 := HY.out.2.2.2.2.2
             go_simp
             refine hK.out _ _ (KS1.out _ y1.heap.size (.int .i64 M2) (.int .i64 N2) (.slice aB L2.length cB) (by omega) hS) (fun hS' => ?_)
             clear hK K hS ec0 ec1 ec2 ec3 ec4 ec5; have hS := hS'; clear hS'
             (try simp only [Act.put, List.setIfInBounds_toArray, List.set_cons_zero, List.set_cons_succ])
             refine rt 13 (v := ?_) rfl (by intro w _; go_simp; first | done | with_reducible rfl) hS ?_
             (try simp only [Act.put, List.setIfInBounds_toArray, List.set_cons_zero, List.set_cons_succ])
             refine wpAnyH_done (by kernel_rfl) ?_ _
             have HBW := Lib.hid hS.2.2.2.2.2
             clear hS
             go_wp2_with fail
             go_meet
             exact wwi_end HX9.out HX10.out (show y4.heap.size ≠ y1.heap.size by omega) RA0.out RB0.out (by omega) (by omega) (by omega) (by omega) (by omega) (by omega) (by omega) (by omega) HBW.out
             go_simp
             refine hK.out _ _ (KP1.out _ _ (bel0 _ _) hS) (fun hS' => ?_)
             clear hK K hS; have hS := hS'; clear hS'
             (try simp only [Act.put, List.setIfInBounds_toArray, List.set_cons_zero, List.set_cons_succ])
             obtain ⟨V4, hV, hbe, hx, hzV4⟩ := zstep y3
             have HX9 := Lib.hid hx
             have HX10 := Lib.hid (HX10.out.below hbe (by omega))
             have RT0 := Lib.hid (RT0.out.below (hbe.mono (by omega)))
             rw [← hV] at hS ⊢
             clear hV hbe hx
             refine reg_call 4 rfl (by kernel_rfl) (by rfl) (fun K hK => ?_)
             go_simp
             go_at_call 18
             refine (args_eqL (CIH.out _ _ _ _ RT0.out (by omega)) (by with_reducible rfl)).mono ?_
             rintro e y5 ⟨vA, vB, k, rfl, RA, RB, hk1, hk2, hb⟩
             have RA0 := Lib.hid RA
             have RB0 := Lib.hid RB
             obtain ⟨aA, cA, rfl⟩ := RA.form
             obtain ⟨aB, cB, rfl⟩ := RB.form
             clear RA RB
             have hzy5 := hb.size
             have HX10 := Lib.hid (HX10.out.below hb (by omega))
             have HX9 := Lib.hid (HX9.out.below hb (by omega))
             refine hK.out _ _ (KP1.out _ _ hb hS) (fun hS' => ?_)
             clear hK K hS; have hS := hS'; clear hS'
             (try simp only [Act.put, List.setIfInBounds_toArray, List.set_cons_zero, List.set_cons_succ])
             clear hb
             refine rt 5 (v := ?_) rfl (by intro w _; go_simp; first | done | with_reducible rfl) hS ?_
             (try simp only [Act.put, List.setIfInBounds_toArray, List.set_cons_zero, List.set_cons_succ])
             refine rt 6 (v := ?_) rfl (by intro w _; go_simp; first | done | with_reducible rfl) hS ?_
             (try simp only [Act.put, List.setIfInBounds_toArray, List.set_cons_zero, List.set_cons_succ])
             refine rt 7 (v := ?_) rfl (by intro w _; go_simp; first | done | with_reducible rfl) hS ?_
             (try simp only [Act.put, List.setIfInBounds_toArray, List.set_cons_zero, List.set_cons_succ])
             refine rt 8 (v := ?_) rfl (by intro w _; go_simp; first | done | with_reducible rfl) hS ?_
             (try simp only [Act.put, List.setIfInBounds_toArray, List.set_cons_zero, List.set_cons_succ])
             clear KP1
             refine reg_call 11 rfl (by kernel_rfl) (by rfl) (fun K hK => ?_)
             have ec0 := HX9.out.1
             have ec1 := HX9.out.2.1
             have ec2 := HX9.out.2.2.1
             have ec3 := HX9.out.2.2.2.1
             have ec4 := HX9.out.2.2.2.2.1
             have ec5 := HX9.out.2.2.2.2.2
             go_simp
             refine hK.out _ _ (KS1.out _ y3.heap.size (.int .i64 M1) (.int .i64 N1) (.slice aA L1.length cA) (by omega) hS) (fun hS' => ?_)
             clear hK K hS ec0 ec1 ec2 ec3 ec4 ec5; have hS := hS'; clear hS'
             (try simp only [Act.put, List.setIfInBounds_toArray, List.set_cons_zero, List.set_cons_succ])
             have HY := Lib.hid (HX10.out.far3e (show y3.heap.size ≠ y1.heap.size by omega) (.int .i64 M1) (.int .i64 N1) (.slice aA L1.length cA))
             refine reg_call 12 rfl (by kernel_rfl) (by rfl) (fun K hK => ?_)
             have ec0 := HY.out.1
             have ec1 := HY.out.2.1
             have ec2 := HY.out.2.2.1
             have ec3 := HY.out.2.2.2.1
             have ec4 := HY.out.2.2.2.2.1
             have ec5 := HY.out.2.2.2.2.2
             go_simp
             refine hK.out _ _ (KS1.out _ y1.heap.size (.int .i64 M2) (.int .i64 N2) (.slice aB L2.length cB) (by omega) hS) (fun hS' => ?_)
             clear hK K hS ec0 ec1 ec2 ec3 ec4 ec5; have hS := hS'; clear hS'
             (try simp only [Act.put, List.setIfInBounds_toArray, List.set_cons_zero, List.set_cons_succ])
             refine rt 13 (v := ?_) rfl (by intro w _; go_simp; first | done | with_reducible rfl) hS ?_
             (try simp only [Act.put, List.setIfInBounds_toArray, List.set_cons_zero, List.set_cons_succ])
             refine wpAnyH_done (by kernel_rfl) ?_ _
             have HBW := Lib.hid hS.2.2.2.2.2
             clear hS
             go_wp2_with fail
             go_meet
             exact wwi_end HX9.out HX10.out (show y3.heap.size ≠ y1.heap.size by omega) RA0.out RB0.out (by omega) (by omega) (by omega) (by omega) (by omega) (by omega) (by omega) (by omega) HBW.out
             go_simp
             refine hK.out _ _ (KP1.out _ _ (bel0 _ _) hS) (fun hS' => ?_)
             clear hK K hS; have hS := hS'; clear hS'
             (try simp only [Act.put, List.setIfInBounds_toArray, List.set_cons_zero, List.set_cons_succ])
             obtain ⟨V3, hV, hbe, hx, hzV3⟩ := zstep V2
             have HX9 := Lib.hid hx
             have HX10 := Lib.hid (HX10.out.below hbe (by omega))
             have RT0 := Lib.hid (RT0.out.below (hbe.mono (by omega)))
             rw [← hV] at hS ⊢
             clear hV hbe hx
             refine reg_call 3 rfl (by kernel_rfl) (by rfl) (fun K hK => ?_)
             go_simp
             go_at_call 26
             refine (args_eqL (ToCut_any up z _) (by with_reducible rfl)).mono ?_
             rintro e y4 ⟨rfl, hb⟩
             have hzy4 := hb.size
             have HX10 := Lib.hid (HX10.out.below hb (by omega))
             have HX9 := Lib.hid (HX9.out.below hb (by omega))
             have RT0 := Lib.hid (RT0.out.below (hb.mono (by omega)))
             refine hK.out _ _ (KP1.out _ _ hb hS) (fun hS' => ?_)
             clear hK K hS; have hS := hS'; clear hS'
             (try simp only [Act.put, List.setIfInBounds_toArray, List.set_cons_zero, List.set_cons_succ])
             clear hb
             refine reg_call 4 rfl (by kernel_rfl) (by rfl) (fun K hK => ?_)
             go_simp
             go_at_call 18
             refine (args_eqL (CIH.out _ _ _ _ RT0.out (by omega)) (by with_reducible rfl)).mono ?_
             rintro e y5 ⟨vA, vB, k, rfl, RA, RB, hk1, hk2, hb⟩
             have RA0 := Lib.hid RA
             have RB0 := Lib.hid RB
             obtain ⟨aA, cA, rfl⟩ := RA.form
             obtain ⟨aB, cB, rfl⟩ := RB.form
             clear RA RB
             have hzy5 := hb.size
             have HX10 := Lib.hid (HX10.out.below hb (by omega))
             have HX9 := Lib.hid (HX9.out.below hb (by omega))
             refine hK.out _ _ (KP1.out _ _ hb hS) (fun hS' => ?_)
             clear hK K hS; have hS := hS'; clear hS'
             (try simp only [Act.put, List.setIfInBounds_toArray, List.set_cons_zero, List.set_cons_succ])
             clear hb
             refine rt 5 (v := ?_) rfl (by intro w _; go_simp; first | done | with_reducible rfl) hS ?_
             (try simp only [Act.put, List.setIfInBounds_toArray, List.set_cons_zero, List.set_cons_succ])
             refine rt 6 (v := ?_) rfl (by intro w _; go_simp; first | done | with_reducible rfl) hS ?_
             (try simp only [Act.put, List.setIfInBounds_toArray, List.set_cons_zero, List.set_cons_succ])
             refine rt 7 (v := ?_) rfl (by intro w _; go_simp; first | done | with_reducible rfl) hS ?_
             (try simp only [Act.put, List.setIfInBounds_toArray, List.set_cons_zero, List.set_cons_succ])
             refine rt 8 (v := ?_) rfl (by intro w _; go_simp; first | done | with_reducible rfl) hS ?_
             (try simp only [Act.put, List.setIfInBounds_toArray, List.set_cons_zero, List.set_cons_succ])
             clear KP1
             refine reg_call 11 rfl (by kernel_rfl) (by rfl) (fun K hK => ?_)
             have ec0 := HX9.out.1
             have ec1 := HX9.out.2.1
             have ec2 := HX9.out.2.2.1
             have ec3 := HX9.out.2.2.2.1
             have ec4 := HX9.out.2.2.2.2.1
             have ec5 := HX9.out.2.2.2.2.2
             go_simp
             refine hK.out _ _ (KS1.out _ V2.heap.size (.int .i64 M1) (.int .i64 N1) (.slice aA L1.length cA) (by omega) hS) (fun hS' => ?_)
             clear hK K hS ec0 ec1 ec2 ec3 ec4 ec5; have hS := hS'; clear hS'
             (try simp only [Act.put, List.setIfInBounds_toArray, List.set_cons_zero, List.set_cons_succ])
             have HY := Lib.hid (HX10.out.far3e (show V2.heap.size ≠ y1.heap.size by omega) (.int .i64 M1) (.int .i64 N1) (.slice aA L1.length cA))
             refine reg_call 12 rfl (by kernel_rfl) (by rfl) (fun K hK => ?_)
             have ec0 := HY.out.1
             have ec1 := HY.out.2.1
             have ec2 := HY.out.2.2.1
             have ec3 := HY.out.2.2.2.1
             have ec4 := HY.out.2.2.2.2.1
             have ec5 := HY.out.2.2.2.2.2
             go_simp
             refine hK.out _ _ (KS1.out _ y1.heap.size (.int .i64 M2) (.int .i64 N2) (.slice aB L2.length cB) (by omega) hS) (fun hS' => ?_)
             clear hK K hS ec0 ec1 ec2 ec3 ec4 ec5; have hS := hS'; clear hS'
             (try simp only [Act.put, List.setIfInBounds_toArray, List.set_cons_zero, List.set_cons_succ])
             refine rt 13 (v := ?_) rfl (by intro w _; go_simp; first | done | with_reducible rfl) hS ?_
             (try simp only [Act.put, List.setIfInBounds_toArray, List.set_cons_zero, List.set_cons_succ])
             refine wpAnyH_done (by kernel_rfl) ?_ _
             have HBW := Lib.hid hS.2.2.2.2.2
             clear hS
             go_wp2_with fail
             go_meet
             exact wwi_end HX9.out HX10.out (show V2.heap.size ≠ y1.heap.size by omega) RA0.out RB0.out (by omega) (by omega) (by omega) (by omega) (by omega) (by omega) (by omega) (by omega) HBW.out
         · as_aux_lemma =>
           go_simp
           refine hK.out _ _ (KP1.out _ _ (bel0 _ _) hS) (fun hS' => ?_)
           clear hK K hS; have hS := hS'; clear hS'
           (try simp only [Act.put, List.setIfInBounds_toArray, List.set_cons_zero, List.set_cons_succ])
           obtain ⟨V1, hV, hbe, hx, hzV1⟩ := zstep U0
           have HX9 := Lib.hid hx
           rw [← hV] at hS ⊢
           clear hV hbe hx
           refine reg_two 1 10 rfl rfl (by kernel_rfl) (by rfl) (by rfl) (fun K hK => ?_) (fun K hK => ?_)
           · as_aux_lemma =>
             go_simp
             go_at_call 25
             refine (args_eqL (CT.out _ hS) (by with_reducible rfl)).mono ?_
             rintro e y2 ⟨v, rfl, RR, hb⟩
             obtain ⟨aT, cT, rfl⟩ := RR.form
             have RT0 := Lib.hid RR
             clear RR
             have hzy2 := hb.size
             have HX9 := Lib.hid (HX9.out.below hb (by omega))
             refine hK.out _ _ (KP1.out _ _ hb hS) (fun hS' => ?_)
             clear hK K hS; have hS := hS'; clear hS'
             (try simp only [Act.put, List.setIfInBounds_toArray, List.set_cons_zero, List.set_cons_succ])
             clear hb
             refine reg_two 3 10 rfl rfl (by kernel_rfl) (by rfl) (by rfl) (fun K hK => ?_) (fun K hK => ?_)
             go_simp
             go_at_call 26
             refine (args_eqL (ToCut_any up z _) (by with_reducible rfl)).mono ?_
             rintro e y3 ⟨rfl, hb⟩
             have hzy3 := hb.size
             have HX9 := Lib.hid (HX9.out.below hb (by omega))
             have RT0 := Lib.hid (RT0.out.below (hb.mono (by omega)))
             refine hK.out _ _ (KP1.out _ _ hb hS) (fun hS' => ?_)
             clear hK K hS; have hS := hS'; clear hS'
             (try simp only [Act.put, List.setIfInBounds_toArray, List.set_cons_zero, List.set_cons_succ])
             clear hb
             refine reg_two 4 10 rfl rfl (by kernel_rfl) (by rfl) (by rfl) (fun K hK => ?_) (fun K hK => ?_)
             go_simp
             go_at_call 18
             refine (args_eqL (CIH.out _ _ _ _ RT0.out (by omega)) (by with_reducible rfl)).mono ?_
             rintro e y4 ⟨vA, vB, k, rfl, RA, RB, hk1, hk2, hb⟩
             have RA0 := Lib.hid RA
             have RB0 := Lib.hid RB
             obtain ⟨aA, cA, rfl⟩ := RA.form
             obtain ⟨aB, cB, rfl⟩ := RB.form
             clear RA RB
             have hzy4 := hb.size
             have HX9 := Lib.hid (HX9.out.below hb (by omega))
             refine hK.out _ _ (KP1.out _ _ hb hS) (fun hS' => ?_)
             clear hK K hS; have hS := hS'; clear hS'
             (try simp only [Act.put, List.setIfInBounds_toArray, List.set_cons_zero, List.set_cons_succ])
             clear hb
             refine rt 5 (v := ?_) rfl (by intro w _; go_simp; first | done | with_reducible rfl) hS ?_
             (try simp only [Act.put, List.setIfInBounds_toArray, List.set_cons_zero, List.set_cons_succ])
             refine rt 6 (v := ?_) rfl (by intro w _; go_simp; first | done | with_reducible rfl) hS ?_
             (try simp only [Act.put, List.setIfInBounds_toArray, List.set_cons_zero, List.set_cons_succ])
             refine rt 7 (v := ?_) rfl (by intro w _; go_simp; first | done | with_reducible rfl) hS ?_
             (try simp only [Act.put, List.setIfInBounds_toArray, List.set_cons_zero, List.set_cons_succ])
             refine rt 8 (v := ?_) rfl (by intro w _; go_simp; first | done | with_reducible rfl) hS ?_
             (try simp only [Act.put, List.setIfInBounds_toArray, List.set_cons_zero, List.set_cons_succ])
             refine reg_call 10 rfl (by kernel_rfl) (by rfl) (fun K hK => ?_)
             go_simp
             refine hK.out _ _ (KP1.out _ _ (bel0 _ _) hS) (fun hS' => ?_)
             clear hK K hS; have hS := hS'; clear hS'
             (try simp only [Act.put, List.setIfInBounds_toArray, List.set_cons_zero, List.set_cons_succ])
             obtain ⟨V5, hV, hbe, hx, hzV5⟩ := zstep y4
             have HX10 := Lib.hid hx
             have HX9 := Lib.hid (HX9.out.below hbe (by omega))
             have RA0 := Lib.hid (RA0.out.below (hbe.mono (by omega)))
             have RB0 := Lib.hid (RB0.out.below (hbe.mono (by omega)))
             rw [← hV] at hS ⊢
             clear hV hbe hx
             clear KP1
             refine reg_call 11 rfl (by kernel_rfl) (by rfl) (fun K hK => ?_)
             have ec0 := HX9.out.1
             have ec1 := HX9.out.2.1
             have ec2 := HX9.out.2.2.1
             have ec3 := HX9.out.2.2.2.1
             have ec4 := HX9.out.2.2.2.2.1
             have ec5 := HX9.out.2.2.2.2.2
             go_simp
             refine hK.out _ _ (KS1.out _ U0.heap.size (.int .i64 M1) (.int .i64 N1) (.slice aA L1.length cA) (by omega) hS) (fun hS' => ?_)
             clear hK K hS ec0 ec1 ec2 ec3 ec4 ec5; have hS := hS'; clear hS'
             (try simp only [Act.put, List.setIfInBounds_toArray, List.set_cons_zero, List.set_cons_succ])
             have HY := Lib.hid (HX10.out.far3e (show U0.heap.size ≠ y4.heap.size by omega) (.int .i64 M1) (.int .i64 N1) (.slice aA L1.length cA))
             refine reg_call 12 rfl (by kernel_rfl) (by rfl) (fun K hK => ?_)
             have ec0 := HY.out.1
             have ec1 := HY.out.2.1
             have ec2 := HY.out.2.2.1
             have ec3 := HY.out.2.2.2.1
             have ec4 := HY.out.2.2.2.2.1
             have ec5 := HY.out.2.2.2.2.2
             go_simp
             refine hK.out _ _ (KS1.out _ y4.heap.size (.int .i64 M2) (.int .i64 N2) (.slice aB L2.length cB) (by omega) hS) (fun hS' => ?_)
             clear hK K hS ec0 ec1 ec2 ec3 ec4 ec5; have hS := hS'; clear hS'
             (try simp only [Act.put, List.setIfInBounds_toArray, List.set_cons_zero, List.set_cons_succ])
             refine rt 13 (v := ?_) rfl (by intro w _; go_simp; first | done | with_reducible rfl) hS ?_
             (try simp only [Act.put, List.setIfInBounds_toArray, List.set_cons_zero, List.set_cons_succ])
             refine wpAnyH_done (by kernel_rfl) ?_ _
             have HBW := Lib.hid hS.2.2.2.2.2
             clear hS
             go_wp2_with fail
             go_meet
             exact wwi_end HX9.out HX10.out (show U0.heap.size ≠ y4.heap.size by omega) RA0.out RB0.out (by omega) (by omega) (by omega) (by omega) (by omega) (by omega) (by omega) (by omega) HBW.out
             go_simp
             refine hK.out _ _ (KP1.out _ _ (bel0 _ _) hS) (fun hS' => ?_)
             clear hK K hS; have hS := hS'; clear hS'
             (try simp only [Act.put, List.setIfInBounds_toArray, List.set_cons_zero, List.set_cons_succ])
             obtain ⟨V4, hV, hbe, hx, hzV4⟩ := zstep y3
             have HX10 := Lib.hid hx
             have HX9 := Lib.hid (HX9.out.below hbe (by omega))
             have RT0 := Lib.hid (RT0.out.below (hbe.mono (by omega)))
             rw [← hV] at hS ⊢
             clear hV hbe hx
             refine reg_call 4 rfl (by kernel_rfl) (by rfl) (fun K hK => ?_)
             go_simp
             go_at_call 18
             refine (args_eqL (CIH.out _ _ _ _ RT0.out (by omega)) (by with_reducible rfl)).mono ?_
             rintro e y5 ⟨vA, vB, k, rfl, RA, RB, hk1, hk2, hb⟩
             have RA0 := Lib.hid RA
             have RB0 := Lib.hid RB
             obtain ⟨aA, cA, rfl⟩ := RA.form
             obtain ⟨aB, cB, rfl⟩ := RB.form
             clear RA RB
             have hzy5 := hb.size
             have HX9 := Lib.hid (HX9.out.below hb (by omega))
             have HX10 := Lib.hid (HX10.out.below hb (by omega))
             refine hK.out _ _ (KP1.out _ _ hb hS) (fun hS' => ?_)
             clear hK K hS; have hS := hS'; clear hS'
             (try simp only [Act.put, List.setIfInBounds_toArray, List.set_cons_zero, List.set_cons_succ])
             clear hb
             refine rt 5 (v := ?_) rfl (by intro w _; go_simp; first | done | with_reducible rfl) hS ?_
             (try simp only [Act.put, List.setIfInBounds_toArray, List.set_cons_zero, List.set_cons_succ])
             refine rt 6 (v := ?_) rfl (by intro w _; go_simp; first | done | with_reducible rfl) hS ?_
             (try simp only [Act.put, List.setIfInBounds_toArray, List.set_cons_zero, List.set_cons_succ])
             refine rt 7 (v := ?_) rfl (by intro w _; go_simp; first | done | with_reducible rfl) hS ?_
             (try simp only [Act.put, List.setIfInBounds_toArray, List.set_cons_zero, List.set_cons_succ])
             refine rt 8 (v := ?_) rfl (by intro w _; go_simp; first | done | with_reducible rfl) hS ?_
             (try simp only [Act.put, List.setIfInBounds_toArray, List.set_cons_zero, List.set_cons_succ])
             clear KP1
             refine reg_call 11 rfl (by kernel_rfl) (by rfl) (fun K hK => ?_)
             have ec0 := HX9.out.1
             have ec1 := HX9.out.2.1
             have ec2 := HX9.out.2.2.1
             have ec3 := HX9.out.2.2.2.1
             have ec4 := HX9.out.2.2.2.2.1
             have ec5 := HX9.out.2.2.2.2.2
             go_simp
             refine hK.out _ _ (KS1.out _ U0.heap.size (.int .i64 M1) (.int .i64 N1) (.slice aA L1.length cA) (by omega) hS) (fun hS' => ?_)
             clear hK K hS ec0 ec1 ec2 ec3 ec4 ec5; have hS := hS'; clear hS'
             (try simp only [Act.put, List.setIfInBounds_toArray, List.set_cons_zero, List.set_cons_succ])
             have HY := Lib.hid (HX10.out.far3e (show U0.heap.size ≠ y3.heap.size by omega) (.int .i64 M1) (.int .i64 N1) (.slice aA L1.length cA))
             refine reg_call 12 rfl (by kernel_rfl) (by rfl) (fun K hK => ?_)
             have ec0 := HY.out.1
             have ec1 := HY.out.2.1
             have ec2 := HY.out.2.2.1
             have ec3 := HY.out.2.2.2.1
             have ec4 := HY.out.2.2.2.2.1
             have ec5 := HY.out.2.2.2.2.2
             go_simp
             refine hK.out _ _ (KS1.out _ y3.heap.size (.int .i64 M2) (.int .i64 N2) (.slice aB L2.length cB) (by omega) hS) (fun hS' => ?_)
             clear hK K hS ec0 ec1 ec2 ec3 ec4 ec5; have hS := hS'; clear hS'
             (try simp only [Act.put, List.setIfInBounds_toArray, List.set_cons_zero, List.set_cons_succ])
             refine rt 13 (v := ?_) rfl (by intro w _; go_simp; first | done | with_reducible rfl) hS ?_
             (try simp only [Act.put, List.setIfInBounds_toArray, List.set_cons_zero, List.set_cons_succ])
             refine wpAnyH_done (by kernel_rfl) ?_ _
             have HBW := Lib.hid hS.2.2.2.2.2
             clear hS
             go_wp2_with fail
             go_meet
             exact wwi_end HX9.out HX10.out (show U0.heap.size ≠ y3.heap.size by omega) RA0.out RB0.out (by omega) (by omega) (by omega) (by omega) (by omega) (by omega) (by omega) (by omega) HBW.out
             go_simp
             refine hK.out _ _ (KP1.out _ _ (bel0 _ _) hS) (fun hS' => ?_)
             clear hK K hS; have hS := hS'; clear hS'
             (try simp only [Act.put, List.setIfInBounds_toArray, List.set_cons_zero, List.set_cons_succ])
             obtain ⟨V3, hV, hbe, hx, hzV3⟩ := zstep y2
             have HX10 := Lib.hid hx
             have HX9 := Lib.hid (HX9.out.below hbe (by omega))
             have RT0 := Lib.hid (RT0.out.below (hbe.mono (by omega)))
             rw [← hV] at hS ⊢
             clear hV hbe hx
             refine reg_call 3 rfl (by kernel_rfl) (by rfl) (fun K hK => ?_)
             go_simp
             go_at_call 26
             refine (args_eqL (ToCut_any up z _) (by with_reducible rfl)).mono ?_
             rintro e y4 ⟨rfl, hb⟩
             have hzy4 := hb.size
             have HX9 := Lib.hid (HX9.out.below hb (by omega))
             have HX10 := Lib.hid (HX10.out.below hb (by omega))
             have RT0 := Lib.hid (RT0.out.below (hb.mono (by omega)))
             refine hK.out _ _ (KP1.out _ _ hb hS) (fun hS' => ?_)
             clear hK K hS; have hS := hS'; clear hS'
             (try simp only [Act.put, List.setIfInBounds_toArray, List.set_cons_zero, List.set_cons_succ])
             clear hb
             refine reg_call 4 rfl (by kernel_rfl) (by rfl) (fun K hK => ?_)
             go_simp
             go_at_call 18
             refine (args_eqL (CIH.out _ _ _ _ RT0.out (by omega)) (by with_reducible rfl)).mono ?_
             rintro e y5 ⟨vA, vB, k, rfl, RA, RB, hk1, hk2, hb⟩
             have RA0 := Lib.hid RA
             have RB0 := Lib.hid RB
             obtain ⟨aA, cA, rfl⟩ := RA.form
             obtain ⟨aB, cB, rfl⟩ := RB.form
             clear RA RB
             have hzy5 := hb.size
             have HX9 := Lib.hid (HX9.out.below hb (by omega))
             have HX10 := Lib.hid (HX10.out.below hb (by omega))
             refine hK.out _ _ (KP1.out _ _ hb hS) (fun hS' => ?_)
             clear hK K hS; have hS := hS'; clear hS'
             (try simp only [Act.put, List.setIfInBounds_toArray, List.set_cons_zero, List.set_cons_succ])
             clear hb
             refine rt 5 (v := ?_) rfl (by intro w _; go_simp; first | done | with_reducible rfl) hS ?_
             (try simp only [Act.put, List.setIfInBounds_toArray, List.set_cons_zero, List.set_cons_succ])
             refine rt 6 (v := ?_) rfl (by intro w _; go_simp; first | done | with_reducible rfl) hS ?_
             (try simp only [Act.put, List.setIfInBounds_toArray, List.set_cons_zero, List.set_cons_succ])
             refine rt 7 (v := ?_) rfl (by intro w _; go_simp; first | done | with_reducible rfl) hS ?_
             (try simp only [Act.put, List.setIfInBounds_toArray, List.set_cons_zero, List.set_cons_succ])
             refine rt 8 (v := ?_) rfl (by intro w _; go_simp; first | done | with_reducible rfl) hS ?_
             (try simp only [Act.put, List.setIfInBounds_toArray, List.set_cons_zero, List.set_cons_succ])
             clear KP1
             refine reg_call 11 rfl (by kernel_rfl) (by rfl) (fun K hK => ?_)
             have ec0 := HX9.out.1
             have ec1 := HX9.out.2.1
             have ec2 := HX9.out.2.2.1
             have ec3 := HX9.out.2.2.2.1
             have ec4 := HX9.out.2.2.2.2.1
             have ec5 := HX9.out.2.2.2.2.2
             go_simp
             refine hK.out _ _ (KS1.out _ U0.heap.size (.int .i64 M1) (.int .i64 N1) (.slice aA L1.length cA) (by omega) hS) (fun hS' => ?_)
             clear hK K hS ec0 ec1 ec2 ec3 ec4 ec5; have hS := hS'; clear hS'
             (try simp only [Act.put, List.setIfInBounds_toArray, List.set_cons_zero, List.set_cons_succ])
             have HY := Lib.hid (HX10.out.far3e (show U0.heap.size ≠ y2.heap.size by omega) (.int .i64 M1) (.int .i64 N1) (.slice aA L1.length cA))
             refine reg_call 12 rfl (by kernel_rfl) (by rfl) (fun K hK => ?_)
             have ec0 := HY.out.1
             have ec1 := HY.out.2.1
             have ec2 := HY.out.2.2.1
             have ec3 := HY.out.2.2.2.1
             have ec4 := HY.out.2.2.2.2.1
             have ec5 := HY.out.2.2.2.2.2
             go_simp
             refine hK.out _ _ (KS1.out _ y2.heap.size (.int .i64 M2) (.int .i64 N2) (.slice aB L2.length cB) (by omega) hS) (fun hS' => ?_)
             clear hK K hS ec0 ec1 ec2 ec3 ec4 ec5; have hS := hS'; clear hS'
             (try simp only [Act.put, List.setIfInBounds_toArray, List.set_cons_zero, List.set_cons_succ])
             refine rt 13 (v := ?_) rfl (by intro w _; go_simp; first | done | with_reducible rfl) hS ?_
             (try simp only [Act.put, List.setIfInBounds_toArray, List.set_cons_zero, List.set_cons_succ])
             refine wpAnyH_done (by kernel_rfl) ?_ _
             have HBW := Lib.hid hS.2.2.2.2.2
             clear hS
             go_wp2_with fail
             go_meet
             exact wwi_end HX9.out HX10.out (show U0.heap.size ≠ y2.heap.size by omega) RA0.out RB0.out (by omega) (by omega) (by omega) (by omega) (by omega) (by omega) (by omega) (by omega) HBW.out
           · as_aux_lemma =>
             go_simp
             refine hK.out _ _ (KP1.out _ _ (bel0 _ _) hS) (fun hS' => ?_)
             clear hK K hS; have hS := hS'; clear hS'
             (try simp only [Act.put, List.setIfInBounds_toArray, List.set_cons_zero, List.set_cons_succ])
             obtain ⟨V2, hV, hbe, hx, hzV2⟩ := zstep V1
             have HX10 := Lib.hid hx
             have HX9 := Lib.hid (HX9.out.below hbe (by omega))
             rw [← hV] at hS ⊢
             clear hV hbe hx
             refine reg_call 1 rfl (by kernel_rfl) (by rfl) (fun K hK => ?_)
             go_simp
             go_at_call 25
             refine (args_eqL (CT.out _ hS) (by with_reducible rfl)).mono ?_
             rintro e y3 ⟨v, rfl, RR, hb⟩
             obtain ⟨aT, cT, rfl⟩ := RR.form
             have RT0 := Lib.hid RR
             clear RR
             have hzy3 := hb.size
             have HX9 := Lib.hid (HX9.out.below hb (by omega))
             have HX10 := Lib.hid (HX10.out.below hb (by omega))
             refine hK.out _ _ (KP1.out _ _ hb hS) (fun hS' => ?_)
             clear hK K hS; have hS := hS'; clear hS'
             (try simp only [Act.put, List.setIfInBounds_toArray, List.set_cons_zero, List.set_cons_succ])
             clear hb
             refine reg_call 3 rfl (by kernel_rfl) (by rfl) (fun K hK => ?_)
             go_simp
             go_at_call 26
             refine (args_eqL (ToCut_any up z _) (by with_reducible rfl)).mono ?_
             rintro e y4 ⟨rfl, hb⟩
             have hzy4 := hb.size
             have HX9 := Lib.hid (HX9.out.below hb (by omega))
             have HX10 := Lib.hid (HX10.out.below hb (by omega))
             have RT0 := Lib.hid (RT0.out.below (hb.mono (by omega)))
             refine hK.out _ _ (KP1.out _ _ hb hS) (fun hS' => ?_)
             clear hK K hS; have hS := hS'; clear hS'
             (try simp only [Act.put, List.setIfInBounds_toArray, List.set_cons_zero, List.set_cons_succ])
             clear hb
             refine reg_call 4 rfl (by kernel_rfl) (by rfl) (fun K hK => ?_)
             go_simp
             go_at_call 18
             refine (args_eqL (CIH.out _ _ _ _ RT0.out (by omega)) (by with_reducible rfl)).mono ?_
             rintro e y5 ⟨vA, vB, k, rfl, RA, RB, hk1, hk2, hb⟩
             have RA0 := Lib.hid RA
             have RB0 := Lib.hid RB
             obtain ⟨aA, cA, rfl⟩ := RA.form
             obtain ⟨aB, cB, rfl⟩ := RB.form
             clear RA RB
             have hzy5 := hb.size
             have HX9 := Lib.hid (HX9.out.below hb (by omega))
             have HX10 := Lib.hid (HX10.out.below hb (by omega))
             refine hK.out _ _ (KP1.out _ _ hb hS) (fun hS' => ?_)
             clear hK K hS; have hS := hS'; clear hS'
             (try simp only [Act.put, List.setIfInBounds_toArray, List.set_cons_zero, List.set_cons_succ])
             clear hb
             refine rt 5 (v := ?_) rfl (by intro w _; go_simp; first | done | with_reducible rfl) hS ?_
             (try simp only [Act.put, List.setIfInBounds_toArray, List.set_cons_zero, List.set_cons_succ])
             refine rt 6 (v := ?_) rfl (by intro w _; go_simp; first | done | with_reducible rfl) hS ?_
             (try simp only [Act.put, List.setIfInBounds_toArray, List.set_cons_zero, List.set_cons_succ])
             refine rt 7 (v := ?_) rfl (by intro w _; go_simp; first | done | with_reducible rfl) hS ?_
             (try simp only [Act.put, List.setIfInBounds_toArray, List.set_cons_zero, List.set_cons_succ])
             refine rt 8 (v := ?_) rfl (by intro w _; go_simp; first | done | with_reducible rfl) hS ?_
             (try simp only [Act.put, List.setIfInBounds_toArray, List.set_cons_zero, List.set_cons_succ])
             clear KP1
             refine reg_call 11 rfl (by kernel_rfl) (by rfl) (fun K hK => ?_)
             have ec0 := HX9.out.1
             have ec1 := HX9.out.2.1
             have ec2 := HX9.out.2.2.1
             have ec3 := HX9.out.2.2.2.1
             have ec4 := HX9.out.2.2.2.2.1
             have ec5 := HX9.out.2.2.2.2.2
             go_simp
             refine hK.out _ _ (KS1.out _ U0.heap.size (.int .i64 M1) (.int .i64 N1) (.slice aA L1.length cA) (by omega) hS) (fun hS' => ?_)
             clear hK K hS ec0 ec1 ec2 ec3 ec4 ec5; have hS := hS'; clear hS'
             (try simp only [Act.put, List.setIfInBounds_toArray, List.set_cons_zero, List.set_cons_succ])
             have HY := Lib.hid (HX10.out.far3e (show U0.heap.size ≠ V1.heap.size by omega) (.int .i64 M1) (.int .i64 N1) (.slice aA L1.length cA))
             refine reg_call 12 rfl (by kernel_rfl) (by rfl) (fun K hK => ?_)
             have ec0 := HY.out.1
             have ec1 := HY.out.2.1
             have ec2 := HY.out.2.2.1
             have ec3 := HY.out.2.2.2.1
             have ec4 := HY.out.2.2.2.2.1
             have ec5 := HY.out.2.2.2.2.2
             go_simp
             refine hK.out _ _ (KS1.out _ V1.heap.size (.int .i64 M2) (.int .i64 N2) (.slice aB L2.length cB) (by omega) hS) (fun hS' => ?_)
             clear hK K hS ec0 ec1 ec2 ec3 ec4 ec5; have hS := hS'; clear hS'
             (try simp only [Act.put, List.setIfInBounds_toArray, List.set_cons_zero, List.set_cons_succ])
             refine rt 13 (v := ?_) rfl (by intro w _; go_simp; first | done | with_reducible rfl) hS ?_
             (try simp only [Act.put, List.setIfInBounds_toArray, List.set_cons_zero, List.set_cons_succ])
             refine wpAnyH_done (by kernel_rfl) ?_ _
             have HBW := Lib.hid hS.2.2.2.2.2
             clear hS
             go_wp2_with fail
             go_meet
             exact wwi_end HX9.out HX10.out (show U0.heap.size ≠ V1.heap.size by omega) RA0.out RB0.out (by omega) (by omega) (by omega) (by omega) (by omega) (by omega) (by omega) (by omega) HBW.out
         · as_aux_lemma =>
           go_simp
           refine hK.out _ _ (KP1.out _ _ (bel0 _ _) hS) (fun hS' => ?_)
           clear hK K hS; have hS := hS'; clear hS'
           (try simp only [Act.put, List.setIfInBounds_toArray, List.set_cons_zero, List.set_cons_succ])
           obtain ⟨V1, hV, hbe, hx, hzV1⟩ := zstep U0
           have HX10 := Lib.hid hx
           rw [← hV] at hS ⊢
           clear hV hbe hx
           refine reg_two 1 9 rfl rfl (by kernel_rfl) (by rfl) (by rfl) (fun K hK => ?_) (fun K hK => ?_)
           · as_aux_lemma =>
             go_simp
             go_at_call 25
             refine (args_eqL (CT.out _ hS) (by with_reducible rfl)).mono ?_
             rintro e y2 ⟨v, rfl, RR, hb⟩
             obtain ⟨aT, cT, rfl⟩ := RR.form
             have RT0 := Lib.hid RR
             clear RR
             have hzy2 := hb.size
             have HX10 := Lib.hid (HX10.out.below hb (by omega))
             refine hK.out _ _ (KP1.out _ _ hb hS) (fun hS' => ?_)
             clear hK K hS; have hS := hS'; clear hS'
             (try simp only [Act.put, List.setIfInBounds_toArray, List.set_cons_zero, List.set_cons_succ])
             clear hb
             refine reg_two 3 9 rfl rfl (by kernel_rfl) (by rfl) (by rfl) (fun K hK => ?_) (fun K hK => ?_)
             go_simp
             go_at_call 26
             refine (args_eqL (ToCut_any up z _) (by with_reducible rfl)).mono ?_
             rintro e y3 ⟨rfl, hb⟩
             have hzy3 := hb.size
             have HX10 := Lib.hid (HX10.out.below hb (by omega))
             have RT0 := Lib.hid (RT0.out.below (hb.mono (by omega)))
             refine hK.out _ _ (KP1.out _ _ hb hS) (fun hS' => ?_)
             clear hK K hS; have hS := hS'; clear hS'
             (try simp only [Act.put, List.setIfInBounds_toArray, List.set_cons_zero, List.set_cons_succ])
             clear hb
             refine reg_two 4 9 rfl rfl (by kernel_rfl) (by rfl) (by rfl) (fun K hK => ?_) (fun K hK => ?_)
             go_simp
             go_at_call 18
             refine (args_eqL (CIH.out _ _ _ _ RT0.out (by omega)) (by with_reducible rfl)).mono ?_
             rintro e y4 ⟨vA, vB, k, rfl, RA, RB, hk1, hk2, hb⟩
             have RA0 := Lib.hid RA
             have RB0 := Lib.hid RB
             obtain ⟨aA, cA, rfl⟩ := RA.form
             obtain ⟨aB, cB, rfl⟩ := RB.form
             clear RA RB
             have hzy4 := hb.size
             have HX10 := Lib.hid (HX10.out.below hb (by omega))
             refine hK.out _ _ (KP1.out _ _ hb hS) (fun hS' => ?_)
             clear hK K hS; have hS := hS'; clear hS'
             (try simp only [Act.put, List.setIfInBounds_toArray, List.set_cons_zero, List.set_cons_succ])
             clear hb
             refine rt 5 (v := ?_) rfl (by intro w _; go_simp; first | done | with_reducible rfl) hS ?_
             (try simp only [Act.put, List.setIfInBounds_toArray, List.set_cons_zero, List.set_cons_succ])
             refine rt 6 (v := ?_) rfl (by intro w _; go_simp; first | done | with_reducible rfl) hS ?_
             (try simp only [Act.put, List.setIfInBounds_toArray, List.set_cons_zero, List.set_cons_succ])
             refine rt 7 (v := ?_) rfl (by intro w _; go_simp; first | done | with_reducible rfl) hS ?_
             (try simp only [Act.put, List.setIfInBounds_toArray, List.set_cons_zero, List.set_cons_succ])
             refine rt 8 (v := ?_) rfl (by intro w _; go_simp; first | done | with_reducible rfl) hS ?_
             (try simp only [Act.put, List.setIfInBounds_toArray, List.set_cons_zero, List.set_cons_succ])
             refine reg_call 9 rfl (by kernel_rfl) (by rfl) (fun K hK => ?_)
             go_simp
             refine hK.out _ _ (KP1.out _ _ (bel0 _ _) hS) (fun hS' => ?_)
             clear hK K hS; have hS := hS'; clear hS'
             (try simp only [Act.put, List.setIfInBounds_toArray, List.set_cons_zero, List.set_cons_succ])
             obtain ⟨V5, hV, hbe, hx, hzV5⟩ := zstep y4
             have HX9 := Lib.hid hx
             have HX10 := Lib.hid (HX10.out.below hbe (by omega))
             have RA0 := Lib.hid (RA0.out.below (hbe.mono (by omega)))
             have RB0 := Lib.hid (RB0.out.below (hbe.mono (by omega)))
             rw [← hV] at hS ⊢
             clear hV hbe hx
             clear KP1
             refine reg_call 11 rfl (by kernel_rfl) (by rfl) (fun K hK => ?_)
             have ec0 := HX9.out.1
             have ec1 := HX9.out.2.1
             have ec2 := HX9.out.2.2.1
             have ec3 := HX9.out.2.2.2.1
             have ec4 := HX9.out.2.2.2.2.1
             have ec5 := HX9.out.2.2.2.2.2
             go_simp
             refine hK.out _ _ (KS1.out _ y4.heap.size (.int .i64 M1) (.int .i64 N1) (.slice aA L1.length cA) (by omega) hS) (fun hS' => ?_)
             clear hK K hS ec0 ec1 ec2 ec3 ec4 ec5; have hS := hS'; clear hS'
             (try simp only [Act.put, List.setIfInBounds_toArray, List.set_cons_zero, List.set_cons_succ])
             have HY := Lib.hid (HX10.out.far3e (show y4.heap.size ≠ U0.heap.size by omega) (.int .i64 M1) (.int .i64 N1) (.slice aA L1.length cA))
             refine reg_call 12 rfl (by kernel_rfl) (by rfl) (fun K hK => ?_)
             have ec0 := HY.out.1
             have ec1 := HY.out.2.1
             have ec2 := HY.out.2.2.1
             have ec3 := HY.out.2.2.2.1
             have ec4 := HY.out.2.2.2.2.1
             have ec5 := HY.out.2.2.2.2.2
             go_simp
             refine hK.out _ _ (KS1.out _ U0.heap.size (.int .i64 M2) (.int .i64 N2) (.slice aB L2.length cB) (by omega) hS) (fun hS' => ?_)
             clear hK K hS ec0 ec1 ec2 ec3 ec4 ec5; have hS := hS'; clear hS'
             (try simp only [Act.put, List.setIfInBounds_toArray, List.set_cons_zero, List.set_cons_succ])
             refine rt 13 (v := ?_) rfl (by intro w _; go_simp; first | done | with_reducible rfl) hS ?_
             (try simp only [Act.put, List.setIfInBounds_toArray, List.set_cons_zero, List.set_cons_succ])
             refine wpAnyH_done (by kernel_rfl) ?_ _
             have HBW := Lib.hid hS.2.2.2.2.2
             clear hS
             go_wp2_with fail
             go_meet
             exact wwi_end HX9.out HX10.out (show y4.heap.size ≠ U0.heap.size by omega) RA0.out RB0.out (by omega) (by omega) (by omega) (by omega) (by omega) (by omega) (by omega) (by omega) HBW.out
             go_simp
             refine hK.out _ _ (KP1.out _ _ (bel0 _ _) hS) (fun hS' => ?_)
             clear hK K hS; have hS := hS'; clear hS'
             (try simp only [Act.put, List.setIfInBounds_toArray, List.set_cons_zero, List.set_cons_succ])
             obtain ⟨V4, hV, hbe, hx, hzV4⟩ := zstep y3
             have HX9 := Lib.hid hx
             have HX10 := Lib.hid (HX10.out.below hbe (by omega))
             have RT0 := Lib.hid (RT0.out.below (hbe.mono (by omega)))
             rw [← hV] at hS ⊢
             clear hV hbe hx
             refine reg_call 4 rfl (by kernel_rfl) (by rfl) (fun K hK => ?_)
             go_simp
             go_at_call 18
             refine (args_eqL (CIH.out _ _ _ _ RT0.out (by omega)) (by with_reducible rfl)).mono ?_
             rintro e y5 ⟨vA, vB, k, rfl, RA, RB, hk1, hk2, hb⟩
             have RA0 := Lib.hid RA
             have RB0 := Lib.hid RB
             obtain ⟨aA, cA, rfl⟩ := RA.form
             obtain ⟨aB, cB, rfl⟩ := RB.form
             clear RA RB
             have hzy5 := hb.size
             have HX10 := Lib.hid (HX10.out.below hb (by omega))
             have HX9 := Lib.hid (HX9.out.below hb (by omega))
             refine hK.out _ _ (KP1.out _ _ hb hS) (fun hS' => ?_)
             clear hK K hS; have hS := hS'; clear hS'
             (try simp only [Act.put, List.setIfInBounds_toArray, List.set_cons_zero, List.set_cons_succ])
             clear hb
             refine rt 5 (v := ?_) rfl (by intro w _; go_simp; first | done | with_reducible rfl) hS ?_
             (try simp only [Act.put, List.setIfInBounds_toArray, List.set_cons_zero, List.set_cons_succ])
             refine rt 6 (v := ?_) rfl (by intro w _; go_simp; first | done | with_reducible rfl) hS ?_
             (try simp only [Act.put, List.setIfInBounds_toArray, List.set_cons_zero, List.set_cons_succ])
             refine rt 7 (v := ?_) rfl (by intro w _; go_simp; first | done | with_reducible rfl) hS ?_
             (try simp only [Act.put, List.setIfInBounds_toArray, List.set_cons_zero, List.set_cons_succ])
             refine rt 8 (v := ?_) rfl (by intro w _; go_simp; first | done | with_reducible rfl) hS ?_
             (try simp only [Act.put, List.setIfInBounds_toArray, List.set_cons_zero, List.set_cons_succ])
             clear KP1
             refine reg_call 11 rfl (by kernel_rfl) (by rfl) (fun K hK => ?_)
             have ec0 := HX9.out.1
             have ec1 := HX9.out.2.1
             have ec2 := HX9.out.2.2.1
             have ec3 := HX9.out.2.2.2.1
             have ec4 := HX9.out.2.2.2.2.1
             have ec5 := HX9.out.2.2.2.2.2
             go_simp
             refine hK.out _ _ (KS1.out _ y3.heap.size (.int .i64 M1) (.int .i64 N1) (.slice aA L1.length cA) (by omega) hS) (fun hS' => ?_)
             clear hK K hS ec0 ec1 ec2 ec3 ec4 ec5; have hS := hS'; clear hS'
             (try simp only [Act.put, List.setIfInBounds_toArray, List.set_cons_zero, List.set_cons_succ])
             have HY := Lib.hid (HX10.out.far3e (show y3.heap.size ≠ U0.heap.size by omega) (.int .i64 M1) (.int .i64 N1) (.slice aA L1.length cA))
             refine reg_call 12 rfl (by kernel_rfl) (by rfl) (fun K hK => ?_)
             have ec0 := HY.out.1
             have ec1 := HY.out.2.1
             have ec2 := HY.out.2.2.1
             have ec3 := HY.out.2.2.2.1
             have ec4 := HY.out.2.2.2.2.1
             have ec5 := HY.out.2.2.2.2.2
             go_simp
             refine hK.out _ _ (KS1.out _ U0.heap.size (.int .i64 M2) (.int .i64 N2) (.slice aB L2.length cB) (by omega) hS) (fun hS' => ?_)
             clear hK K hS ec0 ec1 ec2 ec3 ec4 ec5; have hS := hS'; clear hS'
             (try simp only [Act.put, List.setIfInBounds_toArray, List.set_cons_zero, List.set_cons_succ])
             refine rt 13 (v := ?_) rfl (by intro w _; go_simp; first | done | with_reducible rfl) hS ?_
             (try simp only [Act.put, List.setIfInBounds_toArray, List.set_cons_zero, List.set_cons_succ])
             refine wpAnyH_done (by kernel_rfl) ?_ _
             have HBW := Lib.hid hS.2.2.2.2.2
             clear hS
             go_wp2_with fail
             go_meet
             exact wwi_end HX9.out HX10.out (show y3.heap.size ≠ U0.heap.size by omega) RA0.out RB0.out (by omega) (by omega) (by omega) (by omega) (by omega) (by omega) (by omega) (by omega) HBW.out
             go_simp
             refine hK.out _ _ (KP1.out _ _ (bel0 _ _) hS) (fun hS' => ?_)
             clear hK K hS; have hS := hS'; clear hS'
             (try simp only [Act.put, List.setIfInBounds_toArray, List.set_cons_zero, List.set_cons_succ])
             obtain ⟨V3, hV, hbe, hx, hzV3⟩ := zstep y2
             have HX9 := Lib.hid hx
             have HX10 := Lib.hid (HX10.out.below hbe (by omega))
             have RT0 := Lib.hid (RT0.out.below (hbe.mono (by omega)))
             rw [← hV] at hS ⊢
             clear hV hbe hx
             refine reg_call 3 rfl (by kernel_rfl) (by rfl) (fun K hK => ?_)
             go_simp
             go_at_call 26
             refine (args_eqL (ToCut_any up z _) (by with_reducible rfl)).mono ?_
             rintro e y4 ⟨rfl, hb⟩
             have hzy4 := hb.size
             have HX10 := Lib.hid (HX10.out.below hb (by omega))
             have HX9 := Lib.hid (HX9.out.below hb (by omega))
             have RT0 := Lib.hid (RT0.out.below (hb.mono (by omega)))
             refine hK.out _ _ (KP1.out _ _ hb hS) (fun hS' => ?_)
             clear hK K hS; have hS := hS'; clear hS'
             (try simp only [Act.put, List.setIfInBounds_toArray, List.set_cons_zero, List.set_cons_succ])
             clear hb
             refine reg_call 4 rfl (by kernel_rfl) (by rfl) (fun K hK => ?_)
             go_simp
             go_at_call 18
             refine (args_eqL (CIH.out _ _ _ _ RT0.out (by omega)) (by with_reducible rfl)).mono ?_
             rintro e y5 ⟨vA, vB, k, rfl, RA, RB, hk1, hk2, hb⟩
             have RA0 := Lib.hid RA
             have RB0 := Lib.hid RB
             obtain ⟨aA, cA, rfl⟩ := RA.form
             obtain ⟨aB, cB, rfl⟩ := RB.form
             clear RA RB
             have hzy5 := hb.size
             have HX10 := Lib.hid (HX10.out.below hb (by omega))
             have HX9 := Lib.hid (HX9.out.below hb (by omega))
             refine hK.out _ _ (KP1.out _ _ hb hS) (fun hS' => ?_)
             clear hK K hS; have hS := hS'; clear hS'
             (try simp only [Act.put, List.setIfInBounds_toArray, List.set_cons_zero, List.set_cons_succ])
             clear hb
             refine rt 5 (v := ?_) rfl (by intro w _; go_simp; first | done | with_reducible rfl) hS ?_
             (try simp only [Act.put, List.setIfInBounds_toArray, List.set_cons_zero, List.set_cons_succ])
             refine rt 6 (v := ?_) rfl (by intro w _; go_simp; first | done | with_reducible rfl) hS ?_
             (try simp only [Act.put, List.setIfInBounds_toArray, List.set_cons_zero, List.set_cons_succ])
             refine rt 7 (v := ?_) rfl (by intro w _; go_simp; first | done | with_reducible rfl) hS ?_
             (try simp only [Act.put, List.setIfInBounds_toArray, List.set_cons_zero, List.set_cons_succ])
             refine rt 8 (v := ?_) rfl (by intro w _; go_simp; first | done | with_reducible rfl) hS ?_
             (try simp only [Act.put, List.setIfInBounds_toArray, List.set_cons_zero, List.set_cons_succ])
             clear KP1
             refine reg_call 11 rfl (by kernel_rfl) (by rfl) (fun K hK => ?_)
             have ec0 := HX9.out.1
             have ec1 := HX9.out.2.1
             have ec2 := HX9.out.2.2.1
             have ec3 := HX9.out.2.2.2.1
             have ec4 := HX9.out.2.2.2.2.1
             have ec5 := HX9.out.2.2.2.2.2
             go_simp
             refine hK.out _ _ (KS1.out _ y2.heap.size (.int .i64 M1) (.int .i64 N1) (.slice aA L1.length cA) (by omega) hS) (fun hS' => ?_)
             clear hK K hS ec0 ec1 ec2 ec3 ec4 ec5; have hS := hS'; clear hS'
             (try simp only [Act.put, List.setIfInBounds_toArray, List.set_cons_zero, List.set_cons_succ])
             have HY := Lib.hid (HX10.out.far3e (show y2.heap.size ≠ U0.heap.size by omega) (.int .i64 M1) (.int .i64 N1) (.slice aA L1.length cA))
             refine reg_call 12 rfl (by kernel_rfl) (by rfl) (fun K hK => ?_)
             have ec0 := HY.out.1
             have ec1 := HY.out.2.1
             have ec2 := HY.out.2.2.1
             have ec3 := HY.out.2.2.2.1
             have ec4 := HY.out.2.2.2.2.1
             have ec5 := HY.out.2.2.2.2.2
             go_simp
             refine hK.out _ _ (KS1.out _ U0.heap.size (.int .i64 M2) (.int .i64 N2) (.slice aB L2.length cB) (by omega) hS) (fun hS' => ?_)
             clear hK K hS ec0 ec1 ec2 ec3 ec4 ec5; have hS := hS'; clear hS'
             (try simp only [Act.put, List.setIfInBounds_toArray, List.set_cons_zero, List.set_cons_succ])
             refine rt 13 (v := ?_) rfl (by intro w _; go_simp; first | done | with_reducible rfl) hS ?_
             (try simp only [Act.put, List.setIfInBounds_toArray, List.set_cons_zero, List.set_cons_succ])
             refine wpAnyH_done (by kernel_rfl) ?_ _
             have HBW := Lib.hid hS.2.2.2.2.2
             clear hS
             go_wp2_with fail
             go_meet
             exact wwi_end HX9.out HX10.out (show y2.heap.size ≠ U0.heap.size by omega) RA0.out RB0.out (by omega) (by omega) (by omega) (by omega) (by omega) (by omega) (by omega) (by omega) HBW.out
           · as_aux_lemma =>
             go_simp
             refine hK.out _ _ (KP1.out _ _ (bel0 _ _) hS) (fun hS' => ?_)
             clear hK K hS; have hS := hS'; clear hS'
             (try simp only [Act.put, List.setIfInBounds_toArray, List.set_cons_zero, List.set_cons_succ])
             obtain ⟨V2, hV, hbe, hx, hzV2⟩ := zstep V1
             have HX9 := Lib.hid hx
             have HX10 := Lib.hid (HX10.out.below hbe (by omega))
             rw [← hV] at hS ⊢
             clear hV hbe hx
             refine reg_call 1 rfl (by kernel_rfl) (by rfl) (fun K hK => ?_)
             go_simp
             go_at_call 25
             refine (args_eqL (CT.out _ hS) (by with_reducible rfl)).mono ?_
             rintro e y3 ⟨v, rfl, RR, hb⟩
             obtain ⟨aT, cT, rfl⟩ := RR.form
             have RT0 := Lib.hid RR
             clear RR
             have hzy3 := hb.size
             have HX10 := Lib.hid (HX10.out.below hb (by omega))
             have HX9 := Lib.hid (HX9.out.below hb (by omega))
             refine hK.out _ _ (KP1.out _ _ hb hS) (fun hS' => ?_)
             clear hK K hS; have hS := hS'; clear hS'
             (try simp only [Act.put, List.setIfInBounds_toArray, List.set_cons_zero, List.set_cons_succ])
             clear hb
             refine reg_call 3 rfl (by kernel_rfl) (by rfl) (fun K hK => ?_)
             go_simp
             go_at_call 26
             refine (args_eqL (ToCut_any up z _) (by with_reducible rfl)).mono ?_
             rintro e y4 ⟨rfl, hb⟩
             have hzy4 := hb.size
             have HX10 := Lib.hid (HX10.out.below hb (by omega))
             have HX9 := Lib.hid (HX9.out.below hb (by omega))
             have RT0 := Lib.hid (RT0.out.below (hb.mono (by omega)))
             refine hK.out _ _ (KP1.out _ _ hb hS) (fun hS' => ?_)
             clear hK K hS; have hS := hS'; clear hS'
             (try simp only [Act.put, List.setIfInBounds_toArray, List.set_cons_zero, List.set_cons_succ])
             clear hb
             refine reg_call 4 rfl (by kernel_rfl) (by rfl) (fun K hK => ?_)
             go_simp
             go_at_call 18
             refine (args_eqL (CIH.out _ _ _ _ RT0.out (by omega)) (by with_reducible rfl)).mono ?_
             rintro e y5 ⟨vA, vB, k, rfl, RA, RB, hk1, hk2, hb⟩
             have RA0 := Lib.hid RA
             have RB0 := Lib.hid RB
             obtain ⟨aA, cA, rfl⟩ := RA.form
             obtain ⟨aB, cB, rfl⟩ := RB.form
             clear RA RB
             have hzy5 := hb.size
             have HX10 := Lib.hid (HX10.out.below hb (by omega))
             have HX9 := Lib.hid (HX9.out.below hb (by omega))
             refine hK.out _ _ (KP1.out _ _ hb hS) (fun hS' => ?_)
             clear hK K hS; have hS := hS'; clear hS'
             (try simp only [Act.put, List.setIfInBounds_toArray, List.set_cons_zero, List.set_cons_succ])
             clear hb
             refine rt 5 (v := ?_) rfl (by intro w _; go_simp; first | done | with_reducible rfl) hS ?_
             (try simp only [Act.put, List.setIfInBounds_toArray, List.set_cons_zero, List.set_cons_succ])
             refine rt 6 (v := ?_) rfl (by intro w _; go_simp; first | done | with_reducible rfl) hS ?_
             (try simp only [Act.put, List.setIfInBounds_toArray, List.set_cons_zero, List.set_cons_succ])
             refine rt 7 (v := ?_) rfl (by intro w _; go_simp; first | done | with_reducible rfl) hS ?_
             (try simp only [Act.put, List.setIfInBounds_toArray, List.set_cons_zero, List.set_cons_succ])
             refine rt 8 (v := ?_) rfl (by intro w _; go_simp; first | done | with_reducible rfl) hS ?_
             (try simp only [Act.put, List.setIfInBounds_toArray, List.set_cons_zero, List.set_cons_succ])
             clear KP1
             refine reg_call 11 rfl (by kernel_rfl) (by rfl) (fun K hK => ?_)
             have ec0 := HX9.out.1
             have ec1 := HX9.out.2.1
             have ec2 := HX9.out.2.2.1
             have ec3 := HX9.out.2.2.2.1
             have ec4 := HX9.out.2.2.2.2.1
             have ec5 := HX9.out.2.2.2.2.2
             go_simp
             refine hK.out _ _ (KS1.out _ V1.heap.size (.int .i64 M1) (.int .i64 N1) (.slice aA L1.length cA) (by omega) hS) (fun hS' => ?_)
             clear hK K hS ec0 ec1 ec2 ec3 ec4 ec5; have hS := hS'; clear hS'
             (try simp only [Act.put, List.setIfInBounds_toArray, List.set_cons_zero, List.set_cons_succ])
             have HY := Lib.hid (HX10.out.far3e (show V1.heap.size ≠ U0.heap.size by omega) (.int .i64 M1) (.int .i64 N1) (.slice aA L1.length cA))
             refine reg_call 12 rfl (by kernel_rfl) (by rfl) (fun K hK => ?_)
             have ec0 := HY.out.1
             have ec1 := HY.out.2.1
             have ec2 := HY.out.2.2.1
             have ec3 := HY.out.2.2.2.1
             have ec4 := HY.out.2.2.2.2.1
             have ec5 := HY.out.2.2.2.2.2
             go_simp
             refine hK.out _ _ (KS1.out _ U0.heap.size (.int .i64 M2) (.int .i64 N2) (.slice aB L2.length cB) (by omega) hS) (fun hS' => ?_)
             clear hK K hS ec0 ec1 ec2 ec3 ec4 ec5; have hS := hS'; clear hS'
             (try simp only [Act.put, List.setIfInBounds_toArray, List.set_cons_zero, List.set_cons_succ])
             refine rt 13 (v := ?_) rfl (by intro w _; go_simp; first | done | with_reducible rfl) hS ?_
             (try simp only [Act.put, List.setIfInBounds_toArray, List.set_cons_zero, List.set_cons_succ])
             refine wpAnyH_done (by kernel_rfl) ?_ _
             have HBW := Lib.hid hS.2.2.2.2.2
             clear hS
             go_wp2_with fail
             go_meet
             exact wwi_end HX9.out HX10.out (show V1.heap.size ≠ U0.heap.size by omega) RA0.out RB0.out (by omega) (by omega) (by omega) (by omega) (by omega) (by omega) (by omega) (by omega) HBW.out
        case rest =>
         as_aux_lemma =>
          obtain ⟨pU, pV, aU, cU, aV, cV, loU, kU, hiU, rfl, rfl, rfl, HXA, HXB, HRA, HRB, lzU, ozU, uzU, pzU, pzV, HBW⟩ := hcut
          generalize wc = w17 at *
          have hb := HBW.out
          have XU_ := Tri.of_box HXA.out
          have XV_ := Tri.of_box HXB.out
          have RU_ := HRA.out
          have RV_ := HRB.out
          clear HXA HXB HRA HRB HBW S0 KP1 KS1 CT cL0 cL1 cL2 cC0 cC1
          have XL := XL.keep hb
          have XC := XC.keep hb
          have XP := XP.keep hb
          have XQ := XQ.keep hb
          have XX := XX.keep hb
          have XG := XG.keep hb
          have XH := XH.keep hb
          have RP := RP.below (hb.mono (by omega))
          have RQ := RQ.below (hb.mono (by omega))
          have Rx := Rx.below (hb.mono (by omega))
          have RG := RG.below (hb.mono (by omega))
          have RH := RH.below (hb.mono (by omega))
          have B := bel_c B (Nat.le_refl _) hb
          have zw17 : w16.heap.size ≤ w17.heap.size := hb.size
          clear hb
          have XU := XU_
          have XV := XV_
          have RU := RU_
          have RV := RV_
          clear XU_ XV_ RU_ RV_
          have qU := XU.lt
          have qV := XV.lt
          obtain ⟨cU0, cU1, cU2⟩ := id XU
          obtain ⟨cP0, cP1, cP2⟩ := id XP
          go_wp2_with fail
          clear cU0 cU1 cU2 cP0 cP1 cP2
          refine (EqLayout_any _ _ _ _ M1 N1 _ _ L1 _ RU RP (by omega) (by omega)).mono ?_
          rintro e w18 ⟨rfl, hb⟩
          have XL := XL.keep hb
          have XC := XC.keep hb
          have XP := XP.keep hb
          have XQ := XQ.keep hb
          have XX := XX.keep hb
          have XG := XG.keep hb
          have XH := XH.keep hb
          have XU := XU.keep hb
          have XV := XV.keep hb
          have RP := RP.below (hb.mono (by omega))
          have RQ := RQ.below (hb.mono (by omega))
          have Rx := Rx.below (hb.mono (by omega))
          have RG := RG.below (hb.mono (by omega))
          have RH := RH.below (hb.mono (by omega))
          have RU := RU.below (hb.mono (by omega))
          have RV := RV.below (hb.mono (by omega))
          have B := bel_c B (Nat.le_refl _) hb
          have zw18 : w17.heap.size ≤ w18.heap.size := hb.size
          clear hb
          obtain ⟨cV0, cV1, cV2⟩ := id XV
          obtain ⟨cQ0, cQ1, cQ2⟩ := id XQ
          go_wp2_with fail
          clear cV0 cV1 cV2 cQ0 cQ1 cQ2
          refine (EqLayout_any _ _ _ _ M2 N2 _ _ L2 _ RV RQ (by omega) (by omega)).mono ?_
          rintro e w19 ⟨rfl, hb⟩
          have XL := XL.keep hb
          have XC := XC.keep hb
          have XP := XP.keep hb
          have XQ := XQ.keep hb
          have XX := XX.keep hb
          have XG := XG.keep hb
          have XH := XH.keep hb
          have XU := XU.keep hb
          have XV := XV.keep hb
          have RP := RP.below (hb.mono (by omega))
          have RQ := RQ.below (hb.mono (by omega))
          have Rx := Rx.below (hb.mono (by omega))
          have RG := RG.below (hb.mono (by omega))
          have RH := RH.below (hb.mono (by omega))
          have RU := RU.below (hb.mono (by omega))
          have RV := RV.below (hb.mono (by omega))
          have B := bel_c B (Nat.le_refl _) hb
          have zw19 : w18.heap.size ≤ w19.heap.size := hb.size
          clear hb
          obtain ⟨cG0, cG1, cG2⟩ := id XG
          go_wp2_with fail
          clear cG0 cG1 cG2
          refine (HeldLayoutE _ _ M1 N1 _ L1.length 1 1 K1 _ RG (by omega) (by omega) rfl HK1.out).mono ?_
          rintro e w20 ⟨rfl, hb⟩
          have XL := XL.keep hb
          have XC := XC.keep hb
          have XP := XP.keep hb
          have XQ := XQ.keep hb
          have XX := XX.keep hb
          have XG := XG.keep hb
          have XH := XH.keep hb
          have XU := XU.keep hb
          have XV := XV.keep hb
          have RP := RP.below (hb.mono (by omega))
          have RQ := RQ.below (hb.mono (by omega))
          have Rx := Rx.below (hb.mono (by omega))
          have RG := RG.below (hb.mono (by omega))
          have RH := RH.below (hb.mono (by omega))
          have RU := RU.below (hb.mono (by omega))
          have RV := RV.below (hb.mono (by omega))
          have B := bel_c B (Nat.le_refl _) hb
          have zw20 : w19.heap.size ≤ w20.heap.size := hb.size
          clear hb
          obtain ⟨cH0, cH1, cH2⟩ := id XH
          go_wp2_with fail
          clear cH0 cH1 cH2
          refine (HeldLayoutE _ _ M2 N2 _ L2.length (1 + 5 * L1.length) K1 K2 _ RH (by omega) (by omega) HK1.out HK2.out).mono ?_
          rintro e w21 ⟨rfl, hb⟩
          have XL := XL.keep hb
          have XC := XC.keep hb
          have XP := XP.keep hb
          have XQ := XQ.keep hb
          have XX := XX.keep hb
          have XG := XG.keep hb
          have XH := XH.keep hb
          have XU := XU.keep hb
          have XV := XV.keep hb
          have RP := RP.below (hb.mono (by omega))
          have RQ := RQ.below (hb.mono (by omega))
          have Rx := Rx.below (hb.mono (by omega))
          have RG := RG.below (hb.mono (by omega))
          have RH := RH.below (hb.mono (by omega))
          have RU := RU.below (hb.mono (by omega))
          have RV := RV.below (hb.mono (by omega))
          have B := bel_c B (Nat.le_refl _) hb
          have zw21 : w20.heap.size ≤ w21.heap.size := hb.size
          clear hb
          go_wp2_with fail
          go_ret
          exact ⟨rfl, B⟩
  · have hl' : (1048576 : Int) < len := by omega
    go_enter Try.func6, Try.ntmps6
    go_wp2_with fail
    refine (SzL_no m n a len cap 1048576 _ (by omega) (by omega) hm hl').mono ?_
    rintro e w1 ⟨rfl, hb1⟩
    go_wp2_with fail
    go_ret
    exact ⟨rfl, bel_c (bel_n (bel0 w _) (Nat.le_refl _) _) (Nat.le_refl _) hb1⟩

end Go.Proofs.Ytakjgnkkeefgbaa
