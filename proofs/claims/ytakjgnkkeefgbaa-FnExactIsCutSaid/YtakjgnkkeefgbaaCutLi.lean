/- The walk of FnExactIsCut. -/
import Derived.Test.YtakjgnkkeefgbaaCutLw
import Derived.Test.YtakjgnkkeefgbaaCutSa
import Derived.Test.YtakjgnkkeefgbaaCutIm
import Derived.Deep.RegionHeld3
namespace Go.Proofs.Ytakjgnkkeefgbaa
open Go.ChangeShapes Go.WideShapes Go.ChangeAt Go.RowKit

set_option maxHeartbeats 4000000 in
set_option maxRecDepth 20000 in
theorem IsCutLaw_walk (m n : Int) (up : Bool) (z : Int) (a : Option Addr) (len cap : Nat) (xs : List P5) (w : World) (x0 : ArgPat w a len xs) (wf : ∀ c ∈ xs, c.Wf) :
    Calls Try.prog 4 #[.agg #[.int .i64 m, .int .i64 n, .slice a len cap], .agg #[.bool up, .int .i64 z]] w fun e w' => e = .returned (.bool true) ∧ Below w.heap.size w w' := by
  have hm : len ≤ 9223372036854775807 := by have := x0.2.1; unfold maxLen at this; omega
  have HA : Hid (∀ W, Below w.heap.size w W → ArgPat W a len xs) := Lib.hid (fun W hb => x0.below hb)
  clear x0
  have CS := fun lo hi v w r h => SpecIsCut_any lo hi m n v xs up z w r h
  have CI := fun lo hi v w r h => ImplIsCut_any lo hi m n v xs up z wf w r h
  generalize cutB m n xs ⟨up, z⟩ = ok at CS CI
  have CSH := Lib.hid CS
  have CIH := Lib.hid CI
  clear CS CI
  by_cases hl : len ≤ 1048576
  · have hs : ¬ ((1048576 : Int) - (len : Int) < 0) := by omega
    have hl' : (len : Int) ≤ 1048576 := by omega
    go_enter Try.func4, Try.ntmps4
    have XL := (Tri.new w (.int .i64 m) (.int .i64 n) (.slice a len cap) 43).keep (bel0 _ (.cells #[.bool up, .int .i64 z] 44))
    have XC := Duo.new (w.alloc (.cells #[.int .i64 m, .int .i64 n, .slice a len cap] 43)) (.bool up) (.int .i64 z) 44
    rw [show (w.alloc (.cells #[.int .i64 m, .int .i64 n, .slice a len cap] 43)).heap.size = w.heap.size + 1 by simp] at XC
    have B := bel_n (bel0 w (.cells #[.int .i64 m, .int .i64 n, .slice a len cap] 43)) (Nat.le_refl _) (.cells #[.bool up, .int .i64 z] 44)
    go_wp2_with fail
    refine (SzL_yes m n a len cap 1048576 _ (by omega) hl').mono ?_
    rintro e w1 ⟨rfl, hb⟩
    have z0 := B.size
    have zz := XC.1
    clear z0 zz
    have XL := XL.keep hb
    have XC := XC.keep hb
    have B := bel_c B (Nat.le_refl _) hb
    have zw1 : ((w.alloc (.cells #[.int .i64 m, .int .i64 n, .slice a len cap] 43)).alloc (.cells #[.bool up, .int .i64 z] 44)).heap.size ≤ w1.heap.size := hb.size
    clear hb
    have zw : w.heap.size + 1 < w1.heap.size := lt_of_cell XC.1
    have BH := Lib.hid B
    have KP : ∀ u v : World, Below u.heap.size u v → (u.cell? ⟨w.heap.size, 0, none⟩ = some (.int .i64 m) ∧ u.cell? ⟨w.heap.size, 1, none⟩ = some (.int .i64 n) ∧ u.cell? ⟨w.heap.size, 2, none⟩ = some (.slice a len cap) ∧ u.cell? ⟨w.heap.size + 1, 0, none⟩ = some (.bool up) ∧ u.cell? ⟨w.heap.size + 1, 1, none⟩ = some (.int .i64 z) ∧ Below w1.heap.size w1 u) → (v.cell? ⟨w.heap.size, 0, none⟩ = some (.int .i64 m) ∧ v.cell? ⟨w.heap.size, 1, none⟩ = some (.int .i64 n) ∧ v.cell? ⟨w.heap.size, 2, none⟩ = some (.slice a len cap) ∧ v.cell? ⟨w.heap.size + 1, 0, none⟩ = some (.bool up) ∧ v.cell? ⟨w.heap.size + 1, 1, none⟩ = some (.int .i64 z) ∧ Below w1.heap.size w1 v) := fun u v hb h => ⟨kept hb h.1, kept hb h.2.1, kept hb h.2.2.1, kept hb h.2.2.2.1, kept hb h.2.2.2.2.1, bel_c h.2.2.2.2.2 (Nat.le_refl _) hb⟩
    have D0 : Below w1.heap.size w1 w1.drew := ⟨rfl, rfl, rfl, Nat.le_refl _, fun _ _ => rfl⟩
    have S0 : w1.drew.cell? ⟨w.heap.size, 0, none⟩ = some (.int .i64 m) ∧ w1.drew.cell? ⟨w.heap.size, 1, none⟩ = some (.int .i64 n) ∧ w1.drew.cell? ⟨w.heap.size, 2, none⟩ = some (.slice a len cap) ∧ w1.drew.cell? ⟨w.heap.size + 1, 0, none⟩ = some (.bool up) ∧ w1.drew.cell? ⟨w.heap.size + 1, 1, none⟩ = some (.int .i64 z) ∧ Below w1.heap.size w1 w1.drew := ⟨kept D0 XL.1, kept D0 XL.2.1, kept D0 XL.2.2, kept D0 XC.1, kept D0 XC.2, D0⟩
    obtain ⟨cL0, cL1, cL2⟩ := id XL
    obtain ⟨cC0, cC1⟩ := id XC
    go_wp2_with fail
    go_region_held3 (fun w' => w'.cell? ⟨w.heap.size, 0, none⟩ = some (.int .i64 m) ∧ w'.cell? ⟨w.heap.size, 1, none⟩ = some (.int .i64 n) ∧ w'.cell? ⟨w.heap.size, 2, none⟩ = some (.slice a len cap) ∧ w'.cell? ⟨w.heap.size + 1, 0, none⟩ = some (.bool up) ∧ w'.cell? ⟨w.heap.size + 1, 1, none⟩ = some (.int .i64 z) ∧ Below w1.heap.size w1 w') (first | assumption | (refine KP _ _ (by assumption) ?_; assumption))
      ((first
        | (go_at_call 25; refine (args_eqL (ToLayout_any m n a len cap xs _ (HA.out _ (bel_c BH.out (Nat.le_refl _) D0)) hl) (by with_reducible rfl)).mono ?_; rintro e w2 ⟨v, rfl, RR, hb_w2⟩; have RH := Lib.hid RR; obtain ⟨a2, c2, rfl⟩ := RR.form; clear RR)
        | (go_at_call 26; refine (args_eqL (ToCut_any up z _) (by with_reducible rfl)).mono ?_; rintro e w3 ⟨rfl, hb_w3⟩)
        | (go_at_call 24; refine (args_eqL (CSH.out _ _ _ _ (RH.out.below hb_w3) hb_w3.size) (by with_reducible rfl)).mono ?_; rintro e w4 ⟨rfl, hb_w4⟩)))
    have SE : w4.cell? ⟨w.heap.size, 0, none⟩ = some (.int .i64 m) ∧ w4.cell? ⟨w.heap.size, 1, none⟩ = some (.int .i64 n) ∧ w4.cell? ⟨w.heap.size, 2, none⟩ = some (.slice a len cap) ∧ w4.cell? ⟨w.heap.size + 1, 0, none⟩ = some (.bool up) ∧ w4.cell? ⟨w.heap.size + 1, 1, none⟩ = some (.int .i64 z) ∧ Below w1.heap.size w1 w4 := by assumption
    have hb := SE.2.2.2.2.2
    clear SE S0 KP D0 cL0 cL1 cL2 cC0 cC1
    all_goals try clear hb_w2 hb_w3 hb_w4
    have XL := XL.keep hb
    have XC := XC.keep hb
    have B := bel_c B (Nat.le_refl _) hb
    have zw4 : w1.heap.size ≤ w4.heap.size := hb.size
    clear hb
    clear BH RH
    obtain ⟨cL0, cL1, cL2⟩ := id XL
    go_wp2_with fail
    clear cL0 cL1 cL2
    refine (ToLayout_any m n a len cap xs _ (HA.out _ B) hl).mono ?_
    rintro e w5 ⟨v, rfl, R, hb⟩
    obtain ⟨ax, cx, rfl⟩ := R.form
    have XL := XL.keep hb
    have XC := XC.keep hb
    have B := bel_c B (Nat.le_refl _) hb
    have zw5 : w4.heap.size ≤ w5.heap.size := hb.size
    clear hb
    have Rx := R
    clear R
    have NB := bel0 w5 (.cells #[.int .i64 m, .int .i64 n, .slice ax xs.length cx] 26)
    have XL := XL.keep NB
    have XC := XC.keep NB
    have Rx := Rx.below (NB.mono (by omega))
    have B := bel_n B (Nat.le_refl _) (.cells #[.int .i64 m, .int .i64 n, .slice ax xs.length cx] 26)
    have XQ := Tri.new w5 (.int .i64 m) (.int .i64 n) (.slice ax xs.length cx) 26
    have zw6 : w5.heap.size + 1 ≤ (w5.alloc (.cells #[.int .i64 m, .int .i64 n, .slice ax xs.length cx] 26)).heap.size := by simp
    obtain ⟨w6, hV⟩ : ∃ V, V = w5.alloc (.cells #[.int .i64 m, .int .i64 n, .slice ax xs.length cx] 26) := ⟨_, rfl⟩
    rw [← hV] at B zw6 XL XC XQ Rx
    go_wp2_with fail
    rw [← hV]
    clear hV NB
    have KP : ∀ u v : World, Below u.heap.size u v → (u.cell? ⟨w.heap.size, 0, none⟩ = some (.int .i64 m) ∧ u.cell? ⟨w.heap.size, 1, none⟩ = some (.int .i64 n) ∧ u.cell? ⟨w.heap.size, 2, none⟩ = some (.slice a len cap) ∧ u.cell? ⟨w.heap.size + 1, 0, none⟩ = some (.bool up) ∧ u.cell? ⟨w.heap.size + 1, 1, none⟩ = some (.int .i64 z) ∧ u.cell? ⟨w5.heap.size, 0, none⟩ = some (.int .i64 m) ∧ u.cell? ⟨w5.heap.size, 1, none⟩ = some (.int .i64 n) ∧ u.cell? ⟨w5.heap.size, 2, none⟩ = some (.slice ax xs.length cx) ∧ Below w6.heap.size w6 u) → (v.cell? ⟨w.heap.size, 0, none⟩ = some (.int .i64 m) ∧ v.cell? ⟨w.heap.size, 1, none⟩ = some (.int .i64 n) ∧ v.cell? ⟨w.heap.size, 2, none⟩ = some (.slice a len cap) ∧ v.cell? ⟨w.heap.size + 1, 0, none⟩ = some (.bool up) ∧ v.cell? ⟨w.heap.size + 1, 1, none⟩ = some (.int .i64 z) ∧ v.cell? ⟨w5.heap.size, 0, none⟩ = some (.int .i64 m) ∧ v.cell? ⟨w5.heap.size, 1, none⟩ = some (.int .i64 n) ∧ v.cell? ⟨w5.heap.size, 2, none⟩ = some (.slice ax xs.length cx) ∧ Below w6.heap.size w6 v) := fun u v hb h => ⟨kept hb h.1, kept hb h.2.1, kept hb h.2.2.1, kept hb h.2.2.2.1, kept hb h.2.2.2.2.1, kept hb h.2.2.2.2.2.1, kept hb h.2.2.2.2.2.2.1, kept hb h.2.2.2.2.2.2.2.1, bel_c h.2.2.2.2.2.2.2.2 (Nat.le_refl _) hb⟩
    have D0 : Below w6.heap.size w6 w6.drew := ⟨rfl, rfl, rfl, Nat.le_refl _, fun _ _ => rfl⟩
    have S0 : w6.drew.cell? ⟨w.heap.size, 0, none⟩ = some (.int .i64 m) ∧ w6.drew.cell? ⟨w.heap.size, 1, none⟩ = some (.int .i64 n) ∧ w6.drew.cell? ⟨w.heap.size, 2, none⟩ = some (.slice a len cap) ∧ w6.drew.cell? ⟨w.heap.size + 1, 0, none⟩ = some (.bool up) ∧ w6.drew.cell? ⟨w.heap.size + 1, 1, none⟩ = some (.int .i64 z) ∧ w6.drew.cell? ⟨w5.heap.size, 0, none⟩ = some (.int .i64 m) ∧ w6.drew.cell? ⟨w5.heap.size, 1, none⟩ = some (.int .i64 n) ∧ w6.drew.cell? ⟨w5.heap.size, 2, none⟩ = some (.slice ax xs.length cx) ∧ Below w6.heap.size w6 w6.drew := ⟨kept D0 XL.1, kept D0 XL.2.1, kept D0 XL.2.2, kept D0 XC.1, kept D0 XC.2, kept D0 XQ.1, kept D0 XQ.2.1, kept D0 XQ.2.2, D0⟩
    obtain ⟨cL0, cL1, cL2⟩ := id XL
    obtain ⟨cC0, cC1⟩ := id XC
    obtain ⟨cQ0, cQ1, cQ2⟩ := id XQ
    go_wp2_with fail
    go_region_held3 (fun w' => w'.cell? ⟨w.heap.size, 0, none⟩ = some (.int .i64 m) ∧ w'.cell? ⟨w.heap.size, 1, none⟩ = some (.int .i64 n) ∧ w'.cell? ⟨w.heap.size, 2, none⟩ = some (.slice a len cap) ∧ w'.cell? ⟨w.heap.size + 1, 0, none⟩ = some (.bool up) ∧ w'.cell? ⟨w.heap.size + 1, 1, none⟩ = some (.int .i64 z) ∧ w'.cell? ⟨w5.heap.size, 0, none⟩ = some (.int .i64 m) ∧ w'.cell? ⟨w5.heap.size, 1, none⟩ = some (.int .i64 n) ∧ w'.cell? ⟨w5.heap.size, 2, none⟩ = some (.slice ax xs.length cx) ∧ Below w6.heap.size w6 w') (first | assumption | (refine KP _ _ (by assumption) ?_; assumption))
      ((first
        | (go_at_call 26; refine (args_eqL (ToCut_any up z _) (by with_reducible rfl)).mono ?_; rintro e w7 ⟨rfl, hb_w7⟩)
        | (go_at_call 19; refine (args_eqL (CIH.out _ _ _ _ (Rx.below ((D0.trans hb_w7).mono (by omega))) (by have := hb_w7.size; simp at this; omega)) (by with_reducible rfl)).mono ?_; rintro e w8 ⟨rfl, hb_w8⟩)))
    have SE : w8.cell? ⟨w.heap.size, 0, none⟩ = some (.int .i64 m) ∧ w8.cell? ⟨w.heap.size, 1, none⟩ = some (.int .i64 n) ∧ w8.cell? ⟨w.heap.size, 2, none⟩ = some (.slice a len cap) ∧ w8.cell? ⟨w.heap.size + 1, 0, none⟩ = some (.bool up) ∧ w8.cell? ⟨w.heap.size + 1, 1, none⟩ = some (.int .i64 z) ∧ w8.cell? ⟨w5.heap.size, 0, none⟩ = some (.int .i64 m) ∧ w8.cell? ⟨w5.heap.size, 1, none⟩ = some (.int .i64 n) ∧ w8.cell? ⟨w5.heap.size, 2, none⟩ = some (.slice ax xs.length cx) ∧ Below w6.heap.size w6 w8 := by assumption
    have hb := SE.2.2.2.2.2.2.2.2
    clear SE S0 KP D0 cL0 cL1 cL2 cC0 cC1 cQ0 cQ1 cQ2
    all_goals try clear hb_w7 hb_w8
    have XL := XL.keep hb
    have XC := XC.keep hb
    have XQ := XQ.keep hb
    have Rx := Rx.below (hb.mono (by omega))
    have B := bel_c B (Nat.le_refl _) hb
    have zw8 : w6.heap.size ≤ w8.heap.size := hb.size
    clear hb
    cases ok
    all_goals
      have BH := Lib.hid B
      have RH := Lib.hid Rx
      have KP : ∀ u v : World, Below u.heap.size u v → (u.cell? ⟨w.heap.size, 0, none⟩ = some (.int .i64 m) ∧ u.cell? ⟨w.heap.size, 1, none⟩ = some (.int .i64 n) ∧ u.cell? ⟨w.heap.size, 2, none⟩ = some (.slice a len cap) ∧ u.cell? ⟨w.heap.size + 1, 0, none⟩ = some (.bool up) ∧ u.cell? ⟨w.heap.size + 1, 1, none⟩ = some (.int .i64 z) ∧ u.cell? ⟨w5.heap.size, 0, none⟩ = some (.int .i64 m) ∧ u.cell? ⟨w5.heap.size, 1, none⟩ = some (.int .i64 n) ∧ u.cell? ⟨w5.heap.size, 2, none⟩ = some (.slice ax xs.length cx) ∧ Below w8.heap.size w8 u) → (v.cell? ⟨w.heap.size, 0, none⟩ = some (.int .i64 m) ∧ v.cell? ⟨w.heap.size, 1, none⟩ = some (.int .i64 n) ∧ v.cell? ⟨w.heap.size, 2, none⟩ = some (.slice a len cap) ∧ v.cell? ⟨w.heap.size + 1, 0, none⟩ = some (.bool up) ∧ v.cell? ⟨w.heap.size + 1, 1, none⟩ = some (.int .i64 z) ∧ v.cell? ⟨w5.heap.size, 0, none⟩ = some (.int .i64 m) ∧ v.cell? ⟨w5.heap.size, 1, none⟩ = some (.int .i64 n) ∧ v.cell? ⟨w5.heap.size, 2, none⟩ = some (.slice ax xs.length cx) ∧ Below w8.heap.size w8 v) := fun u v hb h => ⟨kept hb h.1, kept hb h.2.1, kept hb h.2.2.1, kept hb h.2.2.2.1, kept hb h.2.2.2.2.1, kept hb h.2.2.2.2.2.1, kept hb h.2.2.2.2.2.2.1, kept hb h.2.2.2.2.2.2.2.1, bel_c h.2.2.2.2.2.2.2.2 (Nat.le_refl _) hb⟩
      have D0 : Below w8.heap.size w8 w8.drew := ⟨rfl, rfl, rfl, Nat.le_refl _, fun _ _ => rfl⟩
      have S0 : w8.drew.cell? ⟨w.heap.size, 0, none⟩ = some (.int .i64 m) ∧ w8.drew.cell? ⟨w.heap.size, 1, none⟩ = some (.int .i64 n) ∧ w8.drew.cell? ⟨w.heap.size, 2, none⟩ = some (.slice a len cap) ∧ w8.drew.cell? ⟨w.heap.size + 1, 0, none⟩ = some (.bool up) ∧ w8.drew.cell? ⟨w.heap.size + 1, 1, none⟩ = some (.int .i64 z) ∧ w8.drew.cell? ⟨w5.heap.size, 0, none⟩ = some (.int .i64 m) ∧ w8.drew.cell? ⟨w5.heap.size, 1, none⟩ = some (.int .i64 n) ∧ w8.drew.cell? ⟨w5.heap.size, 2, none⟩ = some (.slice ax xs.length cx) ∧ Below w8.heap.size w8 w8.drew := ⟨kept D0 XL.1, kept D0 XL.2.1, kept D0 XL.2.2, kept D0 XC.1, kept D0 XC.2, kept D0 XQ.1, kept D0 XQ.2.1, kept D0 XQ.2.2, D0⟩
      obtain ⟨cL0, cL1, cL2⟩ := id XL
      obtain ⟨cC0, cC1⟩ := id XC
      obtain ⟨cQ0, cQ1, cQ2⟩ := id XQ
      go_wp2_with fail
      go_region_held3 (fun w' => w'.cell? ⟨w.heap.size, 0, none⟩ = some (.int .i64 m) ∧ w'.cell? ⟨w.heap.size, 1, none⟩ = some (.int .i64 n) ∧ w'.cell? ⟨w.heap.size, 2, none⟩ = some (.slice a len cap) ∧ w'.cell? ⟨w.heap.size + 1, 0, none⟩ = some (.bool up) ∧ w'.cell? ⟨w.heap.size + 1, 1, none⟩ = some (.int .i64 z) ∧ w'.cell? ⟨w5.heap.size, 0, none⟩ = some (.int .i64 m) ∧ w'.cell? ⟨w5.heap.size, 1, none⟩ = some (.int .i64 n) ∧ w'.cell? ⟨w5.heap.size, 2, none⟩ = some (.slice ax xs.length cx) ∧ Below w8.heap.size w8 w') (first | assumption | (refine KP _ _ (by assumption) ?_; assumption))
        ((first
          | (go_at_call 25; refine (args_eqL (ToLayout_any m n a len cap xs _ (HA.out _ (bel_c BH.out (Nat.le_refl _) D0)) hl) (by with_reducible rfl)).mono ?_; rintro e w9 ⟨v, rfl, RR, hb_w9⟩; have RY := Lib.hid RR; clear RR)
          | (go_at_call 27; refine (args_eqL (EqLayout_any _ _ _ _ m n _ _ xs _ (RH.out.below ((D0.trans hb_w9).mono (by omega))) RY.out (by have := hb_w9.size; simp at this; omega) (Nat.le_refl _)) (by with_reducible rfl)).mono ?_; rintro e w10 ⟨rfl, hb_w10⟩)))
      have SE : w10.cell? ⟨w.heap.size, 0, none⟩ = some (.int .i64 m) ∧ w10.cell? ⟨w.heap.size, 1, none⟩ = some (.int .i64 n) ∧ w10.cell? ⟨w.heap.size, 2, none⟩ = some (.slice a len cap) ∧ w10.cell? ⟨w.heap.size + 1, 0, none⟩ = some (.bool up) ∧ w10.cell? ⟨w.heap.size + 1, 1, none⟩ = some (.int .i64 z) ∧ w10.cell? ⟨w5.heap.size, 0, none⟩ = some (.int .i64 m) ∧ w10.cell? ⟨w5.heap.size, 1, none⟩ = some (.int .i64 n) ∧ w10.cell? ⟨w5.heap.size, 2, none⟩ = some (.slice ax xs.length cx) ∧ Below w8.heap.size w8 w10 := by assumption
      have hb := SE.2.2.2.2.2.2.2.2
      clear SE S0 KP D0 cL0 cL1 cL2 cC0 cC1 cQ0 cQ1 cQ2
      all_goals try clear hb_w9 hb_w10
      have XL := XL.keep hb
      have XC := XC.keep hb
      have XQ := XQ.keep hb
      have Rx := Rx.below (hb.mono (by omega))
      have B := bel_c B (Nat.le_refl _) hb
      have zw10 : w8.heap.size ≤ w10.heap.size := hb.size
      clear hb
      go_wp2_with fail
      go_ret
      exact ⟨rfl, B⟩
  · have hl' : (1048576 : Int) < len := by omega
    go_enter Try.func4, Try.ntmps4
    go_wp2_with fail
    refine (SzL_no m n a len cap 1048576 _ (by omega) (by omega) hm hl').mono ?_
    rintro e w1 ⟨rfl, hb1⟩
    go_wp2_with fail
    go_ret
    exact ⟨rfl, bel_c (bel_n (bel0 w _) (Nat.le_refl _) _) (Nat.le_refl _) hb1⟩

end Go.Proofs.Ytakjgnkkeefgbaa
