/- The walk of FnExactAreJoins. -/
import Derived.Test.YtboahceibeeifaaJnLn
import Derived.Test.YtboahceibeeifaaJnT
import Derived.Test.YtboahceibeeifaaJnSc
import Derived.Test.YtboahceibeeifaaJnIb
import Derived.Test.YtboahceibeeifaaCutLw
import Derived.Test.YtboahceibeeifaaPatE
import Derived.Test.YtboahceibeeifaaLayZ
import Derived.Deep.RegionHeld3
set_option linter.unusedSimpArgs false
set_option linter.unusedVariables false
namespace Go.Proofs.Ytboahceibeeifaa
open Go.ChangeShapes Go.WideShapes Go.ChangeAt Go.RowKit

set_option maxHeartbeats 4000000 in
set_option maxRecDepth 20000 in
theorem AreLaw_walk (m n : Int) (a : Option Addr) (len cap : Nat) (xs : List P5) (a2 : Option Addr) (len2 cap2 : Nat) (js : List J3) (w : World) (x0 : ArgPat w a len xs) (wf : ∀ c ∈ xs, c.Wf) (x2 : ArgJn w a2 len2 js) :
    Calls Try.prog 6 #[.agg #[.int .i64 m, .int .i64 n, .slice a len cap], .slice a2 len2 cap2] w fun e w' => e = .returned (.bool true) ∧ Below w.heap.size w w' := by
  have hm : len ≤ 9223372036854775807 := by have := x0.2.1; unfold maxLen at this; omega
  have hm2 : len2 ≤ 9223372036854775807 := by have := x2.2.1; unfold maxLen at this; omega
  have HA : Hid (∀ W, Below w.heap.size w W → ArgPat W a len xs) := Lib.hid (fun W hb => x0.below hb)
  have HA2 : Hid (∀ W, Below w.heap.size w W → ArgJn W a2 len2 js) := Lib.hid (fun W hb => x2.below hb)
  clear x0 x2
  have CS := fun lo hi v lo2 hi2 v2 w r h r2 h2 => SpecAreJoins_any lo hi m n v xs lo2 hi2 v2 js w r h r2 h2
  have CI := fun lo hi v lo2 hi2 v2 w r h r2 h2 => ImplAreJoins_any lo hi m n v xs lo2 hi2 v2 js wf w r h r2 h2
  generalize areJ m n xs js = ok at CS CI
  have CSH := Lib.hid CS
  have CIH := Lib.hid CI
  clear CS CI
  by_cases hl : len ≤ 1048576
  · have hs : ¬ ((1048576 : Int) - (len : Int) < 0) := by omega
    have hl' : (len : Int) ≤ 1048576 := by omega
    by_cases hl2 : len2 ≤ 1048576 - len
    · have hl3 : len2 ≤ 1048576 := by omega
      have hs2 : ¬ ((1048576 : Int) - (len : Int) - (len2 : Int) < 0) := by omega
      go_enter Try.func6, Try.ntmps6
      have XL := Tri.new w (.int .i64 m) (.int .i64 n) (.slice a len cap) 43
      have B := bel0 w (.cells #[.int .i64 m, .int .i64 n, .slice a len cap] 43)
      go_wp2_with fail
      refine (SzL_yes m n a len cap 1048576 _ (by omega) hl').mono ?_
      rintro e w1 ⟨rfl, hb⟩
      have XL := XL.keep hb
      have B := bel_c B (Nat.le_refl _) hb
      have zw1 : (w.alloc (.cells #[.int .i64 m, .int .i64 n, .slice a len cap] 43)).heap.size ≤ w1.heap.size := hb.size
      clear hb
      have zw : w.heap.size < w1.heap.size := Tri.lt XL
      obtain ⟨cL0, cL1, cL2⟩ := id XL
      go_wp2_with fail
      clear cL0 cL1 cL2
      refine (SzJ_yes a2 len2 cap2 (1048576 - (len : Int)) _ (by omega) (by omega)).mono ?_
      rintro e w' ⟨rfl, hw⟩
      have hw' := hw.symm
      subst hw'
      clear hw
      obtain ⟨cL0, cL1, cL2⟩ := id XL
      go_wp2_with fail
      clear cL0 cL1 cL2
      refine (ToLayout_any m n a len cap xs _ (HA.out _ B) hl).mono ?_
      rintro e w2 ⟨v, rfl, R, hb⟩
      obtain ⟨av, cv, rfl⟩ := R.form
      have XL := XL.keep hb
      have B := bel_c B (Nat.le_refl _) hb
      have zw2 : w1.heap.size ≤ w2.heap.size := hb.size
      clear hb
      have Rv := R
      clear R
      go_wp2_with fail
      refine (ToJnS_any a2 len2 cap2 js _ (HA2.out _ B) hl3).mono ?_
      rintro e w3 ⟨v, rfl, R, hb⟩
      obtain ⟨ak, ck, rfl⟩ := R.form
      have XL := XL.keep hb
      have Rv := Rv.below (hb.mono (by omega))
      have B := bel_c B (Nat.le_refl _) hb
      have zw3 : w2.heap.size ≤ w3.heap.size := hb.size
      clear hb
      have Rk := R
      clear R
      go_wp2_with fail
      refine (CSH.out _ _ _ _ _ _ _ Rv (by omega) Rk (by omega)).mono ?_
      rintro e w4 ⟨rfl, hb⟩
      have XL := XL.keep hb
      have Rv := Rv.below (hb.mono (by omega))
      have Rk := Rk.below (hb.mono (by omega))
      have B := bel_c B (Nat.le_refl _) hb
      have zw4 : w3.heap.size ≤ w4.heap.size := hb.size
      clear hb
      obtain ⟨cL0, cL1, cL2⟩ := id XL
      go_wp2_with fail
      clear cL0 cL1 cL2
      refine (ToLayout_any m n a len cap xs _ (HA.out _ B) hl).mono ?_
      rintro e w5 ⟨v, rfl, R, hb⟩
      obtain ⟨ax, cx, rfl⟩ := R.form
      have XL := XL.keep hb
      have Rv := Rv.below (hb.mono (by omega))
      have Rk := Rk.below (hb.mono (by omega))
      have B := bel_c B (Nat.le_refl _) hb
      have zw5 : w4.heap.size ≤ w5.heap.size := hb.size
      clear hb
      have Rx := R
      clear R
      have NB := bel0 w5 (.cells #[.int .i64 m, .int .i64 n, .slice ax xs.length cx] 26)
      have XL := XL.keep NB
      have Rv := Rv.below (NB.mono (by omega))
      have Rk := Rk.below (NB.mono (by omega))
      have Rx := Rx.below (NB.mono (by omega))
      have B := bel_n B (Nat.le_refl _) (.cells #[.int .i64 m, .int .i64 n, .slice ax xs.length cx] 26)
      have XQ := Tri.new w5 (.int .i64 m) (.int .i64 n) (.slice ax xs.length cx) 26
      have zw6 : w5.heap.size + 1 ≤ (w5.alloc (.cells #[.int .i64 m, .int .i64 n, .slice ax xs.length cx] 26)).heap.size := by simp
      obtain ⟨w6, hV⟩ : ∃ V, V = w5.alloc (.cells #[.int .i64 m, .int .i64 n, .slice ax xs.length cx] 26) := ⟨_, rfl⟩
      rw [← hV] at B zw6 XL XQ Rv Rk Rx
      go_wp2_with fail
      rw [← hV]
      clear hV NB
      refine (ToJnS_any a2 len2 cap2 js _ (HA2.out _ B) hl3).mono ?_
      rintro e w7 ⟨v, rfl, R, hb⟩
      obtain ⟨ay, cy, rfl⟩ := R.form
      have XL := XL.keep hb
      have XQ := XQ.keep hb
      have Rv := Rv.below (hb.mono (by omega))
      have Rk := Rk.below (hb.mono (by omega))
      have Rx := Rx.below (hb.mono (by omega))
      have B := bel_c B (Nat.le_refl _) hb
      have zw7 : w6.heap.size ≤ w7.heap.size := hb.size
      clear hb
      have Ry := R
      clear R
      obtain ⟨cQ0, cQ1, cQ2⟩ := id XQ
      go_wp2_with fail
      clear cQ0 cQ1 cQ2
      refine (CIH.out _ _ _ _ _ _ _ Rx (by omega) Ry (by omega)).mono ?_
      rintro e w8 ⟨rfl, hb⟩
      have XL := XL.keep hb
      have XQ := XQ.keep hb
      have Rv := Rv.below (hb.mono (by omega))
      have Rk := Rk.below (hb.mono (by omega))
      have Rx := Rx.below (hb.mono (by omega))
      have Ry := Ry.below (hb.mono (by omega))
      have B := bel_c B (Nat.le_refl _) hb
      have zw8 : w7.heap.size ≤ w8.heap.size := hb.size
      clear hb
      cases ok
      all_goals
        have BH := Lib.hid B
        have RH := Lib.hid Rx
        have KP : ∀ u v : World, Below u.heap.size u v → (u.cell? ⟨w.heap.size, 0, none⟩ = some (.int .i64 m) ∧ u.cell? ⟨w.heap.size, 1, none⟩ = some (.int .i64 n) ∧ u.cell? ⟨w.heap.size, 2, none⟩ = some (.slice a len cap) ∧ u.cell? ⟨w5.heap.size, 0, none⟩ = some (.int .i64 m) ∧ u.cell? ⟨w5.heap.size, 1, none⟩ = some (.int .i64 n) ∧ u.cell? ⟨w5.heap.size, 2, none⟩ = some (.slice ax xs.length cx) ∧ Below w8.heap.size w8 u) → (v.cell? ⟨w.heap.size, 0, none⟩ = some (.int .i64 m) ∧ v.cell? ⟨w.heap.size, 1, none⟩ = some (.int .i64 n) ∧ v.cell? ⟨w.heap.size, 2, none⟩ = some (.slice a len cap) ∧ v.cell? ⟨w5.heap.size, 0, none⟩ = some (.int .i64 m) ∧ v.cell? ⟨w5.heap.size, 1, none⟩ = some (.int .i64 n) ∧ v.cell? ⟨w5.heap.size, 2, none⟩ = some (.slice ax xs.length cx) ∧ Below w8.heap.size w8 v) := fun u v hb h => ⟨kept hb h.1, kept hb h.2.1, kept hb h.2.2.1, kept hb h.2.2.2.1, kept hb h.2.2.2.2.1, kept hb h.2.2.2.2.2.1, bel_c h.2.2.2.2.2.2 (Nat.le_refl _) hb⟩
        have D0 : Below w8.heap.size w8 w8.drew := ⟨rfl, rfl, rfl, Nat.le_refl _, fun _ _ => rfl⟩
        have S0 : w8.drew.cell? ⟨w.heap.size, 0, none⟩ = some (.int .i64 m) ∧ w8.drew.cell? ⟨w.heap.size, 1, none⟩ = some (.int .i64 n) ∧ w8.drew.cell? ⟨w.heap.size, 2, none⟩ = some (.slice a len cap) ∧ w8.drew.cell? ⟨w5.heap.size, 0, none⟩ = some (.int .i64 m) ∧ w8.drew.cell? ⟨w5.heap.size, 1, none⟩ = some (.int .i64 n) ∧ w8.drew.cell? ⟨w5.heap.size, 2, none⟩ = some (.slice ax xs.length cx) ∧ Below w8.heap.size w8 w8.drew := ⟨kept D0 XL.1, kept D0 XL.2.1, kept D0 XL.2.2, kept D0 XQ.1, kept D0 XQ.2.1, kept D0 XQ.2.2, D0⟩
        obtain ⟨cL0, cL1, cL2⟩ := id XL
        obtain ⟨cQ0, cQ1, cQ2⟩ := id XQ
        go_wp2_with fail
        go_region_held3 (fun w' => w'.cell? ⟨w.heap.size, 0, none⟩ = some (.int .i64 m) ∧ w'.cell? ⟨w.heap.size, 1, none⟩ = some (.int .i64 n) ∧ w'.cell? ⟨w.heap.size, 2, none⟩ = some (.slice a len cap) ∧ w'.cell? ⟨w5.heap.size, 0, none⟩ = some (.int .i64 m) ∧ w'.cell? ⟨w5.heap.size, 1, none⟩ = some (.int .i64 n) ∧ w'.cell? ⟨w5.heap.size, 2, none⟩ = some (.slice ax xs.length cx) ∧ Below w8.heap.size w8 w') (first | assumption | (refine KP _ _ (by assumption) ?_; assumption))
          ((first
            | (go_at_call 19; refine (args_eqL (ToLayout_any m n a len cap xs _ (HA.out _ (bel_c BH.out (Nat.le_refl _) D0)) hl) (by with_reducible rfl)).mono ?_; rintro e w9 ⟨v, rfl, RR, hb_w9⟩; have RY := Lib.hid RR; clear RR)
            | (go_at_call 21; refine (args_eqL (EqLayout_any _ _ _ _ m n _ _ xs _ (RH.out.below ((D0.trans hb_w9).mono (by omega))) RY.out (by have := hb_w9.size; simp at this; omega) (Nat.le_refl _)) (by with_reducible rfl)).mono ?_; rintro e w10 ⟨rfl, hb_w10⟩)))
        have SE : w10.cell? ⟨w.heap.size, 0, none⟩ = some (.int .i64 m) ∧ w10.cell? ⟨w.heap.size, 1, none⟩ = some (.int .i64 n) ∧ w10.cell? ⟨w.heap.size, 2, none⟩ = some (.slice a len cap) ∧ w10.cell? ⟨w5.heap.size, 0, none⟩ = some (.int .i64 m) ∧ w10.cell? ⟨w5.heap.size, 1, none⟩ = some (.int .i64 n) ∧ w10.cell? ⟨w5.heap.size, 2, none⟩ = some (.slice ax xs.length cx) ∧ Below w8.heap.size w8 w10 := by assumption
        have hb := SE.2.2.2.2.2.2
        clear SE S0 KP D0 cL0 cL1 cL2 cQ0 cQ1 cQ2
        all_goals try clear hb_w9 hb_w10
        have XL := XL.keep hb
        have XQ := XQ.keep hb
        have Rv := Rv.below (hb.mono (by omega))
        have Rk := Rk.below (hb.mono (by omega))
        have Rx := Rx.below (hb.mono (by omega))
        have Ry := Ry.below (hb.mono (by omega))
        have B := bel_c B (Nat.le_refl _) hb
        have zw10 : w8.heap.size ≤ w10.heap.size := hb.size
        clear hb
        clear BH RH
        go_wp2_with fail
        refine (ToJnS_any a2 len2 cap2 js _ (HA2.out _ B) hl3).mono ?_
        rintro e w11 ⟨v, rfl, R, hb⟩
        obtain ⟨az, cz, rfl⟩ := R.form
        have XL := XL.keep hb
        have XQ := XQ.keep hb
        have Rv := Rv.below (hb.mono (by omega))
        have Rk := Rk.below (hb.mono (by omega))
        have Rx := Rx.below (hb.mono (by omega))
        have Ry := Ry.below (hb.mono (by omega))
        have B := bel_c B (Nat.le_refl _) hb
        have zw11 : w10.heap.size ≤ w11.heap.size := hb.size
        clear hb
        have Rz := R
        clear R
        go_wp2_with fail
        refine (EqJnS_any _ _ _ _ _ _ js _ Ry Rz (by omega) (Nat.le_refl _)).mono ?_
        rintro e w12 ⟨rfl, hb⟩
        have XL := XL.keep hb
        have XQ := XQ.keep hb
        have Rv := Rv.below (hb.mono (by omega))
        have Rk := Rk.below (hb.mono (by omega))
        have Rx := Rx.below (hb.mono (by omega))
        have Ry := Ry.below (hb.mono (by omega))
        have Rz := Rz.below (hb.mono (by omega))
        have B := bel_c B (Nat.le_refl _) hb
        have zw12 : w11.heap.size ≤ w12.heap.size := hb.size
        clear hb
        go_wp2_with fail
        go_ret
        exact ⟨rfl, B⟩
    · have hl3 : (1048576 : Int) - (len : Int) < len2 := by omega
      go_enter Try.func6, Try.ntmps6
      have B := bel0 w (.cells #[.int .i64 m, .int .i64 n, .slice a len cap] 43)
      have XL := Tri.new w (.int .i64 m) (.int .i64 n) (.slice a len cap) 43
      go_wp2_with fail
      refine (SzL_yes m n a len cap 1048576 _ (by omega) hl').mono ?_
      rintro e w1 ⟨rfl, hb⟩
      have XL := XL.keep hb
      have B := bel_c B (Nat.le_refl _) hb
      have zw1 : (w.alloc (.cells #[.int .i64 m, .int .i64 n, .slice a len cap] 43)).heap.size ≤ w1.heap.size := hb.size
      clear hb
      obtain ⟨cL0, cL1, cL2⟩ := id XL
      go_wp2_with fail
      clear cL0 cL1 cL2
      refine (SzJ_no a2 len2 cap2 (1048576 - (len : Int)) _ (by omega) (by omega) hm2 hl3).mono ?_
      rintro e w' ⟨rfl, hw⟩
      have hw' := hw.symm
      subst hw'
      clear hw
      go_wp2_with fail
      go_ret
      exact ⟨rfl, B⟩
  · have hl' : (1048576 : Int) < len := by omega
    go_enter Try.func6, Try.ntmps6
    go_wp2_with fail
    refine (SzL_no m n a len cap 1048576 _ (by omega) (by omega) hm hl').mono ?_
    rintro e w1 ⟨rfl, hb1⟩
    go_wp2_with fail
    go_ret
    exact ⟨rfl, bel_c (bel0 w _) (Nat.le_refl _) hb1⟩

end Go.Proofs.Ytboahceibeeifaa
