/- The walk of FnExactArePatternsSame. -/
import Derived.Test.YtfidnhhlcdbaeaaDoorM24
import Derived.Test.YtfidnhhlcdbaeaaDoorM26
import Derived.Test.YtfidnhhlcdbaeaaDoorM02

namespace Go.Proofs.YtfidnhhlcdbaeaaDoor
open Go.ChangeShapes Go.WideShapes Go.ChangeAt Go.RowKit

set_option maxHeartbeats 1000000 in
theorem ArePatLaw_walk (n m : Int) (a b : Option Addr) (len cap lenb capb : Nat) (xs ys : List C3) (w : World) (x0 : ArgC w a len xs) (x1 : ArgC w b lenb ys) :
    Calls Tryd.prog 6 #[.agg #[.int .i64 n, .slice a len cap], .agg #[.int .i64 m, .slice b lenb capb]] w fun e w' => e = .returned (.bool true) ∧ Below w.heap.size w w' := by
  have hm : len ≤ 9223372036854775807 := by have := x0.2.1; unfold maxLen at this; omega
  have hmb : lenb ≤ 9223372036854775807 := by have := x1.2.1; unfold maxLen at this; omega
  have HA : Hid (∀ W, Below w.heap.size w W → ArgC W a len xs) := Lib.hid (fun W hb => x0.below hb)
  have HB : Hid (∀ W, Below w.heap.size w W → ArgC W b lenb ys) := Lib.hid (fun W hb => x1.below hb)
  clear x0 x1
  have CS := fun l1 h1 l2 h2 v1 v2 w r1 r2 k1 k2 => SpecArePatternsSame_any l1 h1 l2 h2 n m v1 v2 xs ys w r1 k1 r2 k2
  have CI := fun l1 h1 l2 h2 v1 v2 w r1 r2 k1 k2 => ImplArePatternsSame_any l1 h1 l2 h2 n m v1 v2 xs ys w r1 k1 r2 k2
  generalize areP n m xs ys = ok at CS CI
  by_cases hl : len ≤ 1048576
  · have hs : ¬ ((1048576 : Int) - (len : Int) < 0) := by omega
    have hl' : (len : Int) ≤ 1048576 := by omega
    by_cases hlb' : (lenb : Int) ≤ 1048576 - len
    · have hlb : lenb ≤ 1048576 := by omega
      have hs2 : ¬ ((1048576 : Int) - (len : Int) - (lenb : Int) < 0) := by omega
      go_enter Tryd.func6, Tryd.ntmps6
      have A0 := (Two.new w (.int .i64 n) (.slice a len cap) 24).keep (bel0 _ (.cells #[.int .i64 m, .slice b lenb capb] 24))
      have A1 : Two (w.heap.size + 1) (.int .i64 m) (.slice b lenb capb) ((w.alloc (.cells #[.int .i64 n, .slice a len cap] 24)).alloc (.cells #[.int .i64 m, .slice b lenb capb] 24)) := by simpa using (Two.new (w.alloc (.cells #[.int .i64 n, .slice a len cap] 24)) (.int .i64 m) (.slice b lenb capb) 24)
      have B := bel_n (bel0 w (.cells #[.int .i64 n, .slice a len cap] 24)) (Nat.le_refl _) (.cells #[.int .i64 m, .slice b lenb capb] 24)
      go_wp2_with fail
      refine (SzB_yes n a len cap 1048576 _ (by omega) hl').mono ?_
      rintro e w1 ⟨rfl, hb⟩
      have zw0 : w.heap.size + 1 + 1 ≤ w1.heap.size := by have := hb.size; simpa using this
      have A0_ := A0.keep hb
      have A1_ := A1.keep hb
      have B_ := bel_c B (Nat.le_refl _) hb
      clear A0 A1 B hb
      have A0 := A0_
      have A1 := A1_
      have B := B_
      clear A0_ A1_ B_
      obtain ⟨c_A10, c_A11⟩ := id A1
      go_wp2_with fail
      clear c_A10 c_A11
      refine (SzB_yes m b lenb capb _ _ (by omega) hlb').mono ?_
      rintro e w2 ⟨rfl, hb⟩
      have A0_ := A0.keep hb
      have A1_ := A1.keep hb
      have B_ := bel_c B (Nat.le_refl _) hb
      have zw2 : w1.heap.size ≤ w2.heap.size := by have := hb.size; simpa using this
      clear A0 A1 B
      have A0 := A0_
      have A1 := A1_
      have B := B_
      clear A0_ A1_ B_ hb
      have D0 : Below w2.heap.size w2 w2.drew := ⟨rfl, rfl, rfl, Nat.le_refl _, fun _ _ => rfl⟩
      have BD := Lib.hid (bel_c B (Nat.le_refl _) D0)
      have KP : ∀ u v, Below u.heap.size u v → (u.cell? ⟨w.heap.size, 0, none⟩ = some (.int .i64 n) ∧ u.cell? ⟨w.heap.size, 1, none⟩ = some (.slice a len cap) ∧ u.cell? ⟨(w.heap.size + 1), 0, none⟩ = some (.int .i64 m) ∧ u.cell? ⟨(w.heap.size + 1), 1, none⟩ = some (.slice b lenb capb)) → (v.cell? ⟨w.heap.size, 0, none⟩ = some (.int .i64 n) ∧ v.cell? ⟨w.heap.size, 1, none⟩ = some (.slice a len cap) ∧ v.cell? ⟨(w.heap.size + 1), 0, none⟩ = some (.int .i64 m) ∧ v.cell? ⟨(w.heap.size + 1), 1, none⟩ = some (.slice b lenb capb)) := fun u v hb h => ⟨kept hb h.1, kept hb h.2.1, kept hb h.2.2.1, kept hb h.2.2.2⟩
      obtain ⟨c_A00, c_A01⟩ := id A0
      obtain ⟨c_A10, c_A11⟩ := id A1
      go_wp2_with fail
      go_region_held3 (fun w' => w'.cell? ⟨w.heap.size, 0, none⟩ = some (.int .i64 n) ∧ w'.cell? ⟨w.heap.size, 1, none⟩ = some (.slice a len cap) ∧ w'.cell? ⟨(w.heap.size + 1), 0, none⟩ = some (.int .i64 m) ∧ w'.cell? ⟨(w.heap.size + 1), 1, none⟩ = some (.slice b lenb capb)) (first | (refine KP _ _ (by assumption) ?_; assumption) | go_keep)
        ((first
          | (have q_ := hbx; clear q_; go_at_call 10; refine (ToBlock_any m b lenb capb ys _ (HB.out _ (bel_c BD.out (Nat.le_refl _) hbx)) hlb).mono ?_; rintro e w4 ⟨vy, rfl, iny, hby⟩; have IX := Lib.hid (inx.out.below hby); have IY := Lib.hid iny; clear iny)
          | (go_at_call 10; refine (ToBlock_any n a len cap xs _ (HA.out _ BD.out) hl).mono ?_; rintro e w3 ⟨vx, rfl, inx_, hbx⟩; have inx := Lib.hid inx_; clear inx_)
          | (go_at_call 19; refine (CS _ _ _ _ _ _ _ IX.out IY.out hby.size (Nat.le_refl _)).mono ?_; rintro e w5 ⟨rfl, hbz⟩)))
      clear c_A00 c_A01 c_A10 c_A11 KP BD
      clear IX IY inx
      have hb : Below w2.heap.size w2 w5 := bel_c (bel_c (D0.trans hbx) (Nat.le_refl _) hby) (Nat.le_refl _) hbz
      clear D0 hbx hby hbz
      have A0_ := A0.keep hb
      have A1_ := A1.keep hb
      have B_ := bel_c B (Nat.le_refl _) hb
      have zw5 : w2.heap.size ≤ w5.heap.size := by have := hb.size; simpa using this
      clear A0 A1 B
      have A0 := A0_
      have A1 := A1_
      have B := B_
      clear A0_ A1_ B_ hb
      obtain ⟨c_A00, c_A01⟩ := id A0
      go_wp2_with fail
      clear c_A00 c_A01
      refine (ToBlock_any n a len cap xs _ (HA.out _ B) hl).mono ?_
      rintro e w6 ⟨v, rfl, R1, hb⟩
      obtain ⟨a1, c1, rfl⟩ := R1.form
      have A0_ := A0.keep hb
      have A1_ := A1.keep hb
      have B_ := bel_c B (Nat.le_refl _) hb
      have zw6 : w5.heap.size ≤ w6.heap.size := by have := hb.size; simpa using this
      clear A0 A1 B
      have A0 := A0_
      have A1 := A1_
      have B := B_
      clear A0_ A1_ B_ hb
      have NB := bel0 w6 (.cells #[.int .i64 n, .slice a1 xs.length c1] 28)
      have A0_ := A0.keep NB
      have A1_ := A1.keep NB
      have R1_ := R1.below (NB.mono (by omega))
      have B_ := bel_n B (Nat.le_refl _) (.cells #[.int .i64 n, .slice a1 xs.length c1] 28)
      clear A0 A1 R1 B
      have A0 := A0_
      have A1 := A1_
      have R1 := R1_
      have B := B_
      clear A0_ A1_ R1_ B_ NB
      have P1 := Two.new w6 (.int .i64 n) (.slice a1 xs.length c1) 28
      obtain ⟨c_A10, c_A11⟩ := id A1
      go_wp2_with fail
      clear c_A10 c_A11
      refine (ToBlock_any m b lenb capb ys _ (HB.out _ B) hlb).mono ?_
      rintro e w7 ⟨v, rfl, R2, hb⟩
      simp at R2
      obtain ⟨a2, c2, rfl⟩ := R2.form
      have A0_ := A0.keep hb
      have A1_ := A1.keep hb
      have R1_ := R1.below (hb.mono (by simp <;> omega))
      have P1_ := P1.keep hb
      have B_ := bel_c B (Nat.le_refl _) hb
      have zw7 : w6.heap.size + 1 ≤ w7.heap.size := by have := hb.size; simpa using this
      clear A0 A1 R1 P1 B
      have A0 := A0_
      have A1 := A1_
      have R1 := R1_
      have P1 := P1_
      have B := B_
      clear A0_ A1_ R1_ P1_ B_ hb
      have NB := bel0 w7 (.cells #[.int .i64 m, .slice a2 ys.length c2] 28)
      have A0_ := A0.keep NB
      have A1_ := A1.keep NB
      have R1_ := R1.below (NB.mono (by omega))
      have P1_ := P1.keep NB
      have R2_ := R2.below (NB.mono (by omega))
      have B_ := bel_n B (Nat.le_refl _) (.cells #[.int .i64 m, .slice a2 ys.length c2] 28)
      clear A0 A1 R1 P1 R2 B
      have A0 := A0_
      have A1 := A1_
      have R1 := R1_
      have P1 := P1_
      have R2 := R2_
      have B := B_
      clear A0_ A1_ R1_ P1_ R2_ B_ NB
      have P2 := Two.new w7 (.int .i64 m) (.slice a2 ys.length c2) 28
      obtain ⟨c_P10, c_P11⟩ := id P1
      go_wp2_with fail
      clear c_P10 c_P11
      refine (CI _ _ _ _ _ _ _ R1 R2 (by simp <;> omega) (by simp <;> omega)).mono ?_
      rintro e w8 ⟨rfl, hb⟩
      have A0_ := A0.keep hb
      have A1_ := A1.keep hb
      have R1_ := R1.below (hb.mono (by simp <;> omega))
      have P1_ := P1.keep hb
      have R2_ := R2.below (hb.mono (by simp <;> omega))
      have P2_ := P2.keep hb
      have B_ := bel_c B (Nat.le_refl _) hb
      have zw8 : w7.heap.size + 1 ≤ w8.heap.size := by have := hb.size; simpa using this
      clear A0 A1 R1 P1 R2 P2 B
      have A0 := A0_
      have A1 := A1_
      have R1 := R1_
      have P1 := P1_
      have R2 := R2_
      have P2 := P2_
      have B := B_
      clear A0_ A1_ R1_ P1_ R2_ P2_ B_ hb
      cases ok
      all_goals
        have zR : w6.heap.size ≤ w8.heap.size := by omega
        have RD := Lib.hid (R1.below ((⟨rfl, rfl, rfl, Nat.le_refl _, fun _ _ => rfl⟩ : Below w8.heap.size w8 w8.drew).mono zR))
        have D0 : Below w8.heap.size w8 w8.drew := ⟨rfl, rfl, rfl, Nat.le_refl _, fun _ _ => rfl⟩
        have BD := Lib.hid (bel_c B (Nat.le_refl _) D0)
        have KP : ∀ u v, Below u.heap.size u v → (u.cell? ⟨w.heap.size, 0, none⟩ = some (.int .i64 n) ∧ u.cell? ⟨w.heap.size, 1, none⟩ = some (.slice a len cap) ∧ u.cell? ⟨w6.heap.size, 0, none⟩ = some (.int .i64 n) ∧ u.cell? ⟨w6.heap.size, 1, none⟩ = some (.slice a1 xs.length c1)) → (v.cell? ⟨w.heap.size, 0, none⟩ = some (.int .i64 n) ∧ v.cell? ⟨w.heap.size, 1, none⟩ = some (.slice a len cap) ∧ v.cell? ⟨w6.heap.size, 0, none⟩ = some (.int .i64 n) ∧ v.cell? ⟨w6.heap.size, 1, none⟩ = some (.slice a1 xs.length c1)) := fun u v hb h => ⟨kept hb h.1, kept hb h.2.1, kept hb h.2.2.1, kept hb h.2.2.2⟩
        obtain ⟨c_A00, c_A01⟩ := id A0
        obtain ⟨c_P10, c_P11⟩ := id P1
        go_wp2_with fail
        go_region_held3 (fun w' => w'.cell? ⟨w.heap.size, 0, none⟩ = some (.int .i64 n) ∧ w'.cell? ⟨w.heap.size, 1, none⟩ = some (.slice a len cap) ∧ w'.cell? ⟨w6.heap.size, 0, none⟩ = some (.int .i64 n) ∧ w'.cell? ⟨w6.heap.size, 1, none⟩ = some (.slice a1 xs.length c1)) (first | (refine KP _ _ (by assumption) ?_; assumption) | go_keep)
          ((first
            | (go_at_call 10; refine (ToBlock_any n a len cap xs _ (HA.out _ BD.out) hl).mono ?_; rintro e w9 ⟨vx, rfl, inx, hbx⟩; have IX := Lib.hid (RD.out.below (hbx.mono zR)); have JX := Lib.hid inx; clear inx)
            | (go_at_call 12; refine (EqBlock_any _ _ _ _ n _ _ xs _ IX.out JX.out (Nat.le_trans zR hbx.size) (Nat.le_refl _)).mono ?_; rintro e w10 ⟨rfl, hby⟩)))
        clear c_A00 c_A01 c_P10 c_P11 KP BD
        clear IX JX RD zR
        have hb : Below w8.heap.size w8 w10 := bel_c (D0.trans hbx) (Nat.le_refl _) hby
        clear D0 hbx hby
        have A0_ := A0.keep hb
        have A1_ := A1.keep hb
        have R1_ := R1.below (hb.mono (by omega))
        have P1_ := P1.keep hb
        have R2_ := R2.below (hb.mono (by omega))
        have P2_ := P2.keep hb
        have B_ := bel_c B (Nat.le_refl _) hb
        have zw10 : w8.heap.size ≤ w10.heap.size := by have := hb.size; simpa using this
        clear A0 A1 R1 P1 R2 P2 B
        have A0 := A0_
        have A1 := A1_
        have R1 := R1_
        have P1 := P1_
        have R2 := R2_
        have P2 := P2_
        have B := B_
        clear A0_ A1_ R1_ P1_ R2_ P2_ B_ hb
        have zR : w7.heap.size ≤ w10.heap.size := by omega
        have RD := Lib.hid (R2.below ((⟨rfl, rfl, rfl, Nat.le_refl _, fun _ _ => rfl⟩ : Below w10.heap.size w10 w10.drew).mono zR))
        have D0 : Below w10.heap.size w10 w10.drew := ⟨rfl, rfl, rfl, Nat.le_refl _, fun _ _ => rfl⟩
        have BD := Lib.hid (bel_c B (Nat.le_refl _) D0)
        have KP : ∀ u v, Below u.heap.size u v → (u.cell? ⟨(w.heap.size + 1), 0, none⟩ = some (.int .i64 m) ∧ u.cell? ⟨(w.heap.size + 1), 1, none⟩ = some (.slice b lenb capb) ∧ u.cell? ⟨w7.heap.size, 0, none⟩ = some (.int .i64 m) ∧ u.cell? ⟨w7.heap.size, 1, none⟩ = some (.slice a2 ys.length c2)) → (v.cell? ⟨(w.heap.size + 1), 0, none⟩ = some (.int .i64 m) ∧ v.cell? ⟨(w.heap.size + 1), 1, none⟩ = some (.slice b lenb capb) ∧ v.cell? ⟨w7.heap.size, 0, none⟩ = some (.int .i64 m) ∧ v.cell? ⟨w7.heap.size, 1, none⟩ = some (.slice a2 ys.length c2)) := fun u v hb h => ⟨kept hb h.1, kept hb h.2.1, kept hb h.2.2.1, kept hb h.2.2.2⟩
        obtain ⟨c_A10, c_A11⟩ := id A1
        obtain ⟨c_P20, c_P21⟩ := id P2
        go_wp2_with fail
        go_region_held3 (fun w' => w'.cell? ⟨(w.heap.size + 1), 0, none⟩ = some (.int .i64 m) ∧ w'.cell? ⟨(w.heap.size + 1), 1, none⟩ = some (.slice b lenb capb) ∧ w'.cell? ⟨w7.heap.size, 0, none⟩ = some (.int .i64 m) ∧ w'.cell? ⟨w7.heap.size, 1, none⟩ = some (.slice a2 ys.length c2)) (first | (refine KP _ _ (by assumption) ?_; assumption) | go_keep)
          ((first
            | (go_at_call 10; refine (ToBlock_any m b lenb capb ys _ (HB.out _ BD.out) hlb).mono ?_; rintro e w11 ⟨vx, rfl, inx, hbx⟩; have IX := Lib.hid (RD.out.below (hbx.mono zR)); have JX := Lib.hid inx; clear inx)
            | (go_at_call 12; refine (EqBlock_any _ _ _ _ m _ _ ys _ IX.out JX.out (Nat.le_trans zR hbx.size) (Nat.le_refl _)).mono ?_; rintro e w12 ⟨rfl, hby⟩)))
        clear c_A10 c_A11 c_P20 c_P21 KP BD
        clear IX JX RD zR
        have hb : Below w10.heap.size w10 w12 := bel_c (D0.trans hbx) (Nat.le_refl _) hby
        clear D0 hbx hby
        have A0_ := A0.keep hb
        have A1_ := A1.keep hb
        have R1_ := R1.below (hb.mono (by omega))
        have P1_ := P1.keep hb
        have R2_ := R2.below (hb.mono (by omega))
        have P2_ := P2.keep hb
        have B_ := bel_c B (Nat.le_refl _) hb
        have zw12 : w10.heap.size ≤ w12.heap.size := by have := hb.size; simpa using this
        clear A0 A1 R1 P1 R2 P2 B
        have A0 := A0_
        have A1 := A1_
        have R1 := R1_
        have P1 := P1_
        have R2 := R2_
        have P2 := P2_
        have B := B_
        clear A0_ A1_ R1_ P1_ R2_ P2_ B_ hb
        go_wp2_with fail
        go_ret
        exact ⟨rfl, B⟩
    · have hlb2 : (1048576 : Int) - len < lenb := by omega
      have h0 : (0 : Int) ≤ 1048576 - len := by omega
      go_enter Tryd.func6, Tryd.ntmps6
      go_wp2_with fail
      refine (SzB_yes n a len cap 1048576 _ (by omega) hl').mono ?_
      rintro e w1 ⟨rfl, hb1⟩
      have A1 : Two (w.heap.size + 1) (.int .i64 m) (.slice b lenb capb) w1 := Two.keep (by simpa using (Two.new (w.alloc (.cells #[.int .i64 n, .slice a len cap] 24)) (.int .i64 m) (.slice b lenb capb) 24)) hb1
      have B := bel_c (bel_n (bel0 w _) (Nat.le_refl _) _) (Nat.le_refl _) hb1
      obtain ⟨c0, c1⟩ := A1
      clear hb1
      go_wp2_with fail
      refine (SzB_no m b lenb capb _ _ h0 (by omega) hmb hlb2).mono ?_
      rintro e w2 ⟨rfl, hb2⟩
      go_wp2_with fail
      go_ret
      exact ⟨rfl, bel_c B (Nat.le_refl _) hb2⟩
  · have hl' : (1048576 : Int) < len := by omega
    go_enter Tryd.func6, Tryd.ntmps6
    go_wp2_with fail
    refine (SzB_no n a len cap 1048576 _ (by omega) (by omega) hm hl').mono ?_
    rintro e w1 ⟨rfl, hb1⟩
    go_wp2_with fail
    go_ret
    exact ⟨rfl, bel_c (bel_n (bel0 w _) (Nat.le_refl _) _) (Nat.le_refl _) hb1⟩

end Go.Proofs.YtfidnhhlcdbaeaaDoor
