/- Areas: the walk of FnAreas. -/
import Derived.Test.YtelpibdbnjmliaaAreI
import Derived.Test.YtelpibdbnjmliaaAreG
import Derived.Test.YtelpibdbnjmliaaBlkD
import Derived.Test.YtelpibdbnjmliaaBlkIx
import Derived.Test.YtelpibdbnjmliaaBlkN
import Derived.Test.YtelpibdbnjmliaaCellZ
import Derived.Deep.DeepCutAuto
namespace Go.Proofs.Ytelpibdbnjmliaa
open Go.ChangeShapes Go.WideShapes Go.ChangeAt Go.RowKit

/-- What the walk of FnAreas keeps: the block, its table, its colors, the block's box. -/
def ArK (w : World) (l0 h0 l1 h1 l2 h2 p0 : Nat) (n : Int) (vb vt vl : Value) (xs : List C3) (t l : List Int) (u : World) : Prop :=
  (CellIn l0 h0 u vb xs ∧ h0 ≤ u.heap.size) ∧ (IntIn l1 h1 u vt t ∧ h1 ≤ u.heap.size) ∧ (IntIn l2 h2 u vl l ∧ h2 ≤ u.heap.size) ∧ Two p0 (.int .i64 n) vb u ∧ Below w.heap.size w u
theorem ArK.keep {w : World} {l0 h0 l1 h1 l2 h2 p0 : Nat} {n : Int} {vb vt vl : Value} {xs : List C3} {t l : List Int} {u v : World} (h : ArK w l0 h0 l1 h1 l2 h2 p0 n vb vt vl xs t l u) (hb : Below u.heap.size u v) : ArK w l0 h0 l1 h1 l2 h2 p0 n vb vt vl xs t l v := by
  obtain ⟨⟨a0, b0⟩, ⟨a1, b1⟩, ⟨a2, b2⟩, tw, B⟩ := h
  exact ⟨⟨a0.below (hb.mono b0), Nat.le_trans b0 hb.size⟩, ⟨a1.below (hb.mono b1), Nat.le_trans b1 hb.size⟩, ⟨a2.below (hb.mono b2), Nat.le_trans b2 hb.size⟩, tw.keep hb, bel_c B (Nat.le_refl _) hb⟩
theorem bel_dn {b : Nat} {w u : World} (h : Below b w u) (n : Nat) : Below b w (u.drewN n) := ⟨h.os, h.tape, h.output, h.size, h.block⟩

set_option maxRecDepth 100000 in
set_option maxHeartbeats 20000000 in
theorem AreasLaw_walk (a : Option Addr) (len cap : Nat) (w : World) (hs : Src w w.heap.size a len) :
    Calls Try.prog 3 #[.slice a len cap] w fun e w' => e = .returned (.bool true) ∧ Below w.heap.size w w' := by
  have HS := Lib.hid (fun W (h : Below w.heap.size w W) => (hs.but (But.of_below h)).up2 h.size)
  obtain ⟨hm, _⟩ := hs
  have hl : len ≤ 9223372036854775807 := by unfold maxLen at hm; omega
  clear hm
  by_cases hb0 : len ≤ 1048576
  · go_enter Try.func3, Try.ntmps3
    go_wp2_with fail
    refine (Big_no a len cap w hb0).mono ?_
    rintro e w' ⟨rfl, rfl⟩
    go_wp2_with fail
    refine (DrawBlock_any a len cap w (HS.out _ (Below.refl _ _)) hb0).mono ?_
    rintro e w1 ⟨n, v, xs, hok, rfl, R0, B⟩
    obtain ⟨av, cv, rfl⟩ := R0.form
    have HK := Lib.hid hok
    have n0 := hok.1.1
    have n1 := hok.1.2
    obtain ⟨hx1, hx16⟩ := blk_len hok
    have HXL := Lib.hid hok.2.1
    have z1 := B.size
    clear hok
    have NB := bel0 w1 (.cells #[.int .i64 n, .slice av xs.length cv] 26)
    have R0_ := R0.below (NB.mono (by omega))
    have B_ := bel_n B (Nat.le_refl _) (.cells #[.int .i64 n, .slice av xs.length cv] 26)
    clear R0 B
    have R0 := R0_
    have B := B_
    clear R0_ B_ NB
    have P0 := Two.new w1 (.int .i64 n) (.slice av xs.length cv) 26
    obtain ⟨c_P00, c_P01⟩ := id P0
    go_wp2_with fail
    clear c_P00 c_P01
    refine (ImplTable_any _ _ n _ xs _ R0 (by simp)).mono ?_
    rw [table_yes HK.out]
    rintro e w11 ⟨vt, rfl, RT, hb⟩
    obtain ⟨at_, ct, rfl⟩ := RT.form
    have R0_ := R0.below (hb.mono (by simp <;> omega))
    have P0_ := P0.keep hb
    have B_ := bel_c B (Nat.le_refl _) hb
    have zw11 : w1.heap.size + 1 ≤ w11.heap.size := by have := hb.size; first | exact this | simpa using this
    clear R0 P0 B
    have R0 := R0_
    have P0 := P0_
    have B := B_
    clear R0_ P0_ B_ hb
    obtain ⟨c_P00, c_P01⟩ := id P0
    go_wp2_with fail
    clear c_P00 c_P01
    refine (SpecColors_any _ _ n _ xs _ R0 (by omega)).mono ?_
    rw [colors_yes HK.out]
    rintro e w12 ⟨vl, rfl, RL, hb⟩
    obtain ⟨al, cl, rfl⟩ := RL.form
    have R0_ := R0.below (hb.mono (by omega))
    have P0_ := P0.keep hb
    have RT_ := RT.below (hb.mono (by omega))
    have B_ := bel_c B (Nat.le_refl _) hb
    have zw12 : w11.heap.size ≤ w12.heap.size := by have := hb.size; first | exact this | simpa using this
    clear R0 P0 RT B
    have R0 := R0_
    have P0 := P0_
    have RT := RT_
    have B := B_
    clear R0_ P0_ RT_ B_ hb
    obtain ⟨bh, hbh⟩ : ∃ bh, bh = (w1.alloc (.cells #[.int .i64 n, .slice av xs.length cv] 26)).heap.size := ⟨_, rfl⟩
    rw [← hbh] at RT
    have AR : ArK w w.heap.size w1.heap.size bh w11.heap.size w11.heap.size w12.heap.size w1.heap.size n (.slice av xs.length cv) (.slice at_ (tab xs 6).length ct) (.slice al (cols xs 6).length cl) xs (tab xs 6) (cols xs 6) w12 := ⟨⟨R0, by omega⟩, ⟨RT, by omega⟩, ⟨RL, Nat.le_refl _⟩, P0, B⟩
    have HAR := Lib.hid AR
    have htl := tab_length xs 6
    have HTL := Lib.hid htl
    have HTB := Lib.hid (fun k (h : k < 6) => tab_bound hx16 h)
    have HPB := Lib.hid (fun k h => psum_bound hx16 k h)
    have HPS := Lib.hid (fun k (h : k < 6) => psum_succ (tab xs 6) (k := k) (by rw [tab_length]; exact h))
    have HTA := Lib.hid (fun k (h : k < 6) => tab_at xs (c := 6) (k := k) h)
    have HP4 := Lib.hid (psum_tab HK.out)
    have HMX := Lib.hid (fun j h => bst_max (tab xs 6) 6 j h)
    have HMR := Lib.hid (bst_range (tab xs 6) 6)
    have HBT := Lib.hid (bal_tab HK.out)
    have HCP := Lib.hid (cols_pos HK.out)
    have HBK := Lib.hid (balK_is HK.out)
    have HCA := Lib.hid (fun k h => cols_at (xs := xs) (k := k) h)
    have HMI := Lib.hid (fun k (h : k < 6) => (mem_cols (xs := xs) h).trans (by rw [usd_area xs (k : Int) xs.length (Nat.le_refl _), decide_eq_true_iff]))
    have HMO : Hid (mainOf n xs = bst (tab xs 6) 6) := Lib.hid (by unfold mainOf; rw [table_yes HK.out, tab_length])
    generalize tab xs 6 = t at *
    generalize cols xs 6 = l at *
    clear R0 RT RL P0 B AR
    go_wp2_with fail
    go_loopw [6, 7] (fun q i wr => ∃ k : Nat, k ≤ t.length ∧ i = .int .i64 k ∧ q = .int .i64 (psum t k) ∧ Hid (ArK w w.heap.size w1.heap.size bh w11.heap.size w11.heap.size w12.heap.size w1.heap.size n (.slice av xs.length cv) (.slice at_ t.length ct) (.slice al l.length cl) xs t l wr)) (fun _ i _ => t.length - (intOf i).toNat)
    case atStart => exact ⟨0, Nat.zero_le _, rfl, by rw [psum_zero], HAR⟩
    case round =>
      obtain ⟨k, hk, rfl, rfl, har⟩ := hrel
      by_cases hlt : k < t.length
      · have hlt6 : k < 6 := by omega
        obtain ⟨gt, hgt, _, _, e0, _⟩ := har.out.2.1.1.at (Below.refl _ _) hlt
        subst hgt
        have hB := HPB.out k (by omega)
        have hN := HPS.out k hlt6
        have hT := HTB.out k hlt6
        have hA := HTA.out k hlt6
        have hI := HMI.out k hlt6
        rw [← hA] at hI
        obtain ⟨x, hx⟩ : ∃ x, x = t.getD k 0 := ⟨_, rfl⟩
        rw [← hx] at e0 hN hT hA hI
        generalize hP : psum t k = P at *
        clear hP
        have HN := Lib.hid hN
        have HA := Lib.hid hA
        have HI := Lib.hid hI
        clear hN hA hI hx
        obtain ⟨b0, b1⟩ := har.out.2.2.2.1
        have KP : ∀ u v, Below u.heap.size u v → (u.cell? ⟨w1.heap.size, 0, none⟩ = some (.int .i64 n) ∧ u.cell? ⟨w1.heap.size, 1, none⟩ = some (.slice av xs.length cv) ∧ u.cell? ⟨gt, k, none⟩ = some (.int .i64 x) ∧ ArK w w.heap.size w1.heap.size bh w11.heap.size w11.heap.size w12.heap.size w1.heap.size n (.slice av xs.length cv) (.slice (some ⟨gt, 0, none⟩) t.length ct) (.slice al l.length cl) xs t l u) → (v.cell? ⟨w1.heap.size, 0, none⟩ = some (.int .i64 n) ∧ v.cell? ⟨w1.heap.size, 1, none⟩ = some (.slice av xs.length cv) ∧ v.cell? ⟨gt, k, none⟩ = some (.int .i64 x) ∧ ArK w w.heap.size w1.heap.size bh w11.heap.size w11.heap.size w12.heap.size w1.heap.size n (.slice av xs.length cv) (.slice (some ⟨gt, 0, none⟩) t.length ct) (.slice al l.length cl) xs t l v) := fun u v hb h => ⟨kept hb h.1, kept hb h.2.1, kept hb h.2.2.1, h.2.2.2.keep hb⟩
        have D0 : Below wr.heap.size wr wr.drew := ⟨rfl, rfl, rfl, Nat.le_refl _, fun _ _ => rfl⟩
        have S0 : wr.drew.cell? ⟨w1.heap.size, 0, none⟩ = some (.int .i64 n) ∧ wr.drew.cell? ⟨w1.heap.size, 1, none⟩ = some (.slice av xs.length cv) ∧ wr.drew.cell? ⟨gt, k, none⟩ = some (.int .i64 x) ∧ ArK w w.heap.size w1.heap.size bh w11.heap.size w11.heap.size w12.heap.size w1.heap.size n (.slice av xs.length cv) (.slice (some ⟨gt, 0, none⟩) t.length ct) (.slice al l.length cl) xs t l wr.drew := KP wr wr.drew D0 ⟨b0, b1, e0, har.out⟩
        have CA : Hid (∀ u : World, (u.cell? ⟨w1.heap.size, 0, none⟩ = some (.int .i64 n) ∧ u.cell? ⟨w1.heap.size, 1, none⟩ = some (.slice av xs.length cv) ∧ u.cell? ⟨gt, k, none⟩ = some (.int .i64 x) ∧ ArK w w.heap.size w1.heap.size bh w11.heap.size w11.heap.size w12.heap.size w1.heap.size n (.slice av xs.length cv) (.slice (some ⟨gt, 0, none⟩) t.length ct) (.slice al l.length cl) xs t l u) → Calls Try.prog 14 #[.agg #[.int .i64 n, .slice av xs.length cv], .int .i64 k] u fun e w' => e = .returned (.int .i64 x) ∧ Below u.heap.size u w') := Lib.hid (fun u h => by
          have := ImplAreaOf_any _ _ n (k : Int) _ xs u h.2.2.2.1.1 h.2.2.2.1.2 (wf_small (by omega) (by omega))
          rw [area_yes _ HK.out, ← HA.out] at this
          exact this)
        have HW : Hid (∀ u : World, (u.cell? ⟨w1.heap.size, 0, none⟩ = some (.int .i64 n) ∧ u.cell? ⟨w1.heap.size, 1, none⟩ = some (.slice av xs.length cv) ∧ u.cell? ⟨gt, k, none⟩ = some (.int .i64 x) ∧ ArK w w.heap.size w1.heap.size bh w11.heap.size w11.heap.size w12.heap.size w1.heap.size n (.slice av xs.length cv) (.slice (some ⟨gt, 0, none⟩) t.length ct) (.slice al l.length cl) xs t l u) → ArK w w.heap.size w1.heap.size bh w11.heap.size w11.heap.size w12.heap.size w1.heap.size n (.slice av xs.length cv) (.slice (some ⟨gt, 0, none⟩) t.length ct) (.slice al l.length cl) xs t l u) := Lib.hid (fun u h => h.2.2.2)
        by_cases hu : 0 < x
        -- used
        · have CH : Hid (∀ u : World, (u.cell? ⟨w1.heap.size, 0, none⟩ = some (.int .i64 n) ∧ u.cell? ⟨w1.heap.size, 1, none⟩ = some (.slice av xs.length cv) ∧ u.cell? ⟨gt, k, none⟩ = some (.int .i64 x) ∧ ArK w w.heap.size w1.heap.size bh w11.heap.size w11.heap.size w12.heap.size w1.heap.size n (.slice av xs.length cv) (.slice (some ⟨gt, 0, none⟩) t.length ct) (.slice al l.length cl) xs t l u) → Calls Try.prog 15 #[.slice al l.length cl, .int .i64 k] u fun e w' => e = .returned (.bool true) ∧ w' = u) := Lib.hid (fun u h => Has_yes _ _ _ _ _ u h.2.2.2.2.2.1.1 (HI.out.2 hu))
          have hub : decide (0 < x) = true := by simpa using hu
          go_upto_region 11 with fail
          clear b0 b1 e0 D0
          go_region_held3 (fun w' => w'.cell? ⟨w1.heap.size, 0, none⟩ = some (.int .i64 n) ∧ w'.cell? ⟨w1.heap.size, 1, none⟩ = some (.slice av xs.length cv) ∧ w'.cell? ⟨gt, k, none⟩ = some (.int .i64 x) ∧ ArK w w.heap.size w1.heap.size bh w11.heap.size w11.heap.size w12.heap.size w1.heap.size n (.slice av xs.length cv) (.slice (some ⟨gt, 0, none⟩) t.length ct) (.slice al l.length cl) xs t l w') (first | assumption | (refine KP _ _ (by assumption) ?_; assumption) | go_keep)
            ((first
              | (go_at_call 14; refine (CA.out _ (by assumption)).mono ?_; rintro e w' ⟨rfl, hb⟩)
              | (go_at_call 15; refine (CH.out _ (by assumption)).mono ?_; rintro e w' ⟨rfl, rfl⟩)))
          have hW := Lib.hid (HW.out _ (by assumption))
          go_wp2_with fail
          go_roundw
          case rel => exact ⟨k + 1, by omega, by go_num, by rw [HN.out], hW⟩
          case measure => simp [intOf] <;> omega
        · have CH : Hid (∀ u : World, (u.cell? ⟨w1.heap.size, 0, none⟩ = some (.int .i64 n) ∧ u.cell? ⟨w1.heap.size, 1, none⟩ = some (.slice av xs.length cv) ∧ u.cell? ⟨gt, k, none⟩ = some (.int .i64 x) ∧ ArK w w.heap.size w1.heap.size bh w11.heap.size w11.heap.size w12.heap.size w1.heap.size n (.slice av xs.length cv) (.slice (some ⟨gt, 0, none⟩) t.length ct) (.slice al l.length cl) xs t l u) → Calls Try.prog 15 #[.slice al l.length cl, .int .i64 k] u fun e w' => e = .returned (.bool false) ∧ w' = u) := Lib.hid (fun u h => Has_no _ _ _ _ _ u h.2.2.2.2.2.1.1 (fun h => hu (HI.out.1 h)))
          have hub : decide (0 < x) = false := by simpa using hu
          go_upto_region 11 with fail
          clear b0 b1 e0 D0
          go_region_held3 (fun w' => w'.cell? ⟨w1.heap.size, 0, none⟩ = some (.int .i64 n) ∧ w'.cell? ⟨w1.heap.size, 1, none⟩ = some (.slice av xs.length cv) ∧ w'.cell? ⟨gt, k, none⟩ = some (.int .i64 x) ∧ ArK w w.heap.size w1.heap.size bh w11.heap.size w11.heap.size w12.heap.size w1.heap.size n (.slice av xs.length cv) (.slice (some ⟨gt, 0, none⟩) t.length ct) (.slice al l.length cl) xs t l w') (first | assumption | (refine KP _ _ (by assumption) ?_; assumption) | go_keep)
            ((first
              | (go_at_call 14; refine (CA.out _ (by assumption)).mono ?_; rintro e w' ⟨rfl, hb⟩)
              | (go_at_call 15; refine (CH.out _ (by assumption)).mono ?_; rintro e w' ⟨rfl, rfl⟩)))
          have hW := Lib.hid (HW.out _ (by assumption))
          go_wp2_with fail
          go_roundw
          case rel => exact ⟨k + 1, by omega, by go_num, by rw [HN.out], hW⟩
          case measure => simp [intOf] <;> omega
      · obtain rfl : k = t.length := by omega
        have hs : psum t t.length = 4 * n * n := by rw [HTL.out]; exact HP4.out
        rw [hs]
        clear hs
        obtain ⟨b0, b1⟩ := id har.out.2.2.2.1
        go_wp2_with fail
        refine (ImplMain_any _ _ n _ xs _ har.out.1.1 har.out.1.2).mono ?_
        rw [HMO.out]
        obtain ⟨mr0, mr1, mr2⟩ := HMR.out
        have hmx := HMX.out
        obtain ⟨mm, hmm⟩ : ∃ mm : Nat, bst t 6 = mm := ⟨(bst t 6).toNat, by have := mr2 (by omega); omega⟩
        rw [hmm] at mr0 mr1 mr2 hmx ⊢
        have hm6 : mm < 6 := by omega
        have HX : Hid (∀ j, j < 6 → t.getD j 0 ≤ t.getD mm 0) := Lib.hid (fun j hj => by have := hmx j hj; rw [Int.toNat_natCast] at this; exact this)
        clear hmm mr0 mr1 mr2 hmx b0 b1
        rintro e w13 ⟨rfl, hb⟩
        have HAM := Lib.hid (har.out.keep hb)
        clear hb har
        have hml : (mm : Int) < (t.length : Int) := by omega
        have hll := HAM.out.2.2.1.1.1
        go_wp2_with fail
        go_loopw [9, 10] (fun q i wr => ∃ k : Nat, k ≤ l.length ∧ i = .int .i64 k ∧ q = .bool (balK t l k) ∧ Hid (ArK w w.heap.size w1.heap.size bh w11.heap.size w11.heap.size w12.heap.size w1.heap.size n (.slice av xs.length cv) (.slice at_ t.length ct) (.slice al l.length cl) xs t l wr)) (fun _ i _ => l.length - (intOf i).toNat)
        case atStart => exact ⟨0, Nat.zero_le _, rfl, by rw [← balK_zero], HAM⟩
        case round =>
          obtain ⟨k, hk, rfl, rfl, har⟩ := hrel
          by_cases hlt : k < l.length
          · obtain ⟨ja, hja, hja6⟩ := HCA.out k hlt
            obtain ⟨j0, hj0, hj06⟩ := HCA.out 0 HCP.out
            have hjl : ja < t.length := by omega
            have hj0l : j0 < t.length := by omega
            have hmlt : mm < t.length := by omega
            obtain ⟨gl, hgl, _, _, e0, _⟩ := har.out.2.2.1.1.at (Below.refl _ _) hlt
            subst hgl
            obtain ⟨gl2, hgl2, _, _, e1, _⟩ := har.out.2.2.1.1.at (Below.refl _ _) HCP.out
            simp only [Option.some.injEq, Addr.mk.injEq, and_true] at hgl2
            subst hgl2
            obtain ⟨gt, hgt, _, _, f0, _⟩ := har.out.2.1.1.at (Below.refl _ _) hjl
            subst hgt
            obtain ⟨gt2, hgt2, _, _, f1, _⟩ := har.out.2.1.1.at (Below.refl _ _) hj0l
            simp only [Option.some.injEq, Addr.mk.injEq, and_true] at hgt2
            subst hgt2
            obtain ⟨gt2, hgt2, _, _, f2, _⟩ := har.out.2.1.1.at (Below.refl _ _) hmlt
            simp only [Option.some.injEq, Addr.mk.injEq, and_true] at hgt2
            subst hgt2
            have hS := balK_succ t l k
            rw [hja, hj0, Int.toNat_natCast, Int.toNat_natCast] at hS
            rw [hja] at e0
            rw [hj0] at e1
            have hX := HX.out ja hja6
            generalize t.getD ja 0 = y at f0 hS hX
            generalize t.getD j0 0 = z at f1 hS
            generalize t.getD mm 0 = m at f2 hX
            have hXl : ¬ m < y := by omega
            generalize hbk : balK t l k = b at hS ⊢
            clear hbk
            have HSU := Lib.hid hS
            have HBN := Lib.hid (fun q => har.out.keep (bel_dn (Below.refl wr.heap.size wr) q))
            clear hS hja hj0 hX
            by_cases hyz : y = z
            · have hyb : (y == z) = true := by simpa using hyz
              clear hyz
              cases b
              all_goals
                have HN := Lib.hid HSU.out
                rw [hyb] at HN
                simp only [Bool.and_true] at HN
                go_wp2_with fail
                go_quiet (fail)
                go_wp2_with fail
                go_quiet (fail)
                go_wp2_with fail
                go_roundw
                case rel => exact ⟨k + 1, by omega, by go_num, by rw [HN.out], Lib.hid (HBN.out _)⟩
                case measure => simp [intOf] <;> omega
            · have hyb : (y == z) = false := by simpa using hyz
              clear hyz
              cases b
              all_goals
                have HN := Lib.hid HSU.out
                rw [hyb] at HN
                simp only [Bool.and_false] at HN
                go_wp2_with fail
                go_quiet (fail)
                go_wp2_with fail
                go_quiet (fail)
                go_wp2_with fail
                go_roundw
                case rel => exact ⟨k + 1, by omega, by go_num, by rw [HN.out], Lib.hid (HBN.out _)⟩
                case measure => simp [intOf] <;> omega
          · obtain rfl : k = l.length := by omega
            rw [HBK.out]
            obtain ⟨b0, b1⟩ := id har.out.2.2.2.1
            obtain ⟨g, hg, _, _, ⟨e0, e1, e2⟩, _⟩ := har.out.1.1.at (Below.refl _ _) (i := 0) (by omega)
            subst hg
            have hqo : (xs.getD 0 C3.zero).Ok := HK.out.2.2 _ (by simp [List.getD, show 0 < xs.length by omega])
            generalize xs.getD 0 C3.zero = q at e0 e1 e2 hqo
            have HQ := Lib.hid hqo
            clear hqo
            have A5 := Three.new wr q 34
            have hac := har.out.keep (bel0 wr (.cells #[.int .i64 q.s, .int .i64 q.a, .int .i64 q.b] 34))
            have HAC := Lib.hid hac
            obtain ⟨r0, r1⟩ := hac.2.2.2.1
            obtain ⟨r2, r3, r4⟩ := id A5
            clear hac
            go_wp2_with fail
            refine (ImplTris_any _ _ n _ xs _ HAC.out.1.1 HAC.out.1.2).mono ?_
            rw [tris_yes HK.out]
            obtain ⟨tb0, tb1⟩ := tri_bound xs xs.length (Nat.le_refl _)
            generalize tri xs xs.length = T at tb0 tb1 ⊢
            rintro e w14 ⟨rfl, hb⟩
            have A6 := A5.keep hb
            have HA6 := Lib.hid (HAC.out.keep hb)
            clear hb A5 r0 r1 r2 r3 r4 HAC har b0 b1 e0 e1 e2
            go_upto_region 25 with fail
            have KP : ∀ u v, Below u.heap.size u v → (u.cell? ⟨w1.heap.size, 0, none⟩ = some (.int .i64 n) ∧ u.cell? ⟨w1.heap.size, 1, none⟩ = some (.slice (some ⟨g, 0, none⟩) xs.length cv) ∧ u.cell? ⟨wr.heap.size, 0, none⟩ = some (.int .i64 q.s) ∧ u.cell? ⟨wr.heap.size, 1, none⟩ = some (.int .i64 q.a) ∧ u.cell? ⟨wr.heap.size, 2, none⟩ = some (.int .i64 q.b) ∧ ArK w w.heap.size w1.heap.size bh w11.heap.size w11.heap.size w12.heap.size w1.heap.size n (.slice (some ⟨g, 0, none⟩) xs.length cv) (.slice at_ t.length ct) (.slice al l.length cl) xs t l u) → (v.cell? ⟨w1.heap.size, 0, none⟩ = some (.int .i64 n) ∧ v.cell? ⟨w1.heap.size, 1, none⟩ = some (.slice (some ⟨g, 0, none⟩) xs.length cv) ∧ v.cell? ⟨wr.heap.size, 0, none⟩ = some (.int .i64 q.s) ∧ v.cell? ⟨wr.heap.size, 1, none⟩ = some (.int .i64 q.a) ∧ v.cell? ⟨wr.heap.size, 2, none⟩ = some (.int .i64 q.b) ∧ ArK w w.heap.size w1.heap.size bh w11.heap.size w11.heap.size w12.heap.size w1.heap.size n (.slice (some ⟨g, 0, none⟩) xs.length cv) (.slice at_ t.length ct) (.slice al l.length cl) xs t l v) := fun u v hb h => ⟨kept hb h.1, kept hb h.2.1, kept hb h.2.2.1, kept hb h.2.2.2.1, kept hb h.2.2.2.2.1, h.2.2.2.2.2.keep hb⟩
            have D0 : Below w14.heap.size w14 w14.drew := ⟨rfl, rfl, rfl, Nat.le_refl _, fun _ _ => rfl⟩
            have S0 : w14.drew.cell? ⟨w1.heap.size, 0, none⟩ = some (.int .i64 n) ∧ w14.drew.cell? ⟨w1.heap.size, 1, none⟩ = some (.slice (some ⟨g, 0, none⟩) xs.length cv) ∧ w14.drew.cell? ⟨wr.heap.size, 0, none⟩ = some (.int .i64 q.s) ∧ w14.drew.cell? ⟨wr.heap.size, 1, none⟩ = some (.int .i64 q.a) ∧ w14.drew.cell? ⟨wr.heap.size, 2, none⟩ = some (.int .i64 q.b) ∧ ArK w w.heap.size w1.heap.size bh w11.heap.size w11.heap.size w12.heap.size w1.heap.size n (.slice (some ⟨g, 0, none⟩) xs.length cv) (.slice at_ t.length ct) (.slice al l.length cl) xs t l w14.drew := KP w14 w14.drew D0 ⟨HA6.out.2.2.2.1.1, HA6.out.2.2.2.1.2, A6.1, A6.2.1, A6.2.2, HA6.out⟩
            have CB : Hid (∀ u : World, (u.cell? ⟨w1.heap.size, 0, none⟩ = some (.int .i64 n) ∧ u.cell? ⟨w1.heap.size, 1, none⟩ = some (.slice (some ⟨g, 0, none⟩) xs.length cv) ∧ u.cell? ⟨wr.heap.size, 0, none⟩ = some (.int .i64 q.s) ∧ u.cell? ⟨wr.heap.size, 1, none⟩ = some (.int .i64 q.a) ∧ u.cell? ⟨wr.heap.size, 2, none⟩ = some (.int .i64 q.b) ∧ ArK w w.heap.size w1.heap.size bh w11.heap.size w11.heap.size w12.heap.size w1.heap.size n (.slice (some ⟨g, 0, none⟩) xs.length cv) (.slice at_ t.length ct) (.slice al l.length cl) xs t l u) → Calls Try.prog 18 #[.agg #[.int .i64 n, .slice (some ⟨g, 0, none⟩) xs.length cv]] u fun e w' => e = .returned (.bool (balB n xs)) ∧ Below u.heap.size u w') := Lib.hid (fun u h => ImplBal_any _ _ n _ xs u h.2.2.2.2.2.1.1 h.2.2.2.2.2.1.2)
            have HW : Hid (∀ u : World, (u.cell? ⟨w1.heap.size, 0, none⟩ = some (.int .i64 n) ∧ u.cell? ⟨w1.heap.size, 1, none⟩ = some (.slice (some ⟨g, 0, none⟩) xs.length cv) ∧ u.cell? ⟨wr.heap.size, 0, none⟩ = some (.int .i64 q.s) ∧ u.cell? ⟨wr.heap.size, 1, none⟩ = some (.int .i64 q.a) ∧ u.cell? ⟨wr.heap.size, 2, none⟩ = some (.int .i64 q.b) ∧ ArK w w.heap.size w1.heap.size bh w11.heap.size w11.heap.size w12.heap.size w1.heap.size n (.slice (some ⟨g, 0, none⟩) xs.length cv) (.slice at_ t.length ct) (.slice al l.length cl) xs t l u) → Below w.heap.size w u) := Lib.hid (fun u h => h.2.2.2.2.2.2.2.2.2)
            have hw1 : IntKind.i64.wrap (4 * n) = 4 * n := by rw [IntKind.wrap_i64]; omega
            have hw2 : IntKind.i64.wrap (4 * n * n) = 4 * n * n := by have : n = 1 ∨ n = 2 ∨ n = 3 ∨ n = 4 := (by omega); rcases this with rfl | rfl | rfl | rfl <;> decide
            have hw3 : IntKind.i64.wrap (2 * (xs.length : Int)) = 2 * (xs.length : Int) := by rw [IntKind.wrap_i64]; omega
            have ht0 : decide (0 ≤ T) = true := decide_eq_true tb0
            have ht1 : decide (T ≤ 2 * (xs.length : Int)) = true := decide_eq_true tb1
            generalize balB n xs = bb at CB ⊢
            clear D0 A6 HA6
            by_cases hab : q.a = q.b
            · have hqb : (q.a == q.b) = true := by simpa using hab
              have CC1 : Hid (∀ u : World, Calls Try.prog 19 #[.agg #[.int .i64 q.s, .int .i64 q.a, .int .i64 q.b], .int .i64 q.a] u fun e w' => e = .returned (.int .i64 4) ∧ Below u.heap.size u w') := Lib.hid (fun u => by have := ImplArea_ok q q.a u HQ.out; rw [(ar2_self q hab).1] at this; exact this)
              have CC2 : Hid (∀ u : World, Calls Try.prog 19 #[.agg #[.int .i64 q.s, .int .i64 q.a, .int .i64 q.b], .int .i64 q.b] u fun e w' => e = .returned (.int .i64 4) ∧ Below u.heap.size u w') := Lib.hid (fun u => by have := ImplArea_ok q q.b u HQ.out; rw [(ar2_self q hab).2] at this; exact this)
              clear hab
              have hbb : (bb == bb) = true := by simp
              go_region_held3 (fun w' => w'.cell? ⟨w1.heap.size, 0, none⟩ = some (.int .i64 n) ∧ w'.cell? ⟨w1.heap.size, 1, none⟩ = some (.slice (some ⟨g, 0, none⟩) xs.length cv) ∧ w'.cell? ⟨wr.heap.size, 0, none⟩ = some (.int .i64 q.s) ∧ w'.cell? ⟨wr.heap.size, 1, none⟩ = some (.int .i64 q.a) ∧ w'.cell? ⟨wr.heap.size, 2, none⟩ = some (.int .i64 q.b) ∧ ArK w w.heap.size w1.heap.size bh w11.heap.size w11.heap.size w12.heap.size w1.heap.size n (.slice (some ⟨g, 0, none⟩) xs.length cv) (.slice at_ t.length ct) (.slice al l.length cl) xs t l w') (first | assumption | (refine KP _ _ (by assumption) ?_; assumption) | go_keep)
                ((first
                  | (go_at_call 18; refine (CB.out _ (by assumption)).mono ?_; rintro e w' ⟨rfl, hb⟩)
                  | (go_at_call 19; with_reducible refine (CC1.out _).mono ?_; rintro e w' ⟨rfl, hb⟩)
                  | (go_at_call 19; with_reducible refine (CC2.out _).mono ?_; rintro e w' ⟨rfl, hb⟩)
                  | (go_at_call 20; refine (Btoi_any _ _).mono ?_; rintro e w' ⟨rfl, rfl⟩)
                  | (go_at_call 21; refine (ImplStar_any _).mono ?_; rintro e ws ⟨vs, rfl, R5, hb⟩; obtain ⟨a5, c5, rfl⟩ := R5.form)
                  | (go_at_call 17; refine (ImplTris_any _ _ 3 _ starC _ R5 (Nat.le_refl _)).mono ?_; rw [tri_star]; rintro e w' ⟨rfl, hb⟩)))
              go_wp2_with fail
              go_ret
              exact ⟨rfl, HW.out _ (by assumption)⟩
            · have hqb : (q.a == q.b) = false := by simpa using hab
              have CC1 : Hid (∀ u : World, Calls Try.prog 19 #[.agg #[.int .i64 q.s, .int .i64 q.a, .int .i64 q.b], .int .i64 q.a] u fun e w' => e = .returned (.int .i64 2) ∧ Below u.heap.size u w') := Lib.hid (fun u => by have := ImplArea_ok q q.a u HQ.out; rw [(ar2_two q hab).1] at this; exact this)
              have CC2 : Hid (∀ u : World, Calls Try.prog 19 #[.agg #[.int .i64 q.s, .int .i64 q.a, .int .i64 q.b], .int .i64 q.b] u fun e w' => e = .returned (.int .i64 2) ∧ Below u.heap.size u w') := Lib.hid (fun u => by have := ImplArea_ok q q.b u HQ.out; rw [(ar2_two q hab).2] at this; exact this)
              clear hab
              have hbb : (bb == bb) = true := by simp
              go_region_held3 (fun w' => w'.cell? ⟨w1.heap.size, 0, none⟩ = some (.int .i64 n) ∧ w'.cell? ⟨w1.heap.size, 1, none⟩ = some (.slice (some ⟨g, 0, none⟩) xs.length cv) ∧ w'.cell? ⟨wr.heap.size, 0, none⟩ = some (.int .i64 q.s) ∧ w'.cell? ⟨wr.heap.size, 1, none⟩ = some (.int .i64 q.a) ∧ w'.cell? ⟨wr.heap.size, 2, none⟩ = some (.int .i64 q.b) ∧ ArK w w.heap.size w1.heap.size bh w11.heap.size w11.heap.size w12.heap.size w1.heap.size n (.slice (some ⟨g, 0, none⟩) xs.length cv) (.slice at_ t.length ct) (.slice al l.length cl) xs t l w') (first | assumption | (refine KP _ _ (by assumption) ?_; assumption) | go_keep)
                ((first
                  | (go_at_call 18; refine (CB.out _ (by assumption)).mono ?_; rintro e w' ⟨rfl, hb⟩)
                  | (go_at_call 19; with_reducible refine (CC1.out _).mono ?_; rintro e w' ⟨rfl, hb⟩)
                  | (go_at_call 19; with_reducible refine (CC2.out _).mono ?_; rintro e w' ⟨rfl, hb⟩)
                  | (go_at_call 20; refine (Btoi_any _ _).mono ?_; rintro e w' ⟨rfl, rfl⟩)
                  | (go_at_call 21; refine (ImplStar_any _).mono ?_; rintro e ws ⟨vs, rfl, R5, hb⟩; obtain ⟨a5, c5, rfl⟩ := R5.form)
                  | (go_at_call 17; refine (ImplTris_any _ _ 3 _ starC _ R5 (Nat.le_refl _)).mono ?_; rw [tri_star]; rintro e w' ⟨rfl, hb⟩)))
              go_wp2_with fail
              go_ret
              exact ⟨rfl, HW.out _ (by assumption)⟩
  · have hl' : 1048576 < len := by omega
    go_enter Try.func3, Try.ntmps3
    go_wp2_with fail
    refine (Big_yes a len cap w hl hl').mono ?_
    rintro e w' ⟨rfl, rfl⟩
    go_wp2_with fail
    go_ret
    exact ⟨rfl, Below.refl _ _⟩

end Go.Proofs.Ytelpibdbnjmliaa
