/- Areas: the program's IsBalanced. -/
import Derived.Test.YtelpibdbnjmliaaAreIm
import Derived.Test.YtelpibdbnjmliaaAreIg
namespace Go.Proofs.Ytelpibdbnjmliaa
open Go.ChangeShapes Go.WideShapes Go.ChangeAt Go.RowKit Go.Maps

set_option maxHeartbeats 1000000 in
theorem ImplBal_any (lo hi : Nat) (n : Int) (v : Value) (xs : List C3) (w : World) (r : CellIn lo hi w v xs) (hhi : hi ≤ w.heap.size) :
    Calls Try.prog 18 #[.agg #[.int .i64 n, v]] w fun e w' => e = .returned (.bool (balB n xs)) ∧ Below w.heap.size w w' := by
  obtain ⟨a, cap, rfl⟩ := r.form
  have hl := r.1
  have HR := Lib.hid (fun W (hb : Below w.heap.size w W) => r.below (hb.mono hhi))
  clear r
  by_cases hb : BlkOk n xs
  · have HB := Lib.hid hb
    have hx := (blk_len hb).2
    have hc6 := cols_le xs 6
    have HAR := Lib.hid (fun j => area_yes j hb)
    have HAB : Hid (∀ j, 0 ≤ areaOf n xs j ∧ areaOf n xs j ≤ 64) := Lib.hid (fun j => by rw [HAR.out]; have := arL_bound xs j xs.length (Nat.le_refl _); omega)
    have HY : Hid ((∀ x ∈ cols xs 6, areaOf n xs x * ((cols xs 6).length : Int) = 4 * (xs.length : Int)) → true = balB n xs) := Lib.hid (fun h => bal_yes ((bal_iff hb).2 (fun x hx => by rw [← HAR.out]; exact h x hx)))
    have HNO : Hid (∀ x ∈ cols xs 6, ¬ areaOf n xs x * ((cols xs 6).length : Int) = 4 * (xs.length : Int) → false = balB n xs) := Lib.hid (fun x hx h => bal_no (fun k => h (by rw [HAR.out]; exact (bal_iff hb).1 k x hx)))
    have HCM := Lib.hid (AreasMap_any lo hi n (.slice a xs.length cap) xs)
    rw [colors_yes hb] at HCM
    have HWF : Hid (∀ x ∈ cols xs 6, (Lit.int .i64 x).wf = true) := Lib.hid (fun x hx => by
      obtain ⟨k, hk, rfl⟩ := List.getElem_of_mem hx
      obtain ⟨j, hj, hj6⟩ := cols_at hk
      have : (cols xs 6)[k] = (j : Int) := by rw [← hj]; simp [List.getD, hk]
      rw [this]
      exact wf_small (by omega) (by omega))
    clear hb
    generalize cols xs 6 = t at *
    generalize areaOf n xs = F at *
    clear HAR
    go_enter Try.func18, Try.ntmps18
    go_wp2_with fail
    refine (ImplBlockOk_yes lo hi n _ xs _ (HR.out _ (bel0 _ _)) (by simp; omega) HB.out).mono ?_
    rintro e w1 ⟨rfl, hb1⟩
    have p0 := kept (p := ⟨w.heap.size, 0, none⟩) (x := .int .i64 n) hb1 (by go_simp)
    have p1 := kept (p := ⟨w.heap.size, 1, none⟩) (x := .slice a xs.length cap) hb1 (by go_simp)
    have B1 := Lib.hid (bel_c (bel0 w _) (Nat.le_refl _) hb1)
    clear hb1
    go_wp2_with fail
    refine (HCM.out _ (HR.out _ B1.out) (Nat.le_trans hhi B1.out.size)).mono ?_
    rintro e w2 ⟨b, q, rfl, hm, hbw, hb2⟩
    have P2 := Lib.hid (kept hb2 p1)
    have B2 := Lib.hid (bel_c B1.out (Nat.le_refl _) hb2)
    obtain ⟨D, hD⟩ := hm
    have HD := Lib.hid hD
    have hbl := hD.1.lt
    have hown := hD.1.1
    have hsw := B2.out.size
    clear hb2 hbw p0 p1 hD HCM
    go_wp2_with (first
      | (at_range; refine wpList_range_own _ rfl _ 55 rfl 3 3 mlaw Try.underlying55 _ b q _ rfl hown ?_; intro w0 hrg0 hg0 hs0)
      | fail)
    go_frame
    have HG0 := Lib.hid (((Below.refl w2.heap.size w2).grown hg0 (Nat.le_refl _) (fun j hj => by cases hj)))
    have HRG := Lib.hid hrg0
    clear hown hg0 hrg0
    go_loopw [5] (fun _ wr => ∃ (left : Lit → Bool) (cnt : Nat), Hid (wr.ranges Try.prog 3 (plainElem Try.prog 3) b w2.heap.size q D left cnt) ∧ Hid (∀ z, left z = true → Maps.has D z = true) ∧ Hid (∀ x : Int, (Lit.int .i64 x).wf = true → x ∈ t → left (.int .i64 x) = false → F x * (t.length : Int) = 4 * (xs.length : Int)) ∧ Hid (Below w2.heap.size w2 wr))
      (fun _ wr => wr.rangeLeft b w2.heap.size)
    case atStart =>
      exact ⟨_, _, HRG, Lib.hid (fun z hz => hz), Lib.hid (fun x hwx hxt hf => by rw [HD.out.2.1 x hwx] at hf; simp [hxt] at hf), HG0⟩
    case round =>
      obtain ⟨left, cnt, hrg, hleft, hdone, hbel⟩ := hrel
      have hrg' := hrg.out
      have p1 : wr.cell? ⟨w.heap.size, 1, none⟩ = some (.slice a xs.length cap) := kept hbel.out P2.out
      clear hrg
      go_wp2_with (first
        | (at_next; refine wpList_next_ranges_ii _ rfl _ rfl 3 3 .i64 .i64 mlaw Try.underlying3 Try.underlying3 b w2.heap.size q _ _ _ rfl hrg' ?_ ?_)
        | fail)
      · intro hc0 hl0
        have HF := Lib.hid (HY.out (fun x hx => hdone.out x (HWF.out x hx) hx (hl0 _)))
        clear hl0 hc0
        go_wp2_with fail
        go_ret
        exact ⟨ret_bool HF.out, B2.out.trans (hbel.out.mono hsw)⟩
      · intro x c w3 cnt1 hwx hwc hlx hat hrg1 hlt hg1 hs1 hen
        have hcx : c = F x := HD.out.1.at hwx (hat _)
        have hxt : x ∈ t := by have := hleft.out _ hlx; rw [HD.out.2.1 x hwx] at this; simpa using this
        obtain ⟨f0, f1⟩ := HAB.out x
        rw [← hcx] at f0 f1
        have hlen := HD.out.2.2
        have m0 : 0 ≤ c * (t.length : Int) := Int.mul_nonneg f0 (by omega)
        have m1 : c * (t.length : Int) ≤ 64 * 6 := Int.mul_le_mul f1 (by omega) (by omega) (by omega)
        have hmul : IntKind.i64.wrap (c * (t.length : Int)) = c * (t.length : Int) := IntWalk.i64_in _ (by omega)
        have p3 : w3.cell? ⟨w.heap.size, 1, none⟩ = some (.slice a xs.length cap) := (hg1.cell_far ⟨w.heap.size, 1, none⟩ (lt_of_cell p1) (by have := B1.out.size; simp; have := lt_of_cell P2.out; simp at this; omega)).trans p1
        have HB3 := Lib.hid (hbel.out.grown hg1 hbel.out.size (fun j hj => by cases hj; exact Nat.le_refl _))
        have hown3 := hrg1.owns
        have HM3 := Lib.hid hrg1.left_eq
        have HM2 := Lib.hid hrg'.left_eq
        have HNX : Hid (¬ c * (t.length : Int) = 4 * (xs.length : Int) → false = balB n xs) := Lib.hid (fun h => HNO.out x hxt (by rw [← hcx]; exact h))
        have HDN : Hid (c * (t.length : Int) = 4 * (xs.length : Int) → ∀ y : Int, (Lit.int .i64 y).wf = true → y ∈ t → (fun z : Lit => left z && !z.sameKey (Lit.int .i64 x)) (.int .i64 y) = false → F y * (t.length : Int) = 4 * (xs.length : Int)) := Lib.hid (fun h y hwy hyt hf => by
          by_cases e : y = x
          · subst e; rw [← hcx]; exact h
          · have h2 : (Lit.int .i64 y).sameKey (.int .i64 x) = false := sameKey_ne (by simp [e])
            simp only [h2, Bool.not_false, Bool.and_true] at hf
            exact hdone.out y hwy hyt hf)
        have HL3 : Hid (∀ z, (fun z : Lit => left z && !z.sameKey (Lit.int .i64 x)) z = true → Maps.has D z = true) := Lib.hid (fun z hz => hleft.out z (by simp only [Bool.and_eq_true] at hz; exact hz.1))
        have HR3 := Lib.hid hrg1
        clear hcx hat hg1 p1 hrg' hrg1 hdone hleft hlx hbel
        by_cases heq : c * (t.length : Int) = 4 * (xs.length : Int)
        · have hbn : (c * (t.length : Int) != 4 * (xs.length : Int)) = false := by simpa using heq
          have HE := Lib.hid heq
          clear heq
          go_wp2_with (first
            | (at_len; refine wpList_len_own _ rfl _ 55 rfl 3 3 Try.underlying55 _ b q D rfl hown3 ?_; rw [hlen])
            | fail)
          go_roundw
          case rel => exact ⟨_, cnt1, HR3, HL3, Lib.hid (HDN.out HE.out), HB3⟩
          case measure => rw [HM3.out, HM2.out]; exact hlt
        · have hbn : (c * (t.length : Int) != 4 * (xs.length : Int)) = true := by simpa using heq
          have HF := Lib.hid (HNX.out heq)
          clear heq
          go_wp2_with (first
            | (at_len; refine wpList_len_own _ rfl _ 55 rfl 3 3 Try.underlying55 _ b q D rfl hown3 ?_; rw [hlen])
            | fail)
          go_ret
          exact ⟨ret_bool HF.out, B2.out.trans (HB3.out.mono hsw)⟩
  · have HN := Lib.hid (bal_no (n := n) (xs := xs) (fun h => hb h.1))
    have HB := Lib.hid hb
    clear hb
    go_enter Try.func18, Try.ntmps18
    go_wp2_with fail
    refine (ImplBlockOk_no lo hi n _ xs _ (HR.out _ (bel0 _ _)) (by simp; omega) HB.out).mono ?_
    rintro e w1 ⟨rfl, hb1⟩
    go_wp2_with fail
    go_ret
    exact ⟨ret_bool HN.out, bel_c (bel0 w _) (Nat.le_refl _) hb1⟩

end Go.Proofs.Ytelpibdbnjmliaa
