/- Areas: the program's MainColor. -/
import Derived.Test.YtelpibdbnjmliaaAreIm
import Derived.Test.YtelpibdbnjmliaaAreIg
namespace Go.Proofs.Ytelpibdbnjmliaa
open Go.ChangeShapes Go.WideShapes Go.ChangeAt Go.RowKit Go.Maps

set_option maxHeartbeats 1000000 in
theorem ImplMain_any (lo hi : Nat) (n : Int) (v : Value) (xs : List C3) (w : World) (r : CellIn lo hi w v xs) (hhi : hi ≤ w.heap.size) :
    Calls Try.prog 16 #[.agg #[.int .i64 n, v]] w fun e w' => e = .returned (.int .i64 (mainOf n xs)) ∧ Below w.heap.size w w' := by
  obtain ⟨a, cap, rfl⟩ := r.form
  have hl := r.1
  have HR := Lib.hid (fun W (hb : Below w.heap.size w W) => r.below (hb.mono hhi))
  clear r
  rw [main_is n xs]
  have HCF := Lib.hid (fun k (h : k < (colorsOf n xs).length) => (⟨(colors_fact n xs k h).2.1, (colors_fact n xs k h).2.2.1⟩ : 0 ≤ (colorsOf n xs).getD k 0 ∧ (colorsOf n xs).getD k 0 ≤ 5))
  have hc6 := colors_le n xs
  have HCM := Lib.hid (AreasMap_any lo hi n (.slice a xs.length cap) xs)
  have HCC := Lib.hid (ImplColors_any lo hi n (.slice a xs.length cap) xs)
  generalize colorsOf n xs = t at *
  generalize areaOf n xs = F at *
  go_enter Try.func16, Try.ntmps16
  go_wp2_with fail
  refine (HCM.out _ (HR.out _ (bel0 _ _)) (by simp; omega)).mono ?_
  rintro e w1 ⟨b, q, rfl, hm, hbw, hb1⟩
  have p0 := kept (p := ⟨w.heap.size, 0, none⟩) (x := .int .i64 n) hb1 (by go_simp)
  have p1 := kept (p := ⟨w.heap.size, 1, none⟩) (x := .slice a xs.length cap) hb1 (by go_simp)
  have B1 := Lib.hid (bel_c (bel0 w _) (Nat.le_refl _) hb1)
  have HMI := Lib.hid hm.mapI
  have hbl : b < w1.heap.size := by obtain ⟨D, hD⟩ := HMI.out; exact hD.lt
  clear hb1 hm hbw
  go_wp2_with fail
  refine (HCC.out _ (HR.out _ B1.out) (Nat.le_trans hhi B1.out.size)).mono ?_
  rintro e w2 ⟨vt, rfl, RT, hb2⟩
  obtain ⟨ta, tc, rfl⟩ := RT.form
  have htl := RT.1
  have HT := Lib.hid RT
  have B2 := Lib.hid (bel_c B1.out (Nat.le_refl _) hb2)
  have HM2 := Lib.hid (HMI.out.below hb2 hbl)
  have HBR := Lib.hid (bstC_range F t HCF.out)
  clear RT hb2 p0 p1 HMI HCM HCC
  go_wp2_with fail
  go_loop [4, 12] (fun q i => ∃ k : Nat, k ≤ t.length ∧ i = .int .i64 k ∧ q = .int .i64 (bstC F t k)) (fun _ i => t.length - (intOf i).toNat)
  case atStart => exact ⟨0, Nat.zero_le _, rfl, rfl⟩
  case round =>
    obtain ⟨k, hk, rfl, rfl⟩ := hrel
    by_cases hlt : k < t.length
    · obtain ⟨r0, r1⟩ := HBR.out k hk
      obtain ⟨c0, c1⟩ := HCF.out k hlt
      have HS := Lib.hid (show bstC F t (k + 1) = if bstC F t k < 0 ∨ F (bstC F t k) < F (t.getD k 0) then t.getD k 0 else bstC F t k from rfl)
      obtain ⟨g, rfl, _, _, e0, _⟩ := HT.out.at (Below.refl _ _) hlt
      generalize t.getD k 0 = A at c0 c1 HS e0
      generalize bstC F t k = B at r0 r1 HS ⊢
      by_cases hn : B < 0
      · have HN : Hid (bstC F t (k + 1) = A) := Lib.hid (by rw [HS.out, if_pos (.inl hn)])
        clear HS
        go_wp2_with fail
        go_round
        case rel => exact ⟨k + 1, by omega, by go_num, by rw [HN.out]⟩
        case measure => simp [intOf] <;> omega
      · obtain ⟨D, hD⟩ := HM2.out
        have hr1 := run_look hD (k := A) (wf_small (by omega) (by omega))
        have hr2 := run_look hD (k := B) (wf_small (by omega) (by omega))
        clear hD
        by_cases hx : F B < F A
        · have HN : Hid (bstC F t (k + 1) = A) := Lib.hid (by rw [HS.out, if_pos (.inr hx)])
          clear HS
          generalize F A = x at hr1 hx
          generalize F B = y at hr2 hx
          go_wp2_with fail
          go_round
          case rel => exact ⟨k + 1, by omega, by go_num, by rw [HN.out]⟩
          case measure => simp [intOf] <;> omega
        · have HN : Hid (bstC F t (k + 1) = B) := Lib.hid (by rw [HS.out, if_neg (fun h => by rcases h with h | h; exact hn h; exact hx h)])
          clear HS
          generalize F A = x at hr1 hx
          generalize F B = y at hr2 hx
          go_wp2_with fail
          go_round
          case rel => exact ⟨k + 1, by omega, by go_num, by rw [HN.out]⟩
          case measure => simp [intOf] <;> omega
    · obtain rfl : k = t.length := by omega
      go_wp2_with fail
      go_ret
      exact ⟨rfl, B2.out⟩

end Go.Proofs.Ytelpibdbnjmliaa
