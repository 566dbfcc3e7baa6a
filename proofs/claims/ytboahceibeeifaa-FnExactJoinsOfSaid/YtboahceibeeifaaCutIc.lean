/- Cuts: the program's cuts. -/
import Derived.Test.YtboahceibeeifaaCutIa
import Derived.Test.YtboahceibeeifaaLayB
import Derived.Test.YtboahceibeeifaaCutR

set_option linter.unusedSimpArgs false
set_option linter.unusedVariables false
namespace Go.Proofs.Ytboahceibeeifaa
open Go.ChangeShapes Go.WideShapes Go.ChangeAt Go.RowKit

theorem c24_0 {t : Nat} (h : t < 12) : c24 (12 * 0 + t) = ⟨true, (t : Int)⟩ := C2.ext' (by simp [c24, h]) (by simp [c24]; omega)
theorem c24_1 {t : Nat} (h : t < 12) : c24 (12 * 1 + t) = ⟨false, (t : Int)⟩ := C2.ext' (by simp [c24]) (by simp [c24]; omega)

set_option maxHeartbeats 6400000 in
set_option maxRecDepth 20000 in
theorem Cuts_any (lo hi : Nat) (m n : Int) (v : Value) (xs : List P5) (w : World) (r : PatIn lo hi w v xs) (hhi : hi ≤ w.heap.size) (lay : LayOk m n xs) :
    Calls Try.prog 60 #[.agg #[.int .i64 m, .int .i64 n, v]] w (FreshCut (cutsL m n xs) w) := by
  obtain ⟨i0, hi0, hz0, hz1, hz2⟩ := info_parts3 info_Cut
  obtain ⟨b, cap, rfl⟩ := r.form
  obtain ⟨f, hf⟩ : ∃ f, f = hasC m n xs := ⟨_, rfl⟩
  have HC : Hid (∀ (up : Bool) (t : Nat) (u : World), Below (w.heap.size + 1) (w.alloc (.cells #[.int .i64 m, .int .i64 n, .slice b xs.length cap] 26)) u → Calls Try.prog 71 #[.agg #[.int .i64 m, .int .i64 n, .slice b xs.length cap], .agg #[.bool up, .int .i64 t]] u fun e w' => e = .returned (.bool (f ⟨up, t⟩)) ∧ Below u.heap.size u w') := Lib.hid (fun up t u hb => by
    have hs := hb.size
    simp at hs
    rw [hf]; exact HasCut_any lo hi m n _ xs up t u (r.below (((bel0 w (.cells #[.int .i64 m, .int .i64 n, .slice b xs.length cap] 26)).trans (hb.mono (by omega))).mono hhi)) (by omega) lay)
  have HF := Lib.hid hf
  have HE : Hid (cutsL m n xs = cutK f 24) := Lib.hid (by rw [hf]; rfl)
  rw [HE.out]
  clear hf r lay
  have x0 : ∀ w : World, (Instr.index 114 (.agg #[.bool true, .bool false]) (.int .i64 0)).run Try.prog w = .ok (.bool true) w := fun _ => by kernel_rfl
  have x1 : ∀ w : World, (Instr.index 114 (.agg #[.bool true, .bool false]) (.int .i64 1)).run Try.prog w = .ok (.bool false) w := fun _ => by kernel_rfl
  go_enter Try.func60, Try.ntmps60
  go_wp2_with fail
  go_loopw [3, 9] (fun s i wr => ∃ (k : Nat) (v : Value), k ≤ 2 ∧ i = .int .i64 k ∧ v = s ∧ Hid (wr.ownsRow (w.heap.size + 1) 71 2 v (cutK f (12 * k)).length (placesCut (cutK f (12 * k)))) ∧ Below (w.heap.size + 1) (w.alloc (.cells #[.int .i64 m, .int .i64 n, .slice b xs.length cap] 26)) wr) (fun _ i _ => 2 - (intOf i).toNat)
  case atStart => exact ⟨0, _, by omega, rfl, rfl, Lib.hid (World.ownsRow_nil _ _ _ _), Below.refl _ _⟩
  case round =>
    obtain ⟨k, v, hk, rfl, rfl, hown, hbel⟩ := hrel
    by_cases hlt : k < 2
    · obtain rfl | rfl : k = 0 ∨ k = 1 := by omega
      · have hcK : cutK f (12 * 0 + 1) = cutK f (12 * 0) := cutK_no (by rw [HF.out]; exact (has_no_lo (by decide)).symm)
        have HO0 : Hid (wr.ownsRow (w.heap.size + 1) 71 2 v (cutK f (12 * 0 + 1)).length (placesCut (cutK f (12 * 0 + 1)))) := Lib.hid (by rw [hcK]; exact hown.out)
        clear hown
        simp only [show ((0 : Nat) : Int) = 0 from rfl]
        go_wp2_with fail
        go_loopw [3, 6] (fun s i wi => ∃ (t : Nat) (v : Value), 1 ≤ t ∧ t ≤ 12 ∧ i = .int .i64 t ∧ v = s ∧ Hid (wi.ownsRow (w.heap.size + 1) 71 2 v (cutK f (12 * 0 + t)).length (placesCut (cutK f (12 * 0 + t)))) ∧ Below (w.heap.size + 1) (w.alloc (.cells #[.int .i64 m, .int .i64 n, .slice b xs.length cap] 26)) wi) (fun _ i _ => 12 - (intOf i).toNat)
        case atStart => exact ⟨1, _, Nat.le_refl _, by omega, rfl, rfl, HO0, hbel⟩
        case round =>
          obtain ⟨t, v', ht1, ht, rfl, rfl, hown, hbel2⟩ := hrel
          have hsz2 := hbel2.size
          simp at hsz2
          have b0 : wr.cell? ⟨w.heap.size, 0, none⟩ = some (.int .i64 m) := (hbel2.cell (p := ⟨w.heap.size, 0, none⟩) (Nat.lt_succ_self _)).trans (by simp)
          have b1 : wr.cell? ⟨w.heap.size, 1, none⟩ = some (.int .i64 n) := (hbel2.cell (p := ⟨w.heap.size, 1, none⟩) (Nat.lt_succ_self _)).trans (by simp)
          have b2 : wr.cell? ⟨w.heap.size, 2, none⟩ = some (.slice b xs.length cap) := (hbel2.cell (p := ⟨w.heap.size, 2, none⟩) (Nat.lt_succ_self _)).trans (by simp)
          by_cases hlt : t < 12
          · have hlt' : (t : Int) < 12 := by omega
            have HL : Hid ((cutK f (12 * 0 + t)).length ≤ 24) := Lib.hid (by have := cutK_len f (12 * 0 + t); omega)
            have e24 : c24 (12 * 0 + t) = ⟨true, (t : Int)⟩ := c24_0 hlt
            have b0' := kept (bel0 wr (.cells #[.bool true, .int .i64 t] 71)) b0
            have b1' := kept (bel0 wr (.cells #[.bool true, .int .i64 t] 71)) b1
            have b2' := kept (bel0 wr (.cells #[.bool true, .int .i64 t] 71)) b2
            have HW : Hid (Below (w.heap.size + 1) (w.alloc (.cells #[.int .i64 m, .int .i64 n, .slice b xs.length cap] 26)) (wr.alloc (.cells #[.bool true, .int .i64 t] 71))) := Lib.hid (bel_n hbel2 (by simp) _)
            have HO1 := Lib.hid (owL hown.out (bel0 wr (.cells #[.bool true, .int .i64 t] 71)))
            clear hown hbel2
            by_cases hz : f ⟨true, (t : Int)⟩ = true
            · have HY := Lib.hid (cutK_yes (f := f) (k := 12 * 0 + t) (by rw [e24]; exact hz))
              rw [e24] at HY
              clear e24
              go_wp2_with fail
              refine (HC.out true t _ HW.out).mono ?_
              rw [hz]
              rintro e w1 ⟨rfl, hb1⟩
              have c0 := kept (p := ⟨wr.heap.size, 0, none⟩) (x := .bool true) hb1 (by go_simp)
              have c1 := kept (p := ⟨wr.heap.size, 1, none⟩) (x := .int .i64 t) hb1 (by go_simp)
              have HO2 := Lib.hid (owL HO1.out hb1)
              have HW2 := Lib.hid (bel_c HW.out (by simp) hb1)
              have hs1 := HW2.out.size
              simp at hs1
              clear hb1 HO1 HW
              have HO3 := Lib.hid (owL HO2.out (bel0 w1 (.cells #[.bool true, .int .i64 t] 71)))
              have HNW := Lib.hid (newsL w1 w1.heap.size #[.bool true, .int .i64 t] 71 rfl)
              have HBS : Hid (w.heap.size + 1 ≤ (w1.alloc (.cells #[.bool true, .int .i64 t] 71)).heap.size) := Lib.hid (by simp; omega)
              have HBE : Hid (Below (w.heap.size + 1) (w.alloc (.cells #[.int .i64 m, .int .i64 n, .slice b xs.length cap] 26)) (w1.alloc (.cells #[.bool true, .int .i64 t] 71))) := Lib.hid (bel_n HW2.out (by simp) _)
              have hL := HL.out
              generalize (cutK f (12 * 0 + t)).length = L at hL HO3 HL
              clear HO2 HW2
              go_wp2_with (at_builtin; refine wpList_append_lies _ rfl _ _ 66 rfl (w.heap.size + 1) 71 i0 _ 2 16 Try.underlying66 hi0 hz0 hz1 hz2 rfl (by decide) _ _ _ rfl HO3.out ⟨w1.heap.size, 0, none⟩ 1 1 [.bool true, .int .i64 t] rfl rfl HNW.out (by simp [Value.oneCell']) (by omega) (by unfold maxLen; omega) (by omega) HBS.out (w1.heap.size + 1) (by simp) ?_; intro gg cc w5 hown5 hgrow hat hlt5; have hbw := (Below.refl (w.heap.size + 1) _).grown hgrow HBS.out (ogL HO3.out))
              have HN : Hid (w5.ownsRow (w.heap.size + 1) 71 2 (.slice (some ⟨gg, 0, none⟩) (L + 1) cc) (cutK f (12 * 0 + (t + 1))).length (placesCut (cutK f (12 * 0 + (t + 1))))) := Lib.hid (by
                have e : cutK f (12 * 0 + (t + 1)) = cutK f (12 * 0 + t) ++ [⟨true, (t : Int)⟩] := HY.out
                rw [e, placesCut_append, List.length_append]
                have hLL := HO3.out.1
                rw [placesCut_length] at hLL
                rw [show (cutK f (12 * 0 + t)).length = L by omega]
                exact hown5)
              have HB6 := Lib.hid (HBE.out.trans hbw)
              clear hown5 hgrow hat hlt5 hbw HO3 HNW HBE HY
              go_wp2_with fail
              go_roundw
              case rel => exact ⟨t + 1, _, by omega, by omega, by go_num, rfl, HN, HB6.out⟩
              case measure => simp [intOf] <;> omega
            · have hz' : f ⟨true, (t : Int)⟩ = false := by simpa using hz
              have HY : Hid (cutK f (12 * 0 + (t + 1)) = cutK f (12 * 0 + t)) := Lib.hid (cutK_no (f := f) (k := 12 * 0 + t) (by rw [e24]; exact hz'))
              clear e24
              go_wp2_with fail
              refine (HC.out true t _ HW.out).mono ?_
              rw [hz']
              rintro e w1 ⟨rfl, hb1⟩
              have HO2 : Hid (w1.ownsRow (w.heap.size + 1) 71 2 v' (cutK f (12 * 0 + (t + 1))).length (placesCut (cutK f (12 * 0 + (t + 1))))) := Lib.hid (by rw [HY.out]; exact owL HO1.out hb1)
              have HW2 := Lib.hid (bel_c HW.out (by simp) hb1)
              clear hb1 HO1 HW HY
              go_wp2_with fail
              go_roundw
              case rel => exact ⟨t + 1, _, by omega, by omega, by go_num, rfl, HO2, HW2.out⟩
              case measure => simp [intOf] <;> omega
          · obtain rfl : t = 12 := by omega
            go_wp2_with fail
            go_roundw
            case rel => exact ⟨1, _, by omega, by go_num, rfl, hown, hbel2⟩
            case measure => simp [intOf] <;> omega
      · have hcK : cutK f (12 * 1 + 1) = cutK f (12 * 1) := cutK_no (by rw [HF.out]; exact (has_no_lo (by decide)).symm)
        have HO0 : Hid (wr.ownsRow (w.heap.size + 1) 71 2 v (cutK f (12 * 1 + 1)).length (placesCut (cutK f (12 * 1 + 1)))) := Lib.hid (by rw [hcK]; exact hown.out)
        clear hown
        simp only [show ((1 : Nat) : Int) = 1 from rfl]
        go_wp2_with fail
        go_loopw [3, 6] (fun s i wi => ∃ (t : Nat) (v : Value), 1 ≤ t ∧ t ≤ 12 ∧ i = .int .i64 t ∧ v = s ∧ Hid (wi.ownsRow (w.heap.size + 1) 71 2 v (cutK f (12 * 1 + t)).length (placesCut (cutK f (12 * 1 + t)))) ∧ Below (w.heap.size + 1) (w.alloc (.cells #[.int .i64 m, .int .i64 n, .slice b xs.length cap] 26)) wi) (fun _ i _ => 12 - (intOf i).toNat)
        case atStart => exact ⟨1, _, Nat.le_refl _, by omega, rfl, rfl, HO0, hbel⟩
        case round =>
          obtain ⟨t, v', ht1, ht, rfl, rfl, hown, hbel2⟩ := hrel
          have hsz2 := hbel2.size
          simp at hsz2
          have b0 : wr.cell? ⟨w.heap.size, 0, none⟩ = some (.int .i64 m) := (hbel2.cell (p := ⟨w.heap.size, 0, none⟩) (Nat.lt_succ_self _)).trans (by simp)
          have b1 : wr.cell? ⟨w.heap.size, 1, none⟩ = some (.int .i64 n) := (hbel2.cell (p := ⟨w.heap.size, 1, none⟩) (Nat.lt_succ_self _)).trans (by simp)
          have b2 : wr.cell? ⟨w.heap.size, 2, none⟩ = some (.slice b xs.length cap) := (hbel2.cell (p := ⟨w.heap.size, 2, none⟩) (Nat.lt_succ_self _)).trans (by simp)
          by_cases hlt : t < 12
          · have hlt' : (t : Int) < 12 := by omega
            have HL : Hid ((cutK f (12 * 1 + t)).length ≤ 24) := Lib.hid (by have := cutK_len f (12 * 1 + t); omega)
            have e24 : c24 (12 * 1 + t) = ⟨false, (t : Int)⟩ := c24_1 hlt
            have b0' := kept (bel0 wr (.cells #[.bool false, .int .i64 t] 71)) b0
            have b1' := kept (bel0 wr (.cells #[.bool false, .int .i64 t] 71)) b1
            have b2' := kept (bel0 wr (.cells #[.bool false, .int .i64 t] 71)) b2
            have HW : Hid (Below (w.heap.size + 1) (w.alloc (.cells #[.int .i64 m, .int .i64 n, .slice b xs.length cap] 26)) (wr.alloc (.cells #[.bool false, .int .i64 t] 71))) := Lib.hid (bel_n hbel2 (by simp) _)
            have HO1 := Lib.hid (owL hown.out (bel0 wr (.cells #[.bool false, .int .i64 t] 71)))
            clear hown hbel2
            by_cases hz : f ⟨false, (t : Int)⟩ = true
            · have HY := Lib.hid (cutK_yes (f := f) (k := 12 * 1 + t) (by rw [e24]; exact hz))
              rw [e24] at HY
              clear e24
              go_wp2_with fail
              refine (HC.out false t _ HW.out).mono ?_
              rw [hz]
              rintro e w1 ⟨rfl, hb1⟩
              have c0 := kept (p := ⟨wr.heap.size, 0, none⟩) (x := .bool false) hb1 (by go_simp)
              have c1 := kept (p := ⟨wr.heap.size, 1, none⟩) (x := .int .i64 t) hb1 (by go_simp)
              have HO2 := Lib.hid (owL HO1.out hb1)
              have HW2 := Lib.hid (bel_c HW.out (by simp) hb1)
              have hs1 := HW2.out.size
              simp at hs1
              clear hb1 HO1 HW
              have HO3 := Lib.hid (owL HO2.out (bel0 w1 (.cells #[.bool false, .int .i64 t] 71)))
              have HNW := Lib.hid (newsL w1 w1.heap.size #[.bool false, .int .i64 t] 71 rfl)
              have HBS : Hid (w.heap.size + 1 ≤ (w1.alloc (.cells #[.bool false, .int .i64 t] 71)).heap.size) := Lib.hid (by simp; omega)
              have HBE : Hid (Below (w.heap.size + 1) (w.alloc (.cells #[.int .i64 m, .int .i64 n, .slice b xs.length cap] 26)) (w1.alloc (.cells #[.bool false, .int .i64 t] 71))) := Lib.hid (bel_n HW2.out (by simp) _)
              have hL := HL.out
              generalize (cutK f (12 * 1 + t)).length = L at hL HO3 HL
              clear HO2 HW2
              go_wp2_with (at_builtin; refine wpList_append_lies _ rfl _ _ 66 rfl (w.heap.size + 1) 71 i0 _ 2 16 Try.underlying66 hi0 hz0 hz1 hz2 rfl (by decide) _ _ _ rfl HO3.out ⟨w1.heap.size, 0, none⟩ 1 1 [.bool false, .int .i64 t] rfl rfl HNW.out (by simp [Value.oneCell']) (by omega) (by unfold maxLen; omega) (by omega) HBS.out (w1.heap.size + 1) (by simp) ?_; intro gg cc w5 hown5 hgrow hat hlt5; have hbw := (Below.refl (w.heap.size + 1) _).grown hgrow HBS.out (ogL HO3.out))
              have HN : Hid (w5.ownsRow (w.heap.size + 1) 71 2 (.slice (some ⟨gg, 0, none⟩) (L + 1) cc) (cutK f (12 * 1 + (t + 1))).length (placesCut (cutK f (12 * 1 + (t + 1))))) := Lib.hid (by
                have e : cutK f (12 * 1 + (t + 1)) = cutK f (12 * 1 + t) ++ [⟨false, (t : Int)⟩] := HY.out
                rw [e, placesCut_append, List.length_append]
                have hLL := HO3.out.1
                rw [placesCut_length] at hLL
                rw [show (cutK f (12 * 1 + t)).length = L by omega]
                exact hown5)
              have HB6 := Lib.hid (HBE.out.trans hbw)
              clear hown5 hgrow hat hlt5 hbw HO3 HNW HBE HY
              go_wp2_with fail
              go_roundw
              case rel => exact ⟨t + 1, _, by omega, by omega, by go_num, rfl, HN, HB6.out⟩
              case measure => simp [intOf] <;> omega
            · have hz' : f ⟨false, (t : Int)⟩ = false := by simpa using hz
              have HY : Hid (cutK f (12 * 1 + (t + 1)) = cutK f (12 * 1 + t)) := Lib.hid (cutK_no (f := f) (k := 12 * 1 + t) (by rw [e24]; exact hz'))
              clear e24
              go_wp2_with fail
              refine (HC.out false t _ HW.out).mono ?_
              rw [hz']
              rintro e w1 ⟨rfl, hb1⟩
              have HO2 : Hid (w1.ownsRow (w.heap.size + 1) 71 2 v' (cutK f (12 * 1 + (t + 1))).length (placesCut (cutK f (12 * 1 + (t + 1))))) := Lib.hid (by rw [HY.out]; exact owL HO1.out hb1)
              have HW2 := Lib.hid (bel_c HW.out (by simp) hb1)
              clear hb1 HO1 HW HY
              go_wp2_with fail
              go_roundw
              case rel => exact ⟨t + 1, _, by omega, by omega, by go_num, rfl, HO2, HW2.out⟩
              case measure => simp [intOf] <;> omega
          · obtain rfl : t = 12 := by omega
            go_wp2_with fail
            go_roundw
            case rel => exact ⟨2, _, by omega, by go_num, rfl, hown, hbel2⟩
            case measure => simp [intOf] <;> omega
    · obtain rfl : k = 2 := by omega
      have hin : CutIn (w.heap.size + 1) wr.heap.size wr v (cutK f 24) := CutIn.of_owns hown.out (by have := cutK_len f 24; omega)
      have HI := Lib.hid (hin.wide (lo' := w.heap.size) (hi' := wr.heap.size) (by omega) (Nat.le_refl _))
      have HB0 : Hid (Below w.heap.size w wr) := Lib.hid ((bel0 w _).trans (hbel.mono (by omega)))
      clear hin hown hbel
      go_wp2_with fail
      go_ret
      exact ⟨_, rfl, HI.out, HB0.out⟩

end Go.Proofs.Ytboahceibeeifaa
