/- Cuts: the program's cuts. Layouts: the program's PatchAt. Cuts: the program's knot: a layout is split once. Joins: the program's joins. Joins: the program's joins of any part. -/
import Derived.Test.YtboahceibeeifaaCutIa
import Derived.Test.YtboahceibeeifaaLayB
import Derived.Test.YtboahceibeeifaaCutR
import Derived.Test.YtboahceibeeifaaLayP
import Derived.Test.YtboahceibeeifaaLayIk
import Derived.Test.YtboahceibeeifaaCutIs
import Derived.Deep.RegionHeld3
import Derived.Deep.DeepCutAuto
import Derived.Test.YtboahceibeeifaaJnIh
import Derived.Test.YtboahceibeeifaaM7
import Derived.Test.YtboahceibeeifaaWith

set_option linter.unusedSimpArgs false
set_option linter.unusedVariables false
namespace Go.Proofs.Ytboahceibeeifaa
open Go.ChangeShapes Go.WideShapes Go.ChangeAt Go.RowKit

theorem c24_0 {t : Nat} (h : t < 12) : c24 (12 * 0 + t) = ⟨true, (t : Int)⟩ := C2.ext' (by simp [c24, h]) (by simp [c24]; omega)
theorem c24_1 {t : Nat} (h : t < 12) : c24 (12 * 1 + t) = ⟨false, (t : Int)⟩ := C2.ext' (by simp [c24]) (by simp [c24]; omega)

set_option maxHeartbeats 6400000 in
set_option maxRecDepth 20000 in
theorem Cuts_any (lo hi : Nat) (m n : Int) (v : Value) (xs : List P5) (w : World) (r : PatIn lo hi w v xs) (hhi : hi ≤ w.heap.size) (lay : LayOk m n xs) :
    Calls Try.prog 60 #[.agg #[.int .i64 m, .int .i64 n, v]] w (FreshCut (cutsL m n xs) w) := by
  obtain ⟨i0, hi0, hz0, hz1, hz2⟩ := info_parts3 info_Cut
  obtain ⟨b, cap, rfl⟩ := r.form
  obtain ⟨f, hf⟩ : ∃ f, f = hasC m n xs := ⟨_, rfl⟩
  have HC : Hid (∀ (up : Bool) (t : Nat) (u : World), Below (w.heap.size + 1) (w.alloc (.cells #[.int .i64 m, .int .i64 n, .slice b xs.length cap] 26)) u → Calls Try.prog 71 #[.agg #[.int .i64 m, .int .i64 n, .slice b xs.length cap], .agg #[.bool up, .int .i64 t]] u fun e w' => e = .returned (.bool (f ⟨up, t⟩)) ∧ Below u.heap.size u w') := Lib.hid (fun up t u hb => by
    have hs := hb.size
    simp at hs
    rw [hf]; exact HasCut_any lo hi m n _ xs up t u (r.below (((bel0 w (.cells #[.int .i64 m, .int .i64 n, .slice b xs.length cap] 26)).trans (hb.mono (by omega))).mono hhi)) (by omega) lay)
  have HF := Lib.hid hf
  have HE : Hid (cutsL m n xs = cutK f 24) := Lib.hid (by rw [hf]; rfl)
  rw [HE.out]
  clear hf r lay
  have x0 : ∀ w : World, (Instr.index 114 (.agg #[.bool true, .bool false]) (.int .i64 0)).run Try.prog w = .ok (.bool true) w := fun _ => by kernel_rfl
  have x1 : ∀ w : World, (Instr.index 114 (.agg #[.bool true, .bool false]) (.int .i64 1)).run Try.prog w = .ok (.bool false) w := fun _ => by kernel_rfl
  go_enter Try.func60, Try.ntmps60
  go_wp2_with fail
  go_loopw [3, 9] (fun s i wr => ∃ (k : Nat) (v : Value), k ≤ 2 ∧ i = .int .i64 k ∧ v = s ∧ Hid (wr.ownsRow (w.heap.size + 1) 71 2 v (cutK f (12 * k)).length (placesCut (cutK f (12 * k)))) ∧ Below (w.heap.size + 1) (w.alloc (.cells #[.int .i64 m, .int .i64 n, .slice b xs.length cap] 26)) wr) (fun _ i _ => 2 - (intOf i).toNat)
  case atStart => exact ⟨0, _, by omega, rfl, rfl, Lib.hid (World.ownsRow_nil _ _ _ _), Below.refl _ _⟩
  case round =>
    obtain ⟨k, v, hk, rfl, rfl, hown, hbel⟩ := hrel
    by_cases hlt : k < 2
    · obtain rfl | rfl : k = 0 ∨ k = 1 := by omega
      · have hcK : cutK f (12 * 0 + 1) = cutK f (12 * 0) := cutK_no (by rw [HF.out]; exact (has_no_lo (by decide)).symm)
        have HO0 : Hid (wr.ownsRow (w.heap.size + 1) 71 2 v (cutK f (12 * 0 + 1)).length (placesCut (cutK f (12 * 0 + 1)))) := Lib.hid (by rw [hcK]; exact hown.out)
        clear hown
        simp only [show ((0 : Nat) : Int) = 0 from rfl]
        go_wp2_with fail
        go_loopw [3, 6] (fun s i wi => ∃ (t : Nat) (v : Value), 1 ≤ t ∧ t ≤ 12 ∧ i = .int .i64 t ∧ v = s ∧ Hid (wi.ownsRow (w.heap.size + 1) 71 2 v (cutK f (12 * 0 + t)).length (placesCut (cutK f (12 * 0 + t)))) ∧ Below (w.heap.size + 1) (w.alloc (.cells #[.int .i64 m, .int .i64 n, .slice b xs.length cap] 26)) wi) (fun _ i _ => 12 - (intOf i).toNat)
        case atStart => exact ⟨1, _, Nat.le_refl _, by omega, rfl, rfl, HO0, hbel⟩
        case round =>
          obtain ⟨t, v', ht1, ht, rfl, rfl, hown, hbel2⟩ := hrel
          have hsz2 := hbel2.size
          simp at hsz2
          have b0 : wr.cell? ⟨w.heap.size, 0, none⟩ = some (.int .i64 m) := (hbel2.cell (p := ⟨w.heap.size, 0, none⟩) (Nat.lt_succ_self _)).trans (by simp)
          have b1 : wr.cell? ⟨w.heap.size, 1, none⟩ = some (.int .i64 n) := (hbel2.cell (p := ⟨w.heap.size, 1, none⟩) (Nat.lt_succ_self _)).trans (by simp)
          have b2 : wr.cell? ⟨w.heap.size, 2, none⟩ = some (.slice b xs.length cap) := (hbel2.cell (p := ⟨w.heap.size, 2, none⟩) (Nat.lt_succ_self _)).trans (by simp)
          by_cases hlt : t < 12
          · have hlt' : (t : Int) < 12 := by omega
            have HL : Hid ((cutK f (12 * 0 + t)).length ≤ 24) := Lib.hid (by have := cutK_len f (12 * 0 + t); omega)
            have e24 : c24 (12 * 0 + t) = ⟨true, (t : Int)⟩ := c24_0 hlt
            have b0' := kept (bel0 wr (.cells #[.bool true, .int .i64 t] 71)) b0
            have b1' := kept (bel0 wr (.cells #[.bool true, .int .i64 t] 71)) b1
            have b2' := kept (bel0 wr (.cells #[.bool true, .int .i64 t] 71)) b2
            have HW : Hid (Below (w.heap.size + 1) (w.alloc (.cells #[.int .i64 m, .int .i64 n, .slice b xs.length cap] 26)) (wr.alloc (.cells #[.bool true, .int .i64 t] 71))) := Lib.hid (bel_n hbel2 (by simp) _)
            have HO1 := Lib.hid (owL hown.out (bel0 wr (.cells #[.bool true, .int .i64 t] 71)))
            clear hown hbel2
            by_cases hz : f ⟨true, (t : Int)⟩ = true
            · have HY := Lib.hid (cutK_yes (f := f) (k := 12 * 0 + t) (by rw [e24]; exact hz))
              rw [e24] at HY
              clear e24
              go_wp2_with fail
              refine (HC.out true t _ HW.out).mono ?_
              rw [hz]
              rintro e w1 ⟨rfl, hb1⟩
              have c0 := kept (p := ⟨wr.heap.size, 0, none⟩) (x := .bool true) hb1 (by go_simp)
              have c1 := kept (p := ⟨wr.heap.size, 1, none⟩) (x := .int .i64 t) hb1 (by go_simp)
              have HO2 := Lib.hid (owL HO1.out hb1)
              have HW2 := Lib.hid (bel_c HW.out (by simp) hb1)
              have hs1 := HW2.out.size
              simp at hs1
              clear hb1 HO1 HW
              have HO3 := Lib.hid (owL HO2.out (bel0 w1 (.cells #[.bool true, .int .i64 t] 71)))
              have HNW := Lib.hid (newsL w1 w1.heap.size #[.bool true, .int .i64 t] 71 rfl)
              have HBS : Hid (w.heap.size + 1 ≤ (w1.alloc (.cells #[.bool true, .int .i64 t] 71)).heap.size) := Lib.hid (by simp; omega)
              have HBE : Hid (Below (w.heap.size + 1) (w.alloc (.cells #[.int .i64 m, .int .i64 n, .slice b xs.length cap] 26)) (w1.alloc (.cells #[.bool true, .int .i64 t] 71))) := Lib.hid (bel_n HW2.out (by simp) _)
              have hL := HL.out
              generalize (cutK f (12 * 0 + t)).length = L at hL HO3 HL
              clear HO2 HW2
              go_wp2_with (at_builtin; refine wpList_append_lies _ rfl _ _ 66 rfl (w.heap.size + 1) 71 i0 _ 2 16 Try.underlying66 hi0 hz0 hz1 hz2 rfl (by decide) _ _ _ rfl HO3.out ⟨w1.heap.size, 0, none⟩ 1 1 [.bool true, .int .i64 t] rfl rfl HNW.out (by simp [Value.oneCell']) (by omega) (by unfold maxLen; omega) (by omega) HBS.out (w1.heap.size + 1) (by simp) ?_; intro gg cc w5 hown5 hgrow hat hlt5; have hbw := (Below.refl (w.heap.size + 1) _).grown hgrow HBS.out (ogL HO3.out))
              have HN : Hid (w5.ownsRow (w.heap.size + 1) 71 2 (.slice (some ⟨gg, 0, none⟩) (L + 1) cc) (cutK f (12 * 0 + (t + 1))).length (placesCut (cutK f (12 * 0 + (t + 1))))) := Lib.hid (by
                have e : cutK f (12 * 0 + (t + 1)) = cutK f (12 * 0 + t) ++ [⟨true, (t : Int)⟩] := HY.out
                rw [e, placesCut_append, List.length_append]
                have hLL := HO3.out.1
                rw [placesCut_length] at hLL
                rw [show (cutK f (12 * 0 + t)).length = L by omega]
                exact hown5)
              have HB6 := Lib.hid (HBE.out.trans hbw)
              clear hown5 hgrow hat hlt5 hbw HO3 HNW HBE HY
              go_wp2_with fail
              go_roundw
              case rel => exact ⟨t + 1, _, by omega, by omega, by go_num, rfl, HN, HB6.out⟩
              case measure => simp [intOf] <;> omega
            · have hz' : f ⟨true, (t : Int)⟩ = false := by simpa using hz
              have HY : Hid (cutK f (12 * 0 + (t + 1)) = cutK f (12 * 0 + t)) := Lib.hid (cutK_no (f := f) (k := 12 * 0 + t) (by rw [e24]; exact hz'))
              clear e24
              go_wp2_with fail
              refine (HC.out true t _ HW.out).mono ?_
              rw [hz']
              rintro e w1 ⟨rfl, hb1⟩
              have HO2 : Hid (w1.ownsRow (w.heap.size + 1) 71 2 v' (cutK f (12 * 0 + (t + 1))).length (placesCut (cutK f (12 * 0 + (t + 1))))) := Lib.hid (by rw [HY.out]; exact owL HO1.out hb1)
              have HW2 := Lib.hid (bel_c HW.out (by simp) hb1)
              clear hb1 HO1 HW HY
              go_wp2_with fail
              go_roundw
              case rel => exact ⟨t + 1, _, by omega, by omega, by go_num, rfl, HO2, HW2.out⟩
              case measure => simp [intOf] <;> omega
          · obtain rfl : t = 12 := by omega
            go_wp2_with fail
            go_roundw
            case rel => exact ⟨1, _, by omega, by go_num, rfl, hown, hbel2⟩
            case measure => simp [intOf] <;> omega
      · have hcK : cutK f (12 * 1 + 1) = cutK f (12 * 1) := cutK_no (by rw [HF.out]; exact (has_no_lo (by decide)).symm)
        have HO0 : Hid (wr.ownsRow (w.heap.size + 1) 71 2 v (cutK f (12 * 1 + 1)).length (placesCut (cutK f (12 * 1 + 1)))) := Lib.hid (by rw [hcK]; exact hown.out)
        clear hown
        simp only [show ((1 : Nat) : Int) = 1 from rfl]
        go_wp2_with fail
        go_loopw [3, 6] (fun s i wi => ∃ (t : Nat) (v : Value), 1 ≤ t ∧ t ≤ 12 ∧ i = .int .i64 t ∧ v = s ∧ Hid (wi.ownsRow (w.heap.size + 1) 71 2 v (cutK f (12 * 1 + t)).length (placesCut (cutK f (12 * 1 + t)))) ∧ Below (w.heap.size + 1) (w.alloc (.cells #[.int .i64 m, .int .i64 n, .slice b xs.length cap] 26)) wi) (fun _ i _ => 12 - (intOf i).toNat)
        case atStart => exact ⟨1, _, Nat.le_refl _, by omega, rfl, rfl, HO0, hbel⟩
        case round =>
          obtain ⟨t, v', ht1, ht, rfl, rfl, hown, hbel2⟩ := hrel
          have hsz2 := hbel2.size
          simp at hsz2
          have b0 : wr.cell? ⟨w.heap.size, 0, none⟩ = some (.int .i64 m) := (hbel2.cell (p := ⟨w.heap.size, 0, none⟩) (Nat.lt_succ_self _)).trans (by simp)
          have b1 : wr.cell? ⟨w.heap.size, 1, none⟩ = some (.int .i64 n) := (hbel2.cell (p := ⟨w.heap.size, 1, none⟩) (Nat.lt_succ_self _)).trans (by simp)
          have b2 : wr.cell? ⟨w.heap.size, 2, none⟩ = some (.slice b xs.length cap) := (hbel2.cell (p := ⟨w.heap.size, 2, none⟩) (Nat.lt_succ_self _)).trans (by simp)
          by_cases hlt : t < 12
          · have hlt' : (t : Int) < 12 := by omega
            have HL : Hid ((cutK f (12 * 1 + t)).length ≤ 24) := Lib.hid (by have := cutK_len f (12 * 1 + t); omega)
            have e24 : c24 (12 * 1 + t) = ⟨false, (t : Int)⟩ := c24_1 hlt
            have b0' := kept (bel0 wr (.cells #[.bool false, .int .i64 t] 71)) b0
            have b1' := kept (bel0 wr (.cells #[.bool false, .int .i64 t] 71)) b1
            have b2' := kept (bel0 wr (.cells #[.bool false, .int .i64 t] 71)) b2
            have HW : Hid (Below (w.heap.size + 1) (w.alloc (.cells #[.int .i64 m, .int .i64 n, .slice b xs.length cap] 26)) (wr.alloc (.cells #[.bool false, .int .i64 t] 71))) := Lib.hid (bel_n hbel2 (by simp) _)
            have HO1 := Lib.hid (owL hown.out (bel0 wr (.cells #[.bool false, .int .i64 t] 71)))
            clear hown hbel2
            by_cases hz : f ⟨false, (t : Int)⟩ = true
            · have HY := Lib.hid (cutK_yes (f := f) (k := 12 * 1 + t) (by rw [e24]; exact hz))
              rw [e24] at HY
              clear e24
              go_wp2_with fail
              refine (HC.out false t _ HW.out).mono ?_
              rw [hz]
              rintro e w1 ⟨rfl, hb1⟩
              have c0 := kept (p := ⟨wr.heap.size, 0, none⟩) (x := .bool false) hb1 (by go_simp)
              have c1 := kept (p := ⟨wr.heap.size, 1, none⟩) (x := .int .i64 t) hb1 (by go_simp)
              have HO2 := Lib.hid (owL HO1.out hb1)
              have HW2 := Lib.hid (bel_c HW.out (by simp) hb1)
              have hs1 := HW2.out.size
              simp at hs1
              clear hb1 HO1 HW
              have HO3 := Lib.hid (owL HO2.out (bel0 w1 (.cells #[.bool false, .int .i64 t] 71)))
              have HNW := Lib.hid (newsL w1 w1.heap.size #[.bool false, .int .i64 t] 71 rfl)
              have HBS : Hid (w.heap.size + 1 ≤ (w1.alloc (.cells #[.bool false, .int .i64 t] 71)).heap.size) := Lib.hid (by simp; omega)
              have HBE : Hid (Below (w.heap.size + 1) (w.alloc (.cells #[.int .i64 m, .int .i64 n, .slice b xs.length cap] 26)) (w1.alloc (.cells #[.bool false, .int .i64 t] 71))) := Lib.hid (bel_n HW2.out (by simp) _)
              have hL := HL.out
              generalize (cutK f (12 * 1 + t)).length = L at hL HO3 HL
              clear HO2 HW2
              go_wp2_with (at_builtin; refine wpList_append_lies _ rfl _ _ 66 rfl (w.heap.size + 1) 71 i0 _ 2 16 Try.underlying66 hi0 hz0 hz1 hz2 rfl (by decide) _ _ _ rfl HO3.out ⟨w1.heap.size, 0, none⟩ 1 1 [.bool false, .int .i64 t] rfl rfl HNW.out (by simp [Value.oneCell']) (by omega) (by unfold maxLen; omega) (by omega) HBS.out (w1.heap.size + 1) (by simp) ?_; intro gg cc w5 hown5 hgrow hat hlt5; have hbw := (Below.refl (w.heap.size + 1) _).grown hgrow HBS.out (ogL HO3.out))
              have HN : Hid (w5.ownsRow (w.heap.size + 1) 71 2 (.slice (some ⟨gg, 0, none⟩) (L + 1) cc) (cutK f (12 * 1 + (t + 1))).length (placesCut (cutK f (12 * 1 + (t + 1))))) := Lib.hid (by
                have e : cutK f (12 * 1 + (t + 1)) = cutK f (12 * 1 + t) ++ [⟨false, (t : Int)⟩] := HY.out
                rw [e, placesCut_append, List.length_append]
                have hLL := HO3.out.1
                rw [placesCut_length] at hLL
                rw [show (cutK f (12 * 1 + t)).length = L by omega]
                exact hown5)
              have HB6 := Lib.hid (HBE.out.trans hbw)
              clear hown5 hgrow hat hlt5 hbw HO3 HNW HBE HY
              go_wp2_with fail
              go_roundw
              case rel => exact ⟨t + 1, _, by omega, by omega, by go_num, rfl, HN, HB6.out⟩
              case measure => simp [intOf] <;> omega
            · have hz' : f ⟨false, (t : Int)⟩ = false := by simpa using hz
              have HY : Hid (cutK f (12 * 1 + (t + 1)) = cutK f (12 * 1 + t)) := Lib.hid (cutK_no (f := f) (k := 12 * 1 + t) (by rw [e24]; exact hz'))
              clear e24
              go_wp2_with fail
              refine (HC.out false t _ HW.out).mono ?_
              rw [hz']
              rintro e w1 ⟨rfl, hb1⟩
              have HO2 : Hid (w1.ownsRow (w.heap.size + 1) 71 2 v' (cutK f (12 * 1 + (t + 1))).length (placesCut (cutK f (12 * 1 + (t + 1))))) := Lib.hid (by rw [HY.out]; exact owL HO1.out hb1)
              have HW2 := Lib.hid (bel_c HW.out (by simp) hb1)
              clear hb1 HO1 HW HY
              go_wp2_with fail
              go_roundw
              case rel => exact ⟨t + 1, _, by omega, by omega, by go_num, rfl, HO2, HW2.out⟩
              case measure => simp [intOf] <;> omega
          · obtain rfl : t = 12 := by omega
            go_wp2_with fail
            go_roundw
            case rel => exact ⟨2, _, by omega, by go_num, rfl, hown, hbel2⟩
            case measure => simp [intOf] <;> omega
    · obtain rfl : k = 2 := by omega
      have hin : CutIn (w.heap.size + 1) wr.heap.size wr v (cutK f 24) := CutIn.of_owns hown.out (by have := cutK_len f 24; omega)
      have HI := Lib.hid (hin.wide (lo' := w.heap.size) (hi' := wr.heap.size) (by omega) (Nat.le_refl _))
      have HB0 : Hid (Below w.heap.size w wr) := Lib.hid ((bel0 w _).trans (hbel.mono (by omega)))
      clear hin hown hbel
      go_wp2_with fail
      go_ret
      exact ⟨_, rfl, HI.out, HB0.out⟩

end Go.Proofs.Ytboahceibeeifaa

set_option linter.unusedSimpArgs false
set_option linter.unusedVariables false
namespace Go.Proofs.Ytboahceibeeifaa
open Go.ChangeShapes Go.WideShapes Go.ChangeAt Go.RowKit

set_option maxHeartbeats 3200000 in
set_option maxRecDepth 20000 in
theorem ImplPatchAt_any (lo hi : Nat) (m n : Int) (v : Value) (xs : List P5) (x y : Int) (w : World) (r : PatIn lo hi w v xs) (hhi : hi ≤ w.heap.size) (wf : ∀ c ∈ xs, c.Wf) :
    Calls Try.prog 59 #[.agg #[.int .i64 m, .int .i64 n, v], .int .i64 x, .int .i64 y] w fun e w' => e = .returned (.int .i64 (patL m n xs x y)) ∧ Below w.heap.size w w' := by
  obtain ⟨a, cap, rfl⟩ := r.form
  have R : Hid (PatIn lo hi (w.alloc (.cells #[.int .i64 m, .int .i64 n, .slice a xs.length cap] 26)) (.slice a xs.length cap) xs) := Lib.hid (r.below ((bel0 w _).mono hhi))
  have R0 := Lib.hid r
  have hl := r.1
  have hhi1 : hi ≤ (w.alloc (.cells #[.int .i64 m, .int .i64 n, .slice a xs.length cap] 26)).heap.size := by simp; omega
  clear r
  by_cases h : layB m n xs = false
  · have HB := Lib.hid h
    have HR := Lib.hid (patL_no (x := x) (y := y) h)
    clear h
    go_enter Try.func59, Try.ntmps59
    go_wp2_with fail
    refine (ImplLayoutOk_any lo hi m n _ xs _ R.out hhi1 wf).mono ?_
    rw [HB.out]
    rintro e w1 ⟨rfl, hb1⟩
    go_wp2_with fail
    go_ret
    exact ⟨ret_int HR.out, bel_c (bel0 w _) (Nat.le_refl _) hb1⟩
  · have HB : Hid (layB m n xs = true) := Lib.hid (by simpa using h)
    clear h
    obtain ⟨⟨p00, p01⟩, ⟨p10, p11⟩, ⟨p20, p21⟩, HL4, _⟩ := lay_of HB.out
    have HF : Hid (∀ i, i < xs.length → Fit m n (pat xs i)) := Lib.hid (fun i hi => (HL4 i hi).1)
    clear HL4
    go_enter Try.func59, Try.ntmps59
    go_wp2_with fail
    refine (ImplLayoutOk_any lo hi m n _ xs _ R.out hhi1 wf).mono ?_
    rw [HB.out]
    rintro e w1 ⟨rfl, hb1⟩
    have HB1 : Below (w.heap.size + 1) (w.alloc (.cells #[.int .i64 m, .int .i64 n, .slice a xs.length cap] 26)) w1 := by simpa using hb1
    have b0 : w1.cell? ⟨w.heap.size, 0, none⟩ = some (.int .i64 m) := (HB1.cell (p := ⟨w.heap.size, 0, none⟩) (by simp)).trans (by simp)
    have b1 : w1.cell? ⟨w.heap.size, 1, none⟩ = some (.int .i64 n) := (HB1.cell (p := ⟨w.heap.size, 1, none⟩) (by simp)).trans (by simp)
    have b2 : w1.cell? ⟨w.heap.size, 2, none⟩ = some (.slice a xs.length cap) := (HB1.cell (p := ⟨w.heap.size, 2, none⟩) (by simp)).trans (by simp)
    clear hb1
    go_wp2_with fail
    go_loopw [15] (fun i wr => ∃ k : Nat, k ≤ xs.length ∧ i = .int .i64 k ∧ Hid (∀ j, j < k → ¬ Cov (pat xs j) x y) ∧ Below (w.heap.size + 1) (w.alloc (.cells #[.int .i64 m, .int .i64 n, .slice a xs.length cap] 26)) wr) (fun i _ => xs.length - (intOf i).toNat)
    case atStart => exact ⟨0, Nat.zero_le _, rfl, Lib.hid (fun j hj => by omega), HB1⟩
    case round =>
      obtain ⟨k, hk, rfl, hno, hbel⟩ := hrel
      have hsz := hbel.size
      simp at hsz
      have b0 : wr.cell? ⟨w.heap.size, 0, none⟩ = some (.int .i64 m) := (hbel.cell (p := ⟨w.heap.size, 0, none⟩) (by simp)).trans (by simp)
      have b1 : wr.cell? ⟨w.heap.size, 1, none⟩ = some (.int .i64 n) := (hbel.cell (p := ⟨w.heap.size, 1, none⟩) (by simp)).trans (by simp)
      have b2 : wr.cell? ⟨w.heap.size, 2, none⟩ = some (.slice a xs.length cap) := (hbel.cell (p := ⟨w.heap.size, 2, none⟩) (by simp)).trans (by simp)
      by_cases hlt : k < xs.length
      · obtain ⟨g, rfl, hg, hg1, hel, _⟩ := R0.out.at (((bel0 w _).trans (hbel.mono (by omega))).mono hhi) hlt
        obtain ⟨e0, e1, e2, e3, e4⟩ := hel
        obtain ⟨c, hc⟩ : ∃ c, c = xs.getD k P5.zero := ⟨_, rfl⟩
        rw [← hc] at e0 e1 e2 e3 e4
        have HC : Hid (c = pat xs k) := Lib.hid hc
        obtain ⟨⟨f00, f01⟩, ⟨f10, f11⟩, ⟨f20, f21⟩, ⟨f30, f31⟩, _⟩ : Fit m n c := by rw [hc]; exact HF.out k hlt
        have HB0 : Hid (Below w.heap.size w wr) := Lib.hid ((bel0 w _).trans (hbel.mono (by omega)))
        clear hc
        have b0' := kept (bel0 wr (.cells #[.int .i64 c.x, .int .i64 c.y, .int .i64 c.w, .int .i64 c.h, .int .i64 c.c] 34)) b0
        have b1' := kept (bel0 wr (.cells #[.int .i64 c.x, .int .i64 c.y, .int .i64 c.w, .int .i64 c.h, .int .i64 c.c] 34)) b1
        have b2' := kept (bel0 wr (.cells #[.int .i64 c.x, .int .i64 c.y, .int .i64 c.w, .int .i64 c.h, .int .i64 c.c] 34)) b2
        have HBX := Lib.hid (bel_n HB0.out (Nat.le_refl _) (.cells #[.int .i64 c.x, .int .i64 c.y, .int .i64 c.w, .int .i64 c.h, .int .i64 c.c] 34))
        have HBY := Lib.hid (bel_n hbel (by simp) (.cells #[.int .i64 c.x, .int .i64 c.y, .int .i64 c.w, .int .i64 c.h, .int .i64 c.c] 34))
        by_cases z0 : c.x ≤ x
        · by_cases z1 : x < c.x + c.w
          · by_cases z2 : c.y ≤ y
            · by_cases z3 : y < c.y + c.h
              · have HH := Lib.hid (patL_at HB.out hlt (by rw [← HC.out]; exact ⟨⟨by omega, by omega⟩, by omega, by omega⟩) hno.out)
                clear hbel
                go_wp2_with fail
                go_ret
                exact ⟨ret_int HH.out, HBX.out⟩
              · have HN : Hid (∀ j, j < k + 1 → ¬ Cov (pat xs j) x y) := Lib.hid (fun j hj => by
                  rcases Nat.lt_succ_iff_lt_or_eq.1 hj with h | rfl
                  · exact hno.out j h
                  · rw [← HC.out]; rintro ⟨⟨_, _⟩, _, _⟩; omega)
                clear hbel
                go_wp2_with fail
                go_roundw
                case rel => exact ⟨k + 1, by omega, by go_num, HN, HBY.out⟩
                case measure => simp [intOf] <;> omega
            · have HN : Hid (∀ j, j < k + 1 → ¬ Cov (pat xs j) x y) := Lib.hid (fun j hj => by
                rcases Nat.lt_succ_iff_lt_or_eq.1 hj with h | rfl
                · exact hno.out j h
                · rw [← HC.out]; rintro ⟨⟨_, _⟩, _, _⟩; omega)
              clear hbel
              go_wp2_with fail
              go_roundw
              case rel => exact ⟨k + 1, by omega, by go_num, HN, HBY.out⟩
              case measure => simp [intOf] <;> omega
          · have HN : Hid (∀ j, j < k + 1 → ¬ Cov (pat xs j) x y) := Lib.hid (fun j hj => by
              rcases Nat.lt_succ_iff_lt_or_eq.1 hj with h | rfl
              · exact hno.out j h
              · rw [← HC.out]; rintro ⟨⟨_, _⟩, _, _⟩; omega)
            clear hbel
            go_wp2_with fail
            go_roundw
            case rel => exact ⟨k + 1, by omega, by go_num, HN, HBY.out⟩
            case measure => simp [intOf] <;> omega
        · have HN : Hid (∀ j, j < k + 1 → ¬ Cov (pat xs j) x y) := Lib.hid (fun j hj => by
            rcases Nat.lt_succ_iff_lt_or_eq.1 hj with h | rfl
            · exact hno.out j h
            · rw [← HC.out]; rintro ⟨⟨_, _⟩, _, _⟩; omega)
          clear hbel
          go_wp2_with fail
          go_roundw
          case rel => exact ⟨k + 1, by omega, by go_num, HN, HBY.out⟩
          case measure => simp [intOf] <;> omega
      · obtain rfl : k = xs.length := by omega
        have HH := Lib.hid (patL_none HB.out hno.out)
        have HB0 : Hid (Below w.heap.size w wr) := Lib.hid ((bel0 w _).trans (hbel.mono (by omega)))
        clear hbel
        go_wp2_with fail
        go_ret
        exact ⟨ret_int HH.out, HB0.out⟩

end Go.Proofs.Ytboahceibeeifaa

set_option linter.unusedSimpArgs false
set_option linter.unusedVariables false
namespace Go.Proofs.Ytboahceibeeifaa
open Go.ChangeShapes Go.WideShapes Go.ChangeAt Go.RowKit

/-- Two parts in boxes of their own. -/
def WS (G : World) (M1 N1 M2 N2 X2 Y2 : Int) (L1 L2 : List P5) (q t : Value) (u : World) : Prop :=
  ∃ pA pB vA vB k kk, q = .pointer (some ⟨pA, 0, none⟩) ∧ t = .pointer (some ⟨pB, 0, none⟩) ∧ Hid (BoxQ pA M1 N1 vA 0 0 u) ∧ Hid (BoxQ pB M2 N2 vB X2 Y2 u) ∧
    Hid (PatIn G.heap.size k u vA L1) ∧ Hid (PatIn G.heap.size kk u vB L2) ∧ k ≤ u.heap.size ∧ kk ≤ u.heap.size ∧ Hid (Below G.heap.size G u)
/-- Both parts are handed back: in letters. -/
def SplitV (M1 N1 M2 N2 X2 Y2 : Int) (L1 L2 : List P5) (w : World) (e : Ending) (w' : World) : Prop :=
  ∃ v1 v2 k, e = .returned (.tuple #[.agg #[.int .i64 M1, .int .i64 N1, v1, .int .i64 0, .int .i64 0], .agg #[.int .i64 M2, .int .i64 N2, v2, .int .i64 X2, .int .i64 Y2]]) ∧
    PatIn w.heap.size k w' v1 L1 ∧ PatIn k w'.heap.size w' v2 L2 ∧ w.heap.size ≤ k ∧ k ≤ w'.heap.size ∧ Below w.heap.size w w'

theorem within5 {u : World} {p : Nat} {x0 x1 x2 x3 x4 : Value} : Within p (p + 1) u (set5 u p x0 x1 x2 x3 x4) := by
  unfold set5
  refine Within.setCell (Within.setCell (Within.setCell (Within.setCell (Within.setCell (Within.refl _ _ _) ?_ ?_ _) ?_ ?_ _) ?_ ?_ _) ?_ ?_ _) ?_ ?_ _ <;> simp
theorem row5 {lo hi p : Nat} {u : World} {v x0 x1 x2 x3 x4 : Value} {xs : List P5} (r : PatIn lo hi u v xs) (h : hi ≤ p ∨ p < lo) (hh : hi ≤ u.heap.size) : PatIn lo hi (set5 u p x0 x1 x2 x3 x4) v xs :=
  r.within within5 (h.imp id (fun z => z)) hh
theorem BoxQ.put5 {p : Nat} {m n m' n' : Int} {v : Value} {l t l' t' : Int} {u : World} {av : Option Addr} {len cap : Nat} (h : BoxQ p m n v l t u) : BoxQ p m' n' (.slice av len cap) l' t' (set5 u p (.int .i64 m') (.int .i64 n') (.slice av len cap) (.int .i64 l') (.int .i64 t')) := by
  obtain ⟨⟨e0, e1, e2, e3, e4⟩, f0, f1, f2, f3, f4⟩ := h
  refine ⟨⟨?_, ?_, ?_, ?_, ?_⟩, set5_frozen.trans f0, set5_frozen.trans f1, set5_frozen.trans f2, set5_frozen.trans f3, set5_frozen.trans f4⟩
  all_goals unfold set5
  · rw [World.cell?_setCell_other _ _ _ _ (by simp), World.cell?_setCell_other _ _ _ _ (by simp), World.cell?_setCell_other _ _ _ _ (by simp), World.cell?_setCell_other _ _ _ _ (by simp)]
    exact World.cell?_setCell_same _ _ _ e0
  · rw [World.cell?_setCell_other _ _ _ _ (by simp), World.cell?_setCell_other _ _ _ _ (by simp), World.cell?_setCell_other _ _ _ _ (by simp)]
    exact World.cell?_setCell_same _ _ _ ((World.cell?_setCell_other _ _ _ _ (by simp)).trans e1)
  · rw [World.cell?_setCell_other _ _ _ _ (by simp), World.cell?_setCell_other _ _ _ _ (by simp)]
    exact World.cell?_setCell_same _ _ _ ((World.cell?_setCell_other _ _ _ _ (by simp)).trans ((World.cell?_setCell_other _ _ _ _ (by simp)).trans e2))
  · rw [World.cell?_setCell_other _ _ _ _ (by simp)]
    exact World.cell?_setCell_same _ _ _ ((World.cell?_setCell_other _ _ _ _ (by simp)).trans ((World.cell?_setCell_other _ _ _ _ (by simp)).trans ((World.cell?_setCell_other _ _ _ _ (by simp)).trans e3)))
  · exact World.cell?_setCell_same _ _ _ ((World.cell?_setCell_other _ _ _ _ (by simp)).trans ((World.cell?_setCell_other _ _ _ _ (by simp)).trans ((World.cell?_setCell_other _ _ _ _ (by simp)).trans ((World.cell?_setCell_other _ _ _ _ (by simp)).trans e4))))
theorem BoxQ.far5 {p q : Nat} {m n : Int} {v : Value} {l t : Int} {u : World} (h : BoxQ p m n v l t u) (hq : q ≠ p) {x0 x1 x2 x3 x4 : Value} : BoxQ p m n v l t (set5 u q x0 x1 x2 x3 x4) :=
  ((((h.far hq _).far hq _).far hq _).far hq _).far hq _
section
variable {P : Program} {md : Region.Mode} {l : List Oper} {Q : Exit → Act → World → Prop} {S : World → Prop}
theorem reg_two (i j : Nat) {oi oj : Oper} {fuel : Nat} {listed : Array Bool} {a : Act} {w : World} (hi : l[i]? = some oi) (hj : l[j]? = some oj) (hr : Region.ready md l.toArray listed = [i, j])
    (hw : Region.wanted oi (yielded l.toArray a.tmps) = true) (hw2 : Region.wanted oj (yielded l.toArray a.tmps) = true)
    (h : ∀ K' : Act → World → Prop, Shut (∀ a w, S w → (S w → wpAnyH P md l.toArray Q S fuel (listed.setIfInBounds i true) a w) → K' a w) → Oper.wp P oi a w K' Q)
    (h2 : ∀ K' : Act → World → Prop, Shut (∀ a w, S w → (S w → wpAnyH P md l.toArray Q S fuel (listed.setIfInBounds j true) a w) → K' a w) → Oper.wp P oj a w K' Q) :
    wpAnyH P md l.toArray Q S (fuel + 1) listed a w :=
  wpAnyH_ready hr (by simp) (AllReadyH.cons (by simpa using hi) (fun K hK => by rw [if_pos hw]; exact h K hK) (AllReadyH.cons (by simpa using hj) (fun K hK => by rw [if_pos hw2]; exact h2 K hK) AllReadyH.nil))
theorem reg_three (i j k : Nat) {oi oj ok : Oper} {fuel : Nat} {listed : Array Bool} {a : Act} {w : World} (hi : l[i]? = some oi) (hj : l[j]? = some oj) (hk : l[k]? = some ok) (hr : Region.ready md l.toArray listed = [i, j, k])
    (hw : Region.wanted oi (yielded l.toArray a.tmps) = true) (hw2 : Region.wanted oj (yielded l.toArray a.tmps) = true) (hw3 : Region.wanted ok (yielded l.toArray a.tmps) = true)
    (h : ∀ K' : Act → World → Prop, Shut (∀ a w, S w → (S w → wpAnyH P md l.toArray Q S fuel (listed.setIfInBounds i true) a w) → K' a w) → Oper.wp P oi a w K' Q)
    (h2 : ∀ K' : Act → World → Prop, Shut (∀ a w, S w → (S w → wpAnyH P md l.toArray Q S fuel (listed.setIfInBounds j true) a w) → K' a w) → Oper.wp P oj a w K' Q)
    (h3 : ∀ K' : Act → World → Prop, Shut (∀ a w, S w → (S w → wpAnyH P md l.toArray Q S fuel (listed.setIfInBounds k true) a w) → K' a w) → Oper.wp P ok a w K' Q) :
    wpAnyH P md l.toArray Q S (fuel + 1) listed a w :=
  wpAnyH_ready hr (by simp) (AllReadyH.cons (by simpa using hi) (fun K hK => by rw [if_pos hw]; exact h K hK) (AllReadyH.cons (by simpa using hj) (fun K hK => by rw [if_pos hw2]; exact h2 K hK) (AllReadyH.cons (by simpa using hk) (fun K hK => by rw [if_pos hw3]; exact h3 K hK) AllReadyH.nil)))
end

/-- A knot is handed back, or none. -/
def KnotV (M N : Int) (X : List P5) (ok : Bool) (lo : Nat) (w : World) (e : Ending) (w' : World) : Prop :=
  ∃ v, e = .returned (.tuple #[.agg #[.int .i64 M, .int .i64 N, v], .bool ok]) ∧ PatIn lo w'.heap.size w' v X ∧ Below w.heap.size w w'

set_option maxHeartbeats 6400000 in
set_option maxRecDepth 20000 in
theorem Knot_left (lo hi : Nat) (m n : Int) (v : Value) (xs : List P5) (c : C2) (rr : List C2) (M N : Int) (X : List P5) (w : World) (r : PatIn lo hi w v xs) (hhi : hi ≤ w.heap.size) (hlo : lo ≤ w.heap.size) (lay : LayOk m n xs) (hl1 : xs.length ≠ 1) (hcs : cutsL m n xs = c :: rr)
    (ih : ∀ (lo hi : Nat) (v : Value) (w : World), PatIn lo hi w v (pL1 m n c xs) → hi ≤ w.heap.size → lo ≤ w.heap.size → Calls Try.prog 57 #[.agg #[.int .i64 (pM1 m c), .int .i64 (pN1 n c), v]] w (KnotV M N X true lo w)) :
    Calls Try.prog 57 #[.agg #[.int .i64 m, .int .i64 n, v]] w (KnotV M N X true lo w) := by
  have hc := first_cut hcs
  obtain ⟨b, cap, rfl⟩ := r.form
  have R := Lib.hid r
  have HL := Lib.hid lay
  have HIH := Lib.hid ih
  have HC := Lib.hid hc
  have hlen : ((xs.length : Nat) : Int) = 1 → False := fun h => hl1 (by omega)
  have hd : ((xs.length : Int) == 1) = false := by simp; omega
  have CC : Hid (∀ u : World, Below w.heap.size w u → Calls Try.prog 60 #[.agg #[.int .i64 m, .int .i64 n, .slice b xs.length cap]] u (FreshCut (c :: rr) u)) := Lib.hid (fun u hb => by rw [← hcs]; exact Cuts_any lo hi m n _ xs u (r.below (hb.mono hhi)) (Nat.le_trans hhi hb.size) lay)
  have HB2 : Hid (Below w.heap.size w ((w.alloc (.cells #[.int .i64 m, .int .i64 n, .slice b xs.length cap] 26)).alloc (.cells #[.int .i64 0, .int .i64 0, .slice none 0 0] 26))) := Lib.hid (bel_n (bel0 w _) (Nat.le_refl _) _)
  clear r lay ih hcs hc
  go_enter Try.func57, Try.ntmps57
  go_wp2_with fail
  refine (CC.out _ HB2.out).mono ?_
  rintro e w1 ⟨vc, rfl, RC, hb1⟩
  obtain ⟨ac, cc, rfl⟩ := RC.form
  obtain ⟨g, rfl, hg, hg1, ⟨e0, e1⟩, _⟩ := RC.at (Below.refl _ _) (i := 0) (by simp)
  obtain ⟨up, a⟩ := c
  simp only [Nat.zero_mul, Nat.zero_add, List.getD_cons_zero] at e0 e1
  have b0 := kept (p := ⟨w.heap.size, 0, none⟩) (x := .int .i64 m) hb1 (by go_simp)
  have b1 := kept (p := ⟨w.heap.size, 1, none⟩) (x := .int .i64 n) hb1 (by go_simp)
  have b2 := kept (p := ⟨w.heap.size, 2, none⟩) (x := .slice b xs.length cap) hb1 (by go_simp)
  have hB1 := bel_c HB2.out (Nat.le_refl _) hb1
  have BR : Hid (BoxL (w.heap.size + 1) (.int .i64 0) (.int .i64 0) (.slice none 0 0) w1) := Lib.hid (by
    have := BoxL.new (w.alloc (.cells #[.int .i64 m, .int .i64 n, .slice b xs.length cap] 26)) (.int .i64 0) (.int .i64 0) (.slice none 0 0) 26
    rw [show (w.alloc (.cells #[.int .i64 m, .int .i64 n, .slice b xs.length cap] 26)).heap.size = w.heap.size + 1 by simp] at this
    exact this.below hb1 (by simp))
  have hs1 := hb1.size
  simp at hs1
  have HB1 := Lib.hid hB1
  clear hB1 hb1 RC
  generalize w1 = G at *
  obtain ⟨M1, hM1⟩ : ∃ M1, M1 = pM1 m ⟨up, a⟩ := ⟨_, rfl⟩
  obtain ⟨N1, hN1⟩ : ∃ N1, N1 = pN1 n ⟨up, a⟩ := ⟨_, rfl⟩
  obtain ⟨M2, hM2⟩ : ∃ M2, M2 = pM2 m ⟨up, a⟩ := ⟨_, rfl⟩
  obtain ⟨N2, hN2⟩ : ∃ N2, N2 = pN2 n ⟨up, a⟩ := ⟨_, rfl⟩
  obtain ⟨X2, hX2⟩ : ∃ X2, X2 = pX2 ⟨up, a⟩ := ⟨_, rfl⟩
  obtain ⟨Y2, hY2⟩ : ∃ Y2, Y2 = pY2 ⟨up, a⟩ := ⟨_, rfl⟩
  obtain ⟨L1, hL1⟩ : ∃ L1, L1 = pL1 m n ⟨up, a⟩ xs := ⟨_, rfl⟩
  obtain ⟨L2, hL2⟩ : ∃ L2, L2 = pL2 m n ⟨up, a⟩ xs := ⟨_, rfl⟩
  have D0 : Below G.heap.size G G.drew := ⟨rfl, rfl, rfl, Nat.le_refl _, fun _ _ => rfl⟩
  have CS : Hid (∀ u : World, (u.cell? ⟨w.heap.size, 0, none⟩ = some (.int .i64 m) ∧ u.cell? ⟨w.heap.size, 1, none⟩ = some (.int .i64 n) ∧ u.cell? ⟨w.heap.size, 2, none⟩ = some (.slice b xs.length cap) ∧ u.cell? ⟨g, 0, none⟩ = some (.bool up) ∧ u.cell? ⟨g, 1, none⟩ = some (.int .i64 a) ∧ Below G.heap.size G u) → Calls Try.prog 70 #[.agg #[.int .i64 m, .int .i64 n, .slice b xs.length cap], .agg #[.bool up, .int .i64 a]] u (SplitV M1 N1 M2 N2 X2 Y2 L1 L2 u)) := Lib.hid (fun u h => by
    have hu := bel_c HB1.out (Nat.le_refl _) h.2.2.2.2.2
    rw [hM1, hN1, hM2, hN2, hX2, hY2, hL1, hL2]
    exact Split_any lo hi m n _ xs up a u (R.out.below (hu.mono hhi)) (Nat.le_trans hhi hu.size) HL.out HC.out)
  have S0 : G.drew.cell? ⟨w.heap.size, 0, none⟩ = some (.int .i64 m) ∧ G.drew.cell? ⟨w.heap.size, 1, none⟩ = some (.int .i64 n) ∧ G.drew.cell? ⟨w.heap.size, 2, none⟩ = some (.slice b xs.length cap) ∧ G.drew.cell? ⟨g, 0, none⟩ = some (.bool up) ∧ G.drew.cell? ⟨g, 1, none⟩ = some (.int .i64 a) ∧ Below G.heap.size G G.drew := ⟨kept D0 b0, kept D0 b1, kept D0 b2, kept D0 e0, kept D0 e1, D0⟩
  rw [← hM1, ← hN1, ← hL1] at HIH
  clear hM1 hN1 hM2 hN2 hX2 hY2 hL1 hL2
  have KP : ∀ u v : World, Below u.heap.size u v → (u.cell? ⟨w.heap.size, 0, none⟩ = some (.int .i64 m) ∧ u.cell? ⟨w.heap.size, 1, none⟩ = some (.int .i64 n) ∧ u.cell? ⟨w.heap.size, 2, none⟩ = some (.slice b xs.length cap) ∧ u.cell? ⟨g, 0, none⟩ = some (.bool up) ∧ u.cell? ⟨g, 1, none⟩ = some (.int .i64 a) ∧ Below G.heap.size G u) → (v.cell? ⟨w.heap.size, 0, none⟩ = some (.int .i64 m) ∧ v.cell? ⟨w.heap.size, 1, none⟩ = some (.int .i64 n) ∧ v.cell? ⟨w.heap.size, 2, none⟩ = some (.slice b xs.length cap) ∧ v.cell? ⟨g, 0, none⟩ = some (.bool up) ∧ v.cell? ⟨g, 1, none⟩ = some (.int .i64 a) ∧ Below G.heap.size G v) := fun u v hb h => ⟨kept hb h.1, kept hb h.2.1, kept hb h.2.2.1, kept hb h.2.2.2.1, kept hb h.2.2.2.2.1, bel_c h.2.2.2.2.2 (Nat.le_refl _) hb⟩
  have KS : ∀ (u : World) (p : Nat) (x0 x1 x2 x3 x4 : Value), G.heap.size ≤ p → (u.cell? ⟨w.heap.size, 0, none⟩ = some (.int .i64 m) ∧ u.cell? ⟨w.heap.size, 1, none⟩ = some (.int .i64 n) ∧ u.cell? ⟨w.heap.size, 2, none⟩ = some (.slice b xs.length cap) ∧ u.cell? ⟨g, 0, none⟩ = some (.bool up) ∧ u.cell? ⟨g, 1, none⟩ = some (.int .i64 a) ∧ Below G.heap.size G u) → ((set5 u p x0 x1 x2 x3 x4).cell? ⟨w.heap.size, 0, none⟩ = some (.int .i64 m) ∧ (set5 u p x0 x1 x2 x3 x4).cell? ⟨w.heap.size, 1, none⟩ = some (.int .i64 n) ∧ (set5 u p x0 x1 x2 x3 x4).cell? ⟨w.heap.size, 2, none⟩ = some (.slice b xs.length cap) ∧ (set5 u p x0 x1 x2 x3 x4).cell? ⟨g, 0, none⟩ = some (.bool up) ∧ (set5 u p x0 x1 x2 x3 x4).cell? ⟨g, 1, none⟩ = some (.int .i64 a) ∧ Below G.heap.size G (set5 u p x0 x1 x2 x3 x4)) := fun u p x0 x1 x2 x3 x4 hp h => by
    have h1 : p ≠ w.heap.size := by omega
    have h2 : p ≠ g := by omega
    exact ⟨(set5_far h1).trans h.1, (set5_far h1).trans h.2.1, (set5_far h1).trans h.2.2.1, (set5_far h2).trans h.2.2.2.1, (set5_far h2).trans h.2.2.2.2.1, ((((h.2.2.2.2.2.setCell hp _).setCell hp _).setCell hp _).setCell hp _).setCell hp _⟩
  have KP1 := Lib.hid KP
  have KS1 := Lib.hid KS
  clear KP KS D0
  go_upto_region 6 with fail
  go_cut [5, 6] (fun q t wx => WS G M1 N1 M2 N2 X2 Y2 L1 L2 q t wx)
  case first =>
    (try simp only [List.append_eq, List.cons_append, List.nil_append])
    have hS := S0
    refine reg_begin (fun w' => w'.cell? ⟨w.heap.size, 0, none⟩ = some (.int .i64 m) ∧ w'.cell? ⟨w.heap.size, 1, none⟩ = some (.int .i64 n) ∧ w'.cell? ⟨w.heap.size, 2, none⟩ = some (.slice b xs.length cap) ∧ w'.cell? ⟨g, 0, none⟩ = some (.bool up) ∧ w'.cell? ⟨g, 1, none⟩ = some (.int .i64 a) ∧ Below G.heap.size G w') (by kernel_rfl) hS ?_
    refine reg_take 0 (v := ?_) rfl (by kernel_rfl) (by kernel_rfl) (by kernel_rfl) (fun _ _ _ h => h) (by rfl) (by intro w hSw; (try dsimp only at hSw); go_simp; first | done | with_reducible rfl) hS ?_
    (try simp only [Act.put, List.setIfInBounds_toArray, List.set_cons_zero, List.set_cons_succ])
    refine reg_take 1 (v := ?_) rfl (by kernel_rfl) (by kernel_rfl) (by kernel_rfl) (fun _ _ _ h => h) (by rfl) (by intro w hSw; (try dsimp only at hSw); go_simp; first | done | with_reducible rfl) hS ?_
    (try simp only [Act.put, List.setIfInBounds_toArray, List.set_cons_zero, List.set_cons_succ])
    refine reg_take 2 (v := ?_) rfl (by kernel_rfl) (by kernel_rfl) (by kernel_rfl) (fun _ _ _ h => h) (by rfl) (by intro w hSw; (try dsimp only at hSw); go_simp; first | done | with_reducible rfl) hS ?_
    (try simp only [Act.put, List.setIfInBounds_toArray, List.set_cons_zero, List.set_cons_succ])
    refine reg_take 3 (v := ?_) rfl (by kernel_rfl) (by kernel_rfl) (by kernel_rfl) (fun _ _ _ h => h) (by rfl) (by intro w hSw; (try dsimp only at hSw); go_simp; first | done | with_reducible rfl) hS ?_
    (try simp only [Act.put, List.setIfInBounds_toArray, List.set_cons_zero, List.set_cons_succ])
    have hz0 : G.drew.heap.size ≤ G.heap.size ∧ G.heap.size ≤ G.drew.heap.size := ⟨Nat.le_refl _, Nat.le_refl _⟩
    generalize G.drew = U0 at hS hz0 ⊢
    refine reg_three 4 8 9 rfl rfl rfl (by kernel_rfl) (by rfl) (by rfl) (by rfl) (fun K hK => ?_) (fun K hK => ?_) (fun K hK => ?_)
    · go_simp
      go_at_call 70
      refine (args_eqL (CS.out _ hS) (by with_reducible rfl)).mono ?_
      rintro e y1 ⟨vA, vB, k, rfl, RA, RB, hk1, hk2, hb⟩
      have RA0 := Lib.hid RA
      have RB0 := Lib.hid RB
      obtain ⟨aA, cA, rfl⟩ := RA.form
      obtain ⟨aB, cB, rfl⟩ := RB.form
      clear RA RB
      have hzy1 := hb.size
      refine hK.out _ _ (KP1.out _ _ hb hS) (fun hS' => ?_)
      clear hK K hS
      have hS := hS'
      clear hS'
      try (try simp only [Act.put, List.setIfInBounds_toArray, List.set_cons_zero, List.set_cons_succ])
      clear hb
      refine reg_take 5 (v := ?_) rfl (by kernel_rfl) (by kernel_rfl) (by kernel_rfl) (fun _ _ _ h => h) (by rfl) (by intro w hSw; (try dsimp only at hSw); go_simp; first | done | with_reducible rfl) hS ?_
      (try simp only [Act.put, List.setIfInBounds_toArray, List.set_cons_zero, List.set_cons_succ])
      refine reg_take 6 (v := ?_) rfl (by kernel_rfl) (by kernel_rfl) (by kernel_rfl) (fun _ _ _ h => h) (by rfl) (by intro w hSw; (try dsimp only at hSw); go_simp; first | done | with_reducible rfl) hS ?_
      (try simp only [Act.put, List.setIfInBounds_toArray, List.set_cons_zero, List.set_cons_succ])
      refine reg_take 7 (v := ?_) rfl (by kernel_rfl) (by kernel_rfl) (by kernel_rfl) (fun _ _ _ h => h) (by rfl) (by intro w hSw; (try dsimp only at hSw); go_simp; first | done | with_reducible rfl) hS ?_
      (try simp only [Act.put, List.setIfInBounds_toArray, List.set_cons_zero, List.set_cons_succ])
      refine reg_two 8 9 rfl rfl (by kernel_rfl) (by rfl) (by rfl) (fun K hK => ?_) (fun K hK => ?_)
      · go_simp
        refine hK.out _ _ (KP1.out _ _ (bel0 _ _) hS) (fun hS' => ?_)
        clear hK K hS
        have hS := hS'
        clear hS'
        try (try simp only [Act.put, List.setIfInBounds_toArray, List.set_cons_zero, List.set_cons_succ])
        have hbe : Below y1.heap.size y1 (y1.alloc (.cells #[.int .i64 0, .int .i64 0, .slice none 0 0, .int .i64 0, .int .i64 0] 62)) := bel0 _ _
        have HX8 := Lib.hid (BoxQ.new y1 0 0 (.slice none 0 0) 0 0 62)
        have hzV2 : (y1.alloc (.cells #[.int .i64 0, .int .i64 0, .slice none 0 0, .int .i64 0, .int .i64 0] 62)).heap.size ≤ y1.heap.size + 1 ∧ y1.heap.size + 1 ≤ (y1.alloc (.cells #[.int .i64 0, .int .i64 0, .slice none 0 0, .int .i64 0, .int .i64 0] 62)).heap.size := by simp
        have RA0 := Lib.hid (RA0.out.below (hbe.mono (by omega)))
        have RB0 := Lib.hid (RB0.out.below (hbe.mono (by omega)))
        obtain ⟨V2, hV⟩ : ∃ V, V = y1.alloc (.cells #[.int .i64 0, .int .i64 0, .slice none 0 0, .int .i64 0, .int .i64 0] 62) := ⟨_, rfl⟩
        rw [← hV] at hS HX8 hzV2 RA0 RB0 ⊢
        clear hV hbe
        refine reg_call 9 rfl (by kernel_rfl) (by rfl) (fun K hK => ?_)
        go_simp
        refine hK.out _ _ (KP1.out _ _ (bel0 _ _) hS) (fun hS' => ?_)
        clear hK K hS
        have hS := hS'
        clear hS'
        try (try simp only [Act.put, List.setIfInBounds_toArray, List.set_cons_zero, List.set_cons_succ])
        have hbe : Below V2.heap.size V2 (V2.alloc (.cells #[.int .i64 0, .int .i64 0, .slice none 0 0, .int .i64 0, .int .i64 0] 62)) := bel0 _ _
        have HX9 := Lib.hid (BoxQ.new V2 0 0 (.slice none 0 0) 0 0 62)
        have hzV3 : (V2.alloc (.cells #[.int .i64 0, .int .i64 0, .slice none 0 0, .int .i64 0, .int .i64 0] 62)).heap.size ≤ V2.heap.size + 1 ∧ V2.heap.size + 1 ≤ (V2.alloc (.cells #[.int .i64 0, .int .i64 0, .slice none 0 0, .int .i64 0, .int .i64 0] 62)).heap.size := by simp
        have HX8 := Lib.hid (HX8.out.below hbe (by omega))
        have RA0 := Lib.hid (RA0.out.below (hbe.mono (by omega)))
        have RB0 := Lib.hid (RB0.out.below (hbe.mono (by omega)))
        obtain ⟨V3, hV⟩ : ∃ V, V = V2.alloc (.cells #[.int .i64 0, .int .i64 0, .slice none 0 0, .int .i64 0, .int .i64 0] 62) := ⟨_, rfl⟩
        rw [← hV] at hS HX8 HX9 hzV3 RA0 RB0 ⊢
        clear hV hbe
        clear KP1
        refine reg_call 10 rfl (by kernel_rfl) (by rfl) (fun K hK => ?_)
        have ec0 := HX8.out.1.1
        have ec1 := HX8.out.1.2.1
        have ec2 := HX8.out.1.2.2.1
        have ec3 := HX8.out.1.2.2.2.1
        have ec4 := HX8.out.1.2.2.2.2
        have ef0 := HX8.out.2.1
        have ef1 := HX8.out.2.2.1
        have ef2 := HX8.out.2.2.2.1
        have ef3 := HX8.out.2.2.2.2.1
        have ef4 := HX8.out.2.2.2.2.2
        go_simp
        refine hK.out _ _ (KS1.out _ y1.heap.size (.int .i64 M1) (.int .i64 N1) (.slice aA L1.length cA) (.int .i64 0) (.int .i64 0) (by omega) hS) (fun hS' => ?_)
        clear hK K hS ec0 ef0 ec1 ef1 ec2 ef2 ec3 ef3 ec4 ef4
        have hS := hS'
        clear hS'
        try (try simp only [Act.put, List.setIfInBounds_toArray, List.set_cons_zero, List.set_cons_succ])
        have HX8 : Hid (BoxQ y1.heap.size M1 N1 (.slice aA L1.length cA) 0 0 (set5 V3 y1.heap.size (.int .i64 M1) (.int .i64 N1) (.slice aA L1.length cA) (.int .i64 0) (.int .i64 0))) := Lib.hid (BoxQ.put5 HX8.out)
        have HX9 : Hid (BoxQ V2.heap.size 0 0 (.slice none 0 0) 0 0 (set5 V3 y1.heap.size (.int .i64 M1) (.int .i64 N1) (.slice aA L1.length cA) (.int .i64 0) (.int .i64 0))) := Lib.hid (BoxQ.far5 HX9.out (show y1.heap.size ≠ V2.heap.size by omega))
        have RA0 : Hid (PatIn _ _ (set5 V3 y1.heap.size (.int .i64 M1) (.int .i64 N1) (.slice aA L1.length cA) (.int .i64 0) (.int .i64 0)) _ _) := Lib.hid (row5 RA0.out (by omega) (by first | omega | (simp [World.setCell] <;> omega)))
        have RB0 : Hid (PatIn _ _ (set5 V3 y1.heap.size (.int .i64 M1) (.int .i64 N1) (.slice aA L1.length cA) (.int .i64 0) (.int .i64 0)) _ _) := Lib.hid (row5 RB0.out (by omega) (by first | omega | (simp [World.setCell] <;> omega)))
        refine reg_call 11 rfl (by kernel_rfl) (by rfl) (fun K hK => ?_)
        have ec0 := HX9.out.1.1
        have ec1 := HX9.out.1.2.1
        have ec2 := HX9.out.1.2.2.1
        have ec3 := HX9.out.1.2.2.2.1
        have ec4 := HX9.out.1.2.2.2.2
        have ef0 := HX9.out.2.1
        have ef1 := HX9.out.2.2.1
        have ef2 := HX9.out.2.2.2.1
        have ef3 := HX9.out.2.2.2.2.1
        have ef4 := HX9.out.2.2.2.2.2
        go_simp
        refine hK.out _ _ (KS1.out _ V2.heap.size (.int .i64 M2) (.int .i64 N2) (.slice aB L2.length cB) (.int .i64 X2) (.int .i64 Y2) (by omega) hS) (fun hS' => ?_)
        clear hK K hS ec0 ef0 ec1 ef1 ec2 ef2 ec3 ef3 ec4 ef4
        have hS := hS'
        clear hS'
        try (try simp only [Act.put, List.setIfInBounds_toArray, List.set_cons_zero, List.set_cons_succ])
        have HX9 : Hid (BoxQ V2.heap.size M2 N2 (.slice aB L2.length cB) X2 Y2 (set5 (set5 V3 y1.heap.size (.int .i64 M1) (.int .i64 N1) (.slice aA L1.length cA) (.int .i64 0) (.int .i64 0)) V2.heap.size (.int .i64 M2) (.int .i64 N2) (.slice aB L2.length cB) (.int .i64 X2) (.int .i64 Y2))) := Lib.hid (BoxQ.put5 HX9.out)
        have HX8 : Hid (BoxQ y1.heap.size M1 N1 (.slice aA L1.length cA) 0 0 (set5 (set5 V3 y1.heap.size (.int .i64 M1) (.int .i64 N1) (.slice aA L1.length cA) (.int .i64 0) (.int .i64 0)) V2.heap.size (.int .i64 M2) (.int .i64 N2) (.slice aB L2.length cB) (.int .i64 X2) (.int .i64 Y2))) := Lib.hid (BoxQ.far5 HX8.out (show V2.heap.size ≠ y1.heap.size by omega))
        have RA0 : Hid (PatIn _ _ (set5 (set5 V3 y1.heap.size (.int .i64 M1) (.int .i64 N1) (.slice aA L1.length cA) (.int .i64 0) (.int .i64 0)) V2.heap.size (.int .i64 M2) (.int .i64 N2) (.slice aB L2.length cB) (.int .i64 X2) (.int .i64 Y2)) _ _) := Lib.hid (row5 RA0.out (by omega) (by first | omega | (simp [World.setCell] <;> omega)))
        have RB0 : Hid (PatIn _ _ (set5 (set5 V3 y1.heap.size (.int .i64 M1) (.int .i64 N1) (.slice aA L1.length cA) (.int .i64 0) (.int .i64 0)) V2.heap.size (.int .i64 M2) (.int .i64 N2) (.slice aB L2.length cB) (.int .i64 X2) (.int .i64 Y2)) _ _) := Lib.hid (row5 RB0.out (by omega) (by first | omega | (simp [World.setCell] <;> omega)))
        refine wpAnyH_done (by kernel_rfl) ?_ _
        have HBW := Lib.hid hS.2.2.2.2.2
        clear hS
        go_wp2_with fail
        go_meet
        exact ⟨_, _, _, _, k, _, rfl, rfl, HX8, HX9, Lib.hid (RA0.out.wide (by omega) (Nat.le_refl _)), Lib.hid (RB0.out.wide (by omega) (Nat.le_refl _)), by simp [World.setCell] <;> omega, by simp [World.setCell] <;> omega, HBW⟩
      · go_simp
        refine hK.out _ _ (KP1.out _ _ (bel0 _ _) hS) (fun hS' => ?_)
        clear hK K hS
        have hS := hS'
        clear hS'
        try (try simp only [Act.put, List.setIfInBounds_toArray, List.set_cons_zero, List.set_cons_succ])
        have hbe : Below y1.heap.size y1 (y1.alloc (.cells #[.int .i64 0, .int .i64 0, .slice none 0 0, .int .i64 0, .int .i64 0] 62)) := bel0 _ _
        have HX9 := Lib.hid (BoxQ.new y1 0 0 (.slice none 0 0) 0 0 62)
        have hzV2 : (y1.alloc (.cells #[.int .i64 0, .int .i64 0, .slice none 0 0, .int .i64 0, .int .i64 0] 62)).heap.size ≤ y1.heap.size + 1 ∧ y1.heap.size + 1 ≤ (y1.alloc (.cells #[.int .i64 0, .int .i64 0, .slice none 0 0, .int .i64 0, .int .i64 0] 62)).heap.size := by simp
        have RA0 := Lib.hid (RA0.out.below (hbe.mono (by omega)))
        have RB0 := Lib.hid (RB0.out.below (hbe.mono (by omega)))
        obtain ⟨V2, hV⟩ : ∃ V, V = y1.alloc (.cells #[.int .i64 0, .int .i64 0, .slice none 0 0, .int .i64 0, .int .i64 0] 62) := ⟨_, rfl⟩
        rw [← hV] at hS HX9 hzV2 RA0 RB0 ⊢
        clear hV hbe
        refine reg_call 8 rfl (by kernel_rfl) (by rfl) (fun K hK => ?_)
        go_simp
        refine hK.out _ _ (KP1.out _ _ (bel0 _ _) hS) (fun hS' => ?_)
        clear hK K hS
        have hS := hS'
        clear hS'
        try (try simp only [Act.put, List.setIfInBounds_toArray, List.set_cons_zero, List.set_cons_succ])
        have hbe : Below V2.heap.size V2 (V2.alloc (.cells #[.int .i64 0, .int .i64 0, .slice none 0 0, .int .i64 0, .int .i64 0] 62)) := bel0 _ _
        have HX8 := Lib.hid (BoxQ.new V2 0 0 (.slice none 0 0) 0 0 62)
        have hzV3 : (V2.alloc (.cells #[.int .i64 0, .int .i64 0, .slice none 0 0, .int .i64 0, .int .i64 0] 62)).heap.size ≤ V2.heap.size + 1 ∧ V2.heap.size + 1 ≤ (V2.alloc (.cells #[.int .i64 0, .int .i64 0, .slice none 0 0, .int .i64 0, .int .i64 0] 62)).heap.size := by simp
        have HX9 := Lib.hid (HX9.out.below hbe (by omega))
        have RA0 := Lib.hid (RA0.out.below (hbe.mono (by omega)))
        have RB0 := Lib.hid (RB0.out.below (hbe.mono (by omega)))
        obtain ⟨V3, hV⟩ : ∃ V, V = V2.alloc (.cells #[.int .i64 0, .int .i64 0, .slice none 0 0, .int .i64 0, .int .i64 0] 62) := ⟨_, rfl⟩
        rw [← hV] at hS HX9 HX8 hzV3 RA0 RB0 ⊢
        clear hV hbe
        clear KP1
        refine reg_call 10 rfl (by kernel_rfl) (by rfl) (fun K hK => ?_)
        have ec0 := HX8.out.1.1
        have ec1 := HX8.out.1.2.1
        have ec2 := HX8.out.1.2.2.1
        have ec3 := HX8.out.1.2.2.2.1
        have ec4 := HX8.out.1.2.2.2.2
        have ef0 := HX8.out.2.1
        have ef1 := HX8.out.2.2.1
        have ef2 := HX8.out.2.2.2.1
        have ef3 := HX8.out.2.2.2.2.1
        have ef4 := HX8.out.2.2.2.2.2
        go_simp
        refine hK.out _ _ (KS1.out _ V2.heap.size (.int .i64 M1) (.int .i64 N1) (.slice aA L1.length cA) (.int .i64 0) (.int .i64 0) (by omega) hS) (fun hS' => ?_)
        clear hK K hS ec0 ef0 ec1 ef1 ec2 ef2 ec3 ef3 ec4 ef4
        have hS := hS'
        clear hS'
        try (try simp only [Act.put, List.setIfInBounds_toArray, List.set_cons_zero, List.set_cons_succ])
        have HX8 : Hid (BoxQ V2.heap.size M1 N1 (.slice aA L1.length cA) 0 0 (set5 V3 V2.heap.size (.int .i64 M1) (.int .i64 N1) (.slice aA L1.length cA) (.int .i64 0) (.int .i64 0))) := Lib.hid (BoxQ.put5 HX8.out)
        have HX9 : Hid (BoxQ y1.heap.size 0 0 (.slice none 0 0) 0 0 (set5 V3 V2.heap.size (.int .i64 M1) (.int .i64 N1) (.slice aA L1.length cA) (.int .i64 0) (.int .i64 0))) := Lib.hid (BoxQ.far5 HX9.out (show V2.heap.size ≠ y1.heap.size by omega))
        have RA0 : Hid (PatIn _ _ (set5 V3 V2.heap.size (.int .i64 M1) (.int .i64 N1) (.slice aA L1.length cA) (.int .i64 0) (.int .i64 0)) _ _) := Lib.hid (row5 RA0.out (by omega) (by first | omega | (simp [World.setCell] <;> omega)))
        have RB0 : Hid (PatIn _ _ (set5 V3 V2.heap.size (.int .i64 M1) (.int .i64 N1) (.slice aA L1.length cA) (.int .i64 0) (.int .i64 0)) _ _) := Lib.hid (row5 RB0.out (by omega) (by first | omega | (simp [World.setCell] <;> omega)))
        refine reg_call 11 rfl (by kernel_rfl) (by rfl) (fun K hK => ?_)
        have ec0 := HX9.out.1.1
        have ec1 := HX9.out.1.2.1
        have ec2 := HX9.out.1.2.2.1
        have ec3 := HX9.out.1.2.2.2.1
        have ec4 := HX9.out.1.2.2.2.2
        have ef0 := HX9.out.2.1
        have ef1 := HX9.out.2.2.1
        have ef2 := HX9.out.2.2.2.1
        have ef3 := HX9.out.2.2.2.2.1
        have ef4 := HX9.out.2.2.2.2.2
        go_simp
        refine hK.out _ _ (KS1.out _ y1.heap.size (.int .i64 M2) (.int .i64 N2) (.slice aB L2.length cB) (.int .i64 X2) (.int .i64 Y2) (by omega) hS) (fun hS' => ?_)
        clear hK K hS ec0 ef0 ec1 ef1 ec2 ef2 ec3 ef3 ec4 ef4
        have hS := hS'
        clear hS'
        try (try simp only [Act.put, List.setIfInBounds_toArray, List.set_cons_zero, List.set_cons_succ])
        have HX9 : Hid (BoxQ y1.heap.size M2 N2 (.slice aB L2.length cB) X2 Y2 (set5 (set5 V3 V2.heap.size (.int .i64 M1) (.int .i64 N1) (.slice aA L1.length cA) (.int .i64 0) (.int .i64 0)) y1.heap.size (.int .i64 M2) (.int .i64 N2) (.slice aB L2.length cB) (.int .i64 X2) (.int .i64 Y2))) := Lib.hid (BoxQ.put5 HX9.out)
        have HX8 : Hid (BoxQ V2.heap.size M1 N1 (.slice aA L1.length cA) 0 0 (set5 (set5 V3 V2.heap.size (.int .i64 M1) (.int .i64 N1) (.slice aA L1.length cA) (.int .i64 0) (.int .i64 0)) y1.heap.size (.int .i64 M2) (.int .i64 N2) (.slice aB L2.length cB) (.int .i64 X2) (.int .i64 Y2))) := Lib.hid (BoxQ.far5 HX8.out (show y1.heap.size ≠ V2.heap.size by omega))
        have RA0 : Hid (PatIn _ _ (set5 (set5 V3 V2.heap.size (.int .i64 M1) (.int .i64 N1) (.slice aA L1.length cA) (.int .i64 0) (.int .i64 0)) y1.heap.size (.int .i64 M2) (.int .i64 N2) (.slice aB L2.length cB) (.int .i64 X2) (.int .i64 Y2)) _ _) := Lib.hid (row5 RA0.out (by omega) (by first | omega | (simp [World.setCell] <;> omega)))
        have RB0 : Hid (PatIn _ _ (set5 (set5 V3 V2.heap.size (.int .i64 M1) (.int .i64 N1) (.slice aA L1.length cA) (.int .i64 0) (.int .i64 0)) y1.heap.size (.int .i64 M2) (.int .i64 N2) (.slice aB L2.length cB) (.int .i64 X2) (.int .i64 Y2)) _ _) := Lib.hid (row5 RB0.out (by omega) (by first | omega | (simp [World.setCell] <;> omega)))
        refine wpAnyH_done (by kernel_rfl) ?_ _
        have HBW := Lib.hid hS.2.2.2.2.2
        clear hS
        go_wp2_with fail
        go_meet
        exact ⟨_, _, _, _, k, _, rfl, rfl, HX8, HX9, Lib.hid (RA0.out.wide (by omega) (Nat.le_refl _)), Lib.hid (RB0.out.wide (by omega) (Nat.le_refl _)), by simp [World.setCell] <;> omega, by simp [World.setCell] <;> omega, HBW⟩
    · go_simp
      refine hK.out _ _ (KP1.out _ _ (bel0 _ _) hS) (fun hS' => ?_)
      clear hK K hS
      have hS := hS'
      clear hS'
      try (try simp only [Act.put, List.setIfInBounds_toArray, List.set_cons_zero, List.set_cons_succ])
      have hbe : Below U0.heap.size U0 (U0.alloc (.cells #[.int .i64 0, .int .i64 0, .slice none 0 0, .int .i64 0, .int .i64 0] 62)) := bel0 _ _
      have HX8 := Lib.hid (BoxQ.new U0 0 0 (.slice none 0 0) 0 0 62)
      have hzV1 : (U0.alloc (.cells #[.int .i64 0, .int .i64 0, .slice none 0 0, .int .i64 0, .int .i64 0] 62)).heap.size ≤ U0.heap.size + 1 ∧ U0.heap.size + 1 ≤ (U0.alloc (.cells #[.int .i64 0, .int .i64 0, .slice none 0 0, .int .i64 0, .int .i64 0] 62)).heap.size := by simp
      obtain ⟨V1, hV⟩ : ∃ V, V = U0.alloc (.cells #[.int .i64 0, .int .i64 0, .slice none 0 0, .int .i64 0, .int .i64 0] 62) := ⟨_, rfl⟩
      rw [← hV] at hS HX8 hzV1 ⊢
      clear hV hbe
      refine reg_two 4 9 rfl rfl (by kernel_rfl) (by rfl) (by rfl) (fun K hK => ?_) (fun K hK => ?_)
      · go_simp
        go_at_call 70
        refine (args_eqL (CS.out _ hS) (by with_reducible rfl)).mono ?_
        rintro e y2 ⟨vA, vB, k, rfl, RA, RB, hk1, hk2, hb⟩
        have RA0 := Lib.hid RA
        have RB0 := Lib.hid RB
        obtain ⟨aA, cA, rfl⟩ := RA.form
        obtain ⟨aB, cB, rfl⟩ := RB.form
        clear RA RB
        have hzy2 := hb.size
        have HX8 := Lib.hid (HX8.out.below hb (by omega))
        refine hK.out _ _ (KP1.out _ _ hb hS) (fun hS' => ?_)
        clear hK K hS
        have hS := hS'
        clear hS'
        try (try simp only [Act.put, List.setIfInBounds_toArray, List.set_cons_zero, List.set_cons_succ])
        clear hb
        refine reg_take 5 (v := ?_) rfl (by kernel_rfl) (by kernel_rfl) (by kernel_rfl) (fun _ _ _ h => h) (by rfl) (by intro w hSw; (try dsimp only at hSw); go_simp; first | done | with_reducible rfl) hS ?_
        (try simp only [Act.put, List.setIfInBounds_toArray, List.set_cons_zero, List.set_cons_succ])
        refine reg_take 6 (v := ?_) rfl (by kernel_rfl) (by kernel_rfl) (by kernel_rfl) (fun _ _ _ h => h) (by rfl) (by intro w hSw; (try dsimp only at hSw); go_simp; first | done | with_reducible rfl) hS ?_
        (try simp only [Act.put, List.setIfInBounds_toArray, List.set_cons_zero, List.set_cons_succ])
        refine reg_take 7 (v := ?_) rfl (by kernel_rfl) (by kernel_rfl) (by kernel_rfl) (fun _ _ _ h => h) (by rfl) (by intro w hSw; (try dsimp only at hSw); go_simp; first | done | with_reducible rfl) hS ?_
        (try simp only [Act.put, List.setIfInBounds_toArray, List.set_cons_zero, List.set_cons_succ])
        refine reg_call 9 rfl (by kernel_rfl) (by rfl) (fun K hK => ?_)
        go_simp
        refine hK.out _ _ (KP1.out _ _ (bel0 _ _) hS) (fun hS' => ?_)
        clear hK K hS
        have hS := hS'
        clear hS'
        try (try simp only [Act.put, List.setIfInBounds_toArray, List.set_cons_zero, List.set_cons_succ])
        have hbe : Below y2.heap.size y2 (y2.alloc (.cells #[.int .i64 0, .int .i64 0, .slice none 0 0, .int .i64 0, .int .i64 0] 62)) := bel0 _ _
        have HX9 := Lib.hid (BoxQ.new y2 0 0 (.slice none 0 0) 0 0 62)
        have hzV3 : (y2.alloc (.cells #[.int .i64 0, .int .i64 0, .slice none 0 0, .int .i64 0, .int .i64 0] 62)).heap.size ≤ y2.heap.size + 1 ∧ y2.heap.size + 1 ≤ (y2.alloc (.cells #[.int .i64 0, .int .i64 0, .slice none 0 0, .int .i64 0, .int .i64 0] 62)).heap.size := by simp
        have HX8 := Lib.hid (HX8.out.below hbe (by omega))
        have RA0 := Lib.hid (RA0.out.below (hbe.mono (by omega)))
        have RB0 := Lib.hid (RB0.out.below (hbe.mono (by omega)))
        obtain ⟨V3, hV⟩ : ∃ V, V = y2.alloc (.cells #[.int .i64 0, .int .i64 0, .slice none 0 0, .int .i64 0, .int .i64 0] 62) := ⟨_, rfl⟩
        rw [← hV] at hS HX8 HX9 hzV3 RA0 RB0 ⊢
        clear hV hbe
        clear KP1
        refine reg_call 10 rfl (by kernel_rfl) (by rfl) (fun K hK => ?_)
        have ec0 := HX8.out.1.1
        have ec1 := HX8.out.1.2.1
        have ec2 := HX8.out.1.2.2.1
        have ec3 := HX8.out.1.2.2.2.1
        have ec4 := HX8.out.1.2.2.2.2
        have ef0 := HX8.out.2.1
        have ef1 := HX8.out.2.2.1
        have ef2 := HX8.out.2.2.2.1
        have ef3 := HX8.out.2.2.2.2.1
        have ef4 := HX8.out.2.2.2.2.2
        go_simp
        refine hK.out _ _ (KS1.out _ U0.heap.size (.int .i64 M1) (.int .i64 N1) (.slice aA L1.length cA) (.int .i64 0) (.int .i64 0) (by omega) hS) (fun hS' => ?_)
        clear hK K hS ec0 ef0 ec1 ef1 ec2 ef2 ec3 ef3 ec4 ef4
        have hS := hS'
        clear hS'
        try (try simp only [Act.put, List.setIfInBounds_toArray, List.set_cons_zero, List.set_cons_succ])
        have HX8 : Hid (BoxQ U0.heap.size M1 N1 (.slice aA L1.length cA) 0 0 (set5 V3 U0.heap.size (.int .i64 M1) (.int .i64 N1) (.slice aA L1.length cA) (.int .i64 0) (.int .i64 0))) := Lib.hid (BoxQ.put5 HX8.out)
        have HX9 : Hid (BoxQ y2.heap.size 0 0 (.slice none 0 0) 0 0 (set5 V3 U0.heap.size (.int .i64 M1) (.int .i64 N1) (.slice aA L1.length cA) (.int .i64 0) (.int .i64 0))) := Lib.hid (BoxQ.far5 HX9.out (show U0.heap.size ≠ y2.heap.size by omega))
        have RA0 : Hid (PatIn _ _ (set5 V3 U0.heap.size (.int .i64 M1) (.int .i64 N1) (.slice aA L1.length cA) (.int .i64 0) (.int .i64 0)) _ _) := Lib.hid (row5 RA0.out (by omega) (by first | omega | (simp [World.setCell] <;> omega)))
        have RB0 : Hid (PatIn _ _ (set5 V3 U0.heap.size (.int .i64 M1) (.int .i64 N1) (.slice aA L1.length cA) (.int .i64 0) (.int .i64 0)) _ _) := Lib.hid (row5 RB0.out (by omega) (by first | omega | (simp [World.setCell] <;> omega)))
        refine reg_call 11 rfl (by kernel_rfl) (by rfl) (fun K hK => ?_)
        have ec0 := HX9.out.1.1
        have ec1 := HX9.out.1.2.1
        have ec2 := HX9.out.1.2.2.1
        have ec3 := HX9.out.1.2.2.2.1
        have ec4 := HX9.out.1.2.2.2.2
        have ef0 := HX9.out.2.1
        have ef1 := HX9.out.2.2.1
        have ef2 := HX9.out.2.2.2.1
        have ef3 := HX9.out.2.2.2.2.1
        have ef4 := HX9.out.2.2.2.2.2
        go_simp
        refine hK.out _ _ (KS1.out _ y2.heap.size (.int .i64 M2) (.int .i64 N2) (.slice aB L2.length cB) (.int .i64 X2) (.int .i64 Y2) (by omega) hS) (fun hS' => ?_)
        clear hK K hS ec0 ef0 ec1 ef1 ec2 ef2 ec3 ef3 ec4 ef4
        have hS := hS'
        clear hS'
        try (try simp only [Act.put, List.setIfInBounds_toArray, List.set_cons_zero, List.set_cons_succ])
        have HX9 : Hid (BoxQ y2.heap.size M2 N2 (.slice aB L2.length cB) X2 Y2 (set5 (set5 V3 U0.heap.size (.int .i64 M1) (.int .i64 N1) (.slice aA L1.length cA) (.int .i64 0) (.int .i64 0)) y2.heap.size (.int .i64 M2) (.int .i64 N2) (.slice aB L2.length cB) (.int .i64 X2) (.int .i64 Y2))) := Lib.hid (BoxQ.put5 HX9.out)
        have HX8 : Hid (BoxQ U0.heap.size M1 N1 (.slice aA L1.length cA) 0 0 (set5 (set5 V3 U0.heap.size (.int .i64 M1) (.int .i64 N1) (.slice aA L1.length cA) (.int .i64 0) (.int .i64 0)) y2.heap.size (.int .i64 M2) (.int .i64 N2) (.slice aB L2.length cB) (.int .i64 X2) (.int .i64 Y2))) := Lib.hid (BoxQ.far5 HX8.out (show y2.heap.size ≠ U0.heap.size by omega))
        have RA0 : Hid (PatIn _ _ (set5 (set5 V3 U0.heap.size (.int .i64 M1) (.int .i64 N1) (.slice aA L1.length cA) (.int .i64 0) (.int .i64 0)) y2.heap.size (.int .i64 M2) (.int .i64 N2) (.slice aB L2.length cB) (.int .i64 X2) (.int .i64 Y2)) _ _) := Lib.hid (row5 RA0.out (by omega) (by first | omega | (simp [World.setCell] <;> omega)))
        have RB0 : Hid (PatIn _ _ (set5 (set5 V3 U0.heap.size (.int .i64 M1) (.int .i64 N1) (.slice aA L1.length cA) (.int .i64 0) (.int .i64 0)) y2.heap.size (.int .i64 M2) (.int .i64 N2) (.slice aB L2.length cB) (.int .i64 X2) (.int .i64 Y2)) _ _) := Lib.hid (row5 RB0.out (by omega) (by first | omega | (simp [World.setCell] <;> omega)))
        refine wpAnyH_done (by kernel_rfl) ?_ _
        have HBW := Lib.hid hS.2.2.2.2.2
        clear hS
        go_wp2_with fail
        go_meet
        exact ⟨_, _, _, _, k, _, rfl, rfl, HX8, HX9, Lib.hid (RA0.out.wide (by omega) (Nat.le_refl _)), Lib.hid (RB0.out.wide (by omega) (Nat.le_refl _)), by simp [World.setCell] <;> omega, by simp [World.setCell] <;> omega, HBW⟩
      · go_simp
        refine hK.out _ _ (KP1.out _ _ (bel0 _ _) hS) (fun hS' => ?_)
        clear hK K hS
        have hS := hS'
        clear hS'
        try (try simp only [Act.put, List.setIfInBounds_toArray, List.set_cons_zero, List.set_cons_succ])
        have hbe : Below V1.heap.size V1 (V1.alloc (.cells #[.int .i64 0, .int .i64 0, .slice none 0 0, .int .i64 0, .int .i64 0] 62)) := bel0 _ _
        have HX9 := Lib.hid (BoxQ.new V1 0 0 (.slice none 0 0) 0 0 62)
        have hzV2 : (V1.alloc (.cells #[.int .i64 0, .int .i64 0, .slice none 0 0, .int .i64 0, .int .i64 0] 62)).heap.size ≤ V1.heap.size + 1 ∧ V1.heap.size + 1 ≤ (V1.alloc (.cells #[.int .i64 0, .int .i64 0, .slice none 0 0, .int .i64 0, .int .i64 0] 62)).heap.size := by simp
        have HX8 := Lib.hid (HX8.out.below hbe (by omega))
        obtain ⟨V2, hV⟩ : ∃ V, V = V1.alloc (.cells #[.int .i64 0, .int .i64 0, .slice none 0 0, .int .i64 0, .int .i64 0] 62) := ⟨_, rfl⟩
        rw [← hV] at hS HX8 HX9 hzV2 ⊢
        clear hV hbe
        refine reg_call 4 rfl (by kernel_rfl) (by rfl) (fun K hK => ?_)
        go_simp
        go_at_call 70
        refine (args_eqL (CS.out _ hS) (by with_reducible rfl)).mono ?_
        rintro e y3 ⟨vA, vB, k, rfl, RA, RB, hk1, hk2, hb⟩
        have RA0 := Lib.hid RA
        have RB0 := Lib.hid RB
        obtain ⟨aA, cA, rfl⟩ := RA.form
        obtain ⟨aB, cB, rfl⟩ := RB.form
        clear RA RB
        have hzy3 := hb.size
        have HX8 := Lib.hid (HX8.out.below hb (by omega))
        have HX9 := Lib.hid (HX9.out.below hb (by omega))
        refine hK.out _ _ (KP1.out _ _ hb hS) (fun hS' => ?_)
        clear hK K hS
        have hS := hS'
        clear hS'
        try (try simp only [Act.put, List.setIfInBounds_toArray, List.set_cons_zero, List.set_cons_succ])
        clear hb
        refine reg_take 5 (v := ?_) rfl (by kernel_rfl) (by kernel_rfl) (by kernel_rfl) (fun _ _ _ h => h) (by rfl) (by intro w hSw; (try dsimp only at hSw); go_simp; first | done | with_reducible rfl) hS ?_
        (try simp only [Act.put, List.setIfInBounds_toArray, List.set_cons_zero, List.set_cons_succ])
        refine reg_take 6 (v := ?_) rfl (by kernel_rfl) (by kernel_rfl) (by kernel_rfl) (fun _ _ _ h => h) (by rfl) (by intro w hSw; (try dsimp only at hSw); go_simp; first | done | with_reducible rfl) hS ?_
        (try simp only [Act.put, List.setIfInBounds_toArray, List.set_cons_zero, List.set_cons_succ])
        refine reg_take 7 (v := ?_) rfl (by kernel_rfl) (by kernel_rfl) (by kernel_rfl) (fun _ _ _ h => h) (by rfl) (by intro w hSw; (try dsimp only at hSw); go_simp; first | done | with_reducible rfl) hS ?_
        (try simp only [Act.put, List.setIfInBounds_toArray, List.set_cons_zero, List.set_cons_succ])
        clear KP1
        refine reg_call 10 rfl (by kernel_rfl) (by rfl) (fun K hK => ?_)
        have ec0 := HX8.out.1.1
        have ec1 := HX8.out.1.2.1
        have ec2 := HX8.out.1.2.2.1
        have ec3 := HX8.out.1.2.2.2.1
        have ec4 := HX8.out.1.2.2.2.2
        have ef0 := HX8.out.2.1
        have ef1 := HX8.out.2.2.1
        have ef2 := HX8.out.2.2.2.1
        have ef3 := HX8.out.2.2.2.2.1
        have ef4 := HX8.out.2.2.2.2.2
        go_simp
        refine hK.out _ _ (KS1.out _ U0.heap.size (.int .i64 M1) (.int .i64 N1) (.slice aA L1.length cA) (.int .i64 0) (.int .i64 0) (by omega) hS) (fun hS' => ?_)
        clear hK K hS ec0 ef0 ec1 ef1 ec2 ef2 ec3 ef3 ec4 ef4
        have hS := hS'
        clear hS'
        try (try simp only [Act.put, List.setIfInBounds_toArray, List.set_cons_zero, List.set_cons_succ])
        have HX8 : Hid (BoxQ U0.heap.size M1 N1 (.slice aA L1.length cA) 0 0 (set5 y3 U0.heap.size (.int .i64 M1) (.int .i64 N1) (.slice aA L1.length cA) (.int .i64 0) (.int .i64 0))) := Lib.hid (BoxQ.put5 HX8.out)
        have HX9 : Hid (BoxQ V1.heap.size 0 0 (.slice none 0 0) 0 0 (set5 y3 U0.heap.size (.int .i64 M1) (.int .i64 N1) (.slice aA L1.length cA) (.int .i64 0) (.int .i64 0))) := Lib.hid (BoxQ.far5 HX9.out (show U0.heap.size ≠ V1.heap.size by omega))
        have RA0 : Hid (PatIn _ _ (set5 y3 U0.heap.size (.int .i64 M1) (.int .i64 N1) (.slice aA L1.length cA) (.int .i64 0) (.int .i64 0)) _ _) := Lib.hid (row5 RA0.out (by omega) (by first | omega | (simp [World.setCell] <;> omega)))
        have RB0 : Hid (PatIn _ _ (set5 y3 U0.heap.size (.int .i64 M1) (.int .i64 N1) (.slice aA L1.length cA) (.int .i64 0) (.int .i64 0)) _ _) := Lib.hid (row5 RB0.out (by omega) (by first | omega | (simp [World.setCell] <;> omega)))
        refine reg_call 11 rfl (by kernel_rfl) (by rfl) (fun K hK => ?_)
        have ec0 := HX9.out.1.1
        have ec1 := HX9.out.1.2.1
        have ec2 := HX9.out.1.2.2.1
        have ec3 := HX9.out.1.2.2.2.1
        have ec4 := HX9.out.1.2.2.2.2
        have ef0 := HX9.out.2.1
        have ef1 := HX9.out.2.2.1
        have ef2 := HX9.out.2.2.2.1
        have ef3 := HX9.out.2.2.2.2.1
        have ef4 := HX9.out.2.2.2.2.2
        go_simp
        refine hK.out _ _ (KS1.out _ V1.heap.size (.int .i64 M2) (.int .i64 N2) (.slice aB L2.length cB) (.int .i64 X2) (.int .i64 Y2) (by omega) hS) (fun hS' => ?_)
        clear hK K hS ec0 ef0 ec1 ef1 ec2 ef2 ec3 ef3 ec4 ef4
        have hS := hS'
        clear hS'
        try (try simp only [Act.put, List.setIfInBounds_toArray, List.set_cons_zero, List.set_cons_succ])
        have HX9 : Hid (BoxQ V1.heap.size M2 N2 (.slice aB L2.length cB) X2 Y2 (set5 (set5 y3 U0.heap.size (.int .i64 M1) (.int .i64 N1) (.slice aA L1.length cA) (.int .i64 0) (.int .i64 0)) V1.heap.size (.int .i64 M2) (.int .i64 N2) (.slice aB L2.length cB) (.int .i64 X2) (.int .i64 Y2))) := Lib.hid (BoxQ.put5 HX9.out)
        have HX8 : Hid (BoxQ U0.heap.size M1 N1 (.slice aA L1.length cA) 0 0 (set5 (set5 y3 U0.heap.size (.int .i64 M1) (.int .i64 N1) (.slice aA L1.length cA) (.int .i64 0) (.int .i64 0)) V1.heap.size (.int .i64 M2) (.int .i64 N2) (.slice aB L2.length cB) (.int .i64 X2) (.int .i64 Y2))) := Lib.hid (BoxQ.far5 HX8.out (show V1.heap.size ≠ U0.heap.size by omega))
        have RA0 : Hid (PatIn _ _ (set5 (set5 y3 U0.heap.size (.int .i64 M1) (.int .i64 N1) (.slice aA L1.length cA) (.int .i64 0) (.int .i64 0)) V1.heap.size (.int .i64 M2) (.int .i64 N2) (.slice aB L2.length cB) (.int .i64 X2) (.int .i64 Y2)) _ _) := Lib.hid (row5 RA0.out (by omega) (by first | omega | (simp [World.setCell] <;> omega)))
        have RB0 : Hid (PatIn _ _ (set5 (set5 y3 U0.heap.size (.int .i64 M1) (.int .i64 N1) (.slice aA L1.length cA) (.int .i64 0) (.int .i64 0)) V1.heap.size (.int .i64 M2) (.int .i64 N2) (.slice aB L2.length cB) (.int .i64 X2) (.int .i64 Y2)) _ _) := Lib.hid (row5 RB0.out (by omega) (by first | omega | (simp [World.setCell] <;> omega)))
        refine wpAnyH_done (by kernel_rfl) ?_ _
        have HBW := Lib.hid hS.2.2.2.2.2
        clear hS
        go_wp2_with fail
        go_meet
        exact ⟨_, _, _, _, k, _, rfl, rfl, HX8, HX9, Lib.hid (RA0.out.wide (by omega) (Nat.le_refl _)), Lib.hid (RB0.out.wide (by omega) (Nat.le_refl _)), by simp [World.setCell] <;> omega, by simp [World.setCell] <;> omega, HBW⟩
    · go_simp
      refine hK.out _ _ (KP1.out _ _ (bel0 _ _) hS) (fun hS' => ?_)
      clear hK K hS
      have hS := hS'
      clear hS'
      try (try simp only [Act.put, List.setIfInBounds_toArray, List.set_cons_zero, List.set_cons_succ])
      have hbe : Below U0.heap.size U0 (U0.alloc (.cells #[.int .i64 0, .int .i64 0, .slice none 0 0, .int .i64 0, .int .i64 0] 62)) := bel0 _ _
      have HX9 := Lib.hid (BoxQ.new U0 0 0 (.slice none 0 0) 0 0 62)
      have hzV1 : (U0.alloc (.cells #[.int .i64 0, .int .i64 0, .slice none 0 0, .int .i64 0, .int .i64 0] 62)).heap.size ≤ U0.heap.size + 1 ∧ U0.heap.size + 1 ≤ (U0.alloc (.cells #[.int .i64 0, .int .i64 0, .slice none 0 0, .int .i64 0, .int .i64 0] 62)).heap.size := by simp
      obtain ⟨V1, hV⟩ : ∃ V, V = U0.alloc (.cells #[.int .i64 0, .int .i64 0, .slice none 0 0, .int .i64 0, .int .i64 0] 62) := ⟨_, rfl⟩
      rw [← hV] at hS HX9 hzV1 ⊢
      clear hV hbe
      refine reg_two 4 8 rfl rfl (by kernel_rfl) (by rfl) (by rfl) (fun K hK => ?_) (fun K hK => ?_)
      · go_simp
        go_at_call 70
        refine (args_eqL (CS.out _ hS) (by with_reducible rfl)).mono ?_
        rintro e y2 ⟨vA, vB, k, rfl, RA, RB, hk1, hk2, hb⟩
        have RA0 := Lib.hid RA
        have RB0 := Lib.hid RB
        obtain ⟨aA, cA, rfl⟩ := RA.form
        obtain ⟨aB, cB, rfl⟩ := RB.form
        clear RA RB
        have hzy2 := hb.size
        have HX9 := Lib.hid (HX9.out.below hb (by omega))
        refine hK.out _ _ (KP1.out _ _ hb hS) (fun hS' => ?_)
        clear hK K hS
        have hS := hS'
        clear hS'
        try (try simp only [Act.put, List.setIfInBounds_toArray, List.set_cons_zero, List.set_cons_succ])
        clear hb
        refine reg_take 5 (v := ?_) rfl (by kernel_rfl) (by kernel_rfl) (by kernel_rfl) (fun _ _ _ h => h) (by rfl) (by intro w hSw; (try dsimp only at hSw); go_simp; first | done | with_reducible rfl) hS ?_
        (try simp only [Act.put, List.setIfInBounds_toArray, List.set_cons_zero, List.set_cons_succ])
        refine reg_take 6 (v := ?_) rfl (by kernel_rfl) (by kernel_rfl) (by kernel_rfl) (fun _ _ _ h => h) (by rfl) (by intro w hSw; (try dsimp only at hSw); go_simp; first | done | with_reducible rfl) hS ?_
        (try simp only [Act.put, List.setIfInBounds_toArray, List.set_cons_zero, List.set_cons_succ])
        refine reg_take 7 (v := ?_) rfl (by kernel_rfl) (by kernel_rfl) (by kernel_rfl) (fun _ _ _ h => h) (by rfl) (by intro w hSw; (try dsimp only at hSw); go_simp; first | done | with_reducible rfl) hS ?_
        (try simp only [Act.put, List.setIfInBounds_toArray, List.set_cons_zero, List.set_cons_succ])
        refine reg_call 8 rfl (by kernel_rfl) (by rfl) (fun K hK => ?_)
        go_simp
        refine hK.out _ _ (KP1.out _ _ (bel0 _ _) hS) (fun hS' => ?_)
        clear hK K hS
        have hS := hS'
        clear hS'
        try (try simp only [Act.put, List.setIfInBounds_toArray, List.set_cons_zero, List.set_cons_succ])
        have hbe : Below y2.heap.size y2 (y2.alloc (.cells #[.int .i64 0, .int .i64 0, .slice none 0 0, .int .i64 0, .int .i64 0] 62)) := bel0 _ _
        have HX8 := Lib.hid (BoxQ.new y2 0 0 (.slice none 0 0) 0 0 62)
        have hzV3 : (y2.alloc (.cells #[.int .i64 0, .int .i64 0, .slice none 0 0, .int .i64 0, .int .i64 0] 62)).heap.size ≤ y2.heap.size + 1 ∧ y2.heap.size + 1 ≤ (y2.alloc (.cells #[.int .i64 0, .int .i64 0, .slice none 0 0, .int .i64 0, .int .i64 0] 62)).heap.size := by simp
        have HX9 := Lib.hid (HX9.out.below hbe (by omega))
        have RA0 := Lib.hid (RA0.out.below (hbe.mono (by omega)))
        have RB0 := Lib.hid (RB0.out.below (hbe.mono (by omega)))
        obtain ⟨V3, hV⟩ : ∃ V, V = y2.alloc (.cells #[.int .i64 0, .int .i64 0, .slice none 0 0, .int .i64 0, .int .i64 0] 62) := ⟨_, rfl⟩
        rw [← hV] at hS HX9 HX8 hzV3 RA0 RB0 ⊢
        clear hV hbe
        clear KP1
        refine reg_call 10 rfl (by kernel_rfl) (by rfl) (fun K hK => ?_)
        have ec0 := HX8.out.1.1
        have ec1 := HX8.out.1.2.1
        have ec2 := HX8.out.1.2.2.1
        have ec3 := HX8.out.1.2.2.2.1
        have ec4 := HX8.out.1.2.2.2.2
        have ef0 := HX8.out.2.1
        have ef1 := HX8.out.2.2.1
        have ef2 := HX8.out.2.2.2.1
        have ef3 := HX8.out.2.2.2.2.1
        have ef4 := HX8.out.2.2.2.2.2
        go_simp
        refine hK.out _ _ (KS1.out _ y2.heap.size (.int .i64 M1) (.int .i64 N1) (.slice aA L1.length cA) (.int .i64 0) (.int .i64 0) (by omega) hS) (fun hS' => ?_)
        clear hK K hS ec0 ef0 ec1 ef1 ec2 ef2 ec3 ef3 ec4 ef4
        have hS := hS'
        clear hS'
        try (try simp only [Act.put, List.setIfInBounds_toArray, List.set_cons_zero, List.set_cons_succ])
        have HX8 : Hid (BoxQ y2.heap.size M1 N1 (.slice aA L1.length cA) 0 0 (set5 V3 y2.heap.size (.int .i64 M1) (.int .i64 N1) (.slice aA L1.length cA) (.int .i64 0) (.int .i64 0))) := Lib.hid (BoxQ.put5 HX8.out)
        have HX9 : Hid (BoxQ U0.heap.size 0 0 (.slice none 0 0) 0 0 (set5 V3 y2.heap.size (.int .i64 M1) (.int .i64 N1) (.slice aA L1.length cA) (.int .i64 0) (.int .i64 0))) := Lib.hid (BoxQ.far5 HX9.out (show y2.heap.size ≠ U0.heap.size by omega))
        have RA0 : Hid (PatIn _ _ (set5 V3 y2.heap.size (.int .i64 M1) (.int .i64 N1) (.slice aA L1.length cA) (.int .i64 0) (.int .i64 0)) _ _) := Lib.hid (row5 RA0.out (by omega) (by first | omega | (simp [World.setCell] <;> omega)))
        have RB0 : Hid (PatIn _ _ (set5 V3 y2.heap.size (.int .i64 M1) (.int .i64 N1) (.slice aA L1.length cA) (.int .i64 0) (.int .i64 0)) _ _) := Lib.hid (row5 RB0.out (by omega) (by first | omega | (simp [World.setCell] <;> omega)))
        refine reg_call 11 rfl (by kernel_rfl) (by rfl) (fun K hK => ?_)
        have ec0 := HX9.out.1.1
        have ec1 := HX9.out.1.2.1
        have ec2 := HX9.out.1.2.2.1
        have ec3 := HX9.out.1.2.2.2.1
        have ec4 := HX9.out.1.2.2.2.2
        have ef0 := HX9.out.2.1
        have ef1 := HX9.out.2.2.1
        have ef2 := HX9.out.2.2.2.1
        have ef3 := HX9.out.2.2.2.2.1
        have ef4 := HX9.out.2.2.2.2.2
        go_simp
        refine hK.out _ _ (KS1.out _ U0.heap.size (.int .i64 M2) (.int .i64 N2) (.slice aB L2.length cB) (.int .i64 X2) (.int .i64 Y2) (by omega) hS) (fun hS' => ?_)
        clear hK K hS ec0 ef0 ec1 ef1 ec2 ef2 ec3 ef3 ec4 ef4
        have hS := hS'
        clear hS'
        try (try simp only [Act.put, List.setIfInBounds_toArray, List.set_cons_zero, List.set_cons_succ])
        have HX9 : Hid (BoxQ U0.heap.size M2 N2 (.slice aB L2.length cB) X2 Y2 (set5 (set5 V3 y2.heap.size (.int .i64 M1) (.int .i64 N1) (.slice aA L1.length cA) (.int .i64 0) (.int .i64 0)) U0.heap.size (.int .i64 M2) (.int .i64 N2) (.slice aB L2.length cB) (.int .i64 X2) (.int .i64 Y2))) := Lib.hid (BoxQ.put5 HX9.out)
        have HX8 : Hid (BoxQ y2.heap.size M1 N1 (.slice aA L1.length cA) 0 0 (set5 (set5 V3 y2.heap.size (.int .i64 M1) (.int .i64 N1) (.slice aA L1.length cA) (.int .i64 0) (.int .i64 0)) U0.heap.size (.int .i64 M2) (.int .i64 N2) (.slice aB L2.length cB) (.int .i64 X2) (.int .i64 Y2))) := Lib.hid (BoxQ.far5 HX8.out (show U0.heap.size ≠ y2.heap.size by omega))
        have RA0 : Hid (PatIn _ _ (set5 (set5 V3 y2.heap.size (.int .i64 M1) (.int .i64 N1) (.slice aA L1.length cA) (.int .i64 0) (.int .i64 0)) U0.heap.size (.int .i64 M2) (.int .i64 N2) (.slice aB L2.length cB) (.int .i64 X2) (.int .i64 Y2)) _ _) := Lib.hid (row5 RA0.out (by omega) (by first | omega | (simp [World.setCell] <;> omega)))
        have RB0 : Hid (PatIn _ _ (set5 (set5 V3 y2.heap.size (.int .i64 M1) (.int .i64 N1) (.slice aA L1.length cA) (.int .i64 0) (.int .i64 0)) U0.heap.size (.int .i64 M2) (.int .i64 N2) (.slice aB L2.length cB) (.int .i64 X2) (.int .i64 Y2)) _ _) := Lib.hid (row5 RB0.out (by omega) (by first | omega | (simp [World.setCell] <;> omega)))
        refine wpAnyH_done (by kernel_rfl) ?_ _
        have HBW := Lib.hid hS.2.2.2.2.2
        clear hS
        go_wp2_with fail
        go_meet
        exact ⟨_, _, _, _, k, _, rfl, rfl, HX8, HX9, Lib.hid (RA0.out.wide (by omega) (Nat.le_refl _)), Lib.hid (RB0.out.wide (by omega) (Nat.le_refl _)), by simp [World.setCell] <;> omega, by simp [World.setCell] <;> omega, HBW⟩
      · go_simp
        refine hK.out _ _ (KP1.out _ _ (bel0 _ _) hS) (fun hS' => ?_)
        clear hK K hS
        have hS := hS'
        clear hS'
        try (try simp only [Act.put, List.setIfInBounds_toArray, List.set_cons_zero, List.set_cons_succ])
        have hbe : Below V1.heap.size V1 (V1.alloc (.cells #[.int .i64 0, .int .i64 0, .slice none 0 0, .int .i64 0, .int .i64 0] 62)) := bel0 _ _
        have HX8 := Lib.hid (BoxQ.new V1 0 0 (.slice none 0 0) 0 0 62)
        have hzV2 : (V1.alloc (.cells #[.int .i64 0, .int .i64 0, .slice none 0 0, .int .i64 0, .int .i64 0] 62)).heap.size ≤ V1.heap.size + 1 ∧ V1.heap.size + 1 ≤ (V1.alloc (.cells #[.int .i64 0, .int .i64 0, .slice none 0 0, .int .i64 0, .int .i64 0] 62)).heap.size := by simp
        have HX9 := Lib.hid (HX9.out.below hbe (by omega))
        obtain ⟨V2, hV⟩ : ∃ V, V = V1.alloc (.cells #[.int .i64 0, .int .i64 0, .slice none 0 0, .int .i64 0, .int .i64 0] 62) := ⟨_, rfl⟩
        rw [← hV] at hS HX9 HX8 hzV2 ⊢
        clear hV hbe
        refine reg_call 4 rfl (by kernel_rfl) (by rfl) (fun K hK => ?_)
        go_simp
        go_at_call 70
        refine (args_eqL (CS.out _ hS) (by with_reducible rfl)).mono ?_
        rintro e y3 ⟨vA, vB, k, rfl, RA, RB, hk1, hk2, hb⟩
        have RA0 := Lib.hid RA
        have RB0 := Lib.hid RB
        obtain ⟨aA, cA, rfl⟩ := RA.form
        obtain ⟨aB, cB, rfl⟩ := RB.form
        clear RA RB
        have hzy3 := hb.size
        have HX9 := Lib.hid (HX9.out.below hb (by omega))
        have HX8 := Lib.hid (HX8.out.below hb (by omega))
        refine hK.out _ _ (KP1.out _ _ hb hS) (fun hS' => ?_)
        clear hK K hS
        have hS := hS'
        clear hS'
        try (try simp only [Act.put, List.setIfInBounds_toArray, List.set_cons_zero, List.set_cons_succ])
        clear hb
        refine reg_take 5 (v := ?_) rfl (by kernel_rfl) (by kernel_rfl) (by kernel_rfl) (fun _ _ _ h => h) (by rfl) (by intro w hSw; (try dsimp only at hSw); go_simp; first | done | with_reducible rfl) hS ?_
        (try simp only [Act.put, List.setIfInBounds_toArray, List.set_cons_zero, List.set_cons_succ])
        refine reg_take 6 (v := ?_) rfl (by kernel_rfl) (by kernel_rfl) (by kernel_rfl) (fun _ _ _ h => h) (by rfl) (by intro w hSw; (try dsimp only at hSw); go_simp; first | done | with_reducible rfl) hS ?_
        (try simp only [Act.put, List.setIfInBounds_toArray, List.set_cons_zero, List.set_cons_succ])
        refine reg_take 7 (v := ?_) rfl (by kernel_rfl) (by kernel_rfl) (by kernel_rfl) (fun _ _ _ h => h) (by rfl) (by intro w hSw; (try dsimp only at hSw); go_simp; first | done | with_reducible rfl) hS ?_
        (try simp only [Act.put, List.setIfInBounds_toArray, List.set_cons_zero, List.set_cons_succ])
        clear KP1
        refine reg_call 10 rfl (by kernel_rfl) (by rfl) (fun K hK => ?_)
        have ec0 := HX8.out.1.1
        have ec1 := HX8.out.1.2.1
        have ec2 := HX8.out.1.2.2.1
        have ec3 := HX8.out.1.2.2.2.1
        have ec4 := HX8.out.1.2.2.2.2
        have ef0 := HX8.out.2.1
        have ef1 := HX8.out.2.2.1
        have ef2 := HX8.out.2.2.2.1
        have ef3 := HX8.out.2.2.2.2.1
        have ef4 := HX8.out.2.2.2.2.2
        go_simp
        refine hK.out _ _ (KS1.out _ V1.heap.size (.int .i64 M1) (.int .i64 N1) (.slice aA L1.length cA) (.int .i64 0) (.int .i64 0) (by omega) hS) (fun hS' => ?_)
        clear hK K hS ec0 ef0 ec1 ef1 ec2 ef2 ec3 ef3 ec4 ef4
        have hS := hS'
        clear hS'
        try (try simp only [Act.put, List.setIfInBounds_toArray, List.set_cons_zero, List.set_cons_succ])
        have HX8 : Hid (BoxQ V1.heap.size M1 N1 (.slice aA L1.length cA) 0 0 (set5 y3 V1.heap.size (.int .i64 M1) (.int .i64 N1) (.slice aA L1.length cA) (.int .i64 0) (.int .i64 0))) := Lib.hid (BoxQ.put5 HX8.out)
        have HX9 : Hid (BoxQ U0.heap.size 0 0 (.slice none 0 0) 0 0 (set5 y3 V1.heap.size (.int .i64 M1) (.int .i64 N1) (.slice aA L1.length cA) (.int .i64 0) (.int .i64 0))) := Lib.hid (BoxQ.far5 HX9.out (show V1.heap.size ≠ U0.heap.size by omega))
        have RA0 : Hid (PatIn _ _ (set5 y3 V1.heap.size (.int .i64 M1) (.int .i64 N1) (.slice aA L1.length cA) (.int .i64 0) (.int .i64 0)) _ _) := Lib.hid (row5 RA0.out (by omega) (by first | omega | (simp [World.setCell] <;> omega)))
        have RB0 : Hid (PatIn _ _ (set5 y3 V1.heap.size (.int .i64 M1) (.int .i64 N1) (.slice aA L1.length cA) (.int .i64 0) (.int .i64 0)) _ _) := Lib.hid (row5 RB0.out (by omega) (by first | omega | (simp [World.setCell] <;> omega)))
        refine reg_call 11 rfl (by kernel_rfl) (by rfl) (fun K hK => ?_)
        have ec0 := HX9.out.1.1
        have ec1 := HX9.out.1.2.1
        have ec2 := HX9.out.1.2.2.1
        have ec3 := HX9.out.1.2.2.2.1
        have ec4 := HX9.out.1.2.2.2.2
        have ef0 := HX9.out.2.1
        have ef1 := HX9.out.2.2.1
        have ef2 := HX9.out.2.2.2.1
        have ef3 := HX9.out.2.2.2.2.1
        have ef4 := HX9.out.2.2.2.2.2
        go_simp
        refine hK.out _ _ (KS1.out _ U0.heap.size (.int .i64 M2) (.int .i64 N2) (.slice aB L2.length cB) (.int .i64 X2) (.int .i64 Y2) (by omega) hS) (fun hS' => ?_)
        clear hK K hS ec0 ef0 ec1 ef1 ec2 ef2 ec3 ef3 ec4 ef4
        have hS := hS'
        clear hS'
        try (try simp only [Act.put, List.setIfInBounds_toArray, List.set_cons_zero, List.set_cons_succ])
        have HX9 : Hid (BoxQ U0.heap.size M2 N2 (.slice aB L2.length cB) X2 Y2 (set5 (set5 y3 V1.heap.size (.int .i64 M1) (.int .i64 N1) (.slice aA L1.length cA) (.int .i64 0) (.int .i64 0)) U0.heap.size (.int .i64 M2) (.int .i64 N2) (.slice aB L2.length cB) (.int .i64 X2) (.int .i64 Y2))) := Lib.hid (BoxQ.put5 HX9.out)
        have HX8 : Hid (BoxQ V1.heap.size M1 N1 (.slice aA L1.length cA) 0 0 (set5 (set5 y3 V1.heap.size (.int .i64 M1) (.int .i64 N1) (.slice aA L1.length cA) (.int .i64 0) (.int .i64 0)) U0.heap.size (.int .i64 M2) (.int .i64 N2) (.slice aB L2.length cB) (.int .i64 X2) (.int .i64 Y2))) := Lib.hid (BoxQ.far5 HX8.out (show U0.heap.size ≠ V1.heap.size by omega))
        have RA0 : Hid (PatIn _ _ (set5 (set5 y3 V1.heap.size (.int .i64 M1) (.int .i64 N1) (.slice aA L1.length cA) (.int .i64 0) (.int .i64 0)) U0.heap.size (.int .i64 M2) (.int .i64 N2) (.slice aB L2.length cB) (.int .i64 X2) (.int .i64 Y2)) _ _) := Lib.hid (row5 RA0.out (by omega) (by first | omega | (simp [World.setCell] <;> omega)))
        have RB0 : Hid (PatIn _ _ (set5 (set5 y3 V1.heap.size (.int .i64 M1) (.int .i64 N1) (.slice aA L1.length cA) (.int .i64 0) (.int .i64 0)) U0.heap.size (.int .i64 M2) (.int .i64 N2) (.slice aB L2.length cB) (.int .i64 X2) (.int .i64 Y2)) _ _) := Lib.hid (row5 RB0.out (by omega) (by first | omega | (simp [World.setCell] <;> omega)))
        refine wpAnyH_done (by kernel_rfl) ?_ _
        have HBW := Lib.hid hS.2.2.2.2.2
        clear hS
        go_wp2_with fail
        go_meet
        exact ⟨_, _, _, _, k, _, rfl, rfl, HX8, HX9, Lib.hid (RA0.out.wide (by omega) (Nat.le_refl _)), Lib.hid (RB0.out.wide (by omega) (Nat.le_refl _)), by simp [World.setCell] <;> omega, by simp [World.setCell] <;> omega, HBW⟩
  case rest =>
    obtain ⟨pA, pB, vA, vB, k, kk, rfl, rfl, HA, HB, RA, RB, hk, hkk, HBW⟩ := hcut
    have hsx := HBW.out.size
    have BRx := Lib.hid (BR.out.below HBW.out (by omega))
    obtain ⟨⟨a0, a1, a2, _, _⟩, _⟩ := HA.out
    clear HA HB RB BR b0 b1 b2 e0 e1 S0 CS CC KP1 KS1
    go_wp2_with fail
    refine (HIH.out G.heap.size k vA _ RA.out hk (by omega)).mono ?_
    rintro e y ⟨v', rfl, RY, hby⟩
    obtain ⟨aY, cY, rfl⟩ := RY.form
    have RY0 := Lib.hid RY
    have hsy := hby.size
    have BRy := Lib.hid (BRx.out.below hby (by have := BRx.out.lt; omega))
    have HBY : Hid (Below w.heap.size w y) := Lib.hid (bel_c (HB1.out.trans (HBW.out.mono (by omega))) (by omega) hby)
    obtain ⟨d0, d1, d2, z0, z1, z2⟩ := BRy.out
    clear RY hby RA a0 a1 a2 BRx HBW HB1
    have k0 := kept (bel0 y (.cells #[.int .i64 M, .int .i64 N, .slice aY X.length cY] 26)) d0
    have k1 := kept (bel0 y (.cells #[.int .i64 M, .int .i64 N, .slice aY X.length cY] 26)) d1
    have k2 := kept (bel0 y (.cells #[.int .i64 M, .int .i64 N, .slice aY X.length cY] 26)) d2
    have j0 := keptF (bel0 y (.cells #[.int .i64 M, .int .i64 N, .slice aY X.length cY] 26)) d0 z0
    have j1 := keptF (bel0 y (.cells #[.int .i64 M, .int .i64 N, .slice aY X.length cY] 26)) d1 z1
    have j2 := keptF (bel0 y (.cells #[.int .i64 M, .int .i64 N, .slice aY X.length cY] 26)) d2 z2
    go_wp2_with fail
    refine bodyPost_ret (v := .tuple #[.agg #[.int .i64 M, .int .i64 N, .slice aY X.length cY], .bool true]) (by simp [results, Try.results57, go_sem, k0, k1, k2]) rfl ⟨_, rfl, ?_, ?_⟩
    · refine PatIn.wide (lo := G.heap.size) (hi := y.heap.size) (PatIn.set_far (PatIn.set_far (PatIn.set_far (RY0.out.below (bel0 _ _)) ?_ _) ?_ _) ?_ _) ?_ ?_
      all_goals first | omega | (simp [World.setCell] <;> omega)
    · refine Below.setCell (Below.setCell (Below.setCell (bel_n HBY.out ?_ _) ?_ _) ?_ _) ?_ _
      all_goals first | omega | (simp <;> omega)

set_option maxHeartbeats 6400000 in
set_option maxRecDepth 20000 in
theorem Knot_right (lo hi : Nat) (m n : Int) (v : Value) (xs : List P5) (c : C2) (rr : List C2) (M N : Int) (X : List P5) (ok : Bool) (w : World) (r : PatIn lo hi w v xs) (hhi : hi ≤ w.heap.size) (hlo : lo ≤ w.heap.size) (lay : LayOk m n xs) (hl1 : xs.length ≠ 1) (hcs : cutsL m n xs = c :: rr)
    (ih : ∀ (lo hi : Nat) (v : Value) (w : World), PatIn lo hi w v (pL1 m n c xs) → hi ≤ w.heap.size → lo ≤ w.heap.size → Calls Try.prog 57 #[.agg #[.int .i64 (pM1 m c), .int .i64 (pN1 n c), v]] w (KnotV 0 0 [] false lo w))
    (ih2 : ∀ (lo hi : Nat) (v : Value) (w : World), PatIn lo hi w v (pL2 m n c xs) → hi ≤ w.heap.size → lo ≤ w.heap.size → Calls Try.prog 57 #[.agg #[.int .i64 (pM2 m c), .int .i64 (pN2 n c), v]] w (KnotV M N X ok lo w)) :
    Calls Try.prog 57 #[.agg #[.int .i64 m, .int .i64 n, v]] w (KnotV M N X ok lo w) := by
  have hc := first_cut hcs
  obtain ⟨b, cap, rfl⟩ := r.form
  have R := Lib.hid r
  have HL := Lib.hid lay
  have HIH := Lib.hid ih
  have HIH2 := Lib.hid ih2
  have HC := Lib.hid hc
  have hlen : ((xs.length : Nat) : Int) = 1 → False := fun h => hl1 (by omega)
  have hd : ((xs.length : Int) == 1) = false := by simp; omega
  have CC : Hid (∀ u : World, Below w.heap.size w u → Calls Try.prog 60 #[.agg #[.int .i64 m, .int .i64 n, .slice b xs.length cap]] u (FreshCut (c :: rr) u)) := Lib.hid (fun u hb => by rw [← hcs]; exact Cuts_any lo hi m n _ xs u (r.below (hb.mono hhi)) (Nat.le_trans hhi hb.size) lay)
  have HB2 : Hid (Below w.heap.size w ((w.alloc (.cells #[.int .i64 m, .int .i64 n, .slice b xs.length cap] 26)).alloc (.cells #[.int .i64 0, .int .i64 0, .slice none 0 0] 26))) := Lib.hid (bel_n (bel0 w _) (Nat.le_refl _) _)
  clear r lay ih ih2 hcs hc
  go_enter Try.func57, Try.ntmps57
  go_wp2_with fail
  refine (CC.out _ HB2.out).mono ?_
  rintro e w1 ⟨vc, rfl, RC, hb1⟩
  obtain ⟨ac, cc, rfl⟩ := RC.form
  obtain ⟨g, rfl, hg, hg1, ⟨e0, e1⟩, _⟩ := RC.at (Below.refl _ _) (i := 0) (by simp)
  obtain ⟨up, a⟩ := c
  simp only [Nat.zero_mul, Nat.zero_add, List.getD_cons_zero] at e0 e1
  have b0 := kept (p := ⟨w.heap.size, 0, none⟩) (x := .int .i64 m) hb1 (by go_simp)
  have b1 := kept (p := ⟨w.heap.size, 1, none⟩) (x := .int .i64 n) hb1 (by go_simp)
  have b2 := kept (p := ⟨w.heap.size, 2, none⟩) (x := .slice b xs.length cap) hb1 (by go_simp)
  have hB1 := bel_c HB2.out (Nat.le_refl _) hb1
  have BR : Hid (BoxL (w.heap.size + 1) (.int .i64 0) (.int .i64 0) (.slice none 0 0) w1) := Lib.hid (by
    have := BoxL.new (w.alloc (.cells #[.int .i64 m, .int .i64 n, .slice b xs.length cap] 26)) (.int .i64 0) (.int .i64 0) (.slice none 0 0) 26
    rw [show (w.alloc (.cells #[.int .i64 m, .int .i64 n, .slice b xs.length cap] 26)).heap.size = w.heap.size + 1 by simp] at this
    exact this.below hb1 (by simp))
  have hs1 := hb1.size
  simp at hs1
  have HB1 := Lib.hid hB1
  clear hB1 hb1 RC
  generalize w1 = G at *
  obtain ⟨M1, hM1⟩ : ∃ M1, M1 = pM1 m ⟨up, a⟩ := ⟨_, rfl⟩
  obtain ⟨N1, hN1⟩ : ∃ N1, N1 = pN1 n ⟨up, a⟩ := ⟨_, rfl⟩
  obtain ⟨M2, hM2⟩ : ∃ M2, M2 = pM2 m ⟨up, a⟩ := ⟨_, rfl⟩
  obtain ⟨N2, hN2⟩ : ∃ N2, N2 = pN2 n ⟨up, a⟩ := ⟨_, rfl⟩
  obtain ⟨X2, hX2⟩ : ∃ X2, X2 = pX2 ⟨up, a⟩ := ⟨_, rfl⟩
  obtain ⟨Y2, hY2⟩ : ∃ Y2, Y2 = pY2 ⟨up, a⟩ := ⟨_, rfl⟩
  obtain ⟨L1, hL1⟩ : ∃ L1, L1 = pL1 m n ⟨up, a⟩ xs := ⟨_, rfl⟩
  obtain ⟨L2, hL2⟩ : ∃ L2, L2 = pL2 m n ⟨up, a⟩ xs := ⟨_, rfl⟩
  have D0 : Below G.heap.size G G.drew := ⟨rfl, rfl, rfl, Nat.le_refl _, fun _ _ => rfl⟩
  have CS : Hid (∀ u : World, (u.cell? ⟨w.heap.size, 0, none⟩ = some (.int .i64 m) ∧ u.cell? ⟨w.heap.size, 1, none⟩ = some (.int .i64 n) ∧ u.cell? ⟨w.heap.size, 2, none⟩ = some (.slice b xs.length cap) ∧ u.cell? ⟨g, 0, none⟩ = some (.bool up) ∧ u.cell? ⟨g, 1, none⟩ = some (.int .i64 a) ∧ Below G.heap.size G u) → Calls Try.prog 70 #[.agg #[.int .i64 m, .int .i64 n, .slice b xs.length cap], .agg #[.bool up, .int .i64 a]] u (SplitV M1 N1 M2 N2 X2 Y2 L1 L2 u)) := Lib.hid (fun u h => by
    have hu := bel_c HB1.out (Nat.le_refl _) h.2.2.2.2.2
    rw [hM1, hN1, hM2, hN2, hX2, hY2, hL1, hL2]
    exact Split_any lo hi m n _ xs up a u (R.out.below (hu.mono hhi)) (Nat.le_trans hhi hu.size) HL.out HC.out)
  have S0 : G.drew.cell? ⟨w.heap.size, 0, none⟩ = some (.int .i64 m) ∧ G.drew.cell? ⟨w.heap.size, 1, none⟩ = some (.int .i64 n) ∧ G.drew.cell? ⟨w.heap.size, 2, none⟩ = some (.slice b xs.length cap) ∧ G.drew.cell? ⟨g, 0, none⟩ = some (.bool up) ∧ G.drew.cell? ⟨g, 1, none⟩ = some (.int .i64 a) ∧ Below G.heap.size G G.drew := ⟨kept D0 b0, kept D0 b1, kept D0 b2, kept D0 e0, kept D0 e1, D0⟩
  rw [← hM1, ← hN1, ← hL1] at HIH
  rw [← hM2, ← hN2, ← hL2] at HIH2
  clear hM1 hN1 hM2 hN2 hX2 hY2 hL1 hL2
  have KP : ∀ u v : World, Below u.heap.size u v → (u.cell? ⟨w.heap.size, 0, none⟩ = some (.int .i64 m) ∧ u.cell? ⟨w.heap.size, 1, none⟩ = some (.int .i64 n) ∧ u.cell? ⟨w.heap.size, 2, none⟩ = some (.slice b xs.length cap) ∧ u.cell? ⟨g, 0, none⟩ = some (.bool up) ∧ u.cell? ⟨g, 1, none⟩ = some (.int .i64 a) ∧ Below G.heap.size G u) → (v.cell? ⟨w.heap.size, 0, none⟩ = some (.int .i64 m) ∧ v.cell? ⟨w.heap.size, 1, none⟩ = some (.int .i64 n) ∧ v.cell? ⟨w.heap.size, 2, none⟩ = some (.slice b xs.length cap) ∧ v.cell? ⟨g, 0, none⟩ = some (.bool up) ∧ v.cell? ⟨g, 1, none⟩ = some (.int .i64 a) ∧ Below G.heap.size G v) := fun u v hb h => ⟨kept hb h.1, kept hb h.2.1, kept hb h.2.2.1, kept hb h.2.2.2.1, kept hb h.2.2.2.2.1, bel_c h.2.2.2.2.2 (Nat.le_refl _) hb⟩
  have KS : ∀ (u : World) (p : Nat) (x0 x1 x2 x3 x4 : Value), G.heap.size ≤ p → (u.cell? ⟨w.heap.size, 0, none⟩ = some (.int .i64 m) ∧ u.cell? ⟨w.heap.size, 1, none⟩ = some (.int .i64 n) ∧ u.cell? ⟨w.heap.size, 2, none⟩ = some (.slice b xs.length cap) ∧ u.cell? ⟨g, 0, none⟩ = some (.bool up) ∧ u.cell? ⟨g, 1, none⟩ = some (.int .i64 a) ∧ Below G.heap.size G u) → ((set5 u p x0 x1 x2 x3 x4).cell? ⟨w.heap.size, 0, none⟩ = some (.int .i64 m) ∧ (set5 u p x0 x1 x2 x3 x4).cell? ⟨w.heap.size, 1, none⟩ = some (.int .i64 n) ∧ (set5 u p x0 x1 x2 x3 x4).cell? ⟨w.heap.size, 2, none⟩ = some (.slice b xs.length cap) ∧ (set5 u p x0 x1 x2 x3 x4).cell? ⟨g, 0, none⟩ = some (.bool up) ∧ (set5 u p x0 x1 x2 x3 x4).cell? ⟨g, 1, none⟩ = some (.int .i64 a) ∧ Below G.heap.size G (set5 u p x0 x1 x2 x3 x4)) := fun u p x0 x1 x2 x3 x4 hp h => by
    have h1 : p ≠ w.heap.size := by omega
    have h2 : p ≠ g := by omega
    exact ⟨(set5_far h1).trans h.1, (set5_far h1).trans h.2.1, (set5_far h1).trans h.2.2.1, (set5_far h2).trans h.2.2.2.1, (set5_far h2).trans h.2.2.2.2.1, ((((h.2.2.2.2.2.setCell hp _).setCell hp _).setCell hp _).setCell hp _).setCell hp _⟩
  have KP1 := Lib.hid KP
  have KS1 := Lib.hid KS
  clear KP KS D0
  go_upto_region 6 with fail
  go_cut [5, 6] (fun q t wx => WS G M1 N1 M2 N2 X2 Y2 L1 L2 q t wx)
  case first =>
    (try simp only [List.append_eq, List.cons_append, List.nil_append])
    have hS := S0
    refine reg_begin (fun w' => w'.cell? ⟨w.heap.size, 0, none⟩ = some (.int .i64 m) ∧ w'.cell? ⟨w.heap.size, 1, none⟩ = some (.int .i64 n) ∧ w'.cell? ⟨w.heap.size, 2, none⟩ = some (.slice b xs.length cap) ∧ w'.cell? ⟨g, 0, none⟩ = some (.bool up) ∧ w'.cell? ⟨g, 1, none⟩ = some (.int .i64 a) ∧ Below G.heap.size G w') (by kernel_rfl) hS ?_
    refine reg_take 0 (v := ?_) rfl (by kernel_rfl) (by kernel_rfl) (by kernel_rfl) (fun _ _ _ h => h) (by rfl) (by intro w hSw; (try dsimp only at hSw); go_simp; first | done | with_reducible rfl) hS ?_
    (try simp only [Act.put, List.setIfInBounds_toArray, List.set_cons_zero, List.set_cons_succ])
    refine reg_take 1 (v := ?_) rfl (by kernel_rfl) (by kernel_rfl) (by kernel_rfl) (fun _ _ _ h => h) (by rfl) (by intro w hSw; (try dsimp only at hSw); go_simp; first | done | with_reducible rfl) hS ?_
    (try simp only [Act.put, List.setIfInBounds_toArray, List.set_cons_zero, List.set_cons_succ])
    refine reg_take 2 (v := ?_) rfl (by kernel_rfl) (by kernel_rfl) (by kernel_rfl) (fun _ _ _ h => h) (by rfl) (by intro w hSw; (try dsimp only at hSw); go_simp; first | done | with_reducible rfl) hS ?_
    (try simp only [Act.put, List.setIfInBounds_toArray, List.set_cons_zero, List.set_cons_succ])
    refine reg_take 3 (v := ?_) rfl (by kernel_rfl) (by kernel_rfl) (by kernel_rfl) (fun _ _ _ h => h) (by rfl) (by intro w hSw; (try dsimp only at hSw); go_simp; first | done | with_reducible rfl) hS ?_
    (try simp only [Act.put, List.setIfInBounds_toArray, List.set_cons_zero, List.set_cons_succ])
    have hz0 : G.drew.heap.size ≤ G.heap.size ∧ G.heap.size ≤ G.drew.heap.size := ⟨Nat.le_refl _, Nat.le_refl _⟩
    generalize G.drew = U0 at hS hz0 ⊢
    refine reg_three 4 8 9 rfl rfl rfl (by kernel_rfl) (by rfl) (by rfl) (by rfl) (fun K hK => ?_) (fun K hK => ?_) (fun K hK => ?_)
    · go_simp
      go_at_call 70
      refine (args_eqL (CS.out _ hS) (by with_reducible rfl)).mono ?_
      rintro e y1 ⟨vA, vB, k, rfl, RA, RB, hk1, hk2, hb⟩
      have RA0 := Lib.hid RA
      have RB0 := Lib.hid RB
      obtain ⟨aA, cA, rfl⟩ := RA.form
      obtain ⟨aB, cB, rfl⟩ := RB.form
      clear RA RB
      have hzy1 := hb.size
      refine hK.out _ _ (KP1.out _ _ hb hS) (fun hS' => ?_)
      clear hK K hS
      have hS := hS'
      clear hS'
      try (try simp only [Act.put, List.setIfInBounds_toArray, List.set_cons_zero, List.set_cons_succ])
      clear hb
      refine reg_take 5 (v := ?_) rfl (by kernel_rfl) (by kernel_rfl) (by kernel_rfl) (fun _ _ _ h => h) (by rfl) (by intro w hSw; (try dsimp only at hSw); go_simp; first | done | with_reducible rfl) hS ?_
      (try simp only [Act.put, List.setIfInBounds_toArray, List.set_cons_zero, List.set_cons_succ])
      refine reg_take 6 (v := ?_) rfl (by kernel_rfl) (by kernel_rfl) (by kernel_rfl) (fun _ _ _ h => h) (by rfl) (by intro w hSw; (try dsimp only at hSw); go_simp; first | done | with_reducible rfl) hS ?_
      (try simp only [Act.put, List.setIfInBounds_toArray, List.set_cons_zero, List.set_cons_succ])
      refine reg_take 7 (v := ?_) rfl (by kernel_rfl) (by kernel_rfl) (by kernel_rfl) (fun _ _ _ h => h) (by rfl) (by intro w hSw; (try dsimp only at hSw); go_simp; first | done | with_reducible rfl) hS ?_
      (try simp only [Act.put, List.setIfInBounds_toArray, List.set_cons_zero, List.set_cons_succ])
      refine reg_two 8 9 rfl rfl (by kernel_rfl) (by rfl) (by rfl) (fun K hK => ?_) (fun K hK => ?_)
      · go_simp
        refine hK.out _ _ (KP1.out _ _ (bel0 _ _) hS) (fun hS' => ?_)
        clear hK K hS
        have hS := hS'
        clear hS'
        try (try simp only [Act.put, List.setIfInBounds_toArray, List.set_cons_zero, List.set_cons_succ])
        have hbe : Below y1.heap.size y1 (y1.alloc (.cells #[.int .i64 0, .int .i64 0, .slice none 0 0, .int .i64 0, .int .i64 0] 62)) := bel0 _ _
        have HX8 := Lib.hid (BoxQ.new y1 0 0 (.slice none 0 0) 0 0 62)
        have hzV2 : (y1.alloc (.cells #[.int .i64 0, .int .i64 0, .slice none 0 0, .int .i64 0, .int .i64 0] 62)).heap.size ≤ y1.heap.size + 1 ∧ y1.heap.size + 1 ≤ (y1.alloc (.cells #[.int .i64 0, .int .i64 0, .slice none 0 0, .int .i64 0, .int .i64 0] 62)).heap.size := by simp
        have RA0 := Lib.hid (RA0.out.below (hbe.mono (by omega)))
        have RB0 := Lib.hid (RB0.out.below (hbe.mono (by omega)))
        obtain ⟨V2, hV⟩ : ∃ V, V = y1.alloc (.cells #[.int .i64 0, .int .i64 0, .slice none 0 0, .int .i64 0, .int .i64 0] 62) := ⟨_, rfl⟩
        rw [← hV] at hS HX8 hzV2 RA0 RB0 ⊢
        clear hV hbe
        refine reg_call 9 rfl (by kernel_rfl) (by rfl) (fun K hK => ?_)
        go_simp
        refine hK.out _ _ (KP1.out _ _ (bel0 _ _) hS) (fun hS' => ?_)
        clear hK K hS
        have hS := hS'
        clear hS'
        try (try simp only [Act.put, List.setIfInBounds_toArray, List.set_cons_zero, List.set_cons_succ])
        have hbe : Below V2.heap.size V2 (V2.alloc (.cells #[.int .i64 0, .int .i64 0, .slice none 0 0, .int .i64 0, .int .i64 0] 62)) := bel0 _ _
        have HX9 := Lib.hid (BoxQ.new V2 0 0 (.slice none 0 0) 0 0 62)
        have hzV3 : (V2.alloc (.cells #[.int .i64 0, .int .i64 0, .slice none 0 0, .int .i64 0, .int .i64 0] 62)).heap.size ≤ V2.heap.size + 1 ∧ V2.heap.size + 1 ≤ (V2.alloc (.cells #[.int .i64 0, .int .i64 0, .slice none 0 0, .int .i64 0, .int .i64 0] 62)).heap.size := by simp
        have HX8 := Lib.hid (HX8.out.below hbe (by omega))
        have RA0 := Lib.hid (RA0.out.below (hbe.mono (by omega)))
        have RB0 := Lib.hid (RB0.out.below (hbe.mono (by omega)))
        obtain ⟨V3, hV⟩ : ∃ V, V = V2.alloc (.cells #[.int .i64 0, .int .i64 0, .slice none 0 0, .int .i64 0, .int .i64 0] 62) := ⟨_, rfl⟩
        rw [← hV] at hS HX8 HX9 hzV3 RA0 RB0 ⊢
        clear hV hbe
        clear KP1
        refine reg_call 10 rfl (by kernel_rfl) (by rfl) (fun K hK => ?_)
        have ec0 := HX8.out.1.1
        have ec1 := HX8.out.1.2.1
        have ec2 := HX8.out.1.2.2.1
        have ec3 := HX8.out.1.2.2.2.1
        have ec4 := HX8.out.1.2.2.2.2
        have ef0 := HX8.out.2.1
        have ef1 := HX8.out.2.2.1
        have ef2 := HX8.out.2.2.2.1
        have ef3 := HX8.out.2.2.2.2.1
        have ef4 := HX8.out.2.2.2.2.2
        go_simp
        refine hK.out _ _ (KS1.out _ y1.heap.size (.int .i64 M1) (.int .i64 N1) (.slice aA L1.length cA) (.int .i64 0) (.int .i64 0) (by omega) hS) (fun hS' => ?_)
        clear hK K hS ec0 ef0 ec1 ef1 ec2 ef2 ec3 ef3 ec4 ef4
        have hS := hS'
        clear hS'
        try (try simp only [Act.put, List.setIfInBounds_toArray, List.set_cons_zero, List.set_cons_succ])
        have HX8 : Hid (BoxQ y1.heap.size M1 N1 (.slice aA L1.length cA) 0 0 (set5 V3 y1.heap.size (.int .i64 M1) (.int .i64 N1) (.slice aA L1.length cA) (.int .i64 0) (.int .i64 0))) := Lib.hid (BoxQ.put5 HX8.out)
        have HX9 : Hid (BoxQ V2.heap.size 0 0 (.slice none 0 0) 0 0 (set5 V3 y1.heap.size (.int .i64 M1) (.int .i64 N1) (.slice aA L1.length cA) (.int .i64 0) (.int .i64 0))) := Lib.hid (BoxQ.far5 HX9.out (show y1.heap.size ≠ V2.heap.size by omega))
        have RA0 : Hid (PatIn _ _ (set5 V3 y1.heap.size (.int .i64 M1) (.int .i64 N1) (.slice aA L1.length cA) (.int .i64 0) (.int .i64 0)) _ _) := Lib.hid (row5 RA0.out (by omega) (by first | omega | (simp [World.setCell] <;> omega)))
        have RB0 : Hid (PatIn _ _ (set5 V3 y1.heap.size (.int .i64 M1) (.int .i64 N1) (.slice aA L1.length cA) (.int .i64 0) (.int .i64 0)) _ _) := Lib.hid (row5 RB0.out (by omega) (by first | omega | (simp [World.setCell] <;> omega)))
        refine reg_call 11 rfl (by kernel_rfl) (by rfl) (fun K hK => ?_)
        have ec0 := HX9.out.1.1
        have ec1 := HX9.out.1.2.1
        have ec2 := HX9.out.1.2.2.1
        have ec3 := HX9.out.1.2.2.2.1
        have ec4 := HX9.out.1.2.2.2.2
        have ef0 := HX9.out.2.1
        have ef1 := HX9.out.2.2.1
        have ef2 := HX9.out.2.2.2.1
        have ef3 := HX9.out.2.2.2.2.1
        have ef4 := HX9.out.2.2.2.2.2
        go_simp
        refine hK.out _ _ (KS1.out _ V2.heap.size (.int .i64 M2) (.int .i64 N2) (.slice aB L2.length cB) (.int .i64 X2) (.int .i64 Y2) (by omega) hS) (fun hS' => ?_)
        clear hK K hS ec0 ef0 ec1 ef1 ec2 ef2 ec3 ef3 ec4 ef4
        have hS := hS'
        clear hS'
        try (try simp only [Act.put, List.setIfInBounds_toArray, List.set_cons_zero, List.set_cons_succ])
        have HX9 : Hid (BoxQ V2.heap.size M2 N2 (.slice aB L2.length cB) X2 Y2 (set5 (set5 V3 y1.heap.size (.int .i64 M1) (.int .i64 N1) (.slice aA L1.length cA) (.int .i64 0) (.int .i64 0)) V2.heap.size (.int .i64 M2) (.int .i64 N2) (.slice aB L2.length cB) (.int .i64 X2) (.int .i64 Y2))) := Lib.hid (BoxQ.put5 HX9.out)
        have HX8 : Hid (BoxQ y1.heap.size M1 N1 (.slice aA L1.length cA) 0 0 (set5 (set5 V3 y1.heap.size (.int .i64 M1) (.int .i64 N1) (.slice aA L1.length cA) (.int .i64 0) (.int .i64 0)) V2.heap.size (.int .i64 M2) (.int .i64 N2) (.slice aB L2.length cB) (.int .i64 X2) (.int .i64 Y2))) := Lib.hid (BoxQ.far5 HX8.out (show V2.heap.size ≠ y1.heap.size by omega))
        have RA0 : Hid (PatIn _ _ (set5 (set5 V3 y1.heap.size (.int .i64 M1) (.int .i64 N1) (.slice aA L1.length cA) (.int .i64 0) (.int .i64 0)) V2.heap.size (.int .i64 M2) (.int .i64 N2) (.slice aB L2.length cB) (.int .i64 X2) (.int .i64 Y2)) _ _) := Lib.hid (row5 RA0.out (by omega) (by first | omega | (simp [World.setCell] <;> omega)))
        have RB0 : Hid (PatIn _ _ (set5 (set5 V3 y1.heap.size (.int .i64 M1) (.int .i64 N1) (.slice aA L1.length cA) (.int .i64 0) (.int .i64 0)) V2.heap.size (.int .i64 M2) (.int .i64 N2) (.slice aB L2.length cB) (.int .i64 X2) (.int .i64 Y2)) _ _) := Lib.hid (row5 RB0.out (by omega) (by first | omega | (simp [World.setCell] <;> omega)))
        refine wpAnyH_done (by kernel_rfl) ?_ _
        have HBW := Lib.hid hS.2.2.2.2.2
        clear hS
        go_wp2_with fail
        go_meet
        exact ⟨_, _, _, _, k, _, rfl, rfl, HX8, HX9, Lib.hid (RA0.out.wide (by omega) (Nat.le_refl _)), Lib.hid (RB0.out.wide (by omega) (Nat.le_refl _)), by simp [World.setCell] <;> omega, by simp [World.setCell] <;> omega, HBW⟩
      · go_simp
        refine hK.out _ _ (KP1.out _ _ (bel0 _ _) hS) (fun hS' => ?_)
        clear hK K hS
        have hS := hS'
        clear hS'
        try (try simp only [Act.put, List.setIfInBounds_toArray, List.set_cons_zero, List.set_cons_succ])
        have hbe : Below y1.heap.size y1 (y1.alloc (.cells #[.int .i64 0, .int .i64 0, .slice none 0 0, .int .i64 0, .int .i64 0] 62)) := bel0 _ _
        have HX9 := Lib.hid (BoxQ.new y1 0 0 (.slice none 0 0) 0 0 62)
        have hzV2 : (y1.alloc (.cells #[.int .i64 0, .int .i64 0, .slice none 0 0, .int .i64 0, .int .i64 0] 62)).heap.size ≤ y1.heap.size + 1 ∧ y1.heap.size + 1 ≤ (y1.alloc (.cells #[.int .i64 0, .int .i64 0, .slice none 0 0, .int .i64 0, .int .i64 0] 62)).heap.size := by simp
        have RA0 := Lib.hid (RA0.out.below (hbe.mono (by omega)))
        have RB0 := Lib.hid (RB0.out.below (hbe.mono (by omega)))
        obtain ⟨V2, hV⟩ : ∃ V, V = y1.alloc (.cells #[.int .i64 0, .int .i64 0, .slice none 0 0, .int .i64 0, .int .i64 0] 62) := ⟨_, rfl⟩
        rw [← hV] at hS HX9 hzV2 RA0 RB0 ⊢
        clear hV hbe
        refine reg_call 8 rfl (by kernel_rfl) (by rfl) (fun K hK => ?_)
        go_simp
        refine hK.out _ _ (KP1.out _ _ (bel0 _ _) hS) (fun hS' => ?_)
        clear hK K hS
        have hS := hS'
        clear hS'
        try (try simp only [Act.put, List.setIfInBounds_toArray, List.set_cons_zero, List.set_cons_succ])
        have hbe : Below V2.heap.size V2 (V2.alloc (.cells #[.int .i64 0, .int .i64 0, .slice none 0 0, .int .i64 0, .int .i64 0] 62)) := bel0 _ _
        have HX8 := Lib.hid (BoxQ.new V2 0 0 (.slice none 0 0) 0 0 62)
        have hzV3 : (V2.alloc (.cells #[.int .i64 0, .int .i64 0, .slice none 0 0, .int .i64 0, .int .i64 0] 62)).heap.size ≤ V2.heap.size + 1 ∧ V2.heap.size + 1 ≤ (V2.alloc (.cells #[.int .i64 0, .int .i64 0, .slice none 0 0, .int .i64 0, .int .i64 0] 62)).heap.size := by simp
        have HX9 := Lib.hid (HX9.out.below hbe (by omega))
        have RA0 := Lib.hid (RA0.out.below (hbe.mono (by omega)))
        have RB0 := Lib.hid (RB0.out.below (hbe.mono (by omega)))
        obtain ⟨V3, hV⟩ : ∃ V, V = V2.alloc (.cells #[.int .i64 0, .int .i64 0, .slice none 0 0, .int .i64 0, .int .i64 0] 62) := ⟨_, rfl⟩
        rw [← hV] at hS HX9 HX8 hzV3 RA0 RB0 ⊢
        clear hV hbe
        clear KP1
        refine reg_call 10 rfl (by kernel_rfl) (by rfl) (fun K hK => ?_)
        have ec0 := HX8.out.1.1
        have ec1 := HX8.out.1.2.1
        have ec2 := HX8.out.1.2.2.1
        have ec3 := HX8.out.1.2.2.2.1
        have ec4 := HX8.out.1.2.2.2.2
        have ef0 := HX8.out.2.1
        have ef1 := HX8.out.2.2.1
        have ef2 := HX8.out.2.2.2.1
        have ef3 := HX8.out.2.2.2.2.1
        have ef4 := HX8.out.2.2.2.2.2
        go_simp
        refine hK.out _ _ (KS1.out _ V2.heap.size (.int .i64 M1) (.int .i64 N1) (.slice aA L1.length cA) (.int .i64 0) (.int .i64 0) (by omega) hS) (fun hS' => ?_)
        clear hK K hS ec0 ef0 ec1 ef1 ec2 ef2 ec3 ef3 ec4 ef4
        have hS := hS'
        clear hS'
        try (try simp only [Act.put, List.setIfInBounds_toArray, List.set_cons_zero, List.set_cons_succ])
        have HX8 : Hid (BoxQ V2.heap.size M1 N1 (.slice aA L1.length cA) 0 0 (set5 V3 V2.heap.size (.int .i64 M1) (.int .i64 N1) (.slice aA L1.length cA) (.int .i64 0) (.int .i64 0))) := Lib.hid (BoxQ.put5 HX8.out)
        have HX9 : Hid (BoxQ y1.heap.size 0 0 (.slice none 0 0) 0 0 (set5 V3 V2.heap.size (.int .i64 M1) (.int .i64 N1) (.slice aA L1.length cA) (.int .i64 0) (.int .i64 0))) := Lib.hid (BoxQ.far5 HX9.out (show V2.heap.size ≠ y1.heap.size by omega))
        have RA0 : Hid (PatIn _ _ (set5 V3 V2.heap.size (.int .i64 M1) (.int .i64 N1) (.slice aA L1.length cA) (.int .i64 0) (.int .i64 0)) _ _) := Lib.hid (row5 RA0.out (by omega) (by first | omega | (simp [World.setCell] <;> omega)))
        have RB0 : Hid (PatIn _ _ (set5 V3 V2.heap.size (.int .i64 M1) (.int .i64 N1) (.slice aA L1.length cA) (.int .i64 0) (.int .i64 0)) _ _) := Lib.hid (row5 RB0.out (by omega) (by first | omega | (simp [World.setCell] <;> omega)))
        refine reg_call 11 rfl (by kernel_rfl) (by rfl) (fun K hK => ?_)
        have ec0 := HX9.out.1.1
        have ec1 := HX9.out.1.2.1
        have ec2 := HX9.out.1.2.2.1
        have ec3 := HX9.out.1.2.2.2.1
        have ec4 := HX9.out.1.2.2.2.2
        have ef0 := HX9.out.2.1
        have ef1 := HX9.out.2.2.1
        have ef2 := HX9.out.2.2.2.1
        have ef3 := HX9.out.2.2.2.2.1
        have ef4 := HX9.out.2.2.2.2.2
        go_simp
        refine hK.out _ _ (KS1.out _ y1.heap.size (.int .i64 M2) (.int .i64 N2) (.slice aB L2.length cB) (.int .i64 X2) (.int .i64 Y2) (by omega) hS) (fun hS' => ?_)
        clear hK K hS ec0 ef0 ec1 ef1 ec2 ef2 ec3 ef3 ec4 ef4
        have hS := hS'
        clear hS'
        try (try simp only [Act.put, List.setIfInBounds_toArray, List.set_cons_zero, List.set_cons_succ])
        have HX9 : Hid (BoxQ y1.heap.size M2 N2 (.slice aB L2.length cB) X2 Y2 (set5 (set5 V3 V2.heap.size (.int .i64 M1) (.int .i64 N1) (.slice aA L1.length cA) (.int .i64 0) (.int .i64 0)) y1.heap.size (.int .i64 M2) (.int .i64 N2) (.slice aB L2.length cB) (.int .i64 X2) (.int .i64 Y2))) := Lib.hid (BoxQ.put5 HX9.out)
        have HX8 : Hid (BoxQ V2.heap.size M1 N1 (.slice aA L1.length cA) 0 0 (set5 (set5 V3 V2.heap.size (.int .i64 M1) (.int .i64 N1) (.slice aA L1.length cA) (.int .i64 0) (.int .i64 0)) y1.heap.size (.int .i64 M2) (.int .i64 N2) (.slice aB L2.length cB) (.int .i64 X2) (.int .i64 Y2))) := Lib.hid (BoxQ.far5 HX8.out (show y1.heap.size ≠ V2.heap.size by omega))
        have RA0 : Hid (PatIn _ _ (set5 (set5 V3 V2.heap.size (.int .i64 M1) (.int .i64 N1) (.slice aA L1.length cA) (.int .i64 0) (.int .i64 0)) y1.heap.size (.int .i64 M2) (.int .i64 N2) (.slice aB L2.length cB) (.int .i64 X2) (.int .i64 Y2)) _ _) := Lib.hid (row5 RA0.out (by omega) (by first | omega | (simp [World.setCell] <;> omega)))
        have RB0 : Hid (PatIn _ _ (set5 (set5 V3 V2.heap.size (.int .i64 M1) (.int .i64 N1) (.slice aA L1.length cA) (.int .i64 0) (.int .i64 0)) y1.heap.size (.int .i64 M2) (.int .i64 N2) (.slice aB L2.length cB) (.int .i64 X2) (.int .i64 Y2)) _ _) := Lib.hid (row5 RB0.out (by omega) (by first | omega | (simp [World.setCell] <;> omega)))
        refine wpAnyH_done (by kernel_rfl) ?_ _
        have HBW := Lib.hid hS.2.2.2.2.2
        clear hS
        go_wp2_with fail
        go_meet
        exact ⟨_, _, _, _, k, _, rfl, rfl, HX8, HX9, Lib.hid (RA0.out.wide (by omega) (Nat.le_refl _)), Lib.hid (RB0.out.wide (by omega) (Nat.le_refl _)), by simp [World.setCell] <;> omega, by simp [World.setCell] <;> omega, HBW⟩
    · go_simp
      refine hK.out _ _ (KP1.out _ _ (bel0 _ _) hS) (fun hS' => ?_)
      clear hK K hS
      have hS := hS'
      clear hS'
      try (try simp only [Act.put, List.setIfInBounds_toArray, List.set_cons_zero, List.set_cons_succ])
      have hbe : Below U0.heap.size U0 (U0.alloc (.cells #[.int .i64 0, .int .i64 0, .slice none 0 0, .int .i64 0, .int .i64 0] 62)) := bel0 _ _
      have HX8 := Lib.hid (BoxQ.new U0 0 0 (.slice none 0 0) 0 0 62)
      have hzV1 : (U0.alloc (.cells #[.int .i64 0, .int .i64 0, .slice none 0 0, .int .i64 0, .int .i64 0] 62)).heap.size ≤ U0.heap.size + 1 ∧ U0.heap.size + 1 ≤ (U0.alloc (.cells #[.int .i64 0, .int .i64 0, .slice none 0 0, .int .i64 0, .int .i64 0] 62)).heap.size := by simp
      obtain ⟨V1, hV⟩ : ∃ V, V = U0.alloc (.cells #[.int .i64 0, .int .i64 0, .slice none 0 0, .int .i64 0, .int .i64 0] 62) := ⟨_, rfl⟩
      rw [← hV] at hS HX8 hzV1 ⊢
      clear hV hbe
      refine reg_two 4 9 rfl rfl (by kernel_rfl) (by rfl) (by rfl) (fun K hK => ?_) (fun K hK => ?_)
      · go_simp
        go_at_call 70
        refine (args_eqL (CS.out _ hS) (by with_reducible rfl)).mono ?_
        rintro e y2 ⟨vA, vB, k, rfl, RA, RB, hk1, hk2, hb⟩
        have RA0 := Lib.hid RA
        have RB0 := Lib.hid RB
        obtain ⟨aA, cA, rfl⟩ := RA.form
        obtain ⟨aB, cB, rfl⟩ := RB.form
        clear RA RB
        have hzy2 := hb.size
        have HX8 := Lib.hid (HX8.out.below hb (by omega))
        refine hK.out _ _ (KP1.out _ _ hb hS) (fun hS' => ?_)
        clear hK K hS
        have hS := hS'
        clear hS'
        try (try simp only [Act.put, List.setIfInBounds_toArray, List.set_cons_zero, List.set_cons_succ])
        clear hb
        refine reg_take 5 (v := ?_) rfl (by kernel_rfl) (by kernel_rfl) (by kernel_rfl) (fun _ _ _ h => h) (by rfl) (by intro w hSw; (try dsimp only at hSw); go_simp; first | done | with_reducible rfl) hS ?_
        (try simp only [Act.put, List.setIfInBounds_toArray, List.set_cons_zero, List.set_cons_succ])
        refine reg_take 6 (v := ?_) rfl (by kernel_rfl) (by kernel_rfl) (by kernel_rfl) (fun _ _ _ h => h) (by rfl) (by intro w hSw; (try dsimp only at hSw); go_simp; first | done | with_reducible rfl) hS ?_
        (try simp only [Act.put, List.setIfInBounds_toArray, List.set_cons_zero, List.set_cons_succ])
        refine reg_take 7 (v := ?_) rfl (by kernel_rfl) (by kernel_rfl) (by kernel_rfl) (fun _ _ _ h => h) (by rfl) (by intro w hSw; (try dsimp only at hSw); go_simp; first | done | with_reducible rfl) hS ?_
        (try simp only [Act.put, List.setIfInBounds_toArray, List.set_cons_zero, List.set_cons_succ])
        refine reg_call 9 rfl (by kernel_rfl) (by rfl) (fun K hK => ?_)
        go_simp
        refine hK.out _ _ (KP1.out _ _ (bel0 _ _) hS) (fun hS' => ?_)
        clear hK K hS
        have hS := hS'
        clear hS'
        try (try simp only [Act.put, List.setIfInBounds_toArray, List.set_cons_zero, List.set_cons_succ])
        have hbe : Below y2.heap.size y2 (y2.alloc (.cells #[.int .i64 0, .int .i64 0, .slice none 0 0, .int .i64 0, .int .i64 0] 62)) := bel0 _ _
        have HX9 := Lib.hid (BoxQ.new y2 0 0 (.slice none 0 0) 0 0 62)
        have hzV3 : (y2.alloc (.cells #[.int .i64 0, .int .i64 0, .slice none 0 0, .int .i64 0, .int .i64 0] 62)).heap.size ≤ y2.heap.size + 1 ∧ y2.heap.size + 1 ≤ (y2.alloc (.cells #[.int .i64 0, .int .i64 0, .slice none 0 0, .int .i64 0, .int .i64 0] 62)).heap.size := by simp
        have HX8 := Lib.hid (HX8.out.below hbe (by omega))
        have RA0 := Lib.hid (RA0.out.below (hbe.mono (by omega)))
        have RB0 := Lib.hid (RB0.out.below (hbe.mono (by omega)))
        obtain ⟨V3, hV⟩ : ∃ V, V = y2.alloc (.cells #[.int .i64 0, .int .i64 0, .slice none 0 0, .int .i64 0, .int .i64 0] 62) := ⟨_, rfl⟩
        rw [← hV] at hS HX8 HX9 hzV3 RA0 RB0 ⊢
        clear hV hbe
        clear KP1
        refine reg_call 10 rfl (by kernel_rfl) (by rfl) (fun K hK => ?_)
        have ec0 := HX8.out.1.1
        have ec1 := HX8.out.1.2.1
        have ec2 := HX8.out.1.2.2.1
        have ec3 := HX8.out.1.2.2.2.1
        have ec4 := HX8.out.1.2.2.2.2
        have ef0 := HX8.out.2.1
        have ef1 := HX8.out.2.2.1
        have ef2 := HX8.out.2.2.2.1
        have ef3 := HX8.out.2.2.2.2.1
        have ef4 := HX8.out.2.2.2.2.2
        go_simp
        refine hK.out _ _ (KS1.out _ U0.heap.size (.int .i64 M1) (.int .i64 N1) (.slice aA L1.length cA) (.int .i64 0) (.int .i64 0) (by omega) hS) (fun hS' => ?_)
        clear hK K hS ec0 ef0 ec1 ef1 ec2 ef2 ec3 ef3 ec4 ef4
        have hS := hS'
        clear hS'
        try (try simp only [Act.put, List.setIfInBounds_toArray, List.set_cons_zero, List.set_cons_succ])
        have HX8 : Hid (BoxQ U0.heap.size M1 N1 (.slice aA L1.length cA) 0 0 (set5 V3 U0.heap.size (.int .i64 M1) (.int .i64 N1) (.slice aA L1.length cA) (.int .i64 0) (.int .i64 0))) := Lib.hid (BoxQ.put5 HX8.out)
        have HX9 : Hid (BoxQ y2.heap.size 0 0 (.slice none 0 0) 0 0 (set5 V3 U0.heap.size (.int .i64 M1) (.int .i64 N1) (.slice aA L1.length cA) (.int .i64 0) (.int .i64 0))) := Lib.hid (BoxQ.far5 HX9.out (show U0.heap.size ≠ y2.heap.size by omega))
        have RA0 : Hid (PatIn _ _ (set5 V3 U0.heap.size (.int .i64 M1) (.int .i64 N1) (.slice aA L1.length cA) (.int .i64 0) (.int .i64 0)) _ _) := Lib.hid (row5 RA0.out (by omega) (by first | omega | (simp [World.setCell] <;> omega)))
        have RB0 : Hid (PatIn _ _ (set5 V3 U0.heap.size (.int .i64 M1) (.int .i64 N1) (.slice aA L1.length cA) (.int .i64 0) (.int .i64 0)) _ _) := Lib.hid (row5 RB0.out (by omega) (by first | omega | (simp [World.setCell] <;> omega)))
        refine reg_call 11 rfl (by kernel_rfl) (by rfl) (fun K hK => ?_)
        have ec0 := HX9.out.1.1
        have ec1 := HX9.out.1.2.1
        have ec2 := HX9.out.1.2.2.1
        have ec3 := HX9.out.1.2.2.2.1
        have ec4 := HX9.out.1.2.2.2.2
        have ef0 := HX9.out.2.1
        have ef1 := HX9.out.2.2.1
        have ef2 := HX9.out.2.2.2.1
        have ef3 := HX9.out.2.2.2.2.1
        have ef4 := HX9.out.2.2.2.2.2
        go_simp
        refine hK.out _ _ (KS1.out _ y2.heap.size (.int .i64 M2) (.int .i64 N2) (.slice aB L2.length cB) (.int .i64 X2) (.int .i64 Y2) (by omega) hS) (fun hS' => ?_)
        clear hK K hS ec0 ef0 ec1 ef1 ec2 ef2 ec3 ef3 ec4 ef4
        have hS := hS'
        clear hS'
        try (try simp only [Act.put, List.setIfInBounds_toArray, List.set_cons_zero, List.set_cons_succ])
        have HX9 : Hid (BoxQ y2.heap.size M2 N2 (.slice aB L2.length cB) X2 Y2 (set5 (set5 V3 U0.heap.size (.int .i64 M1) (.int .i64 N1) (.slice aA L1.length cA) (.int .i64 0) (.int .i64 0)) y2.heap.size (.int .i64 M2) (.int .i64 N2) (.slice aB L2.length cB) (.int .i64 X2) (.int .i64 Y2))) := Lib.hid (BoxQ.put5 HX9.out)
        have HX8 : Hid (BoxQ U0.heap.size M1 N1 (.slice aA L1.length cA) 0 0 (set5 (set5 V3 U0.heap.size (.int .i64 M1) (.int .i64 N1) (.slice aA L1.length cA) (.int .i64 0) (.int .i64 0)) y2.heap.size (.int .i64 M2) (.int .i64 N2) (.slice aB L2.length cB) (.int .i64 X2) (.int .i64 Y2))) := Lib.hid (BoxQ.far5 HX8.out (show y2.heap.size ≠ U0.heap.size by omega))
        have RA0 : Hid (PatIn _ _ (set5 (set5 V3 U0.heap.size (.int .i64 M1) (.int .i64 N1) (.slice aA L1.length cA) (.int .i64 0) (.int .i64 0)) y2.heap.size (.int .i64 M2) (.int .i64 N2) (.slice aB L2.length cB) (.int .i64 X2) (.int .i64 Y2)) _ _) := Lib.hid (row5 RA0.out (by omega) (by first | omega | (simp [World.setCell] <;> omega)))
        have RB0 : Hid (PatIn _ _ (set5 (set5 V3 U0.heap.size (.int .i64 M1) (.int .i64 N1) (.slice aA L1.length cA) (.int .i64 0) (.int .i64 0)) y2.heap.size (.int .i64 M2) (.int .i64 N2) (.slice aB L2.length cB) (.int .i64 X2) (.int .i64 Y2)) _ _) := Lib.hid (row5 RB0.out (by omega) (by first | omega | (simp [World.setCell] <;> omega)))
        refine wpAnyH_done (by kernel_rfl) ?_ _
        have HBW := Lib.hid hS.2.2.2.2.2
        clear hS
        go_wp2_with fail
        go_meet
        exact ⟨_, _, _, _, k, _, rfl, rfl, HX8, HX9, Lib.hid (RA0.out.wide (by omega) (Nat.le_refl _)), Lib.hid (RB0.out.wide (by omega) (Nat.le_refl _)), by simp [World.setCell] <;> omega, by simp [World.setCell] <;> omega, HBW⟩
      · go_simp
        refine hK.out _ _ (KP1.out _ _ (bel0 _ _) hS) (fun hS' => ?_)
        clear hK K hS
        have hS := hS'
        clear hS'
        try (try simp only [Act.put, List.setIfInBounds_toArray, List.set_cons_zero, List.set_cons_succ])
        have hbe : Below V1.heap.size V1 (V1.alloc (.cells #[.int .i64 0, .int .i64 0, .slice none 0 0, .int .i64 0, .int .i64 0] 62)) := bel0 _ _
        have HX9 := Lib.hid (BoxQ.new V1 0 0 (.slice none 0 0) 0 0 62)
        have hzV2 : (V1.alloc (.cells #[.int .i64 0, .int .i64 0, .slice none 0 0, .int .i64 0, .int .i64 0] 62)).heap.size ≤ V1.heap.size + 1 ∧ V1.heap.size + 1 ≤ (V1.alloc (.cells #[.int .i64 0, .int .i64 0, .slice none 0 0, .int .i64 0, .int .i64 0] 62)).heap.size := by simp
        have HX8 := Lib.hid (HX8.out.below hbe (by omega))
        obtain ⟨V2, hV⟩ : ∃ V, V = V1.alloc (.cells #[.int .i64 0, .int .i64 0, .slice none 0 0, .int .i64 0, .int .i64 0] 62) := ⟨_, rfl⟩
        rw [← hV] at hS HX8 HX9 hzV2 ⊢
        clear hV hbe
        refine reg_call 4 rfl (by kernel_rfl) (by rfl) (fun K hK => ?_)
        go_simp
        go_at_call 70
        refine (args_eqL (CS.out _ hS) (by with_reducible rfl)).mono ?_
        rintro e y3 ⟨vA, vB, k, rfl, RA, RB, hk1, hk2, hb⟩
        have RA0 := Lib.hid RA
        have RB0 := Lib.hid RB
        obtain ⟨aA, cA, rfl⟩ := RA.form
        obtain ⟨aB, cB, rfl⟩ := RB.form
        clear RA RB
        have hzy3 := hb.size
        have HX8 := Lib.hid (HX8.out.below hb (by omega))
        have HX9 := Lib.hid (HX9.out.below hb (by omega))
        refine hK.out _ _ (KP1.out _ _ hb hS) (fun hS' => ?_)
        clear hK K hS
        have hS := hS'
        clear hS'
        try (try simp only [Act.put, List.setIfInBounds_toArray, List.set_cons_zero, List.set_cons_succ])
        clear hb
        refine reg_take 5 (v := ?_) rfl (by kernel_rfl) (by kernel_rfl) (by kernel_rfl) (fun _ _ _ h => h) (by rfl) (by intro w hSw; (try dsimp only at hSw); go_simp; first | done | with_reducible rfl) hS ?_
        (try simp only [Act.put, List.setIfInBounds_toArray, List.set_cons_zero, List.set_cons_succ])
        refine reg_take 6 (v := ?_) rfl (by kernel_rfl) (by kernel_rfl) (by kernel_rfl) (fun _ _ _ h => h) (by rfl) (by intro w hSw; (try dsimp only at hSw); go_simp; first | done | with_reducible rfl) hS ?_
        (try simp only [Act.put, List.setIfInBounds_toArray, List.set_cons_zero, List.set_cons_succ])
        refine reg_take 7 (v := ?_) rfl (by kernel_rfl) (by kernel_rfl) (by kernel_rfl) (fun _ _ _ h => h) (by rfl) (by intro w hSw; (try dsimp only at hSw); go_simp; first | done | with_reducible rfl) hS ?_
        (try simp only [Act.put, List.setIfInBounds_toArray, List.set_cons_zero, List.set_cons_succ])
        clear KP1
        refine reg_call 10 rfl (by kernel_rfl) (by rfl) (fun K hK => ?_)
        have ec0 := HX8.out.1.1
        have ec1 := HX8.out.1.2.1
        have ec2 := HX8.out.1.2.2.1
        have ec3 := HX8.out.1.2.2.2.1
        have ec4 := HX8.out.1.2.2.2.2
        have ef0 := HX8.out.2.1
        have ef1 := HX8.out.2.2.1
        have ef2 := HX8.out.2.2.2.1
        have ef3 := HX8.out.2.2.2.2.1
        have ef4 := HX8.out.2.2.2.2.2
        go_simp
        refine hK.out _ _ (KS1.out _ U0.heap.size (.int .i64 M1) (.int .i64 N1) (.slice aA L1.length cA) (.int .i64 0) (.int .i64 0) (by omega) hS) (fun hS' => ?_)
        clear hK K hS ec0 ef0 ec1 ef1 ec2 ef2 ec3 ef3 ec4 ef4
        have hS := hS'
        clear hS'
        try (try simp only [Act.put, List.setIfInBounds_toArray, List.set_cons_zero, List.set_cons_succ])
        have HX8 : Hid (BoxQ U0.heap.size M1 N1 (.slice aA L1.length cA) 0 0 (set5 y3 U0.heap.size (.int .i64 M1) (.int .i64 N1) (.slice aA L1.length cA) (.int .i64 0) (.int .i64 0))) := Lib.hid (BoxQ.put5 HX8.out)
        have HX9 : Hid (BoxQ V1.heap.size 0 0 (.slice none 0 0) 0 0 (set5 y3 U0.heap.size (.int .i64 M1) (.int .i64 N1) (.slice aA L1.length cA) (.int .i64 0) (.int .i64 0))) := Lib.hid (BoxQ.far5 HX9.out (show U0.heap.size ≠ V1.heap.size by omega))
        have RA0 : Hid (PatIn _ _ (set5 y3 U0.heap.size (.int .i64 M1) (.int .i64 N1) (.slice aA L1.length cA) (.int .i64 0) (.int .i64 0)) _ _) := Lib.hid (row5 RA0.out (by omega) (by first | omega | (simp [World.setCell] <;> omega)))
        have RB0 : Hid (PatIn _ _ (set5 y3 U0.heap.size (.int .i64 M1) (.int .i64 N1) (.slice aA L1.length cA) (.int .i64 0) (.int .i64 0)) _ _) := Lib.hid (row5 RB0.out (by omega) (by first | omega | (simp [World.setCell] <;> omega)))
        refine reg_call 11 rfl (by kernel_rfl) (by rfl) (fun K hK => ?_)
        have ec0 := HX9.out.1.1
        have ec1 := HX9.out.1.2.1
        have ec2 := HX9.out.1.2.2.1
        have ec3 := HX9.out.1.2.2.2.1
        have ec4 := HX9.out.1.2.2.2.2
        have ef0 := HX9.out.2.1
        have ef1 := HX9.out.2.2.1
        have ef2 := HX9.out.2.2.2.1
        have ef3 := HX9.out.2.2.2.2.1
        have ef4 := HX9.out.2.2.2.2.2
        go_simp
        refine hK.out _ _ (KS1.out _ V1.heap.size (.int .i64 M2) (.int .i64 N2) (.slice aB L2.length cB) (.int .i64 X2) (.int .i64 Y2) (by omega) hS) (fun hS' => ?_)
        clear hK K hS ec0 ef0 ec1 ef1 ec2 ef2 ec3 ef3 ec4 ef4
        have hS := hS'
        clear hS'
        try (try simp only [Act.put, List.setIfInBounds_toArray, List.set_cons_zero, List.set_cons_succ])
        have HX9 : Hid (BoxQ V1.heap.size M2 N2 (.slice aB L2.length cB) X2 Y2 (set5 (set5 y3 U0.heap.size (.int .i64 M1) (.int .i64 N1) (.slice aA L1.length cA) (.int .i64 0) (.int .i64 0)) V1.heap.size (.int .i64 M2) (.int .i64 N2) (.slice aB L2.length cB) (.int .i64 X2) (.int .i64 Y2))) := Lib.hid (BoxQ.put5 HX9.out)
        have HX8 : Hid (BoxQ U0.heap.size M1 N1 (.slice aA L1.length cA) 0 0 (set5 (set5 y3 U0.heap.size (.int .i64 M1) (.int .i64 N1) (.slice aA L1.length cA) (.int .i64 0) (.int .i64 0)) V1.heap.size (.int .i64 M2) (.int .i64 N2) (.slice aB L2.length cB) (.int .i64 X2) (.int .i64 Y2))) := Lib.hid (BoxQ.far5 HX8.out (show V1.heap.size ≠ U0.heap.size by omega))
        have RA0 : Hid (PatIn _ _ (set5 (set5 y3 U0.heap.size (.int .i64 M1) (.int .i64 N1) (.slice aA L1.length cA) (.int .i64 0) (.int .i64 0)) V1.heap.size (.int .i64 M2) (.int .i64 N2) (.slice aB L2.length cB) (.int .i64 X2) (.int .i64 Y2)) _ _) := Lib.hid (row5 RA0.out (by omega) (by first | omega | (simp [World.setCell] <;> omega)))
        have RB0 : Hid (PatIn _ _ (set5 (set5 y3 U0.heap.size (.int .i64 M1) (.int .i64 N1) (.slice aA L1.length cA) (.int .i64 0) (.int .i64 0)) V1.heap.size (.int .i64 M2) (.int .i64 N2) (.slice aB L2.length cB) (.int .i64 X2) (.int .i64 Y2)) _ _) := Lib.hid (row5 RB0.out (by omega) (by first | omega | (simp [World.setCell] <;> omega)))
        refine wpAnyH_done (by kernel_rfl) ?_ _
        have HBW := Lib.hid hS.2.2.2.2.2
        clear hS
        go_wp2_with fail
        go_meet
        exact ⟨_, _, _, _, k, _, rfl, rfl, HX8, HX9, Lib.hid (RA0.out.wide (by omega) (Nat.le_refl _)), Lib.hid (RB0.out.wide (by omega) (Nat.le_refl _)), by simp [World.setCell] <;> omega, by simp [World.setCell] <;> omega, HBW⟩
    · go_simp
      refine hK.out _ _ (KP1.out _ _ (bel0 _ _) hS) (fun hS' => ?_)
      clear hK K hS
      have hS := hS'
      clear hS'
      try (try simp only [Act.put, List.setIfInBounds_toArray, List.set_cons_zero, List.set_cons_succ])
      have hbe : Below U0.heap.size U0 (U0.alloc (.cells #[.int .i64 0, .int .i64 0, .slice none 0 0, .int .i64 0, .int .i64 0] 62)) := bel0 _ _
      have HX9 := Lib.hid (BoxQ.new U0 0 0 (.slice none 0 0) 0 0 62)
      have hzV1 : (U0.alloc (.cells #[.int .i64 0, .int .i64 0, .slice none 0 0, .int .i64 0, .int .i64 0] 62)).heap.size ≤ U0.heap.size + 1 ∧ U0.heap.size + 1 ≤ (U0.alloc (.cells #[.int .i64 0, .int .i64 0, .slice none 0 0, .int .i64 0, .int .i64 0] 62)).heap.size := by simp
      obtain ⟨V1, hV⟩ : ∃ V, V = U0.alloc (.cells #[.int .i64 0, .int .i64 0, .slice none 0 0, .int .i64 0, .int .i64 0] 62) := ⟨_, rfl⟩
      rw [← hV] at hS HX9 hzV1 ⊢
      clear hV hbe
      refine reg_two 4 8 rfl rfl (by kernel_rfl) (by rfl) (by rfl) (fun K hK => ?_) (fun K hK => ?_)
      · go_simp
        go_at_call 70
        refine (args_eqL (CS.out _ hS) (by with_reducible rfl)).mono ?_
        rintro e y2 ⟨vA, vB, k, rfl, RA, RB, hk1, hk2, hb⟩
        have RA0 := Lib.hid RA
        have RB0 := Lib.hid RB
        obtain ⟨aA, cA, rfl⟩ := RA.form
        obtain ⟨aB, cB, rfl⟩ := RB.form
        clear RA RB
        have hzy2 := hb.size
        have HX9 := Lib.hid (HX9.out.below hb (by omega))
        refine hK.out _ _ (KP1.out _ _ hb hS) (fun hS' => ?_)
        clear hK K hS
        have hS := hS'
        clear hS'
        try (try simp only [Act.put, List.setIfInBounds_toArray, List.set_cons_zero, List.set_cons_succ])
        clear hb
        refine reg_take 5 (v := ?_) rfl (by kernel_rfl) (by kernel_rfl) (by kernel_rfl) (fun _ _ _ h => h) (by rfl) (by intro w hSw; (try dsimp only at hSw); go_simp; first | done | with_reducible rfl) hS ?_
        (try simp only [Act.put, List.setIfInBounds_toArray, List.set_cons_zero, List.set_cons_succ])
        refine reg_take 6 (v := ?_) rfl (by kernel_rfl) (by kernel_rfl) (by kernel_rfl) (fun _ _ _ h => h) (by rfl) (by intro w hSw; (try dsimp only at hSw); go_simp; first | done | with_reducible rfl) hS ?_
        (try simp only [Act.put, List.setIfInBounds_toArray, List.set_cons_zero, List.set_cons_succ])
        refine reg_take 7 (v := ?_) rfl (by kernel_rfl) (by kernel_rfl) (by kernel_rfl) (fun _ _ _ h => h) (by rfl) (by intro w hSw; (try dsimp only at hSw); go_simp; first | done | with_reducible rfl) hS ?_
        (try simp only [Act.put, List.setIfInBounds_toArray, List.set_cons_zero, List.set_cons_succ])
        refine reg_call 8 rfl (by kernel_rfl) (by rfl) (fun K hK => ?_)
        go_simp
        refine hK.out _ _ (KP1.out _ _ (bel0 _ _) hS) (fun hS' => ?_)
        clear hK K hS
        have hS := hS'
        clear hS'
        try (try simp only [Act.put, List.setIfInBounds_toArray, List.set_cons_zero, List.set_cons_succ])
        have hbe : Below y2.heap.size y2 (y2.alloc (.cells #[.int .i64 0, .int .i64 0, .slice none 0 0, .int .i64 0, .int .i64 0] 62)) := bel0 _ _
        have HX8 := Lib.hid (BoxQ.new y2 0 0 (.slice none 0 0) 0 0 62)
        have hzV3 : (y2.alloc (.cells #[.int .i64 0, .int .i64 0, .slice none 0 0, .int .i64 0, .int .i64 0] 62)).heap.size ≤ y2.heap.size + 1 ∧ y2.heap.size + 1 ≤ (y2.alloc (.cells #[.int .i64 0, .int .i64 0, .slice none 0 0, .int .i64 0, .int .i64 0] 62)).heap.size := by simp
        have HX9 := Lib.hid (HX9.out.below hbe (by omega))
        have RA0 := Lib.hid (RA0.out.below (hbe.mono (by omega)))
        have RB0 := Lib.hid (RB0.out.below (hbe.mono (by omega)))
        obtain ⟨V3, hV⟩ : ∃ V, V = y2.alloc (.cells #[.int .i64 0, .int .i64 0, .slice none 0 0, .int .i64 0, .int .i64 0] 62) := ⟨_, rfl⟩
        rw [← hV] at hS HX9 HX8 hzV3 RA0 RB0 ⊢
        clear hV hbe
        clear KP1
        refine reg_call 10 rfl (by kernel_rfl) (by rfl) (fun K hK => ?_)
        have ec0 := HX8.out.1.1
        have ec1 := HX8.out.1.2.1
        have ec2 := HX8.out.1.2.2.1
        have ec3 := HX8.out.1.2.2.2.1
        have ec4 := HX8.out.1.2.2.2.2
        have ef0 := HX8.out.2.1
        have ef1 := HX8.out.2.2.1
        have ef2 := HX8.out.2.2.2.1
        have ef3 := HX8.out.2.2.2.2.1
        have ef4 := HX8.out.2.2.2.2.2
        go_simp
        refine hK.out _ _ (KS1.out _ y2.heap.size (.int .i64 M1) (.int .i64 N1) (.slice aA L1.length cA) (.int .i64 0) (.int .i64 0) (by omega) hS) (fun hS' => ?_)
        clear hK K hS ec0 ef0 ec1 ef1 ec2 ef2 ec3 ef3 ec4 ef4
        have hS := hS'
        clear hS'
        try (try simp only [Act.put, List.setIfInBounds_toArray, List.set_cons_zero, List.set_cons_succ])
        have HX8 : Hid (BoxQ y2.heap.size M1 N1 (.slice aA L1.length cA) 0 0 (set5 V3 y2.heap.size (.int .i64 M1) (.int .i64 N1) (.slice aA L1.length cA) (.int .i64 0) (.int .i64 0))) := Lib.hid (BoxQ.put5 HX8.out)
        have HX9 : Hid (BoxQ U0.heap.size 0 0 (.slice none 0 0) 0 0 (set5 V3 y2.heap.size (.int .i64 M1) (.int .i64 N1) (.slice aA L1.length cA) (.int .i64 0) (.int .i64 0))) := Lib.hid (BoxQ.far5 HX9.out (show y2.heap.size ≠ U0.heap.size by omega))
        have RA0 : Hid (PatIn _ _ (set5 V3 y2.heap.size (.int .i64 M1) (.int .i64 N1) (.slice aA L1.length cA) (.int .i64 0) (.int .i64 0)) _ _) := Lib.hid (row5 RA0.out (by omega) (by first | omega | (simp [World.setCell] <;> omega)))
        have RB0 : Hid (PatIn _ _ (set5 V3 y2.heap.size (.int .i64 M1) (.int .i64 N1) (.slice aA L1.length cA) (.int .i64 0) (.int .i64 0)) _ _) := Lib.hid (row5 RB0.out (by omega) (by first | omega | (simp [World.setCell] <;> omega)))
        refine reg_call 11 rfl (by kernel_rfl) (by rfl) (fun K hK => ?_)
        have ec0 := HX9.out.1.1
        have ec1 := HX9.out.1.2.1
        have ec2 := HX9.out.1.2.2.1
        have ec3 := HX9.out.1.2.2.2.1
        have ec4 := HX9.out.1.2.2.2.2
        have ef0 := HX9.out.2.1
        have ef1 := HX9.out.2.2.1
        have ef2 := HX9.out.2.2.2.1
        have ef3 := HX9.out.2.2.2.2.1
        have ef4 := HX9.out.2.2.2.2.2
        go_simp
        refine hK.out _ _ (KS1.out _ U0.heap.size (.int .i64 M2) (.int .i64 N2) (.slice aB L2.length cB) (.int .i64 X2) (.int .i64 Y2) (by omega) hS) (fun hS' => ?_)
        clear hK K hS ec0 ef0 ec1 ef1 ec2 ef2 ec3 ef3 ec4 ef4
        have hS := hS'
        clear hS'
        try (try simp only [Act.put, List.setIfInBounds_toArray, List.set_cons_zero, List.set_cons_succ])
        have HX9 : Hid (BoxQ U0.heap.size M2 N2 (.slice aB L2.length cB) X2 Y2 (set5 (set5 V3 y2.heap.size (.int .i64 M1) (.int .i64 N1) (.slice aA L1.length cA) (.int .i64 0) (.int .i64 0)) U0.heap.size (.int .i64 M2) (.int .i64 N2) (.slice aB L2.length cB) (.int .i64 X2) (.int .i64 Y2))) := Lib.hid (BoxQ.put5 HX9.out)
        have HX8 : Hid (BoxQ y2.heap.size M1 N1 (.slice aA L1.length cA) 0 0 (set5 (set5 V3 y2.heap.size (.int .i64 M1) (.int .i64 N1) (.slice aA L1.length cA) (.int .i64 0) (.int .i64 0)) U0.heap.size (.int .i64 M2) (.int .i64 N2) (.slice aB L2.length cB) (.int .i64 X2) (.int .i64 Y2))) := Lib.hid (BoxQ.far5 HX8.out (show U0.heap.size ≠ y2.heap.size by omega))
        have RA0 : Hid (PatIn _ _ (set5 (set5 V3 y2.heap.size (.int .i64 M1) (.int .i64 N1) (.slice aA L1.length cA) (.int .i64 0) (.int .i64 0)) U0.heap.size (.int .i64 M2) (.int .i64 N2) (.slice aB L2.length cB) (.int .i64 X2) (.int .i64 Y2)) _ _) := Lib.hid (row5 RA0.out (by omega) (by first | omega | (simp [World.setCell] <;> omega)))
        have RB0 : Hid (PatIn _ _ (set5 (set5 V3 y2.heap.size (.int .i64 M1) (.int .i64 N1) (.slice aA L1.length cA) (.int .i64 0) (.int .i64 0)) U0.heap.size (.int .i64 M2) (.int .i64 N2) (.slice aB L2.length cB) (.int .i64 X2) (.int .i64 Y2)) _ _) := Lib.hid (row5 RB0.out (by omega) (by first | omega | (simp [World.setCell] <;> omega)))
        refine wpAnyH_done (by kernel_rfl) ?_ _
        have HBW := Lib.hid hS.2.2.2.2.2
        clear hS
        go_wp2_with fail
        go_meet
        exact ⟨_, _, _, _, k, _, rfl, rfl, HX8, HX9, Lib.hid (RA0.out.wide (by omega) (Nat.le_refl _)), Lib.hid (RB0.out.wide (by omega) (Nat.le_refl _)), by simp [World.setCell] <;> omega, by simp [World.setCell] <;> omega, HBW⟩
      · go_simp
        refine hK.out _ _ (KP1.out _ _ (bel0 _ _) hS) (fun hS' => ?_)
        clear hK K hS
        have hS := hS'
        clear hS'
        try (try simp only [Act.put, List.setIfInBounds_toArray, List.set_cons_zero, List.set_cons_succ])
        have hbe : Below V1.heap.size V1 (V1.alloc (.cells #[.int .i64 0, .int .i64 0, .slice none 0 0, .int .i64 0, .int .i64 0] 62)) := bel0 _ _
        have HX8 := Lib.hid (BoxQ.new V1 0 0 (.slice none 0 0) 0 0 62)
        have hzV2 : (V1.alloc (.cells #[.int .i64 0, .int .i64 0, .slice none 0 0, .int .i64 0, .int .i64 0] 62)).heap.size ≤ V1.heap.size + 1 ∧ V1.heap.size + 1 ≤ (V1.alloc (.cells #[.int .i64 0, .int .i64 0, .slice none 0 0, .int .i64 0, .int .i64 0] 62)).heap.size := by simp
        have HX9 := Lib.hid (HX9.out.below hbe (by omega))
        obtain ⟨V2, hV⟩ : ∃ V, V = V1.alloc (.cells #[.int .i64 0, .int .i64 0, .slice none 0 0, .int .i64 0, .int .i64 0] 62) := ⟨_, rfl⟩
        rw [← hV] at hS HX9 HX8 hzV2 ⊢
        clear hV hbe
        refine reg_call 4 rfl (by kernel_rfl) (by rfl) (fun K hK => ?_)
        go_simp
        go_at_call 70
        refine (args_eqL (CS.out _ hS) (by with_reducible rfl)).mono ?_
        rintro e y3 ⟨vA, vB, k, rfl, RA, RB, hk1, hk2, hb⟩
        have RA0 := Lib.hid RA
        have RB0 := Lib.hid RB
        obtain ⟨aA, cA, rfl⟩ := RA.form
        obtain ⟨aB, cB, rfl⟩ := RB.form
        clear RA RB
        have hzy3 := hb.size
        have HX9 := Lib.hid (HX9.out.below hb (by omega))
        have HX8 := Lib.hid (HX8.out.below hb (by omega))
        refine hK.out _ _ (KP1.out _ _ hb hS) (fun hS' => ?_)
        clear hK K hS
        have hS := hS'
        clear hS'
        try (try simp only [Act.put, List.setIfInBounds_toArray, List.set_cons_zero, List.set_cons_succ])
        clear hb
        refine reg_take 5 (v := ?_) rfl (by kernel_rfl) (by kernel_rfl) (by kernel_rfl) (fun _ _ _ h => h) (by rfl) (by intro w hSw; (try dsimp only at hSw); go_simp; first | done | with_reducible rfl) hS ?_
        (try simp only [Act.put, List.setIfInBounds_toArray, List.set_cons_zero, List.set_cons_succ])
        refine reg_take 6 (v := ?_) rfl (by kernel_rfl) (by kernel_rfl) (by kernel_rfl) (fun _ _ _ h => h) (by rfl) (by intro w hSw; (try dsimp only at hSw); go_simp; first | done | with_reducible rfl) hS ?_
        (try simp only [Act.put, List.setIfInBounds_toArray, List.set_cons_zero, List.set_cons_succ])
        refine reg_take 7 (v := ?_) rfl (by kernel_rfl) (by kernel_rfl) (by kernel_rfl) (fun _ _ _ h => h) (by rfl) (by intro w hSw; (try dsimp only at hSw); go_simp; first | done | with_reducible rfl) hS ?_
        (try simp only [Act.put, List.setIfInBounds_toArray, List.set_cons_zero, List.set_cons_succ])
        clear KP1
        refine reg_call 10 rfl (by kernel_rfl) (by rfl) (fun K hK => ?_)
        have ec0 := HX8.out.1.1
        have ec1 := HX8.out.1.2.1
        have ec2 := HX8.out.1.2.2.1
        have ec3 := HX8.out.1.2.2.2.1
        have ec4 := HX8.out.1.2.2.2.2
        have ef0 := HX8.out.2.1
        have ef1 := HX8.out.2.2.1
        have ef2 := HX8.out.2.2.2.1
        have ef3 := HX8.out.2.2.2.2.1
        have ef4 := HX8.out.2.2.2.2.2
        go_simp
        refine hK.out _ _ (KS1.out _ V1.heap.size (.int .i64 M1) (.int .i64 N1) (.slice aA L1.length cA) (.int .i64 0) (.int .i64 0) (by omega) hS) (fun hS' => ?_)
        clear hK K hS ec0 ef0 ec1 ef1 ec2 ef2 ec3 ef3 ec4 ef4
        have hS := hS'
        clear hS'
        try (try simp only [Act.put, List.setIfInBounds_toArray, List.set_cons_zero, List.set_cons_succ])
        have HX8 : Hid (BoxQ V1.heap.size M1 N1 (.slice aA L1.length cA) 0 0 (set5 y3 V1.heap.size (.int .i64 M1) (.int .i64 N1) (.slice aA L1.length cA) (.int .i64 0) (.int .i64 0))) := Lib.hid (BoxQ.put5 HX8.out)
        have HX9 : Hid (BoxQ U0.heap.size 0 0 (.slice none 0 0) 0 0 (set5 y3 V1.heap.size (.int .i64 M1) (.int .i64 N1) (.slice aA L1.length cA) (.int .i64 0) (.int .i64 0))) := Lib.hid (BoxQ.far5 HX9.out (show V1.heap.size ≠ U0.heap.size by omega))
        have RA0 : Hid (PatIn _ _ (set5 y3 V1.heap.size (.int .i64 M1) (.int .i64 N1) (.slice aA L1.length cA) (.int .i64 0) (.int .i64 0)) _ _) := Lib.hid (row5 RA0.out (by omega) (by first | omega | (simp [World.setCell] <;> omega)))
        have RB0 : Hid (PatIn _ _ (set5 y3 V1.heap.size (.int .i64 M1) (.int .i64 N1) (.slice aA L1.length cA) (.int .i64 0) (.int .i64 0)) _ _) := Lib.hid (row5 RB0.out (by omega) (by first | omega | (simp [World.setCell] <;> omega)))
        refine reg_call 11 rfl (by kernel_rfl) (by rfl) (fun K hK => ?_)
        have ec0 := HX9.out.1.1
        have ec1 := HX9.out.1.2.1
        have ec2 := HX9.out.1.2.2.1
        have ec3 := HX9.out.1.2.2.2.1
        have ec4 := HX9.out.1.2.2.2.2
        have ef0 := HX9.out.2.1
        have ef1 := HX9.out.2.2.1
        have ef2 := HX9.out.2.2.2.1
        have ef3 := HX9.out.2.2.2.2.1
        have ef4 := HX9.out.2.2.2.2.2
        go_simp
        refine hK.out _ _ (KS1.out _ U0.heap.size (.int .i64 M2) (.int .i64 N2) (.slice aB L2.length cB) (.int .i64 X2) (.int .i64 Y2) (by omega) hS) (fun hS' => ?_)
        clear hK K hS ec0 ef0 ec1 ef1 ec2 ef2 ec3 ef3 ec4 ef4
        have hS := hS'
        clear hS'
        try (try simp only [Act.put, List.setIfInBounds_toArray, List.set_cons_zero, List.set_cons_succ])
        have HX9 : Hid (BoxQ U0.heap.size M2 N2 (.slice aB L2.length cB) X2 Y2 (set5 (set5 y3 V1.heap.size (.int .i64 M1) (.int .i64 N1) (.slice aA L1.length cA) (.int .i64 0) (.int .i64 0)) U0.heap.size (.int .i64 M2) (.int .i64 N2) (.slice aB L2.length cB) (.int .i64 X2) (.int .i64 Y2))) := Lib.hid (BoxQ.put5 HX9.out)
        have HX8 : Hid (BoxQ V1.heap.size M1 N1 (.slice aA L1.length cA) 0 0 (set5 (set5 y3 V1.heap.size (.int .i64 M1) (.int .i64 N1) (.slice aA L1.length cA) (.int .i64 0) (.int .i64 0)) U0.heap.size (.int .i64 M2) (.int .i64 N2) (.slice aB L2.length cB) (.int .i64 X2) (.int .i64 Y2))) := Lib.hid (BoxQ.far5 HX8.out (show U0.heap.size ≠ V1.heap.size by omega))
        have RA0 : Hid (PatIn _ _ (set5 (set5 y3 V1.heap.size (.int .i64 M1) (.int .i64 N1) (.slice aA L1.length cA) (.int .i64 0) (.int .i64 0)) U0.heap.size (.int .i64 M2) (.int .i64 N2) (.slice aB L2.length cB) (.int .i64 X2) (.int .i64 Y2)) _ _) := Lib.hid (row5 RA0.out (by omega) (by first | omega | (simp [World.setCell] <;> omega)))
        have RB0 : Hid (PatIn _ _ (set5 (set5 y3 V1.heap.size (.int .i64 M1) (.int .i64 N1) (.slice aA L1.length cA) (.int .i64 0) (.int .i64 0)) U0.heap.size (.int .i64 M2) (.int .i64 N2) (.slice aB L2.length cB) (.int .i64 X2) (.int .i64 Y2)) _ _) := Lib.hid (row5 RB0.out (by omega) (by first | omega | (simp [World.setCell] <;> omega)))
        refine wpAnyH_done (by kernel_rfl) ?_ _
        have HBW := Lib.hid hS.2.2.2.2.2
        clear hS
        go_wp2_with fail
        go_meet
        exact ⟨_, _, _, _, k, _, rfl, rfl, HX8, HX9, Lib.hid (RA0.out.wide (by omega) (Nat.le_refl _)), Lib.hid (RB0.out.wide (by omega) (Nat.le_refl _)), by simp [World.setCell] <;> omega, by simp [World.setCell] <;> omega, HBW⟩
  case rest =>
    obtain ⟨pA, pB, vA, vB, k, kk, rfl, rfl, HA, HB, RA, RB, hk, hkk, HBW⟩ := hcut
    have hsx := HBW.out.size
    have BRx := Lib.hid (BR.out.below HBW.out (by omega))
    obtain ⟨⟨a0, a1, a2, _, _⟩, _⟩ := HA.out
    clear HA BR b0 b1 b2 e0 e1 S0 CS CC KP1 KS1
    go_wp2_with fail
    refine (HIH.out G.heap.size k vA _ RA.out hk (by omega)).mono ?_
    rintro e y ⟨v', rfl, RY, hby⟩
    obtain ⟨aY, cY, rfl⟩ := RY.form
    have hsy := hby.size
    have BRy := Lib.hid (BRx.out.below hby (by have := BRx.out.lt; omega))
    have HBY : Hid (Below w.heap.size w y) := Lib.hid (bel_c (HB1.out.trans (HBW.out.mono (by omega))) (by omega) hby)
    have HBb := Lib.hid ((HB.out.below hby (by exact HB.out.lt)).below (bel0 y (.cells #[.int .i64 0, .int .i64 0, .slice aY 0 cY] 26)) (by have := HB.out.lt; omega))
    have RBb := Lib.hid ((RB.out.below (hby.mono hkk)).below ((bel0 y (.cells #[.int .i64 0, .int .i64 0, .slice aY 0 cY] 26)).mono (by omega)))
    have BRz := Lib.hid (BRy.out.below (bel0 y (.cells #[.int .i64 0, .int .i64 0, .slice aY 0 cY] 26)) (by have := BRx.out.lt; omega))
    have HBZ := Lib.hid (bel_n HBY.out (by omega) (.cells #[.int .i64 0, .int .i64 0, .slice aY 0 cY] 26))
    obtain ⟨⟨c0, c1, c2, _, _⟩, _⟩ := HBb.out
    clear RY hby RA a0 a1 a2 BRx HBW HB1 HB RB BRy HBY
    go_wp2_with fail
    refine (HIH2.out G.heap.size kk vB _ RBb.out (by simp; omega) (by simp; omega)).mono ?_
    rintro e z ⟨v2, rfl, RZ, hbz⟩
    obtain ⟨aZ, cZ, rfl⟩ := RZ.form
    have RZ0 := Lib.hid RZ
    have BRw := Lib.hid (BRz.out.below hbz BRz.out.lt)
    have HBY2 : Hid (Below w.heap.size w z) := Lib.hid (bel_c HBZ.out (by omega) hbz)
    have hsz := hbz.size
    simp at hsz
    obtain ⟨d0, d1, d2, z0, z1, z2⟩ := BRw.out
    clear RZ hbz HBb RBb BRz HBZ c0 c1 c2
    go_wp2_with fail
    refine bodyPost_ret (v := .tuple #[.agg #[.int .i64 M, .int .i64 N, .slice aZ X.length cZ], .bool ok]) (by simp [results, Try.results57, go_sem, d0, d1, d2]) rfl ⟨_, rfl, ?_, ?_⟩
    · refine PatIn.wide (lo := G.heap.size) (hi := z.heap.size) (PatIn.set_far (PatIn.set_far (PatIn.set_far RZ0.out ?_ _) ?_ _) ?_ _) ?_ ?_
      all_goals first | omega | (simp [World.setCell] <;> omega)
    · refine Below.setCell (Below.setCell (Below.setCell HBY2.out ?_ _) ?_ _) ?_ _
      all_goals first | omega | (simp <;> omega)


set_option maxHeartbeats 3200000 in
set_option maxRecDepth 20000 in
theorem Knot_one (lo hi : Nat) (m n : Int) (v : Value) (xs : List P5) (w : World) (r : PatIn lo hi w v xs) (_hhi : hi ≤ w.heap.size) (hl1 : xs.length = 1) :
    Calls Try.prog 57 #[.agg #[.int .i64 m, .int .i64 n, v]] w (KnotV 0 0 [] false lo w) := by
  obtain ⟨b, cap, rfl⟩ := r.form
  have hl2 : ((xs.length : Nat) : Int) = 1 := by omega
  clear r
  go_enter Try.func57, Try.ntmps57
  go_wp2_with fail
  refine bodyPost_ret (v := .tuple #[.agg #[.int .i64 0, .int .i64 0, .slice none 0 0], .bool false]) (by simp [results, Try.results57, go_sem]) rfl ⟨_, rfl, ⟨by simp, .inl ⟨rfl, _, _, rfl⟩⟩, ?_⟩
  exact bel_n (bel0 w _) (Nat.le_refl _) _
set_option maxHeartbeats 3200000 in
set_option maxRecDepth 20000 in
theorem Knot_here (lo hi : Nat) (m n : Int) (v : Value) (xs : List P5) (w : World) (r : PatIn lo hi w v xs) (hhi : hi ≤ w.heap.size) (_hlo : lo ≤ w.heap.size) (lay : LayOk m n xs) (hl1 : xs.length ≠ 1) (hcs : cutsL m n xs = []) :
    Calls Try.prog 57 #[.agg #[.int .i64 m, .int .i64 n, v]] w (KnotV m n xs true lo w) := by
  obtain ⟨b, cap, rfl⟩ := r.form
  have R := Lib.hid r
  have hd : ((xs.length : Int) == 1) = false := by simp; omega
  have CC : Hid (∀ u : World, Below w.heap.size w u → Calls Try.prog 60 #[.agg #[.int .i64 m, .int .i64 n, .slice b xs.length cap]] u (FreshCut [] u)) := Lib.hid (fun u hb => by rw [← hcs]; exact Cuts_any lo hi m n _ xs u (r.below (hb.mono hhi)) (Nat.le_trans hhi hb.size) lay)
  have HB2 : Hid (Below w.heap.size w ((w.alloc (.cells #[.int .i64 m, .int .i64 n, .slice b xs.length cap] 26)).alloc (.cells #[.int .i64 0, .int .i64 0, .slice none 0 0] 26))) := Lib.hid (bel_n (bel0 w _) (Nat.le_refl _) _)
  clear r lay hcs
  go_enter Try.func57, Try.ntmps57
  go_wp2_with fail
  refine (CC.out _ HB2.out).mono ?_
  rintro e w1 ⟨vc, rfl, RC, hb1⟩
  obtain ⟨ac, cc, rfl⟩ := RC.form
  have b0 := kept (p := ⟨w.heap.size, 0, none⟩) (x := .int .i64 m) hb1 (by go_simp)
  have b1 := kept (p := ⟨w.heap.size, 1, none⟩) (x := .int .i64 n) hb1 (by go_simp)
  have b2 := kept (p := ⟨w.heap.size, 2, none⟩) (x := .slice b xs.length cap) hb1 (by go_simp)
  have BR : BoxL (w.heap.size + 1) (.int .i64 0) (.int .i64 0) (.slice none 0 0) w1 := by
    have := BoxL.new (w.alloc (.cells #[.int .i64 m, .int .i64 n, .slice b xs.length cap] 26)) (.int .i64 0) (.int .i64 0) (.slice none 0 0) 26
    rw [show (w.alloc (.cells #[.int .i64 m, .int .i64 n, .slice b xs.length cap] 26)).heap.size = w.heap.size + 1 by simp] at this
    exact this.below hb1 (by simp)
  obtain ⟨d0, d1, d2, z0, z1, z2⟩ := BR
  have HB1 := Lib.hid (bel_c HB2.out (Nat.le_refl _) hb1)
  have R1 := Lib.hid (R.out.below (HB1.out.mono hhi))
  have hs1 := hb1.size
  simp at hs1
  clear hb1 RC
  go_wp2_with fail
  refine bodyPost_ret (v := .tuple #[.agg #[.int .i64 m, .int .i64 n, .slice b xs.length cap], .bool true]) (by simp [results, Try.results57, go_sem, d0, d1, d2]) rfl ⟨_, rfl, ?_, ?_⟩
  · obtain ⟨hl, h | ⟨g, c, hv, hcp, hg, hlt, hc⟩⟩ := R1.out
    · exact ⟨hl, .inl h⟩
    · refine ⟨hl, .inr ⟨g, c, hv, hcp, hg, by simp [World.setCell]; omega, fun i hi => ⟨?_, ?_⟩⟩⟩
      · exact (((hc i hi).1.set_far (by simp; omega) _).set_far (by simp; omega) _).set_far (by simp; omega) _
      · exact (((hc i hi).2.set_far _ _).set_far _ _).set_far _ _
  · refine Below.setCell (Below.setCell (Below.setCell HB1.out ?_ _) ?_ _) ?_ _ <;> (simp <;> omega)
theorem Knot_any {m n : Int} {xs : List P5} {q : Option (Int × Int × List P5)} (h : KnotIs m n xs q) : ∀ (lo hi : Nat) (v : Value) (w : World), PatIn lo hi w v xs → hi ≤ w.heap.size → lo ≤ w.heap.size →
    Calls Try.prog 57 #[.agg #[.int .i64 m, .int .i64 n, v]] w (KnotV (kM q) (kN q) (kX q) q.isSome lo w) := by
  induction h with
  | one h hl => intro lo hi v w r hhi hlo; exact Knot_one lo hi _ _ v _ w r hhi hl
  | knot h hl hc => intro lo hi v w r hhi hlo; exact Knot_here lo hi _ _ v _ w r hhi hlo h hl hc
  | left h hl hc h1 ih => intro lo hi v w r hhi hlo; exact Knot_left lo hi _ _ v _ _ _ _ _ _ w r hhi hlo h hl hc ih
  | right h hl hc h1 h2 ih1 ih2 => intro lo hi v w r hhi hlo; exact Knot_right lo hi _ _ v _ _ _ _ _ _ _ w r hhi hlo h hl hc ih1 ih2

end Go.Proofs.Ytboahceibeeifaa

set_option linter.unusedSimpArgs false
set_option linter.unusedVariables false
namespace Go.Proofs.Ytboahceibeeifaa
open Go.ChangeShapes Go.WideShapes Go.ChangeAt Go.RowKit

theorem Within.thenB {lo hi B : Nat} {u v w : World} (h : Within lo hi u v) (k : Below B v w) (hB : u.heap.size ≤ B) : Within lo hi u w :=
  ⟨k.os.trans h.os, k.tape.trans h.tape, k.output.trans h.output, Nat.le_trans h.size k.size, fun i hi ho => (k.block i (by omega)).trans (h.block i hi ho)⟩
theorem owW {w w' : World} {b e size n lo hi : Nat} {v : Value} {xs : List Value} (h : w.ownsRow b e size v n xs) (hb : Within lo hi w w') (hh : hi ≤ b) : w'.ownsRow b e size v n xs := by
  obtain ⟨h1, h2 | ⟨g, cap, cur, hv, hg, hh', r⟩⟩ := h
  · exact ⟨h1, .inl h2⟩
  · exact ⟨h1, .inr ⟨g, cap, cur, hv, hg, by rw [hb.block g (lt_of_heap hh') (.inr (by omega))]; exact hh', r⟩⟩
/-- Joins are handed back; the number goes on. -/
def JoinI (nb : Nat) (T : Int) (js : List J3) (u : Int) (w : World) (e : Ending) (w' : World) : Prop :=
  ∃ v, e = .returned (.tuple #[v, .int .i64 u]) ∧ OwnJ w.heap.size w' v js ∧ w'.cell? ⟨nb, 0, none⟩ = some (.int .i64 (T + js.length)) ∧ w'.frozen? ⟨nb, 0, none⟩ = false ∧ Within nb (nb + 1) w w'
set_option maxHeartbeats 3200000 in
set_option maxRecDepth 20000 in
theorem IJoins_one (lo hi : Nat) (m n : Int) (v : Value) (xs : List P5) (l t : Int) (lo2 hi2 : Nat) (M N : Int) (vW : Value) (W : List P5) (nb : Nat) (T : Int) (u : Int) (w : World) (r : PatIn lo hi w v xs) (hhi : hi ≤ w.heap.size) (r2 : PatIn lo2 hi2 w vW W) (hhi2 : hi2 ≤ w.heap.size) (hnb : nb < w.heap.size) (hn1 : hi ≤ nb ∨ nb < lo) (hn2 : hi2 ≤ nb ∨ nb < lo2) (lay : LayOk m n xs) (layW : LayOk M N W) (cN : w.cell? ⟨nb, 0, none⟩ = some (.int .i64 T)) (fN : w.frozen? ⟨nb, 0, none⟩ = false) (l0 : 0 ≤ l) (l1 : l + m ≤ 12) (t0 : 0 ≤ t) (t1 : t + n ≤ 12) (hl1 : xs.length = 1) (hu : u = patL M N W l t) (wfW : ∀ c ∈ W, c.Wf) :
    Calls Try.prog 36 #[.agg #[.int .i64 m, .int .i64 n, v, .int .i64 l, .int .i64 t], .agg #[.int .i64 M, .int .i64 N, vW], .pointer (some ⟨nb, 0, none⟩)] w (JoinI nb T [] u w) := by
  obtain ⟨b, cap, rfl⟩ := r.form
  obtain ⟨bW, cW, rfl⟩ := r2.form
  have CP : Hid (∀ q : World, Below w.heap.size w q → Calls Try.prog 59 #[.agg #[.int .i64 M, .int .i64 N, .slice bW W.length cW], .int .i64 l, .int .i64 t] q fun e w' => e = .returned (.int .i64 u) ∧ Below q.heap.size q w') := Lib.hid (fun q hb => by rw [hu]; exact ImplPatchAt_any lo2 hi2 M N _ W l t q (r2.below (hb.mono hhi2)) (Nat.le_trans hhi2 hb.size) wfW)
  have HB0 : Hid (Below w.heap.size w ((w.alloc (.cells #[.int .i64 m, .int .i64 n, .slice b xs.length cap, .int .i64 l, .int .i64 t] 62)).alloc (.cells #[.int .i64 M, .int .i64 N, .slice bW W.length cW] 26))) := Lib.hid (bel_n (bel0 w _) (Nat.le_refl _) _)
  have HN : Hid (w.cell? ⟨nb, 0, none⟩ = some (.int .i64 T) ∧ w.frozen? ⟨nb, 0, none⟩ = false) := Lib.hid ⟨cN, fN⟩
  rw [hl1] at HB0 ⊢
  clear r r2 lay layW hu cN fN
  go_enter Try.func36, Try.ntmps36
  go_wp2_with fail
  refine (args_eqL (CP.out _ HB0.out) (by with_reducible rfl)).mono ?_
  rintro e y ⟨rfl, hb⟩
  have HB1 := Lib.hid (bel_c HB0.out (Nat.le_refl _) hb)
  clear hb HB0 CP
  go_wp2_with fail
  refine bodyPost_ret (v := .tuple #[.slice none 0 0, .int .i64 u]) (by simp [results, Try.results36, go_sem]) rfl ⟨_, rfl, OwnJ.nil _ _, ?_, ?_, Within.of_below HB1.out⟩
  · simpa using kept HB1.out HN.out.1
  · exact keptF HB1.out HN.out.1 HN.out.2

set_option maxHeartbeats 9600000 in
set_option maxRecDepth 20000 in
theorem IJoins_join (lo hi : Nat) (m n : Int) (v : Value) (xs : List P5) (l t : Int) (lo2 hi2 : Nat) (M N : Int) (vW : Value) (W : List P5) (nb : Nat) (T : Int) (c : C2) (rr : List C2) (j1 j2 : List J3) (u1 u2 : Int) (w : World) (r : PatIn lo hi w v xs) (hhi : hi ≤ w.heap.size) (r2 : PatIn lo2 hi2 w vW W) (hhi2 : hi2 ≤ w.heap.size) (hnb : nb < w.heap.size) (hn1 : hi ≤ nb ∨ nb < lo) (hn2 : hi2 ≤ nb ∨ nb < lo2) (lay : LayOk m n xs) (layW : LayOk M N W) (cN : w.cell? ⟨nb, 0, none⟩ = some (.int .i64 T)) (fN : w.frozen? ⟨nb, 0, none⟩ = false) (l0 : 0 ≤ l) (l1 : l + m ≤ 12) (t0 : 0 ≤ t) (t1 : t + n ≤ 12) (hl1 : xs.length ≠ 1) (hcs : cutsL m n xs = c :: rr) (hj1 : j1.length + 1 = (pL1 m n c xs).length) (hj2 : j2.length + 1 = (pL2 m n c xs).length) (T0 : 0 ≤ T) (T1 : T + xs.length ≤ 40)
    (ih1 : ∀ (lo hi : Nat) (v : Value) (lo2 hi2 : Nat) (vW : Value) (w : World), PatIn lo hi w v (pL1 m n c xs) → hi ≤ w.heap.size → PatIn lo2 hi2 w vW W → hi2 ≤ w.heap.size → nb < w.heap.size → (hi ≤ nb ∨ nb < lo) → (hi2 ≤ nb ∨ nb < lo2) → w.cell? ⟨nb, 0, none⟩ = some (.int .i64 T) → w.frozen? ⟨nb, 0, none⟩ = false → Calls Try.prog 36 #[.agg #[.int .i64 (pM1 m c), .int .i64 (pN1 n c), v, .int .i64 l, .int .i64 t], .agg #[.int .i64 M, .int .i64 N, vW], .pointer (some ⟨nb, 0, none⟩)] w (JoinI nb T j1 u1 w))
    (ih2 : ∀ (lo hi : Nat) (v : Value) (lo2 hi2 : Nat) (vW : Value) (w : World), PatIn lo hi w v (pL2 m n c xs) → hi ≤ w.heap.size → PatIn lo2 hi2 w vW W → hi2 ≤ w.heap.size → nb < w.heap.size → (hi ≤ nb ∨ nb < lo) → (hi2 ≤ nb ∨ nb < lo2) → w.cell? ⟨nb, 0, none⟩ = some (.int .i64 (T + j1.length)) → w.frozen? ⟨nb, 0, none⟩ = false → Calls Try.prog 36 #[.agg #[.int .i64 (pM2 m c), .int .i64 (pN2 n c), v, .int .i64 (pX2 c + l), .int .i64 (pY2 c + t)], .agg #[.int .i64 M, .int .i64 N, vW], .pointer (some ⟨nb, 0, none⟩)] w (JoinI nb (T + j1.length) j2 u2 w)) :
    Calls Try.prog 36 #[.agg #[.int .i64 m, .int .i64 n, v, .int .i64 l, .int .i64 t], .agg #[.int .i64 M, .int .i64 N, vW], .pointer (some ⟨nb, 0, none⟩)] w (JoinI nb T (j1 ++ j2 ++ [⟨c.up, u1, u2⟩]) (T + (j1.length + j2.length)) w) := by
  have hc := first_cut hcs
  have hpl := part_len lay hc
  obtain ⟨ij, hij, jz0, jz1, jz2⟩ := info_parts3 info_Jn
  obtain ⟨b, cap, rfl⟩ := r.form
  obtain ⟨bW, cW, rfl⟩ := r2.form
  have hx12 := lay.2.2.1.2
  have hm1 := lay.1.1
  have hn1' := lay.2.1.1
  have hd : ((xs.length : Int) == 1) = false := by simp; omega
  have R2 := Lib.hid r2
  have CC : Hid (∀ u : World, Below w.heap.size w u → Calls Try.prog 60 #[.agg #[.int .i64 m, .int .i64 n, .slice b xs.length cap]] u (FreshCut (c :: rr) u)) := Lib.hid (fun u hb => by rw [← hcs]; exact Cuts_any lo hi m n _ xs u (r.below (hb.mono hhi)) (Nat.le_trans hhi hb.size) lay)
  have CH : Hid (∀ u : World, Below w.heap.size w u → Calls Try.prog 61 #[.agg #[.int .i64 m, .int .i64 n, .slice b xs.length cap, .int .i64 l, .int .i64 t], .agg #[.bool c.up, .int .i64 c.a]] u (HalvesIs m n c l t xs u)) := Lib.hid (fun u hb => Halves_any lo hi m n _ xs l t c.up c.a u (r.below (hb.mono hhi)) (Nat.le_trans hhi hb.size) lay hc l0 (by omega) t0 (by omega))
  have HIH1 := Lib.hid ih1
  have HIH2 := Lib.hid ih2
  obtain ⟨W0, hW0⟩ : ∃ Z, Z = (w.alloc (.cells #[.int .i64 m, .int .i64 n, .slice b xs.length cap, .int .i64 l, .int .i64 t] 62)).alloc (.cells #[.int .i64 M, .int .i64 N, .slice bW W.length cW] 26) := ⟨_, rfl⟩
  have hs0 : W0.heap.size = w.heap.size + 1 + 1 := by rw [hW0]; simp
  have HB0 : Hid (Below w.heap.size w W0) := Lib.hid (by rw [hW0]; exact bel_n (bel0 w _) (Nat.le_refl _) _)
  have B1 : BoxQ w.heap.size m n (.slice b xs.length cap) l t W0 := by rw [hW0]; exact (BoxQ.new w m n (.slice b xs.length cap) l t 62).below (bel0 _ _) (by simp)
  have q0 : W0.cell? ⟨w.heap.size + 1, 0, none⟩ = some (.int .i64 M) := by rw [hW0]; simp
  have q1 : W0.cell? ⟨w.heap.size + 1, 1, none⟩ = some (.int .i64 N) := by rw [hW0]; simp
  have q2 : W0.cell? ⟨w.heap.size + 1, 2, none⟩ = some (.slice bW W.length cW) := by rw [hW0]; simp
  have n0 : W0.cell? ⟨nb, 0, none⟩ = some (.int .i64 T) := kept HB0.out cN
  have g0 : W0.frozen? ⟨nb, 0, none⟩ = false := keptF HB0.out cN fN
  have HB1 := Lib.hid B1
  obtain ⟨⟨b0, b1, b2, b3, b4⟩, _⟩ := B1
  have hWs := hW0.symm
  obtain ⟨up, a⟩ := c
  unfold HalvesIs at CH
  simp only at CH
  clear hW0 r r2 lay layW hc hcs ih1 ih2 cN fN
  obtain ⟨JR, hJR⟩ : ∃ J, J = j1 ++ j2 ++ [(⟨up, u1, u2⟩ : J3)] := ⟨_, rfl⟩
  obtain ⟨UR, hUR⟩ : ∃ U, U = T + ((j1.length : Int) + j2.length) := ⟨_, rfl⟩
  have HJR := Lib.hid hJR
  have HUR := Lib.hid hUR
  rw [show j1 ++ j2 ++ [(⟨(⟨up, a⟩ : C2).up, u1, u2⟩ : J3)] = JR from hJR.symm, ← hUR]
  clear hJR hUR
  generalize pM1 m ⟨up, a⟩ = M1 at *
  generalize pN1 n ⟨up, a⟩ = N1 at *
  generalize pM2 m ⟨up, a⟩ = M2 at *
  generalize pN2 n ⟨up, a⟩ = N2 at *
  generalize pX2 ⟨up, a⟩ + l = X2 at *
  generalize pY2 ⟨up, a⟩ + t = Y2 at *
  generalize pL1 m n ⟨up, a⟩ xs = L1 at *
  generalize pL2 m n ⟨up, a⟩ xs = L2 at *
  go_enter Try.func36, Try.ntmps36
  go_wp2_with fail
  refine (args_eqL (CC.out _ HB0.out) (by with_reducible rfl)).mono ?_
  rintro e y ⟨vc, rfl, RC, hb⟩
  obtain ⟨ac, cc, rfl⟩ := RC.form
  obtain ⟨g, rfl, hg, hg1, ⟨e0, e1⟩, _⟩ := RC.at (Below.refl _ _) (i := 0) (by simp)
  simp only [Nat.zero_mul, Nat.zero_add, List.getD_cons_zero] at e0 e1
  have HBY := Lib.hid (bel_c HB0.out (Nat.le_refl _) hb)
  have BC := bel0 y (.cells #[.bool up, .int .i64 a] 71)
  have HBC := Lib.hid (bel_c HBY.out (Nat.le_refl _) BC)
  have hsy := hb.size
  have B2 := HB1.out.below hb (by omega)
  have B3 := Lib.hid (B2.below BC (by omega))
  obtain ⟨⟨b0', b1', b2', b3', b4'⟩, _⟩ := B3.out
  have k0 : (y.alloc (.cells #[.bool up, .int .i64 a] 71)).cell? ⟨y.heap.size, 0, none⟩ = some (.bool up) := by simp
  have k1 : (y.alloc (.cells #[.bool up, .int .i64 a] 71)).cell? ⟨y.heap.size, 1, none⟩ = some (.int .i64 a) := by simp
  have q0' := kept BC (kept hb q0)
  have q1' := kept BC (kept hb q1)
  have q2' := kept BC (kept hb q2)
  have n0' := kept BC (kept hb n0)
  have g0' := keptF BC (kept hb n0) (keptF hb n0 g0)
  clear b0 b1 b2 b3 b4 q0 q1 q2 n0 g0 hWs hb BC RC HB0 HB1 CC B2 HBY
  go_wp2_with fail
  refine (args_eqL (CH.out _ HBC.out) (by with_reducible rfl)).mono ?_
  rintro e z ⟨v1, v2, k, rfl, RA, RB, hk1, hk2, hb⟩
  obtain ⟨aA, cA, rfl⟩ := RA.form
  obtain ⟨aB, cB, rfl⟩ := RB.form
  have HRA := Lib.hid (RA.below ((bel_n (bel0 z (.cells #[.int .i64 M1, .int .i64 N1, .slice aA L1.length cA, .int .i64 l, .int .i64 t] 62)) (Nat.le_refl _) (.cells #[.int .i64 M2, .int .i64 N2, .slice aB L2.length cB, .int .i64 X2, .int .i64 Y2] 62)).mono hk2))
  have HRB := Lib.hid (RB.below (bel_n (bel0 z (.cells #[.int .i64 M1, .int .i64 N1, .slice aA L1.length cA, .int .i64 l, .int .i64 t] 62)) (Nat.le_refl _) (.cells #[.int .i64 M2, .int .i64 N2, .slice aB L2.length cB, .int .i64 X2, .int .i64 Y2] 62)))
  have HBz := Lib.hid (bel_c HBC.out (Nat.le_refl _) hb)
  have BZ := bel_n (bel0 z (.cells #[.int .i64 M1, .int .i64 N1, .slice aA L1.length cA, .int .i64 l, .int .i64 t] 62)) (Nat.le_refl _) (.cells #[.int .i64 M2, .int .i64 N2, .slice aB L2.length cB, .int .i64 X2, .int .i64 Y2] 62)
  have HBA : Hid (BoxQ z.heap.size M1 N1 (.slice aA L1.length cA) l t ((z.alloc (.cells #[.int .i64 M1, .int .i64 N1, .slice aA L1.length cA, .int .i64 l, .int .i64 t] 62)).alloc (.cells #[.int .i64 M2, .int .i64 N2, .slice aB L2.length cB, .int .i64 X2, .int .i64 Y2] 62))) := Lib.hid ((BoxQ.new z M1 N1 (.slice aA L1.length cA) l t 62).below (bel0 _ _) (by simp))
  have HBB : Hid (BoxQ (z.heap.size + 1) M2 N2 (.slice aB L2.length cB) X2 Y2 ((z.alloc (.cells #[.int .i64 M1, .int .i64 N1, .slice aA L1.length cA, .int .i64 l, .int .i64 t] 62)).alloc (.cells #[.int .i64 M2, .int .i64 N2, .slice aB L2.length cB, .int .i64 X2, .int .i64 Y2] 62))) := Lib.hid (by
    have := BoxQ.new (z.alloc (.cells #[.int .i64 M1, .int .i64 N1, .slice aA L1.length cA, .int .i64 l, .int .i64 t] 62)) M2 N2 (.slice aB L2.length cB) X2 Y2 62
    rwa [show (z.alloc (.cells #[.int .i64 M1, .int .i64 N1, .slice aA L1.length cA, .int .i64 l, .int .i64 t] 62)).heap.size = z.heap.size + 1 by simp] at this)
  have k0z := kept BZ (kept hb k0)
  have q0z := kept BZ (kept hb q0')
  have q1z := kept BZ (kept hb q1')
  have q2z := kept BZ (kept hb q2')
  have n0z := kept BZ (kept hb n0')
  have g0z := keptF BZ (kept hb n0') (keptF hb n0' g0')
  have HZ1 := Lib.hid (bel_c HBz.out (Nat.le_refl _) BZ)
  have hsz := hb.size
  simp at hsz
  have hZs : ((z.alloc (.cells #[.int .i64 M1, .int .i64 N1, .slice aA L1.length cA, .int .i64 l, .int .i64 t] 62)).alloc (.cells #[.int .i64 M2, .int .i64 N2, .slice aB L2.length cB, .int .i64 X2, .int .i64 Y2] 62)).heap.size = z.heap.size + 1 + 1 := by simp
  have hal : (y.alloc (.cells #[.bool up, .int .i64 a] 71)).heap.size = y.heap.size + 1 := by simp
  have R2z := Lib.hid (R2.out.below (HZ1.out.mono hhi2))
  clear b0' b1' b2' b3' b4' q0' q1' q2' n0' g0' k0 k1 hb RA RB BZ HBC CH B3 HBz
  obtain ⟨Z1, hZ1⟩ : ∃ Z, (z.alloc (.cells #[.int .i64 M1, .int .i64 N1, .slice aA L1.length cA, .int .i64 l, .int .i64 t] 62)).alloc (.cells #[.int .i64 M2, .int .i64 N2, .slice aB L2.length cB, .int .i64 X2, .int .i64 Y2] 62) = Z := ⟨_, rfl⟩
  rw [hZ1] at HRA HRB HBA HBB k0z q0z q1z q2z n0z g0z HZ1 hZs R2z
  obtain ⟨⟨b0, b1, b2, b3, b4⟩, _⟩ := HBA.out
  go_wp2_with fail
  refine (args_eqL (HIH1.out _ _ _ _ _ _ Z1 HRA.out (by omega) R2z.out (by omega) (by omega) (.inr (by simp; omega)) hn2 n0z g0z) (by with_reducible rfl)).mono ?_
  rintro e A ⟨vj1, rfl, OJ1, cA1, fA1, WA⟩
  have hjl1 : j1.length ≤ 12 := by omega
  have hjl2 : j2.length ≤ 12 := by omega
  obtain ⟨aj1, cj1, rfl⟩ := (OJ1.row (by omega)).form
  have HOJ1 := Lib.hid OJ1
  have HBBa := Lib.hid (HBB.out.within WA (.inr (by omega)))
  have HRBa := Lib.hid (HRB.out.within WA (.inr (by omega)) (by omega))
  have R2a := Lib.hid (R2z.out.within WA (by omega) (by omega))
  have q0a := WA.cell q0z (.inr (by simp; omega))
  have q1a := WA.cell q1z (.inr (by simp; omega))
  have q2a := WA.cell q2z (.inr (by simp; omega))
  have k0a := WA.cell k0z (.inr (by simp; omega))
  have hsa := WA.size
  have HWA := Lib.hid ((Within.of_below HZ1.out).trans WA)
  clear b0 b1 b2 b3 b4 OJ1 WA HRA HRB HBA HBB k0z q0z q1z q2z n0z g0z R2z hZ1
  obtain ⟨⟨b0, b1, b2, b3, b4⟩, _⟩ := HBBa.out
  go_wp2_with fail
  refine (args_eqL (HIH2.out _ _ _ _ _ _ A HRBa.out (by omega) R2a.out (by omega) (by omega) (.inr (by omega)) hn2 cA1 fA1) (by with_reducible rfl)).mono ?_
  rintro e B ⟨vj2, rfl, OJ2, cB2, fB2, WB⟩
  obtain ⟨aj2, cj2, rfl⟩ := (OJ2.row (by omega)).form
  have HOB : Hid (B.ownsRow Z1.heap.size 40 3 (.slice aj1 j1.length cj1) j1.length (placesJn j1)) := Lib.hid (owW HOJ1.out WB (by omega))
  have HR2 : Hid (RowOf B (.slice aj2 j2.length cj2) j2.length (placesJn j2)) := Lib.hid ((OJ2.row (by omega)).rowOf (Below.refl _ _))
  have k0b := WB.cell k0a (.inr (by simp; omega))
  have hsb := WB.size
  have hsB : Z1.heap.size ≤ B.heap.size := by omega
  have HWB := Lib.hid (HWA.out.trans WB)
  have hp2 := placesJn_length j2
  have ho2 := oneJn j2
  have HCB := Lib.hid cB2
  have HFB := Lib.hid fB2
  clear b0 b1 b2 b3 b4 OJ2 WB HOJ1 HBBa HRBa R2a q0a q1a q2a k0a cA1 fA1 cB2 fB2 HWA
  go_wp2_with (first
    | (at_builtin; refine wpList_append_row rfl _ _ 28 rfl Z1.heap.size 40 ij _ 3 24 Try.underlying28 hij jz0 jz1 jz2 rfl (by decide) _ _ _ rfl HO4.out _ 1 [.bool up, .int .i64 u1, .int .i64 u2] rfl rfl HR4.out (by simp [Value.oneCell']) (by unfold maxLen; omega) (by omega) HS4.out (W2.heap.size + 1) (by simp) ?_; intro v3 W3 own3 grow3 at3; have HB4 := Lib.hid ((bel0 W2 (.cells #[.bool up, .int .i64 u1, .int .i64 u2] 40) |>.mono HS2.out).trans ((Below.refl Z1.heap.size _).grown grow3 HS4.out (ogL HO4.out))); have HO5 : Hid (OwnJ Z1.heap.size W3 v3 (j12 ++ [⟨up, u1, u2⟩])) := Lib.hid (OwnJ.both own3); obtain ⟨a3, c3, hv3⟩ := (HO5.out.row (by simp; omega)).form; have hl3 : (j12 ++ [(⟨up, u1, u2⟩ : J3)]).length = j12.length + 1 := (by simp); rw [hl3] at hv3; subst hv3)
    | (at_builtin; refine wpList_append_row rfl _ _ 28 rfl Z1.heap.size 40 ij _ 3 24 Try.underlying28 hij jz0 jz1 jz2 rfl (by decide) _ _ _ rfl HOB.out _ j2.length (placesJn j2) rfl hp2 HR2.out ho2 (by unfold maxLen; omega) (by omega) hsB (B.heap.size) rfl ?_; intro v2 W1 own2 grow2 at2; have HB3 := Lib.hid ((Below.refl Z1.heap.size _).grown grow2 hsB (ogL HOB.out)); have HO3 : Hid (OwnJ Z1.heap.size W1 v2 (j1 ++ j2)) := Lib.hid (OwnJ.both own2); obtain ⟨j12, hj12⟩ : ∃ j, j = j1 ++ j2 := ⟨_, rfl⟩; have hl12 : j12.length = j1.length + j2.length := (by rw [hj12]; simp); rw [← hj12] at HO3; have HJ12 := Lib.hid hj12; have HL12 := Lib.hid hl12; have hl12' : j12.length ≤ 24 := (by omega); clear hl12 hj12; obtain ⟨a2, c2, hv2⟩ := (HO3.out.row (by omega)).form; subst hv2; have k0y : W1.cell? ⟨y.heap.size, 0, none⟩ = some (.bool up) := (HB3.out.cell (p := ⟨y.heap.size, 0, none⟩) (by simp; omega)).trans k0b; have cNy : W1.cell? ⟨nb, 0, none⟩ = some (.int .i64 (T + j1.length + j2.length)) := (HB3.out.cell (p := ⟨nb, 0, none⟩) (by simp; omega)).trans HCB.out; have fNy : W1.frozen? ⟨nb, 0, none⟩ = false := (HB3.out.frozen (p := ⟨nb, 0, none⟩) (by simp; omega)).trans HFB.out; obtain ⟨W2, hW2⟩ : ∃ V, W1.setCell ⟨nb, 0, none⟩ (.int .i64 (T + j1.length + j2.length + 1)) = V := ⟨_, rfl⟩; have HS2 : Hid (Z1.heap.size ≤ W2.heap.size) := Lib.hid (by rw [← hW2]; have := HB3.out.size; simp [World.setCell]; omega); have HO2 : Hid (OwnJ Z1.heap.size W2 (.slice a2 j12.length c2) j12) := Lib.hid (by rw [← hW2]; exact osL HO3.out (by simp; omega) _); have k0w : W2.cell? ⟨y.heap.size, 0, none⟩ = some (.bool up) := (by rw [← hW2, World.cell?_setCell_other _ _ _ _ (by simp <;> omega)]; exact k0y); have HCW : Hid (W2.cell? ⟨nb, 0, none⟩ = some (.int .i64 (T + j1.length + j2.length + 1)) ∧ W2.frozen? ⟨nb, 0, none⟩ = false) := Lib.hid (by rw [← hW2]; exact ⟨World.cell?_setCell_same _ _ _ cNy, by rw [World.frozen?_setCell]; exact fNy⟩); have HWW : Hid (Within nb (nb + 1) w W2) := Lib.hid (by rw [← hW2]; exact Within.setCell (HWB.out.thenB HB3.out (by omega)) (p := ⟨nb, 0, none⟩) (Nat.le_refl _) (Nat.lt_succ_self _) _); have HO4 : Hid ((W2.alloc (.cells #[.bool up, .int .i64 u1, .int .i64 u2] 40)).ownsRow Z1.heap.size 40 3 (.slice a2 j12.length c2) j12.length (placesJn j12)) := Lib.hid (owL HO2.out (bel0 W2 _)); have HR4 : Hid (RowOf (W2.alloc (.cells #[.bool up, .int .i64 u1, .int .i64 u2] 40)) (.slice (some ⟨W2.heap.size, 0, none⟩) 1 1) 1 [.bool up, .int .i64 u1, .int .i64 u2]) := Lib.hid (.inr ⟨_, _, rfl, newsL W2 W2.heap.size #[.bool up, .int .i64 u1, .int .i64 u2] 40 rfl⟩); have HS4 : Hid (Z1.heap.size ≤ (W2.alloc (.cells #[.bool up, .int .i64 u1, .int .i64 u2] 40)).heap.size) := Lib.hid (by have := HS2.out; simp; omega)))
  refine bodyPost_ret (v := .tuple #[.slice a3 (j12.length + 1) c3, .int .i64 (T + j1.length + j2.length)]) (by simp [results, Try.results36, go_sem]) rfl ⟨.slice a3 (j12.length + 1) c3, ?_, ?_, ?_, ?_, ?_⟩
  · rw [HUR.out, Int.add_assoc]
  · have h9 := HO5.out
    rw [HJ12.out] at h9
    rw [HJR.out, HJ12.out]
    exact h9.wide (by omega)
  · have e9 : T + (JR.length : Int) = T + j1.length + j2.length + 1 := by rw [HJR.out]; simp; omega
    rw [e9]
    exact (HB4.out.cell (p := ⟨nb, 0, none⟩) (by simp; omega)).trans HCW.out.1
  · exact (HB4.out.frozen (p := ⟨nb, 0, none⟩) (by simp; omega)).trans HCW.out.2
  · exact HWW.out.thenB HB4.out (by omega)

end Go.Proofs.Ytboahceibeeifaa

set_option linter.unusedSimpArgs false
set_option linter.unusedVariables false
namespace Go.Proofs.Ytboahceibeeifaa
open Go.ChangeShapes Go.WideShapes Go.ChangeAt Go.RowKit

/-- The program's joins, of a part whose patches lie in the whole. -/
theorem IJoins_is {M N : Int} {W : List P5} (layW : LayOk M N W) (wfW : ∀ c ∈ W, c.Wf) {m n : Int} {xs : List P5} {ns : List Int} {T : Int} {js : List J3} {u : Int} {b : Bool} (h : TreeIs m n xs ns T js u b) :
    ∀ (l t : Int), b = true → Sub W l t xs ns → 0 ≤ l → l + m ≤ 12 → 0 ≤ t → t + n ≤ 12 → 0 ≤ T → T + xs.length ≤ 40 →
    ∀ (lo hi : Nat) (v : Value) (lo2 hi2 : Nat) (vW : Value) (nb : Nat) (w : World), PatIn lo hi w v xs → hi ≤ w.heap.size → PatIn lo2 hi2 w vW W → hi2 ≤ w.heap.size → nb < w.heap.size → (hi ≤ nb ∨ nb < lo) → (hi2 ≤ nb ∨ nb < lo2) → w.cell? ⟨nb, 0, none⟩ = some (.int .i64 T) → w.frozen? ⟨nb, 0, none⟩ = false →
    Calls Try.prog 36 #[.agg #[.int .i64 m, .int .i64 n, v, .int .i64 l, .int .i64 t], .agg #[.int .i64 M, .int .i64 N, vW], .pointer (some ⟨nb, 0, none⟩)] w (JoinI nb T js u w) := by
  induction h with
  | one h hl hn =>
    intro l t hb hs l0 l1 t0 t1 T0 T1 lo hi v lo2 hi2 vW nb w r hhi r2 hhi2 hnb hn1 hn2 cN fN
    exact IJoins_one lo hi _ _ v _ l t lo2 hi2 M N vW W nb _ _ w r hhi r2 hhi2 hnb hn1 hn2 h layW cN fN l0 l1 t0 t1 hl (hs.one h hl layW) wfW
  | knot h hl hn hc => intro l t hb; cases hb
  | @join m n xs ns T c rr j1 j2 u1 u2 b1 b2 h hl hn hc k1 k2 ih1 ih2 =>
    intro l t hb hs l0 l1 t0 t1 T0 T1 lo hi v lo2 hi2 vW nb w r hhi r2 hhi2 hnb hn1 hn2 cN fN
    obtain ⟨e1, e2⟩ : b1 = true ∧ b2 = true := by simpa using hb
    subst e1 e2
    have hc' := first_cut hc
    have hln := part_len h hc'
    have f1 := k1.full rfl
    have f2 := k2.full rfl
    have s1 := hs.left h hc'
    have s2 := hs.right h hc'
    rw [Int.add_comm l, Int.add_comm t] at s2
    have B : l + pM1 m c ≤ 12 ∧ t + pN1 n c ≤ 12 ∧ 0 ≤ pX2 c + l ∧ pX2 c + l + pM2 m c ≤ 12 ∧ 0 ≤ pY2 c + t ∧ pY2 c + t + pN2 n c ≤ 12 := by
      have h1 := cut_in hc'
      obtain ⟨up, a⟩ := c
      cases up <;> simp [pM1, pN1, pM2, pN2, pX2, pY2, endC] at h1 ⊢ <;> omega
    obtain ⟨g1, g2, g3, g4, g5, g6⟩ := B
    have I1 := ih1 l t rfl s1 l0 g1 t0 g2 T0 (by omega)
    have I2 := ih2 (pX2 c + l) (pY2 c + t) rfl s2 g3 g4 g5 g6 (by omega) (by omega)
    exact IJoins_join lo hi m n v xs l t lo2 hi2 M N vW W nb T c rr j1 j2 u1 u2 w r hhi r2 hhi2 hnb hn1 hn2 h layW cN fN l0 l1 t0 t1 hl hc f1 f2 T0 T1
      (fun lo hi v lo2 hi2 vW w => I1 lo hi v lo2 hi2 vW nb w) (fun lo hi v lo2 hi2 vW w => I2 lo hi v lo2 hi2 vW nb w)

end Go.Proofs.Ytboahceibeeifaa
