/- Cuts: the model's CutsOf. -/
import Derived.Test.YtboahceibeeifaaCutSa
import Derived.Test.YtboahceibeeifaaCutR
import Derived.Test.YtboahceibeeifaaLayB

set_option linter.unusedSimpArgs false
set_option linter.unusedVariables false
namespace Go.Proofs.Ytboahceibeeifaa
open Go.ChangeShapes Go.WideShapes Go.ChangeAt Go.RowKit

theorem c24_v (k : Nat) : c24 k = ⟨decide ((k : Int) < 12), (k : Int) % 12⟩ := C2.ext' (by simp [c24]; omega) (by simp [c24])

set_option maxHeartbeats 6400000 in
set_option maxRecDepth 20000 in
theorem SpecCutsOf_any (lo hi : Nat) (m n : Int) (v : Value) (xs : List P5) (w : World) (r : PatIn lo hi w v xs) (hhi : hi ≤ w.heap.size) :
    Calls Try.prog 38 #[.agg #[.int .i64 m, .int .i64 n, v]] w (FreshCut (cutsB m n xs) w) := by
  obtain ⟨i0, hi0, hz0, hz1, hz2⟩ := info_parts3 info_Cut
  obtain ⟨b, cap, rfl⟩ := r.form
  have R := Lib.hid r
  have LK : Hid (∀ u : World, Below w.heap.size w u → Calls Try.prog 37 #[.agg #[.int .i64 m, .int .i64 n, .slice b xs.length cap]] u fun e w' => e = .returned (.bool (layB m n xs)) ∧ Below u.heap.size u w') := Lib.hid (fun u hb => SpecLayoutOk_any lo hi m n _ xs u (r.below (hb.mono hhi)) (Nat.le_trans hhi hb.size))
  have IC : Hid (∀ (k : Nat) (u : World), Below w.heap.size w u → Calls Try.prog 62 #[.agg #[.int .i64 m, .int .i64 n, .slice b xs.length cap], .agg #[.bool (decide ((k : Int) < 12)), .int .i64 ((k : Int) % 12)]] u fun e w' => e = .returned (.bool (cutB m n xs (c24 k))) ∧ Below u.heap.size u w') := Lib.hid (fun k u hb => by rw [c24_v]; exact SpecIsCut_any lo hi m n _ xs _ _ u (r.below (hb.mono hhi)) (Nat.le_trans hhi hb.size))
  clear r
  have HB0 : Hid (Below w.heap.size w ((w.alloc (.cells #[.int .i64 m, .int .i64 n, .slice b xs.length cap] 26)).alloc (.cells #[] 71))) := Lib.hid (bel_n (bel0 w _) (Nat.le_refl _) _)
  have HO0 : Hid (((w.alloc (.cells #[.int .i64 m, .int .i64 n, .slice b xs.length cap] 26)).alloc (.cells #[] 71)).ownsRow (w.heap.size + 1) 71 2 (.slice (some ⟨w.heap.size + 1, 0, none⟩) 0 0) 0 []) := Lib.hid (by
    have := World.ownsRow_lit (base := w.heap.size + 1) (e := 71) (size := 2) (w.alloc (.cells #[.int .i64 m, .int .i64 n, .slice b xs.length cap] 26)) #[] 0 (by simp) (by decide) rfl
    simpa using this)
  by_cases h : layB m n xs = false
  · rw [cuts_no h]
    rw [h] at LK
    clear h
    go_enter Try.func38, Try.ntmps38
    go_wp2_with fail
    refine (LK.out _ HB0.out).mono ?_
    rintro e w1 ⟨rfl, hb1⟩
    have HBZ := Lib.hid (bel_c HB0.out (Nat.le_refl _) hb1)
    clear hb1
    go_wp2_with fail
    go_ret
    exact ⟨_, rfl, ⟨by simp, .inl ⟨rfl, _, _, rfl⟩⟩, HBZ.out⟩
  · have h' : layB m n xs = true := by simpa using h
    obtain ⟨f, hf⟩ : ∃ f, f = hasC m n xs := ⟨_, rfl⟩
    have HE : Hid (cutsB m n xs = cutK f 24) := Lib.hid (by rw [cuts_yes h', hf]; rfl)
    have IC2 : Hid (∀ (k : Nat) (u : World), Below w.heap.size w u → Calls Try.prog 62 #[.agg #[.int .i64 m, .int .i64 n, .slice b xs.length cap], .agg #[.bool (decide ((k : Int) < 12)), .int .i64 ((k : Int) % 12)]] u fun e w' => e = .returned (.bool (f (c24 k))) ∧ Below u.heap.size u w') := Lib.hid (fun k u hb => by
      have := IC.out k u hb
      rwa [← cut_lay h', ← hf] at this)
    rw [HE.out]
    rw [h'] at LK
    clear h h' hf IC HE
    go_enter Try.func38, Try.ntmps38
    go_wp2_with fail
    refine (LK.out _ HB0.out).mono ?_
    rintro e w1 ⟨rfl, hb1⟩
    have b0 := kept (p := ⟨w.heap.size, 0, none⟩) (x := .int .i64 m) hb1 (by go_simp)
    have b1 := kept (p := ⟨w.heap.size, 1, none⟩) (x := .int .i64 n) hb1 (by go_simp)
    have b2 := kept (p := ⟨w.heap.size, 2, none⟩) (x := .slice b xs.length cap) hb1 (by go_simp)
    have HO1 := Lib.hid (owL HO0.out hb1)
    have HB1 := Lib.hid (bel_c HB0.out (Nat.le_refl _) hb1)
    have HBL : Hid (Below (w.heap.size + 1) (w.alloc (.cells #[.int .i64 m, .int .i64 n, .slice b xs.length cap] 26)) w1) := Lib.hid (by have h1 := bel0 (w.alloc (.cells #[.int .i64 m, .int .i64 n, .slice b xs.length cap] 26)) (.cells #[] 71); rw [show (w.alloc (.cells #[.int .i64 m, .int .i64 n, .slice b xs.length cap] 26)).heap.size = w.heap.size + 1 by simp] at h1; exact bel_c h1 (by simp) hb1)
    have hs1 := hb1.size
    simp at hs1
    clear hb1 HO0 HB0 LK
    go_wp2_with fail
    go_loopw [3, 4] (fun s i wr => ∃ (k : Nat) (v : Value), k ≤ 24 ∧ i = .int .i64 k ∧ v = s ∧ Hid (wr.ownsRow (w.heap.size + 1) 71 2 v (cutK f k).length (placesCut (cutK f k))) ∧ Below (w.heap.size + 1) (w.alloc (.cells #[.int .i64 m, .int .i64 n, .slice b xs.length cap] 26)) wr) (fun _ i _ => 24 - (intOf i).toNat)
    case atStart => exact ⟨0, _, by omega, rfl, rfl, HO1, HBL.out⟩
    case round =>
      obtain ⟨k, v, hk, rfl, rfl, hown, hbel⟩ := hrel
      have hsz := hbel.size
      simp at hsz
      have b0 : wr.cell? ⟨w.heap.size, 0, none⟩ = some (.int .i64 m) := (hbel.cell (p := ⟨w.heap.size, 0, none⟩) (Nat.lt_succ_self _)).trans (by simp)
      have b1 : wr.cell? ⟨w.heap.size, 1, none⟩ = some (.int .i64 n) := (hbel.cell (p := ⟨w.heap.size, 1, none⟩) (Nat.lt_succ_self _)).trans (by simp)
      have b2 : wr.cell? ⟨w.heap.size, 2, none⟩ = some (.slice b xs.length cap) := (hbel.cell (p := ⟨w.heap.size, 2, none⟩) (Nat.lt_succ_self _)).trans (by simp)
      by_cases hlt : k < 24
      · have hlt' : (k : Int) < 24 := by omega
        have HL : Hid ((cutK f k).length ≤ 24) := Lib.hid (by have := cutK_len f k; omega)
        have b0' := kept (bel0 wr (.cells #[.bool (decide ((k : Int) < 12)), .int .i64 ((k : Int) % 12)] 71)) b0
        have b1' := kept (bel0 wr (.cells #[.bool (decide ((k : Int) < 12)), .int .i64 ((k : Int) % 12)] 71)) b1
        have b2' := kept (bel0 wr (.cells #[.bool (decide ((k : Int) < 12)), .int .i64 ((k : Int) % 12)] 71)) b2
        have HW : Hid (Below (w.heap.size + 1) (w.alloc (.cells #[.int .i64 m, .int .i64 n, .slice b xs.length cap] 26)) (wr.alloc (.cells #[.bool (decide ((k : Int) < 12)), .int .i64 ((k : Int) % 12)] 71))) := Lib.hid (bel_n hbel (by simp) _)
        have HWW : Hid (Below w.heap.size w (wr.alloc (.cells #[.bool (decide ((k : Int) < 12)), .int .i64 ((k : Int) % 12)] 71))) := Lib.hid ((bel0 w _).trans (HW.out.mono (Nat.le_succ _)))
        have HO2 := Lib.hid (owL hown.out (bel0 wr (.cells #[.bool (decide ((k : Int) < 12)), .int .i64 ((k : Int) % 12)] 71)))
        have e24 := c24_v k
        clear hown hbel
        by_cases hz : f (c24 k) = true
        · have HY := Lib.hid (cutK_yes (f := f) (k := k) hz)
          rw [e24] at HY
          clear e24
          go_wp2_with fail
          refine (IC2.out k _ HWW.out).mono ?_
          rw [hz]
          rintro e w2 ⟨rfl, hb1⟩
          have c0 := kept (p := ⟨wr.heap.size, 0, none⟩) (x := .bool (decide ((k : Int) < 12))) hb1 (by go_simp)
          have c1 := kept (p := ⟨wr.heap.size, 1, none⟩) (x := .int .i64 ((k : Int) % 12)) hb1 (by go_simp)
          have HO3 := Lib.hid (owL HO2.out hb1)
          have HW2 := Lib.hid (bel_c HW.out (by simp) hb1)
          have hs2 := HW2.out.size
          simp at hs2
          clear hb1 HO2 HW HWW
          have HO4 := Lib.hid (owL HO3.out (bel0 w2 (.cells #[.bool (decide ((k : Int) < 12)), .int .i64 ((k : Int) % 12)] 71)))
          have HNW := Lib.hid (newsL w2 w2.heap.size #[.bool (decide ((k : Int) < 12)), .int .i64 ((k : Int) % 12)] 71 rfl)
          have HBS : Hid (w.heap.size + 1 ≤ (w2.alloc (.cells #[.bool (decide ((k : Int) < 12)), .int .i64 ((k : Int) % 12)] 71)).heap.size) := Lib.hid (by simp; omega)
          have HBE : Hid (Below (w.heap.size + 1) (w.alloc (.cells #[.int .i64 m, .int .i64 n, .slice b xs.length cap] 26)) (w2.alloc (.cells #[.bool (decide ((k : Int) < 12)), .int .i64 ((k : Int) % 12)] 71))) := Lib.hid (bel_n HW2.out (by simp) _)
          have hL := HL.out
          generalize (cutK f k).length = L at hL HO4 HL
          clear HO3 HW2
          go_wp2_with (at_builtin; refine wpList_append_lies _ rfl _ _ 66 rfl (w.heap.size + 1) 71 i0 _ 2 16 Try.underlying66 hi0 hz0 hz1 hz2 rfl (by decide) _ _ _ rfl HO4.out ⟨w2.heap.size, 0, none⟩ 1 1 [.bool (decide ((k : Int) < 12)), .int .i64 ((k : Int) % 12)] rfl rfl HNW.out (by simp [Value.oneCell']) (by omega) (by unfold maxLen; omega) (by omega) HBS.out (w2.heap.size + 1) (by simp) ?_; intro gg cc w5 hown5 hgrow hat hlt5; have hbw := (Below.refl (w.heap.size + 1) _).grown hgrow HBS.out (ogL HO4.out))
          have HN : Hid (w5.ownsRow (w.heap.size + 1) 71 2 (.slice (some ⟨gg, 0, none⟩) (L + 1) cc) (cutK f (k + 1)).length (placesCut (cutK f (k + 1)))) := Lib.hid (by
            rw [HY.out, placesCut_append, List.length_append]
            have hLL := HO4.out.1
            rw [placesCut_length] at hLL
            rw [show (cutK f k).length = L by omega]
            exact hown5)
          have HB6 := Lib.hid (HBE.out.trans hbw)
          clear hown5 hgrow hat hlt5 hbw HO4 HNW HBE HY
          go_wp2_with fail
          go_roundw
          case rel => exact ⟨k + 1, _, by omega, by go_num, rfl, HN, HB6.out⟩
          case measure => simp [intOf] <;> omega
        · have hz' : f (c24 k) = false := by simpa using hz
          have HY : Hid (cutK f (k + 1) = cutK f k) := Lib.hid (cutK_no hz')
          clear e24
          go_wp2_with fail
          refine (IC2.out k _ HWW.out).mono ?_
          rw [hz']
          rintro e w2 ⟨rfl, hb1⟩
          have HO3 : Hid (w2.ownsRow (w.heap.size + 1) 71 2 v (cutK f (k + 1)).length (placesCut (cutK f (k + 1)))) := Lib.hid (by rw [HY.out]; exact owL HO2.out hb1)
          have HW2 := Lib.hid (bel_c HW.out (by simp) hb1)
          clear hb1 HO2 HW HWW HY
          go_wp2_with fail
          go_roundw
          case rel => exact ⟨k + 1, _, by omega, by go_num, rfl, HO3, HW2.out⟩
          case measure => simp [intOf] <;> omega
      · obtain rfl : k = 24 := by omega
        have hin : CutIn (w.heap.size + 1) wr.heap.size wr v (cutK f 24) := CutIn.of_owns hown.out (by have := cutK_len f 24; omega)
        have HI := Lib.hid (hin.wide (lo' := w.heap.size) (hi' := wr.heap.size) (by omega) (Nat.le_refl _))
        have HBZ : Hid (Below w.heap.size w wr) := Lib.hid ((bel0 w _).trans (hbel.mono (by omega)))
        clear hin hown hbel
        go_wp2_with fail
        go_ret
        exact ⟨_, rfl, HI.out, HBZ.out⟩

end Go.Proofs.Ytboahceibeeifaa
