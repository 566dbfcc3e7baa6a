/- Cuts: the model's IsCut. -/
import Derived.Test.YtboahceibeeifaaCutP
import Derived.Test.YtboahceibeeifaaLayS

set_option linter.unusedSimpArgs false
set_option linter.unusedVariables false
namespace Go.Proofs.Ytboahceibeeifaa
open Go.ChangeShapes Go.WideShapes Go.ChangeAt Go.RowKit

set_option maxHeartbeats 3200000 in
set_option maxRecDepth 20000 in
theorem SpecIsCut_any (lo hi : Nat) (m n : Int) (v : Value) (xs : List P5) (up : Bool) (a : Int) (w : World) (r : PatIn lo hi w v xs) (hhi : hi ≤ w.heap.size) :
    Calls Try.prog 62 #[.agg #[.int .i64 m, .int .i64 n, v], .agg #[.bool up, .int .i64 a]] w fun e w' => e = .returned (.bool (cutB m n xs ⟨up, a⟩)) ∧ Below w.heap.size w w' := by
  obtain ⟨b, cap, rfl⟩ := r.form
  have R := Lib.hid r
  have hl := r.1
  have LK : Hid (∀ u : World, Below w.heap.size w u → Calls Try.prog 37 #[.agg #[.int .i64 m, .int .i64 n, .slice b xs.length cap]] u fun e w' => e = .returned (.bool (layB m n xs)) ∧ Below u.heap.size u w') := Lib.hid (fun u hb => SpecLayoutOk_any lo hi m n _ xs u (r.below (hb.mono hhi)) (Nat.le_trans hhi hb.size))
  clear r
  cases up
  · have HB0 : Hid (Below w.heap.size w ((w.alloc (.cells #[.int .i64 m, .int .i64 n, .slice b xs.length cap] 26)).alloc (.cells #[.bool false, .int .i64 a] 71))) := Lib.hid (bel_n (bel0 w _) (Nat.le_refl _) _)
    by_cases h : layB m n xs = false
    · have HH := Lib.hid (cut_no_lay (c := ⟨false, a⟩) h)
      rw [h] at LK
      clear h
      go_enter Try.func62, Try.ntmps62
      go_wp2_with fail
      refine (LK.out _ HB0.out).mono ?_
      rintro e w1 ⟨rfl, hb1⟩
      have HBZ := Lib.hid (bel_c HB0.out (Nat.le_refl _) hb1)
      clear hb1
      go_wp2_with fail
      go_ret
      exact ⟨ret_bool HH.out, HBZ.out⟩
    · have h' : layB m n xs = true := by simpa using h
      obtain ⟨⟨p00, p01⟩, ⟨p10, p11⟩, ⟨p20, p21⟩, HL4, _⟩ := lay_of h'
      have HF : Hid (∀ i, i < xs.length → Fit m n (pat xs i)) := Lib.hid (fun i hi => (HL4 i hi).1)
      have HL := Lib.hid (cut_lay (c := ⟨false, a⟩) h')
      rw [h'] at LK
      clear h h' HL4
      by_cases h0 : 1 ≤ a ∧ a ≤ n - 1
      · obtain ⟨h1, h2⟩ := h0
        go_enter Try.func62, Try.ntmps62
        go_wp2_with fail
        refine (LK.out _ HB0.out).mono ?_
        rintro e w1 ⟨rfl, hb1⟩
        have HB1 : Below ((w.alloc (.cells #[.int .i64 m, .int .i64 n, .slice b xs.length cap] 26)).alloc (.cells #[.bool false, .int .i64 a] 71)).heap.size ((w.alloc (.cells #[.int .i64 m, .int .i64 n, .slice b xs.length cap] 26)).alloc (.cells #[.bool false, .int .i64 a] 71)) w1 := hb1
        have b0 := kept (p := ⟨w.heap.size, 0, none⟩) (x := .int .i64 m) hb1 (by go_simp)
        have b1 := kept (p := ⟨w.heap.size, 1, none⟩) (x := .int .i64 n) hb1 (by go_simp)
        have b2 := kept (p := ⟨w.heap.size, 2, none⟩) (x := .slice b xs.length cap) hb1 (by go_simp)
        have b3 := kept (p := ⟨w.heap.size + 1, 0, none⟩) (x := .bool false) hb1 (by go_simp)
        have b4 := kept (p := ⟨w.heap.size + 1, 1, none⟩) (x := .int .i64 a) hb1 (by go_simp)
        clear hb1
        go_wp2_with fail
        refine (In_yes _ _ _ _ h1 h2).mono ?_
        rintro e w' ⟨rfl, rfl⟩
        go_wp2_with fail
        go_loopw [6] (fun i wr => ∃ k : Nat, k ≤ xs.length ∧ i = .int .i64 k ∧ Hid (∀ j, j < k → thr ⟨false, a⟩ (pat xs j) = false) ∧ Below ((w.alloc (.cells #[.int .i64 m, .int .i64 n, .slice b xs.length cap] 26)).alloc (.cells #[.bool false, .int .i64 a] 71)).heap.size ((w.alloc (.cells #[.int .i64 m, .int .i64 n, .slice b xs.length cap] 26)).alloc (.cells #[.bool false, .int .i64 a] 71)) wr) (fun i _ => xs.length - (intOf i).toNat)
        case atStart => exact ⟨0, Nat.zero_le _, rfl, Lib.hid (fun j hj => by omega), HB1⟩
        case round =>
          obtain ⟨k, hk, rfl, hno, hbel⟩ := hrel
          have hsz := hbel.size
          simp at hsz
          have b0 : wr.cell? ⟨w.heap.size, 0, none⟩ = some (.int .i64 m) := (hbel.cell (p := ⟨w.heap.size, 0, none⟩) (by simp; omega)).trans (by simp)
          have b1 : wr.cell? ⟨w.heap.size, 1, none⟩ = some (.int .i64 n) := (hbel.cell (p := ⟨w.heap.size, 1, none⟩) (by simp; omega)).trans (by simp)
          have b2 : wr.cell? ⟨w.heap.size, 2, none⟩ = some (.slice b xs.length cap) := (hbel.cell (p := ⟨w.heap.size, 2, none⟩) (by simp; omega)).trans (by simp)
          have b3 : wr.cell? ⟨w.heap.size + 1, 0, none⟩ = some (.bool false) := (hbel.cell (p := ⟨w.heap.size + 1, 0, none⟩) (by simp)).trans (by simp)
          have b4 : wr.cell? ⟨w.heap.size + 1, 1, none⟩ = some (.int .i64 a) := (hbel.cell (p := ⟨w.heap.size + 1, 1, none⟩) (by simp)).trans (by simp)
          by_cases hlt : k < xs.length
          · obtain ⟨g, rfl, hg, hg1, hel, _⟩ := R.out.at ((bel_c HB0.out (Nat.le_refl _) hbel).mono hhi) hlt
            obtain ⟨q0, q1, q2, q3, q4⟩ := hel
            obtain ⟨d, hd⟩ : ∃ d, d = xs.getD k P5.zero := ⟨_, rfl⟩
            obtain ⟨⟨f00, f01⟩, ⟨f10, f11⟩, ⟨f20, f21⟩, ⟨f30, f31⟩, _⟩ : Fit m n d := by rw [hd]; exact HF.out k hlt
            rw [← hd] at q0 q1 q2 q3 q4
            have HD : Hid (d = pat xs k) := Lib.hid hd
            have HB3 := Lib.hid (bel_n hbel (Nat.le_refl _) (.cells #[.int .i64 d.x, .int .i64 d.y, .int .i64 d.w, .int .i64 d.h, .int .i64 d.c] 34))
            have HB2 := Lib.hid (bel_c HB0.out (Nat.le_refl _) HB3.out)
            have b0' := kept (bel0 wr (.cells #[.int .i64 d.x, .int .i64 d.y, .int .i64 d.w, .int .i64 d.h, .int .i64 d.c] 34)) b0
            have b1' := kept (bel0 wr (.cells #[.int .i64 d.x, .int .i64 d.y, .int .i64 d.w, .int .i64 d.h, .int .i64 d.c] 34)) b1
            have b2' := kept (bel0 wr (.cells #[.int .i64 d.x, .int .i64 d.y, .int .i64 d.w, .int .i64 d.h, .int .i64 d.c] 34)) b2
            have b3' := kept (bel0 wr (.cells #[.int .i64 d.x, .int .i64 d.y, .int .i64 d.w, .int .i64 d.h, .int .i64 d.c] 34)) b3
            have b4' := kept (bel0 wr (.cells #[.int .i64 d.x, .int .i64 d.y, .int .i64 d.w, .int .i64 d.h, .int .i64 d.c] 34)) b4
            clear hd hbel
            by_cases z1 : d.y < a
            · by_cases z2 : a < d.y + d.h
              · have HH := Lib.hid (has_no_at (m := m) (n := n) (c := ⟨false, a⟩) hlt (by rw [← HD.out]; simp [thr, z1, z2]))
                go_wp2_with fail
                go_ret
                exact ⟨ret_bool (HH.out.trans HL.out), HB2.out⟩
              · have HN : Hid (∀ j, j < k + 1 → thr ⟨false, a⟩ (pat xs j) = false) := Lib.hid (fun j hj => by
                  rcases Nat.lt_succ_iff_lt_or_eq.1 hj with h | rfl
                  · exact hno.out j h
                  · rw [← HD.out]; exact thr_f.2 (by omega))
                go_wp2_with fail
                go_roundw
                case rel => exact ⟨k + 1, by omega, by go_num, HN, HB3.out⟩
                case measure => simp [intOf] <;> omega
            · have HN : Hid (∀ j, j < k + 1 → thr ⟨false, a⟩ (pat xs j) = false) := Lib.hid (fun j hj => by
                rcases Nat.lt_succ_iff_lt_or_eq.1 hj with h | rfl
                · exact hno.out j h
                · rw [← HD.out]; exact thr_f.2 (by omega))
              go_wp2_with fail
              go_roundw
              case rel => exact ⟨k + 1, by omega, by go_num, HN, HB3.out⟩
              case measure => simp [intOf] <;> omega
          · obtain rfl : k = xs.length := by omega
            have HH := Lib.hid (has_yes (m := m) (n := n) (xs := xs) (c := ⟨false, a⟩) (by show 0 < a; omega) (by simp [endC]; omega) hno.out)
            have HBZ := Lib.hid (bel_c HB0.out (Nat.le_refl _) hbel)
            clear hbel
            go_wp2_with fail
            go_ret
            exact ⟨ret_bool (HH.out.trans HL.out), HBZ.out⟩
      · have h1 : a < 1 ∨ n - 1 < a := by omega
        have HH : Hid (false = hasC m n xs ⟨false, a⟩) := Lib.hid (by
          rcases h1 with h1 | h1
          · exact has_no_lo (by show a ≤ 0; omega)
          · exact has_no_hi (by simp [endC]; omega))
        clear h0
        go_enter Try.func62, Try.ntmps62
        go_wp2_with fail
        refine (LK.out _ HB0.out).mono ?_
        rintro e w1 ⟨rfl, hb1⟩
        have HBZ := Lib.hid (bel_c HB0.out (Nat.le_refl _) hb1)
        have b0 := kept (p := ⟨w.heap.size, 0, none⟩) (x := .int .i64 m) hb1 (by go_simp)
        have b1 := kept (p := ⟨w.heap.size, 1, none⟩) (x := .int .i64 n) hb1 (by go_simp)
        have b2 := kept (p := ⟨w.heap.size, 2, none⟩) (x := .slice b xs.length cap) hb1 (by go_simp)
        have b3 := kept (p := ⟨w.heap.size + 1, 0, none⟩) (x := .bool false) hb1 (by go_simp)
        have b4 := kept (p := ⟨w.heap.size + 1, 1, none⟩) (x := .int .i64 a) hb1 (by go_simp)
        clear hb1
        go_wp2_with fail
        refine (In_no _ _ _ _ h1).mono ?_
        rintro e w' ⟨rfl, rfl⟩
        go_wp2_with fail
        go_ret
        exact ⟨ret_bool (HH.out.trans HL.out), HBZ.out⟩
  · have HB0 : Hid (Below w.heap.size w ((w.alloc (.cells #[.int .i64 m, .int .i64 n, .slice b xs.length cap] 26)).alloc (.cells #[.bool true, .int .i64 a] 71))) := Lib.hid (bel_n (bel0 w _) (Nat.le_refl _) _)
    by_cases h : layB m n xs = false
    · have HH := Lib.hid (cut_no_lay (c := ⟨true, a⟩) h)
      rw [h] at LK
      clear h
      go_enter Try.func62, Try.ntmps62
      go_wp2_with fail
      refine (LK.out _ HB0.out).mono ?_
      rintro e w1 ⟨rfl, hb1⟩
      have HBZ := Lib.hid (bel_c HB0.out (Nat.le_refl _) hb1)
      clear hb1
      go_wp2_with fail
      go_ret
      exact ⟨ret_bool HH.out, HBZ.out⟩
    · have h' : layB m n xs = true := by simpa using h
      obtain ⟨⟨p00, p01⟩, ⟨p10, p11⟩, ⟨p20, p21⟩, HL4, _⟩ := lay_of h'
      have HF : Hid (∀ i, i < xs.length → Fit m n (pat xs i)) := Lib.hid (fun i hi => (HL4 i hi).1)
      have HL := Lib.hid (cut_lay (c := ⟨true, a⟩) h')
      rw [h'] at LK
      clear h h' HL4
      by_cases h0 : 1 ≤ a ∧ a ≤ m - 1
      · obtain ⟨h1, h2⟩ := h0
        go_enter Try.func62, Try.ntmps62
        go_wp2_with fail
        refine (LK.out _ HB0.out).mono ?_
        rintro e w1 ⟨rfl, hb1⟩
        have HB1 : Below ((w.alloc (.cells #[.int .i64 m, .int .i64 n, .slice b xs.length cap] 26)).alloc (.cells #[.bool true, .int .i64 a] 71)).heap.size ((w.alloc (.cells #[.int .i64 m, .int .i64 n, .slice b xs.length cap] 26)).alloc (.cells #[.bool true, .int .i64 a] 71)) w1 := hb1
        have b0 := kept (p := ⟨w.heap.size, 0, none⟩) (x := .int .i64 m) hb1 (by go_simp)
        have b1 := kept (p := ⟨w.heap.size, 1, none⟩) (x := .int .i64 n) hb1 (by go_simp)
        have b2 := kept (p := ⟨w.heap.size, 2, none⟩) (x := .slice b xs.length cap) hb1 (by go_simp)
        have b3 := kept (p := ⟨w.heap.size + 1, 0, none⟩) (x := .bool true) hb1 (by go_simp)
        have b4 := kept (p := ⟨w.heap.size + 1, 1, none⟩) (x := .int .i64 a) hb1 (by go_simp)
        clear hb1
        go_wp2_with fail
        refine (In_yes _ _ _ _ h1 h2).mono ?_
        rintro e w' ⟨rfl, rfl⟩
        go_wp2_with fail
        go_loopw [6] (fun i wr => ∃ k : Nat, k ≤ xs.length ∧ i = .int .i64 k ∧ Hid (∀ j, j < k → thr ⟨true, a⟩ (pat xs j) = false) ∧ Below ((w.alloc (.cells #[.int .i64 m, .int .i64 n, .slice b xs.length cap] 26)).alloc (.cells #[.bool true, .int .i64 a] 71)).heap.size ((w.alloc (.cells #[.int .i64 m, .int .i64 n, .slice b xs.length cap] 26)).alloc (.cells #[.bool true, .int .i64 a] 71)) wr) (fun i _ => xs.length - (intOf i).toNat)
        case atStart => exact ⟨0, Nat.zero_le _, rfl, Lib.hid (fun j hj => by omega), HB1⟩
        case round =>
          obtain ⟨k, hk, rfl, hno, hbel⟩ := hrel
          have hsz := hbel.size
          simp at hsz
          have b0 : wr.cell? ⟨w.heap.size, 0, none⟩ = some (.int .i64 m) := (hbel.cell (p := ⟨w.heap.size, 0, none⟩) (by simp; omega)).trans (by simp)
          have b1 : wr.cell? ⟨w.heap.size, 1, none⟩ = some (.int .i64 n) := (hbel.cell (p := ⟨w.heap.size, 1, none⟩) (by simp; omega)).trans (by simp)
          have b2 : wr.cell? ⟨w.heap.size, 2, none⟩ = some (.slice b xs.length cap) := (hbel.cell (p := ⟨w.heap.size, 2, none⟩) (by simp; omega)).trans (by simp)
          have b3 : wr.cell? ⟨w.heap.size + 1, 0, none⟩ = some (.bool true) := (hbel.cell (p := ⟨w.heap.size + 1, 0, none⟩) (by simp)).trans (by simp)
          have b4 : wr.cell? ⟨w.heap.size + 1, 1, none⟩ = some (.int .i64 a) := (hbel.cell (p := ⟨w.heap.size + 1, 1, none⟩) (by simp)).trans (by simp)
          by_cases hlt : k < xs.length
          · obtain ⟨g, rfl, hg, hg1, hel, _⟩ := R.out.at ((bel_c HB0.out (Nat.le_refl _) hbel).mono hhi) hlt
            obtain ⟨q0, q1, q2, q3, q4⟩ := hel
            obtain ⟨d, hd⟩ : ∃ d, d = xs.getD k P5.zero := ⟨_, rfl⟩
            obtain ⟨⟨f00, f01⟩, ⟨f10, f11⟩, ⟨f20, f21⟩, ⟨f30, f31⟩, _⟩ : Fit m n d := by rw [hd]; exact HF.out k hlt
            rw [← hd] at q0 q1 q2 q3 q4
            have HD : Hid (d = pat xs k) := Lib.hid hd
            have HB3 := Lib.hid (bel_n hbel (Nat.le_refl _) (.cells #[.int .i64 d.x, .int .i64 d.y, .int .i64 d.w, .int .i64 d.h, .int .i64 d.c] 34))
            have HB2 := Lib.hid (bel_c HB0.out (Nat.le_refl _) HB3.out)
            have b0' := kept (bel0 wr (.cells #[.int .i64 d.x, .int .i64 d.y, .int .i64 d.w, .int .i64 d.h, .int .i64 d.c] 34)) b0
            have b1' := kept (bel0 wr (.cells #[.int .i64 d.x, .int .i64 d.y, .int .i64 d.w, .int .i64 d.h, .int .i64 d.c] 34)) b1
            have b2' := kept (bel0 wr (.cells #[.int .i64 d.x, .int .i64 d.y, .int .i64 d.w, .int .i64 d.h, .int .i64 d.c] 34)) b2
            have b3' := kept (bel0 wr (.cells #[.int .i64 d.x, .int .i64 d.y, .int .i64 d.w, .int .i64 d.h, .int .i64 d.c] 34)) b3
            have b4' := kept (bel0 wr (.cells #[.int .i64 d.x, .int .i64 d.y, .int .i64 d.w, .int .i64 d.h, .int .i64 d.c] 34)) b4
            clear hd hbel
            by_cases z1 : d.x < a
            · by_cases z2 : a < d.x + d.w
              · have HH := Lib.hid (has_no_at (m := m) (n := n) (c := ⟨true, a⟩) hlt (by rw [← HD.out]; simp [thr, z1, z2]))
                go_wp2_with fail
                go_ret
                exact ⟨ret_bool (HH.out.trans HL.out), HB2.out⟩
              · have HN : Hid (∀ j, j < k + 1 → thr ⟨true, a⟩ (pat xs j) = false) := Lib.hid (fun j hj => by
                  rcases Nat.lt_succ_iff_lt_or_eq.1 hj with h | rfl
                  · exact hno.out j h
                  · rw [← HD.out]; exact thr_t.2 (by omega))
                go_wp2_with fail
                go_roundw
                case rel => exact ⟨k + 1, by omega, by go_num, HN, HB3.out⟩
                case measure => simp [intOf] <;> omega
            · have HN : Hid (∀ j, j < k + 1 → thr ⟨true, a⟩ (pat xs j) = false) := Lib.hid (fun j hj => by
                rcases Nat.lt_succ_iff_lt_or_eq.1 hj with h | rfl
                · exact hno.out j h
                · rw [← HD.out]; exact thr_t.2 (by omega))
              go_wp2_with fail
              go_roundw
              case rel => exact ⟨k + 1, by omega, by go_num, HN, HB3.out⟩
              case measure => simp [intOf] <;> omega
          · obtain rfl : k = xs.length := by omega
            have HH := Lib.hid (has_yes (m := m) (n := n) (xs := xs) (c := ⟨true, a⟩) (by show 0 < a; omega) (by simp [endC]; omega) hno.out)
            have HBZ := Lib.hid (bel_c HB0.out (Nat.le_refl _) hbel)
            clear hbel
            go_wp2_with fail
            go_ret
            exact ⟨ret_bool (HH.out.trans HL.out), HBZ.out⟩
      · have h1 : a < 1 ∨ m - 1 < a := by omega
        have HH : Hid (false = hasC m n xs ⟨true, a⟩) := Lib.hid (by
          rcases h1 with h1 | h1
          · exact has_no_lo (by show a ≤ 0; omega)
          · exact has_no_hi (by simp [endC]; omega))
        clear h0
        go_enter Try.func62, Try.ntmps62
        go_wp2_with fail
        refine (LK.out _ HB0.out).mono ?_
        rintro e w1 ⟨rfl, hb1⟩
        have HBZ := Lib.hid (bel_c HB0.out (Nat.le_refl _) hb1)
        have b0 := kept (p := ⟨w.heap.size, 0, none⟩) (x := .int .i64 m) hb1 (by go_simp)
        have b1 := kept (p := ⟨w.heap.size, 1, none⟩) (x := .int .i64 n) hb1 (by go_simp)
        have b2 := kept (p := ⟨w.heap.size, 2, none⟩) (x := .slice b xs.length cap) hb1 (by go_simp)
        have b3 := kept (p := ⟨w.heap.size + 1, 0, none⟩) (x := .bool true) hb1 (by go_simp)
        have b4 := kept (p := ⟨w.heap.size + 1, 1, none⟩) (x := .int .i64 a) hb1 (by go_simp)
        clear hb1
        go_wp2_with fail
        refine (In_no _ _ _ _ h1).mono ?_
        rintro e w' ⟨rfl, rfl⟩
        go_wp2_with fail
        go_ret
        exact ⟨ret_bool (HH.out.trans HL.out), HBZ.out⟩

end Go.Proofs.Ytboahceibeeifaa
