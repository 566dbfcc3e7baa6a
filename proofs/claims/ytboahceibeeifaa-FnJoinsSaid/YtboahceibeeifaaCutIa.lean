/- Cuts: the program's isOnBothSides, endOf and hasCut. -/
import Derived.Test.YtboahceibeeifaaCutN
import Derived.Test.YtboahceibeeifaaLayIk
import Derived.Test.YtboahceibeeifaaCutT

set_option linter.unusedSimpArgs false
set_option linter.unusedVariables false
namespace Go.Proofs.Ytboahceibeeifaa
open Go.ChangeShapes Go.WideShapes Go.ChangeAt Go.RowKit

theorem Both_any (p : P5) (c : C2) (w : World) (x0 : 0 ≤ p.x) (x1 : p.x ≤ 12) (w0 : 0 ≤ p.w) (w1 : p.w ≤ 12) (y0 : 0 ≤ p.y) (y1 : p.y ≤ 12) (h0 : 0 ≤ p.h) (h1 : p.h ≤ 12) :
    Calls Try.prog 77 #[.agg #[.int .i64 p.x, .int .i64 p.y, .int .i64 p.w, .int .i64 p.h, .int .i64 p.c], .agg #[.bool c.up, .int .i64 c.a]] w fun e w' => e = .returned (.bool (thr c p)) ∧ Below w.heap.size w w' := by
  obtain ⟨px, py, pw, ph, pc⟩ := p
  obtain ⟨up, a⟩ := c
  simp only at x0 x1 w0 w1 y0 y1 h0 h1
  cases up
  · by_cases z : py < a
    all_goals
      go_enter Try.func77, Try.ntmps77
      go_wp2_with fail
      go_ret
      exact ⟨ret_bool (by simp [thr, z] <;> omega), bel_n (bel0 w _) (Nat.le_refl _) _⟩
  · by_cases z : px < a
    all_goals
      go_enter Try.func77, Try.ntmps77
      go_wp2_with fail
      go_ret
      exact ⟨ret_bool (by simp [thr, z] <;> omega), bel_n (bel0 w _) (Nat.le_refl _) _⟩
theorem EndOf_any (m n : Int) (v : Value) (up : Bool) (a : Int) (w : World) :
    Calls Try.prog 76 #[.agg #[.int .i64 m, .int .i64 n, v], .agg #[.bool up, .int .i64 a]] w fun e w' => e = .returned (.int .i64 (endC m n ⟨up, a⟩)) ∧ Below w.heap.size w w' := by
  cases up
  all_goals
    go_enter Try.func76, Try.ntmps76
    go_wp2_with fail
    go_ret
    exact ⟨ret_int (by simp [endC]), bel_n (bel0 w _) (Nat.le_refl _) _⟩

set_option maxHeartbeats 3200000 in
set_option maxRecDepth 20000 in
theorem HasCut_any (lo hi : Nat) (m n : Int) (v : Value) (xs : List P5) (up : Bool) (a : Int) (w : World) (r : PatIn lo hi w v xs) (hhi : hi ≤ w.heap.size) (lay : LayOk m n xs) :
    Calls Try.prog 71 #[.agg #[.int .i64 m, .int .i64 n, v], .agg #[.bool up, .int .i64 a]] w fun e w' => e = .returned (.bool (hasC m n xs ⟨up, a⟩)) ∧ Below w.heap.size w w' := by
  obtain ⟨b, cap, rfl⟩ := r.form
  have R := Lib.hid r
  have hl := r.1
  have HF : Hid (∀ i, i < xs.length → Fit m n (pat xs i)) := Lib.hid (fun i hi => lay.fit hi)
  have m12 := lay.1.2
  have n12 := lay.2.1.2
  clear r lay
  have HG : Hid (Below w.heap.size w ((w.alloc (.cells #[.int .i64 m, .int .i64 n, .slice b xs.length cap] 26)).alloc (.cells #[.bool up, .int .i64 a] 71))) := Lib.hid (bel_n (bel0 w _) (Nat.le_refl _) _)
  have D0 : Below ((w.alloc (.cells #[.int .i64 m, .int .i64 n, .slice b xs.length cap] 26)).alloc (.cells #[.bool up, .int .i64 a] 71)).heap.size ((w.alloc (.cells #[.int .i64 m, .int .i64 n, .slice b xs.length cap] 26)).alloc (.cells #[.bool up, .int .i64 a] 71)) ((w.alloc (.cells #[.int .i64 m, .int .i64 n, .slice b xs.length cap] 26)).alloc (.cells #[.bool up, .int .i64 a] 71)).drew := ⟨rfl, rfl, rfl, Nat.le_refl _, fun _ _ => rfl⟩
  by_cases h0 : a ≤ 0
  · have hd : decide (a ≤ 0) = true := decide_eq_true h0
    have HH := Lib.hid (has_no_lo (m := m) (n := n) (xs := xs) (c := ⟨up, a⟩) h0)
    have S0 : ((w.alloc (.cells #[.int .i64 m, .int .i64 n, .slice b xs.length cap] 26)).alloc (.cells #[.bool up, .int .i64 a] 71)).drew.cell? ⟨w.heap.size, 0, none⟩ = some (.int .i64 m) ∧ ((w.alloc (.cells #[.int .i64 m, .int .i64 n, .slice b xs.length cap] 26)).alloc (.cells #[.bool up, .int .i64 a] 71)).drew.cell? ⟨w.heap.size, 1, none⟩ = some (.int .i64 n) ∧ ((w.alloc (.cells #[.int .i64 m, .int .i64 n, .slice b xs.length cap] 26)).alloc (.cells #[.bool up, .int .i64 a] 71)).drew.cell? ⟨w.heap.size, 2, none⟩ = some (.slice b xs.length cap) ∧ ((w.alloc (.cells #[.int .i64 m, .int .i64 n, .slice b xs.length cap] 26)).alloc (.cells #[.bool up, .int .i64 a] 71)).drew.cell? ⟨w.heap.size + 1, 0, none⟩ = some (.bool up) ∧ ((w.alloc (.cells #[.int .i64 m, .int .i64 n, .slice b xs.length cap] 26)).alloc (.cells #[.bool up, .int .i64 a] 71)).drew.cell? ⟨w.heap.size + 1, 1, none⟩ = some (.int .i64 a) ∧ Below ((w.alloc (.cells #[.int .i64 m, .int .i64 n, .slice b xs.length cap] 26)).alloc (.cells #[.bool up, .int .i64 a] 71)).heap.size ((w.alloc (.cells #[.int .i64 m, .int .i64 n, .slice b xs.length cap] 26)).alloc (.cells #[.bool up, .int .i64 a] 71)) ((w.alloc (.cells #[.int .i64 m, .int .i64 n, .slice b xs.length cap] 26)).alloc (.cells #[.bool up, .int .i64 a] 71)).drew := ⟨by simp, by simp, by simp, by simp, by simp, D0⟩
    go_enter Try.func71, Try.ntmps71
    go_wp2_with fail
    (try simp only [List.append_eq, List.cons_append, List.nil_append])
    have hS := S0
    refine reg_begin (fun w' => w'.cell? ⟨w.heap.size, 0, none⟩ = some (.int .i64 m) ∧ w'.cell? ⟨w.heap.size, 1, none⟩ = some (.int .i64 n) ∧ w'.cell? ⟨w.heap.size, 2, none⟩ = some (.slice b xs.length cap) ∧ w'.cell? ⟨w.heap.size + 1, 0, none⟩ = some (.bool up) ∧ w'.cell? ⟨w.heap.size + 1, 1, none⟩ = some (.int .i64 a) ∧ Below ((w.alloc (.cells #[.int .i64 m, .int .i64 n, .slice b xs.length cap] 26)).alloc (.cells #[.bool up, .int .i64 a] 71)).heap.size ((w.alloc (.cells #[.int .i64 m, .int .i64 n, .slice b xs.length cap] 26)).alloc (.cells #[.bool up, .int .i64 a] 71)) w') (by kernel_rfl) hS ?_
    refine reg_take 0 (v := ?_) rfl (by kernel_rfl) (by kernel_rfl) (by kernel_rfl) (fun _ _ _ h => h) (by rfl) (by intro w hSw; (try dsimp only at hSw); go_simp; first | done | with_reducible rfl) hS ?_
    (try simp only [Act.put, List.setIfInBounds_toArray, List.set_cons_zero, List.set_cons_succ])
    refine reg_take 1 (v := ?_) rfl (by kernel_rfl) (by kernel_rfl) (by kernel_rfl) (fun _ _ _ h => h) (by rfl) (by intro w hSw; (try dsimp only at hSw); go_simp; first | done | with_reducible rfl) hS ?_
    (try simp only [Act.put, List.setIfInBounds_toArray, List.set_cons_zero, List.set_cons_succ])
    refine reg_take 2 (v := ?_) rfl (by kernel_rfl) (by kernel_rfl) (by kernel_rfl) (fun _ _ _ h => h) (by rfl) (by intro w hSw; (try dsimp only at hSw); go_simp; first | done | with_reducible rfl) hS ?_
    (try simp only [Act.put, List.setIfInBounds_toArray, List.set_cons_zero, List.set_cons_succ])
    refine reg_take 3 (v := ?_) rfl (by kernel_rfl) (by kernel_rfl) (by kernel_rfl) (fun _ _ _ h => h) (by rfl) (by intro w hSw; (try dsimp only at hSw); go_simp; first | done | with_reducible rfl) hS ?_
    (try simp only [Act.put, List.setIfInBounds_toArray, List.set_cons_zero, List.set_cons_succ])
    refine reg_skip 4 rfl (by kernel_rfl) (by kernel_rfl) (by kernel_rfl) (fun _ _ _ h => h) (by rfl) hS ?_
    (try simp only [Act.put, List.setIfInBounds_toArray, List.set_cons_zero, List.set_cons_succ])
    refine reg_skip 5 rfl (by kernel_rfl) (by kernel_rfl) (by kernel_rfl) (fun _ _ _ h => h) (by rfl) hS ?_
    (try simp only [Act.put, List.setIfInBounds_toArray, List.set_cons_zero, List.set_cons_succ])
    refine reg_skip 6 rfl (by kernel_rfl) (by kernel_rfl) (by kernel_rfl) (fun _ _ _ h => h) (by rfl) hS ?_
    (try simp only [Act.put, List.setIfInBounds_toArray, List.set_cons_zero, List.set_cons_succ])
    refine reg_skip 7 rfl (by kernel_rfl) (by kernel_rfl) (by kernel_rfl) (fun _ _ _ h => h) (by rfl) hS ?_
    (try simp only [Act.put, List.setIfInBounds_toArray, List.set_cons_zero, List.set_cons_succ])
    refine reg_skip 8 rfl (by kernel_rfl) (by kernel_rfl) (by kernel_rfl) (fun _ _ _ h => h) (by rfl) hS ?_
    (try simp only [Act.put, List.setIfInBounds_toArray, List.set_cons_zero, List.set_cons_succ])
    refine reg_skip 9 rfl (by kernel_rfl) (by kernel_rfl) (by kernel_rfl) (fun _ _ _ h => h) (by rfl) hS ?_
    (try simp only [Act.put, List.setIfInBounds_toArray, List.set_cons_zero, List.set_cons_succ])
    refine reg_take 10 (v := ?_) rfl (by kernel_rfl) (by kernel_rfl) (by kernel_rfl) (fun _ _ _ h => h) (by rfl) (by intro w hSw; (try dsimp only at hSw); go_simp; first | done | with_reducible rfl) hS ?_
    (try simp only [Act.put, List.setIfInBounds_toArray, List.set_cons_zero, List.set_cons_succ])
    refine wpAnyH_done (by kernel_rfl) ?_ _
    have HBZ := Lib.hid (bel_c HG.out (Nat.le_refl _) hS.2.2.2.2.2)
    clear hS S0 D0
    go_wp2_with fail
    go_ret
    exact ⟨ret_bool HH.out, HBZ.out⟩
  · have hd : decide (a ≤ 0) = false := decide_eq_false h0
    obtain ⟨E, hE⟩ : ∃ E, E = endC m n ⟨up, a⟩ := ⟨_, rfl⟩
    have EO : Hid (∀ u : World, Calls Try.prog 76 #[.agg #[.int .i64 m, .int .i64 n, .slice b xs.length cap], .agg #[.bool up, .int .i64 a]] u fun e w' => e = .returned (.int .i64 E) ∧ Below u.heap.size u w') := Lib.hid (fun u => by rw [hE]; exact EndOf_any m n _ up a u)
    have HE := Lib.hid hE
    clear hE
    have KP : ∀ u v : World, Below u.heap.size u v → (u.cell? ⟨w.heap.size, 0, none⟩ = some (.int .i64 m) ∧ u.cell? ⟨w.heap.size, 1, none⟩ = some (.int .i64 n) ∧ u.cell? ⟨w.heap.size, 2, none⟩ = some (.slice b xs.length cap) ∧ u.cell? ⟨w.heap.size + 1, 0, none⟩ = some (.bool up) ∧ u.cell? ⟨w.heap.size + 1, 1, none⟩ = some (.int .i64 a)) → (v.cell? ⟨w.heap.size, 0, none⟩ = some (.int .i64 m) ∧ v.cell? ⟨w.heap.size, 1, none⟩ = some (.int .i64 n) ∧ v.cell? ⟨w.heap.size, 2, none⟩ = some (.slice b xs.length cap) ∧ v.cell? ⟨w.heap.size + 1, 0, none⟩ = some (.bool up) ∧ v.cell? ⟨w.heap.size + 1, 1, none⟩ = some (.int .i64 a)) := fun u v hb h => ⟨kept hb h.1, kept hb h.2.1, kept hb h.2.2.1, kept hb h.2.2.2.1, kept hb h.2.2.2.2⟩
    by_cases h1 : E ≤ a
    · have HH := Lib.hid (has_no_hi (m := m) (n := n) (xs := xs) (c := ⟨up, a⟩) (by rw [← HE.out]; exact h1))
      go_enter Try.func71, Try.ntmps71
      go_wp2_with fail
      go_region_held3 (fun w' => w'.cell? ⟨w.heap.size, 0, none⟩ = some (.int .i64 m) ∧ w'.cell? ⟨w.heap.size, 1, none⟩ = some (.int .i64 n) ∧ w'.cell? ⟨w.heap.size, 2, none⟩ = some (.slice b xs.length cap) ∧ w'.cell? ⟨w.heap.size + 1, 0, none⟩ = some (.bool up) ∧ w'.cell? ⟨w.heap.size + 1, 1, none⟩ = some (.int .i64 a)) (first | (refine KP _ _ (by assumption) ?_; assumption) | go_keep)
        ((go_at_call 76; refine (EO.out _).mono ?_; rintro e w1 ⟨rfl, hb1⟩))
      have HBZ := Lib.hid (bel_c (bel_dr9 HG.out) (Nat.le_refl _) hb1)
      clear hb1 KP
      go_wp2_with fail
      go_ret
      exact ⟨ret_bool HH.out, HBZ.out⟩
    · have h2 : a < E := by omega
      clear h1
      go_enter Try.func71, Try.ntmps71
      go_wp2_with fail
      go_region_held3 (fun w' => w'.cell? ⟨w.heap.size, 0, none⟩ = some (.int .i64 m) ∧ w'.cell? ⟨w.heap.size, 1, none⟩ = some (.int .i64 n) ∧ w'.cell? ⟨w.heap.size, 2, none⟩ = some (.slice b xs.length cap) ∧ w'.cell? ⟨w.heap.size + 1, 0, none⟩ = some (.bool up) ∧ w'.cell? ⟨w.heap.size + 1, 1, none⟩ = some (.int .i64 a)) (first | (refine KP _ _ (by assumption) ?_; assumption) | go_keep)
        ((go_at_call 76; refine (EO.out _).mono ?_; rintro e w1 ⟨rfl, hb1⟩))
      have HB1 := Lib.hid (bel_c (bel_dr9 (Below.refl ((w.alloc (.cells #[.int .i64 m, .int .i64 n, .slice b xs.length cap] 26)).alloc (.cells #[.bool up, .int .i64 a] 71)).heap.size ((w.alloc (.cells #[.int .i64 m, .int .i64 n, .slice b xs.length cap] 26)).alloc (.cells #[.bool up, .int .i64 a] 71)))) (Nat.le_refl _) hb1)
      clear hb1 KP
      go_wp2_with fail
      go_loopw [21] (fun i wr => ∃ k : Nat, k ≤ xs.length ∧ i = .int .i64 k ∧ Hid (∀ j, j < k → thr ⟨up, a⟩ (pat xs j) = false) ∧ Below ((w.alloc (.cells #[.int .i64 m, .int .i64 n, .slice b xs.length cap] 26)).alloc (.cells #[.bool up, .int .i64 a] 71)).heap.size ((w.alloc (.cells #[.int .i64 m, .int .i64 n, .slice b xs.length cap] 26)).alloc (.cells #[.bool up, .int .i64 a] 71)) wr) (fun i _ => xs.length - (intOf i).toNat)
      case atStart => exact ⟨0, Nat.zero_le _, rfl, Lib.hid (fun j hj => by omega), HB1.out⟩
      case round =>
        obtain ⟨k, hk, rfl, hno, hbel⟩ := hrel
        have b3 : wr.cell? ⟨w.heap.size + 1, 0, none⟩ = some (.bool up) := kept hbel (by simp)
        have b4 : wr.cell? ⟨w.heap.size + 1, 1, none⟩ = some (.int .i64 a) := kept hbel (by simp)
        by_cases hlt : k < xs.length
        · obtain ⟨g, rfl, hg, hg1, hel, _⟩ := R.out.at ((bel_c HG.out (Nat.le_refl _) hbel).mono hhi) hlt
          obtain ⟨q0, q1, q2, q3, q4⟩ := hel
          obtain ⟨d, hd⟩ : ∃ d, d = xs.getD k P5.zero := ⟨_, rfl⟩
          obtain ⟨⟨f00, f01⟩, ⟨f10, f11⟩, ⟨f20, f21⟩, ⟨f30, f31⟩, _⟩ : Fit m n d := by rw [hd]; exact HF.out k hlt
          rw [← hd] at q0 q1 q2 q3 q4
          have HD : Hid (d = pat xs k) := Lib.hid hd
          have HB0 : Hid (Below ((w.alloc (.cells #[.int .i64 m, .int .i64 n, .slice (some ⟨g, 0, none⟩) xs.length cap] 26)).alloc (.cells #[.bool up, .int .i64 a] 71)).heap.size ((w.alloc (.cells #[.int .i64 m, .int .i64 n, .slice (some ⟨g, 0, none⟩) xs.length cap] 26)).alloc (.cells #[.bool up, .int .i64 a] 71)) (wr.alloc (.cells #[.int .i64 d.x, .int .i64 d.y, .int .i64 d.w, .int .i64 d.h, .int .i64 d.c] 34))) := Lib.hid (bel_n hbel (Nat.le_refl _) _)
          have b3' := kept (bel0 wr (.cells #[.int .i64 d.x, .int .i64 d.y, .int .i64 d.w, .int .i64 d.h, .int .i64 d.c] 34)) b3
          have b4' := kept (bel0 wr (.cells #[.int .i64 d.x, .int .i64 d.y, .int .i64 d.w, .int .i64 d.h, .int .i64 d.c] 34)) b4
          have BO : Hid (∀ u : World, Calls Try.prog 77 #[.agg #[.int .i64 d.x, .int .i64 d.y, .int .i64 d.w, .int .i64 d.h, .int .i64 d.c], .agg #[.bool up, .int .i64 a]] u fun e w' => e = .returned (.bool (thr ⟨up, a⟩ d)) ∧ Below u.heap.size u w') := Lib.hid (fun u => Both_any d ⟨up, a⟩ u (by omega) (by omega) (by omega) (by omega) (by omega) (by omega) (by omega) (by omega))
          clear hd hbel
          by_cases z : thr ⟨up, a⟩ d = true
          · have HH := Lib.hid (has_no_at (m := m) (n := n) (c := ⟨up, a⟩) hlt (by rw [← HD.out]; exact z))
            rw [z] at BO
            go_wp2_with fail
            refine (BO.out _).mono ?_
            rintro e w1 ⟨rfl, hb1⟩
            have HBZ := Lib.hid (bel_c HG.out (Nat.le_refl _) (bel_c HB0.out (Nat.le_refl _) hb1))
            clear hb1
            go_wp2_with fail
            go_ret
            exact ⟨ret_bool HH.out, HBZ.out⟩
          · have zf : thr ⟨up, a⟩ d = false := by simpa using z
            have HN : Hid (∀ j, j < k + 1 → thr ⟨up, a⟩ (pat xs j) = false) := Lib.hid (fun j hj => by
              rcases Nat.lt_succ_iff_lt_or_eq.1 hj with h | rfl
              · exact hno.out j h
              · rw [← HD.out]; exact zf)
            rw [zf] at BO
            go_wp2_with fail
            refine (BO.out _).mono ?_
            rintro e w1 ⟨rfl, hb1⟩
            have HBZ := Lib.hid (bel_c HB0.out (Nat.le_refl _) hb1)
            clear hb1
            go_wp2_with fail
            go_roundw
            case rel => exact ⟨k + 1, by omega, by go_num, HN, HBZ.out⟩
            case measure => simp [intOf] <;> omega
        · obtain rfl : k = xs.length := by omega
          have HH := Lib.hid (has_yes (m := m) (n := n) (xs := xs) (c := ⟨up, a⟩) (by show 0 < a; omega) (by rw [← HE.out]; exact h2) hno.out)
          have HB0 := Lib.hid (bel_c HG.out (Nat.le_refl _) hbel)
          clear hbel
          go_wp2_with fail
          go_ret
          exact ⟨ret_bool HH.out, HB0.out⟩

end Go.Proofs.Ytboahceibeeifaa
