/- Areas: the model's IsBalanced. -/
import Derived.Test.YtelpibdbnjmliaaAreO
import Derived.Test.YtelpibdbnjmliaaBlkN
import Derived.Deep.RegionHeld3
namespace Go.Proofs.Ytelpibdbnjmliaa
open Go.ChangeShapes Go.WideShapes Go.ChangeAt Go.RowKit

/-- What stays below w and below w1. -/
def BelW (w w1 u : World) : Prop := Below w.heap.size w u ∧ Below w1.heap.size w1 u
theorem BelW.keep {w w1 u v : World} (h : BelW w w1 u) (hb : Below u.heap.size u v) : BelW w w1 v := ⟨bel_c h.1 (Nat.le_refl _) hb, bel_c h.2 (Nat.le_refl _) hb⟩
set_option maxHeartbeats 1000000 in
theorem SpecBal_any (lo hi : Nat) (n : Int) (v : Value) (xs : List C3) (w : World) (r : CellIn lo hi w v xs) (hhi : hi ≤ w.heap.size) :
    Calls Try.prog 34 #[.agg #[.int .i64 n, v]] w fun e w' => e = .returned (.bool (balB n xs)) ∧ Below w.heap.size w w' := by
  obtain ⟨a, cap, rfl⟩ := r.form
  have hl := r.1
  have HR := Lib.hid (fun W (hb : Below w.heap.size w W) => r.below (hb.mono hhi))
  clear r
  by_cases hb : BlkOk n xs
  · have HB := Lib.hid hb
    have hpos := cols_pos hb
    have HBal : Hid (∀ b : Bool, (b = true ↔ ∀ k, k < (cols xs 6).length → arL xs ((cols xs 6).getD k 0) xs.length = arL xs ((cols xs 6).getD 0 0) xs.length) → b = balB n xs) := Lib.hid (fun b h => by
      cases b
      · exact bal_no (fun k => by have := h.2 k.2; cases this)
      · exact bal_yes ⟨hb, h.1 rfl⟩)
    have CA : Hid (∀ (z : Int) (u : World), Below w.heap.size w u → Calls Try.prog 25 #[.agg #[.int .i64 n, .slice a xs.length cap], .int .i64 z] u fun e w' => e = .returned (.int .i64 (arL xs z xs.length)) ∧ Below u.heap.size u w') := Lib.hid (fun z u h => by
      have := SpecAreaOf_any lo hi n z _ xs u (HR.out _ h) (Nat.le_trans hhi h.size)
      rw [area_yes z hb] at this
      exact this)
    go_enter Try.func34, Try.ntmps34
    go_wp2_with fail
    refine (SpecColors_any lo hi n _ xs _ (HR.out _ (bel0 _ _)) (by simp; omega)).mono ?_
    rw [colors_yes hb]
    clear hb
    have hc6 := cols_le xs 6
    generalize cols xs 6 = t at HBal hpos hc6
    generalize arL xs = A at HBal CA
    rintro e w1 ⟨vt, rfl, RT, hb1⟩
    obtain ⟨ta, tc, rfl⟩ := RT.form
    have HT := Lib.hid RT
    have hp := (Two.new w (.int .i64 n) (.slice a xs.length cap) 26).keep hb1
    have HP := Lib.hid hp
    have HB1 := Lib.hid (bel_c (bel0 w _) (Nat.le_refl _) hb1)
    clear RT hb1 hp
    go_wp2_with fail
    go_loopw [4] (fun i wr => ∃ k : Nat, 1 ≤ k ∧ k ≤ t.length ∧ i = .int .i64 k ∧ Hid (∀ j, j < k → A (t.getD j 0) xs.length = A (t.getD 0 0) xs.length) ∧ Hid (Below w1.heap.size w1 wr)) (fun i _ => t.length - (intOf i).toNat)
    case atStart => exact ⟨1, Nat.le_refl _, hpos, rfl, Lib.hid (fun j hj => by obtain rfl : j = 0 := (by omega); rfl), Lib.hid (Below.refl _ _)⟩
    case round =>
      obtain ⟨k, hk1, hk, rfl, hall, hbel⟩ := hrel
      by_cases hlt : k < t.length
      · have HTw := HT.out.below (hbel.out.mono (Nat.le_refl _))
        obtain ⟨g, hg, _, _, e0, _⟩ := HTw.at (Below.refl _ _) hlt
        subst hg
        obtain ⟨g2, hg2, _, _, f0, _⟩ := HTw.at (Below.refl _ _) hpos
        simp only [Option.some.injEq, Addr.mk.injEq, and_true] at hg2
        subst hg2
        obtain ⟨b0, b1⟩ := HP.out.keep hbel.out
        obtain ⟨y, hy⟩ : ∃ y, y = t.getD k 0 := ⟨_, rfl⟩
        obtain ⟨x, hx⟩ : ∃ x, x = t.getD 0 0 := ⟨_, rfl⟩
        rw [← hy] at e0
        rw [← hx] at f0
        have HY := Lib.hid hy
        have HX := Lib.hid hx
        clear hy hx HTw
        have KP : ∀ u v, Below u.heap.size u v → (u.cell? ⟨w.heap.size, 0, none⟩ = some (.int .i64 n) ∧ u.cell? ⟨w.heap.size, 1, none⟩ = some (.slice a xs.length cap) ∧ u.cell? ⟨g, k, none⟩ = some (.int .i64 y) ∧ u.cell? ⟨g, 0, none⟩ = some (.int .i64 x) ∧ BelW w w1 u) → (v.cell? ⟨w.heap.size, 0, none⟩ = some (.int .i64 n) ∧ v.cell? ⟨w.heap.size, 1, none⟩ = some (.slice a xs.length cap) ∧ v.cell? ⟨g, k, none⟩ = some (.int .i64 y) ∧ v.cell? ⟨g, 0, none⟩ = some (.int .i64 x) ∧ BelW w w1 v) := fun u v hb h => ⟨kept hb h.1, kept hb h.2.1, kept hb h.2.2.1, kept hb h.2.2.2.1, h.2.2.2.2.keep hb⟩
        have D0 : Below wr.heap.size wr wr.drew := ⟨rfl, rfl, rfl, Nat.le_refl _, fun _ _ => rfl⟩
        have S0 : wr.drew.cell? ⟨w.heap.size, 0, none⟩ = some (.int .i64 n) ∧ wr.drew.cell? ⟨w.heap.size, 1, none⟩ = some (.slice a xs.length cap) ∧ wr.drew.cell? ⟨g, k, none⟩ = some (.int .i64 y) ∧ wr.drew.cell? ⟨g, 0, none⟩ = some (.int .i64 x) ∧ BelW w w1 wr.drew := KP wr wr.drew D0 ⟨b0, b1, e0, f0, bel_c HB1.out (Nat.le_refl _) hbel.out, hbel.out⟩
        have CB : Hid (∀ (z : Int) (u : World), (u.cell? ⟨w.heap.size, 0, none⟩ = some (.int .i64 n) ∧ u.cell? ⟨w.heap.size, 1, none⟩ = some (.slice a xs.length cap) ∧ u.cell? ⟨g, k, none⟩ = some (.int .i64 y) ∧ u.cell? ⟨g, 0, none⟩ = some (.int .i64 x) ∧ BelW w w1 u) → Calls Try.prog 25 #[.agg #[.int .i64 n, .slice a xs.length cap], .int .i64 z] u fun e w' => e = .returned (.int .i64 (A z xs.length)) ∧ Below u.heap.size u w') := Lib.hid (fun z u h => CA.out z u h.2.2.2.2.1)
        have HW : Hid (∀ u : World, (u.cell? ⟨w.heap.size, 0, none⟩ = some (.int .i64 n) ∧ u.cell? ⟨w.heap.size, 1, none⟩ = some (.slice a xs.length cap) ∧ u.cell? ⟨g, k, none⟩ = some (.int .i64 y) ∧ u.cell? ⟨g, 0, none⟩ = some (.int .i64 x) ∧ BelW w w1 u) → BelW w w1 u) := Lib.hid (fun u h => h.2.2.2.2)
        clear b0 b1 D0 hbel
        by_cases heq : A y xs.length = A x xs.length
        · have hne : (A y xs.length != A x xs.length) = false := by simpa using heq
          have HN : Hid (∀ j, j < k + 1 → A (t.getD j 0) xs.length = A (t.getD 0 0) xs.length) := Lib.hid (fun j hj => by
            rcases Nat.lt_succ_iff_lt_or_eq.1 hj with h | rfl
            · exact hall.out j h
            · rw [← HY.out, ← HX.out]; exact heq)
          clear heq hall
          go_wp2_with fail
          go_region_held3 (fun w' => w'.cell? ⟨w.heap.size, 0, none⟩ = some (.int .i64 n) ∧ w'.cell? ⟨w.heap.size, 1, none⟩ = some (.slice a xs.length cap) ∧ w'.cell? ⟨g, k, none⟩ = some (.int .i64 y) ∧ w'.cell? ⟨g, 0, none⟩ = some (.int .i64 x) ∧ BelW w w1 w') (first | (refine KP _ _ (by assumption) ?_; assumption) | go_keep)
            ((go_at_call 25; refine (CB.out _ _ (by assumption)).mono ?_; rintro e w' ⟨rfl, hb⟩))
          have hW := HW.out _ (by assumption)
          go_wp2_with fail
          go_roundw
          case rel => exact ⟨k + 1, by omega, by omega, by go_num, HN, Lib.hid hW.2⟩
          case measure => simp [intOf] <;> omega
        · have hne : (A y xs.length != A x xs.length) = true := by simpa using heq
          have HN := Lib.hid (HBal.out false ⟨fun h => by (cases h), fun h => absurd (by rw [HY.out, HX.out]; exact h k hlt) heq⟩)
          clear heq hall
          go_wp2_with fail
          go_region_held3 (fun w' => w'.cell? ⟨w.heap.size, 0, none⟩ = some (.int .i64 n) ∧ w'.cell? ⟨w.heap.size, 1, none⟩ = some (.slice a xs.length cap) ∧ w'.cell? ⟨g, k, none⟩ = some (.int .i64 y) ∧ w'.cell? ⟨g, 0, none⟩ = some (.int .i64 x) ∧ BelW w w1 w') (first | (refine KP _ _ (by assumption) ?_; assumption) | go_keep)
            ((go_at_call 25; refine (CB.out _ _ (by assumption)).mono ?_; rintro e w' ⟨rfl, hb⟩))
          have hW := HW.out _ (by assumption)
          go_wp2_with fail
          go_ret
          exact ⟨ret_bool HN.out, hW.1⟩
      · obtain rfl : k = t.length := by omega
        have HN := Lib.hid (HBal.out true ⟨fun _ => hall.out, fun _ => rfl⟩)
        have hgt : decide ((0 : Int) < (t.length : Int)) = true := by simp; omega
        go_wp2_with fail
        go_ret
        exact ⟨ret_bool HN.out, bel_c HB1.out (Nat.le_refl _) hbel.out⟩
  · have HN := Lib.hid (bal_no (n := n) (xs := xs) (fun h => hb h.1))
    go_enter Try.func34, Try.ntmps34
    go_wp2_with fail
    refine (SpecColors_any lo hi n _ xs _ (HR.out _ (bel0 _ _)) (by simp; omega)).mono ?_
    rw [colors_no hb]
    clear hb
    rintro e w1 ⟨vt, rfl, RT, hb1⟩
    obtain ⟨ta, tc, rfl⟩ := RT.form
    have HB1 := Lib.hid (bel_c (bel0 w _) (Nat.le_refl _) hb1)
    clear RT hb1
    go_wp2_with fail
    refine wp_loop_rounds 1 ?_
    rw [rounds_succ]
    go_wp2_with fail
    go_ret
    exact ⟨ret_bool HN.out, HB1.out⟩

end Go.Proofs.Ytelpibdbnjmliaa
