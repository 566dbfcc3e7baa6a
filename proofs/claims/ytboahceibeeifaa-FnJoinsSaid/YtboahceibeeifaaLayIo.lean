/- Layouts: the program's overlapsAny. -/
import Derived.Test.YtboahceibeeifaaLayIb

set_option linter.unusedSimpArgs false
set_option linter.unusedVariables false
namespace Go.Proofs.Ytboahceibeeifaa
open Go.ChangeShapes Go.WideShapes Go.ChangeAt Go.RowKit

/-- It overlaps one of the others. -/
def Ov (p : P5) (ys : List P5) : Prop := ∃ j, j < ys.length ∧ Hit p (pat ys j)
noncomputable def ovB (p : P5) (ys : List P5) : Bool := @decide (Ov p ys) (Classical.propDecidable _)
theorem ov_yes {p : P5} {ys : List P5} {j : Nat} (hj : j < ys.length) (h : Hit p (pat ys j)) : true = ovB p ys := by
  have : Ov p ys := ⟨j, hj, h⟩
  unfold ovB; simp [this]
theorem ov_no {p : P5} {ys : List P5} (h : ∀ j, j < ys.length → ¬ Hit p (pat ys j)) : false = ovB p ys := by
  have : ¬ Ov p ys := fun ⟨j, hj, k⟩ => h j hj k
  unfold ovB; simp [this]
theorem hit_of {p q : P5} (_hp : InP p) (_hq : InP q) (h1 : 0 < cwP p q) (h2 : 0 < chP p q) : Hit p q := (hit_is p q).2 (.inl ⟨h1, h2⟩)
theorem hit_not {p q : P5} (hp : InP p) (hq : InP q) (h : ¬ (0 < cwP p q ∧ 0 < chP p q)) : ¬ Hit p q := fun k => by
  rcases (hit_is p q).1 k with k | k
  · exact h k
  · exact k.2 ⟨hp, hq⟩

set_option maxHeartbeats 1600000 in
set_option maxRecDepth 20000 in
theorem Overlaps_any (lo hi : Nat) (c : P5) (v : Value) (xs : List P5) (w : World) (hc : InP c) (r : PatIn lo hi w v xs) (hhi : hi ≤ w.heap.size) (hxs : ∀ i, i < xs.length → InP (pat xs i)) :
    Calls Try.prog 65 #[.agg #[.int .i64 c.x, .int .i64 c.y, .int .i64 c.w, .int .i64 c.h, .int .i64 c.c], v] w fun e w' => e = .returned (.bool (ovB c xs)) ∧ Below w.heap.size w w' := by
  obtain ⟨a, cap, rfl⟩ := r.form
  have R := Lib.hid r
  have hl := r.1
  have HCI := Lib.hid hc
  have HXS := Lib.hid hxs
  clear r hc hxs
  go_enter Try.func65, Try.ntmps65
  go_wp2_with fail
  go_loopw [11] (fun i wr => ∃ k : Nat, k ≤ xs.length ∧ i = .int .i64 k ∧ Hid (∀ j, j < k → ¬ Hit c (pat xs j)) ∧ Below (w.heap.size + 1) (w.alloc (.cells #[.int .i64 c.x, .int .i64 c.y, .int .i64 c.w, .int .i64 c.h, .int .i64 c.c] 34)) wr) (fun i _ => xs.length - (intOf i).toNat)
  case atStart => exact ⟨0, Nat.zero_le _, rfl, Lib.hid (fun j hj => by omega), Below.refl _ _⟩
  case round =>
    obtain ⟨k, hk, rfl, hno, hbel⟩ := hrel
    have hsz := hbel.size
    simp at hsz
    have e0 : wr.cell? ⟨w.heap.size, 0, none⟩ = some (.int .i64 c.x) := (hbel.cell (p := ⟨w.heap.size, 0, none⟩) (by simp)).trans (by simp)
    have e1 : wr.cell? ⟨w.heap.size, 1, none⟩ = some (.int .i64 c.y) := (hbel.cell (p := ⟨w.heap.size, 1, none⟩) (by simp)).trans (by simp)
    have e2 : wr.cell? ⟨w.heap.size, 2, none⟩ = some (.int .i64 c.w) := (hbel.cell (p := ⟨w.heap.size, 2, none⟩) (by simp)).trans (by simp)
    have e3 : wr.cell? ⟨w.heap.size, 3, none⟩ = some (.int .i64 c.h) := (hbel.cell (p := ⟨w.heap.size, 3, none⟩) (by simp)).trans (by simp)
    have e4 : wr.cell? ⟨w.heap.size, 4, none⟩ = some (.int .i64 c.c) := (hbel.cell (p := ⟨w.heap.size, 4, none⟩) (by simp)).trans (by simp)
    by_cases hlt : k < xs.length
    · obtain ⟨g, rfl, hg, hg1, hel, _⟩ := R.out.at (((bel0 w _).trans (hbel.mono (by omega))).mono hhi) hlt
      obtain ⟨q0, q1, q2, q3, q4⟩ := hel
      obtain ⟨d, hd⟩ : ∃ d, d = xs.getD k P5.zero := ⟨_, rfl⟩
      have HDI : Hid (InP d) := Lib.hid (by rw [hd]; exact HXS.out k hlt)
      rw [← hd] at q0 q1 q2 q3 q4
      have HD : Hid (d = pat xs k) := Lib.hid hd
      have HB0 : Hid (Below w.heap.size w (wr.alloc (.cells #[.int .i64 d.x, .int .i64 d.y, .int .i64 d.w, .int .i64 d.h, .int .i64 d.c] 34))) := Lib.hid (bel_n ((bel0 w _).trans (hbel.mono (by omega))) (Nat.le_refl _) _)
      have HB1 : Hid (Below (w.heap.size + 1) (w.alloc (.cells #[.int .i64 c.x, .int .i64 c.y, .int .i64 c.w, .int .i64 c.h, .int .i64 c.c] 34)) (wr.alloc (.cells #[.int .i64 d.x, .int .i64 d.y, .int .i64 d.w, .int .i64 d.h, .int .i64 d.c] 34))) := Lib.hid (bel_n hbel (by simp) _)
      have e0' := kept (bel0 wr (.cells #[.int .i64 d.x, .int .i64 d.y, .int .i64 d.w, .int .i64 d.h, .int .i64 d.c] 34)) e0
      have e1' := kept (bel0 wr (.cells #[.int .i64 d.x, .int .i64 d.y, .int .i64 d.w, .int .i64 d.h, .int .i64 d.c] 34)) e1
      have e2' := kept (bel0 wr (.cells #[.int .i64 d.x, .int .i64 d.y, .int .i64 d.w, .int .i64 d.h, .int .i64 d.c] 34)) e2
      have e3' := kept (bel0 wr (.cells #[.int .i64 d.x, .int .i64 d.y, .int .i64 d.w, .int .i64 d.h, .int .i64 d.c] 34)) e3
      have e4' := kept (bel0 wr (.cells #[.int .i64 d.x, .int .i64 d.y, .int .i64 d.w, .int .i64 d.h, .int .i64 d.c] 34)) e4
      clear hd hbel
      go_wp2_with fail
      refine (Sides_any c d _ HCI.out HDI.out).mono ?_
      rintro e w1 ⟨rfl, hb1⟩
      have HB2 := Lib.hid (bel_c HB0.out (Nat.le_refl _) hb1)
      have HB3 := Lib.hid (bel_c HB1.out (by simp) hb1)
      by_cases h1 : 0 < cwP c d
      · by_cases h2 : 0 < chP c d
        · have HH := Lib.hid (ov_yes hlt (by rw [← HD.out]; exact hit_of HCI.out HDI.out h1 h2))
          generalize cwP c d = r1 at h1
          generalize chP c d = r2 at h2
          clear hb1
          go_wp2_with fail
          go_ret
          exact ⟨ret_bool HH.out, HB2.out⟩
        · have HN : Hid (∀ j, j < k + 1 → ¬ Hit c (pat xs j)) := Lib.hid (fun j hj => by
            rcases Nat.lt_succ_iff_lt_or_eq.1 hj with h | rfl
            · exact hno.out j h
            · rw [← HD.out]; exact hit_not HCI.out HDI.out (fun z => h2 z.2))
          generalize cwP c d = r1 at h1
          generalize chP c d = r2 at h2
          clear hb1
          go_wp2_with fail
          go_roundw
          case rel => exact ⟨k + 1, by omega, by go_num, HN, HB3.out⟩
          case measure => simp [intOf] <;> omega
      · have HN : Hid (∀ j, j < k + 1 → ¬ Hit c (pat xs j)) := Lib.hid (fun j hj => by
          rcases Nat.lt_succ_iff_lt_or_eq.1 hj with h | rfl
          · exact hno.out j h
          · rw [← HD.out]; exact hit_not HCI.out HDI.out (fun z => h1 z.1))
        generalize cwP c d = r1 at h1
        generalize chP c d = r2
        clear hb1
        go_wp2_with fail
        go_roundw
        case rel => exact ⟨k + 1, by omega, by go_num, HN, HB3.out⟩
        case measure => simp [intOf] <;> omega
    · obtain rfl : k = xs.length := by omega
      have HH := Lib.hid (ov_no hno.out)
      have HB0 : Hid (Below w.heap.size w wr) := Lib.hid ((bel0 w _).trans (hbel.mono (by omega)))
      clear hbel
      go_wp2_with fail
      go_ret
      exact ⟨ret_bool HH.out, HB0.out⟩

end Go.Proofs.Ytboahceibeeifaa
