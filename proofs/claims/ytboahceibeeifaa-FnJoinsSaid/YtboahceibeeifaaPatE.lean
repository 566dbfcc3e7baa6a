/- Rows of patchs: compared by their fields. -/
import Derived.Test.YtboahceibeeifaaPatT
import Derived.Test.YtboahceibeeifaaBlkZ
import Derived.Deep.RegionHeld3

set_option linter.unusedSimpArgs false
set_option linter.unusedVariables false
namespace Go.Proofs.Ytboahceibeeifaa
open Go.ChangeShapes Go.WideShapes Go.ChangeAt Go.RowKit

theorem EqPat_same (x0 : Int) (x1 : Int) (x2 : Int) (x3 : Int) (x4 : Int) (w : World) :
    Calls Try.prog 28 #[.agg #[.int .i64 x0, .int .i64 x1, .int .i64 x2, .int .i64 x3, .int .i64 x4], .agg #[.int .i64 x0, .int .i64 x1, .int .i64 x2, .int .i64 x3, .int .i64 x4]] w fun e w' => e = .returned (.bool true) ∧ Below w.heap.size w w' := by
  go_enter Try.func28, Try.ntmps28
  go_wp2
  go_ret
  exact ⟨rfl, ((Below.refl _ _).alloc (Nat.le_refl _) _).alloc (by simp) _⟩

set_option maxHeartbeats 800000 in
theorem EqPatS_any (l1 h1 l2 h2 : Nat) (v1 v2 : Value) (xs : List P5) (w : World) (r1 : PatIn l1 h1 w v1 xs) (r2 : PatIn l2 h2 w v2 xs) (hh1 : h1 ≤ w.heap.size) (hh2 : h2 ≤ w.heap.size) :
    Calls Try.prog 49 #[v1, v2] w fun e w' => e = .returned (.bool true) ∧ Below w.heap.size w w' := by
  obtain ⟨a1, c1, rfl⟩ := r1.form
  obtain ⟨a2, c2, rfl⟩ := r2.form
  have R1 := Lib.hid r1
  have R2 := Lib.hid r2
  have hl := r1.1
  clear r1 r2
  go_enter Try.func49, Try.ntmps49
  go_wp2_with fail
  go_loopw [5] (fun i wr => ∃ k : Nat, k ≤ xs.length ∧ i = .int .i64 k ∧ Below w.heap.size w wr) (fun i _ => xs.length - (intOf i).toNat)
  case atStart => exact ⟨0, Nat.zero_le _, rfl, Below.refl _ _⟩
  case round =>
    obtain ⟨k, hk, rfl, hbel⟩ := hrel
    by_cases hlt : k < xs.length
    · obtain ⟨g1, rfl, _, hg1, ⟨e0, e1, e2, e3, e4⟩, _⟩ := R1.out.at (hbel.mono hh1) hlt
      obtain ⟨g2, rfl, _, hg2, ⟨d0, d1, d2, d3, d4⟩, _⟩ := R2.out.at (hbel.mono hh2) hlt
      generalize xs.getD k P5.zero = c at e0 e1 e2 e3 e4 d0 d1 d2 d3 d4
      have KP : ∀ u v, Below u.heap.size u v → (u.cell? ⟨g1, k * 5, none⟩ = some (.int .i64 c.x) ∧ u.cell? ⟨g1, k * 5 + 1, none⟩ = some (.int .i64 c.y) ∧ u.cell? ⟨g1, k * 5 + 2, none⟩ = some (.int .i64 c.w) ∧ u.cell? ⟨g1, k * 5 + 3, none⟩ = some (.int .i64 c.h) ∧ u.cell? ⟨g1, k * 5 + 4, none⟩ = some (.int .i64 c.c) ∧ u.cell? ⟨g2, k * 5, none⟩ = some (.int .i64 c.x) ∧ u.cell? ⟨g2, k * 5 + 1, none⟩ = some (.int .i64 c.y) ∧ u.cell? ⟨g2, k * 5 + 2, none⟩ = some (.int .i64 c.w) ∧ u.cell? ⟨g2, k * 5 + 3, none⟩ = some (.int .i64 c.h) ∧ u.cell? ⟨g2, k * 5 + 4, none⟩ = some (.int .i64 c.c)) → (v.cell? ⟨g1, k * 5, none⟩ = some (.int .i64 c.x) ∧ v.cell? ⟨g1, k * 5 + 1, none⟩ = some (.int .i64 c.y) ∧ v.cell? ⟨g1, k * 5 + 2, none⟩ = some (.int .i64 c.w) ∧ v.cell? ⟨g1, k * 5 + 3, none⟩ = some (.int .i64 c.h) ∧ v.cell? ⟨g1, k * 5 + 4, none⟩ = some (.int .i64 c.c) ∧ v.cell? ⟨g2, k * 5, none⟩ = some (.int .i64 c.x) ∧ v.cell? ⟨g2, k * 5 + 1, none⟩ = some (.int .i64 c.y) ∧ v.cell? ⟨g2, k * 5 + 2, none⟩ = some (.int .i64 c.w) ∧ v.cell? ⟨g2, k * 5 + 3, none⟩ = some (.int .i64 c.h) ∧ v.cell? ⟨g2, k * 5 + 4, none⟩ = some (.int .i64 c.c)) := fun u v hb h => ⟨kept hb h.1, kept hb h.2.1, kept hb h.2.2.1, kept hb h.2.2.2.1, kept hb h.2.2.2.2.1, kept hb h.2.2.2.2.2.1, kept hb h.2.2.2.2.2.2.1, kept hb h.2.2.2.2.2.2.2.1, kept hb h.2.2.2.2.2.2.2.2.1, kept hb h.2.2.2.2.2.2.2.2.2⟩
      go_wp2_with fail
      go_region_held3 (fun w' => w'.cell? ⟨g1, k * 5, none⟩ = some (.int .i64 c.x) ∧ w'.cell? ⟨g1, k * 5 + 1, none⟩ = some (.int .i64 c.y) ∧ w'.cell? ⟨g1, k * 5 + 2, none⟩ = some (.int .i64 c.w) ∧ w'.cell? ⟨g1, k * 5 + 3, none⟩ = some (.int .i64 c.h) ∧ w'.cell? ⟨g1, k * 5 + 4, none⟩ = some (.int .i64 c.c) ∧ w'.cell? ⟨g2, k * 5, none⟩ = some (.int .i64 c.x) ∧ w'.cell? ⟨g2, k * 5 + 1, none⟩ = some (.int .i64 c.y) ∧ w'.cell? ⟨g2, k * 5 + 2, none⟩ = some (.int .i64 c.w) ∧ w'.cell? ⟨g2, k * 5 + 3, none⟩ = some (.int .i64 c.h) ∧ w'.cell? ⟨g2, k * 5 + 4, none⟩ = some (.int .i64 c.c)) (first | (refine KP _ _ (by assumption) ?_; assumption) | go_keep)
        ((go_at_call 28; refine (EqPat_same _ _ _ _ _ _).mono ?_; rintro e w1 ⟨rfl, hb1⟩))
      have HB : Below w.heap.size w w1 := bel_c hbel (Nat.le_refl _) ((⟨rfl, rfl, rfl, Nat.le_refl _, fun _ _ => rfl⟩ : Below wr.heap.size wr wr.drew).trans hb1)
      have HBh := Lib.hid HB
      clear HB hb1 KP
      go_wp2_with fail
      go_roundw
      case rel => exact ⟨k + 1, by omega, by go_num, HBh.out⟩
      case measure => simp [intOf] <;> omega
    · obtain rfl : k = xs.length := by omega
      go_wp2_with fail
      go_ret
      exact ⟨rfl, hbel⟩

end Go.Proofs.Ytboahceibeeifaa
