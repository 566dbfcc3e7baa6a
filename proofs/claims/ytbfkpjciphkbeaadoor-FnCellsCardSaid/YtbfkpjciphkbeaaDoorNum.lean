/- The walks of FormatInt, the model's and the program's. -/
import Derived.Test.YtbfkpjciphkbeaaDoorFig
import Derived.Test.YtbfkpjciphkbeaaDoorNumF
namespace Go.Proofs.YtbfkpjciphkbeaaDoor
open Go.ChangeShapes Go.WideShapes Go.ChangeAt Go.RowKit

theorem dg_after {m n : Nat} {t : ByteArray} (hz : 0 < m) (h : dg m ++ t.data.toList = dg n) : dg (m / 10) ++ (({ data := #[hexDig (m % 10)] } : ByteArray) ++ t).data.toList = dg n := by
  rw [← h, dg_step m hz]
  simp

set_option maxHeartbeats 400000 in
theorem SpecFormat_pos (n : Nat) (w : World) (h0 : 0 < n) (h1 : n ≤ 9223372036854775807) :
    Calls Tryd.prog 20 #[.int .i64 n] w fun e w' => e = .returned (.string ⟨(Lib.itoa n).toArray⟩) ∧ Below w.heap.size w w' := by
  have HI := Lib.hid (itoa_pos n h0)
  have q1 : ((n : Int) == 0) = false := by simp; omega
  have q2 : decide ((n : Int) < 0) = false := by simp
  go_enter Tryd.func20, Tryd.ntmps20
  go_wp2_with fail
  clear q1 q2
  go_loopw [0, 4] (fun v s wr => ∃ (m : Nat) (t : ByteArray), m ≤ 9223372036854775807 ∧ v = .int .i64 m ∧ s = .string t ∧ Hid (dg m ++ t.data.toList = dg n) ∧ Below w.heap.size w wr) (fun v _ _ => (intOf v).toNat)
  case atStart => exact ⟨n, _, h1, rfl, rfl, by simp [Hid], Below.refl _ _⟩
  case round =>
    obtain ⟨m, t, hm, rfl, rfl, hd, hbel⟩ := hrel
    have ht := dg_room (by omega) hd.out
    by_cases hz : 0 < m
    · have cv := fun (w : World) => string_one (P := Tryd.prog) w (hexDig (m % 10)) Tryd.underlying22 Tryd.underlying5 Tryd.underlying9
      go_wp2_with (go_at_call 25; refine (Figure_at (m % 10) _ _ (by omega) (by omega)).mono ?_; rintro e w' ⟨rfl, rfl⟩)
      go_roundw
      case rel => exact ⟨m / 10, _, by omega, rfl, rfl, dg_after hz hd.out, hbel.alloc hbel.size _⟩
      case measure => simp [intOf]; omega
    · obtain rfl : m = 0 := by omega
      go_wp2_with fail
      go_ret
      have e1 : t.data.toList = Lib.itoa n := by rw [HI.out, ← hd.out]; rfl
      exact ⟨by rw [← e1]; rfl, hbel⟩

set_option maxHeartbeats 400000 in
theorem SpecFormat_neg (n : Nat) (w : World) (h0 : 0 < n) (h1 : n ≤ 9223372036854775808) :
    Calls Tryd.prog 20 #[.int .i64 (-(n : Int))] w fun e w' => e = .returned (.string ⟨(Lib.itoa (-(n : Int))).toArray⟩) ∧ Below w.heap.size w w' := by
  have HI := Lib.hid (itoa_neg n h0)
  have q1 : (-(n : Int) == 0) = false := by simp; omega
  have q2 : decide (-(n : Int) < 0) = true := by simp; omega
  go_enter Tryd.func20, Tryd.ntmps20
  go_wp2_with fail
  clear q1 q2
  go_loopw [0, 4] (fun v s wr => ∃ (m : Nat) (t : ByteArray), m ≤ 9223372036854775808 ∧ v = .int .i64 (-(m : Int)) ∧ s = .string t ∧ Hid (dg m ++ t.data.toList = dg n) ∧ Below w.heap.size w wr) (fun v _ _ => (intOf v).natAbs)
  case atStart => exact ⟨n, _, h1, rfl, rfl, by simp [Hid], Below.refl _ _⟩
  case round =>
    obtain ⟨m, t, hm, rfl, rfl, hd, hbel⟩ := hrel
    have ht := dg_room (by omega) hd.out
    by_cases hz : 0 < m
    · have cv := fun (w : World) => string_one (P := Tryd.prog) w (hexDig (m % 10)) Tryd.underlying22 Tryd.underlying5 Tryd.underlying9
      have e1 : (-(m : Int)).tmod 10 = -((m : Int) % 10) := by rw [Int.neg_tmod, Int.tmod_eq_emod_of_nonneg (by omega)]
      have e2 : (-(m : Int)).tdiv 10 = -((m : Int) / 10) := by rw [Int.neg_tdiv, Int.tdiv_eq_ediv_of_nonneg (by omega)]
      by_cases hs : (m : Int) % 10 = 0
      · go_wp2_with (go_at_call 25; refine (Figure_at (m % 10) _ _ (by omega) (by omega)).mono ?_; rintro e w' ⟨rfl, rfl⟩)
        go_roundw
        case rel => exact ⟨m / 10, _, by omega, rfl, rfl, dg_after hz hd.out, hbel.alloc hbel.size _⟩
        case measure => simp [intOf]; omega
      · have hs : 0 < (m : Int) % 10 := by omega
        go_wp2_with (go_at_call 25; refine (Figure_at (m % 10) _ _ (by omega) (by omega)).mono ?_; rintro e w' ⟨rfl, rfl⟩)
        go_roundw
        case rel => exact ⟨m / 10, _, by omega, rfl, rfl, dg_after hz hd.out, hbel.alloc hbel.size _⟩
        case measure => simp [intOf]; omega
    · obtain rfl : m = 0 := by omega
      go_wp2_with fail
      go_ret
      have e1 : 45 :: t.data.toList = Lib.itoa (-(n : Int)) := by rw [HI.out, ← hd.out]; rfl
      exact ⟨by rw [← e1]; rfl, hbel⟩
end Go.Proofs.YtbfkpjciphkbeaaDoor
