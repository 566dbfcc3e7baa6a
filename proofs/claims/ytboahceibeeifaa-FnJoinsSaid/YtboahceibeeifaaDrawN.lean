/- Contracts of the drawing cursor: each drawing function returns a number of its range and touches the cursor's block alone. -/
import Derived.Test.YtboahceibeeifaaRows
import Derived.Test.YtboahceibeeifaaBase
import Derived.WalkKit
import Derived.ProofKit
import Derived.OpenShut
import Derived.WalkSmall
import Derived.BigQuiet
import Derived.Deep.QuietTactic
import Derived.Outline
import Derived.IntWalk
import Derived.Lib.Hide

set_option linter.unusedSimpArgs false
set_option linter.unusedVariables false
namespace Go.Proofs.Ytboahceibeeifaa
open Go.ChangeShapes Go.WideShapes Go.ChangeAt Go.RowKit

set_option maxHeartbeats 400000 in
theorem Byte_any (b : Nat) (a : Option Addr) (len cap : Nat) (w : World) (hcur : Cur w b a len cap) :
    Calls Try.prog 69 #[.pointer (some ⟨b, 0, none⟩)] w (Drawn (fun x => 0 ≤ x ∧ x ≤ 255) b a len cap w) := by
  obtain ⟨k, h, hk, c0, c1, c2, f1, f2, hs⟩ := hcur
  have HS := Lib.hid hs
  obtain ⟨hm, hs⟩ := hs
  have hl : len ≤ 9223372036854775807 := by unfold maxLen at hm; omega
  clear hm
  by_cases hlt : k < len
  · rcases hs with hs | ⟨xb, xo, rfl, hne0, hc⟩
    · omega
    have hne : xb ≠ b := Nat.ne_of_lt hne0
    clear hne0
    obtain ⟨v, hv, hv0, hv1⟩ := hc k hlt
    clear hc
    go_enter Try.func69, Try.ntmps69
    go_wp2_with fail
    go_quiet (fail)
    go_wp2_with fail
    go_quiet (fail)
    go_wp2_with fail
    go_quiet (fail)
    go_wp2_with fail
    go_ret
    have hb : ∀ (n : Nat) (u v : Value), But b w (((w.setCell ⟨b, 2, none⟩ u).drewN n).setCell ⟨b, 1, none⟩ v) := fun n u v => (((But.refl b w).setCell (.inl rfl) u).drewN n).setCell (.inl rfl) v
    refine ⟨_, i64_and255 _, rfl, ⟨k + 1, wrap64 (wrap64 (h * 6364136223846793005) + 1442695040888963407), by omega, ?_, ?_, ?_, ?_, ?_, HS.out.but (hb _ _ _)⟩, hb _ _ _⟩
    all_goals go_simp
  · clear hs
    go_enter Try.func69, Try.ntmps69
    go_wp2_with fail
    go_quiet (fail)
    go_wp2_with fail
    go_quiet (fail)
    go_wp2_with fail
    go_ret
    have hb : ∀ (m n : Nat) (u : Value), But b w (((w.setCell ⟨b, 2, none⟩ u).drewN m).drewN n) := fun m n u => (((But.refl b w).setCell (.inl rfl) u).drewN m).drewN n
    refine ⟨_, i64_and255 _, rfl, ⟨k, wrap64 (wrap64 (h * 6364136223846793005) + 1442695040888963407), hk, ?_, ?_, ?_, ?_, ?_, HS.out.but (hb _ _ _)⟩, hb _ _ _⟩
    all_goals go_simp

theorem Below_any (b : Nat) (a : Option Addr) (len cap : Nat) (n : Int) (w : World) (hcur : Cur w b a len cap) (h0 : 0 < n) (h1 : n ≤ 9223372036854775807) :
    Calls Try.prog 54 #[.pointer (some ⟨b, 0, none⟩), .int .i64 n] w (Drawn (fun x => 0 ≤ x ∧ x < n) b a len cap w) := by
  by_cases hs : n ≤ 256
  · go_enter Try.func54, Try.ntmps54
    go_wp2_with (go_at_call 69; refine (Byte_any b a len cap _ hcur).mono ?_; rintro e w' ⟨x, ⟨x0, x1⟩, rfl, hcur1, hb1⟩)
    go_ret
    exact ⟨x % n, ⟨Int.emod_nonneg _ (by omega), Int.emod_lt_of_pos _ h0⟩, rfl, hcur1, hb1⟩
  · go_enter Try.func54, Try.ntmps54
    go_wp2_with fail
    refine (Byte_any b a len cap _ hcur).mono ?_
    rintro e w1 ⟨x, ⟨x0, x1⟩, rfl, hcur1, hb1⟩
    go_wp2_with fail
    refine (Byte_any b a len cap _ hcur1).mono ?_
    rintro e w2 ⟨y, ⟨y0, y1⟩, rfl, hcur2, hb2⟩
    go_wp2_with fail
    refine (Byte_any b a len cap _ hcur2).mono ?_
    rintro e w3 ⟨z, ⟨z0, z1⟩, rfl, hcur3, hb3⟩
    go_wp2_with fail
    refine (Byte_any b a len cap _ hcur3).mono ?_
    rintro e w4 ⟨v, ⟨v0, v1⟩, rfl, hcur4, hb4⟩
    go_wp2_with fail
    go_ret
    exact ⟨_, ⟨Int.emod_nonneg _ (by omega), Int.emod_lt_of_pos _ h0⟩, rfl, hcur4, ((hb1.trans hb2).trans hb3).trans hb4⟩

theorem New_any (a : Option Addr) (len cap : Nat) (w : World) (hs : Src w w.heap.size a len) (hlen : len ≤ 1048576) :
    Calls Try.prog 33 #[.slice a len cap] w fun e w' => e = .returned (.pointer (some ⟨w.heap.size, 0, none⟩)) ∧ Cur w' w.heap.size a len cap ∧ Below w.heap.size w w' := by
  have HS := Lib.hid hs
  obtain ⟨hm, hs⟩ := hs
  clear hm
  go_enter Try.func33, Try.ntmps33
  go_wp2_with fail
  go_loop [3, 4] (fun h i => ∃ (k : Nat) (n : Int), k ≤ len ∧ 0 ≤ n ∧ n ≤ 1073774825 ∧ i = .int .i64 k ∧ h = .int .i64 n) (fun _ i => len - (intOf i).toNat)
  case atStart => exact ⟨0, 33041 + len, Nat.zero_le _, by omega, by omega, rfl, rfl⟩
  case round =>
    obtain ⟨k, n, hk, n0, n1, rfl, rfl⟩ := hrel
    by_cases hlt : k < len
    · rcases hs with hs | ⟨xb, xo, rfl, hne, hc⟩
      · omega
      obtain ⟨v, hv, hv0, hv1⟩ := hc k hlt
      clear hc
      have N1 := Lib.hid n1
      clear n1
      by_cases h4 : (k : Int) < 4000
      · go_wp2_with fail
        go_round
        case rel => exact ⟨k + 1, _, by omega, (i64_and30 _).1, Int.le_trans (i64_and30 _).2 (by omega), by go_num, rfl⟩
        case measure => simp [intOf]; omega
      · go_wp2_with fail
        go_ret
        refine ⟨rfl, ⟨0, n, Nat.zero_le _, ?_, ?_, ?_, ?_, ?_, HS.out.but ((But.refl _ _).alloc _)⟩, (Below.refl _ _).alloc (Nat.le_refl _) _⟩
        all_goals go_simp
    · go_wp2_with fail
      go_ret
      refine ⟨rfl, ⟨0, n, Nat.zero_le _, ?_, ?_, ?_, ?_, ?_, HS.out.but ((But.refl _ _).alloc _)⟩, (Below.refl _ _).alloc (Nat.le_refl _) _⟩
      all_goals go_simp
/-- The laws' own bound. -/
theorem Big_no (a : Option Addr) (len cap : Nat) (w : World) (hlen : len ≤ 1048576) :
    Calls Try.prog 9 #[.slice a len cap] w fun e w' => e = .returned (.bool false) ∧ w = w' := by
  have hd : decide (1048576 < (len : Int)) = false := by simp; omega
  go_enter Try.func9, Try.ntmps9
  go_wp2
  go_ret
  exact ⟨rfl, rfl⟩
theorem Big_yes (a : Option Addr) (len cap : Nat) (w : World) (hm : len ≤ 9223372036854775807) (hlen : 1048576 < len) :
    Calls Try.prog 9 #[.slice a len cap] w fun e w' => e = .returned (.bool true) ∧ w = w' := by
  have hd : decide (1048576 < (len : Int)) = true := by simp; omega
  go_enter Try.func9, Try.ntmps9
  go_wp2
  go_ret
  exact ⟨rfl, rfl⟩
end Go.Proofs.Ytboahceibeeifaa
