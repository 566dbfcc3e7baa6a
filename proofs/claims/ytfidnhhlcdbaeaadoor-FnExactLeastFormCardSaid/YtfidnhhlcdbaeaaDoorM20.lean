/- The model's digit. Plain facts on decimal digits. The walks of FormatInt, the model's and the program's. One digit: the model's FormatInt. -/
import Derived.Test.YtfidnhhlcdbaeaaDoorRows
import Derived.Test.YtfidnhhlcdbaeaaDoorM00
import Derived.Test.YtfidnhhlcdbaeaaDoorM19
import Derived.WalkKit
import Derived.ProofKit
import Derived.OpenShut
import Derived.WalkSmall
import Derived.BigQuiet
import Derived.Deep.QuietTactic
import Derived.StillTailTactics
import Derived.Deep.RegionHeld3
import Derived.Deep.AppendLies
import Derived.Outline
import Derived.IntWalk
import Derived.Lib.Hide
import Derived.ShutString
import Derived.Lib.ItoaNum

namespace Go.Proofs.YtfidnhhlcdbaeaaDoor
open Go.ChangeShapes Go.WideShapes Go.ChangeAt Go.RowKit

theorem hexDig_lo (k : Nat) (h : k < 10) : ((hexDig k).toNat : Int) = 48 + k := by
  unfold hexDig; rw [if_pos h]; simp; omega
theorem hexDig_hi (k : Nat) (h : ¬ k < 10) (h2 : k < 16) : ((hexDig k).toNat : Int) = 87 + k := by
  unfold hexDig; rw [if_neg h]; simp; omega

theorem Figure_any (k : Nat) (w : World) (hk : k < 16) :
    Calls Tryd.prog 93 #[.int .i64 k] w fun e w' => e = .returned (.int .u8 ((hexDig k).toNat)) ∧ w' = w := by
  by_cases h : k < 10
  · have e1 := Lib.hid (hexDig_lo k h)
    go_enter Tryd.func93, Tryd.ntmps93
    go_wp2
    go_ret
    exact ⟨by rw [e1.out]; rfl, rfl⟩
  · have e1 := Lib.hid (hexDig_hi k h hk)
    go_enter Tryd.func93, Tryd.ntmps93
    go_wp2
    go_ret
    exact ⟨by rw [e1.out]; go_num, rfl⟩

theorem Figure_int (x : Int) (w : World) (h0 : 0 ≤ x) (h1 : x < 16) :
    Calls Tryd.prog 93 #[.int .i64 x] w fun e w' => e = .returned (.int .u8 ((hexDig x.toNat).toNat)) ∧ w' = w := by
  obtain ⟨k, rfl⟩ : ∃ k : Nat, x = k := ⟨x.toNat, by omega⟩
  exact Figure_any k w (by omega)

theorem Figure_at (k : Nat) (x : Int) (w : World) (hx : x = k) (hk : k < 16) :
    Calls Tryd.prog 93 #[.int .i64 x] w fun e w' => e = .returned (.int .u8 ((hexDig k).toNat)) ∧ w' = w := by
  subst hx
  exact Figure_any k w hk

end Go.Proofs.YtfidnhhlcdbaeaaDoor

namespace Go.Proofs.YtfidnhhlcdbaeaaDoor
open Go.RowKit

/-- The digits of a number, none of 0. -/
def dg (m : Nat) : List UInt8 := if m = 0 then [] else Lib.decDigits m
theorem hexDig_dec (k : Nat) (h : k < 10) : hexDig k = UInt8.ofNat (48 + k) := by unfold hexDig; rw [if_pos h]
theorem dg_step (m : Nat) (h : 0 < m) : dg m = dg (m / 10) ++ [hexDig (m % 10)] := by
  unfold dg
  rw [if_neg (by omega), hexDig_dec _ (by omega), Lib.decDigits]
  by_cases h1 : m < 10
  · rw [dif_pos h1, if_pos (by omega), Nat.mod_eq_of_lt h1]; rfl
  · rw [dif_neg h1, if_neg (by omega)]
theorem itoa_pos (m : Nat) (h : 0 < m) : Lib.itoa (m : Int) = dg m := by
  unfold Lib.itoa dg
  rw [if_neg (by omega), if_neg (by omega)]; rfl
theorem itoa_neg (m : Nat) (h : 0 < m) : Lib.itoa (-(m : Int)) = 45 :: dg m := by
  unfold Lib.itoa dg
  rw [if_pos (by omega), if_neg (by omega)]
  congr 2
  omega
theorem dg_length : ∀ (k n : Nat), n < 10 ^ k → (dg n).length ≤ k
  | 0, n, h => by simp at h; subst h; simp [dg]
  | k + 1, n, h => by
    rcases Nat.eq_zero_or_pos n with rfl | h0
    · simp [dg]
    · rw [dg_step n h0]
      have h1 := dg_length k (n / 10) (by rw [Nat.pow_succ] at h; omega)
      simp
      exact h1
theorem dg_19 (n : Nat) (h : n ≤ 9223372036854775808) : (dg n).length ≤ 19 := dg_length 19 n (by have e : (10 : Nat) ^ 19 = 10000000000000000000 := by decide
                                                                                                 omega)
theorem dg_room {m n : Nat} {t : ByteArray} (hn : n ≤ 9223372036854775808) (h : dg m ++ t.data.toList = dg n) : t.size ≤ 19 := by
  have h1 := dg_19 n hn
  rw [← h, List.length_append] at h1
  simp at h1
  omega
/-- 'string([]byte{c})'. -/
theorem string_one {P : Program} (w : World) (c : UInt8) {src dst e : Nat} (hs : P.underlying src = some (.slice e)) (he : P.underlying e = some (.int .u8)) (hd : P.underlying dst = some .string) :
    (convert src dst (.slice (some ⟨w.heap.size, 0, none⟩) 1 1)).run P (w.alloc (.cells #[.int .u8 (c.toNat : Int)] e)) = .ok (.string ⟨#[c]⟩) (w.alloc (.cells #[.int .u8 (c.toNat : Int)] e)) :=
  string_own (base := w.heap.size) (l := [c]) (v := .slice (some ⟨w.heap.size, 0, none⟩) 1 1)
    ⟨rfl, .inr ⟨_, 1, #[.int .u8 (c.toNat : Int)], rfl, Nat.le_refl _, heap_alloc_new _ _, by simp, by simp [maxLen], rfl, rfl⟩⟩ hs he hd
end Go.Proofs.YtfidnhhlcdbaeaaDoor

namespace Go.Proofs.YtfidnhhlcdbaeaaDoor
open Go.ChangeShapes Go.WideShapes Go.ChangeAt Go.RowKit

theorem dg_after {m n : Nat} {t : ByteArray} (hz : 0 < m) (h : dg m ++ t.data.toList = dg n) : dg (m / 10) ++ (({ data := #[hexDig (m % 10)] } : ByteArray) ++ t).data.toList = dg n := by
  rw [← h, dg_step m hz]
  simp

set_option maxHeartbeats 400000 in
theorem SpecFormat_pos (n : Nat) (w : World) (h0 : 0 < n) (h1 : n ≤ 9223372036854775807) :
    Calls Tryd.prog 69 #[.int .i64 n] w fun e w' => e = .returned (.string ⟨(Lib.itoa n).toArray⟩) ∧ Below w.heap.size w w' := by
  have HI := Lib.hid (itoa_pos n h0)
  have q1 : ((n : Int) == 0) = false := by simp; omega
  have q2 : decide ((n : Int) < 0) = false := by simp
  go_enter Tryd.func69, Tryd.ntmps69
  go_wp2_with fail
  clear q1 q2
  go_loopw [0, 4] (fun v s wr => ∃ (m : Nat) (t : ByteArray), m ≤ 9223372036854775807 ∧ v = .int .i64 m ∧ s = .string t ∧ Hid (dg m ++ t.data.toList = dg n) ∧ Below w.heap.size w wr) (fun v _ _ => (intOf v).toNat)
  case atStart => exact ⟨n, _, h1, rfl, rfl, by simp [Hid], Below.refl _ _⟩
  case round =>
    obtain ⟨m, t, hm, rfl, rfl, hd, hbel⟩ := hrel
    have ht := dg_room (by omega) hd.out
    by_cases hz : 0 < m
    · have cv := fun (w : World) => string_one (P := Tryd.prog) w (hexDig (m % 10)) Tryd.underlying92 Tryd.underlying5 Tryd.underlying9
      go_wp2_with (go_at_call 93; refine (Figure_at (m % 10) _ _ (by omega) (by omega)).mono ?_; rintro e w' ⟨rfl, rfl⟩)
      go_roundw
      case rel => exact ⟨m / 10, _, by omega, rfl, rfl, dg_after hz hd.out, hbel.alloc hbel.size _⟩
      case measure => simp [intOf]; omega
    · obtain rfl : m = 0 := by omega
      go_wp2_with fail
      go_ret
      have e1 : t.data.toList = Lib.itoa n := by rw [HI.out, ← hd.out]; rfl
      exact ⟨by rw [← e1]; rfl, hbel⟩

set_option maxHeartbeats 400000 in
theorem SpecFormat_neg (n : Nat) (w : World) (h0 : 0 < n) (h1 : n ≤ 9223372036854775808) :
    Calls Tryd.prog 69 #[.int .i64 (-(n : Int))] w fun e w' => e = .returned (.string ⟨(Lib.itoa (-(n : Int))).toArray⟩) ∧ Below w.heap.size w w' := by
  have HI := Lib.hid (itoa_neg n h0)
  have q1 : (-(n : Int) == 0) = false := by simp; omega
  have q2 : decide (-(n : Int) < 0) = true := by simp; omega
  go_enter Tryd.func69, Tryd.ntmps69
  go_wp2_with fail
  clear q1 q2
  go_loopw [0, 4] (fun v s wr => ∃ (m : Nat) (t : ByteArray), m ≤ 9223372036854775808 ∧ v = .int .i64 (-(m : Int)) ∧ s = .string t ∧ Hid (dg m ++ t.data.toList = dg n) ∧ Below w.heap.size w wr) (fun v _ _ => (intOf v).natAbs)
  case atStart => exact ⟨n, _, h1, rfl, rfl, by simp [Hid], Below.refl _ _⟩
  case round =>
    obtain ⟨m, t, hm, rfl, rfl, hd, hbel⟩ := hrel
    have ht := dg_room (by omega) hd.out
    by_cases hz : 0 < m
    · have cv := fun (w : World) => string_one (P := Tryd.prog) w (hexDig (m % 10)) Tryd.underlying92 Tryd.underlying5 Tryd.underlying9
      have e1 : (-(m : Int)).tmod 10 = -((m : Int) % 10) := by rw [Int.neg_tmod, Int.tmod_eq_emod_of_nonneg (by omega)]
      have e2 : (-(m : Int)).tdiv 10 = -((m : Int) / 10) := by rw [Int.neg_tdiv, Int.tdiv_eq_ediv_of_nonneg (by omega)]
      by_cases hs : (m : Int) % 10 = 0
      · go_wp2_with (go_at_call 93; refine (Figure_at (m % 10) _ _ (by omega) (by omega)).mono ?_; rintro e w' ⟨rfl, rfl⟩)
        go_roundw
        case rel => exact ⟨m / 10, _, by omega, rfl, rfl, dg_after hz hd.out, hbel.alloc hbel.size _⟩
        case measure => simp [intOf]; omega
      · have hs : 0 < (m : Int) % 10 := by omega
        go_wp2_with (go_at_call 93; refine (Figure_at (m % 10) _ _ (by omega) (by omega)).mono ?_; rintro e w' ⟨rfl, rfl⟩)
        go_roundw
        case rel => exact ⟨m / 10, _, by omega, rfl, rfl, dg_after hz hd.out, hbel.alloc hbel.size _⟩
        case measure => simp [intOf]; omega
    · obtain rfl : m = 0 := by omega
      go_wp2_with fail
      go_ret
      have e1 : 45 :: t.data.toList = Lib.itoa (-(n : Int)) := by rw [HI.out, ← hd.out]; rfl
      exact ⟨by rw [← e1]; rfl, hbel⟩
end Go.Proofs.YtfidnhhlcdbaeaaDoor

namespace Go.Proofs.YtfidnhhlcdbaeaaDoor
open Go.ChangeShapes Go.WideShapes Go.ChangeAt Go.RowKit

theorem itoa_dgt {n : Int} (h0 : 0 ≤ n) (h1 : n ≤ 9) : (⟨(Lib.itoa n).toArray⟩ : ByteArray) = dgt n := by
  unfold Lib.itoa dgt
  rw [if_neg (by omega), Lib.decDigits_one (by omega)]

theorem SpecDigit_any (n : Int) (w : World) (h0 : 0 ≤ n) (h1 : n ≤ 9) :
    Calls Tryd.prog 69 #[.int .i64 n] w fun e w' => e = .returned (.string (dgt n)) ∧ Below w.heap.size w w' := by
  rw [← itoa_dgt h0 h1]
  by_cases hz : n = 0
  · subst hz
    have e0 : Lib.itoa 0 = [48] := by unfold Lib.itoa; rw [if_neg (by omega), Lib.decDigits]; rfl
    have E0 := Lib.hid e0
    clear e0
    go_enter Tryd.func69, Tryd.ntmps69
    go_wp2_with fail
    go_ret
    exact ⟨by rw [E0.out]; rfl, Below.refl _ _⟩
  · obtain ⟨k, rfl⟩ : ∃ k : Nat, n = k := ⟨n.toNat, by omega⟩
    exact SpecFormat_pos k w (by omega) (by omega)

end Go.Proofs.YtfidnhhlcdbaeaaDoor
