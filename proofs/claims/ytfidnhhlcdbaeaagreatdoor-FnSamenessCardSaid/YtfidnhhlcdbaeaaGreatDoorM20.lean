/- The model's digit. Plain facts on decimal digits. The walks of FormatInt, the model's and the program's. One digit: the model's FormatInt. -/
import Derived.Test.YtfidnhhlcdbaeaaGreatDoorRows
import Derived.Test.YtfidnhhlcdbaeaaGreatDoorM00
import Derived.Test.YtfidnhhlcdbaeaaGreatDoorM19
import Derived.WalkKit
import Derived.ProofKit
import Derived.OpenShut
import Derived.WalkSmall
import Derived.BigQuiet
import Derived.Deep.QuietTactic
import Derived.StillTailTactics
import Derived.Deep.RegionHeld3
import Derived.Deep.AppendLies
import Derived.Outline
import Derived.IntWalk
import Derived.Lib.Hide
import Derived.ShutString
import Derived.Lib.ItoaNum

namespace Go.Proofs.YtfidnhhlcdbaeaaGreatDoor
open Go.ChangeShapes Go.WideShapes Go.ChangeAt Go.RowKit

theorem hexDig_lo (k : Nat) (h : k < 10) : ((hexDig k).toNat : Int) = 48 + k := by
  unfold hexDig; rw [if_pos h]; simp; omega
theorem hexDig_hi (k : Nat) (h : ¬ k < 10) (h2 : k < 16) : ((hexDig k).toNat : Int) = 87 + k := by
  unfold hexDig; rw [if_neg h]; simp; omega

end Go.Proofs.YtfidnhhlcdbaeaaGreatDoor

namespace Go.Proofs.YtfidnhhlcdbaeaaGreatDoor
open Go.RowKit

/-- The digits of a number, none of 0. -/
def dg (m : Nat) : List UInt8 := if m = 0 then [] else Lib.decDigits m
theorem hexDig_dec (k : Nat) (h : k < 10) : hexDig k = UInt8.ofNat (48 + k) := by unfold hexDig; rw [if_pos h]
theorem dg_step (m : Nat) (h : 0 < m) : dg m = dg (m / 10) ++ [hexDig (m % 10)] := by
  unfold dg
  rw [if_neg (by omega), hexDig_dec _ (by omega), Lib.decDigits]
  by_cases h1 : m < 10
  · rw [dif_pos h1, if_pos (by omega), Nat.mod_eq_of_lt h1]; rfl
  · rw [dif_neg h1, if_neg (by omega)]
theorem itoa_pos (m : Nat) (h : 0 < m) : Lib.itoa (m : Int) = dg m := by
  unfold Lib.itoa dg
  rw [if_neg (by omega), if_neg (by omega)]; rfl
theorem itoa_neg (m : Nat) (h : 0 < m) : Lib.itoa (-(m : Int)) = 45 :: dg m := by
  unfold Lib.itoa dg
  rw [if_pos (by omega), if_neg (by omega)]
  congr 2
  omega
theorem dg_length : ∀ (k n : Nat), n < 10 ^ k → (dg n).length ≤ k
  | 0, n, h => by simp at h; subst h; simp [dg]
  | k + 1, n, h => by
    rcases Nat.eq_zero_or_pos n with rfl | h0
    · simp [dg]
    · rw [dg_step n h0]
      have h1 := dg_length k (n / 10) (by rw [Nat.pow_succ] at h; omega)
      simp
      exact h1
theorem dg_19 (n : Nat) (h : n ≤ 9223372036854775808) : (dg n).length ≤ 19 := dg_length 19 n (by have e : (10 : Nat) ^ 19 = 10000000000000000000 := by decide
                                                                                                 omega)
theorem dg_room {m n : Nat} {t : ByteArray} (hn : n ≤ 9223372036854775808) (h : dg m ++ t.data.toList = dg n) : t.size ≤ 19 := by
  have h1 := dg_19 n hn
  rw [← h, List.length_append] at h1
  simp at h1
  omega
/-- 'string([]byte{c})'. -/
theorem string_one {P : Program} (w : World) (c : UInt8) {src dst e : Nat} (hs : P.underlying src = some (.slice e)) (he : P.underlying e = some (.int .u8)) (hd : P.underlying dst = some .string) :
    (convert src dst (.slice (some ⟨w.heap.size, 0, none⟩) 1 1)).run P (w.alloc (.cells #[.int .u8 (c.toNat : Int)] e)) = .ok (.string ⟨#[c]⟩) (w.alloc (.cells #[.int .u8 (c.toNat : Int)] e)) :=
  string_own (base := w.heap.size) (l := [c]) (v := .slice (some ⟨w.heap.size, 0, none⟩) 1 1)
    ⟨rfl, .inr ⟨_, 1, #[.int .u8 (c.toNat : Int)], rfl, Nat.le_refl _, heap_alloc_new _ _, by simp, by simp [maxLen], rfl, rfl⟩⟩ hs he hd
end Go.Proofs.YtfidnhhlcdbaeaaGreatDoor

namespace Go.Proofs.YtfidnhhlcdbaeaaGreatDoor
open Go.ChangeShapes Go.WideShapes Go.ChangeAt Go.RowKit

theorem dg_after {m n : Nat} {t : ByteArray} (hz : 0 < m) (h : dg m ++ t.data.toList = dg n) : dg (m / 10) ++ (({ data := #[hexDig (m % 10)] } : ByteArray) ++ t).data.toList = dg n := by
  rw [← h, dg_step m hz]
  simp

end Go.Proofs.YtfidnhhlcdbaeaaGreatDoor

namespace Go.Proofs.YtfidnhhlcdbaeaaGreatDoor
open Go.ChangeShapes Go.WideShapes Go.ChangeAt Go.RowKit

theorem itoa_dgt {n : Int} (h0 : 0 ≤ n) (h1 : n ≤ 9) : (⟨(Lib.itoa n).toArray⟩ : ByteArray) = dgt n := by
  unfold Lib.itoa dgt
  rw [if_neg (by omega), Lib.decDigits_one (by omega)]

end Go.Proofs.YtfidnhhlcdbaeaaGreatDoor
