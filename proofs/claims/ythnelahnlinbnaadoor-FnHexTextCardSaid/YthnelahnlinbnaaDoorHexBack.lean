/- Plain facts: a hexadecimal text is decoded to what was encoded. -/
import Derived.Test.YthnelahnlinbnaaDoorHexF
namespace Go.Proofs.YthnelahnlinbnaaDoor
open Go.RowKit

theorem hv_hexDig (k : Nat) (h : k < 16) : hv (hexDig k) = k := by
  have e : ∀ n : Fin 16, hv (hexDig n.val) = n.val := by decide
  exact e ⟨k, h⟩
theorem pair_back (b : UInt8) : pairB (hexDig (b.toNat / 16)) (hexDig (b.toNat % 16)) = b := by
  have h0 : b.toNat < 256 := b.toNat_lt
  unfold pairB
  rw [hv_hexDig _ (by omega), hv_hexDig _ (by omega)]
  have e : (16 * ((b.toNat / 16 : Nat) : Int) + ((b.toNat % 16 : Nat) : Int)).toNat = b.toNat := by omega
  rw [e]
  simp
theorem enc_cons (b : UInt8) (l : List UInt8) : enc (b :: l) = hexDig (b.toNat / 16) :: hexDig (b.toNat % 16) :: enc l := by simp [enc, encB]
theorem decP_cons (x y : UInt8) (r : List UInt8) (k : Nat) : decP (x :: y :: r) (k + 1) = pairB x y :: decP r k := by
  unfold decP
  rw [List.range_succ_eq_map, List.map_cons, List.map_map]
  rfl
theorem dec_enc (l : List UInt8) : decP (enc l) l.length = l := by
  induction l with
  | nil => rfl
  | cons b l ih => rw [enc_cons, List.length_cons, decP_cons, ih, pair_back]
theorem decOk_enc (l : List UInt8) : decOk (enc l) l.length := by
  induction l with
  | nil => intro j hj; simp at hj
  | cons b l ih =>
    have h0 : b.toNat < 256 := b.toNat_lt
    intro j hj
    rw [enc_cons]
    match j, hj with
    | 0, _ =>
      show 0 ≤ hv (hexDig _) ∧ 0 ≤ hv (hexDig _)
      rw [hv_hexDig _ (by omega), hv_hexDig _ (by omega)]
      omega
    | j + 1, hj =>
      have e1 : 2 * (j + 1) = 2 * j + 1 + 1 := by omega
      rw [e1]
      exact ih j (by simpa using hj)
end Go.Proofs.YthnelahnlinbnaaDoor
