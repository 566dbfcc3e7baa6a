/- Orders of sewing: MostChained of the model. -/
import Derived.Test.YtlkiacgpiodkiaaM20
import Derived.Test.YtlkiacgpiodkiaaM21

set_option linter.unusedSimpArgs false
set_option linter.unusedVariables false
namespace Go.Proofs.Ytlkiacgpiodkiaa
open Go.ChangeShapes Go.WideShapes Go.ChangeAt Go.RowKit

set_option maxHeartbeats 1600000 in
set_option maxRecDepth 20000 in
theorem SpecMost_any (lo hi : Nat) (v : Value) (js : List J3) (n : Int) (wn : (Lit.int .i64 n).wf = true) (w : World) (r : JnIn lo hi w v js) (hhi : hi ≤ w.heap.size) :
    Calls Try.prog 32 #[v, .int .i64 n] w fun e w' => e = .returned (.int .i64 (mostB js n)) ∧ Below w.heap.size w w' := by
  obtain ⟨av, cv, rfl⟩ := r.form
  have CT := Lib.hid (SpecRounds_any lo hi _ js n wn w r hhi)
  have hL11 := (rounds_bd js n).1
  unfold mostB
  clear r wn
  generalize roundsB js n = L at CT hL11
  go_enter Try.func32, Try.ntmps32
  go_wp2_with fail
  refine (args_eqL CT.out (by with_reducible rfl)).mono ?_
  rintro e w1 ⟨vr, rfl, hr, hb1⟩
  obtain ⟨ar, cr, rfl⟩ := hr.form
  have HR := Lib.hid hr
  have HB1 := Lib.hid hb1
  clear hr hb1 CT
  go_wp2_with fail
  go_loopw [5, 7] (fun m i wr => ∃ (k : Nat), k ≤ L.length ∧ i = .int .i64 k ∧ m = .int .i64 (mostF L k) ∧ Hid (Below w1.heap.size w1 wr)) (fun _ i _ => L.length - (intOf i).toNat)
  case atStart => exact ⟨0, Nat.zero_le _, rfl, rfl, Lib.hid (Below.refl _ _)⟩
  case round =>
    obtain ⟨k, hk, rfl, rfl, hbel⟩ := hrel
    by_cases hlt : k < L.length
    · have hR := HR.out.below hbel.out (Nat.le_refl _)
      obtain ⟨G, b, c, rfl, _, _, e0, _⟩ := hR.at hlt
      have hmx : mostF L (k + 1) = max (mostF L k) (((lat L k).length : Nat) : Int) := rfl
      have HMX := Lib.hid hmx
      generalize (lat L k).length = y at e0 HMX
      generalize mostF L k = x at HMX ⊢
      obtain ⟨M, hM⟩ : ∃ M, (if x < (y : Int) then (y : Int) else x) = M := ⟨_, rfl⟩
      have HM : Hid (mostF L (k + 1) = M) := Lib.hid (by rw [HMX.out, ← hM]; split <;> omega)
      clear hR hmx HMX
      go_wp2_with fail
      go_roundw
      case rel => exact ⟨k + 1, by omega, by go_num, by rw [HM.out], hbel⟩
      case measure => simp [intOf] <;> omega
    · obtain rfl : k = L.length := by omega
      go_wp2_with fail
      go_ret
      exact ⟨rfl, bel_c HB1.out (Nat.le_refl _) hbel.out⟩
end Go.Proofs.Ytlkiacgpiodkiaa
