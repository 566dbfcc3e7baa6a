/- Rows of integers: compared, marked, and held against the marks. Rows of ints: marks from one on. Rows of integers that begin anywhere in a block. -/
import Derived.Test.YtlkiacgpiodkiaaM12
import Derived.Test.YtlkiacgpiodkiaaM03
import Derived.ProofKit
import Derived.OpenShut
import Derived.WalkSmall
import Derived.BigQuiet
import Derived.Deep.QuietTactic
import Derived.Outline
import Derived.IntWalk

set_option linter.unusedSimpArgs false
set_option linter.unusedVariables false
namespace Go.Proofs.Ytlkiacgpiodkiaa
open Go.ChangeShapes Go.WideShapes Go.ChangeAt Go.RowKit

theorem IntIn.within {lo hi l2 h2 : Nat} {u w : World} {v : Value} {zs : List Int} (r : IntIn l2 h2 u v zs) (h : Within lo hi u w) (ho : h2 ≤ lo ∨ hi ≤ l2) (hh : h2 ≤ u.heap.size) : IntIn l2 h2 w v zs := by
  obtain ⟨hl, r | ⟨g, cap, hv, hg, hlt, hc⟩⟩ := r
  · exact ⟨hl, .inl r⟩
  · refine ⟨hl, .inr ⟨g, cap, hv, hg, hlt, fun i hi => ?_⟩⟩
    have hb : w.heap[g]? = u.heap[g]? := h.block g (by omega) (by omega)
    exact ⟨(World.cell?_of_block (w := u) hb).trans (hc i hi).1, (World.frozen?_of_block (w := u) hb).trans (hc i hi).2⟩

set_option maxHeartbeats 400000 in
theorem EqIntS_any (l1 h1 l2 h2 : Nat) (v1 v2 : Value) (zs : List Int) (w : World) (r1 : IntIn l1 h1 w v1 zs) (r2 : IntIn l2 h2 w v2 zs) (hh1 : h1 ≤ w.heap.size) (hh2 : h2 ≤ w.heap.size) :
    Calls Try.prog 23 #[v1, v2] w fun e w' => e = .returned (.bool true) ∧ Below w.heap.size w w' := by
  obtain ⟨a1, c1, rfl⟩ := r1.form
  obtain ⟨a2, c2, rfl⟩ := r2.form
  have R1 := Lib.hid r1
  have R2 := Lib.hid r2
  have hl := r1.1
  clear r1 r2
  go_enter Try.func23, Try.ntmps23
  go_wp2_with fail
  go_loopw [5] (fun i wr => ∃ k : Nat, k ≤ zs.length ∧ i = .int .i64 k ∧ Hid (Below w.heap.size w wr)) (fun i _ => zs.length - (intOf i).toNat)
  case atStart => exact ⟨0, Nat.zero_le _, rfl, Below.refl _ _⟩
  case round =>
    obtain ⟨k, hk, rfl, hbel⟩ := hrel
    by_cases hlt : k < zs.length
    · obtain ⟨g1, rfl, _, _, e0, _⟩ := R1.out.at (hbel.out.mono hh1) hlt
      obtain ⟨g2, rfl, _, _, d0, _⟩ := R2.out.at (hbel.out.mono hh2) hlt
      generalize zs.getD k 0 = c at e0 d0
      go_wp2_with fail
      go_quiet (fail)
      go_wp2_with fail
      go_roundw
      case rel => exact ⟨k + 1, by omega, by go_num, Lib.hid ⟨hbel.out.os, hbel.out.tape, hbel.out.output, hbel.out.size, hbel.out.block⟩⟩
      case measure => simp [intOf] <;> omega
    · obtain rfl : k = zs.length := by omega
      go_wp2_with fail
      go_ret
      exact ⟨rfl, hbel.out⟩

set_option maxHeartbeats 400000 in
theorem MarkIntS_any (lo hi : Nat) (v : Value) (zs : List Int) (k : Nat) (w : World) (r : IntIn lo hi w v zs) (hk1 : k ≤ 100000000) :
    Calls Try.prog 26 #[v, .int .i64 k] w fun e w' => e = .returned (.int .i64 ((k + zs.length : Nat) : Int)) ∧ IntIn lo hi w' v (markI k zs.length) ∧ Within lo hi w w' := by
  obtain ⟨a1, c1, rfl⟩ := r.form
  have R := Lib.hid r
  have hl := r.1
  clear r
  go_enter Try.func26, Try.ntmps26
  go_wp2_with fail
  go_loopw [1, 5] (fun q i wr => ∃ (m : Nat) (ys : List Int), m ≤ zs.length ∧ i = .int .i64 m ∧ q = .int .i64 ((k + m : Nat) : Int) ∧ Hid (UpToI m (markI k zs.length) ys) ∧ Hid (IntIn lo hi wr (.slice a1 zs.length c1) ys) ∧ Within lo hi w wr) (fun _ i _ => zs.length - (intOf i).toNat)
  case atStart => exact ⟨0, zs, Nat.zero_le _, rfl, rfl, ⟨by simp [markI], fun i hi => by omega⟩, R.out, Within.refl _ _ _⟩
  case round =>
    obtain ⟨m, ys, hm, rfl, rfl, hup, hin, hbel⟩ := hrel
    by_cases hlt : m < zs.length
    · have hyl : ys.length = zs.length := by have := hup.out.1; rw [markI_length] at this; exact this
      obtain ⟨g, rfl, hg, hg1, e0, f0⟩ := hin.out.at (Below.refl _ _) (i := m) (by omega)
      have HN := Lib.hid (hin.out.set m (by omega) ((k + m : Nat) : Int))
      have HU := Lib.hid (hup.out.set (c := ((k + m : Nat) : Int)) (by rw [markI_length]; exact hlt) (markI_at hlt).symm)
      have HB := Lib.hid (Within.setCell hbel (p := ⟨g, m, none⟩) hg hg1 (.int .i64 ((k + m : Nat) : Int)))
      generalize ys.getD m 0 = y at e0
      clear hbel hup hin
      go_wp2_with fail
      go_roundw
      case rel => exact ⟨m + 1, _, by omega, by go_num, by go_num, HU, HN, HB.out⟩
      case measure => simp [intOf] <;> omega
    · obtain rfl : m = zs.length := by omega
      go_wp2_with fail
      go_ret
      refine ⟨rfl, ?_, hbel⟩
      have h1 := hup.out
      have h2 : ys = markI k zs.length := UpToI.all (by rw [markI_length]; exact h1)
      rw [← h2]; exact hin.out

set_option maxHeartbeats 400000 in
theorem HeldIntS_any (lo hi : Nat) (v : Value) (n k : Nat) (w : World) (r : IntIn lo hi w v (markI k n)) (hk1 : k ≤ 100000000) :
    Calls Try.prog 27 #[v, .int .i64 k] w fun e w' => e = .returned (.int .i64 ((k + n : Nat) : Int)) ∧ w' = w := by
  have hl := r.1
  have hf := r.form
  rw [markI_length] at hl hf
  obtain ⟨a1, c1, rfl⟩ := hf
  have R := Lib.hid r
  clear r
  go_enter Try.func27, Try.ntmps27
  go_wp2_with fail
  go_loop [1, 5] (fun q i => ∃ m : Nat, m ≤ n ∧ i = .int .i64 m ∧ q = .int .i64 ((k + m : Nat) : Int)) (fun _ i => n - (intOf i).toNat)
  case atStart => exact ⟨0, Nat.zero_le _, rfl, rfl⟩
  case round =>
    obtain ⟨m, hm, rfl, rfl⟩ := hrel
    by_cases hlt : m < n
    · obtain ⟨g, rfl, _, _, e0, _⟩ := R.out.at (Below.refl _ _) (i := m) (by rw [markI_length]; exact hlt)
      rw [markI_at hlt] at e0
      go_wp2_with fail
      go_round
      case rel => exact ⟨m + 1, by omega, by go_num, by go_num⟩
      case measure => simp [intOf] <;> omega
    · obtain rfl : m = n := by omega
      go_wp2_with fail
      go_ret
      exact ⟨rfl, rfl⟩

end Go.Proofs.Ytlkiacgpiodkiaa

set_option linter.unusedSimpArgs false
set_option linter.unusedVariables false
namespace Go.Proofs.Ytlkiacgpiodkiaa
open Go.ChangeShapes Go.WideShapes Go.ChangeAt Go.RowKit

/-- The number behind the last mark. -/
def mkI (zs : List Int) : Int := ((1 + zs.length : Nat) : Int)
theorem mkI_pos (zs : List Int) : ¬ mkI zs < 0 := by unfold mkI; omega
theorem MarkIOne (lo hi : Nat) (v : Value) (zs : List Int) (w : World) (r : IntIn lo hi w v zs) :
    Calls Try.prog 26 #[v, .int .i64 1] w fun e w' => e = .returned (.int .i64 (mkI zs)) ∧ IntIn lo hi w' v (markI 1 zs.length) ∧ Within lo hi w w' :=
  MarkIntS_any lo hi v zs 1 w r (by omega)
theorem HeldIOne (lo hi : Nat) (v : Value) (zs : List Int) (w : World) (r : IntIn lo hi w v (markI 1 zs.length)) :
    Calls Try.prog 27 #[v, .int .i64 1] w fun e w' => e = .returned (.int .i64 (mkI zs)) ∧ w' = w :=
  HeldIntS_any lo hi v zs.length 1 w r (by omega)

end Go.Proofs.Ytlkiacgpiodkiaa

set_option linter.unusedSimpArgs false
set_option linter.unusedVariables false
namespace Go.Proofs.Ytlkiacgpiodkiaa
open Go.ChangeShapes Go.WideShapes Go.ChangeAt Go.RowKit

/-- A slice of ints in a block from lo on, below hi, from some place on. -/
def IntO (lo hi : Nat) (w : World) (v : Value) (zs : List Int) : Prop :=
  zs.length ≤ 1048576 ∧ ((zs = [] ∧ ∃ a c, v = .slice a 0 c) ∨
    ∃ g o cap, v = .slice (some ⟨g, o, none⟩) zs.length cap ∧ lo ≤ g ∧ g < hi ∧ ∀ i, i < zs.length → w.cell? ⟨g, o + i, none⟩ = some (.int .i64 (zs.getD i 0)) ∧ w.frozen? ⟨g, o + i, none⟩ = false)
theorem IntO.below {lo hi : Nat} {w w' : World} {v : Value} {zs : List Int} (h : IntO lo hi w v zs) (hb : Below hi w w') : IntO lo hi w' v zs := by
  obtain ⟨hl, h | ⟨g, o, cap, hv, hg, hlt, hc⟩⟩ := h
  · exact ⟨hl, .inl h⟩
  · exact ⟨hl, .inr ⟨g, o, cap, hv, hg, hlt, fun i hi => ⟨(hb.cell (p := ⟨g, o + i, none⟩) hlt).trans (hc i hi).1, (hb.frozen (p := ⟨g, o + i, none⟩) hlt).trans (hc i hi).2⟩⟩⟩
theorem IntO.wide {lo hi lo' hi' : Nat} {w : World} {v : Value} {zs : List Int} (h : IntO lo hi w v zs) (h1 : lo' ≤ lo) (h2 : hi ≤ hi') : IntO lo' hi' w v zs := by
  obtain ⟨hl, h | ⟨g, o, cap, hv, hg, hlt, hc⟩⟩ := h
  · exact ⟨hl, .inl h⟩
  · exact ⟨hl, .inr ⟨g, o, cap, hv, by omega, by omega, hc⟩⟩
theorem IntO.form {lo hi : Nat} {w : World} {v : Value} {zs : List Int} (h : IntO lo hi w v zs) : ∃ a cap, v = .slice a zs.length cap := by
  obtain ⟨_, ⟨rfl, a, c, hv⟩ | ⟨g, o, cap, hv, _⟩⟩ := h
  · exact ⟨a, c, hv⟩
  · exact ⟨_, _, hv⟩
theorem IntO.at {lo hi : Nat} {w w' : World} {a : Option Addr} {n cap : Nat} {zs : List Int} (h : IntO lo hi w (.slice a n cap) zs) (hb : Below hi w w') {i : Nat} (hi' : i < zs.length) :
    ∃ g o, a = some ⟨g, o, none⟩ ∧ lo ≤ g ∧ g < hi ∧ w'.cell? ⟨g, o + i, none⟩ = some (.int .i64 (zs.getD i 0)) ∧ w'.frozen? ⟨g, o + i, none⟩ = false := by
  obtain ⟨_, ⟨rfl, _⟩ | ⟨g, o, cap, hv, hg, hlt, hc⟩⟩ := h
  · simp at hi'
  · simp only [Value.slice.injEq] at hv
    exact ⟨g, o, hv.1, hg, hlt, (hb.cell (p := ⟨g, o + i, none⟩) hlt).trans (hc i hi').1, (hb.frozen (p := ⟨g, o + i, none⟩) hlt).trans (hc i hi').2⟩
theorem IntIn.o {lo hi : Nat} {w : World} {v : Value} {zs : List Int} (h : IntIn lo hi w v zs) : IntO lo hi w v zs := by
  obtain ⟨hl, h | ⟨g, cap, hv, hg, hlt, hc⟩⟩ := h
  · exact ⟨hl, .inl h⟩
  · exact ⟨hl, .inr ⟨g, 0, cap, hv, hg, hlt, fun i hi => by rw [Nat.zero_add]; exact hc i hi⟩⟩

end Go.Proofs.Ytlkiacgpiodkiaa
