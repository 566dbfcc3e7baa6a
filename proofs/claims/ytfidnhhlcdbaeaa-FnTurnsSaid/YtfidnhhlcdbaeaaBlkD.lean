/- Blocks: DrawBlock, and small helpers of the laws. -/
import Derived.Test.YtfidnhhlcdbaeaaBlkG
import Derived.Test.YtfidnhhlcdbaeaaIntF
import Derived.Deep.QuietTactic
namespace Go.Proofs.Ytfidnhhlcdbaeaa
open Go.ChangeShapes Go.WideShapes Go.ChangeAt Go.RowKit

theorem Src.up2 {w : World} {b b' : Nat} {a : Option Addr} {len : Nat} (h : Src w b a len) (hb : b ≤ b') : Src w b' a len := by
  obtain ⟨hm, h | ⟨xb, xo, ha, hlt, hc⟩⟩ := h
  · exact ⟨hm, .inl h⟩
  · exact ⟨hm, .inr ⟨xb, xo, ha, Nat.lt_of_lt_of_le hlt hb, hc⟩⟩

/-- A valid block is handed back. -/
def GivenB (w : World) (e : Ending) (w' : World) : Prop :=
  ∃ (n : Int) (v : Value) (xs : List C3), BlkOk n xs ∧ e = .returned (.agg #[.int .i64 n, v]) ∧ CellIn w.heap.size w'.heap.size w' v xs ∧ Below w.heap.size w w'

set_option maxHeartbeats 400000 in
theorem DrawBlock_any (a : Option Addr) (len cap : Nat) (w : World) (hs : Src w w.heap.size a len) (hlen : len ≤ 1048576) :
    Calls Try.prog 6 #[.slice a len cap] w (GivenB w) := by
  have HS := Lib.hid (fun o => (hs.but ((But.refl _ _).alloc o)).up2 (b' := w.heap.size + 1) (by omega))
  clear hs
  go_enter Try.func6, Try.ntmps6
  go_wp2_with fail
  refine (New_any a len cap _ (by simpa using HS.out _) hlen).mono ?_
  rintro e w1 ⟨rfl, hc1, hb1⟩
  go_wp2_with fail
  refine (BlockDraw_any _ a len cap _ (by simpa using hc1)).mono ?_
  rintro e w2 ⟨n, v, xs, hv, rfl, hin, hc2, hb2⟩
  obtain ⟨av, cv, rfl⟩ := hin.form
  have z1 : w.heap.size + 1 ≤ w1.heap.size := by have := hb1.size; simpa using this
  have hb3 : Below (w.heap.size + 1) (w.alloc (.cells #[.int .i64 0, .slice none 0 0] 26)) w2 := (hb1.mono (by simp)).trans (hb2.below (Nat.le_refl _) z1)
  have P := (BoxB.new w (.int .i64 0) (.slice none 0 0) 26).below hb3 (Nat.lt_succ_self _)
  obtain ⟨p0, p1, f0, f1⟩ := P
  have hb5 : Below w.heap.size w w2 := (bel0 w _).trans (hb3.mono (by omega))
  have HI := Lib.hid hin
  have HV := Lib.hid hv
  clear hb1 hb2 hb3 hc1 hc2 hin hv
  go_wp2_with fail
  refine bodyPost_ret (v := .agg #[.int .i64 n, .slice av xs.length cv]) (by simp [results, Try.results6, go_sem, p0, p1]) rfl ⟨n, _, xs, HV.out, rfl, ?_, ?_⟩
  · refine CellIn.wide (lo := w1.heap.size) (hi := w2.heap.size) ?_ (by omega) (by simp [World.setCell])
    refine CellIn.set_far (CellIn.set_far HI.out ?_ _) ?_ _ <;> (simp <;> omega)
  · refine Below.setCell (Below.setCell hb5 ?_ _) ?_ _ <;> exact Nat.le_refl _

/-- A number from 0 to 255 is handed back. -/
def ByteV (w : World) (e : Ending) (w' : World) : Prop := ∃ x : Int, 0 ≤ x ∧ x ≤ 255 ∧ e = .returned (.int .i64 x) ∧ w' = w
theorem At_any (a : Option Addr) (len cap : Nat) (i : Int) (w : World) (b : Nat) (hs : Src w b a len) (h0 : 0 ≤ i) (h1 : i ≤ 1000000) :
    Calls Try.prog 14 #[.slice a len cap, .int .i64 i] w (ByteV w) := by
  obtain ⟨hm, hs⟩ := hs
  unfold maxLen at hm
  rcases hs with h | ⟨xb, xo, rfl, _, hc⟩
  · subst h
    go_enter Try.func14, Try.ntmps14
    go_wp2_with fail
    go_ret
    exact ⟨0, by omega, by omega, rfl, rfl⟩
  · by_cases hl : len = 0
    · subst hl
      clear hc
      go_enter Try.func14, Try.ntmps14
      go_wp2_with fail
      go_ret
      exact ⟨0, by omega, by omega, rfl, rfl⟩
    · have hz : ((len : Int) == 0) = false := by simp; exact hl
      have hz2 : ¬ (len : Int) = 0 := by omega
      obtain ⟨j, hj⟩ : ∃ j : Nat, (i * 5 + 1).tmod (len : Int) = j := ⟨((i * 5 + 1).tmod (len : Int)).toNat, by have := Int.tmod_nonneg (len : Int) (show 0 ≤ i * 5 + 1 by omega); omega⟩
      have hjl : j < len := by have := Int.tmod_lt_of_pos (i * 5 + 1) (show (0 : Int) < len by omega); omega
      obtain ⟨x, hx, x0, x1⟩ := hc j hjl
      have w1 : IntKind.i64.wrap (i * 5) = i * 5 := by rw [IntKind.wrap_i64]; omega
      have w2 : IntKind.i64.wrap (i * 5 + 1) = i * 5 + 1 := by rw [IntKind.wrap_i64]; omega
      clear hc
      go_enter Try.func14, Try.ntmps14
      go_wp2_with fail
      go_ret
      exact ⟨x, x0, x1, rfl, rfl⟩

end Go.Proofs.Ytfidnhhlcdbaeaa
