/- Layouts: DrawLayout. -/
import Derived.Test.YtakjgnkkeefgbaaLayD
namespace Go.Proofs.Ytakjgnkkeefgbaa
open Go.ChangeShapes Go.WideShapes Go.ChangeAt Go.RowKit

theorem Src.up9 {w : World} {b b' : Nat} {a : Option Addr} {len : Nat} (h : Src w b a len) (hb : b ≤ b') : Src w b' a len := by
  obtain ⟨hm, h | ⟨xb, xo, ha, hlt, hc⟩⟩ := h
  · exact ⟨hm, .inl h⟩
  · exact ⟨hm, .inr ⟨xb, xo, ha, Nat.lt_of_lt_of_le hlt hb, hc⟩⟩

/-- A valid layout is handed back. -/
def GivenL (w : World) (e : Ending) (w' : World) : Prop :=
  ∃ (m n : Int) (v : Value) (xs : List P5), LayOk m n xs ∧ e = .returned (.agg #[.int .i64 m, .int .i64 n, v]) ∧ PatIn w.heap.size w'.heap.size w' v xs ∧ Below w.heap.size w w'

set_option maxHeartbeats 400000 in
theorem DrawLayout_any (a : Option Addr) (len cap : Nat) (w : World) (hs : Src w w.heap.size a len) (hlen : len ≤ 1048576) :
    Calls Try.prog 11 #[.slice a len cap] w (GivenL w) := by
  have HS := Lib.hid (fun o => (hs.but ((But.refl _ _).alloc o)).up9 (b' := w.heap.size + 1) (by omega))
  clear hs
  go_enter Try.func11, Try.ntmps11
  go_wp2_with fail
  refine (New_any a len cap _ (by simpa using HS.out _) hlen).mono ?_
  rintro e w1 ⟨rfl, hc1, hb1⟩
  go_wp2_with fail
  refine (LayoutDraw_any _ a len cap _ (by simpa using hc1)).mono ?_
  rintro e w2 ⟨m, n, v, xs, hv, rfl, hin, hc2, hb2⟩
  obtain ⟨av, cv, rfl⟩ := hin.form
  have z1 : w.heap.size + 1 ≤ w1.heap.size := by have := hb1.size; simpa using this
  have hb3 : Below (w.heap.size + 1) (w.alloc (.cells #[.int .i64 0, .int .i64 0, .slice none 0 0] 26)) w2 := (hb1.mono (by simp)).trans (hb2.below (Nat.le_refl _) z1)
  have P := (BoxL.new w (.int .i64 0) (.int .i64 0) (.slice none 0 0) 26).below hb3 (Nat.lt_succ_self _)
  obtain ⟨p0, p1, p2, f0, f1, f2⟩ := P
  have hb5 : Below w.heap.size w w2 := (bel0 w _).trans (hb3.mono (by omega))
  have HI := Lib.hid hin
  have HV := Lib.hid hv
  clear hb1 hb2 hb3 hc1 hc2 hin hv
  go_wp2_with fail
  refine bodyPost_ret (v := .agg #[.int .i64 m, .int .i64 n, .slice av xs.length cv]) (by simp [results, Try.results11, go_sem, p0, p1, p2]) rfl ⟨m, n, _, xs, HV.out, rfl, ?_, ?_⟩
  · refine PatIn.wide (lo := w1.heap.size) (hi := w2.heap.size) ?_ (by omega) (by simp [World.setCell])
    refine PatIn.set_far (PatIn.set_far (PatIn.set_far HI.out ?_ _) ?_ _) ?_ _ <;> (simp <;> omega)
  · refine Below.setCell (Below.setCell (Below.setCell hb5 ?_ _) ?_ _) ?_ _ <;> exact Nat.le_refl _

end Go.Proofs.Ytakjgnkkeefgbaa
