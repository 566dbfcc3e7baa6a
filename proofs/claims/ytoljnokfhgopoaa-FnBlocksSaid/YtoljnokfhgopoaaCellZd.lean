/- Cells: DrawCell. -/
import Derived.Test.YtoljnokfhgopoaaCellV
namespace Go.Proofs.Ytoljnokfhgopoaa
open Go.ChangeShapes Go.WideShapes Go.ChangeAt Go.RowKit

theorem Src.up {w : World} {b b' : Nat} {a : Option Addr} {len : Nat} (h : Src w b a len) (hb : b ≤ b') : Src w b' a len := by
  obtain ⟨hm, h | ⟨xb, xo, ha, hlt, hc⟩⟩ := h
  · exact ⟨hm, .inl h⟩
  · exact ⟨hm, .inr ⟨xb, xo, ha, Nat.lt_of_lt_of_le hlt hb, hc⟩⟩

/-- A valid cell is handed back. -/
def GivenC (w : World) (e : Ending) (w' : World) : Prop :=
  ∃ s x y : Int, OkC s x y ∧ e = .returned (.agg #[.int .i64 s, .int .i64 x, .int .i64 y]) ∧ Below w.heap.size w w'

theorem DrawCell_any (a : Option Addr) (len cap : Nat) (w : World) (hs : Src w w.heap.size a len) (hlen : len ≤ 1048576) :
    Calls Try.prog 14 #[.slice a len cap] w (GivenC w) := by
  have HS := Lib.hid (fun o => (hs.but ((But.refl _ _).alloc o)).up (b' := w.heap.size + 1) (by omega))
  clear hs
  go_enter Try.func14, Try.ntmps14
  go_wp2_with fail
  refine (New_any a len cap _ (by simpa using HS.out _) hlen).mono ?_
  rintro e w1 ⟨rfl, hc1, hb1⟩
  go_wp2_with fail
  refine (CellDraw_any _ a len cap _ (by simpa using hc1)).mono ?_
  rintro e w2 ⟨s, x, y, hv, rfl, hc2, hb2⟩
  have hb3 : Below (w.heap.size + 1) (w.alloc (.cells #[.int .i64 0, .int .i64 0, .int .i64 0] 30)) w2 := (hb1.mono (by simp)).trans (hb2.below (Nat.le_refl _) (by have := hb1.size; simpa using this))
  have cc : ∀ i : Nat, w2.cell? ⟨w.heap.size, i, none⟩ = (w.alloc (.cells #[.int .i64 0, .int .i64 0, .int .i64 0] 30)).cell? ⟨w.heap.size, i, none⟩ := fun i => hb3.cell (p := ⟨w.heap.size, i, none⟩) (by simp)
  have ff : ∀ i : Nat, w2.frozen? ⟨w.heap.size, i, none⟩ = (w.alloc (.cells #[.int .i64 0, .int .i64 0, .int .i64 0] 30)).frozen? ⟨w.heap.size, i, none⟩ := fun i => hb3.frozen (p := ⟨w.heap.size, i, none⟩) (by simp)
  have f0 : w2.cell? ⟨w.heap.size, 0, none⟩ = some (.int .i64 0) := (cc 0).trans (by simp)
  have f1 : w2.cell? ⟨w.heap.size, 1, none⟩ = some (.int .i64 0) := (cc 1).trans (by simp)
  have f2 : w2.cell? ⟨w.heap.size, 2, none⟩ = some (.int .i64 0) := (cc 2).trans (by simp)
  have g0 : w2.frozen? ⟨w.heap.size, 0, none⟩ = false := (ff 0).trans (by simp)
  have g1 : w2.frozen? ⟨w.heap.size, 1, none⟩ = false := (ff 1).trans (by simp)
  have g2 : w2.frozen? ⟨w.heap.size, 2, none⟩ = false := (ff 2).trans (by simp)
  have hb5 : Below w.heap.size w w2 := ((Below.refl _ _).alloc (Nat.le_refl _) _).trans (hb3.mono (by omega))
  clear cc ff hb1 hb2 hb3 hc1 hc2
  go_wp2_with fail
  refine bodyPost_ret (v := .agg #[.int .i64 s, .int .i64 x, .int .i64 y]) (by simp [results, Try.results14, go_sem, f0, f1, f2]) rfl ⟨s, x, y, hv, rfl, ?_⟩
  refine Below.setCell (Below.setCell (Below.setCell hb5 ?_ _) ?_ _) ?_ _ <;> exact Nat.le_refl _

end Go.Proofs.Ytoljnokfhgopoaa
