/- Blocks: their size in the law, and taken from the law's own type. -/
import Derived.Test.YtfidnhhlcdbaeaaBlkT
namespace Go.Proofs.Ytfidnhhlcdbaeaa
open Go.ChangeShapes Go.WideShapes Go.ChangeAt Go.RowKit

theorem bel0 (w : World) (o : Obj) : Below w.heap.size w (w.alloc o) := (Below.refl _ _).alloc (Nat.le_refl _) o
theorem bel_n {b : Nat} {w u : World} (h : Below b w u) (hb : b ≤ w.heap.size) (o : Obj) : Below b w (u.alloc o) := h.alloc (Nat.le_trans hb h.size) _
theorem bel_c {b : Nat} {w u v : World} (h : Below b w u) (hb : b ≤ w.heap.size) (k : Below u.heap.size u v) : Below b w v := h.trans (k.mono (Nat.le_trans hb h.size))
theorem kept {u v : World} {p : Addr} {x : Value} (hb : Below u.heap.size u v) (h : u.cell? p = some x) : v.cell? p = some x :=
  (World.cell?_of_block (hb.block p.block (lt_of_cell h))).trans h
theorem keptF {u v : World} {p : Addr} {x : Value} (hb : Below u.heap.size u v) (h : u.cell? p = some x) (hf : u.frozen? p = false) : v.frozen? p = false :=
  (World.frozen?_of_block (hb.block p.block (lt_of_cell h))).trans hf

theorem SzC_no (a : Option Addr) (len cap : Nat) (left : Int) (w : World) (h0 : 0 ≤ left) (h1 : left ≤ 1048576) (hm : len ≤ 9223372036854775807) (h : left < len) :
    Calls Try.prog 40 #[.slice a len cap, .int .i64 left] w fun e w' => e = .returned (.int .i64 (-1)) ∧ w' = w := by
  have h2 : left - (len : Int) < 0 := by omega
  go_enter Try.func40, Try.ntmps40
  go_wp2_with fail
  go_ret
  exact ⟨rfl, rfl⟩
theorem SzC_yes (a : Option Addr) (len cap : Nat) (left : Int) (w : World) (h1 : left ≤ 1048576) (h : (len : Int) ≤ left) :
    Calls Try.prog 40 #[.slice a len cap, .int .i64 left] w fun e w' => e = .returned (.int .i64 (left - len)) ∧ w' = w := by
  have h2 : ¬ left - (len : Int) < 0 := by omega
  go_enter Try.func40, Try.ntmps40
  go_wp2_with fail
  go_ret
  exact ⟨rfl, rfl⟩
theorem SzB_no (n : Int) (a : Option Addr) (len cap : Nat) (left : Int) (w : World) (h0 : 0 ≤ left) (h1 : left ≤ 1048576) (hm : len ≤ 9223372036854775807) (h : left < len) :
    Calls Try.prog 19 #[.agg #[.int .i64 n, .slice a len cap], .int .i64 left] w fun e w' => e = .returned (.int .i64 (-1)) ∧ Below w.heap.size w w' := by
  go_enter Try.func19, Try.ntmps19
  go_wp2_with fail
  refine (SzC_no a len cap left _ h0 h1 hm h).mono ?_
  rintro e w' ⟨rfl, rfl⟩
  go_wp2_with fail
  go_ret
  exact ⟨rfl, bel0 _ _⟩
theorem SzB_yes (n : Int) (a : Option Addr) (len cap : Nat) (left : Int) (w : World) (h1 : left ≤ 1048576) (h : (len : Int) ≤ left) :
    Calls Try.prog 19 #[.agg #[.int .i64 n, .slice a len cap], .int .i64 left] w fun e w' => e = .returned (.int .i64 (left - len)) ∧ Below w.heap.size w w' := by
  have h2 : ¬ left - (len : Int) < 0 := by omega
  go_enter Try.func19, Try.ntmps19
  go_wp2_with fail
  refine (SzC_yes a len cap left _ h1 h).mono ?_
  rintro e w' ⟨rfl, rfl⟩
  go_wp2_with fail
  go_ret
  exact ⟨rfl, bel0 _ _⟩

/-- A new block is handed back. -/
def FreshB (n : Int) (xs : List C3) (w : World) (e : Ending) (w' : World) : Prop := ∃ v, e = .returned (.agg #[.int .i64 n, v]) ∧ CellIn w.heap.size w'.heap.size w' v xs ∧ Below w.heap.size w w'

theorem ToBlock_any (n : Int) (a : Option Addr) (len cap : Nat) (xs : List C3) (w : World) (r : ArgC w a len xs) (hlen : len ≤ 1048576) :
    Calls Try.prog 21 #[.agg #[.int .i64 n, .slice a len cap]] w (FreshB n xs w) := by
  have R : ∀ o1 o2 o3, Hid (ArgC (((w.alloc o1).alloc o2).alloc o3) a len xs) := fun o1 o2 o3 => Lib.hid (r.below (bel_n (bel_n (bel0 w o1) (Nat.le_refl _) o2) (Nat.le_refl _) o3))
  clear r
  go_enter Try.func21, Try.ntmps21
  go_wp2_with fail
  refine (ToCellS_any a len cap xs _ (R _ _ _).out hlen).mono ?_
  rintro e w1 ⟨v, rfl, hin, hb1⟩
  obtain ⟨a', cap', rfl⟩ := hin.form
  have c0 := kept (p := ⟨w.heap.size + 1 + 1, 0, none⟩) (x := .int .i64 n) hb1 (by go_simp)
  have c1 := kept (p := ⟨w.heap.size + 1 + 1, 1, none⟩) (x := .slice none 0 0) hb1 (by go_simp)
  have f1 := keptF (p := ⟨w.heap.size + 1 + 1, 1, none⟩) (x := .slice none 0 0) hb1 (by go_simp) (by go_simp)
  have d0 := kept (p := ⟨w.heap.size + 1, 0, none⟩) (x := .int .i64 0) hb1 (by go_simp)
  have d1 := kept (p := ⟨w.heap.size + 1, 1, none⟩) (x := .slice none 0 0) hb1 (by go_simp)
  have g0 := keptF (p := ⟨w.heap.size + 1, 0, none⟩) (x := .int .i64 0) hb1 (by go_simp) (by go_simp)
  have g1 := keptF (p := ⟨w.heap.size + 1, 1, none⟩) (x := .slice none 0 0) hb1 (by go_simp) (by go_simp)
  have hB : Below w.heap.size w w1 := bel_c (bel_n (bel_n (bel0 w _) (Nat.le_refl _) _) (Nat.le_refl _) _) (Nat.le_refl _) hb1
  have hS := hb1.size
  simp at hS
  clear hb1
  go_wp2_with fail
  refine bodyPost_ret (v := .agg #[.int .i64 n, .slice a' xs.length cap']) (by simp [results, Try.results21, go_sem, d0, d1]) rfl ⟨.slice a' xs.length cap', rfl, ?_, ?_⟩
  · refine CellIn.wide (lo := w.heap.size + 1 + 1 + 1) (hi := w1.heap.size) ?_ (by omega) (by simp [World.setCell])
    refine CellIn.set_far (CellIn.set_far (CellIn.set_far (by simpa using hin) ?_ _) ?_ _) ?_ _ <;> (simp <;> omega)
  · refine Below.setCell (Below.setCell (Below.setCell hB ?_ _) ?_ _) ?_ _ <;> (simp <;> omega)

end Go.Proofs.Ytfidnhhlcdbaeaa
