/- Turns: the program's turnedAt and mirroredAt. -/
import Derived.Test.YtfidnhhlcdbaeaaTurIa
import Derived.Test.YtfidnhhlcdbaeaaTurK
namespace Go.Proofs.Ytfidnhhlcdbaeaa
open Go.ChangeShapes Go.WideShapes Go.ChangeAt Go.RowKit

/-- turnedAt, at a place that a valid block has. -/
theorem TurnCellAt_ok (lo hi m x y : Nat) (v : Value) (xs : List C3) (w : World) (r : CellIn lo hi w v xs) (hhi : hi ≤ w.heap.size) (hb : BlkOk (m : Int) xs) (hx : x < m) (hy : y < m) :
    Calls Try.prog 36 #[.agg #[.int .i64 (m : Int), v], .int .i64 (x : Int), .int .i64 (y : Int)] w fun e w' => e = .returned (.agg #[.int .i64 (turnC (xs.getD (tP m (y * m + x)) C3.zero)).s, .int .i64 (turnC (xs.getD (tP m (y * m + x)) C3.zero)).a, .int .i64 (turnC (xs.getD (tP m (y * m + x)) C3.zero)).b]) ∧ Below w.heap.size w w' := by
  obtain ⟨a, cap, rfl⟩ := r.form
  have hl := r.1
  obtain ⟨m', hmm, hm1, hm4, hml⟩ := sz_nat hb
  obtain rfl : m = m' := by omega
  clear hmm
  obtain ⟨j, hj1, hj2, hw1, hw2, hw3, hw4⟩ := tIdx hm1 hm4 hx hy
  rw [tP_at hx, ← hj1]
  have hjl : j < xs.length := by rw [hml]; exact hj2
  have hj0 : (0 : Int) ≤ (j : Int) := by omega
  have hji : (j : Int) < (xs.length : Int) := by omega
  have hok := blk_at hb hjl
  have B0 := bel_n (bel0 w (.cells #[.int .i64 m, .slice a xs.length cap] 26)) (Nat.le_refl _) (.cells #[.int .i64 0, .int .i64 0, .int .i64 0] 29)
  obtain ⟨g, rfl, hg1, hg2, ⟨e0, e1, e2⟩, _⟩ := (r.below (B0.mono hhi)).at (Below.refl _ _) hjl
  have CT0 := ImplTurnCell_any (xs.getD j C3.zero).s (xs.getD j C3.zero).a (xs.getD j C3.zero).b
  have hzz : turnZ (xs.getD j C3.zero) = turnC (xs.getD j C3.zero) := if_pos hok
  have CT : Hid (∀ u : World, Calls Try.prog 7 #[.agg #[.int .i64 (xs.getD j C3.zero).s, .int .i64 (xs.getD j C3.zero).a, .int .i64 (xs.getD j C3.zero).b]] u fun e w' => e = .returned (.agg #[.int .i64 (turnC (xs.getD j C3.zero)).s, .int .i64 (turnC (xs.getD j C3.zero)).a, .int .i64 (turnC (xs.getD j C3.zero)).b]) ∧ Below u.heap.size u w') := Lib.hid (fun u => by have := CT0 u; rw [hzz] at this; exact this)
  clear CT0 hzz hok hb r hl hj1 hml
  generalize turnC (xs.getD j C3.zero) = z at CT ⊢
  generalize xs.getD j C3.zero = c at e0 e1 e2 CT
  obtain ⟨cs, ca, cb⟩ := c
  have hgn : g < w.heap.size := by omega
  go_enter Try.func36, Try.ntmps36
  go_wp2_with fail
  refine (CT.out _).mono ?_
  rintro e w1 ⟨rfl, hb1⟩
  have B := bel_c B0 (Nat.le_refl _) hb1
  have d0 := kept (p := ⟨w.heap.size + 1, 0, none⟩) (x := .int .i64 0) hb1 (by go_simp)
  have d1 := kept (p := ⟨w.heap.size + 1, 1, none⟩) (x := .int .i64 0) hb1 (by go_simp)
  have d2 := kept (p := ⟨w.heap.size + 1, 2, none⟩) (x := .int .i64 0) hb1 (by go_simp)
  have g0 := keptF (p := ⟨w.heap.size + 1, 0, none⟩) (x := .int .i64 0) hb1 (by go_simp) (by go_simp)
  have g1 := keptF (p := ⟨w.heap.size + 1, 1, none⟩) (x := .int .i64 0) hb1 (by go_simp) (by go_simp)
  have g2 := keptF (p := ⟨w.heap.size + 1, 2, none⟩) (x := .int .i64 0) hb1 (by go_simp) (by go_simp)
  clear hb1 B0 e0 e1 e2
  go_wp2_with fail
  refine bodyPost_ret (v := .agg #[.int .i64 z.s, .int .i64 z.a, .int .i64 z.b]) (by simp [results, Try.results36, go_sem, d0, d1, d2]) rfl ⟨rfl, ?_⟩
  refine Below.setCell (Below.setCell (Below.setCell B ?_ _) ?_ _) ?_ _ <;> (simp <;> omega)
/-- mirroredAt, at a place that a valid block has. -/
theorem MirrorCellAt_ok (lo hi m x y : Nat) (v : Value) (xs : List C3) (w : World) (r : CellIn lo hi w v xs) (hhi : hi ≤ w.heap.size) (hb : BlkOk (m : Int) xs) (hx : x < m) (hy : y < m) :
    Calls Try.prog 37 #[.agg #[.int .i64 (m : Int), v], .int .i64 (x : Int), .int .i64 (y : Int)] w fun e w' => e = .returned (.agg #[.int .i64 (mirC (xs.getD (mP m (y * m + x)) C3.zero)).s, .int .i64 (mirC (xs.getD (mP m (y * m + x)) C3.zero)).a, .int .i64 (mirC (xs.getD (mP m (y * m + x)) C3.zero)).b]) ∧ Below w.heap.size w w' := by
  obtain ⟨a, cap, rfl⟩ := r.form
  have hl := r.1
  obtain ⟨m', hmm, hm1, hm4, hml⟩ := sz_nat hb
  obtain rfl : m = m' := by omega
  clear hmm
  obtain ⟨j, hj1, hj2, hw1, hw2, hw3, hw4⟩ := mIdx hm1 hm4 hx hy
  rw [mP_at hx, ← hj1]
  have hjl : j < xs.length := by rw [hml]; exact hj2
  have hj0 : (0 : Int) ≤ (j : Int) := by omega
  have hji : (j : Int) < (xs.length : Int) := by omega
  have hok := blk_at hb hjl
  have B0 := bel_n (bel0 w (.cells #[.int .i64 m, .slice a xs.length cap] 26)) (Nat.le_refl _) (.cells #[.int .i64 0, .int .i64 0, .int .i64 0] 29)
  obtain ⟨g, rfl, hg1, hg2, ⟨e0, e1, e2⟩, _⟩ := (r.below (B0.mono hhi)).at (Below.refl _ _) hjl
  have CT0 := ImplMirrorCell_any (xs.getD j C3.zero).s (xs.getD j C3.zero).a (xs.getD j C3.zero).b
  have hzz : mirZ (xs.getD j C3.zero) = mirC (xs.getD j C3.zero) := if_pos hok
  have CT : Hid (∀ u : World, Calls Try.prog 8 #[.agg #[.int .i64 (xs.getD j C3.zero).s, .int .i64 (xs.getD j C3.zero).a, .int .i64 (xs.getD j C3.zero).b]] u fun e w' => e = .returned (.agg #[.int .i64 (mirC (xs.getD j C3.zero)).s, .int .i64 (mirC (xs.getD j C3.zero)).a, .int .i64 (mirC (xs.getD j C3.zero)).b]) ∧ Below u.heap.size u w') := Lib.hid (fun u => by have := CT0 u; rw [hzz] at this; exact this)
  clear CT0 hzz hok hb r hl hj1 hml
  generalize mirC (xs.getD j C3.zero) = z at CT ⊢
  generalize xs.getD j C3.zero = c at e0 e1 e2 CT
  obtain ⟨cs, ca, cb⟩ := c
  have hgn : g < w.heap.size := by omega
  go_enter Try.func37, Try.ntmps37
  go_wp2_with fail
  refine (CT.out _).mono ?_
  rintro e w1 ⟨rfl, hb1⟩
  have B := bel_c B0 (Nat.le_refl _) hb1
  have d0 := kept (p := ⟨w.heap.size + 1, 0, none⟩) (x := .int .i64 0) hb1 (by go_simp)
  have d1 := kept (p := ⟨w.heap.size + 1, 1, none⟩) (x := .int .i64 0) hb1 (by go_simp)
  have d2 := kept (p := ⟨w.heap.size + 1, 2, none⟩) (x := .int .i64 0) hb1 (by go_simp)
  have g0 := keptF (p := ⟨w.heap.size + 1, 0, none⟩) (x := .int .i64 0) hb1 (by go_simp) (by go_simp)
  have g1 := keptF (p := ⟨w.heap.size + 1, 1, none⟩) (x := .int .i64 0) hb1 (by go_simp) (by go_simp)
  have g2 := keptF (p := ⟨w.heap.size + 1, 2, none⟩) (x := .int .i64 0) hb1 (by go_simp) (by go_simp)
  clear hb1 B0 e0 e1 e2
  go_wp2_with fail
  refine bodyPost_ret (v := .agg #[.int .i64 z.s, .int .i64 z.a, .int .i64 z.b]) (by simp [results, Try.results37, go_sem, d0, d1, d2]) rfl ⟨rfl, ?_⟩
  refine Below.setCell (Below.setCell (Below.setCell B ?_ _) ?_ _) ?_ _ <;> (simp <;> omega)

end Go.Proofs.Ytfidnhhlcdbaeaa
