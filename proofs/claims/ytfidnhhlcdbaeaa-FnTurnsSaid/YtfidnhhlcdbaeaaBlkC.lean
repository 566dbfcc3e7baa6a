/- Blocks: the model's CellAt. -/
import Derived.Test.YtfidnhhlcdbaeaaBlkS
import Derived.Test.YtfidnhhlcdbaeaaBlkZ
namespace Go.Proofs.Ytfidnhhlcdbaeaa
open Go.ChangeShapes Go.WideShapes Go.ChangeAt Go.RowKit

/-- x, y is a place of a block of size n. -/
def InB (n x y : Int) : Prop := (0 ≤ x ∧ x ≤ n - 1) ∧ (0 ≤ y ∧ y ≤ n - 1)
theorem idx {n x y : Int} (n0 : 1 ≤ n) (n1 : n ≤ 4) (h : InB n x y) : ∃ k : Nat, y * n + x = k ∧ (k : Int) < n * n ∧ IntKind.i64.wrap (y * n) = y * n ∧ IntKind.i64.wrap (y * n + x) = (k : Int) := by
  obtain ⟨⟨x0, x1⟩, y0, y1⟩ := h
  have hn : n = 1 ∨ n = 2 ∨ n = 3 ∨ n = 4 := by omega
  have key : 0 ≤ y * n ∧ y * n + x < n * n ∧ y * n + x ≤ 16 := by rcases hn with rfl | rfl | rfl | rfl <;> omega
  obtain ⟨k0, k1, k2⟩ := key
  refine ⟨(y * n + x).toNat, by omega, by omega, ?_, ?_⟩
  · rw [IntKind.wrap_i64]; omega
  · rw [IntKind.wrap_i64]; omega

/-- The cell at a place. -/
noncomputable def cAt (n : Int) (xs : List C3) (x y : Int) : C3 := @ite _ (BlkOk n xs ∧ InB n x y) (Classical.propDecidable _) (xs.getD (y * n + x).toNat C3.zero) C3.zero
theorem cAt_yes {n : Int} {xs : List C3} {x y : Int} (h : BlkOk n xs) (k : InB n x y) : cAt n xs x y = xs.getD (y * n + x).toNat C3.zero := if_pos ⟨h, k⟩
theorem cAt_no {n : Int} {xs : List C3} {x y : Int} (h : ¬ (BlkOk n xs ∧ InB n x y)) : cAt n xs x y = C3.zero := if_neg h

theorem SpecBlockOk_yes (lo hi : Nat) (n : Int) (v : Value) (xs : List C3) (w : World) (r : CellIn lo hi w v xs) (hhi : hi ≤ w.heap.size) (h : BlkOk n xs) :
    Calls Try.prog 38 #[.agg #[.int .i64 n, v]] w fun e w' => e = .returned (.bool true) ∧ Below w.heap.size w w' := by
  have hc := SpecBlockOk_any lo hi n v xs w r hhi
  rw [← blk_yes h] at hc
  exact hc
theorem SpecBlockOk_no (lo hi : Nat) (n : Int) (v : Value) (xs : List C3) (w : World) (r : CellIn lo hi w v xs) (hhi : hi ≤ w.heap.size) (h : ¬ BlkOk n xs) :
    Calls Try.prog 38 #[.agg #[.int .i64 n, v]] w fun e w' => e = .returned (.bool false) ∧ Below w.heap.size w w' := by
  have hc := SpecBlockOk_any lo hi n v xs w r hhi
  rw [← blk_no h] at hc
  exact hc

set_option maxHeartbeats 400000 in
theorem SpecCellAt_any (lo hi : Nat) (n x y : Int) (v : Value) (xs : List C3) (w : World) (r : CellIn lo hi w v xs) (hhi : hi ≤ w.heap.size) :
    Calls Try.prog 17 #[.agg #[.int .i64 n, v], .int .i64 x, .int .i64 y] w fun e w' => e = .returned (.agg #[.int .i64 (cAt n xs x y).s, .int .i64 (cAt n xs x y).a, .int .i64 (cAt n xs x y).b]) ∧ Below w.heap.size w w' := by
  obtain ⟨a, cap, rfl⟩ := r.form
  have R : ∀ o1 o2, Hid (CellIn lo hi ((w.alloc o1).alloc o2) (.slice a xs.length cap) xs) := fun o1 o2 => Lib.hid (r.below ((bel_n (bel0 w o1) (Nat.le_refl _) o2).mono hhi))
  have hl := r.1
  clear r
  by_cases hb : BlkOk n xs
  · have n0 := hb.1.1
    have n1 := hb.1.2
    have HL := Lib.hid hb.2.1
    by_cases hp : InB n x y
    · rw [cAt_yes hb hp]
      obtain ⟨k, hk1, hk2, hk3, hk4⟩ := idx n0 n1 hp
      have HKT : Hid ((y * n + x).toNat = k) := Lib.hid (by rw [hk1]; simp)
      rw [HKT.out]
      obtain ⟨c, hc⟩ : ∃ c, xs.getD k C3.zero = c := ⟨_, rfl⟩
      rw [hc]
      have HC := Lib.hid hc
      clear hc
      have hkl : k < xs.length := by have := HL.out; omega
      obtain ⟨⟨x0, x1⟩, y0, y1⟩ := hp
      have HB := Lib.hid hb
      clear hk1 hk2 hb
      go_enter Try.func17, Try.ntmps17
      go_wp2_with fail
      refine (SpecBlockOk_yes lo hi n _ xs _ (R _ _).out (by simp; omega) HB.out).mono ?_
      rintro e w1 ⟨rfl, hb1⟩
      have c0 := kept (p := ⟨w.heap.size, 0, none⟩) (x := .int .i64 n) hb1 (by go_simp)
      have c1 := kept (p := ⟨w.heap.size, 1, none⟩) (x := .slice a xs.length cap) hb1 (by go_simp)
      have d0 := kept (p := ⟨w.heap.size + 1, 0, none⟩) (x := .int .i64 0) hb1 (by go_simp)
      have d1 := kept (p := ⟨w.heap.size + 1, 1, none⟩) (x := .int .i64 0) hb1 (by go_simp)
      have d2 := kept (p := ⟨w.heap.size + 1, 2, none⟩) (x := .int .i64 0) hb1 (by go_simp)
      have g0 := keptF (p := ⟨w.heap.size + 1, 0, none⟩) (x := .int .i64 0) hb1 (by go_simp) (by go_simp)
      have g1 := keptF (p := ⟨w.heap.size + 1, 1, none⟩) (x := .int .i64 0) hb1 (by go_simp) (by go_simp)
      have g2 := keptF (p := ⟨w.heap.size + 1, 2, none⟩) (x := .int .i64 0) hb1 (by go_simp) (by go_simp)
      obtain ⟨g, rfl, hg, hg1, ⟨e0, e1, e2⟩, _⟩ := (R _ _).out.at (hb1.mono (by simp; omega)) hkl
      rw [HC.out] at e0 e1 e2
      have hB : Below w.heap.size w w1 := bel_c (bel_n (bel0 w _) (Nat.le_refl _) _) (Nat.le_refl _) hb1
      have HBB := Lib.hid hB
      clear hB hb1 R
      go_wp2_with fail
      refine (In_yes _ _ _ _ x0 x1).mono ?_
      rintro e w' ⟨rfl, rfl⟩
      go_wp2_with fail
      refine (In_yes _ _ _ _ y0 y1).mono ?_
      rintro e w' ⟨rfl, rfl⟩
      go_wp2_with fail
      refine bodyPost_ret (v := .agg #[.int .i64 c.s, .int .i64 c.a, .int .i64 c.b]) (by simp [results, Try.results17, go_sem, d0, d1, d2]) rfl ⟨rfl, ?_⟩
      refine Below.setCell (Below.setCell (Below.setCell HBB.out ?_ _) ?_ _) ?_ _ <;> (simp <;> omega)
    · rw [cAt_no (fun h => hp h.2)]
      have HB := Lib.hid hb
      clear hb
      by_cases hx : 0 ≤ x ∧ x ≤ n - 1
      · have hy : y < 0 ∨ n - 1 < y := by unfold InB at hp; omega
        obtain ⟨x0, x1⟩ := hx
        clear hp
        go_enter Try.func17, Try.ntmps17
        go_wp2_with fail
        refine (SpecBlockOk_yes lo hi n _ xs _ (R _ _).out (by simp; omega) HB.out).mono ?_
        rintro e w1 ⟨rfl, hb1⟩
        have c0 := kept (p := ⟨w.heap.size, 0, none⟩) (x := .int .i64 n) hb1 (by go_simp)
        have d0 := kept (p := ⟨w.heap.size + 1, 0, none⟩) (x := .int .i64 0) hb1 (by go_simp)
        have d1 := kept (p := ⟨w.heap.size + 1, 1, none⟩) (x := .int .i64 0) hb1 (by go_simp)
        have d2 := kept (p := ⟨w.heap.size + 1, 2, none⟩) (x := .int .i64 0) hb1 (by go_simp)
        have g0 := keptF (p := ⟨w.heap.size + 1, 0, none⟩) (x := .int .i64 0) hb1 (by go_simp) (by go_simp)
        have g1 := keptF (p := ⟨w.heap.size + 1, 1, none⟩) (x := .int .i64 0) hb1 (by go_simp) (by go_simp)
        have g2 := keptF (p := ⟨w.heap.size + 1, 2, none⟩) (x := .int .i64 0) hb1 (by go_simp) (by go_simp)
        have hB : Below w.heap.size w w1 := bel_c (bel_n (bel0 w _) (Nat.le_refl _) _) (Nat.le_refl _) hb1
        have HBB := Lib.hid hB
        clear hB hb1 R
        go_wp2_with fail
        refine (In_yes _ _ _ _ x0 x1).mono ?_
        rintro e w' ⟨rfl, rfl⟩
        go_wp2_with fail
        refine (In_no _ _ _ _ hy).mono ?_
        rintro e w' ⟨rfl, rfl⟩
        go_wp2_with fail
        refine bodyPost_ret (v := .agg #[.int .i64 0, .int .i64 0, .int .i64 0]) (by simp [results, Try.results17, go_sem, d0, d1, d2]) rfl ⟨rfl, ?_⟩
        refine Below.setCell (Below.setCell (Below.setCell HBB.out ?_ _) ?_ _) ?_ _ <;> (simp <;> omega)
      · have hx' : x < 0 ∨ n - 1 < x := by omega
        clear hp hx
        go_enter Try.func17, Try.ntmps17
        go_wp2_with fail
        refine (SpecBlockOk_yes lo hi n _ xs _ (R _ _).out (by simp; omega) HB.out).mono ?_
        rintro e w1 ⟨rfl, hb1⟩
        have c0 := kept (p := ⟨w.heap.size, 0, none⟩) (x := .int .i64 n) hb1 (by go_simp)
        have d0 := kept (p := ⟨w.heap.size + 1, 0, none⟩) (x := .int .i64 0) hb1 (by go_simp)
        have d1 := kept (p := ⟨w.heap.size + 1, 1, none⟩) (x := .int .i64 0) hb1 (by go_simp)
        have d2 := kept (p := ⟨w.heap.size + 1, 2, none⟩) (x := .int .i64 0) hb1 (by go_simp)
        have g0 := keptF (p := ⟨w.heap.size + 1, 0, none⟩) (x := .int .i64 0) hb1 (by go_simp) (by go_simp)
        have g1 := keptF (p := ⟨w.heap.size + 1, 1, none⟩) (x := .int .i64 0) hb1 (by go_simp) (by go_simp)
        have g2 := keptF (p := ⟨w.heap.size + 1, 2, none⟩) (x := .int .i64 0) hb1 (by go_simp) (by go_simp)
        have hB : Below w.heap.size w w1 := bel_c (bel_n (bel0 w _) (Nat.le_refl _) _) (Nat.le_refl _) hb1
        have HBB := Lib.hid hB
        clear hB hb1 R
        go_wp2_with fail
        refine (In_no _ _ _ _ hx').mono ?_
        rintro e w' ⟨rfl, rfl⟩
        go_wp2_with fail
        refine bodyPost_ret (v := .agg #[.int .i64 0, .int .i64 0, .int .i64 0]) (by simp [results, Try.results17, go_sem, d0, d1, d2]) rfl ⟨rfl, ?_⟩
        refine Below.setCell (Below.setCell (Below.setCell HBB.out ?_ _) ?_ _) ?_ _ <;> (simp <;> omega)
  · rw [cAt_no (fun h => hb h.1)]
    have HB := Lib.hid hb
    clear hb
    go_enter Try.func17, Try.ntmps17
    go_wp2_with fail
    refine (SpecBlockOk_no lo hi n _ xs _ (R _ _).out (by simp; omega) HB.out).mono ?_
    rintro e w1 ⟨rfl, hb1⟩
    have c0 := kept (p := ⟨w.heap.size, 0, none⟩) (x := .int .i64 n) hb1 (by go_simp)
    have d0 := kept (p := ⟨w.heap.size + 1, 0, none⟩) (x := .int .i64 0) hb1 (by go_simp)
    have d1 := kept (p := ⟨w.heap.size + 1, 1, none⟩) (x := .int .i64 0) hb1 (by go_simp)
    have d2 := kept (p := ⟨w.heap.size + 1, 2, none⟩) (x := .int .i64 0) hb1 (by go_simp)
    have g0 := keptF (p := ⟨w.heap.size + 1, 0, none⟩) (x := .int .i64 0) hb1 (by go_simp) (by go_simp)
    have g1 := keptF (p := ⟨w.heap.size + 1, 1, none⟩) (x := .int .i64 0) hb1 (by go_simp) (by go_simp)
    have g2 := keptF (p := ⟨w.heap.size + 1, 2, none⟩) (x := .int .i64 0) hb1 (by go_simp) (by go_simp)
    have hB : Below w.heap.size w w1 := bel_c (bel_n (bel0 w _) (Nat.le_refl _) _) (Nat.le_refl _) hb1
    have HBB := Lib.hid hB
    clear hB hb1 R
    go_wp2_with fail
    refine bodyPost_ret (v := .agg #[.int .i64 0, .int .i64 0, .int .i64 0]) (by simp [results, Try.results17, go_sem, d0, d1, d2]) rfl ⟨rfl, ?_⟩
    refine Below.setCell (Below.setCell (Below.setCell HBB.out ?_ _) ?_ _) ?_ _ <;> (simp <;> omega)

end Go.Proofs.Ytfidnhhlcdbaeaa
