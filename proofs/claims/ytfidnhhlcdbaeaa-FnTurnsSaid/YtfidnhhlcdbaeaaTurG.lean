/- Turns: what the law of the turns asks of numbers, and of the callees at rows that it keeps. -/
import Derived.Test.YtfidnhhlcdbaeaaTurS
import Derived.Test.YtfidnhhlcdbaeaaCellC
import Derived.Test.YtfidnhhlcdbaeaaAreT
import Derived.Test.YtfidnhhlcdbaeaaBlkIq
import Derived.Test.YtfidnhhlcdbaeaaIntH
namespace Go.Proofs.Ytfidnhhlcdbaeaa
open Go.ChangeShapes Go.WideShapes Go.ChangeAt Go.RowKit

def colC (c : C3) (d : Int) : Int := colAt c.s c.a c.b d
theorem col_turn {c : C3} (h : c.Ok) : colC (turnC c) 1 = colC c 0 ∧ colC (turnC c) 2 = colC c 1 ∧ colC (turnC c) 3 = colC c 2 ∧ colC (turnC c) 0 = colC c 3 := by
  have h2 := turnC_ok h
  rcases cell_cases h with ⟨a, rfl⟩ | ⟨a, b, rfl⟩ | ⟨a, b, rfl⟩
  · change OkC 0 a a at h
    simp [colC, colAt, turnC, h]
  · change OkC 1 a b at h
    change OkC 2 b a at h2
    simp [colC, colAt, turnC, h, h2]
  · change OkC 2 a b at h
    change OkC 1 a b at h2
    simp [colC, colAt, turnC, h, h2]
theorem col_mir {c : C3} (h : c.Ok) : colC (mirC c) 0 = colC c 2 ∧ colC (mirC c) 1 = colC c 1 ∧ colC (mirC c) 2 = colC c 0 ∧ colC (mirC c) 3 = colC c 3 := by
  have h2 := mirC_ok h
  rcases cell_cases h with ⟨a, rfl⟩ | ⟨a, b, rfl⟩ | ⟨a, b, rfl⟩
  · change OkC 0 a a at h
    simp [colC, colAt, mirC, h]
  · change OkC 1 a b at h
    change OkC 2 b a at h2
    simp [colC, colAt, mirC, h, h2]
  · change OkC 2 a b at h
    change OkC 1 b a at h2
    simp [colC, colAt, mirC, h, h2]
theorem sum_mP (F : Nat → Int) {m : Nat} (h1 : 1 ≤ m) (h4 : m ≤ 4) : ((List.range (m * m)).map (fun i => F (mP m i))).sum = ((List.range (m * m)).map F).sum := by
  have hm : m = 1 ∨ m = 2 ∨ m = 3 ∨ m = 4 := by omega
  rcases hm with rfl | rfl | rfl | rfl <;> simp [List.range_succ, mP] <;> omega
theorem arL_range (xs : List C3) (k : Int) : arL xs k xs.length = ((List.range xs.length).map (fun i => ar2 (xs.getD i C3.zero) k)).sum := by
  unfold arL
  rw [List.take_length]
  congr 1
  apply List.ext_getElem
  · simp
  · intro i a b
    simp at a
    simp [List.getD, a]
theorem arL_mir {n : Int} {xs : List C3} (h : BlkOk n xs) (k : Int) : arL (mirL n xs) k (mirL n xs).length = arL xs k xs.length := by
  obtain ⟨m, rfl, h1, h2, h3⟩ := sz_nat h
  rw [arL_range, arL_range, mirL_length]
  have e : ((List.range xs.length).map (fun i => ar2 ((mirL m xs).getD i C3.zero) k)) = ((List.range xs.length).map (fun i => ar2 (xs.getD (mP m i) C3.zero) k)) := by
    apply List.map_congr_left
    intro i hi
    rw [List.mem_range] at hi
    rw [mirL_at _ _ hi, Int.toNat_natCast]
    exact mir_ar (blk_at h (by rw [h3] at hi ⊢; exact (P_lt h2 hi).2.1)) k
  rw [e, h3]
  exact sum_mP (fun j => ar2 (xs.getD j C3.zero) k) h1 h2
theorem tab_mir {n : Int} {xs : List C3} (h : BlkOk n xs) : tab (mirL n xs) 6 = tab xs 6 := by
  unfold tab
  apply List.map_congr_left
  intro i _
  exact arL_mir h _
theorem cAt_turn {n : Int} {xs : List C3} {x y : Int} (h : BlkOk n xs) (hp : InB n x y) : cAt n (turnL n xs) (n - 1 - y) x = turnC (cAt n xs x y) := by
  obtain ⟨⟨x0, x1⟩, y0, y1⟩ := hp
  rw [cAt_yes (turn_ok h) ⟨⟨by omega, by omega⟩, by omega, by omega⟩, cAt_yes h ⟨⟨x0, x1⟩, y0, y1⟩]
  obtain ⟨m, rfl, h1, h2, h3⟩ := sz_nat h
  obtain ⟨x, rfl⟩ : ∃ j : Nat, x = j := ⟨x.toNat, by omega⟩
  obtain ⟨y, rfl⟩ : ∃ j : Nat, y = j := ⟨y.toNat, by omega⟩
  have e1 : ((x : Int) * m + (m - 1 - y)).toNat = x * m + (m - 1 - y) := by
    have : (x : Int) * m + (m - 1 - y) = ((x * m + (m - 1 - y) : Nat) : Int) := by
      rw [Int.natCast_add, Int.natCast_mul]; omega
    rw [this, Int.toNat_natCast]
  have e2 : ((y : Int) * m + x).toNat = y * m + x := by
    have : (y : Int) * m + x = ((y * m + x : Nat) : Int) := by
      rw [Int.natCast_add, Int.natCast_mul]
    rw [this, Int.toNat_natCast]
  have hlt : x * m + (m - 1 - y) < m * m := by
    have := Nat.mul_le_mul_right m (show x + 1 ≤ m by omega)
    rw [Nat.succ_mul] at this
    omega
  rw [e1, e2, turnL_at _ _ (by omega), Int.toNat_natCast, tP_at (by omega)]
  congr 2
  rw [show m - 1 - (m - 1 - y) = y by omega]
theorem cAt_ok {n : Int} {xs : List C3} {x y : Int} (h : BlkOk n xs) (hp : InB n x y) : (cAt n xs x y).Ok := by
  rw [cAt_yes h hp]
  obtain ⟨k, hk1, hk2, _⟩ := idx h.1.1 h.1.2 hp
  rw [hk1, Int.toNat_natCast]
  exact blk_at h (by have := h.2.1; omega)
theorem tmod_in5 {x n : Int} (x0 : 0 ≤ x) (n0 : 1 ≤ n) : 0 ≤ x.tmod n ∧ x.tmod n ≤ n - 1 := by
  have h1 := Int.tmod_nonneg n x0
  have h2 := Int.tmod_lt_of_pos x (show 0 < n by omega)
  omega

/-- A row that is kept. -/
def Rw (lo hi : Nat) (v : Value) (xs : List C3) (u : World) : Prop := CellIn lo hi u v xs ∧ hi ≤ u.heap.size
theorem Rw.keep {lo hi : Nat} {v : Value} {xs : List C3} {u w : World} (h : Rw lo hi v xs u) (hb : Below u.heap.size u w) : Rw lo hi v xs w := ⟨h.1.below (hb.mono h.2), Nat.le_trans h.2 hb.size⟩
theorem CellIn.set_up {lo hi : Nat} {w : World} {v : Value} {xs : List C3} (h : CellIn lo hi w v xs) {p : Addr} (hp : hi ≤ p.block) (x : Value) : CellIn lo hi (w.setCell p x) v xs := by
  obtain ⟨hl, h | ⟨g, cap, hv, hg, hlt, hc⟩⟩ := h
  · exact ⟨hl, .inl h⟩
  · exact ⟨hl, .inr ⟨g, cap, hv, hg, hlt, fun i hi => ⟨(hc i hi).1.set_far (by omega) x, (hc i hi).2.set_far p x⟩⟩⟩
theorem Same_yes (l1 h1 l2 h2 : Nat) (n : Int) (v1 v2 : Value) (xs : List C3) (w : World) (r1 : Rw l1 h1 v1 xs w) (r2 : Rw l2 h2 v2 xs w) :
    Calls Try.prog 10 #[.agg #[.int .i64 n, v1], .agg #[.int .i64 n, v2]] w fun e w' => e = .returned (.bool true) ∧ Below w.heap.size w w' := by
  have := ImplSame_any l1 h1 l2 h2 n n v1 v2 xs xs w r1.1 r2.1 r1.2 r2.2
  rw [show sameB n n xs xs = true by unfold sameB; simp] at this
  exact this
theorem see_small {n : Int} {xs : List C3} (h : BlkOk n xs) {k : Nat} (hk : k < 4) : seeN n k xs = n ∧ seeB n k xs = turnK n xs k := by
  obtain ⟨e1, e2⟩ := see_yes (n := n) (k := k) (xs := xs) ⟨h, by omega, by omega⟩
  rw [e1, e2, if_neg (by omega)]
  exact ⟨rfl, by congr 1; omega⟩
theorem see_four {n : Int} {xs : List C3} (h : BlkOk n xs) : seeN n 4 xs = n ∧ seeB n 4 xs = mirL n xs := by
  obtain ⟨e1, e2⟩ := see_yes (n := n) (k := 4) (xs := xs) ⟨h, by omega, by omega⟩
  rw [e1, e2, if_pos (by omega)]
  exact ⟨rfl, rfl⟩
theorem turnK4 {n : Int} {xs : List C3} (h : BlkOk n xs) : turnK n xs 4 = xs := turnL4 h

end Go.Proofs.Ytfidnhhlcdbaeaa
