/- Joins: the program's halves. -/
import Derived.Test.YtboahceibeeifaaCutIs
import Derived.Test.YtboahceibeeifaaJnN
import Derived.Deep.RegionLaw
import Derived.Deep.RegionHeld3
import Derived.Deep.DeepCutAuto

set_option linter.unusedSimpArgs false
set_option linter.unusedVariables false
namespace Go.Proofs.Ytboahceibeeifaa
open Go.ChangeShapes Go.WideShapes Go.ChangeAt Go.RowKit

theorem BoxQ.within {p lo hi : Nat} {m n : Int} {v : Value} {l t : Int} {u w : World} (h : BoxQ p m n v l t u) (hb : Within lo hi u w) (ho : p < lo ∨ hi ≤ p) : BoxQ p m n v l t w := h.at (hb.block p h.lt ho)
theorem Within.drewW {lo hi : Nat} {u w : World} (h : Within lo hi u w) : Within lo hi u w.drew := ⟨h.os, h.tape, h.output, h.size, h.block⟩
theorem BoxQ.put34 {p : Nat} {m n : Int} {v : Value} {l t : Int} {u : World} (h : BoxQ p m n v l t u) (l' t' : Int) :
    BoxQ p m n v l' t' ((u.setCell ⟨p, 3, none⟩ (.int .i64 l')).setCell ⟨p, 4, none⟩ (.int .i64 t')) ∧ BoxQ p m n v l' t' ((u.setCell ⟨p, 4, none⟩ (.int .i64 t')).setCell ⟨p, 3, none⟩ (.int .i64 l')) := by
  obtain ⟨⟨h0, h1, h2, h3, h4⟩, f0, f1, f2, f3, f4⟩ := h
  have O : ∀ (w : World) (a b : Nat) (x : Value), a ≠ b → (w.setCell ⟨p, a, none⟩ x).cell? ⟨p, b, none⟩ = w.cell? ⟨p, b, none⟩ := fun w a b x hab => World.cell?_setCell_other _ _ _ _ (by simp [hab])
  refine ⟨⟨⟨?_, ?_, ?_, ?_, ?_⟩, ?_, ?_, ?_, ?_, ?_⟩, ⟨?_, ?_, ?_, ?_, ?_⟩, ?_, ?_, ?_, ?_, ?_⟩
  · rw [O _ _ _ _ (by decide), O _ _ _ _ (by decide)]; exact h0
  · rw [O _ _ _ _ (by decide), O _ _ _ _ (by decide)]; exact h1
  · rw [O _ _ _ _ (by decide), O _ _ _ _ (by decide)]; exact h2
  · rw [O _ _ _ _ (by decide)]; exact World.cell?_setCell_same _ _ _ h3
  · exact World.cell?_setCell_same _ _ _ ((O _ _ _ _ (by decide)).trans h4)
  · rw [World.frozen?_setCell, World.frozen?_setCell]; exact f0
  · rw [World.frozen?_setCell, World.frozen?_setCell]; exact f1
  · rw [World.frozen?_setCell, World.frozen?_setCell]; exact f2
  · rw [World.frozen?_setCell, World.frozen?_setCell]; exact f3
  · rw [World.frozen?_setCell, World.frozen?_setCell]; exact f4
  · rw [O _ _ _ _ (by decide), O _ _ _ _ (by decide)]; exact h0
  · rw [O _ _ _ _ (by decide), O _ _ _ _ (by decide)]; exact h1
  · rw [O _ _ _ _ (by decide), O _ _ _ _ (by decide)]; exact h2
  · exact World.cell?_setCell_same _ _ _ ((O _ _ _ _ (by decide)).trans h3)
  · rw [O _ _ _ _ (by decide)]; exact World.cell?_setCell_same _ _ _ h4
  · rw [World.frozen?_setCell, World.frozen?_setCell]; exact f0
  · rw [World.frozen?_setCell, World.frozen?_setCell]; exact f1
  · rw [World.frozen?_setCell, World.frozen?_setCell]; exact f2
  · rw [World.frozen?_setCell, World.frozen?_setCell]; exact f3
  · rw [World.frozen?_setCell, World.frozen?_setCell]; exact f4
theorem box_four {p : Nat} {m n : Int} {v : Value} {l t l' t' : Int} {X Z : World} (h : BoxQ p m n v l t X) (hz : Z = (X.setCell ⟨p, 3, none⟩ (.int .i64 l')).setCell ⟨p, 4, none⟩ (.int .i64 t') ∨ Z = (X.setCell ⟨p, 4, none⟩ (.int .i64 t')).setCell ⟨p, 3, none⟩ (.int .i64 l') ∨ Z = ((X.setCell ⟨p, 3, none⟩ (.int .i64 l')).setCell ⟨p, 4, none⟩ (.int .i64 t')).drew ∨ Z = ((X.setCell ⟨p, 4, none⟩ (.int .i64 t')).setCell ⟨p, 3, none⟩ (.int .i64 l')).drew) :
    BoxQ p m n v l' t' Z ∧ Within p (p + 1) X Z := by
  obtain ⟨q1, q2⟩ := h.put34 l' t'
  have W1 : Within p (p + 1) X ((X.setCell ⟨p, 3, none⟩ (.int .i64 l')).setCell ⟨p, 4, none⟩ (.int .i64 t')) := Within.setCell (Within.setCell (Within.refl _ _ _) (p := ⟨p, 3, none⟩) (Nat.le_refl _) (Nat.lt_succ_self _) _) (p := ⟨p, 4, none⟩) (Nat.le_refl _) (Nat.lt_succ_self _) _
  have W2 : Within p (p + 1) X ((X.setCell ⟨p, 4, none⟩ (.int .i64 t')).setCell ⟨p, 3, none⟩ (.int .i64 l')) := Within.setCell (Within.setCell (Within.refl _ _ _) (p := ⟨p, 4, none⟩) (Nat.le_refl _) (Nat.lt_succ_self _) _) (p := ⟨p, 3, none⟩) (Nat.le_refl _) (Nat.lt_succ_self _) _
  rcases hz with rfl | rfl | rfl | rfl
  · exact ⟨q1, W1⟩
  · exact ⟨q2, W2⟩
  · exact ⟨q1.at rfl, W1.drewW⟩
  · exact ⟨q2.at rfl, W2.drewW⟩
theorem ends_set {lo hi p q : Nat} {Z : World} {x0 x1 x2 x3 x4 y0 y1 y2 y3 y4 : Value} (h0 : lo ≤ p) (h1 : p < hi) (h2 : lo ≤ q) (h3 : q < hi) : Within lo hi Z ((((((((((Z.setCell ⟨p, 0, none⟩ x0).setCell ⟨p, 1, none⟩ x1).setCell ⟨p, 2, none⟩ x2).setCell ⟨p, 3, none⟩ x3).setCell ⟨p, 4, none⟩ x4).setCell ⟨q, 0, none⟩ y0).setCell ⟨q, 1, none⟩ y1).setCell ⟨q, 2, none⟩ y2).setCell ⟨q, 3, none⟩ y3).setCell ⟨q, 4, none⟩ y4) := by
  exact (Within.setCell (Within.setCell (Within.setCell (Within.setCell (Within.setCell (Within.setCell (Within.setCell (Within.setCell (Within.setCell (Within.setCell (Within.refl lo hi Z) (p := ⟨_, 0, none⟩) h0 h1 x0) (p := ⟨_, 1, none⟩) h0 h1 x1) (p := ⟨_, 2, none⟩) h0 h1 x2) (p := ⟨_, 3, none⟩) h0 h1 x3) (p := ⟨_, 4, none⟩) h0 h1 x4) (p := ⟨_, 0, none⟩) h2 h3 y0) (p := ⟨_, 1, none⟩) h2 h3 y1) (p := ⟨_, 2, none⟩) h2 h3 y2) (p := ⟨_, 3, none⟩) h2 h3 y3) (p := ⟨_, 4, none⟩) h2 h3 y4)
theorem ends_drew {lo hi p q : Nat} {Z : World} {x0 x1 x2 x3 x4 y0 y1 y2 y3 y4 : Value} (h0 : lo ≤ p) (h1 : p < hi) (h2 : lo ≤ q) (h3 : q < hi) : Within lo hi Z (((((((((((Z.setCell ⟨p, 0, none⟩ x0).setCell ⟨p, 1, none⟩ x1).setCell ⟨p, 2, none⟩ x2).setCell ⟨p, 3, none⟩ x3).setCell ⟨p, 4, none⟩ x4).setCell ⟨q, 0, none⟩ y0).setCell ⟨q, 1, none⟩ y1).setCell ⟨q, 2, none⟩ y2).setCell ⟨q, 3, none⟩ y3).setCell ⟨q, 4, none⟩ y4)).drew := (ends_set h0 h1 h2 h3).drewW
/-- Both halves are handed back. -/
def HalvesIs (m n : Int) (c : C2) (l t : Int) (xs : List P5) (w : World) (e : Ending) (w' : World) : Prop :=
  ∃ v1 v2 k, e = .returned (.tuple #[.agg #[.int .i64 (pM1 m c), .int .i64 (pN1 n c), v1, .int .i64 l, .int .i64 t], .agg #[.int .i64 (pM2 m c), .int .i64 (pN2 n c), v2, .int .i64 (pX2 c + l), .int .i64 (pY2 c + t)]]) ∧
    PatIn w.heap.size k w' v1 (pL1 m n c xs) ∧ PatIn k w'.heap.size w' v2 (pL2 m n c xs) ∧ w.heap.size ≤ k ∧ k ≤ w'.heap.size ∧ Below w.heap.size w w'
set_option maxHeartbeats 6400000 in
set_option maxRecDepth 20000 in
theorem Halves_any (lo hi : Nat) (m n : Int) (v : Value) (xs : List P5) (l t : Int) (up : Bool) (a : Int) (w : World) (r : PatIn lo hi w v xs) (hhi : hi ≤ w.heap.size) (lay : LayOk m n xs) (hc : hasC m n xs ⟨up, a⟩ = true) (l0 : 0 ≤ l) (l1 : l ≤ 12) (t0 : 0 ≤ t) (t1 : t ≤ 12) :
    Calls Try.prog 61 #[.agg #[.int .i64 m, .int .i64 n, v, .int .i64 l, .int .i64 t], .agg #[.bool up, .int .i64 a]] w (HalvesIs m n ⟨up, a⟩ l t xs w) := by
  obtain ⟨b, cap, rfl⟩ := r.form
  obtain ⟨hx0, hx1⟩ : 0 ≤ pX2 ⟨up, a⟩ ∧ pX2 ⟨up, a⟩ ≤ 12 := by have h1 := cut_in hc; have h2 := lay.1.2; have h3 := lay.2.1.2; cases up <;> simp [pX2, endC] at * <;> omega
  obtain ⟨hy0, hy1⟩ : 0 ≤ pY2 ⟨up, a⟩ ∧ pY2 ⟨up, a⟩ ≤ 12 := by have h1 := cut_in hc; have h2 := lay.1.2; have h3 := lay.2.1.2; cases up <;> simp [pY2, endC] at * <;> omega
  have CS : Hid (∀ u : World, Below w.heap.size w u → Calls Try.prog 70 #[.agg #[.int .i64 m, .int .i64 n, .slice b xs.length cap], .agg #[.bool up, .int .i64 a]] u (SplitIs m n ⟨up, a⟩ xs u)) := Lib.hid (fun u hb => Split_any lo hi m n _ xs up a u (r.below (hb.mono hhi)) (Nat.le_trans hhi hb.size) lay hc)
  unfold HalvesIs
  unfold SplitIs at CS
  generalize pM1 m ⟨up, a⟩ = M1 at *
  generalize pN1 n ⟨up, a⟩ = N1 at *
  generalize pM2 m ⟨up, a⟩ = M2 at *
  generalize pN2 n ⟨up, a⟩ = N2 at *
  generalize pX2 ⟨up, a⟩ = X2 at *
  generalize pY2 ⟨up, a⟩ = Y2 at *
  generalize pL1 m n ⟨up, a⟩ xs = L1 at *
  generalize pL2 m n ⟨up, a⟩ xs = L2 at *
  obtain ⟨W4, hW4⟩ : ∃ W, W = (((w.alloc (.cells #[.int .i64 m, .int .i64 n, .slice b xs.length cap, .int .i64 l, .int .i64 t] 62)).alloc (.cells #[.bool up, .int .i64 a] 71)).alloc (.cells #[.int .i64 0, .int .i64 0, .slice none 0 0, .int .i64 0, .int .i64 0] 62)).alloc (.cells #[.int .i64 0, .int .i64 0, .slice none 0 0, .int .i64 0, .int .i64 0] 62) := ⟨_, rfl⟩
  have HB4 : Hid (Below w.heap.size w W4) := Lib.hid (by rw [hW4]; exact bel_n (bel_n (bel_n (bel0 w _) (Nat.le_refl _) _) (Nat.le_refl _) _) (Nat.le_refl _) _)
  have hs4 : W4.heap.size = w.heap.size + 1 + 1 + 1 + 1 := by rw [hW4]; simp
  have B1 : BoxQ w.heap.size m n (.slice b xs.length cap) l t W4 := by
    rw [hW4]
    exact (BoxQ.new w m n (.slice b xs.length cap) l t 62).below (bel_n (bel_n (bel0 _ _) (Nat.le_refl _) _) (Nat.le_refl _) _) (by simp)
  have B3 : BoxQ (w.heap.size + 1 + 1) 0 0 (.slice none 0 0) 0 0 W4 := by
    have := BoxQ.new ((w.alloc (.cells #[.int .i64 m, .int .i64 n, .slice b xs.length cap, .int .i64 l, .int .i64 t] 62)).alloc (.cells #[.bool up, .int .i64 a] 71)) 0 0 (.slice none 0 0) 0 0 62
    rw [show ((w.alloc (.cells #[.int .i64 m, .int .i64 n, .slice b xs.length cap, .int .i64 l, .int .i64 t] 62)).alloc (.cells #[.bool up, .int .i64 a] 71)).heap.size = w.heap.size + 1 + 1 by simp] at this
    rw [hW4]; exact this.below (bel0 _ _) (by simp)
  have B4 : BoxQ (w.heap.size + 1 + 1 + 1) 0 0 (.slice none 0 0) 0 0 W4 := by
    have := BoxQ.new (((w.alloc (.cells #[.int .i64 m, .int .i64 n, .slice b xs.length cap, .int .i64 l, .int .i64 t] 62)).alloc (.cells #[.bool up, .int .i64 a] 71)).alloc (.cells #[.int .i64 0, .int .i64 0, .slice none 0 0, .int .i64 0, .int .i64 0] 62)) 0 0 (.slice none 0 0) 0 0 62
    rw [show (((w.alloc (.cells #[.int .i64 m, .int .i64 n, .slice b xs.length cap, .int .i64 l, .int .i64 t] 62)).alloc (.cells #[.bool up, .int .i64 a] 71)).alloc (.cells #[.int .i64 0, .int .i64 0, .slice none 0 0, .int .i64 0, .int .i64 0] 62)).heap.size = w.heap.size + 1 + 1 + 1 by simp] at this
    rw [hW4]; exact this
  have k0 : W4.cell? ⟨w.heap.size + 1, 0, none⟩ = some (.bool up) := by rw [hW4]; exact kept (bel0 _ _) (kept (bel0 _ _) (by simp))
  have k1 : W4.cell? ⟨w.heap.size + 1, 1, none⟩ = some (.int .i64 a) := by rw [hW4]; exact kept (bel0 _ _) (kept (bel0 _ _) (by simp))
  have HB1 := Lib.hid B1
  have HB3 := Lib.hid B3
  have HB4' := Lib.hid B4
  have hWs := hW4.symm
  clear hW4 r lay hc B1 B3 B4
  obtain ⟨⟨b0, b1, b2, b3, b4⟩, _⟩ := HB1.out
  go_enter Try.func61, Try.ntmps61
  go_wp2_with fail
  refine (args_eqL (CS.out _ HB4.out) (by with_reducible rfl)).mono ?_
  rintro e y ⟨v1, v2, k, rfl, RA, RB, hk1, hk2, hb⟩
  obtain ⟨aA, cA, rfl⟩ := RA.form
  obtain ⟨aB, cB, rfl⟩ := RB.form
  have HRA := Lib.hid RA
  have HRB := Lib.hid RB
  have HP1 := Lib.hid (HB1.out.below hb (by omega))
  have HP3 := Lib.hid (HB3.out.below hb (by omega))
  have HP4 := Lib.hid (HB4'.out.below hb (by omega))
  have HBY := Lib.hid (bel_c HB4.out (Nat.le_refl _) hb)
  have hsy := hb.size
  clear hb RA RB b0 b1 b2 b3 b4 k0 k1 hWs HB1 HB3 HB4' CS
  have HPA : Hid (BoxQ y.heap.size M1 N1 (.slice aA L1.length cA) l t (((y.alloc (.cells #[.int .i64 M1, .int .i64 N1, .slice aA L1.length cA, .int .i64 l, .int .i64 t] 62)).alloc (.cells #[.int .i64 M2, .int .i64 N2, .slice aB L2.length cB, .int .i64 X2, .int .i64 Y2] 62)).drew)) := Lib.hid (BoxQ.at (w := ((y.alloc (.cells #[.int .i64 M1, .int .i64 N1, .slice aA L1.length cA, .int .i64 l, .int .i64 t] 62)).alloc (.cells #[.int .i64 M2, .int .i64 N2, .slice aB L2.length cB, .int .i64 X2, .int .i64 Y2] 62)).drew) ((BoxQ.new y M1 N1 (.slice aA L1.length cA) l t 62).below (bel0 (y.alloc (.cells #[.int .i64 M1, .int .i64 N1, .slice aA L1.length cA, .int .i64 l, .int .i64 t] 62)) (.cells #[.int .i64 M2, .int .i64 N2, .slice aB L2.length cB, .int .i64 X2, .int .i64 Y2] 62)) (by simp)) rfl)
  have HPB : Hid (BoxQ (y.heap.size + 1) M2 N2 (.slice aB L2.length cB) X2 Y2 (((y.alloc (.cells #[.int .i64 M1, .int .i64 N1, .slice aA L1.length cA, .int .i64 l, .int .i64 t] 62)).alloc (.cells #[.int .i64 M2, .int .i64 N2, .slice aB L2.length cB, .int .i64 X2, .int .i64 Y2] 62)).drew)) := Lib.hid (by
    have := (BoxQ.new (y.alloc (.cells #[.int .i64 M1, .int .i64 N1, .slice aA L1.length cA, .int .i64 l, .int .i64 t] 62)) M2 N2 (.slice aB L2.length cB) X2 Y2 62)
    have := BoxQ.at (w := ((y.alloc (.cells #[.int .i64 M1, .int .i64 N1, .slice aA L1.length cA, .int .i64 l, .int .i64 t] 62)).alloc (.cells #[.int .i64 M2, .int .i64 N2, .slice aB L2.length cB, .int .i64 X2, .int .i64 Y2] 62)).drew) this rfl
    rwa [show (y.alloc (.cells #[.int .i64 M1, .int .i64 N1, .slice aA L1.length cA, .int .i64 l, .int .i64 t] 62)).heap.size = y.heap.size + 1 by simp] at this)
  have HPY : Hid (Below y.heap.size y (((y.alloc (.cells #[.int .i64 M1, .int .i64 N1, .slice aA L1.length cA, .int .i64 l, .int .i64 t] 62)).alloc (.cells #[.int .i64 M2, .int .i64 N2, .slice aB L2.length cB, .int .i64 X2, .int .i64 Y2] 62)).drew)) := Lib.hid (bel_dr9 (bel_n (bel0 y _) (Nat.le_refl _) _))
  obtain ⟨⟨b0, b1, b2, b3, b4⟩, _⟩ := HP1.out
  have d3 : ∀ o p, ((y.alloc o).alloc p).drew.cell? ⟨w.heap.size, 3, none⟩ = some (.int .i64 l) := fun o p => kept (bel_dr9 (bel_n (bel0 y o) (Nat.le_refl _) p)) b3
  have d4 : ∀ o p, ((y.alloc o).alloc p).drew.cell? ⟨w.heap.size, 4, none⟩ = some (.int .i64 t) := fun o p => kept (bel_dr9 (bel_n (bel0 y o) (Nat.le_refl _) p)) b4
  have hwl : IntKind.i64.wrap l = l := by simp [IntKind.wrap, IntKind.bits, IntKind.signed]; omega
  have hwt : IntKind.i64.wrap t = t := by simp [IntKind.wrap, IntKind.bits, IntKind.signed]; omega
  clear b0 b1 b2 b3 b4
  go_upto_region 2 with fail
  go_cut [6, 7] (fun q s wx => q = .pointer (some ⟨y.heap.size, 0, none⟩) ∧ s = .pointer (some ⟨y.heap.size + 1, 0, none⟩) ∧ Hid (BoxQ y.heap.size M1 N1 (.slice aA L1.length cA) l t wx) ∧ Hid (BoxQ (y.heap.size + 1) M2 N2 (.slice aB L2.length cB) X2 Y2 wx) ∧ Hid (Below y.heap.size y wx))
  case first =>
    have d3' : ∀ o p, ((y.alloc o).alloc p).cell? ⟨w.heap.size, 3, none⟩ = some (.int .i64 l) := d3
    have d4' : ∀ o p, ((y.alloc o).alloc p).cell? ⟨w.heap.size, 4, none⟩ = some (.int .i64 t) := d4
    clear d3 d4
    go_region_law (fail)
    all_goals
      go_wp2_with fail
      go_meet
      exact ⟨rfl, rfl, HPA, HPB, HPY⟩
  case rest =>
    obtain ⟨rfl, rfl, HA, HB, HBX⟩ := hcut
    generalize wc = X at *
    have HP1x := Lib.hid (HP1.out.below HBX.out (by have := HP1.out.lt; omega))
    have HP3x := Lib.hid (HP3.out.below HBX.out (by have := HP3.out.lt; omega))
    have HP4x := Lib.hid (HP4.out.below HBX.out (by have := HP4.out.lt; omega))
    have HRAx := Lib.hid (HRA.out.below (HBX.out.mono hk2))
    have HRBx := Lib.hid (HRB.out.below HBX.out)
    have HBX2 := Lib.hid (bel_c HBY.out (Nat.le_refl _) HBX.out)
    have hsX := HBX.out.size
    have hyX := HB.out.lt
    clear HPA HPB HPY d3 d4 HP1 HP3 HP4 HRA HRB HBY
    have hne : y.heap.size + 1 ≠ w.heap.size := by omega
    obtain ⟨⟨p0, p1, p2, p3, p4⟩, _⟩ := HP1x.out
    obtain ⟨⟨r0, r1, r2, r3, r4⟩, s0, s1, s2, s3, s4⟩ := HB.out
    have E3 : ∀ (o : Nat) x, (X.setCell ⟨y.heap.size + 1, o, none⟩ x).drew.cell? ⟨w.heap.size, 3, none⟩ = some (.int .i64 l) := fun o x => (World.cell?_setCell_other X _ _ _ (by simp <;> omega)).trans p3
    have E4 : ∀ (o : Nat) x, (X.setCell ⟨y.heap.size + 1, o, none⟩ x).drew.cell? ⟨w.heap.size, 4, none⟩ = some (.int .i64 t) := fun o x => (World.cell?_setCell_other X _ _ _ (by simp <;> omega)).trans p4
    have E3' : ∀ (o : Nat) x, (X.setCell ⟨y.heap.size + 1, o, none⟩ x).cell? ⟨w.heap.size, 3, none⟩ = some (.int .i64 l) := E3
    have E4' : ∀ (o : Nat) x, (X.setCell ⟨y.heap.size + 1, o, none⟩ x).cell? ⟨w.heap.size, 4, none⟩ = some (.int .i64 t) := E4
    have hw1 : IntKind.i64.wrap (X2 + l) = X2 + l := by simp [IntKind.wrap, IntKind.bits, IntKind.signed]; omega
    have hw2 : IntKind.i64.wrap (Y2 + t) = Y2 + t := by simp [IntKind.wrap, IntKind.bits, IntKind.signed]; omega
    go_upto_region 3 with fail
    go_cut [6, 7] (fun q s wx => q = .pointer (some ⟨y.heap.size, 0, none⟩) ∧ s = .pointer (some ⟨y.heap.size + 1, 0, none⟩) ∧ Hid (wx = (X.setCell ⟨y.heap.size + 1, 3, none⟩ (.int .i64 (X2 + l))).setCell ⟨y.heap.size + 1, 4, none⟩ (.int .i64 (Y2 + t)) ∨ wx = (X.setCell ⟨y.heap.size + 1, 4, none⟩ (.int .i64 (Y2 + t))).setCell ⟨y.heap.size + 1, 3, none⟩ (.int .i64 (X2 + l)) ∨ wx = ((X.setCell ⟨y.heap.size + 1, 3, none⟩ (.int .i64 (X2 + l))).setCell ⟨y.heap.size + 1, 4, none⟩ (.int .i64 (Y2 + t))).drew ∨ wx = ((X.setCell ⟨y.heap.size + 1, 4, none⟩ (.int .i64 (Y2 + t))).setCell ⟨y.heap.size + 1, 3, none⟩ (.int .i64 (X2 + l))).drew))
    case first =>
      go_region_law (fail)
      all_goals
        go_wp2_with fail
        go_meet
        refine ⟨rfl, rfl, Lib.hid ?_⟩
        first | exact .inr (.inr (.inl rfl)) | exact .inr (.inr (.inr rfl)) | exact .inl rfl | exact .inr (.inl rfl)
    case rest =>
      obtain ⟨rfl, rfl, HWX⟩ := hcut
      generalize wc = Z at *
      obtain ⟨hBz, hWz⟩ := box_four HB.out HWX.out
      have hAz := HA.out.within hWz (by omega)
      have h3z := HP3x.out.within hWz (by omega)
      have h4z := HP4x.out.within hWz (by omega)
      have HRAz : Hid (PatIn W4.heap.size k Z (.slice aA L1.length cA) L1) := Lib.hid (HRAx.out.within hWz (.inl (by omega)) (by omega))
      have HRBz : Hid (PatIn k y.heap.size Z (.slice aB L2.length cB) L2) := Lib.hid (HRBx.out.within hWz (.inl (by omega)) (by omega))
      have HBZ : Hid (Below w.heap.size w Z) := Lib.hid (HBX2.out.trans ((hWz.below (by omega)).mono (by omega)))
      have hsZ := hWz.size
      clear p0 p1 p2 p3 p4 r0 r1 r2 r3 r4 s0 s1 s2 s3 s4 E3 E4 E3' E4' hWz HWX HP1x HP3x HP4x HRAx HRBx HA HB HBX HBX2
      obtain ⟨⟨a0, a1, a2, a3, a4⟩, _⟩ := hAz
      obtain ⟨⟨b0, b1, b2, b3, b4⟩, _⟩ := hBz
      obtain ⟨⟨c0, c1, c2, c3, c4⟩, f0, f1, f2, f3, f4⟩ := h3z
      obtain ⟨⟨d0, d1, d2, d3, d4⟩, g0, g1, g2, g3, g4⟩ := h4z
      have hne2 : ¬ y.heap.size + 1 = w.heap.size + 1 + 1 := by omega
      have hne3 : ¬ y.heap.size + 1 = w.heap.size + 1 + 1 + 1 := by omega
      have hne4 : ¬ y.heap.size = w.heap.size + 1 + 1 := by omega
      have hne5 : ¬ y.heap.size = w.heap.size + 1 + 1 + 1 := by omega
      have ub0 : ∀ x0 x1 x2 x3 x4 : Value, (((((Z.setCell ⟨w.heap.size + 1 + 1, 0, none⟩ (x0)).setCell ⟨w.heap.size + 1 + 1, 1, none⟩ (x1)).setCell ⟨w.heap.size + 1 + 1, 2, none⟩ (x2)).setCell ⟨w.heap.size + 1 + 1, 3, none⟩ (x3)).setCell ⟨w.heap.size + 1 + 1, 4, none⟩ (x4)).cell? ⟨y.heap.size + 1, 0, none⟩ = some (.int .i64 M2) := fun x0 x1 x2 x3 x4 => (set5_far (p := w.heap.size + 1 + 1) (show w.heap.size + 1 + 1 ≠ y.heap.size + 1 by omega)).trans b0
      have ua0 : ∀ x0 x1 x2 x3 x4 : Value, (((((Z.setCell ⟨w.heap.size + 1 + 1 + 1, 0, none⟩ (x0)).setCell ⟨w.heap.size + 1 + 1 + 1, 1, none⟩ (x1)).setCell ⟨w.heap.size + 1 + 1 + 1, 2, none⟩ (x2)).setCell ⟨w.heap.size + 1 + 1 + 1, 3, none⟩ (x3)).setCell ⟨w.heap.size + 1 + 1 + 1, 4, none⟩ (x4)).cell? ⟨y.heap.size, 0, none⟩ = some (.int .i64 M1) := fun x0 x1 x2 x3 x4 => (set5_far (p := w.heap.size + 1 + 1 + 1) (show w.heap.size + 1 + 1 + 1 ≠ y.heap.size by omega)).trans a0
      have ub1 : ∀ x0 x1 x2 x3 x4 : Value, (((((Z.setCell ⟨w.heap.size + 1 + 1, 0, none⟩ (x0)).setCell ⟨w.heap.size + 1 + 1, 1, none⟩ (x1)).setCell ⟨w.heap.size + 1 + 1, 2, none⟩ (x2)).setCell ⟨w.heap.size + 1 + 1, 3, none⟩ (x3)).setCell ⟨w.heap.size + 1 + 1, 4, none⟩ (x4)).cell? ⟨y.heap.size + 1, 1, none⟩ = some (.int .i64 N2) := fun x0 x1 x2 x3 x4 => (set5_far (p := w.heap.size + 1 + 1) (show w.heap.size + 1 + 1 ≠ y.heap.size + 1 by omega)).trans b1
      have ua1 : ∀ x0 x1 x2 x3 x4 : Value, (((((Z.setCell ⟨w.heap.size + 1 + 1 + 1, 0, none⟩ (x0)).setCell ⟨w.heap.size + 1 + 1 + 1, 1, none⟩ (x1)).setCell ⟨w.heap.size + 1 + 1 + 1, 2, none⟩ (x2)).setCell ⟨w.heap.size + 1 + 1 + 1, 3, none⟩ (x3)).setCell ⟨w.heap.size + 1 + 1 + 1, 4, none⟩ (x4)).cell? ⟨y.heap.size, 1, none⟩ = some (.int .i64 N1) := fun x0 x1 x2 x3 x4 => (set5_far (p := w.heap.size + 1 + 1 + 1) (show w.heap.size + 1 + 1 + 1 ≠ y.heap.size by omega)).trans a1
      have ub2 : ∀ x0 x1 x2 x3 x4 : Value, (((((Z.setCell ⟨w.heap.size + 1 + 1, 0, none⟩ (x0)).setCell ⟨w.heap.size + 1 + 1, 1, none⟩ (x1)).setCell ⟨w.heap.size + 1 + 1, 2, none⟩ (x2)).setCell ⟨w.heap.size + 1 + 1, 3, none⟩ (x3)).setCell ⟨w.heap.size + 1 + 1, 4, none⟩ (x4)).cell? ⟨y.heap.size + 1, 2, none⟩ = some (.slice aB L2.length cB) := fun x0 x1 x2 x3 x4 => (set5_far (p := w.heap.size + 1 + 1) (show w.heap.size + 1 + 1 ≠ y.heap.size + 1 by omega)).trans b2
      have ua2 : ∀ x0 x1 x2 x3 x4 : Value, (((((Z.setCell ⟨w.heap.size + 1 + 1 + 1, 0, none⟩ (x0)).setCell ⟨w.heap.size + 1 + 1 + 1, 1, none⟩ (x1)).setCell ⟨w.heap.size + 1 + 1 + 1, 2, none⟩ (x2)).setCell ⟨w.heap.size + 1 + 1 + 1, 3, none⟩ (x3)).setCell ⟨w.heap.size + 1 + 1 + 1, 4, none⟩ (x4)).cell? ⟨y.heap.size, 2, none⟩ = some (.slice aA L1.length cA) := fun x0 x1 x2 x3 x4 => (set5_far (p := w.heap.size + 1 + 1 + 1) (show w.heap.size + 1 + 1 + 1 ≠ y.heap.size by omega)).trans a2
      have ub3 : ∀ x0 x1 x2 x3 x4 : Value, (((((Z.setCell ⟨w.heap.size + 1 + 1, 0, none⟩ (x0)).setCell ⟨w.heap.size + 1 + 1, 1, none⟩ (x1)).setCell ⟨w.heap.size + 1 + 1, 2, none⟩ (x2)).setCell ⟨w.heap.size + 1 + 1, 3, none⟩ (x3)).setCell ⟨w.heap.size + 1 + 1, 4, none⟩ (x4)).cell? ⟨y.heap.size + 1, 3, none⟩ = some (.int .i64 (X2 + l)) := fun x0 x1 x2 x3 x4 => (set5_far (p := w.heap.size + 1 + 1) (show w.heap.size + 1 + 1 ≠ y.heap.size + 1 by omega)).trans b3
      have ua3 : ∀ x0 x1 x2 x3 x4 : Value, (((((Z.setCell ⟨w.heap.size + 1 + 1 + 1, 0, none⟩ (x0)).setCell ⟨w.heap.size + 1 + 1 + 1, 1, none⟩ (x1)).setCell ⟨w.heap.size + 1 + 1 + 1, 2, none⟩ (x2)).setCell ⟨w.heap.size + 1 + 1 + 1, 3, none⟩ (x3)).setCell ⟨w.heap.size + 1 + 1 + 1, 4, none⟩ (x4)).cell? ⟨y.heap.size, 3, none⟩ = some (.int .i64 l) := fun x0 x1 x2 x3 x4 => (set5_far (p := w.heap.size + 1 + 1 + 1) (show w.heap.size + 1 + 1 + 1 ≠ y.heap.size by omega)).trans a3
      have ub4 : ∀ x0 x1 x2 x3 x4 : Value, (((((Z.setCell ⟨w.heap.size + 1 + 1, 0, none⟩ (x0)).setCell ⟨w.heap.size + 1 + 1, 1, none⟩ (x1)).setCell ⟨w.heap.size + 1 + 1, 2, none⟩ (x2)).setCell ⟨w.heap.size + 1 + 1, 3, none⟩ (x3)).setCell ⟨w.heap.size + 1 + 1, 4, none⟩ (x4)).cell? ⟨y.heap.size + 1, 4, none⟩ = some (.int .i64 (Y2 + t)) := fun x0 x1 x2 x3 x4 => (set5_far (p := w.heap.size + 1 + 1) (show w.heap.size + 1 + 1 ≠ y.heap.size + 1 by omega)).trans b4
      have ua4 : ∀ x0 x1 x2 x3 x4 : Value, (((((Z.setCell ⟨w.heap.size + 1 + 1 + 1, 0, none⟩ (x0)).setCell ⟨w.heap.size + 1 + 1 + 1, 1, none⟩ (x1)).setCell ⟨w.heap.size + 1 + 1 + 1, 2, none⟩ (x2)).setCell ⟨w.heap.size + 1 + 1 + 1, 3, none⟩ (x3)).setCell ⟨w.heap.size + 1 + 1 + 1, 4, none⟩ (x4)).cell? ⟨y.heap.size, 4, none⟩ = some (.int .i64 t) := fun x0 x1 x2 x3 x4 => (set5_far (p := w.heap.size + 1 + 1 + 1) (show w.heap.size + 1 + 1 + 1 ≠ y.heap.size by omega)).trans a4
      clear hne
      go_wp2_with fail
      go_region_law (fail)
      all_goals
        go_wp2_with fail
        refine bodyPost_ret (v := .tuple #[.agg #[.int .i64 M1, .int .i64 N1, .slice aA L1.length cA, .int .i64 l, .int .i64 t], .agg #[.int .i64 M2, .int .i64 N2, .slice aB L2.length cB, .int .i64 (X2 + l), .int .i64 (Y2 + t)]]) (by simp [results, Try.results61, go_sem, c0, c1, c2, c3, c4, d0, d1, d2, d3, d4]) rfl ⟨_, _, k, rfl, ?_, ?_, by omega, ?_, ?_⟩
        · refine PatIn.wide (lo := W4.heap.size) (hi := k) ?_ (by omega) (Nat.le_refl _)
          first
            | exact HRAz.out.within (ends_drew (lo := w.heap.size + 1 + 1) (hi := w.heap.size + 1 + 1 + 1 + 1) (by omega) (by omega) (by omega) (by omega)) (.inr (by omega)) (by omega)
            | exact HRAz.out.within (ends_set (lo := w.heap.size + 1 + 1) (hi := w.heap.size + 1 + 1 + 1 + 1) (by omega) (by omega) (by omega) (by omega)) (.inr (by omega)) (by omega)
        · first
            | exact PatIn.wide (HRBz.out.within (ends_drew (lo := w.heap.size + 1 + 1) (hi := w.heap.size + 1 + 1 + 1 + 1) (by omega) (by omega) (by omega) (by omega)) (.inr (by omega)) (by omega)) (Nat.le_refl _) (Nat.le_trans (by omega) (ends_drew (lo := w.heap.size + 1 + 1) (hi := w.heap.size + 1 + 1 + 1 + 1) (by omega) (by omega) (by omega) (by omega)).size)
            | exact PatIn.wide (HRBz.out.within (ends_set (lo := w.heap.size + 1 + 1) (hi := w.heap.size + 1 + 1 + 1 + 1) (by omega) (by omega) (by omega) (by omega)) (.inr (by omega)) (by omega)) (Nat.le_refl _) (Nat.le_trans (by omega) (ends_set (lo := w.heap.size + 1 + 1) (hi := w.heap.size + 1 + 1 + 1 + 1) (by omega) (by omega) (by omega) (by omega)).size)
        · first
            | exact Nat.le_trans (by omega) (ends_drew (lo := w.heap.size + 1 + 1) (hi := w.heap.size + 1 + 1 + 1 + 1) (by omega) (by omega) (by omega) (by omega)).size
            | exact Nat.le_trans (by omega) (ends_set (lo := w.heap.size + 1 + 1) (hi := w.heap.size + 1 + 1 + 1 + 1) (by omega) (by omega) (by omega) (by omega)).size
        · first
            | exact HBZ.out.trans (((ends_drew (lo := w.heap.size + 1 + 1) (hi := w.heap.size + 1 + 1 + 1 + 1) (by omega) (by omega) (by omega) (by omega)).below (by omega)).mono (by omega))
            | exact HBZ.out.trans (((ends_set (lo := w.heap.size + 1 + 1) (hi := w.heap.size + 1 + 1 + 1 + 1) (by omega) (by omega) (by omega) (by omega)).below (by omega)).mono (by omega))

end Go.Proofs.Ytboahceibeeifaa
