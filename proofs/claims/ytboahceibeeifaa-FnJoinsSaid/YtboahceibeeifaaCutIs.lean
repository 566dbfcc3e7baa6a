/- Cuts: the program's split. -/
import Derived.Test.YtboahceibeeifaaCutIp
import Derived.Deep.RegionHeld3
import Derived.Deep.DeepCutAuto
import Derived.Test.YtboahceibeeifaaRegM

set_option linter.unusedSimpArgs false
set_option linter.unusedVariables false
namespace Go.Proofs.Ytboahceibeeifaa
open Go.ChangeShapes Go.WideShapes Go.ChangeAt Go.RowKit

/-- Both parts are handed back. -/
def SplitIs (m n : Int) (c : C2) (xs : List P5) (w : World) (e : Ending) (w' : World) : Prop :=
  ∃ v1 v2 k, e = .returned (.tuple #[.agg #[.int .i64 (pM1 m c), .int .i64 (pN1 n c), v1, .int .i64 0, .int .i64 0], .agg #[.int .i64 (pM2 m c), .int .i64 (pN2 n c), v2, .int .i64 (pX2 c), .int .i64 (pY2 c)]]) ∧
    PatIn w.heap.size k w' v1 (pL1 m n c xs) ∧ PatIn k w'.heap.size w' v2 (pL2 m n c xs) ∧ w.heap.size ≤ k ∧ k ≤ w'.heap.size ∧ Below w.heap.size w w'
/-- Five cells that may be written. -/
def cv5 (u : World) (p i : Nat) : Value := (u.cell? ⟨p, i, none⟩).getD undef
def Lv5 (p : Nat) (u : World) : Prop := ∀ i, i < 5 → u.cell? ⟨p, i, none⟩ = some (cv5 u p i) ∧ u.frozen? ⟨p, i, none⟩ = false
theorem Lv5.of {p : Nat} {u : World} (h : ∀ i, i < 5 → ∃ x, u.cell? ⟨p, i, none⟩ = some x ∧ u.frozen? ⟨p, i, none⟩ = false) : Lv5 p u := fun i hi => by
  obtain ⟨x, h1, h2⟩ := h i hi
  exact ⟨by unfold cv5; rw [h1]; rfl, h2⟩
theorem Lv5.box {p : Nat} {m n : Int} {v : Value} {l t : Int} {u : World} (h : BoxQ p m n v l t u) : Lv5 p u := Lv5.of (fun i hi => by
  obtain ⟨⟨h0, h1, h2, h3, h4⟩, f0, f1, f2, f3, f4⟩ := h
  obtain rfl | rfl | rfl | rfl | rfl : i = 0 ∨ i = 1 ∨ i = 2 ∨ i = 3 ∨ i = 4 := by omega
  · exact ⟨_, h0, f0⟩
  · exact ⟨_, h1, f1⟩
  · exact ⟨_, h2, f2⟩
  · exact ⟨_, h3, f3⟩
  · exact ⟨_, h4, f4⟩)
abbrev set5 (u : World) (p : Nat) (x0 x1 x2 x3 x4 : Value) : World := ((((u.setCell ⟨p, 0, none⟩ x0).setCell ⟨p, 1, none⟩ x1).setCell ⟨p, 2, none⟩ x2).setCell ⟨p, 3, none⟩ x3).setCell ⟨p, 4, none⟩ x4
theorem set5_far {u : World} {p : Nat} {q : Addr} (h : p ≠ q.block) {x0 x1 x2 x3 x4 : Value} : (set5 u p x0 x1 x2 x3 x4).cell? q = u.cell? q := by
  have hn : ∀ o : Nat, (⟨p, o, none⟩ : Addr) ≠ q := fun o e => h (by rw [← e])
  unfold set5
  rw [World.cell?_setCell_other _ _ _ _ (hn _), World.cell?_setCell_other _ _ _ _ (hn _), World.cell?_setCell_other _ _ _ _ (hn _), World.cell?_setCell_other _ _ _ _ (hn _), World.cell?_setCell_other _ _ _ _ (hn _)]
theorem set5_frozen {u : World} {p : Nat} {q : Addr} {x0 x1 x2 x3 x4 : Value} : (set5 u p x0 x1 x2 x3 x4).frozen? q = u.frozen? q := by
  unfold set5
  rw [World.frozen?_setCell, World.frozen?_setCell, World.frozen?_setCell, World.frozen?_setCell, World.frozen?_setCell]
theorem Lv5.below {p : Nat} {u v : World} (h : Lv5 p u) (hb : Below u.heap.size u v) : Lv5 p v := Lv5.of (fun i hi => ⟨_, kept hb (h i hi).1, keptF hb (h i hi).1 (h i hi).2⟩)
theorem set_some {u : World} {p q : Addr} {x y : Value} (h : u.cell? p = some x) : ∃ z, (u.setCell q y).cell? p = some z := by
  by_cases e : q = p
  · subst e; exact ⟨y, World.cell?_setCell_same _ _ _ h⟩
  · exact ⟨x, (World.cell?_setCell_other _ _ _ _ e).trans h⟩
theorem Lv5.set {p : Nat} {u : World} (h : Lv5 p u) (q : Addr) (y : Value) : Lv5 p (u.setCell q y) := Lv5.of (fun i hi => by
  obtain ⟨z, hz⟩ := set_some (q := q) (y := y) (h i hi).1
  exact ⟨z, hz, (World.frozen?_setCell _ _ _ _).trans (h i hi).2⟩)
theorem Lv5.all {p q : Nat} {u : World} (h : Lv5 p u) (x0 x1 x2 x3 x4 : Value) : Lv5 p (set5 u q x0 x1 x2 x3 x4) := ((((h.set _ _).set _ _).set _ _).set _ _).set _ _

set_option maxHeartbeats 6400000 in
set_option maxRecDepth 20000 in
theorem Split_any (lo hi : Nat) (m n : Int) (v : Value) (xs : List P5) (up : Bool) (a : Int) (w : World) (r : PatIn lo hi w v xs) (hhi : hi ≤ w.heap.size) (lay : LayOk m n xs) (hc : hasC m n xs ⟨up, a⟩ = true) :
    Calls Try.prog 70 #[.agg #[.int .i64 m, .int .i64 n, v], .agg #[.bool up, .int .i64 a]] w (SplitIs m n ⟨up, a⟩ xs w) := by
  obtain ⟨b, cap, rfl⟩ := r.form
  have R := Lib.hid r
  have HL := Lib.hid lay
  obtain ⟨m0, m1⟩ := lay.1
  obtain ⟨n0, n1⟩ := lay.2.1
  clear r lay
  cases up
  · have hh := cut_in hc
    simp only [endC, if_false, Bool.false_eq_true] at hh
    obtain ⟨hh0, hh1⟩ := hh
    obtain ⟨G, hG⟩ : ∃ G, G = ((((w.alloc (.cells #[.int .i64 m, .int .i64 n, .slice b xs.length cap] 26)).alloc (.cells #[.bool false, .int .i64 a] 71)).alloc (.cells #[.int .i64 0, .int .i64 0, .slice none 0 0, .int .i64 0, .int .i64 0] 62)).alloc (.cells #[.int .i64 0, .int .i64 0, .slice none 0 0, .int .i64 0, .int .i64 0] 62)) := ⟨_, rfl⟩
    have eG : G.heap.size = w.heap.size + 1 + 1 + 1 + 1 := by rw [hG]; simp
    have HG : Hid (Below w.heap.size w G) := Lib.hid (by rw [hG]; exact bel_n (bel_n (bel_n (bel0 w _) (Nat.le_refl _) _) (by simp) _) (by simp) _)
    have D0 : Below G.heap.size G G.drew := ⟨rfl, rfl, rfl, Nat.le_refl _, fun _ _ => rfl⟩
    have S0 : G.drew.cell? ⟨w.heap.size, 0, none⟩ = some (.int .i64 m) ∧ G.drew.cell? ⟨w.heap.size, 1, none⟩ = some (.int .i64 n) ∧ G.drew.cell? ⟨w.heap.size, 2, none⟩ = some (.slice b xs.length cap) ∧ G.drew.cell? ⟨w.heap.size + 1, 0, none⟩ = some (.bool false) ∧ G.drew.cell? ⟨w.heap.size + 1, 1, none⟩ = some (.int .i64 a) ∧ Lv5 (w.heap.size + 1 + 1) G.drew ∧ Lv5 (w.heap.size + 1 + 1 + 1) G.drew ∧ Below (w.heap.size + 1 + 1) G G.drew := by
      have B2 := BoxQ.new ((w.alloc (.cells #[.int .i64 m, .int .i64 n, .slice b xs.length cap] 26)).alloc (.cells #[.bool false, .int .i64 a] 71)) 0 0 (.slice none 0 0) 0 0 62
      have B3 := BoxQ.new (((w.alloc (.cells #[.int .i64 m, .int .i64 n, .slice b xs.length cap] 26)).alloc (.cells #[.bool false, .int .i64 a] 71)).alloc (.cells #[.int .i64 0, .int .i64 0, .slice none 0 0, .int .i64 0, .int .i64 0] 62)) 0 0 (.slice none 0 0) 0 0 62
      rw [show ((w.alloc (.cells #[.int .i64 m, .int .i64 n, .slice b xs.length cap] 26)).alloc (.cells #[.bool false, .int .i64 a] 71)).heap.size = w.heap.size + 1 + 1 by simp] at B2
      rw [show (((w.alloc (.cells #[.int .i64 m, .int .i64 n, .slice b xs.length cap] 26)).alloc (.cells #[.bool false, .int .i64 a] 71)).alloc (.cells #[.int .i64 0, .int .i64 0, .slice none 0 0, .int .i64 0, .int .i64 0] 62)).heap.size = w.heap.size + 1 + 1 + 1 by simp] at B3
      have B2' := B2.below (bel0 _ (.cells #[.int .i64 0, .int .i64 0, .slice none 0 0, .int .i64 0, .int .i64 0] 62)) (by simp)
      rw [← hG] at B2' B3
      have B1 := (BoxL.new w (.int .i64 m) (.int .i64 n) (.slice b xs.length cap) 26).below (bel_n (bel_n (bel0 (w.alloc (.cells #[.int .i64 m, .int .i64 n, .slice b xs.length cap] 26)) (.cells #[.bool false, .int .i64 a] 71)) (Nat.le_refl _) (.cells #[.int .i64 0, .int .i64 0, .slice none 0 0, .int .i64 0, .int .i64 0] 62)) (by simp) (.cells #[.int .i64 0, .int .i64 0, .slice none 0 0, .int .i64 0, .int .i64 0] 62)) (by simp)
      rw [← hG] at B1
      have c0 : G.cell? ⟨w.heap.size + 1, 0, none⟩ = some (.bool false) := by rw [hG]; exact kept (bel0 _ _) (kept (bel0 _ _) (by simp))
      have c1 : G.cell? ⟨w.heap.size + 1, 1, none⟩ = some (.int .i64 a) := by rw [hG]; exact kept (bel0 _ _) (kept (bel0 _ _) (by simp))
      obtain ⟨l0, l1, l2, _⟩ := B1
      exact ⟨l0, l1, l2, c0, c1, Lv5.box B2', Lv5.box B3, D0.mono (by omega)⟩
    have LE : ∀ u : World, (u.cell? ⟨w.heap.size, 0, none⟩ = some (.int .i64 m) ∧ u.cell? ⟨w.heap.size, 1, none⟩ = some (.int .i64 n) ∧ u.cell? ⟨w.heap.size, 2, none⟩ = some (.slice b xs.length cap) ∧ u.cell? ⟨w.heap.size + 1, 0, none⟩ = some (.bool false) ∧ u.cell? ⟨w.heap.size + 1, 1, none⟩ = some (.int .i64 a) ∧ Lv5 (w.heap.size + 1 + 1) u ∧ Lv5 (w.heap.size + 1 + 1 + 1) u ∧ Below (w.heap.size + 1 + 1) G u) → w.heap.size + 1 + 1 ≤ u.heap.size := fun u h => by have := h.2.2.2.2.2.2.2.size; omega
    have C1 : Hid (∀ u : World, (u.cell? ⟨w.heap.size, 0, none⟩ = some (.int .i64 m) ∧ u.cell? ⟨w.heap.size, 1, none⟩ = some (.int .i64 n) ∧ u.cell? ⟨w.heap.size, 2, none⟩ = some (.slice b xs.length cap) ∧ u.cell? ⟨w.heap.size + 1, 0, none⟩ = some (.bool false) ∧ u.cell? ⟨w.heap.size + 1, 1, none⟩ = some (.int .i64 a) ∧ Lv5 (w.heap.size + 1 + 1) u ∧ Lv5 (w.heap.size + 1 + 1 + 1) u ∧ Below (w.heap.size + 1 + 1) G u) → Calls Try.prog 35 #[.agg #[.int .i64 m, .int .i64 n, .slice b xs.length cap], .int .i64 0, .int .i64 0, .int .i64 m, .int .i64 a] u (PartIs m a 0 0 xs u)) := Lib.hid (fun u h => by
      have hu : Below w.heap.size w u := HG.out.trans (h.2.2.2.2.2.2.2.mono (Nat.le_add_right _ 2))
      exact PartAt_any lo hi m n _ xs 0 0 m a u (R.out.below (hu.mono hhi)) (Nat.le_trans hhi hu.size) HL.out (by omega) (by omega) (by omega) (by omega) (by omega) (by omega) (by omega) (by omega))
    have C2 : Hid (∀ u : World, (u.cell? ⟨w.heap.size, 0, none⟩ = some (.int .i64 m) ∧ u.cell? ⟨w.heap.size, 1, none⟩ = some (.int .i64 n) ∧ u.cell? ⟨w.heap.size, 2, none⟩ = some (.slice b xs.length cap) ∧ u.cell? ⟨w.heap.size + 1, 0, none⟩ = some (.bool false) ∧ u.cell? ⟨w.heap.size + 1, 1, none⟩ = some (.int .i64 a) ∧ Lv5 (w.heap.size + 1 + 1) u ∧ Lv5 (w.heap.size + 1 + 1 + 1) u ∧ Below (w.heap.size + 1 + 1) G u) → Calls Try.prog 35 #[.agg #[.int .i64 m, .int .i64 n, .slice b xs.length cap], .int .i64 0, .int .i64 a, .int .i64 m, .int .i64 (n - a)] u (PartIs m (n - a) 0 a xs u)) := Lib.hid (fun u h => by
      have hu : Below w.heap.size w u := HG.out.trans (h.2.2.2.2.2.2.2.mono (Nat.le_add_right _ 2))
      exact PartAt_any lo hi m n _ xs 0 a m (n - a) u (R.out.below (hu.mono hhi)) (Nat.le_trans hhi hu.size) HL.out (by omega) (by omega) (by omega) (by omega) (by omega) (by omega) (by omega) (by omega))
    have hwr : Hid (IntKind.i64.wrap (n - a) = (n - a)) := Lib.hid (by simp [IntKind.wrap, IntKind.bits, IntKind.signed]; omega)
    have KP : ∀ u v : World, Below u.heap.size u v → (u.cell? ⟨w.heap.size, 0, none⟩ = some (.int .i64 m) ∧ u.cell? ⟨w.heap.size, 1, none⟩ = some (.int .i64 n) ∧ u.cell? ⟨w.heap.size, 2, none⟩ = some (.slice b xs.length cap) ∧ u.cell? ⟨w.heap.size + 1, 0, none⟩ = some (.bool false) ∧ u.cell? ⟨w.heap.size + 1, 1, none⟩ = some (.int .i64 a) ∧ Lv5 (w.heap.size + 1 + 1) u ∧ Lv5 (w.heap.size + 1 + 1 + 1) u ∧ Below (w.heap.size + 1 + 1) G u) → (v.cell? ⟨w.heap.size, 0, none⟩ = some (.int .i64 m) ∧ v.cell? ⟨w.heap.size, 1, none⟩ = some (.int .i64 n) ∧ v.cell? ⟨w.heap.size, 2, none⟩ = some (.slice b xs.length cap) ∧ v.cell? ⟨w.heap.size + 1, 0, none⟩ = some (.bool false) ∧ v.cell? ⟨w.heap.size + 1, 1, none⟩ = some (.int .i64 a) ∧ Lv5 (w.heap.size + 1 + 1) v ∧ Lv5 (w.heap.size + 1 + 1 + 1) v ∧ Below (w.heap.size + 1 + 1) G v) := fun u v hb h => ⟨kept hb h.1, kept hb h.2.1, kept hb h.2.2.1, kept hb h.2.2.2.1, kept hb h.2.2.2.2.1, h.2.2.2.2.2.1.below hb, h.2.2.2.2.2.2.1.below hb, bel_c h.2.2.2.2.2.2.2 (by omega) hb⟩
    have KS0 : ∀ (u : World) (x0 x1 x2 x3 x4 : Value), (u.cell? ⟨w.heap.size, 0, none⟩ = some (.int .i64 m) ∧ u.cell? ⟨w.heap.size, 1, none⟩ = some (.int .i64 n) ∧ u.cell? ⟨w.heap.size, 2, none⟩ = some (.slice b xs.length cap) ∧ u.cell? ⟨w.heap.size + 1, 0, none⟩ = some (.bool false) ∧ u.cell? ⟨w.heap.size + 1, 1, none⟩ = some (.int .i64 a) ∧ Lv5 (w.heap.size + 1 + 1) u ∧ Lv5 (w.heap.size + 1 + 1 + 1) u ∧ Below (w.heap.size + 1 + 1) G u) → ((set5 u (w.heap.size + 1 + 1) x0 x1 x2 x3 x4).cell? ⟨w.heap.size, 0, none⟩ = some (.int .i64 m) ∧ (set5 u (w.heap.size + 1 + 1) x0 x1 x2 x3 x4).cell? ⟨w.heap.size, 1, none⟩ = some (.int .i64 n) ∧ (set5 u (w.heap.size + 1 + 1) x0 x1 x2 x3 x4).cell? ⟨w.heap.size, 2, none⟩ = some (.slice b xs.length cap) ∧ (set5 u (w.heap.size + 1 + 1) x0 x1 x2 x3 x4).cell? ⟨w.heap.size + 1, 0, none⟩ = some (.bool false) ∧ (set5 u (w.heap.size + 1 + 1) x0 x1 x2 x3 x4).cell? ⟨w.heap.size + 1, 1, none⟩ = some (.int .i64 a) ∧ Lv5 (w.heap.size + 1 + 1) (set5 u (w.heap.size + 1 + 1) x0 x1 x2 x3 x4) ∧ Lv5 (w.heap.size + 1 + 1 + 1) (set5 u (w.heap.size + 1 + 1) x0 x1 x2 x3 x4) ∧ Below (w.heap.size + 1 + 1) G (set5 u (w.heap.size + 1 + 1) x0 x1 x2 x3 x4)) := fun u x0 x1 x2 x3 x4 h => by
      refine ⟨?_, ?_, ?_, ?_, ?_, h.2.2.2.2.2.1.all _ _ _ _ _, h.2.2.2.2.2.2.1.all _ _ _ _ _, ?_⟩
      · rw [set5_far (by simp <;> omega)]; exact h.1
      · rw [set5_far (by simp <;> omega)]; exact h.2.1
      · rw [set5_far (by simp <;> omega)]; exact h.2.2.1
      · rw [set5_far (by simp <;> omega)]; exact h.2.2.2.1
      · rw [set5_far (by simp <;> omega)]; exact h.2.2.2.2.1
      · exact ((((h.2.2.2.2.2.2.2.setCell (Nat.le_refl _) _).setCell (Nat.le_refl _) _).setCell (Nat.le_refl _) _).setCell (Nat.le_refl _) _).setCell (Nat.le_refl _) _
    have KS1 : ∀ (u : World) (x0 x1 x2 x3 x4 : Value), (u.cell? ⟨w.heap.size, 0, none⟩ = some (.int .i64 m) ∧ u.cell? ⟨w.heap.size, 1, none⟩ = some (.int .i64 n) ∧ u.cell? ⟨w.heap.size, 2, none⟩ = some (.slice b xs.length cap) ∧ u.cell? ⟨w.heap.size + 1, 0, none⟩ = some (.bool false) ∧ u.cell? ⟨w.heap.size + 1, 1, none⟩ = some (.int .i64 a) ∧ Lv5 (w.heap.size + 1 + 1) u ∧ Lv5 (w.heap.size + 1 + 1 + 1) u ∧ Below (w.heap.size + 1 + 1) G u) → ((set5 u (w.heap.size + 1 + 1 + 1) x0 x1 x2 x3 x4).cell? ⟨w.heap.size, 0, none⟩ = some (.int .i64 m) ∧ (set5 u (w.heap.size + 1 + 1 + 1) x0 x1 x2 x3 x4).cell? ⟨w.heap.size, 1, none⟩ = some (.int .i64 n) ∧ (set5 u (w.heap.size + 1 + 1 + 1) x0 x1 x2 x3 x4).cell? ⟨w.heap.size, 2, none⟩ = some (.slice b xs.length cap) ∧ (set5 u (w.heap.size + 1 + 1 + 1) x0 x1 x2 x3 x4).cell? ⟨w.heap.size + 1, 0, none⟩ = some (.bool false) ∧ (set5 u (w.heap.size + 1 + 1 + 1) x0 x1 x2 x3 x4).cell? ⟨w.heap.size + 1, 1, none⟩ = some (.int .i64 a) ∧ Lv5 (w.heap.size + 1 + 1) (set5 u (w.heap.size + 1 + 1 + 1) x0 x1 x2 x3 x4) ∧ Lv5 (w.heap.size + 1 + 1 + 1) (set5 u (w.heap.size + 1 + 1 + 1) x0 x1 x2 x3 x4) ∧ Below (w.heap.size + 1 + 1) G (set5 u (w.heap.size + 1 + 1 + 1) x0 x1 x2 x3 x4)) := fun u x0 x1 x2 x3 x4 h => by
      refine ⟨?_, ?_, ?_, ?_, ?_, h.2.2.2.2.2.1.all _ _ _ _ _, h.2.2.2.2.2.2.1.all _ _ _ _ _, ?_⟩
      · rw [set5_far (by simp <;> omega)]; exact h.1
      · rw [set5_far (by simp <;> omega)]; exact h.2.1
      · rw [set5_far (by simp <;> omega)]; exact h.2.2.1
      · rw [set5_far (by simp <;> omega)]; exact h.2.2.2.1
      · rw [set5_far (by simp <;> omega)]; exact h.2.2.2.2.1
      · exact ((((h.2.2.2.2.2.2.2.setCell (Nat.le_succ _) _).setCell (Nat.le_succ _) _).setCell (Nat.le_succ _) _).setCell (Nat.le_succ _) _).setCell (Nat.le_succ _) _
    have KP1 := Lib.hid KP
    have KS01 := Lib.hid KS0
    have KS11 := Lib.hid KS1
    have LE1 := Lib.hid LE
    clear hc D0 KP KS0 KS1 LE
    go_enter Try.func70, Try.ntmps70
    go_upto_region 3 with fail
    rw [← hG]
    clear hG
    (try simp only [List.append_eq, List.cons_append, List.nil_append])
    have hS := S0
    refine reg_begin (fun w' => w'.cell? ⟨w.heap.size, 0, none⟩ = some (.int .i64 m) ∧ w'.cell? ⟨w.heap.size, 1, none⟩ = some (.int .i64 n) ∧ w'.cell? ⟨w.heap.size, 2, none⟩ = some (.slice b xs.length cap) ∧ w'.cell? ⟨w.heap.size + 1, 0, none⟩ = some (.bool false) ∧ w'.cell? ⟨w.heap.size + 1, 1, none⟩ = some (.int .i64 a) ∧ Lv5 (w.heap.size + 1 + 1) w' ∧ Lv5 (w.heap.size + 1 + 1 + 1) w' ∧ Below (w.heap.size + 1 + 1) G w') (by kernel_rfl) hS ?_
    refine reg_take 0 (v := ?_) rfl (by kernel_rfl) (by kernel_rfl) (by kernel_rfl) (fun _ _ _ h => h) (by rfl) (by intro w hSw; (try dsimp only at hSw); go_simp; first | done | with_reducible rfl) hS ?_
    (try simp only [Act.put, List.setIfInBounds_toArray, List.set_cons_zero, List.set_cons_succ])
    refine reg_take 1 (v := ?_) rfl (by kernel_rfl) (by kernel_rfl) (by kernel_rfl) (fun _ _ _ h => h) (by rfl) (by intro w hSw; (try dsimp only at hSw); go_simp; first | done | with_reducible rfl) hS ?_
    (try simp only [Act.put, List.setIfInBounds_toArray, List.set_cons_zero, List.set_cons_succ])
    refine reg_take 2 (v := ?_) rfl (by kernel_rfl) (by kernel_rfl) (by kernel_rfl) (fun _ _ _ h => h) (by rfl) (by intro w hSw; (try dsimp only at hSw); go_simp; first | done | with_reducible rfl) hS ?_
    (try simp only [Act.put, List.setIfInBounds_toArray, List.set_cons_zero, List.set_cons_succ])
    refine reg_take 3 (v := ?_) rfl (by kernel_rfl) (by kernel_rfl) (by kernel_rfl) (fun _ _ _ h => h) (by rfl) (by intro w hSw; (try dsimp only at hSw); go_simp; first | done | with_reducible rfl) hS ?_
    (try simp only [Act.put, List.setIfInBounds_toArray, List.set_cons_zero, List.set_cons_succ])
    refine reg_take 4 (v := ?_) rfl (by kernel_rfl) (by kernel_rfl) (by kernel_rfl) (fun _ _ _ h => h) (by rfl) (by intro w hSw; (try dsimp only at hSw); go_simp; first | done | with_reducible rfl) hS ?_
    (try simp only [Act.put, List.setIfInBounds_toArray, List.set_cons_zero, List.set_cons_succ])
    refine reg_take 6 (v := ?_) rfl (by kernel_rfl) (by kernel_rfl) (by kernel_rfl) (fun _ _ _ h => h) (by rfl) (by intro w hSw; (try dsimp only at hSw); go_simp; first | done | with_reducible rfl) hS ?_
    (try simp only [Act.put, List.setIfInBounds_toArray, List.set_cons_zero, List.set_cons_succ])
    refine reg_take 7 (v := ?_) rfl (by kernel_rfl) (by kernel_rfl) (by kernel_rfl) (fun _ _ _ h => h) (by rfl) (by intro w hSw; (try dsimp only at hSw); go_simp; first | done | with_reducible rfl) hS ?_
    (try simp only [Act.put, List.setIfInBounds_toArray, List.set_cons_zero, List.set_cons_succ])
    refine reg_take 8 (v := ?_) rfl (by kernel_rfl) (by kernel_rfl) (by kernel_rfl) (fun _ _ _ h => h) (by rfl) (by intro w hSw; (try dsimp only at hSw); go_simp; first | done | with_reducible rfl) hS ?_
    (try simp only [Act.put, List.setIfInBounds_toArray, List.set_cons_zero, List.set_cons_succ])
    refine reg_take 9 (v := ?_) rfl (by kernel_rfl) (by kernel_rfl) (by kernel_rfl) (fun _ _ _ h => h) (by rfl) (by intro w hSw; (try dsimp only at hSw); go_simp; first | done | with_reducible rfl) hS ?_
    (try simp only [Act.put, List.setIfInBounds_toArray, List.set_cons_zero, List.set_cons_succ])
    refine reg_take 10 (v := ?_) rfl (by kernel_rfl) (by kernel_rfl) (by kernel_rfl) (fun _ _ _ h => h) (by rfl) (by intro w hSw; (try dsimp only at hSw); go_simp; first | done | with_reducible rfl) hS ?_
    (try simp only [Act.put, List.setIfInBounds_toArray, List.set_cons_zero, List.set_cons_succ])
    refine reg_take 11 (v := ?_) rfl (by kernel_rfl) (by kernel_rfl) (by kernel_rfl) (fun _ _ _ h => h) (by rfl) (by intro w hSw; (try dsimp only at hSw); go_simp; first | done | with_reducible rfl) hS ?_
    (try simp only [Act.put, List.setIfInBounds_toArray, List.set_cons_zero, List.set_cons_succ])
    refine reg_take 12 (v := ?_) rfl (by kernel_rfl) (by kernel_rfl) (by kernel_rfl) (fun _ _ _ h => h) (by rfl) (by intro w hSw; (try dsimp only at hSw); go_simp; first | done | with_reducible rfl) hS ?_
    (try simp only [Act.put, List.setIfInBounds_toArray, List.set_cons_zero, List.set_cons_succ])
    refine reg_take 13 (v := ?_) rfl (by kernel_rfl) (by kernel_rfl) (by kernel_rfl) (fun _ _ _ h => h) (by rfl) (by intro w hSw; (try dsimp only at hSw); go_simp; first | done | with_reducible rfl) hS ?_
    (try simp only [Act.put, List.setIfInBounds_toArray, List.set_cons_zero, List.set_cons_succ])
    refine reg_take 14 (v := ?_) rfl (by kernel_rfl) (by kernel_rfl) (by kernel_rfl) (fun _ _ _ h => h) (by rfl) (by intro w hSw; (try dsimp only at hSw); go_simp; first | done | with_reducible rfl) hS ?_
    (try simp only [Act.put, List.setIfInBounds_toArray, List.set_cons_zero, List.set_cons_succ])
    refine reg_take 15 (v := ?_) rfl (by kernel_rfl) (by kernel_rfl) (by kernel_rfl) (fun _ _ _ h => h) (by rfl) (by intro w hSw; (try dsimp only at hSw); go_simp; first | done | with_reducible rfl) hS ?_
    (try simp only [Act.put, List.setIfInBounds_toArray, List.set_cons_zero, List.set_cons_succ])
    refine reg_call 5 rfl (by kernel_rfl) (by rfl) (fun K hK => ?_)
    go_simp
    go_at_call 35
    refine (args_eqL (C1.out _ hS) (by with_reducible rfl)).mono ?_
    rintro e uA ⟨vA, rfl, RA, hb⟩
    obtain ⟨aA, cA, rfl⟩ := RA.form
    have RA0 := Lib.hid RA
    have hsA := LE1.out _ hS
    have hsA1 := hb.size
    clear RA
    refine hK.out _ _ (KP1.out _ _ hb hS) (fun hS' => ?_)
    clear hK K hS
    have hS := hS'
    clear hS' hb
    try (try simp only [Act.put, List.setIfInBounds_toArray, List.set_cons_zero, List.set_cons_succ])
    refine reg_call 16 rfl (by kernel_rfl) (by rfl) (fun K hK => ?_)
    go_simp
    go_at_call 35
    refine (args_eqL (C2.out _ hS) (by first | with_reducible rfl | rw [hwr.out])).mono ?_
    rintro e uB ⟨vB, rfl, RB, hb⟩
    obtain ⟨aB, cB, rfl⟩ := RB.form
    have RB0 := Lib.hid RB
    have hsB1 := hb.size
    have RA1 := Lib.hid (RA0.out.below hb)
    clear RB
    refine hK.out _ _ (KP1.out _ _ hb hS) (fun hS' => ?_)
    clear hK K hS
    have hS := hS'
    clear hS' hb
    try (try simp only [Act.put, List.setIfInBounds_toArray, List.set_cons_zero, List.set_cons_succ])
    refine reg_call 17 rfl (by kernel_rfl) (by rfl) (fun K hK => ?_)
    have dA := Lib.hid hS.2.2.2.2.2.1
    have dB := Lib.hid hS.2.2.2.2.2.2.1
    have e0 := (hS.2.2.2.2.2.1 0 (by omega)).1
    have e1 := (hS.2.2.2.2.2.1 1 (by omega)).1
    have e2 := (hS.2.2.2.2.2.1 2 (by omega)).1
    have e3 := (hS.2.2.2.2.2.1 3 (by omega)).1
    have e4 := (hS.2.2.2.2.2.1 4 (by omega)).1
    have f0 := (hS.2.2.2.2.2.1 0 (by omega)).2
    have f1 := (hS.2.2.2.2.2.1 1 (by omega)).2
    have f2 := (hS.2.2.2.2.2.1 2 (by omega)).2
    have f3 := (hS.2.2.2.2.2.1 3 (by omega)).2
    have f4 := (hS.2.2.2.2.2.1 4 (by omega)).2
    go_simp
    refine hK.out _ _ (KS01.out _ (.int .i64 m) (.int .i64 a) (.slice aA (restr 0 0 m a xs).length cA) (.int .i64 0) (.int .i64 0) hS) (fun hS' => ?_)
    clear hK K hS e0 e1 e2 e3 e4 f0 f1 f2 f3 f4
    have hS := hS'
    clear hS'
    try (try simp only [Act.put, List.setIfInBounds_toArray, List.set_cons_zero, List.set_cons_succ])
    refine reg_call 18 rfl (by kernel_rfl) (by rfl) (fun K hK => ?_)
    have e0 := (hS.2.2.2.2.2.2.1 0 (by omega)).1
    have e1 := (hS.2.2.2.2.2.2.1 1 (by omega)).1
    have e2 := (hS.2.2.2.2.2.2.1 2 (by omega)).1
    have e3 := (hS.2.2.2.2.2.2.1 3 (by omega)).1
    have e4 := (hS.2.2.2.2.2.2.1 4 (by omega)).1
    have f0 := (hS.2.2.2.2.2.2.1 0 (by omega)).2
    have f1 := (hS.2.2.2.2.2.2.1 1 (by omega)).2
    have f2 := (hS.2.2.2.2.2.2.1 2 (by omega)).2
    have f3 := (hS.2.2.2.2.2.2.1 3 (by omega)).2
    have f4 := (hS.2.2.2.2.2.2.1 4 (by omega)).2
    go_simp
    refine hK.out _ _ (KS11.out _ (.int .i64 m) (.int .i64 (n - a)) (.slice aB (restr 0 a m (n - a) xs).length cB) (.int .i64 0) (.int .i64 a) hS) (fun hS' => ?_)
    clear hK K hS e0 e1 e2 e3 e4 f0 f1 f2 f3 f4
    have hS := hS'
    clear hS'
    try (try simp only [Act.put, List.setIfInBounds_toArray, List.set_cons_zero, List.set_cons_succ])
    refine wpAnyH_done (by kernel_rfl) ?_ _
    have HBZ := Lib.hid (HG.out.trans (hS.2.2.2.2.2.2.2.mono (Nat.le_add_right _ 2)))
    clear hS KP1 KS01 KS11 LE1 C1 C2
    go_wp2_with fail
    have d0 := (dA.out 0 (by omega)).1
    have g0 := (dB.out 0 (by omega)).1
    have d1 := (dA.out 1 (by omega)).1
    have g1 := (dB.out 1 (by omega)).1
    have d2 := (dA.out 2 (by omega)).1
    have g2 := (dB.out 2 (by omega)).1
    have d3 := (dA.out 3 (by omega)).1
    have g3 := (dB.out 3 (by omega)).1
    have d4 := (dA.out 4 (by omega)).1
    have g4 := (dB.out 4 (by omega)).1
    have eD : G.drew.heap.size = G.heap.size := rfl
    refine bodyPost_ret (v := .tuple #[.agg #[.int .i64 m, .int .i64 a, .slice aA (restr 0 0 m a xs).length cA, .int .i64 0, .int .i64 0], .agg #[.int .i64 m, .int .i64 (n - a), .slice aB (restr 0 a m (n - a) xs).length cB, .int .i64 0, .int .i64 a]]) (by simp [results, Try.results70, go_sem, d0, g0, d1, g1, d2, g2, d3, g3, d4, g4]) rfl ⟨_, _, uA.heap.size, rfl, ?_, ?_, ?_, ?_, ?_⟩
    · refine PatIn.wide (lo := G.drew.heap.size) (hi := uA.heap.size) ?_ (by omega) (Nat.le_refl _)
      refine ((((((((((RA1.out.set_far ?_ _).set_far ?_ _).set_far ?_ _).set_far ?_ _).set_far ?_ _).set_far ?_ _).set_far ?_ _).set_far ?_ _).set_far ?_ _).set_far ?_ _) <;> (simp <;> omega)
    · refine PatIn.wide (lo := uA.heap.size) (hi := uB.heap.size) ?_ (by omega) (by simp [World.setCell])
      refine ((((((((((RB0.out.set_far ?_ _).set_far ?_ _).set_far ?_ _).set_far ?_ _).set_far ?_ _).set_far ?_ _).set_far ?_ _).set_far ?_ _).set_far ?_ _).set_far ?_ _) <;> (simp <;> omega)
    · omega
    · simp [World.setCell]; omega
    · exact HBZ.out
  · have hh := cut_in hc
    simp only [endC, if_true] at hh
    obtain ⟨hh0, hh1⟩ := hh
    obtain ⟨G, hG⟩ : ∃ G, G = ((((w.alloc (.cells #[.int .i64 m, .int .i64 n, .slice b xs.length cap] 26)).alloc (.cells #[.bool true, .int .i64 a] 71)).alloc (.cells #[.int .i64 0, .int .i64 0, .slice none 0 0, .int .i64 0, .int .i64 0] 62)).alloc (.cells #[.int .i64 0, .int .i64 0, .slice none 0 0, .int .i64 0, .int .i64 0] 62)) := ⟨_, rfl⟩
    have eG : G.heap.size = w.heap.size + 1 + 1 + 1 + 1 := by rw [hG]; simp
    have HG : Hid (Below w.heap.size w G) := Lib.hid (by rw [hG]; exact bel_n (bel_n (bel_n (bel0 w _) (Nat.le_refl _) _) (by simp) _) (by simp) _)
    have D0 : Below G.heap.size G G.drew := ⟨rfl, rfl, rfl, Nat.le_refl _, fun _ _ => rfl⟩
    have S0 : G.drew.cell? ⟨w.heap.size, 0, none⟩ = some (.int .i64 m) ∧ G.drew.cell? ⟨w.heap.size, 1, none⟩ = some (.int .i64 n) ∧ G.drew.cell? ⟨w.heap.size, 2, none⟩ = some (.slice b xs.length cap) ∧ G.drew.cell? ⟨w.heap.size + 1, 0, none⟩ = some (.bool true) ∧ G.drew.cell? ⟨w.heap.size + 1, 1, none⟩ = some (.int .i64 a) ∧ Lv5 (w.heap.size + 1 + 1) G.drew ∧ Lv5 (w.heap.size + 1 + 1 + 1) G.drew ∧ Below (w.heap.size + 1 + 1) G G.drew := by
      have B2 := BoxQ.new ((w.alloc (.cells #[.int .i64 m, .int .i64 n, .slice b xs.length cap] 26)).alloc (.cells #[.bool true, .int .i64 a] 71)) 0 0 (.slice none 0 0) 0 0 62
      have B3 := BoxQ.new (((w.alloc (.cells #[.int .i64 m, .int .i64 n, .slice b xs.length cap] 26)).alloc (.cells #[.bool true, .int .i64 a] 71)).alloc (.cells #[.int .i64 0, .int .i64 0, .slice none 0 0, .int .i64 0, .int .i64 0] 62)) 0 0 (.slice none 0 0) 0 0 62
      rw [show ((w.alloc (.cells #[.int .i64 m, .int .i64 n, .slice b xs.length cap] 26)).alloc (.cells #[.bool true, .int .i64 a] 71)).heap.size = w.heap.size + 1 + 1 by simp] at B2
      rw [show (((w.alloc (.cells #[.int .i64 m, .int .i64 n, .slice b xs.length cap] 26)).alloc (.cells #[.bool true, .int .i64 a] 71)).alloc (.cells #[.int .i64 0, .int .i64 0, .slice none 0 0, .int .i64 0, .int .i64 0] 62)).heap.size = w.heap.size + 1 + 1 + 1 by simp] at B3
      have B2' := B2.below (bel0 _ (.cells #[.int .i64 0, .int .i64 0, .slice none 0 0, .int .i64 0, .int .i64 0] 62)) (by simp)
      rw [← hG] at B2' B3
      have B1 := (BoxL.new w (.int .i64 m) (.int .i64 n) (.slice b xs.length cap) 26).below (bel_n (bel_n (bel0 (w.alloc (.cells #[.int .i64 m, .int .i64 n, .slice b xs.length cap] 26)) (.cells #[.bool true, .int .i64 a] 71)) (Nat.le_refl _) (.cells #[.int .i64 0, .int .i64 0, .slice none 0 0, .int .i64 0, .int .i64 0] 62)) (by simp) (.cells #[.int .i64 0, .int .i64 0, .slice none 0 0, .int .i64 0, .int .i64 0] 62)) (by simp)
      rw [← hG] at B1
      have c0 : G.cell? ⟨w.heap.size + 1, 0, none⟩ = some (.bool true) := by rw [hG]; exact kept (bel0 _ _) (kept (bel0 _ _) (by simp))
      have c1 : G.cell? ⟨w.heap.size + 1, 1, none⟩ = some (.int .i64 a) := by rw [hG]; exact kept (bel0 _ _) (kept (bel0 _ _) (by simp))
      obtain ⟨l0, l1, l2, _⟩ := B1
      exact ⟨l0, l1, l2, c0, c1, Lv5.box B2', Lv5.box B3, D0.mono (by omega)⟩
    have LE : ∀ u : World, (u.cell? ⟨w.heap.size, 0, none⟩ = some (.int .i64 m) ∧ u.cell? ⟨w.heap.size, 1, none⟩ = some (.int .i64 n) ∧ u.cell? ⟨w.heap.size, 2, none⟩ = some (.slice b xs.length cap) ∧ u.cell? ⟨w.heap.size + 1, 0, none⟩ = some (.bool true) ∧ u.cell? ⟨w.heap.size + 1, 1, none⟩ = some (.int .i64 a) ∧ Lv5 (w.heap.size + 1 + 1) u ∧ Lv5 (w.heap.size + 1 + 1 + 1) u ∧ Below (w.heap.size + 1 + 1) G u) → w.heap.size + 1 + 1 ≤ u.heap.size := fun u h => by have := h.2.2.2.2.2.2.2.size; omega
    have C1 : Hid (∀ u : World, (u.cell? ⟨w.heap.size, 0, none⟩ = some (.int .i64 m) ∧ u.cell? ⟨w.heap.size, 1, none⟩ = some (.int .i64 n) ∧ u.cell? ⟨w.heap.size, 2, none⟩ = some (.slice b xs.length cap) ∧ u.cell? ⟨w.heap.size + 1, 0, none⟩ = some (.bool true) ∧ u.cell? ⟨w.heap.size + 1, 1, none⟩ = some (.int .i64 a) ∧ Lv5 (w.heap.size + 1 + 1) u ∧ Lv5 (w.heap.size + 1 + 1 + 1) u ∧ Below (w.heap.size + 1 + 1) G u) → Calls Try.prog 35 #[.agg #[.int .i64 m, .int .i64 n, .slice b xs.length cap], .int .i64 0, .int .i64 0, .int .i64 a, .int .i64 n] u (PartIs a n 0 0 xs u)) := Lib.hid (fun u h => by
      have hu : Below w.heap.size w u := HG.out.trans (h.2.2.2.2.2.2.2.mono (Nat.le_add_right _ 2))
      exact PartAt_any lo hi m n _ xs 0 0 a n u (R.out.below (hu.mono hhi)) (Nat.le_trans hhi hu.size) HL.out (by omega) (by omega) (by omega) (by omega) (by omega) (by omega) (by omega) (by omega))
    have C2 : Hid (∀ u : World, (u.cell? ⟨w.heap.size, 0, none⟩ = some (.int .i64 m) ∧ u.cell? ⟨w.heap.size, 1, none⟩ = some (.int .i64 n) ∧ u.cell? ⟨w.heap.size, 2, none⟩ = some (.slice b xs.length cap) ∧ u.cell? ⟨w.heap.size + 1, 0, none⟩ = some (.bool true) ∧ u.cell? ⟨w.heap.size + 1, 1, none⟩ = some (.int .i64 a) ∧ Lv5 (w.heap.size + 1 + 1) u ∧ Lv5 (w.heap.size + 1 + 1 + 1) u ∧ Below (w.heap.size + 1 + 1) G u) → Calls Try.prog 35 #[.agg #[.int .i64 m, .int .i64 n, .slice b xs.length cap], .int .i64 a, .int .i64 0, .int .i64 (m - a), .int .i64 n] u (PartIs (m - a) n a 0 xs u)) := Lib.hid (fun u h => by
      have hu : Below w.heap.size w u := HG.out.trans (h.2.2.2.2.2.2.2.mono (Nat.le_add_right _ 2))
      exact PartAt_any lo hi m n _ xs a 0 (m - a) n u (R.out.below (hu.mono hhi)) (Nat.le_trans hhi hu.size) HL.out (by omega) (by omega) (by omega) (by omega) (by omega) (by omega) (by omega) (by omega))
    have hwr : Hid (IntKind.i64.wrap (m - a) = (m - a)) := Lib.hid (by simp [IntKind.wrap, IntKind.bits, IntKind.signed]; omega)
    have KP : ∀ u v : World, Below u.heap.size u v → (u.cell? ⟨w.heap.size, 0, none⟩ = some (.int .i64 m) ∧ u.cell? ⟨w.heap.size, 1, none⟩ = some (.int .i64 n) ∧ u.cell? ⟨w.heap.size, 2, none⟩ = some (.slice b xs.length cap) ∧ u.cell? ⟨w.heap.size + 1, 0, none⟩ = some (.bool true) ∧ u.cell? ⟨w.heap.size + 1, 1, none⟩ = some (.int .i64 a) ∧ Lv5 (w.heap.size + 1 + 1) u ∧ Lv5 (w.heap.size + 1 + 1 + 1) u ∧ Below (w.heap.size + 1 + 1) G u) → (v.cell? ⟨w.heap.size, 0, none⟩ = some (.int .i64 m) ∧ v.cell? ⟨w.heap.size, 1, none⟩ = some (.int .i64 n) ∧ v.cell? ⟨w.heap.size, 2, none⟩ = some (.slice b xs.length cap) ∧ v.cell? ⟨w.heap.size + 1, 0, none⟩ = some (.bool true) ∧ v.cell? ⟨w.heap.size + 1, 1, none⟩ = some (.int .i64 a) ∧ Lv5 (w.heap.size + 1 + 1) v ∧ Lv5 (w.heap.size + 1 + 1 + 1) v ∧ Below (w.heap.size + 1 + 1) G v) := fun u v hb h => ⟨kept hb h.1, kept hb h.2.1, kept hb h.2.2.1, kept hb h.2.2.2.1, kept hb h.2.2.2.2.1, h.2.2.2.2.2.1.below hb, h.2.2.2.2.2.2.1.below hb, bel_c h.2.2.2.2.2.2.2 (by omega) hb⟩
    have KS0 : ∀ (u : World) (x0 x1 x2 x3 x4 : Value), (u.cell? ⟨w.heap.size, 0, none⟩ = some (.int .i64 m) ∧ u.cell? ⟨w.heap.size, 1, none⟩ = some (.int .i64 n) ∧ u.cell? ⟨w.heap.size, 2, none⟩ = some (.slice b xs.length cap) ∧ u.cell? ⟨w.heap.size + 1, 0, none⟩ = some (.bool true) ∧ u.cell? ⟨w.heap.size + 1, 1, none⟩ = some (.int .i64 a) ∧ Lv5 (w.heap.size + 1 + 1) u ∧ Lv5 (w.heap.size + 1 + 1 + 1) u ∧ Below (w.heap.size + 1 + 1) G u) → ((set5 u (w.heap.size + 1 + 1) x0 x1 x2 x3 x4).cell? ⟨w.heap.size, 0, none⟩ = some (.int .i64 m) ∧ (set5 u (w.heap.size + 1 + 1) x0 x1 x2 x3 x4).cell? ⟨w.heap.size, 1, none⟩ = some (.int .i64 n) ∧ (set5 u (w.heap.size + 1 + 1) x0 x1 x2 x3 x4).cell? ⟨w.heap.size, 2, none⟩ = some (.slice b xs.length cap) ∧ (set5 u (w.heap.size + 1 + 1) x0 x1 x2 x3 x4).cell? ⟨w.heap.size + 1, 0, none⟩ = some (.bool true) ∧ (set5 u (w.heap.size + 1 + 1) x0 x1 x2 x3 x4).cell? ⟨w.heap.size + 1, 1, none⟩ = some (.int .i64 a) ∧ Lv5 (w.heap.size + 1 + 1) (set5 u (w.heap.size + 1 + 1) x0 x1 x2 x3 x4) ∧ Lv5 (w.heap.size + 1 + 1 + 1) (set5 u (w.heap.size + 1 + 1) x0 x1 x2 x3 x4) ∧ Below (w.heap.size + 1 + 1) G (set5 u (w.heap.size + 1 + 1) x0 x1 x2 x3 x4)) := fun u x0 x1 x2 x3 x4 h => by
      refine ⟨?_, ?_, ?_, ?_, ?_, h.2.2.2.2.2.1.all _ _ _ _ _, h.2.2.2.2.2.2.1.all _ _ _ _ _, ?_⟩
      · rw [set5_far (by simp <;> omega)]; exact h.1
      · rw [set5_far (by simp <;> omega)]; exact h.2.1
      · rw [set5_far (by simp <;> omega)]; exact h.2.2.1
      · rw [set5_far (by simp <;> omega)]; exact h.2.2.2.1
      · rw [set5_far (by simp <;> omega)]; exact h.2.2.2.2.1
      · exact ((((h.2.2.2.2.2.2.2.setCell (Nat.le_refl _) _).setCell (Nat.le_refl _) _).setCell (Nat.le_refl _) _).setCell (Nat.le_refl _) _).setCell (Nat.le_refl _) _
    have KS1 : ∀ (u : World) (x0 x1 x2 x3 x4 : Value), (u.cell? ⟨w.heap.size, 0, none⟩ = some (.int .i64 m) ∧ u.cell? ⟨w.heap.size, 1, none⟩ = some (.int .i64 n) ∧ u.cell? ⟨w.heap.size, 2, none⟩ = some (.slice b xs.length cap) ∧ u.cell? ⟨w.heap.size + 1, 0, none⟩ = some (.bool true) ∧ u.cell? ⟨w.heap.size + 1, 1, none⟩ = some (.int .i64 a) ∧ Lv5 (w.heap.size + 1 + 1) u ∧ Lv5 (w.heap.size + 1 + 1 + 1) u ∧ Below (w.heap.size + 1 + 1) G u) → ((set5 u (w.heap.size + 1 + 1 + 1) x0 x1 x2 x3 x4).cell? ⟨w.heap.size, 0, none⟩ = some (.int .i64 m) ∧ (set5 u (w.heap.size + 1 + 1 + 1) x0 x1 x2 x3 x4).cell? ⟨w.heap.size, 1, none⟩ = some (.int .i64 n) ∧ (set5 u (w.heap.size + 1 + 1 + 1) x0 x1 x2 x3 x4).cell? ⟨w.heap.size, 2, none⟩ = some (.slice b xs.length cap) ∧ (set5 u (w.heap.size + 1 + 1 + 1) x0 x1 x2 x3 x4).cell? ⟨w.heap.size + 1, 0, none⟩ = some (.bool true) ∧ (set5 u (w.heap.size + 1 + 1 + 1) x0 x1 x2 x3 x4).cell? ⟨w.heap.size + 1, 1, none⟩ = some (.int .i64 a) ∧ Lv5 (w.heap.size + 1 + 1) (set5 u (w.heap.size + 1 + 1 + 1) x0 x1 x2 x3 x4) ∧ Lv5 (w.heap.size + 1 + 1 + 1) (set5 u (w.heap.size + 1 + 1 + 1) x0 x1 x2 x3 x4) ∧ Below (w.heap.size + 1 + 1) G (set5 u (w.heap.size + 1 + 1 + 1) x0 x1 x2 x3 x4)) := fun u x0 x1 x2 x3 x4 h => by
      refine ⟨?_, ?_, ?_, ?_, ?_, h.2.2.2.2.2.1.all _ _ _ _ _, h.2.2.2.2.2.2.1.all _ _ _ _ _, ?_⟩
      · rw [set5_far (by simp <;> omega)]; exact h.1
      · rw [set5_far (by simp <;> omega)]; exact h.2.1
      · rw [set5_far (by simp <;> omega)]; exact h.2.2.1
      · rw [set5_far (by simp <;> omega)]; exact h.2.2.2.1
      · rw [set5_far (by simp <;> omega)]; exact h.2.2.2.2.1
      · exact ((((h.2.2.2.2.2.2.2.setCell (Nat.le_succ _) _).setCell (Nat.le_succ _) _).setCell (Nat.le_succ _) _).setCell (Nat.le_succ _) _).setCell (Nat.le_succ _) _
    have KP1 := Lib.hid KP
    have KS01 := Lib.hid KS0
    have KS11 := Lib.hid KS1
    have LE1 := Lib.hid LE
    clear hc D0 KP KS0 KS1 LE
    go_enter Try.func70, Try.ntmps70
    go_upto_region 2 with fail
    rw [← hG]
    clear hG
    (try simp only [List.append_eq, List.cons_append, List.nil_append])
    have hS := S0
    refine reg_begin (fun w' => w'.cell? ⟨w.heap.size, 0, none⟩ = some (.int .i64 m) ∧ w'.cell? ⟨w.heap.size, 1, none⟩ = some (.int .i64 n) ∧ w'.cell? ⟨w.heap.size, 2, none⟩ = some (.slice b xs.length cap) ∧ w'.cell? ⟨w.heap.size + 1, 0, none⟩ = some (.bool true) ∧ w'.cell? ⟨w.heap.size + 1, 1, none⟩ = some (.int .i64 a) ∧ Lv5 (w.heap.size + 1 + 1) w' ∧ Lv5 (w.heap.size + 1 + 1 + 1) w' ∧ Below (w.heap.size + 1 + 1) G w') (by kernel_rfl) hS ?_
    refine reg_take 0 (v := ?_) rfl (by kernel_rfl) (by kernel_rfl) (by kernel_rfl) (fun _ _ _ h => h) (by rfl) (by intro w hSw; (try dsimp only at hSw); go_simp; first | done | with_reducible rfl) hS ?_
    (try simp only [Act.put, List.setIfInBounds_toArray, List.set_cons_zero, List.set_cons_succ])
    refine reg_take 1 (v := ?_) rfl (by kernel_rfl) (by kernel_rfl) (by kernel_rfl) (fun _ _ _ h => h) (by rfl) (by intro w hSw; (try dsimp only at hSw); go_simp; first | done | with_reducible rfl) hS ?_
    (try simp only [Act.put, List.setIfInBounds_toArray, List.set_cons_zero, List.set_cons_succ])
    refine reg_take 2 (v := ?_) rfl (by kernel_rfl) (by kernel_rfl) (by kernel_rfl) (fun _ _ _ h => h) (by rfl) (by intro w hSw; (try dsimp only at hSw); go_simp; first | done | with_reducible rfl) hS ?_
    (try simp only [Act.put, List.setIfInBounds_toArray, List.set_cons_zero, List.set_cons_succ])
    refine reg_take 3 (v := ?_) rfl (by kernel_rfl) (by kernel_rfl) (by kernel_rfl) (fun _ _ _ h => h) (by rfl) (by intro w hSw; (try dsimp only at hSw); go_simp; first | done | with_reducible rfl) hS ?_
    (try simp only [Act.put, List.setIfInBounds_toArray, List.set_cons_zero, List.set_cons_succ])
    refine reg_take 4 (v := ?_) rfl (by kernel_rfl) (by kernel_rfl) (by kernel_rfl) (fun _ _ _ h => h) (by rfl) (by intro w hSw; (try dsimp only at hSw); go_simp; first | done | with_reducible rfl) hS ?_
    (try simp only [Act.put, List.setIfInBounds_toArray, List.set_cons_zero, List.set_cons_succ])
    refine reg_take 6 (v := ?_) rfl (by kernel_rfl) (by kernel_rfl) (by kernel_rfl) (fun _ _ _ h => h) (by rfl) (by intro w hSw; (try dsimp only at hSw); go_simp; first | done | with_reducible rfl) hS ?_
    (try simp only [Act.put, List.setIfInBounds_toArray, List.set_cons_zero, List.set_cons_succ])
    refine reg_take 7 (v := ?_) rfl (by kernel_rfl) (by kernel_rfl) (by kernel_rfl) (fun _ _ _ h => h) (by rfl) (by intro w hSw; (try dsimp only at hSw); go_simp; first | done | with_reducible rfl) hS ?_
    (try simp only [Act.put, List.setIfInBounds_toArray, List.set_cons_zero, List.set_cons_succ])
    refine reg_take 8 (v := ?_) rfl (by kernel_rfl) (by kernel_rfl) (by kernel_rfl) (fun _ _ _ h => h) (by rfl) (by intro w hSw; (try dsimp only at hSw); go_simp; first | done | with_reducible rfl) hS ?_
    (try simp only [Act.put, List.setIfInBounds_toArray, List.set_cons_zero, List.set_cons_succ])
    refine reg_take 9 (v := ?_) rfl (by kernel_rfl) (by kernel_rfl) (by kernel_rfl) (fun _ _ _ h => h) (by rfl) (by intro w hSw; (try dsimp only at hSw); go_simp; first | done | with_reducible rfl) hS ?_
    (try simp only [Act.put, List.setIfInBounds_toArray, List.set_cons_zero, List.set_cons_succ])
    refine reg_take 10 (v := ?_) rfl (by kernel_rfl) (by kernel_rfl) (by kernel_rfl) (fun _ _ _ h => h) (by rfl) (by intro w hSw; (try dsimp only at hSw); go_simp; first | done | with_reducible rfl) hS ?_
    (try simp only [Act.put, List.setIfInBounds_toArray, List.set_cons_zero, List.set_cons_succ])
    refine reg_take 11 (v := ?_) rfl (by kernel_rfl) (by kernel_rfl) (by kernel_rfl) (fun _ _ _ h => h) (by rfl) (by intro w hSw; (try dsimp only at hSw); go_simp; first | done | with_reducible rfl) hS ?_
    (try simp only [Act.put, List.setIfInBounds_toArray, List.set_cons_zero, List.set_cons_succ])
    refine reg_take 12 (v := ?_) rfl (by kernel_rfl) (by kernel_rfl) (by kernel_rfl) (fun _ _ _ h => h) (by rfl) (by intro w hSw; (try dsimp only at hSw); go_simp; first | done | with_reducible rfl) hS ?_
    (try simp only [Act.put, List.setIfInBounds_toArray, List.set_cons_zero, List.set_cons_succ])
    refine reg_take 13 (v := ?_) rfl (by kernel_rfl) (by kernel_rfl) (by kernel_rfl) (fun _ _ _ h => h) (by rfl) (by intro w hSw; (try dsimp only at hSw); go_simp; first | done | with_reducible rfl) hS ?_
    (try simp only [Act.put, List.setIfInBounds_toArray, List.set_cons_zero, List.set_cons_succ])
    refine reg_take 14 (v := ?_) rfl (by kernel_rfl) (by kernel_rfl) (by kernel_rfl) (fun _ _ _ h => h) (by rfl) (by intro w hSw; (try dsimp only at hSw); go_simp; first | done | with_reducible rfl) hS ?_
    (try simp only [Act.put, List.setIfInBounds_toArray, List.set_cons_zero, List.set_cons_succ])
    refine reg_take 15 (v := ?_) rfl (by kernel_rfl) (by kernel_rfl) (by kernel_rfl) (fun _ _ _ h => h) (by rfl) (by intro w hSw; (try dsimp only at hSw); go_simp; first | done | with_reducible rfl) hS ?_
    (try simp only [Act.put, List.setIfInBounds_toArray, List.set_cons_zero, List.set_cons_succ])
    refine reg_call 5 rfl (by kernel_rfl) (by rfl) (fun K hK => ?_)
    go_simp
    go_at_call 35
    refine (args_eqL (C1.out _ hS) (by with_reducible rfl)).mono ?_
    rintro e uA ⟨vA, rfl, RA, hb⟩
    obtain ⟨aA, cA, rfl⟩ := RA.form
    have RA0 := Lib.hid RA
    have hsA := LE1.out _ hS
    have hsA1 := hb.size
    clear RA
    refine hK.out _ _ (KP1.out _ _ hb hS) (fun hS' => ?_)
    clear hK K hS
    have hS := hS'
    clear hS' hb
    try (try simp only [Act.put, List.setIfInBounds_toArray, List.set_cons_zero, List.set_cons_succ])
    refine reg_call 16 rfl (by kernel_rfl) (by rfl) (fun K hK => ?_)
    go_simp
    go_at_call 35
    refine (args_eqL (C2.out _ hS) (by first | with_reducible rfl | rw [hwr.out])).mono ?_
    rintro e uB ⟨vB, rfl, RB, hb⟩
    obtain ⟨aB, cB, rfl⟩ := RB.form
    have RB0 := Lib.hid RB
    have hsB1 := hb.size
    have RA1 := Lib.hid (RA0.out.below hb)
    clear RB
    refine hK.out _ _ (KP1.out _ _ hb hS) (fun hS' => ?_)
    clear hK K hS
    have hS := hS'
    clear hS' hb
    try (try simp only [Act.put, List.setIfInBounds_toArray, List.set_cons_zero, List.set_cons_succ])
    refine reg_call 17 rfl (by kernel_rfl) (by rfl) (fun K hK => ?_)
    have dA := Lib.hid hS.2.2.2.2.2.1
    have dB := Lib.hid hS.2.2.2.2.2.2.1
    have e0 := (hS.2.2.2.2.2.1 0 (by omega)).1
    have e1 := (hS.2.2.2.2.2.1 1 (by omega)).1
    have e2 := (hS.2.2.2.2.2.1 2 (by omega)).1
    have e3 := (hS.2.2.2.2.2.1 3 (by omega)).1
    have e4 := (hS.2.2.2.2.2.1 4 (by omega)).1
    have f0 := (hS.2.2.2.2.2.1 0 (by omega)).2
    have f1 := (hS.2.2.2.2.2.1 1 (by omega)).2
    have f2 := (hS.2.2.2.2.2.1 2 (by omega)).2
    have f3 := (hS.2.2.2.2.2.1 3 (by omega)).2
    have f4 := (hS.2.2.2.2.2.1 4 (by omega)).2
    go_simp
    refine hK.out _ _ (KS01.out _ (.int .i64 a) (.int .i64 n) (.slice aA (restr 0 0 a n xs).length cA) (.int .i64 0) (.int .i64 0) hS) (fun hS' => ?_)
    clear hK K hS e0 e1 e2 e3 e4 f0 f1 f2 f3 f4
    have hS := hS'
    clear hS'
    try (try simp only [Act.put, List.setIfInBounds_toArray, List.set_cons_zero, List.set_cons_succ])
    refine reg_call 18 rfl (by kernel_rfl) (by rfl) (fun K hK => ?_)
    have e0 := (hS.2.2.2.2.2.2.1 0 (by omega)).1
    have e1 := (hS.2.2.2.2.2.2.1 1 (by omega)).1
    have e2 := (hS.2.2.2.2.2.2.1 2 (by omega)).1
    have e3 := (hS.2.2.2.2.2.2.1 3 (by omega)).1
    have e4 := (hS.2.2.2.2.2.2.1 4 (by omega)).1
    have f0 := (hS.2.2.2.2.2.2.1 0 (by omega)).2
    have f1 := (hS.2.2.2.2.2.2.1 1 (by omega)).2
    have f2 := (hS.2.2.2.2.2.2.1 2 (by omega)).2
    have f3 := (hS.2.2.2.2.2.2.1 3 (by omega)).2
    have f4 := (hS.2.2.2.2.2.2.1 4 (by omega)).2
    go_simp
    refine hK.out _ _ (KS11.out _ (.int .i64 (m - a)) (.int .i64 n) (.slice aB (restr a 0 (m - a) n xs).length cB) (.int .i64 a) (.int .i64 0) hS) (fun hS' => ?_)
    clear hK K hS e0 e1 e2 e3 e4 f0 f1 f2 f3 f4
    have hS := hS'
    clear hS'
    try (try simp only [Act.put, List.setIfInBounds_toArray, List.set_cons_zero, List.set_cons_succ])
    refine wpAnyH_done (by kernel_rfl) ?_ _
    have HBZ := Lib.hid (HG.out.trans (hS.2.2.2.2.2.2.2.mono (Nat.le_add_right _ 2)))
    clear hS KP1 KS01 KS11 LE1 C1 C2
    go_wp2_with fail
    have d0 := (dA.out 0 (by omega)).1
    have g0 := (dB.out 0 (by omega)).1
    have d1 := (dA.out 1 (by omega)).1
    have g1 := (dB.out 1 (by omega)).1
    have d2 := (dA.out 2 (by omega)).1
    have g2 := (dB.out 2 (by omega)).1
    have d3 := (dA.out 3 (by omega)).1
    have g3 := (dB.out 3 (by omega)).1
    have d4 := (dA.out 4 (by omega)).1
    have g4 := (dB.out 4 (by omega)).1
    have eD : G.drew.heap.size = G.heap.size := rfl
    refine bodyPost_ret (v := .tuple #[.agg #[.int .i64 a, .int .i64 n, .slice aA (restr 0 0 a n xs).length cA, .int .i64 0, .int .i64 0], .agg #[.int .i64 (m - a), .int .i64 n, .slice aB (restr a 0 (m - a) n xs).length cB, .int .i64 a, .int .i64 0]]) (by simp [results, Try.results70, go_sem, d0, g0, d1, g1, d2, g2, d3, g3, d4, g4]) rfl ⟨_, _, uA.heap.size, rfl, ?_, ?_, ?_, ?_, ?_⟩
    · refine PatIn.wide (lo := G.drew.heap.size) (hi := uA.heap.size) ?_ (by omega) (Nat.le_refl _)
      refine ((((((((((RA1.out.set_far ?_ _).set_far ?_ _).set_far ?_ _).set_far ?_ _).set_far ?_ _).set_far ?_ _).set_far ?_ _).set_far ?_ _).set_far ?_ _).set_far ?_ _) <;> (simp <;> omega)
    · refine PatIn.wide (lo := uA.heap.size) (hi := uB.heap.size) ?_ (by omega) (by simp [World.setCell])
      refine ((((((((((RB0.out.set_far ?_ _).set_far ?_ _).set_far ?_ _).set_far ?_ _).set_far ?_ _).set_far ?_ _).set_far ?_ _).set_far ?_ _).set_far ?_ _).set_far ?_ _) <;> (simp <;> omega)
    · omega
    · simp [World.setCell]; omega
    · exact HBZ.out

end Go.Proofs.Ytboahceibeeifaa
