/- Joins: the program's fits. -/
import Derived.Test.YtboahceibeeifaaJnIu
import Derived.Deep.RegionLaw
import Derived.Deep.RegionHeld3
set_option linter.unusedSimpArgs false
set_option linter.unusedVariables false
namespace Go.Proofs.Ytboahceibeeifaa
open Go.ChangeShapes Go.WideShapes Go.ChangeAt Go.RowKit

theorem fit_nat {us : List U6} {up : Bool} {A B : Nat} (a2 : A < us.length) (b2 : B < us.length) (h : A ≠ B) : decide (FitJ us ⟨up, A, B⟩) = ((!(un us A).j && !(un us B).j) && decide (Side up (un us A).p (un us B).p)) := by
  have e : FitJ us ⟨up, A, B⟩ ↔ ((un us A).j = false ∧ (un us B).j = false ∧ Side up (un us A).p (un us B).p) := by
    unfold FitJ InU
    simp only [Int.toNat_natCast]
    constructor
    · rintro ⟨_, _, _, x, y, z⟩; exact ⟨x, y, z⟩
    · rintro ⟨x, y, z⟩; exact ⟨by omega, by omega, by omega, x, y, z⟩
  rw [Bool.eq_iff_iff]
  simp [e, and_assoc]
theorem fit_same {us : List U6} {up : Bool} {A : Nat} : decide (FitJ us ⟨up, A, A⟩) = false := decide_eq_false (fun k => k.2.2.1 rfl)
theorem fit_out {us : List U6} {up : Bool} {a b : Int} (h : ¬ (InU us.length a ∧ InU us.length b)) : decide (FitJ us ⟨up, a, b⟩) = false := decide_eq_false (fun k => h ⟨k.1, k.2.1⟩)
theorem bel_ad (w : World) (o : Obj) : Below w.drew.heap.size w.drew ((w.alloc o).drew) := bel0 w.drew o
theorem bel_ad2 (w : World) (o p : Obj) : Below w.drew.heap.size w.drew (((w.alloc o).alloc p).drew) := bel_n (bel0 w.drew o) (Nat.le_refl _) p

set_option maxHeartbeats 3200000 in
set_option maxRecDepth 20000 in
theorem Fits_any (lo hi : Nat) (m n : Int) (N : Nat) (v : Value) (us : List U6) (up : Bool) (a b : Int) (w : World) (hm : m ≤ 12) (hn : n ≤ 12) (r : UnIn lo hi w v us) (hhi : hi ≤ w.heap.size) (ok : UOk m n N us) :
    Calls Try.prog 66 #[.agg #[.bool up, .int .i64 a, .int .i64 b], v] w fun e w' => e = .returned (.bool (decide (FitJ us ⟨up, a, b⟩))) ∧ Below w.heap.size w w' := by
  obtain ⟨av, cv, rfl⟩ := r.form
  have R := Lib.hid r
  have hl := r.1
  have HU := Lib.hid (fun u => HasUnits_any up a b us.length u)
  clear r
  by_cases h0 : InU us.length a ∧ InU us.length b
  · rw [show decide (InU us.length a ∧ InU us.length b) = true from decide_eq_true h0] at HU
    obtain ⟨⟨a0, a1⟩, b0, b1⟩ := h0
    obtain ⟨A, rfl⟩ : ∃ A : Nat, a = A := ⟨a.toNat, by omega⟩
    obtain ⟨B, rfl⟩ : ∃ B : Nat, b = B := ⟨b.toNat, by omega⟩
    have a2 : A < us.length := by omega
    have b2 : B < us.length := by omega
    have FA := ok.1 A a2
    have FB := ok.1 B b2
    by_cases h1 : A = B
    · subst h1
      rw [fit_same]
      have hd : ((A : Int) == (A : Int)) = true := by simp
      clear FA FB ok a0 b0
      go_enter Try.func66, Try.ntmps66
      go_wp2_with fail
      refine (args_eqL (HU.out _) (by with_reducible rfl)).mono ?_
      rintro e w1 ⟨rfl, hb1⟩
      have c0 := kept (p := ⟨w.heap.size, 0, none⟩) (x := .bool up) hb1 (by go_simp)
      have c1 := kept (p := ⟨w.heap.size, 1, none⟩) (x := .int .i64 A) hb1 (by go_simp)
      have c2 := kept (p := ⟨w.heap.size, 2, none⟩) (x := .int .i64 A) hb1 (by go_simp)
      have HB := Lib.hid (bel_c (bel0 w (.cells #[.bool up, .int .i64 A, .int .i64 A] 40)) (Nat.le_refl _) hb1)
      clear hb1
      go_wp2_with fail
      go_ret
      exact ⟨rfl, HB.out⟩
    · have HE : Hid (decide (FitJ us ⟨up, A, B⟩) = ((!(un us A).j && !(un us B).j) && decide (Side up (un us A).p (un us B).p))) := Lib.hid (fit_nat a2 b2 h1)
      have hd : ((A : Int) == (B : Int)) = false := by simp; omega
      obtain ⟨g, hg, hg0, hg1, q, _⟩ := R.out.at (Below.refl _ _) a2
      obtain ⟨g', hg', _, _, q', _⟩ := R.out.at (Below.refl _ _) b2
      obtain rfl : g = g' := by rw [hg] at hg'; simpa using hg'
      obtain rfl : av = some ⟨g, 0, none⟩ := hg
      have HW := Lib.hid (fun u => Whole_any m n up _ _ u hm hn FA FB)
      obtain ⟨d, hd2⟩ : ∃ d, d = decide (Side up (un us A).p (un us B).p) := ⟨_, rfl⟩
      rw [← hd2] at HW HE
      obtain ⟨x, hx⟩ : ∃ x, x = un us A := ⟨_, rfl⟩
      obtain ⟨y, hy⟩ : ∃ y, y = un us B := ⟨_, rfl⟩
      rw [show us.getD A U6.zero = x from hx.symm] at q
      rw [show us.getD B U6.zero = y from hy.symm] at q'
      rw [← hx, ← hy] at HW HE
      obtain ⟨x0, x1, x2, x3, x4, x5⟩ := x
      obtain ⟨y0, y1, y2, y3, y4, y5⟩ := y
      simp only [U6.p] at HW HE
      obtain ⟨q0, q1, q2, q3, q4, q5⟩ := q
      obtain ⟨p0, p1, p2, p3, p4, p5⟩ := q'
      simp only at q0 q1 q2 q3 q4 q5 p0 p1 p2 p3 p4 p5
      clear hx hy hd2 FA FB ok h1 a0 b0 hg'
      rw [HE.out]
      clear HE
      go_enter Try.func66, Try.ntmps66
      go_wp2_with fail
      refine (args_eqL (HU.out _) (by with_reducible rfl)).mono ?_
      rintro e w1 ⟨rfl, hb1⟩
      have BB := bel0 w (.cells #[.bool up, .int .i64 A, .int .i64 B] 40)
      have c0 := kept (p := ⟨w.heap.size, 0, none⟩) (x := .bool up) hb1 (by go_simp)
      have c1 := kept (p := ⟨w.heap.size, 1, none⟩) (x := .int .i64 A) hb1 (by go_simp)
      have c2 := kept (p := ⟨w.heap.size, 2, none⟩) (x := .int .i64 B) hb1 (by go_simp)
      have q0 := kept hb1 (kept BB q0)
      have q1 := kept hb1 (kept BB q1)
      have q2 := kept hb1 (kept BB q2)
      have q3 := kept hb1 (kept BB q3)
      have q4 := kept hb1 (kept BB q4)
      have q5 := kept hb1 (kept BB q5)
      have p0 := kept hb1 (kept BB p0)
      have p1 := kept hb1 (kept BB p1)
      have p2 := kept hb1 (kept BB p2)
      have p3 := kept hb1 (kept BB p3)
      have p4 := kept hb1 (kept BB p4)
      have p5 := kept hb1 (kept BB p5)
      have HB := Lib.hid (bel_c BB (Nat.le_refl _) hb1)
      have hgw : g < w1.heap.size := lt_of_cell q0
      have hww : w.heap.size < w1.heap.size := lt_of_cell c0
      clear BB hb1
      have D0 : Below w1.heap.size w1 w1.drew := ⟨rfl, rfl, rfl, Nat.le_refl _, fun _ _ => rfl⟩
      have KP : ∀ u v : World, Below u.heap.size u v → (u.cell? ⟨w.heap.size, 0, none⟩ = some (.bool up) ∧ u.cell? ⟨w.heap.size, 1, none⟩ = some (.int .i64 A) ∧ u.cell? ⟨w.heap.size, 2, none⟩ = some (.int .i64 B) ∧ u.cell? ⟨g, A * 6, none⟩ = some (.int .i64 x0) ∧ u.cell? ⟨g, A * 6 + 1, none⟩ = some (.int .i64 x1) ∧ u.cell? ⟨g, A * 6 + 2, none⟩ = some (.int .i64 x2) ∧ u.cell? ⟨g, A * 6 + 3, none⟩ = some (.int .i64 x3) ∧ u.cell? ⟨g, A * 6 + 4, none⟩ = some (.int .i64 x4) ∧ u.cell? ⟨g, A * 6 + 5, none⟩ = some (.bool x5) ∧ u.cell? ⟨g, B * 6, none⟩ = some (.int .i64 y0) ∧ u.cell? ⟨g, B * 6 + 1, none⟩ = some (.int .i64 y1) ∧ u.cell? ⟨g, B * 6 + 2, none⟩ = some (.int .i64 y2) ∧ u.cell? ⟨g, B * 6 + 3, none⟩ = some (.int .i64 y3) ∧ u.cell? ⟨g, B * 6 + 4, none⟩ = some (.int .i64 y4) ∧ u.cell? ⟨g, B * 6 + 5, none⟩ = some (.bool y5) ∧ Below w1.heap.size w1 u) → (v.cell? ⟨w.heap.size, 0, none⟩ = some (.bool up) ∧ v.cell? ⟨w.heap.size, 1, none⟩ = some (.int .i64 A) ∧ v.cell? ⟨w.heap.size, 2, none⟩ = some (.int .i64 B) ∧ v.cell? ⟨g, A * 6, none⟩ = some (.int .i64 x0) ∧ v.cell? ⟨g, A * 6 + 1, none⟩ = some (.int .i64 x1) ∧ v.cell? ⟨g, A * 6 + 2, none⟩ = some (.int .i64 x2) ∧ v.cell? ⟨g, A * 6 + 3, none⟩ = some (.int .i64 x3) ∧ v.cell? ⟨g, A * 6 + 4, none⟩ = some (.int .i64 x4) ∧ v.cell? ⟨g, A * 6 + 5, none⟩ = some (.bool x5) ∧ v.cell? ⟨g, B * 6, none⟩ = some (.int .i64 y0) ∧ v.cell? ⟨g, B * 6 + 1, none⟩ = some (.int .i64 y1) ∧ v.cell? ⟨g, B * 6 + 2, none⟩ = some (.int .i64 y2) ∧ v.cell? ⟨g, B * 6 + 3, none⟩ = some (.int .i64 y3) ∧ v.cell? ⟨g, B * 6 + 4, none⟩ = some (.int .i64 y4) ∧ v.cell? ⟨g, B * 6 + 5, none⟩ = some (.bool y5) ∧ Below w1.heap.size w1 v) := fun u v hb h => ⟨kept hb h.1, kept hb h.2.1, kept hb h.2.2.1, kept hb h.2.2.2.1, kept hb h.2.2.2.2.1, kept hb h.2.2.2.2.2.1, kept hb h.2.2.2.2.2.2.1, kept hb h.2.2.2.2.2.2.2.1, kept hb h.2.2.2.2.2.2.2.2.1, kept hb h.2.2.2.2.2.2.2.2.2.1, kept hb h.2.2.2.2.2.2.2.2.2.2.1, kept hb h.2.2.2.2.2.2.2.2.2.2.2.1, kept hb h.2.2.2.2.2.2.2.2.2.2.2.2.1, kept hb h.2.2.2.2.2.2.2.2.2.2.2.2.2.1, kept hb h.2.2.2.2.2.2.2.2.2.2.2.2.2.2.1, bel_c h.2.2.2.2.2.2.2.2.2.2.2.2.2.2.2 (Nat.le_refl _) hb⟩
      have S0 : w1.drew.cell? ⟨w.heap.size, 0, none⟩ = some (.bool up) ∧ w1.drew.cell? ⟨w.heap.size, 1, none⟩ = some (.int .i64 A) ∧ w1.drew.cell? ⟨w.heap.size, 2, none⟩ = some (.int .i64 B) ∧ w1.drew.cell? ⟨g, A * 6, none⟩ = some (.int .i64 x0) ∧ w1.drew.cell? ⟨g, A * 6 + 1, none⟩ = some (.int .i64 x1) ∧ w1.drew.cell? ⟨g, A * 6 + 2, none⟩ = some (.int .i64 x2) ∧ w1.drew.cell? ⟨g, A * 6 + 3, none⟩ = some (.int .i64 x3) ∧ w1.drew.cell? ⟨g, A * 6 + 4, none⟩ = some (.int .i64 x4) ∧ w1.drew.cell? ⟨g, A * 6 + 5, none⟩ = some (.bool x5) ∧ w1.drew.cell? ⟨g, B * 6, none⟩ = some (.int .i64 y0) ∧ w1.drew.cell? ⟨g, B * 6 + 1, none⟩ = some (.int .i64 y1) ∧ w1.drew.cell? ⟨g, B * 6 + 2, none⟩ = some (.int .i64 y2) ∧ w1.drew.cell? ⟨g, B * 6 + 3, none⟩ = some (.int .i64 y3) ∧ w1.drew.cell? ⟨g, B * 6 + 4, none⟩ = some (.int .i64 y4) ∧ w1.drew.cell? ⟨g, B * 6 + 5, none⟩ = some (.bool y5) ∧ Below w1.heap.size w1 w1.drew := ⟨kept D0 c0, kept D0 c1, kept D0 c2, kept D0 q0, kept D0 q1, kept D0 q2, kept D0 q3, kept D0 q4, kept D0 q5, kept D0 p0, kept D0 p1, kept D0 p2, kept D0 p3, kept D0 p4, kept D0 p5, D0⟩
      clear D0
      go_wp2_with fail
      go_region_held3 (fun w' => w'.cell? ⟨w.heap.size, 0, none⟩ = some (.bool up) ∧ w'.cell? ⟨w.heap.size, 1, none⟩ = some (.int .i64 A) ∧ w'.cell? ⟨w.heap.size, 2, none⟩ = some (.int .i64 B) ∧ w'.cell? ⟨g, A * 6, none⟩ = some (.int .i64 x0) ∧ w'.cell? ⟨g, A * 6 + 1, none⟩ = some (.int .i64 x1) ∧ w'.cell? ⟨g, A * 6 + 2, none⟩ = some (.int .i64 x2) ∧ w'.cell? ⟨g, A * 6 + 3, none⟩ = some (.int .i64 x3) ∧ w'.cell? ⟨g, A * 6 + 4, none⟩ = some (.int .i64 x4) ∧ w'.cell? ⟨g, A * 6 + 5, none⟩ = some (.bool x5) ∧ w'.cell? ⟨g, B * 6, none⟩ = some (.int .i64 y0) ∧ w'.cell? ⟨g, B * 6 + 1, none⟩ = some (.int .i64 y1) ∧ w'.cell? ⟨g, B * 6 + 2, none⟩ = some (.int .i64 y2) ∧ w'.cell? ⟨g, B * 6 + 3, none⟩ = some (.int .i64 y3) ∧ w'.cell? ⟨g, B * 6 + 4, none⟩ = some (.int .i64 y4) ∧ w'.cell? ⟨g, B * 6 + 5, none⟩ = some (.bool y5) ∧ Below w1.heap.size w1 w') (first | assumption | (with_reducible exact KP _ _ (bel_ad _ _) S0) | (with_reducible exact KP _ _ (bel_ad2 _ _ _) S0))
        (fail)
      all_goals
        clear KP S0 q0 q1 q2 q3 q4 q5 p0 p1 p2 p3 p4 p5
        cases x5
      all_goals cases y5
      all_goals
        go_wp2_with fail
        first
          | (go_ret; exact ⟨rfl, bel_c HB.out (Nat.le_refl _) (bel_dr9 (bel_n (bel0 w1 _) (Nat.le_refl _) _))⟩)
          | (refine (args_eqL (HW.out _) (by with_reducible rfl)).mono ?_
             rintro e w2 ⟨rfl, hb2⟩
             have HB2 := Lib.hid (bel_c (bel_c HB.out (Nat.le_refl _) (bel_dr9 (bel_n (bel0 w1 _) (Nat.le_refl _) _))) (Nat.le_refl _) hb2)
             clear hb2
             go_wp2_with fail
             go_ret
             exact ⟨rfl, HB2.out⟩)
  · rw [fit_out h0]
    rw [show decide (InU us.length a ∧ InU us.length b) = false from decide_eq_false h0] at HU
    clear h0 ok
    go_enter Try.func66, Try.ntmps66
    go_wp2_with fail
    refine (args_eqL (HU.out _) (by with_reducible rfl)).mono ?_
    rintro e w1 ⟨rfl, hb1⟩
    have HB := Lib.hid (bel_c (bel0 w (.cells #[.bool up, .int .i64 a, .int .i64 b] 40)) (Nat.le_refl _) hb1)
    clear hb1
    go_wp2_with fail
    go_ret
    exact ⟨rfl, HB.out⟩

end Go.Proofs.Ytboahceibeeifaa
