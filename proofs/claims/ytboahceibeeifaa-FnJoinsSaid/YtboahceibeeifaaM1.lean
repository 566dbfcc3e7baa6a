/- Rows of units: an element stored; a row that is owned. Joins: the program's haveWholeSide, sewn and lengthOfSeam. Joins: the program's fits. Joins: the program's unitsOf. Joins: the program's UnitBox and AreJoins. Joins: AreJoins of the program, handed a row of the wrong length. Joins: the program's LongestSeam. -/
import Derived.Test.YtboahceibeeifaaUnF
import Derived.Test.YtboahceibeeifaaBlkR
import Derived.Laws.OwnMore
import Derived.Test.YtboahceibeeifaaM3
import Derived.Test.YtboahceibeeifaaLayB
import Derived.Deep.RegionLaw
import Derived.Deep.RegionHeld3
import Derived.Test.YtboahceibeeifaaM7
import Derived.Test.YtboahceibeeifaaLayIk

set_option linter.unusedSimpArgs false
set_option linter.unusedVariables false
namespace Go.Proofs.Ytboahceibeeifaa
open Go.ChangeShapes Go.WideShapes Go.ChangeAt Go.RowKit

abbrev setUn (w : World) (g j : Nat) (v0 : Int) (v1 : Int) (v2 : Int) (v3 : Int) (v4 : Int) (v5 : Bool) : World := ((((((w.setCell ⟨g, j * 6, none⟩ (.int .i64 v0)).setCell ⟨g, j * 6 + 1, none⟩ (.int .i64 v1)).setCell ⟨g, j * 6 + 2, none⟩ (.int .i64 v2)).setCell ⟨g, j * 6 + 3, none⟩ (.int .i64 v3)).setCell ⟨g, j * 6 + 4, none⟩ (.int .i64 v4)).setCell ⟨g, j * 6 + 5, none⟩ (.bool v5))
theorem ElUn.set_same {w : World} {g j : Nat} {c : U6} (h : ElUn w g j c) (v0 : Int) (v1 : Int) (v2 : Int) (v3 : Int) (v4 : Int) (v5 : Bool) : ElUn (setUn w g j v0 v1 v2 v3 v4 v5) g j ⟨v0, v1, v2, v3, v4, v5⟩ := by
  obtain ⟨h0, h1, h2, h3, h4, h5⟩ := h
  refine ⟨?_, ?_, ?_, ?_, ?_, ?_⟩
  · rw [World.cell?_setCell_other _ _ _ _ (ad_ne (by omega)), World.cell?_setCell_other _ _ _ _ (ad_ne (by omega)), World.cell?_setCell_other _ _ _ _ (ad_ne (by omega)), World.cell?_setCell_other _ _ _ _ (ad_ne (by omega)), World.cell?_setCell_other _ _ _ _ (ad_ne (by omega))]
    exact World.cell?_setCell_same _ _ _ (by exact h0)
  · rw [World.cell?_setCell_other _ _ _ _ (ad_ne (by omega)), World.cell?_setCell_other _ _ _ _ (ad_ne (by omega)), World.cell?_setCell_other _ _ _ _ (ad_ne (by omega)), World.cell?_setCell_other _ _ _ _ (ad_ne (by omega))]
    exact World.cell?_setCell_same _ _ _ (by rw [World.cell?_setCell_other _ _ _ _ (ad_ne (by omega))]; exact h1)
  · rw [World.cell?_setCell_other _ _ _ _ (ad_ne (by omega)), World.cell?_setCell_other _ _ _ _ (ad_ne (by omega)), World.cell?_setCell_other _ _ _ _ (ad_ne (by omega))]
    exact World.cell?_setCell_same _ _ _ (by rw [World.cell?_setCell_other _ _ _ _ (ad_ne (by omega)), World.cell?_setCell_other _ _ _ _ (ad_ne (by omega))]; exact h2)
  · rw [World.cell?_setCell_other _ _ _ _ (ad_ne (by omega)), World.cell?_setCell_other _ _ _ _ (ad_ne (by omega))]
    exact World.cell?_setCell_same _ _ _ (by rw [World.cell?_setCell_other _ _ _ _ (ad_ne (by omega)), World.cell?_setCell_other _ _ _ _ (ad_ne (by omega)), World.cell?_setCell_other _ _ _ _ (ad_ne (by omega))]; exact h3)
  · rw [World.cell?_setCell_other _ _ _ _ (ad_ne (by omega))]
    exact World.cell?_setCell_same _ _ _ (by rw [World.cell?_setCell_other _ _ _ _ (ad_ne (by omega)), World.cell?_setCell_other _ _ _ _ (ad_ne (by omega)), World.cell?_setCell_other _ _ _ _ (ad_ne (by omega)), World.cell?_setCell_other _ _ _ _ (ad_ne (by omega))]; exact h4)
  · exact World.cell?_setCell_same _ _ _ (by rw [World.cell?_setCell_other _ _ _ _ (ad_ne (by omega)), World.cell?_setCell_other _ _ _ _ (ad_ne (by omega)), World.cell?_setCell_other _ _ _ _ (ad_ne (by omega)), World.cell?_setCell_other _ _ _ _ (ad_ne (by omega)), World.cell?_setCell_other _ _ _ _ (ad_ne (by omega))]; exact h5)
theorem ElUn.set_other {w : World} {g i j : Nat} {c : U6} (h : ElUn w g i c) (hij : i ≠ j) (v0 : Int) (v1 : Int) (v2 : Int) (v3 : Int) (v4 : Int) (v5 : Bool) : ElUn (setUn w g j v0 v1 v2 v3 v4 v5) g i c := by
  obtain ⟨h0, h1, h2, h3, h4, h5⟩ := h
  refine ⟨?_, ?_, ?_, ?_, ?_, ?_⟩
  all_goals
    rw [World.cell?_setCell_other _ _ _ _ (ad_ne (by omega)), World.cell?_setCell_other _ _ _ _ (ad_ne (by omega)), World.cell?_setCell_other _ _ _ _ (ad_ne (by omega)), World.cell?_setCell_other _ _ _ _ (ad_ne (by omega)), World.cell?_setCell_other _ _ _ _ (ad_ne (by omega)), World.cell?_setCell_other _ _ _ _ (ad_ne (by omega))]
    assumption
theorem SoftUn.set {w : World} {g i j : Nat} (h : SoftUn w g i) (v0 : Int) (v1 : Int) (v2 : Int) (v3 : Int) (v4 : Int) (v5 : Bool) : SoftUn (setUn w g j v0 v1 v2 v3 v4 v5) g i := by
  obtain ⟨h0, h1, h2, h3, h4, h5⟩ := h
  refine ⟨?_, ?_, ?_, ?_, ?_, ?_⟩
  all_goals
    rw [World.frozen?_setCell, World.frozen?_setCell, World.frozen?_setCell, World.frozen?_setCell, World.frozen?_setCell, World.frozen?_setCell]
    assumption
theorem UnIn.set {lo hi g n cap : Nat} {w : World} {xs : List U6} (h : UnIn lo hi w (.slice (some ⟨g, 0, none⟩) n cap) xs) (j : Nat) (hj : j < xs.length) (v0 : Int) (v1 : Int) (v2 : Int) (v3 : Int) (v4 : Int) (v5 : Bool) :
    UnIn lo hi (setUn w g j v0 v1 v2 v3 v4 v5) (.slice (some ⟨g, 0, none⟩) n cap) (xs.set j ⟨v0, v1, v2, v3, v4, v5⟩) := by
  obtain ⟨hl, ⟨h, _⟩ | ⟨g', cap', hv, hcp, hg, hlt, hc⟩⟩ := h
  · subst h; simp at hj
  · simp only [Value.slice.injEq, Option.some.injEq, Addr.mk.injEq, and_true] at hv
    obtain ⟨rfl, rfl, rfl⟩ := hv
    refine ⟨by simpa using hl, .inr ⟨g, cap, by simp, by simpa using hcp, hg, hlt, fun i hi => ?_⟩⟩
    rw [List.length_set] at hi
    obtain ⟨h1, h2⟩ := hc i hi
    refine ⟨?_, h2.set v0 v1 v2 v3 v4 v5⟩
    by_cases e : i = j
    · subst e
      have := h1.set_same v0 v1 v2 v3 v4 v5
      simpa [List.getD, hi] using this
    · have := h1.set_other e v0 v1 v2 v3 v4 v5
      simpa [List.getD, List.getElem?_set, e, Ne.symm e] using this

theorem ElUn.set_far {w : World} {g i : Nat} {c : U6} (h : ElUn w g i c) {p : Addr} (hp : p.block ≠ g) (x : Value) : ElUn (w.setCell p x) g i c := by
  obtain ⟨h0, h1, h2, h3, h4, h5⟩ := h
  have hn : ∀ o : Nat, p ≠ ⟨g, o, none⟩ := fun o e => hp (by rw [e])
  exact ⟨(World.cell?_setCell_other _ _ _ _ (hn _)).trans h0, (World.cell?_setCell_other _ _ _ _ (hn _)).trans h1, (World.cell?_setCell_other _ _ _ _ (hn _)).trans h2, (World.cell?_setCell_other _ _ _ _ (hn _)).trans h3, (World.cell?_setCell_other _ _ _ _ (hn _)).trans h4, (World.cell?_setCell_other _ _ _ _ (hn _)).trans h5⟩
theorem SoftUn.set_far {w : World} {g i : Nat} (h : SoftUn w g i) (p : Addr) (x : Value) : SoftUn (w.setCell p x) g i := by
  obtain ⟨h0, h1, h2, h3, h4, h5⟩ := h
  exact ⟨(World.frozen?_setCell _ _ _ _).trans h0, (World.frozen?_setCell _ _ _ _).trans h1, (World.frozen?_setCell _ _ _ _).trans h2, (World.frozen?_setCell _ _ _ _).trans h3, (World.frozen?_setCell _ _ _ _).trans h4, (World.frozen?_setCell _ _ _ _).trans h5⟩
theorem UnIn.set_far {lo hi : Nat} {w : World} {v : Value} {xs : List U6} (h : UnIn lo hi w v xs) {p : Addr} (hp : p.block < lo) (x : Value) : UnIn lo hi (w.setCell p x) v xs := by
  obtain ⟨hl, h | ⟨g, cap, hv, hcp, hg, hlt, hc⟩⟩ := h
  · exact ⟨hl, .inl h⟩
  · exact ⟨hl, .inr ⟨g, cap, hv, hcp, hg, hlt, fun i hi => ⟨(hc i hi).1.set_far (by omega) x, (hc i hi).2.set_far p x⟩⟩⟩

/-- Their places. -/
def placesUn (xs : List U6) : List Value := xs.flatMap fun c => [.int .i64 c.x, .int .i64 c.y, .int .i64 c.w, .int .i64 c.h, .int .i64 c.c, .bool c.j]
theorem placesUn_length (xs : List U6) : (placesUn xs).length = xs.length * 6 := by
  induction xs with
  | nil => rfl
  | cons c r ih => simp [placesUn] at ih ⊢; omega
theorem placesUn_at : ∀ (xs : List U6) (i : Nat), i < xs.length → (placesUn xs)[i * 6]? = some (.int .i64 (xs.getD i U6.zero).x) ∧ (placesUn xs)[i * 6 + 1]? = some (.int .i64 (xs.getD i U6.zero).y) ∧ (placesUn xs)[i * 6 + 2]? = some (.int .i64 (xs.getD i U6.zero).w) ∧ (placesUn xs)[i * 6 + 3]? = some (.int .i64 (xs.getD i U6.zero).h) ∧ (placesUn xs)[i * 6 + 4]? = some (.int .i64 (xs.getD i U6.zero).c) ∧ (placesUn xs)[i * 6 + 5]? = some (.bool (xs.getD i U6.zero).j)
  | [], i, h => by simp at h
  | c :: r, 0, _ => ⟨rfl, rfl, rfl, rfl, rfl, rfl⟩
  | c :: r, i + 1, h => by
    have ih := placesUn_at r i (by simpa using h)
    have e : placesUn (c :: r) = .int .i64 c.x :: .int .i64 c.y :: .int .i64 c.w :: .int .i64 c.h :: .int .i64 c.c :: .bool c.j :: placesUn r := rfl
    rw [e, show (i + 1) * 6 = i * 6 + 1 + 1 + 1 + 1 + 1 + 1 by omega]
    exact ih
theorem placesUn_append (xs ys : List U6) : placesUn (xs ++ ys) = placesUn xs ++ placesUn ys := by simp [placesUn]

theorem UnIn.of_owns {w : World} {base e : Nat} {v : Value} {xs : List U6} (h : w.ownsRow base e 6 v xs.length (placesUn xs)) (hl : xs.length ≤ 1048576) : UnIn base w.heap.size w v xs := by
  refine ⟨hl, ?_⟩
  have h0 := h
  obtain ⟨_, ⟨h1, h2⟩ | ⟨g, cap, cur, hv, hg, hh, hcp, _⟩⟩ := h
  · exact .inl ⟨List.length_eq_zero_iff.1 h2, none, 0, h1⟩
  · subst hv
    refine .inr ⟨g, cap, rfl, hcp, hg, lt_of_heap hh, fun i hi => ⟨?_, h0.frozenAt _, h0.frozenAt _, h0.frozenAt _, h0.frozenAt _, h0.frozenAt _, h0.frozenAt _⟩⟩
    obtain ⟨p0, p1, p2, p3, p4, p5⟩ := placesUn_at xs i hi
    exact ⟨(h0.cellAt _ (by omega)).trans p0, (h0.cellAt _ (by omega)).trans p1, (h0.cellAt _ (by omega)).trans p2, (h0.cellAt _ (by omega)).trans p3, (h0.cellAt _ (by omega)).trans p4, (h0.cellAt _ (by omega)).trans p5⟩
theorem placesUn_zero (n : Nat) : (madeCells (Value.agg #[.int .i64 0, .int .i64 0, .int .i64 0, .int .i64 0, .int .i64 0, .bool false]).cells (n * 6)).toList = placesUn (List.replicate n U6.zero) := by
  apply List.ext_getElem?
  intro i
  by_cases h : i < n * 6
  · obtain ⟨k, hk⟩ : ∃ k, i = k * 6 ∨ i = k * 6 + 1 ∨ i = k * 6 + 2 ∨ i = k * 6 + 3 ∨ i = k * 6 + 4 ∨ i = k * 6 + 5 := ⟨i / 6, by omega⟩
    have hkn : k < n := by omega
    obtain ⟨p0, p1, p2, p3, p4, p5⟩ := placesUn_at (List.replicate n U6.zero) k (by simpa using hkn)
    have ez : (List.replicate n U6.zero).getD k U6.zero = U6.zero := by simp [List.getD, hkn]
    rw [ez] at p0 p1 p2 p3 p4 p5
    rcases hk with rfl | rfl | rfl | rfl | rfl | rfl
    · rw [p0]; simp [madeCells, Value.cells, U6.zero, h]
    · rw [p1]; simp [madeCells, Value.cells, U6.zero, h]
    · rw [p2]; simp [madeCells, Value.cells, U6.zero, h]
    · rw [p3]; simp [madeCells, Value.cells, U6.zero, h]
    · rw [p4]; simp [madeCells, Value.cells, U6.zero, h]
    · rw [p5]; simp [madeCells, Value.cells, U6.zero, h]
  · rw [List.getElem?_eq_none (by simp [madeCells]; omega), List.getElem?_eq_none (by rw [placesUn_length]; simp; omega)]

end Go.Proofs.Ytboahceibeeifaa

set_option linter.unusedSimpArgs false
set_option linter.unusedVariables false
namespace Go.Proofs.Ytboahceibeeifaa
open Go.ChangeShapes Go.WideShapes Go.ChangeAt Go.RowKit

set_option maxHeartbeats 1600000 in
set_option maxRecDepth 20000 in
theorem Whole_any (m n : Int) (up : Bool) (a b : P5) (w : World) (hm : m ≤ 12) (hn : n ≤ 12) (ha : Fit m n a) (hb : Fit m n b) :
    Calls Try.prog 75 #[.bool up, .agg #[.int .i64 a.x, .int .i64 a.y, .int .i64 a.w, .int .i64 a.h, .int .i64 a.c], .agg #[.int .i64 b.x, .int .i64 b.y, .int .i64 b.w, .int .i64 b.h, .int .i64 b.c]] w fun e w' => e = .returned (.bool (decide (Side up a b))) ∧ Below w.heap.size w w' := by
  obtain ⟨⟨f00, f01⟩, ⟨f10, f11⟩, ⟨f20, f21⟩, ⟨f30, f31⟩, _⟩ := ha
  obtain ⟨⟨g00, g01⟩, ⟨g10, g11⟩, ⟨g20, g21⟩, ⟨g30, g31⟩, _⟩ := hb
  obtain ⟨ax, ay, aw, ah, ac⟩ := a
  obtain ⟨bx, bY, bw, bh, bc⟩ := b
  simp only at f00 f01 f10 f11 f20 f21 f30 f31 g00 g01 g10 g11 g20 g21 g30 g31
  cases up
  · skip
    have HE : Hid (decide (Side false ⟨ax, ay, aw, ah, ac⟩ ⟨bx, bY, bw, bh, bc⟩) = ((ay + ah == bY) && (ax == bx) && (aw == bw))) := Lib.hid (by
      rw [Bool.eq_iff_iff]; simp [Side, and_assoc])
    obtain ⟨d1, hd1⟩ : ∃ d, (ay + ah == bY) = d := ⟨_, rfl⟩
    obtain ⟨d2, hd2⟩ : ∃ d, (ax == bx) = d := ⟨_, rfl⟩
    obtain ⟨d3, hd3⟩ : ∃ d, (aw == bw) = d := ⟨_, rfl⟩
    rw [hd1, hd2, hd3] at HE
    cases d1
    all_goals cases d2
    all_goals cases d3
    all_goals
      go_enter Try.func75, Try.ntmps75
      go_wp2_with fail
      go_ret
      exact ⟨ret_bool (by rw [HE.out]; rfl), bel_n (bel0 w _) (Nat.le_refl _) _⟩
  · skip
    have HE : Hid (decide (Side true ⟨ax, ay, aw, ah, ac⟩ ⟨bx, bY, bw, bh, bc⟩) = ((ax + aw == bx) && (ay == bY) && (ah == bh))) := Lib.hid (by
      rw [Bool.eq_iff_iff]; simp [Side, and_assoc])
    obtain ⟨d1, hd1⟩ : ∃ d, (ax + aw == bx) = d := ⟨_, rfl⟩
    obtain ⟨d2, hd2⟩ : ∃ d, (ay == bY) = d := ⟨_, rfl⟩
    obtain ⟨d3, hd3⟩ : ∃ d, (ah == bh) = d := ⟨_, rfl⟩
    rw [hd1, hd2, hd3] at HE
    cases d1
    all_goals cases d2
    all_goals cases d3
    all_goals
      go_enter Try.func75, Try.ntmps75
      go_wp2_with fail
      go_ret
      exact ⟨ret_bool (by rw [HE.out]; rfl), bel_n (bel0 w _) (Nat.le_refl _) _⟩

set_option maxHeartbeats 1600000 in
set_option maxRecDepth 20000 in
theorem Sewn_any (m n : Int) (up : Bool) (a b : P5) (w : World) (hm : m ≤ 12) (hn : n ≤ 12) (ha : Fit m n a) (hb : Fit m n b) :
    Calls Try.prog 67 #[.bool up, .agg #[.int .i64 a.x, .int .i64 a.y, .int .i64 a.w, .int .i64 a.h, .int .i64 a.c], .agg #[.int .i64 b.x, .int .i64 b.y, .int .i64 b.w, .int .i64 b.h, .int .i64 b.c]] w fun e w' => e = .returned (.agg #[.int .i64 (sewP up a b).x, .int .i64 (sewP up a b).y, .int .i64 (sewP up a b).w, .int .i64 (sewP up a b).h, .int .i64 (sewP up a b).c]) ∧ Below w.heap.size w w' := by
  obtain ⟨⟨f00, f01⟩, ⟨f10, f11⟩, ⟨f20, f21⟩, ⟨f30, f31⟩, _⟩ := ha
  obtain ⟨⟨g00, g01⟩, ⟨g10, g11⟩, ⟨g20, g21⟩, ⟨g30, g31⟩, _⟩ := hb
  obtain ⟨ax, ay, aw, ah, ac⟩ := a
  obtain ⟨bx, bY, bw, bh, bc⟩ := b
  simp only at f00 f01 f10 f11 f20 f21 f30 f31 g00 g01 g10 g11 g20 g21 g30 g31
  cases up
  · go_enter Try.func67, Try.ntmps67
    go_wp2_with fail
    refine bodyPost_ret (v := .agg #[.int .i64 ax, .int .i64 ay, .int .i64 aw, .int .i64 (ah + bh), .int .i64 ac]) (by simp [results, Try.results67, go_sem]) rfl ⟨by simp [sewP], ?_⟩
    exact bel_n (bel_n (bel0 w _) (Nat.le_refl _) _) (Nat.le_refl _) _
  · go_enter Try.func67, Try.ntmps67
    go_wp2_with fail
    refine bodyPost_ret (v := .agg #[.int .i64 ax, .int .i64 ay, .int .i64 (aw + bw), .int .i64 ah, .int .i64 ac]) (by simp [results, Try.results67, go_sem]) rfl ⟨by simp [sewP], ?_⟩
    exact bel_n (bel_n (bel0 w _) (Nat.le_refl _) _) (Nat.le_refl _) _

theorem Leng_any (up : Bool) (a : P5) (w : World) :
    Calls Try.prog 44 #[.bool up, .agg #[.int .i64 a.x, .int .i64 a.y, .int .i64 a.w, .int .i64 a.h, .int .i64 a.c]] w fun e w' => e = .returned (.int .i64 (if up then a.h else a.w)) ∧ Below w.heap.size w w' := by
  cases up
  all_goals
    go_enter Try.func44, Try.ntmps44
    go_wp2_with fail
    go_ret
    exact ⟨ret_int (by simp), bel0 w _⟩

end Go.Proofs.Ytboahceibeeifaa

set_option linter.unusedSimpArgs false
set_option linter.unusedVariables false
namespace Go.Proofs.Ytboahceibeeifaa
open Go.ChangeShapes Go.WideShapes Go.ChangeAt Go.RowKit

theorem fit_nat {us : List U6} {up : Bool} {A B : Nat} (a2 : A < us.length) (b2 : B < us.length) (h : A ≠ B) : decide (FitJ us ⟨up, A, B⟩) = ((!(un us A).j && !(un us B).j) && decide (Side up (un us A).p (un us B).p)) := by
  have e : FitJ us ⟨up, A, B⟩ ↔ ((un us A).j = false ∧ (un us B).j = false ∧ Side up (un us A).p (un us B).p) := by
    unfold FitJ InU
    simp only [Int.toNat_natCast]
    constructor
    · rintro ⟨_, _, _, x, y, z⟩; exact ⟨x, y, z⟩
    · rintro ⟨x, y, z⟩; exact ⟨by omega, by omega, by omega, x, y, z⟩
  rw [Bool.eq_iff_iff]
  simp [e, and_assoc]
theorem fit_same {us : List U6} {up : Bool} {A : Nat} : decide (FitJ us ⟨up, A, A⟩) = false := decide_eq_false (fun k => k.2.2.1 rfl)
theorem fit_out {us : List U6} {up : Bool} {a b : Int} (h : ¬ (InU us.length a ∧ InU us.length b)) : decide (FitJ us ⟨up, a, b⟩) = false := decide_eq_false (fun k => h ⟨k.1, k.2.1⟩)
theorem bel_ad (w : World) (o : Obj) : Below w.drew.heap.size w.drew ((w.alloc o).drew) := bel0 w.drew o
theorem bel_ad2 (w : World) (o p : Obj) : Below w.drew.heap.size w.drew (((w.alloc o).alloc p).drew) := bel_n (bel0 w.drew o) (Nat.le_refl _) p

set_option maxHeartbeats 3200000 in
set_option maxRecDepth 20000 in
theorem Fits_any (lo hi : Nat) (m n : Int) (N : Nat) (v : Value) (us : List U6) (up : Bool) (a b : Int) (w : World) (hm : m ≤ 12) (hn : n ≤ 12) (r : UnIn lo hi w v us) (hhi : hi ≤ w.heap.size) (ok : UOk m n N us) :
    Calls Try.prog 66 #[.agg #[.bool up, .int .i64 a, .int .i64 b], v] w fun e w' => e = .returned (.bool (decide (FitJ us ⟨up, a, b⟩))) ∧ Below w.heap.size w w' := by
  obtain ⟨av, cv, rfl⟩ := r.form
  have R := Lib.hid r
  have hl := r.1
  have HU := Lib.hid (fun u => HasUnits_any up a b us.length u)
  clear r
  by_cases h0 : InU us.length a ∧ InU us.length b
  · rw [show decide (InU us.length a ∧ InU us.length b) = true from decide_eq_true h0] at HU
    obtain ⟨⟨a0, a1⟩, b0, b1⟩ := h0
    obtain ⟨A, rfl⟩ : ∃ A : Nat, a = A := ⟨a.toNat, by omega⟩
    obtain ⟨B, rfl⟩ : ∃ B : Nat, b = B := ⟨b.toNat, by omega⟩
    have a2 : A < us.length := by omega
    have b2 : B < us.length := by omega
    have FA := ok.1 A a2
    have FB := ok.1 B b2
    by_cases h1 : A = B
    · subst h1
      rw [fit_same]
      have hd : ((A : Int) == (A : Int)) = true := by simp
      clear FA FB ok a0 b0
      go_enter Try.func66, Try.ntmps66
      go_wp2_with fail
      refine (args_eqL (HU.out _) (by with_reducible rfl)).mono ?_
      rintro e w1 ⟨rfl, hb1⟩
      have c0 := kept (p := ⟨w.heap.size, 0, none⟩) (x := .bool up) hb1 (by go_simp)
      have c1 := kept (p := ⟨w.heap.size, 1, none⟩) (x := .int .i64 A) hb1 (by go_simp)
      have c2 := kept (p := ⟨w.heap.size, 2, none⟩) (x := .int .i64 A) hb1 (by go_simp)
      have HB := Lib.hid (bel_c (bel0 w (.cells #[.bool up, .int .i64 A, .int .i64 A] 40)) (Nat.le_refl _) hb1)
      clear hb1
      go_wp2_with fail
      go_ret
      exact ⟨rfl, HB.out⟩
    · have HE : Hid (decide (FitJ us ⟨up, A, B⟩) = ((!(un us A).j && !(un us B).j) && decide (Side up (un us A).p (un us B).p))) := Lib.hid (fit_nat a2 b2 h1)
      have hd : ((A : Int) == (B : Int)) = false := by simp; omega
      obtain ⟨g, hg, hg0, hg1, q, _⟩ := R.out.at (Below.refl _ _) a2
      obtain ⟨g', hg', _, _, q', _⟩ := R.out.at (Below.refl _ _) b2
      obtain rfl : g = g' := by rw [hg] at hg'; simpa using hg'
      obtain rfl : av = some ⟨g, 0, none⟩ := hg
      have HW := Lib.hid (fun u => Whole_any m n up _ _ u hm hn FA FB)
      obtain ⟨d, hd2⟩ : ∃ d, d = decide (Side up (un us A).p (un us B).p) := ⟨_, rfl⟩
      rw [← hd2] at HW HE
      obtain ⟨x, hx⟩ : ∃ x, x = un us A := ⟨_, rfl⟩
      obtain ⟨y, hy⟩ : ∃ y, y = un us B := ⟨_, rfl⟩
      rw [show us.getD A U6.zero = x from hx.symm] at q
      rw [show us.getD B U6.zero = y from hy.symm] at q'
      rw [← hx, ← hy] at HW HE
      obtain ⟨x0, x1, x2, x3, x4, x5⟩ := x
      obtain ⟨y0, y1, y2, y3, y4, y5⟩ := y
      simp only [U6.p] at HW HE
      obtain ⟨q0, q1, q2, q3, q4, q5⟩ := q
      obtain ⟨p0, p1, p2, p3, p4, p5⟩ := q'
      simp only at q0 q1 q2 q3 q4 q5 p0 p1 p2 p3 p4 p5
      clear hx hy hd2 FA FB ok h1 a0 b0 hg'
      rw [HE.out]
      clear HE
      go_enter Try.func66, Try.ntmps66
      go_wp2_with fail
      refine (args_eqL (HU.out _) (by with_reducible rfl)).mono ?_
      rintro e w1 ⟨rfl, hb1⟩
      have BB := bel0 w (.cells #[.bool up, .int .i64 A, .int .i64 B] 40)
      have c0 := kept (p := ⟨w.heap.size, 0, none⟩) (x := .bool up) hb1 (by go_simp)
      have c1 := kept (p := ⟨w.heap.size, 1, none⟩) (x := .int .i64 A) hb1 (by go_simp)
      have c2 := kept (p := ⟨w.heap.size, 2, none⟩) (x := .int .i64 B) hb1 (by go_simp)
      have q0 := kept hb1 (kept BB q0)
      have q1 := kept hb1 (kept BB q1)
      have q2 := kept hb1 (kept BB q2)
      have q3 := kept hb1 (kept BB q3)
      have q4 := kept hb1 (kept BB q4)
      have q5 := kept hb1 (kept BB q5)
      have p0 := kept hb1 (kept BB p0)
      have p1 := kept hb1 (kept BB p1)
      have p2 := kept hb1 (kept BB p2)
      have p3 := kept hb1 (kept BB p3)
      have p4 := kept hb1 (kept BB p4)
      have p5 := kept hb1 (kept BB p5)
      have HB := Lib.hid (bel_c BB (Nat.le_refl _) hb1)
      have hgw : g < w1.heap.size := lt_of_cell q0
      have hww : w.heap.size < w1.heap.size := lt_of_cell c0
      clear BB hb1
      have D0 : Below w1.heap.size w1 w1.drew := ⟨rfl, rfl, rfl, Nat.le_refl _, fun _ _ => rfl⟩
      have KP : ∀ u v : World, Below u.heap.size u v → (u.cell? ⟨w.heap.size, 0, none⟩ = some (.bool up) ∧ u.cell? ⟨w.heap.size, 1, none⟩ = some (.int .i64 A) ∧ u.cell? ⟨w.heap.size, 2, none⟩ = some (.int .i64 B) ∧ u.cell? ⟨g, A * 6, none⟩ = some (.int .i64 x0) ∧ u.cell? ⟨g, A * 6 + 1, none⟩ = some (.int .i64 x1) ∧ u.cell? ⟨g, A * 6 + 2, none⟩ = some (.int .i64 x2) ∧ u.cell? ⟨g, A * 6 + 3, none⟩ = some (.int .i64 x3) ∧ u.cell? ⟨g, A * 6 + 4, none⟩ = some (.int .i64 x4) ∧ u.cell? ⟨g, A * 6 + 5, none⟩ = some (.bool x5) ∧ u.cell? ⟨g, B * 6, none⟩ = some (.int .i64 y0) ∧ u.cell? ⟨g, B * 6 + 1, none⟩ = some (.int .i64 y1) ∧ u.cell? ⟨g, B * 6 + 2, none⟩ = some (.int .i64 y2) ∧ u.cell? ⟨g, B * 6 + 3, none⟩ = some (.int .i64 y3) ∧ u.cell? ⟨g, B * 6 + 4, none⟩ = some (.int .i64 y4) ∧ u.cell? ⟨g, B * 6 + 5, none⟩ = some (.bool y5) ∧ Below w1.heap.size w1 u) → (v.cell? ⟨w.heap.size, 0, none⟩ = some (.bool up) ∧ v.cell? ⟨w.heap.size, 1, none⟩ = some (.int .i64 A) ∧ v.cell? ⟨w.heap.size, 2, none⟩ = some (.int .i64 B) ∧ v.cell? ⟨g, A * 6, none⟩ = some (.int .i64 x0) ∧ v.cell? ⟨g, A * 6 + 1, none⟩ = some (.int .i64 x1) ∧ v.cell? ⟨g, A * 6 + 2, none⟩ = some (.int .i64 x2) ∧ v.cell? ⟨g, A * 6 + 3, none⟩ = some (.int .i64 x3) ∧ v.cell? ⟨g, A * 6 + 4, none⟩ = some (.int .i64 x4) ∧ v.cell? ⟨g, A * 6 + 5, none⟩ = some (.bool x5) ∧ v.cell? ⟨g, B * 6, none⟩ = some (.int .i64 y0) ∧ v.cell? ⟨g, B * 6 + 1, none⟩ = some (.int .i64 y1) ∧ v.cell? ⟨g, B * 6 + 2, none⟩ = some (.int .i64 y2) ∧ v.cell? ⟨g, B * 6 + 3, none⟩ = some (.int .i64 y3) ∧ v.cell? ⟨g, B * 6 + 4, none⟩ = some (.int .i64 y4) ∧ v.cell? ⟨g, B * 6 + 5, none⟩ = some (.bool y5) ∧ Below w1.heap.size w1 v) := fun u v hb h => ⟨kept hb h.1, kept hb h.2.1, kept hb h.2.2.1, kept hb h.2.2.2.1, kept hb h.2.2.2.2.1, kept hb h.2.2.2.2.2.1, kept hb h.2.2.2.2.2.2.1, kept hb h.2.2.2.2.2.2.2.1, kept hb h.2.2.2.2.2.2.2.2.1, kept hb h.2.2.2.2.2.2.2.2.2.1, kept hb h.2.2.2.2.2.2.2.2.2.2.1, kept hb h.2.2.2.2.2.2.2.2.2.2.2.1, kept hb h.2.2.2.2.2.2.2.2.2.2.2.2.1, kept hb h.2.2.2.2.2.2.2.2.2.2.2.2.2.1, kept hb h.2.2.2.2.2.2.2.2.2.2.2.2.2.2.1, bel_c h.2.2.2.2.2.2.2.2.2.2.2.2.2.2.2 (Nat.le_refl _) hb⟩
      have S0 : w1.drew.cell? ⟨w.heap.size, 0, none⟩ = some (.bool up) ∧ w1.drew.cell? ⟨w.heap.size, 1, none⟩ = some (.int .i64 A) ∧ w1.drew.cell? ⟨w.heap.size, 2, none⟩ = some (.int .i64 B) ∧ w1.drew.cell? ⟨g, A * 6, none⟩ = some (.int .i64 x0) ∧ w1.drew.cell? ⟨g, A * 6 + 1, none⟩ = some (.int .i64 x1) ∧ w1.drew.cell? ⟨g, A * 6 + 2, none⟩ = some (.int .i64 x2) ∧ w1.drew.cell? ⟨g, A * 6 + 3, none⟩ = some (.int .i64 x3) ∧ w1.drew.cell? ⟨g, A * 6 + 4, none⟩ = some (.int .i64 x4) ∧ w1.drew.cell? ⟨g, A * 6 + 5, none⟩ = some (.bool x5) ∧ w1.drew.cell? ⟨g, B * 6, none⟩ = some (.int .i64 y0) ∧ w1.drew.cell? ⟨g, B * 6 + 1, none⟩ = some (.int .i64 y1) ∧ w1.drew.cell? ⟨g, B * 6 + 2, none⟩ = some (.int .i64 y2) ∧ w1.drew.cell? ⟨g, B * 6 + 3, none⟩ = some (.int .i64 y3) ∧ w1.drew.cell? ⟨g, B * 6 + 4, none⟩ = some (.int .i64 y4) ∧ w1.drew.cell? ⟨g, B * 6 + 5, none⟩ = some (.bool y5) ∧ Below w1.heap.size w1 w1.drew := ⟨kept D0 c0, kept D0 c1, kept D0 c2, kept D0 q0, kept D0 q1, kept D0 q2, kept D0 q3, kept D0 q4, kept D0 q5, kept D0 p0, kept D0 p1, kept D0 p2, kept D0 p3, kept D0 p4, kept D0 p5, D0⟩
      clear D0
      go_wp2_with fail
      go_region_held3 (fun w' => w'.cell? ⟨w.heap.size, 0, none⟩ = some (.bool up) ∧ w'.cell? ⟨w.heap.size, 1, none⟩ = some (.int .i64 A) ∧ w'.cell? ⟨w.heap.size, 2, none⟩ = some (.int .i64 B) ∧ w'.cell? ⟨g, A * 6, none⟩ = some (.int .i64 x0) ∧ w'.cell? ⟨g, A * 6 + 1, none⟩ = some (.int .i64 x1) ∧ w'.cell? ⟨g, A * 6 + 2, none⟩ = some (.int .i64 x2) ∧ w'.cell? ⟨g, A * 6 + 3, none⟩ = some (.int .i64 x3) ∧ w'.cell? ⟨g, A * 6 + 4, none⟩ = some (.int .i64 x4) ∧ w'.cell? ⟨g, A * 6 + 5, none⟩ = some (.bool x5) ∧ w'.cell? ⟨g, B * 6, none⟩ = some (.int .i64 y0) ∧ w'.cell? ⟨g, B * 6 + 1, none⟩ = some (.int .i64 y1) ∧ w'.cell? ⟨g, B * 6 + 2, none⟩ = some (.int .i64 y2) ∧ w'.cell? ⟨g, B * 6 + 3, none⟩ = some (.int .i64 y3) ∧ w'.cell? ⟨g, B * 6 + 4, none⟩ = some (.int .i64 y4) ∧ w'.cell? ⟨g, B * 6 + 5, none⟩ = some (.bool y5) ∧ Below w1.heap.size w1 w') (first | assumption | (with_reducible exact KP _ _ (bel_ad _ _) S0) | (with_reducible exact KP _ _ (bel_ad2 _ _ _) S0))
        (fail)
      all_goals
        clear KP S0 q0 q1 q2 q3 q4 q5 p0 p1 p2 p3 p4 p5
        cases x5
      all_goals cases y5
      all_goals
        go_wp2_with fail
        first
          | (go_ret; exact ⟨rfl, bel_c HB.out (Nat.le_refl _) (bel_dr9 (bel_n (bel0 w1 _) (Nat.le_refl _) _))⟩)
          | (refine (args_eqL (HW.out _) (by with_reducible rfl)).mono ?_
             rintro e w2 ⟨rfl, hb2⟩
             have HB2 := Lib.hid (bel_c (bel_c HB.out (Nat.le_refl _) (bel_dr9 (bel_n (bel0 w1 _) (Nat.le_refl _) _))) (Nat.le_refl _) hb2)
             clear hb2
             go_wp2_with fail
             go_ret
             exact ⟨rfl, HB2.out⟩)
  · rw [fit_out h0]
    rw [show decide (InU us.length a ∧ InU us.length b) = false from decide_eq_false h0] at HU
    clear h0 ok
    go_enter Try.func66, Try.ntmps66
    go_wp2_with fail
    refine (args_eqL (HU.out _) (by with_reducible rfl)).mono ?_
    rintro e w1 ⟨rfl, hb1⟩
    have HB := Lib.hid (bel_c (bel0 w (.cells #[.bool up, .int .i64 a, .int .i64 b] 40)) (Nat.le_refl _) hb1)
    clear hb1
    go_wp2_with fail
    go_ret
    exact ⟨rfl, HB.out⟩

end Go.Proofs.Ytboahceibeeifaa

set_option linter.unusedSimpArgs false
set_option linter.unusedVariables false
namespace Go.Proofs.Ytboahceibeeifaa
open Go.ChangeShapes Go.WideShapes Go.ChangeAt Go.RowKit

theorem info_Un : (Try.prog.info? 76).map (fun i => (i.zero, i.size, i.bytes)) = some (some (.agg #[.int .i64 0, .int .i64 0, .int .i64 0, .int .i64 0, .int .i64 0, .bool false]), 6, 48) := by kernel_rfl
/-- A row of units that is owned. -/
def OwnU (b : Nat) (w : World) (v : Value) (us : List U6) : Prop := w.ownsRow b 76 6 v us.length (placesUn us)
theorem OwnU.nil (b : Nat) (w : World) : OwnU b w (.slice none 0 0) [] := World.ownsRow_nil _ _ _ _
theorem OwnU.row {b : Nat} {w : World} {v : Value} {us : List U6} (h : OwnU b w v us) (hl : us.length ≤ 1048576) : UnIn b w.heap.size w v us := UnIn.of_owns h hl
theorem OwnU.below {b : Nat} {w w' : World} {v : Value} {us : List U6} (h : OwnU b w v us) (hb : Below w.heap.size w w') : OwnU b w' v us := owL h hb
theorem OwnU.more {b g n c : Nat} {w : World} {us : List U6} {u : U6} (h : w.ownsRow b 76 6 (.slice (some ⟨g, 0, none⟩) n c) n (placesUn us ++ [.int .i64 u.x, .int .i64 u.y, .int .i64 u.w, .int .i64 u.h, .int .i64 u.c, .bool u.j])) : OwnU b w (.slice (some ⟨g, 0, none⟩) n c) (us ++ [u]) := by
  have h1 := h.1
  simp [placesUn_length] at h1
  unfold OwnU
  rw [placesUn_append, show placesUn [u] = [.int .i64 u.x, .int .i64 u.y, .int .i64 u.w, .int .i64 u.h, .int .i64 u.c, .bool u.j] from rfl, show (us ++ [u]).length = n by simp; omega]
  exact h
theorem placesUn_use : ∀ (us : List U6) (A : Nat), A < us.length → placesUn (us.set A (un us A).u) = (placesUn us).set (A * 6 + 5) (.bool true)
  | [], A, h => by simp at h
  | u :: r, 0, _ => rfl
  | u :: r, A + 1, h => by
    have ih := placesUn_use r A (by simpa using h)
    have e : ∀ (x : U6) (s : List U6), placesUn (x :: s) = .int .i64 x.x :: .int .i64 x.y :: .int .i64 x.w :: .int .i64 x.h :: .int .i64 x.c :: .bool x.j :: placesUn s := fun _ _ => rfl
    rw [List.set_cons_succ, e, e, show (A + 1) * 6 + 5 = (A * 6 + 5) + 1 + 1 + 1 + 1 + 1 + 1 by omega]
    simp only [List.set_cons_succ]
    rw [← ih]; rfl
theorem OwnU.use {b g c : Nat} {w : World} {us : List U6} (h : OwnU b w (.slice (some ⟨g, 0, none⟩) us.length c) us) (A : Nat) (hA : A < us.length) : OwnU b (w.setCell ⟨g, A * 6 + 5, none⟩ (.bool true)) (.slice (some ⟨g, 0, none⟩) us.length c) (us.set A (un us A).u) := by
  unfold OwnU
  rw [List.length_set, placesUn_use us A hA]
  exact (World.ownsRow.stored h (A * 6 + 5) (.bool true)).1
theorem use_two {us : List U6} {up : Bool} {A B : Nat} (h : A ≠ B) : (us.set A (un us A).u).set B (un (us.set A (un us A).u) B).u = useJ us ⟨up, A, B⟩ := by
  have e : un (us.set A (un us A).u) B = un us B := by
    unfold un; rw [List.getD_eq_getElem?_getD, List.getElem?_set_ne h, ← List.getD_eq_getElem?_getD]
  rw [e]; simp [useJ]
theorem useP {us : List U6} {j : J3} (h : FitJ us j) (i : Nat) : (un (useJ us j) i).p = (un us i).p := by
  rw [un_use h]; split <;> rfl
theorem OwnU.patch {b g n c : Nat} {w : World} {us : List U6} {j : J3} (h : OwnU b w (.slice (some ⟨g, 0, none⟩) n c) (useJ us j)) (hf : FitJ us j) (hl : us.length ≤ 24) {A : Nat} (hA : A < us.length) {p : P5} (hp : p = (un us A).p) :
    w.cell? ⟨g, A * 6, none⟩ = some (.int .i64 p.x) ∧ w.cell? ⟨g, A * 6 + 1, none⟩ = some (.int .i64 p.y) ∧ w.cell? ⟨g, A * 6 + 2, none⟩ = some (.int .i64 p.w) ∧ w.cell? ⟨g, A * 6 + 3, none⟩ = some (.int .i64 p.h) ∧ w.cell? ⟨g, A * 6 + 4, none⟩ = some (.int .i64 p.c) := by
  obtain ⟨g', hg, _, _, ⟨q0, q1, q2, q3, q4, _⟩, _⟩ := (h.row (by rw [useJ_len]; omega)).at (Below.refl _ _) (i := A) (by rw [useJ_len]; exact hA)
  obtain rfl : g = g' := by simpa using hg
  rw [hp, ← useP hf A]
  exact ⟨q0, q1, q2, q3, q4⟩
/-- A new row of units is handed back. -/
def FreshUn (us : List U6) (w : World) (e : Ending) (w' : World) : Prop := ∃ v, e = .returned v ∧ UnIn w.heap.size w'.heap.size w' v us ∧ Below w.heap.size w w'
theorem mapU_succ {xs : List P5} {k : Nat} (hk : k < xs.length) : (xs.take (k + 1)).map mkU = (xs.take k).map mkU ++ [mkU (pat xs k)] := by
  rw [List.take_succ_eq_append_getElem hk, List.map_append, pat_get hk]; rfl

set_option maxHeartbeats 6400000 in
set_option maxRecDepth 20000 in
theorem ImplUnits_any (lo hi : Nat) (m n : Int) (v : Value) (xs : List P5) (lo2 hi2 : Nat) (v2 : Value) (js : List J3) (wf : ∀ c ∈ xs, c.Wf) (w : World) (r : PatIn lo hi w v xs) (hhi : hi ≤ w.heap.size) (r2 : JnIn lo2 hi2 w v2 js) (hhi2 : hi2 ≤ w.heap.size) :
    Calls Try.prog 41 #[.agg #[.int .i64 m, .int .i64 n, v], v2] w (FreshUn (unL m n xs js) w) := by
  obtain ⟨i0, hi0, hz0, hz1, hz2⟩ := info_parts3 info_Un
  obtain ⟨b, cap, rfl⟩ := r.form
  obtain ⟨b2, cap2, rfl⟩ := r2.form
  have R := Lib.hid r
  have R2 := Lib.hid r2
  have hl := r.1
  have hl2 := r2.1
  have LK : Hid (∀ u : World, Below w.heap.size w u → Calls Try.prog 40 #[.agg #[.int .i64 m, .int .i64 n, .slice b xs.length cap]] u fun e w' => e = .returned (.bool (layB m n xs)) ∧ Below u.heap.size u w') := Lib.hid (fun u hb => ImplLayoutOk_any lo hi m n _ xs u (r.below (hb.mono hhi)) (Nat.le_trans hhi hb.size) wf)
  have HB0 : Hid (Below w.heap.size w (w.alloc (.cells #[.int .i64 m, .int .i64 n, .slice b xs.length cap] 26))) := Lib.hid (bel0 w _)
  clear r r2 wf
  by_cases hlay : layB m n xs = true
  · rw [hlay] at LK
    have HU : Hid (unF (xs.map mkU) js = unL m n xs js) := Lib.hid (unL_yes hlay).symm
    have HL := Lib.hid (lay_of hlay)
    have hx12 := (lay_of hlay).2.2.1.2
    have hm12 := (lay_of hlay).1.2
    have hn12 := (lay_of hlay).2.1.2
    clear hlay
    generalize unL m n xs js = U at HU
    go_enter Try.func41, Try.ntmps41
    go_wp2_with fail
    refine (LK.out _ HB0.out).mono ?_
    rintro e w1 ⟨rfl, hb1⟩
    have a2 := kept (p := ⟨w.heap.size, 2, none⟩) (x := .slice b xs.length cap) hb1 (by go_simp)
    have HB1 := Lib.hid (bel_c HB0.out (Nat.le_refl _) hb1)
    clear hb1 HB0 LK
    go_wp2_with fail
    clear a2
    go_loopw [5, 18] (fun q i wr => ∃ k : Nat, k ≤ xs.length ∧ i = .int .i64 k ∧ Hid (OwnU w.heap.size wr q ((xs.take k).map mkU)) ∧ Hid (Below w.heap.size w wr)) (fun _ i _ => xs.length - (intOf i).toNat)
    case atStart => exact ⟨0, Nat.zero_le _, rfl, Lib.hid (OwnU.nil _ _), HB1⟩
    case round =>
      clear HB1
      obtain ⟨k, hk, rfl, hown, hbel⟩ := hrel
      by_cases hlt : k < xs.length
      · obtain ⟨g, rfl, hg, hg1, ⟨q0, q1, q2, q3, q4⟩, _⟩ := R.out.at (hbel.out.mono hhi) hlt
        have HN := Lib.hid (mapU_succ hlt)
        obtain ⟨d, hd⟩ : ∃ d, d = pat xs k := ⟨_, rfl⟩
        rw [show xs.getD k P5.zero = d from hd.symm] at q0 q1 q2 q3 q4
        rw [← hd] at HN
        have BX := bel_n (bel0 wr (.cells #[.int .i64 d.x, .int .i64 d.y, .int .i64 d.w, .int .i64 d.h, .int .i64 d.c] 34)) (Nat.le_refl _) (.cells #[.int .i64 d.x, .int .i64 d.y, .int .i64 d.w, .int .i64 d.h, .int .i64 d.c, .bool false] 76)
        have HO := Lib.hid (hown.out.below BX)
        have HBB := Lib.hid (bel_c hbel.out (Nat.le_refl _) BX)
        have HS := Lib.hid HBB.out.size
        have HNW : Hid (∀ (j : Nat) u, ([.int .i64 d.x, .int .i64 d.y, .int .i64 d.w, .int .i64 d.h, .int .i64 d.c, .bool false] : List Value)[j]? = some u → ((wr.alloc (.cells #[.int .i64 d.x, .int .i64 d.y, .int .i64 d.w, .int .i64 d.h, .int .i64 d.c] 34)).alloc (.cells #[.int .i64 d.x, .int .i64 d.y, .int .i64 d.w, .int .i64 d.h, .int .i64 d.c, .bool false] 76)).cell? ((⟨wr.heap.size + 1, 0, none⟩ : Addr).add j) = some u) := Lib.hid (newsL (wr.alloc (.cells #[.int .i64 d.x, .int .i64 d.y, .int .i64 d.w, .int .i64 d.h, .int .i64 d.c] 34)) (wr.heap.size + 1) #[.int .i64 d.x, .int .i64 d.y, .int .i64 d.w, .int .i64 d.h, .int .i64 d.c, .bool false] 76 (by simp))
        have hL1 : ((xs.take k).map mkU).length = k := by simp; omega
        have HL1 := Lib.hid hL1
        have HO' : Hid (((wr.alloc (.cells #[.int .i64 d.x, .int .i64 d.y, .int .i64 d.w, .int .i64 d.h, .int .i64 d.c] 34)).alloc (.cells #[.int .i64 d.x, .int .i64 d.y, .int .i64 d.w, .int .i64 d.h, .int .i64 d.c, .bool false] 76)).ownsRow w.heap.size 76 6 u5 k (placesUn ((xs.take k).map mkU))) := Lib.hid (by have := HO.out; unfold OwnU at this; rwa [HL1.out] at this)
        clear hd BX hown hbel HO hL1
        go_wp2_with (at_builtin; refine wpList_append_lies _ rfl _ _ 72 rfl w.heap.size 76 i0 _ 6 48 Try.underlying72 hi0 hz0 hz1 hz2 rfl (by decide) _ _ _ rfl HO'.out ⟨wr.heap.size + 1, 0, none⟩ 1 1 [.int .i64 d.x, .int .i64 d.y, .int .i64 d.w, .int .i64 d.h, .int .i64 d.c, .bool false] rfl rfl HNW.out (by simp [Value.oneCell']) (by omega) (by unfold maxLen; omega) (by omega) HS.out (wr.heap.size + 1 + 1) (by simp) ?_; intro gg cc w5 hown5 hgrow hat hlt5; have hbw := (Below.refl w.heap.size _).grown hgrow HS.out (ogL HO'.out))
        have HN5 : Hid (OwnU w.heap.size w5 (.slice (some ⟨gg, 0, none⟩) (k + 1) cc) ((xs.take (k + 1)).map mkU)) := Lib.hid (by rw [HN.out]; exact OwnU.more (u := mkU d) hown5)
        have HB5 := Lib.hid (HBB.out.trans hbw)
        clear hown5 hgrow hat hlt5 hbw HO' HNW HS HBB HN
        go_wp2_with fail
        go_roundw
        case rel => exact ⟨k + 1, by omega, by go_num, HN5, HB5⟩
        case measure => simp [intOf] <;> omega
      · obtain rfl : k = xs.length := by omega
        have HO : Hid (OwnU w.heap.size wr u5 (xs.map mkU)) := Lib.hid (by have := hown.out; rwa [List.take_length] at this)
        have HUK := Lib.hid (UOk.start HL.out)
        have HB2 := hbel
        clear hown hbel hlt hk
        go_wp2_with fail
        go_loopw [5, 30] (fun q i wz => ∃ (k : Nat) (us : List U6), k ≤ js.length ∧ i = .int .i64 k ∧ Hid (OwnU w.heap.size wz q us) ∧ Hid (UOk m n xs.length us) ∧ Hid (unF us (js.drop k) = U) ∧ Hid (Below w.heap.size w wz)) (fun _ i _ => js.length - (intOf i).toNat)
        case atStart => exact ⟨0, _, Nat.zero_le _, rfl, HO, HUK, HU, HB2⟩
        case round =>
          clear HO HUK HU HB2
          obtain ⟨k, us, hk, rfl, hown, huk, hun, hbel⟩ := hrel
          have hu24 := huk.out.le hx12
          have hin := hown.out.row (by omega)
          obtain ⟨aq, cq, rfl⟩ := hin.form
          by_cases hlt : k < js.length
          · obtain ⟨g, rfl, hg, hg1, ⟨e0, e1, e2⟩, _⟩ := R2.out.at (hbel.out.mono hhi2) hlt
            have HN := Lib.hid (fun hf => unF_yes hlt hun.out hf)
            have HM := Lib.hid (fun hf => unF_no hlt hun.out hf)
            obtain ⟨j, hj⟩ : ∃ j, j = jn js k := ⟨_, rfl⟩
            rw [show js.getD k J3.zero = j from hj.symm] at e0 e1 e2
            rw [show jn js k = j from hj.symm] at HN HM
            obtain ⟨up, a, b⟩ := j
            simp only at e0 e1 e2
            clear hj hun
            have BA := bel0 wr (.cells #[.bool up, .int .i64 a, .int .i64 b] 40)
            have HO1 := Lib.hid (hown.out.below BA)
            have HI1 := Lib.hid (hin.below BA)
            have HB1 := Lib.hid (bel_n hbel.out (Nat.le_refl _) (.cells #[.bool up, .int .i64 a, .int .i64 b] 40))
            have hs1 := hbel.out.size
            have HF := Lib.hid (Fits_any _ _ m n xs.length _ us up a b _ hm12 hn12 HI1.out (by simp) huk.out)
            clear hown hbel BA
            by_cases hok : FitJ us ⟨up, a, b⟩
            · rw [show decide (FitJ us ⟨up, a, b⟩) = true from decide_eq_true hok] at HF
              go_wp2_with fail
              refine HF.out.mono ?_
              rintro e w2 ⟨rfl, hb2⟩
              have HY := Lib.hid (HN.out hok)
              have HUK2 := Lib.hid (huk.out.put hok)
              have HFJ := Lib.hid hok
              obtain ⟨⟨a0, a1⟩, ⟨b0, b1⟩, hne, hja, hjb, hsd⟩ := hok
              simp only at a0 a1 b0 b1 hne hja hjb hsd
              obtain ⟨A, rfl⟩ : ∃ A : Nat, a = A := ⟨a.toNat, by omega⟩
              obtain ⟨B, rfl⟩ : ∃ B : Nat, b = B := ⟨b.toNat, by omega⟩
              simp only [Int.toNat_natCast] at hja hjb hsd
              have a2 : A < us.length := by omega
              have b2' : B < us.length := by omega
              have hAB : A ≠ B := by omega
              have HO2 := Lib.hid (HO1.out.below hb2)
              have HB2 := Lib.hid (bel_c HB1.out (Nat.le_refl _) hb2)
              have hi2 := HO2.out.row (by omega)
              obtain ⟨gu, hgu, gu0, gu1, q, _⟩ := hi2.at (Below.refl _ _) a2
              obtain ⟨gu', hgu', _, _, q', _⟩ := hi2.at (Below.refl _ _) b2'
              obtain rfl : gu = gu' := by rw [hgu] at hgu'; simpa using hgu'
              obtain rfl : aq = some ⟨gu, 0, none⟩ := hgu
              have c0 := kept (p := ⟨wr.heap.size, 0, none⟩) (x := .bool up) hb2 (by go_simp)
              have c1 := kept (p := ⟨wr.heap.size, 1, none⟩) (x := .int .i64 A) hb2 (by go_simp)
              have c2 := kept (p := ⟨wr.heap.size, 2, none⟩) (x := .int .i64 B) hb2 (by go_simp)
              obtain ⟨gu2, hgu2, _, gu3, _⟩ := hin.at (Below.refl _ _) a2
              obtain rfl : gu = gu2 := by simpa using hgu2
              have hwr2 : wr.heap.size < w2.heap.size := lt_of_cell c0
              obtain ⟨_, _, _, _, _, q5⟩ := q
              obtain ⟨_, _, _, _, _, p5⟩ := q'
              have HFR := fun j => World.ownsRow.frozenAt HO2.out j
              have fq := HFR (A * 6 + 5)
              have fp := HFR (B * 6 + 5)
              obtain ⟨U1, hU1⟩ : ∃ U, w2.drew.setCell ⟨gu, A * 6 + 5, none⟩ (.bool true) = U := ⟨_, rfl⟩
              have hD : Below w2.heap.size w2 w2.drew := ⟨rfl, rfl, rfl, Nat.le_refl _, fun _ _ => rfl⟩
              have HO3 : Hid (OwnU w.heap.size U1 (.slice (some ⟨gu, 0, none⟩) us.length cq) (us.set A (un us A).u)) := Lib.hid (by rw [← hU1]; exact (HO2.out.below hD).use A a2)
              have hl3 : (us.set A (un us A).u).length = us.length := List.length_set
              have HU3 := Lib.hid hl3
              have p5' : U1.cell? ⟨gu, B * 6 + 5, none⟩ = some (.bool (un us B).j) := by
                rw [← hU1, World.cell?_setCell_other _ _ _ _ (by simp <;> omega)]; exact p5
              have fp' : U1.frozen? ⟨gu, B * 6 + 5, none⟩ = false := by rw [← hU1, World.frozen?_setCell]; exact fp
              obtain ⟨U2, hU2⟩ : ∃ U, U1.setCell ⟨gu, B * 6 + 5, none⟩ (.bool true) = U := ⟨_, rfl⟩
              have HO4 : Hid (OwnU w.heap.size U2 (.slice (some ⟨gu, 0, none⟩) us.length cq) (useJ us ⟨up, A, B⟩)) := Lib.hid (by
                rw [← hU2, ← use_two hAB]
                have h3 := HO3.out
                rw [show us.length = (us.set A (un us A).u).length from HU3.out.symm] at h3 ⊢
                exact h3.use B (by rw [HU3.out]; exact b2'))
              have HBU : Hid (Below w.heap.size w U2) := Lib.hid (by rw [← hU2, ← hU1]; exact Below.setCell (Below.setCell (bel_dr9 HB2.out) (p := ⟨gu, A * 6 + 5, none⟩) gu0 _) (p := ⟨gu, B * 6 + 5, none⟩) gu0 _)
              have HSU : Hid (w2.heap.size ≤ U2.heap.size) := Lib.hid (by rw [← hU2, ← hU1]; simp [World.setCell])
              have k0 : U2.cell? ⟨wr.heap.size, 0, none⟩ = some (.bool up) := by
                rw [← hU2, ← hU1, World.cell?_setCell_other _ _ _ _ (by simp <;> omega), World.cell?_setCell_other _ _ _ _ (by simp <;> omega)]; exact c0
              clear hb2 HO1 HI1 HB1 HF HN HM hi2 hgu' a0 b0 hne e0 e1 e2 hl3 HU3 HO3 hD fp p5 HO2 HB2 hin hgu2 HFR
              go_wp2_with fail
              go_region
              rw [hja] at q5
              rw [hjb] at p5'
              go_wp2_with fail
              clear c0 c1 c2 q5 p5' fq fp' hU1 hU2
              obtain ⟨pa, hpa⟩ : ∃ p, p = (un us A).p := ⟨_, rfl⟩
              obtain ⟨pb, hpb⟩ : ∃ p, p = (un us B).p := ⟨_, rfl⟩
              obtain ⟨q0, q1, q2, q3, q4⟩ := HO4.out.patch HFJ.out hu24 a2 hpa
              obtain ⟨p0, p1, p2, p3, p4⟩ := HO4.out.patch HFJ.out hu24 b2' hpb
              obtain ⟨sp, hsp⟩ : ∃ s, s = sewP up pa pb := ⟨_, rfl⟩
              have HSW : Hid (∀ u : World, Calls Try.prog 67 #[.bool up, .agg #[.int .i64 pa.x, .int .i64 pa.y, .int .i64 pa.w, .int .i64 pa.h, .int .i64 pa.c], .agg #[.int .i64 pb.x, .int .i64 pb.y, .int .i64 pb.w, .int .i64 pb.h, .int .i64 pb.c]] u fun e w' => e = .returned (.agg #[.int .i64 sp.x, .int .i64 sp.y, .int .i64 sp.w, .int .i64 sp.h, .int .i64 sp.c]) ∧ Below u.heap.size u w') := Lib.hid (fun u => by rw [hsp]; exact Sewn_any m n up pa pb u hm12 hn12 (by rw [hpa]; exact huk.out.1 A a2) (by rw [hpb]; exact huk.out.1 B b2'))
              have HPU : Hid (putJ us ⟨up, A, B⟩ = useJ us ⟨up, A, B⟩ ++ [mkU sp]) := Lib.hid (by rw [hsp, hpa, hpb]; simp [putJ])
              have HLU : Hid ((useJ us ⟨up, A, B⟩).length = us.length) := Lib.hid (useJ_len _ _)
              have HO5 : Hid (U2.ownsRow w.heap.size 76 6 (.slice (some ⟨gu, 0, none⟩) us.length cq) us.length (placesUn (useJ us ⟨up, A, B⟩))) := Lib.hid (by have := HO4.out; unfold OwnU at this; rwa [HLU.out] at this)
              have D0 : Below U2.heap.size U2 U2.drew := ⟨rfl, rfl, rfl, Nat.le_refl _, fun _ _ => rfl⟩
              have HD0 := Lib.hid D0
              clear hsp hpa hpb hsd hja hjb HO4 huk D0
              go_region_law (first
                | (go_simp; go_at_call 67; refine (args_eqL (HSW.out _) (by with_reducible rfl)).mono ?_; rintro e y ⟨rfl, hb⟩; have BY := Lib.hid (bel_n (bel_c HD0.out (Nat.le_refl _) hb) (Nat.le_refl _) (.cells #[.int .i64 sp.x, .int .i64 sp.y, .int .i64 sp.w, .int .i64 sp.h, .int .i64 sp.c, .bool false] 76)); have HO6 := Lib.hid (owL HO5.out BY.out); have HNW := Lib.hid (newsL y y.heap.size #[.int .i64 sp.x, .int .i64 sp.y, .int .i64 sp.w, .int .i64 sp.h, .int .i64 sp.c, .bool false] 76 rfl); have HB6 := Lib.hid (bel_c HBU.out (Nat.le_refl _) BY.out); have HS6 := Lib.hid HB6.out.size; clear hb)
                | (refine step_append_lies _ (by rfl) _ _ _ (by rfl) w.heap.size 76 i0 _ 6 48 Try.underlying72 hi0 hz0 hz1 hz2 rfl (by omega) _ us.length _ (by rfl) HO6.out ⟨y.heap.size, 0, none⟩ 1 1 [.int .i64 sp.x, .int .i64 sp.y, .int .i64 sp.w, .int .i64 sp.h, .int .i64 sp.c, .bool false] (by rfl) (by rfl) HNW.out (by simp [Value.oneCell']) (by omega) (by unfold maxLen; omega) (by omega) HS6.out (y.heap.size + 1) (by simp) ?_; intro gg cc w5 hown5 hgrow hat hlt5; have hbw := (Below.refl w.heap.size _).grown hgrow HS6.out (ogL HO6.out)))
              all_goals
                have HN5 : Hid (OwnU w.heap.size w5 (.slice (some ⟨gg, 0, none⟩) (us.length + 1) cc) (putJ us ⟨up, A, B⟩)) := Lib.hid (by rw [HPU.out]; exact OwnU.more (u := mkU sp) hown5)
                have HB7 := Lib.hid (HB6.out.trans hbw)
                clear hown5 hgrow hat hlt5 hbw HO6 HNW HS6 HB6 BY
                go_wp2_with fail
                go_roundw
                case rel => exact ⟨k + 1, _, by omega, by go_num, HN5, HUK2, HY, HB7⟩
                case measure => simp [intOf] <;> omega
            · rw [show decide (FitJ us ⟨up, a, b⟩) = false from decide_eq_false hok] at HF
              have HE := Lib.hid (HM.out hok)
              clear hok HN HM
              go_wp2_with fail
              refine HF.out.mono ?_
              rintro e w2 ⟨rfl, hb2⟩
              have HI2 := Lib.hid ((HO1.out.below hb2).row (by omega))
              have HB2 := Lib.hid (bel_c HB1.out (Nat.le_refl _) hb2)
              clear hb2 HO1 HI1 HB1 HF hin
              go_wp2_with fail
              go_ret
              exact ⟨_, rfl, by rw [← HE.out]; exact HI2.out, HB2.out⟩
          · obtain rfl : k = js.length := by omega
            have HE := Lib.hid (unF_all hun.out)
            have HI := Lib.hid hin
            clear hin hun
            go_wp2_with fail
            go_ret
            exact ⟨_, rfl, by rw [← HE.out]; exact HI.out, hbel.out⟩
  · have hlay' : layB m n xs = false := by simpa using hlay
    rw [hlay'] at LK
    rw [unL_no hlay']
    clear hlay hlay'
    go_enter Try.func41, Try.ntmps41
    go_wp2_with fail
    refine (LK.out _ HB0.out).mono ?_
    rintro e w1 ⟨rfl, hb1⟩
    have HB1 := Lib.hid (bel_c HB0.out (Nat.le_refl _) hb1)
    clear hb1 HB0 LK
    go_wp2_with fail
    go_ret
    exact ⟨_, rfl, ⟨by simp, .inl ⟨rfl, _, _, rfl⟩⟩, HB1.out⟩

end Go.Proofs.Ytboahceibeeifaa

set_option linter.unusedSimpArgs false
set_option linter.unusedVariables false
namespace Go.Proofs.Ytboahceibeeifaa
open Go.ChangeShapes Go.WideShapes Go.ChangeAt Go.RowKit

set_option maxHeartbeats 1600000 in
set_option maxRecDepth 20000 in
theorem ImplUnitBox_any (lo hi : Nat) (m n : Int) (v : Value) (xs : List P5) (lo2 hi2 : Nat) (v2 : Value) (js : List J3) (u : Int) (wf : ∀ c ∈ xs, c.Wf) (w : World) (r : PatIn lo hi w v xs) (hhi : hi ≤ w.heap.size) (r2 : JnIn lo2 hi2 w v2 js) (hhi2 : hi2 ≤ w.heap.size) :
    Calls Try.prog 14 #[.agg #[.int .i64 m, .int .i64 n, v], v2, .int .i64 u] w fun e w' => e = .returned (.tuple #[.agg #[.int .i64 (boxP m n xs js u).x, .int .i64 (boxP m n xs js u).y, .int .i64 (boxP m n xs js u).w, .int .i64 (boxP m n xs js u).h, .int .i64 (boxP m n xs js u).c], .bool (boxB m n xs js u)]) ∧ Below w.heap.size w w' := by
  obtain ⟨b, cap, rfl⟩ := r.form
  obtain ⟨b2, cap2, rfl⟩ := r2.form
  have hl := r.1
  have hl2 := r2.1
  have CU : Hid (∀ u : World, Below w.heap.size w u → Calls Try.prog 41 #[.agg #[.int .i64 m, .int .i64 n, .slice b xs.length cap], .slice b2 js.length cap2] u (FreshUn (unL m n xs js) u)) := Lib.hid (fun u hb => ImplUnits_any lo hi m n _ xs lo2 hi2 _ js wf u (r.below (hb.mono hhi)) (Nat.le_trans hhi hb.size) (r2.below (hb.mono hhi2)) (Nat.le_trans hhi2 hb.size))
  have HL := Lib.hid (unL_len (m := m) (n := n) (xs := xs) (js := js))
  have HB0 : Hid (Below w.heap.size w ((w.alloc (.cells #[.int .i64 m, .int .i64 n, .slice b xs.length cap] 26)).alloc (.cells #[.int .i64 0, .int .i64 0, .int .i64 0, .int .i64 0, .int .i64 0] 34))) := Lib.hid (bel_n (bel0 w _) (Nat.le_refl _) _)
  have HP : Hid (boxP m n xs js u = if InU (unL m n xs js).length u then (un (unL m n xs js) u.toNat).p else P5.zero) := Lib.hid rfl
  have HQ : Hid (boxB m n xs js u = decide (InU (unL m n xs js).length u)) := Lib.hid rfl
  clear r r2 wf
  generalize boxP m n xs js u = pp at HP
  generalize boxB m n xs js u = pb at HQ
  generalize unL m n xs js = U at CU HL HP HQ
  go_enter Try.func14, Try.ntmps14
  go_wp2_with fail
  refine (args_eqL (CU.out _ HB0.out) (by with_reducible rfl)).mono ?_
  rintro e w1 ⟨vU, rfl, RU, hb1⟩
  obtain ⟨aU, cU, rfl⟩ := RU.form
  have hU := HL.out
  have HI := Lib.hid (fun x => IsUnit_any u U.length x)
  have d0 := kept (p := ⟨w.heap.size + 1, 0, none⟩) (x := .int .i64 0) hb1 (by go_simp)
  have d1 := kept (p := ⟨w.heap.size + 1, 1, none⟩) (x := .int .i64 0) hb1 (by go_simp)
  have d2 := kept (p := ⟨w.heap.size + 1, 2, none⟩) (x := .int .i64 0) hb1 (by go_simp)
  have d3 := kept (p := ⟨w.heap.size + 1, 3, none⟩) (x := .int .i64 0) hb1 (by go_simp)
  have d4 := kept (p := ⟨w.heap.size + 1, 4, none⟩) (x := .int .i64 0) hb1 (by go_simp)
  have z0 := keptF (p := ⟨w.heap.size + 1, 0, none⟩) (x := .int .i64 0) hb1 (by go_simp) (by go_simp)
  have z1 := keptF (p := ⟨w.heap.size + 1, 1, none⟩) (x := .int .i64 0) hb1 (by go_simp) (by go_simp)
  have z2 := keptF (p := ⟨w.heap.size + 1, 2, none⟩) (x := .int .i64 0) hb1 (by go_simp) (by go_simp)
  have z3 := keptF (p := ⟨w.heap.size + 1, 3, none⟩) (x := .int .i64 0) hb1 (by go_simp) (by go_simp)
  have z4 := keptF (p := ⟨w.heap.size + 1, 4, none⟩) (x := .int .i64 0) hb1 (by go_simp) (by go_simp)
  have HB1 := Lib.hid (bel_c HB0.out (Nat.le_refl _) hb1)
  have hs1 := hb1.size
  simp at hs1
  have HR := Lib.hid RU
  clear hb1 HB0 CU RU
  by_cases hu : InU U.length u
  · rw [show decide (InU U.length u) = true from decide_eq_true hu] at HI HQ
    rw [if_pos hu] at HP
    obtain ⟨u0, u1⟩ := hu
    obtain ⟨K, rfl⟩ : ∃ K : Nat, u = K := ⟨u.toNat, by omega⟩
    have hK : K < U.length := by omega
    simp only [Int.toNat_natCast] at HP
    obtain ⟨g, hg, _, _, q, _⟩ := HR.out.at (Below.refl _ _) hK
    obtain rfl : aU = some ⟨g, 0, none⟩ := hg
    obtain ⟨x, hx⟩ : ∃ x, x = un U K := ⟨_, rfl⟩
    rw [show U.getD K U6.zero = x from hx.symm] at q
    rw [← hx] at HP
    have hpp := HP.out
    subst hpp
    obtain ⟨x0, x1, x2, x3, x4, x5⟩ := x
    obtain ⟨q0, q1, q2, q3, q4, q5⟩ := q
    simp only at q0 q1 q2 q3 q4 q5
    clear hx HP
    go_wp2_with fail
    refine (args_eqL (HI.out _) (by with_reducible rfl)).mono ?_
    rintro e w' ⟨rfl, hw⟩
    have hw' := hw.symm
    subst hw'
    clear hw
    go_wp2_with fail
    refine bodyPost_ret (v := .tuple #[.agg #[.int .i64 x0, .int .i64 x1, .int .i64 x2, .int .i64 x3, .int .i64 x4], .bool true]) (by simp [results, Try.results14, go_sem, d0, d1, d2, d3, d4]) rfl ⟨by rw [HQ.out]; rfl, ?_⟩
    refine Below.setCell (Below.setCell (Below.setCell (Below.setCell (Below.setCell HB1.out ?_ _) ?_ _) ?_ _) ?_ _) ?_ _ <;> (simp <;> omega)
  · rw [show decide (InU U.length u) = false from decide_eq_false hu] at HI HQ
    rw [if_neg hu] at HP
    have hpp := HP.out
    subst hpp
    clear hu HP
    go_wp2_with fail
    refine (args_eqL (HI.out _) (by with_reducible rfl)).mono ?_
    rintro e w' ⟨rfl, hw⟩
    have hw' := hw.symm
    subst hw'
    clear hw
    go_wp2_with fail
    refine bodyPost_ret (v := .tuple #[.agg #[.int .i64 0, .int .i64 0, .int .i64 0, .int .i64 0, .int .i64 0], .bool false]) (by simp [results, Try.results14, go_sem, d0, d1, d2, d3, d4]) rfl ⟨by rw [HQ.out]; rfl, ?_⟩
    refine Below.setCell (Below.setCell (Below.setCell (Below.setCell (Below.setCell HB1.out ?_ _) ?_ _) ?_ _) ?_ _) ?_ _ <;> (simp <;> omega)

set_option maxHeartbeats 3200000 in
set_option maxRecDepth 20000 in
theorem ImplAreJoins_any (lo hi : Nat) (m n : Int) (v : Value) (xs : List P5) (lo2 hi2 : Nat) (v2 : Value) (js : List J3) (wf : ∀ c ∈ xs, c.Wf) (w : World) (r : PatIn lo hi w v xs) (hhi : hi ≤ w.heap.size) (r2 : JnIn lo2 hi2 w v2 js) (hhi2 : hi2 ≤ w.heap.size) :
    Calls Try.prog 13 #[.agg #[.int .i64 m, .int .i64 n, v], v2] w fun e w' => e = .returned (.bool (areJ m n xs js)) ∧ Below w.heap.size w w' := by
  obtain ⟨b, cap, rfl⟩ := r.form
  obtain ⟨b2, cap2, rfl⟩ := r2.form
  have hl := r.1
  have hl2 := r2.1
  have CU : Hid (∀ u : World, Below w.heap.size w u → Calls Try.prog 41 #[.agg #[.int .i64 m, .int .i64 n, .slice b xs.length cap], .slice b2 js.length cap2] u (FreshUn (unL m n xs js) u)) := Lib.hid (fun u hb => ImplUnits_any lo hi m n _ xs lo2 hi2 _ js wf u (r.below (hb.mono hhi)) (Nat.le_trans hhi hb.size) (r2.below (hb.mono hhi2)) (Nat.le_trans hhi2 hb.size))
  have LK : Hid (∀ u : World, Below w.heap.size w u → Calls Try.prog 40 #[.agg #[.int .i64 m, .int .i64 n, .slice b xs.length cap]] u fun e w' => e = .returned (.bool (layB m n xs)) ∧ Below u.heap.size u w') := Lib.hid (fun u hb => ImplLayoutOk_any lo hi m n _ xs u (r.below (hb.mono hhi)) (Nat.le_trans hhi hb.size) wf)
  have HL := Lib.hid (unL_len (m := m) (n := n) (xs := xs) (js := js))
  obtain ⟨G, hG⟩ : ∃ G, G = w.alloc (.cells #[.int .i64 m, .int .i64 n, .slice b xs.length cap] 26) := ⟨_, rfl⟩
  have HB0 : Hid (Below w.heap.size w G) := Lib.hid (by rw [hG]; exact bel0 w _)
  have D0 : Below G.heap.size G G.drew := ⟨rfl, rfl, rfl, Nat.le_refl _, fun _ _ => rfl⟩
  have S0 : G.drew.cell? ⟨w.heap.size, 0, none⟩ = some (.int .i64 m) ∧ G.drew.cell? ⟨w.heap.size, 1, none⟩ = some (.int .i64 n) ∧ G.drew.cell? ⟨w.heap.size, 2, none⟩ = some (.slice b xs.length cap) ∧ Below G.heap.size G G.drew := ⟨kept D0 (by rw [hG]; simp), kept D0 (by rw [hG]; simp), kept D0 (by rw [hG]; simp), D0⟩
  have KP : ∀ u v : World, Below u.heap.size u v → (u.cell? ⟨w.heap.size, 0, none⟩ = some (.int .i64 m) ∧ u.cell? ⟨w.heap.size, 1, none⟩ = some (.int .i64 n) ∧ u.cell? ⟨w.heap.size, 2, none⟩ = some (.slice b xs.length cap) ∧ Below G.heap.size G u) → (v.cell? ⟨w.heap.size, 0, none⟩ = some (.int .i64 m) ∧ v.cell? ⟨w.heap.size, 1, none⟩ = some (.int .i64 n) ∧ v.cell? ⟨w.heap.size, 2, none⟩ = some (.slice b xs.length cap) ∧ Below G.heap.size G v) := fun u v hb h => ⟨kept hb h.1, kept hb h.2.1, kept hb h.2.2.1, bel_c h.2.2.2 (Nat.le_refl _) hb⟩
  clear r r2 wf D0
  by_cases h0 : layB m n xs = true
  · rw [h0] at LK
    have hx1 := (lay_of h0).2.2.1.1
    have hx2 := (lay_of h0).2.2.1.2
    have hw1 : IntKind.i64.wrap ((xs.length : Int) - 1) = (xs.length : Int) - 1 := by simp [IntKind.wrap, IntKind.bits, IntKind.signed]; omega
    have hw2 : IntKind.i64.wrap ((xs.length : Int) + (js.length : Int)) = (xs.length : Int) + (js.length : Int) := by simp [IntKind.wrap, IntKind.bits, IntKind.signed]; omega
    obtain ⟨d1, hd1⟩ : ∃ d, ((js.length : Int) == (xs.length : Int) - 1) = d := ⟨_, rfl⟩
    have HA : Hid (areJ m n xs js = (d1 && (((unL m n xs js).length : Int) == (xs.length : Int) + js.length))) := Lib.hid (by unfold areJ; rw [h0, hd1]; rfl)
    rw [HA.out]
    clear HA
    generalize unL m n xs js = U at CU HL
    have hU := HL.out
    clear h0
    cases d1
    · skip
      go_enter Try.func13, Try.ntmps13
      go_wp2_with fail
      rw [← hG]
      clear hG
      (try simp only [List.append_eq, List.cons_append, List.nil_append])
      have hS := S0
      refine reg_begin (fun w' => w'.cell? ⟨w.heap.size, 0, none⟩ = some (.int .i64 m) ∧ w'.cell? ⟨w.heap.size, 1, none⟩ = some (.int .i64 n) ∧ w'.cell? ⟨w.heap.size, 2, none⟩ = some (.slice b xs.length cap) ∧ Below G.heap.size G w') (by kernel_rfl) hS ?_
      refine reg_take 0 (v := ?_) rfl (by kernel_rfl) (by kernel_rfl) (by kernel_rfl) (fun _ _ _ h => h) (by rfl) (by intro w hSw; (try dsimp only at hSw); go_simp; first | done | with_reducible rfl) hS ?_
      (try simp only [Act.put, List.setIfInBounds_toArray, List.set_cons_zero, List.set_cons_succ])
      refine reg_call 1 rfl (by kernel_rfl) (by rfl) (fun K hK => ?_)
      go_simp
      go_at_call 40
      refine (args_eqL (LK.out _ (bel_c HB0.out (Nat.le_refl _) hS.2.2.2)) (by with_reducible rfl)).mono ?_
      rintro e y ⟨rfl, hb⟩
      refine hK.out _ _ (KP _ _ hb hS) (fun hS' => ?_)
      clear hK K hS
      have hS := hS'
      clear hS' hb
      try (try simp only [Act.put, List.setIfInBounds_toArray, List.set_cons_zero, List.set_cons_succ])
      refine reg_take 2 (v := ?_) rfl (by kernel_rfl) (by kernel_rfl) (by kernel_rfl) (fun _ _ _ h => h) (by rfl) (by intro w hSw; (try dsimp only at hSw); go_simp; first | done | with_reducible rfl) hS ?_
      (try simp only [Act.put, List.setIfInBounds_toArray, List.set_cons_zero, List.set_cons_succ])
      refine reg_take 3 (v := ?_) rfl (by kernel_rfl) (by kernel_rfl) (by kernel_rfl) (fun _ _ _ h => h) (by rfl) (by intro w hSw; (try dsimp only at hSw); go_simp; first | done | with_reducible rfl) hS ?_
      (try simp only [Act.put, List.setIfInBounds_toArray, List.set_cons_zero, List.set_cons_succ])
      refine reg_take 4 (v := ?_) rfl (by kernel_rfl) (by kernel_rfl) (by kernel_rfl) (fun _ _ _ h => h) (by rfl) (by intro w hSw; (try dsimp only at hSw); go_simp; first | done | with_reducible rfl) hS ?_
      (try simp only [Act.put, List.setIfInBounds_toArray, List.set_cons_zero, List.set_cons_succ])
      refine reg_take 5 (v := ?_) rfl (by kernel_rfl) (by kernel_rfl) (by kernel_rfl) (fun _ _ _ h => h) (by rfl) (by intro w hSw; (try dsimp only at hSw); go_simp; first | done | with_reducible rfl) hS ?_
      (try simp only [Act.put, List.setIfInBounds_toArray, List.set_cons_zero, List.set_cons_succ])
      refine reg_take 6 (v := ?_) rfl (by kernel_rfl) (by kernel_rfl) (by kernel_rfl) (fun _ _ _ h => h) (by rfl) (by intro w hSw; (try dsimp only at hSw); go_simp; first | done | with_reducible rfl) hS ?_
      (try simp only [Act.put, List.setIfInBounds_toArray, List.set_cons_zero, List.set_cons_succ])
      refine reg_take 7 (v := ?_) rfl (by kernel_rfl) (by kernel_rfl) (by kernel_rfl) (fun _ _ _ h => h) (by rfl) (by intro w hSw; (try dsimp only at hSw); go_simp; first | done | with_reducible rfl) hS ?_
      (try simp only [Act.put, List.setIfInBounds_toArray, List.set_cons_zero, List.set_cons_succ])
      refine reg_take 8 (v := ?_) rfl (by kernel_rfl) (by kernel_rfl) (by kernel_rfl) (fun _ _ _ h => h) (by rfl) (by intro w hSw; (try dsimp only at hSw); go_simp; first | done | with_reducible rfl) hS ?_
      (try simp only [Act.put, List.setIfInBounds_toArray, List.set_cons_zero, List.set_cons_succ])
      refine reg_take 9 (v := ?_) rfl (by kernel_rfl) (by kernel_rfl) (by kernel_rfl) (fun _ _ _ h => h) (by rfl) (by intro w hSw; (try dsimp only at hSw); go_simp; first | done | with_reducible rfl) hS ?_
      (try simp only [Act.put, List.setIfInBounds_toArray, List.set_cons_zero, List.set_cons_succ])
      refine reg_take 10 (v := ?_) rfl (by kernel_rfl) (by kernel_rfl) (by kernel_rfl) (fun _ _ _ h => h) (by rfl) (by intro w hSw; (try dsimp only at hSw); go_simp; first | done | with_reducible rfl) hS ?_
      (try simp only [Act.put, List.setIfInBounds_toArray, List.set_cons_zero, List.set_cons_succ])
      refine reg_take 11 (v := ?_) rfl (by kernel_rfl) (by kernel_rfl) (by kernel_rfl) (fun _ _ _ h => h) (by rfl) (by intro w hSw; (try dsimp only at hSw); go_simp; first | done | with_reducible rfl) hS ?_
      (try simp only [Act.put, List.setIfInBounds_toArray, List.set_cons_zero, List.set_cons_succ])
      refine reg_skip 12 rfl (by kernel_rfl) (by kernel_rfl) (by kernel_rfl) (fun _ _ _ h => h) (by rfl) hS ?_
      (try simp only [Act.put, List.setIfInBounds_toArray, List.set_cons_zero, List.set_cons_succ])
      refine reg_skip 13 rfl (by kernel_rfl) (by kernel_rfl) (by kernel_rfl) (fun _ _ _ h => h) (by rfl) hS ?_
      (try simp only [Act.put, List.setIfInBounds_toArray, List.set_cons_zero, List.set_cons_succ])
      refine reg_skip 14 rfl (by kernel_rfl) (by kernel_rfl) (by kernel_rfl) (fun _ _ _ h => h) (by rfl) hS ?_
      (try simp only [Act.put, List.setIfInBounds_toArray, List.set_cons_zero, List.set_cons_succ])
      refine reg_skip 15 rfl (by kernel_rfl) (by kernel_rfl) (by kernel_rfl) (fun _ _ _ h => h) (by rfl) hS ?_
      (try simp only [Act.put, List.setIfInBounds_toArray, List.set_cons_zero, List.set_cons_succ])
      refine reg_skip 16 rfl (by kernel_rfl) (by kernel_rfl) (by kernel_rfl) (fun _ _ _ h => h) (by rfl) hS ?_
      (try simp only [Act.put, List.setIfInBounds_toArray, List.set_cons_zero, List.set_cons_succ])
      refine reg_skip 17 rfl (by kernel_rfl) (by kernel_rfl) (by kernel_rfl) (fun _ _ _ h => h) (by rfl) hS ?_
      (try simp only [Act.put, List.setIfInBounds_toArray, List.set_cons_zero, List.set_cons_succ])
      refine reg_skip 18 rfl (by kernel_rfl) (by kernel_rfl) (by kernel_rfl) (fun _ _ _ h => h) (by rfl) hS ?_
      (try simp only [Act.put, List.setIfInBounds_toArray, List.set_cons_zero, List.set_cons_succ])
      refine reg_skip 19 rfl (by kernel_rfl) (by kernel_rfl) (by kernel_rfl) (fun _ _ _ h => h) (by rfl) hS ?_
      (try simp only [Act.put, List.setIfInBounds_toArray, List.set_cons_zero, List.set_cons_succ])
      refine reg_skip 20 rfl (by kernel_rfl) (by kernel_rfl) (by kernel_rfl) (fun _ _ _ h => h) (by rfl) hS ?_
      (try simp only [Act.put, List.setIfInBounds_toArray, List.set_cons_zero, List.set_cons_succ])
      refine reg_skip 21 rfl (by kernel_rfl) (by kernel_rfl) (by kernel_rfl) (fun _ _ _ h => h) (by rfl) hS ?_
      (try simp only [Act.put, List.setIfInBounds_toArray, List.set_cons_zero, List.set_cons_succ])
      refine reg_skip 22 rfl (by kernel_rfl) (by kernel_rfl) (by kernel_rfl) (fun _ _ _ h => h) (by rfl) hS ?_
      (try simp only [Act.put, List.setIfInBounds_toArray, List.set_cons_zero, List.set_cons_succ])
      refine reg_take 23 (v := ?_) rfl (by kernel_rfl) (by kernel_rfl) (by kernel_rfl) (fun _ _ _ h => h) (by rfl) (by intro w hSw; (try dsimp only at hSw); go_simp; first | done | with_reducible rfl) hS ?_
      (try simp only [Act.put, List.setIfInBounds_toArray, List.set_cons_zero, List.set_cons_succ])
      refine reg_take 24 (v := ?_) rfl (by kernel_rfl) (by kernel_rfl) (by kernel_rfl) (fun _ _ _ h => h) (by rfl) (by intro w hSw; (try dsimp only at hSw); go_simp; first | done | with_reducible rfl) hS ?_
      (try simp only [Act.put, List.setIfInBounds_toArray, List.set_cons_zero, List.set_cons_succ])
      refine wpAnyH_done (by kernel_rfl) ?_ _
      have BE := Lib.hid (bel_c HB0.out (Nat.le_refl _) hS.2.2.2)
      clear hS
      go_wp2_with fail
      go_ret
      exact ⟨ret_bool (rfl), BE.out⟩
    · skip
      go_enter Try.func13, Try.ntmps13
      go_wp2_with fail
      rw [← hG]
      clear hG
      (try simp only [List.append_eq, List.cons_append, List.nil_append])
      have hS := S0
      refine reg_begin (fun w' => w'.cell? ⟨w.heap.size, 0, none⟩ = some (.int .i64 m) ∧ w'.cell? ⟨w.heap.size, 1, none⟩ = some (.int .i64 n) ∧ w'.cell? ⟨w.heap.size, 2, none⟩ = some (.slice b xs.length cap) ∧ Below G.heap.size G w') (by kernel_rfl) hS ?_
      refine reg_take 0 (v := ?_) rfl (by kernel_rfl) (by kernel_rfl) (by kernel_rfl) (fun _ _ _ h => h) (by rfl) (by intro w hSw; (try dsimp only at hSw); go_simp; first | done | with_reducible rfl) hS ?_
      (try simp only [Act.put, List.setIfInBounds_toArray, List.set_cons_zero, List.set_cons_succ])
      refine reg_call 1 rfl (by kernel_rfl) (by rfl) (fun K hK => ?_)
      go_simp
      go_at_call 40
      refine (args_eqL (LK.out _ (bel_c HB0.out (Nat.le_refl _) hS.2.2.2)) (by with_reducible rfl)).mono ?_
      rintro e y ⟨rfl, hb⟩
      refine hK.out _ _ (KP _ _ hb hS) (fun hS' => ?_)
      clear hK K hS
      have hS := hS'
      clear hS' hb
      try (try simp only [Act.put, List.setIfInBounds_toArray, List.set_cons_zero, List.set_cons_succ])
      refine reg_take 2 (v := ?_) rfl (by kernel_rfl) (by kernel_rfl) (by kernel_rfl) (fun _ _ _ h => h) (by rfl) (by intro w hSw; (try dsimp only at hSw); go_simp; first | done | with_reducible rfl) hS ?_
      (try simp only [Act.put, List.setIfInBounds_toArray, List.set_cons_zero, List.set_cons_succ])
      refine reg_take 3 (v := ?_) rfl (by kernel_rfl) (by kernel_rfl) (by kernel_rfl) (fun _ _ _ h => h) (by rfl) (by intro w hSw; (try dsimp only at hSw); go_simp; first | done | with_reducible rfl) hS ?_
      (try simp only [Act.put, List.setIfInBounds_toArray, List.set_cons_zero, List.set_cons_succ])
      refine reg_take 4 (v := ?_) rfl (by kernel_rfl) (by kernel_rfl) (by kernel_rfl) (fun _ _ _ h => h) (by rfl) (by intro w hSw; (try dsimp only at hSw); go_simp; first | done | with_reducible rfl) hS ?_
      (try simp only [Act.put, List.setIfInBounds_toArray, List.set_cons_zero, List.set_cons_succ])
      refine reg_take 5 (v := ?_) rfl (by kernel_rfl) (by kernel_rfl) (by kernel_rfl) (fun _ _ _ h => h) (by rfl) (by intro w hSw; (try dsimp only at hSw); go_simp; first | done | with_reducible rfl) hS ?_
      (try simp only [Act.put, List.setIfInBounds_toArray, List.set_cons_zero, List.set_cons_succ])
      refine reg_take 6 (v := ?_) rfl (by kernel_rfl) (by kernel_rfl) (by kernel_rfl) (fun _ _ _ h => h) (by rfl) (by intro w hSw; (try dsimp only at hSw); go_simp; first | done | with_reducible rfl) hS ?_
      (try simp only [Act.put, List.setIfInBounds_toArray, List.set_cons_zero, List.set_cons_succ])
      refine reg_take 7 (v := ?_) rfl (by kernel_rfl) (by kernel_rfl) (by kernel_rfl) (fun _ _ _ h => h) (by rfl) (by intro w hSw; (try dsimp only at hSw); go_simp; first | done | with_reducible rfl) hS ?_
      (try simp only [Act.put, List.setIfInBounds_toArray, List.set_cons_zero, List.set_cons_succ])
      refine reg_take 8 (v := ?_) rfl (by kernel_rfl) (by kernel_rfl) (by kernel_rfl) (fun _ _ _ h => h) (by rfl) (by intro w hSw; (try dsimp only at hSw); go_simp; first | done | with_reducible rfl) hS ?_
      (try simp only [Act.put, List.setIfInBounds_toArray, List.set_cons_zero, List.set_cons_succ])
      refine reg_take 9 (v := ?_) rfl (by kernel_rfl) (by kernel_rfl) (by kernel_rfl) (fun _ _ _ h => h) (by rfl) (by intro w hSw; (try dsimp only at hSw); go_simp; first | done | with_reducible rfl) hS ?_
      (try simp only [Act.put, List.setIfInBounds_toArray, List.set_cons_zero, List.set_cons_succ])
      refine reg_take 10 (v := ?_) rfl (by kernel_rfl) (by kernel_rfl) (by kernel_rfl) (fun _ _ _ h => h) (by rfl) (by intro w hSw; (try dsimp only at hSw); go_simp; first | done | with_reducible rfl) hS ?_
      (try simp only [Act.put, List.setIfInBounds_toArray, List.set_cons_zero, List.set_cons_succ])
      refine reg_take 11 (v := ?_) rfl (by kernel_rfl) (by kernel_rfl) (by kernel_rfl) (fun _ _ _ h => h) (by rfl) (by intro w hSw; (try dsimp only at hSw); go_simp; first | done | with_reducible rfl) hS ?_
      (try simp only [Act.put, List.setIfInBounds_toArray, List.set_cons_zero, List.set_cons_succ])
      refine reg_take 12 (v := ?_) rfl (by kernel_rfl) (by kernel_rfl) (by kernel_rfl) (fun _ _ _ h => h) (by rfl) (by intro w hSw; (try dsimp only at hSw); go_simp; first | done | with_reducible rfl) hS ?_
      (try simp only [Act.put, List.setIfInBounds_toArray, List.set_cons_zero, List.set_cons_succ])
      refine reg_take 13 (v := ?_) rfl (by kernel_rfl) (by kernel_rfl) (by kernel_rfl) (fun _ _ _ h => h) (by rfl) (by intro w hSw; (try dsimp only at hSw); go_simp; first | done | with_reducible rfl) hS ?_
      (try simp only [Act.put, List.setIfInBounds_toArray, List.set_cons_zero, List.set_cons_succ])
      refine reg_take 16 (v := ?_) rfl (by kernel_rfl) (by kernel_rfl) (by kernel_rfl) (fun _ _ _ h => h) (by rfl) (by intro w hSw; (try dsimp only at hSw); go_simp; first | done | with_reducible rfl) hS ?_
      (try simp only [Act.put, List.setIfInBounds_toArray, List.set_cons_zero, List.set_cons_succ])
      refine reg_take 17 (v := ?_) rfl (by kernel_rfl) (by kernel_rfl) (by kernel_rfl) (fun _ _ _ h => h) (by rfl) (by intro w hSw; (try dsimp only at hSw); go_simp; first | done | with_reducible rfl) hS ?_
      (try simp only [Act.put, List.setIfInBounds_toArray, List.set_cons_zero, List.set_cons_succ])
      refine reg_take 18 (v := ?_) rfl (by kernel_rfl) (by kernel_rfl) (by kernel_rfl) (fun _ _ _ h => h) (by rfl) (by intro w hSw; (try dsimp only at hSw); go_simp; first | done | with_reducible rfl) hS ?_
      (try simp only [Act.put, List.setIfInBounds_toArray, List.set_cons_zero, List.set_cons_succ])
      refine reg_take 19 (v := ?_) rfl (by kernel_rfl) (by kernel_rfl) (by kernel_rfl) (fun _ _ _ h => h) (by rfl) (by intro w hSw; (try dsimp only at hSw); go_simp; first | done | with_reducible rfl) hS ?_
      (try simp only [Act.put, List.setIfInBounds_toArray, List.set_cons_zero, List.set_cons_succ])
      refine reg_take 20 (v := ?_) rfl (by kernel_rfl) (by kernel_rfl) (by kernel_rfl) (fun _ _ _ h => h) (by rfl) (by intro w hSw; (try dsimp only at hSw); go_simp; first | done | with_reducible rfl) hS ?_
      (try simp only [Act.put, List.setIfInBounds_toArray, List.set_cons_zero, List.set_cons_succ])
      refine reg_take 21 (v := ?_) rfl (by kernel_rfl) (by kernel_rfl) (by kernel_rfl) (fun _ _ _ h => h) (by rfl) (by intro w hSw; (try dsimp only at hSw); go_simp; first | done | with_reducible rfl) hS ?_
      (try simp only [Act.put, List.setIfInBounds_toArray, List.set_cons_zero, List.set_cons_succ])
      refine reg_call 14 rfl (by kernel_rfl) (by rfl) (fun K hK => ?_)
      go_simp
      go_at_call 41
      refine (args_eqL (CU.out _ (bel_c HB0.out (Nat.le_refl _) hS.2.2.2)) (by with_reducible rfl)).mono ?_
      rintro e z ⟨vU, rfl, RU, hb⟩
      obtain ⟨aU, cU, rfl⟩ := RU.form
      refine hK.out _ _ (KP _ _ hb hS) (fun hS' => ?_)
      clear hK K hS
      have hS := hS'
      clear hS' hb
      try (try simp only [Act.put, List.setIfInBounds_toArray, List.set_cons_zero, List.set_cons_succ])
      refine reg_take 15 (v := ?_) rfl (by kernel_rfl) (by kernel_rfl) (by kernel_rfl) (fun _ _ _ h => h) (by rfl) (by intro w hSw; (try dsimp only at hSw); go_simp; first | done | with_reducible rfl) hS ?_
      (try simp only [Act.put, List.setIfInBounds_toArray, List.set_cons_zero, List.set_cons_succ])
      refine reg_take 22 (v := ?_) rfl (by kernel_rfl) (by kernel_rfl) (by kernel_rfl) (fun _ _ _ h => h) (by rfl) (by intro w hSw; (try dsimp only at hSw); go_simp; first | done | with_reducible rfl) hS ?_
      (try simp only [Act.put, List.setIfInBounds_toArray, List.set_cons_zero, List.set_cons_succ])
      refine reg_take 23 (v := ?_) rfl (by kernel_rfl) (by kernel_rfl) (by kernel_rfl) (fun _ _ _ h => h) (by rfl) (by intro w hSw; (try dsimp only at hSw); go_simp; first | done | with_reducible rfl) hS ?_
      (try simp only [Act.put, List.setIfInBounds_toArray, List.set_cons_zero, List.set_cons_succ])
      refine reg_take 24 (v := ?_) rfl (by kernel_rfl) (by kernel_rfl) (by kernel_rfl) (fun _ _ _ h => h) (by rfl) (by intro w hSw; (try dsimp only at hSw); go_simp; first | done | with_reducible rfl) hS ?_
      (try simp only [Act.put, List.setIfInBounds_toArray, List.set_cons_zero, List.set_cons_succ])
      refine wpAnyH_done (by kernel_rfl) ?_ _
      have BE := Lib.hid (bel_c HB0.out (Nat.le_refl _) hS.2.2.2)
      clear hS
      go_wp2_with fail
      go_ret
      exact ⟨ret_bool (rfl), BE.out⟩
  · rw [show layB m n xs = false by simpa using h0] at LK
    rw [show areJ m n xs js = false by simp [areJ, show layB m n xs = false by simpa using h0]]
    clear h0
    go_enter Try.func13, Try.ntmps13
    go_wp2_with fail
    rw [← hG]
    clear hG
    (try simp only [List.append_eq, List.cons_append, List.nil_append])
    have hS := S0
    refine reg_begin (fun w' => w'.cell? ⟨w.heap.size, 0, none⟩ = some (.int .i64 m) ∧ w'.cell? ⟨w.heap.size, 1, none⟩ = some (.int .i64 n) ∧ w'.cell? ⟨w.heap.size, 2, none⟩ = some (.slice b xs.length cap) ∧ Below G.heap.size G w') (by kernel_rfl) hS ?_
    refine reg_take 0 (v := ?_) rfl (by kernel_rfl) (by kernel_rfl) (by kernel_rfl) (fun _ _ _ h => h) (by rfl) (by intro w hSw; (try dsimp only at hSw); go_simp; first | done | with_reducible rfl) hS ?_
    (try simp only [Act.put, List.setIfInBounds_toArray, List.set_cons_zero, List.set_cons_succ])
    refine reg_call 1 rfl (by kernel_rfl) (by rfl) (fun K hK => ?_)
    go_simp
    go_at_call 40
    refine (args_eqL (LK.out _ (bel_c HB0.out (Nat.le_refl _) hS.2.2.2)) (by with_reducible rfl)).mono ?_
    rintro e y ⟨rfl, hb⟩
    refine hK.out _ _ (KP _ _ hb hS) (fun hS' => ?_)
    clear hK K hS
    have hS := hS'
    clear hS' hb
    try (try simp only [Act.put, List.setIfInBounds_toArray, List.set_cons_zero, List.set_cons_succ])
    refine reg_take 2 (v := ?_) rfl (by kernel_rfl) (by kernel_rfl) (by kernel_rfl) (fun _ _ _ h => h) (by rfl) (by intro w hSw; (try dsimp only at hSw); go_simp; first | done | with_reducible rfl) hS ?_
    (try simp only [Act.put, List.setIfInBounds_toArray, List.set_cons_zero, List.set_cons_succ])
    refine reg_skip 3 rfl (by kernel_rfl) (by kernel_rfl) (by kernel_rfl) (fun _ _ _ h => h) (by rfl) hS ?_
    (try simp only [Act.put, List.setIfInBounds_toArray, List.set_cons_zero, List.set_cons_succ])
    refine reg_skip 4 rfl (by kernel_rfl) (by kernel_rfl) (by kernel_rfl) (fun _ _ _ h => h) (by rfl) hS ?_
    (try simp only [Act.put, List.setIfInBounds_toArray, List.set_cons_zero, List.set_cons_succ])
    refine reg_skip 5 rfl (by kernel_rfl) (by kernel_rfl) (by kernel_rfl) (fun _ _ _ h => h) (by rfl) hS ?_
    (try simp only [Act.put, List.setIfInBounds_toArray, List.set_cons_zero, List.set_cons_succ])
    refine reg_skip 6 rfl (by kernel_rfl) (by kernel_rfl) (by kernel_rfl) (fun _ _ _ h => h) (by rfl) hS ?_
    (try simp only [Act.put, List.setIfInBounds_toArray, List.set_cons_zero, List.set_cons_succ])
    refine reg_skip 7 rfl (by kernel_rfl) (by kernel_rfl) (by kernel_rfl) (fun _ _ _ h => h) (by rfl) hS ?_
    (try simp only [Act.put, List.setIfInBounds_toArray, List.set_cons_zero, List.set_cons_succ])
    refine reg_skip 8 rfl (by kernel_rfl) (by kernel_rfl) (by kernel_rfl) (fun _ _ _ h => h) (by rfl) hS ?_
    (try simp only [Act.put, List.setIfInBounds_toArray, List.set_cons_zero, List.set_cons_succ])
    refine reg_skip 9 rfl (by kernel_rfl) (by kernel_rfl) (by kernel_rfl) (fun _ _ _ h => h) (by rfl) hS ?_
    (try simp only [Act.put, List.setIfInBounds_toArray, List.set_cons_zero, List.set_cons_succ])
    refine reg_take 10 (v := ?_) rfl (by kernel_rfl) (by kernel_rfl) (by kernel_rfl) (fun _ _ _ h => h) (by rfl) (by intro w hSw; (try dsimp only at hSw); go_simp; first | done | with_reducible rfl) hS ?_
    (try simp only [Act.put, List.setIfInBounds_toArray, List.set_cons_zero, List.set_cons_succ])
    refine reg_take 11 (v := ?_) rfl (by kernel_rfl) (by kernel_rfl) (by kernel_rfl) (fun _ _ _ h => h) (by rfl) (by intro w hSw; (try dsimp only at hSw); go_simp; first | done | with_reducible rfl) hS ?_
    (try simp only [Act.put, List.setIfInBounds_toArray, List.set_cons_zero, List.set_cons_succ])
    refine reg_skip 12 rfl (by kernel_rfl) (by kernel_rfl) (by kernel_rfl) (fun _ _ _ h => h) (by rfl) hS ?_
    (try simp only [Act.put, List.setIfInBounds_toArray, List.set_cons_zero, List.set_cons_succ])
    refine reg_skip 13 rfl (by kernel_rfl) (by kernel_rfl) (by kernel_rfl) (fun _ _ _ h => h) (by rfl) hS ?_
    (try simp only [Act.put, List.setIfInBounds_toArray, List.set_cons_zero, List.set_cons_succ])
    refine reg_skip 14 rfl (by kernel_rfl) (by kernel_rfl) (by kernel_rfl) (fun _ _ _ h => h) (by rfl) hS ?_
    (try simp only [Act.put, List.setIfInBounds_toArray, List.set_cons_zero, List.set_cons_succ])
    refine reg_skip 15 rfl (by kernel_rfl) (by kernel_rfl) (by kernel_rfl) (fun _ _ _ h => h) (by rfl) hS ?_
    (try simp only [Act.put, List.setIfInBounds_toArray, List.set_cons_zero, List.set_cons_succ])
    refine reg_skip 16 rfl (by kernel_rfl) (by kernel_rfl) (by kernel_rfl) (fun _ _ _ h => h) (by rfl) hS ?_
    (try simp only [Act.put, List.setIfInBounds_toArray, List.set_cons_zero, List.set_cons_succ])
    refine reg_skip 17 rfl (by kernel_rfl) (by kernel_rfl) (by kernel_rfl) (fun _ _ _ h => h) (by rfl) hS ?_
    (try simp only [Act.put, List.setIfInBounds_toArray, List.set_cons_zero, List.set_cons_succ])
    refine reg_skip 18 rfl (by kernel_rfl) (by kernel_rfl) (by kernel_rfl) (fun _ _ _ h => h) (by rfl) hS ?_
    (try simp only [Act.put, List.setIfInBounds_toArray, List.set_cons_zero, List.set_cons_succ])
    refine reg_skip 19 rfl (by kernel_rfl) (by kernel_rfl) (by kernel_rfl) (fun _ _ _ h => h) (by rfl) hS ?_
    (try simp only [Act.put, List.setIfInBounds_toArray, List.set_cons_zero, List.set_cons_succ])
    refine reg_skip 20 rfl (by kernel_rfl) (by kernel_rfl) (by kernel_rfl) (fun _ _ _ h => h) (by rfl) hS ?_
    (try simp only [Act.put, List.setIfInBounds_toArray, List.set_cons_zero, List.set_cons_succ])
    refine reg_skip 21 rfl (by kernel_rfl) (by kernel_rfl) (by kernel_rfl) (fun _ _ _ h => h) (by rfl) hS ?_
    (try simp only [Act.put, List.setIfInBounds_toArray, List.set_cons_zero, List.set_cons_succ])
    refine reg_skip 22 rfl (by kernel_rfl) (by kernel_rfl) (by kernel_rfl) (fun _ _ _ h => h) (by rfl) hS ?_
    (try simp only [Act.put, List.setIfInBounds_toArray, List.set_cons_zero, List.set_cons_succ])
    refine reg_take 23 (v := ?_) rfl (by kernel_rfl) (by kernel_rfl) (by kernel_rfl) (fun _ _ _ h => h) (by rfl) (by intro w hSw; (try dsimp only at hSw); go_simp; first | done | with_reducible rfl) hS ?_
    (try simp only [Act.put, List.setIfInBounds_toArray, List.set_cons_zero, List.set_cons_succ])
    refine reg_take 24 (v := ?_) rfl (by kernel_rfl) (by kernel_rfl) (by kernel_rfl) (fun _ _ _ h => h) (by rfl) (by intro w hSw; (try dsimp only at hSw); go_simp; first | done | with_reducible rfl) hS ?_
    (try simp only [Act.put, List.setIfInBounds_toArray, List.set_cons_zero, List.set_cons_succ])
    refine wpAnyH_done (by kernel_rfl) ?_ _
    have BE := Lib.hid (bel_c HB0.out (Nat.le_refl _) hS.2.2.2)
    clear hS
    go_wp2_with fail
    go_ret
    exact ⟨ret_bool (rfl), BE.out⟩


end Go.Proofs.Ytboahceibeeifaa

set_option linter.unusedSimpArgs false
set_option linter.unusedVariables false
namespace Go.Proofs.Ytboahceibeeifaa
open Go.ChangeShapes Go.WideShapes Go.ChangeAt Go.RowKit

set_option maxHeartbeats 3200000 in
set_option maxRecDepth 20000 in
theorem ImplAreJoins_short (lo hi : Nat) (m n : Int) (v : Value) (xs : List P5) (b2 : Option Addr) (k cap2 : Nat) (wf : ∀ c ∈ xs, c.Wf) (w : World) (r : PatIn lo hi w v xs) (hhi : hi ≤ w.heap.size) (h0 : layB m n xs = true) (hd1 : ((k : Int) == (xs.length : Int) - 1) = false) (hl2 : k ≤ 1048576) :
    Calls Try.prog 13 #[.agg #[.int .i64 m, .int .i64 n, v], .slice b2 k cap2] w fun e w' => e = .returned (.bool false) ∧ Below w.heap.size w w' := by
  obtain ⟨b, cap, rfl⟩ := r.form
  have hl := r.1
  have LK : Hid (∀ u : World, Below w.heap.size w u → Calls Try.prog 40 #[.agg #[.int .i64 m, .int .i64 n, .slice b xs.length cap]] u fun e w' => e = .returned (.bool true) ∧ Below u.heap.size u w') := Lib.hid (fun u hb => by rw [← h0]; exact ImplLayoutOk_any lo hi m n _ xs u (r.below (hb.mono hhi)) (Nat.le_trans hhi hb.size) wf)
  obtain ⟨G, hG⟩ : ∃ G, G = w.alloc (.cells #[.int .i64 m, .int .i64 n, .slice b xs.length cap] 26) := ⟨_, rfl⟩
  have HB0 : Hid (Below w.heap.size w G) := Lib.hid (by rw [hG]; exact bel0 w _)
  have D0 : Below G.heap.size G G.drew := ⟨rfl, rfl, rfl, Nat.le_refl _, fun _ _ => rfl⟩
  have S0 : G.drew.cell? ⟨w.heap.size, 0, none⟩ = some (.int .i64 m) ∧ G.drew.cell? ⟨w.heap.size, 1, none⟩ = some (.int .i64 n) ∧ G.drew.cell? ⟨w.heap.size, 2, none⟩ = some (.slice b xs.length cap) ∧ Below G.heap.size G G.drew := ⟨kept D0 (by rw [hG]; simp), kept D0 (by rw [hG]; simp), kept D0 (by rw [hG]; simp), D0⟩
  have KP : ∀ u v : World, Below u.heap.size u v → (u.cell? ⟨w.heap.size, 0, none⟩ = some (.int .i64 m) ∧ u.cell? ⟨w.heap.size, 1, none⟩ = some (.int .i64 n) ∧ u.cell? ⟨w.heap.size, 2, none⟩ = some (.slice b xs.length cap) ∧ Below G.heap.size G u) → (v.cell? ⟨w.heap.size, 0, none⟩ = some (.int .i64 m) ∧ v.cell? ⟨w.heap.size, 1, none⟩ = some (.int .i64 n) ∧ v.cell? ⟨w.heap.size, 2, none⟩ = some (.slice b xs.length cap) ∧ Below G.heap.size G v) := fun u v hb h => ⟨kept hb h.1, kept hb h.2.1, kept hb h.2.2.1, bel_c h.2.2.2 (Nat.le_refl _) hb⟩
  clear r wf D0
  have hx1 := (lay_of h0).2.2.1.1
  have hx2 := (lay_of h0).2.2.1.2
  have hw1 : IntKind.i64.wrap ((xs.length : Int) - 1) = (xs.length : Int) - 1 := by simp [IntKind.wrap, IntKind.bits, IntKind.signed]; omega
  clear h0
  go_enter Try.func13, Try.ntmps13
  go_wp2_with fail
  rw [← hG]
  clear hG
  (try simp only [List.append_eq, List.cons_append, List.nil_append])
  have hS := S0
  refine reg_begin (fun w' => w'.cell? ⟨w.heap.size, 0, none⟩ = some (.int .i64 m) ∧ w'.cell? ⟨w.heap.size, 1, none⟩ = some (.int .i64 n) ∧ w'.cell? ⟨w.heap.size, 2, none⟩ = some (.slice b xs.length cap) ∧ Below G.heap.size G w') (by kernel_rfl) hS ?_
  refine reg_take 0 (v := ?_) rfl (by kernel_rfl) (by kernel_rfl) (by kernel_rfl) (fun _ _ _ h => h) (by rfl) (by intro w hSw; (try dsimp only at hSw); go_simp; first | done | with_reducible rfl) hS ?_
  (try simp only [Act.put, List.setIfInBounds_toArray, List.set_cons_zero, List.set_cons_succ])
  refine reg_call 1 rfl (by kernel_rfl) (by rfl) (fun K hK => ?_)
  go_simp
  go_at_call 40
  refine (args_eqL (LK.out _ (bel_c HB0.out (Nat.le_refl _) hS.2.2.2)) (by with_reducible rfl)).mono ?_
  rintro e y ⟨rfl, hb⟩
  refine hK.out _ _ (KP _ _ hb hS) (fun hS' => ?_)
  clear hK K hS
  have hS := hS'
  clear hS' hb
  try (try simp only [Act.put, List.setIfInBounds_toArray, List.set_cons_zero, List.set_cons_succ])
  refine reg_take 2 (v := ?_) rfl (by kernel_rfl) (by kernel_rfl) (by kernel_rfl) (fun _ _ _ h => h) (by rfl) (by intro w hSw; (try dsimp only at hSw); go_simp; first | done | with_reducible rfl) hS ?_
  (try simp only [Act.put, List.setIfInBounds_toArray, List.set_cons_zero, List.set_cons_succ])
  refine reg_take 3 (v := ?_) rfl (by kernel_rfl) (by kernel_rfl) (by kernel_rfl) (fun _ _ _ h => h) (by rfl) (by intro w hSw; (try dsimp only at hSw); go_simp; first | done | with_reducible rfl) hS ?_
  (try simp only [Act.put, List.setIfInBounds_toArray, List.set_cons_zero, List.set_cons_succ])
  refine reg_take 4 (v := ?_) rfl (by kernel_rfl) (by kernel_rfl) (by kernel_rfl) (fun _ _ _ h => h) (by rfl) (by intro w hSw; (try dsimp only at hSw); go_simp; first | done | with_reducible rfl) hS ?_
  (try simp only [Act.put, List.setIfInBounds_toArray, List.set_cons_zero, List.set_cons_succ])
  refine reg_take 5 (v := ?_) rfl (by kernel_rfl) (by kernel_rfl) (by kernel_rfl) (fun _ _ _ h => h) (by rfl) (by intro w hSw; (try dsimp only at hSw); go_simp; first | done | with_reducible rfl) hS ?_
  (try simp only [Act.put, List.setIfInBounds_toArray, List.set_cons_zero, List.set_cons_succ])
  refine reg_take 6 (v := ?_) rfl (by kernel_rfl) (by kernel_rfl) (by kernel_rfl) (fun _ _ _ h => h) (by rfl) (by intro w hSw; (try dsimp only at hSw); go_simp; first | done | with_reducible rfl) hS ?_
  (try simp only [Act.put, List.setIfInBounds_toArray, List.set_cons_zero, List.set_cons_succ])
  refine reg_take 7 (v := ?_) rfl (by kernel_rfl) (by kernel_rfl) (by kernel_rfl) (fun _ _ _ h => h) (by rfl) (by intro w hSw; (try dsimp only at hSw); go_simp; first | done | with_reducible rfl) hS ?_
  (try simp only [Act.put, List.setIfInBounds_toArray, List.set_cons_zero, List.set_cons_succ])
  refine reg_take 8 (v := ?_) rfl (by kernel_rfl) (by kernel_rfl) (by kernel_rfl) (fun _ _ _ h => h) (by rfl) (by intro w hSw; (try dsimp only at hSw); go_simp; first | done | with_reducible rfl) hS ?_
  (try simp only [Act.put, List.setIfInBounds_toArray, List.set_cons_zero, List.set_cons_succ])
  refine reg_take 9 (v := ?_) rfl (by kernel_rfl) (by kernel_rfl) (by kernel_rfl) (fun _ _ _ h => h) (by rfl) (by intro w hSw; (try dsimp only at hSw); go_simp; first | done | with_reducible rfl) hS ?_
  (try simp only [Act.put, List.setIfInBounds_toArray, List.set_cons_zero, List.set_cons_succ])
  refine reg_take 10 (v := ?_) rfl (by kernel_rfl) (by kernel_rfl) (by kernel_rfl) (fun _ _ _ h => h) (by rfl) (by intro w hSw; (try dsimp only at hSw); go_simp; first | done | with_reducible rfl) hS ?_
  (try simp only [Act.put, List.setIfInBounds_toArray, List.set_cons_zero, List.set_cons_succ])
  refine reg_take 11 (v := ?_) rfl (by kernel_rfl) (by kernel_rfl) (by kernel_rfl) (fun _ _ _ h => h) (by rfl) (by intro w hSw; (try dsimp only at hSw); go_simp; first | done | with_reducible rfl) hS ?_
  (try simp only [Act.put, List.setIfInBounds_toArray, List.set_cons_zero, List.set_cons_succ])
  refine reg_skip 12 rfl (by kernel_rfl) (by kernel_rfl) (by kernel_rfl) (fun _ _ _ h => h) (by rfl) hS ?_
  (try simp only [Act.put, List.setIfInBounds_toArray, List.set_cons_zero, List.set_cons_succ])
  refine reg_skip 13 rfl (by kernel_rfl) (by kernel_rfl) (by kernel_rfl) (fun _ _ _ h => h) (by rfl) hS ?_
  (try simp only [Act.put, List.setIfInBounds_toArray, List.set_cons_zero, List.set_cons_succ])
  refine reg_skip 14 rfl (by kernel_rfl) (by kernel_rfl) (by kernel_rfl) (fun _ _ _ h => h) (by rfl) hS ?_
  (try simp only [Act.put, List.setIfInBounds_toArray, List.set_cons_zero, List.set_cons_succ])
  refine reg_skip 15 rfl (by kernel_rfl) (by kernel_rfl) (by kernel_rfl) (fun _ _ _ h => h) (by rfl) hS ?_
  (try simp only [Act.put, List.setIfInBounds_toArray, List.set_cons_zero, List.set_cons_succ])
  refine reg_skip 16 rfl (by kernel_rfl) (by kernel_rfl) (by kernel_rfl) (fun _ _ _ h => h) (by rfl) hS ?_
  (try simp only [Act.put, List.setIfInBounds_toArray, List.set_cons_zero, List.set_cons_succ])
  refine reg_skip 17 rfl (by kernel_rfl) (by kernel_rfl) (by kernel_rfl) (fun _ _ _ h => h) (by rfl) hS ?_
  (try simp only [Act.put, List.setIfInBounds_toArray, List.set_cons_zero, List.set_cons_succ])
  refine reg_skip 18 rfl (by kernel_rfl) (by kernel_rfl) (by kernel_rfl) (fun _ _ _ h => h) (by rfl) hS ?_
  (try simp only [Act.put, List.setIfInBounds_toArray, List.set_cons_zero, List.set_cons_succ])
  refine reg_skip 19 rfl (by kernel_rfl) (by kernel_rfl) (by kernel_rfl) (fun _ _ _ h => h) (by rfl) hS ?_
  (try simp only [Act.put, List.setIfInBounds_toArray, List.set_cons_zero, List.set_cons_succ])
  refine reg_skip 20 rfl (by kernel_rfl) (by kernel_rfl) (by kernel_rfl) (fun _ _ _ h => h) (by rfl) hS ?_
  (try simp only [Act.put, List.setIfInBounds_toArray, List.set_cons_zero, List.set_cons_succ])
  refine reg_skip 21 rfl (by kernel_rfl) (by kernel_rfl) (by kernel_rfl) (fun _ _ _ h => h) (by rfl) hS ?_
  (try simp only [Act.put, List.setIfInBounds_toArray, List.set_cons_zero, List.set_cons_succ])
  refine reg_skip 22 rfl (by kernel_rfl) (by kernel_rfl) (by kernel_rfl) (fun _ _ _ h => h) (by rfl) hS ?_
  (try simp only [Act.put, List.setIfInBounds_toArray, List.set_cons_zero, List.set_cons_succ])
  refine reg_take 23 (v := ?_) rfl (by kernel_rfl) (by kernel_rfl) (by kernel_rfl) (fun _ _ _ h => h) (by rfl) (by intro w hSw; (try dsimp only at hSw); go_simp; first | done | with_reducible rfl) hS ?_
  (try simp only [Act.put, List.setIfInBounds_toArray, List.set_cons_zero, List.set_cons_succ])
  refine reg_take 24 (v := ?_) rfl (by kernel_rfl) (by kernel_rfl) (by kernel_rfl) (fun _ _ _ h => h) (by rfl) (by intro w hSw; (try dsimp only at hSw); go_simp; first | done | with_reducible rfl) hS ?_
  (try simp only [Act.put, List.setIfInBounds_toArray, List.set_cons_zero, List.set_cons_succ])
  refine wpAnyH_done (by kernel_rfl) ?_ _
  have BE := Lib.hid (bel_c HB0.out (Nat.le_refl _) hS.2.2.2)
  clear hS
  go_wp2_with fail
  go_ret
  exact ⟨ret_bool (rfl), BE.out⟩

end Go.Proofs.Ytboahceibeeifaa

set_option linter.unusedSimpArgs false
set_option linter.unusedVariables false
namespace Go.Proofs.Ytboahceibeeifaa
open Go.ChangeShapes Go.WideShapes Go.ChangeAt Go.RowKit


theorem if_max (x y : Int) : (if x < y then y else x) = max x y := by omega
theorem lenJ_p (us : List U6) (j : J3) : lenJ us j = if j.up then (un us j.a.toNat).p.h else (un us j.a.toNat).p.w := rfl
set_option maxHeartbeats 3200000 in
set_option maxRecDepth 20000 in
theorem ImplLongest_any (lo hi : Nat) (m n : Int) (v : Value) (xs : List P5) (lo2 hi2 : Nat) (v2 : Value) (js : List J3) (wf : ∀ c ∈ xs, c.Wf) (w : World) (r : PatIn lo hi w v xs) (hhi : hi ≤ w.heap.size) (r2 : JnIn lo2 hi2 w v2 js) (hhi2 : hi2 ≤ w.heap.size) :
    Calls Try.prog 16 #[.agg #[.int .i64 m, .int .i64 n, v], v2] w fun e w' => e = .returned (.int .i64 (lonJ m n xs js)) ∧ Below w.heap.size w w' := by
  obtain ⟨b, cap, rfl⟩ := r.form
  obtain ⟨b2, cap2, rfl⟩ := r2.form
  have hl := r.1
  have hl2 := r2.1
  have CU : Hid (∀ u : World, Below w.heap.size w u → Calls Try.prog 41 #[.agg #[.int .i64 m, .int .i64 n, .slice b xs.length cap], .slice b2 js.length cap2] u (FreshUn (unL m n xs js) u)) := Lib.hid (fun u hb => ImplUnits_any lo hi m n _ xs lo2 hi2 _ js wf u (r.below (hb.mono hhi)) (Nat.le_trans hhi hb.size) (r2.below (hb.mono hhi2)) (Nat.le_trans hhi2 hb.size))
  have R2 := Lib.hid r2
  have CA : Hid (∀ u : World, Below w.heap.size w u → Calls Try.prog 13 #[.agg #[.int .i64 m, .int .i64 n, .slice b xs.length cap], .slice b2 js.length cap2] u fun e w' => e = .returned (.bool (areJ m n xs js)) ∧ Below u.heap.size u w') := Lib.hid (fun u hb => ImplAreJoins_any lo hi m n _ xs lo2 hi2 _ js wf u (r.below (hb.mono hhi)) (Nat.le_trans hhi hb.size) (r2.below (hb.mono hhi2)) (Nat.le_trans hhi2 hb.size))
  have HB0 : Hid (Below w.heap.size w (w.alloc (.cells #[.int .i64 m, .int .i64 n, .slice b xs.length cap] 26))) := Lib.hid (bel0 w _)
  clear r r2 wf
  by_cases h0 : areJ m n xs js = true
  · rw [h0] at CA
    have HE := Lib.hid (lon_yes h0)
    have HIN : Hid (∀ k, k < js.length → InU (unL m n xs js).length (jn js k).a) := Lib.hid (fun k hk => are_in h0 hk)
    have hu24 := unL_len (m := m) (n := n) (xs := xs) (js := js)
    clear h0
    rw [← HE.out]
    clear HE
    generalize unL m n xs js = U at CU HIN hu24
    go_enter Try.func16, Try.ntmps16
    go_wp2_with fail
    refine (args_eqL (CA.out _ HB0.out) (by with_reducible rfl)).mono ?_
    rintro e w1 ⟨rfl, hb1⟩
    have a0 := kept (p := ⟨w.heap.size, 0, none⟩) (x := .int .i64 m) hb1 (by go_simp)
    have a1 := kept (p := ⟨w.heap.size, 1, none⟩) (x := .int .i64 n) hb1 (by go_simp)
    have a2 := kept (p := ⟨w.heap.size, 2, none⟩) (x := .slice b xs.length cap) hb1 (by go_simp)
    have HB1 := Lib.hid (bel_c HB0.out (Nat.le_refl _) hb1)
    clear hb1 HB0 CA
    go_wp2_with fail
    refine (args_eqL (CU.out _ HB1.out) (by with_reducible rfl)).mono ?_
    rintro e w2 ⟨vU, rfl, RU, hb2⟩
    obtain ⟨aU, cU, rfl⟩ := RU.form
    have HR := Lib.hid RU
    have HB2 := Lib.hid (bel_c HB1.out (Nat.le_refl _) hb2)
    clear hb2 HB1 CU RU a0 a1 a2
    go_wp2_with fail
    go_loopw [6, 18] (fun q i wr => ∃ k : Nat, k ≤ js.length ∧ i = .int .i64 k ∧ q = .int .i64 (lonK U js k) ∧ Hid (Below w2.heap.size w2 wr)) (fun _ i _ => js.length - (intOf i).toNat)
    case atStart => exact ⟨0, Nat.zero_le _, rfl, rfl, Lib.hid (Below.refl _ _)⟩
    case round =>
      obtain ⟨k, hk, rfl, rfl, hbel⟩ := hrel
      by_cases hlt : k < js.length
      · obtain ⟨g, rfl, hg, hg1, ⟨e0, e1, e2⟩, _⟩ := R2.out.at ((bel_c HB2.out (Nat.le_refl _) hbel.out).mono hhi2) hlt
        have hia := HIN.out k hlt
        have HK1 : Hid (lonK U js (k + 1) = max (lonK U js k) (lenJ U (jn js k))) := Lib.hid rfl
        obtain ⟨j, hj⟩ : ∃ j, j = jn js k := ⟨_, rfl⟩
        rw [show js.getD k J3.zero = j from hj.symm] at e0 e1 e2
        rw [show jn js k = j from hj.symm] at hia HK1
        obtain ⟨up, a, b'⟩ := j
        simp only at e0 e1 e2 hia
        clear hj
        obtain ⟨a0, a1⟩ := hia
        obtain ⟨A, rfl⟩ : ∃ A : Nat, a = A := ⟨a.toNat, by omega⟩
        have a2 : A < U.length := by omega
        obtain ⟨gu, hgu, _, _, ⟨q0, q1, q2, q3, q4, _⟩, _⟩ := HR.out.at hbel.out a2
        obtain rfl : aU = some ⟨gu, 0, none⟩ := hgu
        rw [lenJ_p] at HK1
        simp only [Int.toNat_natCast] at HK1
        obtain ⟨x, hx⟩ : ∃ x, x = un U A := ⟨_, rfl⟩
        rw [show U.getD A U6.zero = x from hx.symm] at q0 q1 q2 q3 q4
        rw [← hx] at HK1
        obtain ⟨x0, x1, x2, x3, x4, x5⟩ := x
        simp only at q0 q1 q2 q3 q4
        simp only [U6.p] at HK1
        have HLS := Lib.hid (fun u => Leng_any up ⟨x0, x1, x2, x3, x4⟩ u)
        simp only at HLS
        obtain ⟨y, hy⟩ : ∃ y, y = (if up = true then x3 else x2) := ⟨_, rfl⟩
        rw [← hy] at HLS HK1
        obtain ⟨z, hz⟩ : ∃ z, z = lonK U js k := ⟨_, rfl⟩
        rw [← hz] at HK1 ⊢
        obtain ⟨M, hM⟩ : ∃ M, (if z < y then y else z) = M := ⟨_, rfl⟩
        rw [← if_max, hM] at HK1
        have NB := bel0 wr (.cells #[.bool up, .int .i64 A, .int .i64 b'] 40)
        have k0 : (wr.alloc (.cells #[.bool up, .int .i64 A, .int .i64 b'] 40)).cell? ⟨wr.heap.size, 0, none⟩ = some (.bool up) := by simp
        have s0 := kept NB q0
        have s1 := kept NB q1
        have s2 := kept NB q2
        have s3 := kept NB q3
        have s4 := kept NB q4
        have HBN := Lib.hid (bel_n hbel.out (Nat.le_refl _) (.cells #[.bool up, .int .i64 A, .int .i64 b'] 40))
        clear hx hy hz a0 a1 hbel NB q0 q1 q2 q3 q4
        go_wp2_with fail
        go_region_law (first
          | (go_simp; go_at_call 44; refine (args_eqL (HLS.out _) (by with_reducible rfl)).mono ?_; rintro e y' ⟨rfl, hb⟩; have HBY := Lib.hid (bel_c (bel_dr9 HBN.out) (Nat.le_refl _) hb); clear hb))
        all_goals
          go_wp2_with fail
          go_roundw
          case rel => exact ⟨k + 1, by omega, by go_num, by rw [HK1.out], HBY⟩
          case measure => simp [intOf] <;> omega
      · obtain rfl : k = js.length := by omega
        have HBZ := Lib.hid (bel_c HB2.out (Nat.le_refl _) hbel.out)
        clear hbel
        go_wp2_with fail
        go_ret
        exact ⟨rfl, HBZ.out⟩
  · rw [show areJ m n xs js = false by simpa using h0] at CA
    have HE := Lib.hid (lon_no (show areJ m n xs js = false by simpa using h0))
    rw [← HE.out]
    clear HE h0
    go_enter Try.func16, Try.ntmps16
    go_wp2_with fail
    refine (args_eqL (CA.out _ HB0.out) (by with_reducible rfl)).mono ?_
    rintro e w1 ⟨rfl, hb1⟩
    have HB1 := Lib.hid (bel_c HB0.out (Nat.le_refl _) hb1)
    clear hb1 HB0 CA
    go_wp2_with fail
    go_ret
    exact ⟨rfl, HB1.out⟩

end Go.Proofs.Ytboahceibeeifaa
