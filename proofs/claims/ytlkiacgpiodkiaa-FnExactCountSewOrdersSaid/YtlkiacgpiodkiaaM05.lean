/- Rows of patchs: an element stored; a row that is owned. Rows of patchs: taken from the law's own type. Rows of patchs: compared by their fields. -/
import Derived.Test.YtlkiacgpiodkiaaM04
import Derived.Test.YtlkiacgpiodkiaaM01
import Derived.Laws.OwnMore
import Derived.Test.YtlkiacgpiodkiaaM02
import Derived.WalkSmall
import Derived.BigQuiet
import Derived.Outline
import Derived.IntWalk
import Derived.OwnWalk
import Derived.Test.YtlkiacgpiodkiaaM03
import Derived.Deep.RegionHeld3

set_option linter.unusedSimpArgs false
set_option linter.unusedVariables false
namespace Go.Proofs.Ytlkiacgpiodkiaa
open Go.ChangeShapes Go.WideShapes Go.ChangeAt Go.RowKit

abbrev setPat (w : World) (g j : Nat) (v0 : Int) (v1 : Int) (v2 : Int) (v3 : Int) (v4 : Int) : World := (((((w.setCell ⟨g, j * 5, none⟩ (.int .i64 v0)).setCell ⟨g, j * 5 + 1, none⟩ (.int .i64 v1)).setCell ⟨g, j * 5 + 2, none⟩ (.int .i64 v2)).setCell ⟨g, j * 5 + 3, none⟩ (.int .i64 v3)).setCell ⟨g, j * 5 + 4, none⟩ (.int .i64 v4))
theorem ElPat.set_same {w : World} {g j : Nat} {c : P5} (h : ElPat w g j c) (v0 : Int) (v1 : Int) (v2 : Int) (v3 : Int) (v4 : Int) : ElPat (setPat w g j v0 v1 v2 v3 v4) g j ⟨v0, v1, v2, v3, v4⟩ := by
  obtain ⟨h0, h1, h2, h3, h4⟩ := h
  refine ⟨?_, ?_, ?_, ?_, ?_⟩
  · rw [World.cell?_setCell_other _ _ _ _ (ad_ne (by omega)), World.cell?_setCell_other _ _ _ _ (ad_ne (by omega)), World.cell?_setCell_other _ _ _ _ (ad_ne (by omega)), World.cell?_setCell_other _ _ _ _ (ad_ne (by omega))]
    exact World.cell?_setCell_same _ _ _ (by exact h0)
  · rw [World.cell?_setCell_other _ _ _ _ (ad_ne (by omega)), World.cell?_setCell_other _ _ _ _ (ad_ne (by omega)), World.cell?_setCell_other _ _ _ _ (ad_ne (by omega))]
    exact World.cell?_setCell_same _ _ _ (by rw [World.cell?_setCell_other _ _ _ _ (ad_ne (by omega))]; exact h1)
  · rw [World.cell?_setCell_other _ _ _ _ (ad_ne (by omega)), World.cell?_setCell_other _ _ _ _ (ad_ne (by omega))]
    exact World.cell?_setCell_same _ _ _ (by rw [World.cell?_setCell_other _ _ _ _ (ad_ne (by omega)), World.cell?_setCell_other _ _ _ _ (ad_ne (by omega))]; exact h2)
  · rw [World.cell?_setCell_other _ _ _ _ (ad_ne (by omega))]
    exact World.cell?_setCell_same _ _ _ (by rw [World.cell?_setCell_other _ _ _ _ (ad_ne (by omega)), World.cell?_setCell_other _ _ _ _ (ad_ne (by omega)), World.cell?_setCell_other _ _ _ _ (ad_ne (by omega))]; exact h3)
  · exact World.cell?_setCell_same _ _ _ (by rw [World.cell?_setCell_other _ _ _ _ (ad_ne (by omega)), World.cell?_setCell_other _ _ _ _ (ad_ne (by omega)), World.cell?_setCell_other _ _ _ _ (ad_ne (by omega)), World.cell?_setCell_other _ _ _ _ (ad_ne (by omega))]; exact h4)
theorem ElPat.set_other {w : World} {g i j : Nat} {c : P5} (h : ElPat w g i c) (hij : i ≠ j) (v0 : Int) (v1 : Int) (v2 : Int) (v3 : Int) (v4 : Int) : ElPat (setPat w g j v0 v1 v2 v3 v4) g i c := by
  obtain ⟨h0, h1, h2, h3, h4⟩ := h
  refine ⟨?_, ?_, ?_, ?_, ?_⟩
  all_goals
    rw [World.cell?_setCell_other _ _ _ _ (ad_ne (by omega)), World.cell?_setCell_other _ _ _ _ (ad_ne (by omega)), World.cell?_setCell_other _ _ _ _ (ad_ne (by omega)), World.cell?_setCell_other _ _ _ _ (ad_ne (by omega)), World.cell?_setCell_other _ _ _ _ (ad_ne (by omega))]
    assumption
theorem SoftPat.set {w : World} {g i j : Nat} (h : SoftPat w g i) (v0 : Int) (v1 : Int) (v2 : Int) (v3 : Int) (v4 : Int) : SoftPat (setPat w g j v0 v1 v2 v3 v4) g i := by
  obtain ⟨h0, h1, h2, h3, h4⟩ := h
  refine ⟨?_, ?_, ?_, ?_, ?_⟩
  all_goals
    rw [World.frozen?_setCell, World.frozen?_setCell, World.frozen?_setCell, World.frozen?_setCell, World.frozen?_setCell]
    assumption
theorem PatIn.set {lo hi g n cap : Nat} {w : World} {xs : List P5} (h : PatIn lo hi w (.slice (some ⟨g, 0, none⟩) n cap) xs) (j : Nat) (hj : j < xs.length) (v0 : Int) (v1 : Int) (v2 : Int) (v3 : Int) (v4 : Int) :
    PatIn lo hi (setPat w g j v0 v1 v2 v3 v4) (.slice (some ⟨g, 0, none⟩) n cap) (xs.set j ⟨v0, v1, v2, v3, v4⟩) := by
  obtain ⟨hl, ⟨h, _⟩ | ⟨g', cap', hv, hcp, hg, hlt, hc⟩⟩ := h
  · subst h; simp at hj
  · simp only [Value.slice.injEq, Option.some.injEq, Addr.mk.injEq, and_true] at hv
    obtain ⟨rfl, rfl, rfl⟩ := hv
    refine ⟨by simpa using hl, .inr ⟨g, cap, by simp, by simpa using hcp, hg, hlt, fun i hi => ?_⟩⟩
    rw [List.length_set] at hi
    obtain ⟨h1, h2⟩ := hc i hi
    refine ⟨?_, h2.set v0 v1 v2 v3 v4⟩
    by_cases e : i = j
    · subst e
      have := h1.set_same v0 v1 v2 v3 v4
      simpa [List.getD, hi] using this
    · have := h1.set_other e v0 v1 v2 v3 v4
      simpa [List.getD, List.getElem?_set, e, Ne.symm e] using this

theorem ElPat.set_far {w : World} {g i : Nat} {c : P5} (h : ElPat w g i c) {p : Addr} (hp : p.block ≠ g) (x : Value) : ElPat (w.setCell p x) g i c := by
  obtain ⟨h0, h1, h2, h3, h4⟩ := h
  have hn : ∀ o : Nat, p ≠ ⟨g, o, none⟩ := fun o e => hp (by rw [e])
  exact ⟨(World.cell?_setCell_other _ _ _ _ (hn _)).trans h0, (World.cell?_setCell_other _ _ _ _ (hn _)).trans h1, (World.cell?_setCell_other _ _ _ _ (hn _)).trans h2, (World.cell?_setCell_other _ _ _ _ (hn _)).trans h3, (World.cell?_setCell_other _ _ _ _ (hn _)).trans h4⟩
theorem SoftPat.set_far {w : World} {g i : Nat} (h : SoftPat w g i) (p : Addr) (x : Value) : SoftPat (w.setCell p x) g i := by
  obtain ⟨h0, h1, h2, h3, h4⟩ := h
  exact ⟨(World.frozen?_setCell _ _ _ _).trans h0, (World.frozen?_setCell _ _ _ _).trans h1, (World.frozen?_setCell _ _ _ _).trans h2, (World.frozen?_setCell _ _ _ _).trans h3, (World.frozen?_setCell _ _ _ _).trans h4⟩
theorem PatIn.set_far {lo hi : Nat} {w : World} {v : Value} {xs : List P5} (h : PatIn lo hi w v xs) {p : Addr} (hp : p.block < lo) (x : Value) : PatIn lo hi (w.setCell p x) v xs := by
  obtain ⟨hl, h | ⟨g, cap, hv, hcp, hg, hlt, hc⟩⟩ := h
  · exact ⟨hl, .inl h⟩
  · exact ⟨hl, .inr ⟨g, cap, hv, hcp, hg, hlt, fun i hi => ⟨(hc i hi).1.set_far (by omega) x, (hc i hi).2.set_far p x⟩⟩⟩

/-- Their places. -/
def placesPat (xs : List P5) : List Value := xs.flatMap fun c => [.int .i64 c.x, .int .i64 c.y, .int .i64 c.w, .int .i64 c.h, .int .i64 c.c]
theorem placesPat_length (xs : List P5) : (placesPat xs).length = xs.length * 5 := by
  induction xs with
  | nil => rfl
  | cons c r ih => simp [placesPat] at ih ⊢; omega
theorem placesPat_at : ∀ (xs : List P5) (i : Nat), i < xs.length → (placesPat xs)[i * 5]? = some (.int .i64 (xs.getD i P5.zero).x) ∧ (placesPat xs)[i * 5 + 1]? = some (.int .i64 (xs.getD i P5.zero).y) ∧ (placesPat xs)[i * 5 + 2]? = some (.int .i64 (xs.getD i P5.zero).w) ∧ (placesPat xs)[i * 5 + 3]? = some (.int .i64 (xs.getD i P5.zero).h) ∧ (placesPat xs)[i * 5 + 4]? = some (.int .i64 (xs.getD i P5.zero).c)
  | [], i, h => by simp at h
  | c :: r, 0, _ => ⟨rfl, rfl, rfl, rfl, rfl⟩
  | c :: r, i + 1, h => by
    have ih := placesPat_at r i (by simpa using h)
    have e : placesPat (c :: r) = .int .i64 c.x :: .int .i64 c.y :: .int .i64 c.w :: .int .i64 c.h :: .int .i64 c.c :: placesPat r := rfl
    rw [e, show (i + 1) * 5 = i * 5 + 1 + 1 + 1 + 1 + 1 by omega]
    exact ih
theorem placesPat_append (xs ys : List P5) : placesPat (xs ++ ys) = placesPat xs ++ placesPat ys := by simp [placesPat]

theorem PatIn.of_owns {w : World} {base e : Nat} {v : Value} {xs : List P5} (h : w.ownsRow base e 5 v xs.length (placesPat xs)) (hl : xs.length ≤ 1048576) : PatIn base w.heap.size w v xs := by
  refine ⟨hl, ?_⟩
  have h0 := h
  obtain ⟨_, ⟨h1, h2⟩ | ⟨g, cap, cur, hv, hg, hh, hcp, _⟩⟩ := h
  · exact .inl ⟨List.length_eq_zero_iff.1 h2, none, 0, h1⟩
  · subst hv
    refine .inr ⟨g, cap, rfl, hcp, hg, lt_of_heap hh, fun i hi => ⟨?_, h0.frozenAt _, h0.frozenAt _, h0.frozenAt _, h0.frozenAt _, h0.frozenAt _⟩⟩
    obtain ⟨p0, p1, p2, p3, p4⟩ := placesPat_at xs i hi
    exact ⟨(h0.cellAt _ (by omega)).trans p0, (h0.cellAt _ (by omega)).trans p1, (h0.cellAt _ (by omega)).trans p2, (h0.cellAt _ (by omega)).trans p3, (h0.cellAt _ (by omega)).trans p4⟩
theorem placesPat_zero (n : Nat) : (madeCells (Value.agg #[.int .i64 0, .int .i64 0, .int .i64 0, .int .i64 0, .int .i64 0]).cells (n * 5)).toList = placesPat (List.replicate n P5.zero) := by
  apply List.ext_getElem?
  intro i
  by_cases h : i < n * 5
  · obtain ⟨k, hk⟩ : ∃ k, i = k * 5 ∨ i = k * 5 + 1 ∨ i = k * 5 + 2 ∨ i = k * 5 + 3 ∨ i = k * 5 + 4 := ⟨i / 5, by omega⟩
    have hkn : k < n := by omega
    obtain ⟨p0, p1, p2, p3, p4⟩ := placesPat_at (List.replicate n P5.zero) k (by simpa using hkn)
    have ez : (List.replicate n P5.zero).getD k P5.zero = P5.zero := by simp [List.getD, hkn]
    rw [ez] at p0 p1 p2 p3 p4
    rcases hk with rfl | rfl | rfl | rfl | rfl
    · rw [p0]; simp [madeCells, Value.cells, P5.zero, h]
    · rw [p1]; simp [madeCells, Value.cells, P5.zero, h]
    · rw [p2]; simp [madeCells, Value.cells, P5.zero, h]
    · rw [p3]; simp [madeCells, Value.cells, P5.zero, h]
    · rw [p4]; simp [madeCells, Value.cells, P5.zero, h]
  · rw [List.getElem?_eq_none (by simp [madeCells]; omega), List.getElem?_eq_none (by rw [placesPat_length]; simp; omega)]

end Go.Proofs.Ytlkiacgpiodkiaa

set_option linter.unusedSimpArgs false
set_option linter.unusedVariables false
namespace Go.Proofs.Ytlkiacgpiodkiaa
open Go.ChangeShapes Go.WideShapes Go.ChangeAt Go.RowKit

theorem info_Pat : (Try.prog.info? 73).map (fun i => (i.zero, i.size, i.bytes)) = some (some (.agg #[.int .i64 0, .int .i64 0, .int .i64 0, .int .i64 0, .int .i64 0]), 5, 40) := by kernel_rfl

/-- A slice of them that came in: its elements are read one by one, wherever they lie. -/
def ArgPat (w : World) (a : Option Addr) (len : Nat) (xs : List P5) : Prop :=
  xs.length = len ∧ len ≤ maxLen ∧ (len = 0 ∨ ∃ xb xo, a = some ⟨xb, xo, none⟩ ∧ xb < w.heap.size ∧ ∀ i, i < len →
    w.cell? ⟨xb, xo + i * 5, none⟩ = some (.int .i64 (xs.getD i P5.zero).x) ∧ w.cell? ⟨xb, xo + i * 5 + 1, none⟩ = some (.int .i64 (xs.getD i P5.zero).y) ∧ w.cell? ⟨xb, xo + i * 5 + 2, none⟩ = some (.int .i64 (xs.getD i P5.zero).w) ∧ w.cell? ⟨xb, xo + i * 5 + 3, none⟩ = some (.int .i64 (xs.getD i P5.zero).h) ∧ w.cell? ⟨xb, xo + i * 5 + 4, none⟩ = some (.int .i64 (xs.getD i P5.zero).c))
theorem ArgPat.below {w w' : World} {a : Option Addr} {len : Nat} {xs : List P5} (h : ArgPat w a len xs) (hb : Below w.heap.size w w') : ArgPat w' a len xs := by
  obtain ⟨h1, h2, h | ⟨xb, xo, ha, hlt, hc⟩⟩ := h
  · exact ⟨h1, h2, .inl h⟩
  · refine ⟨h1, h2, .inr ⟨xb, xo, ha, Nat.lt_of_lt_of_le hlt hb.size, fun i hi => ?_⟩⟩
    obtain ⟨c0, c1, c2, c3, c4⟩ := hc i hi
    exact ⟨(hb.cell (p := ⟨xb, _, none⟩) hlt).trans c0, (hb.cell (p := ⟨xb, _, none⟩) hlt).trans c1, (hb.cell (p := ⟨xb, _, none⟩) hlt).trans c2, (hb.cell (p := ⟨xb, _, none⟩) hlt).trans c3, (hb.cell (p := ⟨xb, _, none⟩) hlt).trans c4⟩

/-- A new row is handed back. -/
def FreshPat (xs : List P5) (w : World) (e : Ending) (w' : World) : Prop := ∃ v, e = .returned v ∧ PatIn w.heap.size w'.heap.size w' v xs ∧ Below w.heap.size w w'

/-- The first k elements are those of the list. -/
def UpPat (k : Nat) (xs ys : List P5) : Prop := ys.length = xs.length ∧ ∀ i, i < k → ys.getD i P5.zero = xs.getD i P5.zero
theorem UpPat.set {k : Nat} {xs ys : List P5} (h : UpPat k xs ys) (hk : k < xs.length) {c : P5} (hc : c = xs.getD k P5.zero) : UpPat (k + 1) xs (ys.set k c) := by
  obtain ⟨h1, h2⟩ := h
  refine ⟨by simpa using h1, fun i hi => ?_⟩
  by_cases e : i = k
  · subst e; simp [List.getD, h1, hk] at hc ⊢; exact hc
  · have := h2 i (by omega)
    simpa [List.getD, List.getElem?_set, e, Ne.symm e] using this
theorem UpPat.all {xs ys : List P5} (h : UpPat xs.length xs ys) : ys = xs := by
  obtain ⟨h1, h2⟩ := h
  apply List.ext_getElem h1
  intro i a b
  have := h2 i b
  simpa [List.getD, a, b] using this

end Go.Proofs.Ytlkiacgpiodkiaa

set_option linter.unusedSimpArgs false
set_option linter.unusedVariables false
namespace Go.Proofs.Ytlkiacgpiodkiaa
open Go.ChangeShapes Go.WideShapes Go.ChangeAt Go.RowKit

end Go.Proofs.Ytlkiacgpiodkiaa
