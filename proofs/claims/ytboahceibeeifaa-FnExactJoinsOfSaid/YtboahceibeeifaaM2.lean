/- Rows of integers: what a slice of ints holds. Layouts: what stays in view in the walks of the laws. Cuts: a knot has five patches or more; the sample is a knot. Joins: a row appended to a row that is owned, whether it is empty or not; rows of joins that are owned. Joins: the program's isUnit and hasUnits. Joins: the joins of a layout: the tree of its cuts; the numbers of the patches. Joins: DepthOf of the program. Joins: sizes and marks. -/
import Derived.Test.YtboahceibeeifaaRows
import Derived.Test.YtboahceibeeifaaBase
import Derived.WalkKit
import Derived.Lib.Hide
import Derived.Laws.OwnMore
import Derived.Test.YtboahceibeeifaaLayZ
import Derived.Test.YtboahceibeeifaaCutN
import Derived.Test.YtboahceibeeifaaLayD1
import Derived.Test.YtboahceibeeifaaM1
import Derived.Test.YtboahceibeeifaaLayB
import Derived.Deep.AppendLies
import Derived.ArgAppend
import Derived.Test.YtboahceibeeifaaLayIk
import Derived.Test.YtboahceibeeifaaCutT
import Derived.Test.YtboahceibeeifaaCutP
import Derived.Test.YtboahceibeeifaaRegM
import Derived.Deep.RegionLaw
import Derived.Deep.RegionHeld3

set_option linter.unusedSimpArgs false
set_option linter.unusedVariables false
namespace Go.Proofs.Ytboahceibeeifaa
open Go.ChangeShapes Go.WideShapes Go.ChangeAt Go.RowKit

/-- A slice of ints in a block from lo on, below hi. -/
def IntIn (lo hi : Nat) (w : World) (v : Value) (zs : List Int) : Prop :=
  zs.length ≤ 1048576 ∧ ((zs = [] ∧ ∃ a c, v = .slice a 0 c) ∨
    ∃ g cap, v = .slice (some ⟨g, 0, none⟩) zs.length cap ∧ lo ≤ g ∧ g < hi ∧ ∀ i, i < zs.length → w.cell? ⟨g, i, none⟩ = some (.int .i64 (zs.getD i 0)) ∧ w.frozen? ⟨g, i, none⟩ = false)
theorem IntIn.below {lo hi : Nat} {w w' : World} {v : Value} {zs : List Int} (h : IntIn lo hi w v zs) (hb : Below hi w w') : IntIn lo hi w' v zs := by
  obtain ⟨hl, h | ⟨g, cap, hv, hg, hlt, hc⟩⟩ := h
  · exact ⟨hl, .inl h⟩
  · exact ⟨hl, .inr ⟨g, cap, hv, hg, hlt, fun i hi => ⟨(hb.cell (p := ⟨g, i, none⟩) hlt).trans (hc i hi).1, (hb.frozen (p := ⟨g, i, none⟩) hlt).trans (hc i hi).2⟩⟩⟩
theorem IntIn.wide {lo hi lo' hi' : Nat} {w : World} {v : Value} {zs : List Int} (h : IntIn lo hi w v zs) (h1 : lo' ≤ lo) (h2 : hi ≤ hi') : IntIn lo' hi' w v zs := by
  obtain ⟨hl, h | ⟨g, cap, hv, hg, hlt, hc⟩⟩ := h
  · exact ⟨hl, .inl h⟩
  · exact ⟨hl, .inr ⟨g, cap, hv, by omega, by omega, hc⟩⟩
theorem IntIn.form {lo hi : Nat} {w : World} {v : Value} {zs : List Int} (h : IntIn lo hi w v zs) : ∃ a cap, v = .slice a zs.length cap := by
  obtain ⟨_, ⟨rfl, a, c, hv⟩ | ⟨g, cap, hv, _⟩⟩ := h
  · exact ⟨a, c, hv⟩
  · exact ⟨_, _, hv⟩
theorem IntIn.at {lo hi : Nat} {w w' : World} {a : Option Addr} {n cap : Nat} {zs : List Int} (h : IntIn lo hi w (.slice a n cap) zs) (hb : Below hi w w') {i : Nat} (hi' : i < zs.length) :
    ∃ g, a = some ⟨g, 0, none⟩ ∧ lo ≤ g ∧ g < hi ∧ w'.cell? ⟨g, i, none⟩ = some (.int .i64 (zs.getD i 0)) ∧ w'.frozen? ⟨g, i, none⟩ = false := by
  obtain ⟨_, ⟨rfl, _⟩ | ⟨g, cap, hv, hg, hlt, hc⟩⟩ := h
  · simp at hi'
  · simp only [Value.slice.injEq] at hv
    exact ⟨g, hv.1, hg, hlt, (hb.cell (p := ⟨g, i, none⟩) hlt).trans (hc i hi').1, (hb.frozen (p := ⟨g, i, none⟩) hlt).trans (hc i hi').2⟩
theorem IntIn.set {lo hi g n cap : Nat} {w : World} {zs : List Int} (h : IntIn lo hi w (.slice (some ⟨g, 0, none⟩) n cap) zs) (j : Nat) (hj : j < zs.length) (z : Int) :
    IntIn lo hi (w.setCell ⟨g, j, none⟩ (.int .i64 z)) (.slice (some ⟨g, 0, none⟩) n cap) (zs.set j z) := by
  obtain ⟨hl, ⟨h, _⟩ | ⟨g', cap', hv, hg, hlt, hc⟩⟩ := h
  · subst h; simp at hj
  · simp only [Value.slice.injEq, Option.some.injEq, Addr.mk.injEq, and_true] at hv
    obtain ⟨rfl, rfl, rfl⟩ := hv
    refine ⟨by simpa using hl, .inr ⟨g, cap, by simp, hg, hlt, fun i hi => ?_⟩⟩
    rw [List.length_set] at hi
    obtain ⟨h1, h2⟩ := hc i hi
    refine ⟨?_, by rw [World.frozen?_setCell]; exact h2⟩
    by_cases e : i = j
    · subst e
      rw [World.cell?_setCell_same _ _ _ h1]
      simp [List.getD, hi]
    · rw [World.cell?_setCell_other _ _ _ _ (by simp <;> omega), h1]
      simp [List.getD, Ne.symm e]
theorem IntIn.set_far {lo hi : Nat} {w : World} {v : Value} {zs : List Int} (h : IntIn lo hi w v zs) {p : Addr} (hp : p.block < lo) (x : Value) : IntIn lo hi (w.setCell p x) v zs := by
  obtain ⟨hl, h | ⟨g, cap, hv, hg, hlt, hc⟩⟩ := h
  · exact ⟨hl, .inl h⟩
  · refine ⟨hl, .inr ⟨g, cap, hv, hg, hlt, fun i hi => ⟨?_, by rw [World.frozen?_setCell]; exact (hc i hi).2⟩⟩⟩
    have hn : p ≠ ⟨g, i, none⟩ := fun e => by rw [e] at hp; simp at hp; omega
    rw [World.cell?_setCell_other _ _ _ _ hn]; exact (hc i hi).1

/-- A list of ints as values. -/
def ivals (zs : List Int) : List Value := zs.map (.int .i64 ·)
theorem lt_of_heapI {w : World} {g : Nat} {o : Obj} (h : w.heap[g]? = some o) : g < w.heap.size := (Array.getElem?_eq_some_iff.1 h).1
theorem IntIn.of_owns {w : World} {base e : Nat} {v : Value} {zs : List Int} (h : w.ownsRow base e 1 v zs.length (ivals zs)) (hl : zs.length ≤ 1048576) : IntIn base w.heap.size w v zs := by
  refine ⟨hl, ?_⟩
  have h0 := h
  obtain ⟨_, ⟨h1, h2⟩ | ⟨g, cap, cur, hv, hg, hh, _⟩⟩ := h
  · exact .inl ⟨List.length_eq_zero_iff.1 h2, none, 0, h1⟩
  · subst hv
    refine .inr ⟨g, cap, rfl, hg, lt_of_heapI hh, fun i hi => ⟨?_, h0.frozenAt i⟩⟩
    rw [h0.cellAt i (by omega)]
    simp [ivals, List.getD, hi]
/-- A new row of ints is handed back. -/
def FreshI (zs : List Int) (w : World) (e : Ending) (w' : World) : Prop := ∃ v, e = .returned v ∧ IntIn w.heap.size w'.heap.size w' v zs ∧ Below w.heap.size w w'

/-- The first k elements are those of the list. -/
def UpToI (k : Nat) (xs ys : List Int) : Prop := ys.length = xs.length ∧ ∀ i, i < k → ys.getD i 0 = xs.getD i 0
theorem UpToI.set {k : Nat} {xs ys : List Int} (h : UpToI k xs ys) (hk : k < xs.length) {c : Int} (hc : c = xs.getD k 0) : UpToI (k + 1) xs (ys.set k c) := by
  obtain ⟨h1, h2⟩ := h
  refine ⟨by simpa using h1, fun i hi => ?_⟩
  by_cases e : i = k
  · subst e; simp [List.getD, h1, hk] at hc ⊢; exact hc
  · have := h2 i (by omega)
    simpa [List.getD, List.getElem?_set, e, Ne.symm e] using this
theorem UpToI.all {xs ys : List Int} (h : UpToI xs.length xs ys) : ys = xs := by
  obtain ⟨h1, h2⟩ := h
  apply List.ext_getElem h1
  intro i a b
  have := h2 i b
  simpa [List.getD, a, b] using this

/-- The marks from k on. -/
def markI (k n : Nat) : List Int := (List.range n).map fun i => ((k + i : Nat) : Int)
theorem markI_length (k n : Nat) : (markI k n).length = n := by simp [markI]
theorem markI_at {k n i : Nat} (h : i < n) : (markI k n).getD i 0 = ((k + i : Nat) : Int) := by simp [markI, List.getD, h]

end Go.Proofs.Ytboahceibeeifaa

set_option linter.unusedSimpArgs false
set_option linter.unusedVariables false
namespace Go.Proofs.Ytboahceibeeifaa
open Go.ChangeShapes Go.WideShapes Go.ChangeAt Go.RowKit

/-- Three places of a layout. -/
def Tri (p : Nat) (x y z : Value) (u : World) : Prop := u.cell? ⟨p, 0, none⟩ = some x ∧ u.cell? ⟨p, 1, none⟩ = some y ∧ u.cell? ⟨p, 2, none⟩ = some z
theorem Tri.keep {p : Nat} {x y z : Value} {u v : World} (h : Tri p x y z u) (hb : Below u.heap.size u v) : Tri p x y z v := ⟨kept hb h.1, kept hb h.2.1, kept hb h.2.2⟩
theorem Tri.new (w : World) (x y z : Value) (T : TypeId) : Tri w.heap.size x y z (w.alloc (.cells #[x, y, z] T)) := ⟨by simp, by simp, by simp⟩
theorem Tri.within {p lo hi : Nat} {x y z : Value} {u v : World} (h : Tri p x y z u) (hb : Within lo hi u v) (ho : p < lo ∨ hi ≤ p) : Tri p x y z v := ⟨hb.cell h.1 ho, hb.cell h.2.1 ho, hb.cell h.2.2 ho⟩
theorem bel_wL {b lo hi : Nat} {w u v : World} (h : Below b w u) (hb : b ≤ w.heap.size) (k : Within lo hi u v) (hl : b ≤ lo) : Below b w v :=
  ⟨k.os.trans h.os, k.tape.trans h.tape, k.output.trans h.output, Nat.le_trans h.size k.size, fun i hi => (k.block i (by have := h.size; omega) (.inl (by omega))).trans (h.block i hi)⟩

end Go.Proofs.Ytboahceibeeifaa

set_option linter.unusedSimpArgs false
set_option linter.unusedVariables false
namespace Go.Proofs.Ytboahceibeeifaa

variable {m n : Int} {xs : List P5}
theorem at_most (h : LayOk m n xs) {i j : Nat} (hi : i < xs.length) (hj : j < xs.length) {x y : Int} (a : Cov (pat xs i) x y) (b : Cov (pat xs j) x y) : i = j := by
  apply Classical.byContradiction
  intro hne
  exact lay_apart h hi hj hne (cov_hit a b)
theorem some_at (h : LayOk m n xs) {x y : Int} (x0 : 0 ≤ x) (x1 : x < m) (y0 : 0 ≤ y) (y1 : y < n) : ∃ k, k < xs.length ∧ Cov (pat xs k) x y := by
  obtain ⟨k, hk, hc⟩ := sm_ex (fun i _ => cv_01 (pat xs i) x.toNat y.toNat) (one_each h x.toNat y.toNat (by omega) (by omega))
  refine ⟨k, hk, ?_⟩
  have := cv_1.1 hc
  rwa [show ((x.toNat : Nat) : Int) = x by omega, show ((y.toNat : Nat) : Int) = y by omega] at this
theorem no_cut (hc : ∀ c, hasC m n xs c = false) {c : C2} (h0 : 0 < c.a) (h1 : c.a < endC m n c) (h : ∀ i, i < xs.length → thr c (pat xs i) = false) : False := by
  have := has_yes (m := m) (n := n) h0 h1 h
  rw [hc c] at this; cases this
theorem no_whole (h : LayOk m n xs) (hl : xs.length ≠ 1) {i : Nat} (hi : i < xs.length) (e0 : (pat xs i).x = 0) (e1 : (pat xs i).w = m) (e2 : (pat xs i).y = 0) (e3 : (pat xs i).h = n) : False := by
  obtain ⟨j, hj, hne⟩ : ∃ j, j < xs.length ∧ i ≠ j := by
    by_cases z : i = 0
    · exact ⟨1, by omega, by omega⟩
    · exact ⟨0, by omega, by omega⟩
  obtain ⟨⟨f00, f01⟩, ⟨f10, f11⟩, ⟨f20, f21⟩, ⟨f30, f31⟩, _⟩ := h.fit hj
  exact lay_apart h hi hj hne (by unfold Hit; omega)
theorem no_wide (h : LayOk m n xs) (hl : xs.length ≠ 1) (hc : ∀ c, hasC m n xs c = false) {i : Nat} (hi : i < xs.length) (e0 : (pat xs i).x = 0) (e1 : (pat xs i).w = m) : False := by
  obtain ⟨⟨f00, f01⟩, ⟨f10, f11⟩, ⟨f20, f21⟩, ⟨f30, f31⟩, _⟩ := h.fit hi
  have key : ∀ j, j < xs.length → j ≠ i → (pat xs j).y + (pat xs j).h ≤ (pat xs i).y ∨ (pat xs i).y + (pat xs i).h ≤ (pat xs j).y := fun j hj hne => by
    obtain ⟨⟨g00, g01⟩, ⟨g10, g11⟩, ⟨g20, g21⟩, ⟨g30, g31⟩, _⟩ := h.fit hj
    have := lay_apart h hi hj (Ne.symm hne)
    unfold Hit at this; omega
  by_cases z : 0 < (pat xs i).y
  · refine no_cut hc (c := ⟨false, (pat xs i).y⟩) (by show 0 < (pat xs i).y; omega) (by show (pat xs i).y < n; omega) (fun j hj => thr_f.2 ?_)
    by_cases e : j = i
    · subst e; omega
    · have := key j hj e; omega
  · by_cases z2 : (pat xs i).h < n
    · refine no_cut hc (c := ⟨false, (pat xs i).h⟩) (by show 0 < (pat xs i).h; omega) (by show (pat xs i).h < n; omega) (fun j hj => thr_f.2 ?_)
      by_cases e : j = i
      · subst e; omega
      · obtain ⟨⟨g00, g01⟩, ⟨g10, g11⟩, ⟨g20, g21⟩, ⟨g30, g31⟩, _⟩ := h.fit hj
        have := key j hj e; omega
    · exact no_whole h hl hi e0 e1 (by omega) (by omega)
theorem no_tall (h : LayOk m n xs) (hl : xs.length ≠ 1) (hc : ∀ c, hasC m n xs c = false) {i : Nat} (hi : i < xs.length) (e0 : (pat xs i).y = 0) (e1 : (pat xs i).h = n) : False := by
  obtain ⟨⟨f00, f01⟩, ⟨f10, f11⟩, ⟨f20, f21⟩, ⟨f30, f31⟩, _⟩ := h.fit hi
  have key : ∀ j, j < xs.length → j ≠ i → (pat xs j).x + (pat xs j).w ≤ (pat xs i).x ∨ (pat xs i).x + (pat xs i).w ≤ (pat xs j).x := fun j hj hne => by
    obtain ⟨⟨g00, g01⟩, ⟨g10, g11⟩, ⟨g20, g21⟩, ⟨g30, g31⟩, _⟩ := h.fit hj
    have := lay_apart h hi hj (Ne.symm hne)
    unfold Hit at this; omega
  by_cases z : 0 < (pat xs i).x
  · refine no_cut hc (c := ⟨true, (pat xs i).x⟩) (by show 0 < (pat xs i).x; omega) (by show (pat xs i).x < m; omega) (fun j hj => thr_t.2 ?_)
    by_cases e : j = i
    · subst e; omega
    · have := key j hj e; omega
  · by_cases z2 : (pat xs i).w < m
    · refine no_cut hc (c := ⟨true, (pat xs i).w⟩) (by show 0 < (pat xs i).w; omega) (by show (pat xs i).w < m; omega) (fun j hj => thr_t.2 ?_)
      by_cases e : j = i
      · subst e; omega
      · obtain ⟨⟨g00, g01⟩, ⟨g10, g11⟩, ⟨g20, g21⟩, ⟨g30, g31⟩, _⟩ := h.fit hj
        have := key j hj e; omega
    · exact no_whole h hl hi (by omega) (by omega) e0 e1
/-- A layout of several patches without cuts has five or more. -/
theorem five (h : LayOk m n xs) (hl : xs.length ≠ 1) (hc : ∀ c, hasC m n xs c = false) : 5 ≤ xs.length := by
  apply Classical.byContradiction
  intro h5
  have hm := h.1
  have hn := h.2.1
  obtain ⟨i, hi, ci⟩ := some_at h (x := 0) (y := 0) (by omega) (by omega) (by omega) (by omega)
  obtain ⟨j, hj, cj⟩ := some_at h (x := m - 1) (y := 0) (by omega) (by omega) (by omega) (by omega)
  obtain ⟨k, hk, ck⟩ := some_at h (x := 0) (y := n - 1) (by omega) (by omega) (by omega) (by omega)
  obtain ⟨l, hl', cl⟩ := some_at h (x := m - 1) (y := n - 1) (by omega) (by omega) (by omega) (by omega)
  have fi := h.fit hi
  have fj := h.fit hj
  have fk := h.fit hk
  have fl := h.fit hl'
  unfold Cov at ci cj ck cl
  unfold Fit at fi fj fk fl
  have nij : i ≠ j := by rintro rfl; exact no_wide h hl hc hi (by omega) (by omega)
  have nkl : k ≠ l := by rintro rfl; exact no_wide h hl hc hk (by omega) (by omega)
  have nik : i ≠ k := by rintro rfl; exact no_tall h hl hc hi (by omega) (by omega)
  have njl : j ≠ l := by rintro rfl; exact no_tall h hl hc hj (by omega) (by omega)
  have nil' : i ≠ l := by rintro rfl; exact no_wide h hl hc hi (by omega) (by omega)
  have njk : j ≠ k := by rintro rfl; exact no_wide h hl hc hj (by omega) (by omega)
  have all : ∀ q, q < xs.length → q = i ∨ q = j ∨ q = k ∨ q = l := fun q hq => by omega
  have wi : (pat xs i).w < m := by
    apply Classical.byContradiction; intro z
    exact no_wide h hl hc hi (by omega) (by omega)
  have hi2 : (pat xs i).h < n := by
    apply Classical.byContradiction; intro z
    exact no_tall h hl hc hi (by omega) (by omega)
  have wk : (pat xs k).w < m := by
    apply Classical.byContradiction; intro z
    exact no_wide h hl hc hk (by omega) (by omega)
  have hj2 : (pat xs j).h < n := by
    apply Classical.byContradiction; intro z
    exact no_tall h hl hc hj (by omega) (by omega)
  have aij := lay_apart h hi hj nij
  have aik := lay_apart h hi hk nik
  have ail := lay_apart h hi hl' nil'
  have ajk := lay_apart h hj hk njk
  have ajl := lay_apart h hj hl' njl
  have akl := lay_apart h hk hl' nkl
  unfold Hit at aij aik ail ajk ajl akl
  have e1 : (pat xs j).x = (pat xs i).w := by
    obtain ⟨q, hq, cq⟩ := some_at h (x := (pat xs i).w) (y := 0) (by omega) (by omega) (by omega) (by omega)
    unfold Cov at cq
    rcases all q hq with rfl | rfl | rfl | rfl <;> omega
  have e2 : (pat xs k).y = (pat xs i).h := by
    obtain ⟨q, hq, cq⟩ := some_at h (x := 0) (y := (pat xs i).h) (by omega) (by omega) (by omega) (by omega)
    unfold Cov at cq
    rcases all q hq with rfl | rfl | rfl | rfl <;> omega
  have e3 : (pat xs l).x = (pat xs k).w := by
    obtain ⟨q, hq, cq⟩ := some_at h (x := (pat xs k).w) (y := n - 1) (by omega) (by omega) (by omega) (by omega)
    unfold Cov at cq
    rcases all q hq with rfl | rfl | rfl | rfl <;> omega
  have e4 : (pat xs l).y = (pat xs j).h := by
    obtain ⟨q, hq, cq⟩ := some_at h (x := m - 1) (y := (pat xs j).h) (by omega) (by omega) (by omega) (by omega)
    unfold Cov at cq
    rcases all q hq with rfl | rfl | rfl | rfl <;> omega
  by_cases z1 : (pat xs i).w = (pat xs k).w
  · refine no_cut hc (c := ⟨true, (pat xs i).w⟩) (by show 0 < (pat xs i).w; omega) (by show (pat xs i).w < m; omega) (fun q hq => thr_t.2 ?_)
    rcases all q hq with rfl | rfl | rfl | rfl <;> omega
  · by_cases z2 : (pat xs i).h = (pat xs j).h
    · refine no_cut hc (c := ⟨false, (pat xs i).h⟩) (by show 0 < (pat xs i).h; omega) (by show (pat xs i).h < n; omega) (fun q hq => thr_f.2 ?_)
      rcases all q hq with rfl | rfl | rfl | rfl <;> omega
    · by_cases z3 : (pat xs k).w < (pat xs i).w
      · obtain ⟨q, hq, cq⟩ := some_at h (x := (pat xs k).w) (y := (pat xs i).h) (by omega) (by omega) (by omega) (by omega)
        unfold Cov at cq
        rcases all q hq with rfl | rfl | rfl | rfl <;> omega
      · obtain ⟨q, hq, cq⟩ := some_at h (x := (pat xs i).w) (y := (pat xs j).h) (by omega) (by omega) (by omega) (by omega)
        unfold Cov at cq
        rcases all q hq with rfl | rfl | rfl | rfl <;> omega
theorem cuts_none (h : LayOk m n xs) (hc : cutsL m n xs = []) : ∀ c, hasC m n xs c = false := fun c => by
  cases e : hasC m n xs c with
  | false => rfl
  | true => have := mem_cuts h.1.2 h.2.1.2 e; rw [hc] at this; cases this
/-- What is found is a knot. -/
theorem knot_is {q : Option (Int × Int × List P5)} (h : KnotIs m n xs q) : ∀ {M N : Int} {ys : List P5}, q = some (M, N, ys) → LayOk M N ys ∧ cutsL M N ys = [] ∧ 5 ≤ ys.length := by
  induction h with
  | one => intro M N ys e; cases e
  | knot h hl hc => intro M N ys e; cases e; exact ⟨h, hc, five h hl (cuts_none h hc)⟩
  | left h hl hc h1 ih => intro M N ys e; exact ih e
  | right h hl hc h1 h2 ih1 ih2 => intro M N ys e; exact ih2 e
theorem smp_knot : KnotIs 3 3 smpL (some (3, 3, smpL)) := .knot smp_ok (by decide) (by decide)
theorem smp_no : sewB 3 3 smpL = false := by
  cases e : sewB 3 3 smpL with
  | false => rfl
  | true => have := knot_of_sew smp_knot (sewB_iff.1 e); cases this

end Go.Proofs.Ytboahceibeeifaa

set_option linter.unusedSimpArgs false
set_option linter.unusedVariables false
namespace Go.Proofs.Ytboahceibeeifaa
open Go.ChangeShapes Go.WideShapes Go.ChangeAt Go.RowKit

section
variable {P : Program}
theorem run_append_zero (w : World) (t ty e : TypeId) (i : TypeInfo) (ht : P.underlying t = some (.slice e)) (hi : P.info? e = some i) (b : Option Addr) (n cap : Nat) (h : n ≤ cap) (a : Option Addr) (c : Nat) :
    (Builtin.append_ #[t, t] ty #[.slice b n cap, .slice a 0 c]).run P w = .ok (.slice b n cap) w := by
  have hst : ∀ x : Addr, (storeCells x ([] : List Value)).run P w = .ok () w := fun x => rfl
  cases a with
  | none => cases b <;> simp [Builtin.append_, run_underlying ht, sizeOf, typeInfo, hi, Builtin.lenOf, h, Builtin.firstCells, hst]
  | some x =>
    have hfc := run_firstCells_some (P := P) w i.size 0 x 0 c [] (by simp) (by simp)
    cases b <;> simp [Builtin.append_, run_underlying ht, sizeOf, typeInfo, hi, Builtin.lenOf, h, hfc, hst]
/-- What is to be appended: nothing, or cells that are read. -/
def RowOf (w : World) (vx : Value) (m : Nat) (news : List Value) : Prop := (m = 0 ∧ ∃ a c, vx = .slice a 0 c) ∨ ∃ ad c, vx = .slice (some ad) m c ∧ ∀ j u, news[j]? = some u → w.cell? (ad.add j) = some u
theorem wp_append_row {w : World} {o : Oper} {a : Act} {K : Act → World → Prop} {Q : Exit → Act → World → Prop} (s x : Operand) (t : TypeId)
    (ho : o.op = .call { callee := .builtin .append, args := #[s, x], argTypes := #[t, t] })
    (base : Nat) (e : TypeId) (i : TypeInfo) (z : Value) (size bytes : Nat) (ht : P.underlying t = some (.slice e)) (hi : P.info? e = some i) (hz : i.zero = some z)
    (hsize : i.size = size) (hby : i.bytes = bytes) (hzs : z.cells.size = size) (hsz : 0 < size)
    (v : Value) (n : Nat) (xs : List Value) (hs : a.eval s = v) (hown : w.ownsRow base e size v n xs)
    (vx : Value) (m : Nat) (news : List Value) (hx : a.eval x = vx) (hl : news.length = m * size) (hrow : RowOf w vx m news) (h1 : ∀ u ∈ news, u.oneCell' = true)
    (h63 : n + m ≤ maxLen) (hbytes : (n + m) * bytes ≤ 140737488355328) (hbase : base ≤ w.heap.size) (H : Nat) (hH : w.heap.size = H)
    (h : ∀ v' w', w'.ownsRow base e size v' (n + m) (xs ++ news) → w.grownBy w' v.ownBlock → (∀ g, v'.ownBlock = some g → v.ownBlock = some g ∨ g = H) → K (a.put o.dst v') w') : o.wp P a w K Q := by
  rcases Nat.eq_zero_or_pos m with hm | hm
  · subst hm
    have hn : news = [] := List.length_eq_zero_iff.1 (by simpa using hl)
    subst hn
    obtain ⟨a', c', rfl⟩ : ∃ a c, vx = .slice a 0 c := by
      rcases hrow with ⟨_, h⟩ | ⟨ad, c, h, _⟩
      · exact h
      · exact ⟨_, _, h⟩
    obtain ⟨b, cap, hv, hc⟩ : ∃ b cap, v = .slice b n cap ∧ n ≤ cap := by
      obtain ⟨_, ⟨h1, h2⟩ | ⟨g, cap, cur, hv, _, _, hcp, _⟩⟩ := hown
      · subst h2; exact ⟨_, _, h1, Nat.le_refl _⟩
      · exact ⟨_, _, hv, hcp⟩
    have hr := run_append_zero (P := P) w t o.type e i ht hi b n cap hc a' c'
    unfold Oper.wp execOp
    simp only [ho, resolve, invoke, builtin, Sem.run_bind, Sem.run_pure, Result.andThen_ok, List.map_toArray, List.map_cons, List.map_nil, hs, hx, hv, hr]
    rw [← hv]
    exact h v w (by simpa using hown) ⟨rfl, rfl, rfl, Nat.le_refl _, fun _ _ _ => rfl⟩ (fun g hg => .inl hg)
  · obtain ⟨ad, c, rfl, hnews⟩ : ∃ ad c, vx = .slice (some ad) m c ∧ ∀ j u, news[j]? = some u → w.cell? (ad.add j) = some u := by
      rcases hrow with ⟨h, _⟩ | h
      · omega
      · exact h
    refine wp_append_lies w s x t ho base e i z size bytes ht hi hz hsize hby hzs hsz v n xs hs hown ad m c news hx hl hnews h1 hm h63 hbytes hbase H hH ?_
    intro g cap w' h2 h3 h4 h5
    exact h _ w' h2 h3 (fun g' hg => by simp only [Value.ownBlock, Option.some.injEq] at hg; subst hg; exact h4)
theorem wpList_append_row {w : World} {ops : Array Oper} {rest : List Oper} {o : Oper} {a : Act} {Q : Exit → Act → World → Prop} (hgd : o.guard = none) (s x : Operand) (t : TypeId)
    (ho : o.op = .call { callee := .builtin .append, args := #[s, x], argTypes := #[t, t] })
    (base : Nat) (e : TypeId) (i : TypeInfo) (z : Value) (size bytes : Nat) (ht : P.underlying t = some (.slice e)) (hi : P.info? e = some i) (hz : i.zero = some z)
    (hsize : i.size = size) (hby : i.bytes = bytes) (hzs : z.cells.size = size) (hsz : 0 < size)
    (v : Value) (n : Nat) (xs : List Value) (hs : a.eval s = v) (hown : w.ownsRow base e size v n xs)
    (vx : Value) (m : Nat) (news : List Value) (hx : a.eval x = vx) (hl : news.length = m * size) (hrow : RowOf w vx m news) (h1 : ∀ u ∈ news, u.oneCell' = true)
    (h63 : n + m ≤ maxLen) (hbytes : (n + m) * bytes ≤ 140737488355328) (hbase : base ≤ w.heap.size) (H : Nat) (hH : w.heap.size = H)
    (h : ∀ v' w', w'.ownsRow base e size v' (n + m) (xs ++ news) → w.grownBy w' v.ownBlock → (∀ g, v'.ownBlock = some g → v.ownBlock = some g ∨ g = H) → wpList P ops Q rest (a.put o.dst v') w') : wpList P ops Q (o :: rest) a w :=
  wpList_plain hgd fun _ hK => wp_append_row s x t ho base e i z size bytes ht hi hz hsize hby hzs hsz v n xs hs hown vx m news hx hl hrow h1 h63 hbytes hbase H hH fun v' w' h2 h3 h4 => hK _ _ (h v' w' h2 h3 h4)
end

theorem oneJn (js : List J3) : ∀ u ∈ placesJn js, u.oneCell' = true := by
  intro u hu
  simp only [placesJn, List.mem_flatMap] at hu
  obtain ⟨c, _, hc⟩ := hu
  simp only [List.mem_cons, List.not_mem_nil, or_false] at hc
  rcases hc with rfl | rfl | rfl <;> rfl
theorem JnIn.rowOf {lo hi : Nat} {w w' : World} {v : Value} {js : List J3} (h : JnIn lo hi w v js) (hb : Below hi w w') : RowOf w' v js.length (placesJn js) := by
  obtain ⟨_, ⟨rfl, a, c, hv⟩ | ⟨g, cap, hv, hcp, hg, hlt, hc⟩⟩ := h
  · exact .inl ⟨rfl, a, c, hv⟩
  · refine .inr ⟨_, _, hv, fun j u hu => ?_⟩
    have hj : j < js.length * 3 := by
      rcases Nat.lt_or_ge j (js.length * 3) with h | h
      · exact h
      · rw [List.getElem?_eq_none (by rw [placesJn_length]; exact h)] at hu; cases hu
    have ad : (⟨g, 0, none⟩ : Addr).add j = ⟨g, j, none⟩ := by cases j <;> simp [Addr.add]
    rw [ad]
    obtain ⟨k, hk⟩ : ∃ k, j = k * 3 ∨ j = k * 3 + 1 ∨ j = k * 3 + 2 := ⟨j / 3, by omega⟩
    have hkn : k < js.length := by omega
    obtain ⟨p0, p1, p2⟩ := placesJn_at js k hkn
    obtain ⟨e0, e1, e2⟩ := (hc k hkn).1.below hb hlt
    rcases hk with rfl | rfl | rfl
    · rw [e0, ← hu, p0]
    · rw [e1, ← hu, p1]
    · rw [e2, ← hu, p2]
/-- A row of joins that is owned. -/
def OwnJ (b : Nat) (w : World) (v : Value) (js : List J3) : Prop := w.ownsRow b 40 3 v js.length (placesJn js)
theorem OwnJ.nil (b : Nat) (w : World) : OwnJ b w (.slice none 0 0) [] := World.ownsRow_nil _ _ _ _
theorem OwnJ.row {b : Nat} {w : World} {v : Value} {js : List J3} (h : OwnJ b w v js) (hl : js.length ≤ 1048576) : JnIn b w.heap.size w v js := JnIn.of_owns h hl
theorem OwnJ.below {b : Nat} {w w' : World} {v : Value} {js : List J3} (h : OwnJ b w v js) (hb : Below w.heap.size w w') : OwnJ b w' v js := owL h hb
theorem OwnJ.both {b n : Nat} {w : World} {v : Value} {js ks : List J3} (h : w.ownsRow b 40 3 v n (placesJn js ++ placesJn ks)) : OwnJ b w v (js ++ ks) := by
  have h1 := h.1
  simp [placesJn_length] at h1
  unfold OwnJ
  rw [placesJn_append, show (js ++ ks).length = n by simp; omega]
  exact h
theorem OwnJ.one (up : Bool) (a b : Int) : ([.bool up, .int .i64 a, .int .i64 b] : List Value) = placesJn [⟨up, a, b⟩] := rfl
theorem OwnJ.wide {b b' : Nat} {w : World} {v : Value} {js : List J3} (h : OwnJ b w v js) (hb : b' ≤ b) : OwnJ b' w v js := by
  obtain ⟨h1, h2 | ⟨g, cap, cur, hv, hg, r⟩⟩ := h
  · exact ⟨h1, .inl h2⟩
  · exact ⟨h1, .inr ⟨g, cap, cur, hv, Nat.le_trans hb hg, r⟩⟩

end Go.Proofs.Ytboahceibeeifaa

set_option linter.unusedSimpArgs false
set_option linter.unusedVariables false
namespace Go.Proofs.Ytboahceibeeifaa
open Go.ChangeShapes Go.WideShapes Go.ChangeAt Go.RowKit

theorem IsUnit_any (u : Int) (k : Nat) (w : World) : Calls Try.prog 42 #[.int .i64 u, .int .i64 k] w fun e w' => e = .returned (.bool (decide (InU k u))) ∧ w' = w := by
  unfold InU
  by_cases h0 : 0 ≤ u
  · by_cases h1 : u < (k : Int)
    all_goals
      go_enter Try.func42, Try.ntmps42
      go_wp2_with fail
      go_ret
      exact ⟨ret_bool (by simp [h0, h1]), rfl⟩
  · go_enter Try.func42, Try.ntmps42
    go_wp2_with fail
    go_ret
    exact ⟨ret_bool (decide_eq_false (by omega)).symm, rfl⟩
theorem HasUnits_any (up : Bool) (a b : Int) (k : Nat) (w : World) : Calls Try.prog 43 #[.agg #[.bool up, .int .i64 a, .int .i64 b], .int .i64 k] w fun e w' => e = .returned (.bool (decide (InU k a ∧ InU k b))) ∧ Below w.heap.size w w' := by
  have IA := Lib.hid (fun w => IsUnit_any a k w)
  have IB := Lib.hid (fun w => IsUnit_any b k w)
  by_cases h0 : InU k a
  · rw [show decide (InU k a) = true from decide_eq_true h0] at IA
    have HR : Hid (decide (InU k b) = decide (InU k a ∧ InU k b)) := Lib.hid (by simp [h0])
    rw [← HR.out]
    generalize decide (InU k b) = ok at IB
    clear h0 HR
    go_enter Try.func43, Try.ntmps43
    go_wp2_with fail
    refine (IA.out _).mono ?_
    rintro e w' ⟨rfl, hw⟩
    have hw' := hw.symm
    subst hw'
    clear hw
    go_wp2_with fail
    refine (IB.out _).mono ?_
    rintro e w' ⟨rfl, hw⟩
    have hw' := hw.symm
    subst hw'
    clear hw
    go_wp2_with fail
    go_ret
    exact ⟨rfl, bel0 w _⟩
  · rw [show decide (InU k a) = false from decide_eq_false h0] at IA
    rw [show decide (InU k a ∧ InU k b) = false by simp [h0]]
    clear h0
    go_enter Try.func43, Try.ntmps43
    go_wp2_with fail
    refine (IA.out _).mono ?_
    rintro e w' ⟨rfl, hw⟩
    have hw' := hw.symm
    subst hw'
    clear hw
    go_wp2_with fail
    go_ret
    exact ⟨rfl, bel0 w _⟩

end Go.Proofs.Ytboahceibeeifaa

set_option linter.unusedSimpArgs false
set_option linter.unusedVariables false
namespace Go.Proofs.Ytboahceibeeifaa

/-- The numbers of the patches on one side of the line. -/
def idxs (c : C2) (b : Bool) (xs : List P5) (k : Nat) : List Nat := (List.range k).filter fun i => sel2 c (pat xs i) == b
def numK (c : C2) (b : Bool) (xs : List P5) (ns : List Int) (k : Nat) : List Int := (idxs c b xs k).map fun i => ns.getD i 0
theorem numK_yes {c : C2} {b : Bool} {xs : List P5} {ns : List Int} {k : Nat} (h : sel2 c (pat xs k) = b) : numK c b xs ns (k + 1) = numK c b xs ns k ++ [ns.getD k 0] := by
  have e : [k].filter (fun i => sel2 c (pat xs i) == b) = [k] := List.filter_cons_of_pos (by rw [h]; exact beq_self_eq_true b)
  unfold numK idxs
  rw [List.range_succ, List.filter_append, e, List.map_append]; rfl
theorem numK_no {c : C2} {b : Bool} {xs : List P5} {ns : List Int} {k : Nat} (h : sel2 c (pat xs k) ≠ b) : numK c b xs ns (k + 1) = numK c b xs ns k := by
  have e : [k].filter (fun i => sel2 c (pat xs i) == b) = [] := List.filter_cons_of_neg (by rw [beq_iff_eq]; exact h)
  unfold numK idxs
  rw [List.range_succ, List.filter_append, e, List.append_nil]
theorem idxs_len (c : C2) (b : Bool) (xs : List P5) (k : Nat) : (idxs c b xs k).length ≤ k := by
  have := List.length_filter_le (fun i => sel2 c (pat xs i) == b) (List.range k)
  simpa [idxs] using this
theorem numK_len (c : C2) (b : Bool) (xs : List P5) (ns : List Int) (k : Nat) : (numK c b xs ns k).length ≤ k := by
  have := idxs_len c b xs k
  simpa [numK] using this
theorem idxs_lt {c : C2} {b : Bool} {xs : List P5} {k i : Nat} (h : i ∈ idxs c b xs k) : i < k := by
  simpa using (List.mem_filter.1 h).1
theorem map_range (xs : List P5) : (List.range xs.length).map (pat xs) = xs := by
  apply List.ext_getElem (by simp)
  intro i h1 h2
  simp only [List.getElem_map, List.getElem_range]
  exact pat_get h2
theorem filter_idx (c : C2) (b : Bool) (xs : List P5) : (xs.filter fun p => sel2 c p == b) = (idxs c b xs xs.length).map (pat xs) := by
  have : (xs.filter fun p => sel2 c p == b) = ((List.range xs.length).map (pat xs)).filter fun p => sel2 c p == b := by rw [map_range]
  rw [this, List.filter_map]; rfl
variable {m n : Int} {xs : List P5} {c : C2}
theorem pL1_idx (h : LayOk m n xs) (hc : hasC m n xs c = true) : pL1 m n c xs = (idxs c false xs xs.length).map (pat xs) := by
  rw [pL1_sel h hc, ← filter_idx]
  refine List.filter_congr (fun p _ => ?_)
  cases sel2 c p <;> rfl
theorem pL2_idx (h : LayOk m n xs) (hc : hasC m n xs c = true) : pL2 m n c xs = ((idxs c true xs xs.length).map (pat xs)).map (mv (pX2 c) (pY2 c)) := by
  rw [pL2_sel h hc, ← filter_idx]
  congr 1
  refine List.filter_congr (fun p _ => ?_)
  cases sel2 c p <;> rfl
theorem num1_len (h : LayOk m n xs) (hc : hasC m n xs c = true) (ns : List Int) : (numK c false xs ns xs.length).length = (pL1 m n c xs).length := by
  rw [pL1_idx h hc]; simp [numK]
theorem num2_len (h : LayOk m n xs) (hc : hasC m n xs c = true) (ns : List Int) : (numK c true xs ns xs.length).length = (pL2 m n c xs).length := by
  rw [pL2_idx h hc]; simp [numK]

/-- The joins of a part whose patches have these numbers; the next number; the unit that they make. -/
inductive TreeIs : Int → Int → List P5 → List Int → Int → List J3 → Int → Bool → Prop
  | one {m n : Int} {xs : List P5} {ns : List Int} {t : Int} (h : LayOk m n xs) (hl : xs.length = 1) (hn : ns.length = xs.length) : TreeIs m n xs ns t [] (ns.getD 0 0) true
  | knot {m n : Int} {xs : List P5} {ns : List Int} {t : Int} (h : LayOk m n xs) (hl : xs.length ≠ 1) (hn : ns.length = xs.length) (hc : cutsL m n xs = []) : TreeIs m n xs ns t [] 0 false
  | join {m n : Int} {xs : List P5} {ns : List Int} {t : Int} {c : C2} {r : List C2} {j1 j2 : List J3} {u1 u2 : Int} {b1 b2 : Bool} (h : LayOk m n xs) (hl : xs.length ≠ 1) (hn : ns.length = xs.length) (hc : cutsL m n xs = c :: r)
      (t1 : TreeIs (pM1 m c) (pN1 n c) (pL1 m n c xs) (numK c false xs ns xs.length) t j1 u1 b1) (t2 : TreeIs (pM2 m c) (pN2 n c) (pL2 m n c xs) (numK c true xs ns xs.length) (t + j1.length) j2 u2 b2) :
      TreeIs m n xs ns t (if b1 && b2 then j1 ++ j2 ++ [⟨c.up, u1, u2⟩] else []) (if b1 && b2 then t + (j1.length + j2.length) else 0) (b1 && b2)
theorem TreeIs.lay {ns : List Int} {t : Int} {js : List J3} {u : Int} {b : Bool} (h : TreeIs m n xs ns t js u b) : LayOk m n xs := by cases h <;> assumption
theorem TreeIs.nums {ns : List Int} {t : Int} {js : List J3} {u : Int} {b : Bool} (h : TreeIs m n xs ns t js u b) : ns.length = xs.length := by cases h <;> assumption
theorem TreeIs.len {ns : List Int} {t : Int} {js : List J3} {u : Int} {b : Bool} (h : TreeIs m n xs ns t js u b) : js.length + 1 ≤ xs.length := by
  induction h with
  | one h hl hn => simp; omega
  | knot h hl hn hc => have := h.2.2.1.1; simp; omega
  | @join m n xs ns t c r j1 j2 u1 u2 b1 b2 h hl hn hc t1 t2 ih1 ih2 =>
    have := part_len h (first_cut hc)
    split
    · simp; omega
    · have := h.2.2.1.1; simp; omega
theorem TreeIs.full {ns : List Int} {t : Int} {js : List J3} {u : Int} {b : Bool} (h : TreeIs m n xs ns t js u b) : b = true → js.length + 1 = xs.length := by
  induction h with
  | one h hl hn => intro _; simp; omega
  | knot h hl hn hc => intro k; cases k
  | @join m n xs ns t c r j1 j2 u1 u2 b1 b2 h hl hn hc t1 t2 ih1 ih2 =>
    intro k
    have := part_len h (first_cut hc)
    rw [Bool.and_eq_true] at k
    have h1 := ih1 k.1
    have h2 := ih2 k.2
    rw [k.1, k.2]
    simp; omega
theorem tree_ex : ∀ (k : Nat) (m n : Int) (xs : List P5) (ns : List Int) (t : Int), xs.length ≤ k → LayOk m n xs → ns.length = xs.length → ∃ js u b, TreeIs m n xs ns t js u b
  | 0, m, n, xs, ns, t, hk, h, _ => by have := h.2.2.1; omega
  | k + 1, m, n, xs, ns, t, hk, h, hn => by
    by_cases hl : xs.length = 1
    · exact ⟨_, _, _, .one h hl hn⟩
    · cases hc : cutsL m n xs with
      | nil => exact ⟨_, _, _, .knot h hl hn hc⟩
      | cons c r =>
        have hh := first_cut hc
        have l1 := lay1 h hh
        have l2 := lay2 h hh
        have hs := part_len h hh
        have z1 := l1.2.2.1
        have z2 := l2.2.2.1
        obtain ⟨j1, u1, b1, t1⟩ := tree_ex k _ _ _ (numK c false xs ns xs.length) t (by omega) l1 (num1_len h hh ns)
        obtain ⟨j2, u2, b2, t2⟩ := tree_ex k _ _ _ (numK c true xs ns xs.length) (t + j1.length) (by omega) l2 (num2_len h hh ns)
        exact ⟨_, _, _, .join h hl hn hc t1 t2⟩
theorem tree_knot {ns : List Int} {t : Int} {js : List J3} {u : Int} {b : Bool} (h : TreeIs m n xs ns t js u b) : ∀ {q}, KnotIs m n xs q → b = q.isNone := by
  induction h with
  | one h hl hn =>
    intro q hq
    cases hq with
    | one => rfl
    | knot _ h2 => exact absurd hl h2
    | left _ h2 => exact absurd hl h2
    | right _ h2 => exact absurd hl h2
  | knot h hl hn hc =>
    intro q hq
    cases hq with
    | one _ h2 => exact absurd h2 hl
    | knot => rfl
    | left _ _ h3 => rw [hc] at h3; cases h3
    | right _ _ h3 => rw [hc] at h3; cases h3
  | @join m n xs ns t c r j1 j2 u1 u2 b1 b2 h hl hn hc t1 t2 ih1 ih2 =>
    intro q hq
    cases hq with
    | one _ h2 => exact absurd h2 hl
    | knot _ _ h3 => rw [hc] at h3; cases h3
    | left _ _ h3 k1 =>
      rw [hc] at h3
      obtain ⟨rfl, _⟩ := List.cons.inj h3
      rw [ih1 k1]; rfl
    | right _ _ h3 k1 k2 =>
      rw [hc] at h3
      obtain ⟨rfl, _⟩ := List.cons.inj h3
      rw [ih1 k1, ih2 k2]; rfl
/-- The numbers of all patches. -/
def numsN (k : Nat) : List Int := (List.range k).map fun i : Nat => (i : Int)
theorem numsN_len (k : Nat) : (numsN k).length = k := by simp [numsN]
theorem numsN_succ (k : Nat) : numsN (k + 1) = numsN k ++ [(k : Int)] := by simp [numsN, List.range_succ]
theorem numsN_at {k i : Nat} (h : i < k) : (numsN k).getD i 0 = i := by simp [numsN, List.getD, h]
noncomputable def treeR (m n : Int) (xs : List P5) : List J3 × Int × Bool := Classical.epsilon (fun r => LayOk m n xs → TreeIs m n xs (numsN xs.length) xs.length r.1 r.2.1 r.2.2)
theorem treeR_is (h : layB m n xs = true) : TreeIs m n xs (numsN xs.length) xs.length (treeR m n xs).1 (treeR m n xs).2.1 (treeR m n xs).2.2 := by
  have := Classical.epsilon_spec (p := fun r : List J3 × Int × Bool => LayOk m n xs → TreeIs m n xs (numsN xs.length) xs.length r.1 r.2.1 r.2.2) (by
    obtain ⟨js, u, b, t⟩ := tree_ex _ m n xs (numsN xs.length) xs.length (Nat.le_refl _) (lay_of h) (numsN_len _)
    exact ⟨(js, u, b), fun _ => t⟩)
  exact this (lay_of h)
theorem treeR_sew (h : layB m n xs = true) : (treeR m n xs).2.2 = sewB m n xs := by
  rw [tree_knot (treeR_is h) (knotR_is h), sew_lay h]
noncomputable def joinsL (m n : Int) (xs : List P5) : List J3 := if sewB m n xs then (treeR m n xs).1 else []
theorem joins_no (h : sewB m n xs = false) : joinsL m n xs = [] := by simp [joinsL, h]
theorem joins_yes (h : sewB m n xs = true) : joinsL m n xs = (treeR m n xs).1 := by simp [joinsL, h]
theorem joins_tree (h : sewB m n xs = true) : TreeIs m n xs (numsN xs.length) xs.length (joinsL m n xs) (treeR m n xs).2.1 true := by
  have hl := sew_layB h
  have := treeR_is hl
  rw [treeR_sew hl, h] at this
  rwa [joins_yes h]

/-- A part of a layout, moved; the numbers of its patches there. -/
def Sub (W : List P5) (l t : Int) (xs : List P5) (ns : List Int) : Prop := ns.length = xs.length ∧ ∀ k, k < xs.length → ∃ i : Nat, i < W.length ∧ ns.getD k 0 = i ∧ pat xs k = mv l t (pat W i)
theorem Sub.all (xs : List P5) : Sub xs 0 0 xs (numsN xs.length) := by
  refine ⟨numsN_len _, fun k hk => ⟨k, hk, numsN_at hk, by rw [mv_zero]⟩⟩
variable {W : List P5} {l t : Int} {ns : List Int}
theorem getD_map_int (f : Nat → Int) {I : List Nat} {k : Nat} (h : k < I.length) : (I.map f).getD k 0 = f I[k] := by simp [List.getD, h]
theorem pat_mapI (f : Nat → P5) {I : List Nat} {k : Nat} (h : k < I.length) : pat (I.map f) k = f I[k] := by simp [pat, List.getD, h]
theorem Sub.left (h : Sub W l t xs ns) (lay : LayOk m n xs) (hc : hasC m n xs c = true) : Sub W l t (pL1 m n c xs) (numK c false xs ns xs.length) := by
  refine ⟨num1_len lay hc ns, fun k hk => ?_⟩
  rw [pL1_idx lay hc, List.length_map] at hk
  obtain ⟨i, hi, e1, e2⟩ := h.2 _ (idxs_lt (List.getElem_mem hk))
  refine ⟨i, hi, ?_, ?_⟩
  · rw [← e1]; exact getD_map_int _ hk
  · rw [← e2, pL1_idx lay hc]; exact pat_mapI _ hk
theorem Sub.right (h : Sub W l t xs ns) (lay : LayOk m n xs) (hc : hasC m n xs c = true) : Sub W (l + pX2 c) (t + pY2 c) (pL2 m n c xs) (numK c true xs ns xs.length) := by
  refine ⟨num2_len lay hc ns, fun k hk => ?_⟩
  rw [pL2_idx lay hc, List.map_map, List.length_map] at hk
  obtain ⟨i, hi, e1, e2⟩ := h.2 _ (idxs_lt (List.getElem_mem hk))
  refine ⟨i, hi, ?_, ?_⟩
  · rw [← e1]; exact getD_map_int _ hk
  · rw [pL2_idx lay hc, List.map_map]
    refine (pat_mapI _ hk).trans ?_
    show mv (pX2 c) (pY2 c) (pat xs _) = _
    rw [e2]; unfold mv; congr 1 <;> simp only <;> omega
theorem Sub.one {M N : Int} (h : Sub W l t xs ns) (lay : LayOk m n xs) (hl : xs.length = 1) (hW : LayOk M N W) : ns.getD 0 0 = patL M N W l t := by
  obtain ⟨i, hi, e1, e2⟩ := h.2 0 (by omega)
  have hm := lay.1
  have hn := lay.2.1
  obtain ⟨k, hk, hc⟩ := some_at lay (x := 0) (y := 0) (by omega) (by omega) (by omega) (by omega)
  obtain rfl : k = 0 := by omega
  rw [e2] at hc
  obtain ⟨⟨c0, c1⟩, c2, c3⟩ := hc
  have f := lay.fit (show 0 < xs.length by omega)
  rw [e2] at f
  obtain ⟨⟨f0, _⟩, ⟨f1, _⟩, ⟨f2, _⟩, ⟨f3, _⟩, _⟩ := f
  simp only [mv] at c0 c1 c2 c3 f0 f1 f2 f3
  have hcov : Cov (pat W i) l t := by unfold Cov; omega
  rw [e1]
  exact patL_at (lay_yes hW).symm hi hcov (fun j hj hc' => by
    have := at_most hW (show j < W.length by omega) hi hc' hcov
    omega)

end Go.Proofs.Ytboahceibeeifaa

set_option linter.unusedSimpArgs false
set_option linter.unusedVariables false
namespace Go.Proofs.Ytboahceibeeifaa
open Go.ChangeShapes Go.WideShapes Go.ChangeAt Go.RowKit

theorem info_intJ : (Try.prog.info? 3).map (fun i => (i.zero, i.size, i.bytes)) = some (some (.int .i64 0), 1, 8) := by kernel_rfl
/-- A row of ints that is owned. -/
def OwnD (b : Nat) (w : World) (v : Value) (ds : List Int) : Prop := w.ownsRow b 3 1 v ds.length (ivals ds)
theorem OwnD.row {b : Nat} {w : World} {v : Value} {ds : List Int} (h : OwnD b w v ds) (hl : ds.length ≤ 1048576) : IntIn b w.heap.size w v ds := IntIn.of_owns h hl
theorem OwnD.more {b g n c : Nat} {w : World} {ds : List Int} {x : Int} (h : w.ownsRow b 3 1 (.slice (some ⟨g, 0, none⟩) n c) n (ivals ds ++ [.int .i64 x])) : OwnD b w (.slice (some ⟨g, 0, none⟩) n c) (ds ++ [x]) := by
  have h1 := h.1
  unfold OwnD ivals at *
  simp at h1
  rw [List.map_append, List.length_append]
  simp
  rw [h1]; exact h
theorem OwnD.zero {b n : Nat} {w : World} {v : Value} (h : w.ownsRow b 3 1 v n (madeCells (Value.int .i64 0).cells (n * 1)).toList) : OwnD b w v (List.replicate n 0) := by
  have e : (madeCells (Value.int .i64 0).cells (n * 1)).toList = ivals (List.replicate n 0) := by
    apply List.ext_getElem?
    intro i
    by_cases hi : i < n
    · simp [madeCells, Value.cells, ivals, hi, Nat.mod_one]
    · simp [madeCells, Value.cells, ivals, hi]
  unfold OwnD
  rw [List.length_replicate, ← e]; exact h
theorem DpB.at {k : Nat} {ds : List Int} (h : DpB k ds) (i : Nat) : 0 ≤ dp ds i ∧ dp ds i ≤ k := h i
set_option maxHeartbeats 6400000 in
set_option maxRecDepth 20000 in
theorem ImplDepthOf_any (lo hi : Nat) (v : Value) (js : List J3) (n : Int) (wn : (Lit.int .i64 n).wf = true) (w : World) (r : JnIn lo hi w v js) (hhi : hi ≤ w.heap.size) :
    Calls Try.prog 15 #[v, .int .i64 n] w fun e w' => e = .returned (.int .i64 (depJ js n)) ∧ Below w.heap.size w w' := by
  obtain ⟨i0, hi0, hz0, hz1, hz2⟩ := info_parts3 info_intJ
  obtain ⟨av, cv, rfl⟩ := r.form
  have R := Lib.hid r
  have hl := r.1
  clear r
  by_cases h0 : 1 ≤ n ∧ n ≤ 12
  · obtain ⟨n0, n1⟩ := h0
    by_cases h1 : (js.length : Int) = n - 1
    · have HD : Hid (dpF (List.replicate n.toNat 0) js = depJ js n) := Lib.hid (by unfold depJ; rw [if_pos ⟨⟨n0, n1⟩, h1⟩])
      obtain ⟨N, rfl⟩ : ∃ N : Nat, n = N := ⟨n.toNat, by omega⟩
      have hjl : js.length ≤ 11 := by omega
      have h2 : ((js.length : Int) == (N : Int) - 1) = true := by rw [h1]; exact beq_self_eq_true _
      have h3 : ((js.length : Int) != (N : Int) - 1) = false := by rw [h1]; exact bne_self_eq_false _
      have hJ := Lib.hid h1
      simp only [Int.toNat_natCast] at HD
      have HB := Lib.hid (DpB.start N)
      clear h1 wn
      generalize depJ js N = d at HD
      go_enter Try.func15, Try.ntmps15
      go_wp2_with (at_make; refine wpList_make_full _ rfl _ _ 77 rfl w.heap.size 3 i0 _ 1 Try.underlying77 hi0 hz0 hz1 .i64 .i64 _ _ N rfl rfl rfl rfl (by rw [hz2]; omega) (by unfold maxLen; omega) (Nat.le_refl _) ?_; intro w0 hown0 hgrow0)
      have hw0 := own_none hgrow0
      have HO := Lib.hid (OwnD.zero hown0)
      have HW := Lib.hid hw0
      clear hw0 hown0 hgrow0
      go_loopw [5, 25] (fun q i wr => ∃ (k : Nat) (ds : List Int), k ≤ js.length ∧ i = .int .i64 k ∧ Hid (ds.length = N + k) ∧ Hid (OwnD w.heap.size wr q ds) ∧ Hid (DpB k ds) ∧ Hid (dpF ds (js.drop k) = d) ∧ Hid (Below w.heap.size w wr)) (fun _ i _ => js.length - (intOf i).toNat)
      case atStart => exact ⟨0, _, Nat.zero_le _, rfl, Lib.hid (by simp), HO, HB, HD, HW⟩
      case round =>
        clear HO HB HD HW
        obtain ⟨k, ds, hk, rfl, hdl, ho, hdb, hdf, hbel⟩ := hrel
        have hdl12 : ds.length ≤ 24 := by have := hdl.out; omega
        have hdl0 : 1 ≤ ds.length := by have := hdl.out; omega
        have hin := ho.out.row (by omega)
        obtain ⟨aq, cq, rfl⟩ := hin.form
        by_cases hlt : k < js.length
        · obtain ⟨g, rfl, hg, hg1, ⟨e0, e1, e2⟩, _⟩ := R.out.at (hbel.out.mono hhi) hlt
          have HN := Lib.hid (fun hf => dpF_yes hlt hdf.out hf)
          have HM := Lib.hid (fun hf => dpF_no hlt hdf.out hf)
          obtain ⟨j, hj⟩ : ∃ j, j = jn js k := ⟨_, rfl⟩
          rw [show js.getD k J3.zero = j from hj.symm] at e0 e1 e2
          rw [show jn js k = j from hj.symm] at HN HM
          obtain ⟨up, a, b⟩ := j
          simp only at e0 e1 e2
          clear hj hdf
          have BA := bel0 wr (.cells #[.bool up, .int .i64 a, .int .i64 b] 40)
          have HO1 := Lib.hid (owL ho.out BA)
          have HO1 := Lib.hid (owL ho.out BA)
          have HB1 := Lib.hid (bel_n hbel.out (Nat.le_refl _) (.cells #[.bool up, .int .i64 a, .int .i64 b] 40))
          have hs1 := hbel.out.size
          clear ho hbel BA
          by_cases hok : DpOk ds ⟨up, a, b⟩
          · have HY := Lib.hid (HN.out hok)
            obtain ⟨⟨a0, a1⟩, b0, b1⟩ := hok
            simp only at a0 a1 b0 b1
            obtain ⟨A, rfl⟩ : ∃ A : Nat, a = A := ⟨a.toNat, by omega⟩
            obtain ⟨B, rfl⟩ : ∃ B : Nat, b = B := ⟨b.toNat, by omega⟩
            have a2 : A < ds.length := by omega
            have b2 : B < ds.length := by omega
            obtain ⟨gd, hgd, hgd0, hgd1, r1, _⟩ := hin.at (Below.refl _ _) a2
            obtain ⟨gd', hgd', _, _, r2, _⟩ := hin.at (Below.refl _ _) b2
            obtain rfl : gd = gd' := by rw [hgd] at hgd'; simpa using hgd'
            have hx := hdb.out.at A
            have hy := hdb.out.at B
            have HV : Hid (dpJ ds ⟨up, A, B⟩ = 1 + max (dp ds A) (dp ds B)) := Lib.hid (by simp [dpJ])
            have HB2 := Lib.hid (hdb.out.put ⟨up, A, B⟩)
            rw [HV.out] at HB2 HY
            obtain ⟨x, hxx⟩ : ∃ x, x = dp ds A := ⟨_, rfl⟩
            obtain ⟨y, hyy⟩ : ∃ y, y = dp ds B := ⟨_, rfl⟩
            rw [show ds.getD A 0 = x from hxx.symm] at r1
            rw [show ds.getD B 0 = y from hyy.symm] at r2
            rw [← hxx] at hx HB2 HY
            rw [← hyy] at hy HB2 HY
            clear hxx hyy HV hin HN HM hdb hgd'
            have HU := Lib.hid (fun u => HasUnits_any up A B ds.length u)
            rw [show decide (InU ds.length A ∧ InU ds.length B) = true from decide_eq_true ⟨⟨a0, a1⟩, b0, b1⟩] at HU
            obtain rfl : aq = some ⟨gd, 0, none⟩ := hgd
            go_wp2_with fail
            refine (args_eqL (HU.out _) (by with_reducible rfl)).mono ?_
            rintro e w1 ⟨rfl, hb1⟩
            have c0 := kept (p := ⟨wr.heap.size, 0, none⟩) (x := .bool up) hb1 (by go_simp)
            have c1 := kept (p := ⟨wr.heap.size, 1, none⟩) (x := .int .i64 A) hb1 (by go_simp)
            have c2 := kept (p := ⟨wr.heap.size, 2, none⟩) (x := .int .i64 B) hb1 (by go_simp)
            have s1 := kept hb1 (kept (bel0 wr (.cells #[.bool up, .int .i64 A, .int .i64 B] 40)) r1)
            have s2 := kept hb1 (kept (bel0 wr (.cells #[.bool up, .int .i64 A, .int .i64 B] 40)) r2)
            have HO2 := Lib.hid (owL HO1.out hb1)
            have HB3 := Lib.hid (bel_c HB1.out (Nat.le_refl _) hb1)
            have hs2 := HB3.out.size
            clear hb1 HO1 HB1 r1 r2 e0 e1 e2
            obtain ⟨M, hM⟩ : ∃ M, (if x < y then y else x) = M := ⟨_, rfl⟩
            have hMM : 1 + max x y = 1 + M := by rw [← hM]; split <;> omega
            rw [hMM] at HB2 HY
            have hM0 : 0 ≤ M ∧ M ≤ 12 := by omega
            obtain ⟨hM0, hM1⟩ := hM0
            clear hMM hx hy
            have hwM : IntKind.i64.wrap (1 + M) = 1 + M := by simp [IntKind.wrap, IntKind.bits, IntKind.signed]; omega
            have BX : Below w1.heap.size w1 ((w1.alloc (.cells #[.int .i64 (1 + M)] 3)).drew) := bel_dr9 (bel0 w1 _)
            have HO3 := Lib.hid (owL HO2.out BX)
            have HB4 := Lib.hid (bel_c HB3.out (Nat.le_refl _) BX)
            have HS3 := Lib.hid HB4.out.size
            have HNW : Hid (∀ (j : Nat) u, ([.int .i64 (1 + M)] : List Value)[j]? = some u → ((w1.alloc (.cells #[.int .i64 (1 + M)] 3)).drew).cell? ((⟨w1.heap.size, 0, none⟩ : Addr).add j) = some u) := Lib.hid (fun j u hu => newsL w1 w1.heap.size #[.int .i64 (1 + M)] 3 rfl j u hu)
            clear BX HO2 HB3
            go_wp2_with fail
            go_region_law (first
              | (refine step_append_lies _ (by rfl) _ _ _ (by rfl) w.heap.size 3 i0 _ 1 8 Try.underlying77 hi0 hz0 hz1 hz2 rfl (by omega) _ ds.length _ (by rfl) HO3.out ⟨w1.heap.size, 0, none⟩ 1 1 [.int .i64 (1 + M)] (by rfl) (by rfl) HNW.out (by simp [Value.oneCell']) (by omega) (by unfold maxLen; omega) (by omega) HS3.out (w1.heap.size + 1) (by simp) ?_; intro gg cc w5 hown5 hgrow hat hlt5; have hbw := (Below.refl w.heap.size _).grown hgrow HS3.out (ogL HO3.out)))
            all_goals
              have HN5 : Hid (OwnD w.heap.size w5 (.slice (some ⟨gg, 0, none⟩) (ds.length + 1) cc) (ds ++ [1 + M])) := Lib.hid (OwnD.more hown5)
              have HB5 := Lib.hid (HB4.out.trans hbw)
              have HL5 : Hid ((ds ++ [1 + M]).length = N + (k + 1)) := Lib.hid (by have := hdl.out; simp; omega)
              clear hown5 hgrow hat hlt5 hbw HO3 HNW HS3 HB4
              go_wp2_with fail
              go_roundw
              case rel => exact ⟨k + 1, _, by omega, by go_num, HL5, HN5, HB2, HY, HB5⟩
              case measure => simp [intOf] <;> omega
          · have HY := Lib.hid (HM.out hok)
            clear HN HM hdb hin
            have HU := Lib.hid (fun u => HasUnits_any up a b ds.length u)
            rw [show decide (InU ds.length a ∧ InU ds.length b) = false from decide_eq_false hok] at HU
            clear hok
            go_wp2_with fail
            refine (args_eqL (HU.out _) (by with_reducible rfl)).mono ?_
            rintro e w1 ⟨rfl, hb1⟩
            have HB3 := Lib.hid (bel_c HB1.out (Nat.le_refl _) hb1)
            clear hb1 HO1 HB1
            go_wp2_with fail
            go_ret
            exact ⟨ret_int HY.out, HB3.out⟩
        · obtain rfl : k = js.length := by omega
          have hjj := hJ.out
          have HE := Lib.hid (dpF_all hdf.out)
          have hq : ds.length - 1 < ds.length := by omega
          obtain ⟨gd, hgd, hgd0, hgd1, r1, _⟩ := hin.at (Below.refl _ _) hq
          rw [show ds.getD (ds.length - 1) 0 = d from HE.out] at r1
          obtain rfl : aq = some ⟨gd, 0, none⟩ := hgd
          obtain ⟨L, hL⟩ : ∃ L, L = ds.length := ⟨_, rfl⟩
          rw [← hL] at r1 hdl0 hdl12 ⊢
          have hL1 : ((L - 1 : Nat) : Int) = (L : Int) - 1 := by omega
          have hL2 := Lib.hid hL
          clear hL hin ho hdb hdf hq
          obtain ⟨K, rfl⟩ : ∃ K, L = K + 1 := ⟨L - 1, by omega⟩
          simp only [Nat.add_sub_cancel] at r1
          clear hL1
          clear hjj hdl
          go_wp2_with fail
          go_ret
          exact ⟨rfl, hbel.out⟩
    · have h2 : ((js.length : Int) == n - 1) = false := by simpa using h1
      have h3 : ((js.length : Int) != n - 1) = true := by simpa using h1
      rw [show depJ js n = -1 by unfold depJ; rw [if_neg (fun k => h1 k.2)]]
      clear h1
      go_enter Try.func15, Try.ntmps15
      go_wp2_with fail
      go_ret
      exact ⟨rfl, Below.refl _ _⟩
  · rw [show depJ js n = -1 by unfold depJ; rw [if_neg (fun k => h0 k.1)]]
    by_cases h1 : n < 1
    · go_enter Try.func15, Try.ntmps15
      go_wp2_with fail
      go_ret
      exact ⟨rfl, Below.refl _ _⟩
    · have h2 : 12 < n := by omega
      clear h0
      go_enter Try.func15, Try.ntmps15
      go_wp2_with fail
      go_ret
      exact ⟨rfl, Below.refl _ _⟩

end Go.Proofs.Ytboahceibeeifaa

set_option linter.unusedSimpArgs false
set_option linter.unusedVariables false
namespace Go.Proofs.Ytboahceibeeifaa
open Go.ChangeShapes Go.WideShapes Go.ChangeAt Go.RowKit

theorem SzJ_no (a : Option Addr) (len cap : Nat) (left : Int) (w : World) (h0 : 0 ≤ left) (h1 : left ≤ 1048576) (hm : len ≤ 9223372036854775807) (h : left < len) :
    Calls Try.prog 25 #[.slice a len cap, .int .i64 left] w fun e w' => e = .returned (.int .i64 (-1)) ∧ w' = w := by
  have h2 : left - (len : Int) < 0 := by omega
  go_enter Try.func25, Try.ntmps25
  go_wp2_with fail
  go_ret
  exact ⟨rfl, rfl⟩
theorem SzJ_yes (a : Option Addr) (len cap : Nat) (left : Int) (w : World) (h1 : left ≤ 1048576) (h : (len : Int) ≤ left) :
    Calls Try.prog 25 #[.slice a len cap, .int .i64 left] w fun e w' => e = .returned (.int .i64 (left - len)) ∧ w' = w := by
  have h2 : ¬ left - (len : Int) < 0 := by omega
  go_enter Try.func25, Try.ntmps25
  go_wp2_with fail
  go_ret
  exact ⟨rfl, rfl⟩
/-- The number behind the last mark. -/
def mkJ (zs : List J3) : Int := ((1 + 3 * zs.length : Nat) : Int)
theorem mkJ_pos (zs : List J3) : ¬ mkJ zs < 0 := by unfold mkJ; omega
theorem MarkJOne (lo hi : Nat) (v : Value) (zs : List J3) (w : World) (r : JnIn lo hi w v zs) :
    Calls Try.prog 23 #[v, .int .i64 1] w fun e w' => e = .returned (.int .i64 (mkJ zs)) ∧ JnIn lo hi w' v (markJn 1 zs.length) ∧ Within lo hi w w' :=
  MarkJnS_any lo hi v zs 1 w r (by omega)
theorem HeldJOne (lo hi : Nat) (v : Value) (zs : List J3) (w : World) (r : JnIn lo hi w v (markJn 1 zs.length)) :
    Calls Try.prog 24 #[v, .int .i64 1] w fun e w' => e = .returned (.int .i64 (mkJ zs)) ∧ w' = w :=
  HeldJnS_any lo hi v zs.length 1 w r (by omega)

end Go.Proofs.Ytboahceibeeifaa
