/- Rows of cells, and blocks: marked, and held against the marks. Rows of joins: marked, and held against the marks. Rows of patchs: what a slice of them holds. -/
import Derived.Test.YtlkiacgpiodkiaaM03
import Derived.Test.YtlkiacgpiodkiaaM02
import Derived.Test.YtlkiacgpiodkiaaRows
import Derived.Test.YtlkiacgpiodkiaaM00
import Derived.WalkKit
import Derived.Lib.Hide

set_option linter.unusedSimpArgs false
set_option linter.unusedVariables false
namespace Go.Proofs.Ytlkiacgpiodkiaa
open Go.ChangeShapes Go.WideShapes Go.ChangeAt Go.RowKit

theorem CellIn.within {lo hi l2 h2 : Nat} {u w : World} {v : Value} {xs : List C3} (r : CellIn l2 h2 u v xs) (h : Within lo hi u w) (ho : h2 ≤ lo ∨ hi ≤ l2) (hh : h2 ≤ u.heap.size) : CellIn l2 h2 w v xs := by
  obtain ⟨hl, r | ⟨g, cap, hv, hg, hlt, hc⟩⟩ := r
  · exact ⟨hl, .inl r⟩
  · refine ⟨hl, .inr ⟨g, cap, hv, hg, hlt, fun i hi => ?_⟩⟩
    have hb : w.heap[g]? = u.heap[g]? := h.block g (by omega) (by omega)
    obtain ⟨⟨e0, e1, e2⟩, f0, f1, f2⟩ := hc i hi
    exact ⟨⟨(World.cell?_of_block (w := u) hb).trans e0, (World.cell?_of_block (w := u) hb).trans e1, (World.cell?_of_block (w := u) hb).trans e2⟩,
      (World.frozen?_of_block (w := u) hb).trans f0, (World.frozen?_of_block (w := u) hb).trans f1, (World.frozen?_of_block (w := u) hb).trans f2⟩

/-- The marks from k on. -/
def markC (k n : Nat) : List C3 := (List.range n).map fun i => ⟨((k + 3 * i : Nat) : Int), ((k + 3 * i + 1 : Nat) : Int), ((k + 3 * i + 2 : Nat) : Int)⟩
theorem markC_length (k n : Nat) : (markC k n).length = n := by simp [markC]
theorem markC_at {k n i : Nat} (h : i < n) : (markC k n).getD i C3.zero = ⟨((k + 3 * i : Nat) : Int), ((k + 3 * i + 1 : Nat) : Int), ((k + 3 * i + 2 : Nat) : Int)⟩ := by simp [markC, List.getD, h]

end Go.Proofs.Ytlkiacgpiodkiaa

set_option linter.unusedSimpArgs false
set_option linter.unusedVariables false
namespace Go.Proofs.Ytlkiacgpiodkiaa
open Go.ChangeShapes Go.WideShapes Go.ChangeAt Go.RowKit

theorem JnIn.within {lo hi l2 h2 : Nat} {u w : World} {v : Value} {xs : List J3} (r : JnIn l2 h2 u v xs) (h : Within lo hi u w) (ho : h2 ≤ lo ∨ hi ≤ l2) (hh : h2 ≤ u.heap.size) : JnIn l2 h2 w v xs := by
  obtain ⟨hl, r | ⟨g, cap, hv, hcp, hg, hlt, hc⟩⟩ := r
  · exact ⟨hl, .inl r⟩
  · refine ⟨hl, .inr ⟨g, cap, hv, hcp, hg, hlt, fun i hi => ?_⟩⟩
    have hb : w.heap[g]? = u.heap[g]? := h.block g (by omega) (by omega)
    obtain ⟨⟨e0, e1, e2⟩, f0, f1, f2⟩ := hc i hi
    exact ⟨⟨(World.cell?_of_block (w := u) hb).trans e0, (World.cell?_of_block (w := u) hb).trans e1, (World.cell?_of_block (w := u) hb).trans e2⟩,
      (World.frozen?_of_block (w := u) hb).trans f0, (World.frozen?_of_block (w := u) hb).trans f1, (World.frozen?_of_block (w := u) hb).trans f2⟩

/-- The marks from k on. -/
def markJn (k n : Nat) : List J3 := (List.range n).map fun i => ⟨decide ((k : Int).tmod 3 = 0), ((k + 3 * i + 1 : Nat) : Int), ((k + 3 * i + 2 : Nat) : Int)⟩
theorem markJn_length (k n : Nat) : (markJn k n).length = n := by simp [markJn]
theorem markJn_at {k n i : Nat} (h : i < n) : (markJn k n).getD i J3.zero = ⟨decide ((k : Int).tmod 3 = 0), ((k + 3 * i + 1 : Nat) : Int), ((k + 3 * i + 2 : Nat) : Int)⟩ := by simp [markJn, List.getD, h]

set_option maxHeartbeats 800000 in
theorem MarkJnS_any (lo hi : Nat) (v : Value) (xs : List J3) (k : Nat) (w : World) (r : JnIn lo hi w v xs) (hk1 : k ≤ 100000000) :
    Calls Try.prog 25 #[v, .int .i64 k] w fun e w' => e = .returned (.int .i64 ((k + 3 * xs.length : Nat) : Int)) ∧ JnIn lo hi w' v (markJn k xs.length) ∧ Within lo hi w w' := by
  obtain ⟨a1, c1, rfl⟩ := r.form
  have R := Lib.hid r
  have hl := r.1
  clear r
  go_enter Try.func25, Try.ntmps25
  go_wp2_with fail
  go_loopw [1, 5] (fun q i wr => ∃ (m : Nat) (ys : List J3), m ≤ xs.length ∧ i = .int .i64 m ∧ q = .int .i64 ((k + 3 * m : Nat) : Int) ∧ Hid (UpJn m (markJn k xs.length) ys) ∧ Hid (JnIn lo hi wr (.slice a1 xs.length c1) ys) ∧ Within lo hi w wr) (fun _ i _ => xs.length - (intOf i).toNat)
  case atStart => exact ⟨0, xs, Nat.zero_le _, rfl, rfl, ⟨by simp [markJn], fun i hi => by omega⟩, R.out, Within.refl _ _ _⟩
  case round =>
    obtain ⟨m, ys, hm, rfl, rfl, hup, hin, hbel⟩ := hrel
    by_cases hlt : m < xs.length
    · have hyl : ys.length = xs.length := by have := hup.out.1; rw [markJn_length] at this; exact this
      obtain ⟨g, rfl, hg, hg1, ⟨e0, e1, e2⟩, f0, f1, f2⟩ := hin.out.at (Below.refl _ _) (i := m) (by omega)
      have HN := Lib.hid (hin.out.set m (by omega) (decide ((k : Int).tmod 3 = 0)) ((k + 3 * m + 1 : Nat) : Int) ((k + 3 * m + 2 : Nat) : Int))
      have HU := Lib.hid (hup.out.set (c := ⟨decide ((k : Int).tmod 3 = 0), ((k + 3 * m + 1 : Nat) : Int), ((k + 3 * m + 2 : Nat) : Int)⟩) (by rw [markJn_length]; exact hlt) (markJn_at hlt).symm)
      have HB := Lib.hid (Within.setCell (Within.setCell (Within.setCell hbel (p := ⟨g, m * 3, none⟩) hg hg1 (.bool (decide ((k : Int).tmod 3 = 0)))) (p := ⟨g, m * 3 + 1, none⟩) hg hg1 (.int .i64 ((k + 3 * m + 1 : Nat) : Int))) (p := ⟨g, m * 3 + 2, none⟩) hg hg1 (.int .i64 ((k + 3 * m + 2 : Nat) : Int)))
      generalize ys.getD m J3.zero = y at e0 e1 e2
      clear hbel hup hin
      go_wp2_with fail
      go_roundw
      case rel => exact ⟨m + 1, _, by omega, by go_num, by go_num, HU, HN, HB.out⟩
      case measure => simp [intOf] <;> omega
    · obtain rfl : m = xs.length := by omega
      go_wp2_with fail
      go_ret
      refine ⟨rfl, ?_, hbel⟩
      have h1 := hup.out
      have h2 : ys = markJn k xs.length := UpJn.all (by rw [markJn_length]; exact h1)
      rw [← h2]; exact hin.out

end Go.Proofs.Ytlkiacgpiodkiaa

set_option linter.unusedSimpArgs false
set_option linter.unusedVariables false
namespace Go.Proofs.Ytlkiacgpiodkiaa
open Go.ChangeShapes Go.WideShapes Go.ChangeAt Go.RowKit

structure P5 where
  x : Int
  y : Int
  w : Int
  h : Int
  c : Int
theorem P5.ext' {x y : P5} (h0 : x.x = y.x) (h1 : x.y = y.y) (h2 : x.w = y.w) (h3 : x.h = y.h) (h4 : x.c = y.c) : x = y := by cases x; cases y; simp_all
/-- As a value. -/
def P5.v (c : P5) : Value := .agg #[.int .i64 c.x, .int .i64 c.y, .int .i64 c.w, .int .i64 c.h, .int .i64 c.c]
def P5.zero : P5 := ⟨0, 0, 0, 0, 0⟩
/-- Its numbers are int64s. -/
def P5.Wf (c : P5) : Prop := (Lit.int .i64 c.x).wf = true ∧ (Lit.int .i64 c.y).wf = true ∧ (Lit.int .i64 c.w).wf = true ∧ (Lit.int .i64 c.h).wf = true ∧ (Lit.int .i64 c.c).wf = true
instance : Inhabited P5 := ⟨P5.zero⟩

/-- Element number i of a row at block g holds c. -/
def ElPat (w : World) (g i : Nat) (c : P5) : Prop :=
  w.cell? ⟨g, i * 5, none⟩ = some (.int .i64 c.x) ∧ w.cell? ⟨g, i * 5 + 1, none⟩ = some (.int .i64 c.y) ∧ w.cell? ⟨g, i * 5 + 2, none⟩ = some (.int .i64 c.w) ∧ w.cell? ⟨g, i * 5 + 3, none⟩ = some (.int .i64 c.h) ∧ w.cell? ⟨g, i * 5 + 4, none⟩ = some (.int .i64 c.c)
def SoftPat (w : World) (g i : Nat) : Prop :=
  w.frozen? ⟨g, i * 5, none⟩ = false ∧ w.frozen? ⟨g, i * 5 + 1, none⟩ = false ∧ w.frozen? ⟨g, i * 5 + 2, none⟩ = false ∧ w.frozen? ⟨g, i * 5 + 3, none⟩ = false ∧ w.frozen? ⟨g, i * 5 + 4, none⟩ = false
theorem ElPat.lt {w : World} {g i : Nat} {c : P5} (h : ElPat w g i c) : g < w.heap.size := lt_of_cell h.1
theorem ElPat.below {w w' : World} {g i B : Nat} {c : P5} (h : ElPat w g i c) (hb : Below B w w') (hg : g < B) : ElPat w' g i c :=
  ⟨(hb.cell (p := ⟨g, i * 5, none⟩) hg).trans h.1, (hb.cell (p := ⟨g, i * 5 + 1, none⟩) hg).trans h.2.1, (hb.cell (p := ⟨g, i * 5 + 2, none⟩) hg).trans h.2.2.1, (hb.cell (p := ⟨g, i * 5 + 3, none⟩) hg).trans h.2.2.2.1, (hb.cell (p := ⟨g, i * 5 + 4, none⟩) hg).trans h.2.2.2.2⟩
theorem SoftPat.below {w w' : World} {g i B : Nat} (h : SoftPat w g i) (hb : Below B w w') (hg : g < B) : SoftPat w' g i :=
  ⟨(hb.frozen (p := ⟨g, i * 5, none⟩) hg).trans h.1, (hb.frozen (p := ⟨g, i * 5 + 1, none⟩) hg).trans h.2.1, (hb.frozen (p := ⟨g, i * 5 + 2, none⟩) hg).trans h.2.2.1, (hb.frozen (p := ⟨g, i * 5 + 3, none⟩) hg).trans h.2.2.2.1, (hb.frozen (p := ⟨g, i * 5 + 4, none⟩) hg).trans h.2.2.2.2⟩

/-- A slice of them in a block from lo on, below hi. -/
def PatIn (lo hi : Nat) (w : World) (v : Value) (xs : List P5) : Prop :=
  xs.length ≤ 1048576 ∧ ((xs = [] ∧ ∃ a c, v = .slice a 0 c) ∨
    ∃ g cap, v = .slice (some ⟨g, 0, none⟩) xs.length cap ∧ xs.length ≤ cap ∧ lo ≤ g ∧ g < hi ∧ ∀ i, i < xs.length → ElPat w g i (xs.getD i P5.zero) ∧ SoftPat w g i)
theorem PatIn.below {lo hi : Nat} {w w' : World} {v : Value} {xs : List P5} (h : PatIn lo hi w v xs) (hb : Below hi w w') : PatIn lo hi w' v xs := by
  obtain ⟨hl, h | ⟨g, cap, hv, hcp, hg, hlt, hc⟩⟩ := h
  · exact ⟨hl, .inl h⟩
  · exact ⟨hl, .inr ⟨g, cap, hv, hcp, hg, hlt, fun i hi => ⟨(hc i hi).1.below hb hlt, (hc i hi).2.below hb hlt⟩⟩⟩
theorem PatIn.wide {lo hi lo' hi' : Nat} {w : World} {v : Value} {xs : List P5} (h : PatIn lo hi w v xs) (h1 : lo' ≤ lo) (h2 : hi ≤ hi') : PatIn lo' hi' w v xs := by
  obtain ⟨hl, h | ⟨g, cap, hv, hcp, hg, hlt, hc⟩⟩ := h
  · exact ⟨hl, .inl h⟩
  · exact ⟨hl, .inr ⟨g, cap, hv, hcp, by omega, by omega, hc⟩⟩
/-- Its shape. -/
theorem PatIn.form {lo hi : Nat} {w : World} {v : Value} {xs : List P5} (h : PatIn lo hi w v xs) : ∃ a cap, v = .slice a xs.length cap := by
  obtain ⟨_, ⟨rfl, a, c, hv⟩ | ⟨g, cap, hv, _⟩⟩ := h
  · exact ⟨a, c, hv⟩
  · exact ⟨_, _, hv⟩
/-- Element i, at a world in which only new blocks have come. -/
theorem PatIn.at {lo hi : Nat} {w w' : World} {a : Option Addr} {n cap : Nat} {xs : List P5} (h : PatIn lo hi w (.slice a n cap) xs) (hb : Below hi w w') {i : Nat} (hi' : i < xs.length) :
    ∃ g, a = some ⟨g, 0, none⟩ ∧ lo ≤ g ∧ g < hi ∧ ElPat w' g i (xs.getD i P5.zero) ∧ SoftPat w' g i := by
  obtain ⟨_, ⟨rfl, _⟩ | ⟨g, cap, hv, hcp, hg, hlt, hc⟩⟩ := h
  · simp at hi'
  · simp only [Value.slice.injEq] at hv
    exact ⟨g, hv.1, hg, hlt, (hc i hi').1.below hb hlt, (hc i hi').2.below hb hlt⟩
/-- It may be cut as far as it is long. -/
theorem PatIn.cap {lo hi : Nat} {w : World} {a : Option Addr} {n cap : Nat} {xs : List P5} (h : PatIn lo hi w (.slice a n cap) xs) : n ≤ cap := by
  obtain ⟨_, ⟨rfl, a', c', hv⟩ | ⟨g, cap', hv, hcp, _⟩⟩ := h
  · simp only [Value.slice.injEq] at hv; omega
  · simp only [Value.slice.injEq] at hv; omega
/-- Its first k elements. -/
theorem PatIn.take {lo hi g : Nat} {w : World} {n cap : Nat} {xs : List P5} (h : PatIn lo hi w (.slice (some ⟨g, 0, none⟩) n cap) xs) (k : Nat) (hk : k ≤ xs.length) : PatIn lo hi w (.slice (some ⟨g, 0, none⟩) k cap) (xs.take k) := by
  obtain ⟨hl, ⟨h, _⟩ | ⟨g', cap', hv, hcp, hg, hlt, hc⟩⟩ := h
  · subst h
    simp at hk
    subst hk
    exact ⟨by simp, .inl ⟨by simp, _, _, rfl⟩⟩
  · simp only [Value.slice.injEq, Option.some.injEq, Addr.mk.injEq, and_true] at hv
    obtain ⟨rfl, _, rfl⟩ := hv
    have e : (xs.take k).length = k := by simp; omega
    refine ⟨by omega, .inr ⟨g, cap, by rw [e], by omega, hg, hlt, fun i hi => ?_⟩⟩
    have := hc i (by omega)
    rwa [show (xs.take k).getD i P5.zero = xs.getD i P5.zero by simp [List.getD, show i < k by omega]]

end Go.Proofs.Ytlkiacgpiodkiaa
