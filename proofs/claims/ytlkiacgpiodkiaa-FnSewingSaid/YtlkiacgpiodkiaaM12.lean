/- Rows of integers: what a slice of ints holds. Rows of Booleans; a relation of worlds: only some blocks are changed. Rows of cuts: an element stored; a row that is owned. -/
import Derived.Test.YtlkiacgpiodkiaaRows
import Derived.Test.YtlkiacgpiodkiaaM00
import Derived.WalkKit
import Derived.Lib.Hide
import Derived.Laws.OwnMore
import Derived.Test.YtlkiacgpiodkiaaM03
import Derived.Test.YtlkiacgpiodkiaaM09
import Derived.Test.YtlkiacgpiodkiaaM01

set_option linter.unusedSimpArgs false
set_option linter.unusedVariables false
namespace Go.Proofs.Ytlkiacgpiodkiaa
open Go.ChangeShapes Go.WideShapes Go.ChangeAt Go.RowKit

/-- A slice of ints in a block from lo on, below hi. -/
def IntIn (lo hi : Nat) (w : World) (v : Value) (zs : List Int) : Prop :=
  zs.length ≤ 1048576 ∧ ((zs = [] ∧ ∃ a c, v = .slice a 0 c) ∨
    ∃ g cap, v = .slice (some ⟨g, 0, none⟩) zs.length cap ∧ lo ≤ g ∧ g < hi ∧ ∀ i, i < zs.length → w.cell? ⟨g, i, none⟩ = some (.int .i64 (zs.getD i 0)) ∧ w.frozen? ⟨g, i, none⟩ = false)
theorem IntIn.below {lo hi : Nat} {w w' : World} {v : Value} {zs : List Int} (h : IntIn lo hi w v zs) (hb : Below hi w w') : IntIn lo hi w' v zs := by
  obtain ⟨hl, h | ⟨g, cap, hv, hg, hlt, hc⟩⟩ := h
  · exact ⟨hl, .inl h⟩
  · exact ⟨hl, .inr ⟨g, cap, hv, hg, hlt, fun i hi => ⟨(hb.cell (p := ⟨g, i, none⟩) hlt).trans (hc i hi).1, (hb.frozen (p := ⟨g, i, none⟩) hlt).trans (hc i hi).2⟩⟩⟩
theorem IntIn.wide {lo hi lo' hi' : Nat} {w : World} {v : Value} {zs : List Int} (h : IntIn lo hi w v zs) (h1 : lo' ≤ lo) (h2 : hi ≤ hi') : IntIn lo' hi' w v zs := by
  obtain ⟨hl, h | ⟨g, cap, hv, hg, hlt, hc⟩⟩ := h
  · exact ⟨hl, .inl h⟩
  · exact ⟨hl, .inr ⟨g, cap, hv, by omega, by omega, hc⟩⟩
theorem IntIn.form {lo hi : Nat} {w : World} {v : Value} {zs : List Int} (h : IntIn lo hi w v zs) : ∃ a cap, v = .slice a zs.length cap := by
  obtain ⟨_, ⟨rfl, a, c, hv⟩ | ⟨g, cap, hv, _⟩⟩ := h
  · exact ⟨a, c, hv⟩
  · exact ⟨_, _, hv⟩
theorem IntIn.at {lo hi : Nat} {w w' : World} {a : Option Addr} {n cap : Nat} {zs : List Int} (h : IntIn lo hi w (.slice a n cap) zs) (hb : Below hi w w') {i : Nat} (hi' : i < zs.length) :
    ∃ g, a = some ⟨g, 0, none⟩ ∧ lo ≤ g ∧ g < hi ∧ w'.cell? ⟨g, i, none⟩ = some (.int .i64 (zs.getD i 0)) ∧ w'.frozen? ⟨g, i, none⟩ = false := by
  obtain ⟨_, ⟨rfl, _⟩ | ⟨g, cap, hv, hg, hlt, hc⟩⟩ := h
  · simp at hi'
  · simp only [Value.slice.injEq] at hv
    exact ⟨g, hv.1, hg, hlt, (hb.cell (p := ⟨g, i, none⟩) hlt).trans (hc i hi').1, (hb.frozen (p := ⟨g, i, none⟩) hlt).trans (hc i hi').2⟩
theorem IntIn.set {lo hi g n cap : Nat} {w : World} {zs : List Int} (h : IntIn lo hi w (.slice (some ⟨g, 0, none⟩) n cap) zs) (j : Nat) (hj : j < zs.length) (z : Int) :
    IntIn lo hi (w.setCell ⟨g, j, none⟩ (.int .i64 z)) (.slice (some ⟨g, 0, none⟩) n cap) (zs.set j z) := by
  obtain ⟨hl, ⟨h, _⟩ | ⟨g', cap', hv, hg, hlt, hc⟩⟩ := h
  · subst h; simp at hj
  · simp only [Value.slice.injEq, Option.some.injEq, Addr.mk.injEq, and_true] at hv
    obtain ⟨rfl, rfl, rfl⟩ := hv
    refine ⟨by simpa using hl, .inr ⟨g, cap, by simp, hg, hlt, fun i hi => ?_⟩⟩
    rw [List.length_set] at hi
    obtain ⟨h1, h2⟩ := hc i hi
    refine ⟨?_, by rw [World.frozen?_setCell]; exact h2⟩
    by_cases e : i = j
    · subst e
      rw [World.cell?_setCell_same _ _ _ h1]
      simp [List.getD, hi]
    · rw [World.cell?_setCell_other _ _ _ _ (by simp <;> omega), h1]
      simp [List.getD, Ne.symm e]
theorem IntIn.set_far {lo hi : Nat} {w : World} {v : Value} {zs : List Int} (h : IntIn lo hi w v zs) {p : Addr} (hp : p.block < lo) (x : Value) : IntIn lo hi (w.setCell p x) v zs := by
  obtain ⟨hl, h | ⟨g, cap, hv, hg, hlt, hc⟩⟩ := h
  · exact ⟨hl, .inl h⟩
  · refine ⟨hl, .inr ⟨g, cap, hv, hg, hlt, fun i hi => ⟨?_, by rw [World.frozen?_setCell]; exact (hc i hi).2⟩⟩⟩
    have hn : p ≠ ⟨g, i, none⟩ := fun e => by rw [e] at hp; simp at hp; omega
    rw [World.cell?_setCell_other _ _ _ _ hn]; exact (hc i hi).1

/-- A list of ints as values. -/
def ivals (zs : List Int) : List Value := zs.map (.int .i64 ·)
theorem lt_of_heapI {w : World} {g : Nat} {o : Obj} (h : w.heap[g]? = some o) : g < w.heap.size := (Array.getElem?_eq_some_iff.1 h).1
theorem IntIn.of_owns {w : World} {base e : Nat} {v : Value} {zs : List Int} (h : w.ownsRow base e 1 v zs.length (ivals zs)) (hl : zs.length ≤ 1048576) : IntIn base w.heap.size w v zs := by
  refine ⟨hl, ?_⟩
  have h0 := h
  obtain ⟨_, ⟨h1, h2⟩ | ⟨g, cap, cur, hv, hg, hh, _⟩⟩ := h
  · exact .inl ⟨List.length_eq_zero_iff.1 h2, none, 0, h1⟩
  · subst hv
    refine .inr ⟨g, cap, rfl, hg, lt_of_heapI hh, fun i hi => ⟨?_, h0.frozenAt i⟩⟩
    rw [h0.cellAt i (by omega)]
    simp [ivals, List.getD, hi]
/-- A new row of ints is handed back. -/
def FreshI (zs : List Int) (w : World) (e : Ending) (w' : World) : Prop := ∃ v, e = .returned v ∧ IntIn w.heap.size w'.heap.size w' v zs ∧ Below w.heap.size w w'

/-- The first k elements are those of the list. -/
def UpToI (k : Nat) (xs ys : List Int) : Prop := ys.length = xs.length ∧ ∀ i, i < k → ys.getD i 0 = xs.getD i 0
theorem UpToI.set {k : Nat} {xs ys : List Int} (h : UpToI k xs ys) (hk : k < xs.length) {c : Int} (hc : c = xs.getD k 0) : UpToI (k + 1) xs (ys.set k c) := by
  obtain ⟨h1, h2⟩ := h
  refine ⟨by simpa using h1, fun i hi => ?_⟩
  by_cases e : i = k
  · subst e; simp [List.getD, h1, hk] at hc ⊢; exact hc
  · have := h2 i (by omega)
    simpa [List.getD, List.getElem?_set, e, Ne.symm e] using this
theorem UpToI.all {xs ys : List Int} (h : UpToI xs.length xs ys) : ys = xs := by
  obtain ⟨h1, h2⟩ := h
  apply List.ext_getElem h1
  intro i a b
  have := h2 i b
  simpa [List.getD, a, b] using this

/-- The marks from k on. -/
def markI (k n : Nat) : List Int := (List.range n).map fun i => ((k + i : Nat) : Int)
theorem markI_length (k n : Nat) : (markI k n).length = n := by simp [markI]
theorem markI_at {k n i : Nat} (h : i < n) : (markI k n).getD i 0 = ((k + i : Nat) : Int) := by simp [markI, List.getD, h]

end Go.Proofs.Ytlkiacgpiodkiaa

set_option linter.unusedSimpArgs false
set_option linter.unusedVariables false
namespace Go.Proofs.Ytlkiacgpiodkiaa
open Go.ChangeShapes Go.WideShapes Go.ChangeAt Go.RowKit

/-- A slice of Booleans in a block from lo on, below hi. -/
def BoolIn (lo hi : Nat) (w : World) (v : Value) (zs : List Bool) : Prop :=
  zs.length ≤ 1048576 ∧ ((zs = [] ∧ ∃ a c, v = .slice a 0 c) ∨
    ∃ g cap, v = .slice (some ⟨g, 0, none⟩) zs.length cap ∧ lo ≤ g ∧ g < hi ∧ ∀ i, i < zs.length → w.cell? ⟨g, i, none⟩ = some (.bool (zs.getD i false)) ∧ w.frozen? ⟨g, i, none⟩ = false)
theorem BoolIn.below {lo hi : Nat} {w w' : World} {v : Value} {zs : List Bool} (h : BoolIn lo hi w v zs) (hb : Below hi w w') : BoolIn lo hi w' v zs := by
  obtain ⟨hl, h | ⟨g, cap, hv, hg, hlt, hc⟩⟩ := h
  · exact ⟨hl, .inl h⟩
  · exact ⟨hl, .inr ⟨g, cap, hv, hg, hlt, fun i hi => ⟨(hb.cell (p := ⟨g, i, none⟩) hlt).trans (hc i hi).1, (hb.frozen (p := ⟨g, i, none⟩) hlt).trans (hc i hi).2⟩⟩⟩
theorem BoolIn.wide {lo hi lo' hi' : Nat} {w : World} {v : Value} {zs : List Bool} (h : BoolIn lo hi w v zs) (h1 : lo' ≤ lo) (h2 : hi ≤ hi') : BoolIn lo' hi' w v zs := by
  obtain ⟨hl, h | ⟨g, cap, hv, hg, hlt, hc⟩⟩ := h
  · exact ⟨hl, .inl h⟩
  · exact ⟨hl, .inr ⟨g, cap, hv, by omega, by omega, hc⟩⟩
theorem BoolIn.form {lo hi : Nat} {w : World} {v : Value} {zs : List Bool} (h : BoolIn lo hi w v zs) : ∃ a cap, v = .slice a zs.length cap := by
  obtain ⟨_, ⟨rfl, a, c, hv⟩ | ⟨g, cap, hv, _⟩⟩ := h
  · exact ⟨a, c, hv⟩
  · exact ⟨_, _, hv⟩
theorem BoolIn.at {lo hi : Nat} {w w' : World} {a : Option Addr} {n cap : Nat} {zs : List Bool} (h : BoolIn lo hi w (.slice a n cap) zs) (hb : Below hi w w') {i : Nat} (hi' : i < zs.length) :
    ∃ g, a = some ⟨g, 0, none⟩ ∧ lo ≤ g ∧ g < hi ∧ w'.cell? ⟨g, i, none⟩ = some (.bool (zs.getD i false)) ∧ w'.frozen? ⟨g, i, none⟩ = false := by
  obtain ⟨_, ⟨rfl, _⟩ | ⟨g, cap, hv, hg, hlt, hc⟩⟩ := h
  · simp at hi'
  · simp only [Value.slice.injEq] at hv
    exact ⟨g, hv.1, hg, hlt, (hb.cell (p := ⟨g, i, none⟩) hlt).trans (hc i hi').1, (hb.frozen (p := ⟨g, i, none⟩) hlt).trans (hc i hi').2⟩
theorem BoolIn.set {lo hi g n cap : Nat} {w : World} {zs : List Bool} (h : BoolIn lo hi w (.slice (some ⟨g, 0, none⟩) n cap) zs) (j : Nat) (hj : j < zs.length) (z : Bool) :
    BoolIn lo hi (w.setCell ⟨g, j, none⟩ (.bool z)) (.slice (some ⟨g, 0, none⟩) n cap) (zs.set j z) := by
  obtain ⟨hl, ⟨h, _⟩ | ⟨g', cap', hv, hg, hlt, hc⟩⟩ := h
  · subst h; simp at hj
  · simp only [Value.slice.injEq, Option.some.injEq, Addr.mk.injEq, and_true] at hv
    obtain ⟨rfl, rfl, rfl⟩ := hv
    refine ⟨by simpa using hl, .inr ⟨g, cap, by simp, hg, hlt, fun i hi => ?_⟩⟩
    rw [List.length_set] at hi
    obtain ⟨h1, h2⟩ := hc i hi
    refine ⟨?_, by rw [World.frozen?_setCell]; exact h2⟩
    by_cases e : i = j
    · subst e
      rw [World.cell?_setCell_same _ _ _ h1]
      simp [List.getD, hi]
    · rw [World.cell?_setCell_other _ _ _ _ (by simp <;> omega), h1]
      simp [List.getD, Ne.symm e]
theorem BoolIn.set_far {lo hi : Nat} {w : World} {v : Value} {zs : List Bool} (h : BoolIn lo hi w v zs) {p : Addr} (hp : p.block < lo) (x : Value) : BoolIn lo hi (w.setCell p x) v zs := by
  obtain ⟨hl, h | ⟨g, cap, hv, hg, hlt, hc⟩⟩ := h
  · exact ⟨hl, .inl h⟩
  · refine ⟨hl, .inr ⟨g, cap, hv, hg, hlt, fun i hi => ⟨?_, by rw [World.frozen?_setCell]; exact (hc i hi).2⟩⟩⟩
    have hn : p ≠ ⟨g, i, none⟩ := fun e => by rw [e] at hp; simp at hp; omega
    rw [World.cell?_setCell_other _ _ _ _ hn]; exact (hc i hi).1

/-- A list of Booleans as values. -/
def bvals (zs : List Bool) : List Value := zs.map (.bool ·)
theorem lt_of_heapB {w : World} {g : Nat} {o : Obj} (h : w.heap[g]? = some o) : g < w.heap.size := (Array.getElem?_eq_some_iff.1 h).1
theorem BoolIn.of_owns {w : World} {base e : Nat} {v : Value} {zs : List Bool} (h : w.ownsRow base e 1 v zs.length (bvals zs)) (hl : zs.length ≤ 1048576) : BoolIn base w.heap.size w v zs := by
  refine ⟨hl, ?_⟩
  have h0 := h
  obtain ⟨_, ⟨h1, h2⟩ | ⟨g, cap, cur, hv, hg, hh, _⟩⟩ := h
  · exact .inl ⟨List.length_eq_zero_iff.1 h2, none, 0, h1⟩
  · subst hv
    refine .inr ⟨g, cap, rfl, hg, lt_of_heapB hh, fun i hi => ⟨?_, h0.frozenAt i⟩⟩
    rw [h0.cellAt i (by omega)]
    simp [bvals, List.getD, hi]
theorem BoolIn.zero {w : World} {b e n : Nat} {v : Value} (h : w.ownsRow b e 1 v n (madeCells (Value.bool false).cells (n * 1)).toList) (hn : n ≤ 1048576) : BoolIn b w.heap.size w v (List.replicate n false) := by
  have e : (madeCells (Value.bool false).cells (n * 1)).toList = bvals (List.replicate n false) := by
    apply List.ext_getElem?
    intro i
    by_cases hi : i < n
    · simp [madeCells, Value.cells, bvals, hi, Nat.mod_one]
    · simp [madeCells, Value.cells, bvals, hi]
  rw [e] at h
  exact BoolIn.of_owns (by rw [List.length_replicate]; exact h) (by simpa using hn)

/-- Only blocks with this property are changed. -/
structure Only (S : Nat → Prop) (u w : World) : Prop where
  os : w.os = u.os
  tape : w.tape = u.tape
  output : w.output = u.output
  size : u.heap.size ≤ w.heap.size
  block : ∀ k, k < u.heap.size → ¬ S k → w.heap[k]? = u.heap[k]?
theorem Only.refl (S : Nat → Prop) (w : World) : Only S w w := ⟨rfl, rfl, rfl, Nat.le_refl _, fun _ _ _ => rfl⟩
theorem Only.trans {S : Nat → Prop} {u v w : World} (h : Only S u v) (k : Only S v w) : Only S u w :=
  ⟨k.os.trans h.os, k.tape.trans h.tape, k.output.trans h.output, Nat.le_trans h.size k.size, fun i hi hs => (k.block i (Nat.lt_of_lt_of_le hi h.size) hs).trans (h.block i hi hs)⟩
theorem Only.mono {S T : Nat → Prop} {u w : World} (h : Only S u w) (hs : ∀ k, k < u.heap.size → S k → T k) : Only T u w :=
  ⟨h.os, h.tape, h.output, h.size, fun k hk hn => h.block k hk fun h => hn (hs k hk h)⟩
/-- What is changed behind counts only below what was there. -/
theorem Only.next {S T : Nat → Prop} {u v w : World} (h : Only S u v) (k : Only T v w) (hs : ∀ i, i < u.heap.size → T i → S i) : Only S u w :=
  ⟨k.os.trans h.os, k.tape.trans h.tape, k.output.trans h.output, Nat.le_trans h.size k.size, fun i hi hn => (k.block i (Nat.lt_of_lt_of_le hi h.size) fun h => hn (hs i hi h)).trans (h.block i hi hn)⟩
theorem Only.of_below {S : Nat → Prop} {u w : World} (h : Below u.heap.size u w) : Only S u w := ⟨h.os, h.tape, h.output, h.size, fun k hk _ => h.block k hk⟩
theorem Only.below {S : Nat → Prop} {B : Nat} {u w : World} (h : Only S u w) (hs : ∀ k, S k → B ≤ k) (hB : B ≤ u.heap.size) : Below B u w :=
  ⟨h.os, h.tape, h.output, h.size, fun k hk => h.block k (Nat.lt_of_lt_of_le hk hB) fun h => Nat.lt_irrefl _ (Nat.lt_of_le_of_lt (hs k h) hk)⟩
theorem Only.within {S : Nat → Prop} {lo hi : Nat} {u w : World} (h : Only S u w) (hs : ∀ k, S k → lo ≤ k ∧ k < hi) : Within lo hi u w :=
  ⟨h.os, h.tape, h.output, h.size, fun k hk ho => h.block k hk fun h => by have := hs k h; omega⟩
theorem Only.of_within {lo hi : Nat} {u w : World} (h : Within lo hi u w) : Only (fun k => lo ≤ k ∧ k < hi) u w :=
  ⟨h.os, h.tape, h.output, h.size, fun k hk hn => h.block k hk (by omega)⟩
theorem Only.setCell {S : Nat → Prop} {u w : World} (h : Only S u w) {p : Addr} (hp : p.block < u.heap.size → S p.block) (v : Value) : Only S u (w.setCell p v) :=
  ⟨h.os, h.tape, h.output, by simp [World.setCell]; exact h.size, fun k hk hn => by
    rw [Below.heap_setCell _ _ _ _ (fun e => by subst e; exact hn (hp hk))]; exact h.block k hk hn⟩
theorem Only.cell {S : Nat → Prop} {u w : World} (h : Only S u w) {p : Addr} {x : Value} (hc : u.cell? p = some x) (hn : ¬ S p.block) : w.cell? p = some x :=
  (World.cell?_of_block (w := u) (h.block p.block (lt_of_cell hc) hn)).trans hc
/-- A row that is owned and is not among what is changed. -/
theorem owO {S : Nat → Prop} {u w : World} {b e size n : Nat} {v : Value} {xs : List Value} (h : u.ownsRow b e size v n xs) (k : Only S u w) (hn : ∀ g, v.ownBlock = some g → ¬ S g) : w.ownsRow b e size v n xs := by
  obtain ⟨h1, h2 | ⟨g, cap, cur, hv, hg, hh, r⟩⟩ := h
  · exact ⟨h1, .inl h2⟩
  · exact ⟨h1, .inr ⟨g, cap, cur, hv, hg, by rw [k.block g (lt_of_heapB hh) (hn g (by rw [hv]; rfl))]; exact hh, r⟩⟩
theorem IntIn.only {S : Nat → Prop} {lo hi : Nat} {u w : World} {v : Value} {zs : List Int} (r : IntIn lo hi u v zs) (h : Only S u w) (hn : ∀ k, lo ≤ k → k < hi → ¬ S k) (hh : hi ≤ u.heap.size) : IntIn lo hi w v zs := by
  obtain ⟨hl, r | ⟨g, cap, hv, hg, hlt, hc⟩⟩ := r
  · exact ⟨hl, .inl r⟩
  · refine ⟨hl, .inr ⟨g, cap, hv, hg, hlt, fun i hi => ?_⟩⟩
    have hb : w.heap[g]? = u.heap[g]? := h.block g (Nat.lt_of_lt_of_le hlt hh) (hn g hg hlt)
    exact ⟨(World.cell?_of_block (w := u) hb).trans (hc i hi).1, (World.frozen?_of_block (w := u) hb).trans (hc i hi).2⟩
theorem BoolIn.only {S : Nat → Prop} {lo hi : Nat} {u w : World} {v : Value} {zs : List Bool} (r : BoolIn lo hi u v zs) (h : Only S u w) (hn : ∀ k, lo ≤ k → k < hi → ¬ S k) (hh : hi ≤ u.heap.size) : BoolIn lo hi w v zs := by
  obtain ⟨hl, r | ⟨g, cap, hv, hg, hlt, hc⟩⟩ := r
  · exact ⟨hl, .inl r⟩
  · refine ⟨hl, .inr ⟨g, cap, hv, hg, hlt, fun i hi => ?_⟩⟩
    have hb : w.heap[g]? = u.heap[g]? := h.block g (Nat.lt_of_lt_of_le hlt hh) (hn g hg hlt)
    exact ⟨(World.cell?_of_block (w := u) hb).trans (hc i hi).1, (World.frozen?_of_block (w := u) hb).trans (hc i hi).2⟩
/-- The row's one block. -/
theorem BoolIn.one {lo hi : Nat} {w : World} {v : Value} {zs : List Bool} (h : BoolIn lo hi w v zs) (hne : zs ≠ []) : ∃ g, lo ≤ g ∧ g < hi ∧ BoolIn g (g + 1) w v zs := by
  obtain ⟨hl, ⟨h, _⟩ | ⟨g, cap, hv, hg, hlt, hc⟩⟩ := h
  · exact absurd h hne
  · exact ⟨g, hg, hlt, hl, .inr ⟨g, cap, hv, Nat.le_refl _, Nat.lt_succ_self _, hc⟩⟩
end Go.Proofs.Ytlkiacgpiodkiaa

set_option linter.unusedSimpArgs false
set_option linter.unusedVariables false
namespace Go.Proofs.Ytlkiacgpiodkiaa
open Go.ChangeShapes Go.WideShapes Go.ChangeAt Go.RowKit

abbrev setCut (w : World) (g j : Nat) (v0 : Bool) (v1 : Int) : World := ((w.setCell ⟨g, j * 2, none⟩ (.bool v0)).setCell ⟨g, j * 2 + 1, none⟩ (.int .i64 v1))
theorem ElCut.set_same {w : World} {g j : Nat} {c : C2} (h : ElCut w g j c) (v0 : Bool) (v1 : Int) : ElCut (setCut w g j v0 v1) g j ⟨v0, v1⟩ := by
  obtain ⟨h0, h1⟩ := h
  refine ⟨?_, ?_⟩
  · rw [World.cell?_setCell_other _ _ _ _ (ad_ne (by omega))]
    exact World.cell?_setCell_same _ _ _ (by exact h0)
  · exact World.cell?_setCell_same _ _ _ (by rw [World.cell?_setCell_other _ _ _ _ (ad_ne (by omega))]; exact h1)
theorem ElCut.set_other {w : World} {g i j : Nat} {c : C2} (h : ElCut w g i c) (hij : i ≠ j) (v0 : Bool) (v1 : Int) : ElCut (setCut w g j v0 v1) g i c := by
  obtain ⟨h0, h1⟩ := h
  refine ⟨?_, ?_⟩
  all_goals
    rw [World.cell?_setCell_other _ _ _ _ (ad_ne (by omega)), World.cell?_setCell_other _ _ _ _ (ad_ne (by omega))]
    assumption
theorem SoftCut.set {w : World} {g i j : Nat} (h : SoftCut w g i) (v0 : Bool) (v1 : Int) : SoftCut (setCut w g j v0 v1) g i := by
  obtain ⟨h0, h1⟩ := h
  refine ⟨?_, ?_⟩
  all_goals
    rw [World.frozen?_setCell, World.frozen?_setCell]
    assumption
theorem CutIn.set {lo hi g n cap : Nat} {w : World} {xs : List C2} (h : CutIn lo hi w (.slice (some ⟨g, 0, none⟩) n cap) xs) (j : Nat) (hj : j < xs.length) (v0 : Bool) (v1 : Int) :
    CutIn lo hi (setCut w g j v0 v1) (.slice (some ⟨g, 0, none⟩) n cap) (xs.set j ⟨v0, v1⟩) := by
  obtain ⟨hl, ⟨h, _⟩ | ⟨g', cap', hv, hcp, hg, hlt, hc⟩⟩ := h
  · subst h; simp at hj
  · simp only [Value.slice.injEq, Option.some.injEq, Addr.mk.injEq, and_true] at hv
    obtain ⟨rfl, rfl, rfl⟩ := hv
    refine ⟨by simpa using hl, .inr ⟨g, cap, by simp, by simpa using hcp, hg, hlt, fun i hi => ?_⟩⟩
    rw [List.length_set] at hi
    obtain ⟨h1, h2⟩ := hc i hi
    refine ⟨?_, h2.set v0 v1⟩
    by_cases e : i = j
    · subst e
      have := h1.set_same v0 v1
      simpa [List.getD, hi] using this
    · have := h1.set_other e v0 v1
      simpa [List.getD, List.getElem?_set, e, Ne.symm e] using this

theorem ElCut.set_far {w : World} {g i : Nat} {c : C2} (h : ElCut w g i c) {p : Addr} (hp : p.block ≠ g) (x : Value) : ElCut (w.setCell p x) g i c := by
  obtain ⟨h0, h1⟩ := h
  have hn : ∀ o : Nat, p ≠ ⟨g, o, none⟩ := fun o e => hp (by rw [e])
  exact ⟨(World.cell?_setCell_other _ _ _ _ (hn _)).trans h0, (World.cell?_setCell_other _ _ _ _ (hn _)).trans h1⟩
theorem SoftCut.set_far {w : World} {g i : Nat} (h : SoftCut w g i) (p : Addr) (x : Value) : SoftCut (w.setCell p x) g i := by
  obtain ⟨h0, h1⟩ := h
  exact ⟨(World.frozen?_setCell _ _ _ _).trans h0, (World.frozen?_setCell _ _ _ _).trans h1⟩
theorem CutIn.set_far {lo hi : Nat} {w : World} {v : Value} {xs : List C2} (h : CutIn lo hi w v xs) {p : Addr} (hp : p.block < lo) (x : Value) : CutIn lo hi (w.setCell p x) v xs := by
  obtain ⟨hl, h | ⟨g, cap, hv, hcp, hg, hlt, hc⟩⟩ := h
  · exact ⟨hl, .inl h⟩
  · exact ⟨hl, .inr ⟨g, cap, hv, hcp, hg, hlt, fun i hi => ⟨(hc i hi).1.set_far (by omega) x, (hc i hi).2.set_far p x⟩⟩⟩

/-- Their places. -/
def placesCut (xs : List C2) : List Value := xs.flatMap fun c => [.bool c.up, .int .i64 c.a]
theorem placesCut_length (xs : List C2) : (placesCut xs).length = xs.length * 2 := by
  induction xs with
  | nil => rfl
  | cons c r ih => simp [placesCut] at ih ⊢; omega
theorem placesCut_at : ∀ (xs : List C2) (i : Nat), i < xs.length → (placesCut xs)[i * 2]? = some (.bool (xs.getD i C2.zero).up) ∧ (placesCut xs)[i * 2 + 1]? = some (.int .i64 (xs.getD i C2.zero).a)
  | [], i, h => by simp at h
  | c :: r, 0, _ => ⟨rfl, rfl⟩
  | c :: r, i + 1, h => by
    have ih := placesCut_at r i (by simpa using h)
    have e : placesCut (c :: r) = .bool c.up :: .int .i64 c.a :: placesCut r := rfl
    rw [e, show (i + 1) * 2 = i * 2 + 1 + 1 by omega]
    exact ih
theorem placesCut_append (xs ys : List C2) : placesCut (xs ++ ys) = placesCut xs ++ placesCut ys := by simp [placesCut]

theorem CutIn.of_owns {w : World} {base e : Nat} {v : Value} {xs : List C2} (h : w.ownsRow base e 2 v xs.length (placesCut xs)) (hl : xs.length ≤ 1048576) : CutIn base w.heap.size w v xs := by
  refine ⟨hl, ?_⟩
  have h0 := h
  obtain ⟨_, ⟨h1, h2⟩ | ⟨g, cap, cur, hv, hg, hh, hcp, _⟩⟩ := h
  · exact .inl ⟨List.length_eq_zero_iff.1 h2, none, 0, h1⟩
  · subst hv
    refine .inr ⟨g, cap, rfl, hcp, hg, lt_of_heap hh, fun i hi => ⟨?_, h0.frozenAt _, h0.frozenAt _⟩⟩
    obtain ⟨p0, p1⟩ := placesCut_at xs i hi
    exact ⟨(h0.cellAt _ (by omega)).trans p0, (h0.cellAt _ (by omega)).trans p1⟩
theorem placesCut_zero (n : Nat) : (madeCells (Value.agg #[.bool false, .int .i64 0]).cells (n * 2)).toList = placesCut (List.replicate n C2.zero) := by
  apply List.ext_getElem?
  intro i
  by_cases h : i < n * 2
  · obtain ⟨k, hk⟩ : ∃ k, i = k * 2 ∨ i = k * 2 + 1 := ⟨i / 2, by omega⟩
    have hkn : k < n := by omega
    obtain ⟨p0, p1⟩ := placesCut_at (List.replicate n C2.zero) k (by simpa using hkn)
    have ez : (List.replicate n C2.zero).getD k C2.zero = C2.zero := by simp [List.getD, hkn]
    rw [ez] at p0 p1
    rcases hk with rfl | rfl
    · rw [p0]; simp [madeCells, Value.cells, C2.zero, h]
    · rw [p1]; simp [madeCells, Value.cells, C2.zero, h]
  · rw [List.getElem?_eq_none (by simp [madeCells]; omega), List.getElem?_eq_none (by rw [placesCut_length]; simp; omega)]

end Go.Proofs.Ytlkiacgpiodkiaa
