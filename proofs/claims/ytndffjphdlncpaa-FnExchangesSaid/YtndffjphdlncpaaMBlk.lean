/- Rows of cells: what a slice of cells holds. Blocks: the model's BlockOk. Rows of cells: an element stored; a row that is owned. Rows of cells: taken from the law's own type. Blocks by value, opened: what a law is told of a block that came in. Blocks: their size in the law, and taken from the law's own type. Rows of cells, and blocks: compared. -/
import Derived.Test.YtndffjphdlncpaaRows
import Derived.Test.YtndffjphdlncpaaMDrw
import Derived.Test.YtndffjphdlncpaaMCel
import Derived.WalkKit
import Derived.Lib.Hide
import Derived.WalkSmall
import Derived.BigQuiet
import Derived.Deep.QuietTactic
import Derived.Outline
import Derived.IntWalk
import Derived.Laws.OwnMore
import Derived.OwnWalk
import Derived.OpenShut
import Derived.ShutString
import Derived.Lib.SmallJoins
import Derived.Deep.Slices
import Derived.Deep.Strs
import Derived.Deep.RegionHeld3

namespace Go.Proofs.Ytndffjphdlncpaa
open Go.ChangeShapes Go.WideShapes Go.ChangeAt Go.RowKit

/-- A cell's three numbers. -/
structure C3 where
  s : Int
  a : Int
  b : Int
theorem C3.ext' {x y : C3} (h1 : x.s = y.s) (h2 : x.a = y.a) (h3 : x.b = y.b) : x = y := by cases x; cases y; simp_all
/-- As a value; as three places. -/
def C3.v (c : C3) : Value := .agg #[.int .i64 c.s, .int .i64 c.a, .int .i64 c.b]
def C3.zero : C3 := ⟨0, 0, 0⟩
def C3.Ok (c : C3) : Prop := OkC c.s c.a c.b

/-- Element number i of a row at block g holds c. -/
def El (w : World) (g i : Nat) (c : C3) : Prop :=
  w.cell? ⟨g, i * 3, none⟩ = some (.int .i64 c.s) ∧ w.cell? ⟨g, i * 3 + 1, none⟩ = some (.int .i64 c.a) ∧ w.cell? ⟨g, i * 3 + 2, none⟩ = some (.int .i64 c.b)
def Soft (w : World) (g i : Nat) : Prop :=
  w.frozen? ⟨g, i * 3, none⟩ = false ∧ w.frozen? ⟨g, i * 3 + 1, none⟩ = false ∧ w.frozen? ⟨g, i * 3 + 2, none⟩ = false
theorem El.lt {w : World} {g i : Nat} {c : C3} (h : El w g i c) : g < w.heap.size := lt_of_cell h.1
theorem El.below {w w' : World} {g i B : Nat} {c : C3} (h : El w g i c) (hb : Below B w w') (hg : g < B) : El w' g i c :=
  ⟨(hb.cell (p := ⟨g, i * 3, none⟩) hg).trans h.1, (hb.cell (p := ⟨g, i * 3 + 1, none⟩) hg).trans h.2.1, (hb.cell (p := ⟨g, i * 3 + 2, none⟩) hg).trans h.2.2⟩
theorem Soft.below {w w' : World} {g i B : Nat} (h : Soft w g i) (hb : Below B w w') (hg : g < B) : Soft w' g i :=
  ⟨(hb.frozen (p := ⟨g, i * 3, none⟩) hg).trans h.1, (hb.frozen (p := ⟨g, i * 3 + 1, none⟩) hg).trans h.2.1, (hb.frozen (p := ⟨g, i * 3 + 2, none⟩) hg).trans h.2.2⟩

/-- A slice of cells in a block from lo on, below hi. -/
def CellIn (lo hi : Nat) (w : World) (v : Value) (xs : List C3) : Prop :=
  xs.length ≤ 1048576 ∧ ((xs = [] ∧ ∃ a c, v = .slice a 0 c) ∨
    ∃ g cap, v = .slice (some ⟨g, 0, none⟩) xs.length cap ∧ lo ≤ g ∧ g < hi ∧ ∀ i, i < xs.length → El w g i (xs.getD i C3.zero) ∧ Soft w g i)
theorem CellIn.below {lo hi : Nat} {w w' : World} {v : Value} {xs : List C3} (h : CellIn lo hi w v xs) (hb : Below hi w w') : CellIn lo hi w' v xs := by
  obtain ⟨hl, h | ⟨g, cap, hv, hg, hlt, hc⟩⟩ := h
  · exact ⟨hl, .inl h⟩
  · exact ⟨hl, .inr ⟨g, cap, hv, hg, hlt, fun i hi => ⟨(hc i hi).1.below hb hlt, (hc i hi).2.below hb hlt⟩⟩⟩
theorem CellIn.wide {lo hi lo' hi' : Nat} {w : World} {v : Value} {xs : List C3} (h : CellIn lo hi w v xs) (h1 : lo' ≤ lo) (h2 : hi ≤ hi') : CellIn lo' hi' w v xs := by
  obtain ⟨hl, h | ⟨g, cap, hv, hg, hlt, hc⟩⟩ := h
  · exact ⟨hl, .inl h⟩
  · exact ⟨hl, .inr ⟨g, cap, hv, by omega, by omega, hc⟩⟩
/-- Its shape. -/
theorem CellIn.form {lo hi : Nat} {w : World} {v : Value} {xs : List C3} (h : CellIn lo hi w v xs) : ∃ a cap, v = .slice a xs.length cap := by
  obtain ⟨_, ⟨rfl, a, c, hv⟩ | ⟨g, cap, hv, _⟩⟩ := h
  · exact ⟨a, c, hv⟩
  · exact ⟨_, _, hv⟩
/-- Element i, at a world in which only new blocks have come. -/
theorem CellIn.at {lo hi : Nat} {w w' : World} {a : Option Addr} {n cap : Nat} {xs : List C3} (h : CellIn lo hi w (.slice a n cap) xs) (hb : Below hi w w') {i : Nat} (hi' : i < xs.length) :
    ∃ g, a = some ⟨g, 0, none⟩ ∧ lo ≤ g ∧ g < hi ∧ El w' g i (xs.getD i C3.zero) ∧ Soft w' g i := by
  obtain ⟨_, ⟨rfl, _⟩ | ⟨g, cap, hv, hg, hlt, hc⟩⟩ := h
  · simp at hi'
  · simp only [Value.slice.injEq] at hv
    exact ⟨g, hv.1, hg, hlt, (hc i hi').1.below hb hlt, (hc i hi').2.below hb hlt⟩

/-- A block is valid. -/
def BlkOk (n : Int) (xs : List C3) : Prop := (1 ≤ n ∧ n ≤ 4) ∧ (xs.length : Int) = n * n ∧ ∀ c ∈ xs, c.Ok
/-- .. as a Boolean. -/
noncomputable def blkB (n : Int) (xs : List C3) : Bool := @decide (BlkOk n xs) (Classical.propDecidable _)
theorem blk_yes {n : Int} {xs : List C3} (h : BlkOk n xs) : true = blkB n xs := by unfold blkB; simp [h]
theorem blk_no {n : Int} {xs : List C3} (h : ¬ BlkOk n xs) : false = blkB n xs := by unfold blkB; simp [h]
theorem blk_no_size {n : Int} {xs : List C3} (h : ¬ (1 ≤ n ∧ n ≤ 4)) : false = blkB n xs := blk_no (fun k => h k.1)
theorem blk_no_len {n : Int} {xs : List C3} (h : ¬ (xs.length : Int) = n * n) : false = blkB n xs := blk_no (fun k => h k.2.1)
theorem blk_no_cell {n : Int} {xs : List C3} {i : Nat} (hi : i < xs.length) (h : ¬ (xs.getD i C3.zero).Ok) : false = blkB n xs := blk_no (fun k => h (k.2.2 _ (by simp [List.getD, hi])))
theorem blk_all {n : Int} {xs : List C3} (h1 : 1 ≤ n ∧ n ≤ 4) (h2 : (xs.length : Int) = n * n) (h : ∀ i, i < xs.length → (xs.getD i C3.zero).Ok) : true = blkB n xs :=
  blk_yes ⟨h1, h2, fun c hc => by obtain ⟨i, hi, rfl⟩ := List.getElem_of_mem hc; have := h i hi; simpa [List.getD, hi] using this⟩
theorem sq_wrap {n : Int} (h0 : 1 ≤ n) (h1 : n ≤ 4) : IntKind.i64.wrap (n * n) = n * n ∧ 1 ≤ n * n ∧ n * n ≤ 16 := by
  have : n = 1 ∨ n = 2 ∨ n = 3 ∨ n = 4 := by omega
  rcases this with rfl | rfl | rfl | rfl <;> decide

end Go.Proofs.Ytndffjphdlncpaa

namespace Go.Proofs.Ytndffjphdlncpaa
open Go.ChangeShapes Go.WideShapes Go.ChangeAt Go.RowKit

theorem ne_bool {a b : Int} (h : ¬ a = b) : (a != b) = true := by simpa using h
theorem eq_bool {a b : Int} (h : a = b) : (a != b) = false := by simpa using h

theorem bel_new0 (w : World) (o : Obj) : Below w.heap.size w (w.alloc o) := (Below.refl _ _).alloc (Nat.le_refl _) o

set_option maxHeartbeats 400000 in
theorem SpecBlockOk_any (lo hi : Nat) (n : Int) (v : Value) (xs : List C3) (w : World) (r : CellIn lo hi w v xs) (hhi : hi ≤ w.heap.size) :
    Calls Try.prog 14 #[.agg #[.int .i64 n, v]] w fun e w' => e = .returned (.bool (blkB n xs)) ∧ Below w.heap.size w w' := by
  obtain ⟨a, cap, rfl⟩ := r.form
  have R := Lib.hid r
  have hl := r.1
  clear r
  by_cases h1 : 1 ≤ n ∧ n ≤ 4
  · obtain ⟨n0, n1⟩ := h1
    obtain ⟨hw, s0, s1⟩ := sq_wrap n0 n1
    by_cases h2 : (xs.length : Int) = n * n
    · have e2 := eq_bool h2
      have H2 := Lib.hid h2
      have S := Lib.hid (And.intro s0 s1)
      clear h2 s0 s1
      go_enter Try.func14, Try.ntmps14
      go_wp2_with fail
      refine (In_yes _ _ _ _ n0 n1).mono ?_
      rintro e w' ⟨rfl, rfl⟩
      go_wp2_with fail
      go_loopw [3] (fun i wr => ∃ k : Nat, k ≤ xs.length ∧ i = .int .i64 k ∧ Hid (∀ j, j < k → (xs.getD j C3.zero).Ok) ∧ Below (w.heap.size + 1) (w.alloc (.cells #[.int .i64 n, .slice a xs.length cap] 26)) wr) (fun i _ => xs.length - (intOf i).toNat)
      case atStart => exact ⟨0, Nat.zero_le _, rfl, fun j hj => by omega, Below.refl _ _⟩
      case round =>
        obtain ⟨k, hk, rfl, hok, hbel⟩ := hrel
        have b0 : wr.cell? ⟨w.heap.size, 0, none⟩ = some (.int .i64 n) := (hbel.cell (p := ⟨w.heap.size, 0, none⟩) (by simp)).trans (by simp)
        have b1 : wr.cell? ⟨w.heap.size, 1, none⟩ = some (.slice a xs.length cap) := (hbel.cell (p := ⟨w.heap.size, 1, none⟩) (by simp)).trans (by simp)
        by_cases hlt : k < xs.length
        · obtain ⟨g, rfl, hg, hg1, hel, _⟩ := R.out.at ((bel_new0 w _).trans (hbel.mono (by omega)) |>.mono hhi) hlt
          obtain ⟨e0, e1, e3⟩ := hel
          obtain ⟨c, hc⟩ : ∃ c, c = xs.getD k C3.zero := ⟨_, rfl⟩
          rw [← hc] at e0 e1 e3
          have HC := Lib.hid hc
          clear hc
          go_wp2_with fail
          refine (SpecOk_any _ _ _ _).mono ?_
          by_cases ho : OkC c.s c.a c.b
          · have ho' := Lib.hid (decide_eq_true ho)
            rw [ho'.out]
            rintro e w1 ⟨rfl, rfl⟩
            have HN : Hid (∀ j, j < k + 1 → (xs.getD j C3.zero).Ok) := Lib.hid (fun j hj => by
              rcases Nat.lt_succ_iff_lt_or_eq.1 hj with h | rfl
              · exact hok.out j h
              · rw [← HC.out]; exact ho)
            have HB := Lib.hid (hbel.alloc (by have := hbel.size; simpa using this) (.cells #[.int .i64 c.s, .int .i64 c.a, .int .i64 c.b] 41))
            clear HC ho ho' hbel
            go_wp2_with fail
            go_roundw
            case rel => exact ⟨k + 1, by omega, by go_num, HN, HB.out⟩
            case measure => simp [intOf] <;> omega
          · have ho' := Lib.hid (decide_eq_false ho)
            rw [ho'.out]
            rintro e w1 ⟨rfl, rfl⟩
            have HN := Lib.hid (blk_no_cell (n := n) hlt (by rw [← HC.out]; exact ho))
            have HB := Lib.hid (hbel.alloc (by have := hbel.size; simpa using this) (.cells #[.int .i64 c.s, .int .i64 c.a, .int .i64 c.b] 41))
            clear HC ho ho' hbel
            go_wp2_with fail
            go_ret
            exact ⟨ret_bool HN.out, (bel_new0 w _).trans (HB.out.mono (by omega))⟩
        · obtain rfl : k = xs.length := by omega
          have HN := Lib.hid (blk_all (n := n) ⟨n0, n1⟩ H2.out hok.out)
          go_wp2_with fail
          go_ret
          exact ⟨ret_bool HN.out, (bel_new0 w _).trans (hbel.mono (by omega))⟩
    · have e2 := ne_bool h2
      have H2 := Lib.hid (blk_no_len h2)
      clear h2 s0 s1
      go_enter Try.func14, Try.ntmps14
      go_wp2_with fail
      refine (In_yes _ _ _ _ n0 n1).mono ?_
      rintro e w' ⟨rfl, rfl⟩
      go_wp2_with fail
      go_ret
      exact ⟨by rw [← H2.out]; rfl, (Below.refl _ _).alloc (Nat.le_refl _) _⟩
  · have h1' : n < 1 ∨ 4 < n := by omega
    have H1 := Lib.hid (blk_no_size (xs := xs) h1)
    clear h1
    go_enter Try.func14, Try.ntmps14
    go_wp2_with fail
    refine (In_no _ _ _ _ h1').mono ?_
    rintro e w' ⟨rfl, rfl⟩
    go_wp2_with fail
    go_ret
    exact ⟨ret_bool H1.out, (Below.refl _ _).alloc (Nat.le_refl _) _⟩

end Go.Proofs.Ytndffjphdlncpaa

namespace Go.Proofs.Ytndffjphdlncpaa
open Go.ChangeShapes Go.WideShapes Go.ChangeAt Go.RowKit

/-- Element j of the row at block g overwritten, place by place. -/
abbrev setEl (w : World) (g j : Nat) (s a b : Int) : World := ((w.setCell ⟨g, j * 3, none⟩ (.int .i64 s)).setCell ⟨g, j * 3 + 1, none⟩ (.int .i64 a)).setCell ⟨g, j * 3 + 2, none⟩ (.int .i64 b)

theorem ad_ne {g i j : Nat} (h : i ≠ j) : (⟨g, i, none⟩ : Addr) ≠ ⟨g, j, none⟩ := by simp
theorem El.set_same {w : World} {g j : Nat} {c : C3} (h : El w g j c) (s a b : Int) : El (setEl w g j s a b) g j ⟨s, a, b⟩ := by
  obtain ⟨h0, h1, h2⟩ := h
  refine ⟨?_, ?_, ?_⟩
  · rw [World.cell?_setCell_other _ _ _ _ (ad_ne (by omega)), World.cell?_setCell_other _ _ _ _ (ad_ne (by omega)), World.cell?_setCell_same _ _ _ h0]
  · rw [World.cell?_setCell_other _ _ _ _ (ad_ne (by omega))]
    exact World.cell?_setCell_same _ _ _ (by rw [World.cell?_setCell_other _ _ _ _ (ad_ne (by omega))]; exact h1)
  · exact World.cell?_setCell_same _ _ _ (by rw [World.cell?_setCell_other _ _ _ _ (ad_ne (by omega)), World.cell?_setCell_other _ _ _ _ (ad_ne (by omega))]; exact h2)
theorem El.set_other {w : World} {g i j : Nat} {c : C3} (h : El w g i c) (hij : i ≠ j) (s a b : Int) : El (setEl w g j s a b) g i c := by
  obtain ⟨h0, h1, h2⟩ := h
  refine ⟨?_, ?_, ?_⟩
  all_goals
    rw [World.cell?_setCell_other _ _ _ _ (ad_ne (by omega)), World.cell?_setCell_other _ _ _ _ (ad_ne (by omega)), World.cell?_setCell_other _ _ _ _ (ad_ne (by omega))]
    assumption
theorem Soft.set {w : World} {g i j : Nat} (h : Soft w g i) (s a b : Int) : Soft (setEl w g j s a b) g i := by
  obtain ⟨h0, h1, h2⟩ := h
  refine ⟨?_, ?_, ?_⟩
  all_goals
    rw [World.frozen?_setCell, World.frozen?_setCell, World.frozen?_setCell]
    assumption
theorem CellIn.set {lo hi g n cap : Nat} {w : World} {xs : List C3} (h : CellIn lo hi w (.slice (some ⟨g, 0, none⟩) n cap) xs) (j : Nat) (hj : j < xs.length) (s a b : Int) :
    CellIn lo hi (setEl w g j s a b) (.slice (some ⟨g, 0, none⟩) n cap) (xs.set j ⟨s, a, b⟩) := by
  obtain ⟨hl, ⟨h, _⟩ | ⟨g', cap', hv, hg, hlt, hc⟩⟩ := h
  · subst h; simp at hj
  · simp only [Value.slice.injEq, Option.some.injEq, Addr.mk.injEq, and_true] at hv
    obtain ⟨rfl, rfl, rfl⟩ := hv
    refine ⟨by simpa using hl, .inr ⟨g, cap, by simp, hg, hlt, fun i hi => ?_⟩⟩
    rw [List.length_set] at hi
    obtain ⟨h1, h2⟩ := hc i hi
    refine ⟨?_, h2.set s a b⟩
    by_cases e : i = j
    · subst e
      have := h1.set_same s a b
      simpa [List.getD, hi] using this
    · have := h1.set_other e s a b
      simpa [List.getD, List.getElem?_set, e, Ne.symm e] using this

theorem El.set_far {w : World} {g i : Nat} {c : C3} (h : El w g i c) {p : Addr} (hp : p.block ≠ g) (x : Value) : El (w.setCell p x) g i c := by
  obtain ⟨h0, h1, h2⟩ := h
  have hn : ∀ o : Nat, p ≠ ⟨g, o, none⟩ := fun o e => hp (by rw [e])
  exact ⟨(World.cell?_setCell_other _ _ _ _ (hn _)).trans h0, (World.cell?_setCell_other _ _ _ _ (hn _)).trans h1, (World.cell?_setCell_other _ _ _ _ (hn _)).trans h2⟩
theorem Soft.set_far {w : World} {g i : Nat} (h : Soft w g i) (p : Addr) (x : Value) : Soft (w.setCell p x) g i := by
  obtain ⟨h0, h1, h2⟩ := h
  exact ⟨(World.frozen?_setCell _ _ _ _).trans h0, (World.frozen?_setCell _ _ _ _).trans h1, (World.frozen?_setCell _ _ _ _).trans h2⟩
theorem CellIn.set_far {lo hi : Nat} {w : World} {v : Value} {xs : List C3} (h : CellIn lo hi w v xs) {p : Addr} (hp : p.block < lo) (x : Value) : CellIn lo hi (w.setCell p x) v xs := by
  obtain ⟨hl, h | ⟨g, cap, hv, hg, hlt, hc⟩⟩ := h
  · exact ⟨hl, .inl h⟩
  · exact ⟨hl, .inr ⟨g, cap, hv, hg, hlt, fun i hi => ⟨(hc i hi).1.set_far (by omega) x, (hc i hi).2.set_far p x⟩⟩⟩

/-- The places of a list of cells. -/
def places (xs : List C3) : List Value := xs.flatMap fun c => [.int .i64 c.s, .int .i64 c.a, .int .i64 c.b]
theorem places_length (xs : List C3) : (places xs).length = xs.length * 3 := by
  induction xs with
  | nil => rfl
  | cons c r ih => simp [places] at ih ⊢; omega
theorem places_at : ∀ (xs : List C3) (i : Nat), i < xs.length → (places xs)[i * 3]? = some (.int .i64 (xs.getD i C3.zero).s) ∧ (places xs)[i * 3 + 1]? = some (.int .i64 (xs.getD i C3.zero).a) ∧ (places xs)[i * 3 + 2]? = some (.int .i64 (xs.getD i C3.zero).b)
  | [], i, h => by simp at h
  | c :: r, 0, _ => ⟨rfl, rfl, rfl⟩
  | c :: r, i + 1, h => by
    have ih := places_at r i (by simpa using h)
    have e : places (c :: r) = .int .i64 c.s :: .int .i64 c.a :: .int .i64 c.b :: places r := rfl
    rw [e, show (i + 1) * 3 = i * 3 + 1 + 1 + 1 by omega]
    exact ih
theorem places_append (xs ys : List C3) : places (xs ++ ys) = places xs ++ places ys := by simp [places]

theorem lt_of_heap {w : World} {g : Nat} {o : Obj} (h : w.heap[g]? = some o) : g < w.heap.size := (Array.getElem?_eq_some_iff.1 h).1
theorem CellIn.of_owns {w : World} {base e : Nat} {v : Value} {xs : List C3} (h : w.ownsRow base e 3 v xs.length (places xs)) (hl : xs.length ≤ 1048576) : CellIn base w.heap.size w v xs := by
  refine ⟨hl, ?_⟩
  have h0 := h
  obtain ⟨_, ⟨h1, h2⟩ | ⟨g, cap, cur, hv, hg, hh, _⟩⟩ := h
  · exact .inl ⟨List.length_eq_zero_iff.1 h2, none, 0, h1⟩
  · subst hv
    refine .inr ⟨g, cap, rfl, hg, lt_of_heap hh, fun i hi => ⟨?_, h0.frozenAt _, h0.frozenAt _, h0.frozenAt _⟩⟩
    obtain ⟨p0, p1, p2⟩ := places_at xs i hi
    exact ⟨(h0.cellAt _ (by omega)).trans p0, (h0.cellAt _ (by omega)).trans p1, (h0.cellAt _ (by omega)).trans p2⟩
theorem places_zero (n : Nat) : (madeCells (Value.agg #[.int .i64 0, .int .i64 0, .int .i64 0]).cells (n * 3)).toList = places (List.replicate n C3.zero) := by
  apply List.ext_getElem?
  intro i
  by_cases h : i < n * 3
  · obtain ⟨k, hk⟩ : ∃ k, i = k * 3 ∨ i = k * 3 + 1 ∨ i = k * 3 + 2 := ⟨i / 3, by omega⟩
    have hkn : k < n := by omega
    obtain ⟨p0, p1, p2⟩ := places_at (List.replicate n C3.zero) k (by simpa using hkn)
    have ez : (List.replicate n C3.zero).getD k C3.zero = C3.zero := by simp [List.getD, hkn]
    rw [ez] at p0 p1 p2
    rcases hk with rfl | rfl | rfl
    · rw [p0]; simp [madeCells, Value.cells, C3.zero, h]
    · rw [p1]; simp [madeCells, Value.cells, C3.zero, h]
    · rw [p2]; simp [madeCells, Value.cells, C3.zero, h]
  · rw [List.getElem?_eq_none (by simp [madeCells]; omega), List.getElem?_eq_none (by rw [places_length]; simp; omega)]

end Go.Proofs.Ytndffjphdlncpaa

namespace Go.Proofs.Ytndffjphdlncpaa
open Go.ChangeShapes Go.WideShapes Go.ChangeAt Go.RowKit

theorem info_cell : (Try.prog.info? 41).map (fun i => (i.zero, i.size, i.bytes)) = some (some (.agg #[.int .i64 0, .int .i64 0, .int .i64 0]), 3, 24) := by kernel_rfl
theorem info_parts3 {P : Program} {t : TypeId} {z : Value} {n b : Nat} (h : (P.info? t).map (fun i => (i.zero, i.size, i.bytes)) = some (some z, n, b)) :
    ∃ i, P.info? t = some i ∧ i.zero = some z ∧ i.size = n ∧ i.bytes = b := by
  cases e : P.info? t with
  | none => rw [e] at h; cases h
  | some i => rw [e] at h; simp at h; exact ⟨i, rfl, h.1, h.2.1, h.2.2⟩

/-- A slice of cells that came in: its elements are read one by one, wherever they lie. -/
def ArgC (w : World) (a : Option Addr) (len : Nat) (xs : List C3) : Prop :=
  xs.length = len ∧ len ≤ maxLen ∧ (len = 0 ∨ ∃ xb xo, a = some ⟨xb, xo, none⟩ ∧ xb < w.heap.size ∧ ∀ i, i < len →
    w.cell? ⟨xb, xo + i * 3, none⟩ = some (.int .i64 (xs.getD i C3.zero).s) ∧ w.cell? ⟨xb, xo + i * 3 + 1, none⟩ = some (.int .i64 (xs.getD i C3.zero).a) ∧ w.cell? ⟨xb, xo + i * 3 + 2, none⟩ = some (.int .i64 (xs.getD i C3.zero).b))
theorem ArgC.below {w w' : World} {a : Option Addr} {len : Nat} {xs : List C3} (h : ArgC w a len xs) (hb : Below w.heap.size w w') : ArgC w' a len xs := by
  obtain ⟨h1, h2, h | ⟨xb, xo, ha, hlt, hc⟩⟩ := h
  · exact ⟨h1, h2, .inl h⟩
  · refine ⟨h1, h2, .inr ⟨xb, xo, ha, Nat.lt_of_lt_of_le hlt hb.size, fun i hi => ?_⟩⟩
    obtain ⟨c0, c1, c2⟩ := hc i hi
    exact ⟨(hb.cell (p := ⟨xb, _, none⟩) hlt).trans c0, (hb.cell (p := ⟨xb, _, none⟩) hlt).trans c1, (hb.cell (p := ⟨xb, _, none⟩) hlt).trans c2⟩

/-- A new row of cells is handed back. -/
def FreshC (xs : List C3) (w : World) (e : Ending) (w' : World) : Prop := ∃ v, e = .returned v ∧ CellIn w.heap.size w'.heap.size w' v xs ∧ Below w.heap.size w w'

/-- The first k elements are those of the list. -/
def UpTo (k : Nat) (xs ys : List C3) : Prop := ys.length = xs.length ∧ ∀ i, i < k → ys.getD i C3.zero = xs.getD i C3.zero
theorem UpTo.set {k : Nat} {xs ys : List C3} (h : UpTo k xs ys) (hk : k < xs.length) {c : C3} (hc : c = xs.getD k C3.zero) : UpTo (k + 1) xs (ys.set k c) := by
  obtain ⟨h1, h2⟩ := h
  refine ⟨by simpa using h1, fun i hi => ?_⟩
  by_cases e : i = k
  · subst e; simp [List.getD, h1, hk] at hc ⊢; exact hc
  · have := h2 i (by omega)
    simpa [List.getD, List.getElem?_set, e, Ne.symm e] using this
theorem UpTo.all {xs ys : List C3} (h : UpTo xs.length xs ys) : ys = xs := by
  obtain ⟨h1, h2⟩ := h
  apply List.ext_getElem h1
  intro i a b
  have := h2 i b
  simpa [List.getD, a, b] using this

theorem own_none {w w' : World} (h : w.grownBy w' none) : Below w.heap.size w w' := (Below.refl _ _).grown h (Nat.le_refl _) (by intro k hk; cases hk)

set_option maxHeartbeats 400000 in
theorem ToCellS_any (a : Option Addr) (len cap : Nat) (xs : List C3) (w : World) (r : ArgC w a len xs) (hlen : len ≤ 1048576) :
    Calls Try.prog 60 #[.slice a len cap] w (FreshC xs w) := by
  obtain ⟨i0, hi, hz0, hz1, hz2⟩ := info_parts3 info_cell
  have R := Lib.hid r
  obtain ⟨hxl, _, _⟩ := r
  subst hxl
  go_enter Try.func60, Try.ntmps60
  go_wp2_with (at_make; refine wpList_make_full _ rfl _ _ 24 rfl w.heap.size 41 i0 _ 3 Try.underlying24 hi hz0 hz1 .i64 .i64 _ _ xs.length rfl rfl rfl rfl (by rw [hz2]; omega) (by unfold maxLen; omega) (Nat.le_refl _) ?_; intro w0 hown0 hgrow0)
  have hb0 := own_none hgrow0
  rw [places_zero] at hown0
  have hin0 := CellIn.of_owns (xs := List.replicate xs.length C3.zero) (by rw [List.length_replicate]; exact hown0) (by simpa using hlen)
  have HB := Lib.hid hb0
  have HW := Lib.hid hin0
  clear hb0 hown0 hgrow0 hin0
  go_loopw [4] (fun i wr => ∃ (k : Nat) (ys : List C3), k ≤ xs.length ∧ i = .int .i64 k ∧ Hid (UpTo k xs ys) ∧ Hid (CellIn w.heap.size w0.heap.size wr (.slice (some ⟨w.heap.size, 0, none⟩) xs.length xs.length) ys) ∧ Below w.heap.size w wr ∧ w0.heap.size ≤ wr.heap.size) (fun i _ => xs.length - (intOf i).toNat)
  case atStart => exact ⟨0, _, Nat.zero_le _, rfl, ⟨by simp, fun i hi => by omega⟩, HW.out, HB.out, Nat.le_refl _⟩
  case round =>
    obtain ⟨k, ys, hk, rfl, hup, hin, hbel, hsz⟩ := hrel
    by_cases hlt : k < xs.length
    · obtain ⟨_, _, h | ⟨xb, xo, rfl, hxb, hc⟩⟩ := (R.out.below hbel)
      · omega
      obtain ⟨c0, c1, c2⟩ := hc k hlt
      clear hc
      obtain ⟨c, hc⟩ : ∃ c, c = xs.getD k C3.zero := ⟨_, rfl⟩
      rw [← hc] at c0 c1 c2
      have HC := Lib.hid hc
      clear hc
      go_wp2_with fail
      refine (ToCell_any _ _ _ _).mono ?_
      rintro e w1 ⟨rfl, hb1⟩
      have hyl := hup.out.1
      have hin1 : Hid (CellIn w.heap.size w0.heap.size w1 (.slice (some ⟨w.heap.size, 0, none⟩) xs.length xs.length) ys) := Lib.hid (hin.out.below (hb1.mono hsz))
      obtain ⟨g, hg, _, _, ⟨e0, e1, e2⟩, f0, f1, f2⟩ := hin1.out.at (Below.refl _ _) (i := k) (by omega)
      obtain rfl : w.heap.size = g := by simpa using hg
      have HN := Lib.hid (hin1.out.set k (by omega) c.s c.a c.b)
      have HU := Lib.hid (hup.out.set (c := ⟨c.s, c.a, c.b⟩) hlt HC.out)
      have hbw : Below w.heap.size w w1 := hbel.trans (hb1.mono hbel.size)
      have HB1 := Lib.hid (Below.setCell (Below.setCell (Below.setCell hbw (p := ⟨w.heap.size, k * 3, none⟩) (Nat.le_refl _) (.int .i64 c.s)) (p := ⟨w.heap.size, k * 3 + 1, none⟩) (Nat.le_refl _) (.int .i64 c.a)) (p := ⟨w.heap.size, k * 3 + 2, none⟩) (Nat.le_refl _) (.int .i64 c.b))
      have hs1 : w0.heap.size ≤ w1.heap.size := by have := hb1.size; omega
      clear hg hin hup hbw hb1 hbel HC
      generalize ys.getD k C3.zero = y at e0 e1 e2
      go_wp2_with fail
      go_roundw
      case rel => exact ⟨k + 1, _, by omega, by go_num, HU, HN, HB1.out, by simp [World.setCell]; exact hs1⟩
      case measure => simp [intOf] <;> omega
    · obtain rfl : k = xs.length := by omega
      have hall := hup.out.all
      subst hall
      go_wp2_with fail
      go_ret
      exact ⟨_, rfl, hin.out.wide (Nat.le_refl _) hsz, hbel⟩

end Go.Proofs.Ytndffjphdlncpaa

namespace Go.Proofs.Ytndffjphdlncpaa
open Go.ChangeShapes Go.WideShapes Go.ChangeAt Go.RowKit Go.Joins Go.Deep

theorem cellsOf_block : Try.prog.cellsOf 50 = 2 := by kernel_rfl
theorem cellsOf_int : Try.prog.cellsOf 3 = 1 := by kernel_rfl
theorem cellsOf_lcell : Try.prog.cellsOf 44 = 3 := by kernel_rfl

instance : Inhabited C3 := ⟨C3.zero⟩
theorem list_of {n : Nat} {p : Nat → C3 → Prop} (h : ∀ i, i < n → ∃ x, p i x) : ∃ xs : List C3, xs.length = n ∧ ∀ i, i < n → p i (xs.getD i C3.zero) := by
  obtain ⟨f, hf⟩ := choose_lt h
  exact ⟨(List.range n).map f, by simp, fun i hi => by simpa [List.getD, hi] using hf i hi⟩

variable {H : Type} {enc : TypeId × Value → H} {w : World} {base : Nat} {spare : Nat → Bool} {held : Bool}

theorem open_cells {fuel : Nat} {c : Value} {x : DataW H × List MemPlace} (h : DataW.trod enc Try.prog w base spare held fuel 48 [c] = some x) :
    ∃ (a : Option Addr) (len cap : Nat) (xs : List C3), c = .slice a len cap ∧ ArgC w a len xs := by
  rcases open_slice Try.underlying48 h with ⟨hcs, _⟩ | ⟨x, len, cap, m, n, D, Pl, hcs, hb, hl, hm, hmm, _, hi⟩
  · simp at hcs
    exact ⟨none, 0, 0, [], hcs, rfl, Nat.zero_le _, .inl rfl⟩
  · simp at hcs
    have hle : len ≤ m := by rw [hmm]; split <;> omega
    obtain ⟨xb, xo, sp⟩ := x
    have key : ∀ i, i < len → ∃ c : C3, w.cell? ((⟨xb, xo, sp⟩ : Addr).add (i * 3)) = some (.int .i64 c.s) ∧ w.cell? (((⟨xb, xo, sp⟩ : Addr).add (i * 3)).add 1) = some (.int .i64 c.a) ∧ w.cell? (((⟨xb, xo, sp⟩ : Addr).add (i * 3)).add 2) = some (.int .i64 c.b) := by
      intro i hlt
      obtain ⟨cs, h1, h2⟩ := hi i (by omega)
      rw [cellsOf_lcell] at h1
      obtain ⟨_, hlen, hat⟩ := World.cells?_some h1
      obtain ⟨v0, v1, v2, rfl⟩ : ∃ v0 v1 v2, cs = [v0, v1, v2] := by
        match cs, hlen with
        | [v0, v1, v2], _ => exact ⟨v0, v1, v2, rfl⟩
      obtain ⟨y0, y1, y2, n', _, _, t0, t1, t2⟩ := trod_struct3 Try.underlying44 h2
      have t0' : DataW.trod enc Try.prog w base spare held n' 3 [v0] = some y0 := by simpa [cellsOf_int] using t0
      have t1' : DataW.trod enc Try.prog w base spare held n' 3 [v1] = some y1 := by simpa [cellsOf_int] using t1
      have t2' : DataW.trod enc Try.prog w base spare held n' 3 [v2] = some y2 := by simpa [cellsOf_int] using t2
      obtain ⟨s, e0, _, _⟩ := DataW.trod_int Try.underlying3 t0'
      obtain ⟨a, e1, _, _⟩ := DataW.trod_int Try.underlying3 t1'
      obtain ⟨b, e2, _, _⟩ := DataW.trod_int Try.underlying3 t2'
      simp at e0 e1 e2
      subst e0 e1 e2
      have c0 := hat 0 (by omega)
      have c1 := hat 1 (by omega)
      have c2 := hat 2 (by omega)
      refine ⟨⟨s, a, b⟩, ?_, by simpa using c1, by simpa using c2⟩
      simpa [Addr.add] using c0
    obtain ⟨xs, hxl, hxs⟩ := list_of key
    refine ⟨_, len, cap, xs, hcs, hxl, by omega, ?_⟩
    rcases Nat.eq_zero_or_pos len with h0 | h0
    · exact .inl h0
    · have hsp : sp = none := by
        have h1 := (hxs 0 h0).1
        cases sp with
        | none => rfl
        | some s => simp [World.cell?, Addr.add] at h1; split at h1 <;> simp at h1
      subst hsp
      refine .inr ⟨xb, xo, rfl, ?_, fun i hlt => ?_⟩
      · have := lt_of_cell (hxs 0 h0).1
        simpa [Addr.add] using this
      · obtain ⟨c0, c1, c2⟩ := hxs i hlt
        have ad : ∀ (b o k : Nat), (⟨b, o, none⟩ : Addr).add k = ⟨b, o + k, none⟩ := fun b o k => by cases k <;> simp [Addr.add]
        rw [ad] at c0 c1 c2
        rw [ad] at c1 c2
        exact ⟨c0, c1, c2⟩

set_option maxRecDepth 100000 in
theorem open_block {r : Reach} {b0 : Nat} {v : Value} {d : DataW H} {p : List MemPlace} (hv : Value.okWide Try.prog w r b0 50 v) (h : DataW.Trod enc Try.prog w base spare held 50 v d p) :
    ∃ (n : Int) (a : Option Addr) (len cap : Nat) (xs : List C3), v = .agg #[.int .i64 n, .slice a len cap] ∧ (Lit.int .i64 n).wf = true ∧ ArgC w a len xs := by
  obtain ⟨c0, c1, y0, y1, m, rfl, rfl, rfl, hy0, hy1⟩ := open_agg2 Try.underlying50 (by kernel_rfl) cellsOf_block hv h
  obtain ⟨n, e0, _, wn⟩ := DataW.trod_int Try.underlying3 hy0
  obtain ⟨a, len, cap, xs, hc, hx⟩ := open_cells hy1
  simp at e0
  subst e0 hc
  exact ⟨n, a, len, cap, xs, rfl, wn, hx⟩

end Go.Proofs.Ytndffjphdlncpaa

namespace Go.Proofs.Ytndffjphdlncpaa
open Go.ChangeShapes Go.WideShapes Go.ChangeAt Go.RowKit

theorem bel0 (w : World) (o : Obj) : Below w.heap.size w (w.alloc o) := (Below.refl _ _).alloc (Nat.le_refl _) o
theorem bel_n {b : Nat} {w u : World} (h : Below b w u) (hb : b ≤ w.heap.size) (o : Obj) : Below b w (u.alloc o) := h.alloc (Nat.le_trans hb h.size) _
theorem bel_c {b : Nat} {w u v : World} (h : Below b w u) (hb : b ≤ w.heap.size) (k : Below u.heap.size u v) : Below b w v := h.trans (k.mono (Nat.le_trans hb h.size))
theorem kept {u v : World} {p : Addr} {x : Value} (hb : Below u.heap.size u v) (h : u.cell? p = some x) : v.cell? p = some x :=
  (World.cell?_of_block (hb.block p.block (lt_of_cell h))).trans h
theorem keptF {u v : World} {p : Addr} {x : Value} (hb : Below u.heap.size u v) (h : u.cell? p = some x) (hf : u.frozen? p = false) : v.frozen? p = false :=
  (World.frozen?_of_block (hb.block p.block (lt_of_cell h))).trans hf

theorem SzC_no (a : Option Addr) (len cap : Nat) (left : Int) (w : World) (h0 : 0 ≤ left) (h1 : left ≤ 1048576) (hm : len ≤ 9223372036854775807) (h : left < len) :
    Calls Try.prog 58 #[.slice a len cap, .int .i64 left] w fun e w' => e = .returned (.int .i64 (-1)) ∧ w' = w := by
  have h2 : left - (len : Int) < 0 := by omega
  go_enter Try.func58, Try.ntmps58
  go_wp2_with fail
  go_ret
  exact ⟨rfl, rfl⟩
theorem SzC_yes (a : Option Addr) (len cap : Nat) (left : Int) (w : World) (h1 : left ≤ 1048576) (h : (len : Int) ≤ left) :
    Calls Try.prog 58 #[.slice a len cap, .int .i64 left] w fun e w' => e = .returned (.int .i64 (left - len)) ∧ w' = w := by
  have h2 : ¬ left - (len : Int) < 0 := by omega
  go_enter Try.func58, Try.ntmps58
  go_wp2_with fail
  go_ret
  exact ⟨rfl, rfl⟩
theorem SzB_no (n : Int) (a : Option Addr) (len cap : Nat) (left : Int) (w : World) (h0 : 0 ≤ left) (h1 : left ≤ 1048576) (hm : len ≤ 9223372036854775807) (h : left < len) :
    Calls Try.prog 33 #[.agg #[.int .i64 n, .slice a len cap], .int .i64 left] w fun e w' => e = .returned (.int .i64 (-1)) ∧ Below w.heap.size w w' := by
  go_enter Try.func33, Try.ntmps33
  go_wp2_with fail
  refine (SzC_no a len cap left _ h0 h1 hm h).mono ?_
  rintro e w' ⟨rfl, rfl⟩
  go_wp2_with fail
  go_ret
  exact ⟨rfl, bel0 _ _⟩
theorem SzB_yes (n : Int) (a : Option Addr) (len cap : Nat) (left : Int) (w : World) (h1 : left ≤ 1048576) (h : (len : Int) ≤ left) :
    Calls Try.prog 33 #[.agg #[.int .i64 n, .slice a len cap], .int .i64 left] w fun e w' => e = .returned (.int .i64 (left - len)) ∧ Below w.heap.size w w' := by
  have h2 : ¬ left - (len : Int) < 0 := by omega
  go_enter Try.func33, Try.ntmps33
  go_wp2_with fail
  refine (SzC_yes a len cap left _ h1 h).mono ?_
  rintro e w' ⟨rfl, rfl⟩
  go_wp2_with fail
  go_ret
  exact ⟨rfl, bel0 _ _⟩

/-- A new block is handed back. -/
def FreshB (n : Int) (xs : List C3) (w : World) (e : Ending) (w' : World) : Prop := ∃ v, e = .returned (.agg #[.int .i64 n, v]) ∧ CellIn w.heap.size w'.heap.size w' v xs ∧ Below w.heap.size w w'

theorem ToBlock_any (n : Int) (a : Option Addr) (len cap : Nat) (xs : List C3) (w : World) (r : ArgC w a len xs) (hlen : len ≤ 1048576) :
    Calls Try.prog 35 #[.agg #[.int .i64 n, .slice a len cap]] w (FreshB n xs w) := by
  have R : ∀ o1 o2 o3, Hid (ArgC (((w.alloc o1).alloc o2).alloc o3) a len xs) := fun o1 o2 o3 => Lib.hid (r.below (bel_n (bel_n (bel0 w o1) (Nat.le_refl _) o2) (Nat.le_refl _) o3))
  clear r
  go_enter Try.func35, Try.ntmps35
  go_wp2_with fail
  refine (ToCellS_any a len cap xs _ (R _ _ _).out hlen).mono ?_
  rintro e w1 ⟨v, rfl, hin, hb1⟩
  obtain ⟨a', cap', rfl⟩ := hin.form
  have c0 := kept (p := ⟨w.heap.size + 1 + 1, 0, none⟩) (x := .int .i64 n) hb1 (by go_simp)
  have c1 := kept (p := ⟨w.heap.size + 1 + 1, 1, none⟩) (x := .slice none 0 0) hb1 (by go_simp)
  have f1 := keptF (p := ⟨w.heap.size + 1 + 1, 1, none⟩) (x := .slice none 0 0) hb1 (by go_simp) (by go_simp)
  have d0 := kept (p := ⟨w.heap.size + 1, 0, none⟩) (x := .int .i64 0) hb1 (by go_simp)
  have d1 := kept (p := ⟨w.heap.size + 1, 1, none⟩) (x := .slice none 0 0) hb1 (by go_simp)
  have g0 := keptF (p := ⟨w.heap.size + 1, 0, none⟩) (x := .int .i64 0) hb1 (by go_simp) (by go_simp)
  have g1 := keptF (p := ⟨w.heap.size + 1, 1, none⟩) (x := .slice none 0 0) hb1 (by go_simp) (by go_simp)
  have hB : Below w.heap.size w w1 := bel_c (bel_n (bel_n (bel0 w _) (Nat.le_refl _) _) (Nat.le_refl _) _) (Nat.le_refl _) hb1
  have hS := hb1.size
  simp at hS
  clear hb1
  go_wp2_with fail
  refine bodyPost_ret (v := .agg #[.int .i64 n, .slice a' xs.length cap']) (by simp [results, Try.results35, go_sem, d0, d1]) rfl ⟨.slice a' xs.length cap', rfl, ?_, ?_⟩
  · refine CellIn.wide (lo := w.heap.size + 1 + 1 + 1) (hi := w1.heap.size) ?_ (by omega) (by simp [World.setCell])
    refine CellIn.set_far (CellIn.set_far (CellIn.set_far (by simpa using hin) ?_ _) ?_ _) ?_ _ <;> (simp <;> omega)
  · refine Below.setCell (Below.setCell (Below.setCell hB ?_ _) ?_ _) ?_ _ <;> (simp <;> omega)

end Go.Proofs.Ytndffjphdlncpaa

namespace Go.Proofs.Ytndffjphdlncpaa
open Go.ChangeShapes Go.WideShapes Go.ChangeAt Go.RowKit

set_option maxHeartbeats 400000 in
theorem EqCellS_any (l1 h1 l2 h2 : Nat) (v1 v2 : Value) (xs : List C3) (w : World) (r1 : CellIn l1 h1 w v1 xs) (r2 : CellIn l2 h2 w v2 xs) (hh1 : h1 ≤ w.heap.size) (hh2 : h2 ≤ w.heap.size) :
    Calls Try.prog 61 #[v1, v2] w fun e w' => e = .returned (.bool true) ∧ Below w.heap.size w w' := by
  obtain ⟨a1, c1, rfl⟩ := r1.form
  obtain ⟨a2, c2, rfl⟩ := r2.form
  have R1 := Lib.hid r1
  have R2 := Lib.hid r2
  have hl := r1.1
  clear r1 r2
  go_enter Try.func61, Try.ntmps61
  go_wp2_with fail
  go_loopw [5] (fun i wr => ∃ k : Nat, k ≤ xs.length ∧ i = .int .i64 k ∧ Below w.heap.size w wr) (fun i _ => xs.length - (intOf i).toNat)
  case atStart => exact ⟨0, Nat.zero_le _, rfl, Below.refl _ _⟩
  case round =>
    obtain ⟨k, hk, rfl, hbel⟩ := hrel
    by_cases hlt : k < xs.length
    · obtain ⟨g1, rfl, _, hg1, ⟨e0, e1, e2⟩, _⟩ := R1.out.at (hbel.mono hh1) hlt
      obtain ⟨g2, rfl, _, hg2, ⟨d0, d1, d2⟩, _⟩ := R2.out.at (hbel.mono hh2) hlt
      generalize xs.getD k C3.zero = c at e0 e1 e2 d0 d1 d2
      have KP : ∀ u v, Below u.heap.size u v → (u.cell? ⟨g1, k * 3, none⟩ = some (.int .i64 c.s) ∧ u.cell? ⟨g1, k * 3 + 1, none⟩ = some (.int .i64 c.a) ∧ u.cell? ⟨g1, k * 3 + 2, none⟩ = some (.int .i64 c.b) ∧ u.cell? ⟨g2, k * 3, none⟩ = some (.int .i64 c.s) ∧ u.cell? ⟨g2, k * 3 + 1, none⟩ = some (.int .i64 c.a) ∧ u.cell? ⟨g2, k * 3 + 2, none⟩ = some (.int .i64 c.b)) → (v.cell? ⟨g1, k * 3, none⟩ = some (.int .i64 c.s) ∧ v.cell? ⟨g1, k * 3 + 1, none⟩ = some (.int .i64 c.a) ∧ v.cell? ⟨g1, k * 3 + 2, none⟩ = some (.int .i64 c.b) ∧ v.cell? ⟨g2, k * 3, none⟩ = some (.int .i64 c.s) ∧ v.cell? ⟨g2, k * 3 + 1, none⟩ = some (.int .i64 c.a) ∧ v.cell? ⟨g2, k * 3 + 2, none⟩ = some (.int .i64 c.b)) := fun u v hb h => ⟨kept hb h.1, kept hb h.2.1, kept hb h.2.2.1, kept hb h.2.2.2.1, kept hb h.2.2.2.2.1, kept hb h.2.2.2.2.2⟩
      go_wp2_with fail
      go_region_held3 (fun w' => w'.cell? ⟨g1, k * 3, none⟩ = some (.int .i64 c.s) ∧ w'.cell? ⟨g1, k * 3 + 1, none⟩ = some (.int .i64 c.a) ∧ w'.cell? ⟨g1, k * 3 + 2, none⟩ = some (.int .i64 c.b) ∧ w'.cell? ⟨g2, k * 3, none⟩ = some (.int .i64 c.s) ∧ w'.cell? ⟨g2, k * 3 + 1, none⟩ = some (.int .i64 c.a) ∧ w'.cell? ⟨g2, k * 3 + 2, none⟩ = some (.int .i64 c.b)) (first | (refine KP _ _ (by assumption) ?_; assumption) | go_keep)
        ((go_at_call 32; refine (EqCell_same _ _ _ _).mono ?_; rintro e w1 ⟨rfl, hb1⟩))
      have HB : Below w.heap.size w w1 := bel_c hbel (Nat.le_refl _) ((⟨rfl, rfl, rfl, Nat.le_refl _, fun _ _ => rfl⟩ : Below wr.heap.size wr wr.drew).trans hb1)
      have HBh := Lib.hid HB
      clear HB hb1 KP
      go_wp2_with fail
      go_roundw
      case rel => exact ⟨k + 1, by omega, by go_num, HBh.out⟩
      case measure => simp [intOf] <;> omega
    · obtain rfl : k = xs.length := by omega
      go_wp2_with fail
      go_ret
      exact ⟨rfl, hbel⟩

theorem EqBlock_any (l1 h1 l2 h2 : Nat) (n : Int) (v1 v2 : Value) (xs : List C3) (w : World) (r1 : CellIn l1 h1 w v1 xs) (r2 : CellIn l2 h2 w v2 xs) (hh1 : h1 ≤ w.heap.size) (hh2 : h2 ≤ w.heap.size) :
    Calls Try.prog 36 #[.agg #[.int .i64 n, v1], .agg #[.int .i64 n, v2]] w fun e w' => e = .returned (.bool true) ∧ Below w.heap.size w w' := by
  obtain ⟨a1, c1, rfl⟩ := r1.form
  obtain ⟨a2, c2, rfl⟩ := r2.form
  have R1 : ∀ o1 o2, Hid (CellIn l1 h1 ((w.alloc o1).alloc o2) (.slice a1 xs.length c1) xs) := fun o1 o2 => Lib.hid (r1.below ((bel_n (bel0 w o1) (Nat.le_refl _) o2).mono hh1))
  have R2 : ∀ o1 o2, Hid (CellIn l2 h2 ((w.alloc o1).alloc o2) (.slice a2 xs.length c2) xs) := fun o1 o2 => Lib.hid (r2.below ((bel_n (bel0 w o1) (Nat.le_refl _) o2).mono hh2))
  clear r1 r2
  go_enter Try.func36, Try.ntmps36
  go_wp2_with fail
  refine (EqCellS_any l1 h1 l2 h2 _ _ xs _ (R1 _ _).out (R2 _ _).out (by simp; omega) (by simp; omega)).mono ?_
  rintro e w1 ⟨rfl, hb1⟩
  go_wp2_with fail
  go_ret
  exact ⟨rfl, bel_c (bel_n (bel0 w _) (Nat.le_refl _) _) (Nat.le_refl _) hb1⟩

end Go.Proofs.Ytndffjphdlncpaa
