/- A relation of worlds: of the old blocks only those of one span may have changed. Rows of cells, and blocks: marked, and held against the marks. Blocks: marks from one on; what stays in view in the walks of the laws. Blocks: the model's CellAt. Blocks: the model's copy. Blocks: the model's WithCell. -/
import Derived.Test.YtndffjphdlncpaaMDrw
import Derived.Test.YtndffjphdlncpaaMBlk
import Derived.Deep.RegionHeld3
import Derived.Deep.AppendLies

namespace Go.Proofs.Ytndffjphdlncpaa
open Go.RowKit

/-- Of the blocks that stood, only those from lo on, below hi, may have changed. -/
structure Within (lo hi : Nat) (w w' : World) : Prop where
  os : w'.os = w.os
  tape : w'.tape = w.tape
  output : w'.output = w.output
  size : w.heap.size ≤ w'.heap.size
  block : ∀ k, k < w.heap.size → (k < lo ∨ hi ≤ k) → w'.heap[k]? = w.heap[k]?
theorem Within.refl (lo hi : Nat) (w : World) : Within lo hi w w := ⟨rfl, rfl, rfl, Nat.le_refl _, fun _ _ _ => rfl⟩
theorem Within.trans {lo hi : Nat} {u v w : World} (h : Within lo hi u v) (k : Within lo hi v w) : Within lo hi u w :=
  ⟨k.os.trans h.os, k.tape.trans h.tape, k.output.trans h.output, Nat.le_trans h.size k.size, fun i hi ho => (k.block i (by have := h.size; omega) ho).trans (h.block i hi ho)⟩
theorem Within.of_below {lo hi : Nat} {u w : World} (h : Below u.heap.size u w) : Within lo hi u w := ⟨h.os, h.tape, h.output, h.size, fun k hk _ => h.block k hk⟩
theorem Within.setCell {lo hi : Nat} {u w : World} (h : Within lo hi u w) {p : Addr} (h0 : lo ≤ p.block) (h1 : p.block < hi) (v : Value) : Within lo hi u (w.setCell p v) :=
  ⟨h.os, h.tape, h.output, by simp [World.setCell]; exact h.size, fun k hk ho => by rw [Below.heap_setCell _ _ _ _ (by omega)]; exact h.block k hk ho⟩
theorem Within.below {lo hi : Nat} {u w : World} (h : Within lo hi u w) (hl : lo ≤ u.heap.size) : Below lo u w := ⟨h.os, h.tape, h.output, h.size, fun k hk => h.block k (by omega) (.inl hk)⟩
theorem Within.cell {lo hi : Nat} {u w : World} (h : Within lo hi u w) {p : Addr} {x : Value} (hc : u.cell? p = some x) (ho : p.block < lo ∨ hi ≤ p.block) : w.cell? p = some x :=
  (World.cell?_of_block (w := u) (h.block p.block (lt_of_cell hc) ho)).trans hc

end Go.Proofs.Ytndffjphdlncpaa

namespace Go.Proofs.Ytndffjphdlncpaa
open Go.ChangeShapes Go.WideShapes Go.ChangeAt Go.RowKit

theorem CellIn.within {lo hi l2 h2 : Nat} {u w : World} {v : Value} {xs : List C3} (r : CellIn l2 h2 u v xs) (h : Within lo hi u w) (ho : h2 ≤ lo ∨ hi ≤ l2) (hh : h2 ≤ u.heap.size) : CellIn l2 h2 w v xs := by
  obtain ⟨hl, r | ⟨g, cap, hv, hg, hlt, hc⟩⟩ := r
  · exact ⟨hl, .inl r⟩
  · refine ⟨hl, .inr ⟨g, cap, hv, hg, hlt, fun i hi => ?_⟩⟩
    have hb : w.heap[g]? = u.heap[g]? := h.block g (by omega) (by omega)
    obtain ⟨⟨e0, e1, e2⟩, f0, f1, f2⟩ := hc i hi
    exact ⟨⟨(World.cell?_of_block (w := u) hb).trans e0, (World.cell?_of_block (w := u) hb).trans e1, (World.cell?_of_block (w := u) hb).trans e2⟩,
      (World.frozen?_of_block (w := u) hb).trans f0, (World.frozen?_of_block (w := u) hb).trans f1, (World.frozen?_of_block (w := u) hb).trans f2⟩

/-- The marks from k on. -/
def markC (k n : Nat) : List C3 := (List.range n).map fun i => ⟨((k + 3 * i : Nat) : Int), ((k + 3 * i + 1 : Nat) : Int), ((k + 3 * i + 2 : Nat) : Int)⟩
theorem markC_length (k n : Nat) : (markC k n).length = n := by simp [markC]
theorem markC_at {k n i : Nat} (h : i < n) : (markC k n).getD i C3.zero = ⟨((k + 3 * i : Nat) : Int), ((k + 3 * i + 1 : Nat) : Int), ((k + 3 * i + 2 : Nat) : Int)⟩ := by simp [markC, List.getD, h]

set_option maxHeartbeats 400000 in
theorem MarkCellS_any (lo hi : Nat) (v : Value) (xs : List C3) (k : Nat) (w : World) (r : CellIn lo hi w v xs) (hk1 : k ≤ 100000000) :
    Calls Try.prog 62 #[v, .int .i64 k] w fun e w' => e = .returned (.int .i64 ((k + 3 * xs.length : Nat) : Int)) ∧ CellIn lo hi w' v (markC k xs.length) ∧ Within lo hi w w' := by
  obtain ⟨a1, c1, rfl⟩ := r.form
  have R := Lib.hid r
  have hl := r.1
  clear r
  go_enter Try.func62, Try.ntmps62
  go_wp2_with fail
  go_loopw [1, 5] (fun q i wr => ∃ (m : Nat) (ys : List C3), m ≤ xs.length ∧ i = .int .i64 m ∧ q = .int .i64 ((k + 3 * m : Nat) : Int) ∧ Hid (UpTo m (markC k xs.length) ys) ∧ Hid (CellIn lo hi wr (.slice a1 xs.length c1) ys) ∧ Within lo hi w wr) (fun _ i _ => xs.length - (intOf i).toNat)
  case atStart => exact ⟨0, xs, Nat.zero_le _, rfl, rfl, ⟨by simp [markC], fun i hi => by omega⟩, R.out, Within.refl _ _ _⟩
  case round =>
    obtain ⟨m, ys, hm, rfl, rfl, hup, hin, hbel⟩ := hrel
    by_cases hlt : m < xs.length
    · have hyl : ys.length = xs.length := by have := hup.out.1; rw [markC_length] at this; exact this
      obtain ⟨g, rfl, hg, hg1, ⟨e0, e1, e2⟩, f0, f1, f2⟩ := hin.out.at (Below.refl _ _) (i := m) (by omega)
      have HN := Lib.hid (hin.out.set m (by omega) ((k + 3 * m : Nat) : Int) ((k + 3 * m + 1 : Nat) : Int) ((k + 3 * m + 2 : Nat) : Int))
      have HU := Lib.hid (hup.out.set (c := ⟨((k + 3 * m : Nat) : Int), ((k + 3 * m + 1 : Nat) : Int), ((k + 3 * m + 2 : Nat) : Int)⟩) (by rw [markC_length]; exact hlt) (markC_at hlt).symm)
      have HB := Lib.hid (Within.setCell (Within.setCell (Within.setCell hbel (p := ⟨g, m * 3, none⟩) hg hg1 (.int .i64 ((k + 3 * m : Nat) : Int))) (p := ⟨g, m * 3 + 1, none⟩) hg hg1 (.int .i64 ((k + 3 * m + 1 : Nat) : Int))) (p := ⟨g, m * 3 + 2, none⟩) hg hg1 (.int .i64 ((k + 3 * m + 2 : Nat) : Int)))
      generalize ys.getD m C3.zero = y at e0 e1 e2
      clear hbel hup hin
      go_wp2_with fail
      go_roundw
      case rel => exact ⟨m + 1, _, by omega, by go_num, by go_num, HU, HN, HB.out⟩
      case measure => simp [intOf] <;> omega
    · obtain rfl : m = xs.length := by omega
      go_wp2_with fail
      go_ret
      refine ⟨rfl, ?_, hbel⟩
      have h1 := hup.out
      have h2 : ys = markC k xs.length := UpTo.all (by rw [markC_length]; exact h1)
      rw [← h2]; exact hin.out

set_option maxHeartbeats 400000 in
theorem HeldCellS_any (lo hi : Nat) (v : Value) (n k : Nat) (w : World) (r : CellIn lo hi w v (markC k n)) (hk1 : k ≤ 100000000) :
    Calls Try.prog 63 #[v, .int .i64 k] w fun e w' => e = .returned (.int .i64 ((k + 3 * n : Nat) : Int)) ∧ w' = w := by
  have hl := r.1
  have hf := r.form
  rw [markC_length] at hl hf
  obtain ⟨a1, c1, rfl⟩ := hf
  have R := Lib.hid r
  clear r
  go_enter Try.func63, Try.ntmps63
  go_wp2_with fail
  go_loop [1, 5] (fun q i => ∃ m : Nat, m ≤ n ∧ i = .int .i64 m ∧ q = .int .i64 ((k + 3 * m : Nat) : Int)) (fun _ i => n - (intOf i).toNat)
  case atStart => exact ⟨0, Nat.zero_le _, rfl, rfl⟩
  case round =>
    obtain ⟨m, hm, rfl, rfl⟩ := hrel
    by_cases hlt : m < n
    · obtain ⟨g, rfl, _, _, ⟨e0, e1, e2⟩, _⟩ := R.out.at (Below.refl _ _) (i := m) (by rw [markC_length]; exact hlt)
      rw [markC_at hlt] at e0 e1 e2
      simp only at e0 e1 e2
      go_wp2_with fail
      go_round
      case rel => exact ⟨m + 1, by omega, by go_num, by go_num⟩
      case measure => simp [intOf] <;> omega
    · obtain rfl : m = n := by omega
      go_wp2_with fail
      go_ret
      exact ⟨rfl, rfl⟩

theorem MarkBlock_any (lo hi : Nat) (n : Int) (v : Value) (xs : List C3) (k : Nat) (w : World) (r : CellIn lo hi w v xs) (hhi : hi ≤ w.heap.size) (hk1 : k ≤ 100000000) :
    Calls Try.prog 37 #[.agg #[.int .i64 n, v], .int .i64 k] w fun e w' => e = .returned (.int .i64 ((k + 3 * xs.length : Nat) : Int)) ∧ CellIn lo hi w' v (markC k xs.length) ∧ Within lo hi w w' := by
  obtain ⟨a1, c1, rfl⟩ := r.form
  have R : ∀ o, Hid (CellIn lo hi (w.alloc o) (.slice a1 xs.length c1) xs) := fun o => Lib.hid (r.below ((bel0 w o).mono hhi))
  clear r
  go_enter Try.func37, Try.ntmps37
  go_wp2_with fail
  refine (MarkCellS_any lo hi _ xs k _ (R _).out hk1).mono ?_
  rintro e w1 ⟨rfl, hin, hb1⟩
  go_wp2_with fail
  go_ret
  exact ⟨rfl, hin, (Within.of_below (bel0 w _)).trans hb1⟩
theorem HeldBlock_any (lo hi : Nat) (m : Int) (v : Value) (n k : Nat) (w : World) (r : CellIn lo hi w v (markC k n)) (hhi : hi ≤ w.heap.size) (hk1 : k ≤ 100000000) :
    Calls Try.prog 39 #[.agg #[.int .i64 m, v], .int .i64 k] w fun e w' => e = .returned (.int .i64 ((k + 3 * n : Nat) : Int)) ∧ Below w.heap.size w w' := by
  have hf := r.form
  rw [markC_length] at hf
  obtain ⟨a1, c1, rfl⟩ := hf
  have R : ∀ o, Hid (CellIn lo hi (w.alloc o) (.slice a1 n c1) (markC k n)) := fun o => Lib.hid (r.below ((bel0 w o).mono hhi))
  clear r
  go_enter Try.func39, Try.ntmps39
  go_wp2_with fail
  refine (HeldCellS_any lo hi _ n k _ (R _).out hk1).mono ?_
  rintro e w1 ⟨rfl, rfl⟩
  go_wp2_with fail
  go_ret
  exact ⟨rfl, bel0 _ _⟩

end Go.Proofs.Ytndffjphdlncpaa

namespace Go.Proofs.Ytndffjphdlncpaa
open Go.ChangeShapes Go.WideShapes Go.ChangeAt Go.RowKit

/-- The number behind the last mark. -/
def mkN (xs : List C3) : Int := ((1 + 3 * xs.length : Nat) : Int)
theorem mkN_pos (xs : List C3) : ¬ mkN xs < 0 := by unfold mkN; omega
theorem MarkOne (lo hi : Nat) (n : Int) (v : Value) (xs : List C3) (w : World) (r : CellIn lo hi w v xs) (hhi : hi ≤ w.heap.size) :
    Calls Try.prog 37 #[.agg #[.int .i64 n, v], .int .i64 1] w fun e w' => e = .returned (.int .i64 (mkN xs)) ∧ CellIn lo hi w' v (markC 1 xs.length) ∧ Within lo hi w w' :=
  MarkBlock_any lo hi n v xs 1 w r hhi (by omega)
theorem HeldOne (lo hi : Nat) (n : Int) (v : Value) (xs : List C3) (w : World) (r : CellIn lo hi w v (markC 1 xs.length)) (hhi : hi ≤ w.heap.size) :
    Calls Try.prog 39 #[.agg #[.int .i64 n, v], .int .i64 1] w fun e w' => e = .returned (.int .i64 (mkN xs)) ∧ Below w.heap.size w w' :=
  HeldBlock_any lo hi n v xs.length 1 w r hhi (by omega)

/-- Two places of a block. -/
def Two (p : Nat) (x y : Value) (u : World) : Prop := u.cell? ⟨p, 0, none⟩ = some x ∧ u.cell? ⟨p, 1, none⟩ = some y
theorem Two.keep {p : Nat} {x y : Value} {u v : World} (h : Two p x y u) (hb : Below u.heap.size u v) : Two p x y v := ⟨kept hb h.1, kept hb h.2⟩
theorem Two.new (w : World) (x y : Value) (T : TypeId) : Two w.heap.size x y (w.alloc (.cells #[x, y] T)) := ⟨by simp, by simp⟩
theorem Two.within {p lo hi : Nat} {x y : Value} {u v : World} (h : Two p x y u) (hb : Within lo hi u v) (ho : p < lo ∨ hi ≤ p) : Two p x y v := ⟨hb.cell h.1 ho, hb.cell h.2 ho⟩
def Three (p : Nat) (c : C3) (u : World) : Prop := u.cell? ⟨p, 0, none⟩ = some (.int .i64 c.s) ∧ u.cell? ⟨p, 1, none⟩ = some (.int .i64 c.a) ∧ u.cell? ⟨p, 2, none⟩ = some (.int .i64 c.b)
theorem Three.keep {p : Nat} {c : C3} {u v : World} (h : Three p c u) (hb : Below u.heap.size u v) : Three p c v := ⟨kept hb h.1, kept hb h.2.1, kept hb h.2.2⟩
theorem Three.new (w : World) (c : C3) (T : TypeId) : Three w.heap.size c (w.alloc (.cells #[.int .i64 c.s, .int .i64 c.a, .int .i64 c.b] T)) := by
  refine ⟨?_, ?_, ?_⟩ <;> simp
theorem bel_w {b lo hi : Nat} {w u v : World} (h : Below b w u) (hb : b ≤ w.heap.size) (k : Within lo hi u v) (hl : b ≤ lo) : Below b w v :=
  ⟨k.os.trans h.os, k.tape.trans h.tape, k.output.trans h.output, Nat.le_trans h.size k.size, fun i hi => (k.block i (by have := h.size; omega) (.inl (by omega))).trans (h.block i hi)⟩

end Go.Proofs.Ytndffjphdlncpaa

namespace Go.Proofs.Ytndffjphdlncpaa
open Go.ChangeShapes Go.WideShapes Go.ChangeAt Go.RowKit

/-- x, y is a place of a block of size n. -/
def InB (n x y : Int) : Prop := (0 ≤ x ∧ x ≤ n - 1) ∧ (0 ≤ y ∧ y ≤ n - 1)
theorem idx {n x y : Int} (n0 : 1 ≤ n) (n1 : n ≤ 4) (h : InB n x y) : ∃ k : Nat, y * n + x = k ∧ (k : Int) < n * n ∧ IntKind.i64.wrap (y * n) = y * n ∧ IntKind.i64.wrap (y * n + x) = (k : Int) := by
  obtain ⟨⟨x0, x1⟩, y0, y1⟩ := h
  have hn : n = 1 ∨ n = 2 ∨ n = 3 ∨ n = 4 := by omega
  have key : 0 ≤ y * n ∧ y * n + x < n * n ∧ y * n + x ≤ 16 := by rcases hn with rfl | rfl | rfl | rfl <;> omega
  obtain ⟨k0, k1, k2⟩ := key
  refine ⟨(y * n + x).toNat, by omega, by omega, ?_, ?_⟩
  · rw [IntKind.wrap_i64]; omega
  · rw [IntKind.wrap_i64]; omega

/-- The cell at a place. -/
noncomputable def cAt (n : Int) (xs : List C3) (x y : Int) : C3 := @ite _ (BlkOk n xs ∧ InB n x y) (Classical.propDecidable _) (xs.getD (y * n + x).toNat C3.zero) C3.zero
theorem cAt_yes {n : Int} {xs : List C3} {x y : Int} (h : BlkOk n xs) (k : InB n x y) : cAt n xs x y = xs.getD (y * n + x).toNat C3.zero := if_pos ⟨h, k⟩
theorem cAt_no {n : Int} {xs : List C3} {x y : Int} (h : ¬ (BlkOk n xs ∧ InB n x y)) : cAt n xs x y = C3.zero := if_neg h

theorem SpecBlockOk_yes (lo hi : Nat) (n : Int) (v : Value) (xs : List C3) (w : World) (r : CellIn lo hi w v xs) (hhi : hi ≤ w.heap.size) (h : BlkOk n xs) :
    Calls Try.prog 14 #[.agg #[.int .i64 n, v]] w fun e w' => e = .returned (.bool true) ∧ Below w.heap.size w w' := by
  have hc := SpecBlockOk_any lo hi n v xs w r hhi
  rw [← blk_yes h] at hc
  exact hc
theorem SpecBlockOk_no (lo hi : Nat) (n : Int) (v : Value) (xs : List C3) (w : World) (r : CellIn lo hi w v xs) (hhi : hi ≤ w.heap.size) (h : ¬ BlkOk n xs) :
    Calls Try.prog 14 #[.agg #[.int .i64 n, v]] w fun e w' => e = .returned (.bool false) ∧ Below w.heap.size w w' := by
  have hc := SpecBlockOk_any lo hi n v xs w r hhi
  rw [← blk_no h] at hc
  exact hc

end Go.Proofs.Ytndffjphdlncpaa

namespace Go.Proofs.Ytndffjphdlncpaa
open Go.ChangeShapes Go.WideShapes Go.ChangeAt Go.RowKit

theorem own_new3 (w : World) (e : Nat) : (w.alloc (.cells #[] e)).ownsRow w.heap.size e 3 (.slice (some ⟨w.heap.size, 0, none⟩) 0 0) 0 [] :=
  ⟨by simp, .inr ⟨_, 0, #[], rfl, Nat.le_refl _, heap_alloc_new _ _, by simp, by simp, rfl, rfl⟩⟩
theorem bel_dr {b : Nat} {w u : World} (h : Below b w u) : Below b w u.drew := ⟨h.os, h.tape, h.output, h.size, h.block⟩
theorem places_one (xs : List C3) : ∀ u ∈ places xs, u.oneCell' = true := by
  intro u hu
  simp only [places, List.mem_flatMap] at hu
  obtain ⟨c, _, hc⟩ := hu
  simp only [List.mem_cons, List.not_mem_nil, or_false] at hc
  rcases hc with rfl | rfl | rfl <;> rfl
/-- The places of a row that is not empty, read one by one. -/
theorem CellIn.news {lo hi : Nat} {w : World} {a : Option Addr} {n cap : Nat} {xs : List C3} (h : CellIn lo hi w (.slice a n cap) xs) (h0 : 0 < xs.length) :
    ∃ g, a = some ⟨g, 0, none⟩ ∧ lo ≤ g ∧ g < hi ∧ ∀ w', Below hi w w' → ∀ (j : Nat) u, (places xs)[j]? = some u → w'.cell? ((⟨g, 0, none⟩ : Addr).add j) = some u := by
  obtain ⟨_, ⟨rfl, _⟩ | ⟨g, cap, hv, hg, hlt, hc⟩⟩ := h
  · simp at h0
  · simp only [Value.slice.injEq] at hv
    refine ⟨g, hv.1, hg, hlt, fun w' hb j u hu => ?_⟩
    have hj : j < xs.length * 3 := by
      rcases Nat.lt_or_ge j (xs.length * 3) with h | h
      · exact h
      · rw [List.getElem?_eq_none (by rw [places_length]; exact h)] at hu; cases hu
    have ad : (⟨g, 0, none⟩ : Addr).add j = ⟨g, j, none⟩ := by cases j <;> simp [Addr.add]
    rw [ad]
    obtain ⟨k, hk⟩ : ∃ k, j = k * 3 ∨ j = k * 3 + 1 ∨ j = k * 3 + 2 := ⟨j / 3, by omega⟩
    have hkn : k < xs.length := by omega
    obtain ⟨p0, p1, p2⟩ := places_at xs k hkn
    obtain ⟨e0, e1, e2⟩ := (hc k hkn).1.below hb hlt
    rcases hk with rfl | rfl | rfl
    · rw [e0, ← hu, p0]
    · rw [e1, ← hu, p1]
    · rw [e2, ← hu, p2]

set_option maxHeartbeats 400000 in
theorem SpecCopy_any (lo hi : Nat) (n : Int) (v : Value) (xs : List C3) (w : World) (r : CellIn lo hi w v xs) (hhi : hi ≤ w.heap.size) :
    Calls Try.prog 59 #[.agg #[.int .i64 n, v]] w (FreshB n xs w) := by
  obtain ⟨i0, hi0, hz0, hz1, hz2⟩ := info_parts3 info_cell
  obtain ⟨a, cap, rfl⟩ := r.form
  have hl := r.1
  rcases Nat.eq_zero_or_pos xs.length with h0 | h0
  · have hx : xs = [] := List.length_eq_zero_iff.1 h0
    subst hx
    clear r hl h0
    cases a
    all_goals
      go_enter Try.func59, Try.ntmps59
      go_wp2_with fail
      go_region
      go_wp2_with fail
      refine bodyPost_ret (v := .agg #[.int .i64 n, .slice (some ⟨w.heap.size + 1 + 1, 0, none⟩) 0 0]) (by simp [results, Try.results59, go_sem]) rfl ⟨.slice (some ⟨w.heap.size + 1 + 1, 0, none⟩) 0 0, rfl, ⟨by simp, .inl ⟨rfl, _, _, rfl⟩⟩, ?_⟩
      repeat (first | exact Below.refl _ _ | refine bel_dr ?_ | refine bel_n ?_ (Nat.le_refl _) _)
  · obtain ⟨g, rfl, hg, hg1, hn⟩ := r.news h0
    have RN : ∀ W, Below w.heap.size w W → ∀ (j : Nat) u, (places xs)[j]? = some u → W.cell? ((⟨g, 0, none⟩ : Addr).add j) = some u := fun W hb => hn W (hb.mono hhi)
    have HR := Lib.hid RN
    have KP : ∀ u v : World, Below (w.heap.size + 1 + 1) u v → (u.cell? ⟨w.heap.size, 0, none⟩ = some (.int .i64 n) ∧ u.cell? ⟨w.heap.size, 1, none⟩ = some (.slice (some ⟨g, 0, none⟩) xs.length cap)) → (v.cell? ⟨w.heap.size, 0, none⟩ = some (.int .i64 n) ∧ v.cell? ⟨w.heap.size, 1, none⟩ = some (.slice (some ⟨g, 0, none⟩) xs.length cap)) :=
      fun u v hb h => ⟨(hb.cell (p := ⟨w.heap.size, 0, none⟩) (Nat.lt_succ_of_lt (Nat.lt_succ_self _))).trans h.1, (hb.cell (p := ⟨w.heap.size, 1, none⟩) (Nat.lt_succ_of_lt (Nat.lt_succ_self _))).trans h.2⟩
    have HO : ∀ W : World, W.heap.size = w.heap.size + 1 + 1 → (W.alloc (.cells #[] 41)).ownsRow (w.heap.size + 1 + 1) 41 3 (.slice (some ⟨w.heap.size + 1 + 1, 0, none⟩) 0 0) 0 [] := by intro W h; rw [← h]; exact own_new3 _ _
    clear r hn RN
    go_enter Try.func59, Try.ntmps59
    go_wp2_with fail
    go_region_held3 (fun w' => w'.cell? ⟨w.heap.size, 0, none⟩ = some (.int .i64 n) ∧ w'.cell? ⟨w.heap.size, 1, none⟩ = some (.slice (some ⟨g, 0, none⟩) xs.length cap)) (first | (refine KP _ _ (by assumption) ?_; assumption) | go_keep)
      ((refine step_append_lies _ (by rfl) _ _ _ (by rfl) (w.heap.size + 1 + 1) 41 i0 _ 3 24 Try.underlying24 hi0 hz0 hz1 hz2 rfl (by omega) _ 0 _ (by rfl) (HO _ (by simp)) ⟨g, 0, none⟩ xs.length cap (places xs) (by rfl) (places_length xs) (HR.out _ (bel_n (bel_dr (bel_n (bel0 _ _) (Nat.le_refl _) _)) (Nat.le_refl _) _)) (places_one xs) h0 (by unfold maxLen; omega) (by omega) (by simp) (w.heap.size + 1 + 1 + 1) (by simp) ?_; intro gg cc w1 hown1 hgrow hat hlt1; have hbw := (Below.refl (w.heap.size + 1 + 1) _).grown hgrow (by simp) (by intro k hk; simp [Value.ownBlock] at hk; omega); have d0 := (hbw.cell (p := ⟨w.heap.size + 1, 0, none⟩) (Nat.lt_succ_self _)).trans (show _ = some (Value.int .i64 0) by go_simp); have d1 := (hbw.cell (p := ⟨w.heap.size + 1, 1, none⟩) (Nat.lt_succ_self _)).trans (show _ = some (Value.slice none 0 0) by go_simp); have g0 := (hbw.frozen (p := ⟨w.heap.size + 1, 0, none⟩) (Nat.lt_succ_self _)).trans (show _ = false by go_simp); have g1 := (hbw.frozen (p := ⟨w.heap.size + 1, 1, none⟩) (Nat.lt_succ_self _)).trans (show _ = false by go_simp)))
    have hB : Below w.heap.size w w1 := (bel_dr (bel_n (bel_n (bel0 w _) (Nat.le_refl _) _) (Nat.le_refl _) _)).trans (hbw.mono (by omega))
    have hin : CellIn (w.heap.size + 1 + 1) w1.heap.size w1 (.slice (some ⟨gg, 0, none⟩) xs.length cc) xs := CellIn.of_owns (xs := xs) (by simpa using hown1) hl
    have HI := Lib.hid hin
    have HBB := Lib.hid hB
    clear hin hB hbw hown1 hgrow hat hlt1 KP HO HR
    go_wp2_with fail
    refine bodyPost_ret (v := .agg #[.int .i64 n, .slice (some ⟨gg, 0, none⟩) xs.length cc]) (by simp [results, Try.results59, go_sem, d0, d1]) rfl ⟨.slice (some ⟨gg, 0, none⟩) xs.length cc, rfl, ?_, ?_⟩
    · refine CellIn.wide (lo := w.heap.size + 1 + 1) (hi := w1.heap.size) ?_ (by omega) (by simp [World.setCell])
      refine CellIn.set_far (CellIn.set_far HI.out ?_ _) ?_ _ <;> (simp <;> omega)
    · refine Below.setCell (Below.setCell HBB.out ?_ _) ?_ _ <;> (simp <;> omega)

end Go.Proofs.Ytndffjphdlncpaa

namespace Go.Proofs.Ytndffjphdlncpaa
open Go.ChangeShapes Go.WideShapes Go.ChangeAt Go.RowKit

theorem SpecOk_yes (s a b : Int) (w : World) (k : OkC s a b) :
    Calls Try.prog 51 #[.agg #[.int .i64 s, .int .i64 a, .int .i64 b]] w fun e w' => e = .returned (.bool true) ∧ Below w.heap.size w w' := by
  refine (SpecOk_any s a b w).mono ?_
  rintro e w' ⟨rfl, rfl⟩
  exact ⟨ret_bool (decide_eq_true k), bel0 _ _⟩
theorem SpecOk_no (s a b : Int) (w : World) (k : ¬ OkC s a b) :
    Calls Try.prog 51 #[.agg #[.int .i64 s, .int .i64 a, .int .i64 b]] w fun e w' => e = .returned (.bool false) ∧ Below w.heap.size w w' := by
  refine (SpecOk_any s a b w).mono ?_
  rintro e w' ⟨rfl, rfl⟩
  exact ⟨ret_bool (decide_eq_false k), bel0 _ _⟩

/-- A new block and a truth value are handed back. -/
def FreshBB (n : Int) (ys : List C3) (ok : Bool) (w : World) (e : Ending) (w' : World) : Prop := ∃ v, e = .returned (.tuple #[.agg #[.int .i64 n, v], .bool ok]) ∧ CellIn w.heap.size w'.heap.size w' v ys ∧ Below w.heap.size w w'
/-- What WithCell makes. -/
noncomputable def withC (n : Int) (xs : List C3) (x y : Int) (c : C3) : List C3 := @ite _ (BlkOk n xs ∧ c.Ok ∧ InB n x y) (Classical.propDecidable _) (xs.set (y * n + x).toNat c) xs
noncomputable def withB (n : Int) (xs : List C3) (x y : Int) (c : C3) : Bool := @decide (BlkOk n xs ∧ c.Ok ∧ InB n x y) (Classical.propDecidable _)
theorem with_yes {n : Int} {xs : List C3} {x y : Int} {c : C3} (h : BlkOk n xs ∧ c.Ok ∧ InB n x y) : withC n xs x y c = xs.set (y * n + x).toNat c ∧ withB n xs x y c = true := ⟨if_pos h, by unfold withB; simp [h]⟩
theorem with_no {n : Int} {xs : List C3} {x y : Int} {c : C3} (h : ¬ (BlkOk n xs ∧ c.Ok ∧ InB n x y)) : withC n xs x y c = xs ∧ withB n xs x y c = false := ⟨if_neg h, by unfold withB; simp [h]⟩

/-- What the walk keeps in view: the argument's box, the cell's, the answer's, the copy's. -/
def SW (p q : Nat) (n s a b : Int) (sl cp : Value) (u : World) : Prop :=
  u.cell? ⟨p, 0, none⟩ = some (.int .i64 n) ∧ u.cell? ⟨p, 1, none⟩ = some sl ∧
  u.cell? ⟨p + 1, 0, none⟩ = some (.int .i64 s) ∧ u.cell? ⟨p + 1, 1, none⟩ = some (.int .i64 a) ∧ u.cell? ⟨p + 1, 2, none⟩ = some (.int .i64 b) ∧
  u.cell? ⟨p + 1 + 1, 0, none⟩ = some (.int .i64 0) ∧ u.cell? ⟨p + 1 + 1, 1, none⟩ = some (.slice none 0 0) ∧ u.frozen? ⟨p + 1 + 1, 0, none⟩ = false ∧ u.frozen? ⟨p + 1 + 1, 1, none⟩ = false ∧
  u.cell? ⟨q, 0, none⟩ = some (.int .i64 n) ∧ u.cell? ⟨q, 1, none⟩ = some cp
theorem SW.keep {p q : Nat} {n s a b : Int} {sl cp : Value} {u v : World} (h : SW p q n s a b sl cp u) (hb : Below u.heap.size u v) : SW p q n s a b sl cp v := by
  obtain ⟨h0, h1, h2, h3, h4, h5, h6, f5, f6, h7, h8⟩ := h
  exact ⟨kept hb h0, kept hb h1, kept hb h2, kept hb h3, kept hb h4, kept hb h5, kept hb h6, keptF hb h5 f5, keptF hb h6 f6, kept hb h7, kept hb h8⟩

end Go.Proofs.Ytndffjphdlncpaa
