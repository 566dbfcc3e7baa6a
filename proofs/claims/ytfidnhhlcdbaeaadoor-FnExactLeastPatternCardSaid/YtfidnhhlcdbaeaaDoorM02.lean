/- Rows of cells, and blocks: compared. A relation of worlds: of the old blocks only those of one span may have changed. Rows of cells, and blocks: marked, and held against the marks. Blocks: marks from one on; what stays in view in the walks of the laws. -/
import Derived.Test.YtfidnhhlcdbaeaaDoorM01
import Derived.Deep.RegionHeld3
import Derived.Test.YtfidnhhlcdbaeaaDoorM00

namespace Go.Proofs.YtfidnhhlcdbaeaaDoor
open Go.ChangeShapes Go.WideShapes Go.ChangeAt Go.RowKit

set_option maxHeartbeats 400000 in
theorem EqCellS_any (l1 h1 l2 h2 : Nat) (v1 v2 : Value) (xs : List C3) (w : World) (r1 : CellIn l1 h1 w v1 xs) (r2 : CellIn l2 h2 w v2 xs) (hh1 : h1 ≤ w.heap.size) (hh2 : h2 ≤ w.heap.size) :
    Calls Tryd.prog 33 #[v1, v2] w fun e w' => e = .returned (.bool true) ∧ Below w.heap.size w w' := by
  obtain ⟨a1, c1, rfl⟩ := r1.form
  obtain ⟨a2, c2, rfl⟩ := r2.form
  have R1 := Lib.hid r1
  have R2 := Lib.hid r2
  have hl := r1.1
  clear r1 r2
  go_enter Tryd.func33, Tryd.ntmps33
  go_wp2_with fail
  go_loopw [5] (fun i wr => ∃ k : Nat, k ≤ xs.length ∧ i = .int .i64 k ∧ Below w.heap.size w wr) (fun i _ => xs.length - (intOf i).toNat)
  case atStart => exact ⟨0, Nat.zero_le _, rfl, Below.refl _ _⟩
  case round =>
    obtain ⟨k, hk, rfl, hbel⟩ := hrel
    by_cases hlt : k < xs.length
    · obtain ⟨g1, rfl, _, hg1, ⟨e0, e1, e2⟩, _⟩ := R1.out.at (hbel.mono hh1) hlt
      obtain ⟨g2, rfl, _, hg2, ⟨d0, d1, d2⟩, _⟩ := R2.out.at (hbel.mono hh2) hlt
      generalize xs.getD k C3.zero = c at e0 e1 e2 d0 d1 d2
      have KP : ∀ u v, Below u.heap.size u v → (u.cell? ⟨g1, k * 3, none⟩ = some (.int .i64 c.s) ∧ u.cell? ⟨g1, k * 3 + 1, none⟩ = some (.int .i64 c.a) ∧ u.cell? ⟨g1, k * 3 + 2, none⟩ = some (.int .i64 c.b) ∧ u.cell? ⟨g2, k * 3, none⟩ = some (.int .i64 c.s) ∧ u.cell? ⟨g2, k * 3 + 1, none⟩ = some (.int .i64 c.a) ∧ u.cell? ⟨g2, k * 3 + 2, none⟩ = some (.int .i64 c.b)) → (v.cell? ⟨g1, k * 3, none⟩ = some (.int .i64 c.s) ∧ v.cell? ⟨g1, k * 3 + 1, none⟩ = some (.int .i64 c.a) ∧ v.cell? ⟨g1, k * 3 + 2, none⟩ = some (.int .i64 c.b) ∧ v.cell? ⟨g2, k * 3, none⟩ = some (.int .i64 c.s) ∧ v.cell? ⟨g2, k * 3 + 1, none⟩ = some (.int .i64 c.a) ∧ v.cell? ⟨g2, k * 3 + 2, none⟩ = some (.int .i64 c.b)) := fun u v hb h => ⟨kept hb h.1, kept hb h.2.1, kept hb h.2.2.1, kept hb h.2.2.2.1, kept hb h.2.2.2.2.1, kept hb h.2.2.2.2.2⟩
      go_wp2_with fail
      go_region_held3 (fun w' => w'.cell? ⟨g1, k * 3, none⟩ = some (.int .i64 c.s) ∧ w'.cell? ⟨g1, k * 3 + 1, none⟩ = some (.int .i64 c.a) ∧ w'.cell? ⟨g1, k * 3 + 2, none⟩ = some (.int .i64 c.b) ∧ w'.cell? ⟨g2, k * 3, none⟩ = some (.int .i64 c.s) ∧ w'.cell? ⟨g2, k * 3 + 1, none⟩ = some (.int .i64 c.a) ∧ w'.cell? ⟨g2, k * 3 + 2, none⟩ = some (.int .i64 c.b)) (first | (refine KP _ _ (by assumption) ?_; assumption) | go_keep)
        ((go_at_call 57; refine (EqCell_same _ _ _ _).mono ?_; rintro e w1 ⟨rfl, hb1⟩))
      have HB : Below w.heap.size w w1 := bel_c hbel (Nat.le_refl _) ((⟨rfl, rfl, rfl, Nat.le_refl _, fun _ _ => rfl⟩ : Below wr.heap.size wr wr.drew).trans hb1)
      have HBh := Lib.hid HB
      clear HB hb1 KP
      go_wp2_with fail
      go_roundw
      case rel => exact ⟨k + 1, by omega, by go_num, HBh.out⟩
      case measure => simp [intOf] <;> omega
    · obtain rfl : k = xs.length := by omega
      go_wp2_with fail
      go_ret
      exact ⟨rfl, hbel⟩

theorem EqBlock_any (l1 h1 l2 h2 : Nat) (n : Int) (v1 v2 : Value) (xs : List C3) (w : World) (r1 : CellIn l1 h1 w v1 xs) (r2 : CellIn l2 h2 w v2 xs) (hh1 : h1 ≤ w.heap.size) (hh2 : h2 ≤ w.heap.size) :
    Calls Tryd.prog 12 #[.agg #[.int .i64 n, v1], .agg #[.int .i64 n, v2]] w fun e w' => e = .returned (.bool true) ∧ Below w.heap.size w w' := by
  obtain ⟨a1, c1, rfl⟩ := r1.form
  obtain ⟨a2, c2, rfl⟩ := r2.form
  have R1 : ∀ o1 o2, Hid (CellIn l1 h1 ((w.alloc o1).alloc o2) (.slice a1 xs.length c1) xs) := fun o1 o2 => Lib.hid (r1.below ((bel_n (bel0 w o1) (Nat.le_refl _) o2).mono hh1))
  have R2 : ∀ o1 o2, Hid (CellIn l2 h2 ((w.alloc o1).alloc o2) (.slice a2 xs.length c2) xs) := fun o1 o2 => Lib.hid (r2.below ((bel_n (bel0 w o1) (Nat.le_refl _) o2).mono hh2))
  clear r1 r2
  go_enter Tryd.func12, Tryd.ntmps12
  go_wp2_with fail
  refine (EqCellS_any l1 h1 l2 h2 _ _ xs _ (R1 _ _).out (R2 _ _).out (by simp; omega) (by simp; omega)).mono ?_
  rintro e w1 ⟨rfl, hb1⟩
  go_wp2_with fail
  go_ret
  exact ⟨rfl, bel_c (bel_n (bel0 w _) (Nat.le_refl _) _) (Nat.le_refl _) hb1⟩

end Go.Proofs.YtfidnhhlcdbaeaaDoor

namespace Go.Proofs.YtfidnhhlcdbaeaaDoor
open Go.RowKit

/-- Of the blocks that stood, only those from lo on, below hi, may have changed. -/
structure Within (lo hi : Nat) (w w' : World) : Prop where
  os : w'.os = w.os
  tape : w'.tape = w.tape
  output : w'.output = w.output
  size : w.heap.size ≤ w'.heap.size
  block : ∀ k, k < w.heap.size → (k < lo ∨ hi ≤ k) → w'.heap[k]? = w.heap[k]?
theorem Within.refl (lo hi : Nat) (w : World) : Within lo hi w w := ⟨rfl, rfl, rfl, Nat.le_refl _, fun _ _ _ => rfl⟩
theorem Within.trans {lo hi : Nat} {u v w : World} (h : Within lo hi u v) (k : Within lo hi v w) : Within lo hi u w :=
  ⟨k.os.trans h.os, k.tape.trans h.tape, k.output.trans h.output, Nat.le_trans h.size k.size, fun i hi ho => (k.block i (by have := h.size; omega) ho).trans (h.block i hi ho)⟩
theorem Within.of_below {lo hi : Nat} {u w : World} (h : Below u.heap.size u w) : Within lo hi u w := ⟨h.os, h.tape, h.output, h.size, fun k hk _ => h.block k hk⟩
theorem Within.setCell {lo hi : Nat} {u w : World} (h : Within lo hi u w) {p : Addr} (h0 : lo ≤ p.block) (h1 : p.block < hi) (v : Value) : Within lo hi u (w.setCell p v) :=
  ⟨h.os, h.tape, h.output, by simp [World.setCell]; exact h.size, fun k hk ho => by rw [Below.heap_setCell _ _ _ _ (by omega)]; exact h.block k hk ho⟩
theorem Within.below {lo hi : Nat} {u w : World} (h : Within lo hi u w) (hl : lo ≤ u.heap.size) : Below lo u w := ⟨h.os, h.tape, h.output, h.size, fun k hk => h.block k (by omega) (.inl hk)⟩
theorem Within.cell {lo hi : Nat} {u w : World} (h : Within lo hi u w) {p : Addr} {x : Value} (hc : u.cell? p = some x) (ho : p.block < lo ∨ hi ≤ p.block) : w.cell? p = some x :=
  (World.cell?_of_block (w := u) (h.block p.block (lt_of_cell hc) ho)).trans hc

end Go.Proofs.YtfidnhhlcdbaeaaDoor

namespace Go.Proofs.YtfidnhhlcdbaeaaDoor
open Go.ChangeShapes Go.WideShapes Go.ChangeAt Go.RowKit

theorem CellIn.within {lo hi l2 h2 : Nat} {u w : World} {v : Value} {xs : List C3} (r : CellIn l2 h2 u v xs) (h : Within lo hi u w) (ho : h2 ≤ lo ∨ hi ≤ l2) (hh : h2 ≤ u.heap.size) : CellIn l2 h2 w v xs := by
  obtain ⟨hl, r | ⟨g, cap, hv, hg, hlt, hc⟩⟩ := r
  · exact ⟨hl, .inl r⟩
  · refine ⟨hl, .inr ⟨g, cap, hv, hg, hlt, fun i hi => ?_⟩⟩
    have hb : w.heap[g]? = u.heap[g]? := h.block g (by omega) (by omega)
    obtain ⟨⟨e0, e1, e2⟩, f0, f1, f2⟩ := hc i hi
    exact ⟨⟨(World.cell?_of_block (w := u) hb).trans e0, (World.cell?_of_block (w := u) hb).trans e1, (World.cell?_of_block (w := u) hb).trans e2⟩,
      (World.frozen?_of_block (w := u) hb).trans f0, (World.frozen?_of_block (w := u) hb).trans f1, (World.frozen?_of_block (w := u) hb).trans f2⟩

/-- The marks from k on. -/
def markC (k n : Nat) : List C3 := (List.range n).map fun i => ⟨((k + 3 * i : Nat) : Int), ((k + 3 * i + 1 : Nat) : Int), ((k + 3 * i + 2 : Nat) : Int)⟩
theorem markC_length (k n : Nat) : (markC k n).length = n := by simp [markC]
theorem markC_at {k n i : Nat} (h : i < n) : (markC k n).getD i C3.zero = ⟨((k + 3 * i : Nat) : Int), ((k + 3 * i + 1 : Nat) : Int), ((k + 3 * i + 2 : Nat) : Int)⟩ := by simp [markC, List.getD, h]

set_option maxHeartbeats 400000 in
theorem MarkCellS_any (lo hi : Nat) (v : Value) (xs : List C3) (k : Nat) (w : World) (r : CellIn lo hi w v xs) (hk1 : k ≤ 100000000) :
    Calls Tryd.prog 34 #[v, .int .i64 k] w fun e w' => e = .returned (.int .i64 ((k + 3 * xs.length : Nat) : Int)) ∧ CellIn lo hi w' v (markC k xs.length) ∧ Within lo hi w w' := by
  obtain ⟨a1, c1, rfl⟩ := r.form
  have R := Lib.hid r
  have hl := r.1
  clear r
  go_enter Tryd.func34, Tryd.ntmps34
  go_wp2_with fail
  go_loopw [1, 5] (fun q i wr => ∃ (m : Nat) (ys : List C3), m ≤ xs.length ∧ i = .int .i64 m ∧ q = .int .i64 ((k + 3 * m : Nat) : Int) ∧ Hid (UpTo m (markC k xs.length) ys) ∧ Hid (CellIn lo hi wr (.slice a1 xs.length c1) ys) ∧ Within lo hi w wr) (fun _ i _ => xs.length - (intOf i).toNat)
  case atStart => exact ⟨0, xs, Nat.zero_le _, rfl, rfl, ⟨by simp [markC], fun i hi => by omega⟩, R.out, Within.refl _ _ _⟩
  case round =>
    obtain ⟨m, ys, hm, rfl, rfl, hup, hin, hbel⟩ := hrel
    by_cases hlt : m < xs.length
    · have hyl : ys.length = xs.length := by have := hup.out.1; rw [markC_length] at this; exact this
      obtain ⟨g, rfl, hg, hg1, ⟨e0, e1, e2⟩, f0, f1, f2⟩ := hin.out.at (Below.refl _ _) (i := m) (by omega)
      have HN := Lib.hid (hin.out.set m (by omega) ((k + 3 * m : Nat) : Int) ((k + 3 * m + 1 : Nat) : Int) ((k + 3 * m + 2 : Nat) : Int))
      have HU := Lib.hid (hup.out.set (c := ⟨((k + 3 * m : Nat) : Int), ((k + 3 * m + 1 : Nat) : Int), ((k + 3 * m + 2 : Nat) : Int)⟩) (by rw [markC_length]; exact hlt) (markC_at hlt).symm)
      have HB := Lib.hid (Within.setCell (Within.setCell (Within.setCell hbel (p := ⟨g, m * 3, none⟩) hg hg1 (.int .i64 ((k + 3 * m : Nat) : Int))) (p := ⟨g, m * 3 + 1, none⟩) hg hg1 (.int .i64 ((k + 3 * m + 1 : Nat) : Int))) (p := ⟨g, m * 3 + 2, none⟩) hg hg1 (.int .i64 ((k + 3 * m + 2 : Nat) : Int)))
      generalize ys.getD m C3.zero = y at e0 e1 e2
      clear hbel hup hin
      go_wp2_with fail
      go_roundw
      case rel => exact ⟨m + 1, _, by omega, by go_num, by go_num, HU, HN, HB.out⟩
      case measure => simp [intOf] <;> omega
    · obtain rfl : m = xs.length := by omega
      go_wp2_with fail
      go_ret
      refine ⟨rfl, ?_, hbel⟩
      have h1 := hup.out
      have h2 : ys = markC k xs.length := UpTo.all (by rw [markC_length]; exact h1)
      rw [← h2]; exact hin.out

set_option maxHeartbeats 400000 in
theorem HeldCellS_any (lo hi : Nat) (v : Value) (n k : Nat) (w : World) (r : CellIn lo hi w v (markC k n)) (hk1 : k ≤ 100000000) :
    Calls Tryd.prog 35 #[v, .int .i64 k] w fun e w' => e = .returned (.int .i64 ((k + 3 * n : Nat) : Int)) ∧ w' = w := by
  have hl := r.1
  have hf := r.form
  rw [markC_length] at hl hf
  obtain ⟨a1, c1, rfl⟩ := hf
  have R := Lib.hid r
  clear r
  go_enter Tryd.func35, Tryd.ntmps35
  go_wp2_with fail
  go_loop [1, 5] (fun q i => ∃ m : Nat, m ≤ n ∧ i = .int .i64 m ∧ q = .int .i64 ((k + 3 * m : Nat) : Int)) (fun _ i => n - (intOf i).toNat)
  case atStart => exact ⟨0, Nat.zero_le _, rfl, rfl⟩
  case round =>
    obtain ⟨m, hm, rfl, rfl⟩ := hrel
    by_cases hlt : m < n
    · obtain ⟨g, rfl, _, _, ⟨e0, e1, e2⟩, _⟩ := R.out.at (Below.refl _ _) (i := m) (by rw [markC_length]; exact hlt)
      rw [markC_at hlt] at e0 e1 e2
      simp only at e0 e1 e2
      go_wp2_with fail
      go_round
      case rel => exact ⟨m + 1, by omega, by go_num, by go_num⟩
      case measure => simp [intOf] <;> omega
    · obtain rfl : m = n := by omega
      go_wp2_with fail
      go_ret
      exact ⟨rfl, rfl⟩

theorem MarkBlock_any (lo hi : Nat) (n : Int) (v : Value) (xs : List C3) (k : Nat) (w : World) (r : CellIn lo hi w v xs) (hhi : hi ≤ w.heap.size) (hk1 : k ≤ 100000000) :
    Calls Tryd.prog 13 #[.agg #[.int .i64 n, v], .int .i64 k] w fun e w' => e = .returned (.int .i64 ((k + 3 * xs.length : Nat) : Int)) ∧ CellIn lo hi w' v (markC k xs.length) ∧ Within lo hi w w' := by
  obtain ⟨a1, c1, rfl⟩ := r.form
  have R : ∀ o, Hid (CellIn lo hi (w.alloc o) (.slice a1 xs.length c1) xs) := fun o => Lib.hid (r.below ((bel0 w o).mono hhi))
  clear r
  go_enter Tryd.func13, Tryd.ntmps13
  go_wp2_with fail
  refine (MarkCellS_any lo hi _ xs k _ (R _).out hk1).mono ?_
  rintro e w1 ⟨rfl, hin, hb1⟩
  go_wp2_with fail
  go_ret
  exact ⟨rfl, hin, (Within.of_below (bel0 w _)).trans hb1⟩
theorem HeldBlock_any (lo hi : Nat) (m : Int) (v : Value) (n k : Nat) (w : World) (r : CellIn lo hi w v (markC k n)) (hhi : hi ≤ w.heap.size) (hk1 : k ≤ 100000000) :
    Calls Tryd.prog 14 #[.agg #[.int .i64 m, v], .int .i64 k] w fun e w' => e = .returned (.int .i64 ((k + 3 * n : Nat) : Int)) ∧ Below w.heap.size w w' := by
  have hf := r.form
  rw [markC_length] at hf
  obtain ⟨a1, c1, rfl⟩ := hf
  have R : ∀ o, Hid (CellIn lo hi (w.alloc o) (.slice a1 n c1) (markC k n)) := fun o => Lib.hid (r.below ((bel0 w o).mono hhi))
  clear r
  go_enter Tryd.func14, Tryd.ntmps14
  go_wp2_with fail
  refine (HeldCellS_any lo hi _ n k _ (R _).out hk1).mono ?_
  rintro e w1 ⟨rfl, rfl⟩
  go_wp2_with fail
  go_ret
  exact ⟨rfl, bel0 _ _⟩

end Go.Proofs.YtfidnhhlcdbaeaaDoor

namespace Go.Proofs.YtfidnhhlcdbaeaaDoor
open Go.ChangeShapes Go.WideShapes Go.ChangeAt Go.RowKit

/-- The number behind the last mark. -/
def mkN (xs : List C3) : Int := ((1 + 3 * xs.length : Nat) : Int)
theorem mkN_pos (xs : List C3) : ¬ mkN xs < 0 := by unfold mkN; omega
theorem MarkOne (lo hi : Nat) (n : Int) (v : Value) (xs : List C3) (w : World) (r : CellIn lo hi w v xs) (hhi : hi ≤ w.heap.size) :
    Calls Tryd.prog 13 #[.agg #[.int .i64 n, v], .int .i64 1] w fun e w' => e = .returned (.int .i64 (mkN xs)) ∧ CellIn lo hi w' v (markC 1 xs.length) ∧ Within lo hi w w' :=
  MarkBlock_any lo hi n v xs 1 w r hhi (by omega)
theorem HeldOne (lo hi : Nat) (n : Int) (v : Value) (xs : List C3) (w : World) (r : CellIn lo hi w v (markC 1 xs.length)) (hhi : hi ≤ w.heap.size) :
    Calls Tryd.prog 14 #[.agg #[.int .i64 n, v], .int .i64 1] w fun e w' => e = .returned (.int .i64 (mkN xs)) ∧ Below w.heap.size w w' :=
  HeldBlock_any lo hi n v xs.length 1 w r hhi (by omega)

/-- Two places of a block. -/
def Two (p : Nat) (x y : Value) (u : World) : Prop := u.cell? ⟨p, 0, none⟩ = some x ∧ u.cell? ⟨p, 1, none⟩ = some y
theorem Two.keep {p : Nat} {x y : Value} {u v : World} (h : Two p x y u) (hb : Below u.heap.size u v) : Two p x y v := ⟨kept hb h.1, kept hb h.2⟩
theorem Two.new (w : World) (x y : Value) (T : TypeId) : Two w.heap.size x y (w.alloc (.cells #[x, y] T)) := ⟨by simp, by simp⟩
theorem Two.within {p lo hi : Nat} {x y : Value} {u v : World} (h : Two p x y u) (hb : Within lo hi u v) (ho : p < lo ∨ hi ≤ p) : Two p x y v := ⟨hb.cell h.1 ho, hb.cell h.2 ho⟩
def Three (p : Nat) (c : C3) (u : World) : Prop := u.cell? ⟨p, 0, none⟩ = some (.int .i64 c.s) ∧ u.cell? ⟨p, 1, none⟩ = some (.int .i64 c.a) ∧ u.cell? ⟨p, 2, none⟩ = some (.int .i64 c.b)
theorem Three.keep {p : Nat} {c : C3} {u v : World} (h : Three p c u) (hb : Below u.heap.size u v) : Three p c v := ⟨kept hb h.1, kept hb h.2.1, kept hb h.2.2⟩
theorem Three.new (w : World) (c : C3) (T : TypeId) : Three w.heap.size c (w.alloc (.cells #[.int .i64 c.s, .int .i64 c.a, .int .i64 c.b] T)) := by
  refine ⟨?_, ?_, ?_⟩ <;> simp
theorem bel_w {b lo hi : Nat} {w u v : World} (h : Below b w u) (hb : b ≤ w.heap.size) (k : Within lo hi u v) (hl : b ≤ lo) : Below b w v :=
  ⟨k.os.trans h.os, k.tape.trans h.tape, k.output.trans h.output, Nat.le_trans h.size k.size, fun i hi => (k.block i (by have := h.size; omega) (.inl (by omega))).trans (h.block i hi)⟩

end Go.Proofs.YtfidnhhlcdbaeaaDoor
