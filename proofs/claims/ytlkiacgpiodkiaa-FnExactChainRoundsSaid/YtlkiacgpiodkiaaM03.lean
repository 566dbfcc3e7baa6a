/- Blocks: their size in the law, and taken from the law's own type. Rows of joins: compared by their fields. A relation of worlds: of the old blocks only those of one span may have changed. -/
import Derived.Test.YtlkiacgpiodkiaaM02
import Derived.Deep.RegionHeld3
import Derived.Test.YtlkiacgpiodkiaaM00

set_option linter.unusedSimpArgs false
set_option linter.unusedVariables false
namespace Go.Proofs.Ytlkiacgpiodkiaa
open Go.ChangeShapes Go.WideShapes Go.ChangeAt Go.RowKit

theorem bel0 (w : World) (o : Obj) : Below w.heap.size w (w.alloc o) := (Below.refl _ _).alloc (Nat.le_refl _) o
theorem bel_n {b : Nat} {w u : World} (h : Below b w u) (hb : b ≤ w.heap.size) (o : Obj) : Below b w (u.alloc o) := h.alloc (Nat.le_trans hb h.size) _
theorem bel_c {b : Nat} {w u v : World} (h : Below b w u) (hb : b ≤ w.heap.size) (k : Below u.heap.size u v) : Below b w v := h.trans (k.mono (Nat.le_trans hb h.size))
theorem kept {u v : World} {p : Addr} {x : Value} (hb : Below u.heap.size u v) (h : u.cell? p = some x) : v.cell? p = some x :=
  (World.cell?_of_block (hb.block p.block (lt_of_cell h))).trans h
theorem keptF {u v : World} {p : Addr} {x : Value} (hb : Below u.heap.size u v) (h : u.cell? p = some x) (hf : u.frozen? p = false) : v.frozen? p = false :=
  (World.frozen?_of_block (hb.block p.block (lt_of_cell h))).trans hf

/-- A new block is handed back. -/
def FreshB (n : Int) (xs : List C3) (w : World) (e : Ending) (w' : World) : Prop := ∃ v, e = .returned (.agg #[.int .i64 n, v]) ∧ CellIn w.heap.size w'.heap.size w' v xs ∧ Below w.heap.size w w'

end Go.Proofs.Ytlkiacgpiodkiaa

set_option linter.unusedSimpArgs false
set_option linter.unusedVariables false
namespace Go.Proofs.Ytlkiacgpiodkiaa
open Go.ChangeShapes Go.WideShapes Go.ChangeAt Go.RowKit

theorem EqJn_same (x0 : Bool) (x1 : Int) (x2 : Int) (w : World) :
    Calls Try.prog 46 #[.agg #[.bool x0, .int .i64 x1, .int .i64 x2], .agg #[.bool x0, .int .i64 x1, .int .i64 x2]] w fun e w' => e = .returned (.bool true) ∧ Below w.heap.size w w' := by
  go_enter Try.func46, Try.ntmps46
  go_wp2
  go_ret
  exact ⟨rfl, ((Below.refl _ _).alloc (Nat.le_refl _) _).alloc (by simp) _⟩

set_option maxHeartbeats 800000 in
theorem EqJnS_any (l1 h1 l2 h2 : Nat) (v1 v2 : Value) (xs : List J3) (w : World) (r1 : JnIn l1 h1 w v1 xs) (r2 : JnIn l2 h2 w v2 xs) (hh1 : h1 ≤ w.heap.size) (hh2 : h2 ≤ w.heap.size) :
    Calls Try.prog 20 #[v1, v2] w fun e w' => e = .returned (.bool true) ∧ Below w.heap.size w w' := by
  obtain ⟨a1, c1, rfl⟩ := r1.form
  obtain ⟨a2, c2, rfl⟩ := r2.form
  have R1 := Lib.hid r1
  have R2 := Lib.hid r2
  have hl := r1.1
  clear r1 r2
  go_enter Try.func20, Try.ntmps20
  go_wp2_with fail
  go_loopw [5] (fun i wr => ∃ k : Nat, k ≤ xs.length ∧ i = .int .i64 k ∧ Below w.heap.size w wr) (fun i _ => xs.length - (intOf i).toNat)
  case atStart => exact ⟨0, Nat.zero_le _, rfl, Below.refl _ _⟩
  case round =>
    obtain ⟨k, hk, rfl, hbel⟩ := hrel
    by_cases hlt : k < xs.length
    · obtain ⟨g1, rfl, _, hg1, ⟨e0, e1, e2⟩, _⟩ := R1.out.at (hbel.mono hh1) hlt
      obtain ⟨g2, rfl, _, hg2, ⟨d0, d1, d2⟩, _⟩ := R2.out.at (hbel.mono hh2) hlt
      generalize xs.getD k J3.zero = c at e0 e1 e2 d0 d1 d2
      have KP : ∀ u v, Below u.heap.size u v → (u.cell? ⟨g1, k * 3, none⟩ = some (.bool c.up) ∧ u.cell? ⟨g1, k * 3 + 1, none⟩ = some (.int .i64 c.a) ∧ u.cell? ⟨g1, k * 3 + 2, none⟩ = some (.int .i64 c.b) ∧ u.cell? ⟨g2, k * 3, none⟩ = some (.bool c.up) ∧ u.cell? ⟨g2, k * 3 + 1, none⟩ = some (.int .i64 c.a) ∧ u.cell? ⟨g2, k * 3 + 2, none⟩ = some (.int .i64 c.b)) → (v.cell? ⟨g1, k * 3, none⟩ = some (.bool c.up) ∧ v.cell? ⟨g1, k * 3 + 1, none⟩ = some (.int .i64 c.a) ∧ v.cell? ⟨g1, k * 3 + 2, none⟩ = some (.int .i64 c.b) ∧ v.cell? ⟨g2, k * 3, none⟩ = some (.bool c.up) ∧ v.cell? ⟨g2, k * 3 + 1, none⟩ = some (.int .i64 c.a) ∧ v.cell? ⟨g2, k * 3 + 2, none⟩ = some (.int .i64 c.b)) := fun u v hb h => ⟨kept hb h.1, kept hb h.2.1, kept hb h.2.2.1, kept hb h.2.2.2.1, kept hb h.2.2.2.2.1, kept hb h.2.2.2.2.2⟩
      go_wp2_with fail
      go_region_held3 (fun w' => w'.cell? ⟨g1, k * 3, none⟩ = some (.bool c.up) ∧ w'.cell? ⟨g1, k * 3 + 1, none⟩ = some (.int .i64 c.a) ∧ w'.cell? ⟨g1, k * 3 + 2, none⟩ = some (.int .i64 c.b) ∧ w'.cell? ⟨g2, k * 3, none⟩ = some (.bool c.up) ∧ w'.cell? ⟨g2, k * 3 + 1, none⟩ = some (.int .i64 c.a) ∧ w'.cell? ⟨g2, k * 3 + 2, none⟩ = some (.int .i64 c.b)) (first | (refine KP _ _ (by assumption) ?_; assumption) | go_keep)
        ((go_at_call 46; refine (EqJn_same _ _ _ _).mono ?_; rintro e w1 ⟨rfl, hb1⟩))
      have HB : Below w.heap.size w w1 := bel_c hbel (Nat.le_refl _) ((⟨rfl, rfl, rfl, Nat.le_refl _, fun _ _ => rfl⟩ : Below wr.heap.size wr wr.drew).trans hb1)
      have HBh := Lib.hid HB
      clear HB hb1 KP
      go_wp2_with fail
      go_roundw
      case rel => exact ⟨k + 1, by omega, by go_num, HBh.out⟩
      case measure => simp [intOf] <;> omega
    · obtain rfl : k = xs.length := by omega
      go_wp2_with fail
      go_ret
      exact ⟨rfl, hbel⟩

end Go.Proofs.Ytlkiacgpiodkiaa

set_option linter.unusedSimpArgs false
set_option linter.unusedVariables false
namespace Go.Proofs.Ytlkiacgpiodkiaa
open Go.RowKit

/-- Of the blocks that stood, only those from lo on, below hi, may have changed. -/
structure Within (lo hi : Nat) (w w' : World) : Prop where
  os : w'.os = w.os
  tape : w'.tape = w.tape
  output : w'.output = w.output
  size : w.heap.size ≤ w'.heap.size
  block : ∀ k, k < w.heap.size → (k < lo ∨ hi ≤ k) → w'.heap[k]? = w.heap[k]?
theorem Within.refl (lo hi : Nat) (w : World) : Within lo hi w w := ⟨rfl, rfl, rfl, Nat.le_refl _, fun _ _ _ => rfl⟩
theorem Within.trans {lo hi : Nat} {u v w : World} (h : Within lo hi u v) (k : Within lo hi v w) : Within lo hi u w :=
  ⟨k.os.trans h.os, k.tape.trans h.tape, k.output.trans h.output, Nat.le_trans h.size k.size, fun i hi ho => (k.block i (by have := h.size; omega) ho).trans (h.block i hi ho)⟩
theorem Within.of_below {lo hi : Nat} {u w : World} (h : Below u.heap.size u w) : Within lo hi u w := ⟨h.os, h.tape, h.output, h.size, fun k hk _ => h.block k hk⟩
theorem Within.setCell {lo hi : Nat} {u w : World} (h : Within lo hi u w) {p : Addr} (h0 : lo ≤ p.block) (h1 : p.block < hi) (v : Value) : Within lo hi u (w.setCell p v) :=
  ⟨h.os, h.tape, h.output, by simp [World.setCell]; exact h.size, fun k hk ho => by rw [Below.heap_setCell _ _ _ _ (by omega)]; exact h.block k hk ho⟩
theorem Within.below {lo hi : Nat} {u w : World} (h : Within lo hi u w) (hl : lo ≤ u.heap.size) : Below lo u w := ⟨h.os, h.tape, h.output, h.size, fun k hk => h.block k (by omega) (.inl hk)⟩
theorem Within.cell {lo hi : Nat} {u w : World} (h : Within lo hi u w) {p : Addr} {x : Value} (hc : u.cell? p = some x) (ho : p.block < lo ∨ hi ≤ p.block) : w.cell? p = some x :=
  (World.cell?_of_block (w := u) (h.block p.block (lt_of_cell hc) ho)).trans hc

end Go.Proofs.Ytlkiacgpiodkiaa
