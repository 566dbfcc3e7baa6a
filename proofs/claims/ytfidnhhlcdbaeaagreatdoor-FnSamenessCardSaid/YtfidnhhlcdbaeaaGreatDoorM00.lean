/- Plain facts on masks of 64 bits, and a relation of worlds: all old blocks but one are as they were. Cells: the model's and the program's CellOk answer alike. Rows of cells: what a slice of cells holds. Rows of cells: an element stored; a row that is owned. -/
import Derived.WalkKit
import Derived.WalkSmall
import Derived.OneCell
import Derived.Laws.BitsLemmas
import Derived.OpenShut
import Derived.ProofKit
import Derived.Test.YtfidnhhlcdbaeaaGreatDoorRows
import Derived.BigQuiet
import Derived.Deep.QuietTactic
import Derived.Outline
import Derived.IntWalk
import Derived.Lib.Hide
import Derived.ShutString
import Derived.Laws.OwnMore

namespace Go.Proofs.YtfidnhhlcdbaeaaGreatDoor
open Go.RowKit

theorem i64_mask (n : Int) (m : Int) (k : Nat) (hk : k < 63) (hm : (BitVec.ofInt 64 m).toNat = 2 ^ k - 1) : 0 ≤ bits .and .i64 n m ∧ bits .and .i64 n m < 2 ^ k := by
  have key : (BitVec.ofInt 64 n &&& BitVec.ofInt 64 m).toNat = (n % ((2 ^ 64 : Nat) : Int)).toNat % 2 ^ k := by
    rw [BitVec.toNat_and, BitVec.toNat_ofInt, hm, Nat.and_two_pow_sub_one_eq_mod]
  have e : bits .and .i64 n m = IntKind.i64.wrap ((BitVec.ofInt 64 n &&& BitVec.ofInt 64 m).toNat : Nat) := rfl
  have hlt : (n % ((2 ^ 64 : Nat) : Int)).toNat % 2 ^ k < 2 ^ k := Nat.mod_lt _ (Nat.pos_of_ne_zero (by simp))
  have hle : (2 : Nat) ^ k ≤ 2 ^ 62 := Nat.pow_le_pow_right (by decide) (by omega)
  rw [e, key, IntKind.wrap_i64]
  have hc : ((2 : Int) ^ k) = ((2 ^ k : Nat) : Int) := by simp
  rw [hc]
  generalize (2 : Nat) ^ k = m at *
  omega

theorem i64_and255 (n : Int) : 0 ≤ bits .and .i64 n 255 ∧ bits .and .i64 n 255 ≤ 255 := by
  have h := i64_mask n 255 8 (by decide) (by decide)
  have e : (2 : Int) ^ 8 = 256 := by decide
  omega
theorem i64_and30 (n : Int) : 0 ≤ bits .and .i64 n 1073741823 ∧ bits .and .i64 n 1073741823 ≤ 1073741823 := by
  have h := i64_mask n 1073741823 30 (by decide) (by decide)
  have e : (2 : Int) ^ 30 = 1073741824 := by decide
  omega

/-- Every old block but b is as it was; the streams are as they were. -/
structure But (b : Nat) (w w' : World) : Prop where
  os : w'.os = w.os
  tape : w'.tape = w.tape
  output : w'.output = w.output
  size : w.heap.size ≤ w'.heap.size
  block : ∀ k, k < w.heap.size → k ≠ b → w'.heap[k]? = w.heap[k]?

theorem But.refl (b : Nat) (w : World) : But b w w := ⟨rfl, rfl, rfl, Nat.le_refl _, fun _ _ _ => rfl⟩
theorem But.trans {b : Nat} {u v w : World} (h : But b u v) (k : But b v w) : But b u w :=
  ⟨k.os.trans h.os, k.tape.trans h.tape, k.output.trans h.output, Nat.le_trans h.size k.size, fun i hi hb => (k.block i (by have := h.size; omega) hb).trans (h.block i hi hb)⟩
theorem But.drewN {b : Nat} {u w : World} (h : But b u w) (n : Nat) : But b u (w.drewN n) := h.trans ⟨rfl, rfl, rfl, Nat.le_refl _, fun _ _ _ => rfl⟩
theorem But.drew {b : Nat} {u w : World} (h : But b u w) : But b u w.drew := h.trans ⟨rfl, rfl, rfl, Nat.le_refl _, fun _ _ _ => rfl⟩
theorem But.alloc {b : Nat} {u w : World} (h : But b u w) (o : Obj) : But b u (w.alloc o) :=
  h.trans ⟨rfl, rfl, rfl, by simp, fun k hk _ => Below.heap_alloc _ _ _ hk⟩
theorem But.setCell {b : Nat} {u w : World} (h : But b u w) {p : Addr} (hp : p.block = b ∨ u.heap.size ≤ p.block) (v : Value) : But b u (w.setCell p v) :=
  ⟨h.os, h.tape, h.output, by simp [World.setCell]; exact h.size, fun k hk hb => by rw [Below.heap_setCell _ _ _ _ (by omega)]; exact h.block k hk hb⟩
theorem But.below {b B : Nat} {u w : World} (h : But b u w) (hb : B ≤ b) (hB : B ≤ u.heap.size) : Below B u w :=
  ⟨h.os, h.tape, h.output, h.size, fun k hk => h.block k (by omega) (by omega)⟩
theorem But.of_below {b : Nat} {u w : World} (h : Below u.heap.size u w) : But b u w := ⟨h.os, h.tape, h.output, h.size, fun k hk _ => h.block k hk⟩
theorem But.cell {b : Nat} {u w : World} (h : But b u w) {p : Addr} (hp : p.block < u.heap.size) (hb : p.block ≠ b) : w.cell? p = u.cell? p := World.cell?_of_block (w := u) (h.block p.block hp hb)
theorem But.frozen {b : Nat} {u w : World} (h : But b u w) {p : Addr} (hp : p.block < u.heap.size) (hb : p.block ≠ b) : w.frozen? p = u.frozen? p := World.frozen?_of_block (w := u) (h.block p.block hp hb)
theorem lt_of_cell {w : World} {p : Addr} {v : Value} (h : w.cell? p = some v) : p.block < w.heap.size := by
  rcases Nat.lt_or_ge p.block w.heap.size with h' | h'
  · exact h'
  · simp [World.cell?, Array.getElem?_eq_none h'] at h

/-- The bytes that the cursor reads: each element is a cell that holds a byte, outside block b. -/
def Src (w : World) (b : Nat) (a : Option Addr) (len : Nat) : Prop :=
  len ≤ maxLen ∧ (len = 0 ∨ ∃ xb xo, a = some ⟨xb, xo, none⟩ ∧ xb < b ∧ ∀ i, i < len → ∃ v : Int, w.cell? ⟨xb, xo + i, none⟩ = some (.int .u8 v) ∧ 0 ≤ v ∧ v ≤ 255)

theorem Src.but {w w' : World} {b : Nat} {a : Option Addr} {len : Nat} (h : Src w b a len) (hb : But b w w') : Src w' b a len := by
  obtain ⟨hm, h⟩ := h
  refine ⟨hm, ?_⟩
  rcases h with h | ⟨xb, xo, ha, hne, hc⟩
  · exact .inl h
  · refine .inr ⟨xb, xo, ha, hne, fun i hi => ?_⟩
    obtain ⟨v, hv, hv0, hv1⟩ := hc i hi
    exact ⟨v, by rw [hb.cell (lt_of_cell hv) (Nat.ne_of_lt hne)]; exact hv, hv0, hv1⟩

theorem Src.of_row {w : World} {a : Option Addr} {len cap : Nat} {zs : List Int}
    (h : (a = none ∧ len = 0 ∧ cap = 0 ∧ zs = []) ∨ ∃ x, a = some x ∧ len ≤ cap ∧ cap ≤ maxLen ∧ zs.length = cap ∧ (∀ i, i < zs.length → w.cell? (x.add i) = some (.int .u8 (zs.getD i 0))) ∧ ∀ n ∈ zs, (Lit.int .u8 n).wf = true) :
    Src w w.heap.size a len := by
  rcases h with ⟨rfl, rfl, rfl, rfl⟩ | ⟨⟨xb, xo, sp⟩, rfl, hl, hm, hz, hc, hwf⟩
  · exact ⟨by unfold maxLen; omega, .inl rfl⟩
  · refine ⟨by omega, ?_⟩
    rcases Nat.eq_zero_or_pos len with h0 | h0
    · exact .inl h0
    · have hsp : sp = none := by
        have h1 := hc 0 (by omega)
        cases sp with
        | none => rfl
        | some s => simp [World.cell?, Addr.add] at h1; split at h1 <;> simp at h1
      subst hsp
      refine .inr ⟨xb, xo, rfl, ?_, fun i hi => ?_⟩
      · have := lt_of_cell (hc 0 (by omega))
        simp [Addr.add] at this
        omega
      · have h1 := hc i (by omega)
        have e : zs.getD i 0 = zs[i]'(by omega) := by simp [List.getD, show i < zs.length by omega]
        have h2 := hwf (zs[i]'(by omega)) (List.getElem_mem _)
        have e2 : (⟨xb, xo, none⟩ : Addr).add i = ⟨xb, xo + i, none⟩ := by cases i <;> simp [Addr.add]
        refine ⟨zs.getD i 0, by rw [← e2]; exact h1, ?_, ?_⟩
        · rw [e]; exact (bounds_u8 h2).1
        · rw [e]; exact (bounds_u8 h2).2

/-- The cursor at block b. -/
def Cur (w : World) (b : Nat) (a : Option Addr) (len cap : Nat) : Prop :=
  ∃ (k : Nat) (h : Int), k ≤ len ∧ w.cell? ⟨b, 0, none⟩ = some (.slice a len cap) ∧ w.cell? ⟨b, 1, none⟩ = some (.int .i64 k) ∧ w.cell? ⟨b, 2, none⟩ = some (.int .i64 h) ∧ w.frozen? ⟨b, 1, none⟩ = false ∧ w.frozen? ⟨b, 2, none⟩ = false ∧ Src w b a len

theorem Cur.kept {w w' : World} {b : Nat} {a : Option Addr} {len cap : Nat} (h : Cur w b a len cap) (hb : Below w.heap.size w w') : Cur w' b a len cap := by
  obtain ⟨k, h, hk, c0, c1, c2, f1, f2, hs⟩ := h
  have hlt : b < w.heap.size := lt_of_cell c0
  exact ⟨k, h, hk, by rw [hb.cell hlt]; exact c0, by rw [hb.cell hlt]; exact c1, by rw [hb.cell hlt]; exact c2, by rw [hb.frozen hlt]; exact f1, by rw [hb.frozen hlt]; exact f2, hs.but (But.of_below hb)⟩
theorem Cur.lt {w : World} {b : Nat} {a : Option Addr} {len cap : Nat} (h : Cur w b a len cap) : b < w.heap.size := by
  obtain ⟨k, h, hk, c0, _⟩ := h
  exact lt_of_cell c0
theorem Cur.alloc {w : World} {b : Nat} {a : Option Addr} {len cap : Nat} (h : Cur w b a len cap) (o : Obj) : Cur (w.alloc o) b a len cap :=
  h.kept ((Below.refl _ _).alloc (Nat.le_refl _) o)

theorem Cur.below {w w' : World} {b B : Nat} {a : Option Addr} {len cap : Nat} (h : Cur w b a len cap) (hb : Below B w w') (hB : b < B) : Cur w' b a len cap := by
  obtain ⟨k, h, hk, c0, c1, c2, f1, f2, hm, hs⟩ := h
  refine ⟨k, h, hk, by rw [hb.cell hB]; exact c0, by rw [hb.cell hB]; exact c1, by rw [hb.cell hB]; exact c2, by rw [hb.frozen hB]; exact f1, by rw [hb.frozen hB]; exact f2, hm, ?_⟩
  rcases hs with hs | ⟨xb, xo, ha, hne, hc⟩
  · exact .inl hs
  · refine .inr ⟨xb, xo, ha, hne, fun i hi => ?_⟩
    obtain ⟨v, hv, hv0, hv1⟩ := hc i hi
    exact ⟨v, by rw [hb.cell (by show xb < B; omega)]; exact hv, hv0, hv1⟩
theorem But.thenBelow {b : Nat} {u w w' : World} (h : But b u w) (k : Below u.heap.size w w') : But b u w' :=
  ⟨k.os.trans h.os, k.tape.trans h.tape, k.output.trans h.output, Nat.le_trans h.size k.size, fun i hi hb => (k.block i hi).trans (h.block i hi hb)⟩
theorem owns_but {w w' : World} {b B e size n : Nat} {v : Value} {xs : List Value} (h : w.ownsRow B e size v n xs) (hb : But b w w') (hB : b < B) : w'.ownsRow B e size v n xs := by
  obtain ⟨h1, h2⟩ := h
  refine ⟨h1, ?_⟩
  rcases h2 with h2 | ⟨g, cap, cur, hv, hg, hh, r⟩
  · exact .inl h2
  · exact .inr ⟨g, cap, cur, hv, hg, by rw [hb.block g (lt_of_block hh) (by omega)]; exact hh, r⟩

/-- A number with a property is drawn. -/
def Drawn (Q : Int → Prop) (b : Nat) (a : Option Addr) (len cap : Nat) (w : World) (e : Ending) (w' : World) : Prop :=
  ∃ x : Int, Q x ∧ e = .returned (.int .i64 x) ∧ Cur w' b a len cap ∧ But b w w'
def DrawnB (b : Nat) (a : Option Addr) (len cap : Nat) (w : World) (e : Ending) (w' : World) : Prop :=
  ∃ x : Bool, e = .returned (.bool x) ∧ Cur w' b a len cap ∧ But b w w'
end Go.Proofs.YtfidnhhlcdbaeaaGreatDoor

namespace Go.Proofs.YtfidnhhlcdbaeaaGreatDoor
open Go.ChangeShapes Go.WideShapes Go.ChangeAt Go.RowKit

/-- A cell is valid: what is asked of its three numbers. -/
def OkC (s a b : Int) : Prop := (0 ≤ s ∧ s ≤ 2) ∧ (0 ≤ a ∧ a ≤ 5) ∧ (0 ≤ b ∧ b ≤ 5) ∧ (s = 0 ↔ a = b)
instance (s a b : Int) : Decidable (OkC s a b) := by unfold OkC; exact inferInstance

theorem ret_bool {a b : Bool} (h : a = b) : Ending.returned (.bool a) = .returned (.bool b) := by rw [h]

theorem In_yes (x lo hi : Int) (w : World) (h0 : lo ≤ x) (h1 : x ≤ hi) :
    Calls Tryz.prog 20 #[.int .i64 x, .int .i64 lo, .int .i64 hi] w fun e w' => e = .returned (.bool true) ∧ w' = w := by
  go_enter Tryz.func20, Tryz.ntmps20
  go_wp2
  go_ret
  exact ⟨rfl, rfl⟩

theorem In_no (x lo hi : Int) (w : World) (h : x < lo ∨ hi < x) :
    Calls Tryz.prog 20 #[.int .i64 x, .int .i64 lo, .int .i64 hi] w fun e w' => e = .returned (.bool false) ∧ w' = w := by
  by_cases h0 : x < lo
  · clear h
    go_enter Tryz.func20, Tryz.ntmps20
    go_wp2
    go_ret
    exact ⟨rfl, rfl⟩
  · have h1 : ¬ x ≤ hi := by omega
    clear h
    go_enter Tryz.func20, Tryz.ntmps20
    go_wp2
    go_ret
    exact ⟨ret_bool (by simp), rfl⟩

theorem okB {s a b : Int} (s0 : 0 ≤ s) (s1 : s ≤ 2) (a0 : 0 ≤ a) (a1 : a ≤ 5) (b0 : 0 ≤ b) (b1 : b ≤ 5) : decide (OkC s a b) = ((s == 0) == (a == b)) := by
  by_cases h4 : s = 0
  all_goals
    by_cases h5 : a = b
    all_goals
      first
      | (rw [decide_eq_true (show OkC s a b by unfold OkC; omega), beq_eq_false_iff_ne.2 h4, beq_eq_false_iff_ne.2 h5]; rfl)
      | (rw [decide_eq_true (show OkC s a b by unfold OkC; omega)]; simp [h4, h5])
      | (rw [decide_eq_false (show ¬ OkC s a b by unfold OkC; omega)]; simp [h4, h5])

theorem SpecOk_any (s a b : Int) (w : World) :
    Calls Tryz.prog 42 #[.agg #[.int .i64 s, .int .i64 a, .int .i64 b]] w fun e w' => e = .returned (.bool (decide (OkC s a b))) ∧ w' = w.alloc (.cells #[.int .i64 s, .int .i64 a, .int .i64 b] 50) := by
  by_cases h1 : 0 ≤ s ∧ s ≤ 2
  · obtain ⟨s0, s1⟩ := h1
    by_cases h2 : 0 ≤ a ∧ a ≤ 5
    · obtain ⟨a0, a1⟩ := h2
      by_cases h3 : 0 ≤ b ∧ b ≤ 5
      · obtain ⟨b0, b1⟩ := h3
        go_enter Tryz.func42, Tryz.ntmps42
        go_wp2_with (refine (In_yes _ _ _ _ (by assumption) (by assumption)).mono ?_; rintro e w' ⟨rfl, rfl⟩)
        go_ret
        exact ⟨ret_bool (okB s0 s1 a0 a1 b0 b1).symm, rfl⟩
      · have h3' : b < 0 ∨ 5 < b := by omega
        clear h3
        go_enter Tryz.func42, Tryz.ntmps42
        go_wp2_with (first | (refine (In_yes _ _ _ _ (by assumption) (by assumption)).mono ?_; rintro e w' ⟨rfl, rfl⟩) | (refine (In_no _ _ _ _ (by assumption)).mono ?_; rintro e w' ⟨rfl, rfl⟩))
        go_ret
        exact ⟨ret_bool (decide_eq_false (by unfold OkC; omega)).symm, rfl⟩
    · have h2' : a < 0 ∨ 5 < a := by omega
      clear h2
      go_enter Tryz.func42, Tryz.ntmps42
      go_wp2_with (first | (refine (In_yes _ _ _ _ (by assumption) (by assumption)).mono ?_; rintro e w' ⟨rfl, rfl⟩) | (refine (In_no _ _ _ _ (by assumption)).mono ?_; rintro e w' ⟨rfl, rfl⟩))
      go_ret
      exact ⟨ret_bool (decide_eq_false (by unfold OkC; omega)).symm, rfl⟩
  · have h1' : s < 0 ∨ 2 < s := by omega
    clear h1
    go_enter Tryz.func42, Tryz.ntmps42
    go_wp2_with (first | (refine (In_yes _ _ _ _ (by assumption) (by assumption)).mono ?_; rintro e w' ⟨rfl, rfl⟩) | (refine (In_no _ _ _ _ (by assumption)).mono ?_; rintro e w' ⟨rfl, rfl⟩))
    go_ret
    exact ⟨ret_bool (decide_eq_false (by unfold OkC; omega)).symm, rfl⟩

end Go.Proofs.YtfidnhhlcdbaeaaGreatDoor

namespace Go.Proofs.YtfidnhhlcdbaeaaGreatDoor
open Go.ChangeShapes Go.WideShapes Go.ChangeAt Go.RowKit

/-- A cell's three numbers. -/
structure C3 where
  s : Int
  a : Int
  b : Int
theorem C3.ext' {x y : C3} (h1 : x.s = y.s) (h2 : x.a = y.a) (h3 : x.b = y.b) : x = y := by cases x; cases y; simp_all
/-- As a value; as three places. -/
def C3.v (c : C3) : Value := .agg #[.int .i64 c.s, .int .i64 c.a, .int .i64 c.b]
def C3.zero : C3 := ⟨0, 0, 0⟩
def C3.Ok (c : C3) : Prop := OkC c.s c.a c.b

/-- Element number i of a row at block g holds c. -/
def El (w : World) (g i : Nat) (c : C3) : Prop :=
  w.cell? ⟨g, i * 3, none⟩ = some (.int .i64 c.s) ∧ w.cell? ⟨g, i * 3 + 1, none⟩ = some (.int .i64 c.a) ∧ w.cell? ⟨g, i * 3 + 2, none⟩ = some (.int .i64 c.b)
def Soft (w : World) (g i : Nat) : Prop :=
  w.frozen? ⟨g, i * 3, none⟩ = false ∧ w.frozen? ⟨g, i * 3 + 1, none⟩ = false ∧ w.frozen? ⟨g, i * 3 + 2, none⟩ = false
theorem El.lt {w : World} {g i : Nat} {c : C3} (h : El w g i c) : g < w.heap.size := lt_of_cell h.1
theorem El.below {w w' : World} {g i B : Nat} {c : C3} (h : El w g i c) (hb : Below B w w') (hg : g < B) : El w' g i c :=
  ⟨(hb.cell (p := ⟨g, i * 3, none⟩) hg).trans h.1, (hb.cell (p := ⟨g, i * 3 + 1, none⟩) hg).trans h.2.1, (hb.cell (p := ⟨g, i * 3 + 2, none⟩) hg).trans h.2.2⟩
theorem Soft.below {w w' : World} {g i B : Nat} (h : Soft w g i) (hb : Below B w w') (hg : g < B) : Soft w' g i :=
  ⟨(hb.frozen (p := ⟨g, i * 3, none⟩) hg).trans h.1, (hb.frozen (p := ⟨g, i * 3 + 1, none⟩) hg).trans h.2.1, (hb.frozen (p := ⟨g, i * 3 + 2, none⟩) hg).trans h.2.2⟩

/-- A slice of cells in a block from lo on, below hi. -/
def CellIn (lo hi : Nat) (w : World) (v : Value) (xs : List C3) : Prop :=
  xs.length ≤ 1048576 ∧ ((xs = [] ∧ ∃ a c, v = .slice a 0 c) ∨
    ∃ g cap, v = .slice (some ⟨g, 0, none⟩) xs.length cap ∧ lo ≤ g ∧ g < hi ∧ ∀ i, i < xs.length → El w g i (xs.getD i C3.zero) ∧ Soft w g i)
theorem CellIn.below {lo hi : Nat} {w w' : World} {v : Value} {xs : List C3} (h : CellIn lo hi w v xs) (hb : Below hi w w') : CellIn lo hi w' v xs := by
  obtain ⟨hl, h | ⟨g, cap, hv, hg, hlt, hc⟩⟩ := h
  · exact ⟨hl, .inl h⟩
  · exact ⟨hl, .inr ⟨g, cap, hv, hg, hlt, fun i hi => ⟨(hc i hi).1.below hb hlt, (hc i hi).2.below hb hlt⟩⟩⟩
theorem CellIn.wide {lo hi lo' hi' : Nat} {w : World} {v : Value} {xs : List C3} (h : CellIn lo hi w v xs) (h1 : lo' ≤ lo) (h2 : hi ≤ hi') : CellIn lo' hi' w v xs := by
  obtain ⟨hl, h | ⟨g, cap, hv, hg, hlt, hc⟩⟩ := h
  · exact ⟨hl, .inl h⟩
  · exact ⟨hl, .inr ⟨g, cap, hv, by omega, by omega, hc⟩⟩
/-- Its shape. -/
theorem CellIn.form {lo hi : Nat} {w : World} {v : Value} {xs : List C3} (h : CellIn lo hi w v xs) : ∃ a cap, v = .slice a xs.length cap := by
  obtain ⟨_, ⟨rfl, a, c, hv⟩ | ⟨g, cap, hv, _⟩⟩ := h
  · exact ⟨a, c, hv⟩
  · exact ⟨_, _, hv⟩
/-- Element i, at a world in which only new blocks have come. -/
theorem CellIn.at {lo hi : Nat} {w w' : World} {a : Option Addr} {n cap : Nat} {xs : List C3} (h : CellIn lo hi w (.slice a n cap) xs) (hb : Below hi w w') {i : Nat} (hi' : i < xs.length) :
    ∃ g, a = some ⟨g, 0, none⟩ ∧ lo ≤ g ∧ g < hi ∧ El w' g i (xs.getD i C3.zero) ∧ Soft w' g i := by
  obtain ⟨_, ⟨rfl, _⟩ | ⟨g, cap, hv, hg, hlt, hc⟩⟩ := h
  · simp at hi'
  · simp only [Value.slice.injEq] at hv
    exact ⟨g, hv.1, hg, hlt, (hc i hi').1.below hb hlt, (hc i hi').2.below hb hlt⟩

/-- A block is valid. -/
def BlkOk (n : Int) (xs : List C3) : Prop := (1 ≤ n ∧ n ≤ 4) ∧ (xs.length : Int) = n * n ∧ ∀ c ∈ xs, c.Ok
/-- .. as a Boolean. -/
noncomputable def blkB (n : Int) (xs : List C3) : Bool := @decide (BlkOk n xs) (Classical.propDecidable _)
theorem blk_yes {n : Int} {xs : List C3} (h : BlkOk n xs) : true = blkB n xs := by unfold blkB; simp [h]
theorem blk_no {n : Int} {xs : List C3} (h : ¬ BlkOk n xs) : false = blkB n xs := by unfold blkB; simp [h]
theorem blk_no_size {n : Int} {xs : List C3} (h : ¬ (1 ≤ n ∧ n ≤ 4)) : false = blkB n xs := blk_no (fun k => h k.1)
theorem blk_no_len {n : Int} {xs : List C3} (h : ¬ (xs.length : Int) = n * n) : false = blkB n xs := blk_no (fun k => h k.2.1)
theorem blk_no_cell {n : Int} {xs : List C3} {i : Nat} (hi : i < xs.length) (h : ¬ (xs.getD i C3.zero).Ok) : false = blkB n xs := blk_no (fun k => h (k.2.2 _ (by simp [List.getD, hi])))
theorem blk_all {n : Int} {xs : List C3} (h1 : 1 ≤ n ∧ n ≤ 4) (h2 : (xs.length : Int) = n * n) (h : ∀ i, i < xs.length → (xs.getD i C3.zero).Ok) : true = blkB n xs :=
  blk_yes ⟨h1, h2, fun c hc => by obtain ⟨i, hi, rfl⟩ := List.getElem_of_mem hc; have := h i hi; simpa [List.getD, hi] using this⟩
theorem sq_wrap {n : Int} (h0 : 1 ≤ n) (h1 : n ≤ 4) : IntKind.i64.wrap (n * n) = n * n ∧ 1 ≤ n * n ∧ n * n ≤ 16 := by
  have : n = 1 ∨ n = 2 ∨ n = 3 ∨ n = 4 := by omega
  rcases this with rfl | rfl | rfl | rfl <;> decide

end Go.Proofs.YtfidnhhlcdbaeaaGreatDoor

namespace Go.Proofs.YtfidnhhlcdbaeaaGreatDoor
open Go.ChangeShapes Go.WideShapes Go.ChangeAt Go.RowKit

/-- Element j of the row at block g overwritten, place by place. -/
abbrev setEl (w : World) (g j : Nat) (s a b : Int) : World := ((w.setCell ⟨g, j * 3, none⟩ (.int .i64 s)).setCell ⟨g, j * 3 + 1, none⟩ (.int .i64 a)).setCell ⟨g, j * 3 + 2, none⟩ (.int .i64 b)

theorem ad_ne {g i j : Nat} (h : i ≠ j) : (⟨g, i, none⟩ : Addr) ≠ ⟨g, j, none⟩ := by simp
theorem El.set_same {w : World} {g j : Nat} {c : C3} (h : El w g j c) (s a b : Int) : El (setEl w g j s a b) g j ⟨s, a, b⟩ := by
  obtain ⟨h0, h1, h2⟩ := h
  refine ⟨?_, ?_, ?_⟩
  · rw [World.cell?_setCell_other _ _ _ _ (ad_ne (by omega)), World.cell?_setCell_other _ _ _ _ (ad_ne (by omega)), World.cell?_setCell_same _ _ _ h0]
  · rw [World.cell?_setCell_other _ _ _ _ (ad_ne (by omega))]
    exact World.cell?_setCell_same _ _ _ (by rw [World.cell?_setCell_other _ _ _ _ (ad_ne (by omega))]; exact h1)
  · exact World.cell?_setCell_same _ _ _ (by rw [World.cell?_setCell_other _ _ _ _ (ad_ne (by omega)), World.cell?_setCell_other _ _ _ _ (ad_ne (by omega))]; exact h2)
theorem El.set_other {w : World} {g i j : Nat} {c : C3} (h : El w g i c) (hij : i ≠ j) (s a b : Int) : El (setEl w g j s a b) g i c := by
  obtain ⟨h0, h1, h2⟩ := h
  refine ⟨?_, ?_, ?_⟩
  all_goals
    rw [World.cell?_setCell_other _ _ _ _ (ad_ne (by omega)), World.cell?_setCell_other _ _ _ _ (ad_ne (by omega)), World.cell?_setCell_other _ _ _ _ (ad_ne (by omega))]
    assumption
theorem Soft.set {w : World} {g i j : Nat} (h : Soft w g i) (s a b : Int) : Soft (setEl w g j s a b) g i := by
  obtain ⟨h0, h1, h2⟩ := h
  refine ⟨?_, ?_, ?_⟩
  all_goals
    rw [World.frozen?_setCell, World.frozen?_setCell, World.frozen?_setCell]
    assumption
theorem CellIn.set {lo hi g n cap : Nat} {w : World} {xs : List C3} (h : CellIn lo hi w (.slice (some ⟨g, 0, none⟩) n cap) xs) (j : Nat) (hj : j < xs.length) (s a b : Int) :
    CellIn lo hi (setEl w g j s a b) (.slice (some ⟨g, 0, none⟩) n cap) (xs.set j ⟨s, a, b⟩) := by
  obtain ⟨hl, ⟨h, _⟩ | ⟨g', cap', hv, hg, hlt, hc⟩⟩ := h
  · subst h; simp at hj
  · simp only [Value.slice.injEq, Option.some.injEq, Addr.mk.injEq, and_true] at hv
    obtain ⟨rfl, rfl, rfl⟩ := hv
    refine ⟨by simpa using hl, .inr ⟨g, cap, by simp, hg, hlt, fun i hi => ?_⟩⟩
    rw [List.length_set] at hi
    obtain ⟨h1, h2⟩ := hc i hi
    refine ⟨?_, h2.set s a b⟩
    by_cases e : i = j
    · subst e
      have := h1.set_same s a b
      simpa [List.getD, hi] using this
    · have := h1.set_other e s a b
      simpa [List.getD, List.getElem?_set, e, Ne.symm e] using this

theorem El.set_far {w : World} {g i : Nat} {c : C3} (h : El w g i c) {p : Addr} (hp : p.block ≠ g) (x : Value) : El (w.setCell p x) g i c := by
  obtain ⟨h0, h1, h2⟩ := h
  have hn : ∀ o : Nat, p ≠ ⟨g, o, none⟩ := fun o e => hp (by rw [e])
  exact ⟨(World.cell?_setCell_other _ _ _ _ (hn _)).trans h0, (World.cell?_setCell_other _ _ _ _ (hn _)).trans h1, (World.cell?_setCell_other _ _ _ _ (hn _)).trans h2⟩
theorem Soft.set_far {w : World} {g i : Nat} (h : Soft w g i) (p : Addr) (x : Value) : Soft (w.setCell p x) g i := by
  obtain ⟨h0, h1, h2⟩ := h
  exact ⟨(World.frozen?_setCell _ _ _ _).trans h0, (World.frozen?_setCell _ _ _ _).trans h1, (World.frozen?_setCell _ _ _ _).trans h2⟩
theorem CellIn.set_far {lo hi : Nat} {w : World} {v : Value} {xs : List C3} (h : CellIn lo hi w v xs) {p : Addr} (hp : p.block < lo) (x : Value) : CellIn lo hi (w.setCell p x) v xs := by
  obtain ⟨hl, h | ⟨g, cap, hv, hg, hlt, hc⟩⟩ := h
  · exact ⟨hl, .inl h⟩
  · exact ⟨hl, .inr ⟨g, cap, hv, hg, hlt, fun i hi => ⟨(hc i hi).1.set_far (by omega) x, (hc i hi).2.set_far p x⟩⟩⟩

/-- The places of a list of cells. -/
def places (xs : List C3) : List Value := xs.flatMap fun c => [.int .i64 c.s, .int .i64 c.a, .int .i64 c.b]
theorem places_length (xs : List C3) : (places xs).length = xs.length * 3 := by
  induction xs with
  | nil => rfl
  | cons c r ih => simp [places] at ih ⊢; omega
theorem places_at : ∀ (xs : List C3) (i : Nat), i < xs.length → (places xs)[i * 3]? = some (.int .i64 (xs.getD i C3.zero).s) ∧ (places xs)[i * 3 + 1]? = some (.int .i64 (xs.getD i C3.zero).a) ∧ (places xs)[i * 3 + 2]? = some (.int .i64 (xs.getD i C3.zero).b)
  | [], i, h => by simp at h
  | c :: r, 0, _ => ⟨rfl, rfl, rfl⟩
  | c :: r, i + 1, h => by
    have ih := places_at r i (by simpa using h)
    have e : places (c :: r) = .int .i64 c.s :: .int .i64 c.a :: .int .i64 c.b :: places r := rfl
    rw [e, show (i + 1) * 3 = i * 3 + 1 + 1 + 1 by omega]
    exact ih
theorem places_append (xs ys : List C3) : places (xs ++ ys) = places xs ++ places ys := by simp [places]

theorem lt_of_heap {w : World} {g : Nat} {o : Obj} (h : w.heap[g]? = some o) : g < w.heap.size := (Array.getElem?_eq_some_iff.1 h).1
theorem CellIn.of_owns {w : World} {base e : Nat} {v : Value} {xs : List C3} (h : w.ownsRow base e 3 v xs.length (places xs)) (hl : xs.length ≤ 1048576) : CellIn base w.heap.size w v xs := by
  refine ⟨hl, ?_⟩
  have h0 := h
  obtain ⟨_, ⟨h1, h2⟩ | ⟨g, cap, cur, hv, hg, hh, _⟩⟩ := h
  · exact .inl ⟨List.length_eq_zero_iff.1 h2, none, 0, h1⟩
  · subst hv
    refine .inr ⟨g, cap, rfl, hg, lt_of_heap hh, fun i hi => ⟨?_, h0.frozenAt _, h0.frozenAt _, h0.frozenAt _⟩⟩
    obtain ⟨p0, p1, p2⟩ := places_at xs i hi
    exact ⟨(h0.cellAt _ (by omega)).trans p0, (h0.cellAt _ (by omega)).trans p1, (h0.cellAt _ (by omega)).trans p2⟩
theorem places_zero (n : Nat) : (madeCells (Value.agg #[.int .i64 0, .int .i64 0, .int .i64 0]).cells (n * 3)).toList = places (List.replicate n C3.zero) := by
  apply List.ext_getElem?
  intro i
  by_cases h : i < n * 3
  · obtain ⟨k, hk⟩ : ∃ k, i = k * 3 ∨ i = k * 3 + 1 ∨ i = k * 3 + 2 := ⟨i / 3, by omega⟩
    have hkn : k < n := by omega
    obtain ⟨p0, p1, p2⟩ := places_at (List.replicate n C3.zero) k (by simpa using hkn)
    have ez : (List.replicate n C3.zero).getD k C3.zero = C3.zero := by simp [List.getD, hkn]
    rw [ez] at p0 p1 p2
    rcases hk with rfl | rfl | rfl
    · rw [p0]; simp [madeCells, Value.cells, C3.zero, h]
    · rw [p1]; simp [madeCells, Value.cells, C3.zero, h]
    · rw [p2]; simp [madeCells, Value.cells, C3.zero, h]
  · rw [List.getElem?_eq_none (by simp [madeCells]; omega), List.getElem?_eq_none (by rw [places_length]; simp; omega)]

end Go.Proofs.YtfidnhhlcdbaeaaGreatDoor
