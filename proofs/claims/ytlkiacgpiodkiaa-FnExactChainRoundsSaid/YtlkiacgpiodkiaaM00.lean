/- Plain facts on masks of 64 bits, and a relation of worlds: all old blocks but one are as they were. Rows of joins: what a slice of them holds. Cells: the model's and the program's CellOk answer alike. -/
import Derived.WalkKit
import Derived.WalkSmall
import Derived.OneCell
import Derived.Laws.BitsLemmas
import Derived.OpenShut
import Derived.ProofKit
import Derived.Test.YtlkiacgpiodkiaaRows
import Derived.Lib.Hide
import Derived.BigQuiet
import Derived.Deep.QuietTactic
import Derived.Outline
import Derived.IntWalk
import Derived.ShutString

set_option linter.unusedSimpArgs false
set_option linter.unusedVariables false
namespace Go.Proofs.Ytlkiacgpiodkiaa
open Go.RowKit

theorem i64_mask (n : Int) (m : Int) (k : Nat) (hk : k < 63) (hm : (BitVec.ofInt 64 m).toNat = 2 ^ k - 1) : 0 ≤ bits .and .i64 n m ∧ bits .and .i64 n m < 2 ^ k := by
  have key : (BitVec.ofInt 64 n &&& BitVec.ofInt 64 m).toNat = (n % ((2 ^ 64 : Nat) : Int)).toNat % 2 ^ k := by
    rw [BitVec.toNat_and, BitVec.toNat_ofInt, hm, Nat.and_two_pow_sub_one_eq_mod]
  have e : bits .and .i64 n m = IntKind.i64.wrap ((BitVec.ofInt 64 n &&& BitVec.ofInt 64 m).toNat : Nat) := rfl
  have hlt : (n % ((2 ^ 64 : Nat) : Int)).toNat % 2 ^ k < 2 ^ k := Nat.mod_lt _ (Nat.pos_of_ne_zero (by simp))
  have hle : (2 : Nat) ^ k ≤ 2 ^ 62 := Nat.pow_le_pow_right (by decide) (by omega)
  rw [e, key, IntKind.wrap_i64]
  have hc : ((2 : Int) ^ k) = ((2 ^ k : Nat) : Int) := by simp
  rw [hc]
  generalize (2 : Nat) ^ k = m at *
  omega

theorem i64_and255 (n : Int) : 0 ≤ bits .and .i64 n 255 ∧ bits .and .i64 n 255 ≤ 255 := by
  have h := i64_mask n 255 8 (by decide) (by decide)
  have e : (2 : Int) ^ 8 = 256 := by decide
  omega
theorem i64_and30 (n : Int) : 0 ≤ bits .and .i64 n 1073741823 ∧ bits .and .i64 n 1073741823 ≤ 1073741823 := by
  have h := i64_mask n 1073741823 30 (by decide) (by decide)
  have e : (2 : Int) ^ 30 = 1073741824 := by decide
  omega

/-- Every old block but b is as it was; the streams are as they were. -/
structure But (b : Nat) (w w' : World) : Prop where
  os : w'.os = w.os
  tape : w'.tape = w.tape
  output : w'.output = w.output
  size : w.heap.size ≤ w'.heap.size
  block : ∀ k, k < w.heap.size → k ≠ b → w'.heap[k]? = w.heap[k]?

theorem But.refl (b : Nat) (w : World) : But b w w := ⟨rfl, rfl, rfl, Nat.le_refl _, fun _ _ _ => rfl⟩
theorem But.trans {b : Nat} {u v w : World} (h : But b u v) (k : But b v w) : But b u w :=
  ⟨k.os.trans h.os, k.tape.trans h.tape, k.output.trans h.output, Nat.le_trans h.size k.size, fun i hi hb => (k.block i (by have := h.size; omega) hb).trans (h.block i hi hb)⟩
theorem But.drewN {b : Nat} {u w : World} (h : But b u w) (n : Nat) : But b u (w.drewN n) := h.trans ⟨rfl, rfl, rfl, Nat.le_refl _, fun _ _ _ => rfl⟩
theorem But.drew {b : Nat} {u w : World} (h : But b u w) : But b u w.drew := h.trans ⟨rfl, rfl, rfl, Nat.le_refl _, fun _ _ _ => rfl⟩
theorem But.alloc {b : Nat} {u w : World} (h : But b u w) (o : Obj) : But b u (w.alloc o) :=
  h.trans ⟨rfl, rfl, rfl, by simp, fun k hk _ => Below.heap_alloc _ _ _ hk⟩
theorem But.setCell {b : Nat} {u w : World} (h : But b u w) {p : Addr} (hp : p.block = b ∨ u.heap.size ≤ p.block) (v : Value) : But b u (w.setCell p v) :=
  ⟨h.os, h.tape, h.output, by simp [World.setCell]; exact h.size, fun k hk hb => by rw [Below.heap_setCell _ _ _ _ (by omega)]; exact h.block k hk hb⟩
theorem But.below {b B : Nat} {u w : World} (h : But b u w) (hb : B ≤ b) (hB : B ≤ u.heap.size) : Below B u w :=
  ⟨h.os, h.tape, h.output, h.size, fun k hk => h.block k (by omega) (by omega)⟩
theorem But.of_below {b : Nat} {u w : World} (h : Below u.heap.size u w) : But b u w := ⟨h.os, h.tape, h.output, h.size, fun k hk _ => h.block k hk⟩
theorem But.cell {b : Nat} {u w : World} (h : But b u w) {p : Addr} (hp : p.block < u.heap.size) (hb : p.block ≠ b) : w.cell? p = u.cell? p := World.cell?_of_block (w := u) (h.block p.block hp hb)
theorem But.frozen {b : Nat} {u w : World} (h : But b u w) {p : Addr} (hp : p.block < u.heap.size) (hb : p.block ≠ b) : w.frozen? p = u.frozen? p := World.frozen?_of_block (w := u) (h.block p.block hp hb)
theorem lt_of_cell {w : World} {p : Addr} {v : Value} (h : w.cell? p = some v) : p.block < w.heap.size := by
  rcases Nat.lt_or_ge p.block w.heap.size with h' | h'
  · exact h'
  · simp [World.cell?, Array.getElem?_eq_none h'] at h

/-- The bytes that the cursor reads: each element is a cell that holds a byte, outside block b. -/
def Src (w : World) (b : Nat) (a : Option Addr) (len : Nat) : Prop :=
  len ≤ maxLen ∧ (len = 0 ∨ ∃ xb xo, a = some ⟨xb, xo, none⟩ ∧ xb < b ∧ ∀ i, i < len → ∃ v : Int, w.cell? ⟨xb, xo + i, none⟩ = some (.int .u8 v) ∧ 0 ≤ v ∧ v ≤ 255)

theorem Src.but {w w' : World} {b : Nat} {a : Option Addr} {len : Nat} (h : Src w b a len) (hb : But b w w') : Src w' b a len := by
  obtain ⟨hm, h⟩ := h
  refine ⟨hm, ?_⟩
  rcases h with h | ⟨xb, xo, ha, hne, hc⟩
  · exact .inl h
  · refine .inr ⟨xb, xo, ha, hne, fun i hi => ?_⟩
    obtain ⟨v, hv, hv0, hv1⟩ := hc i hi
    exact ⟨v, by rw [hb.cell (lt_of_cell hv) (Nat.ne_of_lt hne)]; exact hv, hv0, hv1⟩

theorem Src.of_row {w : World} {a : Option Addr} {len cap : Nat} {zs : List Int}
    (h : (a = none ∧ len = 0 ∧ cap = 0 ∧ zs = []) ∨ ∃ x, a = some x ∧ len ≤ cap ∧ cap ≤ maxLen ∧ zs.length = cap ∧ (∀ i, i < zs.length → w.cell? (x.add i) = some (.int .u8 (zs.getD i 0))) ∧ ∀ n ∈ zs, (Lit.int .u8 n).wf = true) :
    Src w w.heap.size a len := by
  rcases h with ⟨rfl, rfl, rfl, rfl⟩ | ⟨⟨xb, xo, sp⟩, rfl, hl, hm, hz, hc, hwf⟩
  · exact ⟨by unfold maxLen; omega, .inl rfl⟩
  · refine ⟨by omega, ?_⟩
    rcases Nat.eq_zero_or_pos len with h0 | h0
    · exact .inl h0
    · have hsp : sp = none := by
        have h1 := hc 0 (by omega)
        cases sp with
        | none => rfl
        | some s => simp [World.cell?, Addr.add] at h1; split at h1 <;> simp at h1
      subst hsp
      refine .inr ⟨xb, xo, rfl, ?_, fun i hi => ?_⟩
      · have := lt_of_cell (hc 0 (by omega))
        simp [Addr.add] at this
        omega
      · have h1 := hc i (by omega)
        have e : zs.getD i 0 = zs[i]'(by omega) := by simp [List.getD, show i < zs.length by omega]
        have h2 := hwf (zs[i]'(by omega)) (List.getElem_mem _)
        have e2 : (⟨xb, xo, none⟩ : Addr).add i = ⟨xb, xo + i, none⟩ := by cases i <;> simp [Addr.add]
        refine ⟨zs.getD i 0, by rw [← e2]; exact h1, ?_, ?_⟩
        · rw [e]; exact (bounds_u8 h2).1
        · rw [e]; exact (bounds_u8 h2).2

/-- The cursor at block b. -/
def Cur (w : World) (b : Nat) (a : Option Addr) (len cap : Nat) : Prop :=
  ∃ (k : Nat) (h : Int), k ≤ len ∧ w.cell? ⟨b, 0, none⟩ = some (.slice a len cap) ∧ w.cell? ⟨b, 1, none⟩ = some (.int .i64 k) ∧ w.cell? ⟨b, 2, none⟩ = some (.int .i64 h) ∧ w.frozen? ⟨b, 1, none⟩ = false ∧ w.frozen? ⟨b, 2, none⟩ = false ∧ Src w b a len

theorem Cur.kept {w w' : World} {b : Nat} {a : Option Addr} {len cap : Nat} (h : Cur w b a len cap) (hb : Below w.heap.size w w') : Cur w' b a len cap := by
  obtain ⟨k, h, hk, c0, c1, c2, f1, f2, hs⟩ := h
  have hlt : b < w.heap.size := lt_of_cell c0
  exact ⟨k, h, hk, by rw [hb.cell hlt]; exact c0, by rw [hb.cell hlt]; exact c1, by rw [hb.cell hlt]; exact c2, by rw [hb.frozen hlt]; exact f1, by rw [hb.frozen hlt]; exact f2, hs.but (But.of_below hb)⟩
theorem Cur.lt {w : World} {b : Nat} {a : Option Addr} {len cap : Nat} (h : Cur w b a len cap) : b < w.heap.size := by
  obtain ⟨k, h, hk, c0, _⟩ := h
  exact lt_of_cell c0
theorem Cur.alloc {w : World} {b : Nat} {a : Option Addr} {len cap : Nat} (h : Cur w b a len cap) (o : Obj) : Cur (w.alloc o) b a len cap :=
  h.kept ((Below.refl _ _).alloc (Nat.le_refl _) o)

theorem Cur.below {w w' : World} {b B : Nat} {a : Option Addr} {len cap : Nat} (h : Cur w b a len cap) (hb : Below B w w') (hB : b < B) : Cur w' b a len cap := by
  obtain ⟨k, h, hk, c0, c1, c2, f1, f2, hm, hs⟩ := h
  refine ⟨k, h, hk, by rw [hb.cell hB]; exact c0, by rw [hb.cell hB]; exact c1, by rw [hb.cell hB]; exact c2, by rw [hb.frozen hB]; exact f1, by rw [hb.frozen hB]; exact f2, hm, ?_⟩
  rcases hs with hs | ⟨xb, xo, ha, hne, hc⟩
  · exact .inl hs
  · refine .inr ⟨xb, xo, ha, hne, fun i hi => ?_⟩
    obtain ⟨v, hv, hv0, hv1⟩ := hc i hi
    exact ⟨v, by rw [hb.cell (by show xb < B; omega)]; exact hv, hv0, hv1⟩
theorem But.thenBelow {b : Nat} {u w w' : World} (h : But b u w) (k : Below u.heap.size w w') : But b u w' :=
  ⟨k.os.trans h.os, k.tape.trans h.tape, k.output.trans h.output, Nat.le_trans h.size k.size, fun i hi hb => (k.block i hi).trans (h.block i hi hb)⟩
theorem owns_but {w w' : World} {b B e size n : Nat} {v : Value} {xs : List Value} (h : w.ownsRow B e size v n xs) (hb : But b w w') (hB : b < B) : w'.ownsRow B e size v n xs := by
  obtain ⟨h1, h2⟩ := h
  refine ⟨h1, ?_⟩
  rcases h2 with h2 | ⟨g, cap, cur, hv, hg, hh, r⟩
  · exact .inl h2
  · exact .inr ⟨g, cap, cur, hv, hg, by rw [hb.block g (lt_of_block hh) (by omega)]; exact hh, r⟩

/-- A number with a property is drawn. -/
def Drawn (Q : Int → Prop) (b : Nat) (a : Option Addr) (len cap : Nat) (w : World) (e : Ending) (w' : World) : Prop :=
  ∃ x : Int, Q x ∧ e = .returned (.int .i64 x) ∧ Cur w' b a len cap ∧ But b w w'
def DrawnB (b : Nat) (a : Option Addr) (len cap : Nat) (w : World) (e : Ending) (w' : World) : Prop :=
  ∃ x : Bool, e = .returned (.bool x) ∧ Cur w' b a len cap ∧ But b w w'
end Go.Proofs.Ytlkiacgpiodkiaa

set_option linter.unusedSimpArgs false
set_option linter.unusedVariables false
namespace Go.Proofs.Ytlkiacgpiodkiaa
open Go.ChangeShapes Go.WideShapes Go.ChangeAt Go.RowKit

structure J3 where
  up : Bool
  a : Int
  b : Int
theorem J3.ext' {x y : J3} (h0 : x.up = y.up) (h1 : x.a = y.a) (h2 : x.b = y.b) : x = y := by cases x; cases y; simp_all
/-- As a value. -/
def J3.v (c : J3) : Value := .agg #[.bool c.up, .int .i64 c.a, .int .i64 c.b]
def J3.zero : J3 := ⟨false, 0, 0⟩
/-- Its numbers are int64s. -/
def J3.Wf (c : J3) : Prop := (Lit.int .i64 c.a).wf = true ∧ (Lit.int .i64 c.b).wf = true
instance : Inhabited J3 := ⟨J3.zero⟩

/-- Element number i of a row at block g holds c. -/
def ElJn (w : World) (g i : Nat) (c : J3) : Prop :=
  w.cell? ⟨g, i * 3, none⟩ = some (.bool c.up) ∧ w.cell? ⟨g, i * 3 + 1, none⟩ = some (.int .i64 c.a) ∧ w.cell? ⟨g, i * 3 + 2, none⟩ = some (.int .i64 c.b)
def SoftJn (w : World) (g i : Nat) : Prop :=
  w.frozen? ⟨g, i * 3, none⟩ = false ∧ w.frozen? ⟨g, i * 3 + 1, none⟩ = false ∧ w.frozen? ⟨g, i * 3 + 2, none⟩ = false
theorem ElJn.lt {w : World} {g i : Nat} {c : J3} (h : ElJn w g i c) : g < w.heap.size := lt_of_cell h.1
theorem ElJn.below {w w' : World} {g i B : Nat} {c : J3} (h : ElJn w g i c) (hb : Below B w w') (hg : g < B) : ElJn w' g i c :=
  ⟨(hb.cell (p := ⟨g, i * 3, none⟩) hg).trans h.1, (hb.cell (p := ⟨g, i * 3 + 1, none⟩) hg).trans h.2.1, (hb.cell (p := ⟨g, i * 3 + 2, none⟩) hg).trans h.2.2⟩
theorem SoftJn.below {w w' : World} {g i B : Nat} (h : SoftJn w g i) (hb : Below B w w') (hg : g < B) : SoftJn w' g i :=
  ⟨(hb.frozen (p := ⟨g, i * 3, none⟩) hg).trans h.1, (hb.frozen (p := ⟨g, i * 3 + 1, none⟩) hg).trans h.2.1, (hb.frozen (p := ⟨g, i * 3 + 2, none⟩) hg).trans h.2.2⟩

/-- A slice of them in a block from lo on, below hi. -/
def JnIn (lo hi : Nat) (w : World) (v : Value) (xs : List J3) : Prop :=
  xs.length ≤ 1048576 ∧ ((xs = [] ∧ ∃ a c, v = .slice a 0 c) ∨
    ∃ g cap, v = .slice (some ⟨g, 0, none⟩) xs.length cap ∧ xs.length ≤ cap ∧ lo ≤ g ∧ g < hi ∧ ∀ i, i < xs.length → ElJn w g i (xs.getD i J3.zero) ∧ SoftJn w g i)
theorem JnIn.below {lo hi : Nat} {w w' : World} {v : Value} {xs : List J3} (h : JnIn lo hi w v xs) (hb : Below hi w w') : JnIn lo hi w' v xs := by
  obtain ⟨hl, h | ⟨g, cap, hv, hcp, hg, hlt, hc⟩⟩ := h
  · exact ⟨hl, .inl h⟩
  · exact ⟨hl, .inr ⟨g, cap, hv, hcp, hg, hlt, fun i hi => ⟨(hc i hi).1.below hb hlt, (hc i hi).2.below hb hlt⟩⟩⟩
theorem JnIn.wide {lo hi lo' hi' : Nat} {w : World} {v : Value} {xs : List J3} (h : JnIn lo hi w v xs) (h1 : lo' ≤ lo) (h2 : hi ≤ hi') : JnIn lo' hi' w v xs := by
  obtain ⟨hl, h | ⟨g, cap, hv, hcp, hg, hlt, hc⟩⟩ := h
  · exact ⟨hl, .inl h⟩
  · exact ⟨hl, .inr ⟨g, cap, hv, hcp, by omega, by omega, hc⟩⟩
/-- Its shape. -/
theorem JnIn.form {lo hi : Nat} {w : World} {v : Value} {xs : List J3} (h : JnIn lo hi w v xs) : ∃ a cap, v = .slice a xs.length cap := by
  obtain ⟨_, ⟨rfl, a, c, hv⟩ | ⟨g, cap, hv, _⟩⟩ := h
  · exact ⟨a, c, hv⟩
  · exact ⟨_, _, hv⟩
/-- Element i, at a world in which only new blocks have come. -/
theorem JnIn.at {lo hi : Nat} {w w' : World} {a : Option Addr} {n cap : Nat} {xs : List J3} (h : JnIn lo hi w (.slice a n cap) xs) (hb : Below hi w w') {i : Nat} (hi' : i < xs.length) :
    ∃ g, a = some ⟨g, 0, none⟩ ∧ lo ≤ g ∧ g < hi ∧ ElJn w' g i (xs.getD i J3.zero) ∧ SoftJn w' g i := by
  obtain ⟨_, ⟨rfl, _⟩ | ⟨g, cap, hv, hcp, hg, hlt, hc⟩⟩ := h
  · simp at hi'
  · simp only [Value.slice.injEq] at hv
    exact ⟨g, hv.1, hg, hlt, (hc i hi').1.below hb hlt, (hc i hi').2.below hb hlt⟩
/-- It may be cut as far as it is long. -/
theorem JnIn.cap {lo hi : Nat} {w : World} {a : Option Addr} {n cap : Nat} {xs : List J3} (h : JnIn lo hi w (.slice a n cap) xs) : n ≤ cap := by
  obtain ⟨_, ⟨rfl, a', c', hv⟩ | ⟨g, cap', hv, hcp, _⟩⟩ := h
  · simp only [Value.slice.injEq] at hv; omega
  · simp only [Value.slice.injEq] at hv; omega
/-- Its first k elements. -/
theorem JnIn.take {lo hi g : Nat} {w : World} {n cap : Nat} {xs : List J3} (h : JnIn lo hi w (.slice (some ⟨g, 0, none⟩) n cap) xs) (k : Nat) (hk : k ≤ xs.length) : JnIn lo hi w (.slice (some ⟨g, 0, none⟩) k cap) (xs.take k) := by
  obtain ⟨hl, ⟨h, _⟩ | ⟨g', cap', hv, hcp, hg, hlt, hc⟩⟩ := h
  · subst h
    simp at hk
    subst hk
    exact ⟨by simp, .inl ⟨by simp, _, _, rfl⟩⟩
  · simp only [Value.slice.injEq, Option.some.injEq, Addr.mk.injEq, and_true] at hv
    obtain ⟨rfl, _, rfl⟩ := hv
    have e : (xs.take k).length = k := by simp; omega
    refine ⟨by omega, .inr ⟨g, cap, by rw [e], by omega, hg, hlt, fun i hi => ?_⟩⟩
    have := hc i (by omega)
    rwa [show (xs.take k).getD i J3.zero = xs.getD i J3.zero by simp [List.getD, show i < k by omega]]

end Go.Proofs.Ytlkiacgpiodkiaa

set_option linter.unusedSimpArgs false
set_option linter.unusedVariables false
namespace Go.Proofs.Ytlkiacgpiodkiaa
open Go.ChangeShapes Go.WideShapes Go.ChangeAt Go.RowKit

/-- A cell is valid: what is asked of its three numbers. -/
def OkC (s a b : Int) : Prop := (0 ≤ s ∧ s ≤ 2) ∧ (0 ≤ a ∧ a ≤ 5) ∧ (0 ≤ b ∧ b ≤ 5) ∧ (s = 0 ↔ a = b)
instance (s a b : Int) : Decidable (OkC s a b) := by unfold OkC; exact inferInstance

theorem ret_bool {a b : Bool} (h : a = b) : Ending.returned (.bool a) = .returned (.bool b) := by rw [h]

theorem In_yes (x lo hi : Int) (w : World) (h0 : lo ≤ x) (h1 : x ≤ hi) :
    Calls Try.prog 43 #[.int .i64 x, .int .i64 lo, .int .i64 hi] w fun e w' => e = .returned (.bool true) ∧ w' = w := by
  go_enter Try.func43, Try.ntmps43
  go_wp2
  go_ret
  exact ⟨rfl, rfl⟩

theorem In_no (x lo hi : Int) (w : World) (h : x < lo ∨ hi < x) :
    Calls Try.prog 43 #[.int .i64 x, .int .i64 lo, .int .i64 hi] w fun e w' => e = .returned (.bool false) ∧ w' = w := by
  by_cases h0 : x < lo
  · clear h
    go_enter Try.func43, Try.ntmps43
    go_wp2
    go_ret
    exact ⟨rfl, rfl⟩
  · have h1 : ¬ x ≤ hi := by omega
    clear h
    go_enter Try.func43, Try.ntmps43
    go_wp2
    go_ret
    exact ⟨ret_bool (by simp), rfl⟩

theorem okB {s a b : Int} (s0 : 0 ≤ s) (s1 : s ≤ 2) (a0 : 0 ≤ a) (a1 : a ≤ 5) (b0 : 0 ≤ b) (b1 : b ≤ 5) : decide (OkC s a b) = ((s == 0) == (a == b)) := by
  by_cases h4 : s = 0
  all_goals
    by_cases h5 : a = b
    all_goals
      first
      | (rw [decide_eq_true (show OkC s a b by unfold OkC; omega), beq_eq_false_iff_ne.2 h4, beq_eq_false_iff_ne.2 h5]; rfl)
      | (rw [decide_eq_true (show OkC s a b by unfold OkC; omega)]; simp [h4, h5])
      | (rw [decide_eq_false (show ¬ OkC s a b by unfold OkC; omega)]; simp [h4, h5])

end Go.Proofs.Ytlkiacgpiodkiaa
