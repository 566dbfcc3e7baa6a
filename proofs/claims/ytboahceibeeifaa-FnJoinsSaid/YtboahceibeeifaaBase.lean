/- Plain facts on masks of 64 bits, and a relation of worlds: all old blocks but one are as they were. -/
import Derived.WalkKit
import Derived.WalkSmall
import Derived.OneCell
import Derived.Laws.BitsLemmas
import Derived.OpenShut
import Derived.ProofKit

set_option linter.unusedSimpArgs false
set_option linter.unusedVariables false
namespace Go.Proofs.Ytboahceibeeifaa
open Go.RowKit

theorem i64_mask (n : Int) (m : Int) (k : Nat) (hk : k < 63) (hm : (BitVec.ofInt 64 m).toNat = 2 ^ k - 1) : 0 ≤ bits .and .i64 n m ∧ bits .and .i64 n m < 2 ^ k := by
  have key : (BitVec.ofInt 64 n &&& BitVec.ofInt 64 m).toNat = (n % ((2 ^ 64 : Nat) : Int)).toNat % 2 ^ k := by
    rw [BitVec.toNat_and, BitVec.toNat_ofInt, hm, Nat.and_two_pow_sub_one_eq_mod]
  have e : bits .and .i64 n m = IntKind.i64.wrap ((BitVec.ofInt 64 n &&& BitVec.ofInt 64 m).toNat : Nat) := rfl
  have hlt : (n % ((2 ^ 64 : Nat) : Int)).toNat % 2 ^ k < 2 ^ k := Nat.mod_lt _ (Nat.pos_of_ne_zero (by simp))
  have hle : (2 : Nat) ^ k ≤ 2 ^ 62 := Nat.pow_le_pow_right (by decide) (by omega)
  rw [e, key, IntKind.wrap_i64]
  have hc : ((2 : Int) ^ k) = ((2 ^ k : Nat) : Int) := by simp
  rw [hc]
  generalize (2 : Nat) ^ k = m at *
  omega

theorem i64_and255 (n : Int) : 0 ≤ bits .and .i64 n 255 ∧ bits .and .i64 n 255 ≤ 255 := by
  have h := i64_mask n 255 8 (by decide) (by decide)
  have e : (2 : Int) ^ 8 = 256 := by decide
  omega
theorem i64_and30 (n : Int) : 0 ≤ bits .and .i64 n 1073741823 ∧ bits .and .i64 n 1073741823 ≤ 1073741823 := by
  have h := i64_mask n 1073741823 30 (by decide) (by decide)
  have e : (2 : Int) ^ 30 = 1073741824 := by decide
  omega

/-- Every old block but b is as it was; the streams are as they were. -/
structure But (b : Nat) (w w' : World) : Prop where
  os : w'.os = w.os
  tape : w'.tape = w.tape
  output : w'.output = w.output
  size : w.heap.size ≤ w'.heap.size
  block : ∀ k, k < w.heap.size → k ≠ b → w'.heap[k]? = w.heap[k]?

theorem But.refl (b : Nat) (w : World) : But b w w := ⟨rfl, rfl, rfl, Nat.le_refl _, fun _ _ _ => rfl⟩
theorem But.trans {b : Nat} {u v w : World} (h : But b u v) (k : But b v w) : But b u w :=
  ⟨k.os.trans h.os, k.tape.trans h.tape, k.output.trans h.output, Nat.le_trans h.size k.size, fun i hi hb => (k.block i (by have := h.size; omega) hb).trans (h.block i hi hb)⟩
theorem But.drewN {b : Nat} {u w : World} (h : But b u w) (n : Nat) : But b u (w.drewN n) := h.trans ⟨rfl, rfl, rfl, Nat.le_refl _, fun _ _ _ => rfl⟩
theorem But.drew {b : Nat} {u w : World} (h : But b u w) : But b u w.drew := h.trans ⟨rfl, rfl, rfl, Nat.le_refl _, fun _ _ _ => rfl⟩
theorem But.alloc {b : Nat} {u w : World} (h : But b u w) (o : Obj) : But b u (w.alloc o) :=
  h.trans ⟨rfl, rfl, rfl, by simp, fun k hk _ => Below.heap_alloc _ _ _ hk⟩
theorem But.setCell {b : Nat} {u w : World} (h : But b u w) {p : Addr} (hp : p.block = b ∨ u.heap.size ≤ p.block) (v : Value) : But b u (w.setCell p v) :=
  ⟨h.os, h.tape, h.output, by simp [World.setCell]; exact h.size, fun k hk hb => by rw [Below.heap_setCell _ _ _ _ (by omega)]; exact h.block k hk hb⟩
theorem But.below {b B : Nat} {u w : World} (h : But b u w) (hb : B ≤ b) (hB : B ≤ u.heap.size) : Below B u w :=
  ⟨h.os, h.tape, h.output, h.size, fun k hk => h.block k (by omega) (by omega)⟩
theorem But.of_below {b : Nat} {u w : World} (h : Below u.heap.size u w) : But b u w := ⟨h.os, h.tape, h.output, h.size, fun k hk _ => h.block k hk⟩
theorem But.cell {b : Nat} {u w : World} (h : But b u w) {p : Addr} (hp : p.block < u.heap.size) (hb : p.block ≠ b) : w.cell? p = u.cell? p := World.cell?_of_block (w := u) (h.block p.block hp hb)
theorem But.frozen {b : Nat} {u w : World} (h : But b u w) {p : Addr} (hp : p.block < u.heap.size) (hb : p.block ≠ b) : w.frozen? p = u.frozen? p := World.frozen?_of_block (w := u) (h.block p.block hp hb)
theorem lt_of_cell {w : World} {p : Addr} {v : Value} (h : w.cell? p = some v) : p.block < w.heap.size := by
  rcases Nat.lt_or_ge p.block w.heap.size with h' | h'
  · exact h'
  · simp [World.cell?, Array.getElem?_eq_none h'] at h

/-- The bytes that the cursor reads: each element is a cell that holds a byte, outside block b. -/
def Src (w : World) (b : Nat) (a : Option Addr) (len : Nat) : Prop :=
  len ≤ maxLen ∧ (len = 0 ∨ ∃ xb xo, a = some ⟨xb, xo, none⟩ ∧ xb < b ∧ ∀ i, i < len → ∃ v : Int, w.cell? ⟨xb, xo + i, none⟩ = some (.int .u8 v) ∧ 0 ≤ v ∧ v ≤ 255)

theorem Src.but {w w' : World} {b : Nat} {a : Option Addr} {len : Nat} (h : Src w b a len) (hb : But b w w') : Src w' b a len := by
  obtain ⟨hm, h⟩ := h
  refine ⟨hm, ?_⟩
  rcases h with h | ⟨xb, xo, ha, hne, hc⟩
  · exact .inl h
  · refine .inr ⟨xb, xo, ha, hne, fun i hi => ?_⟩
    obtain ⟨v, hv, hv0, hv1⟩ := hc i hi
    exact ⟨v, by rw [hb.cell (lt_of_cell hv) (Nat.ne_of_lt hne)]; exact hv, hv0, hv1⟩

theorem Src.of_row {w : World} {a : Option Addr} {len cap : Nat} {zs : List Int}
    (h : (a = none ∧ len = 0 ∧ cap = 0 ∧ zs = []) ∨ ∃ x, a = some x ∧ len ≤ cap ∧ cap ≤ maxLen ∧ zs.length = cap ∧ (∀ i, i < zs.length → w.cell? (x.add i) = some (.int .u8 (zs.getD i 0))) ∧ ∀ n ∈ zs, (Lit.int .u8 n).wf = true) :
    Src w w.heap.size a len := by
  rcases h with ⟨rfl, rfl, rfl, rfl⟩ | ⟨⟨xb, xo, sp⟩, rfl, hl, hm, hz, hc, hwf⟩
  · exact ⟨by unfold maxLen; omega, .inl rfl⟩
  · refine ⟨by omega, ?_⟩
    rcases Nat.eq_zero_or_pos len with h0 | h0
    · exact .inl h0
    · have hsp : sp = none := by
        have h1 := hc 0 (by omega)
        cases sp with
        | none => rfl
        | some s => simp [World.cell?, Addr.add] at h1; split at h1 <;> simp at h1
      subst hsp
      refine .inr ⟨xb, xo, rfl, ?_, fun i hi => ?_⟩
      · have := lt_of_cell (hc 0 (by omega))
        simp [Addr.add] at this
        omega
      · have h1 := hc i (by omega)
        have e : zs.getD i 0 = zs[i]'(by omega) := by simp [List.getD, show i < zs.length by omega]
        have h2 := hwf (zs[i]'(by omega)) (List.getElem_mem _)
        have e2 : (⟨xb, xo, none⟩ : Addr).add i = ⟨xb, xo + i, none⟩ := by cases i <;> simp [Addr.add]
        refine ⟨zs.getD i 0, by rw [← e2]; exact h1, ?_, ?_⟩
        · rw [e]; exact (bounds_u8 h2).1
        · rw [e]; exact (bounds_u8 h2).2

/-- The cursor at block b. -/
def Cur (w : World) (b : Nat) (a : Option Addr) (len cap : Nat) : Prop :=
  ∃ (k : Nat) (h : Int), k ≤ len ∧ w.cell? ⟨b, 0, none⟩ = some (.slice a len cap) ∧ w.cell? ⟨b, 1, none⟩ = some (.int .i64 k) ∧ w.cell? ⟨b, 2, none⟩ = some (.int .i64 h) ∧ w.frozen? ⟨b, 1, none⟩ = false ∧ w.frozen? ⟨b, 2, none⟩ = false ∧ Src w b a len

theorem Cur.kept {w w' : World} {b : Nat} {a : Option Addr} {len cap : Nat} (h : Cur w b a len cap) (hb : Below w.heap.size w w') : Cur w' b a len cap := by
  obtain ⟨k, h, hk, c0, c1, c2, f1, f2, hs⟩ := h
  have hlt : b < w.heap.size := lt_of_cell c0
  exact ⟨k, h, hk, by rw [hb.cell hlt]; exact c0, by rw [hb.cell hlt]; exact c1, by rw [hb.cell hlt]; exact c2, by rw [hb.frozen hlt]; exact f1, by rw [hb.frozen hlt]; exact f2, hs.but (But.of_below hb)⟩
theorem Cur.lt {w : World} {b : Nat} {a : Option Addr} {len cap : Nat} (h : Cur w b a len cap) : b < w.heap.size := by
  obtain ⟨k, h, hk, c0, _⟩ := h
  exact lt_of_cell c0
theorem Cur.alloc {w : World} {b : Nat} {a : Option Addr} {len cap : Nat} (h : Cur w b a len cap) (o : Obj) : Cur (w.alloc o) b a len cap :=
  h.kept ((Below.refl _ _).alloc (Nat.le_refl _) o)

theorem Cur.below {w w' : World} {b B : Nat} {a : Option Addr} {len cap : Nat} (h : Cur w b a len cap) (hb : Below B w w') (hB : b < B) : Cur w' b a len cap := by
  obtain ⟨k, h, hk, c0, c1, c2, f1, f2, hm, hs⟩ := h
  refine ⟨k, h, hk, by rw [hb.cell hB]; exact c0, by rw [hb.cell hB]; exact c1, by rw [hb.cell hB]; exact c2, by rw [hb.frozen hB]; exact f1, by rw [hb.frozen hB]; exact f2, hm, ?_⟩
  rcases hs with hs | ⟨xb, xo, ha, hne, hc⟩
  · exact .inl hs
  · refine .inr ⟨xb, xo, ha, hne, fun i hi => ?_⟩
    obtain ⟨v, hv, hv0, hv1⟩ := hc i hi
    exact ⟨v, by rw [hb.cell (by show xb < B; omega)]; exact hv, hv0, hv1⟩
theorem But.thenBelow {b : Nat} {u w w' : World} (h : But b u w) (k : Below u.heap.size w w') : But b u w' :=
  ⟨k.os.trans h.os, k.tape.trans h.tape, k.output.trans h.output, Nat.le_trans h.size k.size, fun i hi hb => (k.block i hi).trans (h.block i hi hb)⟩
theorem owns_but {w w' : World} {b B e size n : Nat} {v : Value} {xs : List Value} (h : w.ownsRow B e size v n xs) (hb : But b w w') (hB : b < B) : w'.ownsRow B e size v n xs := by
  obtain ⟨h1, h2⟩ := h
  refine ⟨h1, ?_⟩
  rcases h2 with h2 | ⟨g, cap, cur, hv, hg, hh, r⟩
  · exact .inl h2
  · exact .inr ⟨g, cap, cur, hv, hg, by rw [hb.block g (lt_of_block hh) (by omega)]; exact hh, r⟩

/-- A number with a property is drawn. -/
def Drawn (Q : Int → Prop) (b : Nat) (a : Option Addr) (len cap : Nat) (w : World) (e : Ending) (w' : World) : Prop :=
  ∃ x : Int, Q x ∧ e = .returned (.int .i64 x) ∧ Cur w' b a len cap ∧ But b w w'
def DrawnB (b : Nat) (a : Option Addr) (len cap : Nat) (w : World) (e : Ending) (w' : World) : Prop :=
  ∃ x : Bool, e = .returned (.bool x) ∧ Cur w' b a len cap ∧ But b w w'
end Go.Proofs.Ytboahceibeeifaa
