/- Plain facts on masks of 64 bits, and a relation of worlds: all old blocks but one are as they were. Contracts of the drawing cursor: each drawing function returns a number of its range and touches the cursor's block alone. Cells: a drawn cell is valid. -/
import Derived.WalkKit
import Derived.WalkSmall
import Derived.OneCell
import Derived.Laws.BitsLemmas
import Derived.OpenShut
import Derived.ProofKit
import Derived.Test.YtndffjphdlncpaaRows
import Derived.BigQuiet
import Derived.Deep.QuietTactic
import Derived.Outline
import Derived.IntWalk
import Derived.Lib.Hide
import Derived.Test.YtndffjphdlncpaaMCel

namespace Go.Proofs.Ytndffjphdlncpaa
open Go.RowKit

theorem i64_mask (n : Int) (m : Int) (k : Nat) (hk : k < 63) (hm : (BitVec.ofInt 64 m).toNat = 2 ^ k - 1) : 0 ≤ bits .and .i64 n m ∧ bits .and .i64 n m < 2 ^ k := by
  have key : (BitVec.ofInt 64 n &&& BitVec.ofInt 64 m).toNat = (n % ((2 ^ 64 : Nat) : Int)).toNat % 2 ^ k := by
    rw [BitVec.toNat_and, BitVec.toNat_ofInt, hm, Nat.and_two_pow_sub_one_eq_mod]
  have e : bits .and .i64 n m = IntKind.i64.wrap ((BitVec.ofInt 64 n &&& BitVec.ofInt 64 m).toNat : Nat) := rfl
  have hlt : (n % ((2 ^ 64 : Nat) : Int)).toNat % 2 ^ k < 2 ^ k := Nat.mod_lt _ (Nat.pos_of_ne_zero (by simp))
  have hle : (2 : Nat) ^ k ≤ 2 ^ 62 := Nat.pow_le_pow_right (by decide) (by omega)
  rw [e, key, IntKind.wrap_i64]
  have hc : ((2 : Int) ^ k) = ((2 ^ k : Nat) : Int) := by simp
  rw [hc]
  generalize (2 : Nat) ^ k = m at *
  omega

theorem i64_and255 (n : Int) : 0 ≤ bits .and .i64 n 255 ∧ bits .and .i64 n 255 ≤ 255 := by
  have h := i64_mask n 255 8 (by decide) (by decide)
  have e : (2 : Int) ^ 8 = 256 := by decide
  omega
theorem i64_and30 (n : Int) : 0 ≤ bits .and .i64 n 1073741823 ∧ bits .and .i64 n 1073741823 ≤ 1073741823 := by
  have h := i64_mask n 1073741823 30 (by decide) (by decide)
  have e : (2 : Int) ^ 30 = 1073741824 := by decide
  omega

/-- Every old block but b is as it was; the streams are as they were. -/
structure But (b : Nat) (w w' : World) : Prop where
  os : w'.os = w.os
  tape : w'.tape = w.tape
  output : w'.output = w.output
  size : w.heap.size ≤ w'.heap.size
  block : ∀ k, k < w.heap.size → k ≠ b → w'.heap[k]? = w.heap[k]?

theorem But.refl (b : Nat) (w : World) : But b w w := ⟨rfl, rfl, rfl, Nat.le_refl _, fun _ _ _ => rfl⟩
theorem But.trans {b : Nat} {u v w : World} (h : But b u v) (k : But b v w) : But b u w :=
  ⟨k.os.trans h.os, k.tape.trans h.tape, k.output.trans h.output, Nat.le_trans h.size k.size, fun i hi hb => (k.block i (by have := h.size; omega) hb).trans (h.block i hi hb)⟩
theorem But.drewN {b : Nat} {u w : World} (h : But b u w) (n : Nat) : But b u (w.drewN n) := h.trans ⟨rfl, rfl, rfl, Nat.le_refl _, fun _ _ _ => rfl⟩
theorem But.drew {b : Nat} {u w : World} (h : But b u w) : But b u w.drew := h.trans ⟨rfl, rfl, rfl, Nat.le_refl _, fun _ _ _ => rfl⟩
theorem But.alloc {b : Nat} {u w : World} (h : But b u w) (o : Obj) : But b u (w.alloc o) :=
  h.trans ⟨rfl, rfl, rfl, by simp, fun k hk _ => Below.heap_alloc _ _ _ hk⟩
theorem But.setCell {b : Nat} {u w : World} (h : But b u w) {p : Addr} (hp : p.block = b ∨ u.heap.size ≤ p.block) (v : Value) : But b u (w.setCell p v) :=
  ⟨h.os, h.tape, h.output, by simp [World.setCell]; exact h.size, fun k hk hb => by rw [Below.heap_setCell _ _ _ _ (by omega)]; exact h.block k hk hb⟩
theorem But.below {b B : Nat} {u w : World} (h : But b u w) (hb : B ≤ b) (hB : B ≤ u.heap.size) : Below B u w :=
  ⟨h.os, h.tape, h.output, h.size, fun k hk => h.block k (by omega) (by omega)⟩
theorem But.of_below {b : Nat} {u w : World} (h : Below u.heap.size u w) : But b u w := ⟨h.os, h.tape, h.output, h.size, fun k hk _ => h.block k hk⟩
theorem But.cell {b : Nat} {u w : World} (h : But b u w) {p : Addr} (hp : p.block < u.heap.size) (hb : p.block ≠ b) : w.cell? p = u.cell? p := World.cell?_of_block (w := u) (h.block p.block hp hb)
theorem But.frozen {b : Nat} {u w : World} (h : But b u w) {p : Addr} (hp : p.block < u.heap.size) (hb : p.block ≠ b) : w.frozen? p = u.frozen? p := World.frozen?_of_block (w := u) (h.block p.block hp hb)
theorem lt_of_cell {w : World} {p : Addr} {v : Value} (h : w.cell? p = some v) : p.block < w.heap.size := by
  rcases Nat.lt_or_ge p.block w.heap.size with h' | h'
  · exact h'
  · simp [World.cell?, Array.getElem?_eq_none h'] at h

/-- The bytes that the cursor reads: each element is a cell that holds a byte, outside block b. -/
def Src (w : World) (b : Nat) (a : Option Addr) (len : Nat) : Prop :=
  len ≤ maxLen ∧ (len = 0 ∨ ∃ xb xo, a = some ⟨xb, xo, none⟩ ∧ xb < b ∧ ∀ i, i < len → ∃ v : Int, w.cell? ⟨xb, xo + i, none⟩ = some (.int .u8 v) ∧ 0 ≤ v ∧ v ≤ 255)

theorem Src.but {w w' : World} {b : Nat} {a : Option Addr} {len : Nat} (h : Src w b a len) (hb : But b w w') : Src w' b a len := by
  obtain ⟨hm, h⟩ := h
  refine ⟨hm, ?_⟩
  rcases h with h | ⟨xb, xo, ha, hne, hc⟩
  · exact .inl h
  · refine .inr ⟨xb, xo, ha, hne, fun i hi => ?_⟩
    obtain ⟨v, hv, hv0, hv1⟩ := hc i hi
    exact ⟨v, by rw [hb.cell (lt_of_cell hv) (Nat.ne_of_lt hne)]; exact hv, hv0, hv1⟩

theorem Src.of_row {w : World} {a : Option Addr} {len cap : Nat} {zs : List Int}
    (h : (a = none ∧ len = 0 ∧ cap = 0 ∧ zs = []) ∨ ∃ x, a = some x ∧ len ≤ cap ∧ cap ≤ maxLen ∧ zs.length = cap ∧ (∀ i, i < zs.length → w.cell? (x.add i) = some (.int .u8 (zs.getD i 0))) ∧ ∀ n ∈ zs, (Lit.int .u8 n).wf = true) :
    Src w w.heap.size a len := by
  rcases h with ⟨rfl, rfl, rfl, rfl⟩ | ⟨⟨xb, xo, sp⟩, rfl, hl, hm, hz, hc, hwf⟩
  · exact ⟨by unfold maxLen; omega, .inl rfl⟩
  · refine ⟨by omega, ?_⟩
    rcases Nat.eq_zero_or_pos len with h0 | h0
    · exact .inl h0
    · have hsp : sp = none := by
        have h1 := hc 0 (by omega)
        cases sp with
        | none => rfl
        | some s => simp [World.cell?, Addr.add] at h1; split at h1 <;> simp at h1
      subst hsp
      refine .inr ⟨xb, xo, rfl, ?_, fun i hi => ?_⟩
      · have := lt_of_cell (hc 0 (by omega))
        simp [Addr.add] at this
        omega
      · have h1 := hc i (by omega)
        have e : zs.getD i 0 = zs[i]'(by omega) := by simp [List.getD, show i < zs.length by omega]
        have h2 := hwf (zs[i]'(by omega)) (List.getElem_mem _)
        have e2 : (⟨xb, xo, none⟩ : Addr).add i = ⟨xb, xo + i, none⟩ := by cases i <;> simp [Addr.add]
        refine ⟨zs.getD i 0, by rw [← e2]; exact h1, ?_, ?_⟩
        · rw [e]; exact (bounds_u8 h2).1
        · rw [e]; exact (bounds_u8 h2).2

/-- The cursor at block b. -/
def Cur (w : World) (b : Nat) (a : Option Addr) (len cap : Nat) : Prop :=
  ∃ (k : Nat) (h : Int), k ≤ len ∧ w.cell? ⟨b, 0, none⟩ = some (.slice a len cap) ∧ w.cell? ⟨b, 1, none⟩ = some (.int .i64 k) ∧ w.cell? ⟨b, 2, none⟩ = some (.int .i64 h) ∧ w.frozen? ⟨b, 1, none⟩ = false ∧ w.frozen? ⟨b, 2, none⟩ = false ∧ Src w b a len

theorem Cur.kept {w w' : World} {b : Nat} {a : Option Addr} {len cap : Nat} (h : Cur w b a len cap) (hb : Below w.heap.size w w') : Cur w' b a len cap := by
  obtain ⟨k, h, hk, c0, c1, c2, f1, f2, hs⟩ := h
  have hlt : b < w.heap.size := lt_of_cell c0
  exact ⟨k, h, hk, by rw [hb.cell hlt]; exact c0, by rw [hb.cell hlt]; exact c1, by rw [hb.cell hlt]; exact c2, by rw [hb.frozen hlt]; exact f1, by rw [hb.frozen hlt]; exact f2, hs.but (But.of_below hb)⟩
theorem Cur.lt {w : World} {b : Nat} {a : Option Addr} {len cap : Nat} (h : Cur w b a len cap) : b < w.heap.size := by
  obtain ⟨k, h, hk, c0, _⟩ := h
  exact lt_of_cell c0
theorem Cur.alloc {w : World} {b : Nat} {a : Option Addr} {len cap : Nat} (h : Cur w b a len cap) (o : Obj) : Cur (w.alloc o) b a len cap :=
  h.kept ((Below.refl _ _).alloc (Nat.le_refl _) o)

theorem Cur.below {w w' : World} {b B : Nat} {a : Option Addr} {len cap : Nat} (h : Cur w b a len cap) (hb : Below B w w') (hB : b < B) : Cur w' b a len cap := by
  obtain ⟨k, h, hk, c0, c1, c2, f1, f2, hm, hs⟩ := h
  refine ⟨k, h, hk, by rw [hb.cell hB]; exact c0, by rw [hb.cell hB]; exact c1, by rw [hb.cell hB]; exact c2, by rw [hb.frozen hB]; exact f1, by rw [hb.frozen hB]; exact f2, hm, ?_⟩
  rcases hs with hs | ⟨xb, xo, ha, hne, hc⟩
  · exact .inl hs
  · refine .inr ⟨xb, xo, ha, hne, fun i hi => ?_⟩
    obtain ⟨v, hv, hv0, hv1⟩ := hc i hi
    exact ⟨v, by rw [hb.cell (by show xb < B; omega)]; exact hv, hv0, hv1⟩
theorem But.thenBelow {b : Nat} {u w w' : World} (h : But b u w) (k : Below u.heap.size w w') : But b u w' :=
  ⟨k.os.trans h.os, k.tape.trans h.tape, k.output.trans h.output, Nat.le_trans h.size k.size, fun i hi hb => (k.block i hi).trans (h.block i hi hb)⟩
theorem owns_but {w w' : World} {b B e size n : Nat} {v : Value} {xs : List Value} (h : w.ownsRow B e size v n xs) (hb : But b w w') (hB : b < B) : w'.ownsRow B e size v n xs := by
  obtain ⟨h1, h2⟩ := h
  refine ⟨h1, ?_⟩
  rcases h2 with h2 | ⟨g, cap, cur, hv, hg, hh, r⟩
  · exact .inl h2
  · exact .inr ⟨g, cap, cur, hv, hg, by rw [hb.block g (lt_of_block hh) (by omega)]; exact hh, r⟩

/-- A number with a property is drawn. -/
def Drawn (Q : Int → Prop) (b : Nat) (a : Option Addr) (len cap : Nat) (w : World) (e : Ending) (w' : World) : Prop :=
  ∃ x : Int, Q x ∧ e = .returned (.int .i64 x) ∧ Cur w' b a len cap ∧ But b w w'
def DrawnB (b : Nat) (a : Option Addr) (len cap : Nat) (w : World) (e : Ending) (w' : World) : Prop :=
  ∃ x : Bool, e = .returned (.bool x) ∧ Cur w' b a len cap ∧ But b w w'
end Go.Proofs.Ytndffjphdlncpaa

namespace Go.Proofs.Ytndffjphdlncpaa
open Go.ChangeShapes Go.WideShapes Go.ChangeAt Go.RowKit

set_option maxHeartbeats 400000 in
theorem Byte_any (b : Nat) (a : Option Addr) (len cap : Nat) (w : World) (hcur : Cur w b a len cap) :
    Calls Try.prog 76 #[.pointer (some ⟨b, 0, none⟩)] w (Drawn (fun x => 0 ≤ x ∧ x ≤ 255) b a len cap w) := by
  obtain ⟨k, h, hk, c0, c1, c2, f1, f2, hs⟩ := hcur
  have HS := Lib.hid hs
  obtain ⟨hm, hs⟩ := hs
  have hl : len ≤ 9223372036854775807 := by unfold maxLen at hm; omega
  clear hm
  by_cases hlt : k < len
  · rcases hs with hs | ⟨xb, xo, rfl, hne0, hc⟩
    · omega
    have hne : xb ≠ b := Nat.ne_of_lt hne0
    clear hne0
    obtain ⟨v, hv, hv0, hv1⟩ := hc k hlt
    clear hc
    go_enter Try.func76, Try.ntmps76
    go_wp2_with fail
    go_quiet (fail)
    go_wp2_with fail
    go_quiet (fail)
    go_wp2_with fail
    go_quiet (fail)
    go_wp2_with fail
    go_ret
    have hb : ∀ (n : Nat) (u v : Value), But b w (((w.setCell ⟨b, 2, none⟩ u).drewN n).setCell ⟨b, 1, none⟩ v) := fun n u v => (((But.refl b w).setCell (.inl rfl) u).drewN n).setCell (.inl rfl) v
    refine ⟨_, i64_and255 _, rfl, ⟨k + 1, wrap64 (wrap64 (h * 6364136223846793005) + 1442695040888963407), by omega, ?_, ?_, ?_, ?_, ?_, HS.out.but (hb _ _ _)⟩, hb _ _ _⟩
    all_goals go_simp
  · clear hs
    go_enter Try.func76, Try.ntmps76
    go_wp2_with fail
    go_quiet (fail)
    go_wp2_with fail
    go_quiet (fail)
    go_wp2_with fail
    go_ret
    have hb : ∀ (m n : Nat) (u : Value), But b w (((w.setCell ⟨b, 2, none⟩ u).drewN m).drewN n) := fun m n u => (((But.refl b w).setCell (.inl rfl) u).drewN m).drewN n
    refine ⟨_, i64_and255 _, rfl, ⟨k, wrap64 (wrap64 (h * 6364136223846793005) + 1442695040888963407), hk, ?_, ?_, ?_, ?_, ?_, HS.out.but (hb _ _ _)⟩, hb _ _ _⟩
    all_goals go_simp

theorem Below_any (b : Nat) (a : Option Addr) (len cap : Nat) (n : Int) (w : World) (hcur : Cur w b a len cap) (h0 : 0 < n) (h1 : n ≤ 9223372036854775807) :
    Calls Try.prog 66 #[.pointer (some ⟨b, 0, none⟩), .int .i64 n] w (Drawn (fun x => 0 ≤ x ∧ x < n) b a len cap w) := by
  by_cases hs : n ≤ 256
  · go_enter Try.func66, Try.ntmps66
    go_wp2_with (go_at_call 76; refine (Byte_any b a len cap _ hcur).mono ?_; rintro e w' ⟨x, ⟨x0, x1⟩, rfl, hcur1, hb1⟩)
    go_ret
    exact ⟨x % n, ⟨Int.emod_nonneg _ (by omega), Int.emod_lt_of_pos _ h0⟩, rfl, hcur1, hb1⟩
  · go_enter Try.func66, Try.ntmps66
    go_wp2_with fail
    refine (Byte_any b a len cap _ hcur).mono ?_
    rintro e w1 ⟨x, ⟨x0, x1⟩, rfl, hcur1, hb1⟩
    go_wp2_with fail
    refine (Byte_any b a len cap _ hcur1).mono ?_
    rintro e w2 ⟨y, ⟨y0, y1⟩, rfl, hcur2, hb2⟩
    go_wp2_with fail
    refine (Byte_any b a len cap _ hcur2).mono ?_
    rintro e w3 ⟨z, ⟨z0, z1⟩, rfl, hcur3, hb3⟩
    go_wp2_with fail
    refine (Byte_any b a len cap _ hcur3).mono ?_
    rintro e w4 ⟨v, ⟨v0, v1⟩, rfl, hcur4, hb4⟩
    go_wp2_with fail
    go_ret
    exact ⟨_, ⟨Int.emod_nonneg _ (by omega), Int.emod_lt_of_pos _ h0⟩, rfl, hcur4, ((hb1.trans hb2).trans hb3).trans hb4⟩

theorem New_any (a : Option Addr) (len cap : Nat) (w : World) (hs : Src w w.heap.size a len) (hlen : len ≤ 1048576) :
    Calls Try.prog 43 #[.slice a len cap] w fun e w' => e = .returned (.pointer (some ⟨w.heap.size, 0, none⟩)) ∧ Cur w' w.heap.size a len cap ∧ Below w.heap.size w w' := by
  have HS := Lib.hid hs
  obtain ⟨hm, hs⟩ := hs
  clear hm
  go_enter Try.func43, Try.ntmps43
  go_wp2_with fail
  go_loop [3, 4] (fun h i => ∃ (k : Nat) (n : Int), k ≤ len ∧ 0 ≤ n ∧ n ≤ 1073774825 ∧ i = .int .i64 k ∧ h = .int .i64 n) (fun _ i => len - (intOf i).toNat)
  case atStart => exact ⟨0, 33041 + len, Nat.zero_le _, by omega, by omega, rfl, rfl⟩
  case round =>
    obtain ⟨k, n, hk, n0, n1, rfl, rfl⟩ := hrel
    by_cases hlt : k < len
    · rcases hs with hs | ⟨xb, xo, rfl, hne, hc⟩
      · omega
      obtain ⟨v, hv, hv0, hv1⟩ := hc k hlt
      clear hc
      have N1 := Lib.hid n1
      clear n1
      by_cases h4 : (k : Int) < 4000
      · go_wp2_with fail
        go_round
        case rel => exact ⟨k + 1, _, by omega, (i64_and30 _).1, Int.le_trans (i64_and30 _).2 (by omega), by go_num, rfl⟩
        case measure => simp [intOf]; omega
      · go_wp2_with fail
        go_ret
        refine ⟨rfl, ⟨0, n, Nat.zero_le _, ?_, ?_, ?_, ?_, ?_, HS.out.but ((But.refl _ _).alloc _)⟩, (Below.refl _ _).alloc (Nat.le_refl _) _⟩
        all_goals go_simp
    · go_wp2_with fail
      go_ret
      refine ⟨rfl, ⟨0, n, Nat.zero_le _, ?_, ?_, ?_, ?_, ?_, HS.out.but ((But.refl _ _).alloc _)⟩, (Below.refl _ _).alloc (Nat.le_refl _) _⟩
      all_goals go_simp
/-- The laws' own bound. -/
theorem Big_no (a : Option Addr) (len cap : Nat) (w : World) (hlen : len ≤ 1048576) :
    Calls Try.prog 11 #[.slice a len cap] w fun e w' => e = .returned (.bool false) ∧ w = w' := by
  have hd : decide (1048576 < (len : Int)) = false := by simp; omega
  go_enter Try.func11, Try.ntmps11
  go_wp2
  go_ret
  exact ⟨rfl, rfl⟩
theorem Big_yes (a : Option Addr) (len cap : Nat) (w : World) (hm : len ≤ 9223372036854775807) (hlen : 1048576 < len) :
    Calls Try.prog 11 #[.slice a len cap] w fun e w' => e = .returned (.bool true) ∧ w = w' := by
  have hd : decide (1048576 < (len : Int)) = true := by simp; omega
  go_enter Try.func11, Try.ntmps11
  go_wp2
  go_ret
  exact ⟨rfl, rfl⟩
end Go.Proofs.Ytndffjphdlncpaa

namespace Go.Proofs.Ytndffjphdlncpaa
open Go.ChangeShapes Go.WideShapes Go.ChangeAt Go.RowKit

theorem ok_zero : OkC 0 0 0 := by unfold OkC; omega
theorem sp_valid (s a b : Int) : OkC (spS s a b) (spA s a b) (spB s a b) := by
  by_cases h : a = b
  · subst h
    obtain ⟨e1, e2, e3⟩ := sp_same s a
    rw [e1, e2, e3]
    unfold wh OkC
    split <;> omega
  · by_cases k : OkC s a b
    · obtain ⟨e1, e2, e3⟩ := sp_ok h k
      rw [e1, e2, e3]; exact k
    · obtain ⟨e1, e2, e3⟩ := sp_no h k
      rw [e1, e2, e3]; exact ok_zero
/-- A valid cell is what SplitCell makes of its parts. -/
theorem sp_self {s a b : Int} (k : OkC s a b) : spS s a b = s ∧ spA s a b = a ∧ spB s a b = b := by
  by_cases h : a = b
  · subst h
    obtain ⟨e1, e2, e3⟩ := sp_same s a
    rw [e1, e2, e3]
    unfold OkC at k
    exact ⟨by omega, wh_yes (by omega), wh_yes (by omega)⟩
  · exact sp_ok h k

/-- A valid cell is handed back; the cursor goes on. -/
def DrawnC (b : Nat) (a : Option Addr) (len cap : Nat) (w : World) (e : Ending) (w' : World) : Prop :=
  ∃ s x y : Int, OkC s x y ∧ e = .returned (.agg #[.int .i64 s, .int .i64 x, .int .i64 y]) ∧ Cur w' b a len cap ∧ But b w w'

theorem CellDraw_any (b : Nat) (a : Option Addr) (len cap : Nat) (w : World) (hcur : Cur w b a len cap) :
    Calls Try.prog 75 #[.pointer (some ⟨b, 0, none⟩)] w (DrawnC b a len cap w) := by
  have HC := Lib.hid hcur
  have hlt := hcur.lt
  clear hcur
  go_enter Try.func75, Try.ntmps75
  go_wp2_with fail
  refine (Below_any b a len cap 3 _ (HC.out.alloc _) (by omega) (by omega)).mono ?_
  rintro e w1 ⟨x, hx, rfl, hc1, hb1⟩
  go_wp2_with fail
  refine (Below_any b a len cap 3 _ hc1 (by omega) (by omega)).mono ?_
  rintro e w2 ⟨y, hy, rfl, hc2, hb2⟩
  go_wp2_with fail
  refine (Below_any b a len cap 3 _ hc2 (by omega) (by omega)).mono ?_
  rintro e w3 ⟨z, hz, rfl, hc3, hb3⟩
  go_wp2_with fail
  refine (SpecSplit_any _ _ _ _).mono ?_
  rintro e w4 ⟨rfl, hb4⟩
  have hv := sp_valid x y z
  generalize spS x y z = s' at hv ⊢
  generalize spA x y z = x' at hv ⊢
  generalize spB x y z = y' at hv ⊢
  have hbb := ((hb1.trans hb2).trans hb3).trans (But.of_below hb4)
  have hne : w.heap.size ≠ b := by omega
  have cc : ∀ i : Nat, w4.cell? ⟨w.heap.size, i, none⟩ = (w.alloc (.cells #[.int .i64 0, .int .i64 0, .int .i64 0] 41)).cell? ⟨w.heap.size, i, none⟩ := fun i => hbb.cell (p := ⟨w.heap.size, i, none⟩) (by simp) hne
  have ff : ∀ i : Nat, w4.frozen? ⟨w.heap.size, i, none⟩ = (w.alloc (.cells #[.int .i64 0, .int .i64 0, .int .i64 0] 41)).frozen? ⟨w.heap.size, i, none⟩ := fun i => hbb.frozen (p := ⟨w.heap.size, i, none⟩) (by simp) hne
  have f0 : w4.cell? ⟨w.heap.size, 0, none⟩ = some (.int .i64 0) := (cc 0).trans (by simp)
  have f1 : w4.cell? ⟨w.heap.size, 1, none⟩ = some (.int .i64 0) := (cc 1).trans (by simp)
  have f2 : w4.cell? ⟨w.heap.size, 2, none⟩ = some (.int .i64 0) := (cc 2).trans (by simp)
  have g0 : w4.frozen? ⟨w.heap.size, 0, none⟩ = false := (ff 0).trans (by simp)
  have g1 : w4.frozen? ⟨w.heap.size, 1, none⟩ = false := (ff 1).trans (by simp)
  have g2 : w4.frozen? ⟨w.heap.size, 2, none⟩ = false := (ff 2).trans (by simp)
  have hb5 : But b w w4 := ((But.refl _ _).alloc _).trans hbb
  have hc4 := hc3.kept hb4
  clear cc ff hbb hb1 hb2 hb3 hb4 hc1 hc2 hc3
  go_wp2_with fail
  refine bodyPost_ret (v := .agg #[.int .i64 s', .int .i64 x', .int .i64 y']) (by simp [results, Try.results75, go_sem, f0, f1, f2]) rfl ⟨s', x', y', hv, rfl, ?_, ?_⟩
  · refine hc4.below (B := w.heap.size) ?_ hlt
    refine Below.setCell (Below.setCell (Below.setCell (Below.refl _ _) ?_ _) ?_ _) ?_ _ <;> exact Nat.le_refl _
  · exact But.setCell (But.setCell (But.setCell hb5 (.inr (Nat.le_refl _)) _) (.inr (Nat.le_refl _)) _) (.inr (Nat.le_refl _)) _

end Go.Proofs.Ytndffjphdlncpaa
