/- Plain facts on the fields of a line. -/
import Derived.Test.YthnelahnlinbnaaDoorHexF
namespace Go.Proofs.YthnelahnlinbnaaDoor
open Go.RowKit

def okB (c : UInt8) : Prop := 32 ≤ c.toNat ∧ c.toNat ≤ 126
def okTo (s : ByteArray) (k : Nat) : Prop := ∀ j, j < k → okB (s.data.toList.getD j 0)
def addF (s : ByteArray) (fs : List ByteArray) (b k : Nat) : List ByteArray := if b < k then fs ++ [s.extract b k] else fs
/-- The fields before place k that are ended by a space, and where the next one begins. -/
def sp (s : ByteArray) : Nat → List ByteArray × Nat
  | 0 => ([], 0)
  | k + 1 => if s.data.toList.getD k 0 = 32 then (addF s (sp s k).1 (sp s k).2 k, k + 1) else sp s k
def allF (s : ByteArray) : List ByteArray := addF s (sp s s.size).1 (sp s s.size).2 s.size
def OkS (s : ByteArray) : Prop := s.size ≤ 600 ∧ okTo s s.size ∧ (allF s).length ≤ 24
def SInv (s : ByteArray) (k : Nat) (fs : List ByteArray) (b : Nat) : Prop :=
  (k ≤ s.size ∧ (fs, b) = sp s k ∧ okTo s k) ∨ (k = s.size + 1 ∧ fs = allF s ∧ okTo s s.size)
theorem addF_yes {s : ByteArray} {fs : List ByteArray} {b k : Nat} (h : b < k) : addF s fs b k = fs ++ [s.extract b k] := by unfold addF; rw [if_pos h]
theorem addF_no {s : ByteArray} {fs : List ByteArray} {b k : Nat} (h : ¬ b < k) : addF s fs b k = fs := by unfold addF; rw [if_neg h]
theorem okTo_succ {s : ByteArray} {k : Nat} (h : k < s.size) (ho : okTo s k) (a : 32 ≤ s[k].toNat) (b : s[k].toNat ≤ 126) : okTo s (k + 1) := by
  intro j hj
  by_cases e : j < k
  · exact ho j e
  · obtain rfl : j = k := by omega
    rw [getD_byte s j h]; exact ⟨a, b⟩
theorem okTo_bad {s : ByteArray} {k : Nat} (h : k < s.size) (hb : s[k].toNat < 32 ∨ 126 < s[k].toNat) : ¬ OkS s := by
  intro ho
  have h1 := ho.2.1 k h
  rw [getD_byte s k h] at h1
  unfold okB at h1
  omega
theorem SInv_start (s : ByteArray) : SInv s 0 [] 0 := .inl ⟨Nat.zero_le _, rfl, fun j hj => by omega⟩
theorem SInv_skip {s : ByteArray} {k b : Nat} {fs : List ByteArray} (h : k < s.size) (hi : SInv s k fs b) (h0 : s[k].toNat ≠ 32) (a : 32 ≤ s[k].toNat) (c : s[k].toNat ≤ 126) : SInv s (k + 1) fs b := by
  rcases hi with ⟨_, h1, h2⟩ | ⟨h1, _⟩
  · refine .inl ⟨h, ?_, okTo_succ h h2 a c⟩
    rw [sp, if_neg]
    · exact h1
    · rw [getD_byte s k h]
      intro e
      rw [e] at h0
      exact h0 rfl
  · omega
theorem SInv_cut {s : ByteArray} {k b : Nat} {fs : List ByteArray} (h : k < s.size) (hi : SInv s k fs b) (h0 : s[k].toNat = 32) : SInv s (k + 1) (addF s fs b k) (k + 1) := by
  rcases hi with ⟨_, h1, h2⟩ | ⟨h1, _⟩
  · refine .inl ⟨h, ?_, okTo_succ h h2 (by omega) (by omega)⟩
    rw [sp, if_pos, ← h1]
    rw [getD_byte s k h]
    exact UInt8.toNat_inj.1 h0
  · omega
theorem SInv_end {s : ByteArray} {b : Nat} {fs : List ByteArray} (hi : SInv s s.size fs b) : SInv s (s.size + 1) (addF s fs b s.size) (s.size + 1) := by
  rcases hi with ⟨_, h1, h2⟩ | ⟨h1, _⟩
  · refine .inr ⟨rfl, ?_, h2⟩
    unfold allF
    rw [← h1]
  · omega
theorem SInv_all {s : ByteArray} {b : Nat} {fs : List ByteArray} (hi : SInv s (s.size + 1) fs b) : fs = allF s ∧ okTo s s.size := by
  rcases hi with ⟨h1, _⟩ | ⟨_, h1, h2⟩
  · omega
  · exact ⟨h1, h2⟩
/-- The cells of strings. -/
def strs (fs : List ByteArray) : List Value := fs.map Value.string
theorem strs_append (a b : List ByteArray) : strs (a ++ b) = strs a ++ strs b := by simp [strs]
theorem strs_one (l : List ByteArray) : ∀ u ∈ strs l, u.oneCell' = true := by
  intro u hu
  simp [strs] at hu
  obtain ⟨b, _, rfl⟩ := hu
  rfl
/-- What SplitFields answers. -/
def SplitPost (e9 : Nat) (s : ByteArray) (w : World) (e : Ending) (w' : World) : Prop :=
  ∃ (v : Value) (fs : List ByteArray), ((OkS s ∧ fs = allF s ∧ e = .returned (.tuple #[v, .bool true])) ∨ (¬ OkS s ∧ fs = [] ∧ e = .returned (.tuple #[v, .bool false]))) ∧ w'.ownsRow w.heap.size e9 1 v fs.length (strs fs) ∧ Below w.heap.size w w'
theorem owns_slice {w : World} {base e size n : Nat} {v : Value} {xs : List Value} (h : w.ownsRow base e size v n xs) : ∃ a cap, v = .slice a n cap := by
  obtain ⟨_, ⟨h1, h2⟩ | ⟨g, cap, cur, hv, _⟩⟩ := h
  · exact ⟨none, 0, by rw [h1, h2]⟩
  · exact ⟨_, _, hv⟩
theorem owns_below {w w' : World} {base e size n : Nat} {v : Value} {xs : List Value} (h : w.ownsRow base e size v n xs) (hb : Below w.heap.size w w') : w'.ownsRow base e size v n xs := by
  obtain ⟨h1, h2⟩ := h
  refine ⟨h1, ?_⟩
  rcases h2 with h2 | ⟨g, cap, cur, hv, hg, hh, r⟩
  · exact .inl h2
  · exact .inr ⟨g, cap, cur, hv, hg, by rw [hb.block g (lt_of_block hh)]; exact hh, r⟩
end Go.Proofs.YthnelahnlinbnaaDoor
