/- Cells: the model's SplitCell. Contracts of the drawing cursor: each drawing function returns a number of its range and touches the cursor's block alone. Cells: a drawn cell is valid. Blocks: a drawn block is valid. -/
import Derived.Test.YtfidnhhlcdbaeaaGreatDoorM04
import Derived.Test.YtfidnhhlcdbaeaaGreatDoorRows
import Derived.Test.YtfidnhhlcdbaeaaGreatDoorM00
import Derived.WalkKit
import Derived.ProofKit
import Derived.OpenShut
import Derived.WalkSmall
import Derived.BigQuiet
import Derived.Deep.QuietTactic
import Derived.Outline
import Derived.IntWalk
import Derived.Lib.Hide

namespace Go.Proofs.YtfidnhhlcdbaeaaGreatDoor
open Go.ChangeShapes Go.WideShapes Go.ChangeAt Go.RowKit

/-- The parts of SplitCell's answer. -/
def spS (s a b : Int) : Int := if a = b then 0 else if OkC s a b then s else 0
def spA (s a b : Int) : Int := if a = b then wh a else if OkC s a b then a else 0
def spB (s a b : Int) : Int := if a = b then wh a else if OkC s a b then b else 0

theorem sp_same (s a : Int) : spS s a a = 0 ∧ spA s a a = wh a ∧ spB s a a = wh a := ⟨if_pos rfl, if_pos rfl, if_pos rfl⟩
theorem sp_ok {s a b : Int} (h : ¬ a = b) (k : OkC s a b) : spS s a b = s ∧ spA s a b = a ∧ spB s a b = b := by
  unfold spS spA spB
  simp only [if_neg h, if_pos k, and_self]
theorem sp_no {s a b : Int} (h : ¬ a = b) (k : ¬ OkC s a b) : spS s a b = 0 ∧ spA s a b = 0 ∧ spB s a b = 0 := by
  unfold spS spA spB
  simp only [if_neg h, if_neg k, and_self]

theorem SpecSplit_any (s a b : Int) (w : World) :
    Calls Tryz.prog 53 #[.int .i64 s, .int .i64 a, .int .i64 b] w fun e w' => e = .returned (.agg #[.int .i64 (spS s a b), .int .i64 (spA s a b), .int .i64 (spB s a b)]) ∧ Below w.heap.size w w' := by
  by_cases h : a = b
  · subst h
    obtain ⟨e1, e2, e3⟩ := sp_same s a
    rw [e1, e2, e3]
    clear e1 e2 e3
    go_enter Tryz.func53, Tryz.ntmps53
    go_wp2_with (refine (SpecWhole_any _ _).mono ?_; rintro e w' ⟨rfl, rfl⟩)
    exact bodyPost_ret (v := .agg #[.int .i64 0, .int .i64 (wh a), .int .i64 (wh a)]) (by simp [results, Tryz.results53, go_sem]) rfl ⟨rfl, ((Below.refl _ _).alloc (Nat.le_refl _) _).alloc (by simp) _⟩
  · by_cases k : OkC s a b
    · obtain ⟨e1, e2, e3⟩ := sp_ok h k
      rw [e1, e2, e3]
      clear e1 e2 e3
      have k' := Lib.hid (decide_eq_true k)
      clear k
      go_enter Tryz.func53, Tryz.ntmps53
      go_wp2_with (refine (SpecOk_any _ _ _ _).mono ?_; rw [k'.out]; rintro e w' ⟨rfl, rfl⟩)
      exact bodyPost_ret (v := .agg #[.int .i64 s, .int .i64 a, .int .i64 b]) (by simp [results, Tryz.results53, go_sem]) rfl ⟨rfl, (((Below.refl _ _).alloc (Nat.le_refl _) _).alloc (by simp) _).alloc (by simp; omega) _⟩
    · obtain ⟨e1, e2, e3⟩ := sp_no h k
      rw [e1, e2, e3]
      clear e1 e2 e3
      have k' := Lib.hid (decide_eq_false k)
      clear k
      go_enter Tryz.func53, Tryz.ntmps53
      go_wp2_with (refine (SpecOk_any _ _ _ _).mono ?_; rw [k'.out]; rintro e w' ⟨rfl, rfl⟩)
      exact bodyPost_ret (v := .agg #[.int .i64 0, .int .i64 0, .int .i64 0]) (by simp [results, Tryz.results53, go_sem]) rfl ⟨rfl, (((Below.refl _ _).alloc (Nat.le_refl _) _).alloc (by simp) _).alloc (by simp; omega) _⟩

end Go.Proofs.YtfidnhhlcdbaeaaGreatDoor

namespace Go.Proofs.YtfidnhhlcdbaeaaGreatDoor
open Go.ChangeShapes Go.WideShapes Go.ChangeAt Go.RowKit

set_option maxHeartbeats 400000 in
theorem Byte_any (b : Nat) (a : Option Addr) (len cap : Nat) (w : World) (hcur : Cur w b a len cap) :
    Calls Tryz.prog 59 #[.pointer (some ⟨b, 0, none⟩)] w (Drawn (fun x => 0 ≤ x ∧ x ≤ 255) b a len cap w) := by
  obtain ⟨k, h, hk, c0, c1, c2, f1, f2, hs⟩ := hcur
  have HS := Lib.hid hs
  obtain ⟨hm, hs⟩ := hs
  have hl : len ≤ 9223372036854775807 := by unfold maxLen at hm; omega
  clear hm
  by_cases hlt : k < len
  · rcases hs with hs | ⟨xb, xo, rfl, hne0, hc⟩
    · omega
    have hne : xb ≠ b := Nat.ne_of_lt hne0
    clear hne0
    obtain ⟨v, hv, hv0, hv1⟩ := hc k hlt
    clear hc
    go_enter Tryz.func59, Tryz.ntmps59
    go_wp2_with fail
    go_quiet (fail)
    go_wp2_with fail
    go_quiet (fail)
    go_wp2_with fail
    go_quiet (fail)
    go_wp2_with fail
    go_ret
    have hb : ∀ (n : Nat) (u v : Value), But b w (((w.setCell ⟨b, 2, none⟩ u).drewN n).setCell ⟨b, 1, none⟩ v) := fun n u v => (((But.refl b w).setCell (.inl rfl) u).drewN n).setCell (.inl rfl) v
    refine ⟨_, i64_and255 _, rfl, ⟨k + 1, wrap64 (wrap64 (h * 6364136223846793005) + 1442695040888963407), by omega, ?_, ?_, ?_, ?_, ?_, HS.out.but (hb _ _ _)⟩, hb _ _ _⟩
    all_goals go_simp
  · clear hs
    go_enter Tryz.func59, Tryz.ntmps59
    go_wp2_with fail
    go_quiet (fail)
    go_wp2_with fail
    go_quiet (fail)
    go_wp2_with fail
    go_ret
    have hb : ∀ (m n : Nat) (u : Value), But b w (((w.setCell ⟨b, 2, none⟩ u).drewN m).drewN n) := fun m n u => (((But.refl b w).setCell (.inl rfl) u).drewN m).drewN n
    refine ⟨_, i64_and255 _, rfl, ⟨k, wrap64 (wrap64 (h * 6364136223846793005) + 1442695040888963407), hk, ?_, ?_, ?_, ?_, ?_, HS.out.but (hb _ _ _)⟩, hb _ _ _⟩
    all_goals go_simp

theorem Below_any (b : Nat) (a : Option Addr) (len cap : Nat) (n : Int) (w : World) (hcur : Cur w b a len cap) (h0 : 0 < n) (h1 : n ≤ 9223372036854775807) :
    Calls Tryz.prog 38 #[.pointer (some ⟨b, 0, none⟩), .int .i64 n] w (Drawn (fun x => 0 ≤ x ∧ x < n) b a len cap w) := by
  by_cases hs : n ≤ 256
  · go_enter Tryz.func38, Tryz.ntmps38
    go_wp2_with (go_at_call 59; refine (Byte_any b a len cap _ hcur).mono ?_; rintro e w' ⟨x, ⟨x0, x1⟩, rfl, hcur1, hb1⟩)
    go_ret
    exact ⟨x % n, ⟨Int.emod_nonneg _ (by omega), Int.emod_lt_of_pos _ h0⟩, rfl, hcur1, hb1⟩
  · go_enter Tryz.func38, Tryz.ntmps38
    go_wp2_with fail
    refine (Byte_any b a len cap _ hcur).mono ?_
    rintro e w1 ⟨x, ⟨x0, x1⟩, rfl, hcur1, hb1⟩
    go_wp2_with fail
    refine (Byte_any b a len cap _ hcur1).mono ?_
    rintro e w2 ⟨y, ⟨y0, y1⟩, rfl, hcur2, hb2⟩
    go_wp2_with fail
    refine (Byte_any b a len cap _ hcur2).mono ?_
    rintro e w3 ⟨z, ⟨z0, z1⟩, rfl, hcur3, hb3⟩
    go_wp2_with fail
    refine (Byte_any b a len cap _ hcur3).mono ?_
    rintro e w4 ⟨v, ⟨v0, v1⟩, rfl, hcur4, hb4⟩
    go_wp2_with fail
    go_ret
    exact ⟨_, ⟨Int.emod_nonneg _ (by omega), Int.emod_lt_of_pos _ h0⟩, rfl, hcur4, ((hb1.trans hb2).trans hb3).trans hb4⟩

theorem New_any (a : Option Addr) (len cap : Nat) (w : World) (hs : Src w w.heap.size a len) (hlen : len ≤ 1048576) :
    Calls Tryz.prog 18 #[.slice a len cap] w fun e w' => e = .returned (.pointer (some ⟨w.heap.size, 0, none⟩)) ∧ Cur w' w.heap.size a len cap ∧ Below w.heap.size w w' := by
  have HS := Lib.hid hs
  obtain ⟨hm, hs⟩ := hs
  clear hm
  go_enter Tryz.func18, Tryz.ntmps18
  go_wp2_with fail
  go_loop [3, 4] (fun h i => ∃ (k : Nat) (n : Int), k ≤ len ∧ 0 ≤ n ∧ n ≤ 1073774825 ∧ i = .int .i64 k ∧ h = .int .i64 n) (fun _ i => len - (intOf i).toNat)
  case atStart => exact ⟨0, 33041 + len, Nat.zero_le _, by omega, by omega, rfl, rfl⟩
  case round =>
    obtain ⟨k, n, hk, n0, n1, rfl, rfl⟩ := hrel
    by_cases hlt : k < len
    · rcases hs with hs | ⟨xb, xo, rfl, hne, hc⟩
      · omega
      obtain ⟨v, hv, hv0, hv1⟩ := hc k hlt
      clear hc
      have N1 := Lib.hid n1
      clear n1
      by_cases h4 : (k : Int) < 4000
      · go_wp2_with fail
        go_round
        case rel => exact ⟨k + 1, _, by omega, (i64_and30 _).1, Int.le_trans (i64_and30 _).2 (by omega), by go_num, rfl⟩
        case measure => simp [intOf]; omega
      · go_wp2_with fail
        go_ret
        refine ⟨rfl, ⟨0, n, Nat.zero_le _, ?_, ?_, ?_, ?_, ?_, HS.out.but ((But.refl _ _).alloc _)⟩, (Below.refl _ _).alloc (Nat.le_refl _) _⟩
        all_goals go_simp
    · go_wp2_with fail
      go_ret
      refine ⟨rfl, ⟨0, n, Nat.zero_le _, ?_, ?_, ?_, ?_, ?_, HS.out.but ((But.refl _ _).alloc _)⟩, (Below.refl _ _).alloc (Nat.le_refl _) _⟩
      all_goals go_simp
/-- The laws' own bound. -/
theorem Big_no (a : Option Addr) (len cap : Nat) (w : World) (hlen : len ≤ 1048576) :
    Calls Tryz.prog 4 #[.slice a len cap] w fun e w' => e = .returned (.bool false) ∧ w = w' := by
  have hd : decide (1048576 < (len : Int)) = false := by simp; omega
  go_enter Tryz.func4, Tryz.ntmps4
  go_wp2
  go_ret
  exact ⟨rfl, rfl⟩
theorem Big_yes (a : Option Addr) (len cap : Nat) (w : World) (hm : len ≤ 9223372036854775807) (hlen : 1048576 < len) :
    Calls Tryz.prog 4 #[.slice a len cap] w fun e w' => e = .returned (.bool true) ∧ w = w' := by
  have hd : decide (1048576 < (len : Int)) = true := by simp; omega
  go_enter Tryz.func4, Tryz.ntmps4
  go_wp2
  go_ret
  exact ⟨rfl, rfl⟩
end Go.Proofs.YtfidnhhlcdbaeaaGreatDoor

namespace Go.Proofs.YtfidnhhlcdbaeaaGreatDoor
open Go.ChangeShapes Go.WideShapes Go.ChangeAt Go.RowKit

theorem ok_zero : OkC 0 0 0 := by unfold OkC; omega
theorem sp_valid (s a b : Int) : OkC (spS s a b) (spA s a b) (spB s a b) := by
  by_cases h : a = b
  · subst h
    obtain ⟨e1, e2, e3⟩ := sp_same s a
    rw [e1, e2, e3]
    unfold wh OkC
    split <;> omega
  · by_cases k : OkC s a b
    · obtain ⟨e1, e2, e3⟩ := sp_ok h k
      rw [e1, e2, e3]; exact k
    · obtain ⟨e1, e2, e3⟩ := sp_no h k
      rw [e1, e2, e3]; exact ok_zero
/-- A valid cell is what SplitCell makes of its parts. -/
theorem sp_self {s a b : Int} (k : OkC s a b) : spS s a b = s ∧ spA s a b = a ∧ spB s a b = b := by
  by_cases h : a = b
  · subst h
    obtain ⟨e1, e2, e3⟩ := sp_same s a
    rw [e1, e2, e3]
    unfold OkC at k
    exact ⟨by omega, wh_yes (by omega), wh_yes (by omega)⟩
  · exact sp_ok h k

/-- A valid cell is handed back; the cursor goes on. -/
def DrawnC (b : Nat) (a : Option Addr) (len cap : Nat) (w : World) (e : Ending) (w' : World) : Prop :=
  ∃ s x y : Int, OkC s x y ∧ e = .returned (.agg #[.int .i64 s, .int .i64 x, .int .i64 y]) ∧ Cur w' b a len cap ∧ But b w w'

theorem CellDraw_any (b : Nat) (a : Option Addr) (len cap : Nat) (w : World) (hcur : Cur w b a len cap) :
    Calls Tryz.prog 41 #[.pointer (some ⟨b, 0, none⟩)] w (DrawnC b a len cap w) := by
  have HC := Lib.hid hcur
  have hlt := hcur.lt
  clear hcur
  go_enter Tryz.func41, Tryz.ntmps41
  go_wp2_with fail
  refine (Below_any b a len cap 3 _ (HC.out.alloc _) (by omega) (by omega)).mono ?_
  rintro e w1 ⟨x, hx, rfl, hc1, hb1⟩
  go_wp2_with fail
  refine (Below_any b a len cap 3 _ hc1 (by omega) (by omega)).mono ?_
  rintro e w2 ⟨y, hy, rfl, hc2, hb2⟩
  go_wp2_with fail
  refine (Below_any b a len cap 3 _ hc2 (by omega) (by omega)).mono ?_
  rintro e w3 ⟨z, hz, rfl, hc3, hb3⟩
  go_wp2_with fail
  refine (SpecSplit_any _ _ _ _).mono ?_
  rintro e w4 ⟨rfl, hb4⟩
  have hv := sp_valid x y z
  generalize spS x y z = s' at hv ⊢
  generalize spA x y z = x' at hv ⊢
  generalize spB x y z = y' at hv ⊢
  have hbb := ((hb1.trans hb2).trans hb3).trans (But.of_below hb4)
  have hne : w.heap.size ≠ b := by omega
  have cc : ∀ i : Nat, w4.cell? ⟨w.heap.size, i, none⟩ = (w.alloc (.cells #[.int .i64 0, .int .i64 0, .int .i64 0] 50)).cell? ⟨w.heap.size, i, none⟩ := fun i => hbb.cell (p := ⟨w.heap.size, i, none⟩) (by simp) hne
  have ff : ∀ i : Nat, w4.frozen? ⟨w.heap.size, i, none⟩ = (w.alloc (.cells #[.int .i64 0, .int .i64 0, .int .i64 0] 50)).frozen? ⟨w.heap.size, i, none⟩ := fun i => hbb.frozen (p := ⟨w.heap.size, i, none⟩) (by simp) hne
  have f0 : w4.cell? ⟨w.heap.size, 0, none⟩ = some (.int .i64 0) := (cc 0).trans (by simp)
  have f1 : w4.cell? ⟨w.heap.size, 1, none⟩ = some (.int .i64 0) := (cc 1).trans (by simp)
  have f2 : w4.cell? ⟨w.heap.size, 2, none⟩ = some (.int .i64 0) := (cc 2).trans (by simp)
  have g0 : w4.frozen? ⟨w.heap.size, 0, none⟩ = false := (ff 0).trans (by simp)
  have g1 : w4.frozen? ⟨w.heap.size, 1, none⟩ = false := (ff 1).trans (by simp)
  have g2 : w4.frozen? ⟨w.heap.size, 2, none⟩ = false := (ff 2).trans (by simp)
  have hb5 : But b w w4 := ((But.refl _ _).alloc _).trans hbb
  have hc4 := hc3.kept hb4
  clear cc ff hbb hb1 hb2 hb3 hb4 hc1 hc2 hc3
  go_wp2_with fail
  refine bodyPost_ret (v := .agg #[.int .i64 s', .int .i64 x', .int .i64 y']) (by simp [results, Tryz.results41, go_sem, f0, f1, f2]) rfl ⟨s', x', y', hv, rfl, ?_, ?_⟩
  · refine hc4.below (B := w.heap.size) ?_ hlt
    refine Below.setCell (Below.setCell (Below.setCell (Below.refl _ _) ?_ _) ?_ _) ?_ _ <;> exact Nat.le_refl _
  · exact But.setCell (But.setCell (But.setCell hb5 (.inr (Nat.le_refl _)) _) (.inr (Nat.le_refl _)) _) (.inr (Nat.le_refl _)) _

end Go.Proofs.YtfidnhhlcdbaeaaGreatDoor

namespace Go.Proofs.YtfidnhhlcdbaeaaGreatDoor
open Go.ChangeShapes Go.WideShapes Go.ChangeAt Go.RowKit

theorem CellIn.but {lo hi b : Nat} {w w' : World} {v : Value} {xs : List C3} (h : CellIn lo hi w v xs) (hb : But b w w') (hl : b < lo) (hh : hi ≤ w.heap.size) : CellIn lo hi w' v xs := by
  obtain ⟨hl', h | ⟨g, cap, hv, hg, hlt, hc⟩⟩ := h
  · exact ⟨hl', .inl h⟩
  · refine ⟨hl', .inr ⟨g, cap, hv, hg, hlt, fun i hi => ?_⟩⟩
    have hg1 : g < w.heap.size := by omega
    have hg2 : g ≠ b := by omega
    obtain ⟨⟨e0, e1, e2⟩, f0, f1, f2⟩ := hc i hi
    exact ⟨⟨(hb.cell (p := ⟨g, _, none⟩) hg1 hg2).trans e0, (hb.cell (p := ⟨g, _, none⟩) hg1 hg2).trans e1, (hb.cell (p := ⟨g, _, none⟩) hg1 hg2).trans e2⟩,
      (hb.frozen (p := ⟨g, _, none⟩) hg1 hg2).trans f0, (hb.frozen (p := ⟨g, _, none⟩) hg1 hg2).trans f1, (hb.frozen (p := ⟨g, _, none⟩) hg1 hg2).trans f2⟩

/-- A block's two places: what they hold, and that they may be written. -/
def BoxB (p : Nat) (x y : Value) (u : World) : Prop := u.cell? ⟨p, 0, none⟩ = some x ∧ u.cell? ⟨p, 1, none⟩ = some y ∧ u.frozen? ⟨p, 0, none⟩ = false ∧ u.frozen? ⟨p, 1, none⟩ = false
theorem BoxB.lt {p : Nat} {x y : Value} {u : World} (h : BoxB p x y u) : p < u.heap.size := lt_of_cell h.1
theorem BoxB.but {p b : Nat} {x y : Value} {u w : World} (h : BoxB p x y u) (hb : But b u w) (hp : p ≠ b) : BoxB p x y w := by
  have hl := h.lt
  obtain ⟨h0, h1, h2, h3⟩ := h
  exact ⟨(hb.cell (p := ⟨p, 0, none⟩) hl hp).trans h0, (hb.cell (p := ⟨p, 1, none⟩) hl hp).trans h1, (hb.frozen (p := ⟨p, 0, none⟩) hl hp).trans h2, (hb.frozen (p := ⟨p, 1, none⟩) hl hp).trans h3⟩
theorem BoxB.below {p B : Nat} {x y : Value} {u w : World} (h : BoxB p x y u) (hb : Below B u w) (hp : p < B) : BoxB p x y w := by
  obtain ⟨h0, h1, h2, h3⟩ := h
  exact ⟨(hb.cell (p := ⟨p, 0, none⟩) hp).trans h0, (hb.cell (p := ⟨p, 1, none⟩) hp).trans h1, (hb.frozen (p := ⟨p, 0, none⟩) hp).trans h2, (hb.frozen (p := ⟨p, 1, none⟩) hp).trans h3⟩
theorem BoxB.new (w : World) (x y : Value) (T : TypeId) : BoxB w.heap.size x y (w.alloc (.cells #[x, y] T)) := ⟨by simp, by simp, by simp, by simp⟩

theorem BoxB.store {p : Nat} {x y : Value} {u : World} (h : BoxB p x y u) (z : Value) : BoxB p x z (u.setCell ⟨p, 1, none⟩ z) := by
  obtain ⟨h0, h1, h2, h3⟩ := h
  exact ⟨(World.cell?_setCell_other _ _ _ _ (by simp)).trans h0, World.cell?_setCell_same _ _ _ h1, (World.frozen?_setCell _ _ _ _).trans h2, (World.frozen?_setCell _ _ _ _).trans h3⟩
theorem BoxB.set_far {p q o : Nat} {x y : Value} {u : World} (h : BoxB p x y u) (hq : q ≠ p) (z : Value) : BoxB p x y (u.setCell ⟨q, o, none⟩ z) := by
  obtain ⟨h0, h1, h2, h3⟩ := h
  have hn : ∀ i : Nat, (⟨q, o, none⟩ : Addr) ≠ ⟨p, i, none⟩ := by intro i; simp
  exact ⟨(World.cell?_setCell_other _ _ _ _ (hn _)).trans h0, (World.cell?_setCell_other _ _ _ _ (hn _)).trans h1, (World.frozen?_setCell _ _ _ _).trans h2, (World.frozen?_setCell _ _ _ _).trans h3⟩

/-- A valid block is handed back; the cursor goes on. -/
def DrawnB2 (b : Nat) (a : Option Addr) (len cap : Nat) (w : World) (e : Ending) (w' : World) : Prop :=
  ∃ (n : Int) (v : Value) (xs : List C3), BlkOk n xs ∧ e = .returned (.agg #[.int .i64 n, v]) ∧ CellIn w.heap.size w'.heap.size w' v xs ∧ Cur w' b a len cap ∧ But b w w'

theorem add1 {x : Int} (h : 0 ≤ x ∧ x < 4) : IntKind.i64.wrap (1 + x) = 1 + x := by rw [IntKind.wrap_i64]; omega

theorem plain_ok {n a : Int} (h : PlOk n a) : BlkOk n (plC n a) := by
  rw [(pl_yes h).2.1]
  obtain ⟨hn, ha⟩ := h
  have s := (sq_wrap hn.1 hn.2).2.1
  refine ⟨hn, ?_, ?_⟩
  · rw [List.length_replicate]; omega
  · intro c hc
    have := (List.mem_replicate.1 hc).2
    subst this
    unfold C3.Ok OkC
    simp; omega

set_option maxHeartbeats 1000000 in
theorem BlockDraw_any (b : Nat) (a : Option Addr) (len cap : Nat) (w : World) (hcur : Cur w b a len cap) :
    Calls Tryz.prog 17 #[.pointer (some ⟨b, 0, none⟩)] w (DrawnB2 b a len cap w) := by
  have HC := Lib.hid hcur
  have hlt := hcur.lt
  clear hcur
  go_enter Tryz.func17, Tryz.ntmps17
  go_wp2_with fail
  refine (Below_any b a len cap 6 _ (HC.out.alloc _) (by omega) (by omega)).mono ?_
  rintro e w1 ⟨d, ⟨d0, d1⟩, rfl, hc1, hb1⟩
  have P1 := (BoxB.new w (.int .i64 0) (.slice none 0 0) 26).but hb1 (by omega)
  have U1 : But b w w1 := ((But.refl b w).alloc _).trans hb1
  have z1 : w.heap.size < w1.heap.size := by have := hb1.size; simp at this; omega
  clear hb1
  by_cases h0 : d = 0
  · subst h0
    go_wp2_with fail
    refine (SpecStar_any _).mono ?_
    rintro e w2 ⟨v, rfl, hin, hb2⟩
    obtain ⟨av, cv, rfl⟩ := hin.form
    obtain ⟨p0, p1, f0, f1⟩ := P1.below hb2 z1
    have HI := Lib.hid hin
    have HU := Lib.hid (U1.trans (But.of_below hb2))
    have HCU := Lib.hid (hc1.kept hb2)
    clear hin hb2 hc1 U1 P1
    go_wp2_with fail
    refine bodyPost_ret (v := .agg #[.int .i64 3, .slice av starC.length cv]) (by simp [results, Tryz.results17, go_sem, p0, p1]) rfl ⟨3, _, starC, star_ok, rfl, ?_, ?_, ?_⟩
    · refine CellIn.wide (lo := w1.heap.size) (hi := w2.heap.size) ?_ (by omega) (by simp [World.setCell])
      refine CellIn.set_far (CellIn.set_far HI.out ?_ _) ?_ _ <;> (simp <;> omega)
    · refine HCU.out.below (B := w.heap.size) ?_ hlt
      refine Below.setCell (Below.setCell (Below.refl _ _) ?_ _) ?_ _ <;> exact Nat.le_refl _
    · exact But.setCell (But.setCell HU.out (.inr (Nat.le_refl _)) _) (.inr (Nat.le_refl _)) _
  by_cases h1 : d = 1
  · subst h1
    go_wp2_with fail
    refine (Below_any b a len cap 4 _ hc1 (by omega) (by omega)).mono ?_
    rintro e w2 ⟨x, hx, rfl, hc2, hb2⟩
    have hxw := add1 hx
    go_wp2_with fail
    refine (Below_any b a len cap 3 _ hc2 (by omega) (by omega)).mono ?_
    rintro e w3 ⟨y, hy, rfl, hc3, hb3⟩
    go_wp2_with fail
    have hpl : PlOk (1 + x) y := ⟨by omega, by omega⟩
    have hq := plain_ok hpl
    have CP := SpecPlain_any (1 + x) y w3
    rw [(pl_yes hpl).1, (pl_yes hpl).2.2] at CP
    generalize plC (1 + x) y = xs at CP hq
    have hqh := Lib.hid hq
    clear hpl hq
    refine CP.mono ?_
    rintro e w4 ⟨v, rfl, hin, hb4⟩
    obtain ⟨av, cv, rfl⟩ := hin.form
    have U3 := (U1.trans hb2).trans hb3
    have z3 : w1.heap.size ≤ w3.heap.size := by have := hb2.size; have := hb3.size; omega
    have P3 := (P1.but hb2 (by omega)).but hb3 (by omega)
    have P5 := (P3.below hb4 (by omega)).below (bel0 w4 (.cells #[.int .i64 (1 + x), .slice av xs.length cv] 26)) (by have := hb4.size; omega)
    have z4 : w3.heap.size ≤ w4.heap.size := hb4.size
    have ne4 : w4.heap.size ≠ w.heap.size := by omega
    have HI := Lib.hid (hin.below (bel0 w4 (.cells #[.int .i64 (1 + x), .slice av xs.length cv] 26)))
    have HU := Lib.hid ((U3.trans (But.of_below hb4)).trans ((But.refl b w4).alloc (.cells #[.int .i64 (1 + x), .slice av xs.length cv] 26)))
    have HCU := Lib.hid ((hc3.kept hb4).alloc (.cells #[.int .i64 (1 + x), .slice av xs.length cv] 26))
    obtain ⟨p0, p1, f0, f1⟩ := P5
    clear hin hb4 hc3 hc2 hb2 hb3 U1 U3 P1 P3 hc1 CP
    go_wp2_with fail
    refine bodyPost_ret (v := .agg #[.int .i64 (1 + x), .slice av xs.length cv]) (by simp [results, Tryz.results17, go_sem, p0, p1]) rfl ⟨1 + x, _, xs, hqh.out, rfl, ?_, ?_, ?_⟩
    · refine CellIn.wide (lo := w3.heap.size) (hi := w4.heap.size) ?_ (by omega) (by simp [World.setCell])
      refine CellIn.set_far (CellIn.set_far HI.out ?_ _) ?_ _ <;> (simp <;> omega)
    · refine HCU.out.below (B := w.heap.size) ?_ hlt
      refine Below.setCell (Below.setCell (Below.refl _ _) ?_ _) ?_ _ <;> exact Nat.le_refl _
    · exact But.setCell (But.setCell HU.out (.inr (Nat.le_refl _)) _) (.inr (Nat.le_refl _)) _
  · have q0 : (d == 0) = false := by simpa using h0
    have q1 : (d == 1) = false := by simpa using h1
    go_wp2_with fail
    refine (Below_any b a len cap 4 _ hc1 (by omega) (by omega)).mono ?_
    rintro e w2 ⟨x, hx, rfl, hc2, hb2⟩
    have hxw := add1 hx
    obtain ⟨n, hn⟩ : ∃ n, 1 + x = n := ⟨_, rfl⟩
    have n0 : 1 ≤ n := by omega
    have n1 : n ≤ 4 := by omega
    have HX := Lib.hid hn
    obtain ⟨hw, s0, s1⟩ := sq_wrap n0 n1
    obtain ⟨m, hm⟩ : ∃ m : Nat, n * n = m := ⟨(n * n).toNat, by omega⟩
    rw [hm] at s0 s1
    have HM := Lib.hid hm
    clear hm
    have P2 := P1.but hb2 (by omega)
    have U2 := U1.trans hb2
    have z2 : w1.heap.size ≤ w2.heap.size := hb2.size
    clear P1 U1 hb2 hc1
    go_wp2_with fail
    have zw : w.heap.size < w2.heap.size := by omega
    have Q2 := BoxB.new w2 (.int .i64 n) (.slice none 0 0) 26
    have P3 := P2.below (bel0 w2 (.cells #[.int .i64 n, .slice none 0 0] 26)) zw
    have HC3 := hc2.alloc (.cells #[.int .i64 n, .slice none 0 0] 26)
    have U3 := U2.trans ((But.refl b w2).alloc (.cells #[.int .i64 n, .slice none 0 0] 26))
    obtain ⟨i0, hi0, hz0, hz1, hz2⟩ := info_parts3 info_cell
    go_loopw [7] (fun i wr => ∃ (k : Nat) (v : Value) (xs : List C3), k ≤ m ∧ i = .int .i64 k ∧ xs.length = k ∧ Hid (∀ c ∈ xs, c.Ok) ∧ Hid (wr.ownsRow (w2.heap.size + 1) 50 3 v k (places xs)) ∧ Hid (BoxB w2.heap.size (.int .i64 n) v wr) ∧ Hid (BoxB w.heap.size (.int .i64 0) (.slice none 0 0) wr) ∧ Hid (Cur wr b a len cap) ∧ Hid (But b w wr) ∧ w2.heap.size + 1 ≤ wr.heap.size) (fun i _ => m - (intOf i).toNat)
    case atStart => exact ⟨0, .slice none 0 0, [], Nat.zero_le _, rfl, rfl, (fun c hc => by cases hc), ⟨rfl, .inl ⟨rfl, rfl⟩⟩, Q2, P3, HC3, U3, by simp⟩
    case round =>
      obtain ⟨k, v, xs, hk, rfl, hxl, hok, hown, hq, hp, hcu, hbu, hsz⟩ := hrel
      by_cases hlk : k < m
      · have hd : decide ((k : Int) < n * n) = true := by rw [HM.out]; simpa using hlk
        go_wp2_with fail
        refine (CellDraw_any b a len cap _ hcu.out).mono ?_
        rintro e u1 ⟨s, x', y', hv, rfl, hcu1, hbu1⟩
        have zu : wr.heap.size ≤ u1.heap.size := hbu1.size
        have hown1 := owns_but hown.out hbu1 (by omega)
        have hq1 := hq.out.but hbu1 (by omega)
        have hp1 := hp.out.but hbu1 (by omega)
        have hB1 := hbu.out.trans hbu1
        have W2 : Below u1.heap.size u1 ((u1.alloc (.cells #[.int .i64 s, .int .i64 x', .int .i64 y'] 50)).alloc (.cells #[.int .i64 s, .int .i64 x', .int .i64 y'] 50)) := bel_n (bel0 u1 (.cells #[.int .i64 s, .int .i64 x', .int .i64 y'] 50)) (Nat.le_refl _) (.cells #[.int .i64 s, .int .i64 x', .int .i64 y'] 50)
        have KK : ∀ o, (u1.alloc o).cell? ⟨w2.heap.size, 1, none⟩ = some v := fun o => (hq1.below (bel0 u1 o) (by omega)).2.1
        have KK2 : ∀ o o', ((u1.alloc o).alloc o').cell? ⟨w2.heap.size, 1, none⟩ = some v := fun o o' => (hq1.below (bel_n (bel0 u1 o) (Nat.le_refl _) o') (by omega)).2.1
        have HO := Lib.hid (owns_below hown1 W2)
        have HNW := Lib.hid (news_at (u1.alloc (.cells #[.int .i64 s, .int .i64 x', .int .i64 y'] 50)) (u1.heap.size + 1) #[.int .i64 s, .int .i64 x', .int .i64 y'] 50 (by simp))
        have HB1 : Hid (w2.heap.size + 1 ≤ ((u1.alloc (.cells #[.int .i64 s, .int .i64 x', .int .i64 y'] 50)).alloc (.cells #[.int .i64 s, .int .i64 x', .int .i64 y'] 50)).heap.size) := Lib.hid (by simp; omega)
        have HQ := Lib.hid (hq1.below W2 (by omega))
        have HP := Lib.hid (hp1.below W2 (by omega))
        have HCc := Lib.hid (hcu1.kept W2)
        have HBu := Lib.hid (hB1.trans (But.of_below W2))
        have HV := Lib.hid hv
        clear hown hq hp hcu hbu hown1 hq1 hp1 hcu1 hbu1 hB1 W2 hv
        go_wp2_with (at_builtin; refine wpList_append_lies _ rfl _ _ 24 rfl (w2.heap.size + 1) 50 i0 _ 3 24 Tryz.underlying24 hi0 hz0 hz1 hz2 rfl (by decide) _ _ _ rfl HO.out ⟨u1.heap.size + 1, 0, none⟩ 1 1 [.int .i64 s, .int .i64 x', .int .i64 y'] rfl rfl HNW.out (by simp [Value.oneCell']) (by omega) (by unfold maxLen; omega) (by omega) HB1.out (u1.heap.size + 1 + 1) (by simp) ?_; intro gg cc w5 hown5 hgrow hat hlt5; have hbw := (Below.refl (w2.heap.size + 1) _).grown hgrow HB1.out (own_ge3 HO.out); have HQ5 := Lib.hid (HQ.out.below hbw (Nat.lt_succ_self _)); have k1 := HQ5.out.2.1; have k3 := HQ5.out.2.2.2)
        have HN : Hid ((w5.setCell ⟨w2.heap.size, 1, none⟩ (.slice (some ⟨gg, 0, none⟩) (k + 1) cc)).ownsRow (w2.heap.size + 1) 50 3 (.slice (some ⟨gg, 0, none⟩) (k + 1) cc) (k + 1) (places (xs ++ [⟨s, x', y'⟩]))) := Lib.hid (owns_set (by rw [places_append]; exact hown5) (by simp) _)
        have HQ6 := Lib.hid (HQ5.out.store (.slice (some ⟨gg, 0, none⟩) (k + 1) cc))
        have HP6 := Lib.hid ((HP.out.below hbw (by omega)).set_far (q := w2.heap.size) (o := 1) (by omega) (.slice (some ⟨gg, 0, none⟩) (k + 1) cc))
        have HC6 := Lib.hid ((HCc.out.below hbw (by omega)).below (B := w2.heap.size) (Below.setCell (Below.refl _ _) (p := ⟨w2.heap.size, 1, none⟩) (Nat.le_refl _) (.slice (some ⟨gg, 0, none⟩) (k + 1) cc)) (by omega))
        have HU6 := Lib.hid (But.setCell (HBu.out.thenBelow (hbw.mono (by omega))) (p := ⟨w2.heap.size, 1, none⟩) (.inr (by simp; omega)) (.slice (some ⟨gg, 0, none⟩) (k + 1) cc))
        have HK6 : Hid (∀ c ∈ xs ++ [(⟨s, x', y'⟩ : C3)], c.Ok) := Lib.hid (fun c hc => by
          rcases List.mem_append.1 hc with h | h
          · exact hok.out c h
          · rw [List.mem_singleton.1 h]; exact HV.out)
        have hs6 : w2.heap.size + 1 ≤ w5.heap.size := Nat.le_trans HB1.out hbw.size
        clear hown5 hgrow hat hlt5 hbw k1 k3 HQ5 HQ HP HCc HBu HO HNW
        go_wp2_with fail
        go_roundw
        case rel => exact ⟨k + 1, _, xs ++ [⟨s, x', y'⟩], by omega, by go_num, by simp [hxl], HK6, HN, HQ6, HP6, HC6, HU6, by simp [World.setCell]; exact hs6⟩
        case measure => simp [intOf] <;> omega
      · obtain rfl : k = m := by omega
        have hd : decide ((k : Int) < n * n) = false := by rw [HM.out]; simp
        subst hxl
        have hin := CellIn.of_owns hown.out (by omega)
        obtain ⟨av, cv, rfl⟩ := hin.form
        have HI := Lib.hid hin
        obtain ⟨q0', q1', _, _⟩ := hq.out
        obtain ⟨p0, p1, f0, f1⟩ := hp.out
        have HOK : Hid (BlkOk n xs) := Lib.hid ⟨⟨n0, n1⟩, HM.out.symm, hok.out⟩
        clear hin hown hok
        go_wp2_with fail
        refine bodyPost_ret (v := .agg #[.int .i64 n, .slice av xs.length cv]) (by simp [results, Tryz.results17, go_sem, p0, p1]) rfl ⟨n, _, xs, HOK.out, rfl, ?_, ?_, ?_⟩
        · refine CellIn.wide (lo := w2.heap.size + 1) (hi := wr.heap.size) ?_ (by omega) (by simp [World.setCell])
          refine CellIn.set_far (CellIn.set_far HI.out ?_ _) ?_ _ <;> (simp <;> omega)
        · refine hcu.out.below (B := w.heap.size) ?_ hlt
          refine Below.setCell (Below.setCell (Below.refl _ _) ?_ _) ?_ _ <;> exact Nat.le_refl _
        · exact But.setCell (But.setCell hbu.out (.inr (Nat.le_refl _)) _) (.inr (Nat.le_refl _)) _

end Go.Proofs.YtfidnhhlcdbaeaaGreatDoor
