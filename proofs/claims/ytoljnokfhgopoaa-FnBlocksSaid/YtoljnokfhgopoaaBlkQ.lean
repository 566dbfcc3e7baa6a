/- Blocks: the model's SameBlock. -/
import Derived.Test.YtoljnokfhgopoaaBlkZ
import Derived.BigQuiet
import Derived.Deep.QuietTactic
namespace Go.Proofs.Ytoljnokfhgopoaa
open Go.ChangeShapes Go.WideShapes Go.ChangeAt Go.RowKit

noncomputable def sameB (n m : Int) (xs ys : List C3) : Bool := @decide (n = m ∧ xs = ys) (Classical.propDecidable _)
theorem same_yes {n m : Int} {xs ys : List C3} (h : n = m) (k : xs.length = ys.length) (e : ∀ i, i < xs.length → xs.getD i C3.zero = ys.getD i C3.zero) : true = sameB n m xs ys := by
  have hx : xs = ys := by
    apply List.ext_getElem k
    intro i a b
    have := e i a
    simpa [List.getD, a, b] using this
  unfold sameB; simp [h, hx]
theorem same_no {n m : Int} {xs ys : List C3} (h : ¬ (n = m ∧ xs = ys)) : false = sameB n m xs ys := by unfold sameB; simp [h]
theorem same_no_at {n m : Int} {xs ys : List C3} {i : Nat} (h : xs.getD i C3.zero ≠ ys.getD i C3.zero) : false = sameB n m xs ys := same_no (fun k => h (by rw [k.2]))

/-- Two cells differ in a first place, or are one. -/
theorem C3.parts (c d : C3) : ((c.s == d.s) = false ∧ c ≠ d) ∨ (c.s = d.s ∧ (c.a == d.a) = false ∧ c ≠ d) ∨ (c.s = d.s ∧ c.a = d.a ∧ (c.b == d.b) = false ∧ c ≠ d) ∨ c = d := by
  by_cases h1 : c.s = d.s
  · by_cases h2 : c.a = d.a
    · by_cases h3 : c.b = d.b
      · exact .inr (.inr (.inr (C3.ext' h1 h2 h3)))
      · exact .inr (.inr (.inl ⟨h1, h2, by simpa using h3, fun h => h3 (by rw [h])⟩))
    · exact .inr (.inl ⟨h1, by simpa using h2, fun h => h2 (by rw [h])⟩)
  · exact .inl ⟨by simpa using h1, fun h => h1 (by rw [h])⟩

set_option maxHeartbeats 1000000 in
theorem SpecSame_any (l1 h1 l2 h2 : Nat) (n m : Int) (v1 v2 : Value) (xs ys : List C3) (w : World) (r1 : CellIn l1 h1 w v1 xs) (r2 : CellIn l2 h2 w v2 ys) (hh1 : h1 ≤ w.heap.size) (hh2 : h2 ≤ w.heap.size) :
    Calls Try.prog 35 #[.agg #[.int .i64 n, v1], .agg #[.int .i64 m, v2]] w fun e w' => e = .returned (.bool (sameB n m xs ys)) ∧ Below w.heap.size w w' := by
  obtain ⟨a1, c1, rfl⟩ := r1.form
  obtain ⟨a2, c2, rfl⟩ := r2.form
  have R1 := Lib.hid r1
  have R2 := Lib.hid r2
  have hl1 := r1.1
  have hl2 := r2.1
  clear r1 r2
  by_cases hn : n = m
  · subst hn
    by_cases hl : xs.length = ys.length
    · have HL := Lib.hid hl
      have hb : ((xs.length : Int) != (ys.length : Int)) = false := by simp [hl]
      clear hl
      go_enter Try.func35, Try.ntmps35
      go_wp2_with fail
      go_loopw [5] (fun i wr => ∃ k : Nat, k ≤ xs.length ∧ i = .int .i64 k ∧ Hid (∀ j, j < k → xs.getD j C3.zero = ys.getD j C3.zero) ∧ Hid (Below (w.heap.size + 1 + 1) ((w.alloc (.cells #[.int .i64 n, .slice a1 xs.length c1] 26)).alloc (.cells #[.int .i64 n, .slice a2 ys.length c2] 26)) wr)) (fun i _ => xs.length - (intOf i).toNat)
      case atStart => exact ⟨0, Nat.zero_le _, rfl, fun j hj => by omega, Below.refl _ _⟩
      case round =>
        obtain ⟨k, hk, rfl, hup, hbel⟩ := hrel
        have p1 : wr.cell? ⟨w.heap.size, 1, none⟩ = some (.slice a1 xs.length c1) := (hbel.out.cell (p := ⟨w.heap.size, 1, none⟩) (by simp; omega)).trans (by go_simp)
        have p2 : wr.cell? ⟨w.heap.size + 1, 1, none⟩ = some (.slice a2 ys.length c2) := (hbel.out.cell (p := ⟨w.heap.size + 1, 1, none⟩) (by simp)).trans (by go_simp)
        have hB : Below w.heap.size w wr := (bel_n (bel0 w _) (Nat.le_refl _) _).trans (hbel.out.mono (by omega))
        have HB := Lib.hid hB
        by_cases hlt : k < xs.length
        · obtain ⟨g1, rfl, _, _, ⟨e0, e1, e2⟩, _⟩ := R1.out.at (hB.mono hh1) hlt
          have hlt2 : k < ys.length := by rw [← HL.out]; exact hlt
          obtain ⟨g2, rfl, _, _, ⟨f0, f1, f2⟩, _⟩ := R2.out.at (hB.mono hh2) hlt2
          obtain ⟨c, hc⟩ : ∃ c, xs.getD k C3.zero = c := ⟨_, rfl⟩
          obtain ⟨d, hd⟩ : ∃ d, ys.getD k C3.zero = d := ⟨_, rfl⟩
          rw [hc] at e0 e1 e2
          rw [hd] at f0 f1 f2
          have HC := Lib.hid hc
          have HD := Lib.hid hd
          clear hc hd hB
          rcases C3.parts c d with ⟨q0, hne⟩ | ⟨q0, q1, hne⟩ | ⟨q0, q1, q2, hne⟩ | he
          case inr.inr.inr =>
            subst he
            have HN : Hid (∀ j, j < k + 1 → xs.getD j C3.zero = ys.getD j C3.zero) := Lib.hid (fun j hj => by
              rcases Nat.lt_succ_iff_lt_or_eq.1 hj with h | rfl
              · exact hup.out j h
              · rw [HC.out, HD.out])
            clear HC HD hup
            go_wp2_with fail
            go_quiet (fail)
            go_wp2_with fail
            go_roundw
            case rel => exact ⟨k + 1, by omega, by go_num, HN, Lib.hid ⟨hbel.out.os, hbel.out.tape, hbel.out.output, hbel.out.size, hbel.out.block⟩⟩
            case measure => simp [intOf] <;> omega
          all_goals
            have HN := Lib.hid (same_no_at (n := n) (m := n) (xs := xs) (ys := ys) (i := k) (by rw [HC.out, HD.out]; exact hne))
            clear HC HD hup hne
            go_wp2_with fail
            go_quiet (fail)
            go_wp2_with fail
            go_ret
            exact ⟨ret_bool HN.out, ⟨HB.out.os, HB.out.tape, HB.out.output, HB.out.size, HB.out.block⟩⟩
        · obtain rfl : k = xs.length := by omega
          have HN := Lib.hid (same_yes (n := n) (m := n) rfl HL.out hup.out)
          clear hB
          go_wp2_with fail
          go_ret
          exact ⟨ret_bool HN.out, HB.out⟩
    · have hb : ((xs.length : Int) != (ys.length : Int)) = true := by simp; omega
      have HN := Lib.hid (same_no (n := n) (m := n) (xs := xs) (ys := ys) (fun h => hl (by rw [h.2])))
      clear hl
      go_enter Try.func35, Try.ntmps35
      go_wp2_with fail
      go_ret
      exact ⟨ret_bool HN.out, bel_n (bel0 w _) (Nat.le_refl _) _⟩
  · have hb : (n != m) = true := by simpa using hn
    have HN := Lib.hid (same_no (n := n) (m := m) (xs := xs) (ys := ys) (fun h => hn h.1))
    clear hn
    go_enter Try.func35, Try.ntmps35
    go_wp2_with fail
    go_ret
    exact ⟨ret_bool HN.out, bel_n (bel0 w _) (Nat.le_refl _) _⟩

end Go.Proofs.Ytoljnokfhgopoaa
