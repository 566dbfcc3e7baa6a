/- Rows of joins by value, opened: what a law is told of one that came in. -/
import Derived.Test.YtlkiacgpiodkiaaM02
import Derived.Test.YtlkiacgpiodkiaaBlkO
import Derived.OpenShut
import Derived.ShutString
import Derived.Lib.SmallJoins
import Derived.Deep.Slices
import Derived.Deep.Strs

set_option linter.unusedSimpArgs false
set_option linter.unusedVariables false
namespace Go.Proofs.Ytlkiacgpiodkiaa
open Go.ChangeShapes Go.WideShapes Go.ChangeAt Go.RowKit Go.Joins Go.Deep

theorem cellsOf_lJn : Try.prog.cellsOf 67 = 3 := by kernel_rfl
theorem cellsOf_boolO : Try.prog.cellsOf 4 = 1 := by kernel_rfl
theorem listJn_of {n : Nat} {p : Nat → J3 → Prop} (h : ∀ i, i < n → ∃ x, p i x) : ∃ xs : List J3, xs.length = n ∧ ∀ i, i < n → p i (xs.getD i J3.zero) := by
  obtain ⟨f, hf⟩ := choose_lt h
  exact ⟨(List.range n).map f, by simp, fun i hi => by simpa [List.getD, hi] using hf i hi⟩

variable {H : Type} {enc : TypeId × Value → H} {w : World} {base : Nat} {spare : Nat → Bool} {held : Bool}

theorem trodJn {P : Program} {t : TypeId} {f0 f1 f2 : Field} {fuel : Nat} {cs : List Value} {x : DataW H × List MemPlace} (ht : P.underlying t = some (.struct #[f0, f1, f2])) (h : DataW.trod enc P w base spare held fuel t cs = some x) :
    ∃ y0 y1 y2 n, x = (.agg [y0.1, y1.1, y2.1], y0.2 ++ (y1.2 ++ (y2.2))) ∧ cs.length = P.cellsOf t ∧ DataW.trod enc P w base spare held n f0.type ((cs.drop f0.offset).take (P.cellsOf f0.type)) = some y0 ∧ DataW.trod enc P w base spare held n f1.type ((cs.drop f1.offset).take (P.cellsOf f1.type)) = some y1 ∧ DataW.trod enc P w base spare held n f2.type ((cs.drop f2.offset).take (P.cellsOf f2.type)) = some y2 := by
  obtain ⟨xs, n, _, rfl, hl, hlen, hf⟩ := DataW.trod_struct ht h
  match xs, hlen with
  | [y0, y1, y2], _ => exact ⟨y0, y1, y2, n, by simp, hl, by simpa using hf 0 f0 rfl, by simpa using hf 1 f1 rfl, by simpa using hf 2 f2 rfl⟩
theorem arrayJn {α : Type} {cs : List α} (h : cs.length = 3) : ∃ c0 c1 c2, cs = [c0, c1, c2] := by
  match cs, h with
  | [c0, c1, c2], _ => exact ⟨c0, c1, c2, rfl⟩

theorem openJnS {fuel : Nat} {c : Value} {x : DataW H × List MemPlace} (h : DataW.trod enc Try.prog w base spare held fuel 35 [c] = some x) :
    ∃ (a : Option Addr) (len cap : Nat) (xs : List J3), c = .slice a len cap ∧ ArgJn w a len xs ∧ ∀ c ∈ xs, c.Wf := by
  rcases open_slice Try.underlying35 h with ⟨hcs, _⟩ | ⟨x, len, cap, m, n, D, Pl, hcs, hb, hl, hm, hmm, _, hi⟩
  · simp at hcs
    exact ⟨none, 0, 0, [], hcs, ⟨rfl, Nat.zero_le _, .inl rfl⟩, by simp⟩
  · simp at hcs
    have hle : len ≤ m := by rw [hmm]; split <;> omega
    obtain ⟨xb, xo, sp⟩ := x
    have key : ∀ i, i < len → ∃ c : J3, c.Wf ∧ w.cell? ((⟨xb, xo, sp⟩ : Addr).add (i * 3)) = some (.bool c.up) ∧ w.cell? (((⟨xb, xo, sp⟩ : Addr).add (i * 3)).add 1) = some (.int .i64 c.a) ∧ w.cell? (((⟨xb, xo, sp⟩ : Addr).add (i * 3)).add 2) = some (.int .i64 c.b) := by
      intro i hlt
      obtain ⟨cs, h1, h2⟩ := hi i (by omega)
      rw [cellsOf_lJn] at h1
      obtain ⟨_, hlen, hat⟩ := World.cells?_some h1
      obtain ⟨v0, v1, v2, rfl⟩ := arrayJn hlen
      obtain ⟨y0, y1, y2, n', _, _, t0, t1, t2⟩ := trodJn Try.underlying67 h2
      have t0' : DataW.trod enc Try.prog w base spare held n' 4 [v0] = some y0 := by simpa [cellsOf_int, cellsOf_boolO] using t0
      have t1' : DataW.trod enc Try.prog w base spare held n' 3 [v1] = some y1 := by simpa [cellsOf_int, cellsOf_boolO] using t1
      have t2' : DataW.trod enc Try.prog w base spare held n' 3 [v2] = some y2 := by simpa [cellsOf_int, cellsOf_boolO] using t2
      obtain ⟨s0, e0, _⟩ := DataW.trod_bool Try.underlying4 t0'
      obtain ⟨s1, e1, _, w1⟩ := DataW.trod_int Try.underlying3 t1'
      obtain ⟨s2, e2, _, w2⟩ := DataW.trod_int Try.underlying3 t2'
      simp at e0 e1 e2
      subst e0 e1 e2
      have c0 := hat 0 (by omega)
      have c1 := hat 1 (by omega)
      have c2 := hat 2 (by omega)
      refine ⟨⟨s0, s1, s2⟩, ⟨w1, w2⟩, ?_, by simpa using c1, by simpa using c2⟩
      simpa [Addr.add] using c0
    obtain ⟨xs, hxl, hxs⟩ := listJn_of key
    refine ⟨_, len, cap, xs, hcs, ⟨hxl, by omega, ?_⟩, fun c hc => by obtain ⟨i, hi, rfl⟩ := List.getElem_of_mem hc; have := (hxs i (by omega)).1; simpa [List.getD, hi] using this⟩
    rcases Nat.eq_zero_or_pos len with h0 | h0
    · exact .inl h0
    · have hsp : sp = none := by
        have h1 := (hxs 0 h0).2.1
        cases sp with
        | none => rfl
        | some s => simp [World.cell?, Addr.add] at h1; split at h1 <;> simp at h1
      subst hsp
      refine .inr ⟨xb, xo, rfl, ?_, fun i hlt => ?_⟩
      · have := lt_of_cell (hxs 0 h0).2.1
        simpa [Addr.add] using this
      · obtain ⟨_, c0, c1, c2⟩ := hxs i hlt
        have ad : ∀ (b o k : Nat), (⟨b, o, none⟩ : Addr).add k = ⟨b, o + k, none⟩ := fun b o k => by cases k <;> simp [Addr.add]
        rw [ad] at c0 c1 c2
        rw [ad] at c1 c2
        exact ⟨c0, c1, c2⟩

end Go.Proofs.Ytlkiacgpiodkiaa
