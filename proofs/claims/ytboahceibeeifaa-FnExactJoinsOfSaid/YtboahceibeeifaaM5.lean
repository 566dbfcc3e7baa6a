/- Blocks by value, opened: what a law is told of a block that came in. Rows of patchs by value, opened: what a law is told of one that came in. Layouts by value, opened: what a law is told of one that came in. -/
import Derived.Test.YtboahceibeeifaaBlkT
import Derived.OpenShut
import Derived.ShutString
import Derived.Lib.SmallJoins
import Derived.Deep.Slices
import Derived.Deep.Strs
import Derived.Test.YtboahceibeeifaaPatT

set_option linter.unusedSimpArgs false
set_option linter.unusedVariables false
namespace Go.Proofs.Ytboahceibeeifaa
open Go.ChangeShapes Go.WideShapes Go.ChangeAt Go.RowKit Go.Joins Go.Deep

theorem cellsOf_int : Try.prog.cellsOf 3 = 1 := by kernel_rfl
instance : Inhabited C3 := ⟨C3.zero⟩
theorem list_of {n : Nat} {p : Nat → C3 → Prop} (h : ∀ i, i < n → ∃ x, p i x) : ∃ xs : List C3, xs.length = n ∧ ∀ i, i < n → p i (xs.getD i C3.zero) := by
  obtain ⟨f, hf⟩ := choose_lt h
  exact ⟨(List.range n).map f, by simp, fun i hi => by simpa [List.getD, hi] using hf i hi⟩

variable {H : Type} {enc : TypeId × Value → H} {w : World} {base : Nat} {spare : Nat → Bool} {held : Bool}

end Go.Proofs.Ytboahceibeeifaa

set_option linter.unusedSimpArgs false
set_option linter.unusedVariables false
namespace Go.Proofs.Ytboahceibeeifaa
open Go.ChangeShapes Go.WideShapes Go.ChangeAt Go.RowKit Go.Joins Go.Deep

theorem cellsOf_lPat : Try.prog.cellsOf 110 = 5 := by kernel_rfl
theorem listPat_of {n : Nat} {p : Nat → P5 → Prop} (h : ∀ i, i < n → ∃ x, p i x) : ∃ xs : List P5, xs.length = n ∧ ∀ i, i < n → p i (xs.getD i P5.zero) := by
  obtain ⟨f, hf⟩ := choose_lt h
  exact ⟨(List.range n).map f, by simp, fun i hi => by simpa [List.getD, hi] using hf i hi⟩

variable {H : Type} {enc : TypeId × Value → H} {w : World} {base : Nat} {spare : Nat → Bool} {held : Bool}

theorem trodPat {P : Program} {t : TypeId} {f0 f1 f2 f3 f4 : Field} {fuel : Nat} {cs : List Value} {x : DataW H × List MemPlace} (ht : P.underlying t = some (.struct #[f0, f1, f2, f3, f4])) (h : DataW.trod enc P w base spare held fuel t cs = some x) :
    ∃ y0 y1 y2 y3 y4 n, x = (.agg [y0.1, y1.1, y2.1, y3.1, y4.1], y0.2 ++ (y1.2 ++ (y2.2 ++ (y3.2 ++ (y4.2))))) ∧ cs.length = P.cellsOf t ∧ DataW.trod enc P w base spare held n f0.type ((cs.drop f0.offset).take (P.cellsOf f0.type)) = some y0 ∧ DataW.trod enc P w base spare held n f1.type ((cs.drop f1.offset).take (P.cellsOf f1.type)) = some y1 ∧ DataW.trod enc P w base spare held n f2.type ((cs.drop f2.offset).take (P.cellsOf f2.type)) = some y2 ∧ DataW.trod enc P w base spare held n f3.type ((cs.drop f3.offset).take (P.cellsOf f3.type)) = some y3 ∧ DataW.trod enc P w base spare held n f4.type ((cs.drop f4.offset).take (P.cellsOf f4.type)) = some y4 := by
  obtain ⟨xs, n, _, rfl, hl, hlen, hf⟩ := DataW.trod_struct ht h
  match xs, hlen with
  | [y0, y1, y2, y3, y4], _ => exact ⟨y0, y1, y2, y3, y4, n, by simp, hl, by simpa using hf 0 f0 rfl, by simpa using hf 1 f1 rfl, by simpa using hf 2 f2 rfl, by simpa using hf 3 f3 rfl, by simpa using hf 4 f4 rfl⟩
theorem arrayPat {α : Type} {cs : List α} (h : cs.length = 5) : ∃ c0 c1 c2 c3 c4, cs = [c0, c1, c2, c3, c4] := by
  match cs, h with
  | [c0, c1, c2, c3, c4], _ => exact ⟨c0, c1, c2, c3, c4, rfl⟩

theorem openPatS {fuel : Nat} {c : Value} {x : DataW H × List MemPlace} (h : DataW.trod enc Try.prog w base spare held fuel 41 [c] = some x) :
    ∃ (a : Option Addr) (len cap : Nat) (xs : List P5), c = .slice a len cap ∧ ArgPat w a len xs ∧ ∀ c ∈ xs, c.Wf := by
  rcases open_slice Try.underlying41 h with ⟨hcs, _⟩ | ⟨x, len, cap, m, n, D, Pl, hcs, hb, hl, hm, hmm, _, hi⟩
  · simp at hcs
    exact ⟨none, 0, 0, [], hcs, ⟨rfl, Nat.zero_le _, .inl rfl⟩, by simp⟩
  · simp at hcs
    have hle : len ≤ m := by rw [hmm]; split <;> omega
    obtain ⟨xb, xo, sp⟩ := x
    have key : ∀ i, i < len → ∃ c : P5, c.Wf ∧ w.cell? ((⟨xb, xo, sp⟩ : Addr).add (i * 5)) = some (.int .i64 c.x) ∧ w.cell? (((⟨xb, xo, sp⟩ : Addr).add (i * 5)).add 1) = some (.int .i64 c.y) ∧ w.cell? (((⟨xb, xo, sp⟩ : Addr).add (i * 5)).add 2) = some (.int .i64 c.w) ∧ w.cell? (((⟨xb, xo, sp⟩ : Addr).add (i * 5)).add 3) = some (.int .i64 c.h) ∧ w.cell? (((⟨xb, xo, sp⟩ : Addr).add (i * 5)).add 4) = some (.int .i64 c.c) := by
      intro i hlt
      obtain ⟨cs, h1, h2⟩ := hi i (by omega)
      rw [cellsOf_lPat] at h1
      obtain ⟨_, hlen, hat⟩ := World.cells?_some h1
      obtain ⟨v0, v1, v2, v3, v4, rfl⟩ := arrayPat hlen
      obtain ⟨y0, y1, y2, y3, y4, n', _, _, t0, t1, t2, t3, t4⟩ := trodPat Try.underlying110 h2
      have t0' : DataW.trod enc Try.prog w base spare held n' 3 [v0] = some y0 := by simpa [cellsOf_int] using t0
      have t1' : DataW.trod enc Try.prog w base spare held n' 3 [v1] = some y1 := by simpa [cellsOf_int] using t1
      have t2' : DataW.trod enc Try.prog w base spare held n' 3 [v2] = some y2 := by simpa [cellsOf_int] using t2
      have t3' : DataW.trod enc Try.prog w base spare held n' 3 [v3] = some y3 := by simpa [cellsOf_int] using t3
      have t4' : DataW.trod enc Try.prog w base spare held n' 3 [v4] = some y4 := by simpa [cellsOf_int] using t4
      obtain ⟨s0, e0, _, w0⟩ := DataW.trod_int Try.underlying3 t0'
      obtain ⟨s1, e1, _, w1⟩ := DataW.trod_int Try.underlying3 t1'
      obtain ⟨s2, e2, _, w2⟩ := DataW.trod_int Try.underlying3 t2'
      obtain ⟨s3, e3, _, w3⟩ := DataW.trod_int Try.underlying3 t3'
      obtain ⟨s4, e4, _, w4⟩ := DataW.trod_int Try.underlying3 t4'
      simp at e0 e1 e2 e3 e4
      subst e0 e1 e2 e3 e4
      have c0 := hat 0 (by omega)
      have c1 := hat 1 (by omega)
      have c2 := hat 2 (by omega)
      have c3 := hat 3 (by omega)
      have c4 := hat 4 (by omega)
      refine ⟨⟨s0, s1, s2, s3, s4⟩, ⟨w0, w1, w2, w3, w4⟩, ?_, by simpa using c1, by simpa using c2, by simpa using c3, by simpa using c4⟩
      simpa [Addr.add] using c0
    obtain ⟨xs, hxl, hxs⟩ := listPat_of key
    refine ⟨_, len, cap, xs, hcs, ⟨hxl, by omega, ?_⟩, fun c hc => by obtain ⟨i, hi, rfl⟩ := List.getElem_of_mem hc; have := (hxs i (by omega)).1; simpa [List.getD, hi] using this⟩
    rcases Nat.eq_zero_or_pos len with h0 | h0
    · exact .inl h0
    · have hsp : sp = none := by
        have h1 := (hxs 0 h0).2.1
        cases sp with
        | none => rfl
        | some s => simp [World.cell?, Addr.add] at h1; split at h1 <;> simp at h1
      subst hsp
      refine .inr ⟨xb, xo, rfl, ?_, fun i hlt => ?_⟩
      · have := lt_of_cell (hxs 0 h0).2.1
        simpa [Addr.add] using this
      · obtain ⟨_, c0, c1, c2, c3, c4⟩ := hxs i hlt
        have ad : ∀ (b o k : Nat), (⟨b, o, none⟩ : Addr).add k = ⟨b, o + k, none⟩ := fun b o k => by cases k <;> simp [Addr.add]
        rw [ad] at c0 c1 c2 c3 c4
        rw [ad] at c1 c2 c3 c4
        exact ⟨c0, c1, c2, c3, c4⟩

end Go.Proofs.Ytboahceibeeifaa

set_option linter.unusedSimpArgs false
set_option linter.unusedVariables false
namespace Go.Proofs.Ytboahceibeeifaa
open Go.ChangeShapes Go.WideShapes Go.ChangeAt Go.RowKit Go.Joins Go.Deep

theorem cellsOf_layout : Try.prog.cellsOf 43 = 3 := by kernel_rfl

variable {H : Type} {enc : TypeId × Value → H} {w : World} {base : Nat} {spare : Nat → Bool} {held : Bool}

set_option maxRecDepth 100000 in
theorem open_layout {r : Reach} {b0 : Nat} {v : Value} {d : DataW H} {p : List MemPlace} (hv : Value.okWide Try.prog w r b0 43 v) (h : DataW.Trod enc Try.prog w base spare held 43 v d p) :
    ∃ (m n : Int) (a : Option Addr) (len cap : Nat) (xs : List P5), v = .agg #[.int .i64 m, .int .i64 n, .slice a len cap] ∧ (Lit.int .i64 m).wf = true ∧ (Lit.int .i64 n).wf = true ∧ ArgPat w a len xs ∧ ∀ c ∈ xs, c.Wf := by
  obtain ⟨c0, c1, c2, y0, y1, y2, k, rfl, rfl, rfl, hy0, hy1, hy2⟩ := open_agg3 Try.underlying43 (by kernel_rfl) cellsOf_layout hv h
  obtain ⟨m, e0, _, wm⟩ := DataW.trod_int Try.underlying3 hy0
  obtain ⟨n, e1, _, wn⟩ := DataW.trod_int Try.underlying3 hy1
  obtain ⟨a, len, cap, xs, hc, hx⟩ := openPatS hy2
  simp at e0 e1
  subst e0 e1 hc
  exact ⟨m, n, a, len, cap, xs, rfl, wm, wn, hx⟩

end Go.Proofs.Ytboahceibeeifaa
