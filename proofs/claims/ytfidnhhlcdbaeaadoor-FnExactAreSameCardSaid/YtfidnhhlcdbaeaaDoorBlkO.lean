/- Blocks by value, opened: what a law is told of a block that came in. -/
import Derived.Test.YtfidnhhlcdbaeaaDoorM01
import Derived.OpenShut
import Derived.ShutString
import Derived.Lib.SmallJoins
import Derived.Deep.Slices
import Derived.Deep.Strs

namespace Go.Proofs.YtfidnhhlcdbaeaaDoor
open Go.ChangeShapes Go.WideShapes Go.ChangeAt Go.RowKit Go.Joins Go.Deep

theorem cellsOf_block : Tryd.prog.cellsOf 24 = 2 := by kernel_rfl
theorem cellsOf_int : Tryd.prog.cellsOf 3 = 1 := by kernel_rfl
theorem cellsOf_lcell : Tryd.prog.cellsOf 56 = 3 := by kernel_rfl

instance : Inhabited C3 := ⟨C3.zero⟩
theorem list_of {n : Nat} {p : Nat → C3 → Prop} (h : ∀ i, i < n → ∃ x, p i x) : ∃ xs : List C3, xs.length = n ∧ ∀ i, i < n → p i (xs.getD i C3.zero) := by
  obtain ⟨f, hf⟩ := choose_lt h
  exact ⟨(List.range n).map f, by simp, fun i hi => by simpa [List.getD, hi] using hf i hi⟩

variable {H : Type} {enc : TypeId × Value → H} {w : World} {base : Nat} {spare : Nat → Bool} {held : Bool}

theorem open_cells {fuel : Nat} {c : Value} {x : DataW H × List MemPlace} (h : DataW.trod enc Tryd.prog w base spare held fuel 22 [c] = some x) :
    ∃ (a : Option Addr) (len cap : Nat) (xs : List C3), c = .slice a len cap ∧ ArgC w a len xs := by
  rcases open_slice Tryd.underlying22 h with ⟨hcs, _⟩ | ⟨x, len, cap, m, n, D, Pl, hcs, hb, hl, hm, hmm, _, hi⟩
  · simp at hcs
    exact ⟨none, 0, 0, [], hcs, rfl, Nat.zero_le _, .inl rfl⟩
  · simp at hcs
    have hle : len ≤ m := by rw [hmm]; split <;> omega
    obtain ⟨xb, xo, sp⟩ := x
    have key : ∀ i, i < len → ∃ c : C3, w.cell? ((⟨xb, xo, sp⟩ : Addr).add (i * 3)) = some (.int .i64 c.s) ∧ w.cell? (((⟨xb, xo, sp⟩ : Addr).add (i * 3)).add 1) = some (.int .i64 c.a) ∧ w.cell? (((⟨xb, xo, sp⟩ : Addr).add (i * 3)).add 2) = some (.int .i64 c.b) := by
      intro i hlt
      obtain ⟨cs, h1, h2⟩ := hi i (by omega)
      rw [cellsOf_lcell] at h1
      obtain ⟨_, hlen, hat⟩ := World.cells?_some h1
      obtain ⟨v0, v1, v2, rfl⟩ : ∃ v0 v1 v2, cs = [v0, v1, v2] := by
        match cs, hlen with
        | [v0, v1, v2], _ => exact ⟨v0, v1, v2, rfl⟩
      obtain ⟨y0, y1, y2, n', _, _, t0, t1, t2⟩ := trod_struct3 Tryd.underlying56 h2
      have t0' : DataW.trod enc Tryd.prog w base spare held n' 3 [v0] = some y0 := by simpa [cellsOf_int] using t0
      have t1' : DataW.trod enc Tryd.prog w base spare held n' 3 [v1] = some y1 := by simpa [cellsOf_int] using t1
      have t2' : DataW.trod enc Tryd.prog w base spare held n' 3 [v2] = some y2 := by simpa [cellsOf_int] using t2
      obtain ⟨s, e0, _, _⟩ := DataW.trod_int Tryd.underlying3 t0'
      obtain ⟨a, e1, _, _⟩ := DataW.trod_int Tryd.underlying3 t1'
      obtain ⟨b, e2, _, _⟩ := DataW.trod_int Tryd.underlying3 t2'
      simp at e0 e1 e2
      subst e0 e1 e2
      have c0 := hat 0 (by omega)
      have c1 := hat 1 (by omega)
      have c2 := hat 2 (by omega)
      refine ⟨⟨s, a, b⟩, ?_, by simpa using c1, by simpa using c2⟩
      simpa [Addr.add] using c0
    obtain ⟨xs, hxl, hxs⟩ := list_of key
    refine ⟨_, len, cap, xs, hcs, hxl, by omega, ?_⟩
    rcases Nat.eq_zero_or_pos len with h0 | h0
    · exact .inl h0
    · have hsp : sp = none := by
        have h1 := (hxs 0 h0).1
        cases sp with
        | none => rfl
        | some s => simp [World.cell?, Addr.add] at h1; split at h1 <;> simp at h1
      subst hsp
      refine .inr ⟨xb, xo, rfl, ?_, fun i hlt => ?_⟩
      · have := lt_of_cell (hxs 0 h0).1
        simpa [Addr.add] using this
      · obtain ⟨c0, c1, c2⟩ := hxs i hlt
        have ad : ∀ (b o k : Nat), (⟨b, o, none⟩ : Addr).add k = ⟨b, o + k, none⟩ := fun b o k => by cases k <;> simp [Addr.add]
        rw [ad] at c0 c1 c2
        rw [ad] at c1 c2
        exact ⟨c0, c1, c2⟩

set_option maxRecDepth 100000 in
theorem open_block {r : Reach} {b0 : Nat} {v : Value} {d : DataW H} {p : List MemPlace} (hv : Value.okWide Tryd.prog w r b0 24 v) (h : DataW.Trod enc Tryd.prog w base spare held 24 v d p) :
    ∃ (n : Int) (a : Option Addr) (len cap : Nat) (xs : List C3), v = .agg #[.int .i64 n, .slice a len cap] ∧ (Lit.int .i64 n).wf = true ∧ ArgC w a len xs := by
  obtain ⟨c0, c1, y0, y1, m, rfl, rfl, rfl, hy0, hy1⟩ := open_agg2 Tryd.underlying24 (by kernel_rfl) cellsOf_block hv h
  obtain ⟨n, e0, _, wn⟩ := DataW.trod_int Tryd.underlying3 hy0
  obtain ⟨a, len, cap, xs, hc, hx⟩ := open_cells hy1
  simp at e0
  subst e0 hc
  exact ⟨n, a, len, cap, xs, rfl, wn, hx⟩

end Go.Proofs.YtfidnhhlcdbaeaaDoor
