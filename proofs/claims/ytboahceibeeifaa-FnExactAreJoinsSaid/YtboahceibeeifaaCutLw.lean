/- Cuts: what stays in view in the walks of the laws. -/
import Derived.Test.YtboahceibeeifaaLayN3
import Derived.Test.YtboahceibeeifaaCutP
import Derived.Test.YtboahceibeeifaaLayIk
import Derived.Test.YtboahceibeeifaaLayB
set_option linter.unusedSimpArgs false
set_option linter.unusedVariables false
namespace Go.Proofs.Ytboahceibeeifaa
open Go.ChangeShapes Go.WideShapes Go.ChangeAt Go.RowKit

/-- Two places of a cut. -/
def Duo (p : Nat) (x y : Value) (u : World) : Prop := u.cell? ⟨p, 0, none⟩ = some x ∧ u.cell? ⟨p, 1, none⟩ = some y
theorem Duo.keep {p : Nat} {x y : Value} {u v : World} (h : Duo p x y u) (hb : Below u.heap.size u v) : Duo p x y v := ⟨kept hb h.1, kept hb h.2⟩
theorem Duo.new (w : World) (x y : Value) (T : TypeId) : Duo w.heap.size x y (w.alloc (.cells #[x, y] T)) := ⟨by simp, by simp⟩
theorem Duo.within {p lo hi : Nat} {x y : Value} {u v : World} (h : Duo p x y u) (hb : Within lo hi u v) (ho : p < lo ∨ hi ≤ p) : Duo p x y v := ⟨hb.cell h.1 ho, hb.cell h.2 ho⟩
theorem Tri.lt {p : Nat} {x y z : Value} {u : World} (h : Tri p x y z u) : p < u.heap.size := lt_of_cell h.1
theorem Tri.of_box {p : Nat} {x y z : Value} {u : World} (h : BoxL p x y z u) : Tri p x y z u := ⟨h.1, h.2.1, h.2.2.1⟩
/-- The marks from any number on. -/
theorem MarkLayoutK (lo hi : Nat) (m n : Int) (v : Value) (xs : List P5) (k : Nat) (kk : Int) (w : World) (r : PatIn lo hi w v xs) (hhi : hi ≤ w.heap.size) (hk : k ≤ 100000000) (e : kk = k) :
    Calls Try.prog 22 #[.agg #[.int .i64 m, .int .i64 n, v], .int .i64 kk] w fun e w' => e = .returned (.int .i64 ((k + 5 * xs.length : Nat) : Int)) ∧ PatIn lo hi w' v (markPat k xs.length) ∧ Within lo hi w w' := by
  subst e
  obtain ⟨a1, c1, rfl⟩ := r.form
  have R : ∀ o, Hid (PatIn lo hi (w.alloc o) (.slice a1 xs.length c1) xs) := fun o => Lib.hid (r.below ((bel0 w o).mono hhi))
  clear r
  go_enter Try.func22, Try.ntmps22
  go_wp2_with fail
  refine (MarkPatS_any lo hi _ xs k _ (R _).out hk).mono ?_
  rintro e w1 ⟨rfl, hin, hb1⟩
  go_wp2_with fail
  go_ret
  exact ⟨rfl, hin, (Within.of_below (bel0 w _)).trans hb1⟩
end Go.Proofs.Ytboahceibeeifaa
