/- Cuts: what the exported functions answer. -/
import Derived.Test.YtboahceibeeifaaCutN
import Derived.Test.YtboahceibeeifaaCutT
import Derived.Test.YtboahceibeeifaaPatT

set_option linter.unusedSimpArgs false
set_option linter.unusedVariables false
namespace Go.Proofs.Ytboahceibeeifaa
open Go.ChangeShapes Go.WideShapes Go.ChangeAt Go.RowKit

noncomputable def sM1 (m n : Int) (xs : List P5) (c : C2) : Int := if cutB m n xs c then pM1 m c else 0
noncomputable def sN1 (m n : Int) (xs : List P5) (c : C2) : Int := if cutB m n xs c then pN1 n c else 0
noncomputable def sL1 (m n : Int) (xs : List P5) (c : C2) : List P5 := if cutB m n xs c then pL1 m n c xs else []
noncomputable def sM2 (m n : Int) (xs : List P5) (c : C2) : Int := if cutB m n xs c then pM2 m c else 0
noncomputable def sN2 (m n : Int) (xs : List P5) (c : C2) : Int := if cutB m n xs c then pN2 n c else 0
noncomputable def sL2 (m n : Int) (xs : List P5) (c : C2) : List P5 := if cutB m n xs c then pL2 m n c xs else []
variable {m n : Int} {xs : List P5} {c : C2}
theorem s_no (h : cutB m n xs c = false) : sM1 m n xs c = 0 ∧ sN1 m n xs c = 0 ∧ sL1 m n xs c = [] ∧ sM2 m n xs c = 0 ∧ sN2 m n xs c = 0 ∧ sL2 m n xs c = [] := by simp [sM1, sN1, sL1, sM2, sN2, sL2, h]
theorem s_yes (h : cutB m n xs c = true) : sM1 m n xs c = pM1 m c ∧ sN1 m n xs c = pN1 n c ∧ sL1 m n xs c = pL1 m n c xs ∧ sM2 m n xs c = pM2 m c ∧ sN2 m n xs c = pN2 n c ∧ sL2 m n xs c = pL2 m n c xs := by simp [sM1, sN1, sL1, sM2, sN2, sL2, h]
theorem cut_of (h : cutB m n xs c = true) : LayOk m n xs ∧ hasC m n xs c = true := by
  simp only [cutB, Bool.and_eq_true] at h
  exact ⟨lay_of h.1, h.2⟩
/-- Two layouts are handed back. -/
def SplitLV (A1 B1 : Int) (L1 : List P5) (A2 B2 : Int) (L2 : List P5) (ok : Bool) (w : World) (e : Ending) (w' : World) : Prop :=
  ∃ v1 v2 k, e = .returned (.tuple #[.agg #[.int .i64 A1, .int .i64 B1, v1], .agg #[.int .i64 A2, .int .i64 B2, v2], .bool ok]) ∧
    PatIn w.heap.size k w' v1 L1 ∧ PatIn k w'.heap.size w' v2 L2 ∧ w.heap.size ≤ k ∧ k ≤ w'.heap.size ∧ Below w.heap.size w w'
/-- A layout is handed back, or none. -/
def KnotW (M N : Int) (X : List P5) (ok : Bool) (w : World) (e : Ending) (w' : World) : Prop :=
  ∃ v, e = .returned (.tuple #[.agg #[.int .i64 M, .int .i64 N, v], .bool ok]) ∧ PatIn w.heap.size w'.heap.size w' v X ∧ Below w.heap.size w w'
theorem restr_all (h : LayOk m n xs) : restr 0 0 m n xs = xs := by
  rw [restr_eq, List.filter_eq_self.2 (fun p hp => by rw [mv_zero]; simp [fitB, h.mem hp])]
  rw [show mv 0 0 = id from funext mv_zero, List.map_id]
theorem seams_no (h : sewB m n xs = false) : -1 = seamsB m n xs := by simp [seamsB, h]
theorem seams_yes (h : sewB m n xs = true) : (xs.length : Int) - 1 = seamsB m n xs := by simp [seamsB, h]
theorem sew_layB (h : sewB m n xs = true) : layB m n xs = true := by
  simp only [sewB, Bool.and_eq_true] at h; exact h.1

end Go.Proofs.Ytboahceibeeifaa
