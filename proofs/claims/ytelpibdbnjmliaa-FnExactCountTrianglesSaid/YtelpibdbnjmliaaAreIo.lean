/- Areas: the program's AreaOf. -/
import Derived.Test.YtelpibdbnjmliaaAreIm
namespace Go.Proofs.Ytelpibdbnjmliaa
open Go.ChangeShapes Go.WideShapes Go.ChangeAt Go.RowKit Go.Maps

theorem ImplAreaOf_any (lo hi : Nat) (n k : Int) (v : Value) (xs : List C3) (w : World) (r : CellIn lo hi w v xs) (hhi : hi ≤ w.heap.size) (hk : (Lit.int .i64 k).wf = true) :
    Calls Try.prog 14 #[.agg #[.int .i64 n, v], .int .i64 k] w fun e w' => e = .returned (.int .i64 (areaOf n xs k)) ∧ Below w.heap.size w w' := by
  obtain ⟨a, cap, rfl⟩ := r.form
  have HR := Lib.hid (fun W (hb : Below w.heap.size w W) => r.below (hb.mono hhi))
  clear r
  go_enter Try.func14, Try.ntmps14
  go_wp2_with fail
  refine (AreasMap_any lo hi n _ xs _ (HR.out _ (bel0 w _)) (by simp; omega)).mono ?_
  rintro e w1 ⟨b, q, rfl, hm, hbw, hb⟩
  obtain ⟨D, hD⟩ := hm.mapI
  have HB := Lib.hid (bel_c (bel0 w _) (Nat.le_refl _) hb)
  clear hb
  go_wp2_with (at_lookup; refine wpList_lookup_own_int _ rfl _ _ 55 rfl 3 3 .i64 mlaw Try.underlying55 Try.underlying3 (mzero _) b q _ rfl hD.1 _ _ rfl (keyOf_int_mk Try.underlying3 hk) ?_; intro z hat hwz; have ez := Lib.hid (hD.at hk hat); clear hat)
  go_ret
  have hz := ez.out
  subst hz
  exact ⟨rfl, HB.out⟩

end Go.Proofs.Ytelpibdbnjmliaa
