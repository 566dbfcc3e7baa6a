/- Cuts: the program's knot for every layout. -/
import Derived.Test.YtakjgnkkeefgbaaCutIk
namespace Go.Proofs.Ytakjgnkkeefgbaa
open Go.ChangeShapes Go.WideShapes Go.ChangeAt Go.RowKit

set_option maxHeartbeats 3200000 in
set_option maxRecDepth 20000 in
theorem Knot_one (lo hi : Nat) (m n : Int) (v : Value) (xs : List P5) (w : World) (r : PatIn lo hi w v xs) (hhi : hi ≤ w.heap.size) (hl1 : xs.length = 1) :
    Calls Try.prog 39 #[.agg #[.int .i64 m, .int .i64 n, v]] w (KnotV 0 0 [] false lo w) := by
  obtain ⟨b, cap, rfl⟩ := r.form
  have hl2 : ((xs.length : Nat) : Int) = 1 := by omega
  clear r
  go_enter Try.func39, Try.ntmps39
  go_wp2_with fail
  refine bodyPost_ret (v := .tuple #[.agg #[.int .i64 0, .int .i64 0, .slice none 0 0], .bool false]) (by simp [results, Try.results39, go_sem]) rfl ⟨_, rfl, ⟨by simp, .inl ⟨rfl, _, _, rfl⟩⟩, ?_⟩
  exact bel_n (bel0 w _) (Nat.le_refl _) _
set_option maxHeartbeats 3200000 in
set_option maxRecDepth 20000 in
theorem Knot_here (lo hi : Nat) (m n : Int) (v : Value) (xs : List P5) (w : World) (r : PatIn lo hi w v xs) (hhi : hi ≤ w.heap.size) (hlo : lo ≤ w.heap.size) (lay : LayOk m n xs) (hl1 : xs.length ≠ 1) (hcs : cutsL m n xs = []) :
    Calls Try.prog 39 #[.agg #[.int .i64 m, .int .i64 n, v]] w (KnotV m n xs true lo w) := by
  obtain ⟨b, cap, rfl⟩ := r.form
  have R := Lib.hid r
  have hd : ((xs.length : Int) == 1) = false := by simp; omega
  have CC : Hid (∀ u : World, Below w.heap.size w u → Calls Try.prog 40 #[.agg #[.int .i64 m, .int .i64 n, .slice b xs.length cap]] u (FreshCut [] u)) := Lib.hid (fun u hb => by rw [← hcs]; exact Cuts_any lo hi m n _ xs u (r.below (hb.mono hhi)) (Nat.le_trans hhi hb.size) lay)
  have HB2 : Hid (Below w.heap.size w ((w.alloc (.cells #[.int .i64 m, .int .i64 n, .slice b xs.length cap] 26)).alloc (.cells #[.int .i64 0, .int .i64 0, .slice none 0 0] 26))) := Lib.hid (bel_n (bel0 w _) (Nat.le_refl _) _)
  clear r lay hcs
  go_enter Try.func39, Try.ntmps39
  go_wp2_with fail
  refine (CC.out _ HB2.out).mono ?_
  rintro e w1 ⟨vc, rfl, RC, hb1⟩
  obtain ⟨ac, cc, rfl⟩ := RC.form
  have b0 := kept (p := ⟨w.heap.size, 0, none⟩) (x := .int .i64 m) hb1 (by go_simp)
  have b1 := kept (p := ⟨w.heap.size, 1, none⟩) (x := .int .i64 n) hb1 (by go_simp)
  have b2 := kept (p := ⟨w.heap.size, 2, none⟩) (x := .slice b xs.length cap) hb1 (by go_simp)
  have BR : BoxL (w.heap.size + 1) (.int .i64 0) (.int .i64 0) (.slice none 0 0) w1 := by
    have := BoxL.new (w.alloc (.cells #[.int .i64 m, .int .i64 n, .slice b xs.length cap] 26)) (.int .i64 0) (.int .i64 0) (.slice none 0 0) 26
    rw [show (w.alloc (.cells #[.int .i64 m, .int .i64 n, .slice b xs.length cap] 26)).heap.size = w.heap.size + 1 by simp] at this
    exact this.below hb1 (by simp)
  obtain ⟨d0, d1, d2, z0, z1, z2⟩ := BR
  have HB1 := Lib.hid (bel_c HB2.out (Nat.le_refl _) hb1)
  have R1 := Lib.hid (R.out.below (HB1.out.mono hhi))
  have hs1 := hb1.size
  simp at hs1
  clear hb1 RC
  go_wp2_with fail
  refine bodyPost_ret (v := .tuple #[.agg #[.int .i64 m, .int .i64 n, .slice b xs.length cap], .bool true]) (by simp [results, Try.results39, go_sem, d0, d1, d2]) rfl ⟨_, rfl, ?_, ?_⟩
  · obtain ⟨hl, h | ⟨g, c, hv, hcp, hg, hlt, hc⟩⟩ := R1.out
    · exact ⟨hl, .inl h⟩
    · refine ⟨hl, .inr ⟨g, c, hv, hcp, hg, by simp [World.setCell]; omega, fun i hi => ⟨?_, ?_⟩⟩⟩
      · exact (((hc i hi).1.set_far (by simp; omega) _).set_far (by simp; omega) _).set_far (by simp; omega) _
      · exact (((hc i hi).2.set_far _ _).set_far _ _).set_far _ _
  · refine Below.setCell (Below.setCell (Below.setCell HB1.out ?_ _) ?_ _) ?_ _ <;> (simp <;> omega)
theorem Knot_any {m n : Int} {xs : List P5} {q : Option (Int × Int × List P5)} (h : KnotIs m n xs q) : ∀ (lo hi : Nat) (v : Value) (w : World), PatIn lo hi w v xs → hi ≤ w.heap.size → lo ≤ w.heap.size →
    Calls Try.prog 39 #[.agg #[.int .i64 m, .int .i64 n, v]] w (KnotV (kM q) (kN q) (kX q) q.isSome lo w) := by
  induction h with
  | one h hl => intro lo hi v w r hhi hlo; exact Knot_one lo hi _ _ v _ w r hhi hl
  | knot h hl hc => intro lo hi v w r hhi hlo; exact Knot_here lo hi _ _ v _ w r hhi hlo h hl hc
  | left h hl hc h1 ih => intro lo hi v w r hhi hlo; exact Knot_left lo hi _ _ v _ _ _ _ _ _ w r hhi hlo h hl hc ih
  | right h hl hc h1 h2 ih1 ih2 => intro lo hi v w r hhi hlo; exact Knot_right lo hi _ _ v _ _ _ _ _ _ _ w r hhi hlo h hl hc ih1 ih2

end Go.Proofs.Ytakjgnkkeefgbaa
