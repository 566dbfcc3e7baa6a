/- Cuts: the program's exported functions. -/
import Derived.Test.YtboahceibeeifaaCutIk
import Derived.Test.YtboahceibeeifaaCutP

set_option linter.unusedSimpArgs false
set_option linter.unusedVariables false
namespace Go.Proofs.Ytboahceibeeifaa
open Go.ChangeShapes Go.WideShapes Go.ChangeAt Go.RowKit

set_option maxHeartbeats 3200000 in
set_option maxRecDepth 20000 in
theorem ImplCanSew_any (lo hi : Nat) (m n : Int) (v : Value) (xs : List P5) (wf : ∀ c ∈ xs, c.Wf) (w : World) (r : PatIn lo hi w v xs) (hhi : hi ≤ w.heap.size) (hlo : lo ≤ w.heap.size) :
    Calls Try.prog 34 #[.agg #[.int .i64 m, .int .i64 n, v]] w fun e w' => e = .returned (.bool (sewB m n xs)) ∧ Below w.heap.size w w' := by
  obtain ⟨b, cap, rfl⟩ := r.form
  have R := Lib.hid r
  have hl := r.1
  have HR : Hid (∀ u : World, Below w.heap.size w u → PatIn lo hi u (.slice b xs.length cap) xs ∧ hi ≤ u.heap.size) := Lib.hid (fun u hb => ⟨r.below (hb.mono hhi), Nat.le_trans hhi hb.size⟩)
  have LK : Hid (∀ u : World, Below w.heap.size w u → Calls Try.prog 40 #[.agg #[.int .i64 m, .int .i64 n, .slice b xs.length cap]] u fun e w' => e = .returned (.bool (layB m n xs)) ∧ Below u.heap.size u w') := Lib.hid (fun u hb => ImplLayoutOk_any lo hi m n _ xs u (HR.out u hb).1 (HR.out u hb).2 wf)
  clear r wf
  have HB0 : Hid (Below w.heap.size w (w.alloc (.cells #[.int .i64 m, .int .i64 n, .slice b xs.length cap] 26))) := Lib.hid (bel0 w _)
  by_cases h : layB m n xs = false
  · have HH := Lib.hid (sew_no_lay h)
    rw [h] at LK
    clear h
    go_enter Try.func34, Try.ntmps34
    go_wp2_with fail
    refine (LK.out _ HB0.out).mono ?_
    rintro e w1 ⟨rfl, hb1⟩
    have HBZ := Lib.hid (bel_c HB0.out (Nat.le_refl _) hb1)
    clear hb1
    go_wp2_with fail
    go_ret
    exact ⟨ret_bool HH.out, HBZ.out⟩
  · have h' : layB m n xs = true := by simpa using h
    have HH := Lib.hid (sew_lay h')
    obtain ⟨q, hq⟩ : ∃ q, q = knotR m n xs := ⟨_, rfl⟩
    have HK : Hid (∀ u : World, Below w.heap.size w u → Calls Try.prog 57 #[.agg #[.int .i64 m, .int .i64 n, .slice b xs.length cap]] u (KnotV (kM q) (kN q) (kX q) q.isSome lo u)) := Lib.hid (fun u hb => by rw [hq]; exact Knot_any (knotR_is h') lo hi _ u (HR.out u hb).1 (HR.out u hb).2 (Nat.le_trans hlo hb.size))
    rw [← hq] at HH
    rw [h'] at LK
    obtain ⟨M, hM⟩ : ∃ M, M = kM q := ⟨_, rfl⟩
    obtain ⟨N, hN⟩ : ∃ N, N = kN q := ⟨_, rfl⟩
    obtain ⟨X, hX⟩ : ∃ X, X = kX q := ⟨_, rfl⟩
    obtain ⟨z, hz⟩ : ∃ z, z = q.isSome := ⟨_, rfl⟩
    rw [← hM, ← hN, ← hX, ← hz] at HK
    have HZ : Hid ((!z) = sewB m n xs) := Lib.hid (by rw [hz, ← HH.out]; cases q <;> rfl)
    clear h h' hM hN hX hz hq HH
    go_enter Try.func34, Try.ntmps34
    go_wp2_with fail
    refine (LK.out _ HB0.out).mono ?_
    rintro e w1 ⟨rfl, hb1⟩
    have HB1 := Lib.hid (bel_c HB0.out (Nat.le_refl _) hb1)
    have b0 := kept (p := ⟨w.heap.size, 0, none⟩) (x := .int .i64 m) hb1 (by go_simp)
    have b1 := kept (p := ⟨w.heap.size, 1, none⟩) (x := .int .i64 n) hb1 (by go_simp)
    have b2 := kept (p := ⟨w.heap.size, 2, none⟩) (x := .slice b xs.length cap) hb1 (by go_simp)
    clear hb1
    go_wp2_with fail
    refine (HK.out _ HB1.out).mono ?_
    rintro e w2 ⟨v, rfl, RC, hb2⟩
    obtain ⟨aK, cK, rfl⟩ := RC.form
    have HBZ := Lib.hid (bel_n (bel_c HB1.out (Nat.le_refl _) hb2) (Nat.le_refl _) (.cells #[.int .i64 M, .int .i64 N, .slice aK X.length cK] 26))
    clear hb2 RC
    go_wp2_with fail
    go_ret
    exact ⟨ret_bool HZ.out, HBZ.out⟩
end Go.Proofs.Ytboahceibeeifaa
