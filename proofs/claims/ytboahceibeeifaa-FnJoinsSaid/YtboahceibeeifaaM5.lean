/- Cuts: the program's exported functions. Joins: the program's JoinsOf. -/
import Derived.Test.YtboahceibeeifaaM6
import Derived.Test.YtboahceibeeifaaCutP
import Derived.Test.YtboahceibeeifaaJnSj
import Derived.Test.YtboahceibeeifaaCutIp
import Derived.Deep.RegionLaw
import Derived.Deep.RegionHeld3
import Derived.Deep.DeepCutAuto

set_option linter.unusedSimpArgs false
set_option linter.unusedVariables false
namespace Go.Proofs.Ytboahceibeeifaa
open Go.ChangeShapes Go.WideShapes Go.ChangeAt Go.RowKit

set_option maxHeartbeats 3200000 in
set_option maxRecDepth 20000 in
theorem ImplCanSew_any (lo hi : Nat) (m n : Int) (v : Value) (xs : List P5) (wf : ∀ c ∈ xs, c.Wf) (w : World) (r : PatIn lo hi w v xs) (hhi : hi ≤ w.heap.size) (hlo : lo ≤ w.heap.size) :
    Calls Try.prog 34 #[.agg #[.int .i64 m, .int .i64 n, v]] w fun e w' => e = .returned (.bool (sewB m n xs)) ∧ Below w.heap.size w w' := by
  obtain ⟨b, cap, rfl⟩ := r.form
  have R := Lib.hid r
  have hl := r.1
  have HR : Hid (∀ u : World, Below w.heap.size w u → PatIn lo hi u (.slice b xs.length cap) xs ∧ hi ≤ u.heap.size) := Lib.hid (fun u hb => ⟨r.below (hb.mono hhi), Nat.le_trans hhi hb.size⟩)
  have LK : Hid (∀ u : World, Below w.heap.size w u → Calls Try.prog 40 #[.agg #[.int .i64 m, .int .i64 n, .slice b xs.length cap]] u fun e w' => e = .returned (.bool (layB m n xs)) ∧ Below u.heap.size u w') := Lib.hid (fun u hb => ImplLayoutOk_any lo hi m n _ xs u (HR.out u hb).1 (HR.out u hb).2 wf)
  clear r wf
  have HB0 : Hid (Below w.heap.size w (w.alloc (.cells #[.int .i64 m, .int .i64 n, .slice b xs.length cap] 26))) := Lib.hid (bel0 w _)
  by_cases h : layB m n xs = false
  · have HH := Lib.hid (sew_no_lay h)
    rw [h] at LK
    clear h
    go_enter Try.func34, Try.ntmps34
    go_wp2_with fail
    refine (LK.out _ HB0.out).mono ?_
    rintro e w1 ⟨rfl, hb1⟩
    have HBZ := Lib.hid (bel_c HB0.out (Nat.le_refl _) hb1)
    clear hb1
    go_wp2_with fail
    go_ret
    exact ⟨ret_bool HH.out, HBZ.out⟩
  · have h' : layB m n xs = true := by simpa using h
    have HH := Lib.hid (sew_lay h')
    obtain ⟨q, hq⟩ : ∃ q, q = knotR m n xs := ⟨_, rfl⟩
    have HK : Hid (∀ u : World, Below w.heap.size w u → Calls Try.prog 57 #[.agg #[.int .i64 m, .int .i64 n, .slice b xs.length cap]] u (KnotV (kM q) (kN q) (kX q) q.isSome lo u)) := Lib.hid (fun u hb => by rw [hq]; exact Knot_any (knotR_is h') lo hi _ u (HR.out u hb).1 (HR.out u hb).2 (Nat.le_trans hlo hb.size))
    rw [← hq] at HH
    rw [h'] at LK
    obtain ⟨M, hM⟩ : ∃ M, M = kM q := ⟨_, rfl⟩
    obtain ⟨N, hN⟩ : ∃ N, N = kN q := ⟨_, rfl⟩
    obtain ⟨X, hX⟩ : ∃ X, X = kX q := ⟨_, rfl⟩
    obtain ⟨z, hz⟩ : ∃ z, z = q.isSome := ⟨_, rfl⟩
    rw [← hM, ← hN, ← hX, ← hz] at HK
    have HZ : Hid ((!z) = sewB m n xs) := Lib.hid (by rw [hz, ← HH.out]; cases q <;> rfl)
    clear h h' hM hN hX hz hq HH
    go_enter Try.func34, Try.ntmps34
    go_wp2_with fail
    refine (LK.out _ HB0.out).mono ?_
    rintro e w1 ⟨rfl, hb1⟩
    have HB1 := Lib.hid (bel_c HB0.out (Nat.le_refl _) hb1)
    have b0 := kept (p := ⟨w.heap.size, 0, none⟩) (x := .int .i64 m) hb1 (by go_simp)
    have b1 := kept (p := ⟨w.heap.size, 1, none⟩) (x := .int .i64 n) hb1 (by go_simp)
    have b2 := kept (p := ⟨w.heap.size, 2, none⟩) (x := .slice b xs.length cap) hb1 (by go_simp)
    clear hb1
    go_wp2_with fail
    refine (HK.out _ HB1.out).mono ?_
    rintro e w2 ⟨v, rfl, RC, hb2⟩
    obtain ⟨aK, cK, rfl⟩ := RC.form
    have HBZ := Lib.hid (bel_n (bel_c HB1.out (Nat.le_refl _) hb2) (Nat.le_refl _) (.cells #[.int .i64 M, .int .i64 N, .slice aK X.length cK] 26))
    clear hb2 RC
    go_wp2_with fail
    go_ret
    exact ⟨ret_bool HZ.out, HBZ.out⟩
end Go.Proofs.Ytboahceibeeifaa

set_option linter.unusedSimpArgs false
set_option linter.unusedVariables false
namespace Go.Proofs.Ytboahceibeeifaa
open Go.ChangeShapes Go.WideShapes Go.ChangeAt Go.RowKit

set_option maxHeartbeats 3200000 in
set_option maxRecDepth 20000 in
theorem ImplJoinsOf_any (lo hi : Nat) (m n : Int) (v : Value) (xs : List P5) (wf : ∀ c ∈ xs, c.Wf) (w : World) (r : PatIn lo hi w v xs) (hhi : hi ≤ w.heap.size) (hlo : lo ≤ w.heap.size) :
    Calls Try.prog 11 #[.agg #[.int .i64 m, .int .i64 n, v]] w (JoinsV (joinsL m n xs) (sewB m n xs) w) := by
  obtain ⟨b, cap, rfl⟩ := r.form
  have R := Lib.hid r
  have hl := r.1
  have HR : Hid (∀ u : World, Below w.heap.size w u → PatIn lo hi u (.slice b xs.length cap) xs ∧ hi ≤ u.heap.size) := Lib.hid (fun u hb => ⟨r.below (hb.mono hhi), Nat.le_trans hhi hb.size⟩)
  have CS : Hid (∀ u : World, Below w.heap.size w u → Calls Try.prog 34 #[.agg #[.int .i64 m, .int .i64 n, .slice b xs.length cap]] u fun e w' => e = .returned (.bool (sewB m n xs)) ∧ Below u.heap.size u w') := Lib.hid (fun u hb => ImplCanSew_any lo hi m n _ xs wf u (HR.out u hb).1 (HR.out u hb).2 (Nat.le_trans hlo hb.size))
  have HB0 : Hid (Below w.heap.size w (w.alloc (.cells #[.int .i64 m, .int .i64 n, .slice b xs.length cap] 26))) := Lib.hid (bel0 w _)
  clear r
  by_cases h : sewB m n xs = false
  · rw [joins_no h]
    rw [h] at CS ⊢
    clear h wf
    go_enter Try.func11, Try.ntmps11
    go_wp2_with fail
    refine (args_eqL (CS.out _ HB0.out) (by with_reducible rfl)).mono ?_
    rintro e w1 ⟨rfl, hb1⟩
    have HBZ := Lib.hid (bel_c HB0.out (Nat.le_refl _) hb1)
    clear hb1
    go_wp2_with fail
    refine bodyPost_ret (v := .tuple #[.slice none 0 0, .bool false]) (by simp [results, Try.results11, go_sem]) rfl ⟨_, rfl, ⟨by simp, .inl ⟨rfl, _, _, rfl⟩⟩, ?_⟩
    exact HBZ.out
  · have h' : sewB m n xs = true := by simpa using h
    have lay := lay_of (sew_layB h')
    have hx1 := lay.2.2.1.1
    have hx12 := lay.2.2.1.2
    have TI := joins_tree h'
    have PA : Hid (∀ u : World, Below w.heap.size w u → Calls Try.prog 35 #[.agg #[.int .i64 m, .int .i64 n, .slice b xs.length cap], .int .i64 0, .int .i64 0, .int .i64 m, .int .i64 n] u (PartIs m n 0 0 xs u)) := Lib.hid (fun u hb => PartAt_any lo hi m n _ xs 0 0 m n u (HR.out u hb).1 (HR.out u hb).2 lay lay.1.1 lay.1.2 lay.2.1.1 lay.2.1.2 (by omega) (by omega) (by omega) (by omega))
    have JI : Hid (∀ (lo1 hi1 : Nat) (v1 : Value) (nb : Nat) (u : World), PatIn lo1 hi1 u v1 xs → hi1 ≤ u.heap.size → Below w.heap.size w u → w.heap.size ≤ nb → nb < u.heap.size → (hi1 ≤ nb ∨ nb < lo1) → u.cell? ⟨nb, 0, none⟩ = some (.int .i64 xs.length) → u.frozen? ⟨nb, 0, none⟩ = false →
        Calls Try.prog 36 #[.agg #[.int .i64 m, .int .i64 n, v1, .int .i64 0, .int .i64 0], .agg #[.int .i64 m, .int .i64 n, .slice b xs.length cap], .pointer (some ⟨nb, 0, none⟩)] u (JoinI nb xs.length (joinsL m n xs) (treeR m n xs).2.1 u)) :=
      Lib.hid (fun lo1 hi1 v1 nb u k1 k2 k3 k4 k5 k6 k7 k8 => IJoins_is lay wf TI 0 0 rfl (Sub.all xs) (by omega) (by have := lay.1.2; omega) (by omega) (by have := lay.2.1.2; omega) (by omega) (by omega) lo1 hi1 v1 lo hi _ nb u k1 k2 (HR.out u k3).1 (HR.out u k3).2 k5 k6 (.inl (by omega)) k7 k8)
    have RS := Lib.hid (restr_all lay)
    have HLJ := TI.full rfl
    generalize (treeR m n xs).2.1 = uu at JI
    clear TI
    generalize joinsL m n xs = JL at *
    rw [h'] at CS ⊢
    clear h h' wf lay
    go_enter Try.func11, Try.ntmps11
    go_wp2_with fail
    refine (args_eqL (CS.out _ HB0.out) (by with_reducible rfl)).mono ?_
    rintro e w1 ⟨rfl, hb1⟩
    have HB1 := Lib.hid (bel_c HB0.out (Nat.le_refl _) hb1)
    have b0 := kept (p := ⟨w.heap.size, 0, none⟩) (x := .int .i64 m) hb1 (by go_simp)
    have b1 := kept (p := ⟨w.heap.size, 1, none⟩) (x := .int .i64 n) hb1 (by go_simp)
    have b2 := kept (p := ⟨w.heap.size, 2, none⟩) (x := .slice b xs.length cap) hb1 (by go_simp)
    have hs1 := hb1.size
    simp at hs1
    clear hb1
    have BG := bel0 w1 (.cells #[.int .i64 (xs.length : Int)] 3)
    have hnG : (w1.alloc (.cells #[.int .i64 (xs.length : Int)] 3)).heap.size = w1.heap.size + 1 := by simp
    have n0 : (w1.alloc (.cells #[.int .i64 (xs.length : Int)] 3)).cell? ⟨w1.heap.size, 0, none⟩ = some (.int .i64 (xs.length : Int)) := by go_simp
    have g0 : (w1.alloc (.cells #[.int .i64 (xs.length : Int)] 3)).frozen? ⟨w1.heap.size, 0, none⟩ = false := by go_simp
    have c0 := kept BG b0
    have c1 := kept BG b1
    have c2 := kept BG b2
    have HBG := bel_c HB1.out (Nat.le_refl _) BG
    clear BG
    go_wp2_with fail
    clear b0 b1 b2
    obtain ⟨G, hG⟩ : ∃ G, w1.alloc (.cells #[.int .i64 (xs.length : Int)] 3) = G := ⟨_, rfl⟩
    rw [hG] at hnG n0 g0 c0 c1 c2 HBG ⊢
    clear hG
    have D0 : Below G.heap.size G G.drew := ⟨rfl, rfl, rfl, Nat.le_refl _, fun _ _ => rfl⟩
    have n0d := kept D0 n0
    have g0d := keptF D0 n0 g0
    have HBD := Lib.hid (bel_c HBG (Nat.le_refl _) D0)
    have hnD : G.drew.heap.size = w1.heap.size + 1 := hnG
    have e0 := kept D0 c0
    have e1 := kept D0 c1
    have e2 := kept D0 c2
    clear D0 HBG
    go_region_law (first
      | (go_simp; go_at_call 35; refine (args_eqL (PA.out _ HBD.out) (by with_reducible rfl)).mono ?_; rintro e y ⟨vp, rfl, RC, hb⟩; rw [RS.out] at RC; obtain ⟨aP, cP, rfl⟩ := RC.form; have RC0 := Lib.hid RC; have HBY := Lib.hid (bel_c HBD.out (Nat.le_refl _) hb); have f0 := kept hb e0; have f1 := kept hb e1; have f2 := kept hb e2; have n1 := kept hb n0d; have g1 := keptF hb n0d g0d; have hsy := hb.size; clear RC hb)
      | (go_simp; go_at_call 36; refine (args_eqL (JI.out _ _ _ _ _ RC0.out (Nat.le_refl _) HBY.out (by omega) (by omega) (.inr (by omega)) n1 g1) (by with_reducible rfl)).mono ?_; rintro e Z ⟨vj, rfl, OJ, cZ, fZ, WZ⟩; obtain ⟨aj, cj, rfl⟩ := (OJ.row (by omega)).form; have HJ := Lib.hid (OJ.row (by omega)); have HZ := Lib.hid (HBY.out.trans ((WZ.below (by omega)).mono (by omega))); have hyz := WZ.size; clear OJ cZ fZ WZ))
    all_goals
      go_wp2_with fail
      refine bodyPost_ret (v := .tuple #[.slice aj JL.length cj, .bool true]) (by simp [results, Try.results11, go_sem]) rfl ⟨_, rfl, HJ.out.wide (by omega) (Nat.le_refl _), HZ.out⟩

end Go.Proofs.Ytboahceibeeifaa
