/- Joins: the model's UnitBox and AreJoins. -/
import Derived.Test.YtboahceibeeifaaJnSb
import Derived.Test.YtboahceibeeifaaLayS
import Derived.Test.YtboahceibeeifaaRegM
import Derived.Test.YtboahceibeeifaaCellS
set_option linter.unusedSimpArgs false
set_option linter.unusedVariables false
namespace Go.Proofs.Ytboahceibeeifaa
open Go.ChangeShapes Go.WideShapes Go.ChangeAt Go.RowKit

set_option maxHeartbeats 1600000 in
set_option maxRecDepth 20000 in
theorem SpecUnitBox_any (lo hi : Nat) (m n : Int) (v : Value) (xs : List P5) (lo2 hi2 : Nat) (v2 : Value) (js : List J3) (u : Int) (w : World) (r : PatIn lo hi w v xs) (hhi : hi ≤ w.heap.size) (r2 : JnIn lo2 hi2 w v2 js) (hhi2 : hi2 ≤ w.heap.size) :
    Calls Try.prog 26 #[.agg #[.int .i64 m, .int .i64 n, v], v2, .int .i64 u] w fun e w' => e = .returned (.tuple #[.agg #[.int .i64 (boxP m n xs js u).x, .int .i64 (boxP m n xs js u).y, .int .i64 (boxP m n xs js u).w, .int .i64 (boxP m n xs js u).h, .int .i64 (boxP m n xs js u).c], .bool (boxB m n xs js u)]) ∧ Below w.heap.size w w' := by
  obtain ⟨b, cap, rfl⟩ := r.form
  obtain ⟨b2, cap2, rfl⟩ := r2.form
  have hl := r.1
  have hl2 := r2.1
  have CU0 : Hid (layB m n xs = true → ∀ u : World, Below w.heap.size w u → Calls Try.prog 51 #[.agg #[.int .i64 m, .int .i64 n, .slice b xs.length cap], .slice b2 js.length cap2] u (FreshPat ((unL m n xs js).map U6.p) u)) := Lib.hid (fun h u hb => by rw [unL_yes h]; exact SpecBoxes_any lo hi m n _ xs lo2 hi2 _ js (lay_of h) u (r.below (hb.mono hhi)) (Nat.le_trans hhi hb.size) (r2.below (hb.mono hhi2)) (Nat.le_trans hhi2 hb.size))
  have LK : Hid (∀ u : World, Below w.heap.size w u → Calls Try.prog 37 #[.agg #[.int .i64 m, .int .i64 n, .slice b xs.length cap]] u fun e w' => e = .returned (.bool (layB m n xs)) ∧ Below u.heap.size u w') := Lib.hid (fun u hb => SpecLayoutOk_any lo hi m n _ xs u (r.below (hb.mono hhi)) (Nat.le_trans hhi hb.size))
  have HL := Lib.hid (unL_len (m := m) (n := n) (xs := xs) (js := js))
  have HB0 : Hid (Below w.heap.size w ((w.alloc (.cells #[.int .i64 m, .int .i64 n, .slice b xs.length cap] 26)).alloc (.cells #[.int .i64 0, .int .i64 0, .int .i64 0, .int .i64 0, .int .i64 0] 34))) := Lib.hid (bel_n (bel0 w _) (Nat.le_refl _) _)
  have HP : Hid (boxP m n xs js u = if InU (unL m n xs js).length u then (un (unL m n xs js) u.toNat).p else P5.zero) := Lib.hid rfl
  have HQ : Hid (boxB m n xs js u = decide (InU (unL m n xs js).length u)) := Lib.hid rfl
  clear r r2
  by_cases h0 : layB m n xs = true
  · rw [h0] at LK
    have CU := Lib.hid (CU0.out h0)
    have hx1 := (lay_of h0).2.2.1.1
    have HUL : Hid (xs.length ≤ (unL m n xs js).length) := Lib.hid (by rw [unL_yes h0]; have := (unF_len js (xs.map mkU)).1; simpa using this)
    clear CU0 h0
    generalize boxP m n xs js u = pp at HP
    generalize boxB m n xs js u = pb at HQ
    generalize unL m n xs js = U at CU HL HP HQ HUL
    go_enter Try.func26, Try.ntmps26
    go_wp2_with fail
    refine (args_eqL (LK.out _ HB0.out) (by with_reducible rfl)).mono ?_
    rintro e w0 ⟨rfl, hb0⟩
    have b0 := kept (p := ⟨w.heap.size, 0, none⟩) (x := .int .i64 m) hb0 (by go_simp)
    have b1 := kept (p := ⟨w.heap.size, 1, none⟩) (x := .int .i64 n) hb0 (by go_simp)
    have b2' := kept (p := ⟨w.heap.size, 2, none⟩) (x := .slice b xs.length cap) hb0 (by go_simp)
    have e0 := kept (p := ⟨w.heap.size + 1, 0, none⟩) (x := .int .i64 0) hb0 (by go_simp)
    have e1 := kept (p := ⟨w.heap.size + 1, 1, none⟩) (x := .int .i64 0) hb0 (by go_simp)
    have e2 := kept (p := ⟨w.heap.size + 1, 2, none⟩) (x := .int .i64 0) hb0 (by go_simp)
    have e3 := kept (p := ⟨w.heap.size + 1, 3, none⟩) (x := .int .i64 0) hb0 (by go_simp)
    have e4 := kept (p := ⟨w.heap.size + 1, 4, none⟩) (x := .int .i64 0) hb0 (by go_simp)
    have y0 := keptF (p := ⟨w.heap.size + 1, 0, none⟩) (x := .int .i64 0) hb0 (by go_simp) (by go_simp)
    have y1 := keptF (p := ⟨w.heap.size + 1, 1, none⟩) (x := .int .i64 0) hb0 (by go_simp) (by go_simp)
    have y2 := keptF (p := ⟨w.heap.size + 1, 2, none⟩) (x := .int .i64 0) hb0 (by go_simp) (by go_simp)
    have y3 := keptF (p := ⟨w.heap.size + 1, 3, none⟩) (x := .int .i64 0) hb0 (by go_simp) (by go_simp)
    have y4 := keptF (p := ⟨w.heap.size + 1, 4, none⟩) (x := .int .i64 0) hb0 (by go_simp) (by go_simp)
    have HB00 := Lib.hid (bel_c HB0.out (Nat.le_refl _) hb0)
    have hs0 := hb0.size
    simp at hs0
    clear hb0 HB0 LK
    go_wp2_with fail
    refine (args_eqL (CU.out _ HB00.out) (by with_reducible rfl)).mono ?_
    rintro e w1 ⟨vU, rfl, RU, hb1⟩
    obtain ⟨aU, cU, hvU⟩ := RU.form
    rw [List.length_map] at hvU
    subst hvU
    have hU := HL.out
    have hU1 : 1 ≤ U.length := by have := HUL.out; omega
    have d0 := kept hb1 e0
    have d1 := kept hb1 e1
    have d2 := kept hb1 e2
    have d3 := kept hb1 e3
    have d4 := kept hb1 e4
    have z0 := keptF hb1 e0 y0
    have z1 := keptF hb1 e1 y1
    have z2 := keptF hb1 e2 y2
    have z3 := keptF hb1 e3 y3
    have z4 := keptF hb1 e4 y4
    clear e0 y0 e1 y1 e2 y2 e3 y3 e4 y4
    have HB1 := Lib.hid (bel_c HB00.out (Nat.le_refl _) hb1)
    have hs1 := hb1.size
    have HR := Lib.hid RU
    clear hb1 HB00 CU RU b0 b1 b2'
    by_cases hu : InU U.length u
    · rw [show decide (InU U.length u) = true from decide_eq_true hu] at HQ
      rw [if_pos hu] at HP
      obtain ⟨u0, u1⟩ := hu
      obtain ⟨K, rfl⟩ : ∃ K : Nat, u = K := ⟨u.toNat, by omega⟩
      have hK : K < U.length := by omega
      simp only [Int.toNat_natCast] at HP
      obtain ⟨g, hg, _, _, q, _⟩ := HR.out.at (Below.refl _ _) (i := K) (by simpa using hK)
      obtain rfl : aU = some ⟨g, 0, none⟩ := hg
      rw [show (U.map U6.p).getD K P5.zero = (un U K).p from pat_map hK] at q
      obtain ⟨x, hx⟩ : ∃ x, x = (un U K).p := ⟨_, rfl⟩
      rw [← hx] at q HP
      have hpp := HP.out
      subst hpp
      obtain ⟨x0, x1, x2, x3, x4⟩ := pp
      obtain ⟨q0, q1, q2, q3, q4⟩ := q
      simp only at q0 q1 q2 q3 q4
      clear hx HP
      go_wp2_with fail
      refine (In_yes _ _ _ _ (by omega) (by omega)).mono ?_
      rintro e w' ⟨rfl, hw⟩
      have hw' := hw.symm
      subst hw'
      clear hw
      go_wp2_with fail
      refine bodyPost_ret (v := .tuple #[.agg #[.int .i64 x0, .int .i64 x1, .int .i64 x2, .int .i64 x3, .int .i64 x4], .bool true]) (by simp [results, Try.results26, go_sem, d0, d1, d2, d3, d4]) rfl ⟨by rw [HQ.out], ?_⟩
      refine Below.setCell (Below.setCell (Below.setCell (Below.setCell (Below.setCell HB1.out ?_ _) ?_ _) ?_ _) ?_ _) ?_ _ <;> (simp <;> omega)
    · have z3 : u < 0 ∨ (U.length : Int) - 1 < u := by unfold InU at hu; omega
      rw [show decide (InU U.length u) = false from decide_eq_false hu] at HQ
      rw [if_neg hu] at HP
      have hpp := HP.out
      subst hpp
      clear hu HP
      go_wp2_with fail
      refine (In_no _ _ _ _ z3).mono ?_
      rintro e w' ⟨rfl, hw⟩
      have hw' := hw.symm
      subst hw'
      clear hw
      go_wp2_with fail
      refine bodyPost_ret (v := .tuple #[.agg #[.int .i64 0, .int .i64 0, .int .i64 0, .int .i64 0, .int .i64 0], .bool false]) (by simp [results, Try.results26, go_sem, d0, d1, d2, d3, d4]) rfl ⟨by rw [HQ.out]; rfl, ?_⟩
      refine Below.setCell (Below.setCell (Below.setCell (Below.setCell (Below.setCell HB1.out ?_ _) ?_ _) ?_ _) ?_ _) ?_ _ <;> (simp <;> omega)
  · have h0' : layB m n xs = false := by simpa using h0
    rw [h0'] at LK
    have hpp := HP.out
    have hqq := HQ.out
    rw [unL_no h0'] at hpp hqq
    rw [if_neg (by unfold InU; simp <;> omega)] at hpp
    rw [decide_eq_false (by unfold InU; simp <;> omega)] at hqq
    rw [hpp, hqq]
    clear h0 h0' hpp hqq HP HQ CU0 HL
    go_enter Try.func26, Try.ntmps26
    go_wp2_with fail
    refine (args_eqL (LK.out _ HB0.out) (by with_reducible rfl)).mono ?_
    rintro e w1 ⟨rfl, hb1⟩
    have d0 := kept (p := ⟨w.heap.size + 1, 0, none⟩) (x := .int .i64 0) hb1 (by go_simp)
    have d1 := kept (p := ⟨w.heap.size + 1, 1, none⟩) (x := .int .i64 0) hb1 (by go_simp)
    have d2 := kept (p := ⟨w.heap.size + 1, 2, none⟩) (x := .int .i64 0) hb1 (by go_simp)
    have d3 := kept (p := ⟨w.heap.size + 1, 3, none⟩) (x := .int .i64 0) hb1 (by go_simp)
    have d4 := kept (p := ⟨w.heap.size + 1, 4, none⟩) (x := .int .i64 0) hb1 (by go_simp)
    have z0 := keptF (p := ⟨w.heap.size + 1, 0, none⟩) (x := .int .i64 0) hb1 (by go_simp) (by go_simp)
    have z1 := keptF (p := ⟨w.heap.size + 1, 1, none⟩) (x := .int .i64 0) hb1 (by go_simp) (by go_simp)
    have z2 := keptF (p := ⟨w.heap.size + 1, 2, none⟩) (x := .int .i64 0) hb1 (by go_simp) (by go_simp)
    have z3 := keptF (p := ⟨w.heap.size + 1, 3, none⟩) (x := .int .i64 0) hb1 (by go_simp) (by go_simp)
    have z4 := keptF (p := ⟨w.heap.size + 1, 4, none⟩) (x := .int .i64 0) hb1 (by go_simp) (by go_simp)
    have HB1 := Lib.hid (bel_c HB0.out (Nat.le_refl _) hb1)
    have hs1 := hb1.size
    simp at hs1
    clear hb1 HB0 LK
    go_wp2_with fail
    refine bodyPost_ret (v := .tuple #[.agg #[.int .i64 0, .int .i64 0, .int .i64 0, .int .i64 0, .int .i64 0], .bool false]) (by simp [results, Try.results26, go_sem, d0, d1, d2, d3, d4]) rfl ⟨rfl, ?_⟩
    refine Below.setCell (Below.setCell (Below.setCell (Below.setCell (Below.setCell HB1.out ?_ _) ?_ _) ?_ _) ?_ _) ?_ _ <;> (simp <;> omega)

set_option maxHeartbeats 3200000 in
set_option maxRecDepth 20000 in
theorem SpecAreJoins_any (lo hi : Nat) (m n : Int) (v : Value) (xs : List P5) (lo2 hi2 : Nat) (v2 : Value) (js : List J3) (w : World) (r : PatIn lo hi w v xs) (hhi : hi ≤ w.heap.size) (r2 : JnIn lo2 hi2 w v2 js) (hhi2 : hi2 ≤ w.heap.size) :
    Calls Try.prog 29 #[.agg #[.int .i64 m, .int .i64 n, v], v2] w fun e w' => e = .returned (.bool (areJ m n xs js)) ∧ Below w.heap.size w w' := by
  obtain ⟨b, cap, rfl⟩ := r.form
  obtain ⟨b2, cap2, rfl⟩ := r2.form
  have hl := r.1
  have hl2 := r2.1
  have CU0 : Hid (layB m n xs = true → ∀ u : World, Below w.heap.size w u → Calls Try.prog 51 #[.agg #[.int .i64 m, .int .i64 n, .slice b xs.length cap], .slice b2 js.length cap2] u (FreshPat ((unL m n xs js).map U6.p) u)) := Lib.hid (fun h u hb => by rw [unL_yes h]; exact SpecBoxes_any lo hi m n _ xs lo2 hi2 _ js (lay_of h) u (r.below (hb.mono hhi)) (Nat.le_trans hhi hb.size) (r2.below (hb.mono hhi2)) (Nat.le_trans hhi2 hb.size))
  have LK : Hid (∀ u : World, Below w.heap.size w u → Calls Try.prog 37 #[.agg #[.int .i64 m, .int .i64 n, .slice b xs.length cap]] u fun e w' => e = .returned (.bool (layB m n xs)) ∧ Below u.heap.size u w') := Lib.hid (fun u hb => SpecLayoutOk_any lo hi m n _ xs u (r.below (hb.mono hhi)) (Nat.le_trans hhi hb.size))
  have HL := Lib.hid (unL_len (m := m) (n := n) (xs := xs) (js := js))
  obtain ⟨G, hG⟩ : ∃ G, G = w.alloc (.cells #[.int .i64 m, .int .i64 n, .slice b xs.length cap] 26) := ⟨_, rfl⟩
  have HB0 : Hid (Below w.heap.size w G) := Lib.hid (by rw [hG]; exact bel0 w _)
  have D0 : Below G.heap.size G G.drew := ⟨rfl, rfl, rfl, Nat.le_refl _, fun _ _ => rfl⟩
  have S0 : G.drew.cell? ⟨w.heap.size, 0, none⟩ = some (.int .i64 m) ∧ G.drew.cell? ⟨w.heap.size, 1, none⟩ = some (.int .i64 n) ∧ G.drew.cell? ⟨w.heap.size, 2, none⟩ = some (.slice b xs.length cap) ∧ Below G.heap.size G G.drew := ⟨kept D0 (by rw [hG]; simp), kept D0 (by rw [hG]; simp), kept D0 (by rw [hG]; simp), D0⟩
  have KP : ∀ u v : World, Below u.heap.size u v → (u.cell? ⟨w.heap.size, 0, none⟩ = some (.int .i64 m) ∧ u.cell? ⟨w.heap.size, 1, none⟩ = some (.int .i64 n) ∧ u.cell? ⟨w.heap.size, 2, none⟩ = some (.slice b xs.length cap) ∧ Below G.heap.size G u) → (v.cell? ⟨w.heap.size, 0, none⟩ = some (.int .i64 m) ∧ v.cell? ⟨w.heap.size, 1, none⟩ = some (.int .i64 n) ∧ v.cell? ⟨w.heap.size, 2, none⟩ = some (.slice b xs.length cap) ∧ Below G.heap.size G v) := fun u v hb h => ⟨kept hb h.1, kept hb h.2.1, kept hb h.2.2.1, bel_c h.2.2.2 (Nat.le_refl _) hb⟩
  clear r r2 D0
  by_cases h0 : layB m n xs = true
  · rw [h0] at LK
    have CU := Lib.hid (CU0.out h0)
    clear CU0
    have hx1 := (lay_of h0).2.2.1.1
    have hx2 := (lay_of h0).2.2.1.2
    have hw1 : IntKind.i64.wrap ((xs.length : Int) - 1) = (xs.length : Int) - 1 := by simp [IntKind.wrap, IntKind.bits, IntKind.signed]; omega
    have hw2 : IntKind.i64.wrap ((xs.length : Int) + (js.length : Int)) = (xs.length : Int) + (js.length : Int) := by simp [IntKind.wrap, IntKind.bits, IntKind.signed]; omega
    obtain ⟨d1, hd1⟩ : ∃ d, ((js.length : Int) == (xs.length : Int) - 1) = d := ⟨_, rfl⟩
    have HA : Hid (areJ m n xs js = (d1 && (((unL m n xs js).length : Int) == (xs.length : Int) + js.length))) := Lib.hid (by unfold areJ; rw [h0, hd1]; rfl)
    rw [HA.out]
    clear HA
    generalize unL m n xs js = U at CU HL
    have hU := HL.out
    clear h0
    cases d1
    · skip
      go_enter Try.func29, Try.ntmps29
      go_wp2_with fail
      rw [← hG]
      clear hG
      (try simp only [List.append_eq, List.cons_append, List.nil_append])
      have hS := S0
      refine reg_begin (fun w' => w'.cell? ⟨w.heap.size, 0, none⟩ = some (.int .i64 m) ∧ w'.cell? ⟨w.heap.size, 1, none⟩ = some (.int .i64 n) ∧ w'.cell? ⟨w.heap.size, 2, none⟩ = some (.slice b xs.length cap) ∧ Below G.heap.size G w') (by kernel_rfl) hS ?_
      refine reg_take 0 (v := ?_) rfl (by kernel_rfl) (by kernel_rfl) (by kernel_rfl) (fun _ _ _ h => h) (by rfl) (by intro w hSw; (try dsimp only at hSw); go_simp; first | done | with_reducible rfl) hS ?_
      (try simp only [Act.put, List.setIfInBounds_toArray, List.set_cons_zero, List.set_cons_succ])
      refine reg_call 1 rfl (by kernel_rfl) (by rfl) (fun K hK => ?_)
      go_simp
      go_at_call 37
      refine (args_eqL (LK.out _ (bel_c HB0.out (Nat.le_refl _) hS.2.2.2)) (by with_reducible rfl)).mono ?_
      rintro e y ⟨rfl, hb⟩
      refine hK.out _ _ (KP _ _ hb hS) (fun hS' => ?_)
      clear hK K hS
      have hS := hS'
      clear hS' hb
      try (try simp only [Act.put, List.setIfInBounds_toArray, List.set_cons_zero, List.set_cons_succ])
      refine reg_take 2 (v := ?_) rfl (by kernel_rfl) (by kernel_rfl) (by kernel_rfl) (fun _ _ _ h => h) (by rfl) (by intro w hSw; (try dsimp only at hSw); go_simp; first | done | with_reducible rfl) hS ?_
      (try simp only [Act.put, List.setIfInBounds_toArray, List.set_cons_zero, List.set_cons_succ])
      refine reg_take 3 (v := ?_) rfl (by kernel_rfl) (by kernel_rfl) (by kernel_rfl) (fun _ _ _ h => h) (by rfl) (by intro w hSw; (try dsimp only at hSw); go_simp; first | done | with_reducible rfl) hS ?_
      (try simp only [Act.put, List.setIfInBounds_toArray, List.set_cons_zero, List.set_cons_succ])
      refine reg_take 4 (v := ?_) rfl (by kernel_rfl) (by kernel_rfl) (by kernel_rfl) (fun _ _ _ h => h) (by rfl) (by intro w hSw; (try dsimp only at hSw); go_simp; first | done | with_reducible rfl) hS ?_
      (try simp only [Act.put, List.setIfInBounds_toArray, List.set_cons_zero, List.set_cons_succ])
      refine reg_take 5 (v := ?_) rfl (by kernel_rfl) (by kernel_rfl) (by kernel_rfl) (fun _ _ _ h => h) (by rfl) (by intro w hSw; (try dsimp only at hSw); go_simp; first | done | with_reducible rfl) hS ?_
      (try simp only [Act.put, List.setIfInBounds_toArray, List.set_cons_zero, List.set_cons_succ])
      refine reg_take 6 (v := ?_) rfl (by kernel_rfl) (by kernel_rfl) (by kernel_rfl) (fun _ _ _ h => h) (by rfl) (by intro w hSw; (try dsimp only at hSw); go_simp; first | done | with_reducible rfl) hS ?_
      (try simp only [Act.put, List.setIfInBounds_toArray, List.set_cons_zero, List.set_cons_succ])
      refine reg_take 7 (v := ?_) rfl (by kernel_rfl) (by kernel_rfl) (by kernel_rfl) (fun _ _ _ h => h) (by rfl) (by intro w hSw; (try dsimp only at hSw); go_simp; first | done | with_reducible rfl) hS ?_
      (try simp only [Act.put, List.setIfInBounds_toArray, List.set_cons_zero, List.set_cons_succ])
      refine reg_take 8 (v := ?_) rfl (by kernel_rfl) (by kernel_rfl) (by kernel_rfl) (fun _ _ _ h => h) (by rfl) (by intro w hSw; (try dsimp only at hSw); go_simp; first | done | with_reducible rfl) hS ?_
      (try simp only [Act.put, List.setIfInBounds_toArray, List.set_cons_zero, List.set_cons_succ])
      refine reg_take 9 (v := ?_) rfl (by kernel_rfl) (by kernel_rfl) (by kernel_rfl) (fun _ _ _ h => h) (by rfl) (by intro w hSw; (try dsimp only at hSw); go_simp; first | done | with_reducible rfl) hS ?_
      (try simp only [Act.put, List.setIfInBounds_toArray, List.set_cons_zero, List.set_cons_succ])
      refine reg_take 10 (v := ?_) rfl (by kernel_rfl) (by kernel_rfl) (by kernel_rfl) (fun _ _ _ h => h) (by rfl) (by intro w hSw; (try dsimp only at hSw); go_simp; first | done | with_reducible rfl) hS ?_
      (try simp only [Act.put, List.setIfInBounds_toArray, List.set_cons_zero, List.set_cons_succ])
      refine reg_take 11 (v := ?_) rfl (by kernel_rfl) (by kernel_rfl) (by kernel_rfl) (fun _ _ _ h => h) (by rfl) (by intro w hSw; (try dsimp only at hSw); go_simp; first | done | with_reducible rfl) hS ?_
      (try simp only [Act.put, List.setIfInBounds_toArray, List.set_cons_zero, List.set_cons_succ])
      refine reg_skip 12 rfl (by kernel_rfl) (by kernel_rfl) (by kernel_rfl) (fun _ _ _ h => h) (by rfl) hS ?_
      (try simp only [Act.put, List.setIfInBounds_toArray, List.set_cons_zero, List.set_cons_succ])
      refine reg_skip 13 rfl (by kernel_rfl) (by kernel_rfl) (by kernel_rfl) (fun _ _ _ h => h) (by rfl) hS ?_
      (try simp only [Act.put, List.setIfInBounds_toArray, List.set_cons_zero, List.set_cons_succ])
      refine reg_skip 14 rfl (by kernel_rfl) (by kernel_rfl) (by kernel_rfl) (fun _ _ _ h => h) (by rfl) hS ?_
      (try simp only [Act.put, List.setIfInBounds_toArray, List.set_cons_zero, List.set_cons_succ])
      refine reg_skip 15 rfl (by kernel_rfl) (by kernel_rfl) (by kernel_rfl) (fun _ _ _ h => h) (by rfl) hS ?_
      (try simp only [Act.put, List.setIfInBounds_toArray, List.set_cons_zero, List.set_cons_succ])
      refine reg_skip 16 rfl (by kernel_rfl) (by kernel_rfl) (by kernel_rfl) (fun _ _ _ h => h) (by rfl) hS ?_
      (try simp only [Act.put, List.setIfInBounds_toArray, List.set_cons_zero, List.set_cons_succ])
      refine reg_skip 17 rfl (by kernel_rfl) (by kernel_rfl) (by kernel_rfl) (fun _ _ _ h => h) (by rfl) hS ?_
      (try simp only [Act.put, List.setIfInBounds_toArray, List.set_cons_zero, List.set_cons_succ])
      refine reg_skip 18 rfl (by kernel_rfl) (by kernel_rfl) (by kernel_rfl) (fun _ _ _ h => h) (by rfl) hS ?_
      (try simp only [Act.put, List.setIfInBounds_toArray, List.set_cons_zero, List.set_cons_succ])
      refine reg_skip 19 rfl (by kernel_rfl) (by kernel_rfl) (by kernel_rfl) (fun _ _ _ h => h) (by rfl) hS ?_
      (try simp only [Act.put, List.setIfInBounds_toArray, List.set_cons_zero, List.set_cons_succ])
      refine reg_skip 20 rfl (by kernel_rfl) (by kernel_rfl) (by kernel_rfl) (fun _ _ _ h => h) (by rfl) hS ?_
      (try simp only [Act.put, List.setIfInBounds_toArray, List.set_cons_zero, List.set_cons_succ])
      refine reg_skip 21 rfl (by kernel_rfl) (by kernel_rfl) (by kernel_rfl) (fun _ _ _ h => h) (by rfl) hS ?_
      (try simp only [Act.put, List.setIfInBounds_toArray, List.set_cons_zero, List.set_cons_succ])
      refine reg_skip 22 rfl (by kernel_rfl) (by kernel_rfl) (by kernel_rfl) (fun _ _ _ h => h) (by rfl) hS ?_
      (try simp only [Act.put, List.setIfInBounds_toArray, List.set_cons_zero, List.set_cons_succ])
      refine reg_take 23 (v := ?_) rfl (by kernel_rfl) (by kernel_rfl) (by kernel_rfl) (fun _ _ _ h => h) (by rfl) (by intro w hSw; (try dsimp only at hSw); go_simp; first | done | with_reducible rfl) hS ?_
      (try simp only [Act.put, List.setIfInBounds_toArray, List.set_cons_zero, List.set_cons_succ])
      refine reg_take 24 (v := ?_) rfl (by kernel_rfl) (by kernel_rfl) (by kernel_rfl) (fun _ _ _ h => h) (by rfl) (by intro w hSw; (try dsimp only at hSw); go_simp; first | done | with_reducible rfl) hS ?_
      (try simp only [Act.put, List.setIfInBounds_toArray, List.set_cons_zero, List.set_cons_succ])
      refine wpAnyH_done (by kernel_rfl) ?_ _
      have BE := Lib.hid (bel_c HB0.out (Nat.le_refl _) hS.2.2.2)
      clear hS
      go_wp2_with fail
      go_ret
      exact ⟨ret_bool (rfl), BE.out⟩
    · skip
      go_enter Try.func29, Try.ntmps29
      go_wp2_with fail
      rw [← hG]
      clear hG
      (try simp only [List.append_eq, List.cons_append, List.nil_append])
      have hS := S0
      refine reg_begin (fun w' => w'.cell? ⟨w.heap.size, 0, none⟩ = some (.int .i64 m) ∧ w'.cell? ⟨w.heap.size, 1, none⟩ = some (.int .i64 n) ∧ w'.cell? ⟨w.heap.size, 2, none⟩ = some (.slice b xs.length cap) ∧ Below G.heap.size G w') (by kernel_rfl) hS ?_
      refine reg_take 0 (v := ?_) rfl (by kernel_rfl) (by kernel_rfl) (by kernel_rfl) (fun _ _ _ h => h) (by rfl) (by intro w hSw; (try dsimp only at hSw); go_simp; first | done | with_reducible rfl) hS ?_
      (try simp only [Act.put, List.setIfInBounds_toArray, List.set_cons_zero, List.set_cons_succ])
      refine reg_call 1 rfl (by kernel_rfl) (by rfl) (fun K hK => ?_)
      go_simp
      go_at_call 37
      refine (args_eqL (LK.out _ (bel_c HB0.out (Nat.le_refl _) hS.2.2.2)) (by with_reducible rfl)).mono ?_
      rintro e y ⟨rfl, hb⟩
      refine hK.out _ _ (KP _ _ hb hS) (fun hS' => ?_)
      clear hK K hS
      have hS := hS'
      clear hS' hb
      try (try simp only [Act.put, List.setIfInBounds_toArray, List.set_cons_zero, List.set_cons_succ])
      refine reg_take 2 (v := ?_) rfl (by kernel_rfl) (by kernel_rfl) (by kernel_rfl) (fun _ _ _ h => h) (by rfl) (by intro w hSw; (try dsimp only at hSw); go_simp; first | done | with_reducible rfl) hS ?_
      (try simp only [Act.put, List.setIfInBounds_toArray, List.set_cons_zero, List.set_cons_succ])
      refine reg_take 3 (v := ?_) rfl (by kernel_rfl) (by kernel_rfl) (by kernel_rfl) (fun _ _ _ h => h) (by rfl) (by intro w hSw; (try dsimp only at hSw); go_simp; first | done | with_reducible rfl) hS ?_
      (try simp only [Act.put, List.setIfInBounds_toArray, List.set_cons_zero, List.set_cons_succ])
      refine reg_take 4 (v := ?_) rfl (by kernel_rfl) (by kernel_rfl) (by kernel_rfl) (fun _ _ _ h => h) (by rfl) (by intro w hSw; (try dsimp only at hSw); go_simp; first | done | with_reducible rfl) hS ?_
      (try simp only [Act.put, List.setIfInBounds_toArray, List.set_cons_zero, List.set_cons_succ])
      refine reg_take 5 (v := ?_) rfl (by kernel_rfl) (by kernel_rfl) (by kernel_rfl) (fun _ _ _ h => h) (by rfl) (by intro w hSw; (try dsimp only at hSw); go_simp; first | done | with_reducible rfl) hS ?_
      (try simp only [Act.put, List.setIfInBounds_toArray, List.set_cons_zero, List.set_cons_succ])
      refine reg_take 6 (v := ?_) rfl (by kernel_rfl) (by kernel_rfl) (by kernel_rfl) (fun _ _ _ h => h) (by rfl) (by intro w hSw; (try dsimp only at hSw); go_simp; first | done | with_reducible rfl) hS ?_
      (try simp only [Act.put, List.setIfInBounds_toArray, List.set_cons_zero, List.set_cons_succ])
      refine reg_take 7 (v := ?_) rfl (by kernel_rfl) (by kernel_rfl) (by kernel_rfl) (fun _ _ _ h => h) (by rfl) (by intro w hSw; (try dsimp only at hSw); go_simp; first | done | with_reducible rfl) hS ?_
      (try simp only [Act.put, List.setIfInBounds_toArray, List.set_cons_zero, List.set_cons_succ])
      refine reg_take 8 (v := ?_) rfl (by kernel_rfl) (by kernel_rfl) (by kernel_rfl) (fun _ _ _ h => h) (by rfl) (by intro w hSw; (try dsimp only at hSw); go_simp; first | done | with_reducible rfl) hS ?_
      (try simp only [Act.put, List.setIfInBounds_toArray, List.set_cons_zero, List.set_cons_succ])
      refine reg_take 9 (v := ?_) rfl (by kernel_rfl) (by kernel_rfl) (by kernel_rfl) (fun _ _ _ h => h) (by rfl) (by intro w hSw; (try dsimp only at hSw); go_simp; first | done | with_reducible rfl) hS ?_
      (try simp only [Act.put, List.setIfInBounds_toArray, List.set_cons_zero, List.set_cons_succ])
      refine reg_take 10 (v := ?_) rfl (by kernel_rfl) (by kernel_rfl) (by kernel_rfl) (fun _ _ _ h => h) (by rfl) (by intro w hSw; (try dsimp only at hSw); go_simp; first | done | with_reducible rfl) hS ?_
      (try simp only [Act.put, List.setIfInBounds_toArray, List.set_cons_zero, List.set_cons_succ])
      refine reg_take 11 (v := ?_) rfl (by kernel_rfl) (by kernel_rfl) (by kernel_rfl) (fun _ _ _ h => h) (by rfl) (by intro w hSw; (try dsimp only at hSw); go_simp; first | done | with_reducible rfl) hS ?_
      (try simp only [Act.put, List.setIfInBounds_toArray, List.set_cons_zero, List.set_cons_succ])
      refine reg_take 12 (v := ?_) rfl (by kernel_rfl) (by kernel_rfl) (by kernel_rfl) (fun _ _ _ h => h) (by rfl) (by intro w hSw; (try dsimp only at hSw); go_simp; first | done | with_reducible rfl) hS ?_
      (try simp only [Act.put, List.setIfInBounds_toArray, List.set_cons_zero, List.set_cons_succ])
      refine reg_take 13 (v := ?_) rfl (by kernel_rfl) (by kernel_rfl) (by kernel_rfl) (fun _ _ _ h => h) (by rfl) (by intro w hSw; (try dsimp only at hSw); go_simp; first | done | with_reducible rfl) hS ?_
      (try simp only [Act.put, List.setIfInBounds_toArray, List.set_cons_zero, List.set_cons_succ])
      refine reg_take 16 (v := ?_) rfl (by kernel_rfl) (by kernel_rfl) (by kernel_rfl) (fun _ _ _ h => h) (by rfl) (by intro w hSw; (try dsimp only at hSw); go_simp; first | done | with_reducible rfl) hS ?_
      (try simp only [Act.put, List.setIfInBounds_toArray, List.set_cons_zero, List.set_cons_succ])
      refine reg_take 17 (v := ?_) rfl (by kernel_rfl) (by kernel_rfl) (by kernel_rfl) (fun _ _ _ h => h) (by rfl) (by intro w hSw; (try dsimp only at hSw); go_simp; first | done | with_reducible rfl) hS ?_
      (try simp only [Act.put, List.setIfInBounds_toArray, List.set_cons_zero, List.set_cons_succ])
      refine reg_take 18 (v := ?_) rfl (by kernel_rfl) (by kernel_rfl) (by kernel_rfl) (fun _ _ _ h => h) (by rfl) (by intro w hSw; (try dsimp only at hSw); go_simp; first | done | with_reducible rfl) hS ?_
      (try simp only [Act.put, List.setIfInBounds_toArray, List.set_cons_zero, List.set_cons_succ])
      refine reg_take 19 (v := ?_) rfl (by kernel_rfl) (by kernel_rfl) (by kernel_rfl) (fun _ _ _ h => h) (by rfl) (by intro w hSw; (try dsimp only at hSw); go_simp; first | done | with_reducible rfl) hS ?_
      (try simp only [Act.put, List.setIfInBounds_toArray, List.set_cons_zero, List.set_cons_succ])
      refine reg_take 20 (v := ?_) rfl (by kernel_rfl) (by kernel_rfl) (by kernel_rfl) (fun _ _ _ h => h) (by rfl) (by intro w hSw; (try dsimp only at hSw); go_simp; first | done | with_reducible rfl) hS ?_
      (try simp only [Act.put, List.setIfInBounds_toArray, List.set_cons_zero, List.set_cons_succ])
      refine reg_take 21 (v := ?_) rfl (by kernel_rfl) (by kernel_rfl) (by kernel_rfl) (fun _ _ _ h => h) (by rfl) (by intro w hSw; (try dsimp only at hSw); go_simp; first | done | with_reducible rfl) hS ?_
      (try simp only [Act.put, List.setIfInBounds_toArray, List.set_cons_zero, List.set_cons_succ])
      refine reg_call 14 rfl (by kernel_rfl) (by rfl) (fun K hK => ?_)
      go_simp
      go_at_call 51
      refine (args_eqL (CU.out _ (bel_c HB0.out (Nat.le_refl _) hS.2.2.2)) (by with_reducible rfl)).mono ?_
      rintro e z ⟨vU, rfl, RU, hb⟩
      obtain ⟨aU, cU, hvU⟩ := RU.form; rw [List.length_map] at hvU; subst hvU
      refine hK.out _ _ (KP _ _ hb hS) (fun hS' => ?_)
      clear hK K hS
      have hS := hS'
      clear hS' hb
      try (try simp only [Act.put, List.setIfInBounds_toArray, List.set_cons_zero, List.set_cons_succ])
      refine reg_take 15 (v := ?_) rfl (by kernel_rfl) (by kernel_rfl) (by kernel_rfl) (fun _ _ _ h => h) (by rfl) (by intro w hSw; (try dsimp only at hSw); go_simp; first | done | with_reducible rfl) hS ?_
      (try simp only [Act.put, List.setIfInBounds_toArray, List.set_cons_zero, List.set_cons_succ])
      refine reg_take 22 (v := ?_) rfl (by kernel_rfl) (by kernel_rfl) (by kernel_rfl) (fun _ _ _ h => h) (by rfl) (by intro w hSw; (try dsimp only at hSw); go_simp; first | done | with_reducible rfl) hS ?_
      (try simp only [Act.put, List.setIfInBounds_toArray, List.set_cons_zero, List.set_cons_succ])
      refine reg_take 23 (v := ?_) rfl (by kernel_rfl) (by kernel_rfl) (by kernel_rfl) (fun _ _ _ h => h) (by rfl) (by intro w hSw; (try dsimp only at hSw); go_simp; first | done | with_reducible rfl) hS ?_
      (try simp only [Act.put, List.setIfInBounds_toArray, List.set_cons_zero, List.set_cons_succ])
      refine reg_take 24 (v := ?_) rfl (by kernel_rfl) (by kernel_rfl) (by kernel_rfl) (fun _ _ _ h => h) (by rfl) (by intro w hSw; (try dsimp only at hSw); go_simp; first | done | with_reducible rfl) hS ?_
      (try simp only [Act.put, List.setIfInBounds_toArray, List.set_cons_zero, List.set_cons_succ])
      refine wpAnyH_done (by kernel_rfl) ?_ _
      have BE := Lib.hid (bel_c HB0.out (Nat.le_refl _) hS.2.2.2)
      clear hS
      go_wp2_with fail
      go_ret
      exact ⟨ret_bool (rfl), BE.out⟩
  · rw [show layB m n xs = false by simpa using h0] at LK
    rw [show areJ m n xs js = false by simp [areJ, show layB m n xs = false by simpa using h0]]
    clear h0
    go_enter Try.func29, Try.ntmps29
    go_wp2_with fail
    rw [← hG]
    clear hG
    (try simp only [List.append_eq, List.cons_append, List.nil_append])
    have hS := S0
    refine reg_begin (fun w' => w'.cell? ⟨w.heap.size, 0, none⟩ = some (.int .i64 m) ∧ w'.cell? ⟨w.heap.size, 1, none⟩ = some (.int .i64 n) ∧ w'.cell? ⟨w.heap.size, 2, none⟩ = some (.slice b xs.length cap) ∧ Below G.heap.size G w') (by kernel_rfl) hS ?_
    refine reg_take 0 (v := ?_) rfl (by kernel_rfl) (by kernel_rfl) (by kernel_rfl) (fun _ _ _ h => h) (by rfl) (by intro w hSw; (try dsimp only at hSw); go_simp; first | done | with_reducible rfl) hS ?_
    (try simp only [Act.put, List.setIfInBounds_toArray, List.set_cons_zero, List.set_cons_succ])
    refine reg_call 1 rfl (by kernel_rfl) (by rfl) (fun K hK => ?_)
    go_simp
    go_at_call 37
    refine (args_eqL (LK.out _ (bel_c HB0.out (Nat.le_refl _) hS.2.2.2)) (by with_reducible rfl)).mono ?_
    rintro e y ⟨rfl, hb⟩
    refine hK.out _ _ (KP _ _ hb hS) (fun hS' => ?_)
    clear hK K hS
    have hS := hS'
    clear hS' hb
    try (try simp only [Act.put, List.setIfInBounds_toArray, List.set_cons_zero, List.set_cons_succ])
    refine reg_take 2 (v := ?_) rfl (by kernel_rfl) (by kernel_rfl) (by kernel_rfl) (fun _ _ _ h => h) (by rfl) (by intro w hSw; (try dsimp only at hSw); go_simp; first | done | with_reducible rfl) hS ?_
    (try simp only [Act.put, List.setIfInBounds_toArray, List.set_cons_zero, List.set_cons_succ])
    refine reg_skip 3 rfl (by kernel_rfl) (by kernel_rfl) (by kernel_rfl) (fun _ _ _ h => h) (by rfl) hS ?_
    (try simp only [Act.put, List.setIfInBounds_toArray, List.set_cons_zero, List.set_cons_succ])
    refine reg_skip 4 rfl (by kernel_rfl) (by kernel_rfl) (by kernel_rfl) (fun _ _ _ h => h) (by rfl) hS ?_
    (try simp only [Act.put, List.setIfInBounds_toArray, List.set_cons_zero, List.set_cons_succ])
    refine reg_skip 5 rfl (by kernel_rfl) (by kernel_rfl) (by kernel_rfl) (fun _ _ _ h => h) (by rfl) hS ?_
    (try simp only [Act.put, List.setIfInBounds_toArray, List.set_cons_zero, List.set_cons_succ])
    refine reg_skip 6 rfl (by kernel_rfl) (by kernel_rfl) (by kernel_rfl) (fun _ _ _ h => h) (by rfl) hS ?_
    (try simp only [Act.put, List.setIfInBounds_toArray, List.set_cons_zero, List.set_cons_succ])
    refine reg_skip 7 rfl (by kernel_rfl) (by kernel_rfl) (by kernel_rfl) (fun _ _ _ h => h) (by rfl) hS ?_
    (try simp only [Act.put, List.setIfInBounds_toArray, List.set_cons_zero, List.set_cons_succ])
    refine reg_skip 8 rfl (by kernel_rfl) (by kernel_rfl) (by kernel_rfl) (fun _ _ _ h => h) (by rfl) hS ?_
    (try simp only [Act.put, List.setIfInBounds_toArray, List.set_cons_zero, List.set_cons_succ])
    refine reg_skip 9 rfl (by kernel_rfl) (by kernel_rfl) (by kernel_rfl) (fun _ _ _ h => h) (by rfl) hS ?_
    (try simp only [Act.put, List.setIfInBounds_toArray, List.set_cons_zero, List.set_cons_succ])
    refine reg_take 10 (v := ?_) rfl (by kernel_rfl) (by kernel_rfl) (by kernel_rfl) (fun _ _ _ h => h) (by rfl) (by intro w hSw; (try dsimp only at hSw); go_simp; first | done | with_reducible rfl) hS ?_
    (try simp only [Act.put, List.setIfInBounds_toArray, List.set_cons_zero, List.set_cons_succ])
    refine reg_take 11 (v := ?_) rfl (by kernel_rfl) (by kernel_rfl) (by kernel_rfl) (fun _ _ _ h => h) (by rfl) (by intro w hSw; (try dsimp only at hSw); go_simp; first | done | with_reducible rfl) hS ?_
    (try simp only [Act.put, List.setIfInBounds_toArray, List.set_cons_zero, List.set_cons_succ])
    refine reg_skip 12 rfl (by kernel_rfl) (by kernel_rfl) (by kernel_rfl) (fun _ _ _ h => h) (by rfl) hS ?_
    (try simp only [Act.put, List.setIfInBounds_toArray, List.set_cons_zero, List.set_cons_succ])
    refine reg_skip 13 rfl (by kernel_rfl) (by kernel_rfl) (by kernel_rfl) (fun _ _ _ h => h) (by rfl) hS ?_
    (try simp only [Act.put, List.setIfInBounds_toArray, List.set_cons_zero, List.set_cons_succ])
    refine reg_skip 14 rfl (by kernel_rfl) (by kernel_rfl) (by kernel_rfl) (fun _ _ _ h => h) (by rfl) hS ?_
    (try simp only [Act.put, List.setIfInBounds_toArray, List.set_cons_zero, List.set_cons_succ])
    refine reg_skip 15 rfl (by kernel_rfl) (by kernel_rfl) (by kernel_rfl) (fun _ _ _ h => h) (by rfl) hS ?_
    (try simp only [Act.put, List.setIfInBounds_toArray, List.set_cons_zero, List.set_cons_succ])
    refine reg_skip 16 rfl (by kernel_rfl) (by kernel_rfl) (by kernel_rfl) (fun _ _ _ h => h) (by rfl) hS ?_
    (try simp only [Act.put, List.setIfInBounds_toArray, List.set_cons_zero, List.set_cons_succ])
    refine reg_skip 17 rfl (by kernel_rfl) (by kernel_rfl) (by kernel_rfl) (fun _ _ _ h => h) (by rfl) hS ?_
    (try simp only [Act.put, List.setIfInBounds_toArray, List.set_cons_zero, List.set_cons_succ])
    refine reg_skip 18 rfl (by kernel_rfl) (by kernel_rfl) (by kernel_rfl) (fun _ _ _ h => h) (by rfl) hS ?_
    (try simp only [Act.put, List.setIfInBounds_toArray, List.set_cons_zero, List.set_cons_succ])
    refine reg_skip 19 rfl (by kernel_rfl) (by kernel_rfl) (by kernel_rfl) (fun _ _ _ h => h) (by rfl) hS ?_
    (try simp only [Act.put, List.setIfInBounds_toArray, List.set_cons_zero, List.set_cons_succ])
    refine reg_skip 20 rfl (by kernel_rfl) (by kernel_rfl) (by kernel_rfl) (fun _ _ _ h => h) (by rfl) hS ?_
    (try simp only [Act.put, List.setIfInBounds_toArray, List.set_cons_zero, List.set_cons_succ])
    refine reg_skip 21 rfl (by kernel_rfl) (by kernel_rfl) (by kernel_rfl) (fun _ _ _ h => h) (by rfl) hS ?_
    (try simp only [Act.put, List.setIfInBounds_toArray, List.set_cons_zero, List.set_cons_succ])
    refine reg_skip 22 rfl (by kernel_rfl) (by kernel_rfl) (by kernel_rfl) (fun _ _ _ h => h) (by rfl) hS ?_
    (try simp only [Act.put, List.setIfInBounds_toArray, List.set_cons_zero, List.set_cons_succ])
    refine reg_take 23 (v := ?_) rfl (by kernel_rfl) (by kernel_rfl) (by kernel_rfl) (fun _ _ _ h => h) (by rfl) (by intro w hSw; (try dsimp only at hSw); go_simp; first | done | with_reducible rfl) hS ?_
    (try simp only [Act.put, List.setIfInBounds_toArray, List.set_cons_zero, List.set_cons_succ])
    refine reg_take 24 (v := ?_) rfl (by kernel_rfl) (by kernel_rfl) (by kernel_rfl) (fun _ _ _ h => h) (by rfl) (by intro w hSw; (try dsimp only at hSw); go_simp; first | done | with_reducible rfl) hS ?_
    (try simp only [Act.put, List.setIfInBounds_toArray, List.set_cons_zero, List.set_cons_succ])
    refine wpAnyH_done (by kernel_rfl) ?_ _
    have BE := Lib.hid (bel_c HB0.out (Nat.le_refl _) hS.2.2.2)
    clear hS
    go_wp2_with fail
    go_ret
    exact ⟨ret_bool (rfl), BE.out⟩


end Go.Proofs.Ytboahceibeeifaa
