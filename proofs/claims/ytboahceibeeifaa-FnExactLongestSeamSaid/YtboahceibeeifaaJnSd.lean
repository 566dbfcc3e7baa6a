/- Joins: LongestSeam of both. -/
import Derived.Test.YtboahceibeeifaaJnSc
import Derived.Test.YtboahceibeeifaaJnIb
set_option linter.unusedSimpArgs false
set_option linter.unusedVariables false
namespace Go.Proofs.Ytboahceibeeifaa
open Go.ChangeShapes Go.WideShapes Go.ChangeAt Go.RowKit


theorem if_max (x y : Int) : (if x < y then y else x) = max x y := by omega
theorem lenJ_p (us : List U6) (j : J3) : lenJ us j = if j.up then (un us j.a.toNat).p.h else (un us j.a.toNat).p.w := rfl
set_option maxHeartbeats 3200000 in
set_option maxRecDepth 20000 in
theorem ImplLongest_any (lo hi : Nat) (m n : Int) (v : Value) (xs : List P5) (lo2 hi2 : Nat) (v2 : Value) (js : List J3) (wf : ∀ c ∈ xs, c.Wf) (w : World) (r : PatIn lo hi w v xs) (hhi : hi ≤ w.heap.size) (r2 : JnIn lo2 hi2 w v2 js) (hhi2 : hi2 ≤ w.heap.size) :
    Calls Try.prog 16 #[.agg #[.int .i64 m, .int .i64 n, v], v2] w fun e w' => e = .returned (.int .i64 (lonJ m n xs js)) ∧ Below w.heap.size w w' := by
  obtain ⟨b, cap, rfl⟩ := r.form
  obtain ⟨b2, cap2, rfl⟩ := r2.form
  have hl := r.1
  have hl2 := r2.1
  have CU : Hid (∀ u : World, Below w.heap.size w u → Calls Try.prog 41 #[.agg #[.int .i64 m, .int .i64 n, .slice b xs.length cap], .slice b2 js.length cap2] u (FreshUn (unL m n xs js) u)) := Lib.hid (fun u hb => ImplUnits_any lo hi m n _ xs lo2 hi2 _ js wf u (r.below (hb.mono hhi)) (Nat.le_trans hhi hb.size) (r2.below (hb.mono hhi2)) (Nat.le_trans hhi2 hb.size))
  have R2 := Lib.hid r2
  have CA : Hid (∀ u : World, Below w.heap.size w u → Calls Try.prog 13 #[.agg #[.int .i64 m, .int .i64 n, .slice b xs.length cap], .slice b2 js.length cap2] u fun e w' => e = .returned (.bool (areJ m n xs js)) ∧ Below u.heap.size u w') := Lib.hid (fun u hb => ImplAreJoins_any lo hi m n _ xs lo2 hi2 _ js wf u (r.below (hb.mono hhi)) (Nat.le_trans hhi hb.size) (r2.below (hb.mono hhi2)) (Nat.le_trans hhi2 hb.size))
  have HB0 : Hid (Below w.heap.size w (w.alloc (.cells #[.int .i64 m, .int .i64 n, .slice b xs.length cap] 26))) := Lib.hid (bel0 w _)
  clear r r2 wf
  by_cases h0 : areJ m n xs js = true
  · rw [h0] at CA
    have HE := Lib.hid (lon_yes h0)
    have HIN : Hid (∀ k, k < js.length → InU (unL m n xs js).length (jn js k).a) := Lib.hid (fun k hk => are_in h0 hk)
    have hu24 := unL_len (m := m) (n := n) (xs := xs) (js := js)
    clear h0
    rw [← HE.out]
    clear HE
    generalize unL m n xs js = U at CU HIN hu24
    go_enter Try.func16, Try.ntmps16
    go_wp2_with fail
    refine (args_eqL (CA.out _ HB0.out) (by with_reducible rfl)).mono ?_
    rintro e w1 ⟨rfl, hb1⟩
    have a0 := kept (p := ⟨w.heap.size, 0, none⟩) (x := .int .i64 m) hb1 (by go_simp)
    have a1 := kept (p := ⟨w.heap.size, 1, none⟩) (x := .int .i64 n) hb1 (by go_simp)
    have a2 := kept (p := ⟨w.heap.size, 2, none⟩) (x := .slice b xs.length cap) hb1 (by go_simp)
    have HB1 := Lib.hid (bel_c HB0.out (Nat.le_refl _) hb1)
    clear hb1 HB0 CA
    go_wp2_with fail
    refine (args_eqL (CU.out _ HB1.out) (by with_reducible rfl)).mono ?_
    rintro e w2 ⟨vU, rfl, RU, hb2⟩
    obtain ⟨aU, cU, rfl⟩ := RU.form
    have HR := Lib.hid RU
    have HB2 := Lib.hid (bel_c HB1.out (Nat.le_refl _) hb2)
    clear hb2 HB1 CU RU a0 a1 a2
    go_wp2_with fail
    go_loopw [6, 18] (fun q i wr => ∃ k : Nat, k ≤ js.length ∧ i = .int .i64 k ∧ q = .int .i64 (lonK U js k) ∧ Hid (Below w2.heap.size w2 wr)) (fun _ i _ => js.length - (intOf i).toNat)
    case atStart => exact ⟨0, Nat.zero_le _, rfl, rfl, Lib.hid (Below.refl _ _)⟩
    case round =>
      obtain ⟨k, hk, rfl, rfl, hbel⟩ := hrel
      by_cases hlt : k < js.length
      · obtain ⟨g, rfl, hg, hg1, ⟨e0, e1, e2⟩, _⟩ := R2.out.at ((bel_c HB2.out (Nat.le_refl _) hbel.out).mono hhi2) hlt
        have hia := HIN.out k hlt
        have HK1 : Hid (lonK U js (k + 1) = max (lonK U js k) (lenJ U (jn js k))) := Lib.hid rfl
        obtain ⟨j, hj⟩ : ∃ j, j = jn js k := ⟨_, rfl⟩
        rw [show js.getD k J3.zero = j from hj.symm] at e0 e1 e2
        rw [show jn js k = j from hj.symm] at hia HK1
        obtain ⟨up, a, b'⟩ := j
        simp only at e0 e1 e2 hia
        clear hj
        obtain ⟨a0, a1⟩ := hia
        obtain ⟨A, rfl⟩ : ∃ A : Nat, a = A := ⟨a.toNat, by omega⟩
        have a2 : A < U.length := by omega
        obtain ⟨gu, hgu, _, _, ⟨q0, q1, q2, q3, q4, _⟩, _⟩ := HR.out.at hbel.out a2
        obtain rfl : aU = some ⟨gu, 0, none⟩ := hgu
        rw [lenJ_p] at HK1
        simp only [Int.toNat_natCast] at HK1
        obtain ⟨x, hx⟩ : ∃ x, x = un U A := ⟨_, rfl⟩
        rw [show U.getD A U6.zero = x from hx.symm] at q0 q1 q2 q3 q4
        rw [← hx] at HK1
        obtain ⟨x0, x1, x2, x3, x4, x5⟩ := x
        simp only at q0 q1 q2 q3 q4
        simp only [U6.p] at HK1
        have HLS := Lib.hid (fun u => Leng_any up ⟨x0, x1, x2, x3, x4⟩ u)
        simp only at HLS
        obtain ⟨y, hy⟩ : ∃ y, y = (if up = true then x3 else x2) := ⟨_, rfl⟩
        rw [← hy] at HLS HK1
        obtain ⟨z, hz⟩ : ∃ z, z = lonK U js k := ⟨_, rfl⟩
        rw [← hz] at HK1 ⊢
        obtain ⟨M, hM⟩ : ∃ M, (if z < y then y else z) = M := ⟨_, rfl⟩
        rw [← if_max, hM] at HK1
        have NB := bel0 wr (.cells #[.bool up, .int .i64 A, .int .i64 b'] 40)
        have k0 : (wr.alloc (.cells #[.bool up, .int .i64 A, .int .i64 b'] 40)).cell? ⟨wr.heap.size, 0, none⟩ = some (.bool up) := by simp
        have s0 := kept NB q0
        have s1 := kept NB q1
        have s2 := kept NB q2
        have s3 := kept NB q3
        have s4 := kept NB q4
        have HBN := Lib.hid (bel_n hbel.out (Nat.le_refl _) (.cells #[.bool up, .int .i64 A, .int .i64 b'] 40))
        clear hx hy hz a0 a1 hbel NB q0 q1 q2 q3 q4
        go_wp2_with fail
        go_region_law (first
          | (go_simp; go_at_call 44; refine (args_eqL (HLS.out _) (by with_reducible rfl)).mono ?_; rintro e y' ⟨rfl, hb⟩; have HBY := Lib.hid (bel_c (bel_dr9 HBN.out) (Nat.le_refl _) hb); clear hb))
        all_goals
          go_wp2_with fail
          go_roundw
          case rel => exact ⟨k + 1, by omega, by go_num, by rw [HK1.out], HBY⟩
          case measure => simp [intOf] <;> omega
      · obtain rfl : k = js.length := by omega
        have HBZ := Lib.hid (bel_c HB2.out (Nat.le_refl _) hbel.out)
        clear hbel
        go_wp2_with fail
        go_ret
        exact ⟨rfl, HBZ.out⟩
  · rw [show areJ m n xs js = false by simpa using h0] at CA
    have HE := Lib.hid (lon_no (show areJ m n xs js = false by simpa using h0))
    rw [← HE.out]
    clear HE h0
    go_enter Try.func16, Try.ntmps16
    go_wp2_with fail
    refine (args_eqL (CA.out _ HB0.out) (by with_reducible rfl)).mono ?_
    rintro e w1 ⟨rfl, hb1⟩
    have HB1 := Lib.hid (bel_c HB0.out (Nat.le_refl _) hb1)
    clear hb1 HB0 CA
    go_wp2_with fail
    go_ret
    exact ⟨rfl, HB1.out⟩


set_option maxHeartbeats 3200000 in
set_option maxRecDepth 20000 in
theorem SpecLongest_any (lo hi : Nat) (m n : Int) (v : Value) (xs : List P5) (lo2 hi2 : Nat) (v2 : Value) (js : List J3) (w : World) (r : PatIn lo hi w v xs) (hhi : hi ≤ w.heap.size) (r2 : JnIn lo2 hi2 w v2 js) (hhi2 : hi2 ≤ w.heap.size) :
    Calls Try.prog 31 #[.agg #[.int .i64 m, .int .i64 n, v], v2] w fun e w' => e = .returned (.int .i64 (lonJ m n xs js)) ∧ Below w.heap.size w w' := by
  obtain ⟨b, cap, rfl⟩ := r.form
  obtain ⟨b2, cap2, rfl⟩ := r2.form
  have hl := r.1
  have hl2 := r2.1
  have CU0 : Hid (layB m n xs = true → ∀ u : World, Below w.heap.size w u → Calls Try.prog 51 #[.agg #[.int .i64 m, .int .i64 n, .slice b xs.length cap], .slice b2 js.length cap2] u (FreshPat ((unL m n xs js).map U6.p) u)) := Lib.hid (fun h u hb => by rw [unL_yes h]; exact SpecBoxes_any lo hi m n _ xs lo2 hi2 _ js (lay_of h) u (r.below (hb.mono hhi)) (Nat.le_trans hhi hb.size) (r2.below (hb.mono hhi2)) (Nat.le_trans hhi2 hb.size))
  have R2 := Lib.hid r2
  have CA : Hid (∀ u : World, Below w.heap.size w u → Calls Try.prog 29 #[.agg #[.int .i64 m, .int .i64 n, .slice b xs.length cap], .slice b2 js.length cap2] u fun e w' => e = .returned (.bool (areJ m n xs js)) ∧ Below u.heap.size u w') := Lib.hid (fun u hb => SpecAreJoins_any lo hi m n _ xs lo2 hi2 _ js u (r.below (hb.mono hhi)) (Nat.le_trans hhi hb.size) (r2.below (hb.mono hhi2)) (Nat.le_trans hhi2 hb.size))
  have HB0 : Hid (Below w.heap.size w (w.alloc (.cells #[.int .i64 m, .int .i64 n, .slice b xs.length cap] 26))) := Lib.hid (bel0 w _)
  clear r r2
  by_cases h0 : areJ m n xs js = true
  · rw [h0] at CA
    have CU := Lib.hid (CU0.out (are_lay h0))
    clear CU0
    have HE := Lib.hid (lon_yes h0)
    have HIN : Hid (∀ k, k < js.length → InU (unL m n xs js).length (jn js k).a) := Lib.hid (fun k hk => are_in h0 hk)
    have hu24 := unL_len (m := m) (n := n) (xs := xs) (js := js)
    clear h0
    rw [← HE.out]
    clear HE
    generalize unL m n xs js = U at CU HIN hu24
    go_enter Try.func31, Try.ntmps31
    go_wp2_with fail
    refine (args_eqL (CA.out _ HB0.out) (by with_reducible rfl)).mono ?_
    rintro e w1 ⟨rfl, hb1⟩
    have a0 := kept (p := ⟨w.heap.size, 0, none⟩) (x := .int .i64 m) hb1 (by go_simp)
    have a1 := kept (p := ⟨w.heap.size, 1, none⟩) (x := .int .i64 n) hb1 (by go_simp)
    have a2 := kept (p := ⟨w.heap.size, 2, none⟩) (x := .slice b xs.length cap) hb1 (by go_simp)
    have HB1 := Lib.hid (bel_c HB0.out (Nat.le_refl _) hb1)
    clear hb1 HB0 CA
    go_wp2_with fail
    refine (args_eqL (CU.out _ HB1.out) (by with_reducible rfl)).mono ?_
    rintro e w2 ⟨vU, rfl, RU, hb2⟩
    obtain ⟨aU, cU, hvU⟩ := RU.form
    rw [List.length_map] at hvU
    subst hvU
    have HR := Lib.hid RU
    have HB2 := Lib.hid (bel_c HB1.out (Nat.le_refl _) hb2)
    clear hb2 HB1 CU RU a0 a1 a2
    go_wp2_with fail
    go_loopw [6, 7] (fun q i wr => ∃ k : Nat, k ≤ js.length ∧ i = .int .i64 k ∧ q = .int .i64 (lonK U js k) ∧ Hid (Below w2.heap.size w2 wr)) (fun _ i _ => js.length - (intOf i).toNat)
    case atStart => exact ⟨0, Nat.zero_le _, rfl, rfl, Lib.hid (Below.refl _ _)⟩
    case round =>
      obtain ⟨k, hk, rfl, rfl, hbel⟩ := hrel
      by_cases hlt : k < js.length
      · obtain ⟨g, rfl, hg, hg1, ⟨e0, e1, e2⟩, _⟩ := R2.out.at ((bel_c HB2.out (Nat.le_refl _) hbel.out).mono hhi2) hlt
        have hia := HIN.out k hlt
        have HK1 : Hid (lonK U js (k + 1) = max (lonK U js k) (lenJ U (jn js k))) := Lib.hid rfl
        obtain ⟨j, hj⟩ : ∃ j, j = jn js k := ⟨_, rfl⟩
        rw [show js.getD k J3.zero = j from hj.symm] at e0 e1 e2
        rw [show jn js k = j from hj.symm] at hia HK1
        obtain ⟨up, a, b'⟩ := j
        simp only at e0 e1 e2 hia
        clear hj
        obtain ⟨a0, a1⟩ := hia
        obtain ⟨A, rfl⟩ : ∃ A : Nat, a = A := ⟨a.toNat, by omega⟩
        have a2 : A < U.length := by omega
        obtain ⟨gu, hgu, _, _, ⟨q0, q1, q2, q3, q4⟩, _⟩ := HR.out.at hbel.out (i := A) (by simpa using a2)
        obtain rfl : aU = some ⟨gu, 0, none⟩ := hgu
        rw [lenJ_p] at HK1
        simp only [Int.toNat_natCast] at HK1
        obtain ⟨x, hx⟩ : ∃ x, x = (un U A).p := ⟨_, rfl⟩
        rw [show (U.map U6.p).getD A P5.zero = x from (pat_map a2).trans hx.symm] at q0 q1 q2 q3 q4
        rw [← hx] at HK1
        obtain ⟨x0, x1, x2, x3, x4⟩ := x
        simp only at q0 q1 q2 q3 q4
        obtain ⟨z, hz⟩ : ∃ z, z = lonK U js k := ⟨_, rfl⟩
        rw [← hz] at HK1 ⊢
        clear hx hz a0
        cases up
        · obtain ⟨M, hM⟩ : ∃ M, (if z < x2 then x2 else z) = M := ⟨_, rfl⟩
          have HK2 : Hid (lonK U js (k + 1) = M) := Lib.hid (by rw [HK1.out, ← hM, if_max]; simp)
          clear HK1
          go_wp2_with fail
          go_roundw
          case rel => exact ⟨k + 1, by omega, by go_num, by rw [HK2.out], hbel⟩
          case measure => simp [intOf] <;> omega
        · obtain ⟨M, hM⟩ : ∃ M, (if z < x3 then x3 else z) = M := ⟨_, rfl⟩
          have HK2 : Hid (lonK U js (k + 1) = M) := Lib.hid (by rw [HK1.out, ← hM, if_max]; simp)
          clear HK1
          go_wp2_with fail
          go_roundw
          case rel => exact ⟨k + 1, by omega, by go_num, by rw [HK2.out], hbel⟩
          case measure => simp [intOf] <;> omega
      · obtain rfl : k = js.length := by omega
        have HBZ := Lib.hid (bel_c HB2.out (Nat.le_refl _) hbel.out)
        clear hbel
        go_wp2_with fail
        go_ret
        exact ⟨rfl, HBZ.out⟩
  · rw [show areJ m n xs js = false by simpa using h0] at CA
    have HE := Lib.hid (lon_no (show areJ m n xs js = false by simpa using h0))
    rw [← HE.out]
    clear HE h0
    go_enter Try.func31, Try.ntmps31
    go_wp2_with fail
    refine (args_eqL (CA.out _ HB0.out) (by with_reducible rfl)).mono ?_
    rintro e w1 ⟨rfl, hb1⟩
    have HB1 := Lib.hid (bel_c HB0.out (Nat.le_refl _) hb1)
    clear hb1 HB0 CA
    go_wp2_with fail
    go_ret
    exact ⟨rfl, HB1.out⟩


end Go.Proofs.Ytboahceibeeifaa
