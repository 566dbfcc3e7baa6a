/- Cuts: the program's exported functions. -/
import Derived.Test.YtakjgnkkeefgbaaCutIk
import Derived.Test.YtakjgnkkeefgbaaCutP
namespace Go.Proofs.Ytakjgnkkeefgbaa
open Go.ChangeShapes Go.WideShapes Go.ChangeAt Go.RowKit

set_option maxHeartbeats 3200000 in
set_option maxRecDepth 20000 in
theorem ImplIsCut_any (lo hi : Nat) (m n : Int) (v : Value) (xs : List P5) (up : Bool) (a : Int) (wf : ∀ c ∈ xs, c.Wf) (w : World) (r : PatIn lo hi w v xs) (hhi : hi ≤ w.heap.size) :
    Calls Try.prog 19 #[.agg #[.int .i64 m, .int .i64 n, v], .agg #[.bool up, .int .i64 a]] w fun e w' => e = .returned (.bool (cutB m n xs ⟨up, a⟩)) ∧ Below w.heap.size w w' := by
  obtain ⟨b, cap, rfl⟩ := r.form
  have R := Lib.hid r
  have hl := r.1
  have HR : Hid (∀ u : World, Below w.heap.size w u → PatIn lo hi u (.slice b xs.length cap) xs ∧ hi ≤ u.heap.size) := Lib.hid (fun u hb => ⟨r.below (hb.mono hhi), Nat.le_trans hhi hb.size⟩)
  have LK : Hid (∀ u : World, Below w.heap.size w u → Calls Try.prog 38 #[.agg #[.int .i64 m, .int .i64 n, .slice b xs.length cap]] u fun e w' => e = .returned (.bool (layB m n xs)) ∧ Below u.heap.size u w') := Lib.hid (fun u hb => ImplLayoutOk_any lo hi m n _ xs u (HR.out u hb).1 (HR.out u hb).2 wf)
  clear r wf
  have HB0 : Hid (Below w.heap.size w ((w.alloc (.cells #[.int .i64 m, .int .i64 n, .slice b xs.length cap] 26)).alloc (.cells #[.bool up, .int .i64 a] 38))) := Lib.hid (bel_n (bel0 w _) (Nat.le_refl _) _)
  by_cases h : layB m n xs = false
  · have HH := Lib.hid (cut_no_lay (c := ⟨up, a⟩) h)
    rw [h] at LK
    clear h
    go_enter Try.func19, Try.ntmps19
    go_wp2_with fail
    refine (LK.out _ HB0.out).mono ?_
    rintro e w1 ⟨rfl, hb1⟩
    have HBZ := Lib.hid (bel_c HB0.out (Nat.le_refl _) hb1)
    clear hb1
    go_wp2_with fail
    go_ret
    exact ⟨ret_bool HH.out, HBZ.out⟩
  · have h' : layB m n xs = true := by simpa using h
    have HH := Lib.hid (cut_lay (c := ⟨up, a⟩) h')
    have HC : Hid (∀ u : World, Below w.heap.size w u → Calls Try.prog 43 #[.agg #[.int .i64 m, .int .i64 n, .slice b xs.length cap], .agg #[.bool up, .int .i64 a]] u fun e w' => e = .returned (.bool (hasC m n xs ⟨up, a⟩)) ∧ Below u.heap.size u w') := Lib.hid (fun u hb => HasCut_any lo hi m n _ xs up a u (HR.out u hb).1 (HR.out u hb).2 (lay_of h'))
    rw [h'] at LK
    obtain ⟨z, hz⟩ : ∃ z, z = hasC m n xs ⟨up, a⟩ := ⟨_, rfl⟩
    rw [← hz] at HC HH
    clear h h' hz
    go_enter Try.func19, Try.ntmps19
    go_wp2_with fail
    refine (LK.out _ HB0.out).mono ?_
    rintro e w1 ⟨rfl, hb1⟩
    have HB1 := Lib.hid (bel_c HB0.out (Nat.le_refl _) hb1)
    have b0 := kept (p := ⟨w.heap.size, 0, none⟩) (x := .int .i64 m) hb1 (by go_simp)
    have b1 := kept (p := ⟨w.heap.size, 1, none⟩) (x := .int .i64 n) hb1 (by go_simp)
    have b2 := kept (p := ⟨w.heap.size, 2, none⟩) (x := .slice b xs.length cap) hb1 (by go_simp)
    have b3 := kept (p := ⟨w.heap.size + 1, 0, none⟩) (x := .bool up) hb1 (by go_simp)
    have b4 := kept (p := ⟨w.heap.size + 1, 1, none⟩) (x := .int .i64 a) hb1 (by go_simp)
    clear hb1
    go_wp2_with fail
    refine (HC.out _ HB1.out).mono ?_
    rintro e w2 ⟨rfl, hb2⟩
    have HBZ := Lib.hid (bel_c HB1.out (Nat.le_refl _) hb2)
    clear hb2
    go_wp2_with fail
    go_ret
    exact ⟨ret_bool HH.out, HBZ.out⟩
set_option maxHeartbeats 3200000 in
set_option maxRecDepth 20000 in
theorem ImplCutsOf_any (lo hi : Nat) (m n : Int) (v : Value) (xs : List P5) (wf : ∀ c ∈ xs, c.Wf) (w : World) (r : PatIn lo hi w v xs) (hhi : hi ≤ w.heap.size) :
    Calls Try.prog 13 #[.agg #[.int .i64 m, .int .i64 n, v]] w (FreshCut (cutsB m n xs) w) := by
  obtain ⟨b, cap, rfl⟩ := r.form
  have R := Lib.hid r
  have hl := r.1
  have HR : Hid (∀ u : World, Below w.heap.size w u → PatIn lo hi u (.slice b xs.length cap) xs ∧ hi ≤ u.heap.size) := Lib.hid (fun u hb => ⟨r.below (hb.mono hhi), Nat.le_trans hhi hb.size⟩)
  have LK : Hid (∀ u : World, Below w.heap.size w u → Calls Try.prog 38 #[.agg #[.int .i64 m, .int .i64 n, .slice b xs.length cap]] u fun e w' => e = .returned (.bool (layB m n xs)) ∧ Below u.heap.size u w') := Lib.hid (fun u hb => ImplLayoutOk_any lo hi m n _ xs u (HR.out u hb).1 (HR.out u hb).2 wf)
  clear r wf
  have HB0 : Hid (Below w.heap.size w (w.alloc (.cells #[.int .i64 m, .int .i64 n, .slice b xs.length cap] 26))) := Lib.hid (bel0 w _)
  by_cases h : layB m n xs = false
  · rw [cuts_no h]
    rw [h] at LK
    clear h
    go_enter Try.func13, Try.ntmps13
    go_wp2_with fail
    refine (LK.out _ HB0.out).mono ?_
    rintro e w1 ⟨rfl, hb1⟩
    have HBZ := Lib.hid (bel_c HB0.out (Nat.le_refl _) hb1)
    clear hb1
    go_wp2_with fail
    go_ret
    exact ⟨_, rfl, ⟨by simp, .inl ⟨rfl, _, _, rfl⟩⟩, HBZ.out⟩
  · have h' : layB m n xs = true := by simpa using h
    rw [cuts_yes h']
    have HC : Hid (∀ u : World, Below w.heap.size w u → Calls Try.prog 40 #[.agg #[.int .i64 m, .int .i64 n, .slice b xs.length cap]] u (FreshCut (cutsL m n xs) u)) := Lib.hid (fun u hb => Cuts_any lo hi m n _ xs u (HR.out u hb).1 (HR.out u hb).2 (lay_of h'))
    rw [h'] at LK
    clear h h'
    go_enter Try.func13, Try.ntmps13
    go_wp2_with fail
    refine (LK.out _ HB0.out).mono ?_
    rintro e w1 ⟨rfl, hb1⟩
    have HB1 := Lib.hid (bel_c HB0.out (Nat.le_refl _) hb1)
    have b0 := kept (p := ⟨w.heap.size, 0, none⟩) (x := .int .i64 m) hb1 (by go_simp)
    have b1 := kept (p := ⟨w.heap.size, 1, none⟩) (x := .int .i64 n) hb1 (by go_simp)
    have b2 := kept (p := ⟨w.heap.size, 2, none⟩) (x := .slice b xs.length cap) hb1 (by go_simp)
    clear hb1
    go_wp2_with fail
    refine (HC.out _ HB1.out).mono ?_
    rintro e w2 ⟨v, rfl, RC, hb2⟩
    have HBZ := Lib.hid (bel_c HB1.out (Nat.le_refl _) hb2)
    have RC0 := Lib.hid (RC.wide HB1.out.size (Nat.le_refl _))
    clear hb2 RC
    go_wp2_with fail
    go_ret
    exact ⟨_, rfl, RC0.out, HBZ.out⟩
set_option maxHeartbeats 3200000 in
set_option maxRecDepth 20000 in
theorem ImplCanSew_any (lo hi : Nat) (m n : Int) (v : Value) (xs : List P5) (wf : ∀ c ∈ xs, c.Wf) (w : World) (r : PatIn lo hi w v xs) (hhi : hi ≤ w.heap.size) (hlo : lo ≤ w.heap.size) :
    Calls Try.prog 12 #[.agg #[.int .i64 m, .int .i64 n, v]] w fun e w' => e = .returned (.bool (sewB m n xs)) ∧ Below w.heap.size w w' := by
  obtain ⟨b, cap, rfl⟩ := r.form
  have R := Lib.hid r
  have hl := r.1
  have HR : Hid (∀ u : World, Below w.heap.size w u → PatIn lo hi u (.slice b xs.length cap) xs ∧ hi ≤ u.heap.size) := Lib.hid (fun u hb => ⟨r.below (hb.mono hhi), Nat.le_trans hhi hb.size⟩)
  have LK : Hid (∀ u : World, Below w.heap.size w u → Calls Try.prog 38 #[.agg #[.int .i64 m, .int .i64 n, .slice b xs.length cap]] u fun e w' => e = .returned (.bool (layB m n xs)) ∧ Below u.heap.size u w') := Lib.hid (fun u hb => ImplLayoutOk_any lo hi m n _ xs u (HR.out u hb).1 (HR.out u hb).2 wf)
  clear r wf
  have HB0 : Hid (Below w.heap.size w (w.alloc (.cells #[.int .i64 m, .int .i64 n, .slice b xs.length cap] 26))) := Lib.hid (bel0 w _)
  by_cases h : layB m n xs = false
  · have HH := Lib.hid (sew_no_lay h)
    rw [h] at LK
    clear h
    go_enter Try.func12, Try.ntmps12
    go_wp2_with fail
    refine (LK.out _ HB0.out).mono ?_
    rintro e w1 ⟨rfl, hb1⟩
    have HBZ := Lib.hid (bel_c HB0.out (Nat.le_refl _) hb1)
    clear hb1
    go_wp2_with fail
    go_ret
    exact ⟨ret_bool HH.out, HBZ.out⟩
  · have h' : layB m n xs = true := by simpa using h
    have HH := Lib.hid (sew_lay h')
    obtain ⟨q, hq⟩ : ∃ q, q = knotR m n xs := ⟨_, rfl⟩
    have HK : Hid (∀ u : World, Below w.heap.size w u → Calls Try.prog 39 #[.agg #[.int .i64 m, .int .i64 n, .slice b xs.length cap]] u (KnotV (kM q) (kN q) (kX q) q.isSome lo u)) := Lib.hid (fun u hb => by rw [hq]; exact Knot_any (knotR_is h') lo hi _ u (HR.out u hb).1 (HR.out u hb).2 (Nat.le_trans hlo hb.size))
    rw [← hq] at HH
    rw [h'] at LK
    obtain ⟨M, hM⟩ : ∃ M, M = kM q := ⟨_, rfl⟩
    obtain ⟨N, hN⟩ : ∃ N, N = kN q := ⟨_, rfl⟩
    obtain ⟨X, hX⟩ : ∃ X, X = kX q := ⟨_, rfl⟩
    obtain ⟨z, hz⟩ : ∃ z, z = q.isSome := ⟨_, rfl⟩
    rw [← hM, ← hN, ← hX, ← hz] at HK
    have HZ : Hid ((!z) = sewB m n xs) := Lib.hid (by rw [hz, ← HH.out]; cases q <;> rfl)
    clear h h' hM hN hX hz hq HH
    go_enter Try.func12, Try.ntmps12
    go_wp2_with fail
    refine (LK.out _ HB0.out).mono ?_
    rintro e w1 ⟨rfl, hb1⟩
    have HB1 := Lib.hid (bel_c HB0.out (Nat.le_refl _) hb1)
    have b0 := kept (p := ⟨w.heap.size, 0, none⟩) (x := .int .i64 m) hb1 (by go_simp)
    have b1 := kept (p := ⟨w.heap.size, 1, none⟩) (x := .int .i64 n) hb1 (by go_simp)
    have b2 := kept (p := ⟨w.heap.size, 2, none⟩) (x := .slice b xs.length cap) hb1 (by go_simp)
    clear hb1
    go_wp2_with fail
    refine (HK.out _ HB1.out).mono ?_
    rintro e w2 ⟨v, rfl, RC, hb2⟩
    obtain ⟨aK, cK, rfl⟩ := RC.form
    have HBZ := Lib.hid (bel_n (bel_c HB1.out (Nat.le_refl _) hb2) (Nat.le_refl _) (.cells #[.int .i64 M, .int .i64 N, .slice aK X.length cK] 26))
    clear hb2 RC
    go_wp2_with fail
    go_ret
    exact ⟨ret_bool HZ.out, HBZ.out⟩
set_option maxHeartbeats 3200000 in
set_option maxRecDepth 20000 in
theorem ImplCountSeams_any (lo hi : Nat) (m n : Int) (v : Value) (xs : List P5) (wf : ∀ c ∈ xs, c.Wf) (w : World) (r : PatIn lo hi w v xs) (hhi : hi ≤ w.heap.size) (hlo : lo ≤ w.heap.size) :
    Calls Try.prog 16 #[.agg #[.int .i64 m, .int .i64 n, v]] w fun e w' => e = .returned (.int .i64 (seamsB m n xs)) ∧ Below w.heap.size w w' := by
  obtain ⟨b, cap, rfl⟩ := r.form
  have R := Lib.hid r
  have hl := r.1
  have HR : Hid (∀ u : World, Below w.heap.size w u → PatIn lo hi u (.slice b xs.length cap) xs ∧ hi ≤ u.heap.size) := Lib.hid (fun u hb => ⟨r.below (hb.mono hhi), Nat.le_trans hhi hb.size⟩)
  have SK : Hid (∀ u : World, Below w.heap.size w u → Calls Try.prog 12 #[.agg #[.int .i64 m, .int .i64 n, .slice b xs.length cap]] u fun e w' => e = .returned (.bool (sewB m n xs)) ∧ Below u.heap.size u w') := Lib.hid (fun u hb => ImplCanSew_any lo hi m n _ xs wf u (HR.out u hb).1 (HR.out u hb).2 (Nat.le_trans hlo hb.size))
  clear r wf
  have HB0 : Hid (Below w.heap.size w (w.alloc (.cells #[.int .i64 m, .int .i64 n, .slice b xs.length cap] 26))) := Lib.hid (bel0 w _)
  by_cases h : sewB m n xs = false
  · have HH := Lib.hid (seams_no h)
    rw [h] at SK
    clear h
    go_enter Try.func16, Try.ntmps16
    go_wp2_with fail
    refine (SK.out _ HB0.out).mono ?_
    rintro e w1 ⟨rfl, hb1⟩
    have HBZ := Lib.hid (bel_c HB0.out (Nat.le_refl _) hb1)
    clear hb1
    go_wp2_with fail
    go_ret
    exact ⟨ret_int HH.out, HBZ.out⟩
  · have h' : sewB m n xs = true := by simpa using h
    have HH := Lib.hid (seams_yes h')
    rw [h'] at SK
    clear h h'
    go_enter Try.func16, Try.ntmps16
    go_wp2_with fail
    refine (SK.out _ HB0.out).mono ?_
    rintro e w1 ⟨rfl, hb1⟩
    have HB1 := Lib.hid (bel_c HB0.out (Nat.le_refl _) hb1)
    have b0 := kept (p := ⟨w.heap.size, 0, none⟩) (x := .int .i64 m) hb1 (by go_simp)
    have b1 := kept (p := ⟨w.heap.size, 1, none⟩) (x := .int .i64 n) hb1 (by go_simp)
    have b2 := kept (p := ⟨w.heap.size, 2, none⟩) (x := .slice b xs.length cap) hb1 (by go_simp)
    clear hb1
    go_wp2_with fail
    go_ret
    exact ⟨ret_int HH.out, HB1.out⟩
set_option maxHeartbeats 3200000 in
set_option maxRecDepth 20000 in
theorem ImplFirstKnot_any (lo hi : Nat) (m n : Int) (v : Value) (xs : List P5) (wf : ∀ c ∈ xs, c.Wf) (w : World) (r : PatIn lo hi w v xs) (hhi : hi ≤ w.heap.size) :
    Calls Try.prog 14 #[.agg #[.int .i64 m, .int .i64 n, v]] w (KnotW (kM (knotR m n xs)) (kN (knotR m n xs)) (kX (knotR m n xs)) (knotR m n xs).isSome w) := by
  obtain ⟨b, cap, rfl⟩ := r.form
  have R := Lib.hid r
  have hl := r.1
  have HR : Hid (∀ u : World, Below w.heap.size w u → PatIn lo hi u (.slice b xs.length cap) xs ∧ hi ≤ u.heap.size) := Lib.hid (fun u hb => ⟨r.below (hb.mono hhi), Nat.le_trans hhi hb.size⟩)
  have LK : Hid (∀ u : World, Below w.heap.size w u → Calls Try.prog 38 #[.agg #[.int .i64 m, .int .i64 n, .slice b xs.length cap]] u fun e w' => e = .returned (.bool (layB m n xs)) ∧ Below u.heap.size u w') := Lib.hid (fun u hb => ImplLayoutOk_any lo hi m n _ xs u (HR.out u hb).1 (HR.out u hb).2 wf)
  clear r wf
  have HB0 : Hid (Below w.heap.size w ((w.alloc (.cells #[.int .i64 m, .int .i64 n, .slice b xs.length cap] 26)).alloc (.cells #[.int .i64 0, .int .i64 0, .slice none 0 0] 26))) := Lib.hid (bel_n (bel0 w _) (Nat.le_refl _) _)
  by_cases h : layB m n xs = false
  · rw [knotR_no h]
    show Calls _ _ _ _ (KnotW 0 0 [] false w)
    rw [h] at LK
    clear h
    go_enter Try.func14, Try.ntmps14
    go_wp2_with fail
    refine (LK.out _ HB0.out).mono ?_
    rintro e w1 ⟨rfl, hb1⟩
    have BRA : BoxL (w.heap.size + 1) (.int .i64 0) (.int .i64 0) (.slice none 0 0) w1 := by
      have := BoxL.new (w.alloc (.cells #[.int .i64 m, .int .i64 n, .slice b xs.length cap] 26)) (.int .i64 0) (.int .i64 0) (.slice none 0 0) 26
      rw [show (w.alloc (.cells #[.int .i64 m, .int .i64 n, .slice b xs.length cap] 26)).heap.size = w.heap.size + 1 by simp] at this
      exact this.below hb1 (by simp)
    obtain ⟨d0, d1, d2, z0, z1, z2⟩ := BRA
    have HBZ := Lib.hid (bel_c HB0.out (Nat.le_refl _) hb1)
    have hs1 := hb1.size
    simp at hs1
    clear hb1
    go_wp2_with fail
    refine bodyPost_ret (v := .tuple #[.agg #[.int .i64 0, .int .i64 0, .slice none 0 0], .bool false]) (by simp [results, Try.results14, go_sem, d0, d1, d2]) rfl ⟨_, rfl, ⟨by simp, .inl ⟨rfl, _, _, rfl⟩⟩, ?_⟩
    refine Below.setCell (Below.setCell (Below.setCell HBZ.out ?_ _) ?_ _) ?_ _ <;> (simp <;> omega)
  · have h' : layB m n xs = true := by simpa using h
    have lay := lay_of h'
    obtain ⟨q, hq⟩ : ∃ q, q = knotR m n xs := ⟨_, rfl⟩
    rw [← hq]
    have HK : Hid (∀ (lo hi : Nat) (v : Value) (u : World), PatIn lo hi u v xs → hi ≤ u.heap.size → lo ≤ u.heap.size → Calls Try.prog 39 #[.agg #[.int .i64 m, .int .i64 n, v]] u (KnotV (kM q) (kN q) (kX q) q.isSome lo u)) := Lib.hid (by rw [hq]; exact Knot_any (knotR_is h'))
    obtain ⟨M, hM⟩ : ∃ M, M = kM q := ⟨_, rfl⟩
    obtain ⟨N, hN⟩ : ∃ N, N = kN q := ⟨_, rfl⟩
    obtain ⟨X, hX⟩ : ∃ X, X = kX q := ⟨_, rfl⟩
    obtain ⟨z, hz⟩ : ∃ z, z = q.isSome := ⟨_, rfl⟩
    rw [← hM, ← hN, ← hX, ← hz] at HK ⊢
    have PA : Hid (∀ u : World, Below w.heap.size w u → Calls Try.prog 41 #[.agg #[.int .i64 m, .int .i64 n, .slice b xs.length cap], .int .i64 0, .int .i64 0, .int .i64 m, .int .i64 n] u (PartIs m n 0 0 xs u)) := Lib.hid (fun u hb => PartAt_any lo hi m n _ xs 0 0 m n u (HR.out u hb).1 (HR.out u hb).2 lay lay.1.1 lay.1.2 lay.2.1.1 lay.2.1.2 (by omega) (by omega) (by omega) (by omega))
    have RS := Lib.hid (restr_all lay)
    rw [h'] at LK
    clear h h' hM hN hX hz hq lay
    go_enter Try.func14, Try.ntmps14
    go_wp2_with fail
    refine (LK.out _ HB0.out).mono ?_
    rintro e w1 ⟨rfl, hb1⟩
    have HB1 := Lib.hid (bel_c HB0.out (Nat.le_refl _) hb1)
    have b0 := kept (p := ⟨w.heap.size, 0, none⟩) (x := .int .i64 m) hb1 (by go_simp)
    have b1 := kept (p := ⟨w.heap.size, 1, none⟩) (x := .int .i64 n) hb1 (by go_simp)
    have b2 := kept (p := ⟨w.heap.size, 2, none⟩) (x := .slice b xs.length cap) hb1 (by go_simp)
    have BRA : BoxL (w.heap.size + 1) (.int .i64 0) (.int .i64 0) (.slice none 0 0) w1 := by
      have := BoxL.new (w.alloc (.cells #[.int .i64 m, .int .i64 n, .slice b xs.length cap] 26)) (.int .i64 0) (.int .i64 0) (.slice none 0 0) 26
      rw [show (w.alloc (.cells #[.int .i64 m, .int .i64 n, .slice b xs.length cap] 26)).heap.size = w.heap.size + 1 by simp] at this
      exact this.below hb1 (by simp)
    obtain ⟨d0, d1, d2, z0, z1, z2⟩ := BRA
    have hs1 := hb1.size
    simp at hs1
    have BR : BoxL (w.heap.size + 1) (.int .i64 0) (.int .i64 0) (.slice none 0 0) w1 := ⟨d0, d1, d2, z0, z1, z2⟩
    have BR0 := Lib.hid BR
    clear hb1 d0 d1 d2 z0 z1 z2 BR
    go_wp2_with fail
    refine (PA.out _ HB1.out).mono ?_
    rintro e w2 ⟨v, rfl, RC, hb2⟩
    rw [RS.out] at RC
    obtain ⟨aP, cP, rfl⟩ := RC.form
    have RC0 := Lib.hid RC
    have BR2 := Lib.hid (BR0.out.below hb2 BR0.out.lt)
    have HB2 := Lib.hid (bel_c HB1.out (Nat.le_refl _) hb2)
    have hs2 := hb2.size
    have xf : ∀ u : World, (Instr.field 60 (.agg #[.int .i64 m, .int .i64 n, .slice aP xs.length cP, .int .i64 0, .int .i64 0]) 0).run Try.prog u = .ok (.agg #[.int .i64 m, .int .i64 n, .slice aP xs.length cP]) u := fun _ => by kernel_rfl
    clear hb2 RC BR0
    go_wp2_with fail
    refine (HK.out w1.heap.size w2.heap.size _ w2 RC0.out (Nat.le_refl _) hs2).mono ?_
    rintro e w3 ⟨v, rfl, RK, hb3⟩
    obtain ⟨aK, cK, rfl⟩ := RK.form
    have RK0 := Lib.hid RK
    have BR3 := Lib.hid (BR2.out.below hb3 BR2.out.lt)
    obtain ⟨d0, d1, d2, z0, z1, z2⟩ := BR3.out
    have HB3 := Lib.hid (bel_c HB2.out (Nat.le_refl _) hb3)
    have hs3 := hb3.size
    clear hb3 RK BR2
    go_wp2_with fail
    refine bodyPost_ret (v := .tuple #[.agg #[.int .i64 M, .int .i64 N, .slice aK X.length cK], .bool z]) (by simp [results, Try.results14, go_sem, d0, d1, d2]) rfl ⟨_, rfl, ?_, ?_⟩
    · refine PatIn.wide (lo := w1.heap.size) (hi := w3.heap.size) (PatIn.set_far (PatIn.set_far (PatIn.set_far RK0.out ?_ _) ?_ _) ?_ _) ?_ ?_
      all_goals first | omega | (simp [World.setCell] <;> omega)
    · refine Below.setCell (Below.setCell (Below.setCell HB3.out ?_ _) ?_ _) ?_ _ <;> (simp <;> omega)

end Go.Proofs.Ytakjgnkkeefgbaa
