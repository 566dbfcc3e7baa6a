/- Cuts: the model's FirstKnot. -/
import Derived.Test.YtakjgnkkeefgbaaCutSd
import Derived.Deep.RegionHeld3
import Derived.Deep.DeepCutAuto
import Derived.Deep.AppendLies
namespace Go.Proofs.Ytakjgnkkeefgbaa
open Go.ChangeShapes Go.WideShapes Go.ChangeAt Go.RowKit

theorem placesPat_one (xs : List P5) : ∀ u ∈ placesPat xs, u.oneCell' = true := by
  intro u hu
  simp only [placesPat, List.mem_flatMap] at hu
  obtain ⟨c, _, hc⟩ := hu
  simp only [List.mem_cons, List.not_mem_nil, or_false] at hc
  rcases hc with rfl | rfl | rfl | rfl | rfl <;> rfl
/-- The places of a row that is not empty, read one by one. -/
theorem PatIn.news {lo hi : Nat} {w : World} {a : Option Addr} {n cap : Nat} {xs : List P5} (h : PatIn lo hi w (.slice a n cap) xs) (h0 : 0 < xs.length) :
    ∃ g, a = some ⟨g, 0, none⟩ ∧ lo ≤ g ∧ g < hi ∧ ∀ w', Below hi w w' → ∀ (j : Nat) u, (placesPat xs)[j]? = some u → w'.cell? ((⟨g, 0, none⟩ : Addr).add j) = some u := by
  obtain ⟨_, ⟨rfl, _⟩ | ⟨g, cap, hv, hcp, hg, hlt, hc⟩⟩ := h
  · simp at h0
  · simp only [Value.slice.injEq] at hv
    refine ⟨g, hv.1, hg, hlt, fun w' hb j u hu => ?_⟩
    have hj : j < xs.length * 5 := by
      rcases Nat.lt_or_ge j (xs.length * 5) with h | h
      · exact h
      · rw [List.getElem?_eq_none (by rw [placesPat_length]; exact h)] at hu; cases hu
    have ad : (⟨g, 0, none⟩ : Addr).add j = ⟨g, j, none⟩ := by cases j <;> simp [Addr.add]
    rw [ad]
    obtain ⟨k, hk⟩ : ∃ k, j = k * 5 ∨ j = k * 5 + 1 ∨ j = k * 5 + 2 ∨ j = k * 5 + 3 ∨ j = k * 5 + 4 := ⟨j / 5, by omega⟩
    have hkn : k < xs.length := by omega
    obtain ⟨p0, p1, p2, p3, p4⟩ := placesPat_at xs k hkn
    obtain ⟨e0, e1, e2, e3, e4⟩ := (hc k hkn).1.below hb hlt
    rcases hk with rfl | rfl | rfl | rfl | rfl
    · rw [e0, ← hu, p0]
    · rw [e1, ← hu, p1]
    · rw [e2, ← hu, p2]
    · rw [e3, ← hu, p3]
    · rw [e4, ← hu, p4]

set_option maxHeartbeats 6400000 in
set_option maxRecDepth 20000 in
theorem SKnot_left (lo hi : Nat) (m n : Int) (v : Value) (xs : List P5) (c : C2) (rr : List C2) (M N : Int) (X : List P5) (w : World) (r : PatIn lo hi w v xs) (hhi : hi ≤ w.heap.size) (lay : LayOk m n xs) (hl1 : xs.length ≠ 1) (hcs : cutsL m n xs = c :: rr)
    (ih : ∀ (lo hi : Nat) (v : Value) (w : World), PatIn lo hi w v (pL1 m n c xs) → hi ≤ w.heap.size → Calls Try.prog 35 #[.agg #[.int .i64 (pM1 m c), .int .i64 (pN1 n c), v]] w (KnotW M N X true w)) :
    Calls Try.prog 35 #[.agg #[.int .i64 m, .int .i64 n, v]] w (KnotW M N X true w) := by
  have hc := first_cut hcs
  obtain ⟨b, cap, rfl⟩ := r.form
  have R := Lib.hid r
  have HL := Lib.hid lay
  have HC := Lib.hid hc
  have hd : ((xs.length : Int) == 1) = false := by simp; omega
  have LK : Hid (∀ u : World, Below w.heap.size w u → Calls Try.prog 20 #[.agg #[.int .i64 m, .int .i64 n, .slice b xs.length cap]] u fun e w' => e = .returned (.bool true) ∧ Below u.heap.size u w') := Lib.hid (fun u hb => by rw [lay_yes lay]; exact SpecLayoutOk_any lo hi m n _ xs u (r.below (hb.mono hhi)) (Nat.le_trans hhi hb.size))
  have CC : Hid (∀ u : World, Below w.heap.size w u → Calls Try.prog 22 #[.agg #[.int .i64 m, .int .i64 n, .slice b xs.length cap]] u (FreshCut (c :: rr) u)) := Lib.hid (fun u hb => by rw [← hcs, ← cuts_yes (lay_yes lay).symm]; exact SpecCutsOf_any lo hi m n _ xs u (r.below (hb.mono hhi)) (Nat.le_trans hhi hb.size))
  have HB0 : Hid (Below w.heap.size w ((w.alloc (.cells #[.int .i64 m, .int .i64 n, .slice b xs.length cap] 26)).alloc (.cells #[.int .i64 0, .int .i64 0, .slice none 0 0] 26))) := Lib.hid (bel_n (bel0 w _) (Nat.le_refl _) _)
  have HIH := Lib.hid ih
  clear r lay hcs hc ih
  go_enter Try.func35, Try.ntmps35
  go_wp2_with fail
  refine (LK.out _ HB0.out).mono ?_
  rintro e w0 ⟨rfl, hb0⟩
  have a0 := kept (p := ⟨w.heap.size, 0, none⟩) (x := .int .i64 m) hb0 (by go_simp)
  have a1 := kept (p := ⟨w.heap.size, 1, none⟩) (x := .int .i64 n) hb0 (by go_simp)
  have a2 := kept (p := ⟨w.heap.size, 2, none⟩) (x := .slice b xs.length cap) hb0 (by go_simp)
  have HB00 := Lib.hid (bel_c HB0.out (Nat.le_refl _) hb0)
  have BRA : BoxL (w.heap.size + 1) (.int .i64 0) (.int .i64 0) (.slice none 0 0) w0 := by
    have := BoxL.new (w.alloc (.cells #[.int .i64 m, .int .i64 n, .slice b xs.length cap] 26)) (.int .i64 0) (.int .i64 0) (.slice none 0 0) 26
    rw [show (w.alloc (.cells #[.int .i64 m, .int .i64 n, .slice b xs.length cap] 26)).heap.size = w.heap.size + 1 by simp] at this
    exact this.below hb0 (by simp)
  have BR := Lib.hid BRA
  have hs00 := hb0.size
  simp at hs00
  clear BRA
  clear hb0
  go_wp2_with fail
  refine (CC.out _ HB00.out).mono ?_
  rintro e w1 ⟨vc, rfl, RC, hb1⟩
  obtain ⟨ac, cc, rfl⟩ := RC.form
  obtain ⟨g, rfl, hg, hg1, ⟨e0, e1⟩, _⟩ := RC.at (Below.refl _ _) (i := 0) (by simp)
  obtain ⟨up, a⟩ := c
  simp only [Nat.zero_mul, Nat.zero_add, List.getD_cons_zero] at e0 e1
  have b0 := kept hb1 a0
  have b1 := kept hb1 a1
  have b2 := kept hb1 a2
  have BR := Lib.hid (BR.out.below hb1 BR.out.lt)
  have hs1 := hb1.size
  have hs0 := HB00.out.size
  have HB1 := Lib.hid (bel_c HB00.out (Nat.le_refl _) hb1)
  clear hb1 RC a0 a1 a2 HB00 HB0
  generalize w1 = G at *
  obtain ⟨M1, hM1⟩ : ∃ M1, M1 = pM1 m ⟨up, a⟩ := ⟨_, rfl⟩
  obtain ⟨N1, hN1⟩ : ∃ N1, N1 = pN1 n ⟨up, a⟩ := ⟨_, rfl⟩
  obtain ⟨M2, hM2⟩ : ∃ M2, M2 = pM2 m ⟨up, a⟩ := ⟨_, rfl⟩
  obtain ⟨N2, hN2⟩ : ∃ N2, N2 = pN2 n ⟨up, a⟩ := ⟨_, rfl⟩
  obtain ⟨L1, hL1⟩ : ∃ L1, L1 = pL1 m n ⟨up, a⟩ xs := ⟨_, rfl⟩
  obtain ⟨L2, hL2⟩ : ∃ L2, L2 = pL2 m n ⟨up, a⟩ xs := ⟨_, rfl⟩
  have D0 : Below G.heap.size G G.drew := ⟨rfl, rfl, rfl, Nat.le_refl _, fun _ _ => rfl⟩
  have CS : Hid (∀ u : World, (u.cell? ⟨w.heap.size, 0, none⟩ = some (.int .i64 m) ∧ u.cell? ⟨w.heap.size, 1, none⟩ = some (.int .i64 n) ∧ u.cell? ⟨w.heap.size, 2, none⟩ = some (.slice b xs.length cap) ∧ u.cell? ⟨g, 0, none⟩ = some (.bool up) ∧ u.cell? ⟨g, 1, none⟩ = some (.int .i64 a) ∧ Below G.heap.size G u) → Calls Try.prog 32 #[.agg #[.int .i64 m, .int .i64 n, .slice b xs.length cap], .agg #[.bool up, .int .i64 a]] u (SplitLW M1 N1 L1 M2 N2 L2 true u)) := Lib.hid (fun u h => by
    have hu := bel_c HB1.out (Nat.le_refl _) h.2.2.2.2.2
    have hcb : cutB m n xs ⟨up, a⟩ = true := by rw [← cut_lay (lay_yes HL.out).symm]; exact HC.out
    have hsp := SpecSplitLayout_any lo hi m n _ xs up a u (R.out.below (hu.mono hhi)) (Nat.le_trans hhi hu.size)
    obtain ⟨e1, e2, e3, e4, e5, e6⟩ := s_yes hcb
    rw [e1, e2, e3, e4, e5, e6, hcb, ← hM1, ← hN1, ← hM2, ← hN2, ← hL1, ← hL2] at hsp
    exact hsp)
  have S0 : G.drew.cell? ⟨w.heap.size, 0, none⟩ = some (.int .i64 m) ∧ G.drew.cell? ⟨w.heap.size, 1, none⟩ = some (.int .i64 n) ∧ G.drew.cell? ⟨w.heap.size, 2, none⟩ = some (.slice b xs.length cap) ∧ G.drew.cell? ⟨g, 0, none⟩ = some (.bool up) ∧ G.drew.cell? ⟨g, 1, none⟩ = some (.int .i64 a) ∧ Below G.heap.size G G.drew := ⟨kept D0 b0, kept D0 b1, kept D0 b2, kept D0 e0, kept D0 e1, D0⟩
  rw [← hM1, ← hN1, ← hL1] at HIH
  clear hM1 hN1 hM2 hN2 hL1 hL2
  have KP : ∀ u v : World, Below u.heap.size u v → (u.cell? ⟨w.heap.size, 0, none⟩ = some (.int .i64 m) ∧ u.cell? ⟨w.heap.size, 1, none⟩ = some (.int .i64 n) ∧ u.cell? ⟨w.heap.size, 2, none⟩ = some (.slice b xs.length cap) ∧ u.cell? ⟨g, 0, none⟩ = some (.bool up) ∧ u.cell? ⟨g, 1, none⟩ = some (.int .i64 a) ∧ Below G.heap.size G u) → (v.cell? ⟨w.heap.size, 0, none⟩ = some (.int .i64 m) ∧ v.cell? ⟨w.heap.size, 1, none⟩ = some (.int .i64 n) ∧ v.cell? ⟨w.heap.size, 2, none⟩ = some (.slice b xs.length cap) ∧ v.cell? ⟨g, 0, none⟩ = some (.bool up) ∧ v.cell? ⟨g, 1, none⟩ = some (.int .i64 a) ∧ Below G.heap.size G v) := fun u v hb h => ⟨kept hb h.1, kept hb h.2.1, kept hb h.2.2.1, kept hb h.2.2.2.1, kept hb h.2.2.2.2.1, bel_c h.2.2.2.2.2 (Nat.le_refl _) hb⟩
  have KS : ∀ (u : World) (p : Nat) (x0 x1 x2 : Value), G.heap.size ≤ p → (u.cell? ⟨w.heap.size, 0, none⟩ = some (.int .i64 m) ∧ u.cell? ⟨w.heap.size, 1, none⟩ = some (.int .i64 n) ∧ u.cell? ⟨w.heap.size, 2, none⟩ = some (.slice b xs.length cap) ∧ u.cell? ⟨g, 0, none⟩ = some (.bool up) ∧ u.cell? ⟨g, 1, none⟩ = some (.int .i64 a) ∧ Below G.heap.size G u) → ((set3 u p x0 x1 x2).cell? ⟨w.heap.size, 0, none⟩ = some (.int .i64 m) ∧ (set3 u p x0 x1 x2).cell? ⟨w.heap.size, 1, none⟩ = some (.int .i64 n) ∧ (set3 u p x0 x1 x2).cell? ⟨w.heap.size, 2, none⟩ = some (.slice b xs.length cap) ∧ (set3 u p x0 x1 x2).cell? ⟨g, 0, none⟩ = some (.bool up) ∧ (set3 u p x0 x1 x2).cell? ⟨g, 1, none⟩ = some (.int .i64 a) ∧ Below G.heap.size G (set3 u p x0 x1 x2)) := fun u p x0 x1 x2 hp h => by
    have h1 : p ≠ w.heap.size := by omega
    have h2 : p ≠ g := by omega
    exact ⟨(set3_far h1).trans h.1, (set3_far h1).trans h.2.1, (set3_far h1).trans h.2.2.1, (set3_far h2).trans h.2.2.2.1, (set3_far h2).trans h.2.2.2.2.1, ((h.2.2.2.2.2.setCell hp _).setCell hp _).setCell hp _⟩
  have KP1 := Lib.hid KP
  have KS1 := Lib.hid KS
  clear KP KS D0
  go_upto_region 6 with fail
  go_cut [5, 6] (fun q t wx => WL G M1 N1 M2 N2 L1 L2 q t wx)
  case first =>
    (try simp only [List.append_eq, List.cons_append, List.nil_append])
    have hS := S0
    refine reg_begin (fun w' => w'.cell? ⟨w.heap.size, 0, none⟩ = some (.int .i64 m) ∧ w'.cell? ⟨w.heap.size, 1, none⟩ = some (.int .i64 n) ∧ w'.cell? ⟨w.heap.size, 2, none⟩ = some (.slice b xs.length cap) ∧ w'.cell? ⟨g, 0, none⟩ = some (.bool up) ∧ w'.cell? ⟨g, 1, none⟩ = some (.int .i64 a) ∧ Below G.heap.size G w') (by kernel_rfl) hS ?_
    refine reg_take 0 (v := ?_) rfl (by kernel_rfl) (by kernel_rfl) (by kernel_rfl) (fun _ _ _ h => h) (by rfl) (by intro w hSw; (try dsimp only at hSw); go_simp; first | done | with_reducible rfl) hS ?_
    (try simp only [Act.put, List.setIfInBounds_toArray, List.set_cons_zero, List.set_cons_succ])
    refine reg_take 1 (v := ?_) rfl (by kernel_rfl) (by kernel_rfl) (by kernel_rfl) (fun _ _ _ h => h) (by rfl) (by intro w hSw; (try dsimp only at hSw); go_simp; first | done | with_reducible rfl) hS ?_
    (try simp only [Act.put, List.setIfInBounds_toArray, List.set_cons_zero, List.set_cons_succ])
    refine reg_take 2 (v := ?_) rfl (by kernel_rfl) (by kernel_rfl) (by kernel_rfl) (fun _ _ _ h => h) (by rfl) (by intro w hSw; (try dsimp only at hSw); go_simp; first | done | with_reducible rfl) hS ?_
    (try simp only [Act.put, List.setIfInBounds_toArray, List.set_cons_zero, List.set_cons_succ])
    refine reg_take 3 (v := ?_) rfl (by kernel_rfl) (by kernel_rfl) (by kernel_rfl) (fun _ _ _ h => h) (by rfl) (by intro w hSw; (try dsimp only at hSw); go_simp; first | done | with_reducible rfl) hS ?_
    (try simp only [Act.put, List.setIfInBounds_toArray, List.set_cons_zero, List.set_cons_succ])
    have hz0 : G.drew.heap.size ≤ G.heap.size ∧ G.heap.size ≤ G.drew.heap.size := ⟨Nat.le_refl _, Nat.le_refl _⟩
    generalize G.drew = U0 at hS hz0 ⊢
    refine reg_three 4 9 10 rfl rfl rfl (by kernel_rfl) (by rfl) (by rfl) (by rfl) (fun K hK => ?_) (fun K hK => ?_) (fun K hK => ?_)
    · go_simp
      go_at_call 32
      refine (args_eqL (CS.out _ hS) (by with_reducible rfl)).mono ?_
      rintro e y1 ⟨vA, vB, rfl, RA, RB, hb⟩
      have RA0 := Lib.hid RA
      have RB0 := Lib.hid RB
      obtain ⟨aA, cA, rfl⟩ := RA.form
      obtain ⟨aB, cB, rfl⟩ := RB.form
      clear RA RB
      have hzy1 := hb.size
      refine hK.out _ _ (KP1.out _ _ hb hS) (fun hS' => ?_)
      clear hK K hS
      have hS := hS'
      clear hS'
      try (try simp only [Act.put, List.setIfInBounds_toArray, List.set_cons_zero, List.set_cons_succ])
      clear hb
      refine reg_take 5 (v := ?_) rfl (by kernel_rfl) (by kernel_rfl) (by kernel_rfl) (fun _ _ _ h => h) (by rfl) (by intro w hSw; (try dsimp only at hSw); go_simp; first | done | with_reducible rfl) hS ?_
      (try simp only [Act.put, List.setIfInBounds_toArray, List.set_cons_zero, List.set_cons_succ])
      refine reg_take 6 (v := ?_) rfl (by kernel_rfl) (by kernel_rfl) (by kernel_rfl) (fun _ _ _ h => h) (by rfl) (by intro w hSw; (try dsimp only at hSw); go_simp; first | done | with_reducible rfl) hS ?_
      (try simp only [Act.put, List.setIfInBounds_toArray, List.set_cons_zero, List.set_cons_succ])
      refine reg_take 7 (v := ?_) rfl (by kernel_rfl) (by kernel_rfl) (by kernel_rfl) (fun _ _ _ h => h) (by rfl) (by intro w hSw; (try dsimp only at hSw); go_simp; first | done | with_reducible rfl) hS ?_
      (try simp only [Act.put, List.setIfInBounds_toArray, List.set_cons_zero, List.set_cons_succ])
      refine reg_take 8 (v := ?_) rfl (by kernel_rfl) (by kernel_rfl) (by kernel_rfl) (fun _ _ _ h => h) (by rfl) (by intro w hSw; (try dsimp only at hSw); go_simp; first | done | with_reducible rfl) hS ?_
      (try simp only [Act.put, List.setIfInBounds_toArray, List.set_cons_zero, List.set_cons_succ])
      refine reg_two 9 10 rfl rfl (by kernel_rfl) (by rfl) (by rfl) (fun K hK => ?_) (fun K hK => ?_)
      · go_simp
        refine hK.out _ _ (KP1.out _ _ (bel0 _ _) hS) (fun hS' => ?_)
        clear hK K hS
        have hS := hS'
        clear hS'
        try (try simp only [Act.put, List.setIfInBounds_toArray, List.set_cons_zero, List.set_cons_succ])
        have hbe : Below y1.heap.size y1 (y1.alloc (.cells #[.int .i64 0, .int .i64 0, .slice none 0 0] 26)) := bel0 _ _
        have HX9 := Lib.hid (BoxL.new y1 (.int .i64 0) (.int .i64 0) (.slice none 0 0) 26)
        have hzV2 : (y1.alloc (.cells #[.int .i64 0, .int .i64 0, .slice none 0 0] 26)).heap.size ≤ y1.heap.size + 1 ∧ y1.heap.size + 1 ≤ (y1.alloc (.cells #[.int .i64 0, .int .i64 0, .slice none 0 0] 26)).heap.size := by simp
        have RA0 := Lib.hid (RA0.out.below (hbe.mono (by omega)))
        have RB0 := Lib.hid (RB0.out.below (hbe.mono (by omega)))
        obtain ⟨V2, hV⟩ : ∃ V, V = y1.alloc (.cells #[.int .i64 0, .int .i64 0, .slice none 0 0] 26) := ⟨_, rfl⟩
        rw [← hV] at hS HX9 hzV2 RA0 RB0 ⊢
        clear hV hbe
        refine reg_call 10 rfl (by kernel_rfl) (by rfl) (fun K hK => ?_)
        go_simp
        refine hK.out _ _ (KP1.out _ _ (bel0 _ _) hS) (fun hS' => ?_)
        clear hK K hS
        have hS := hS'
        clear hS'
        try (try simp only [Act.put, List.setIfInBounds_toArray, List.set_cons_zero, List.set_cons_succ])
        have hbe : Below V2.heap.size V2 (V2.alloc (.cells #[.int .i64 0, .int .i64 0, .slice none 0 0] 26)) := bel0 _ _
        have HX10 := Lib.hid (BoxL.new V2 (.int .i64 0) (.int .i64 0) (.slice none 0 0) 26)
        have hzV3 : (V2.alloc (.cells #[.int .i64 0, .int .i64 0, .slice none 0 0] 26)).heap.size ≤ V2.heap.size + 1 ∧ V2.heap.size + 1 ≤ (V2.alloc (.cells #[.int .i64 0, .int .i64 0, .slice none 0 0] 26)).heap.size := by simp
        have HX9 := Lib.hid (HX9.out.below hbe (by omega))
        have RA0 := Lib.hid (RA0.out.below (hbe.mono (by omega)))
        have RB0 := Lib.hid (RB0.out.below (hbe.mono (by omega)))
        obtain ⟨V3, hV⟩ : ∃ V, V = V2.alloc (.cells #[.int .i64 0, .int .i64 0, .slice none 0 0] 26) := ⟨_, rfl⟩
        rw [← hV] at hS HX9 HX10 hzV3 RA0 RB0 ⊢
        clear hV hbe
        clear KP1
        refine reg_call 11 rfl (by kernel_rfl) (by rfl) (fun K hK => ?_)
        have ec0 := HX9.out.1
        have ec1 := HX9.out.2.1
        have ec2 := HX9.out.2.2.1
        have ec3 := HX9.out.2.2.2.1
        have ec4 := HX9.out.2.2.2.2.1
        have ec5 := HX9.out.2.2.2.2.2
        go_simp
        refine hK.out _ _ (KS1.out _ y1.heap.size (.int .i64 M1) (.int .i64 N1) (.slice aA L1.length cA) (by omega) hS) (fun hS' => ?_)
        clear hK K hS ec0 ec1 ec2 ec3 ec4 ec5
        have hS := hS'
        clear hS'
        try (try simp only [Act.put, List.setIfInBounds_toArray, List.set_cons_zero, List.set_cons_succ])
        have HX9 : Hid (BoxL y1.heap.size (.int .i64 M1) (.int .i64 N1) (.slice aA L1.length cA) (set3 V3 y1.heap.size (.int .i64 M1) (.int .i64 N1) (.slice aA L1.length cA))) := Lib.hid (BoxL.put3 HX9.out)
        have HX10 : Hid (BoxL V2.heap.size (.int .i64 0) (.int .i64 0) (.slice none 0 0) (set3 V3 y1.heap.size (.int .i64 M1) (.int .i64 N1) (.slice aA L1.length cA))) := Lib.hid (BoxL.far3 HX10.out (show y1.heap.size ≠ V2.heap.size by omega))
        have RA0 : Hid (PatIn _ _ (set3 V3 y1.heap.size (.int .i64 M1) (.int .i64 N1) (.slice aA L1.length cA)) _ _) := Lib.hid (row3 RA0.out (by omega) (by first | omega | (simp [World.setCell] <;> omega)))
        have RB0 : Hid (PatIn _ _ (set3 V3 y1.heap.size (.int .i64 M1) (.int .i64 N1) (.slice aA L1.length cA)) _ _) := Lib.hid (row3 RB0.out (by omega) (by first | omega | (simp [World.setCell] <;> omega)))
        refine reg_call 12 rfl (by kernel_rfl) (by rfl) (fun K hK => ?_)
        have ec0 := HX10.out.1
        have ec1 := HX10.out.2.1
        have ec2 := HX10.out.2.2.1
        have ec3 := HX10.out.2.2.2.1
        have ec4 := HX10.out.2.2.2.2.1
        have ec5 := HX10.out.2.2.2.2.2
        go_simp
        refine hK.out _ _ (KS1.out _ V2.heap.size (.int .i64 M2) (.int .i64 N2) (.slice aB L2.length cB) (by omega) hS) (fun hS' => ?_)
        clear hK K hS ec0 ec1 ec2 ec3 ec4 ec5
        have hS := hS'
        clear hS'
        try (try simp only [Act.put, List.setIfInBounds_toArray, List.set_cons_zero, List.set_cons_succ])
        have HX10 : Hid (BoxL V2.heap.size (.int .i64 M2) (.int .i64 N2) (.slice aB L2.length cB) (set3 (set3 V3 y1.heap.size (.int .i64 M1) (.int .i64 N1) (.slice aA L1.length cA)) V2.heap.size (.int .i64 M2) (.int .i64 N2) (.slice aB L2.length cB))) := Lib.hid (BoxL.put3 HX10.out)
        have HX9 : Hid (BoxL y1.heap.size (.int .i64 M1) (.int .i64 N1) (.slice aA L1.length cA) (set3 (set3 V3 y1.heap.size (.int .i64 M1) (.int .i64 N1) (.slice aA L1.length cA)) V2.heap.size (.int .i64 M2) (.int .i64 N2) (.slice aB L2.length cB))) := Lib.hid (BoxL.far3 HX9.out (show V2.heap.size ≠ y1.heap.size by omega))
        have RA0 : Hid (PatIn _ _ (set3 (set3 V3 y1.heap.size (.int .i64 M1) (.int .i64 N1) (.slice aA L1.length cA)) V2.heap.size (.int .i64 M2) (.int .i64 N2) (.slice aB L2.length cB)) _ _) := Lib.hid (row3 RA0.out (by omega) (by first | omega | (simp [World.setCell] <;> omega)))
        have RB0 : Hid (PatIn _ _ (set3 (set3 V3 y1.heap.size (.int .i64 M1) (.int .i64 N1) (.slice aA L1.length cA)) V2.heap.size (.int .i64 M2) (.int .i64 N2) (.slice aB L2.length cB)) _ _) := Lib.hid (row3 RB0.out (by omega) (by first | omega | (simp [World.setCell] <;> omega)))
        refine reg_take 13 (v := ?_) rfl (by kernel_rfl) (by kernel_rfl) (by kernel_rfl) (fun _ _ _ h => h) (by rfl) (by intro w hSw; (try dsimp only at hSw); go_simp; first | done | with_reducible rfl) hS ?_
        (try simp only [Act.put, List.setIfInBounds_toArray, List.set_cons_zero, List.set_cons_succ])
        refine wpAnyH_done (by kernel_rfl) ?_ _
        have HBW := Lib.hid hS.2.2.2.2.2
        clear hS
        go_wp2_with fail
        go_meet
        exact ⟨_, _, _, _, y1.heap.size, rfl, rfl, HX9, HX10, Lib.hid (RA0.out.wide (by omega) (Nat.le_refl _)), Lib.hid (RB0.out.wide (by omega) (Nat.le_refl _)), by simp [World.setCell] <;> omega, HBW⟩
      · go_simp
        refine hK.out _ _ (KP1.out _ _ (bel0 _ _) hS) (fun hS' => ?_)
        clear hK K hS
        have hS := hS'
        clear hS'
        try (try simp only [Act.put, List.setIfInBounds_toArray, List.set_cons_zero, List.set_cons_succ])
        have hbe : Below y1.heap.size y1 (y1.alloc (.cells #[.int .i64 0, .int .i64 0, .slice none 0 0] 26)) := bel0 _ _
        have HX10 := Lib.hid (BoxL.new y1 (.int .i64 0) (.int .i64 0) (.slice none 0 0) 26)
        have hzV2 : (y1.alloc (.cells #[.int .i64 0, .int .i64 0, .slice none 0 0] 26)).heap.size ≤ y1.heap.size + 1 ∧ y1.heap.size + 1 ≤ (y1.alloc (.cells #[.int .i64 0, .int .i64 0, .slice none 0 0] 26)).heap.size := by simp
        have RA0 := Lib.hid (RA0.out.below (hbe.mono (by omega)))
        have RB0 := Lib.hid (RB0.out.below (hbe.mono (by omega)))
        obtain ⟨V2, hV⟩ : ∃ V, V = y1.alloc (.cells #[.int .i64 0, .int .i64 0, .slice none 0 0] 26) := ⟨_, rfl⟩
        rw [← hV] at hS HX10 hzV2 RA0 RB0 ⊢
        clear hV hbe
        refine reg_call 9 rfl (by kernel_rfl) (by rfl) (fun K hK => ?_)
        go_simp
        refine hK.out _ _ (KP1.out _ _ (bel0 _ _) hS) (fun hS' => ?_)
        clear hK K hS
        have hS := hS'
        clear hS'
        try (try simp only [Act.put, List.setIfInBounds_toArray, List.set_cons_zero, List.set_cons_succ])
        have hbe : Below V2.heap.size V2 (V2.alloc (.cells #[.int .i64 0, .int .i64 0, .slice none 0 0] 26)) := bel0 _ _
        have HX9 := Lib.hid (BoxL.new V2 (.int .i64 0) (.int .i64 0) (.slice none 0 0) 26)
        have hzV3 : (V2.alloc (.cells #[.int .i64 0, .int .i64 0, .slice none 0 0] 26)).heap.size ≤ V2.heap.size + 1 ∧ V2.heap.size + 1 ≤ (V2.alloc (.cells #[.int .i64 0, .int .i64 0, .slice none 0 0] 26)).heap.size := by simp
        have HX10 := Lib.hid (HX10.out.below hbe (by omega))
        have RA0 := Lib.hid (RA0.out.below (hbe.mono (by omega)))
        have RB0 := Lib.hid (RB0.out.below (hbe.mono (by omega)))
        obtain ⟨V3, hV⟩ : ∃ V, V = V2.alloc (.cells #[.int .i64 0, .int .i64 0, .slice none 0 0] 26) := ⟨_, rfl⟩
        rw [← hV] at hS HX10 HX9 hzV3 RA0 RB0 ⊢
        clear hV hbe
        clear KP1
        refine reg_call 11 rfl (by kernel_rfl) (by rfl) (fun K hK => ?_)
        have ec0 := HX9.out.1
        have ec1 := HX9.out.2.1
        have ec2 := HX9.out.2.2.1
        have ec3 := HX9.out.2.2.2.1
        have ec4 := HX9.out.2.2.2.2.1
        have ec5 := HX9.out.2.2.2.2.2
        go_simp
        refine hK.out _ _ (KS1.out _ V2.heap.size (.int .i64 M1) (.int .i64 N1) (.slice aA L1.length cA) (by omega) hS) (fun hS' => ?_)
        clear hK K hS ec0 ec1 ec2 ec3 ec4 ec5
        have hS := hS'
        clear hS'
        try (try simp only [Act.put, List.setIfInBounds_toArray, List.set_cons_zero, List.set_cons_succ])
        have HX9 : Hid (BoxL V2.heap.size (.int .i64 M1) (.int .i64 N1) (.slice aA L1.length cA) (set3 V3 V2.heap.size (.int .i64 M1) (.int .i64 N1) (.slice aA L1.length cA))) := Lib.hid (BoxL.put3 HX9.out)
        have HX10 : Hid (BoxL y1.heap.size (.int .i64 0) (.int .i64 0) (.slice none 0 0) (set3 V3 V2.heap.size (.int .i64 M1) (.int .i64 N1) (.slice aA L1.length cA))) := Lib.hid (BoxL.far3 HX10.out (show V2.heap.size ≠ y1.heap.size by omega))
        have RA0 : Hid (PatIn _ _ (set3 V3 V2.heap.size (.int .i64 M1) (.int .i64 N1) (.slice aA L1.length cA)) _ _) := Lib.hid (row3 RA0.out (by omega) (by first | omega | (simp [World.setCell] <;> omega)))
        have RB0 : Hid (PatIn _ _ (set3 V3 V2.heap.size (.int .i64 M1) (.int .i64 N1) (.slice aA L1.length cA)) _ _) := Lib.hid (row3 RB0.out (by omega) (by first | omega | (simp [World.setCell] <;> omega)))
        refine reg_call 12 rfl (by kernel_rfl) (by rfl) (fun K hK => ?_)
        have ec0 := HX10.out.1
        have ec1 := HX10.out.2.1
        have ec2 := HX10.out.2.2.1
        have ec3 := HX10.out.2.2.2.1
        have ec4 := HX10.out.2.2.2.2.1
        have ec5 := HX10.out.2.2.2.2.2
        go_simp
        refine hK.out _ _ (KS1.out _ y1.heap.size (.int .i64 M2) (.int .i64 N2) (.slice aB L2.length cB) (by omega) hS) (fun hS' => ?_)
        clear hK K hS ec0 ec1 ec2 ec3 ec4 ec5
        have hS := hS'
        clear hS'
        try (try simp only [Act.put, List.setIfInBounds_toArray, List.set_cons_zero, List.set_cons_succ])
        have HX10 : Hid (BoxL y1.heap.size (.int .i64 M2) (.int .i64 N2) (.slice aB L2.length cB) (set3 (set3 V3 V2.heap.size (.int .i64 M1) (.int .i64 N1) (.slice aA L1.length cA)) y1.heap.size (.int .i64 M2) (.int .i64 N2) (.slice aB L2.length cB))) := Lib.hid (BoxL.put3 HX10.out)
        have HX9 : Hid (BoxL V2.heap.size (.int .i64 M1) (.int .i64 N1) (.slice aA L1.length cA) (set3 (set3 V3 V2.heap.size (.int .i64 M1) (.int .i64 N1) (.slice aA L1.length cA)) y1.heap.size (.int .i64 M2) (.int .i64 N2) (.slice aB L2.length cB))) := Lib.hid (BoxL.far3 HX9.out (show y1.heap.size ≠ V2.heap.size by omega))
        have RA0 : Hid (PatIn _ _ (set3 (set3 V3 V2.heap.size (.int .i64 M1) (.int .i64 N1) (.slice aA L1.length cA)) y1.heap.size (.int .i64 M2) (.int .i64 N2) (.slice aB L2.length cB)) _ _) := Lib.hid (row3 RA0.out (by omega) (by first | omega | (simp [World.setCell] <;> omega)))
        have RB0 : Hid (PatIn _ _ (set3 (set3 V3 V2.heap.size (.int .i64 M1) (.int .i64 N1) (.slice aA L1.length cA)) y1.heap.size (.int .i64 M2) (.int .i64 N2) (.slice aB L2.length cB)) _ _) := Lib.hid (row3 RB0.out (by omega) (by first | omega | (simp [World.setCell] <;> omega)))
        refine reg_take 13 (v := ?_) rfl (by kernel_rfl) (by kernel_rfl) (by kernel_rfl) (fun _ _ _ h => h) (by rfl) (by intro w hSw; (try dsimp only at hSw); go_simp; first | done | with_reducible rfl) hS ?_
        (try simp only [Act.put, List.setIfInBounds_toArray, List.set_cons_zero, List.set_cons_succ])
        refine wpAnyH_done (by kernel_rfl) ?_ _
        have HBW := Lib.hid hS.2.2.2.2.2
        clear hS
        go_wp2_with fail
        go_meet
        exact ⟨_, _, _, _, y1.heap.size, rfl, rfl, HX9, HX10, Lib.hid (RA0.out.wide (by omega) (Nat.le_refl _)), Lib.hid (RB0.out.wide (by omega) (Nat.le_refl _)), by simp [World.setCell] <;> omega, HBW⟩
    · go_simp
      refine hK.out _ _ (KP1.out _ _ (bel0 _ _) hS) (fun hS' => ?_)
      clear hK K hS
      have hS := hS'
      clear hS'
      try (try simp only [Act.put, List.setIfInBounds_toArray, List.set_cons_zero, List.set_cons_succ])
      have hbe : Below U0.heap.size U0 (U0.alloc (.cells #[.int .i64 0, .int .i64 0, .slice none 0 0] 26)) := bel0 _ _
      have HX9 := Lib.hid (BoxL.new U0 (.int .i64 0) (.int .i64 0) (.slice none 0 0) 26)
      have hzV1 : (U0.alloc (.cells #[.int .i64 0, .int .i64 0, .slice none 0 0] 26)).heap.size ≤ U0.heap.size + 1 ∧ U0.heap.size + 1 ≤ (U0.alloc (.cells #[.int .i64 0, .int .i64 0, .slice none 0 0] 26)).heap.size := by simp
      obtain ⟨V1, hV⟩ : ∃ V, V = U0.alloc (.cells #[.int .i64 0, .int .i64 0, .slice none 0 0] 26) := ⟨_, rfl⟩
      rw [← hV] at hS HX9 hzV1 ⊢
      clear hV hbe
      refine reg_two 4 10 rfl rfl (by kernel_rfl) (by rfl) (by rfl) (fun K hK => ?_) (fun K hK => ?_)
      · go_simp
        go_at_call 32
        refine (args_eqL (CS.out _ hS) (by with_reducible rfl)).mono ?_
        rintro e y2 ⟨vA, vB, rfl, RA, RB, hb⟩
        have RA0 := Lib.hid RA
        have RB0 := Lib.hid RB
        obtain ⟨aA, cA, rfl⟩ := RA.form
        obtain ⟨aB, cB, rfl⟩ := RB.form
        clear RA RB
        have hzy2 := hb.size
        have HX9 := Lib.hid (HX9.out.below hb (by omega))
        refine hK.out _ _ (KP1.out _ _ hb hS) (fun hS' => ?_)
        clear hK K hS
        have hS := hS'
        clear hS'
        try (try simp only [Act.put, List.setIfInBounds_toArray, List.set_cons_zero, List.set_cons_succ])
        clear hb
        refine reg_take 5 (v := ?_) rfl (by kernel_rfl) (by kernel_rfl) (by kernel_rfl) (fun _ _ _ h => h) (by rfl) (by intro w hSw; (try dsimp only at hSw); go_simp; first | done | with_reducible rfl) hS ?_
        (try simp only [Act.put, List.setIfInBounds_toArray, List.set_cons_zero, List.set_cons_succ])
        refine reg_take 6 (v := ?_) rfl (by kernel_rfl) (by kernel_rfl) (by kernel_rfl) (fun _ _ _ h => h) (by rfl) (by intro w hSw; (try dsimp only at hSw); go_simp; first | done | with_reducible rfl) hS ?_
        (try simp only [Act.put, List.setIfInBounds_toArray, List.set_cons_zero, List.set_cons_succ])
        refine reg_take 7 (v := ?_) rfl (by kernel_rfl) (by kernel_rfl) (by kernel_rfl) (fun _ _ _ h => h) (by rfl) (by intro w hSw; (try dsimp only at hSw); go_simp; first | done | with_reducible rfl) hS ?_
        (try simp only [Act.put, List.setIfInBounds_toArray, List.set_cons_zero, List.set_cons_succ])
        refine reg_take 8 (v := ?_) rfl (by kernel_rfl) (by kernel_rfl) (by kernel_rfl) (fun _ _ _ h => h) (by rfl) (by intro w hSw; (try dsimp only at hSw); go_simp; first | done | with_reducible rfl) hS ?_
        (try simp only [Act.put, List.setIfInBounds_toArray, List.set_cons_zero, List.set_cons_succ])
        refine reg_call 10 rfl (by kernel_rfl) (by rfl) (fun K hK => ?_)
        go_simp
        refine hK.out _ _ (KP1.out _ _ (bel0 _ _) hS) (fun hS' => ?_)
        clear hK K hS
        have hS := hS'
        clear hS'
        try (try simp only [Act.put, List.setIfInBounds_toArray, List.set_cons_zero, List.set_cons_succ])
        have hbe : Below y2.heap.size y2 (y2.alloc (.cells #[.int .i64 0, .int .i64 0, .slice none 0 0] 26)) := bel0 _ _
        have HX10 := Lib.hid (BoxL.new y2 (.int .i64 0) (.int .i64 0) (.slice none 0 0) 26)
        have hzV3 : (y2.alloc (.cells #[.int .i64 0, .int .i64 0, .slice none 0 0] 26)).heap.size ≤ y2.heap.size + 1 ∧ y2.heap.size + 1 ≤ (y2.alloc (.cells #[.int .i64 0, .int .i64 0, .slice none 0 0] 26)).heap.size := by simp
        have HX9 := Lib.hid (HX9.out.below hbe (by omega))
        have RA0 := Lib.hid (RA0.out.below (hbe.mono (by omega)))
        have RB0 := Lib.hid (RB0.out.below (hbe.mono (by omega)))
        obtain ⟨V3, hV⟩ : ∃ V, V = y2.alloc (.cells #[.int .i64 0, .int .i64 0, .slice none 0 0] 26) := ⟨_, rfl⟩
        rw [← hV] at hS HX9 HX10 hzV3 RA0 RB0 ⊢
        clear hV hbe
        clear KP1
        refine reg_call 11 rfl (by kernel_rfl) (by rfl) (fun K hK => ?_)
        have ec0 := HX9.out.1
        have ec1 := HX9.out.2.1
        have ec2 := HX9.out.2.2.1
        have ec3 := HX9.out.2.2.2.1
        have ec4 := HX9.out.2.2.2.2.1
        have ec5 := HX9.out.2.2.2.2.2
        go_simp
        refine hK.out _ _ (KS1.out _ U0.heap.size (.int .i64 M1) (.int .i64 N1) (.slice aA L1.length cA) (by omega) hS) (fun hS' => ?_)
        clear hK K hS ec0 ec1 ec2 ec3 ec4 ec5
        have hS := hS'
        clear hS'
        try (try simp only [Act.put, List.setIfInBounds_toArray, List.set_cons_zero, List.set_cons_succ])
        have HX9 : Hid (BoxL U0.heap.size (.int .i64 M1) (.int .i64 N1) (.slice aA L1.length cA) (set3 V3 U0.heap.size (.int .i64 M1) (.int .i64 N1) (.slice aA L1.length cA))) := Lib.hid (BoxL.put3 HX9.out)
        have HX10 : Hid (BoxL y2.heap.size (.int .i64 0) (.int .i64 0) (.slice none 0 0) (set3 V3 U0.heap.size (.int .i64 M1) (.int .i64 N1) (.slice aA L1.length cA))) := Lib.hid (BoxL.far3 HX10.out (show U0.heap.size ≠ y2.heap.size by omega))
        have RA0 : Hid (PatIn _ _ (set3 V3 U0.heap.size (.int .i64 M1) (.int .i64 N1) (.slice aA L1.length cA)) _ _) := Lib.hid (row3 RA0.out (by omega) (by first | omega | (simp [World.setCell] <;> omega)))
        have RB0 : Hid (PatIn _ _ (set3 V3 U0.heap.size (.int .i64 M1) (.int .i64 N1) (.slice aA L1.length cA)) _ _) := Lib.hid (row3 RB0.out (by omega) (by first | omega | (simp [World.setCell] <;> omega)))
        refine reg_call 12 rfl (by kernel_rfl) (by rfl) (fun K hK => ?_)
        have ec0 := HX10.out.1
        have ec1 := HX10.out.2.1
        have ec2 := HX10.out.2.2.1
        have ec3 := HX10.out.2.2.2.1
        have ec4 := HX10.out.2.2.2.2.1
        have ec5 := HX10.out.2.2.2.2.2
        go_simp
        refine hK.out _ _ (KS1.out _ y2.heap.size (.int .i64 M2) (.int .i64 N2) (.slice aB L2.length cB) (by omega) hS) (fun hS' => ?_)
        clear hK K hS ec0 ec1 ec2 ec3 ec4 ec5
        have hS := hS'
        clear hS'
        try (try simp only [Act.put, List.setIfInBounds_toArray, List.set_cons_zero, List.set_cons_succ])
        have HX10 : Hid (BoxL y2.heap.size (.int .i64 M2) (.int .i64 N2) (.slice aB L2.length cB) (set3 (set3 V3 U0.heap.size (.int .i64 M1) (.int .i64 N1) (.slice aA L1.length cA)) y2.heap.size (.int .i64 M2) (.int .i64 N2) (.slice aB L2.length cB))) := Lib.hid (BoxL.put3 HX10.out)
        have HX9 : Hid (BoxL U0.heap.size (.int .i64 M1) (.int .i64 N1) (.slice aA L1.length cA) (set3 (set3 V3 U0.heap.size (.int .i64 M1) (.int .i64 N1) (.slice aA L1.length cA)) y2.heap.size (.int .i64 M2) (.int .i64 N2) (.slice aB L2.length cB))) := Lib.hid (BoxL.far3 HX9.out (show y2.heap.size ≠ U0.heap.size by omega))
        have RA0 : Hid (PatIn _ _ (set3 (set3 V3 U0.heap.size (.int .i64 M1) (.int .i64 N1) (.slice aA L1.length cA)) y2.heap.size (.int .i64 M2) (.int .i64 N2) (.slice aB L2.length cB)) _ _) := Lib.hid (row3 RA0.out (by omega) (by first | omega | (simp [World.setCell] <;> omega)))
        have RB0 : Hid (PatIn _ _ (set3 (set3 V3 U0.heap.size (.int .i64 M1) (.int .i64 N1) (.slice aA L1.length cA)) y2.heap.size (.int .i64 M2) (.int .i64 N2) (.slice aB L2.length cB)) _ _) := Lib.hid (row3 RB0.out (by omega) (by first | omega | (simp [World.setCell] <;> omega)))
        refine reg_take 13 (v := ?_) rfl (by kernel_rfl) (by kernel_rfl) (by kernel_rfl) (fun _ _ _ h => h) (by rfl) (by intro w hSw; (try dsimp only at hSw); go_simp; first | done | with_reducible rfl) hS ?_
        (try simp only [Act.put, List.setIfInBounds_toArray, List.set_cons_zero, List.set_cons_succ])
        refine wpAnyH_done (by kernel_rfl) ?_ _
        have HBW := Lib.hid hS.2.2.2.2.2
        clear hS
        go_wp2_with fail
        go_meet
        exact ⟨_, _, _, _, y2.heap.size, rfl, rfl, HX9, HX10, Lib.hid (RA0.out.wide (by omega) (Nat.le_refl _)), Lib.hid (RB0.out.wide (by omega) (Nat.le_refl _)), by simp [World.setCell] <;> omega, HBW⟩
      · go_simp
        refine hK.out _ _ (KP1.out _ _ (bel0 _ _) hS) (fun hS' => ?_)
        clear hK K hS
        have hS := hS'
        clear hS'
        try (try simp only [Act.put, List.setIfInBounds_toArray, List.set_cons_zero, List.set_cons_succ])
        have hbe : Below V1.heap.size V1 (V1.alloc (.cells #[.int .i64 0, .int .i64 0, .slice none 0 0] 26)) := bel0 _ _
        have HX10 := Lib.hid (BoxL.new V1 (.int .i64 0) (.int .i64 0) (.slice none 0 0) 26)
        have hzV2 : (V1.alloc (.cells #[.int .i64 0, .int .i64 0, .slice none 0 0] 26)).heap.size ≤ V1.heap.size + 1 ∧ V1.heap.size + 1 ≤ (V1.alloc (.cells #[.int .i64 0, .int .i64 0, .slice none 0 0] 26)).heap.size := by simp
        have HX9 := Lib.hid (HX9.out.below hbe (by omega))
        obtain ⟨V2, hV⟩ : ∃ V, V = V1.alloc (.cells #[.int .i64 0, .int .i64 0, .slice none 0 0] 26) := ⟨_, rfl⟩
        rw [← hV] at hS HX9 HX10 hzV2 ⊢
        clear hV hbe
        refine reg_call 4 rfl (by kernel_rfl) (by rfl) (fun K hK => ?_)
        go_simp
        go_at_call 32
        refine (args_eqL (CS.out _ hS) (by with_reducible rfl)).mono ?_
        rintro e y3 ⟨vA, vB, rfl, RA, RB, hb⟩
        have RA0 := Lib.hid RA
        have RB0 := Lib.hid RB
        obtain ⟨aA, cA, rfl⟩ := RA.form
        obtain ⟨aB, cB, rfl⟩ := RB.form
        clear RA RB
        have hzy3 := hb.size
        have HX9 := Lib.hid (HX9.out.below hb (by omega))
        have HX10 := Lib.hid (HX10.out.below hb (by omega))
        refine hK.out _ _ (KP1.out _ _ hb hS) (fun hS' => ?_)
        clear hK K hS
        have hS := hS'
        clear hS'
        try (try simp only [Act.put, List.setIfInBounds_toArray, List.set_cons_zero, List.set_cons_succ])
        clear hb
        refine reg_take 5 (v := ?_) rfl (by kernel_rfl) (by kernel_rfl) (by kernel_rfl) (fun _ _ _ h => h) (by rfl) (by intro w hSw; (try dsimp only at hSw); go_simp; first | done | with_reducible rfl) hS ?_
        (try simp only [Act.put, List.setIfInBounds_toArray, List.set_cons_zero, List.set_cons_succ])
        refine reg_take 6 (v := ?_) rfl (by kernel_rfl) (by kernel_rfl) (by kernel_rfl) (fun _ _ _ h => h) (by rfl) (by intro w hSw; (try dsimp only at hSw); go_simp; first | done | with_reducible rfl) hS ?_
        (try simp only [Act.put, List.setIfInBounds_toArray, List.set_cons_zero, List.set_cons_succ])
        refine reg_take 7 (v := ?_) rfl (by kernel_rfl) (by kernel_rfl) (by kernel_rfl) (fun _ _ _ h => h) (by rfl) (by intro w hSw; (try dsimp only at hSw); go_simp; first | done | with_reducible rfl) hS ?_
        (try simp only [Act.put, List.setIfInBounds_toArray, List.set_cons_zero, List.set_cons_succ])
        refine reg_take 8 (v := ?_) rfl (by kernel_rfl) (by kernel_rfl) (by kernel_rfl) (fun _ _ _ h => h) (by rfl) (by intro w hSw; (try dsimp only at hSw); go_simp; first | done | with_reducible rfl) hS ?_
        (try simp only [Act.put, List.setIfInBounds_toArray, List.set_cons_zero, List.set_cons_succ])
        clear KP1
        refine reg_call 11 rfl (by kernel_rfl) (by rfl) (fun K hK => ?_)
        have ec0 := HX9.out.1
        have ec1 := HX9.out.2.1
        have ec2 := HX9.out.2.2.1
        have ec3 := HX9.out.2.2.2.1
        have ec4 := HX9.out.2.2.2.2.1
        have ec5 := HX9.out.2.2.2.2.2
        go_simp
        refine hK.out _ _ (KS1.out _ U0.heap.size (.int .i64 M1) (.int .i64 N1) (.slice aA L1.length cA) (by omega) hS) (fun hS' => ?_)
        clear hK K hS ec0 ec1 ec2 ec3 ec4 ec5
        have hS := hS'
        clear hS'
        try (try simp only [Act.put, List.setIfInBounds_toArray, List.set_cons_zero, List.set_cons_succ])
        have HX9 : Hid (BoxL U0.heap.size (.int .i64 M1) (.int .i64 N1) (.slice aA L1.length cA) (set3 y3 U0.heap.size (.int .i64 M1) (.int .i64 N1) (.slice aA L1.length cA))) := Lib.hid (BoxL.put3 HX9.out)
        have HX10 : Hid (BoxL V1.heap.size (.int .i64 0) (.int .i64 0) (.slice none 0 0) (set3 y3 U0.heap.size (.int .i64 M1) (.int .i64 N1) (.slice aA L1.length cA))) := Lib.hid (BoxL.far3 HX10.out (show U0.heap.size ≠ V1.heap.size by omega))
        have RA0 : Hid (PatIn _ _ (set3 y3 U0.heap.size (.int .i64 M1) (.int .i64 N1) (.slice aA L1.length cA)) _ _) := Lib.hid (row3 RA0.out (by omega) (by first | omega | (simp [World.setCell] <;> omega)))
        have RB0 : Hid (PatIn _ _ (set3 y3 U0.heap.size (.int .i64 M1) (.int .i64 N1) (.slice aA L1.length cA)) _ _) := Lib.hid (row3 RB0.out (by omega) (by first | omega | (simp [World.setCell] <;> omega)))
        refine reg_call 12 rfl (by kernel_rfl) (by rfl) (fun K hK => ?_)
        have ec0 := HX10.out.1
        have ec1 := HX10.out.2.1
        have ec2 := HX10.out.2.2.1
        have ec3 := HX10.out.2.2.2.1
        have ec4 := HX10.out.2.2.2.2.1
        have ec5 := HX10.out.2.2.2.2.2
        go_simp
        refine hK.out _ _ (KS1.out _ V1.heap.size (.int .i64 M2) (.int .i64 N2) (.slice aB L2.length cB) (by omega) hS) (fun hS' => ?_)
        clear hK K hS ec0 ec1 ec2 ec3 ec4 ec5
        have hS := hS'
        clear hS'
        try (try simp only [Act.put, List.setIfInBounds_toArray, List.set_cons_zero, List.set_cons_succ])
        have HX10 : Hid (BoxL V1.heap.size (.int .i64 M2) (.int .i64 N2) (.slice aB L2.length cB) (set3 (set3 y3 U0.heap.size (.int .i64 M1) (.int .i64 N1) (.slice aA L1.length cA)) V1.heap.size (.int .i64 M2) (.int .i64 N2) (.slice aB L2.length cB))) := Lib.hid (BoxL.put3 HX10.out)
        have HX9 : Hid (BoxL U0.heap.size (.int .i64 M1) (.int .i64 N1) (.slice aA L1.length cA) (set3 (set3 y3 U0.heap.size (.int .i64 M1) (.int .i64 N1) (.slice aA L1.length cA)) V1.heap.size (.int .i64 M2) (.int .i64 N2) (.slice aB L2.length cB))) := Lib.hid (BoxL.far3 HX9.out (show V1.heap.size ≠ U0.heap.size by omega))
        have RA0 : Hid (PatIn _ _ (set3 (set3 y3 U0.heap.size (.int .i64 M1) (.int .i64 N1) (.slice aA L1.length cA)) V1.heap.size (.int .i64 M2) (.int .i64 N2) (.slice aB L2.length cB)) _ _) := Lib.hid (row3 RA0.out (by omega) (by first | omega | (simp [World.setCell] <;> omega)))
        have RB0 : Hid (PatIn _ _ (set3 (set3 y3 U0.heap.size (.int .i64 M1) (.int .i64 N1) (.slice aA L1.length cA)) V1.heap.size (.int .i64 M2) (.int .i64 N2) (.slice aB L2.length cB)) _ _) := Lib.hid (row3 RB0.out (by omega) (by first | omega | (simp [World.setCell] <;> omega)))
        refine reg_take 13 (v := ?_) rfl (by kernel_rfl) (by kernel_rfl) (by kernel_rfl) (fun _ _ _ h => h) (by rfl) (by intro w hSw; (try dsimp only at hSw); go_simp; first | done | with_reducible rfl) hS ?_
        (try simp only [Act.put, List.setIfInBounds_toArray, List.set_cons_zero, List.set_cons_succ])
        refine wpAnyH_done (by kernel_rfl) ?_ _
        have HBW := Lib.hid hS.2.2.2.2.2
        clear hS
        go_wp2_with fail
        go_meet
        exact ⟨_, _, _, _, y3.heap.size, rfl, rfl, HX9, HX10, Lib.hid (RA0.out.wide (by omega) (Nat.le_refl _)), Lib.hid (RB0.out.wide (by omega) (Nat.le_refl _)), by simp [World.setCell] <;> omega, HBW⟩
    · go_simp
      refine hK.out _ _ (KP1.out _ _ (bel0 _ _) hS) (fun hS' => ?_)
      clear hK K hS
      have hS := hS'
      clear hS'
      try (try simp only [Act.put, List.setIfInBounds_toArray, List.set_cons_zero, List.set_cons_succ])
      have hbe : Below U0.heap.size U0 (U0.alloc (.cells #[.int .i64 0, .int .i64 0, .slice none 0 0] 26)) := bel0 _ _
      have HX10 := Lib.hid (BoxL.new U0 (.int .i64 0) (.int .i64 0) (.slice none 0 0) 26)
      have hzV1 : (U0.alloc (.cells #[.int .i64 0, .int .i64 0, .slice none 0 0] 26)).heap.size ≤ U0.heap.size + 1 ∧ U0.heap.size + 1 ≤ (U0.alloc (.cells #[.int .i64 0, .int .i64 0, .slice none 0 0] 26)).heap.size := by simp
      obtain ⟨V1, hV⟩ : ∃ V, V = U0.alloc (.cells #[.int .i64 0, .int .i64 0, .slice none 0 0] 26) := ⟨_, rfl⟩
      rw [← hV] at hS HX10 hzV1 ⊢
      clear hV hbe
      refine reg_two 4 9 rfl rfl (by kernel_rfl) (by rfl) (by rfl) (fun K hK => ?_) (fun K hK => ?_)
      · go_simp
        go_at_call 32
        refine (args_eqL (CS.out _ hS) (by with_reducible rfl)).mono ?_
        rintro e y2 ⟨vA, vB, rfl, RA, RB, hb⟩
        have RA0 := Lib.hid RA
        have RB0 := Lib.hid RB
        obtain ⟨aA, cA, rfl⟩ := RA.form
        obtain ⟨aB, cB, rfl⟩ := RB.form
        clear RA RB
        have hzy2 := hb.size
        have HX10 := Lib.hid (HX10.out.below hb (by omega))
        refine hK.out _ _ (KP1.out _ _ hb hS) (fun hS' => ?_)
        clear hK K hS
        have hS := hS'
        clear hS'
        try (try simp only [Act.put, List.setIfInBounds_toArray, List.set_cons_zero, List.set_cons_succ])
        clear hb
        refine reg_take 5 (v := ?_) rfl (by kernel_rfl) (by kernel_rfl) (by kernel_rfl) (fun _ _ _ h => h) (by rfl) (by intro w hSw; (try dsimp only at hSw); go_simp; first | done | with_reducible rfl) hS ?_
        (try simp only [Act.put, List.setIfInBounds_toArray, List.set_cons_zero, List.set_cons_succ])
        refine reg_take 6 (v := ?_) rfl (by kernel_rfl) (by kernel_rfl) (by kernel_rfl) (fun _ _ _ h => h) (by rfl) (by intro w hSw; (try dsimp only at hSw); go_simp; first | done | with_reducible rfl) hS ?_
        (try simp only [Act.put, List.setIfInBounds_toArray, List.set_cons_zero, List.set_cons_succ])
        refine reg_take 7 (v := ?_) rfl (by kernel_rfl) (by kernel_rfl) (by kernel_rfl) (fun _ _ _ h => h) (by rfl) (by intro w hSw; (try dsimp only at hSw); go_simp; first | done | with_reducible rfl) hS ?_
        (try simp only [Act.put, List.setIfInBounds_toArray, List.set_cons_zero, List.set_cons_succ])
        refine reg_take 8 (v := ?_) rfl (by kernel_rfl) (by kernel_rfl) (by kernel_rfl) (fun _ _ _ h => h) (by rfl) (by intro w hSw; (try dsimp only at hSw); go_simp; first | done | with_reducible rfl) hS ?_
        (try simp only [Act.put, List.setIfInBounds_toArray, List.set_cons_zero, List.set_cons_succ])
        refine reg_call 9 rfl (by kernel_rfl) (by rfl) (fun K hK => ?_)
        go_simp
        refine hK.out _ _ (KP1.out _ _ (bel0 _ _) hS) (fun hS' => ?_)
        clear hK K hS
        have hS := hS'
        clear hS'
        try (try simp only [Act.put, List.setIfInBounds_toArray, List.set_cons_zero, List.set_cons_succ])
        have hbe : Below y2.heap.size y2 (y2.alloc (.cells #[.int .i64 0, .int .i64 0, .slice none 0 0] 26)) := bel0 _ _
        have HX9 := Lib.hid (BoxL.new y2 (.int .i64 0) (.int .i64 0) (.slice none 0 0) 26)
        have hzV3 : (y2.alloc (.cells #[.int .i64 0, .int .i64 0, .slice none 0 0] 26)).heap.size ≤ y2.heap.size + 1 ∧ y2.heap.size + 1 ≤ (y2.alloc (.cells #[.int .i64 0, .int .i64 0, .slice none 0 0] 26)).heap.size := by simp
        have HX10 := Lib.hid (HX10.out.below hbe (by omega))
        have RA0 := Lib.hid (RA0.out.below (hbe.mono (by omega)))
        have RB0 := Lib.hid (RB0.out.below (hbe.mono (by omega)))
        obtain ⟨V3, hV⟩ : ∃ V, V = y2.alloc (.cells #[.int .i64 0, .int .i64 0, .slice none 0 0] 26) := ⟨_, rfl⟩
        rw [← hV] at hS HX10 HX9 hzV3 RA0 RB0 ⊢
        clear hV hbe
        clear KP1
        refine reg_call 11 rfl (by kernel_rfl) (by rfl) (fun K hK => ?_)
        have ec0 := HX9.out.1
        have ec1 := HX9.out.2.1
        have ec2 := HX9.out.2.2.1
        have ec3 := HX9.out.2.2.2.1
        have ec4 := HX9.out.2.2.2.2.1
        have ec5 := HX9.out.2.2.2.2.2
        go_simp
        refine hK.out _ _ (KS1.out _ y2.heap.size (.int .i64 M1) (.int .i64 N1) (.slice aA L1.length cA) (by omega) hS) (fun hS' => ?_)
        clear hK K hS ec0 ec1 ec2 ec3 ec4 ec5
        have hS := hS'
        clear hS'
        try (try simp only [Act.put, List.setIfInBounds_toArray, List.set_cons_zero, List.set_cons_succ])
        have HX9 : Hid (BoxL y2.heap.size (.int .i64 M1) (.int .i64 N1) (.slice aA L1.length cA) (set3 V3 y2.heap.size (.int .i64 M1) (.int .i64 N1) (.slice aA L1.length cA))) := Lib.hid (BoxL.put3 HX9.out)
        have HX10 : Hid (BoxL U0.heap.size (.int .i64 0) (.int .i64 0) (.slice none 0 0) (set3 V3 y2.heap.size (.int .i64 M1) (.int .i64 N1) (.slice aA L1.length cA))) := Lib.hid (BoxL.far3 HX10.out (show y2.heap.size ≠ U0.heap.size by omega))
        have RA0 : Hid (PatIn _ _ (set3 V3 y2.heap.size (.int .i64 M1) (.int .i64 N1) (.slice aA L1.length cA)) _ _) := Lib.hid (row3 RA0.out (by omega) (by first | omega | (simp [World.setCell] <;> omega)))
        have RB0 : Hid (PatIn _ _ (set3 V3 y2.heap.size (.int .i64 M1) (.int .i64 N1) (.slice aA L1.length cA)) _ _) := Lib.hid (row3 RB0.out (by omega) (by first | omega | (simp [World.setCell] <;> omega)))
        refine reg_call 12 rfl (by kernel_rfl) (by rfl) (fun K hK => ?_)
        have ec0 := HX10.out.1
        have ec1 := HX10.out.2.1
        have ec2 := HX10.out.2.2.1
        have ec3 := HX10.out.2.2.2.1
        have ec4 := HX10.out.2.2.2.2.1
        have ec5 := HX10.out.2.2.2.2.2
        go_simp
        refine hK.out _ _ (KS1.out _ U0.heap.size (.int .i64 M2) (.int .i64 N2) (.slice aB L2.length cB) (by omega) hS) (fun hS' => ?_)
        clear hK K hS ec0 ec1 ec2 ec3 ec4 ec5
        have hS := hS'
        clear hS'
        try (try simp only [Act.put, List.setIfInBounds_toArray, List.set_cons_zero, List.set_cons_succ])
        have HX10 : Hid (BoxL U0.heap.size (.int .i64 M2) (.int .i64 N2) (.slice aB L2.length cB) (set3 (set3 V3 y2.heap.size (.int .i64 M1) (.int .i64 N1) (.slice aA L1.length cA)) U0.heap.size (.int .i64 M2) (.int .i64 N2) (.slice aB L2.length cB))) := Lib.hid (BoxL.put3 HX10.out)
        have HX9 : Hid (BoxL y2.heap.size (.int .i64 M1) (.int .i64 N1) (.slice aA L1.length cA) (set3 (set3 V3 y2.heap.size (.int .i64 M1) (.int .i64 N1) (.slice aA L1.length cA)) U0.heap.size (.int .i64 M2) (.int .i64 N2) (.slice aB L2.length cB))) := Lib.hid (BoxL.far3 HX9.out (show U0.heap.size ≠ y2.heap.size by omega))
        have RA0 : Hid (PatIn _ _ (set3 (set3 V3 y2.heap.size (.int .i64 M1) (.int .i64 N1) (.slice aA L1.length cA)) U0.heap.size (.int .i64 M2) (.int .i64 N2) (.slice aB L2.length cB)) _ _) := Lib.hid (row3 RA0.out (by omega) (by first | omega | (simp [World.setCell] <;> omega)))
        have RB0 : Hid (PatIn _ _ (set3 (set3 V3 y2.heap.size (.int .i64 M1) (.int .i64 N1) (.slice aA L1.length cA)) U0.heap.size (.int .i64 M2) (.int .i64 N2) (.slice aB L2.length cB)) _ _) := Lib.hid (row3 RB0.out (by omega) (by first | omega | (simp [World.setCell] <;> omega)))
        refine reg_take 13 (v := ?_) rfl (by kernel_rfl) (by kernel_rfl) (by kernel_rfl) (fun _ _ _ h => h) (by rfl) (by intro w hSw; (try dsimp only at hSw); go_simp; first | done | with_reducible rfl) hS ?_
        (try simp only [Act.put, List.setIfInBounds_toArray, List.set_cons_zero, List.set_cons_succ])
        refine wpAnyH_done (by kernel_rfl) ?_ _
        have HBW := Lib.hid hS.2.2.2.2.2
        clear hS
        go_wp2_with fail
        go_meet
        exact ⟨_, _, _, _, y2.heap.size, rfl, rfl, HX9, HX10, Lib.hid (RA0.out.wide (by omega) (Nat.le_refl _)), Lib.hid (RB0.out.wide (by omega) (Nat.le_refl _)), by simp [World.setCell] <;> omega, HBW⟩
      · go_simp
        refine hK.out _ _ (KP1.out _ _ (bel0 _ _) hS) (fun hS' => ?_)
        clear hK K hS
        have hS := hS'
        clear hS'
        try (try simp only [Act.put, List.setIfInBounds_toArray, List.set_cons_zero, List.set_cons_succ])
        have hbe : Below V1.heap.size V1 (V1.alloc (.cells #[.int .i64 0, .int .i64 0, .slice none 0 0] 26)) := bel0 _ _
        have HX9 := Lib.hid (BoxL.new V1 (.int .i64 0) (.int .i64 0) (.slice none 0 0) 26)
        have hzV2 : (V1.alloc (.cells #[.int .i64 0, .int .i64 0, .slice none 0 0] 26)).heap.size ≤ V1.heap.size + 1 ∧ V1.heap.size + 1 ≤ (V1.alloc (.cells #[.int .i64 0, .int .i64 0, .slice none 0 0] 26)).heap.size := by simp
        have HX10 := Lib.hid (HX10.out.below hbe (by omega))
        obtain ⟨V2, hV⟩ : ∃ V, V = V1.alloc (.cells #[.int .i64 0, .int .i64 0, .slice none 0 0] 26) := ⟨_, rfl⟩
        rw [← hV] at hS HX10 HX9 hzV2 ⊢
        clear hV hbe
        refine reg_call 4 rfl (by kernel_rfl) (by rfl) (fun K hK => ?_)
        go_simp
        go_at_call 32
        refine (args_eqL (CS.out _ hS) (by with_reducible rfl)).mono ?_
        rintro e y3 ⟨vA, vB, rfl, RA, RB, hb⟩
        have RA0 := Lib.hid RA
        have RB0 := Lib.hid RB
        obtain ⟨aA, cA, rfl⟩ := RA.form
        obtain ⟨aB, cB, rfl⟩ := RB.form
        clear RA RB
        have hzy3 := hb.size
        have HX10 := Lib.hid (HX10.out.below hb (by omega))
        have HX9 := Lib.hid (HX9.out.below hb (by omega))
        refine hK.out _ _ (KP1.out _ _ hb hS) (fun hS' => ?_)
        clear hK K hS
        have hS := hS'
        clear hS'
        try (try simp only [Act.put, List.setIfInBounds_toArray, List.set_cons_zero, List.set_cons_succ])
        clear hb
        refine reg_take 5 (v := ?_) rfl (by kernel_rfl) (by kernel_rfl) (by kernel_rfl) (fun _ _ _ h => h) (by rfl) (by intro w hSw; (try dsimp only at hSw); go_simp; first | done | with_reducible rfl) hS ?_
        (try simp only [Act.put, List.setIfInBounds_toArray, List.set_cons_zero, List.set_cons_succ])
        refine reg_take 6 (v := ?_) rfl (by kernel_rfl) (by kernel_rfl) (by kernel_rfl) (fun _ _ _ h => h) (by rfl) (by intro w hSw; (try dsimp only at hSw); go_simp; first | done | with_reducible rfl) hS ?_
        (try simp only [Act.put, List.setIfInBounds_toArray, List.set_cons_zero, List.set_cons_succ])
        refine reg_take 7 (v := ?_) rfl (by kernel_rfl) (by kernel_rfl) (by kernel_rfl) (fun _ _ _ h => h) (by rfl) (by intro w hSw; (try dsimp only at hSw); go_simp; first | done | with_reducible rfl) hS ?_
        (try simp only [Act.put, List.setIfInBounds_toArray, List.set_cons_zero, List.set_cons_succ])
        refine reg_take 8 (v := ?_) rfl (by kernel_rfl) (by kernel_rfl) (by kernel_rfl) (fun _ _ _ h => h) (by rfl) (by intro w hSw; (try dsimp only at hSw); go_simp; first | done | with_reducible rfl) hS ?_
        (try simp only [Act.put, List.setIfInBounds_toArray, List.set_cons_zero, List.set_cons_succ])
        clear KP1
        refine reg_call 11 rfl (by kernel_rfl) (by rfl) (fun K hK => ?_)
        have ec0 := HX9.out.1
        have ec1 := HX9.out.2.1
        have ec2 := HX9.out.2.2.1
        have ec3 := HX9.out.2.2.2.1
        have ec4 := HX9.out.2.2.2.2.1
        have ec5 := HX9.out.2.2.2.2.2
        go_simp
        refine hK.out _ _ (KS1.out _ V1.heap.size (.int .i64 M1) (.int .i64 N1) (.slice aA L1.length cA) (by omega) hS) (fun hS' => ?_)
        clear hK K hS ec0 ec1 ec2 ec3 ec4 ec5
        have hS := hS'
        clear hS'
        try (try simp only [Act.put, List.setIfInBounds_toArray, List.set_cons_zero, List.set_cons_succ])
        have HX9 : Hid (BoxL V1.heap.size (.int .i64 M1) (.int .i64 N1) (.slice aA L1.length cA) (set3 y3 V1.heap.size (.int .i64 M1) (.int .i64 N1) (.slice aA L1.length cA))) := Lib.hid (BoxL.put3 HX9.out)
        have HX10 : Hid (BoxL U0.heap.size (.int .i64 0) (.int .i64 0) (.slice none 0 0) (set3 y3 V1.heap.size (.int .i64 M1) (.int .i64 N1) (.slice aA L1.length cA))) := Lib.hid (BoxL.far3 HX10.out (show V1.heap.size ≠ U0.heap.size by omega))
        have RA0 : Hid (PatIn _ _ (set3 y3 V1.heap.size (.int .i64 M1) (.int .i64 N1) (.slice aA L1.length cA)) _ _) := Lib.hid (row3 RA0.out (by omega) (by first | omega | (simp [World.setCell] <;> omega)))
        have RB0 : Hid (PatIn _ _ (set3 y3 V1.heap.size (.int .i64 M1) (.int .i64 N1) (.slice aA L1.length cA)) _ _) := Lib.hid (row3 RB0.out (by omega) (by first | omega | (simp [World.setCell] <;> omega)))
        refine reg_call 12 rfl (by kernel_rfl) (by rfl) (fun K hK => ?_)
        have ec0 := HX10.out.1
        have ec1 := HX10.out.2.1
        have ec2 := HX10.out.2.2.1
        have ec3 := HX10.out.2.2.2.1
        have ec4 := HX10.out.2.2.2.2.1
        have ec5 := HX10.out.2.2.2.2.2
        go_simp
        refine hK.out _ _ (KS1.out _ U0.heap.size (.int .i64 M2) (.int .i64 N2) (.slice aB L2.length cB) (by omega) hS) (fun hS' => ?_)
        clear hK K hS ec0 ec1 ec2 ec3 ec4 ec5
        have hS := hS'
        clear hS'
        try (try simp only [Act.put, List.setIfInBounds_toArray, List.set_cons_zero, List.set_cons_succ])
        have HX10 : Hid (BoxL U0.heap.size (.int .i64 M2) (.int .i64 N2) (.slice aB L2.length cB) (set3 (set3 y3 V1.heap.size (.int .i64 M1) (.int .i64 N1) (.slice aA L1.length cA)) U0.heap.size (.int .i64 M2) (.int .i64 N2) (.slice aB L2.length cB))) := Lib.hid (BoxL.put3 HX10.out)
        have HX9 : Hid (BoxL V1.heap.size (.int .i64 M1) (.int .i64 N1) (.slice aA L1.length cA) (set3 (set3 y3 V1.heap.size (.int .i64 M1) (.int .i64 N1) (.slice aA L1.length cA)) U0.heap.size (.int .i64 M2) (.int .i64 N2) (.slice aB L2.length cB))) := Lib.hid (BoxL.far3 HX9.out (show U0.heap.size ≠ V1.heap.size by omega))
        have RA0 : Hid (PatIn _ _ (set3 (set3 y3 V1.heap.size (.int .i64 M1) (.int .i64 N1) (.slice aA L1.length cA)) U0.heap.size (.int .i64 M2) (.int .i64 N2) (.slice aB L2.length cB)) _ _) := Lib.hid (row3 RA0.out (by omega) (by first | omega | (simp [World.setCell] <;> omega)))
        have RB0 : Hid (PatIn _ _ (set3 (set3 y3 V1.heap.size (.int .i64 M1) (.int .i64 N1) (.slice aA L1.length cA)) U0.heap.size (.int .i64 M2) (.int .i64 N2) (.slice aB L2.length cB)) _ _) := Lib.hid (row3 RB0.out (by omega) (by first | omega | (simp [World.setCell] <;> omega)))
        refine reg_take 13 (v := ?_) rfl (by kernel_rfl) (by kernel_rfl) (by kernel_rfl) (fun _ _ _ h => h) (by rfl) (by intro w hSw; (try dsimp only at hSw); go_simp; first | done | with_reducible rfl) hS ?_
        (try simp only [Act.put, List.setIfInBounds_toArray, List.set_cons_zero, List.set_cons_succ])
        refine wpAnyH_done (by kernel_rfl) ?_ _
        have HBW := Lib.hid hS.2.2.2.2.2
        clear hS
        go_wp2_with fail
        go_meet
        exact ⟨_, _, _, _, y3.heap.size, rfl, rfl, HX9, HX10, Lib.hid (RA0.out.wide (by omega) (Nat.le_refl _)), Lib.hid (RB0.out.wide (by omega) (Nat.le_refl _)), by simp [World.setCell] <;> omega, HBW⟩
  case rest =>
    obtain ⟨pA, pB, vA, vB, k, rfl, rfl, HA, HB, RA, RB, hk, HBW⟩ := hcut
    have hsx := HBW.out.size
    have BRx := Lib.hid (BR.out.below HBW.out (by omega))
    obtain ⟨a0, a1, a2, _, _, _⟩ := HA.out
    clear BR b0 b1 b2 e0 e1 S0 CS CC KP1 KS1
    go_wp2_with fail
    refine (HIH.out G.heap.size k vA _ RA.out hk).mono ?_
    rintro e y ⟨v', rfl, RY, hby⟩
    obtain ⟨aY, cY, rfl⟩ := RY.form
    have hsy := hby.size
    have BRy := Lib.hid (BRx.out.below hby (by have := BRx.out.lt; omega))
    have HBY : Hid (Below w.heap.size w y) := Lib.hid (bel_c (HB1.out.trans (HBW.out.mono (by omega))) (Nat.le_refl _) hby)
    have RY0 := Lib.hid RY
    obtain ⟨d0, d1, d2, z0, z1, z2⟩ := BRy.out
    clear RY hby RA a0 a1 a2 BRx HBW HB1 HA HB RB
    have k0 := kept (bel0 y (.cells #[.int .i64 M, .int .i64 N, .slice aY X.length cY] 26)) d0
    have k1 := kept (bel0 y (.cells #[.int .i64 M, .int .i64 N, .slice aY X.length cY] 26)) d1
    have k2 := kept (bel0 y (.cells #[.int .i64 M, .int .i64 N, .slice aY X.length cY] 26)) d2
    have j0 := keptF (bel0 y (.cells #[.int .i64 M, .int .i64 N, .slice aY X.length cY] 26)) d0 z0
    have j1 := keptF (bel0 y (.cells #[.int .i64 M, .int .i64 N, .slice aY X.length cY] 26)) d1 z1
    have j2 := keptF (bel0 y (.cells #[.int .i64 M, .int .i64 N, .slice aY X.length cY] 26)) d2 z2
    go_wp2_with fail
    refine bodyPost_ret (v := .tuple #[.agg #[.int .i64 M, .int .i64 N, .slice aY X.length cY], .bool true]) (by simp [results, Try.results35, go_sem, k0, k1, k2]) rfl ⟨_, rfl, ?_, ?_⟩
    · refine PatIn.wide (hi := y.heap.size) (PatIn.set_far (PatIn.set_far (PatIn.set_far (RY0.out.below (bel0 _ _)) ?_ _) ?_ _) ?_ _) ?_ ?_
      all_goals first | omega | (simp [World.setCell] <;> omega)
    · refine Below.setCell (Below.setCell (Below.setCell (bel_n HBY.out ?_ _) ?_ _) ?_ _) ?_ _
      all_goals first | omega | (simp [World.setCell] <;> omega)

set_option maxHeartbeats 6400000 in
set_option maxRecDepth 20000 in
theorem SKnot_right (lo hi : Nat) (m n : Int) (v : Value) (xs : List P5) (c : C2) (rr : List C2) (M N : Int) (X : List P5) (ok : Bool) (w : World) (r : PatIn lo hi w v xs) (hhi : hi ≤ w.heap.size) (lay : LayOk m n xs) (hl1 : xs.length ≠ 1) (hcs : cutsL m n xs = c :: rr)
    (ih : ∀ (lo hi : Nat) (v : Value) (w : World), PatIn lo hi w v (pL1 m n c xs) → hi ≤ w.heap.size → Calls Try.prog 35 #[.agg #[.int .i64 (pM1 m c), .int .i64 (pN1 n c), v]] w (KnotW 0 0 [] false w))
    (ih2 : ∀ (lo hi : Nat) (v : Value) (w : World), PatIn lo hi w v (pL2 m n c xs) → hi ≤ w.heap.size → Calls Try.prog 35 #[.agg #[.int .i64 (pM2 m c), .int .i64 (pN2 n c), v]] w (KnotW M N X ok w)) :
    Calls Try.prog 35 #[.agg #[.int .i64 m, .int .i64 n, v]] w (KnotW M N X ok w) := by
  have hc := first_cut hcs
  obtain ⟨b, cap, rfl⟩ := r.form
  have R := Lib.hid r
  have HL := Lib.hid lay
  have HC := Lib.hid hc
  have hd : ((xs.length : Int) == 1) = false := by simp; omega
  have LK : Hid (∀ u : World, Below w.heap.size w u → Calls Try.prog 20 #[.agg #[.int .i64 m, .int .i64 n, .slice b xs.length cap]] u fun e w' => e = .returned (.bool true) ∧ Below u.heap.size u w') := Lib.hid (fun u hb => by rw [lay_yes lay]; exact SpecLayoutOk_any lo hi m n _ xs u (r.below (hb.mono hhi)) (Nat.le_trans hhi hb.size))
  have CC : Hid (∀ u : World, Below w.heap.size w u → Calls Try.prog 22 #[.agg #[.int .i64 m, .int .i64 n, .slice b xs.length cap]] u (FreshCut (c :: rr) u)) := Lib.hid (fun u hb => by rw [← hcs, ← cuts_yes (lay_yes lay).symm]; exact SpecCutsOf_any lo hi m n _ xs u (r.below (hb.mono hhi)) (Nat.le_trans hhi hb.size))
  have HB0 : Hid (Below w.heap.size w ((w.alloc (.cells #[.int .i64 m, .int .i64 n, .slice b xs.length cap] 26)).alloc (.cells #[.int .i64 0, .int .i64 0, .slice none 0 0] 26))) := Lib.hid (bel_n (bel0 w _) (Nat.le_refl _) _)
  have HIH := Lib.hid ih
  have HIH2 := Lib.hid ih2
  clear r lay hcs hc ih ih2
  go_enter Try.func35, Try.ntmps35
  go_wp2_with fail
  refine (LK.out _ HB0.out).mono ?_
  rintro e w0 ⟨rfl, hb0⟩
  have a0 := kept (p := ⟨w.heap.size, 0, none⟩) (x := .int .i64 m) hb0 (by go_simp)
  have a1 := kept (p := ⟨w.heap.size, 1, none⟩) (x := .int .i64 n) hb0 (by go_simp)
  have a2 := kept (p := ⟨w.heap.size, 2, none⟩) (x := .slice b xs.length cap) hb0 (by go_simp)
  have HB00 := Lib.hid (bel_c HB0.out (Nat.le_refl _) hb0)
  have BRA : BoxL (w.heap.size + 1) (.int .i64 0) (.int .i64 0) (.slice none 0 0) w0 := by
    have := BoxL.new (w.alloc (.cells #[.int .i64 m, .int .i64 n, .slice b xs.length cap] 26)) (.int .i64 0) (.int .i64 0) (.slice none 0 0) 26
    rw [show (w.alloc (.cells #[.int .i64 m, .int .i64 n, .slice b xs.length cap] 26)).heap.size = w.heap.size + 1 by simp] at this
    exact this.below hb0 (by simp)
  have BR := Lib.hid BRA
  have hs00 := hb0.size
  simp at hs00
  clear BRA
  clear hb0
  go_wp2_with fail
  refine (CC.out _ HB00.out).mono ?_
  rintro e w1 ⟨vc, rfl, RC, hb1⟩
  obtain ⟨ac, cc, rfl⟩ := RC.form
  obtain ⟨g, rfl, hg, hg1, ⟨e0, e1⟩, _⟩ := RC.at (Below.refl _ _) (i := 0) (by simp)
  obtain ⟨up, a⟩ := c
  simp only [Nat.zero_mul, Nat.zero_add, List.getD_cons_zero] at e0 e1
  have b0 := kept hb1 a0
  have b1 := kept hb1 a1
  have b2 := kept hb1 a2
  have BR := Lib.hid (BR.out.below hb1 BR.out.lt)
  have hs1 := hb1.size
  have hs0 := HB00.out.size
  have HB1 := Lib.hid (bel_c HB00.out (Nat.le_refl _) hb1)
  clear hb1 RC a0 a1 a2 HB00 HB0
  generalize w1 = G at *
  obtain ⟨M1, hM1⟩ : ∃ M1, M1 = pM1 m ⟨up, a⟩ := ⟨_, rfl⟩
  obtain ⟨N1, hN1⟩ : ∃ N1, N1 = pN1 n ⟨up, a⟩ := ⟨_, rfl⟩
  obtain ⟨M2, hM2⟩ : ∃ M2, M2 = pM2 m ⟨up, a⟩ := ⟨_, rfl⟩
  obtain ⟨N2, hN2⟩ : ∃ N2, N2 = pN2 n ⟨up, a⟩ := ⟨_, rfl⟩
  obtain ⟨L1, hL1⟩ : ∃ L1, L1 = pL1 m n ⟨up, a⟩ xs := ⟨_, rfl⟩
  obtain ⟨L2, hL2⟩ : ∃ L2, L2 = pL2 m n ⟨up, a⟩ xs := ⟨_, rfl⟩
  have D0 : Below G.heap.size G G.drew := ⟨rfl, rfl, rfl, Nat.le_refl _, fun _ _ => rfl⟩
  have CS : Hid (∀ u : World, (u.cell? ⟨w.heap.size, 0, none⟩ = some (.int .i64 m) ∧ u.cell? ⟨w.heap.size, 1, none⟩ = some (.int .i64 n) ∧ u.cell? ⟨w.heap.size, 2, none⟩ = some (.slice b xs.length cap) ∧ u.cell? ⟨g, 0, none⟩ = some (.bool up) ∧ u.cell? ⟨g, 1, none⟩ = some (.int .i64 a) ∧ Below G.heap.size G u) → Calls Try.prog 32 #[.agg #[.int .i64 m, .int .i64 n, .slice b xs.length cap], .agg #[.bool up, .int .i64 a]] u (SplitLW M1 N1 L1 M2 N2 L2 true u)) := Lib.hid (fun u h => by
    have hu := bel_c HB1.out (Nat.le_refl _) h.2.2.2.2.2
    have hcb : cutB m n xs ⟨up, a⟩ = true := by rw [← cut_lay (lay_yes HL.out).symm]; exact HC.out
    have hsp := SpecSplitLayout_any lo hi m n _ xs up a u (R.out.below (hu.mono hhi)) (Nat.le_trans hhi hu.size)
    obtain ⟨e1, e2, e3, e4, e5, e6⟩ := s_yes hcb
    rw [e1, e2, e3, e4, e5, e6, hcb, ← hM1, ← hN1, ← hM2, ← hN2, ← hL1, ← hL2] at hsp
    exact hsp)
  have S0 : G.drew.cell? ⟨w.heap.size, 0, none⟩ = some (.int .i64 m) ∧ G.drew.cell? ⟨w.heap.size, 1, none⟩ = some (.int .i64 n) ∧ G.drew.cell? ⟨w.heap.size, 2, none⟩ = some (.slice b xs.length cap) ∧ G.drew.cell? ⟨g, 0, none⟩ = some (.bool up) ∧ G.drew.cell? ⟨g, 1, none⟩ = some (.int .i64 a) ∧ Below G.heap.size G G.drew := ⟨kept D0 b0, kept D0 b1, kept D0 b2, kept D0 e0, kept D0 e1, D0⟩
  rw [← hM1, ← hN1, ← hL1] at HIH
  rw [← hM2, ← hN2, ← hL2] at HIH2
  clear hM1 hN1 hM2 hN2 hL1 hL2
  have KP : ∀ u v : World, Below u.heap.size u v → (u.cell? ⟨w.heap.size, 0, none⟩ = some (.int .i64 m) ∧ u.cell? ⟨w.heap.size, 1, none⟩ = some (.int .i64 n) ∧ u.cell? ⟨w.heap.size, 2, none⟩ = some (.slice b xs.length cap) ∧ u.cell? ⟨g, 0, none⟩ = some (.bool up) ∧ u.cell? ⟨g, 1, none⟩ = some (.int .i64 a) ∧ Below G.heap.size G u) → (v.cell? ⟨w.heap.size, 0, none⟩ = some (.int .i64 m) ∧ v.cell? ⟨w.heap.size, 1, none⟩ = some (.int .i64 n) ∧ v.cell? ⟨w.heap.size, 2, none⟩ = some (.slice b xs.length cap) ∧ v.cell? ⟨g, 0, none⟩ = some (.bool up) ∧ v.cell? ⟨g, 1, none⟩ = some (.int .i64 a) ∧ Below G.heap.size G v) := fun u v hb h => ⟨kept hb h.1, kept hb h.2.1, kept hb h.2.2.1, kept hb h.2.2.2.1, kept hb h.2.2.2.2.1, bel_c h.2.2.2.2.2 (Nat.le_refl _) hb⟩
  have KS : ∀ (u : World) (p : Nat) (x0 x1 x2 : Value), G.heap.size ≤ p → (u.cell? ⟨w.heap.size, 0, none⟩ = some (.int .i64 m) ∧ u.cell? ⟨w.heap.size, 1, none⟩ = some (.int .i64 n) ∧ u.cell? ⟨w.heap.size, 2, none⟩ = some (.slice b xs.length cap) ∧ u.cell? ⟨g, 0, none⟩ = some (.bool up) ∧ u.cell? ⟨g, 1, none⟩ = some (.int .i64 a) ∧ Below G.heap.size G u) → ((set3 u p x0 x1 x2).cell? ⟨w.heap.size, 0, none⟩ = some (.int .i64 m) ∧ (set3 u p x0 x1 x2).cell? ⟨w.heap.size, 1, none⟩ = some (.int .i64 n) ∧ (set3 u p x0 x1 x2).cell? ⟨w.heap.size, 2, none⟩ = some (.slice b xs.length cap) ∧ (set3 u p x0 x1 x2).cell? ⟨g, 0, none⟩ = some (.bool up) ∧ (set3 u p x0 x1 x2).cell? ⟨g, 1, none⟩ = some (.int .i64 a) ∧ Below G.heap.size G (set3 u p x0 x1 x2)) := fun u p x0 x1 x2 hp h => by
    have h1 : p ≠ w.heap.size := by omega
    have h2 : p ≠ g := by omega
    exact ⟨(set3_far h1).trans h.1, (set3_far h1).trans h.2.1, (set3_far h1).trans h.2.2.1, (set3_far h2).trans h.2.2.2.1, (set3_far h2).trans h.2.2.2.2.1, ((h.2.2.2.2.2.setCell hp _).setCell hp _).setCell hp _⟩
  have KP1 := Lib.hid KP
  have KS1 := Lib.hid KS
  clear KP KS D0
  go_upto_region 6 with fail
  go_cut [5, 6] (fun q t wx => WL G M1 N1 M2 N2 L1 L2 q t wx)
  case first =>
    (try simp only [List.append_eq, List.cons_append, List.nil_append])
    have hS := S0
    refine reg_begin (fun w' => w'.cell? ⟨w.heap.size, 0, none⟩ = some (.int .i64 m) ∧ w'.cell? ⟨w.heap.size, 1, none⟩ = some (.int .i64 n) ∧ w'.cell? ⟨w.heap.size, 2, none⟩ = some (.slice b xs.length cap) ∧ w'.cell? ⟨g, 0, none⟩ = some (.bool up) ∧ w'.cell? ⟨g, 1, none⟩ = some (.int .i64 a) ∧ Below G.heap.size G w') (by kernel_rfl) hS ?_
    refine reg_take 0 (v := ?_) rfl (by kernel_rfl) (by kernel_rfl) (by kernel_rfl) (fun _ _ _ h => h) (by rfl) (by intro w hSw; (try dsimp only at hSw); go_simp; first | done | with_reducible rfl) hS ?_
    (try simp only [Act.put, List.setIfInBounds_toArray, List.set_cons_zero, List.set_cons_succ])
    refine reg_take 1 (v := ?_) rfl (by kernel_rfl) (by kernel_rfl) (by kernel_rfl) (fun _ _ _ h => h) (by rfl) (by intro w hSw; (try dsimp only at hSw); go_simp; first | done | with_reducible rfl) hS ?_
    (try simp only [Act.put, List.setIfInBounds_toArray, List.set_cons_zero, List.set_cons_succ])
    refine reg_take 2 (v := ?_) rfl (by kernel_rfl) (by kernel_rfl) (by kernel_rfl) (fun _ _ _ h => h) (by rfl) (by intro w hSw; (try dsimp only at hSw); go_simp; first | done | with_reducible rfl) hS ?_
    (try simp only [Act.put, List.setIfInBounds_toArray, List.set_cons_zero, List.set_cons_succ])
    refine reg_take 3 (v := ?_) rfl (by kernel_rfl) (by kernel_rfl) (by kernel_rfl) (fun _ _ _ h => h) (by rfl) (by intro w hSw; (try dsimp only at hSw); go_simp; first | done | with_reducible rfl) hS ?_
    (try simp only [Act.put, List.setIfInBounds_toArray, List.set_cons_zero, List.set_cons_succ])
    have hz0 : G.drew.heap.size ≤ G.heap.size ∧ G.heap.size ≤ G.drew.heap.size := ⟨Nat.le_refl _, Nat.le_refl _⟩
    generalize G.drew = U0 at hS hz0 ⊢
    refine reg_three 4 9 10 rfl rfl rfl (by kernel_rfl) (by rfl) (by rfl) (by rfl) (fun K hK => ?_) (fun K hK => ?_) (fun K hK => ?_)
    · go_simp
      go_at_call 32
      refine (args_eqL (CS.out _ hS) (by with_reducible rfl)).mono ?_
      rintro e y1 ⟨vA, vB, rfl, RA, RB, hb⟩
      have RA0 := Lib.hid RA
      have RB0 := Lib.hid RB
      obtain ⟨aA, cA, rfl⟩ := RA.form
      obtain ⟨aB, cB, rfl⟩ := RB.form
      clear RA RB
      have hzy1 := hb.size
      refine hK.out _ _ (KP1.out _ _ hb hS) (fun hS' => ?_)
      clear hK K hS
      have hS := hS'
      clear hS'
      try (try simp only [Act.put, List.setIfInBounds_toArray, List.set_cons_zero, List.set_cons_succ])
      clear hb
      refine reg_take 5 (v := ?_) rfl (by kernel_rfl) (by kernel_rfl) (by kernel_rfl) (fun _ _ _ h => h) (by rfl) (by intro w hSw; (try dsimp only at hSw); go_simp; first | done | with_reducible rfl) hS ?_
      (try simp only [Act.put, List.setIfInBounds_toArray, List.set_cons_zero, List.set_cons_succ])
      refine reg_take 6 (v := ?_) rfl (by kernel_rfl) (by kernel_rfl) (by kernel_rfl) (fun _ _ _ h => h) (by rfl) (by intro w hSw; (try dsimp only at hSw); go_simp; first | done | with_reducible rfl) hS ?_
      (try simp only [Act.put, List.setIfInBounds_toArray, List.set_cons_zero, List.set_cons_succ])
      refine reg_take 7 (v := ?_) rfl (by kernel_rfl) (by kernel_rfl) (by kernel_rfl) (fun _ _ _ h => h) (by rfl) (by intro w hSw; (try dsimp only at hSw); go_simp; first | done | with_reducible rfl) hS ?_
      (try simp only [Act.put, List.setIfInBounds_toArray, List.set_cons_zero, List.set_cons_succ])
      refine reg_take 8 (v := ?_) rfl (by kernel_rfl) (by kernel_rfl) (by kernel_rfl) (fun _ _ _ h => h) (by rfl) (by intro w hSw; (try dsimp only at hSw); go_simp; first | done | with_reducible rfl) hS ?_
      (try simp only [Act.put, List.setIfInBounds_toArray, List.set_cons_zero, List.set_cons_succ])
      refine reg_two 9 10 rfl rfl (by kernel_rfl) (by rfl) (by rfl) (fun K hK => ?_) (fun K hK => ?_)
      · go_simp
        refine hK.out _ _ (KP1.out _ _ (bel0 _ _) hS) (fun hS' => ?_)
        clear hK K hS
        have hS := hS'
        clear hS'
        try (try simp only [Act.put, List.setIfInBounds_toArray, List.set_cons_zero, List.set_cons_succ])
        have hbe : Below y1.heap.size y1 (y1.alloc (.cells #[.int .i64 0, .int .i64 0, .slice none 0 0] 26)) := bel0 _ _
        have HX9 := Lib.hid (BoxL.new y1 (.int .i64 0) (.int .i64 0) (.slice none 0 0) 26)
        have hzV2 : (y1.alloc (.cells #[.int .i64 0, .int .i64 0, .slice none 0 0] 26)).heap.size ≤ y1.heap.size + 1 ∧ y1.heap.size + 1 ≤ (y1.alloc (.cells #[.int .i64 0, .int .i64 0, .slice none 0 0] 26)).heap.size := by simp
        have RA0 := Lib.hid (RA0.out.below (hbe.mono (by omega)))
        have RB0 := Lib.hid (RB0.out.below (hbe.mono (by omega)))
        obtain ⟨V2, hV⟩ : ∃ V, V = y1.alloc (.cells #[.int .i64 0, .int .i64 0, .slice none 0 0] 26) := ⟨_, rfl⟩
        rw [← hV] at hS HX9 hzV2 RA0 RB0 ⊢
        clear hV hbe
        refine reg_call 10 rfl (by kernel_rfl) (by rfl) (fun K hK => ?_)
        go_simp
        refine hK.out _ _ (KP1.out _ _ (bel0 _ _) hS) (fun hS' => ?_)
        clear hK K hS
        have hS := hS'
        clear hS'
        try (try simp only [Act.put, List.setIfInBounds_toArray, List.set_cons_zero, List.set_cons_succ])
        have hbe : Below V2.heap.size V2 (V2.alloc (.cells #[.int .i64 0, .int .i64 0, .slice none 0 0] 26)) := bel0 _ _
        have HX10 := Lib.hid (BoxL.new V2 (.int .i64 0) (.int .i64 0) (.slice none 0 0) 26)
        have hzV3 : (V2.alloc (.cells #[.int .i64 0, .int .i64 0, .slice none 0 0] 26)).heap.size ≤ V2.heap.size + 1 ∧ V2.heap.size + 1 ≤ (V2.alloc (.cells #[.int .i64 0, .int .i64 0, .slice none 0 0] 26)).heap.size := by simp
        have HX9 := Lib.hid (HX9.out.below hbe (by omega))
        have RA0 := Lib.hid (RA0.out.below (hbe.mono (by omega)))
        have RB0 := Lib.hid (RB0.out.below (hbe.mono (by omega)))
        obtain ⟨V3, hV⟩ : ∃ V, V = V2.alloc (.cells #[.int .i64 0, .int .i64 0, .slice none 0 0] 26) := ⟨_, rfl⟩
        rw [← hV] at hS HX9 HX10 hzV3 RA0 RB0 ⊢
        clear hV hbe
        clear KP1
        refine reg_call 11 rfl (by kernel_rfl) (by rfl) (fun K hK => ?_)
        have ec0 := HX9.out.1
        have ec1 := HX9.out.2.1
        have ec2 := HX9.out.2.2.1
        have ec3 := HX9.out.2.2.2.1
        have ec4 := HX9.out.2.2.2.2.1
        have ec5 := HX9.out.2.2.2.2.2
        go_simp
        refine hK.out _ _ (KS1.out _ y1.heap.size (.int .i64 M1) (.int .i64 N1) (.slice aA L1.length cA) (by omega) hS) (fun hS' => ?_)
        clear hK K hS ec0 ec1 ec2 ec3 ec4 ec5
        have hS := hS'
        clear hS'
        try (try simp only [Act.put, List.setIfInBounds_toArray, List.set_cons_zero, List.set_cons_succ])
        have HX9 : Hid (BoxL y1.heap.size (.int .i64 M1) (.int .i64 N1) (.slice aA L1.length cA) (set3 V3 y1.heap.size (.int .i64 M1) (.int .i64 N1) (.slice aA L1.length cA))) := Lib.hid (BoxL.put3 HX9.out)
        have HX10 : Hid (BoxL V2.heap.size (.int .i64 0) (.int .i64 0) (.slice none 0 0) (set3 V3 y1.heap.size (.int .i64 M1) (.int .i64 N1) (.slice aA L1.length cA))) := Lib.hid (BoxL.far3 HX10.out (show y1.heap.size ≠ V2.heap.size by omega))
        have RA0 : Hid (PatIn _ _ (set3 V3 y1.heap.size (.int .i64 M1) (.int .i64 N1) (.slice aA L1.length cA)) _ _) := Lib.hid (row3 RA0.out (by omega) (by first | omega | (simp [World.setCell] <;> omega)))
        have RB0 : Hid (PatIn _ _ (set3 V3 y1.heap.size (.int .i64 M1) (.int .i64 N1) (.slice aA L1.length cA)) _ _) := Lib.hid (row3 RB0.out (by omega) (by first | omega | (simp [World.setCell] <;> omega)))
        refine reg_call 12 rfl (by kernel_rfl) (by rfl) (fun K hK => ?_)
        have ec0 := HX10.out.1
        have ec1 := HX10.out.2.1
        have ec2 := HX10.out.2.2.1
        have ec3 := HX10.out.2.2.2.1
        have ec4 := HX10.out.2.2.2.2.1
        have ec5 := HX10.out.2.2.2.2.2
        go_simp
        refine hK.out _ _ (KS1.out _ V2.heap.size (.int .i64 M2) (.int .i64 N2) (.slice aB L2.length cB) (by omega) hS) (fun hS' => ?_)
        clear hK K hS ec0 ec1 ec2 ec3 ec4 ec5
        have hS := hS'
        clear hS'
        try (try simp only [Act.put, List.setIfInBounds_toArray, List.set_cons_zero, List.set_cons_succ])
        have HX10 : Hid (BoxL V2.heap.size (.int .i64 M2) (.int .i64 N2) (.slice aB L2.length cB) (set3 (set3 V3 y1.heap.size (.int .i64 M1) (.int .i64 N1) (.slice aA L1.length cA)) V2.heap.size (.int .i64 M2) (.int .i64 N2) (.slice aB L2.length cB))) := Lib.hid (BoxL.put3 HX10.out)
        have HX9 : Hid (BoxL y1.heap.size (.int .i64 M1) (.int .i64 N1) (.slice aA L1.length cA) (set3 (set3 V3 y1.heap.size (.int .i64 M1) (.int .i64 N1) (.slice aA L1.length cA)) V2.heap.size (.int .i64 M2) (.int .i64 N2) (.slice aB L2.length cB))) := Lib.hid (BoxL.far3 HX9.out (show V2.heap.size ≠ y1.heap.size by omega))
        have RA0 : Hid (PatIn _ _ (set3 (set3 V3 y1.heap.size (.int .i64 M1) (.int .i64 N1) (.slice aA L1.length cA)) V2.heap.size (.int .i64 M2) (.int .i64 N2) (.slice aB L2.length cB)) _ _) := Lib.hid (row3 RA0.out (by omega) (by first | omega | (simp [World.setCell] <;> omega)))
        have RB0 : Hid (PatIn _ _ (set3 (set3 V3 y1.heap.size (.int .i64 M1) (.int .i64 N1) (.slice aA L1.length cA)) V2.heap.size (.int .i64 M2) (.int .i64 N2) (.slice aB L2.length cB)) _ _) := Lib.hid (row3 RB0.out (by omega) (by first | omega | (simp [World.setCell] <;> omega)))
        refine reg_take 13 (v := ?_) rfl (by kernel_rfl) (by kernel_rfl) (by kernel_rfl) (fun _ _ _ h => h) (by rfl) (by intro w hSw; (try dsimp only at hSw); go_simp; first | done | with_reducible rfl) hS ?_
        (try simp only [Act.put, List.setIfInBounds_toArray, List.set_cons_zero, List.set_cons_succ])
        refine wpAnyH_done (by kernel_rfl) ?_ _
        have HBW := Lib.hid hS.2.2.2.2.2
        clear hS
        go_wp2_with fail
        go_meet
        exact ⟨_, _, _, _, y1.heap.size, rfl, rfl, HX9, HX10, Lib.hid (RA0.out.wide (by omega) (Nat.le_refl _)), Lib.hid (RB0.out.wide (by omega) (Nat.le_refl _)), by simp [World.setCell] <;> omega, HBW⟩
      · go_simp
        refine hK.out _ _ (KP1.out _ _ (bel0 _ _) hS) (fun hS' => ?_)
        clear hK K hS
        have hS := hS'
        clear hS'
        try (try simp only [Act.put, List.setIfInBounds_toArray, List.set_cons_zero, List.set_cons_succ])
        have hbe : Below y1.heap.size y1 (y1.alloc (.cells #[.int .i64 0, .int .i64 0, .slice none 0 0] 26)) := bel0 _ _
        have HX10 := Lib.hid (BoxL.new y1 (.int .i64 0) (.int .i64 0) (.slice none 0 0) 26)
        have hzV2 : (y1.alloc (.cells #[.int .i64 0, .int .i64 0, .slice none 0 0] 26)).heap.size ≤ y1.heap.size + 1 ∧ y1.heap.size + 1 ≤ (y1.alloc (.cells #[.int .i64 0, .int .i64 0, .slice none 0 0] 26)).heap.size := by simp
        have RA0 := Lib.hid (RA0.out.below (hbe.mono (by omega)))
        have RB0 := Lib.hid (RB0.out.below (hbe.mono (by omega)))
        obtain ⟨V2, hV⟩ : ∃ V, V = y1.alloc (.cells #[.int .i64 0, .int .i64 0, .slice none 0 0] 26) := ⟨_, rfl⟩
        rw [← hV] at hS HX10 hzV2 RA0 RB0 ⊢
        clear hV hbe
        refine reg_call 9 rfl (by kernel_rfl) (by rfl) (fun K hK => ?_)
        go_simp
        refine hK.out _ _ (KP1.out _ _ (bel0 _ _) hS) (fun hS' => ?_)
        clear hK K hS
        have hS := hS'
        clear hS'
        try (try simp only [Act.put, List.setIfInBounds_toArray, List.set_cons_zero, List.set_cons_succ])
        have hbe : Below V2.heap.size V2 (V2.alloc (.cells #[.int .i64 0, .int .i64 0, .slice none 0 0] 26)) := bel0 _ _
        have HX9 := Lib.hid (BoxL.new V2 (.int .i64 0) (.int .i64 0) (.slice none 0 0) 26)
        have hzV3 : (V2.alloc (.cells #[.int .i64 0, .int .i64 0, .slice none 0 0] 26)).heap.size ≤ V2.heap.size + 1 ∧ V2.heap.size + 1 ≤ (V2.alloc (.cells #[.int .i64 0, .int .i64 0, .slice none 0 0] 26)).heap.size := by simp
        have HX10 := Lib.hid (HX10.out.below hbe (by omega))
        have RA0 := Lib.hid (RA0.out.below (hbe.mono (by omega)))
        have RB0 := Lib.hid (RB0.out.below (hbe.mono (by omega)))
        obtain ⟨V3, hV⟩ : ∃ V, V = V2.alloc (.cells #[.int .i64 0, .int .i64 0, .slice none 0 0] 26) := ⟨_, rfl⟩
        rw [← hV] at hS HX10 HX9 hzV3 RA0 RB0 ⊢
        clear hV hbe
        clear KP1
        refine reg_call 11 rfl (by kernel_rfl) (by rfl) (fun K hK => ?_)
        have ec0 := HX9.out.1
        have ec1 := HX9.out.2.1
        have ec2 := HX9.out.2.2.1
        have ec3 := HX9.out.2.2.2.1
        have ec4 := HX9.out.2.2.2.2.1
        have ec5 := HX9.out.2.2.2.2.2
        go_simp
        refine hK.out _ _ (KS1.out _ V2.heap.size (.int .i64 M1) (.int .i64 N1) (.slice aA L1.length cA) (by omega) hS) (fun hS' => ?_)
        clear hK K hS ec0 ec1 ec2 ec3 ec4 ec5
        have hS := hS'
        clear hS'
        try (try simp only [Act.put, List.setIfInBounds_toArray, List.set_cons_zero, List.set_cons_succ])
        have HX9 : Hid (BoxL V2.heap.size (.int .i64 M1) (.int .i64 N1) (.slice aA L1.length cA) (set3 V3 V2.heap.size (.int .i64 M1) (.int .i64 N1) (.slice aA L1.length cA))) := Lib.hid (BoxL.put3 HX9.out)
        have HX10 : Hid (BoxL y1.heap.size (.int .i64 0) (.int .i64 0) (.slice none 0 0) (set3 V3 V2.heap.size (.int .i64 M1) (.int .i64 N1) (.slice aA L1.length cA))) := Lib.hid (BoxL.far3 HX10.out (show V2.heap.size ≠ y1.heap.size by omega))
        have RA0 : Hid (PatIn _ _ (set3 V3 V2.heap.size (.int .i64 M1) (.int .i64 N1) (.slice aA L1.length cA)) _ _) := Lib.hid (row3 RA0.out (by omega) (by first | omega | (simp [World.setCell] <;> omega)))
        have RB0 : Hid (PatIn _ _ (set3 V3 V2.heap.size (.int .i64 M1) (.int .i64 N1) (.slice aA L1.length cA)) _ _) := Lib.hid (row3 RB0.out (by omega) (by first | omega | (simp [World.setCell] <;> omega)))
        refine reg_call 12 rfl (by kernel_rfl) (by rfl) (fun K hK => ?_)
        have ec0 := HX10.out.1
        have ec1 := HX10.out.2.1
        have ec2 := HX10.out.2.2.1
        have ec3 := HX10.out.2.2.2.1
        have ec4 := HX10.out.2.2.2.2.1
        have ec5 := HX10.out.2.2.2.2.2
        go_simp
        refine hK.out _ _ (KS1.out _ y1.heap.size (.int .i64 M2) (.int .i64 N2) (.slice aB L2.length cB) (by omega) hS) (fun hS' => ?_)
        clear hK K hS ec0 ec1 ec2 ec3 ec4 ec5
        have hS := hS'
        clear hS'
        try (try simp only [Act.put, List.setIfInBounds_toArray, List.set_cons_zero, List.set_cons_succ])
        have HX10 : Hid (BoxL y1.heap.size (.int .i64 M2) (.int .i64 N2) (.slice aB L2.length cB) (set3 (set3 V3 V2.heap.size (.int .i64 M1) (.int .i64 N1) (.slice aA L1.length cA)) y1.heap.size (.int .i64 M2) (.int .i64 N2) (.slice aB L2.length cB))) := Lib.hid (BoxL.put3 HX10.out)
        have HX9 : Hid (BoxL V2.heap.size (.int .i64 M1) (.int .i64 N1) (.slice aA L1.length cA) (set3 (set3 V3 V2.heap.size (.int .i64 M1) (.int .i64 N1) (.slice aA L1.length cA)) y1.heap.size (.int .i64 M2) (.int .i64 N2) (.slice aB L2.length cB))) := Lib.hid (BoxL.far3 HX9.out (show y1.heap.size ≠ V2.heap.size by omega))
        have RA0 : Hid (PatIn _ _ (set3 (set3 V3 V2.heap.size (.int .i64 M1) (.int .i64 N1) (.slice aA L1.length cA)) y1.heap.size (.int .i64 M2) (.int .i64 N2) (.slice aB L2.length cB)) _ _) := Lib.hid (row3 RA0.out (by omega) (by first | omega | (simp [World.setCell] <;> omega)))
        have RB0 : Hid (PatIn _ _ (set3 (set3 V3 V2.heap.size (.int .i64 M1) (.int .i64 N1) (.slice aA L1.length cA)) y1.heap.size (.int .i64 M2) (.int .i64 N2) (.slice aB L2.length cB)) _ _) := Lib.hid (row3 RB0.out (by omega) (by first | omega | (simp [World.setCell] <;> omega)))
        refine reg_take 13 (v := ?_) rfl (by kernel_rfl) (by kernel_rfl) (by kernel_rfl) (fun _ _ _ h => h) (by rfl) (by intro w hSw; (try dsimp only at hSw); go_simp; first | done | with_reducible rfl) hS ?_
        (try simp only [Act.put, List.setIfInBounds_toArray, List.set_cons_zero, List.set_cons_succ])
        refine wpAnyH_done (by kernel_rfl) ?_ _
        have HBW := Lib.hid hS.2.2.2.2.2
        clear hS
        go_wp2_with fail
        go_meet
        exact ⟨_, _, _, _, y1.heap.size, rfl, rfl, HX9, HX10, Lib.hid (RA0.out.wide (by omega) (Nat.le_refl _)), Lib.hid (RB0.out.wide (by omega) (Nat.le_refl _)), by simp [World.setCell] <;> omega, HBW⟩
    · go_simp
      refine hK.out _ _ (KP1.out _ _ (bel0 _ _) hS) (fun hS' => ?_)
      clear hK K hS
      have hS := hS'
      clear hS'
      try (try simp only [Act.put, List.setIfInBounds_toArray, List.set_cons_zero, List.set_cons_succ])
      have hbe : Below U0.heap.size U0 (U0.alloc (.cells #[.int .i64 0, .int .i64 0, .slice none 0 0] 26)) := bel0 _ _
      have HX9 := Lib.hid (BoxL.new U0 (.int .i64 0) (.int .i64 0) (.slice none 0 0) 26)
      have hzV1 : (U0.alloc (.cells #[.int .i64 0, .int .i64 0, .slice none 0 0] 26)).heap.size ≤ U0.heap.size + 1 ∧ U0.heap.size + 1 ≤ (U0.alloc (.cells #[.int .i64 0, .int .i64 0, .slice none 0 0] 26)).heap.size := by simp
      obtain ⟨V1, hV⟩ : ∃ V, V = U0.alloc (.cells #[.int .i64 0, .int .i64 0, .slice none 0 0] 26) := ⟨_, rfl⟩
      rw [← hV] at hS HX9 hzV1 ⊢
      clear hV hbe
      refine reg_two 4 10 rfl rfl (by kernel_rfl) (by rfl) (by rfl) (fun K hK => ?_) (fun K hK => ?_)
      · go_simp
        go_at_call 32
        refine (args_eqL (CS.out _ hS) (by with_reducible rfl)).mono ?_
        rintro e y2 ⟨vA, vB, rfl, RA, RB, hb⟩
        have RA0 := Lib.hid RA
        have RB0 := Lib.hid RB
        obtain ⟨aA, cA, rfl⟩ := RA.form
        obtain ⟨aB, cB, rfl⟩ := RB.form
        clear RA RB
        have hzy2 := hb.size
        have HX9 := Lib.hid (HX9.out.below hb (by omega))
        refine hK.out _ _ (KP1.out _ _ hb hS) (fun hS' => ?_)
        clear hK K hS
        have hS := hS'
        clear hS'
        try (try simp only [Act.put, List.setIfInBounds_toArray, List.set_cons_zero, List.set_cons_succ])
        clear hb
        refine reg_take 5 (v := ?_) rfl (by kernel_rfl) (by kernel_rfl) (by kernel_rfl) (fun _ _ _ h => h) (by rfl) (by intro w hSw; (try dsimp only at hSw); go_simp; first | done | with_reducible rfl) hS ?_
        (try simp only [Act.put, List.setIfInBounds_toArray, List.set_cons_zero, List.set_cons_succ])
        refine reg_take 6 (v := ?_) rfl (by kernel_rfl) (by kernel_rfl) (by kernel_rfl) (fun _ _ _ h => h) (by rfl) (by intro w hSw; (try dsimp only at hSw); go_simp; first | done | with_reducible rfl) hS ?_
        (try simp only [Act.put, List.setIfInBounds_toArray, List.set_cons_zero, List.set_cons_succ])
        refine reg_take 7 (v := ?_) rfl (by kernel_rfl) (by kernel_rfl) (by kernel_rfl) (fun _ _ _ h => h) (by rfl) (by intro w hSw; (try dsimp only at hSw); go_simp; first | done | with_reducible rfl) hS ?_
        (try simp only [Act.put, List.setIfInBounds_toArray, List.set_cons_zero, List.set_cons_succ])
        refine reg_take 8 (v := ?_) rfl (by kernel_rfl) (by kernel_rfl) (by kernel_rfl) (fun _ _ _ h => h) (by rfl) (by intro w hSw; (try dsimp only at hSw); go_simp; first | done | with_reducible rfl) hS ?_
        (try simp only [Act.put, List.setIfInBounds_toArray, List.set_cons_zero, List.set_cons_succ])
        refine reg_call 10 rfl (by kernel_rfl) (by rfl) (fun K hK => ?_)
        go_simp
        refine hK.out _ _ (KP1.out _ _ (bel0 _ _) hS) (fun hS' => ?_)
        clear hK K hS
        have hS := hS'
        clear hS'
        try (try simp only [Act.put, List.setIfInBounds_toArray, List.set_cons_zero, List.set_cons_succ])
        have hbe : Below y2.heap.size y2 (y2.alloc (.cells #[.int .i64 0, .int .i64 0, .slice none 0 0] 26)) := bel0 _ _
        have HX10 := Lib.hid (BoxL.new y2 (.int .i64 0) (.int .i64 0) (.slice none 0 0) 26)
        have hzV3 : (y2.alloc (.cells #[.int .i64 0, .int .i64 0, .slice none 0 0] 26)).heap.size ≤ y2.heap.size + 1 ∧ y2.heap.size + 1 ≤ (y2.alloc (.cells #[.int .i64 0, .int .i64 0, .slice none 0 0] 26)).heap.size := by simp
        have HX9 := Lib.hid (HX9.out.below hbe (by omega))
        have RA0 := Lib.hid (RA0.out.below (hbe.mono (by omega)))
        have RB0 := Lib.hid (RB0.out.below (hbe.mono (by omega)))
        obtain ⟨V3, hV⟩ : ∃ V, V = y2.alloc (.cells #[.int .i64 0, .int .i64 0, .slice none 0 0] 26) := ⟨_, rfl⟩
        rw [← hV] at hS HX9 HX10 hzV3 RA0 RB0 ⊢
        clear hV hbe
        clear KP1
        refine reg_call 11 rfl (by kernel_rfl) (by rfl) (fun K hK => ?_)
        have ec0 := HX9.out.1
        have ec1 := HX9.out.2.1
        have ec2 := HX9.out.2.2.1
        have ec3 := HX9.out.2.2.2.1
        have ec4 := HX9.out.2.2.2.2.1
        have ec5 := HX9.out.2.2.2.2.2
        go_simp
        refine hK.out _ _ (KS1.out _ U0.heap.size (.int .i64 M1) (.int .i64 N1) (.slice aA L1.length cA) (by omega) hS) (fun hS' => ?_)
        clear hK K hS ec0 ec1 ec2 ec3 ec4 ec5
        have hS := hS'
        clear hS'
        try (try simp only [Act.put, List.setIfInBounds_toArray, List.set_cons_zero, List.set_cons_succ])
        have HX9 : Hid (BoxL U0.heap.size (.int .i64 M1) (.int .i64 N1) (.slice aA L1.length cA) (set3 V3 U0.heap.size (.int .i64 M1) (.int .i64 N1) (.slice aA L1.length cA))) := Lib.hid (BoxL.put3 HX9.out)
        have HX10 : Hid (BoxL y2.heap.size (.int .i64 0) (.int .i64 0) (.slice none 0 0) (set3 V3 U0.heap.size (.int .i64 M1) (.int .i64 N1) (.slice aA L1.length cA))) := Lib.hid (BoxL.far3 HX10.out (show U0.heap.size ≠ y2.heap.size by omega))
        have RA0 : Hid (PatIn _ _ (set3 V3 U0.heap.size (.int .i64 M1) (.int .i64 N1) (.slice aA L1.length cA)) _ _) := Lib.hid (row3 RA0.out (by omega) (by first | omega | (simp [World.setCell] <;> omega)))
        have RB0 : Hid (PatIn _ _ (set3 V3 U0.heap.size (.int .i64 M1) (.int .i64 N1) (.slice aA L1.length cA)) _ _) := Lib.hid (row3 RB0.out (by omega) (by first | omega | (simp [World.setCell] <;> omega)))
        refine reg_call 12 rfl (by kernel_rfl) (by rfl) (fun K hK => ?_)
        have ec0 := HX10.out.1
        have ec1 := HX10.out.2.1
        have ec2 := HX10.out.2.2.1
        have ec3 := HX10.out.2.2.2.1
        have ec4 := HX10.out.2.2.2.2.1
        have ec5 := HX10.out.2.2.2.2.2
        go_simp
        refine hK.out _ _ (KS1.out _ y2.heap.size (.int .i64 M2) (.int .i64 N2) (.slice aB L2.length cB) (by omega) hS) (fun hS' => ?_)
        clear hK K hS ec0 ec1 ec2 ec3 ec4 ec5
        have hS := hS'
        clear hS'
        try (try simp only [Act.put, List.setIfInBounds_toArray, List.set_cons_zero, List.set_cons_succ])
        have HX10 : Hid (BoxL y2.heap.size (.int .i64 M2) (.int .i64 N2) (.slice aB L2.length cB) (set3 (set3 V3 U0.heap.size (.int .i64 M1) (.int .i64 N1) (.slice aA L1.length cA)) y2.heap.size (.int .i64 M2) (.int .i64 N2) (.slice aB L2.length cB))) := Lib.hid (BoxL.put3 HX10.out)
        have HX9 : Hid (BoxL U0.heap.size (.int .i64 M1) (.int .i64 N1) (.slice aA L1.length cA) (set3 (set3 V3 U0.heap.size (.int .i64 M1) (.int .i64 N1) (.slice aA L1.length cA)) y2.heap.size (.int .i64 M2) (.int .i64 N2) (.slice aB L2.length cB))) := Lib.hid (BoxL.far3 HX9.out (show y2.heap.size ≠ U0.heap.size by omega))
        have RA0 : Hid (PatIn _ _ (set3 (set3 V3 U0.heap.size (.int .i64 M1) (.int .i64 N1) (.slice aA L1.length cA)) y2.heap.size (.int .i64 M2) (.int .i64 N2) (.slice aB L2.length cB)) _ _) := Lib.hid (row3 RA0.out (by omega) (by first | omega | (simp [World.setCell] <;> omega)))
        have RB0 : Hid (PatIn _ _ (set3 (set3 V3 U0.heap.size (.int .i64 M1) (.int .i64 N1) (.slice aA L1.length cA)) y2.heap.size (.int .i64 M2) (.int .i64 N2) (.slice aB L2.length cB)) _ _) := Lib.hid (row3 RB0.out (by omega) (by first | omega | (simp [World.setCell] <;> omega)))
        refine reg_take 13 (v := ?_) rfl (by kernel_rfl) (by kernel_rfl) (by kernel_rfl) (fun _ _ _ h => h) (by rfl) (by intro w hSw; (try dsimp only at hSw); go_simp; first | done | with_reducible rfl) hS ?_
        (try simp only [Act.put, List.setIfInBounds_toArray, List.set_cons_zero, List.set_cons_succ])
        refine wpAnyH_done (by kernel_rfl) ?_ _
        have HBW := Lib.hid hS.2.2.2.2.2
        clear hS
        go_wp2_with fail
        go_meet
        exact ⟨_, _, _, _, y2.heap.size, rfl, rfl, HX9, HX10, Lib.hid (RA0.out.wide (by omega) (Nat.le_refl _)), Lib.hid (RB0.out.wide (by omega) (Nat.le_refl _)), by simp [World.setCell] <;> omega, HBW⟩
      · go_simp
        refine hK.out _ _ (KP1.out _ _ (bel0 _ _) hS) (fun hS' => ?_)
        clear hK K hS
        have hS := hS'
        clear hS'
        try (try simp only [Act.put, List.setIfInBounds_toArray, List.set_cons_zero, List.set_cons_succ])
        have hbe : Below V1.heap.size V1 (V1.alloc (.cells #[.int .i64 0, .int .i64 0, .slice none 0 0] 26)) := bel0 _ _
        have HX10 := Lib.hid (BoxL.new V1 (.int .i64 0) (.int .i64 0) (.slice none 0 0) 26)
        have hzV2 : (V1.alloc (.cells #[.int .i64 0, .int .i64 0, .slice none 0 0] 26)).heap.size ≤ V1.heap.size + 1 ∧ V1.heap.size + 1 ≤ (V1.alloc (.cells #[.int .i64 0, .int .i64 0, .slice none 0 0] 26)).heap.size := by simp
        have HX9 := Lib.hid (HX9.out.below hbe (by omega))
        obtain ⟨V2, hV⟩ : ∃ V, V = V1.alloc (.cells #[.int .i64 0, .int .i64 0, .slice none 0 0] 26) := ⟨_, rfl⟩
        rw [← hV] at hS HX9 HX10 hzV2 ⊢
        clear hV hbe
        refine reg_call 4 rfl (by kernel_rfl) (by rfl) (fun K hK => ?_)
        go_simp
        go_at_call 32
        refine (args_eqL (CS.out _ hS) (by with_reducible rfl)).mono ?_
        rintro e y3 ⟨vA, vB, rfl, RA, RB, hb⟩
        have RA0 := Lib.hid RA
        have RB0 := Lib.hid RB
        obtain ⟨aA, cA, rfl⟩ := RA.form
        obtain ⟨aB, cB, rfl⟩ := RB.form
        clear RA RB
        have hzy3 := hb.size
        have HX9 := Lib.hid (HX9.out.below hb (by omega))
        have HX10 := Lib.hid (HX10.out.below hb (by omega))
        refine hK.out _ _ (KP1.out _ _ hb hS) (fun hS' => ?_)
        clear hK K hS
        have hS := hS'
        clear hS'
        try (try simp only [Act.put, List.setIfInBounds_toArray, List.set_cons_zero, List.set_cons_succ])
        clear hb
        refine reg_take 5 (v := ?_) rfl (by kernel_rfl) (by kernel_rfl) (by kernel_rfl) (fun _ _ _ h => h) (by rfl) (by intro w hSw; (try dsimp only at hSw); go_simp; first | done | with_reducible rfl) hS ?_
        (try simp only [Act.put, List.setIfInBounds_toArray, List.set_cons_zero, List.set_cons_succ])
        refine reg_take 6 (v := ?_) rfl (by kernel_rfl) (by kernel_rfl) (by kernel_rfl) (fun _ _ _ h => h) (by rfl) (by intro w hSw; (try dsimp only at hSw); go_simp; first | done | with_reducible rfl) hS ?_
        (try simp only [Act.put, List.setIfInBounds_toArray, List.set_cons_zero, List.set_cons_succ])
        refine reg_take 7 (v := ?_) rfl (by kernel_rfl) (by kernel_rfl) (by kernel_rfl) (fun _ _ _ h => h) (by rfl) (by intro w hSw; (try dsimp only at hSw); go_simp; first | done | with_reducible rfl) hS ?_
        (try simp only [Act.put, List.setIfInBounds_toArray, List.set_cons_zero, List.set_cons_succ])
        refine reg_take 8 (v := ?_) rfl (by kernel_rfl) (by kernel_rfl) (by kernel_rfl) (fun _ _ _ h => h) (by rfl) (by intro w hSw; (try dsimp only at hSw); go_simp; first | done | with_reducible rfl) hS ?_
        (try simp only [Act.put, List.setIfInBounds_toArray, List.set_cons_zero, List.set_cons_succ])
        clear KP1
        refine reg_call 11 rfl (by kernel_rfl) (by rfl) (fun K hK => ?_)
        have ec0 := HX9.out.1
        have ec1 := HX9.out.2.1
        have ec2 := HX9.out.2.2.1
        have ec3 := HX9.out.2.2.2.1
        have ec4 := HX9.out.2.2.2.2.1
        have ec5 := HX9.out.2.2.2.2.2
        go_simp
        refine hK.out _ _ (KS1.out _ U0.heap.size (.int .i64 M1) (.int .i64 N1) (.slice aA L1.length cA) (by omega) hS) (fun hS' => ?_)
        clear hK K hS ec0 ec1 ec2 ec3 ec4 ec5
        have hS := hS'
        clear hS'
        try (try simp only [Act.put, List.setIfInBounds_toArray, List.set_cons_zero, List.set_cons_succ])
        have HX9 : Hid (BoxL U0.heap.size (.int .i64 M1) (.int .i64 N1) (.slice aA L1.length cA) (set3 y3 U0.heap.size (.int .i64 M1) (.int .i64 N1) (.slice aA L1.length cA))) := Lib.hid (BoxL.put3 HX9.out)
        have HX10 : Hid (BoxL V1.heap.size (.int .i64 0) (.int .i64 0) (.slice none 0 0) (set3 y3 U0.heap.size (.int .i64 M1) (.int .i64 N1) (.slice aA L1.length cA))) := Lib.hid (BoxL.far3 HX10.out (show U0.heap.size ≠ V1.heap.size by omega))
        have RA0 : Hid (PatIn _ _ (set3 y3 U0.heap.size (.int .i64 M1) (.int .i64 N1) (.slice aA L1.length cA)) _ _) := Lib.hid (row3 RA0.out (by omega) (by first | omega | (simp [World.setCell] <;> omega)))
        have RB0 : Hid (PatIn _ _ (set3 y3 U0.heap.size (.int .i64 M1) (.int .i64 N1) (.slice aA L1.length cA)) _ _) := Lib.hid (row3 RB0.out (by omega) (by first | omega | (simp [World.setCell] <;> omega)))
        refine reg_call 12 rfl (by kernel_rfl) (by rfl) (fun K hK => ?_)
        have ec0 := HX10.out.1
        have ec1 := HX10.out.2.1
        have ec2 := HX10.out.2.2.1
        have ec3 := HX10.out.2.2.2.1
        have ec4 := HX10.out.2.2.2.2.1
        have ec5 := HX10.out.2.2.2.2.2
        go_simp
        refine hK.out _ _ (KS1.out _ V1.heap.size (.int .i64 M2) (.int .i64 N2) (.slice aB L2.length cB) (by omega) hS) (fun hS' => ?_)
        clear hK K hS ec0 ec1 ec2 ec3 ec4 ec5
        have hS := hS'
        clear hS'
        try (try simp only [Act.put, List.setIfInBounds_toArray, List.set_cons_zero, List.set_cons_succ])
        have HX10 : Hid (BoxL V1.heap.size (.int .i64 M2) (.int .i64 N2) (.slice aB L2.length cB) (set3 (set3 y3 U0.heap.size (.int .i64 M1) (.int .i64 N1) (.slice aA L1.length cA)) V1.heap.size (.int .i64 M2) (.int .i64 N2) (.slice aB L2.length cB))) := Lib.hid (BoxL.put3 HX10.out)
        have HX9 : Hid (BoxL U0.heap.size (.int .i64 M1) (.int .i64 N1) (.slice aA L1.length cA) (set3 (set3 y3 U0.heap.size (.int .i64 M1) (.int .i64 N1) (.slice aA L1.length cA)) V1.heap.size (.int .i64 M2) (.int .i64 N2) (.slice aB L2.length cB))) := Lib.hid (BoxL.far3 HX9.out (show V1.heap.size ≠ U0.heap.size by omega))
        have RA0 : Hid (PatIn _ _ (set3 (set3 y3 U0.heap.size (.int .i64 M1) (.int .i64 N1) (.slice aA L1.length cA)) V1.heap.size (.int .i64 M2) (.int .i64 N2) (.slice aB L2.length cB)) _ _) := Lib.hid (row3 RA0.out (by omega) (by first | omega | (simp [World.setCell] <;> omega)))
        have RB0 : Hid (PatIn _ _ (set3 (set3 y3 U0.heap.size (.int .i64 M1) (.int .i64 N1) (.slice aA L1.length cA)) V1.heap.size (.int .i64 M2) (.int .i64 N2) (.slice aB L2.length cB)) _ _) := Lib.hid (row3 RB0.out (by omega) (by first | omega | (simp [World.setCell] <;> omega)))
        refine reg_take 13 (v := ?_) rfl (by kernel_rfl) (by kernel_rfl) (by kernel_rfl) (fun _ _ _ h => h) (by rfl) (by intro w hSw; (try dsimp only at hSw); go_simp; first | done | with_reducible rfl) hS ?_
        (try simp only [Act.put, List.setIfInBounds_toArray, List.set_cons_zero, List.set_cons_succ])
        refine wpAnyH_done (by kernel_rfl) ?_ _
        have HBW := Lib.hid hS.2.2.2.2.2
        clear hS
        go_wp2_with fail
        go_meet
        exact ⟨_, _, _, _, y3.heap.size, rfl, rfl, HX9, HX10, Lib.hid (RA0.out.wide (by omega) (Nat.le_refl _)), Lib.hid (RB0.out.wide (by omega) (Nat.le_refl _)), by simp [World.setCell] <;> omega, HBW⟩
    · go_simp
      refine hK.out _ _ (KP1.out _ _ (bel0 _ _) hS) (fun hS' => ?_)
      clear hK K hS
      have hS := hS'
      clear hS'
      try (try simp only [Act.put, List.setIfInBounds_toArray, List.set_cons_zero, List.set_cons_succ])
      have hbe : Below U0.heap.size U0 (U0.alloc (.cells #[.int .i64 0, .int .i64 0, .slice none 0 0] 26)) := bel0 _ _
      have HX10 := Lib.hid (BoxL.new U0 (.int .i64 0) (.int .i64 0) (.slice none 0 0) 26)
      have hzV1 : (U0.alloc (.cells #[.int .i64 0, .int .i64 0, .slice none 0 0] 26)).heap.size ≤ U0.heap.size + 1 ∧ U0.heap.size + 1 ≤ (U0.alloc (.cells #[.int .i64 0, .int .i64 0, .slice none 0 0] 26)).heap.size := by simp
      obtain ⟨V1, hV⟩ : ∃ V, V = U0.alloc (.cells #[.int .i64 0, .int .i64 0, .slice none 0 0] 26) := ⟨_, rfl⟩
      rw [← hV] at hS HX10 hzV1 ⊢
      clear hV hbe
      refine reg_two 4 9 rfl rfl (by kernel_rfl) (by rfl) (by rfl) (fun K hK => ?_) (fun K hK => ?_)
      · go_simp
        go_at_call 32
        refine (args_eqL (CS.out _ hS) (by with_reducible rfl)).mono ?_
        rintro e y2 ⟨vA, vB, rfl, RA, RB, hb⟩
        have RA0 := Lib.hid RA
        have RB0 := Lib.hid RB
        obtain ⟨aA, cA, rfl⟩ := RA.form
        obtain ⟨aB, cB, rfl⟩ := RB.form
        clear RA RB
        have hzy2 := hb.size
        have HX10 := Lib.hid (HX10.out.below hb (by omega))
        refine hK.out _ _ (KP1.out _ _ hb hS) (fun hS' => ?_)
        clear hK K hS
        have hS := hS'
        clear hS'
        try (try simp only [Act.put, List.setIfInBounds_toArray, List.set_cons_zero, List.set_cons_succ])
        clear hb
        refine reg_take 5 (v := ?_) rfl (by kernel_rfl) (by kernel_rfl) (by kernel_rfl) (fun _ _ _ h => h) (by rfl) (by intro w hSw; (try dsimp only at hSw); go_simp; first | done | with_reducible rfl) hS ?_
        (try simp only [Act.put, List.setIfInBounds_toArray, List.set_cons_zero, List.set_cons_succ])
        refine reg_take 6 (v := ?_) rfl (by kernel_rfl) (by kernel_rfl) (by kernel_rfl) (fun _ _ _ h => h) (by rfl) (by intro w hSw; (try dsimp only at hSw); go_simp; first | done | with_reducible rfl) hS ?_
        (try simp only [Act.put, List.setIfInBounds_toArray, List.set_cons_zero, List.set_cons_succ])
        refine reg_take 7 (v := ?_) rfl (by kernel_rfl) (by kernel_rfl) (by kernel_rfl) (fun _ _ _ h => h) (by rfl) (by intro w hSw; (try dsimp only at hSw); go_simp; first | done | with_reducible rfl) hS ?_
        (try simp only [Act.put, List.setIfInBounds_toArray, List.set_cons_zero, List.set_cons_succ])
        refine reg_take 8 (v := ?_) rfl (by kernel_rfl) (by kernel_rfl) (by kernel_rfl) (fun _ _ _ h => h) (by rfl) (by intro w hSw; (try dsimp only at hSw); go_simp; first | done | with_reducible rfl) hS ?_
        (try simp only [Act.put, List.setIfInBounds_toArray, List.set_cons_zero, List.set_cons_succ])
        refine reg_call 9 rfl (by kernel_rfl) (by rfl) (fun K hK => ?_)
        go_simp
        refine hK.out _ _ (KP1.out _ _ (bel0 _ _) hS) (fun hS' => ?_)
        clear hK K hS
        have hS := hS'
        clear hS'
        try (try simp only [Act.put, List.setIfInBounds_toArray, List.set_cons_zero, List.set_cons_succ])
        have hbe : Below y2.heap.size y2 (y2.alloc (.cells #[.int .i64 0, .int .i64 0, .slice none 0 0] 26)) := bel0 _ _
        have HX9 := Lib.hid (BoxL.new y2 (.int .i64 0) (.int .i64 0) (.slice none 0 0) 26)
        have hzV3 : (y2.alloc (.cells #[.int .i64 0, .int .i64 0, .slice none 0 0] 26)).heap.size ≤ y2.heap.size + 1 ∧ y2.heap.size + 1 ≤ (y2.alloc (.cells #[.int .i64 0, .int .i64 0, .slice none 0 0] 26)).heap.size := by simp
        have HX10 := Lib.hid (HX10.out.below hbe (by omega))
        have RA0 := Lib.hid (RA0.out.below (hbe.mono (by omega)))
        have RB0 := Lib.hid (RB0.out.below (hbe.mono (by omega)))
        obtain ⟨V3, hV⟩ : ∃ V, V = y2.alloc (.cells #[.int .i64 0, .int .i64 0, .slice none 0 0] 26) := ⟨_, rfl⟩
        rw [← hV] at hS HX10 HX9 hzV3 RA0 RB0 ⊢
        clear hV hbe
        clear KP1
        refine reg_call 11 rfl (by kernel_rfl) (by rfl) (fun K hK => ?_)
        have ec0 := HX9.out.1
        have ec1 := HX9.out.2.1
        have ec2 := HX9.out.2.2.1
        have ec3 := HX9.out.2.2.2.1
        have ec4 := HX9.out.2.2.2.2.1
        have ec5 := HX9.out.2.2.2.2.2
        go_simp
        refine hK.out _ _ (KS1.out _ y2.heap.size (.int .i64 M1) (.int .i64 N1) (.slice aA L1.length cA) (by omega) hS) (fun hS' => ?_)
        clear hK K hS ec0 ec1 ec2 ec3 ec4 ec5
        have hS := hS'
        clear hS'
        try (try simp only [Act.put, List.setIfInBounds_toArray, List.set_cons_zero, List.set_cons_succ])
        have HX9 : Hid (BoxL y2.heap.size (.int .i64 M1) (.int .i64 N1) (.slice aA L1.length cA) (set3 V3 y2.heap.size (.int .i64 M1) (.int .i64 N1) (.slice aA L1.length cA))) := Lib.hid (BoxL.put3 HX9.out)
        have HX10 : Hid (BoxL U0.heap.size (.int .i64 0) (.int .i64 0) (.slice none 0 0) (set3 V3 y2.heap.size (.int .i64 M1) (.int .i64 N1) (.slice aA L1.length cA))) := Lib.hid (BoxL.far3 HX10.out (show y2.heap.size ≠ U0.heap.size by omega))
        have RA0 : Hid (PatIn _ _ (set3 V3 y2.heap.size (.int .i64 M1) (.int .i64 N1) (.slice aA L1.length cA)) _ _) := Lib.hid (row3 RA0.out (by omega) (by first | omega | (simp [World.setCell] <;> omega)))
        have RB0 : Hid (PatIn _ _ (set3 V3 y2.heap.size (.int .i64 M1) (.int .i64 N1) (.slice aA L1.length cA)) _ _) := Lib.hid (row3 RB0.out (by omega) (by first | omega | (simp [World.setCell] <;> omega)))
        refine reg_call 12 rfl (by kernel_rfl) (by rfl) (fun K hK => ?_)
        have ec0 := HX10.out.1
        have ec1 := HX10.out.2.1
        have ec2 := HX10.out.2.2.1
        have ec3 := HX10.out.2.2.2.1
        have ec4 := HX10.out.2.2.2.2.1
        have ec5 := HX10.out.2.2.2.2.2
        go_simp
        refine hK.out _ _ (KS1.out _ U0.heap.size (.int .i64 M2) (.int .i64 N2) (.slice aB L2.length cB) (by omega) hS) (fun hS' => ?_)
        clear hK K hS ec0 ec1 ec2 ec3 ec4 ec5
        have hS := hS'
        clear hS'
        try (try simp only [Act.put, List.setIfInBounds_toArray, List.set_cons_zero, List.set_cons_succ])
        have HX10 : Hid (BoxL U0.heap.size (.int .i64 M2) (.int .i64 N2) (.slice aB L2.length cB) (set3 (set3 V3 y2.heap.size (.int .i64 M1) (.int .i64 N1) (.slice aA L1.length cA)) U0.heap.size (.int .i64 M2) (.int .i64 N2) (.slice aB L2.length cB))) := Lib.hid (BoxL.put3 HX10.out)
        have HX9 : Hid (BoxL y2.heap.size (.int .i64 M1) (.int .i64 N1) (.slice aA L1.length cA) (set3 (set3 V3 y2.heap.size (.int .i64 M1) (.int .i64 N1) (.slice aA L1.length cA)) U0.heap.size (.int .i64 M2) (.int .i64 N2) (.slice aB L2.length cB))) := Lib.hid (BoxL.far3 HX9.out (show U0.heap.size ≠ y2.heap.size by omega))
        have RA0 : Hid (PatIn _ _ (set3 (set3 V3 y2.heap.size (.int .i64 M1) (.int .i64 N1) (.slice aA L1.length cA)) U0.heap.size (.int .i64 M2) (.int .i64 N2) (.slice aB L2.length cB)) _ _) := Lib.hid (row3 RA0.out (by omega) (by first | omega | (simp [World.setCell] <;> omega)))
        have RB0 : Hid (PatIn _ _ (set3 (set3 V3 y2.heap.size (.int .i64 M1) (.int .i64 N1) (.slice aA L1.length cA)) U0.heap.size (.int .i64 M2) (.int .i64 N2) (.slice aB L2.length cB)) _ _) := Lib.hid (row3 RB0.out (by omega) (by first | omega | (simp [World.setCell] <;> omega)))
        refine reg_take 13 (v := ?_) rfl (by kernel_rfl) (by kernel_rfl) (by kernel_rfl) (fun _ _ _ h => h) (by rfl) (by intro w hSw; (try dsimp only at hSw); go_simp; first | done | with_reducible rfl) hS ?_
        (try simp only [Act.put, List.setIfInBounds_toArray, List.set_cons_zero, List.set_cons_succ])
        refine wpAnyH_done (by kernel_rfl) ?_ _
        have HBW := Lib.hid hS.2.2.2.2.2
        clear hS
        go_wp2_with fail
        go_meet
        exact ⟨_, _, _, _, y2.heap.size, rfl, rfl, HX9, HX10, Lib.hid (RA0.out.wide (by omega) (Nat.le_refl _)), Lib.hid (RB0.out.wide (by omega) (Nat.le_refl _)), by simp [World.setCell] <;> omega, HBW⟩
      · go_simp
        refine hK.out _ _ (KP1.out _ _ (bel0 _ _) hS) (fun hS' => ?_)
        clear hK K hS
        have hS := hS'
        clear hS'
        try (try simp only [Act.put, List.setIfInBounds_toArray, List.set_cons_zero, List.set_cons_succ])
        have hbe : Below V1.heap.size V1 (V1.alloc (.cells #[.int .i64 0, .int .i64 0, .slice none 0 0] 26)) := bel0 _ _
        have HX9 := Lib.hid (BoxL.new V1 (.int .i64 0) (.int .i64 0) (.slice none 0 0) 26)
        have hzV2 : (V1.alloc (.cells #[.int .i64 0, .int .i64 0, .slice none 0 0] 26)).heap.size ≤ V1.heap.size + 1 ∧ V1.heap.size + 1 ≤ (V1.alloc (.cells #[.int .i64 0, .int .i64 0, .slice none 0 0] 26)).heap.size := by simp
        have HX10 := Lib.hid (HX10.out.below hbe (by omega))
        obtain ⟨V2, hV⟩ : ∃ V, V = V1.alloc (.cells #[.int .i64 0, .int .i64 0, .slice none 0 0] 26) := ⟨_, rfl⟩
        rw [← hV] at hS HX10 HX9 hzV2 ⊢
        clear hV hbe
        refine reg_call 4 rfl (by kernel_rfl) (by rfl) (fun K hK => ?_)
        go_simp
        go_at_call 32
        refine (args_eqL (CS.out _ hS) (by with_reducible rfl)).mono ?_
        rintro e y3 ⟨vA, vB, rfl, RA, RB, hb⟩
        have RA0 := Lib.hid RA
        have RB0 := Lib.hid RB
        obtain ⟨aA, cA, rfl⟩ := RA.form
        obtain ⟨aB, cB, rfl⟩ := RB.form
        clear RA RB
        have hzy3 := hb.size
        have HX10 := Lib.hid (HX10.out.below hb (by omega))
        have HX9 := Lib.hid (HX9.out.below hb (by omega))
        refine hK.out _ _ (KP1.out _ _ hb hS) (fun hS' => ?_)
        clear hK K hS
        have hS := hS'
        clear hS'
        try (try simp only [Act.put, List.setIfInBounds_toArray, List.set_cons_zero, List.set_cons_succ])
        clear hb
        refine reg_take 5 (v := ?_) rfl (by kernel_rfl) (by kernel_rfl) (by kernel_rfl) (fun _ _ _ h => h) (by rfl) (by intro w hSw; (try dsimp only at hSw); go_simp; first | done | with_reducible rfl) hS ?_
        (try simp only [Act.put, List.setIfInBounds_toArray, List.set_cons_zero, List.set_cons_succ])
        refine reg_take 6 (v := ?_) rfl (by kernel_rfl) (by kernel_rfl) (by kernel_rfl) (fun _ _ _ h => h) (by rfl) (by intro w hSw; (try dsimp only at hSw); go_simp; first | done | with_reducible rfl) hS ?_
        (try simp only [Act.put, List.setIfInBounds_toArray, List.set_cons_zero, List.set_cons_succ])
        refine reg_take 7 (v := ?_) rfl (by kernel_rfl) (by kernel_rfl) (by kernel_rfl) (fun _ _ _ h => h) (by rfl) (by intro w hSw; (try dsimp only at hSw); go_simp; first | done | with_reducible rfl) hS ?_
        (try simp only [Act.put, List.setIfInBounds_toArray, List.set_cons_zero, List.set_cons_succ])
        refine reg_take 8 (v := ?_) rfl (by kernel_rfl) (by kernel_rfl) (by kernel_rfl) (fun _ _ _ h => h) (by rfl) (by intro w hSw; (try dsimp only at hSw); go_simp; first | done | with_reducible rfl) hS ?_
        (try simp only [Act.put, List.setIfInBounds_toArray, List.set_cons_zero, List.set_cons_succ])
        clear KP1
        refine reg_call 11 rfl (by kernel_rfl) (by rfl) (fun K hK => ?_)
        have ec0 := HX9.out.1
        have ec1 := HX9.out.2.1
        have ec2 := HX9.out.2.2.1
        have ec3 := HX9.out.2.2.2.1
        have ec4 := HX9.out.2.2.2.2.1
        have ec5 := HX9.out.2.2.2.2.2
        go_simp
        refine hK.out _ _ (KS1.out _ V1.heap.size (.int .i64 M1) (.int .i64 N1) (.slice aA L1.length cA) (by omega) hS) (fun hS' => ?_)
        clear hK K hS ec0 ec1 ec2 ec3 ec4 ec5
        have hS := hS'
        clear hS'
        try (try simp only [Act.put, List.setIfInBounds_toArray, List.set_cons_zero, List.set_cons_succ])
        have HX9 : Hid (BoxL V1.heap.size (.int .i64 M1) (.int .i64 N1) (.slice aA L1.length cA) (set3 y3 V1.heap.size (.int .i64 M1) (.int .i64 N1) (.slice aA L1.length cA))) := Lib.hid (BoxL.put3 HX9.out)
        have HX10 : Hid (BoxL U0.heap.size (.int .i64 0) (.int .i64 0) (.slice none 0 0) (set3 y3 V1.heap.size (.int .i64 M1) (.int .i64 N1) (.slice aA L1.length cA))) := Lib.hid (BoxL.far3 HX10.out (show V1.heap.size ≠ U0.heap.size by omega))
        have RA0 : Hid (PatIn _ _ (set3 y3 V1.heap.size (.int .i64 M1) (.int .i64 N1) (.slice aA L1.length cA)) _ _) := Lib.hid (row3 RA0.out (by omega) (by first | omega | (simp [World.setCell] <;> omega)))
        have RB0 : Hid (PatIn _ _ (set3 y3 V1.heap.size (.int .i64 M1) (.int .i64 N1) (.slice aA L1.length cA)) _ _) := Lib.hid (row3 RB0.out (by omega) (by first | omega | (simp [World.setCell] <;> omega)))
        refine reg_call 12 rfl (by kernel_rfl) (by rfl) (fun K hK => ?_)
        have ec0 := HX10.out.1
        have ec1 := HX10.out.2.1
        have ec2 := HX10.out.2.2.1
        have ec3 := HX10.out.2.2.2.1
        have ec4 := HX10.out.2.2.2.2.1
        have ec5 := HX10.out.2.2.2.2.2
        go_simp
        refine hK.out _ _ (KS1.out _ U0.heap.size (.int .i64 M2) (.int .i64 N2) (.slice aB L2.length cB) (by omega) hS) (fun hS' => ?_)
        clear hK K hS ec0 ec1 ec2 ec3 ec4 ec5
        have hS := hS'
        clear hS'
        try (try simp only [Act.put, List.setIfInBounds_toArray, List.set_cons_zero, List.set_cons_succ])
        have HX10 : Hid (BoxL U0.heap.size (.int .i64 M2) (.int .i64 N2) (.slice aB L2.length cB) (set3 (set3 y3 V1.heap.size (.int .i64 M1) (.int .i64 N1) (.slice aA L1.length cA)) U0.heap.size (.int .i64 M2) (.int .i64 N2) (.slice aB L2.length cB))) := Lib.hid (BoxL.put3 HX10.out)
        have HX9 : Hid (BoxL V1.heap.size (.int .i64 M1) (.int .i64 N1) (.slice aA L1.length cA) (set3 (set3 y3 V1.heap.size (.int .i64 M1) (.int .i64 N1) (.slice aA L1.length cA)) U0.heap.size (.int .i64 M2) (.int .i64 N2) (.slice aB L2.length cB))) := Lib.hid (BoxL.far3 HX9.out (show U0.heap.size ≠ V1.heap.size by omega))
        have RA0 : Hid (PatIn _ _ (set3 (set3 y3 V1.heap.size (.int .i64 M1) (.int .i64 N1) (.slice aA L1.length cA)) U0.heap.size (.int .i64 M2) (.int .i64 N2) (.slice aB L2.length cB)) _ _) := Lib.hid (row3 RA0.out (by omega) (by first | omega | (simp [World.setCell] <;> omega)))
        have RB0 : Hid (PatIn _ _ (set3 (set3 y3 V1.heap.size (.int .i64 M1) (.int .i64 N1) (.slice aA L1.length cA)) U0.heap.size (.int .i64 M2) (.int .i64 N2) (.slice aB L2.length cB)) _ _) := Lib.hid (row3 RB0.out (by omega) (by first | omega | (simp [World.setCell] <;> omega)))
        refine reg_take 13 (v := ?_) rfl (by kernel_rfl) (by kernel_rfl) (by kernel_rfl) (fun _ _ _ h => h) (by rfl) (by intro w hSw; (try dsimp only at hSw); go_simp; first | done | with_reducible rfl) hS ?_
        (try simp only [Act.put, List.setIfInBounds_toArray, List.set_cons_zero, List.set_cons_succ])
        refine wpAnyH_done (by kernel_rfl) ?_ _
        have HBW := Lib.hid hS.2.2.2.2.2
        clear hS
        go_wp2_with fail
        go_meet
        exact ⟨_, _, _, _, y3.heap.size, rfl, rfl, HX9, HX10, Lib.hid (RA0.out.wide (by omega) (Nat.le_refl _)), Lib.hid (RB0.out.wide (by omega) (Nat.le_refl _)), by simp [World.setCell] <;> omega, HBW⟩
  case rest =>
    obtain ⟨pA, pB, vA, vB, k, rfl, rfl, HA, HB, RA, RB, hk, HBW⟩ := hcut
    have hsx := HBW.out.size
    have BRx := Lib.hid (BR.out.below HBW.out (by omega))
    obtain ⟨a0, a1, a2, _, _, _⟩ := HA.out
    clear BR b0 b1 b2 e0 e1 S0 CS CC KP1 KS1
    go_wp2_with fail
    refine (HIH.out G.heap.size k vA _ RA.out hk).mono ?_
    rintro e y ⟨v', rfl, RY, hby⟩
    obtain ⟨aY, cY, rfl⟩ := RY.form
    have hsy := hby.size
    have BRy := Lib.hid (BRx.out.below hby (by have := BRx.out.lt; omega))
    have HBY : Hid (Below w.heap.size w y) := Lib.hid (bel_c (HB1.out.trans (HBW.out.mono (by omega))) (Nat.le_refl _) hby)
    have HBb := Lib.hid ((HB.out.below hby (by exact HB.out.lt)).below (bel0 y (.cells #[.int .i64 0, .int .i64 0, .slice aY 0 cY] 26)) (by have := HB.out.lt; omega))
    have RBb := Lib.hid ((RB.out.below (hby.mono hk)).below ((bel0 y (.cells #[.int .i64 0, .int .i64 0, .slice aY 0 cY] 26)).mono (by omega)))
    have BRz := Lib.hid (BRy.out.below (bel0 y (.cells #[.int .i64 0, .int .i64 0, .slice aY 0 cY] 26)) (by have := BRx.out.lt; omega))
    have HBZ := Lib.hid (bel_n HBY.out (Nat.le_refl _) (.cells #[.int .i64 0, .int .i64 0, .slice aY 0 cY] 26))
    obtain ⟨c0, c1, c2, _, _, _⟩ := HBb.out
    clear RY hby RA a0 a1 a2 BRx HBW HB1 HB RB BRy HBY HA
    go_wp2_with fail
    refine (HIH2.out G.heap.size k vB _ RBb.out (by simp; omega)).mono ?_
    rintro e z ⟨v2, rfl, RZ, hbz⟩
    obtain ⟨aZ, cZ, rfl⟩ := RZ.form
    have RZ0 := Lib.hid RZ
    have BRw := Lib.hid (BRz.out.below hbz BRz.out.lt)
    have HBY2 : Hid (Below w.heap.size w z) := Lib.hid (bel_c HBZ.out (Nat.le_refl _) hbz)
    have hsz := hbz.size
    simp at hsz
    obtain ⟨d0, d1, d2, z0, z1, z2⟩ := BRw.out
    clear RZ hbz HBb RBb BRz HBZ c0 c1 c2
    go_wp2_with fail
    refine bodyPost_ret (v := .tuple #[.agg #[.int .i64 M, .int .i64 N, .slice aZ X.length cZ], .bool ok]) (by simp [results, Try.results35, go_sem, d0, d1, d2]) rfl ⟨_, rfl, ?_, ?_⟩
    · refine PatIn.wide (lo := y.heap.size) (hi := z.heap.size) (PatIn.set_far (PatIn.set_far (PatIn.set_far (PatIn.wide RZ0.out ?_ (Nat.le_refl _)) ?_ _) ?_ _) ?_ _) ?_ ?_
      all_goals first | omega | (simp [World.setCell] <;> omega)
    · refine Below.setCell (Below.setCell (Below.setCell HBY2.out ?_ _) ?_ _) ?_ _
      all_goals first | omega | (simp [World.setCell] <;> omega)

set_option maxHeartbeats 3200000 in
set_option maxRecDepth 20000 in
theorem SKnot_one (lo hi : Nat) (m n : Int) (v : Value) (xs : List P5) (w : World) (r : PatIn lo hi w v xs) (hhi : hi ≤ w.heap.size) (lay : LayOk m n xs) (hl1 : xs.length = 1) :
    Calls Try.prog 35 #[.agg #[.int .i64 m, .int .i64 n, v]] w (KnotW 0 0 [] false w) := by
  obtain ⟨b, cap, rfl⟩ := r.form
  have LK : Hid (∀ u : World, Below w.heap.size w u → Calls Try.prog 20 #[.agg #[.int .i64 m, .int .i64 n, .slice b xs.length cap]] u fun e w' => e = .returned (.bool true) ∧ Below u.heap.size u w') := Lib.hid (fun u hb => by rw [lay_yes lay]; exact SpecLayoutOk_any lo hi m n _ xs u (r.below (hb.mono hhi)) (Nat.le_trans hhi hb.size))
  rw [hl1] at LK ⊢
  have HB0 : Hid (Below w.heap.size w ((w.alloc (.cells #[.int .i64 m, .int .i64 n, .slice b 1 cap] 26)).alloc (.cells #[.int .i64 0, .int .i64 0, .slice none 0 0] 26))) := Lib.hid (bel_n (bel0 w _) (Nat.le_refl _) _)
  clear r lay
  go_enter Try.func35, Try.ntmps35
  go_wp2_with fail
  refine (LK.out _ HB0.out).mono ?_
  rintro e w0 ⟨rfl, hb0⟩
  have a0 := kept (p := ⟨w.heap.size, 0, none⟩) (x := .int .i64 m) hb0 (by go_simp)
  have a1 := kept (p := ⟨w.heap.size, 1, none⟩) (x := .int .i64 n) hb0 (by go_simp)
  have a2 := kept (p := ⟨w.heap.size, 2, none⟩) (x := .slice b 1 cap) hb0 (by go_simp)
  have BRA : BoxL (w.heap.size + 1) (.int .i64 0) (.int .i64 0) (.slice none 0 0) w0 := by
    have := BoxL.new (w.alloc (.cells #[.int .i64 m, .int .i64 n, .slice b 1 cap] 26)) (.int .i64 0) (.int .i64 0) (.slice none 0 0) 26
    rw [show (w.alloc (.cells #[.int .i64 m, .int .i64 n, .slice b 1 cap] 26)).heap.size = w.heap.size + 1 by simp] at this
    exact this.below hb0 (by simp)
  have BR := Lib.hid BRA
  have hs00 := hb0.size
  simp at hs00
  clear BRA
  obtain ⟨d0, d1, d2, z0, z1, z2⟩ := BR.out
  have HBZ := Lib.hid (bel_c HB0.out (Nat.le_refl _) hb0)
  clear hb0 BR
  go_wp2_with fail
  refine bodyPost_ret (v := .tuple #[.agg #[.int .i64 0, .int .i64 0, .slice none 0 0], .bool false]) (by simp [results, Try.results35, go_sem, d0, d1, d2]) rfl ⟨_, rfl, ⟨by simp, .inl ⟨rfl, _, _, rfl⟩⟩, ?_⟩
  refine Below.setCell (Below.setCell (Below.setCell HBZ.out ?_ _) ?_ _) ?_ _ <;> (simp <;> omega)


set_option maxHeartbeats 6400000 in
set_option maxRecDepth 20000 in
theorem SKnot_here (lo hi : Nat) (m n : Int) (v : Value) (xs : List P5) (w : World) (r : PatIn lo hi w v xs) (hhi : hi ≤ w.heap.size) (lay : LayOk m n xs) (hl1 : xs.length ≠ 1) (hcs : cutsL m n xs = []) :
    Calls Try.prog 35 #[.agg #[.int .i64 m, .int .i64 n, v]] w (KnotW m n xs true w) := by
  obtain ⟨i0, hi0, hz0, hz1, hz2⟩ := info_parts3 info_Pat
  obtain ⟨b, cap, rfl⟩ := r.form
  have R := Lib.hid r
  have hl := r.1
  have h0 : 0 < xs.length := lay.2.2.1.1
  have hd : ((xs.length : Int) == 1) = false := by simp; omega
  have LK : Hid (∀ u : World, Below w.heap.size w u → Calls Try.prog 20 #[.agg #[.int .i64 m, .int .i64 n, .slice b xs.length cap]] u fun e w' => e = .returned (.bool true) ∧ Below u.heap.size u w') := Lib.hid (fun u hb => by rw [lay_yes lay]; exact SpecLayoutOk_any lo hi m n _ xs u (r.below (hb.mono hhi)) (Nat.le_trans hhi hb.size))
  have CC : Hid (∀ u : World, Below w.heap.size w u → Calls Try.prog 22 #[.agg #[.int .i64 m, .int .i64 n, .slice b xs.length cap]] u (FreshCut [] u)) := Lib.hid (fun u hb => by rw [← hcs, ← cuts_yes (lay_yes lay).symm]; exact SpecCutsOf_any lo hi m n _ xs u (r.below (hb.mono hhi)) (Nat.le_trans hhi hb.size))
  have HB0 : Hid (Below w.heap.size w ((w.alloc (.cells #[.int .i64 m, .int .i64 n, .slice b xs.length cap] 26)).alloc (.cells #[.int .i64 0, .int .i64 0, .slice none 0 0] 26))) := Lib.hid (bel_n (bel0 w _) (Nat.le_refl _) _)
  obtain ⟨g, rfl, hg, hg1, hn⟩ := r.news h0
  have HR : Hid (∀ W, Below w.heap.size w W → ∀ (j : Nat) u, (placesPat xs)[j]? = some u → W.cell? ((⟨g, 0, none⟩ : Addr).add j) = some u) := Lib.hid (fun W hb => hn W (hb.mono hhi))
  clear r lay hcs hn
  go_enter Try.func35, Try.ntmps35
  go_wp2_with fail
  refine (LK.out _ HB0.out).mono ?_
  rintro e w0 ⟨rfl, hb0⟩
  have a0 := kept (p := ⟨w.heap.size, 0, none⟩) (x := .int .i64 m) hb0 (by go_simp)
  have a1 := kept (p := ⟨w.heap.size, 1, none⟩) (x := .int .i64 n) hb0 (by go_simp)
  have a2 := kept (p := ⟨w.heap.size, 2, none⟩) (x := .slice (some ⟨g, 0, none⟩) xs.length cap) hb0 (by go_simp)
  have HB00 := Lib.hid (bel_c HB0.out (Nat.le_refl _) hb0)
  have BRA : BoxL (w.heap.size + 1) (.int .i64 0) (.int .i64 0) (.slice none 0 0) w0 := by
    have := BoxL.new (w.alloc (.cells #[.int .i64 m, .int .i64 n, .slice (some ⟨g, 0, none⟩) xs.length cap] 26)) (.int .i64 0) (.int .i64 0) (.slice none 0 0) 26
    rw [show (w.alloc (.cells #[.int .i64 m, .int .i64 n, .slice (some ⟨g, 0, none⟩) xs.length cap] 26)).heap.size = w.heap.size + 1 by simp] at this
    exact this.below hb0 (by simp)
  have BR := Lib.hid BRA
  have hs00 := hb0.size
  simp at hs00
  clear BRA
  clear hb0
  go_wp2_with fail
  refine (CC.out _ HB00.out).mono ?_
  rintro e w1 ⟨vc, rfl, RC, hb1⟩
  obtain ⟨ac, cc, rfl⟩ := RC.form
  have b0 := kept hb1 a0
  have b1 := kept hb1 a1
  have b2 := kept hb1 a2
  have BR := Lib.hid (BR.out.below hb1 BR.out.lt)
  have hs1 := hb1.size
  have hs0 := HB00.out.size
  have HB1 := Lib.hid (bel_c HB00.out (Nat.le_refl _) hb1)
  clear hb1 RC a0 a1 a2 HB00 HB0 LK CC
  generalize w1 = G at *
  have D0 : Below G.heap.size G G.drew := ⟨rfl, rfl, rfl, Nat.le_refl _, fun _ _ => rfl⟩
  have KP : ∀ u v : World, Below u.heap.size u v → (u.cell? ⟨w.heap.size, 0, none⟩ = some (.int .i64 m) ∧ u.cell? ⟨w.heap.size, 1, none⟩ = some (.int .i64 n) ∧ u.cell? ⟨w.heap.size, 2, none⟩ = some (.slice (some ⟨g, 0, none⟩) xs.length cap)) → (v.cell? ⟨w.heap.size, 0, none⟩ = some (.int .i64 m) ∧ v.cell? ⟨w.heap.size, 1, none⟩ = some (.int .i64 n) ∧ v.cell? ⟨w.heap.size, 2, none⟩ = some (.slice (some ⟨g, 0, none⟩) xs.length cap)) := fun u v hb h => ⟨kept hb h.1, kept hb h.2.1, kept hb h.2.2⟩
  have KS : ∀ (u : World) (x0 x1 x2 : Value), (u.cell? ⟨w.heap.size, 0, none⟩ = some (.int .i64 m) ∧ u.cell? ⟨w.heap.size, 1, none⟩ = some (.int .i64 n) ∧ u.cell? ⟨w.heap.size, 2, none⟩ = some (.slice (some ⟨g, 0, none⟩) xs.length cap)) → ((set3 u (w.heap.size + 1) x0 x1 x2).cell? ⟨w.heap.size, 0, none⟩ = some (.int .i64 m) ∧ (set3 u (w.heap.size + 1) x0 x1 x2).cell? ⟨w.heap.size, 1, none⟩ = some (.int .i64 n) ∧ (set3 u (w.heap.size + 1) x0 x1 x2).cell? ⟨w.heap.size, 2, none⟩ = some (.slice (some ⟨g, 0, none⟩) xs.length cap)) := fun u x0 x1 x2 h => ⟨(set3_far (by simp)).trans h.1, (set3_far (by simp)).trans h.2.1, (set3_far (by simp)).trans h.2.2⟩
  have S0 : G.drew.cell? ⟨w.heap.size, 0, none⟩ = some (.int .i64 m) ∧ G.drew.cell? ⟨w.heap.size, 1, none⟩ = some (.int .i64 n) ∧ G.drew.cell? ⟨w.heap.size, 2, none⟩ = some (.slice (some ⟨g, 0, none⟩) xs.length cap) := ⟨kept D0 b0, kept D0 b1, kept D0 b2⟩
  have BE : Below G.heap.size G ((G.alloc (.cells #[] 67)).drew) := bel_dr9 (bel0 _ _)
  have S1 : ((G.alloc (.cells #[] 67)).drew).cell? ⟨w.heap.size, 0, none⟩ = some (.int .i64 m) ∧ ((G.alloc (.cells #[] 67)).drew).cell? ⟨w.heap.size, 1, none⟩ = some (.int .i64 n) ∧ ((G.alloc (.cells #[] 67)).drew).cell? ⟨w.heap.size, 2, none⟩ = some (.slice (some ⟨g, 0, none⟩) xs.length cap) := ⟨kept BE b0, kept BE b1, kept BE b2⟩
  have BRE := Lib.hid (BR.out.below BE BR.out.lt)
  have HGL2 : w.heap.size + 1 < G.heap.size := BR.out.lt
  have HO : Hid (((G.alloc (.cells #[] 67)).drew).ownsRow G.heap.size 67 5 (.slice (some ⟨G.heap.size, 0, none⟩) 0 0) 0 []) := Lib.hid (by
    have := World.ownsRow_lit (base := G.heap.size) (e := 67) (size := 5) G #[] 0 (by simp) (by decide) rfl
    exact owL (by simpa using this) (bel_dr9 (Below.refl _ _)))
  have HN : Hid (∀ (j : Nat) u, (placesPat xs)[j]? = some u → ((G.alloc (.cells #[] 67)).drew).cell? ((⟨g, 0, none⟩ : Addr).add j) = some u) := Lib.hid (HR.out _ (bel_c HB1.out (Nat.le_refl _) BE))
  have HGL : Hid (w.heap.size + 1 < G.heap.size) := Lib.hid BR.out.lt
  clear HR
  go_upto_region 5 with fail
  go_region_held3 (fun w' => w'.cell? ⟨w.heap.size, 0, none⟩ = some (.int .i64 m) ∧ w'.cell? ⟨w.heap.size, 1, none⟩ = some (.int .i64 n) ∧ w'.cell? ⟨w.heap.size, 2, none⟩ = some (.slice (some ⟨g, 0, none⟩) xs.length cap)) (first | assumption | with_reducible exact KS _ _ _ _ (by assumption) | (refine KP _ _ (by assumption) ?_; assumption))
    ((refine step_append_lies _ (by rfl) _ _ _ (by rfl) G.heap.size 67 i0 _ 5 40 Try.underlying24 hi0 hz0 hz1 hz2 rfl (by omega) _ 0 _ (by rfl) HO.out ⟨g, 0, none⟩ xs.length cap (placesPat xs) (by rfl) (placesPat_length xs) HN.out (placesPat_one xs) h0 (by unfold maxLen; omega) (by omega) (by simp) (G.heap.size + 1) (by simp) ?_; intro gg cc w2 hown1 hgrow hat hlt1; have hbw : Below G.heap.size ((G.alloc (.cells #[] 67)).drew) w2 := (Below.refl G.heap.size _).grown hgrow (by simp) (by intro k hk; simp [Value.ownBlock] at hk; omega); have S2 : w2.cell? ⟨w.heap.size, 0, none⟩ = some (.int .i64 m) ∧ w2.cell? ⟨w.heap.size, 1, none⟩ = some (.int .i64 n) ∧ w2.cell? ⟨w.heap.size, 2, none⟩ = some (.slice (some ⟨g, 0, none⟩) xs.length cap) := ⟨(hbw.cell (p := ⟨w.heap.size, 0, none⟩) (by simp; omega)).trans S1.1, (hbw.cell (p := ⟨w.heap.size, 1, none⟩) (by simp; omega)).trans S1.2.1, (hbw.cell (p := ⟨w.heap.size, 2, none⟩) (by simp; omega)).trans S1.2.2⟩; have BX := Lib.hid (BRE.out.below hbw (by omega)); have q0 := BX.out.1; have q1 := BX.out.2.1; have q2 := BX.out.2.2.1; have y0 := BX.out.2.2.2.1; have y1 := BX.out.2.2.2.2.1; have y2 := BX.out.2.2.2.2.2))
  have hin : PatIn G.heap.size w2.heap.size w2 (.slice (some ⟨gg, 0, none⟩) xs.length cc) xs := PatIn.of_owns (xs := xs) (by simpa using hown1) hl
  have HI := Lib.hid hin
  have HBZ := Lib.hid (bel_c HB1.out (Nat.le_refl _) (BE.trans hbw))
  clear hin hbw hown1 hgrow hat hlt1 KP KS HO HN BX BE
  go_wp2_with fail
  refine bodyPost_ret (v := .tuple #[.agg #[.int .i64 m, .int .i64 n, .slice (some ⟨gg, 0, none⟩) xs.length cc], .bool true]) (by simp [results, Try.results35, go_sem, q0, q1, q2]) rfl ⟨_, rfl, ?_, ?_⟩
  · refine PatIn.wide (lo := G.heap.size) (hi := w2.heap.size) (PatIn.set_far (PatIn.set_far (PatIn.set_far HI.out ?_ _) ?_ _) ?_ _) ?_ ?_
    all_goals first | omega | (simp [World.setCell] <;> omega)
  · refine Below.setCell (Below.setCell (Below.setCell HBZ.out ?_ _) ?_ _) ?_ _
    all_goals first | omega | (simp [World.setCell] <;> omega)
theorem SpecKnot_is {m n : Int} {xs : List P5} {q : Option (Int × Int × List P5)} (h : KnotIs m n xs q) : ∀ (lo hi : Nat) (v : Value) (w : World), PatIn lo hi w v xs → hi ≤ w.heap.size →
    Calls Try.prog 35 #[.agg #[.int .i64 m, .int .i64 n, v]] w (KnotW (kM q) (kN q) (kX q) q.isSome w) := by
  induction h with
  | one h hl => intro lo hi v w r hhi; exact SKnot_one lo hi _ _ v _ w r hhi h hl
  | knot h hl hc => intro lo hi v w r hhi; exact SKnot_here lo hi _ _ v _ w r hhi h hl hc
  | left h hl hc h1 ih => intro lo hi v w r hhi; exact SKnot_left lo hi _ _ v _ _ _ _ _ _ w r hhi h hl hc ih
  | right h hl hc h1 h2 ih1 ih2 => intro lo hi v w r hhi; exact SKnot_right lo hi _ _ v _ _ _ _ _ _ _ w r hhi h hl hc ih1 ih2
set_option maxHeartbeats 3200000 in
set_option maxRecDepth 20000 in
theorem SpecFirstKnot_any (lo hi : Nat) (m n : Int) (v : Value) (xs : List P5) (w : World) (r : PatIn lo hi w v xs) (hhi : hi ≤ w.heap.size) :
    Calls Try.prog 35 #[.agg #[.int .i64 m, .int .i64 n, v]] w (KnotW (kM (knotR m n xs)) (kN (knotR m n xs)) (kX (knotR m n xs)) (knotR m n xs).isSome w) := by
  by_cases h : layB m n xs = false
  · rw [knotR_no h]
    show Calls _ _ _ _ (KnotW 0 0 [] false w)
    obtain ⟨b, cap, rfl⟩ := r.form
    have LK : Hid (∀ u : World, Below w.heap.size w u → Calls Try.prog 20 #[.agg #[.int .i64 m, .int .i64 n, .slice b xs.length cap]] u fun e w' => e = .returned (.bool false) ∧ Below u.heap.size u w') := Lib.hid (fun u hb => by rw [← h]; exact SpecLayoutOk_any lo hi m n _ xs u (r.below (hb.mono hhi)) (Nat.le_trans hhi hb.size))
    have HB0 : Hid (Below w.heap.size w ((w.alloc (.cells #[.int .i64 m, .int .i64 n, .slice b xs.length cap] 26)).alloc (.cells #[.int .i64 0, .int .i64 0, .slice none 0 0] 26))) := Lib.hid (bel_n (bel0 w _) (Nat.le_refl _) _)
    clear r h
    go_enter Try.func35, Try.ntmps35
    go_wp2_with fail
    refine (LK.out _ HB0.out).mono ?_
    rintro e w0 ⟨rfl, hb0⟩
    have BRA : BoxL (w.heap.size + 1) (.int .i64 0) (.int .i64 0) (.slice none 0 0) w0 := by
      have := BoxL.new (w.alloc (.cells #[.int .i64 m, .int .i64 n, .slice b xs.length cap] 26)) (.int .i64 0) (.int .i64 0) (.slice none 0 0) 26
      rw [show (w.alloc (.cells #[.int .i64 m, .int .i64 n, .slice b xs.length cap] 26)).heap.size = w.heap.size + 1 by simp] at this
      exact this.below hb0 (by simp)
    have BR := Lib.hid BRA
    have hs00 := hb0.size
    simp at hs00
    clear BRA
    obtain ⟨d0, d1, d2, z0, z1, z2⟩ := BR.out
    have HBZ := Lib.hid (bel_c HB0.out (Nat.le_refl _) hb0)
    clear hb0 BR
    go_wp2_with fail
    refine bodyPost_ret (v := .tuple #[.agg #[.int .i64 0, .int .i64 0, .slice none 0 0], .bool false]) (by simp [results, Try.results35, go_sem, d0, d1, d2]) rfl ⟨_, rfl, ⟨by simp, .inl ⟨rfl, _, _, rfl⟩⟩, ?_⟩
    refine Below.setCell (Below.setCell (Below.setCell HBZ.out ?_ _) ?_ _) ?_ _ <;> (simp <;> omega)
  · have h' : layB m n xs = true := by simpa using h
    exact SpecKnot_is (knotR_is h') lo hi v w r hhi

end Go.Proofs.Ytakjgnkkeefgbaa
