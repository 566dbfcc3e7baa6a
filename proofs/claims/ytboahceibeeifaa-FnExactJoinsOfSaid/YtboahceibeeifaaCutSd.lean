/- Cuts: the model's CanSew and CountSeams. -/
import Derived.Test.YtboahceibeeifaaCutSc
import Derived.Test.YtboahceibeeifaaCutSb
import Derived.Test.YtboahceibeeifaaCutIk
import Derived.Deep.RegionHeld3
import Derived.Deep.DeepCutAuto

set_option linter.unusedSimpArgs false
set_option linter.unusedVariables false
namespace Go.Proofs.Ytboahceibeeifaa
open Go.ChangeShapes Go.WideShapes Go.ChangeAt Go.RowKit

abbrev set3 (u : World) (p : Nat) (x0 x1 x2 : Value) : World := ((u.setCell ⟨p, 0, none⟩ x0).setCell ⟨p, 1, none⟩ x1).setCell ⟨p, 2, none⟩ x2
theorem set3_far {u : World} {p : Nat} {q : Addr} (h : p ≠ q.block) {x0 x1 x2 : Value} : (set3 u p x0 x1 x2).cell? q = u.cell? q := by
  have hn : ∀ o : Nat, (⟨p, o, none⟩ : Addr) ≠ q := fun o e => h (by rw [← e])
  unfold set3
  rw [World.cell?_setCell_other _ _ _ _ (hn _), World.cell?_setCell_other _ _ _ _ (hn _), World.cell?_setCell_other _ _ _ _ (hn _)]
theorem within3 {u : World} {p : Nat} {x0 x1 x2 : Value} : Within p (p + 1) u (set3 u p x0 x1 x2) := by
  unfold set3
  refine Within.setCell (Within.setCell (Within.setCell (Within.refl _ _ _) ?_ ?_ _) ?_ ?_ _) ?_ ?_ _ <;> simp
theorem row3 {lo hi p : Nat} {u : World} {v x0 x1 x2 : Value} {xs : List P5} (r : PatIn lo hi u v xs) (h : hi ≤ p ∨ p < lo) (hh : hi ≤ u.heap.size) : PatIn lo hi (set3 u p x0 x1 x2) v xs :=
  r.within within3 h hh
theorem BoxL.put3 {p : Nat} {x y z x' y' z' : Value} {u : World} (h : BoxL p x y z u) : BoxL p x' y' z' (set3 u p x' y' z') := by
  obtain ⟨h0, h1, h2, f0, f1, f2⟩ := h
  unfold set3
  refine ⟨?_, ?_, ?_, ?_, ?_, ?_⟩
  · rw [World.cell?_setCell_other _ _ _ _ (by simp), World.cell?_setCell_other _ _ _ _ (by simp)]; exact World.cell?_setCell_same _ _ _ h0
  · rw [World.cell?_setCell_other _ _ _ _ (by simp)]; exact World.cell?_setCell_same _ _ _ ((World.cell?_setCell_other _ _ _ _ (by simp)).trans h1)
  · exact World.cell?_setCell_same _ _ _ ((World.cell?_setCell_other _ _ _ _ (by simp)).trans ((World.cell?_setCell_other _ _ _ _ (by simp)).trans h2))
  all_goals
    rw [World.frozen?_setCell, World.frozen?_setCell, World.frozen?_setCell]
    assumption
theorem BoxL.far3 {p q : Nat} {x y z : Value} {u : World} (h : BoxL p x y z u) (hq : q ≠ p) {x0 x1 x2 : Value} : BoxL p x y z (set3 u q x0 x1 x2) := ((h.far hq _).far hq _).far hq _
/-- Two layouts in boxes of their own. -/
def WL (G : World) (M1 N1 M2 N2 : Int) (L1 L2 : List P5) (q t : Value) (u : World) : Prop :=
  ∃ pA pB vA vB k, q = .pointer (some ⟨pA, 0, none⟩) ∧ t = .pointer (some ⟨pB, 0, none⟩) ∧ Hid (BoxL pA (.int .i64 M1) (.int .i64 N1) vA u) ∧ Hid (BoxL pB (.int .i64 M2) (.int .i64 N2) vB u) ∧
    Hid (PatIn G.heap.size k u vA L1) ∧ Hid (PatIn G.heap.size k u vB L2) ∧ k ≤ u.heap.size ∧ Hid (Below G.heap.size G u)

set_option maxHeartbeats 6400000 in
set_option maxRecDepth 20000 in
theorem Sew_left (lo hi : Nat) (m n : Int) (v : Value) (xs : List P5) (c : C2) (rr : List C2) (w : World) (r : PatIn lo hi w v xs) (hhi : hi ≤ w.heap.size) (lay : LayOk m n xs) (hl1 : xs.length ≠ 1) (hcs : cutsL m n xs = c :: rr)
    (ih : ∀ (lo hi : Nat) (v : Value) (w : World), PatIn lo hi w v (pL1 m n c xs) → hi ≤ w.heap.size → Calls Try.prog 12 #[.agg #[.int .i64 (pM1 m c), .int .i64 (pN1 n c), v]] w (fun e w' => e = .returned (.bool false) ∧ Below w.heap.size w w')) :
    Calls Try.prog 12 #[.agg #[.int .i64 m, .int .i64 n, v]] w (fun e w' => e = .returned (.bool false) ∧ Below w.heap.size w w') := by
  have hc := first_cut hcs
  obtain ⟨b, cap, rfl⟩ := r.form
  have R := Lib.hid r
  have HL := Lib.hid lay
  have HC := Lib.hid hc
  have hd : ((xs.length : Int) == 1) = false := by simp; omega
  have LK : Hid (∀ u : World, Below w.heap.size w u → Calls Try.prog 37 #[.agg #[.int .i64 m, .int .i64 n, .slice b xs.length cap]] u fun e w' => e = .returned (.bool true) ∧ Below u.heap.size u w') := Lib.hid (fun u hb => by rw [lay_yes lay]; exact SpecLayoutOk_any lo hi m n _ xs u (r.below (hb.mono hhi)) (Nat.le_trans hhi hb.size))
  have CC : Hid (∀ u : World, Below w.heap.size w u → Calls Try.prog 38 #[.agg #[.int .i64 m, .int .i64 n, .slice b xs.length cap]] u (FreshCut (c :: rr) u)) := Lib.hid (fun u hb => by rw [← hcs, ← cuts_yes (lay_yes lay).symm]; exact SpecCutsOf_any lo hi m n _ xs u (r.below (hb.mono hhi)) (Nat.le_trans hhi hb.size))
  have HB0 : Hid (Below w.heap.size w (w.alloc (.cells #[.int .i64 m, .int .i64 n, .slice b xs.length cap] 26))) := Lib.hid (bel0 w _)
  have HIH := Lib.hid ih
  clear r lay hcs hc ih
  go_enter Try.func12, Try.ntmps12
  go_wp2_with fail
  refine (LK.out _ HB0.out).mono ?_
  rintro e w0 ⟨rfl, hb0⟩
  have a0 := kept (p := ⟨w.heap.size, 0, none⟩) (x := .int .i64 m) hb0 (by go_simp)
  have a1 := kept (p := ⟨w.heap.size, 1, none⟩) (x := .int .i64 n) hb0 (by go_simp)
  have a2 := kept (p := ⟨w.heap.size, 2, none⟩) (x := .slice b xs.length cap) hb0 (by go_simp)
  have HB00 := Lib.hid (bel_c HB0.out (Nat.le_refl _) hb0)
  clear hb0
  go_wp2_with fail
  refine (CC.out _ HB00.out).mono ?_
  rintro e w1 ⟨vc, rfl, RC, hb1⟩
  obtain ⟨ac, cc, rfl⟩ := RC.form
  obtain ⟨g, rfl, hg, hg1, ⟨e0, e1⟩, _⟩ := RC.at (Below.refl _ _) (i := 0) (by simp)
  obtain ⟨up, a⟩ := c
  simp only [Nat.zero_mul, Nat.zero_add, List.getD_cons_zero] at e0 e1
  have b0 := kept hb1 a0
  have b1 := kept hb1 a1
  have b2 := kept hb1 a2
  have hs1 := hb1.size
  have hs0 := HB00.out.size
  have HB1 := Lib.hid (bel_c HB00.out (Nat.le_refl _) hb1)
  clear hb1 RC a0 a1 a2 HB00 HB0
  generalize w1 = G at *
  obtain ⟨M1, hM1⟩ : ∃ M1, M1 = pM1 m ⟨up, a⟩ := ⟨_, rfl⟩
  obtain ⟨N1, hN1⟩ : ∃ N1, N1 = pN1 n ⟨up, a⟩ := ⟨_, rfl⟩
  obtain ⟨M2, hM2⟩ : ∃ M2, M2 = pM2 m ⟨up, a⟩ := ⟨_, rfl⟩
  obtain ⟨N2, hN2⟩ : ∃ N2, N2 = pN2 n ⟨up, a⟩ := ⟨_, rfl⟩
  obtain ⟨L1, hL1⟩ : ∃ L1, L1 = pL1 m n ⟨up, a⟩ xs := ⟨_, rfl⟩
  obtain ⟨L2, hL2⟩ : ∃ L2, L2 = pL2 m n ⟨up, a⟩ xs := ⟨_, rfl⟩
  have D0 : Below G.heap.size G G.drew := ⟨rfl, rfl, rfl, Nat.le_refl _, fun _ _ => rfl⟩
  have CS : Hid (∀ u : World, (u.cell? ⟨w.heap.size, 0, none⟩ = some (.int .i64 m) ∧ u.cell? ⟨w.heap.size, 1, none⟩ = some (.int .i64 n) ∧ u.cell? ⟨w.heap.size, 2, none⟩ = some (.slice b xs.length cap) ∧ u.cell? ⟨g, 0, none⟩ = some (.bool up) ∧ u.cell? ⟨g, 1, none⟩ = some (.int .i64 a) ∧ Below G.heap.size G u) → Calls Try.prog 39 #[.agg #[.int .i64 m, .int .i64 n, .slice b xs.length cap], .agg #[.bool up, .int .i64 a]] u (SplitLW M1 N1 L1 M2 N2 L2 true u)) := Lib.hid (fun u h => by
    have hu := bel_c HB1.out (Nat.le_refl _) h.2.2.2.2.2
    have hcb : cutB m n xs ⟨up, a⟩ = true := by rw [← cut_lay (lay_yes HL.out).symm]; exact HC.out
    have hsp := SpecSplitLayout_any lo hi m n _ xs up a u (R.out.below (hu.mono hhi)) (Nat.le_trans hhi hu.size)
    obtain ⟨e1, e2, e3, e4, e5, e6⟩ := s_yes hcb
    rw [e1, e2, e3, e4, e5, e6, hcb, ← hM1, ← hN1, ← hM2, ← hN2, ← hL1, ← hL2] at hsp
    exact hsp)
  have S0 : G.drew.cell? ⟨w.heap.size, 0, none⟩ = some (.int .i64 m) ∧ G.drew.cell? ⟨w.heap.size, 1, none⟩ = some (.int .i64 n) ∧ G.drew.cell? ⟨w.heap.size, 2, none⟩ = some (.slice b xs.length cap) ∧ G.drew.cell? ⟨g, 0, none⟩ = some (.bool up) ∧ G.drew.cell? ⟨g, 1, none⟩ = some (.int .i64 a) ∧ Below G.heap.size G G.drew := ⟨kept D0 b0, kept D0 b1, kept D0 b2, kept D0 e0, kept D0 e1, D0⟩
  rw [← hM1, ← hN1, ← hL1] at HIH
  clear hM1 hN1 hM2 hN2 hL1 hL2
  have KP : ∀ u v : World, Below u.heap.size u v → (u.cell? ⟨w.heap.size, 0, none⟩ = some (.int .i64 m) ∧ u.cell? ⟨w.heap.size, 1, none⟩ = some (.int .i64 n) ∧ u.cell? ⟨w.heap.size, 2, none⟩ = some (.slice b xs.length cap) ∧ u.cell? ⟨g, 0, none⟩ = some (.bool up) ∧ u.cell? ⟨g, 1, none⟩ = some (.int .i64 a) ∧ Below G.heap.size G u) → (v.cell? ⟨w.heap.size, 0, none⟩ = some (.int .i64 m) ∧ v.cell? ⟨w.heap.size, 1, none⟩ = some (.int .i64 n) ∧ v.cell? ⟨w.heap.size, 2, none⟩ = some (.slice b xs.length cap) ∧ v.cell? ⟨g, 0, none⟩ = some (.bool up) ∧ v.cell? ⟨g, 1, none⟩ = some (.int .i64 a) ∧ Below G.heap.size G v) := fun u v hb h => ⟨kept hb h.1, kept hb h.2.1, kept hb h.2.2.1, kept hb h.2.2.2.1, kept hb h.2.2.2.2.1, bel_c h.2.2.2.2.2 (Nat.le_refl _) hb⟩
  have KS : ∀ (u : World) (p : Nat) (x0 x1 x2 : Value), G.heap.size ≤ p → (u.cell? ⟨w.heap.size, 0, none⟩ = some (.int .i64 m) ∧ u.cell? ⟨w.heap.size, 1, none⟩ = some (.int .i64 n) ∧ u.cell? ⟨w.heap.size, 2, none⟩ = some (.slice b xs.length cap) ∧ u.cell? ⟨g, 0, none⟩ = some (.bool up) ∧ u.cell? ⟨g, 1, none⟩ = some (.int .i64 a) ∧ Below G.heap.size G u) → ((set3 u p x0 x1 x2).cell? ⟨w.heap.size, 0, none⟩ = some (.int .i64 m) ∧ (set3 u p x0 x1 x2).cell? ⟨w.heap.size, 1, none⟩ = some (.int .i64 n) ∧ (set3 u p x0 x1 x2).cell? ⟨w.heap.size, 2, none⟩ = some (.slice b xs.length cap) ∧ (set3 u p x0 x1 x2).cell? ⟨g, 0, none⟩ = some (.bool up) ∧ (set3 u p x0 x1 x2).cell? ⟨g, 1, none⟩ = some (.int .i64 a) ∧ Below G.heap.size G (set3 u p x0 x1 x2)) := fun u p x0 x1 x2 hp h => by
    have h1 : p ≠ w.heap.size := by omega
    have h2 : p ≠ g := by omega
    exact ⟨(set3_far h1).trans h.1, (set3_far h1).trans h.2.1, (set3_far h1).trans h.2.2.1, (set3_far h2).trans h.2.2.2.1, (set3_far h2).trans h.2.2.2.2.1, ((h.2.2.2.2.2.setCell hp _).setCell hp _).setCell hp _⟩
  have KP1 := Lib.hid KP
  have KS1 := Lib.hid KS
  clear KP KS D0
  go_upto_region 8 with fail
  go_cut [4, 5] (fun q t wx => WL G M1 N1 M2 N2 L1 L2 q t wx)
  case first =>
    (try simp only [List.append_eq, List.cons_append, List.nil_append])
    have hS := S0
    refine reg_begin (fun w' => w'.cell? ⟨w.heap.size, 0, none⟩ = some (.int .i64 m) ∧ w'.cell? ⟨w.heap.size, 1, none⟩ = some (.int .i64 n) ∧ w'.cell? ⟨w.heap.size, 2, none⟩ = some (.slice b xs.length cap) ∧ w'.cell? ⟨g, 0, none⟩ = some (.bool up) ∧ w'.cell? ⟨g, 1, none⟩ = some (.int .i64 a) ∧ Below G.heap.size G w') (by kernel_rfl) hS ?_
    refine reg_take 0 (v := ?_) rfl (by kernel_rfl) (by kernel_rfl) (by kernel_rfl) (fun _ _ _ h => h) (by rfl) (by intro w hSw; (try dsimp only at hSw); go_simp; first | done | with_reducible rfl) hS ?_
    (try simp only [Act.put, List.setIfInBounds_toArray, List.set_cons_zero, List.set_cons_succ])
    refine reg_take 1 (v := ?_) rfl (by kernel_rfl) (by kernel_rfl) (by kernel_rfl) (fun _ _ _ h => h) (by rfl) (by intro w hSw; (try dsimp only at hSw); go_simp; first | done | with_reducible rfl) hS ?_
    (try simp only [Act.put, List.setIfInBounds_toArray, List.set_cons_zero, List.set_cons_succ])
    refine reg_take 2 (v := ?_) rfl (by kernel_rfl) (by kernel_rfl) (by kernel_rfl) (fun _ _ _ h => h) (by rfl) (by intro w hSw; (try dsimp only at hSw); go_simp; first | done | with_reducible rfl) hS ?_
    (try simp only [Act.put, List.setIfInBounds_toArray, List.set_cons_zero, List.set_cons_succ])
    refine reg_take 3 (v := ?_) rfl (by kernel_rfl) (by kernel_rfl) (by kernel_rfl) (fun _ _ _ h => h) (by rfl) (by intro w hSw; (try dsimp only at hSw); go_simp; first | done | with_reducible rfl) hS ?_
    (try simp only [Act.put, List.setIfInBounds_toArray, List.set_cons_zero, List.set_cons_succ])
    have hz0 : G.drew.heap.size ≤ G.heap.size ∧ G.heap.size ≤ G.drew.heap.size := ⟨Nat.le_refl _, Nat.le_refl _⟩
    generalize G.drew = U0 at hS hz0 ⊢
    refine reg_three 4 9 10 rfl rfl rfl (by kernel_rfl) (by rfl) (by rfl) (by rfl) (fun K hK => ?_) (fun K hK => ?_) (fun K hK => ?_)
    · go_simp
      go_at_call 39
      refine (args_eqL (CS.out _ hS) (by with_reducible rfl)).mono ?_
      rintro e y1 ⟨vA, vB, rfl, RA, RB, hb⟩
      have RA0 := Lib.hid RA
      have RB0 := Lib.hid RB
      obtain ⟨aA, cA, rfl⟩ := RA.form
      obtain ⟨aB, cB, rfl⟩ := RB.form
      clear RA RB
      have hzy1 := hb.size
      refine hK.out _ _ (KP1.out _ _ hb hS) (fun hS' => ?_)
      clear hK K hS
      have hS := hS'
      clear hS'
      try (try simp only [Act.put, List.setIfInBounds_toArray, List.set_cons_zero, List.set_cons_succ])
      clear hb
      refine reg_take 5 (v := ?_) rfl (by kernel_rfl) (by kernel_rfl) (by kernel_rfl) (fun _ _ _ h => h) (by rfl) (by intro w hSw; (try dsimp only at hSw); go_simp; first | done | with_reducible rfl) hS ?_
      (try simp only [Act.put, List.setIfInBounds_toArray, List.set_cons_zero, List.set_cons_succ])
      refine reg_take 6 (v := ?_) rfl (by kernel_rfl) (by kernel_rfl) (by kernel_rfl) (fun _ _ _ h => h) (by rfl) (by intro w hSw; (try dsimp only at hSw); go_simp; first | done | with_reducible rfl) hS ?_
      (try simp only [Act.put, List.setIfInBounds_toArray, List.set_cons_zero, List.set_cons_succ])
      refine reg_take 7 (v := ?_) rfl (by kernel_rfl) (by kernel_rfl) (by kernel_rfl) (fun _ _ _ h => h) (by rfl) (by intro w hSw; (try dsimp only at hSw); go_simp; first | done | with_reducible rfl) hS ?_
      (try simp only [Act.put, List.setIfInBounds_toArray, List.set_cons_zero, List.set_cons_succ])
      refine reg_take 8 (v := ?_) rfl (by kernel_rfl) (by kernel_rfl) (by kernel_rfl) (fun _ _ _ h => h) (by rfl) (by intro w hSw; (try dsimp only at hSw); go_simp; first | done | with_reducible rfl) hS ?_
      (try simp only [Act.put, List.setIfInBounds_toArray, List.set_cons_zero, List.set_cons_succ])
      refine reg_two 9 10 rfl rfl (by kernel_rfl) (by rfl) (by rfl) (fun K hK => ?_) (fun K hK => ?_)
      · go_simp
        refine hK.out _ _ (KP1.out _ _ (bel0 _ _) hS) (fun hS' => ?_)
        clear hK K hS
        have hS := hS'
        clear hS'
        try (try simp only [Act.put, List.setIfInBounds_toArray, List.set_cons_zero, List.set_cons_succ])
        have hbe : Below y1.heap.size y1 (y1.alloc (.cells #[.int .i64 0, .int .i64 0, .slice none 0 0] 26)) := bel0 _ _
        have HX9 := Lib.hid (BoxL.new y1 (.int .i64 0) (.int .i64 0) (.slice none 0 0) 26)
        have hzV2 : (y1.alloc (.cells #[.int .i64 0, .int .i64 0, .slice none 0 0] 26)).heap.size ≤ y1.heap.size + 1 ∧ y1.heap.size + 1 ≤ (y1.alloc (.cells #[.int .i64 0, .int .i64 0, .slice none 0 0] 26)).heap.size := by simp
        have RA0 := Lib.hid (RA0.out.below (hbe.mono (by omega)))
        have RB0 := Lib.hid (RB0.out.below (hbe.mono (by omega)))
        obtain ⟨V2, hV⟩ : ∃ V, V = y1.alloc (.cells #[.int .i64 0, .int .i64 0, .slice none 0 0] 26) := ⟨_, rfl⟩
        rw [← hV] at hS HX9 hzV2 RA0 RB0 ⊢
        clear hV hbe
        refine reg_call 10 rfl (by kernel_rfl) (by rfl) (fun K hK => ?_)
        go_simp
        refine hK.out _ _ (KP1.out _ _ (bel0 _ _) hS) (fun hS' => ?_)
        clear hK K hS
        have hS := hS'
        clear hS'
        try (try simp only [Act.put, List.setIfInBounds_toArray, List.set_cons_zero, List.set_cons_succ])
        have hbe : Below V2.heap.size V2 (V2.alloc (.cells #[.int .i64 0, .int .i64 0, .slice none 0 0] 26)) := bel0 _ _
        have HX10 := Lib.hid (BoxL.new V2 (.int .i64 0) (.int .i64 0) (.slice none 0 0) 26)
        have hzV3 : (V2.alloc (.cells #[.int .i64 0, .int .i64 0, .slice none 0 0] 26)).heap.size ≤ V2.heap.size + 1 ∧ V2.heap.size + 1 ≤ (V2.alloc (.cells #[.int .i64 0, .int .i64 0, .slice none 0 0] 26)).heap.size := by simp
        have HX9 := Lib.hid (HX9.out.below hbe (by omega))
        have RA0 := Lib.hid (RA0.out.below (hbe.mono (by omega)))
        have RB0 := Lib.hid (RB0.out.below (hbe.mono (by omega)))
        obtain ⟨V3, hV⟩ : ∃ V, V = V2.alloc (.cells #[.int .i64 0, .int .i64 0, .slice none 0 0] 26) := ⟨_, rfl⟩
        rw [← hV] at hS HX9 HX10 hzV3 RA0 RB0 ⊢
        clear hV hbe
        clear KP1
        refine reg_call 11 rfl (by kernel_rfl) (by rfl) (fun K hK => ?_)
        have ec0 := HX9.out.1
        have ec1 := HX9.out.2.1
        have ec2 := HX9.out.2.2.1
        have ec3 := HX9.out.2.2.2.1
        have ec4 := HX9.out.2.2.2.2.1
        have ec5 := HX9.out.2.2.2.2.2
        go_simp
        refine hK.out _ _ (KS1.out _ y1.heap.size (.int .i64 M1) (.int .i64 N1) (.slice aA L1.length cA) (by omega) hS) (fun hS' => ?_)
        clear hK K hS ec0 ec1 ec2 ec3 ec4 ec5
        have hS := hS'
        clear hS'
        try (try simp only [Act.put, List.setIfInBounds_toArray, List.set_cons_zero, List.set_cons_succ])
        have HX9 : Hid (BoxL y1.heap.size (.int .i64 M1) (.int .i64 N1) (.slice aA L1.length cA) (set3 V3 y1.heap.size (.int .i64 M1) (.int .i64 N1) (.slice aA L1.length cA))) := Lib.hid (BoxL.put3 HX9.out)
        have HX10 : Hid (BoxL V2.heap.size (.int .i64 0) (.int .i64 0) (.slice none 0 0) (set3 V3 y1.heap.size (.int .i64 M1) (.int .i64 N1) (.slice aA L1.length cA))) := Lib.hid (BoxL.far3 HX10.out (show y1.heap.size ≠ V2.heap.size by omega))
        have RA0 : Hid (PatIn _ _ (set3 V3 y1.heap.size (.int .i64 M1) (.int .i64 N1) (.slice aA L1.length cA)) _ _) := Lib.hid (row3 RA0.out (by omega) (by first | omega | (simp [World.setCell] <;> omega)))
        have RB0 : Hid (PatIn _ _ (set3 V3 y1.heap.size (.int .i64 M1) (.int .i64 N1) (.slice aA L1.length cA)) _ _) := Lib.hid (row3 RB0.out (by omega) (by first | omega | (simp [World.setCell] <;> omega)))
        refine reg_call 12 rfl (by kernel_rfl) (by rfl) (fun K hK => ?_)
        have ec0 := HX10.out.1
        have ec1 := HX10.out.2.1
        have ec2 := HX10.out.2.2.1
        have ec3 := HX10.out.2.2.2.1
        have ec4 := HX10.out.2.2.2.2.1
        have ec5 := HX10.out.2.2.2.2.2
        go_simp
        refine hK.out _ _ (KS1.out _ V2.heap.size (.int .i64 M2) (.int .i64 N2) (.slice aB L2.length cB) (by omega) hS) (fun hS' => ?_)
        clear hK K hS ec0 ec1 ec2 ec3 ec4 ec5
        have hS := hS'
        clear hS'
        try (try simp only [Act.put, List.setIfInBounds_toArray, List.set_cons_zero, List.set_cons_succ])
        have HX10 : Hid (BoxL V2.heap.size (.int .i64 M2) (.int .i64 N2) (.slice aB L2.length cB) (set3 (set3 V3 y1.heap.size (.int .i64 M1) (.int .i64 N1) (.slice aA L1.length cA)) V2.heap.size (.int .i64 M2) (.int .i64 N2) (.slice aB L2.length cB))) := Lib.hid (BoxL.put3 HX10.out)
        have HX9 : Hid (BoxL y1.heap.size (.int .i64 M1) (.int .i64 N1) (.slice aA L1.length cA) (set3 (set3 V3 y1.heap.size (.int .i64 M1) (.int .i64 N1) (.slice aA L1.length cA)) V2.heap.size (.int .i64 M2) (.int .i64 N2) (.slice aB L2.length cB))) := Lib.hid (BoxL.far3 HX9.out (show V2.heap.size ≠ y1.heap.size by omega))
        have RA0 : Hid (PatIn _ _ (set3 (set3 V3 y1.heap.size (.int .i64 M1) (.int .i64 N1) (.slice aA L1.length cA)) V2.heap.size (.int .i64 M2) (.int .i64 N2) (.slice aB L2.length cB)) _ _) := Lib.hid (row3 RA0.out (by omega) (by first | omega | (simp [World.setCell] <;> omega)))
        have RB0 : Hid (PatIn _ _ (set3 (set3 V3 y1.heap.size (.int .i64 M1) (.int .i64 N1) (.slice aA L1.length cA)) V2.heap.size (.int .i64 M2) (.int .i64 N2) (.slice aB L2.length cB)) _ _) := Lib.hid (row3 RB0.out (by omega) (by first | omega | (simp [World.setCell] <;> omega)))
        refine reg_take 13 (v := ?_) rfl (by kernel_rfl) (by kernel_rfl) (by kernel_rfl) (fun _ _ _ h => h) (by rfl) (by intro w hSw; (try dsimp only at hSw); go_simp; first | done | with_reducible rfl) hS ?_
        (try simp only [Act.put, List.setIfInBounds_toArray, List.set_cons_zero, List.set_cons_succ])
        refine wpAnyH_done (by kernel_rfl) ?_ _
        have HBW := Lib.hid hS.2.2.2.2.2
        clear hS
        go_wp2_with fail
        go_meet
        exact ⟨_, _, _, _, y1.heap.size, rfl, rfl, HX9, HX10, Lib.hid (RA0.out.wide (by omega) (Nat.le_refl _)), Lib.hid (RB0.out.wide (by omega) (Nat.le_refl _)), by simp [World.setCell] <;> omega, HBW⟩
      · go_simp
        refine hK.out _ _ (KP1.out _ _ (bel0 _ _) hS) (fun hS' => ?_)
        clear hK K hS
        have hS := hS'
        clear hS'
        try (try simp only [Act.put, List.setIfInBounds_toArray, List.set_cons_zero, List.set_cons_succ])
        have hbe : Below y1.heap.size y1 (y1.alloc (.cells #[.int .i64 0, .int .i64 0, .slice none 0 0] 26)) := bel0 _ _
        have HX10 := Lib.hid (BoxL.new y1 (.int .i64 0) (.int .i64 0) (.slice none 0 0) 26)
        have hzV2 : (y1.alloc (.cells #[.int .i64 0, .int .i64 0, .slice none 0 0] 26)).heap.size ≤ y1.heap.size + 1 ∧ y1.heap.size + 1 ≤ (y1.alloc (.cells #[.int .i64 0, .int .i64 0, .slice none 0 0] 26)).heap.size := by simp
        have RA0 := Lib.hid (RA0.out.below (hbe.mono (by omega)))
        have RB0 := Lib.hid (RB0.out.below (hbe.mono (by omega)))
        obtain ⟨V2, hV⟩ : ∃ V, V = y1.alloc (.cells #[.int .i64 0, .int .i64 0, .slice none 0 0] 26) := ⟨_, rfl⟩
        rw [← hV] at hS HX10 hzV2 RA0 RB0 ⊢
        clear hV hbe
        refine reg_call 9 rfl (by kernel_rfl) (by rfl) (fun K hK => ?_)
        go_simp
        refine hK.out _ _ (KP1.out _ _ (bel0 _ _) hS) (fun hS' => ?_)
        clear hK K hS
        have hS := hS'
        clear hS'
        try (try simp only [Act.put, List.setIfInBounds_toArray, List.set_cons_zero, List.set_cons_succ])
        have hbe : Below V2.heap.size V2 (V2.alloc (.cells #[.int .i64 0, .int .i64 0, .slice none 0 0] 26)) := bel0 _ _
        have HX9 := Lib.hid (BoxL.new V2 (.int .i64 0) (.int .i64 0) (.slice none 0 0) 26)
        have hzV3 : (V2.alloc (.cells #[.int .i64 0, .int .i64 0, .slice none 0 0] 26)).heap.size ≤ V2.heap.size + 1 ∧ V2.heap.size + 1 ≤ (V2.alloc (.cells #[.int .i64 0, .int .i64 0, .slice none 0 0] 26)).heap.size := by simp
        have HX10 := Lib.hid (HX10.out.below hbe (by omega))
        have RA0 := Lib.hid (RA0.out.below (hbe.mono (by omega)))
        have RB0 := Lib.hid (RB0.out.below (hbe.mono (by omega)))
        obtain ⟨V3, hV⟩ : ∃ V, V = V2.alloc (.cells #[.int .i64 0, .int .i64 0, .slice none 0 0] 26) := ⟨_, rfl⟩
        rw [← hV] at hS HX10 HX9 hzV3 RA0 RB0 ⊢
        clear hV hbe
        clear KP1
        refine reg_call 11 rfl (by kernel_rfl) (by rfl) (fun K hK => ?_)
        have ec0 := HX9.out.1
        have ec1 := HX9.out.2.1
        have ec2 := HX9.out.2.2.1
        have ec3 := HX9.out.2.2.2.1
        have ec4 := HX9.out.2.2.2.2.1
        have ec5 := HX9.out.2.2.2.2.2
        go_simp
        refine hK.out _ _ (KS1.out _ V2.heap.size (.int .i64 M1) (.int .i64 N1) (.slice aA L1.length cA) (by omega) hS) (fun hS' => ?_)
        clear hK K hS ec0 ec1 ec2 ec3 ec4 ec5
        have hS := hS'
        clear hS'
        try (try simp only [Act.put, List.setIfInBounds_toArray, List.set_cons_zero, List.set_cons_succ])
        have HX9 : Hid (BoxL V2.heap.size (.int .i64 M1) (.int .i64 N1) (.slice aA L1.length cA) (set3 V3 V2.heap.size (.int .i64 M1) (.int .i64 N1) (.slice aA L1.length cA))) := Lib.hid (BoxL.put3 HX9.out)
        have HX10 : Hid (BoxL y1.heap.size (.int .i64 0) (.int .i64 0) (.slice none 0 0) (set3 V3 V2.heap.size (.int .i64 M1) (.int .i64 N1) (.slice aA L1.length cA))) := Lib.hid (BoxL.far3 HX10.out (show V2.heap.size ≠ y1.heap.size by omega))
        have RA0 : Hid (PatIn _ _ (set3 V3 V2.heap.size (.int .i64 M1) (.int .i64 N1) (.slice aA L1.length cA)) _ _) := Lib.hid (row3 RA0.out (by omega) (by first | omega | (simp [World.setCell] <;> omega)))
        have RB0 : Hid (PatIn _ _ (set3 V3 V2.heap.size (.int .i64 M1) (.int .i64 N1) (.slice aA L1.length cA)) _ _) := Lib.hid (row3 RB0.out (by omega) (by first | omega | (simp [World.setCell] <;> omega)))
        refine reg_call 12 rfl (by kernel_rfl) (by rfl) (fun K hK => ?_)
        have ec0 := HX10.out.1
        have ec1 := HX10.out.2.1
        have ec2 := HX10.out.2.2.1
        have ec3 := HX10.out.2.2.2.1
        have ec4 := HX10.out.2.2.2.2.1
        have ec5 := HX10.out.2.2.2.2.2
        go_simp
        refine hK.out _ _ (KS1.out _ y1.heap.size (.int .i64 M2) (.int .i64 N2) (.slice aB L2.length cB) (by omega) hS) (fun hS' => ?_)
        clear hK K hS ec0 ec1 ec2 ec3 ec4 ec5
        have hS := hS'
        clear hS'
        try (try simp only [Act.put, List.setIfInBounds_toArray, List.set_cons_zero, List.set_cons_succ])
        have HX10 : Hid (BoxL y1.heap.size (.int .i64 M2) (.int .i64 N2) (.slice aB L2.length cB) (set3 (set3 V3 V2.heap.size (.int .i64 M1) (.int .i64 N1) (.slice aA L1.length cA)) y1.heap.size (.int .i64 M2) (.int .i64 N2) (.slice aB L2.length cB))) := Lib.hid (BoxL.put3 HX10.out)
        have HX9 : Hid (BoxL V2.heap.size (.int .i64 M1) (.int .i64 N1) (.slice aA L1.length cA) (set3 (set3 V3 V2.heap.size (.int .i64 M1) (.int .i64 N1) (.slice aA L1.length cA)) y1.heap.size (.int .i64 M2) (.int .i64 N2) (.slice aB L2.length cB))) := Lib.hid (BoxL.far3 HX9.out (show y1.heap.size ≠ V2.heap.size by omega))
        have RA0 : Hid (PatIn _ _ (set3 (set3 V3 V2.heap.size (.int .i64 M1) (.int .i64 N1) (.slice aA L1.length cA)) y1.heap.size (.int .i64 M2) (.int .i64 N2) (.slice aB L2.length cB)) _ _) := Lib.hid (row3 RA0.out (by omega) (by first | omega | (simp [World.setCell] <;> omega)))
        have RB0 : Hid (PatIn _ _ (set3 (set3 V3 V2.heap.size (.int .i64 M1) (.int .i64 N1) (.slice aA L1.length cA)) y1.heap.size (.int .i64 M2) (.int .i64 N2) (.slice aB L2.length cB)) _ _) := Lib.hid (row3 RB0.out (by omega) (by first | omega | (simp [World.setCell] <;> omega)))
        refine reg_take 13 (v := ?_) rfl (by kernel_rfl) (by kernel_rfl) (by kernel_rfl) (fun _ _ _ h => h) (by rfl) (by intro w hSw; (try dsimp only at hSw); go_simp; first | done | with_reducible rfl) hS ?_
        (try simp only [Act.put, List.setIfInBounds_toArray, List.set_cons_zero, List.set_cons_succ])
        refine wpAnyH_done (by kernel_rfl) ?_ _
        have HBW := Lib.hid hS.2.2.2.2.2
        clear hS
        go_wp2_with fail
        go_meet
        exact ⟨_, _, _, _, y1.heap.size, rfl, rfl, HX9, HX10, Lib.hid (RA0.out.wide (by omega) (Nat.le_refl _)), Lib.hid (RB0.out.wide (by omega) (Nat.le_refl _)), by simp [World.setCell] <;> omega, HBW⟩
    · go_simp
      refine hK.out _ _ (KP1.out _ _ (bel0 _ _) hS) (fun hS' => ?_)
      clear hK K hS
      have hS := hS'
      clear hS'
      try (try simp only [Act.put, List.setIfInBounds_toArray, List.set_cons_zero, List.set_cons_succ])
      have hbe : Below U0.heap.size U0 (U0.alloc (.cells #[.int .i64 0, .int .i64 0, .slice none 0 0] 26)) := bel0 _ _
      have HX9 := Lib.hid (BoxL.new U0 (.int .i64 0) (.int .i64 0) (.slice none 0 0) 26)
      have hzV1 : (U0.alloc (.cells #[.int .i64 0, .int .i64 0, .slice none 0 0] 26)).heap.size ≤ U0.heap.size + 1 ∧ U0.heap.size + 1 ≤ (U0.alloc (.cells #[.int .i64 0, .int .i64 0, .slice none 0 0] 26)).heap.size := by simp
      obtain ⟨V1, hV⟩ : ∃ V, V = U0.alloc (.cells #[.int .i64 0, .int .i64 0, .slice none 0 0] 26) := ⟨_, rfl⟩
      rw [← hV] at hS HX9 hzV1 ⊢
      clear hV hbe
      refine reg_two 4 10 rfl rfl (by kernel_rfl) (by rfl) (by rfl) (fun K hK => ?_) (fun K hK => ?_)
      · go_simp
        go_at_call 39
        refine (args_eqL (CS.out _ hS) (by with_reducible rfl)).mono ?_
        rintro e y2 ⟨vA, vB, rfl, RA, RB, hb⟩
        have RA0 := Lib.hid RA
        have RB0 := Lib.hid RB
        obtain ⟨aA, cA, rfl⟩ := RA.form
        obtain ⟨aB, cB, rfl⟩ := RB.form
        clear RA RB
        have hzy2 := hb.size
        have HX9 := Lib.hid (HX9.out.below hb (by omega))
        refine hK.out _ _ (KP1.out _ _ hb hS) (fun hS' => ?_)
        clear hK K hS
        have hS := hS'
        clear hS'
        try (try simp only [Act.put, List.setIfInBounds_toArray, List.set_cons_zero, List.set_cons_succ])
        clear hb
        refine reg_take 5 (v := ?_) rfl (by kernel_rfl) (by kernel_rfl) (by kernel_rfl) (fun _ _ _ h => h) (by rfl) (by intro w hSw; (try dsimp only at hSw); go_simp; first | done | with_reducible rfl) hS ?_
        (try simp only [Act.put, List.setIfInBounds_toArray, List.set_cons_zero, List.set_cons_succ])
        refine reg_take 6 (v := ?_) rfl (by kernel_rfl) (by kernel_rfl) (by kernel_rfl) (fun _ _ _ h => h) (by rfl) (by intro w hSw; (try dsimp only at hSw); go_simp; first | done | with_reducible rfl) hS ?_
        (try simp only [Act.put, List.setIfInBounds_toArray, List.set_cons_zero, List.set_cons_succ])
        refine reg_take 7 (v := ?_) rfl (by kernel_rfl) (by kernel_rfl) (by kernel_rfl) (fun _ _ _ h => h) (by rfl) (by intro w hSw; (try dsimp only at hSw); go_simp; first | done | with_reducible rfl) hS ?_
        (try simp only [Act.put, List.setIfInBounds_toArray, List.set_cons_zero, List.set_cons_succ])
        refine reg_take 8 (v := ?_) rfl (by kernel_rfl) (by kernel_rfl) (by kernel_rfl) (fun _ _ _ h => h) (by rfl) (by intro w hSw; (try dsimp only at hSw); go_simp; first | done | with_reducible rfl) hS ?_
        (try simp only [Act.put, List.setIfInBounds_toArray, List.set_cons_zero, List.set_cons_succ])
        refine reg_call 10 rfl (by kernel_rfl) (by rfl) (fun K hK => ?_)
        go_simp
        refine hK.out _ _ (KP1.out _ _ (bel0 _ _) hS) (fun hS' => ?_)
        clear hK K hS
        have hS := hS'
        clear hS'
        try (try simp only [Act.put, List.setIfInBounds_toArray, List.set_cons_zero, List.set_cons_succ])
        have hbe : Below y2.heap.size y2 (y2.alloc (.cells #[.int .i64 0, .int .i64 0, .slice none 0 0] 26)) := bel0 _ _
        have HX10 := Lib.hid (BoxL.new y2 (.int .i64 0) (.int .i64 0) (.slice none 0 0) 26)
        have hzV3 : (y2.alloc (.cells #[.int .i64 0, .int .i64 0, .slice none 0 0] 26)).heap.size ≤ y2.heap.size + 1 ∧ y2.heap.size + 1 ≤ (y2.alloc (.cells #[.int .i64 0, .int .i64 0, .slice none 0 0] 26)).heap.size := by simp
        have HX9 := Lib.hid (HX9.out.below hbe (by omega))
        have RA0 := Lib.hid (RA0.out.below (hbe.mono (by omega)))
        have RB0 := Lib.hid (RB0.out.below (hbe.mono (by omega)))
        obtain ⟨V3, hV⟩ : ∃ V, V = y2.alloc (.cells #[.int .i64 0, .int .i64 0, .slice none 0 0] 26) := ⟨_, rfl⟩
        rw [← hV] at hS HX9 HX10 hzV3 RA0 RB0 ⊢
        clear hV hbe
        clear KP1
        refine reg_call 11 rfl (by kernel_rfl) (by rfl) (fun K hK => ?_)
        have ec0 := HX9.out.1
        have ec1 := HX9.out.2.1
        have ec2 := HX9.out.2.2.1
        have ec3 := HX9.out.2.2.2.1
        have ec4 := HX9.out.2.2.2.2.1
        have ec5 := HX9.out.2.2.2.2.2
        go_simp
        refine hK.out _ _ (KS1.out _ U0.heap.size (.int .i64 M1) (.int .i64 N1) (.slice aA L1.length cA) (by omega) hS) (fun hS' => ?_)
        clear hK K hS ec0 ec1 ec2 ec3 ec4 ec5
        have hS := hS'
        clear hS'
        try (try simp only [Act.put, List.setIfInBounds_toArray, List.set_cons_zero, List.set_cons_succ])
        have HX9 : Hid (BoxL U0.heap.size (.int .i64 M1) (.int .i64 N1) (.slice aA L1.length cA) (set3 V3 U0.heap.size (.int .i64 M1) (.int .i64 N1) (.slice aA L1.length cA))) := Lib.hid (BoxL.put3 HX9.out)
        have HX10 : Hid (BoxL y2.heap.size (.int .i64 0) (.int .i64 0) (.slice none 0 0) (set3 V3 U0.heap.size (.int .i64 M1) (.int .i64 N1) (.slice aA L1.length cA))) := Lib.hid (BoxL.far3 HX10.out (show U0.heap.size ≠ y2.heap.size by omega))
        have RA0 : Hid (PatIn _ _ (set3 V3 U0.heap.size (.int .i64 M1) (.int .i64 N1) (.slice aA L1.length cA)) _ _) := Lib.hid (row3 RA0.out (by omega) (by first | omega | (simp [World.setCell] <;> omega)))
        have RB0 : Hid (PatIn _ _ (set3 V3 U0.heap.size (.int .i64 M1) (.int .i64 N1) (.slice aA L1.length cA)) _ _) := Lib.hid (row3 RB0.out (by omega) (by first | omega | (simp [World.setCell] <;> omega)))
        refine reg_call 12 rfl (by kernel_rfl) (by rfl) (fun K hK => ?_)
        have ec0 := HX10.out.1
        have ec1 := HX10.out.2.1
        have ec2 := HX10.out.2.2.1
        have ec3 := HX10.out.2.2.2.1
        have ec4 := HX10.out.2.2.2.2.1
        have ec5 := HX10.out.2.2.2.2.2
        go_simp
        refine hK.out _ _ (KS1.out _ y2.heap.size (.int .i64 M2) (.int .i64 N2) (.slice aB L2.length cB) (by omega) hS) (fun hS' => ?_)
        clear hK K hS ec0 ec1 ec2 ec3 ec4 ec5
        have hS := hS'
        clear hS'
        try (try simp only [Act.put, List.setIfInBounds_toArray, List.set_cons_zero, List.set_cons_succ])
        have HX10 : Hid (BoxL y2.heap.size (.int .i64 M2) (.int .i64 N2) (.slice aB L2.length cB) (set3 (set3 V3 U0.heap.size (.int .i64 M1) (.int .i64 N1) (.slice aA L1.length cA)) y2.heap.size (.int .i64 M2) (.int .i64 N2) (.slice aB L2.length cB))) := Lib.hid (BoxL.put3 HX10.out)
        have HX9 : Hid (BoxL U0.heap.size (.int .i64 M1) (.int .i64 N1) (.slice aA L1.length cA) (set3 (set3 V3 U0.heap.size (.int .i64 M1) (.int .i64 N1) (.slice aA L1.length cA)) y2.heap.size (.int .i64 M2) (.int .i64 N2) (.slice aB L2.length cB))) := Lib.hid (BoxL.far3 HX9.out (show y2.heap.size ≠ U0.heap.size by omega))
        have RA0 : Hid (PatIn _ _ (set3 (set3 V3 U0.heap.size (.int .i64 M1) (.int .i64 N1) (.slice aA L1.length cA)) y2.heap.size (.int .i64 M2) (.int .i64 N2) (.slice aB L2.length cB)) _ _) := Lib.hid (row3 RA0.out (by omega) (by first | omega | (simp [World.setCell] <;> omega)))
        have RB0 : Hid (PatIn _ _ (set3 (set3 V3 U0.heap.size (.int .i64 M1) (.int .i64 N1) (.slice aA L1.length cA)) y2.heap.size (.int .i64 M2) (.int .i64 N2) (.slice aB L2.length cB)) _ _) := Lib.hid (row3 RB0.out (by omega) (by first | omega | (simp [World.setCell] <;> omega)))
        refine reg_take 13 (v := ?_) rfl (by kernel_rfl) (by kernel_rfl) (by kernel_rfl) (fun _ _ _ h => h) (by rfl) (by intro w hSw; (try dsimp only at hSw); go_simp; first | done | with_reducible rfl) hS ?_
        (try simp only [Act.put, List.setIfInBounds_toArray, List.set_cons_zero, List.set_cons_succ])
        refine wpAnyH_done (by kernel_rfl) ?_ _
        have HBW := Lib.hid hS.2.2.2.2.2
        clear hS
        go_wp2_with fail
        go_meet
        exact ⟨_, _, _, _, y2.heap.size, rfl, rfl, HX9, HX10, Lib.hid (RA0.out.wide (by omega) (Nat.le_refl _)), Lib.hid (RB0.out.wide (by omega) (Nat.le_refl _)), by simp [World.setCell] <;> omega, HBW⟩
      · go_simp
        refine hK.out _ _ (KP1.out _ _ (bel0 _ _) hS) (fun hS' => ?_)
        clear hK K hS
        have hS := hS'
        clear hS'
        try (try simp only [Act.put, List.setIfInBounds_toArray, List.set_cons_zero, List.set_cons_succ])
        have hbe : Below V1.heap.size V1 (V1.alloc (.cells #[.int .i64 0, .int .i64 0, .slice none 0 0] 26)) := bel0 _ _
        have HX10 := Lib.hid (BoxL.new V1 (.int .i64 0) (.int .i64 0) (.slice none 0 0) 26)
        have hzV2 : (V1.alloc (.cells #[.int .i64 0, .int .i64 0, .slice none 0 0] 26)).heap.size ≤ V1.heap.size + 1 ∧ V1.heap.size + 1 ≤ (V1.alloc (.cells #[.int .i64 0, .int .i64 0, .slice none 0 0] 26)).heap.size := by simp
        have HX9 := Lib.hid (HX9.out.below hbe (by omega))
        obtain ⟨V2, hV⟩ : ∃ V, V = V1.alloc (.cells #[.int .i64 0, .int .i64 0, .slice none 0 0] 26) := ⟨_, rfl⟩
        rw [← hV] at hS HX9 HX10 hzV2 ⊢
        clear hV hbe
        refine reg_call 4 rfl (by kernel_rfl) (by rfl) (fun K hK => ?_)
        go_simp
        go_at_call 39
        refine (args_eqL (CS.out _ hS) (by with_reducible rfl)).mono ?_
        rintro e y3 ⟨vA, vB, rfl, RA, RB, hb⟩
        have RA0 := Lib.hid RA
        have RB0 := Lib.hid RB
        obtain ⟨aA, cA, rfl⟩ := RA.form
        obtain ⟨aB, cB, rfl⟩ := RB.form
        clear RA RB
        have hzy3 := hb.size
        have HX9 := Lib.hid (HX9.out.below hb (by omega))
        have HX10 := Lib.hid (HX10.out.below hb (by omega))
        refine hK.out _ _ (KP1.out _ _ hb hS) (fun hS' => ?_)
        clear hK K hS
        have hS := hS'
        clear hS'
        try (try simp only [Act.put, List.setIfInBounds_toArray, List.set_cons_zero, List.set_cons_succ])
        clear hb
        refine reg_take 5 (v := ?_) rfl (by kernel_rfl) (by kernel_rfl) (by kernel_rfl) (fun _ _ _ h => h) (by rfl) (by intro w hSw; (try dsimp only at hSw); go_simp; first | done | with_reducible rfl) hS ?_
        (try simp only [Act.put, List.setIfInBounds_toArray, List.set_cons_zero, List.set_cons_succ])
        refine reg_take 6 (v := ?_) rfl (by kernel_rfl) (by kernel_rfl) (by kernel_rfl) (fun _ _ _ h => h) (by rfl) (by intro w hSw; (try dsimp only at hSw); go_simp; first | done | with_reducible rfl) hS ?_
        (try simp only [Act.put, List.setIfInBounds_toArray, List.set_cons_zero, List.set_cons_succ])
        refine reg_take 7 (v := ?_) rfl (by kernel_rfl) (by kernel_rfl) (by kernel_rfl) (fun _ _ _ h => h) (by rfl) (by intro w hSw; (try dsimp only at hSw); go_simp; first | done | with_reducible rfl) hS ?_
        (try simp only [Act.put, List.setIfInBounds_toArray, List.set_cons_zero, List.set_cons_succ])
        refine reg_take 8 (v := ?_) rfl (by kernel_rfl) (by kernel_rfl) (by kernel_rfl) (fun _ _ _ h => h) (by rfl) (by intro w hSw; (try dsimp only at hSw); go_simp; first | done | with_reducible rfl) hS ?_
        (try simp only [Act.put, List.setIfInBounds_toArray, List.set_cons_zero, List.set_cons_succ])
        clear KP1
        refine reg_call 11 rfl (by kernel_rfl) (by rfl) (fun K hK => ?_)
        have ec0 := HX9.out.1
        have ec1 := HX9.out.2.1
        have ec2 := HX9.out.2.2.1
        have ec3 := HX9.out.2.2.2.1
        have ec4 := HX9.out.2.2.2.2.1
        have ec5 := HX9.out.2.2.2.2.2
        go_simp
        refine hK.out _ _ (KS1.out _ U0.heap.size (.int .i64 M1) (.int .i64 N1) (.slice aA L1.length cA) (by omega) hS) (fun hS' => ?_)
        clear hK K hS ec0 ec1 ec2 ec3 ec4 ec5
        have hS := hS'
        clear hS'
        try (try simp only [Act.put, List.setIfInBounds_toArray, List.set_cons_zero, List.set_cons_succ])
        have HX9 : Hid (BoxL U0.heap.size (.int .i64 M1) (.int .i64 N1) (.slice aA L1.length cA) (set3 y3 U0.heap.size (.int .i64 M1) (.int .i64 N1) (.slice aA L1.length cA))) := Lib.hid (BoxL.put3 HX9.out)
        have HX10 : Hid (BoxL V1.heap.size (.int .i64 0) (.int .i64 0) (.slice none 0 0) (set3 y3 U0.heap.size (.int .i64 M1) (.int .i64 N1) (.slice aA L1.length cA))) := Lib.hid (BoxL.far3 HX10.out (show U0.heap.size ≠ V1.heap.size by omega))
        have RA0 : Hid (PatIn _ _ (set3 y3 U0.heap.size (.int .i64 M1) (.int .i64 N1) (.slice aA L1.length cA)) _ _) := Lib.hid (row3 RA0.out (by omega) (by first | omega | (simp [World.setCell] <;> omega)))
        have RB0 : Hid (PatIn _ _ (set3 y3 U0.heap.size (.int .i64 M1) (.int .i64 N1) (.slice aA L1.length cA)) _ _) := Lib.hid (row3 RB0.out (by omega) (by first | omega | (simp [World.setCell] <;> omega)))
        refine reg_call 12 rfl (by kernel_rfl) (by rfl) (fun K hK => ?_)
        have ec0 := HX10.out.1
        have ec1 := HX10.out.2.1
        have ec2 := HX10.out.2.2.1
        have ec3 := HX10.out.2.2.2.1
        have ec4 := HX10.out.2.2.2.2.1
        have ec5 := HX10.out.2.2.2.2.2
        go_simp
        refine hK.out _ _ (KS1.out _ V1.heap.size (.int .i64 M2) (.int .i64 N2) (.slice aB L2.length cB) (by omega) hS) (fun hS' => ?_)
        clear hK K hS ec0 ec1 ec2 ec3 ec4 ec5
        have hS := hS'
        clear hS'
        try (try simp only [Act.put, List.setIfInBounds_toArray, List.set_cons_zero, List.set_cons_succ])
        have HX10 : Hid (BoxL V1.heap.size (.int .i64 M2) (.int .i64 N2) (.slice aB L2.length cB) (set3 (set3 y3 U0.heap.size (.int .i64 M1) (.int .i64 N1) (.slice aA L1.length cA)) V1.heap.size (.int .i64 M2) (.int .i64 N2) (.slice aB L2.length cB))) := Lib.hid (BoxL.put3 HX10.out)
        have HX9 : Hid (BoxL U0.heap.size (.int .i64 M1) (.int .i64 N1) (.slice aA L1.length cA) (set3 (set3 y3 U0.heap.size (.int .i64 M1) (.int .i64 N1) (.slice aA L1.length cA)) V1.heap.size (.int .i64 M2) (.int .i64 N2) (.slice aB L2.length cB))) := Lib.hid (BoxL.far3 HX9.out (show V1.heap.size ≠ U0.heap.size by omega))
        have RA0 : Hid (PatIn _ _ (set3 (set3 y3 U0.heap.size (.int .i64 M1) (.int .i64 N1) (.slice aA L1.length cA)) V1.heap.size (.int .i64 M2) (.int .i64 N2) (.slice aB L2.length cB)) _ _) := Lib.hid (row3 RA0.out (by omega) (by first | omega | (simp [World.setCell] <;> omega)))
        have RB0 : Hid (PatIn _ _ (set3 (set3 y3 U0.heap.size (.int .i64 M1) (.int .i64 N1) (.slice aA L1.length cA)) V1.heap.size (.int .i64 M2) (.int .i64 N2) (.slice aB L2.length cB)) _ _) := Lib.hid (row3 RB0.out (by omega) (by first | omega | (simp [World.setCell] <;> omega)))
        refine reg_take 13 (v := ?_) rfl (by kernel_rfl) (by kernel_rfl) (by kernel_rfl) (fun _ _ _ h => h) (by rfl) (by intro w hSw; (try dsimp only at hSw); go_simp; first | done | with_reducible rfl) hS ?_
        (try simp only [Act.put, List.setIfInBounds_toArray, List.set_cons_zero, List.set_cons_succ])
        refine wpAnyH_done (by kernel_rfl) ?_ _
        have HBW := Lib.hid hS.2.2.2.2.2
        clear hS
        go_wp2_with fail
        go_meet
        exact ⟨_, _, _, _, y3.heap.size, rfl, rfl, HX9, HX10, Lib.hid (RA0.out.wide (by omega) (Nat.le_refl _)), Lib.hid (RB0.out.wide (by omega) (Nat.le_refl _)), by simp [World.setCell] <;> omega, HBW⟩
    · go_simp
      refine hK.out _ _ (KP1.out _ _ (bel0 _ _) hS) (fun hS' => ?_)
      clear hK K hS
      have hS := hS'
      clear hS'
      try (try simp only [Act.put, List.setIfInBounds_toArray, List.set_cons_zero, List.set_cons_succ])
      have hbe : Below U0.heap.size U0 (U0.alloc (.cells #[.int .i64 0, .int .i64 0, .slice none 0 0] 26)) := bel0 _ _
      have HX10 := Lib.hid (BoxL.new U0 (.int .i64 0) (.int .i64 0) (.slice none 0 0) 26)
      have hzV1 : (U0.alloc (.cells #[.int .i64 0, .int .i64 0, .slice none 0 0] 26)).heap.size ≤ U0.heap.size + 1 ∧ U0.heap.size + 1 ≤ (U0.alloc (.cells #[.int .i64 0, .int .i64 0, .slice none 0 0] 26)).heap.size := by simp
      obtain ⟨V1, hV⟩ : ∃ V, V = U0.alloc (.cells #[.int .i64 0, .int .i64 0, .slice none 0 0] 26) := ⟨_, rfl⟩
      rw [← hV] at hS HX10 hzV1 ⊢
      clear hV hbe
      refine reg_two 4 9 rfl rfl (by kernel_rfl) (by rfl) (by rfl) (fun K hK => ?_) (fun K hK => ?_)
      · go_simp
        go_at_call 39
        refine (args_eqL (CS.out _ hS) (by with_reducible rfl)).mono ?_
        rintro e y2 ⟨vA, vB, rfl, RA, RB, hb⟩
        have RA0 := Lib.hid RA
        have RB0 := Lib.hid RB
        obtain ⟨aA, cA, rfl⟩ := RA.form
        obtain ⟨aB, cB, rfl⟩ := RB.form
        clear RA RB
        have hzy2 := hb.size
        have HX10 := Lib.hid (HX10.out.below hb (by omega))
        refine hK.out _ _ (KP1.out _ _ hb hS) (fun hS' => ?_)
        clear hK K hS
        have hS := hS'
        clear hS'
        try (try simp only [Act.put, List.setIfInBounds_toArray, List.set_cons_zero, List.set_cons_succ])
        clear hb
        refine reg_take 5 (v := ?_) rfl (by kernel_rfl) (by kernel_rfl) (by kernel_rfl) (fun _ _ _ h => h) (by rfl) (by intro w hSw; (try dsimp only at hSw); go_simp; first | done | with_reducible rfl) hS ?_
        (try simp only [Act.put, List.setIfInBounds_toArray, List.set_cons_zero, List.set_cons_succ])
        refine reg_take 6 (v := ?_) rfl (by kernel_rfl) (by kernel_rfl) (by kernel_rfl) (fun _ _ _ h => h) (by rfl) (by intro w hSw; (try dsimp only at hSw); go_simp; first | done | with_reducible rfl) hS ?_
        (try simp only [Act.put, List.setIfInBounds_toArray, List.set_cons_zero, List.set_cons_succ])
        refine reg_take 7 (v := ?_) rfl (by kernel_rfl) (by kernel_rfl) (by kernel_rfl) (fun _ _ _ h => h) (by rfl) (by intro w hSw; (try dsimp only at hSw); go_simp; first | done | with_reducible rfl) hS ?_
        (try simp only [Act.put, List.setIfInBounds_toArray, List.set_cons_zero, List.set_cons_succ])
        refine reg_take 8 (v := ?_) rfl (by kernel_rfl) (by kernel_rfl) (by kernel_rfl) (fun _ _ _ h => h) (by rfl) (by intro w hSw; (try dsimp only at hSw); go_simp; first | done | with_reducible rfl) hS ?_
        (try simp only [Act.put, List.setIfInBounds_toArray, List.set_cons_zero, List.set_cons_succ])
        refine reg_call 9 rfl (by kernel_rfl) (by rfl) (fun K hK => ?_)
        go_simp
        refine hK.out _ _ (KP1.out _ _ (bel0 _ _) hS) (fun hS' => ?_)
        clear hK K hS
        have hS := hS'
        clear hS'
        try (try simp only [Act.put, List.setIfInBounds_toArray, List.set_cons_zero, List.set_cons_succ])
        have hbe : Below y2.heap.size y2 (y2.alloc (.cells #[.int .i64 0, .int .i64 0, .slice none 0 0] 26)) := bel0 _ _
        have HX9 := Lib.hid (BoxL.new y2 (.int .i64 0) (.int .i64 0) (.slice none 0 0) 26)
        have hzV3 : (y2.alloc (.cells #[.int .i64 0, .int .i64 0, .slice none 0 0] 26)).heap.size ≤ y2.heap.size + 1 ∧ y2.heap.size + 1 ≤ (y2.alloc (.cells #[.int .i64 0, .int .i64 0, .slice none 0 0] 26)).heap.size := by simp
        have HX10 := Lib.hid (HX10.out.below hbe (by omega))
        have RA0 := Lib.hid (RA0.out.below (hbe.mono (by omega)))
        have RB0 := Lib.hid (RB0.out.below (hbe.mono (by omega)))
        obtain ⟨V3, hV⟩ : ∃ V, V = y2.alloc (.cells #[.int .i64 0, .int .i64 0, .slice none 0 0] 26) := ⟨_, rfl⟩
        rw [← hV] at hS HX10 HX9 hzV3 RA0 RB0 ⊢
        clear hV hbe
        clear KP1
        refine reg_call 11 rfl (by kernel_rfl) (by rfl) (fun K hK => ?_)
        have ec0 := HX9.out.1
        have ec1 := HX9.out.2.1
        have ec2 := HX9.out.2.2.1
        have ec3 := HX9.out.2.2.2.1
        have ec4 := HX9.out.2.2.2.2.1
        have ec5 := HX9.out.2.2.2.2.2
        go_simp
        refine hK.out _ _ (KS1.out _ y2.heap.size (.int .i64 M1) (.int .i64 N1) (.slice aA L1.length cA) (by omega) hS) (fun hS' => ?_)
        clear hK K hS ec0 ec1 ec2 ec3 ec4 ec5
        have hS := hS'
        clear hS'
        try (try simp only [Act.put, List.setIfInBounds_toArray, List.set_cons_zero, List.set_cons_succ])
        have HX9 : Hid (BoxL y2.heap.size (.int .i64 M1) (.int .i64 N1) (.slice aA L1.length cA) (set3 V3 y2.heap.size (.int .i64 M1) (.int .i64 N1) (.slice aA L1.length cA))) := Lib.hid (BoxL.put3 HX9.out)
        have HX10 : Hid (BoxL U0.heap.size (.int .i64 0) (.int .i64 0) (.slice none 0 0) (set3 V3 y2.heap.size (.int .i64 M1) (.int .i64 N1) (.slice aA L1.length cA))) := Lib.hid (BoxL.far3 HX10.out (show y2.heap.size ≠ U0.heap.size by omega))
        have RA0 : Hid (PatIn _ _ (set3 V3 y2.heap.size (.int .i64 M1) (.int .i64 N1) (.slice aA L1.length cA)) _ _) := Lib.hid (row3 RA0.out (by omega) (by first | omega | (simp [World.setCell] <;> omega)))
        have RB0 : Hid (PatIn _ _ (set3 V3 y2.heap.size (.int .i64 M1) (.int .i64 N1) (.slice aA L1.length cA)) _ _) := Lib.hid (row3 RB0.out (by omega) (by first | omega | (simp [World.setCell] <;> omega)))
        refine reg_call 12 rfl (by kernel_rfl) (by rfl) (fun K hK => ?_)
        have ec0 := HX10.out.1
        have ec1 := HX10.out.2.1
        have ec2 := HX10.out.2.2.1
        have ec3 := HX10.out.2.2.2.1
        have ec4 := HX10.out.2.2.2.2.1
        have ec5 := HX10.out.2.2.2.2.2
        go_simp
        refine hK.out _ _ (KS1.out _ U0.heap.size (.int .i64 M2) (.int .i64 N2) (.slice aB L2.length cB) (by omega) hS) (fun hS' => ?_)
        clear hK K hS ec0 ec1 ec2 ec3 ec4 ec5
        have hS := hS'
        clear hS'
        try (try simp only [Act.put, List.setIfInBounds_toArray, List.set_cons_zero, List.set_cons_succ])
        have HX10 : Hid (BoxL U0.heap.size (.int .i64 M2) (.int .i64 N2) (.slice aB L2.length cB) (set3 (set3 V3 y2.heap.size (.int .i64 M1) (.int .i64 N1) (.slice aA L1.length cA)) U0.heap.size (.int .i64 M2) (.int .i64 N2) (.slice aB L2.length cB))) := Lib.hid (BoxL.put3 HX10.out)
        have HX9 : Hid (BoxL y2.heap.size (.int .i64 M1) (.int .i64 N1) (.slice aA L1.length cA) (set3 (set3 V3 y2.heap.size (.int .i64 M1) (.int .i64 N1) (.slice aA L1.length cA)) U0.heap.size (.int .i64 M2) (.int .i64 N2) (.slice aB L2.length cB))) := Lib.hid (BoxL.far3 HX9.out (show U0.heap.size ≠ y2.heap.size by omega))
        have RA0 : Hid (PatIn _ _ (set3 (set3 V3 y2.heap.size (.int .i64 M1) (.int .i64 N1) (.slice aA L1.length cA)) U0.heap.size (.int .i64 M2) (.int .i64 N2) (.slice aB L2.length cB)) _ _) := Lib.hid (row3 RA0.out (by omega) (by first | omega | (simp [World.setCell] <;> omega)))
        have RB0 : Hid (PatIn _ _ (set3 (set3 V3 y2.heap.size (.int .i64 M1) (.int .i64 N1) (.slice aA L1.length cA)) U0.heap.size (.int .i64 M2) (.int .i64 N2) (.slice aB L2.length cB)) _ _) := Lib.hid (row3 RB0.out (by omega) (by first | omega | (simp [World.setCell] <;> omega)))
        refine reg_take 13 (v := ?_) rfl (by kernel_rfl) (by kernel_rfl) (by kernel_rfl) (fun _ _ _ h => h) (by rfl) (by intro w hSw; (try dsimp only at hSw); go_simp; first | done | with_reducible rfl) hS ?_
        (try simp only [Act.put, List.setIfInBounds_toArray, List.set_cons_zero, List.set_cons_succ])
        refine wpAnyH_done (by kernel_rfl) ?_ _
        have HBW := Lib.hid hS.2.2.2.2.2
        clear hS
        go_wp2_with fail
        go_meet
        exact ⟨_, _, _, _, y2.heap.size, rfl, rfl, HX9, HX10, Lib.hid (RA0.out.wide (by omega) (Nat.le_refl _)), Lib.hid (RB0.out.wide (by omega) (Nat.le_refl _)), by simp [World.setCell] <;> omega, HBW⟩
      · go_simp
        refine hK.out _ _ (KP1.out _ _ (bel0 _ _) hS) (fun hS' => ?_)
        clear hK K hS
        have hS := hS'
        clear hS'
        try (try simp only [Act.put, List.setIfInBounds_toArray, List.set_cons_zero, List.set_cons_succ])
        have hbe : Below V1.heap.size V1 (V1.alloc (.cells #[.int .i64 0, .int .i64 0, .slice none 0 0] 26)) := bel0 _ _
        have HX9 := Lib.hid (BoxL.new V1 (.int .i64 0) (.int .i64 0) (.slice none 0 0) 26)
        have hzV2 : (V1.alloc (.cells #[.int .i64 0, .int .i64 0, .slice none 0 0] 26)).heap.size ≤ V1.heap.size + 1 ∧ V1.heap.size + 1 ≤ (V1.alloc (.cells #[.int .i64 0, .int .i64 0, .slice none 0 0] 26)).heap.size := by simp
        have HX10 := Lib.hid (HX10.out.below hbe (by omega))
        obtain ⟨V2, hV⟩ : ∃ V, V = V1.alloc (.cells #[.int .i64 0, .int .i64 0, .slice none 0 0] 26) := ⟨_, rfl⟩
        rw [← hV] at hS HX10 HX9 hzV2 ⊢
        clear hV hbe
        refine reg_call 4 rfl (by kernel_rfl) (by rfl) (fun K hK => ?_)
        go_simp
        go_at_call 39
        refine (args_eqL (CS.out _ hS) (by with_reducible rfl)).mono ?_
        rintro e y3 ⟨vA, vB, rfl, RA, RB, hb⟩
        have RA0 := Lib.hid RA
        have RB0 := Lib.hid RB
        obtain ⟨aA, cA, rfl⟩ := RA.form
        obtain ⟨aB, cB, rfl⟩ := RB.form
        clear RA RB
        have hzy3 := hb.size
        have HX10 := Lib.hid (HX10.out.below hb (by omega))
        have HX9 := Lib.hid (HX9.out.below hb (by omega))
        refine hK.out _ _ (KP1.out _ _ hb hS) (fun hS' => ?_)
        clear hK K hS
        have hS := hS'
        clear hS'
        try (try simp only [Act.put, List.setIfInBounds_toArray, List.set_cons_zero, List.set_cons_succ])
        clear hb
        refine reg_take 5 (v := ?_) rfl (by kernel_rfl) (by kernel_rfl) (by kernel_rfl) (fun _ _ _ h => h) (by rfl) (by intro w hSw; (try dsimp only at hSw); go_simp; first | done | with_reducible rfl) hS ?_
        (try simp only [Act.put, List.setIfInBounds_toArray, List.set_cons_zero, List.set_cons_succ])
        refine reg_take 6 (v := ?_) rfl (by kernel_rfl) (by kernel_rfl) (by kernel_rfl) (fun _ _ _ h => h) (by rfl) (by intro w hSw; (try dsimp only at hSw); go_simp; first | done | with_reducible rfl) hS ?_
        (try simp only [Act.put, List.setIfInBounds_toArray, List.set_cons_zero, List.set_cons_succ])
        refine reg_take 7 (v := ?_) rfl (by kernel_rfl) (by kernel_rfl) (by kernel_rfl) (fun _ _ _ h => h) (by rfl) (by intro w hSw; (try dsimp only at hSw); go_simp; first | done | with_reducible rfl) hS ?_
        (try simp only [Act.put, List.setIfInBounds_toArray, List.set_cons_zero, List.set_cons_succ])
        refine reg_take 8 (v := ?_) rfl (by kernel_rfl) (by kernel_rfl) (by kernel_rfl) (fun _ _ _ h => h) (by rfl) (by intro w hSw; (try dsimp only at hSw); go_simp; first | done | with_reducible rfl) hS ?_
        (try simp only [Act.put, List.setIfInBounds_toArray, List.set_cons_zero, List.set_cons_succ])
        clear KP1
        refine reg_call 11 rfl (by kernel_rfl) (by rfl) (fun K hK => ?_)
        have ec0 := HX9.out.1
        have ec1 := HX9.out.2.1
        have ec2 := HX9.out.2.2.1
        have ec3 := HX9.out.2.2.2.1
        have ec4 := HX9.out.2.2.2.2.1
        have ec5 := HX9.out.2.2.2.2.2
        go_simp
        refine hK.out _ _ (KS1.out _ V1.heap.size (.int .i64 M1) (.int .i64 N1) (.slice aA L1.length cA) (by omega) hS) (fun hS' => ?_)
        clear hK K hS ec0 ec1 ec2 ec3 ec4 ec5
        have hS := hS'
        clear hS'
        try (try simp only [Act.put, List.setIfInBounds_toArray, List.set_cons_zero, List.set_cons_succ])
        have HX9 : Hid (BoxL V1.heap.size (.int .i64 M1) (.int .i64 N1) (.slice aA L1.length cA) (set3 y3 V1.heap.size (.int .i64 M1) (.int .i64 N1) (.slice aA L1.length cA))) := Lib.hid (BoxL.put3 HX9.out)
        have HX10 : Hid (BoxL U0.heap.size (.int .i64 0) (.int .i64 0) (.slice none 0 0) (set3 y3 V1.heap.size (.int .i64 M1) (.int .i64 N1) (.slice aA L1.length cA))) := Lib.hid (BoxL.far3 HX10.out (show V1.heap.size ≠ U0.heap.size by omega))
        have RA0 : Hid (PatIn _ _ (set3 y3 V1.heap.size (.int .i64 M1) (.int .i64 N1) (.slice aA L1.length cA)) _ _) := Lib.hid (row3 RA0.out (by omega) (by first | omega | (simp [World.setCell] <;> omega)))
        have RB0 : Hid (PatIn _ _ (set3 y3 V1.heap.size (.int .i64 M1) (.int .i64 N1) (.slice aA L1.length cA)) _ _) := Lib.hid (row3 RB0.out (by omega) (by first | omega | (simp [World.setCell] <;> omega)))
        refine reg_call 12 rfl (by kernel_rfl) (by rfl) (fun K hK => ?_)
        have ec0 := HX10.out.1
        have ec1 := HX10.out.2.1
        have ec2 := HX10.out.2.2.1
        have ec3 := HX10.out.2.2.2.1
        have ec4 := HX10.out.2.2.2.2.1
        have ec5 := HX10.out.2.2.2.2.2
        go_simp
        refine hK.out _ _ (KS1.out _ U0.heap.size (.int .i64 M2) (.int .i64 N2) (.slice aB L2.length cB) (by omega) hS) (fun hS' => ?_)
        clear hK K hS ec0 ec1 ec2 ec3 ec4 ec5
        have hS := hS'
        clear hS'
        try (try simp only [Act.put, List.setIfInBounds_toArray, List.set_cons_zero, List.set_cons_succ])
        have HX10 : Hid (BoxL U0.heap.size (.int .i64 M2) (.int .i64 N2) (.slice aB L2.length cB) (set3 (set3 y3 V1.heap.size (.int .i64 M1) (.int .i64 N1) (.slice aA L1.length cA)) U0.heap.size (.int .i64 M2) (.int .i64 N2) (.slice aB L2.length cB))) := Lib.hid (BoxL.put3 HX10.out)
        have HX9 : Hid (BoxL V1.heap.size (.int .i64 M1) (.int .i64 N1) (.slice aA L1.length cA) (set3 (set3 y3 V1.heap.size (.int .i64 M1) (.int .i64 N1) (.slice aA L1.length cA)) U0.heap.size (.int .i64 M2) (.int .i64 N2) (.slice aB L2.length cB))) := Lib.hid (BoxL.far3 HX9.out (show U0.heap.size ≠ V1.heap.size by omega))
        have RA0 : Hid (PatIn _ _ (set3 (set3 y3 V1.heap.size (.int .i64 M1) (.int .i64 N1) (.slice aA L1.length cA)) U0.heap.size (.int .i64 M2) (.int .i64 N2) (.slice aB L2.length cB)) _ _) := Lib.hid (row3 RA0.out (by omega) (by first | omega | (simp [World.setCell] <;> omega)))
        have RB0 : Hid (PatIn _ _ (set3 (set3 y3 V1.heap.size (.int .i64 M1) (.int .i64 N1) (.slice aA L1.length cA)) U0.heap.size (.int .i64 M2) (.int .i64 N2) (.slice aB L2.length cB)) _ _) := Lib.hid (row3 RB0.out (by omega) (by first | omega | (simp [World.setCell] <;> omega)))
        refine reg_take 13 (v := ?_) rfl (by kernel_rfl) (by kernel_rfl) (by kernel_rfl) (fun _ _ _ h => h) (by rfl) (by intro w hSw; (try dsimp only at hSw); go_simp; first | done | with_reducible rfl) hS ?_
        (try simp only [Act.put, List.setIfInBounds_toArray, List.set_cons_zero, List.set_cons_succ])
        refine wpAnyH_done (by kernel_rfl) ?_ _
        have HBW := Lib.hid hS.2.2.2.2.2
        clear hS
        go_wp2_with fail
        go_meet
        exact ⟨_, _, _, _, y3.heap.size, rfl, rfl, HX9, HX10, Lib.hid (RA0.out.wide (by omega) (Nat.le_refl _)), Lib.hid (RB0.out.wide (by omega) (Nat.le_refl _)), by simp [World.setCell] <;> omega, HBW⟩
  case rest =>
    obtain ⟨pA, pB, vA, vB, k, rfl, rfl, HA, HB, RA, RB, hk, HBW⟩ := hcut
    have hsx := HBW.out.size
    obtain ⟨a0, a1, a2, _, _, _⟩ := HA.out
    clear b0 b1 b2 e0 e1 S0 CS CC KP1 KS1
    go_wp2_with fail
    refine (HIH.out G.heap.size k vA _ RA.out hk).mono ?_
    rintro e y ⟨rfl, hby⟩
    have hsy := hby.size
    have HBY : Hid (Below w.heap.size w y) := Lib.hid (bel_c (HB1.out.trans (HBW.out.mono (by omega))) (Nat.le_refl _) hby)
    clear hby a0 a1 a2
    go_wp2_with fail
    go_ret
    exact ⟨rfl, HBY.out⟩

set_option maxHeartbeats 6400000 in
set_option maxRecDepth 20000 in
theorem Sew_right (lo hi : Nat) (m n : Int) (v : Value) (xs : List P5) (c : C2) (rr : List C2) (z : Bool) (w : World) (r : PatIn lo hi w v xs) (hhi : hi ≤ w.heap.size) (lay : LayOk m n xs) (hl1 : xs.length ≠ 1) (hcs : cutsL m n xs = c :: rr)
    (ih : ∀ (lo hi : Nat) (v : Value) (w : World), PatIn lo hi w v (pL1 m n c xs) → hi ≤ w.heap.size → Calls Try.prog 12 #[.agg #[.int .i64 (pM1 m c), .int .i64 (pN1 n c), v]] w (fun e w' => e = .returned (.bool true) ∧ Below w.heap.size w w'))
    (ih2 : ∀ (lo hi : Nat) (v : Value) (w : World), PatIn lo hi w v (pL2 m n c xs) → hi ≤ w.heap.size → Calls Try.prog 12 #[.agg #[.int .i64 (pM2 m c), .int .i64 (pN2 n c), v]] w (fun e w' => e = .returned (.bool z) ∧ Below w.heap.size w w')) :
    Calls Try.prog 12 #[.agg #[.int .i64 m, .int .i64 n, v]] w (fun e w' => e = .returned (.bool z) ∧ Below w.heap.size w w') := by
  have hc := first_cut hcs
  obtain ⟨b, cap, rfl⟩ := r.form
  have R := Lib.hid r
  have HL := Lib.hid lay
  have HC := Lib.hid hc
  have hd : ((xs.length : Int) == 1) = false := by simp; omega
  have LK : Hid (∀ u : World, Below w.heap.size w u → Calls Try.prog 37 #[.agg #[.int .i64 m, .int .i64 n, .slice b xs.length cap]] u fun e w' => e = .returned (.bool true) ∧ Below u.heap.size u w') := Lib.hid (fun u hb => by rw [lay_yes lay]; exact SpecLayoutOk_any lo hi m n _ xs u (r.below (hb.mono hhi)) (Nat.le_trans hhi hb.size))
  have CC : Hid (∀ u : World, Below w.heap.size w u → Calls Try.prog 38 #[.agg #[.int .i64 m, .int .i64 n, .slice b xs.length cap]] u (FreshCut (c :: rr) u)) := Lib.hid (fun u hb => by rw [← hcs, ← cuts_yes (lay_yes lay).symm]; exact SpecCutsOf_any lo hi m n _ xs u (r.below (hb.mono hhi)) (Nat.le_trans hhi hb.size))
  have HB0 : Hid (Below w.heap.size w (w.alloc (.cells #[.int .i64 m, .int .i64 n, .slice b xs.length cap] 26))) := Lib.hid (bel0 w _)
  have HIH := Lib.hid ih
  have HIH2 := Lib.hid ih2
  clear r lay hcs hc ih ih2
  go_enter Try.func12, Try.ntmps12
  go_wp2_with fail
  refine (LK.out _ HB0.out).mono ?_
  rintro e w0 ⟨rfl, hb0⟩
  have a0 := kept (p := ⟨w.heap.size, 0, none⟩) (x := .int .i64 m) hb0 (by go_simp)
  have a1 := kept (p := ⟨w.heap.size, 1, none⟩) (x := .int .i64 n) hb0 (by go_simp)
  have a2 := kept (p := ⟨w.heap.size, 2, none⟩) (x := .slice b xs.length cap) hb0 (by go_simp)
  have HB00 := Lib.hid (bel_c HB0.out (Nat.le_refl _) hb0)
  clear hb0
  go_wp2_with fail
  refine (CC.out _ HB00.out).mono ?_
  rintro e w1 ⟨vc, rfl, RC, hb1⟩
  obtain ⟨ac, cc, rfl⟩ := RC.form
  obtain ⟨g, rfl, hg, hg1, ⟨e0, e1⟩, _⟩ := RC.at (Below.refl _ _) (i := 0) (by simp)
  obtain ⟨up, a⟩ := c
  simp only [Nat.zero_mul, Nat.zero_add, List.getD_cons_zero] at e0 e1
  have b0 := kept hb1 a0
  have b1 := kept hb1 a1
  have b2 := kept hb1 a2
  have hs1 := hb1.size
  have hs0 := HB00.out.size
  have HB1 := Lib.hid (bel_c HB00.out (Nat.le_refl _) hb1)
  clear hb1 RC a0 a1 a2 HB00 HB0
  generalize w1 = G at *
  obtain ⟨M1, hM1⟩ : ∃ M1, M1 = pM1 m ⟨up, a⟩ := ⟨_, rfl⟩
  obtain ⟨N1, hN1⟩ : ∃ N1, N1 = pN1 n ⟨up, a⟩ := ⟨_, rfl⟩
  obtain ⟨M2, hM2⟩ : ∃ M2, M2 = pM2 m ⟨up, a⟩ := ⟨_, rfl⟩
  obtain ⟨N2, hN2⟩ : ∃ N2, N2 = pN2 n ⟨up, a⟩ := ⟨_, rfl⟩
  obtain ⟨L1, hL1⟩ : ∃ L1, L1 = pL1 m n ⟨up, a⟩ xs := ⟨_, rfl⟩
  obtain ⟨L2, hL2⟩ : ∃ L2, L2 = pL2 m n ⟨up, a⟩ xs := ⟨_, rfl⟩
  have D0 : Below G.heap.size G G.drew := ⟨rfl, rfl, rfl, Nat.le_refl _, fun _ _ => rfl⟩
  have CS : Hid (∀ u : World, (u.cell? ⟨w.heap.size, 0, none⟩ = some (.int .i64 m) ∧ u.cell? ⟨w.heap.size, 1, none⟩ = some (.int .i64 n) ∧ u.cell? ⟨w.heap.size, 2, none⟩ = some (.slice b xs.length cap) ∧ u.cell? ⟨g, 0, none⟩ = some (.bool up) ∧ u.cell? ⟨g, 1, none⟩ = some (.int .i64 a) ∧ Below G.heap.size G u) → Calls Try.prog 39 #[.agg #[.int .i64 m, .int .i64 n, .slice b xs.length cap], .agg #[.bool up, .int .i64 a]] u (SplitLW M1 N1 L1 M2 N2 L2 true u)) := Lib.hid (fun u h => by
    have hu := bel_c HB1.out (Nat.le_refl _) h.2.2.2.2.2
    have hcb : cutB m n xs ⟨up, a⟩ = true := by rw [← cut_lay (lay_yes HL.out).symm]; exact HC.out
    have hsp := SpecSplitLayout_any lo hi m n _ xs up a u (R.out.below (hu.mono hhi)) (Nat.le_trans hhi hu.size)
    obtain ⟨e1, e2, e3, e4, e5, e6⟩ := s_yes hcb
    rw [e1, e2, e3, e4, e5, e6, hcb, ← hM1, ← hN1, ← hM2, ← hN2, ← hL1, ← hL2] at hsp
    exact hsp)
  have S0 : G.drew.cell? ⟨w.heap.size, 0, none⟩ = some (.int .i64 m) ∧ G.drew.cell? ⟨w.heap.size, 1, none⟩ = some (.int .i64 n) ∧ G.drew.cell? ⟨w.heap.size, 2, none⟩ = some (.slice b xs.length cap) ∧ G.drew.cell? ⟨g, 0, none⟩ = some (.bool up) ∧ G.drew.cell? ⟨g, 1, none⟩ = some (.int .i64 a) ∧ Below G.heap.size G G.drew := ⟨kept D0 b0, kept D0 b1, kept D0 b2, kept D0 e0, kept D0 e1, D0⟩
  rw [← hM1, ← hN1, ← hL1] at HIH
  rw [← hM2, ← hN2, ← hL2] at HIH2
  clear hM1 hN1 hM2 hN2 hL1 hL2
  have KP : ∀ u v : World, Below u.heap.size u v → (u.cell? ⟨w.heap.size, 0, none⟩ = some (.int .i64 m) ∧ u.cell? ⟨w.heap.size, 1, none⟩ = some (.int .i64 n) ∧ u.cell? ⟨w.heap.size, 2, none⟩ = some (.slice b xs.length cap) ∧ u.cell? ⟨g, 0, none⟩ = some (.bool up) ∧ u.cell? ⟨g, 1, none⟩ = some (.int .i64 a) ∧ Below G.heap.size G u) → (v.cell? ⟨w.heap.size, 0, none⟩ = some (.int .i64 m) ∧ v.cell? ⟨w.heap.size, 1, none⟩ = some (.int .i64 n) ∧ v.cell? ⟨w.heap.size, 2, none⟩ = some (.slice b xs.length cap) ∧ v.cell? ⟨g, 0, none⟩ = some (.bool up) ∧ v.cell? ⟨g, 1, none⟩ = some (.int .i64 a) ∧ Below G.heap.size G v) := fun u v hb h => ⟨kept hb h.1, kept hb h.2.1, kept hb h.2.2.1, kept hb h.2.2.2.1, kept hb h.2.2.2.2.1, bel_c h.2.2.2.2.2 (Nat.le_refl _) hb⟩
  have KS : ∀ (u : World) (p : Nat) (x0 x1 x2 : Value), G.heap.size ≤ p → (u.cell? ⟨w.heap.size, 0, none⟩ = some (.int .i64 m) ∧ u.cell? ⟨w.heap.size, 1, none⟩ = some (.int .i64 n) ∧ u.cell? ⟨w.heap.size, 2, none⟩ = some (.slice b xs.length cap) ∧ u.cell? ⟨g, 0, none⟩ = some (.bool up) ∧ u.cell? ⟨g, 1, none⟩ = some (.int .i64 a) ∧ Below G.heap.size G u) → ((set3 u p x0 x1 x2).cell? ⟨w.heap.size, 0, none⟩ = some (.int .i64 m) ∧ (set3 u p x0 x1 x2).cell? ⟨w.heap.size, 1, none⟩ = some (.int .i64 n) ∧ (set3 u p x0 x1 x2).cell? ⟨w.heap.size, 2, none⟩ = some (.slice b xs.length cap) ∧ (set3 u p x0 x1 x2).cell? ⟨g, 0, none⟩ = some (.bool up) ∧ (set3 u p x0 x1 x2).cell? ⟨g, 1, none⟩ = some (.int .i64 a) ∧ Below G.heap.size G (set3 u p x0 x1 x2)) := fun u p x0 x1 x2 hp h => by
    have h1 : p ≠ w.heap.size := by omega
    have h2 : p ≠ g := by omega
    exact ⟨(set3_far h1).trans h.1, (set3_far h1).trans h.2.1, (set3_far h1).trans h.2.2.1, (set3_far h2).trans h.2.2.2.1, (set3_far h2).trans h.2.2.2.2.1, ((h.2.2.2.2.2.setCell hp _).setCell hp _).setCell hp _⟩
  have KP1 := Lib.hid KP
  have KS1 := Lib.hid KS
  clear KP KS D0
  go_upto_region 8 with fail
  go_cut [4, 5] (fun q t wx => WL G M1 N1 M2 N2 L1 L2 q t wx)
  case first =>
    (try simp only [List.append_eq, List.cons_append, List.nil_append])
    have hS := S0
    refine reg_begin (fun w' => w'.cell? ⟨w.heap.size, 0, none⟩ = some (.int .i64 m) ∧ w'.cell? ⟨w.heap.size, 1, none⟩ = some (.int .i64 n) ∧ w'.cell? ⟨w.heap.size, 2, none⟩ = some (.slice b xs.length cap) ∧ w'.cell? ⟨g, 0, none⟩ = some (.bool up) ∧ w'.cell? ⟨g, 1, none⟩ = some (.int .i64 a) ∧ Below G.heap.size G w') (by kernel_rfl) hS ?_
    refine reg_take 0 (v := ?_) rfl (by kernel_rfl) (by kernel_rfl) (by kernel_rfl) (fun _ _ _ h => h) (by rfl) (by intro w hSw; (try dsimp only at hSw); go_simp; first | done | with_reducible rfl) hS ?_
    (try simp only [Act.put, List.setIfInBounds_toArray, List.set_cons_zero, List.set_cons_succ])
    refine reg_take 1 (v := ?_) rfl (by kernel_rfl) (by kernel_rfl) (by kernel_rfl) (fun _ _ _ h => h) (by rfl) (by intro w hSw; (try dsimp only at hSw); go_simp; first | done | with_reducible rfl) hS ?_
    (try simp only [Act.put, List.setIfInBounds_toArray, List.set_cons_zero, List.set_cons_succ])
    refine reg_take 2 (v := ?_) rfl (by kernel_rfl) (by kernel_rfl) (by kernel_rfl) (fun _ _ _ h => h) (by rfl) (by intro w hSw; (try dsimp only at hSw); go_simp; first | done | with_reducible rfl) hS ?_
    (try simp only [Act.put, List.setIfInBounds_toArray, List.set_cons_zero, List.set_cons_succ])
    refine reg_take 3 (v := ?_) rfl (by kernel_rfl) (by kernel_rfl) (by kernel_rfl) (fun _ _ _ h => h) (by rfl) (by intro w hSw; (try dsimp only at hSw); go_simp; first | done | with_reducible rfl) hS ?_
    (try simp only [Act.put, List.setIfInBounds_toArray, List.set_cons_zero, List.set_cons_succ])
    have hz0 : G.drew.heap.size ≤ G.heap.size ∧ G.heap.size ≤ G.drew.heap.size := ⟨Nat.le_refl _, Nat.le_refl _⟩
    generalize G.drew = U0 at hS hz0 ⊢
    refine reg_three 4 9 10 rfl rfl rfl (by kernel_rfl) (by rfl) (by rfl) (by rfl) (fun K hK => ?_) (fun K hK => ?_) (fun K hK => ?_)
    · go_simp
      go_at_call 39
      refine (args_eqL (CS.out _ hS) (by with_reducible rfl)).mono ?_
      rintro e y1 ⟨vA, vB, rfl, RA, RB, hb⟩
      have RA0 := Lib.hid RA
      have RB0 := Lib.hid RB
      obtain ⟨aA, cA, rfl⟩ := RA.form
      obtain ⟨aB, cB, rfl⟩ := RB.form
      clear RA RB
      have hzy1 := hb.size
      refine hK.out _ _ (KP1.out _ _ hb hS) (fun hS' => ?_)
      clear hK K hS
      have hS := hS'
      clear hS'
      try (try simp only [Act.put, List.setIfInBounds_toArray, List.set_cons_zero, List.set_cons_succ])
      clear hb
      refine reg_take 5 (v := ?_) rfl (by kernel_rfl) (by kernel_rfl) (by kernel_rfl) (fun _ _ _ h => h) (by rfl) (by intro w hSw; (try dsimp only at hSw); go_simp; first | done | with_reducible rfl) hS ?_
      (try simp only [Act.put, List.setIfInBounds_toArray, List.set_cons_zero, List.set_cons_succ])
      refine reg_take 6 (v := ?_) rfl (by kernel_rfl) (by kernel_rfl) (by kernel_rfl) (fun _ _ _ h => h) (by rfl) (by intro w hSw; (try dsimp only at hSw); go_simp; first | done | with_reducible rfl) hS ?_
      (try simp only [Act.put, List.setIfInBounds_toArray, List.set_cons_zero, List.set_cons_succ])
      refine reg_take 7 (v := ?_) rfl (by kernel_rfl) (by kernel_rfl) (by kernel_rfl) (fun _ _ _ h => h) (by rfl) (by intro w hSw; (try dsimp only at hSw); go_simp; first | done | with_reducible rfl) hS ?_
      (try simp only [Act.put, List.setIfInBounds_toArray, List.set_cons_zero, List.set_cons_succ])
      refine reg_take 8 (v := ?_) rfl (by kernel_rfl) (by kernel_rfl) (by kernel_rfl) (fun _ _ _ h => h) (by rfl) (by intro w hSw; (try dsimp only at hSw); go_simp; first | done | with_reducible rfl) hS ?_
      (try simp only [Act.put, List.setIfInBounds_toArray, List.set_cons_zero, List.set_cons_succ])
      refine reg_two 9 10 rfl rfl (by kernel_rfl) (by rfl) (by rfl) (fun K hK => ?_) (fun K hK => ?_)
      · go_simp
        refine hK.out _ _ (KP1.out _ _ (bel0 _ _) hS) (fun hS' => ?_)
        clear hK K hS
        have hS := hS'
        clear hS'
        try (try simp only [Act.put, List.setIfInBounds_toArray, List.set_cons_zero, List.set_cons_succ])
        have hbe : Below y1.heap.size y1 (y1.alloc (.cells #[.int .i64 0, .int .i64 0, .slice none 0 0] 26)) := bel0 _ _
        have HX9 := Lib.hid (BoxL.new y1 (.int .i64 0) (.int .i64 0) (.slice none 0 0) 26)
        have hzV2 : (y1.alloc (.cells #[.int .i64 0, .int .i64 0, .slice none 0 0] 26)).heap.size ≤ y1.heap.size + 1 ∧ y1.heap.size + 1 ≤ (y1.alloc (.cells #[.int .i64 0, .int .i64 0, .slice none 0 0] 26)).heap.size := by simp
        have RA0 := Lib.hid (RA0.out.below (hbe.mono (by omega)))
        have RB0 := Lib.hid (RB0.out.below (hbe.mono (by omega)))
        obtain ⟨V2, hV⟩ : ∃ V, V = y1.alloc (.cells #[.int .i64 0, .int .i64 0, .slice none 0 0] 26) := ⟨_, rfl⟩
        rw [← hV] at hS HX9 hzV2 RA0 RB0 ⊢
        clear hV hbe
        refine reg_call 10 rfl (by kernel_rfl) (by rfl) (fun K hK => ?_)
        go_simp
        refine hK.out _ _ (KP1.out _ _ (bel0 _ _) hS) (fun hS' => ?_)
        clear hK K hS
        have hS := hS'
        clear hS'
        try (try simp only [Act.put, List.setIfInBounds_toArray, List.set_cons_zero, List.set_cons_succ])
        have hbe : Below V2.heap.size V2 (V2.alloc (.cells #[.int .i64 0, .int .i64 0, .slice none 0 0] 26)) := bel0 _ _
        have HX10 := Lib.hid (BoxL.new V2 (.int .i64 0) (.int .i64 0) (.slice none 0 0) 26)
        have hzV3 : (V2.alloc (.cells #[.int .i64 0, .int .i64 0, .slice none 0 0] 26)).heap.size ≤ V2.heap.size + 1 ∧ V2.heap.size + 1 ≤ (V2.alloc (.cells #[.int .i64 0, .int .i64 0, .slice none 0 0] 26)).heap.size := by simp
        have HX9 := Lib.hid (HX9.out.below hbe (by omega))
        have RA0 := Lib.hid (RA0.out.below (hbe.mono (by omega)))
        have RB0 := Lib.hid (RB0.out.below (hbe.mono (by omega)))
        obtain ⟨V3, hV⟩ : ∃ V, V = V2.alloc (.cells #[.int .i64 0, .int .i64 0, .slice none 0 0] 26) := ⟨_, rfl⟩
        rw [← hV] at hS HX9 HX10 hzV3 RA0 RB0 ⊢
        clear hV hbe
        clear KP1
        refine reg_call 11 rfl (by kernel_rfl) (by rfl) (fun K hK => ?_)
        have ec0 := HX9.out.1
        have ec1 := HX9.out.2.1
        have ec2 := HX9.out.2.2.1
        have ec3 := HX9.out.2.2.2.1
        have ec4 := HX9.out.2.2.2.2.1
        have ec5 := HX9.out.2.2.2.2.2
        go_simp
        refine hK.out _ _ (KS1.out _ y1.heap.size (.int .i64 M1) (.int .i64 N1) (.slice aA L1.length cA) (by omega) hS) (fun hS' => ?_)
        clear hK K hS ec0 ec1 ec2 ec3 ec4 ec5
        have hS := hS'
        clear hS'
        try (try simp only [Act.put, List.setIfInBounds_toArray, List.set_cons_zero, List.set_cons_succ])
        have HX9 : Hid (BoxL y1.heap.size (.int .i64 M1) (.int .i64 N1) (.slice aA L1.length cA) (set3 V3 y1.heap.size (.int .i64 M1) (.int .i64 N1) (.slice aA L1.length cA))) := Lib.hid (BoxL.put3 HX9.out)
        have HX10 : Hid (BoxL V2.heap.size (.int .i64 0) (.int .i64 0) (.slice none 0 0) (set3 V3 y1.heap.size (.int .i64 M1) (.int .i64 N1) (.slice aA L1.length cA))) := Lib.hid (BoxL.far3 HX10.out (show y1.heap.size ≠ V2.heap.size by omega))
        have RA0 : Hid (PatIn _ _ (set3 V3 y1.heap.size (.int .i64 M1) (.int .i64 N1) (.slice aA L1.length cA)) _ _) := Lib.hid (row3 RA0.out (by omega) (by first | omega | (simp [World.setCell] <;> omega)))
        have RB0 : Hid (PatIn _ _ (set3 V3 y1.heap.size (.int .i64 M1) (.int .i64 N1) (.slice aA L1.length cA)) _ _) := Lib.hid (row3 RB0.out (by omega) (by first | omega | (simp [World.setCell] <;> omega)))
        refine reg_call 12 rfl (by kernel_rfl) (by rfl) (fun K hK => ?_)
        have ec0 := HX10.out.1
        have ec1 := HX10.out.2.1
        have ec2 := HX10.out.2.2.1
        have ec3 := HX10.out.2.2.2.1
        have ec4 := HX10.out.2.2.2.2.1
        have ec5 := HX10.out.2.2.2.2.2
        go_simp
        refine hK.out _ _ (KS1.out _ V2.heap.size (.int .i64 M2) (.int .i64 N2) (.slice aB L2.length cB) (by omega) hS) (fun hS' => ?_)
        clear hK K hS ec0 ec1 ec2 ec3 ec4 ec5
        have hS := hS'
        clear hS'
        try (try simp only [Act.put, List.setIfInBounds_toArray, List.set_cons_zero, List.set_cons_succ])
        have HX10 : Hid (BoxL V2.heap.size (.int .i64 M2) (.int .i64 N2) (.slice aB L2.length cB) (set3 (set3 V3 y1.heap.size (.int .i64 M1) (.int .i64 N1) (.slice aA L1.length cA)) V2.heap.size (.int .i64 M2) (.int .i64 N2) (.slice aB L2.length cB))) := Lib.hid (BoxL.put3 HX10.out)
        have HX9 : Hid (BoxL y1.heap.size (.int .i64 M1) (.int .i64 N1) (.slice aA L1.length cA) (set3 (set3 V3 y1.heap.size (.int .i64 M1) (.int .i64 N1) (.slice aA L1.length cA)) V2.heap.size (.int .i64 M2) (.int .i64 N2) (.slice aB L2.length cB))) := Lib.hid (BoxL.far3 HX9.out (show V2.heap.size ≠ y1.heap.size by omega))
        have RA0 : Hid (PatIn _ _ (set3 (set3 V3 y1.heap.size (.int .i64 M1) (.int .i64 N1) (.slice aA L1.length cA)) V2.heap.size (.int .i64 M2) (.int .i64 N2) (.slice aB L2.length cB)) _ _) := Lib.hid (row3 RA0.out (by omega) (by first | omega | (simp [World.setCell] <;> omega)))
        have RB0 : Hid (PatIn _ _ (set3 (set3 V3 y1.heap.size (.int .i64 M1) (.int .i64 N1) (.slice aA L1.length cA)) V2.heap.size (.int .i64 M2) (.int .i64 N2) (.slice aB L2.length cB)) _ _) := Lib.hid (row3 RB0.out (by omega) (by first | omega | (simp [World.setCell] <;> omega)))
        refine reg_take 13 (v := ?_) rfl (by kernel_rfl) (by kernel_rfl) (by kernel_rfl) (fun _ _ _ h => h) (by rfl) (by intro w hSw; (try dsimp only at hSw); go_simp; first | done | with_reducible rfl) hS ?_
        (try simp only [Act.put, List.setIfInBounds_toArray, List.set_cons_zero, List.set_cons_succ])
        refine wpAnyH_done (by kernel_rfl) ?_ _
        have HBW := Lib.hid hS.2.2.2.2.2
        clear hS
        go_wp2_with fail
        go_meet
        exact ⟨_, _, _, _, y1.heap.size, rfl, rfl, HX9, HX10, Lib.hid (RA0.out.wide (by omega) (Nat.le_refl _)), Lib.hid (RB0.out.wide (by omega) (Nat.le_refl _)), by simp [World.setCell] <;> omega, HBW⟩
      · go_simp
        refine hK.out _ _ (KP1.out _ _ (bel0 _ _) hS) (fun hS' => ?_)
        clear hK K hS
        have hS := hS'
        clear hS'
        try (try simp only [Act.put, List.setIfInBounds_toArray, List.set_cons_zero, List.set_cons_succ])
        have hbe : Below y1.heap.size y1 (y1.alloc (.cells #[.int .i64 0, .int .i64 0, .slice none 0 0] 26)) := bel0 _ _
        have HX10 := Lib.hid (BoxL.new y1 (.int .i64 0) (.int .i64 0) (.slice none 0 0) 26)
        have hzV2 : (y1.alloc (.cells #[.int .i64 0, .int .i64 0, .slice none 0 0] 26)).heap.size ≤ y1.heap.size + 1 ∧ y1.heap.size + 1 ≤ (y1.alloc (.cells #[.int .i64 0, .int .i64 0, .slice none 0 0] 26)).heap.size := by simp
        have RA0 := Lib.hid (RA0.out.below (hbe.mono (by omega)))
        have RB0 := Lib.hid (RB0.out.below (hbe.mono (by omega)))
        obtain ⟨V2, hV⟩ : ∃ V, V = y1.alloc (.cells #[.int .i64 0, .int .i64 0, .slice none 0 0] 26) := ⟨_, rfl⟩
        rw [← hV] at hS HX10 hzV2 RA0 RB0 ⊢
        clear hV hbe
        refine reg_call 9 rfl (by kernel_rfl) (by rfl) (fun K hK => ?_)
        go_simp
        refine hK.out _ _ (KP1.out _ _ (bel0 _ _) hS) (fun hS' => ?_)
        clear hK K hS
        have hS := hS'
        clear hS'
        try (try simp only [Act.put, List.setIfInBounds_toArray, List.set_cons_zero, List.set_cons_succ])
        have hbe : Below V2.heap.size V2 (V2.alloc (.cells #[.int .i64 0, .int .i64 0, .slice none 0 0] 26)) := bel0 _ _
        have HX9 := Lib.hid (BoxL.new V2 (.int .i64 0) (.int .i64 0) (.slice none 0 0) 26)
        have hzV3 : (V2.alloc (.cells #[.int .i64 0, .int .i64 0, .slice none 0 0] 26)).heap.size ≤ V2.heap.size + 1 ∧ V2.heap.size + 1 ≤ (V2.alloc (.cells #[.int .i64 0, .int .i64 0, .slice none 0 0] 26)).heap.size := by simp
        have HX10 := Lib.hid (HX10.out.below hbe (by omega))
        have RA0 := Lib.hid (RA0.out.below (hbe.mono (by omega)))
        have RB0 := Lib.hid (RB0.out.below (hbe.mono (by omega)))
        obtain ⟨V3, hV⟩ : ∃ V, V = V2.alloc (.cells #[.int .i64 0, .int .i64 0, .slice none 0 0] 26) := ⟨_, rfl⟩
        rw [← hV] at hS HX10 HX9 hzV3 RA0 RB0 ⊢
        clear hV hbe
        clear KP1
        refine reg_call 11 rfl (by kernel_rfl) (by rfl) (fun K hK => ?_)
        have ec0 := HX9.out.1
        have ec1 := HX9.out.2.1
        have ec2 := HX9.out.2.2.1
        have ec3 := HX9.out.2.2.2.1
        have ec4 := HX9.out.2.2.2.2.1
        have ec5 := HX9.out.2.2.2.2.2
        go_simp
        refine hK.out _ _ (KS1.out _ V2.heap.size (.int .i64 M1) (.int .i64 N1) (.slice aA L1.length cA) (by omega) hS) (fun hS' => ?_)
        clear hK K hS ec0 ec1 ec2 ec3 ec4 ec5
        have hS := hS'
        clear hS'
        try (try simp only [Act.put, List.setIfInBounds_toArray, List.set_cons_zero, List.set_cons_succ])
        have HX9 : Hid (BoxL V2.heap.size (.int .i64 M1) (.int .i64 N1) (.slice aA L1.length cA) (set3 V3 V2.heap.size (.int .i64 M1) (.int .i64 N1) (.slice aA L1.length cA))) := Lib.hid (BoxL.put3 HX9.out)
        have HX10 : Hid (BoxL y1.heap.size (.int .i64 0) (.int .i64 0) (.slice none 0 0) (set3 V3 V2.heap.size (.int .i64 M1) (.int .i64 N1) (.slice aA L1.length cA))) := Lib.hid (BoxL.far3 HX10.out (show V2.heap.size ≠ y1.heap.size by omega))
        have RA0 : Hid (PatIn _ _ (set3 V3 V2.heap.size (.int .i64 M1) (.int .i64 N1) (.slice aA L1.length cA)) _ _) := Lib.hid (row3 RA0.out (by omega) (by first | omega | (simp [World.setCell] <;> omega)))
        have RB0 : Hid (PatIn _ _ (set3 V3 V2.heap.size (.int .i64 M1) (.int .i64 N1) (.slice aA L1.length cA)) _ _) := Lib.hid (row3 RB0.out (by omega) (by first | omega | (simp [World.setCell] <;> omega)))
        refine reg_call 12 rfl (by kernel_rfl) (by rfl) (fun K hK => ?_)
        have ec0 := HX10.out.1
        have ec1 := HX10.out.2.1
        have ec2 := HX10.out.2.2.1
        have ec3 := HX10.out.2.2.2.1
        have ec4 := HX10.out.2.2.2.2.1
        have ec5 := HX10.out.2.2.2.2.2
        go_simp
        refine hK.out _ _ (KS1.out _ y1.heap.size (.int .i64 M2) (.int .i64 N2) (.slice aB L2.length cB) (by omega) hS) (fun hS' => ?_)
        clear hK K hS ec0 ec1 ec2 ec3 ec4 ec5
        have hS := hS'
        clear hS'
        try (try simp only [Act.put, List.setIfInBounds_toArray, List.set_cons_zero, List.set_cons_succ])
        have HX10 : Hid (BoxL y1.heap.size (.int .i64 M2) (.int .i64 N2) (.slice aB L2.length cB) (set3 (set3 V3 V2.heap.size (.int .i64 M1) (.int .i64 N1) (.slice aA L1.length cA)) y1.heap.size (.int .i64 M2) (.int .i64 N2) (.slice aB L2.length cB))) := Lib.hid (BoxL.put3 HX10.out)
        have HX9 : Hid (BoxL V2.heap.size (.int .i64 M1) (.int .i64 N1) (.slice aA L1.length cA) (set3 (set3 V3 V2.heap.size (.int .i64 M1) (.int .i64 N1) (.slice aA L1.length cA)) y1.heap.size (.int .i64 M2) (.int .i64 N2) (.slice aB L2.length cB))) := Lib.hid (BoxL.far3 HX9.out (show y1.heap.size ≠ V2.heap.size by omega))
        have RA0 : Hid (PatIn _ _ (set3 (set3 V3 V2.heap.size (.int .i64 M1) (.int .i64 N1) (.slice aA L1.length cA)) y1.heap.size (.int .i64 M2) (.int .i64 N2) (.slice aB L2.length cB)) _ _) := Lib.hid (row3 RA0.out (by omega) (by first | omega | (simp [World.setCell] <;> omega)))
        have RB0 : Hid (PatIn _ _ (set3 (set3 V3 V2.heap.size (.int .i64 M1) (.int .i64 N1) (.slice aA L1.length cA)) y1.heap.size (.int .i64 M2) (.int .i64 N2) (.slice aB L2.length cB)) _ _) := Lib.hid (row3 RB0.out (by omega) (by first | omega | (simp [World.setCell] <;> omega)))
        refine reg_take 13 (v := ?_) rfl (by kernel_rfl) (by kernel_rfl) (by kernel_rfl) (fun _ _ _ h => h) (by rfl) (by intro w hSw; (try dsimp only at hSw); go_simp; first | done | with_reducible rfl) hS ?_
        (try simp only [Act.put, List.setIfInBounds_toArray, List.set_cons_zero, List.set_cons_succ])
        refine wpAnyH_done (by kernel_rfl) ?_ _
        have HBW := Lib.hid hS.2.2.2.2.2
        clear hS
        go_wp2_with fail
        go_meet
        exact ⟨_, _, _, _, y1.heap.size, rfl, rfl, HX9, HX10, Lib.hid (RA0.out.wide (by omega) (Nat.le_refl _)), Lib.hid (RB0.out.wide (by omega) (Nat.le_refl _)), by simp [World.setCell] <;> omega, HBW⟩
    · go_simp
      refine hK.out _ _ (KP1.out _ _ (bel0 _ _) hS) (fun hS' => ?_)
      clear hK K hS
      have hS := hS'
      clear hS'
      try (try simp only [Act.put, List.setIfInBounds_toArray, List.set_cons_zero, List.set_cons_succ])
      have hbe : Below U0.heap.size U0 (U0.alloc (.cells #[.int .i64 0, .int .i64 0, .slice none 0 0] 26)) := bel0 _ _
      have HX9 := Lib.hid (BoxL.new U0 (.int .i64 0) (.int .i64 0) (.slice none 0 0) 26)
      have hzV1 : (U0.alloc (.cells #[.int .i64 0, .int .i64 0, .slice none 0 0] 26)).heap.size ≤ U0.heap.size + 1 ∧ U0.heap.size + 1 ≤ (U0.alloc (.cells #[.int .i64 0, .int .i64 0, .slice none 0 0] 26)).heap.size := by simp
      obtain ⟨V1, hV⟩ : ∃ V, V = U0.alloc (.cells #[.int .i64 0, .int .i64 0, .slice none 0 0] 26) := ⟨_, rfl⟩
      rw [← hV] at hS HX9 hzV1 ⊢
      clear hV hbe
      refine reg_two 4 10 rfl rfl (by kernel_rfl) (by rfl) (by rfl) (fun K hK => ?_) (fun K hK => ?_)
      · go_simp
        go_at_call 39
        refine (args_eqL (CS.out _ hS) (by with_reducible rfl)).mono ?_
        rintro e y2 ⟨vA, vB, rfl, RA, RB, hb⟩
        have RA0 := Lib.hid RA
        have RB0 := Lib.hid RB
        obtain ⟨aA, cA, rfl⟩ := RA.form
        obtain ⟨aB, cB, rfl⟩ := RB.form
        clear RA RB
        have hzy2 := hb.size
        have HX9 := Lib.hid (HX9.out.below hb (by omega))
        refine hK.out _ _ (KP1.out _ _ hb hS) (fun hS' => ?_)
        clear hK K hS
        have hS := hS'
        clear hS'
        try (try simp only [Act.put, List.setIfInBounds_toArray, List.set_cons_zero, List.set_cons_succ])
        clear hb
        refine reg_take 5 (v := ?_) rfl (by kernel_rfl) (by kernel_rfl) (by kernel_rfl) (fun _ _ _ h => h) (by rfl) (by intro w hSw; (try dsimp only at hSw); go_simp; first | done | with_reducible rfl) hS ?_
        (try simp only [Act.put, List.setIfInBounds_toArray, List.set_cons_zero, List.set_cons_succ])
        refine reg_take 6 (v := ?_) rfl (by kernel_rfl) (by kernel_rfl) (by kernel_rfl) (fun _ _ _ h => h) (by rfl) (by intro w hSw; (try dsimp only at hSw); go_simp; first | done | with_reducible rfl) hS ?_
        (try simp only [Act.put, List.setIfInBounds_toArray, List.set_cons_zero, List.set_cons_succ])
        refine reg_take 7 (v := ?_) rfl (by kernel_rfl) (by kernel_rfl) (by kernel_rfl) (fun _ _ _ h => h) (by rfl) (by intro w hSw; (try dsimp only at hSw); go_simp; first | done | with_reducible rfl) hS ?_
        (try simp only [Act.put, List.setIfInBounds_toArray, List.set_cons_zero, List.set_cons_succ])
        refine reg_take 8 (v := ?_) rfl (by kernel_rfl) (by kernel_rfl) (by kernel_rfl) (fun _ _ _ h => h) (by rfl) (by intro w hSw; (try dsimp only at hSw); go_simp; first | done | with_reducible rfl) hS ?_
        (try simp only [Act.put, List.setIfInBounds_toArray, List.set_cons_zero, List.set_cons_succ])
        refine reg_call 10 rfl (by kernel_rfl) (by rfl) (fun K hK => ?_)
        go_simp
        refine hK.out _ _ (KP1.out _ _ (bel0 _ _) hS) (fun hS' => ?_)
        clear hK K hS
        have hS := hS'
        clear hS'
        try (try simp only [Act.put, List.setIfInBounds_toArray, List.set_cons_zero, List.set_cons_succ])
        have hbe : Below y2.heap.size y2 (y2.alloc (.cells #[.int .i64 0, .int .i64 0, .slice none 0 0] 26)) := bel0 _ _
        have HX10 := Lib.hid (BoxL.new y2 (.int .i64 0) (.int .i64 0) (.slice none 0 0) 26)
        have hzV3 : (y2.alloc (.cells #[.int .i64 0, .int .i64 0, .slice none 0 0] 26)).heap.size ≤ y2.heap.size + 1 ∧ y2.heap.size + 1 ≤ (y2.alloc (.cells #[.int .i64 0, .int .i64 0, .slice none 0 0] 26)).heap.size := by simp
        have HX9 := Lib.hid (HX9.out.below hbe (by omega))
        have RA0 := Lib.hid (RA0.out.below (hbe.mono (by omega)))
        have RB0 := Lib.hid (RB0.out.below (hbe.mono (by omega)))
        obtain ⟨V3, hV⟩ : ∃ V, V = y2.alloc (.cells #[.int .i64 0, .int .i64 0, .slice none 0 0] 26) := ⟨_, rfl⟩
        rw [← hV] at hS HX9 HX10 hzV3 RA0 RB0 ⊢
        clear hV hbe
        clear KP1
        refine reg_call 11 rfl (by kernel_rfl) (by rfl) (fun K hK => ?_)
        have ec0 := HX9.out.1
        have ec1 := HX9.out.2.1
        have ec2 := HX9.out.2.2.1
        have ec3 := HX9.out.2.2.2.1
        have ec4 := HX9.out.2.2.2.2.1
        have ec5 := HX9.out.2.2.2.2.2
        go_simp
        refine hK.out _ _ (KS1.out _ U0.heap.size (.int .i64 M1) (.int .i64 N1) (.slice aA L1.length cA) (by omega) hS) (fun hS' => ?_)
        clear hK K hS ec0 ec1 ec2 ec3 ec4 ec5
        have hS := hS'
        clear hS'
        try (try simp only [Act.put, List.setIfInBounds_toArray, List.set_cons_zero, List.set_cons_succ])
        have HX9 : Hid (BoxL U0.heap.size (.int .i64 M1) (.int .i64 N1) (.slice aA L1.length cA) (set3 V3 U0.heap.size (.int .i64 M1) (.int .i64 N1) (.slice aA L1.length cA))) := Lib.hid (BoxL.put3 HX9.out)
        have HX10 : Hid (BoxL y2.heap.size (.int .i64 0) (.int .i64 0) (.slice none 0 0) (set3 V3 U0.heap.size (.int .i64 M1) (.int .i64 N1) (.slice aA L1.length cA))) := Lib.hid (BoxL.far3 HX10.out (show U0.heap.size ≠ y2.heap.size by omega))
        have RA0 : Hid (PatIn _ _ (set3 V3 U0.heap.size (.int .i64 M1) (.int .i64 N1) (.slice aA L1.length cA)) _ _) := Lib.hid (row3 RA0.out (by omega) (by first | omega | (simp [World.setCell] <;> omega)))
        have RB0 : Hid (PatIn _ _ (set3 V3 U0.heap.size (.int .i64 M1) (.int .i64 N1) (.slice aA L1.length cA)) _ _) := Lib.hid (row3 RB0.out (by omega) (by first | omega | (simp [World.setCell] <;> omega)))
        refine reg_call 12 rfl (by kernel_rfl) (by rfl) (fun K hK => ?_)
        have ec0 := HX10.out.1
        have ec1 := HX10.out.2.1
        have ec2 := HX10.out.2.2.1
        have ec3 := HX10.out.2.2.2.1
        have ec4 := HX10.out.2.2.2.2.1
        have ec5 := HX10.out.2.2.2.2.2
        go_simp
        refine hK.out _ _ (KS1.out _ y2.heap.size (.int .i64 M2) (.int .i64 N2) (.slice aB L2.length cB) (by omega) hS) (fun hS' => ?_)
        clear hK K hS ec0 ec1 ec2 ec3 ec4 ec5
        have hS := hS'
        clear hS'
        try (try simp only [Act.put, List.setIfInBounds_toArray, List.set_cons_zero, List.set_cons_succ])
        have HX10 : Hid (BoxL y2.heap.size (.int .i64 M2) (.int .i64 N2) (.slice aB L2.length cB) (set3 (set3 V3 U0.heap.size (.int .i64 M1) (.int .i64 N1) (.slice aA L1.length cA)) y2.heap.size (.int .i64 M2) (.int .i64 N2) (.slice aB L2.length cB))) := Lib.hid (BoxL.put3 HX10.out)
        have HX9 : Hid (BoxL U0.heap.size (.int .i64 M1) (.int .i64 N1) (.slice aA L1.length cA) (set3 (set3 V3 U0.heap.size (.int .i64 M1) (.int .i64 N1) (.slice aA L1.length cA)) y2.heap.size (.int .i64 M2) (.int .i64 N2) (.slice aB L2.length cB))) := Lib.hid (BoxL.far3 HX9.out (show y2.heap.size ≠ U0.heap.size by omega))
        have RA0 : Hid (PatIn _ _ (set3 (set3 V3 U0.heap.size (.int .i64 M1) (.int .i64 N1) (.slice aA L1.length cA)) y2.heap.size (.int .i64 M2) (.int .i64 N2) (.slice aB L2.length cB)) _ _) := Lib.hid (row3 RA0.out (by omega) (by first | omega | (simp [World.setCell] <;> omega)))
        have RB0 : Hid (PatIn _ _ (set3 (set3 V3 U0.heap.size (.int .i64 M1) (.int .i64 N1) (.slice aA L1.length cA)) y2.heap.size (.int .i64 M2) (.int .i64 N2) (.slice aB L2.length cB)) _ _) := Lib.hid (row3 RB0.out (by omega) (by first | omega | (simp [World.setCell] <;> omega)))
        refine reg_take 13 (v := ?_) rfl (by kernel_rfl) (by kernel_rfl) (by kernel_rfl) (fun _ _ _ h => h) (by rfl) (by intro w hSw; (try dsimp only at hSw); go_simp; first | done | with_reducible rfl) hS ?_
        (try simp only [Act.put, List.setIfInBounds_toArray, List.set_cons_zero, List.set_cons_succ])
        refine wpAnyH_done (by kernel_rfl) ?_ _
        have HBW := Lib.hid hS.2.2.2.2.2
        clear hS
        go_wp2_with fail
        go_meet
        exact ⟨_, _, _, _, y2.heap.size, rfl, rfl, HX9, HX10, Lib.hid (RA0.out.wide (by omega) (Nat.le_refl _)), Lib.hid (RB0.out.wide (by omega) (Nat.le_refl _)), by simp [World.setCell] <;> omega, HBW⟩
      · go_simp
        refine hK.out _ _ (KP1.out _ _ (bel0 _ _) hS) (fun hS' => ?_)
        clear hK K hS
        have hS := hS'
        clear hS'
        try (try simp only [Act.put, List.setIfInBounds_toArray, List.set_cons_zero, List.set_cons_succ])
        have hbe : Below V1.heap.size V1 (V1.alloc (.cells #[.int .i64 0, .int .i64 0, .slice none 0 0] 26)) := bel0 _ _
        have HX10 := Lib.hid (BoxL.new V1 (.int .i64 0) (.int .i64 0) (.slice none 0 0) 26)
        have hzV2 : (V1.alloc (.cells #[.int .i64 0, .int .i64 0, .slice none 0 0] 26)).heap.size ≤ V1.heap.size + 1 ∧ V1.heap.size + 1 ≤ (V1.alloc (.cells #[.int .i64 0, .int .i64 0, .slice none 0 0] 26)).heap.size := by simp
        have HX9 := Lib.hid (HX9.out.below hbe (by omega))
        obtain ⟨V2, hV⟩ : ∃ V, V = V1.alloc (.cells #[.int .i64 0, .int .i64 0, .slice none 0 0] 26) := ⟨_, rfl⟩
        rw [← hV] at hS HX9 HX10 hzV2 ⊢
        clear hV hbe
        refine reg_call 4 rfl (by kernel_rfl) (by rfl) (fun K hK => ?_)
        go_simp
        go_at_call 39
        refine (args_eqL (CS.out _ hS) (by with_reducible rfl)).mono ?_
        rintro e y3 ⟨vA, vB, rfl, RA, RB, hb⟩
        have RA0 := Lib.hid RA
        have RB0 := Lib.hid RB
        obtain ⟨aA, cA, rfl⟩ := RA.form
        obtain ⟨aB, cB, rfl⟩ := RB.form
        clear RA RB
        have hzy3 := hb.size
        have HX9 := Lib.hid (HX9.out.below hb (by omega))
        have HX10 := Lib.hid (HX10.out.below hb (by omega))
        refine hK.out _ _ (KP1.out _ _ hb hS) (fun hS' => ?_)
        clear hK K hS
        have hS := hS'
        clear hS'
        try (try simp only [Act.put, List.setIfInBounds_toArray, List.set_cons_zero, List.set_cons_succ])
        clear hb
        refine reg_take 5 (v := ?_) rfl (by kernel_rfl) (by kernel_rfl) (by kernel_rfl) (fun _ _ _ h => h) (by rfl) (by intro w hSw; (try dsimp only at hSw); go_simp; first | done | with_reducible rfl) hS ?_
        (try simp only [Act.put, List.setIfInBounds_toArray, List.set_cons_zero, List.set_cons_succ])
        refine reg_take 6 (v := ?_) rfl (by kernel_rfl) (by kernel_rfl) (by kernel_rfl) (fun _ _ _ h => h) (by rfl) (by intro w hSw; (try dsimp only at hSw); go_simp; first | done | with_reducible rfl) hS ?_
        (try simp only [Act.put, List.setIfInBounds_toArray, List.set_cons_zero, List.set_cons_succ])
        refine reg_take 7 (v := ?_) rfl (by kernel_rfl) (by kernel_rfl) (by kernel_rfl) (fun _ _ _ h => h) (by rfl) (by intro w hSw; (try dsimp only at hSw); go_simp; first | done | with_reducible rfl) hS ?_
        (try simp only [Act.put, List.setIfInBounds_toArray, List.set_cons_zero, List.set_cons_succ])
        refine reg_take 8 (v := ?_) rfl (by kernel_rfl) (by kernel_rfl) (by kernel_rfl) (fun _ _ _ h => h) (by rfl) (by intro w hSw; (try dsimp only at hSw); go_simp; first | done | with_reducible rfl) hS ?_
        (try simp only [Act.put, List.setIfInBounds_toArray, List.set_cons_zero, List.set_cons_succ])
        clear KP1
        refine reg_call 11 rfl (by kernel_rfl) (by rfl) (fun K hK => ?_)
        have ec0 := HX9.out.1
        have ec1 := HX9.out.2.1
        have ec2 := HX9.out.2.2.1
        have ec3 := HX9.out.2.2.2.1
        have ec4 := HX9.out.2.2.2.2.1
        have ec5 := HX9.out.2.2.2.2.2
        go_simp
        refine hK.out _ _ (KS1.out _ U0.heap.size (.int .i64 M1) (.int .i64 N1) (.slice aA L1.length cA) (by omega) hS) (fun hS' => ?_)
        clear hK K hS ec0 ec1 ec2 ec3 ec4 ec5
        have hS := hS'
        clear hS'
        try (try simp only [Act.put, List.setIfInBounds_toArray, List.set_cons_zero, List.set_cons_succ])
        have HX9 : Hid (BoxL U0.heap.size (.int .i64 M1) (.int .i64 N1) (.slice aA L1.length cA) (set3 y3 U0.heap.size (.int .i64 M1) (.int .i64 N1) (.slice aA L1.length cA))) := Lib.hid (BoxL.put3 HX9.out)
        have HX10 : Hid (BoxL V1.heap.size (.int .i64 0) (.int .i64 0) (.slice none 0 0) (set3 y3 U0.heap.size (.int .i64 M1) (.int .i64 N1) (.slice aA L1.length cA))) := Lib.hid (BoxL.far3 HX10.out (show U0.heap.size ≠ V1.heap.size by omega))
        have RA0 : Hid (PatIn _ _ (set3 y3 U0.heap.size (.int .i64 M1) (.int .i64 N1) (.slice aA L1.length cA)) _ _) := Lib.hid (row3 RA0.out (by omega) (by first | omega | (simp [World.setCell] <;> omega)))
        have RB0 : Hid (PatIn _ _ (set3 y3 U0.heap.size (.int .i64 M1) (.int .i64 N1) (.slice aA L1.length cA)) _ _) := Lib.hid (row3 RB0.out (by omega) (by first | omega | (simp [World.setCell] <;> omega)))
        refine reg_call 12 rfl (by kernel_rfl) (by rfl) (fun K hK => ?_)
        have ec0 := HX10.out.1
        have ec1 := HX10.out.2.1
        have ec2 := HX10.out.2.2.1
        have ec3 := HX10.out.2.2.2.1
        have ec4 := HX10.out.2.2.2.2.1
        have ec5 := HX10.out.2.2.2.2.2
        go_simp
        refine hK.out _ _ (KS1.out _ V1.heap.size (.int .i64 M2) (.int .i64 N2) (.slice aB L2.length cB) (by omega) hS) (fun hS' => ?_)
        clear hK K hS ec0 ec1 ec2 ec3 ec4 ec5
        have hS := hS'
        clear hS'
        try (try simp only [Act.put, List.setIfInBounds_toArray, List.set_cons_zero, List.set_cons_succ])
        have HX10 : Hid (BoxL V1.heap.size (.int .i64 M2) (.int .i64 N2) (.slice aB L2.length cB) (set3 (set3 y3 U0.heap.size (.int .i64 M1) (.int .i64 N1) (.slice aA L1.length cA)) V1.heap.size (.int .i64 M2) (.int .i64 N2) (.slice aB L2.length cB))) := Lib.hid (BoxL.put3 HX10.out)
        have HX9 : Hid (BoxL U0.heap.size (.int .i64 M1) (.int .i64 N1) (.slice aA L1.length cA) (set3 (set3 y3 U0.heap.size (.int .i64 M1) (.int .i64 N1) (.slice aA L1.length cA)) V1.heap.size (.int .i64 M2) (.int .i64 N2) (.slice aB L2.length cB))) := Lib.hid (BoxL.far3 HX9.out (show V1.heap.size ≠ U0.heap.size by omega))
        have RA0 : Hid (PatIn _ _ (set3 (set3 y3 U0.heap.size (.int .i64 M1) (.int .i64 N1) (.slice aA L1.length cA)) V1.heap.size (.int .i64 M2) (.int .i64 N2) (.slice aB L2.length cB)) _ _) := Lib.hid (row3 RA0.out (by omega) (by first | omega | (simp [World.setCell] <;> omega)))
        have RB0 : Hid (PatIn _ _ (set3 (set3 y3 U0.heap.size (.int .i64 M1) (.int .i64 N1) (.slice aA L1.length cA)) V1.heap.size (.int .i64 M2) (.int .i64 N2) (.slice aB L2.length cB)) _ _) := Lib.hid (row3 RB0.out (by omega) (by first | omega | (simp [World.setCell] <;> omega)))
        refine reg_take 13 (v := ?_) rfl (by kernel_rfl) (by kernel_rfl) (by kernel_rfl) (fun _ _ _ h => h) (by rfl) (by intro w hSw; (try dsimp only at hSw); go_simp; first | done | with_reducible rfl) hS ?_
        (try simp only [Act.put, List.setIfInBounds_toArray, List.set_cons_zero, List.set_cons_succ])
        refine wpAnyH_done (by kernel_rfl) ?_ _
        have HBW := Lib.hid hS.2.2.2.2.2
        clear hS
        go_wp2_with fail
        go_meet
        exact ⟨_, _, _, _, y3.heap.size, rfl, rfl, HX9, HX10, Lib.hid (RA0.out.wide (by omega) (Nat.le_refl _)), Lib.hid (RB0.out.wide (by omega) (Nat.le_refl _)), by simp [World.setCell] <;> omega, HBW⟩
    · go_simp
      refine hK.out _ _ (KP1.out _ _ (bel0 _ _) hS) (fun hS' => ?_)
      clear hK K hS
      have hS := hS'
      clear hS'
      try (try simp only [Act.put, List.setIfInBounds_toArray, List.set_cons_zero, List.set_cons_succ])
      have hbe : Below U0.heap.size U0 (U0.alloc (.cells #[.int .i64 0, .int .i64 0, .slice none 0 0] 26)) := bel0 _ _
      have HX10 := Lib.hid (BoxL.new U0 (.int .i64 0) (.int .i64 0) (.slice none 0 0) 26)
      have hzV1 : (U0.alloc (.cells #[.int .i64 0, .int .i64 0, .slice none 0 0] 26)).heap.size ≤ U0.heap.size + 1 ∧ U0.heap.size + 1 ≤ (U0.alloc (.cells #[.int .i64 0, .int .i64 0, .slice none 0 0] 26)).heap.size := by simp
      obtain ⟨V1, hV⟩ : ∃ V, V = U0.alloc (.cells #[.int .i64 0, .int .i64 0, .slice none 0 0] 26) := ⟨_, rfl⟩
      rw [← hV] at hS HX10 hzV1 ⊢
      clear hV hbe
      refine reg_two 4 9 rfl rfl (by kernel_rfl) (by rfl) (by rfl) (fun K hK => ?_) (fun K hK => ?_)
      · go_simp
        go_at_call 39
        refine (args_eqL (CS.out _ hS) (by with_reducible rfl)).mono ?_
        rintro e y2 ⟨vA, vB, rfl, RA, RB, hb⟩
        have RA0 := Lib.hid RA
        have RB0 := Lib.hid RB
        obtain ⟨aA, cA, rfl⟩ := RA.form
        obtain ⟨aB, cB, rfl⟩ := RB.form
        clear RA RB
        have hzy2 := hb.size
        have HX10 := Lib.hid (HX10.out.below hb (by omega))
        refine hK.out _ _ (KP1.out _ _ hb hS) (fun hS' => ?_)
        clear hK K hS
        have hS := hS'
        clear hS'
        try (try simp only [Act.put, List.setIfInBounds_toArray, List.set_cons_zero, List.set_cons_succ])
        clear hb
        refine reg_take 5 (v := ?_) rfl (by kernel_rfl) (by kernel_rfl) (by kernel_rfl) (fun _ _ _ h => h) (by rfl) (by intro w hSw; (try dsimp only at hSw); go_simp; first | done | with_reducible rfl) hS ?_
        (try simp only [Act.put, List.setIfInBounds_toArray, List.set_cons_zero, List.set_cons_succ])
        refine reg_take 6 (v := ?_) rfl (by kernel_rfl) (by kernel_rfl) (by kernel_rfl) (fun _ _ _ h => h) (by rfl) (by intro w hSw; (try dsimp only at hSw); go_simp; first | done | with_reducible rfl) hS ?_
        (try simp only [Act.put, List.setIfInBounds_toArray, List.set_cons_zero, List.set_cons_succ])
        refine reg_take 7 (v := ?_) rfl (by kernel_rfl) (by kernel_rfl) (by kernel_rfl) (fun _ _ _ h => h) (by rfl) (by intro w hSw; (try dsimp only at hSw); go_simp; first | done | with_reducible rfl) hS ?_
        (try simp only [Act.put, List.setIfInBounds_toArray, List.set_cons_zero, List.set_cons_succ])
        refine reg_take 8 (v := ?_) rfl (by kernel_rfl) (by kernel_rfl) (by kernel_rfl) (fun _ _ _ h => h) (by rfl) (by intro w hSw; (try dsimp only at hSw); go_simp; first | done | with_reducible rfl) hS ?_
        (try simp only [Act.put, List.setIfInBounds_toArray, List.set_cons_zero, List.set_cons_succ])
        refine reg_call 9 rfl (by kernel_rfl) (by rfl) (fun K hK => ?_)
        go_simp
        refine hK.out _ _ (KP1.out _ _ (bel0 _ _) hS) (fun hS' => ?_)
        clear hK K hS
        have hS := hS'
        clear hS'
        try (try simp only [Act.put, List.setIfInBounds_toArray, List.set_cons_zero, List.set_cons_succ])
        have hbe : Below y2.heap.size y2 (y2.alloc (.cells #[.int .i64 0, .int .i64 0, .slice none 0 0] 26)) := bel0 _ _
        have HX9 := Lib.hid (BoxL.new y2 (.int .i64 0) (.int .i64 0) (.slice none 0 0) 26)
        have hzV3 : (y2.alloc (.cells #[.int .i64 0, .int .i64 0, .slice none 0 0] 26)).heap.size ≤ y2.heap.size + 1 ∧ y2.heap.size + 1 ≤ (y2.alloc (.cells #[.int .i64 0, .int .i64 0, .slice none 0 0] 26)).heap.size := by simp
        have HX10 := Lib.hid (HX10.out.below hbe (by omega))
        have RA0 := Lib.hid (RA0.out.below (hbe.mono (by omega)))
        have RB0 := Lib.hid (RB0.out.below (hbe.mono (by omega)))
        obtain ⟨V3, hV⟩ : ∃ V, V = y2.alloc (.cells #[.int .i64 0, .int .i64 0, .slice none 0 0] 26) := ⟨_, rfl⟩
        rw [← hV] at hS HX10 HX9 hzV3 RA0 RB0 ⊢
        clear hV hbe
        clear KP1
        refine reg_call 11 rfl (by kernel_rfl) (by rfl) (fun K hK => ?_)
        have ec0 := HX9.out.1
        have ec1 := HX9.out.2.1
        have ec2 := HX9.out.2.2.1
        have ec3 := HX9.out.2.2.2.1
        have ec4 := HX9.out.2.2.2.2.1
        have ec5 := HX9.out.2.2.2.2.2
        go_simp
        refine hK.out _ _ (KS1.out _ y2.heap.size (.int .i64 M1) (.int .i64 N1) (.slice aA L1.length cA) (by omega) hS) (fun hS' => ?_)
        clear hK K hS ec0 ec1 ec2 ec3 ec4 ec5
        have hS := hS'
        clear hS'
        try (try simp only [Act.put, List.setIfInBounds_toArray, List.set_cons_zero, List.set_cons_succ])
        have HX9 : Hid (BoxL y2.heap.size (.int .i64 M1) (.int .i64 N1) (.slice aA L1.length cA) (set3 V3 y2.heap.size (.int .i64 M1) (.int .i64 N1) (.slice aA L1.length cA))) := Lib.hid (BoxL.put3 HX9.out)
        have HX10 : Hid (BoxL U0.heap.size (.int .i64 0) (.int .i64 0) (.slice none 0 0) (set3 V3 y2.heap.size (.int .i64 M1) (.int .i64 N1) (.slice aA L1.length cA))) := Lib.hid (BoxL.far3 HX10.out (show y2.heap.size ≠ U0.heap.size by omega))
        have RA0 : Hid (PatIn _ _ (set3 V3 y2.heap.size (.int .i64 M1) (.int .i64 N1) (.slice aA L1.length cA)) _ _) := Lib.hid (row3 RA0.out (by omega) (by first | omega | (simp [World.setCell] <;> omega)))
        have RB0 : Hid (PatIn _ _ (set3 V3 y2.heap.size (.int .i64 M1) (.int .i64 N1) (.slice aA L1.length cA)) _ _) := Lib.hid (row3 RB0.out (by omega) (by first | omega | (simp [World.setCell] <;> omega)))
        refine reg_call 12 rfl (by kernel_rfl) (by rfl) (fun K hK => ?_)
        have ec0 := HX10.out.1
        have ec1 := HX10.out.2.1
        have ec2 := HX10.out.2.2.1
        have ec3 := HX10.out.2.2.2.1
        have ec4 := HX10.out.2.2.2.2.1
        have ec5 := HX10.out.2.2.2.2.2
        go_simp
        refine hK.out _ _ (KS1.out _ U0.heap.size (.int .i64 M2) (.int .i64 N2) (.slice aB L2.length cB) (by omega) hS) (fun hS' => ?_)
        clear hK K hS ec0 ec1 ec2 ec3 ec4 ec5
        have hS := hS'
        clear hS'
        try (try simp only [Act.put, List.setIfInBounds_toArray, List.set_cons_zero, List.set_cons_succ])
        have HX10 : Hid (BoxL U0.heap.size (.int .i64 M2) (.int .i64 N2) (.slice aB L2.length cB) (set3 (set3 V3 y2.heap.size (.int .i64 M1) (.int .i64 N1) (.slice aA L1.length cA)) U0.heap.size (.int .i64 M2) (.int .i64 N2) (.slice aB L2.length cB))) := Lib.hid (BoxL.put3 HX10.out)
        have HX9 : Hid (BoxL y2.heap.size (.int .i64 M1) (.int .i64 N1) (.slice aA L1.length cA) (set3 (set3 V3 y2.heap.size (.int .i64 M1) (.int .i64 N1) (.slice aA L1.length cA)) U0.heap.size (.int .i64 M2) (.int .i64 N2) (.slice aB L2.length cB))) := Lib.hid (BoxL.far3 HX9.out (show U0.heap.size ≠ y2.heap.size by omega))
        have RA0 : Hid (PatIn _ _ (set3 (set3 V3 y2.heap.size (.int .i64 M1) (.int .i64 N1) (.slice aA L1.length cA)) U0.heap.size (.int .i64 M2) (.int .i64 N2) (.slice aB L2.length cB)) _ _) := Lib.hid (row3 RA0.out (by omega) (by first | omega | (simp [World.setCell] <;> omega)))
        have RB0 : Hid (PatIn _ _ (set3 (set3 V3 y2.heap.size (.int .i64 M1) (.int .i64 N1) (.slice aA L1.length cA)) U0.heap.size (.int .i64 M2) (.int .i64 N2) (.slice aB L2.length cB)) _ _) := Lib.hid (row3 RB0.out (by omega) (by first | omega | (simp [World.setCell] <;> omega)))
        refine reg_take 13 (v := ?_) rfl (by kernel_rfl) (by kernel_rfl) (by kernel_rfl) (fun _ _ _ h => h) (by rfl) (by intro w hSw; (try dsimp only at hSw); go_simp; first | done | with_reducible rfl) hS ?_
        (try simp only [Act.put, List.setIfInBounds_toArray, List.set_cons_zero, List.set_cons_succ])
        refine wpAnyH_done (by kernel_rfl) ?_ _
        have HBW := Lib.hid hS.2.2.2.2.2
        clear hS
        go_wp2_with fail
        go_meet
        exact ⟨_, _, _, _, y2.heap.size, rfl, rfl, HX9, HX10, Lib.hid (RA0.out.wide (by omega) (Nat.le_refl _)), Lib.hid (RB0.out.wide (by omega) (Nat.le_refl _)), by simp [World.setCell] <;> omega, HBW⟩
      · go_simp
        refine hK.out _ _ (KP1.out _ _ (bel0 _ _) hS) (fun hS' => ?_)
        clear hK K hS
        have hS := hS'
        clear hS'
        try (try simp only [Act.put, List.setIfInBounds_toArray, List.set_cons_zero, List.set_cons_succ])
        have hbe : Below V1.heap.size V1 (V1.alloc (.cells #[.int .i64 0, .int .i64 0, .slice none 0 0] 26)) := bel0 _ _
        have HX9 := Lib.hid (BoxL.new V1 (.int .i64 0) (.int .i64 0) (.slice none 0 0) 26)
        have hzV2 : (V1.alloc (.cells #[.int .i64 0, .int .i64 0, .slice none 0 0] 26)).heap.size ≤ V1.heap.size + 1 ∧ V1.heap.size + 1 ≤ (V1.alloc (.cells #[.int .i64 0, .int .i64 0, .slice none 0 0] 26)).heap.size := by simp
        have HX10 := Lib.hid (HX10.out.below hbe (by omega))
        obtain ⟨V2, hV⟩ : ∃ V, V = V1.alloc (.cells #[.int .i64 0, .int .i64 0, .slice none 0 0] 26) := ⟨_, rfl⟩
        rw [← hV] at hS HX10 HX9 hzV2 ⊢
        clear hV hbe
        refine reg_call 4 rfl (by kernel_rfl) (by rfl) (fun K hK => ?_)
        go_simp
        go_at_call 39
        refine (args_eqL (CS.out _ hS) (by with_reducible rfl)).mono ?_
        rintro e y3 ⟨vA, vB, rfl, RA, RB, hb⟩
        have RA0 := Lib.hid RA
        have RB0 := Lib.hid RB
        obtain ⟨aA, cA, rfl⟩ := RA.form
        obtain ⟨aB, cB, rfl⟩ := RB.form
        clear RA RB
        have hzy3 := hb.size
        have HX10 := Lib.hid (HX10.out.below hb (by omega))
        have HX9 := Lib.hid (HX9.out.below hb (by omega))
        refine hK.out _ _ (KP1.out _ _ hb hS) (fun hS' => ?_)
        clear hK K hS
        have hS := hS'
        clear hS'
        try (try simp only [Act.put, List.setIfInBounds_toArray, List.set_cons_zero, List.set_cons_succ])
        clear hb
        refine reg_take 5 (v := ?_) rfl (by kernel_rfl) (by kernel_rfl) (by kernel_rfl) (fun _ _ _ h => h) (by rfl) (by intro w hSw; (try dsimp only at hSw); go_simp; first | done | with_reducible rfl) hS ?_
        (try simp only [Act.put, List.setIfInBounds_toArray, List.set_cons_zero, List.set_cons_succ])
        refine reg_take 6 (v := ?_) rfl (by kernel_rfl) (by kernel_rfl) (by kernel_rfl) (fun _ _ _ h => h) (by rfl) (by intro w hSw; (try dsimp only at hSw); go_simp; first | done | with_reducible rfl) hS ?_
        (try simp only [Act.put, List.setIfInBounds_toArray, List.set_cons_zero, List.set_cons_succ])
        refine reg_take 7 (v := ?_) rfl (by kernel_rfl) (by kernel_rfl) (by kernel_rfl) (fun _ _ _ h => h) (by rfl) (by intro w hSw; (try dsimp only at hSw); go_simp; first | done | with_reducible rfl) hS ?_
        (try simp only [Act.put, List.setIfInBounds_toArray, List.set_cons_zero, List.set_cons_succ])
        refine reg_take 8 (v := ?_) rfl (by kernel_rfl) (by kernel_rfl) (by kernel_rfl) (fun _ _ _ h => h) (by rfl) (by intro w hSw; (try dsimp only at hSw); go_simp; first | done | with_reducible rfl) hS ?_
        (try simp only [Act.put, List.setIfInBounds_toArray, List.set_cons_zero, List.set_cons_succ])
        clear KP1
        refine reg_call 11 rfl (by kernel_rfl) (by rfl) (fun K hK => ?_)
        have ec0 := HX9.out.1
        have ec1 := HX9.out.2.1
        have ec2 := HX9.out.2.2.1
        have ec3 := HX9.out.2.2.2.1
        have ec4 := HX9.out.2.2.2.2.1
        have ec5 := HX9.out.2.2.2.2.2
        go_simp
        refine hK.out _ _ (KS1.out _ V1.heap.size (.int .i64 M1) (.int .i64 N1) (.slice aA L1.length cA) (by omega) hS) (fun hS' => ?_)
        clear hK K hS ec0 ec1 ec2 ec3 ec4 ec5
        have hS := hS'
        clear hS'
        try (try simp only [Act.put, List.setIfInBounds_toArray, List.set_cons_zero, List.set_cons_succ])
        have HX9 : Hid (BoxL V1.heap.size (.int .i64 M1) (.int .i64 N1) (.slice aA L1.length cA) (set3 y3 V1.heap.size (.int .i64 M1) (.int .i64 N1) (.slice aA L1.length cA))) := Lib.hid (BoxL.put3 HX9.out)
        have HX10 : Hid (BoxL U0.heap.size (.int .i64 0) (.int .i64 0) (.slice none 0 0) (set3 y3 V1.heap.size (.int .i64 M1) (.int .i64 N1) (.slice aA L1.length cA))) := Lib.hid (BoxL.far3 HX10.out (show V1.heap.size ≠ U0.heap.size by omega))
        have RA0 : Hid (PatIn _ _ (set3 y3 V1.heap.size (.int .i64 M1) (.int .i64 N1) (.slice aA L1.length cA)) _ _) := Lib.hid (row3 RA0.out (by omega) (by first | omega | (simp [World.setCell] <;> omega)))
        have RB0 : Hid (PatIn _ _ (set3 y3 V1.heap.size (.int .i64 M1) (.int .i64 N1) (.slice aA L1.length cA)) _ _) := Lib.hid (row3 RB0.out (by omega) (by first | omega | (simp [World.setCell] <;> omega)))
        refine reg_call 12 rfl (by kernel_rfl) (by rfl) (fun K hK => ?_)
        have ec0 := HX10.out.1
        have ec1 := HX10.out.2.1
        have ec2 := HX10.out.2.2.1
        have ec3 := HX10.out.2.2.2.1
        have ec4 := HX10.out.2.2.2.2.1
        have ec5 := HX10.out.2.2.2.2.2
        go_simp
        refine hK.out _ _ (KS1.out _ U0.heap.size (.int .i64 M2) (.int .i64 N2) (.slice aB L2.length cB) (by omega) hS) (fun hS' => ?_)
        clear hK K hS ec0 ec1 ec2 ec3 ec4 ec5
        have hS := hS'
        clear hS'
        try (try simp only [Act.put, List.setIfInBounds_toArray, List.set_cons_zero, List.set_cons_succ])
        have HX10 : Hid (BoxL U0.heap.size (.int .i64 M2) (.int .i64 N2) (.slice aB L2.length cB) (set3 (set3 y3 V1.heap.size (.int .i64 M1) (.int .i64 N1) (.slice aA L1.length cA)) U0.heap.size (.int .i64 M2) (.int .i64 N2) (.slice aB L2.length cB))) := Lib.hid (BoxL.put3 HX10.out)
        have HX9 : Hid (BoxL V1.heap.size (.int .i64 M1) (.int .i64 N1) (.slice aA L1.length cA) (set3 (set3 y3 V1.heap.size (.int .i64 M1) (.int .i64 N1) (.slice aA L1.length cA)) U0.heap.size (.int .i64 M2) (.int .i64 N2) (.slice aB L2.length cB))) := Lib.hid (BoxL.far3 HX9.out (show U0.heap.size ≠ V1.heap.size by omega))
        have RA0 : Hid (PatIn _ _ (set3 (set3 y3 V1.heap.size (.int .i64 M1) (.int .i64 N1) (.slice aA L1.length cA)) U0.heap.size (.int .i64 M2) (.int .i64 N2) (.slice aB L2.length cB)) _ _) := Lib.hid (row3 RA0.out (by omega) (by first | omega | (simp [World.setCell] <;> omega)))
        have RB0 : Hid (PatIn _ _ (set3 (set3 y3 V1.heap.size (.int .i64 M1) (.int .i64 N1) (.slice aA L1.length cA)) U0.heap.size (.int .i64 M2) (.int .i64 N2) (.slice aB L2.length cB)) _ _) := Lib.hid (row3 RB0.out (by omega) (by first | omega | (simp [World.setCell] <;> omega)))
        refine reg_take 13 (v := ?_) rfl (by kernel_rfl) (by kernel_rfl) (by kernel_rfl) (fun _ _ _ h => h) (by rfl) (by intro w hSw; (try dsimp only at hSw); go_simp; first | done | with_reducible rfl) hS ?_
        (try simp only [Act.put, List.setIfInBounds_toArray, List.set_cons_zero, List.set_cons_succ])
        refine wpAnyH_done (by kernel_rfl) ?_ _
        have HBW := Lib.hid hS.2.2.2.2.2
        clear hS
        go_wp2_with fail
        go_meet
        exact ⟨_, _, _, _, y3.heap.size, rfl, rfl, HX9, HX10, Lib.hid (RA0.out.wide (by omega) (Nat.le_refl _)), Lib.hid (RB0.out.wide (by omega) (Nat.le_refl _)), by simp [World.setCell] <;> omega, HBW⟩
  case rest =>
    obtain ⟨pA, pB, vA, vB, k, rfl, rfl, HA, HB, RA, RB, hk, HBW⟩ := hcut
    have hsx := HBW.out.size
    obtain ⟨a0, a1, a2, _, _, _⟩ := HA.out
    clear b0 b1 b2 e0 e1 S0 CS CC KP1 KS1
    go_wp2_with fail
    refine (HIH.out G.heap.size k vA _ RA.out hk).mono ?_
    rintro e y ⟨rfl, hby⟩
    have hsy := hby.size
    have HBY : Hid (Below w.heap.size w y) := Lib.hid (bel_c (HB1.out.trans (HBW.out.mono (by omega))) (Nat.le_refl _) hby)
    obtain ⟨c0, c1, c2, _, _, _⟩ := (HB.out.below hby HB.out.lt)
    have RB2 := Lib.hid (RB.out.below (hby.mono hk))
    clear hby a0 a1 a2
    go_wp2_with fail
    refine (HIH2.out G.heap.size k vB _ RB2.out (by omega)).mono ?_
    rintro e z ⟨rfl, hbz⟩
    have HBZ := Lib.hid (bel_c HBY.out (Nat.le_refl _) hbz)
    clear hbz
    go_wp2_with fail
    go_ret
    exact ⟨rfl, HBZ.out⟩

set_option maxHeartbeats 3200000 in
set_option maxRecDepth 20000 in
theorem Sew_one (lo hi : Nat) (m n : Int) (v : Value) (xs : List P5) (w : World) (r : PatIn lo hi w v xs) (hhi : hi ≤ w.heap.size) (lay : LayOk m n xs) (hl1 : xs.length = 1) :
    Calls Try.prog 12 #[.agg #[.int .i64 m, .int .i64 n, v]] w (fun e w' => e = .returned (.bool true) ∧ Below w.heap.size w w') := by
  obtain ⟨b, cap, rfl⟩ := r.form
  have hl2 : ((xs.length : Nat) : Int) = 1 := by omega
  have LK : Hid (∀ u : World, Below w.heap.size w u → Calls Try.prog 37 #[.agg #[.int .i64 m, .int .i64 n, .slice b xs.length cap]] u fun e w' => e = .returned (.bool true) ∧ Below u.heap.size u w') := Lib.hid (fun u hb => by rw [lay_yes lay]; exact SpecLayoutOk_any lo hi m n _ xs u (r.below (hb.mono hhi)) (Nat.le_trans hhi hb.size))
  rw [hl1] at LK ⊢
  have HB0 : Hid (Below w.heap.size w (w.alloc (.cells #[.int .i64 m, .int .i64 n, .slice b 1 cap] 26))) := Lib.hid (bel0 w _)
  clear r lay
  go_enter Try.func12, Try.ntmps12
  go_wp2_with fail
  refine (LK.out _ HB0.out).mono ?_
  rintro e w0 ⟨rfl, hb0⟩
  have a0 := kept (p := ⟨w.heap.size, 0, none⟩) (x := .int .i64 m) hb0 (by go_simp)
  have a1 := kept (p := ⟨w.heap.size, 1, none⟩) (x := .int .i64 n) hb0 (by go_simp)
  have a2 := kept (p := ⟨w.heap.size, 2, none⟩) (x := .slice b 1 cap) hb0 (by go_simp)
  have HBZ := Lib.hid (bel_c HB0.out (Nat.le_refl _) hb0)
  clear hb0
  go_wp2_with fail
  go_ret
  exact ⟨rfl, HBZ.out⟩
set_option maxHeartbeats 3200000 in
set_option maxRecDepth 20000 in
theorem Sew_here (lo hi : Nat) (m n : Int) (v : Value) (xs : List P5) (w : World) (r : PatIn lo hi w v xs) (hhi : hi ≤ w.heap.size) (lay : LayOk m n xs) (hl1 : xs.length ≠ 1) (hcs : cutsL m n xs = []) :
    Calls Try.prog 12 #[.agg #[.int .i64 m, .int .i64 n, v]] w (fun e w' => e = .returned (.bool false) ∧ Below w.heap.size w w') := by
  obtain ⟨b, cap, rfl⟩ := r.form
  have hd : ((xs.length : Int) == 1) = false := by simp; omega
  have LK : Hid (∀ u : World, Below w.heap.size w u → Calls Try.prog 37 #[.agg #[.int .i64 m, .int .i64 n, .slice b xs.length cap]] u fun e w' => e = .returned (.bool true) ∧ Below u.heap.size u w') := Lib.hid (fun u hb => by rw [lay_yes lay]; exact SpecLayoutOk_any lo hi m n _ xs u (r.below (hb.mono hhi)) (Nat.le_trans hhi hb.size))
  have CC : Hid (∀ u : World, Below w.heap.size w u → Calls Try.prog 38 #[.agg #[.int .i64 m, .int .i64 n, .slice b xs.length cap]] u (FreshCut [] u)) := Lib.hid (fun u hb => by rw [← hcs, ← cuts_yes (lay_yes lay).symm]; exact SpecCutsOf_any lo hi m n _ xs u (r.below (hb.mono hhi)) (Nat.le_trans hhi hb.size))
  have HB0 : Hid (Below w.heap.size w (w.alloc (.cells #[.int .i64 m, .int .i64 n, .slice b xs.length cap] 26))) := Lib.hid (bel0 w _)
  clear r lay hcs
  go_enter Try.func12, Try.ntmps12
  go_wp2_with fail
  refine (LK.out _ HB0.out).mono ?_
  rintro e w0 ⟨rfl, hb0⟩
  have a0 := kept (p := ⟨w.heap.size, 0, none⟩) (x := .int .i64 m) hb0 (by go_simp)
  have a1 := kept (p := ⟨w.heap.size, 1, none⟩) (x := .int .i64 n) hb0 (by go_simp)
  have a2 := kept (p := ⟨w.heap.size, 2, none⟩) (x := .slice b xs.length cap) hb0 (by go_simp)
  have HB00 := Lib.hid (bel_c HB0.out (Nat.le_refl _) hb0)
  clear hb0
  go_wp2_with fail
  refine (CC.out _ HB00.out).mono ?_
  rintro e w1 ⟨vc, rfl, RC, hb1⟩
  obtain ⟨ac, cc, rfl⟩ := RC.form
  have HBZ := Lib.hid (bel_c HB00.out (Nat.le_refl _) hb1)
  clear hb1 RC
  go_wp2_with fail
  go_ret
  exact ⟨rfl, HBZ.out⟩
theorem SpecSew_is {m n : Int} {xs : List P5} {q : Option (Int × Int × List P5)} (h : KnotIs m n xs q) : ∀ (lo hi : Nat) (v : Value) (w : World), PatIn lo hi w v xs → hi ≤ w.heap.size →
    Calls Try.prog 12 #[.agg #[.int .i64 m, .int .i64 n, v]] w (fun e w' => e = .returned (.bool q.isNone) ∧ Below w.heap.size w w') := by
  induction h with
  | one h hl => intro lo hi v w r hhi; exact Sew_one lo hi _ _ v _ w r hhi h hl
  | knot h hl hc => intro lo hi v w r hhi; exact Sew_here lo hi _ _ v _ w r hhi h hl hc
  | left h hl hc h1 ih => intro lo hi v w r hhi; exact Sew_left lo hi _ _ v _ _ _ w r hhi h hl hc ih
  | right h hl hc h1 h2 ih1 ih2 => intro lo hi v w r hhi; exact Sew_right lo hi _ _ v _ _ _ _ w r hhi h hl hc ih1 ih2
theorem SpecCanSew_any (lo hi : Nat) (m n : Int) (v : Value) (xs : List P5) (w : World) (r : PatIn lo hi w v xs) (hhi : hi ≤ w.heap.size) :
    Calls Try.prog 12 #[.agg #[.int .i64 m, .int .i64 n, v]] w (fun e w' => e = .returned (.bool (sewB m n xs)) ∧ Below w.heap.size w w') := by
  by_cases h : layB m n xs = false
  · rw [← sew_no_lay h]
    obtain ⟨b, cap, rfl⟩ := r.form
    have LK : Hid (∀ u : World, Below w.heap.size w u → Calls Try.prog 37 #[.agg #[.int .i64 m, .int .i64 n, .slice b xs.length cap]] u fun e w' => e = .returned (.bool false) ∧ Below u.heap.size u w') := Lib.hid (fun u hb => by rw [← h]; exact SpecLayoutOk_any lo hi m n _ xs u (r.below (hb.mono hhi)) (Nat.le_trans hhi hb.size))
    have HB0 : Hid (Below w.heap.size w (w.alloc (.cells #[.int .i64 m, .int .i64 n, .slice b xs.length cap] 26))) := Lib.hid (bel0 w _)
    clear r h
    go_enter Try.func12, Try.ntmps12
    go_wp2_with fail
    refine (LK.out _ HB0.out).mono ?_
    rintro e w0 ⟨rfl, hb0⟩
    have HBZ := Lib.hid (bel_c HB0.out (Nat.le_refl _) hb0)
    clear hb0
    go_wp2_with fail
    go_ret
    exact ⟨rfl, HBZ.out⟩
  · have h' : layB m n xs = true := by simpa using h
    have := SpecSew_is (knotR_is h') lo hi v w r hhi
    rwa [sew_lay h'] at this
end Go.Proofs.Ytboahceibeeifaa
