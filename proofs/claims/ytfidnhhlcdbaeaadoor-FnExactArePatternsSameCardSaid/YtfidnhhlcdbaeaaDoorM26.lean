/- Sameness: spec's AreSame and ArePatternsSame. Sameness: the model's CountForms. -/
import Derived.Test.YtfidnhhlcdbaeaaDoorSamL
import Derived.Test.YtfidnhhlcdbaeaaDoorM03
import Derived.Test.YtfidnhhlcdbaeaaDoorM08
import Derived.Deep.DeepCutAuto
import Derived.Deep.RegionHeld3
import Derived.Test.YtfidnhhlcdbaeaaDoorM19
import Derived.Test.YtfidnhhlcdbaeaaDoorM18
import Derived.Test.YtfidnhhlcdbaeaaDoorM06

namespace Go.Proofs.YtfidnhhlcdbaeaaDoor
open Go.ChangeShapes Go.WideShapes Go.ChangeAt Go.RowKit

theorem SpecOkY (lo hi : Nat) (n : Int) (v : Value) (xs : List C3) (b : Bool) (u : World) (r : CellIn lo hi u v xs) (h : hi ≤ u.heap.size) (e : blkB n xs = b) :
    Calls Tryd.prog 24 #[.agg #[.int .i64 n, v]] u fun e w' => e = .returned (.bool b) ∧ Below u.heap.size u w' := by
  have := SpecBlockOk_any lo hi n v xs u r h
  rw [e] at this
  exact this
theorem SpecSameY (l1 h1 l2 h2 : Nat) (n m : Int) (v1 v2 : Value) (xs ys : List C3) (b : Bool) (u : World) (r1 : CellIn l1 h1 u v1 xs) (r2 : CellIn l2 h2 u v2 ys) (hh1 : h1 ≤ u.heap.size) (hh2 : h2 ≤ u.heap.size) (e : sameB n m xs ys = b) :
    Calls Tryd.prog 38 #[.agg #[.int .i64 n, v1], .agg #[.int .i64 m, v2]] u fun e w' => e = .returned (.bool b) ∧ Below u.heap.size u w' := by
  have := SpecSame_any l1 h1 l2 h2 n m v1 v2 xs ys u r1 r2 hh1 hh2
  rw [e] at this
  exact this
theorem SpecLeastFormY (lo hi : Nat) (n : Int) (v : Value) (xs ys : List C3) (u : World) (r : CellIn lo hi u v xs) (h : hi ≤ u.heap.size) (hb : BlkOk n xs) (e : lfL n xs = ys) :
    Calls Tryd.prog 9 #[.agg #[.int .i64 n, v]] u (FreshB n ys u) := by
  have := SpecLeastForm_any lo hi n v xs u r h
  rw [(turnB_yes hb).1, (sam_yes hb).2.1, e] at this
  exact this
set_option maxRecDepth 100000 in
set_option maxHeartbeats 8000000 in
theorem SpecAreSame_any (lo hi lo2 hi2 : Nat) (n m : Int) (v v2 : Value) (xs ys : List C3) (w : World) (r : CellIn lo hi w v xs) (hhi : hi ≤ w.heap.size) (r2 : CellIn lo2 hi2 w v2 ys) (hhi2 : hi2 ≤ w.heap.size) :
    Calls Tryd.prog 17 #[.agg #[.int .i64 n, v], .agg #[.int .i64 m, v2]] w fun e w' => e = .returned (.bool (areF n m xs ys)) ∧ Below w.heap.size w w' := by
  obtain ⟨a, cap, rfl⟩ := r.form
  obtain ⟨a2, cap2, rfl⟩ := r2.form
  have HR := Lib.hid (fun W (hb : Below w.heap.size w W) => r.below (hb.mono hhi))
  have HR2 := Lib.hid (fun W (hb : Below w.heap.size w W) => r2.below (hb.mono hhi2))
  clear r r2
  obtain ⟨G, hG⟩ : ∃ G, G = (w.alloc (.cells #[.int .i64 n, .slice a xs.length cap] 28)).alloc (.cells #[.int .i64 m, .slice a2 ys.length cap2] 28) := ⟨_, rfl⟩
  have HBG : Hid (Below w.heap.size w G) := Lib.hid (by rw [hG]; exact bel_n (bel0 _ _) (Nat.le_refl _) _)
  have D0 : Below G.heap.size G G.drew := ⟨rfl, rfl, rfl, Nat.le_refl _, fun _ _ => rfl⟩
  have S0 : G.drew.cell? ⟨w.heap.size, 0, none⟩ = some (.int .i64 n) ∧ G.drew.cell? ⟨w.heap.size, 1, none⟩ = some (.slice a xs.length cap) ∧ G.drew.cell? ⟨w.heap.size + 1, 0, none⟩ = some (.int .i64 m) ∧ G.drew.cell? ⟨w.heap.size + 1, 1, none⟩ = some (.slice a2 ys.length cap2) ∧ Below G.heap.size G G.drew := by
    have e0 : G.cell? ⟨w.heap.size, 0, none⟩ = some (.int .i64 n) := by rw [hG]; go_simp
    have e1 : G.cell? ⟨w.heap.size, 1, none⟩ = some (.slice a xs.length cap) := by rw [hG]; go_simp
    have e2 : G.cell? ⟨w.heap.size + 1, 0, none⟩ = some (.int .i64 m) := by rw [hG]; go_simp
    have e3 : G.cell? ⟨w.heap.size + 1, 1, none⟩ = some (.slice a2 ys.length cap2) := by rw [hG]; go_simp
    exact ⟨kept D0 e0, kept D0 e1, kept D0 e2, kept D0 e3, D0⟩
  have KP : ∀ u v, Below u.heap.size u v → (u.cell? ⟨w.heap.size, 0, none⟩ = some (.int .i64 n) ∧ u.cell? ⟨w.heap.size, 1, none⟩ = some (.slice a xs.length cap) ∧ u.cell? ⟨w.heap.size + 1, 0, none⟩ = some (.int .i64 m) ∧ u.cell? ⟨w.heap.size + 1, 1, none⟩ = some (.slice a2 ys.length cap2) ∧ Below G.heap.size G u) → (v.cell? ⟨w.heap.size, 0, none⟩ = some (.int .i64 n) ∧ v.cell? ⟨w.heap.size, 1, none⟩ = some (.slice a xs.length cap) ∧ v.cell? ⟨w.heap.size + 1, 0, none⟩ = some (.int .i64 m) ∧ v.cell? ⟨w.heap.size + 1, 1, none⟩ = some (.slice a2 ys.length cap2) ∧ Below G.heap.size G v) := fun u v hb h => ⟨kept hb h.1, kept hb h.2.1, kept hb h.2.2.1, kept hb h.2.2.2.1, bel_c h.2.2.2.2 (Nat.le_refl _) hb⟩
  have HW : Hid (∀ u, (u.cell? ⟨w.heap.size, 0, none⟩ = some (.int .i64 n) ∧ u.cell? ⟨w.heap.size, 1, none⟩ = some (.slice a xs.length cap) ∧ u.cell? ⟨w.heap.size + 1, 0, none⟩ = some (.int .i64 m) ∧ u.cell? ⟨w.heap.size + 1, 1, none⟩ = some (.slice a2 ys.length cap2) ∧ Below G.heap.size G u) → Below w.heap.size w u) := Lib.hid (fun u h => bel_c HBG.out (Nat.le_refl _) h.2.2.2.2)
  have HC1 : Hid (∀ u, (u.cell? ⟨w.heap.size, 0, none⟩ = some (.int .i64 n) ∧ u.cell? ⟨w.heap.size, 1, none⟩ = some (.slice a xs.length cap) ∧ u.cell? ⟨w.heap.size + 1, 0, none⟩ = some (.int .i64 m) ∧ u.cell? ⟨w.heap.size + 1, 1, none⟩ = some (.slice a2 ys.length cap2) ∧ Below G.heap.size G u) → CellIn lo hi u (.slice a xs.length cap) xs ∧ hi ≤ u.heap.size) := Lib.hid (fun u h => ⟨HR.out _ (HW.out _ h), Nat.le_trans hhi (HW.out _ h).size⟩)
  have HC2 : Hid (∀ u, (u.cell? ⟨w.heap.size, 0, none⟩ = some (.int .i64 n) ∧ u.cell? ⟨w.heap.size, 1, none⟩ = some (.slice a xs.length cap) ∧ u.cell? ⟨w.heap.size + 1, 0, none⟩ = some (.int .i64 m) ∧ u.cell? ⟨w.heap.size + 1, 1, none⟩ = some (.slice a2 ys.length cap2) ∧ Below G.heap.size G u) → CellIn lo2 hi2 u (.slice a2 ys.length cap2) ys ∧ hi2 ≤ u.heap.size) := Lib.hid (fun u h => ⟨HR2.out _ (HW.out _ h), Nat.le_trans hhi2 (HW.out _ h).size⟩)
  by_cases h1 : BlkOk n xs
  · have K1 := Lib.hid (fun (u : World) (h : u.cell? ⟨w.heap.size, 0, none⟩ = some (.int .i64 n) ∧ u.cell? ⟨w.heap.size, 1, none⟩ = some (.slice a xs.length cap) ∧ u.cell? ⟨w.heap.size + 1, 0, none⟩ = some (.int .i64 m) ∧ u.cell? ⟨w.heap.size + 1, 1, none⟩ = some (.slice a2 ys.length cap2) ∧ Below G.heap.size G u) => SpecOkY lo hi n _ xs true u (HC1.out u h).1 (HC1.out u h).2 (blk_yes h1).symm)
    by_cases h2 : BlkOk m ys
    · have K2 := Lib.hid (fun (u : World) (h : u.cell? ⟨w.heap.size, 0, none⟩ = some (.int .i64 n) ∧ u.cell? ⟨w.heap.size, 1, none⟩ = some (.slice a xs.length cap) ∧ u.cell? ⟨w.heap.size + 1, 0, none⟩ = some (.int .i64 m) ∧ u.cell? ⟨w.heap.size + 1, 1, none⟩ = some (.slice a2 ys.length cap2) ∧ Below G.heap.size G u) => SpecOkY lo2 hi2 m _ ys true u (HC2.out u h).1 (HC2.out u h).2 (blk_yes h2).symm)
      obtain ⟨fs, hfs⟩ : ∃ fs, lfL n xs = fs := ⟨_, rfl⟩
      obtain ⟨gs, hgs⟩ : ∃ gs, lfL m ys = gs := ⟨_, rfl⟩
      have L1 := Lib.hid (fun (u : World) (h : u.cell? ⟨w.heap.size, 0, none⟩ = some (.int .i64 n) ∧ u.cell? ⟨w.heap.size, 1, none⟩ = some (.slice a xs.length cap) ∧ u.cell? ⟨w.heap.size + 1, 0, none⟩ = some (.int .i64 m) ∧ u.cell? ⟨w.heap.size + 1, 1, none⟩ = some (.slice a2 ys.length cap2) ∧ Below G.heap.size G u) => SpecLeastFormY lo hi n _ xs fs u (HC1.out u h).1 (HC1.out u h).2 h1 hfs)
      have L2 := Lib.hid (fun (u : World) (h : u.cell? ⟨w.heap.size, 0, none⟩ = some (.int .i64 n) ∧ u.cell? ⟨w.heap.size, 1, none⟩ = some (.slice a xs.length cap) ∧ u.cell? ⟨w.heap.size + 1, 0, none⟩ = some (.int .i64 m) ∧ u.cell? ⟨w.heap.size + 1, 1, none⟩ = some (.slice a2 ys.length cap2) ∧ Below G.heap.size G u) => SpecLeastFormY lo2 hi2 m _ ys gs u (HC2.out u h).1 (HC2.out u h).2 h2 hgs)
      obtain ⟨b, hb⟩ : ∃ b, sameB n m fs gs = b := ⟨_, rfl⟩
      have hans : areF n m xs ys = b := by unfold areF; rw [← blk_yes h1, ← blk_yes h2, hfs, hgs, hb]; rfl
      have HSB := Lib.hid hb
      rw [hans]
      clear hans hfs hgs hb h1 h2 HC1 HC2
      go_enter Tryd.func17, Tryd.ntmps17
      go_upto_region 1 with fail
      rw [← hG]
      clear hG
      go_region_held3 (fun w' => w'.cell? ⟨w.heap.size, 0, none⟩ = some (.int .i64 n) ∧ w'.cell? ⟨w.heap.size, 1, none⟩ = some (.slice a xs.length cap) ∧ w'.cell? ⟨w.heap.size + 1, 0, none⟩ = some (.int .i64 m) ∧ w'.cell? ⟨w.heap.size + 1, 1, none⟩ = some (.slice a2 ys.length cap2) ∧ Below G.heap.size G w') (first | assumption | (refine KP _ _ (by assumption) ?_; assumption))
        ((first
          | (go_at_call 24; refine (args_eq (K1.out _ (by assumption)) (by with_reducible rfl)).mono ?_; rintro e y ⟨rfl, hb⟩)
          | (go_at_call 24; refine (args_eq (K2.out _ (by assumption)) (by with_reducible rfl)).mono ?_; rintro e y ⟨rfl, hb⟩)
          | (go_at_call 9; refine (args_eq (L1.out _ (by assumption)) (by with_reducible rfl)).mono ?_; rintro e yA ⟨vA, rfl, RA, hbA⟩; obtain ⟨aA, cA, rfl⟩ := RA.form; have HRA := Lib.hid (fun v (hv : Below yA.heap.size yA v) => RA.below (hv.mono (Nat.le_refl _))); clear RA)
          | (go_at_call 9; refine (args_eq (L2.out _ (by assumption)) (by with_reducible rfl)).mono ?_; rintro e yB ⟨vB, rfl, RB, hbB⟩; obtain ⟨aB, cB, rfl⟩ := RB.form; have HRB := Lib.hid (fun v (hv : Below yB.heap.size yB v) => RB.below (hv.mono (Nat.le_refl _))); clear RB)
          | (go_at_call 38; refine (args_eq (SpecSameY _ _ _ _ n m _ _ fs gs b yB (HRA.out _ hbB) (HRB.out _ (Below.refl _ _)) hbB.size (Nat.le_refl _) HSB.out) (by with_reducible rfl)).mono ?_; rintro e y ⟨rfl, hb⟩)
          | (go_at_call 38; refine (args_eq (SpecSameY _ _ _ _ n m _ _ fs gs b yA (HRA.out _ (Below.refl _ _)) (HRB.out _ hbA) (Nat.le_refl _) hbA.size HSB.out) (by with_reducible rfl)).mono ?_; rintro e y ⟨rfl, hb⟩)))
      all_goals
        have HY := HW.out y (by assumption)
        go_wp2_with fail
        go_ret
        exact ⟨rfl, HY⟩
    · have K2 := Lib.hid (fun (u : World) (h : u.cell? ⟨w.heap.size, 0, none⟩ = some (.int .i64 n) ∧ u.cell? ⟨w.heap.size, 1, none⟩ = some (.slice a xs.length cap) ∧ u.cell? ⟨w.heap.size + 1, 0, none⟩ = some (.int .i64 m) ∧ u.cell? ⟨w.heap.size + 1, 1, none⟩ = some (.slice a2 ys.length cap2) ∧ Below G.heap.size G u) => SpecOkY lo2 hi2 m _ ys false u (HC2.out u h).1 (HC2.out u h).2 (blk_no h2).symm)
      have hans : areF n m xs ys = false := by unfold areF; rw [← blk_yes h1, ← blk_no h2]; rfl
      rw [hans]
      clear hans h1 h2 HC1 HC2
      go_enter Tryd.func17, Tryd.ntmps17
      go_upto_region 1 with fail
      rw [← hG]
      clear hG
      try simp only [List.append_eq, List.cons_append, List.nil_append]
      have hS : G.drew.cell? ⟨w.heap.size, 0, none⟩ = some (.int .i64 n) ∧ G.drew.cell? ⟨w.heap.size, 1, none⟩ = some (.slice a xs.length cap) ∧ G.drew.cell? ⟨w.heap.size + 1, 0, none⟩ = some (.int .i64 m) ∧ G.drew.cell? ⟨w.heap.size + 1, 1, none⟩ = some (.slice a2 ys.length cap2) ∧ Below G.heap.size G G.drew := S0
      refine reg_begin (fun w' => w'.cell? ⟨w.heap.size, 0, none⟩ = some (.int .i64 n) ∧ w'.cell? ⟨w.heap.size, 1, none⟩ = some (.slice a xs.length cap) ∧ w'.cell? ⟨w.heap.size + 1, 0, none⟩ = some (.int .i64 m) ∧ w'.cell? ⟨w.heap.size + 1, 1, none⟩ = some (.slice a2 ys.length cap2) ∧ Below G.heap.size G w') (by kernel_rfl) hS ?_
      refine reg_take 0 (v := ?_) rfl (by kernel_rfl) (by kernel_rfl) (by kernel_rfl) (fun _ _ _ h => h) (by rfl) (by intro w hSw; (try dsimp only at hSw); go_simp; first | done | with_reducible rfl) hS ?_
      simp only [Act.put, List.setIfInBounds_toArray, List.set_cons_zero, List.set_cons_succ]
      refine reg_call 1 rfl (by kernel_rfl) (by rfl) (fun K hK => ?_)
      go_simp
      go_at_call 24
      refine (args_eq (K1.out _ hS) (by with_reducible rfl)).mono ?_
      rintro e y ⟨rfl, hb⟩
      refine hK.out _ _ (KP _ _ hb hS) (fun hS' => ?_)
      clear hK K
      replace hS := hS'
      clear hS'
      try simp only [Act.put, List.setIfInBounds_toArray, List.set_cons_zero, List.set_cons_succ]
      refine reg_take 2 (v := ?_) rfl (by kernel_rfl) (by kernel_rfl) (by kernel_rfl) (fun _ _ _ h => h) (by rfl) (by intro w hSw; (try dsimp only at hSw); go_simp; first | done | with_reducible rfl) hS ?_
      simp only [Act.put, List.setIfInBounds_toArray, List.set_cons_zero, List.set_cons_succ]
      refine reg_take 3 (v := ?_) rfl (by kernel_rfl) (by kernel_rfl) (by kernel_rfl) (fun _ _ _ h => h) (by rfl) (by intro w hSw; (try dsimp only at hSw); go_simp; first | done | with_reducible rfl) hS ?_
      simp only [Act.put, List.setIfInBounds_toArray, List.set_cons_zero, List.set_cons_succ]
      refine reg_call 4 rfl (by kernel_rfl) (by rfl) (fun K hK => ?_)
      go_simp
      go_at_call 24
      refine (args_eq (K2.out _ hS) (by with_reducible rfl)).mono ?_
      rintro e y ⟨rfl, hb⟩
      refine hK.out _ _ (KP _ _ hb hS) (fun hS' => ?_)
      clear hK K
      replace hS := hS'
      clear hS'
      try simp only [Act.put, List.setIfInBounds_toArray, List.set_cons_zero, List.set_cons_succ]
      refine reg_take 5 (v := ?_) rfl (by kernel_rfl) (by kernel_rfl) (by kernel_rfl) (fun _ _ _ h => h) (by rfl) (by intro w hSw; (try dsimp only at hSw); go_simp; first | done | with_reducible rfl) hS ?_
      simp only [Act.put, List.setIfInBounds_toArray, List.set_cons_zero, List.set_cons_succ]
      refine reg_take 6 (v := ?_) rfl (by kernel_rfl) (by kernel_rfl) (by kernel_rfl) (fun _ _ _ h => h) (by rfl) (by intro w hSw; (try dsimp only at hSw); go_simp; first | done | with_reducible rfl) hS ?_
      simp only [Act.put, List.setIfInBounds_toArray, List.set_cons_zero, List.set_cons_succ]
      refine reg_skip 7 rfl (by kernel_rfl) (by kernel_rfl) (by kernel_rfl) (fun _ _ _ h => h) (by rfl) hS ?_
      simp only [Act.put, List.setIfInBounds_toArray, List.set_cons_zero, List.set_cons_succ]
      refine reg_skip 8 rfl (by kernel_rfl) (by kernel_rfl) (by kernel_rfl) (fun _ _ _ h => h) (by rfl) hS ?_
      simp only [Act.put, List.setIfInBounds_toArray, List.set_cons_zero, List.set_cons_succ]
      refine reg_skip 9 rfl (by kernel_rfl) (by kernel_rfl) (by kernel_rfl) (fun _ _ _ h => h) (by rfl) hS ?_
      simp only [Act.put, List.setIfInBounds_toArray, List.set_cons_zero, List.set_cons_succ]
      refine reg_skip 10 rfl (by kernel_rfl) (by kernel_rfl) (by kernel_rfl) (fun _ _ _ h => h) (by rfl) hS ?_
      simp only [Act.put, List.setIfInBounds_toArray, List.set_cons_zero, List.set_cons_succ]
      refine reg_skip 11 rfl (by kernel_rfl) (by kernel_rfl) (by kernel_rfl) (fun _ _ _ h => h) (by rfl) hS ?_
      simp only [Act.put, List.setIfInBounds_toArray, List.set_cons_zero, List.set_cons_succ]
      refine reg_take 12 (v := ?_) rfl (by kernel_rfl) (by kernel_rfl) (by kernel_rfl) (fun _ _ _ h => h) (by rfl) (by intro w hSw; (try dsimp only at hSw); go_simp; first | done | with_reducible rfl) hS ?_
      simp only [Act.put, List.setIfInBounds_toArray, List.set_cons_zero, List.set_cons_succ]
      refine reg_take 13 (v := ?_) rfl (by kernel_rfl) (by kernel_rfl) (by kernel_rfl) (fun _ _ _ h => h) (by rfl) (by intro w hSw; (try dsimp only at hSw); go_simp; first | done | with_reducible rfl) hS ?_
      simp only [Act.put, List.setIfInBounds_toArray, List.set_cons_zero, List.set_cons_succ]
      refine wpAnyH_done (by kernel_rfl) ?_ _
      all_goals
        have HY := HW.out y hS
        go_wp2_with fail
        go_ret
        exact ⟨rfl, HY⟩
  · have K1 := Lib.hid (fun (u : World) (h : u.cell? ⟨w.heap.size, 0, none⟩ = some (.int .i64 n) ∧ u.cell? ⟨w.heap.size, 1, none⟩ = some (.slice a xs.length cap) ∧ u.cell? ⟨w.heap.size + 1, 0, none⟩ = some (.int .i64 m) ∧ u.cell? ⟨w.heap.size + 1, 1, none⟩ = some (.slice a2 ys.length cap2) ∧ Below G.heap.size G u) => SpecOkY lo hi n _ xs false u (HC1.out u h).1 (HC1.out u h).2 (blk_no h1).symm)
    have hans : areF n m xs ys = false := by unfold areF; rw [← blk_no h1]; rfl
    rw [hans]
    clear hans h1 HC1 HC2
    go_enter Tryd.func17, Tryd.ntmps17
    go_upto_region 1 with fail
    rw [← hG]
    clear hG
    try simp only [List.append_eq, List.cons_append, List.nil_append]
    have hS : G.drew.cell? ⟨w.heap.size, 0, none⟩ = some (.int .i64 n) ∧ G.drew.cell? ⟨w.heap.size, 1, none⟩ = some (.slice a xs.length cap) ∧ G.drew.cell? ⟨w.heap.size + 1, 0, none⟩ = some (.int .i64 m) ∧ G.drew.cell? ⟨w.heap.size + 1, 1, none⟩ = some (.slice a2 ys.length cap2) ∧ Below G.heap.size G G.drew := S0
    refine reg_begin (fun w' => w'.cell? ⟨w.heap.size, 0, none⟩ = some (.int .i64 n) ∧ w'.cell? ⟨w.heap.size, 1, none⟩ = some (.slice a xs.length cap) ∧ w'.cell? ⟨w.heap.size + 1, 0, none⟩ = some (.int .i64 m) ∧ w'.cell? ⟨w.heap.size + 1, 1, none⟩ = some (.slice a2 ys.length cap2) ∧ Below G.heap.size G w') (by kernel_rfl) hS ?_
    refine reg_take 0 (v := ?_) rfl (by kernel_rfl) (by kernel_rfl) (by kernel_rfl) (fun _ _ _ h => h) (by rfl) (by intro w hSw; (try dsimp only at hSw); go_simp; first | done | with_reducible rfl) hS ?_
    simp only [Act.put, List.setIfInBounds_toArray, List.set_cons_zero, List.set_cons_succ]
    refine reg_call 1 rfl (by kernel_rfl) (by rfl) (fun K hK => ?_)
    go_simp
    go_at_call 24
    refine (args_eq (K1.out _ hS) (by with_reducible rfl)).mono ?_
    rintro e y ⟨rfl, hb⟩
    refine hK.out _ _ (KP _ _ hb hS) (fun hS' => ?_)
    clear hK K
    replace hS := hS'
    clear hS'
    try simp only [Act.put, List.setIfInBounds_toArray, List.set_cons_zero, List.set_cons_succ]
    refine reg_take 2 (v := ?_) rfl (by kernel_rfl) (by kernel_rfl) (by kernel_rfl) (fun _ _ _ h => h) (by rfl) (by intro w hSw; (try dsimp only at hSw); go_simp; first | done | with_reducible rfl) hS ?_
    simp only [Act.put, List.setIfInBounds_toArray, List.set_cons_zero, List.set_cons_succ]
    refine reg_skip 3 rfl (by kernel_rfl) (by kernel_rfl) (by kernel_rfl) (fun _ _ _ h => h) (by rfl) hS ?_
    simp only [Act.put, List.setIfInBounds_toArray, List.set_cons_zero, List.set_cons_succ]
    refine reg_skip 4 rfl (by kernel_rfl) (by kernel_rfl) (by kernel_rfl) (fun _ _ _ h => h) (by rfl) hS ?_
    simp only [Act.put, List.setIfInBounds_toArray, List.set_cons_zero, List.set_cons_succ]
    refine reg_take 5 (v := ?_) rfl (by kernel_rfl) (by kernel_rfl) (by kernel_rfl) (fun _ _ _ h => h) (by rfl) (by intro w hSw; (try dsimp only at hSw); go_simp; first | done | with_reducible rfl) hS ?_
    simp only [Act.put, List.setIfInBounds_toArray, List.set_cons_zero, List.set_cons_succ]
    refine reg_take 6 (v := ?_) rfl (by kernel_rfl) (by kernel_rfl) (by kernel_rfl) (fun _ _ _ h => h) (by rfl) (by intro w hSw; (try dsimp only at hSw); go_simp; first | done | with_reducible rfl) hS ?_
    simp only [Act.put, List.setIfInBounds_toArray, List.set_cons_zero, List.set_cons_succ]
    refine reg_skip 7 rfl (by kernel_rfl) (by kernel_rfl) (by kernel_rfl) (fun _ _ _ h => h) (by rfl) hS ?_
    simp only [Act.put, List.setIfInBounds_toArray, List.set_cons_zero, List.set_cons_succ]
    refine reg_skip 8 rfl (by kernel_rfl) (by kernel_rfl) (by kernel_rfl) (fun _ _ _ h => h) (by rfl) hS ?_
    simp only [Act.put, List.setIfInBounds_toArray, List.set_cons_zero, List.set_cons_succ]
    refine reg_skip 9 rfl (by kernel_rfl) (by kernel_rfl) (by kernel_rfl) (fun _ _ _ h => h) (by rfl) hS ?_
    simp only [Act.put, List.setIfInBounds_toArray, List.set_cons_zero, List.set_cons_succ]
    refine reg_skip 10 rfl (by kernel_rfl) (by kernel_rfl) (by kernel_rfl) (fun _ _ _ h => h) (by rfl) hS ?_
    simp only [Act.put, List.setIfInBounds_toArray, List.set_cons_zero, List.set_cons_succ]
    refine reg_skip 11 rfl (by kernel_rfl) (by kernel_rfl) (by kernel_rfl) (fun _ _ _ h => h) (by rfl) hS ?_
    simp only [Act.put, List.setIfInBounds_toArray, List.set_cons_zero, List.set_cons_succ]
    refine reg_take 12 (v := ?_) rfl (by kernel_rfl) (by kernel_rfl) (by kernel_rfl) (fun _ _ _ h => h) (by rfl) (by intro w hSw; (try dsimp only at hSw); go_simp; first | done | with_reducible rfl) hS ?_
    simp only [Act.put, List.setIfInBounds_toArray, List.set_cons_zero, List.set_cons_succ]
    refine reg_take 13 (v := ?_) rfl (by kernel_rfl) (by kernel_rfl) (by kernel_rfl) (fun _ _ _ h => h) (by rfl) (by intro w hSw; (try dsimp only at hSw); go_simp; first | done | with_reducible rfl) hS ?_
    simp only [Act.put, List.setIfInBounds_toArray, List.set_cons_zero, List.set_cons_succ]
    refine wpAnyH_done (by kernel_rfl) ?_ _
    all_goals
      have HY := HW.out y hS
      go_wp2_with fail
      go_ret
      exact ⟨rfl, HY⟩
theorem SpecLeastPatternY (lo hi : Nat) (n : Int) (v : Value) (xs ys : List C3) (u : World) (r : CellIn lo hi u v xs) (h : hi ≤ u.heap.size) (hb : BlkOk n xs) (e : lpL n xs = ys) :
    Calls Tryd.prog 15 #[.agg #[.int .i64 n, v]] u (FreshB n ys u) := by
  have := SpecLeastPattern_any lo hi n v xs u r h
  rw [(turnB_yes hb).1, (sam_yes hb).2.2, e] at this
  exact this
set_option maxRecDepth 100000 in
set_option maxHeartbeats 8000000 in
theorem SpecArePatternsSame_any (lo hi lo2 hi2 : Nat) (n m : Int) (v v2 : Value) (xs ys : List C3) (w : World) (r : CellIn lo hi w v xs) (hhi : hi ≤ w.heap.size) (r2 : CellIn lo2 hi2 w v2 ys) (hhi2 : hi2 ≤ w.heap.size) :
    Calls Tryd.prog 19 #[.agg #[.int .i64 n, v], .agg #[.int .i64 m, v2]] w fun e w' => e = .returned (.bool (areP n m xs ys)) ∧ Below w.heap.size w w' := by
  obtain ⟨a, cap, rfl⟩ := r.form
  obtain ⟨a2, cap2, rfl⟩ := r2.form
  have HR := Lib.hid (fun W (hb : Below w.heap.size w W) => r.below (hb.mono hhi))
  have HR2 := Lib.hid (fun W (hb : Below w.heap.size w W) => r2.below (hb.mono hhi2))
  clear r r2
  obtain ⟨G, hG⟩ : ∃ G, G = (w.alloc (.cells #[.int .i64 n, .slice a xs.length cap] 28)).alloc (.cells #[.int .i64 m, .slice a2 ys.length cap2] 28) := ⟨_, rfl⟩
  have HBG : Hid (Below w.heap.size w G) := Lib.hid (by rw [hG]; exact bel_n (bel0 _ _) (Nat.le_refl _) _)
  have D0 : Below G.heap.size G G.drew := ⟨rfl, rfl, rfl, Nat.le_refl _, fun _ _ => rfl⟩
  have S0 : G.drew.cell? ⟨w.heap.size, 0, none⟩ = some (.int .i64 n) ∧ G.drew.cell? ⟨w.heap.size, 1, none⟩ = some (.slice a xs.length cap) ∧ G.drew.cell? ⟨w.heap.size + 1, 0, none⟩ = some (.int .i64 m) ∧ G.drew.cell? ⟨w.heap.size + 1, 1, none⟩ = some (.slice a2 ys.length cap2) ∧ Below G.heap.size G G.drew := by
    have e0 : G.cell? ⟨w.heap.size, 0, none⟩ = some (.int .i64 n) := by rw [hG]; go_simp
    have e1 : G.cell? ⟨w.heap.size, 1, none⟩ = some (.slice a xs.length cap) := by rw [hG]; go_simp
    have e2 : G.cell? ⟨w.heap.size + 1, 0, none⟩ = some (.int .i64 m) := by rw [hG]; go_simp
    have e3 : G.cell? ⟨w.heap.size + 1, 1, none⟩ = some (.slice a2 ys.length cap2) := by rw [hG]; go_simp
    exact ⟨kept D0 e0, kept D0 e1, kept D0 e2, kept D0 e3, D0⟩
  have KP : ∀ u v, Below u.heap.size u v → (u.cell? ⟨w.heap.size, 0, none⟩ = some (.int .i64 n) ∧ u.cell? ⟨w.heap.size, 1, none⟩ = some (.slice a xs.length cap) ∧ u.cell? ⟨w.heap.size + 1, 0, none⟩ = some (.int .i64 m) ∧ u.cell? ⟨w.heap.size + 1, 1, none⟩ = some (.slice a2 ys.length cap2) ∧ Below G.heap.size G u) → (v.cell? ⟨w.heap.size, 0, none⟩ = some (.int .i64 n) ∧ v.cell? ⟨w.heap.size, 1, none⟩ = some (.slice a xs.length cap) ∧ v.cell? ⟨w.heap.size + 1, 0, none⟩ = some (.int .i64 m) ∧ v.cell? ⟨w.heap.size + 1, 1, none⟩ = some (.slice a2 ys.length cap2) ∧ Below G.heap.size G v) := fun u v hb h => ⟨kept hb h.1, kept hb h.2.1, kept hb h.2.2.1, kept hb h.2.2.2.1, bel_c h.2.2.2.2 (Nat.le_refl _) hb⟩
  have HW : Hid (∀ u, (u.cell? ⟨w.heap.size, 0, none⟩ = some (.int .i64 n) ∧ u.cell? ⟨w.heap.size, 1, none⟩ = some (.slice a xs.length cap) ∧ u.cell? ⟨w.heap.size + 1, 0, none⟩ = some (.int .i64 m) ∧ u.cell? ⟨w.heap.size + 1, 1, none⟩ = some (.slice a2 ys.length cap2) ∧ Below G.heap.size G u) → Below w.heap.size w u) := Lib.hid (fun u h => bel_c HBG.out (Nat.le_refl _) h.2.2.2.2)
  have HC1 : Hid (∀ u, (u.cell? ⟨w.heap.size, 0, none⟩ = some (.int .i64 n) ∧ u.cell? ⟨w.heap.size, 1, none⟩ = some (.slice a xs.length cap) ∧ u.cell? ⟨w.heap.size + 1, 0, none⟩ = some (.int .i64 m) ∧ u.cell? ⟨w.heap.size + 1, 1, none⟩ = some (.slice a2 ys.length cap2) ∧ Below G.heap.size G u) → CellIn lo hi u (.slice a xs.length cap) xs ∧ hi ≤ u.heap.size) := Lib.hid (fun u h => ⟨HR.out _ (HW.out _ h), Nat.le_trans hhi (HW.out _ h).size⟩)
  have HC2 : Hid (∀ u, (u.cell? ⟨w.heap.size, 0, none⟩ = some (.int .i64 n) ∧ u.cell? ⟨w.heap.size, 1, none⟩ = some (.slice a xs.length cap) ∧ u.cell? ⟨w.heap.size + 1, 0, none⟩ = some (.int .i64 m) ∧ u.cell? ⟨w.heap.size + 1, 1, none⟩ = some (.slice a2 ys.length cap2) ∧ Below G.heap.size G u) → CellIn lo2 hi2 u (.slice a2 ys.length cap2) ys ∧ hi2 ≤ u.heap.size) := Lib.hid (fun u h => ⟨HR2.out _ (HW.out _ h), Nat.le_trans hhi2 (HW.out _ h).size⟩)
  by_cases h1 : BlkOk n xs
  · have K1 := Lib.hid (fun (u : World) (h : u.cell? ⟨w.heap.size, 0, none⟩ = some (.int .i64 n) ∧ u.cell? ⟨w.heap.size, 1, none⟩ = some (.slice a xs.length cap) ∧ u.cell? ⟨w.heap.size + 1, 0, none⟩ = some (.int .i64 m) ∧ u.cell? ⟨w.heap.size + 1, 1, none⟩ = some (.slice a2 ys.length cap2) ∧ Below G.heap.size G u) => SpecOkY lo hi n _ xs true u (HC1.out u h).1 (HC1.out u h).2 (blk_yes h1).symm)
    by_cases h2 : BlkOk m ys
    · have K2 := Lib.hid (fun (u : World) (h : u.cell? ⟨w.heap.size, 0, none⟩ = some (.int .i64 n) ∧ u.cell? ⟨w.heap.size, 1, none⟩ = some (.slice a xs.length cap) ∧ u.cell? ⟨w.heap.size + 1, 0, none⟩ = some (.int .i64 m) ∧ u.cell? ⟨w.heap.size + 1, 1, none⟩ = some (.slice a2 ys.length cap2) ∧ Below G.heap.size G u) => SpecOkY lo2 hi2 m _ ys true u (HC2.out u h).1 (HC2.out u h).2 (blk_yes h2).symm)
      obtain ⟨fs, hfs⟩ : ∃ fs, lpL n xs = fs := ⟨_, rfl⟩
      obtain ⟨gs, hgs⟩ : ∃ gs, lpL m ys = gs := ⟨_, rfl⟩
      have L1 := Lib.hid (fun (u : World) (h : u.cell? ⟨w.heap.size, 0, none⟩ = some (.int .i64 n) ∧ u.cell? ⟨w.heap.size, 1, none⟩ = some (.slice a xs.length cap) ∧ u.cell? ⟨w.heap.size + 1, 0, none⟩ = some (.int .i64 m) ∧ u.cell? ⟨w.heap.size + 1, 1, none⟩ = some (.slice a2 ys.length cap2) ∧ Below G.heap.size G u) => SpecLeastPatternY lo hi n _ xs fs u (HC1.out u h).1 (HC1.out u h).2 h1 hfs)
      have L2 := Lib.hid (fun (u : World) (h : u.cell? ⟨w.heap.size, 0, none⟩ = some (.int .i64 n) ∧ u.cell? ⟨w.heap.size, 1, none⟩ = some (.slice a xs.length cap) ∧ u.cell? ⟨w.heap.size + 1, 0, none⟩ = some (.int .i64 m) ∧ u.cell? ⟨w.heap.size + 1, 1, none⟩ = some (.slice a2 ys.length cap2) ∧ Below G.heap.size G u) => SpecLeastPatternY lo2 hi2 m _ ys gs u (HC2.out u h).1 (HC2.out u h).2 h2 hgs)
      obtain ⟨b, hb⟩ : ∃ b, sameB n m fs gs = b := ⟨_, rfl⟩
      have hans : areP n m xs ys = b := by unfold areP; rw [← blk_yes h1, ← blk_yes h2, hfs, hgs, hb]; rfl
      have HSB := Lib.hid hb
      rw [hans]
      clear hans hfs hgs hb h1 h2 HC1 HC2
      go_enter Tryd.func19, Tryd.ntmps19
      go_upto_region 1 with fail
      rw [← hG]
      clear hG
      go_region_held3 (fun w' => w'.cell? ⟨w.heap.size, 0, none⟩ = some (.int .i64 n) ∧ w'.cell? ⟨w.heap.size, 1, none⟩ = some (.slice a xs.length cap) ∧ w'.cell? ⟨w.heap.size + 1, 0, none⟩ = some (.int .i64 m) ∧ w'.cell? ⟨w.heap.size + 1, 1, none⟩ = some (.slice a2 ys.length cap2) ∧ Below G.heap.size G w') (first | assumption | (refine KP _ _ (by assumption) ?_; assumption))
        ((first
          | (go_at_call 24; refine (args_eq (K1.out _ (by assumption)) (by with_reducible rfl)).mono ?_; rintro e y ⟨rfl, hb⟩)
          | (go_at_call 24; refine (args_eq (K2.out _ (by assumption)) (by with_reducible rfl)).mono ?_; rintro e y ⟨rfl, hb⟩)
          | (go_at_call 15; refine (args_eq (L1.out _ (by assumption)) (by with_reducible rfl)).mono ?_; rintro e yA ⟨vA, rfl, RA, hbA⟩; obtain ⟨aA, cA, rfl⟩ := RA.form; have HRA := Lib.hid (fun v (hv : Below yA.heap.size yA v) => RA.below (hv.mono (Nat.le_refl _))); clear RA)
          | (go_at_call 15; refine (args_eq (L2.out _ (by assumption)) (by with_reducible rfl)).mono ?_; rintro e yB ⟨vB, rfl, RB, hbB⟩; obtain ⟨aB, cB, rfl⟩ := RB.form; have HRB := Lib.hid (fun v (hv : Below yB.heap.size yB v) => RB.below (hv.mono (Nat.le_refl _))); clear RB)
          | (go_at_call 38; refine (args_eq (SpecSameY _ _ _ _ n m _ _ fs gs b yB (HRA.out _ hbB) (HRB.out _ (Below.refl _ _)) hbB.size (Nat.le_refl _) HSB.out) (by with_reducible rfl)).mono ?_; rintro e y ⟨rfl, hb⟩)
          | (go_at_call 38; refine (args_eq (SpecSameY _ _ _ _ n m _ _ fs gs b yA (HRA.out _ (Below.refl _ _)) (HRB.out _ hbA) (Nat.le_refl _) hbA.size HSB.out) (by with_reducible rfl)).mono ?_; rintro e y ⟨rfl, hb⟩)))
      all_goals
        have HY := HW.out y (by assumption)
        go_wp2_with fail
        go_ret
        exact ⟨rfl, HY⟩
    · have K2 := Lib.hid (fun (u : World) (h : u.cell? ⟨w.heap.size, 0, none⟩ = some (.int .i64 n) ∧ u.cell? ⟨w.heap.size, 1, none⟩ = some (.slice a xs.length cap) ∧ u.cell? ⟨w.heap.size + 1, 0, none⟩ = some (.int .i64 m) ∧ u.cell? ⟨w.heap.size + 1, 1, none⟩ = some (.slice a2 ys.length cap2) ∧ Below G.heap.size G u) => SpecOkY lo2 hi2 m _ ys false u (HC2.out u h).1 (HC2.out u h).2 (blk_no h2).symm)
      have hans : areP n m xs ys = false := by unfold areP; rw [← blk_yes h1, ← blk_no h2]; rfl
      rw [hans]
      clear hans h1 h2 HC1 HC2
      go_enter Tryd.func19, Tryd.ntmps19
      go_upto_region 1 with fail
      rw [← hG]
      clear hG
      try simp only [List.append_eq, List.cons_append, List.nil_append]
      have hS : G.drew.cell? ⟨w.heap.size, 0, none⟩ = some (.int .i64 n) ∧ G.drew.cell? ⟨w.heap.size, 1, none⟩ = some (.slice a xs.length cap) ∧ G.drew.cell? ⟨w.heap.size + 1, 0, none⟩ = some (.int .i64 m) ∧ G.drew.cell? ⟨w.heap.size + 1, 1, none⟩ = some (.slice a2 ys.length cap2) ∧ Below G.heap.size G G.drew := S0
      refine reg_begin (fun w' => w'.cell? ⟨w.heap.size, 0, none⟩ = some (.int .i64 n) ∧ w'.cell? ⟨w.heap.size, 1, none⟩ = some (.slice a xs.length cap) ∧ w'.cell? ⟨w.heap.size + 1, 0, none⟩ = some (.int .i64 m) ∧ w'.cell? ⟨w.heap.size + 1, 1, none⟩ = some (.slice a2 ys.length cap2) ∧ Below G.heap.size G w') (by kernel_rfl) hS ?_
      refine reg_take 0 (v := ?_) rfl (by kernel_rfl) (by kernel_rfl) (by kernel_rfl) (fun _ _ _ h => h) (by rfl) (by intro w hSw; (try dsimp only at hSw); go_simp; first | done | with_reducible rfl) hS ?_
      simp only [Act.put, List.setIfInBounds_toArray, List.set_cons_zero, List.set_cons_succ]
      refine reg_call 1 rfl (by kernel_rfl) (by rfl) (fun K hK => ?_)
      go_simp
      go_at_call 24
      refine (args_eq (K1.out _ hS) (by with_reducible rfl)).mono ?_
      rintro e y ⟨rfl, hb⟩
      refine hK.out _ _ (KP _ _ hb hS) (fun hS' => ?_)
      clear hK K
      replace hS := hS'
      clear hS'
      try simp only [Act.put, List.setIfInBounds_toArray, List.set_cons_zero, List.set_cons_succ]
      refine reg_take 2 (v := ?_) rfl (by kernel_rfl) (by kernel_rfl) (by kernel_rfl) (fun _ _ _ h => h) (by rfl) (by intro w hSw; (try dsimp only at hSw); go_simp; first | done | with_reducible rfl) hS ?_
      simp only [Act.put, List.setIfInBounds_toArray, List.set_cons_zero, List.set_cons_succ]
      refine reg_take 3 (v := ?_) rfl (by kernel_rfl) (by kernel_rfl) (by kernel_rfl) (fun _ _ _ h => h) (by rfl) (by intro w hSw; (try dsimp only at hSw); go_simp; first | done | with_reducible rfl) hS ?_
      simp only [Act.put, List.setIfInBounds_toArray, List.set_cons_zero, List.set_cons_succ]
      refine reg_call 4 rfl (by kernel_rfl) (by rfl) (fun K hK => ?_)
      go_simp
      go_at_call 24
      refine (args_eq (K2.out _ hS) (by with_reducible rfl)).mono ?_
      rintro e y ⟨rfl, hb⟩
      refine hK.out _ _ (KP _ _ hb hS) (fun hS' => ?_)
      clear hK K
      replace hS := hS'
      clear hS'
      try simp only [Act.put, List.setIfInBounds_toArray, List.set_cons_zero, List.set_cons_succ]
      refine reg_take 5 (v := ?_) rfl (by kernel_rfl) (by kernel_rfl) (by kernel_rfl) (fun _ _ _ h => h) (by rfl) (by intro w hSw; (try dsimp only at hSw); go_simp; first | done | with_reducible rfl) hS ?_
      simp only [Act.put, List.setIfInBounds_toArray, List.set_cons_zero, List.set_cons_succ]
      refine reg_take 6 (v := ?_) rfl (by kernel_rfl) (by kernel_rfl) (by kernel_rfl) (fun _ _ _ h => h) (by rfl) (by intro w hSw; (try dsimp only at hSw); go_simp; first | done | with_reducible rfl) hS ?_
      simp only [Act.put, List.setIfInBounds_toArray, List.set_cons_zero, List.set_cons_succ]
      refine reg_skip 7 rfl (by kernel_rfl) (by kernel_rfl) (by kernel_rfl) (fun _ _ _ h => h) (by rfl) hS ?_
      simp only [Act.put, List.setIfInBounds_toArray, List.set_cons_zero, List.set_cons_succ]
      refine reg_skip 8 rfl (by kernel_rfl) (by kernel_rfl) (by kernel_rfl) (fun _ _ _ h => h) (by rfl) hS ?_
      simp only [Act.put, List.setIfInBounds_toArray, List.set_cons_zero, List.set_cons_succ]
      refine reg_skip 9 rfl (by kernel_rfl) (by kernel_rfl) (by kernel_rfl) (fun _ _ _ h => h) (by rfl) hS ?_
      simp only [Act.put, List.setIfInBounds_toArray, List.set_cons_zero, List.set_cons_succ]
      refine reg_skip 10 rfl (by kernel_rfl) (by kernel_rfl) (by kernel_rfl) (fun _ _ _ h => h) (by rfl) hS ?_
      simp only [Act.put, List.setIfInBounds_toArray, List.set_cons_zero, List.set_cons_succ]
      refine reg_skip 11 rfl (by kernel_rfl) (by kernel_rfl) (by kernel_rfl) (fun _ _ _ h => h) (by rfl) hS ?_
      simp only [Act.put, List.setIfInBounds_toArray, List.set_cons_zero, List.set_cons_succ]
      refine reg_take 12 (v := ?_) rfl (by kernel_rfl) (by kernel_rfl) (by kernel_rfl) (fun _ _ _ h => h) (by rfl) (by intro w hSw; (try dsimp only at hSw); go_simp; first | done | with_reducible rfl) hS ?_
      simp only [Act.put, List.setIfInBounds_toArray, List.set_cons_zero, List.set_cons_succ]
      refine reg_take 13 (v := ?_) rfl (by kernel_rfl) (by kernel_rfl) (by kernel_rfl) (fun _ _ _ h => h) (by rfl) (by intro w hSw; (try dsimp only at hSw); go_simp; first | done | with_reducible rfl) hS ?_
      simp only [Act.put, List.setIfInBounds_toArray, List.set_cons_zero, List.set_cons_succ]
      refine wpAnyH_done (by kernel_rfl) ?_ _
      all_goals
        have HY := HW.out y hS
        go_wp2_with fail
        go_ret
        exact ⟨rfl, HY⟩
  · have K1 := Lib.hid (fun (u : World) (h : u.cell? ⟨w.heap.size, 0, none⟩ = some (.int .i64 n) ∧ u.cell? ⟨w.heap.size, 1, none⟩ = some (.slice a xs.length cap) ∧ u.cell? ⟨w.heap.size + 1, 0, none⟩ = some (.int .i64 m) ∧ u.cell? ⟨w.heap.size + 1, 1, none⟩ = some (.slice a2 ys.length cap2) ∧ Below G.heap.size G u) => SpecOkY lo hi n _ xs false u (HC1.out u h).1 (HC1.out u h).2 (blk_no h1).symm)
    have hans : areP n m xs ys = false := by unfold areP; rw [← blk_no h1]; rfl
    rw [hans]
    clear hans h1 HC1 HC2
    go_enter Tryd.func19, Tryd.ntmps19
    go_upto_region 1 with fail
    rw [← hG]
    clear hG
    try simp only [List.append_eq, List.cons_append, List.nil_append]
    have hS : G.drew.cell? ⟨w.heap.size, 0, none⟩ = some (.int .i64 n) ∧ G.drew.cell? ⟨w.heap.size, 1, none⟩ = some (.slice a xs.length cap) ∧ G.drew.cell? ⟨w.heap.size + 1, 0, none⟩ = some (.int .i64 m) ∧ G.drew.cell? ⟨w.heap.size + 1, 1, none⟩ = some (.slice a2 ys.length cap2) ∧ Below G.heap.size G G.drew := S0
    refine reg_begin (fun w' => w'.cell? ⟨w.heap.size, 0, none⟩ = some (.int .i64 n) ∧ w'.cell? ⟨w.heap.size, 1, none⟩ = some (.slice a xs.length cap) ∧ w'.cell? ⟨w.heap.size + 1, 0, none⟩ = some (.int .i64 m) ∧ w'.cell? ⟨w.heap.size + 1, 1, none⟩ = some (.slice a2 ys.length cap2) ∧ Below G.heap.size G w') (by kernel_rfl) hS ?_
    refine reg_take 0 (v := ?_) rfl (by kernel_rfl) (by kernel_rfl) (by kernel_rfl) (fun _ _ _ h => h) (by rfl) (by intro w hSw; (try dsimp only at hSw); go_simp; first | done | with_reducible rfl) hS ?_
    simp only [Act.put, List.setIfInBounds_toArray, List.set_cons_zero, List.set_cons_succ]
    refine reg_call 1 rfl (by kernel_rfl) (by rfl) (fun K hK => ?_)
    go_simp
    go_at_call 24
    refine (args_eq (K1.out _ hS) (by with_reducible rfl)).mono ?_
    rintro e y ⟨rfl, hb⟩
    refine hK.out _ _ (KP _ _ hb hS) (fun hS' => ?_)
    clear hK K
    replace hS := hS'
    clear hS'
    try simp only [Act.put, List.setIfInBounds_toArray, List.set_cons_zero, List.set_cons_succ]
    refine reg_take 2 (v := ?_) rfl (by kernel_rfl) (by kernel_rfl) (by kernel_rfl) (fun _ _ _ h => h) (by rfl) (by intro w hSw; (try dsimp only at hSw); go_simp; first | done | with_reducible rfl) hS ?_
    simp only [Act.put, List.setIfInBounds_toArray, List.set_cons_zero, List.set_cons_succ]
    refine reg_skip 3 rfl (by kernel_rfl) (by kernel_rfl) (by kernel_rfl) (fun _ _ _ h => h) (by rfl) hS ?_
    simp only [Act.put, List.setIfInBounds_toArray, List.set_cons_zero, List.set_cons_succ]
    refine reg_skip 4 rfl (by kernel_rfl) (by kernel_rfl) (by kernel_rfl) (fun _ _ _ h => h) (by rfl) hS ?_
    simp only [Act.put, List.setIfInBounds_toArray, List.set_cons_zero, List.set_cons_succ]
    refine reg_take 5 (v := ?_) rfl (by kernel_rfl) (by kernel_rfl) (by kernel_rfl) (fun _ _ _ h => h) (by rfl) (by intro w hSw; (try dsimp only at hSw); go_simp; first | done | with_reducible rfl) hS ?_
    simp only [Act.put, List.setIfInBounds_toArray, List.set_cons_zero, List.set_cons_succ]
    refine reg_take 6 (v := ?_) rfl (by kernel_rfl) (by kernel_rfl) (by kernel_rfl) (fun _ _ _ h => h) (by rfl) (by intro w hSw; (try dsimp only at hSw); go_simp; first | done | with_reducible rfl) hS ?_
    simp only [Act.put, List.setIfInBounds_toArray, List.set_cons_zero, List.set_cons_succ]
    refine reg_skip 7 rfl (by kernel_rfl) (by kernel_rfl) (by kernel_rfl) (fun _ _ _ h => h) (by rfl) hS ?_
    simp only [Act.put, List.setIfInBounds_toArray, List.set_cons_zero, List.set_cons_succ]
    refine reg_skip 8 rfl (by kernel_rfl) (by kernel_rfl) (by kernel_rfl) (fun _ _ _ h => h) (by rfl) hS ?_
    simp only [Act.put, List.setIfInBounds_toArray, List.set_cons_zero, List.set_cons_succ]
    refine reg_skip 9 rfl (by kernel_rfl) (by kernel_rfl) (by kernel_rfl) (fun _ _ _ h => h) (by rfl) hS ?_
    simp only [Act.put, List.setIfInBounds_toArray, List.set_cons_zero, List.set_cons_succ]
    refine reg_skip 10 rfl (by kernel_rfl) (by kernel_rfl) (by kernel_rfl) (fun _ _ _ h => h) (by rfl) hS ?_
    simp only [Act.put, List.setIfInBounds_toArray, List.set_cons_zero, List.set_cons_succ]
    refine reg_skip 11 rfl (by kernel_rfl) (by kernel_rfl) (by kernel_rfl) (fun _ _ _ h => h) (by rfl) hS ?_
    simp only [Act.put, List.setIfInBounds_toArray, List.set_cons_zero, List.set_cons_succ]
    refine reg_take 12 (v := ?_) rfl (by kernel_rfl) (by kernel_rfl) (by kernel_rfl) (fun _ _ _ h => h) (by rfl) (by intro w hSw; (try dsimp only at hSw); go_simp; first | done | with_reducible rfl) hS ?_
    simp only [Act.put, List.setIfInBounds_toArray, List.set_cons_zero, List.set_cons_succ]
    refine reg_take 13 (v := ?_) rfl (by kernel_rfl) (by kernel_rfl) (by kernel_rfl) (fun _ _ _ h => h) (by rfl) (by intro w hSw; (try dsimp only at hSw); go_simp; first | done | with_reducible rfl) hS ?_
    simp only [Act.put, List.setIfInBounds_toArray, List.set_cons_zero, List.set_cons_succ]
    refine wpAnyH_done (by kernel_rfl) ?_ _
    all_goals
      have HY := HW.out y hS
      go_wp2_with fail
      go_ret
      exact ⟨rfl, HY⟩

end Go.Proofs.YtfidnhhlcdbaeaaDoor

namespace Go.Proofs.YtfidnhhlcdbaeaaDoor
open Go.ChangeShapes Go.WideShapes Go.ChangeAt Go.RowKit

def firstP (e : Nat → Nat → Bool) (m j : Nat) : Bool := (List.range j).all fun i => !e i m
theorem firstP_succ (e : Nat → Nat → Bool) (m j : Nat) : firstP e m (j + 1) = (firstP e m j && !e j m) := by
  unfold firstP
  rw [List.range_succ, List.all_append]; simp
theorem SpecSameN (l1 h1 l2 h2 : Nat) (n : Int) (v1 v2 : Value) (xs ys : List C3) (b : Bool) (u : World) (r1 : CellIn l1 h1 u v1 xs) (r2 : CellIn l2 h2 u v2 ys) (hh1 : h1 ≤ u.heap.size) (hh2 : h2 ≤ u.heap.size) (e : sameB n n xs ys = b) :
    Calls Tryd.prog 38 #[.agg #[.int .i64 n, v1], .agg #[.int .i64 n, v2]] u fun e w' => e = .returned (.bool b) ∧ Below u.heap.size u w' := by
  have := SpecSame_any l1 h1 l2 h2 n n v1 v2 xs ys u r1 r2 hh1 hh2
  rw [e] at this
  exact this
set_option maxRecDepth 100000 in
set_option maxHeartbeats 8000000 in
theorem SpecCountForms_any (lo hi : Nat) (n : Int) (v : Value) (xs : List C3) (w : World) (r : CellIn lo hi w v xs) (hhi : hi ≤ w.heap.size) :
    Calls Tryd.prog 21 #[.agg #[.int .i64 n, v]] w fun e w' => e = .returned (.int .i64 (forms n xs)) ∧ Below w.heap.size w w' := by
  obtain ⟨a, cap, rfl⟩ := r.form
  have HR := Lib.hid (fun W (hb : Below w.heap.size w W) => r.below (hb.mono hhi))
  clear r
  obtain ⟨G, hG⟩ : ∃ G, G = w.alloc (.cells #[.int .i64 n, .slice a xs.length cap] 28) := ⟨_, rfl⟩
  have HBG : Hid (Below w.heap.size w G) := Lib.hid (by rw [hG]; exact bel0 _ _)
  have HP : Hid (∀ W, Below G.heap.size G W → W.cell? ⟨w.heap.size, 0, none⟩ = some (.int .i64 n) ∧ W.cell? ⟨w.heap.size, 1, none⟩ = some (.slice a xs.length cap)) :=
    Lib.hid (fun W hb => ⟨kept hb (by rw [hG]; go_simp), kept hb (by rw [hG]; go_simp)⟩)
  have HC : Hid (∀ u, Below G.heap.size G u → CellIn lo hi u (.slice a xs.length cap) xs ∧ hi ≤ u.heap.size) := Lib.hid (fun u h => ⟨HR.out _ (bel_c HBG.out (Nat.le_refl _) h), Nat.le_trans hhi (bel_c HBG.out (Nat.le_refl _) h).size⟩)
  by_cases hb : BlkOk n xs
  · rw [forms_yes hb]
    have HB := Lib.hid hb
    clear hb
    obtain ⟨e, he⟩ : ∃ e, eqV n xs = e := ⟨_, rfl⟩
    have HE : Hid (∀ i k, sameB n n (seeL n i xs) (seeL n k xs) = e i k) := Lib.hid (fun i k => by rw [← he]; rfl)
    rw [he]
    obtain ⟨c8, h8⟩ : ∃ c, cntE e 8 = c := ⟨_, rfl⟩
    have H8 := Lib.hid h8
    rw [h8]
    clear he h8
    go_enter Tryd.func21, Tryd.ntmps21
    go_wp2_with fail
    rw [← hG]
    clear hG
    go_loopw [3, 4] (fun q i wr => ∃ m : Nat, m ≤ 8 ∧ i = .int .i64 m ∧ q = .int .i64 (cntE e m : Nat) ∧ Hid (Below G.heap.size G wr)) (fun _ i _ => 8 - (intOf i).toNat)
    case atStart => exact ⟨0, Nat.zero_le _, rfl, rfl, Lib.hid (Below.refl _ _)⟩
    case round =>
      obtain ⟨m, hk, rfl, rfl, hbel⟩ := hrel
      obtain ⟨p0, p1⟩ := HP.out _ hbel.out
      have hcl := cntE_le e m
      by_cases hlt : m < 8
      · have h8 : (m : Int) < 8 := by omega
        go_wp2_with fail
        refine (SpecBlockOk_yes lo hi n _ xs _ (HC.out _ hbel.out).1 (HC.out _ hbel.out).2 HB.out).mono ?_
        rintro e0 w1 ⟨rfl, hb1⟩
        have B1 := Lib.hid (bel_c hbel.out (Nat.le_refl _) hb1)
        clear p0 p1 hbel hb1
        go_wp2_with fail
        go_loopw [5, 6] (fun q i wi => ∃ j : Nat, j ≤ m ∧ i = .int .i64 j ∧ q = .bool (firstP e m j) ∧ Hid (Below G.heap.size G wi)) (fun _ i _ => m - (intOf i).toNat)
        case atStart => exact ⟨0, Nat.zero_le _, rfl, rfl, B1⟩
        case round =>
          obtain ⟨j, hj, rfl, rfl, hbi⟩ := hrel
          obtain ⟨p0, p1⟩ := HP.out _ hbi.out
          by_cases hjm : j < m
          · have HJ := Lib.hid (firstP_succ e m j)
            have hjm' : (j : Int) < (m : Int) := by omega
            have D0 := fun (u : World) => (show Below u.heap.size u u.drew from ⟨rfl, rfl, rfl, Nat.le_refl _, fun _ _ => rfl⟩)
            have KP : ∀ u v, Below u.heap.size u v → (u.cell? ⟨w.heap.size, 0, none⟩ = some (.int .i64 n) ∧ u.cell? ⟨w.heap.size, 1, none⟩ = some (.slice a xs.length cap) ∧ Below G.heap.size G u) → (v.cell? ⟨w.heap.size, 0, none⟩ = some (.int .i64 n) ∧ v.cell? ⟨w.heap.size, 1, none⟩ = some (.slice a xs.length cap) ∧ Below G.heap.size G v) := fun u v hb h => ⟨kept hb h.1, kept hb h.2.1, bel_c h.2.2 (Nat.le_refl _) hb⟩
            cases hfj : firstP e m j
            · have HJ2 : Hid (firstP e m (j + 1) = false) := Lib.hid (by rw [HJ.out, hfj]; rfl)
              clear hfj
              go_upto_region 9 with fail
              have S0 : wr.drew.cell? ⟨w.heap.size, 0, none⟩ = some (.int .i64 n) ∧ wr.drew.cell? ⟨w.heap.size, 1, none⟩ = some (.slice a xs.length cap) ∧ Below G.heap.size G wr.drew := ⟨kept (D0 _) p0, kept (D0 _) p1, bel_c hbi.out (Nat.le_refl _) (D0 _)⟩
              clear p0 p1
              try simp only [List.append_eq, List.cons_append, List.nil_append]
              have hS : wr.drew.cell? ⟨w.heap.size, 0, none⟩ = some (.int .i64 n) ∧ wr.drew.cell? ⟨w.heap.size, 1, none⟩ = some (.slice a xs.length cap) ∧ Below G.heap.size G wr.drew := S0
              refine reg_begin (fun w' => w'.cell? ⟨w.heap.size, 0, none⟩ = some (.int .i64 n) ∧ w'.cell? ⟨w.heap.size, 1, none⟩ = some (.slice a xs.length cap) ∧ Below G.heap.size G w') (by kernel_rfl) hS ?_
              refine reg_take 0 (v := ?_) rfl (by kernel_rfl) (by kernel_rfl) (by kernel_rfl) (fun _ _ _ h => h) (by rfl) (by intro w hSw; (try dsimp only at hSw); go_simp; first | done | with_reducible rfl) hS ?_
              simp only [Act.put, List.setIfInBounds_toArray, List.set_cons_zero, List.set_cons_succ]
              refine reg_take 1 (v := ?_) rfl (by kernel_rfl) (by kernel_rfl) (by kernel_rfl) (fun _ _ _ h => h) (by rfl) (by intro w hSw; (try dsimp only at hSw); go_simp; first | done | with_reducible rfl) hS ?_
              simp only [Act.put, List.setIfInBounds_toArray, List.set_cons_zero, List.set_cons_succ]
              refine reg_skip 2 rfl (by kernel_rfl) (by kernel_rfl) (by kernel_rfl) (fun _ _ _ h => h) (by rfl) hS ?_
              simp only [Act.put, List.setIfInBounds_toArray, List.set_cons_zero, List.set_cons_succ]
              refine reg_skip 3 rfl (by kernel_rfl) (by kernel_rfl) (by kernel_rfl) (fun _ _ _ h => h) (by rfl) hS ?_
              simp only [Act.put, List.setIfInBounds_toArray, List.set_cons_zero, List.set_cons_succ]
              refine reg_skip 4 rfl (by kernel_rfl) (by kernel_rfl) (by kernel_rfl) (fun _ _ _ h => h) (by rfl) hS ?_
              simp only [Act.put, List.setIfInBounds_toArray, List.set_cons_zero, List.set_cons_succ]
              refine reg_skip 5 rfl (by kernel_rfl) (by kernel_rfl) (by kernel_rfl) (fun _ _ _ h => h) (by rfl) hS ?_
              simp only [Act.put, List.setIfInBounds_toArray, List.set_cons_zero, List.set_cons_succ]
              refine reg_skip 6 rfl (by kernel_rfl) (by kernel_rfl) (by kernel_rfl) (fun _ _ _ h => h) (by rfl) hS ?_
              simp only [Act.put, List.setIfInBounds_toArray, List.set_cons_zero, List.set_cons_succ]
              refine reg_skip 7 rfl (by kernel_rfl) (by kernel_rfl) (by kernel_rfl) (fun _ _ _ h => h) (by rfl) hS ?_
              simp only [Act.put, List.setIfInBounds_toArray, List.set_cons_zero, List.set_cons_succ]
              refine reg_skip 8 rfl (by kernel_rfl) (by kernel_rfl) (by kernel_rfl) (fun _ _ _ h => h) (by rfl) hS ?_
              simp only [Act.put, List.setIfInBounds_toArray, List.set_cons_zero, List.set_cons_succ]
              refine reg_skip 9 rfl (by kernel_rfl) (by kernel_rfl) (by kernel_rfl) (fun _ _ _ h => h) (by rfl) hS ?_
              simp only [Act.put, List.setIfInBounds_toArray, List.set_cons_zero, List.set_cons_succ]
              refine reg_take 10 (v := ?_) rfl (by kernel_rfl) (by kernel_rfl) (by kernel_rfl) (fun _ _ _ h => h) (by rfl) (by intro w hSw; (try dsimp only at hSw); go_simp; first | done | with_reducible rfl) hS ?_
              simp only [Act.put, List.setIfInBounds_toArray, List.set_cons_zero, List.set_cons_succ]
              refine reg_take 11 (v := ?_) rfl (by kernel_rfl) (by kernel_rfl) (by kernel_rfl) (fun _ _ _ h => h) (by rfl) (by intro w hSw; (try dsimp only at hSw); go_simp; first | done | with_reducible rfl) hS ?_
              simp only [Act.put, List.setIfInBounds_toArray, List.set_cons_zero, List.set_cons_succ]
              refine wpAnyH_done (by kernel_rfl) ?_ _
              have HY := Lib.hid hS.2.2
              clear hS S0 KP D0
              go_wp2_with fail
              go_roundw
              case rel => exact ⟨j + 1, by omega, by go_num, by rw [HJ2.out], HY⟩
              case measure => simp [intOf] <;> omega
            · obtain ⟨vi, hvi⟩ : ∃ ys, seeL n j xs = ys := ⟨_, rfl⟩
              obtain ⟨vk, hvk⟩ : ∃ ys, seeL n m xs = ys := ⟨_, rfl⟩
              obtain ⟨b, hbb⟩ : ∃ b, e j m = b := ⟨_, rfl⟩
              have HSB : Hid (sameB n n vi vk = b) := Lib.hid (by rw [← hvi, ← hvk, HE.out, hbb])
              have HJ2 : Hid (firstP e m (j + 1) = !b) := Lib.hid (by rw [HJ.out, hfj, hbb]; rfl)
              have L1 := Lib.hid (fun (u : World) (h : u.cell? ⟨w.heap.size, 0, none⟩ = some (.int .i64 n) ∧ u.cell? ⟨w.heap.size, 1, none⟩ = some (.slice a xs.length cap) ∧ Below G.heap.size G u) => SpecSeeY lo hi n j (j : Int) _ xs vi u (HC.out _ h.2.2).1 (HC.out _ h.2.2).2 HB.out rfl (by omega) hvi)
              have L2 := Lib.hid (fun (u : World) (h : u.cell? ⟨w.heap.size, 0, none⟩ = some (.int .i64 n) ∧ u.cell? ⟨w.heap.size, 1, none⟩ = some (.slice a xs.length cap) ∧ Below G.heap.size G u) => SpecSeeY lo hi n m (m : Int) _ xs vk u (HC.out _ h.2.2).1 (HC.out _ h.2.2).2 HB.out rfl (by omega) hvk)
              clear hfj hvi hvk hbb
              go_upto_region 9 with fail
              have S0 : wr.drew.cell? ⟨w.heap.size, 0, none⟩ = some (.int .i64 n) ∧ wr.drew.cell? ⟨w.heap.size, 1, none⟩ = some (.slice a xs.length cap) ∧ Below G.heap.size G wr.drew := ⟨kept (D0 _) p0, kept (D0 _) p1, bel_c hbi.out (Nat.le_refl _) (D0 _)⟩
              clear p0 p1
              go_region_held3 (fun w' => w'.cell? ⟨w.heap.size, 0, none⟩ = some (.int .i64 n) ∧ w'.cell? ⟨w.heap.size, 1, none⟩ = some (.slice a xs.length cap) ∧ Below G.heap.size G w') (first | assumption | (refine KP _ _ (by assumption) ?_; assumption))
                ((first
                  | (go_at_call 26; refine (args_eq (L1.out _ (by assumption)) (by with_reducible rfl)).mono ?_; rintro e yA ⟨vA, rfl, RA, hbA⟩; obtain ⟨aA, cA, rfl⟩ := RA.form; have HRA := Lib.hid (fun v (hv : Below yA.heap.size yA v) => RA.below (hv.mono (Nat.le_refl _))); clear RA)
                  | (go_at_call 26; refine (args_eq (L2.out _ (by assumption)) (by with_reducible rfl)).mono ?_; rintro e yB ⟨vB, rfl, RB, hbB⟩; obtain ⟨aB, cB, rfl⟩ := RB.form; have HRB := Lib.hid (fun v (hv : Below yB.heap.size yB v) => RB.below (hv.mono (Nat.le_refl _))); clear RB)
                  | (go_at_call 38; refine (args_eq (SpecSameN _ _ _ _ n _ _ vi vk b yB (HRA.out _ hbB) (HRB.out _ (Below.refl _ _)) hbB.size (Nat.le_refl _) HSB.out) (by with_reducible rfl)).mono ?_; rintro e y ⟨rfl, hb⟩)
                  | (go_at_call 38; refine (args_eq (SpecSameN _ _ _ _ n _ _ vi vk b yA (HRA.out _ (Below.refl _ _)) (HRB.out _ hbA) (Nat.le_refl _) hbA.size HSB.out) (by with_reducible rfl)).mono ?_; rintro e y ⟨rfl, hb⟩)))
              all_goals
                have HY := Lib.hid (show y.cell? ⟨w.heap.size, 0, none⟩ = some (.int .i64 n) ∧ y.cell? ⟨w.heap.size, 1, none⟩ = some (.slice a xs.length cap) ∧ Below G.heap.size G y by assumption).2.2
                clear S0 KP D0 L1 L2
                go_wp2_with fail
                go_roundw
                case rel => exact ⟨j + 1, by omega, by go_num, by rw [HJ2.out], HY⟩
                case measure => simp [intOf] <;> omega
          · obtain rfl : j = m := by omega
            have HN : Hid (cntE e (j + 1) = cntE e j + (if firstP e j j = true then 1 else 0)) := Lib.hid rfl
            cases hfj : firstP e j j
            · have HN2 : Hid (cntE e (j + 1) = cntE e j) := Lib.hid (by rw [HN.out, hfj]; rfl)
              clear hfj
              go_wp2_with fail
              go_roundw
              case rel => exact ⟨j + 1, by omega, by go_num, by rw [HN2.out], hbi⟩
              case measure => simp [intOf] <;> omega
            · have HN2 : Hid (cntE e (j + 1) = cntE e j + 1) := Lib.hid (by rw [HN.out, hfj]; rfl)
              clear hfj
              generalize cntE e j = c at HN2 hcl ⊢
              go_wp2_with fail
              go_roundw
              case rel => exact ⟨j + 1, by omega, by go_num, by rw [HN2.out]; go_num, hbi⟩
              case measure => simp [intOf] <;> omega
      · obtain rfl : m = 8 := by omega
        rw [H8.out]
        go_wp2_with fail
        go_ret
        exact ⟨rfl, bel_c HBG.out (Nat.le_refl _) hbel.out⟩
  · rw [forms_no hb]
    have HB := Lib.hid hb
    clear hb
    go_enter Tryd.func21, Tryd.ntmps21
    go_wp2_with fail
    rw [← hG]
    clear hG
    go_loopw [3, 4] (fun q i wr => i = .int .i64 0 ∧ q = .int .i64 0 ∧ Hid (Below G.heap.size G wr)) (fun _ _ _ => 0)
    case atStart => exact ⟨rfl, rfl, Lib.hid (Below.refl _ _)⟩
    case round =>
      obtain ⟨rfl, rfl, hbel⟩ := hrel
      obtain ⟨p0, p1⟩ := HP.out _ hbel.out
      go_wp2_with fail
      refine (SpecBlockOk_no lo hi n _ xs _ (HC.out _ hbel.out).1 (HC.out _ hbel.out).2 HB.out).mono ?_
      rintro e w1 ⟨rfl, hb1⟩
      go_wp2_with fail
      go_ret
      exact ⟨rfl, bel_c (bel_c HBG.out (Nat.le_refl _) hbel.out) (Nat.le_refl _) hb1⟩

end Go.Proofs.YtfidnhhlcdbaeaaDoor
