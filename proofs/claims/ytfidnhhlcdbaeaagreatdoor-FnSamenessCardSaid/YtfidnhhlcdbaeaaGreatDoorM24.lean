/- Sameness: the program's AreSame and ArePatternsSame. Sameness: the program's CountForms; with it all of chapter 7. Sameness: the numbers of the law. Pure. -/
import Derived.Test.YtfidnhhlcdbaeaaGreatDoorM23
import Derived.Test.YtfidnhhlcdbaeaaGreatDoorM22
import Derived.Test.YtfidnhhlcdbaeaaGreatDoorM08
import Derived.Deep.DeepCutAuto
import Derived.Deep.RegionHeld3
import Derived.Test.YtfidnhhlcdbaeaaGreatDoorM21

namespace Go.Proofs.YtfidnhhlcdbaeaaGreatDoor
open Go.ChangeShapes Go.WideShapes Go.ChangeAt Go.RowKit

theorem ImplOkY (lo hi : Nat) (n : Int) (v : Value) (xs : List C3) (b : Bool) (u : World) (r : CellIn lo hi u v xs) (h : hi ≤ u.heap.size) (e : blkB n xs = b) :
    Calls Tryz.prog 32 #[.agg #[.int .i64 n, v]] u fun e w' => e = .returned (.bool b) ∧ Below u.heap.size u w' := by
  have := ImplBlockOk_any lo hi n v xs u r h
  rw [e] at this
  exact this
theorem ImplSameY (l1 h1 l2 h2 : Nat) (n m : Int) (v1 v2 : Value) (xs ys : List C3) (b : Bool) (u : World) (r1 : CellIn l1 h1 u v1 xs) (r2 : CellIn l2 h2 u v2 ys) (hh1 : h1 ≤ u.heap.size) (hh2 : h2 ≤ u.heap.size) (e : sameB n m xs ys = b) :
    Calls Tryz.prog 13 #[.agg #[.int .i64 n, v1], .agg #[.int .i64 m, v2]] u fun e w' => e = .returned (.bool b) ∧ Below u.heap.size u w' := by
  have := ImplSame_any l1 h1 l2 h2 n m v1 v2 xs ys u r1 r2 hh1 hh2
  rw [e] at this
  exact this
theorem ImplLeastFormY (lo hi : Nat) (n : Int) (v : Value) (xs ys : List C3) (u : World) (r : CellIn lo hi u v xs) (h : hi ≤ u.heap.size) (hb : BlkOk n xs) (e : lfL n xs = ys) :
    Calls Tryz.prog 8 #[.agg #[.int .i64 n, v]] u (FreshB n ys u) := by
  have := ImplLeastForm_any lo hi n v xs u r h
  rw [(turnB_yes hb).1, (sam_yes hb).2.1, e] at this
  exact this
theorem ImplLeastPatternY (lo hi : Nat) (n : Int) (v : Value) (xs ys : List C3) (u : World) (r : CellIn lo hi u v xs) (h : hi ≤ u.heap.size) (hb : BlkOk n xs) (e : lpL n xs = ys) :
    Calls Tryz.prog 9 #[.agg #[.int .i64 n, v]] u (FreshB n ys u) := by
  have := ImplLeastPattern_any lo hi n v xs u r h
  rw [(turnB_yes hb).1, (sam_yes hb).2.2, e] at this
  exact this
set_option maxRecDepth 100000 in
set_option maxHeartbeats 8000000 in
theorem HaveAreSame_any (lo hi lo2 hi2 : Nat) (n m : Int) (v v2 : Value) (xs ys : List C3) (w : World) (r : CellIn lo hi w v xs) (hhi : hi ≤ w.heap.size) (r2 : CellIn lo2 hi2 w v2 ys) (hhi2 : hi2 ≤ w.heap.size) :
    Calls Tryz.prog 36 #[.func (.func 8) #[] #[], .agg #[.int .i64 n, v], .agg #[.int .i64 m, v2]] w fun e w' => e = .returned (.bool (areF n m xs ys)) ∧ Below w.heap.size w w' := by
  obtain ⟨a, cap, rfl⟩ := r.form
  obtain ⟨a2, cap2, rfl⟩ := r2.form
  have HR := Lib.hid (fun W (hb : Below w.heap.size w W) => r.below (hb.mono hhi))
  have HR2 := Lib.hid (fun W (hb : Below w.heap.size w W) => r2.below (hb.mono hhi2))
  clear r r2
  obtain ⟨G, hG⟩ : ∃ G, G = (w.alloc (.cells #[.int .i64 n, .slice a xs.length cap] 26)).alloc (.cells #[.int .i64 m, .slice a2 ys.length cap2] 26) := ⟨_, rfl⟩
  have HBG : Hid (Below w.heap.size w G) := Lib.hid (by rw [hG]; exact bel_n (bel0 _ _) (Nat.le_refl _) _)
  have D0 : Below G.heap.size G G.drew := ⟨rfl, rfl, rfl, Nat.le_refl _, fun _ _ => rfl⟩
  have S0 : G.drew.cell? ⟨w.heap.size, 0, none⟩ = some (.int .i64 n) ∧ G.drew.cell? ⟨w.heap.size, 1, none⟩ = some (.slice a xs.length cap) ∧ G.drew.cell? ⟨w.heap.size + 1, 0, none⟩ = some (.int .i64 m) ∧ G.drew.cell? ⟨w.heap.size + 1, 1, none⟩ = some (.slice a2 ys.length cap2) ∧ Below G.heap.size G G.drew := by
    have e0 : G.cell? ⟨w.heap.size, 0, none⟩ = some (.int .i64 n) := by rw [hG]; go_simp
    have e1 : G.cell? ⟨w.heap.size, 1, none⟩ = some (.slice a xs.length cap) := by rw [hG]; go_simp
    have e2 : G.cell? ⟨w.heap.size + 1, 0, none⟩ = some (.int .i64 m) := by rw [hG]; go_simp
    have e3 : G.cell? ⟨w.heap.size + 1, 1, none⟩ = some (.slice a2 ys.length cap2) := by rw [hG]; go_simp
    exact ⟨kept D0 e0, kept D0 e1, kept D0 e2, kept D0 e3, D0⟩
  have KP : ∀ u v, Below u.heap.size u v → (u.cell? ⟨w.heap.size, 0, none⟩ = some (.int .i64 n) ∧ u.cell? ⟨w.heap.size, 1, none⟩ = some (.slice a xs.length cap) ∧ u.cell? ⟨w.heap.size + 1, 0, none⟩ = some (.int .i64 m) ∧ u.cell? ⟨w.heap.size + 1, 1, none⟩ = some (.slice a2 ys.length cap2) ∧ Below G.heap.size G u) → (v.cell? ⟨w.heap.size, 0, none⟩ = some (.int .i64 n) ∧ v.cell? ⟨w.heap.size, 1, none⟩ = some (.slice a xs.length cap) ∧ v.cell? ⟨w.heap.size + 1, 0, none⟩ = some (.int .i64 m) ∧ v.cell? ⟨w.heap.size + 1, 1, none⟩ = some (.slice a2 ys.length cap2) ∧ Below G.heap.size G v) := fun u v hb h => ⟨kept hb h.1, kept hb h.2.1, kept hb h.2.2.1, kept hb h.2.2.2.1, bel_c h.2.2.2.2 (Nat.le_refl _) hb⟩
  have HW : Hid (∀ u, (u.cell? ⟨w.heap.size, 0, none⟩ = some (.int .i64 n) ∧ u.cell? ⟨w.heap.size, 1, none⟩ = some (.slice a xs.length cap) ∧ u.cell? ⟨w.heap.size + 1, 0, none⟩ = some (.int .i64 m) ∧ u.cell? ⟨w.heap.size + 1, 1, none⟩ = some (.slice a2 ys.length cap2) ∧ Below G.heap.size G u) → Below w.heap.size w u) := Lib.hid (fun u h => bel_c HBG.out (Nat.le_refl _) h.2.2.2.2)
  have HC1 : Hid (∀ u, (u.cell? ⟨w.heap.size, 0, none⟩ = some (.int .i64 n) ∧ u.cell? ⟨w.heap.size, 1, none⟩ = some (.slice a xs.length cap) ∧ u.cell? ⟨w.heap.size + 1, 0, none⟩ = some (.int .i64 m) ∧ u.cell? ⟨w.heap.size + 1, 1, none⟩ = some (.slice a2 ys.length cap2) ∧ Below G.heap.size G u) → CellIn lo hi u (.slice a xs.length cap) xs ∧ hi ≤ u.heap.size) := Lib.hid (fun u h => ⟨HR.out _ (HW.out _ h), Nat.le_trans hhi (HW.out _ h).size⟩)
  have HC2 : Hid (∀ u, (u.cell? ⟨w.heap.size, 0, none⟩ = some (.int .i64 n) ∧ u.cell? ⟨w.heap.size, 1, none⟩ = some (.slice a xs.length cap) ∧ u.cell? ⟨w.heap.size + 1, 0, none⟩ = some (.int .i64 m) ∧ u.cell? ⟨w.heap.size + 1, 1, none⟩ = some (.slice a2 ys.length cap2) ∧ Below G.heap.size G u) → CellIn lo2 hi2 u (.slice a2 ys.length cap2) ys ∧ hi2 ≤ u.heap.size) := Lib.hid (fun u h => ⟨HR2.out _ (HW.out _ h), Nat.le_trans hhi2 (HW.out _ h).size⟩)
  by_cases h1 : BlkOk n xs
  · have K1 := Lib.hid (fun (u : World) (h : u.cell? ⟨w.heap.size, 0, none⟩ = some (.int .i64 n) ∧ u.cell? ⟨w.heap.size, 1, none⟩ = some (.slice a xs.length cap) ∧ u.cell? ⟨w.heap.size + 1, 0, none⟩ = some (.int .i64 m) ∧ u.cell? ⟨w.heap.size + 1, 1, none⟩ = some (.slice a2 ys.length cap2) ∧ Below G.heap.size G u) => ImplOkY lo hi n _ xs true u (HC1.out u h).1 (HC1.out u h).2 (blk_yes h1).symm)
    by_cases h2 : BlkOk m ys
    · have K2 := Lib.hid (fun (u : World) (h : u.cell? ⟨w.heap.size, 0, none⟩ = some (.int .i64 n) ∧ u.cell? ⟨w.heap.size, 1, none⟩ = some (.slice a xs.length cap) ∧ u.cell? ⟨w.heap.size + 1, 0, none⟩ = some (.int .i64 m) ∧ u.cell? ⟨w.heap.size + 1, 1, none⟩ = some (.slice a2 ys.length cap2) ∧ Below G.heap.size G u) => ImplOkY lo2 hi2 m _ ys true u (HC2.out u h).1 (HC2.out u h).2 (blk_yes h2).symm)
      obtain ⟨fs, hfs⟩ : ∃ fs, lfL n xs = fs := ⟨_, rfl⟩
      obtain ⟨gs, hgs⟩ : ∃ gs, lfL m ys = gs := ⟨_, rfl⟩
      have L1 := Lib.hid (fun (u : World) (h : u.cell? ⟨w.heap.size, 0, none⟩ = some (.int .i64 n) ∧ u.cell? ⟨w.heap.size, 1, none⟩ = some (.slice a xs.length cap) ∧ u.cell? ⟨w.heap.size + 1, 0, none⟩ = some (.int .i64 m) ∧ u.cell? ⟨w.heap.size + 1, 1, none⟩ = some (.slice a2 ys.length cap2) ∧ Below G.heap.size G u) => ImplLeastFormY lo hi n _ xs fs u (HC1.out u h).1 (HC1.out u h).2 h1 hfs)
      have L2 := Lib.hid (fun (u : World) (h : u.cell? ⟨w.heap.size, 0, none⟩ = some (.int .i64 n) ∧ u.cell? ⟨w.heap.size, 1, none⟩ = some (.slice a xs.length cap) ∧ u.cell? ⟨w.heap.size + 1, 0, none⟩ = some (.int .i64 m) ∧ u.cell? ⟨w.heap.size + 1, 1, none⟩ = some (.slice a2 ys.length cap2) ∧ Below G.heap.size G u) => ImplLeastFormY lo2 hi2 m _ ys gs u (HC2.out u h).1 (HC2.out u h).2 h2 hgs)
      obtain ⟨b, hb⟩ : ∃ b, sameB n m fs gs = b := ⟨_, rfl⟩
      have hans : areF n m xs ys = b := by unfold areF; rw [← blk_yes h1, ← blk_yes h2, hfs, hgs, hb]; rfl
      have HSB := Lib.hid hb
      rw [hans]
      clear hans hfs hgs hb h1 h2 HC1 HC2
      go_enter Tryz.func36, Tryz.ntmps36
      go_upto_region 1 with fail
      rw [← hG]
      clear hG
      go_region_held3 (fun w' => w'.cell? ⟨w.heap.size, 0, none⟩ = some (.int .i64 n) ∧ w'.cell? ⟨w.heap.size, 1, none⟩ = some (.slice a xs.length cap) ∧ w'.cell? ⟨w.heap.size + 1, 0, none⟩ = some (.int .i64 m) ∧ w'.cell? ⟨w.heap.size + 1, 1, none⟩ = some (.slice a2 ys.length cap2) ∧ Below G.heap.size G w') (first | assumption | (refine KP _ _ (by assumption) ?_; assumption))
        ((first
          | (go_at_call 32; refine (args_eq (K1.out _ (by assumption)) (by with_reducible rfl)).mono ?_; rintro e y ⟨rfl, hb⟩)
          | (go_at_call 32; refine (args_eq (K2.out _ (by assumption)) (by with_reducible rfl)).mono ?_; rintro e y ⟨rfl, hb⟩)
          | (go_at_call 8; refine (args_eq (L1.out _ (by assumption)) (by with_reducible rfl)).mono ?_; rintro e yA ⟨vA, rfl, RA, hbA⟩; obtain ⟨aA, cA, rfl⟩ := RA.form; have HRA := Lib.hid (fun v (hv : Below yA.heap.size yA v) => RA.below (hv.mono (Nat.le_refl _))); clear RA)
          | (go_at_call 8; refine (args_eq (L2.out _ (by assumption)) (by with_reducible rfl)).mono ?_; rintro e yB ⟨vB, rfl, RB, hbB⟩; obtain ⟨aB, cB, rfl⟩ := RB.form; have HRB := Lib.hid (fun v (hv : Below yB.heap.size yB v) => RB.below (hv.mono (Nat.le_refl _))); clear RB)
          | (go_at_call 13; refine (args_eq (ImplSameY _ _ _ _ n m _ _ fs gs b yB (HRA.out _ hbB) (HRB.out _ (Below.refl _ _)) hbB.size (Nat.le_refl _) HSB.out) (by with_reducible rfl)).mono ?_; rintro e y ⟨rfl, hb⟩)
          | (go_at_call 13; refine (args_eq (ImplSameY _ _ _ _ n m _ _ fs gs b yA (HRA.out _ (Below.refl _ _)) (HRB.out _ hbA) (Nat.le_refl _) hbA.size HSB.out) (by with_reducible rfl)).mono ?_; rintro e y ⟨rfl, hb⟩)))
      all_goals
        have HY := HW.out y (by assumption)
        go_wp2_with fail
        go_ret
        exact ⟨rfl, HY⟩
    · have K2 := Lib.hid (fun (u : World) (h : u.cell? ⟨w.heap.size, 0, none⟩ = some (.int .i64 n) ∧ u.cell? ⟨w.heap.size, 1, none⟩ = some (.slice a xs.length cap) ∧ u.cell? ⟨w.heap.size + 1, 0, none⟩ = some (.int .i64 m) ∧ u.cell? ⟨w.heap.size + 1, 1, none⟩ = some (.slice a2 ys.length cap2) ∧ Below G.heap.size G u) => ImplOkY lo2 hi2 m _ ys false u (HC2.out u h).1 (HC2.out u h).2 (blk_no h2).symm)
      have hans : areF n m xs ys = false := by unfold areF; rw [← blk_yes h1, ← blk_no h2]; rfl
      rw [hans]
      clear hans h1 h2 HC1 HC2
      go_enter Tryz.func36, Tryz.ntmps36
      go_upto_region 1 with fail
      rw [← hG]
      clear hG
      try simp only [List.append_eq, List.cons_append, List.nil_append]
      have hS : G.drew.cell? ⟨w.heap.size, 0, none⟩ = some (.int .i64 n) ∧ G.drew.cell? ⟨w.heap.size, 1, none⟩ = some (.slice a xs.length cap) ∧ G.drew.cell? ⟨w.heap.size + 1, 0, none⟩ = some (.int .i64 m) ∧ G.drew.cell? ⟨w.heap.size + 1, 1, none⟩ = some (.slice a2 ys.length cap2) ∧ Below G.heap.size G G.drew := S0
      refine reg_begin (fun w' => w'.cell? ⟨w.heap.size, 0, none⟩ = some (.int .i64 n) ∧ w'.cell? ⟨w.heap.size, 1, none⟩ = some (.slice a xs.length cap) ∧ w'.cell? ⟨w.heap.size + 1, 0, none⟩ = some (.int .i64 m) ∧ w'.cell? ⟨w.heap.size + 1, 1, none⟩ = some (.slice a2 ys.length cap2) ∧ Below G.heap.size G w') (by kernel_rfl) hS ?_
      refine reg_take 0 (v := ?_) rfl (by kernel_rfl) (by kernel_rfl) (by kernel_rfl) (fun _ _ _ h => h) (by rfl) (by intro w hSw; (try dsimp only at hSw); go_simp; first | done | with_reducible rfl) hS ?_
      simp only [Act.put, List.setIfInBounds_toArray, List.set_cons_zero, List.set_cons_succ]
      refine reg_call 1 rfl (by kernel_rfl) (by rfl) (fun K hK => ?_)
      go_simp
      go_at_call 32
      refine (args_eq (K1.out _ hS) (by with_reducible rfl)).mono ?_
      rintro e y ⟨rfl, hb⟩
      refine hK.out _ _ (KP _ _ hb hS) (fun hS' => ?_)
      clear hK K
      replace hS := hS'
      clear hS'
      try simp only [Act.put, List.setIfInBounds_toArray, List.set_cons_zero, List.set_cons_succ]
      refine reg_take 2 (v := ?_) rfl (by kernel_rfl) (by kernel_rfl) (by kernel_rfl) (fun _ _ _ h => h) (by rfl) (by intro w hSw; (try dsimp only at hSw); go_simp; first | done | with_reducible rfl) hS ?_
      simp only [Act.put, List.setIfInBounds_toArray, List.set_cons_zero, List.set_cons_succ]
      refine reg_take 3 (v := ?_) rfl (by kernel_rfl) (by kernel_rfl) (by kernel_rfl) (fun _ _ _ h => h) (by rfl) (by intro w hSw; (try dsimp only at hSw); go_simp; first | done | with_reducible rfl) hS ?_
      simp only [Act.put, List.setIfInBounds_toArray, List.set_cons_zero, List.set_cons_succ]
      refine reg_call 4 rfl (by kernel_rfl) (by rfl) (fun K hK => ?_)
      go_simp
      go_at_call 32
      refine (args_eq (K2.out _ hS) (by with_reducible rfl)).mono ?_
      rintro e y ⟨rfl, hb⟩
      refine hK.out _ _ (KP _ _ hb hS) (fun hS' => ?_)
      clear hK K
      replace hS := hS'
      clear hS'
      try simp only [Act.put, List.setIfInBounds_toArray, List.set_cons_zero, List.set_cons_succ]
      refine reg_take 5 (v := ?_) rfl (by kernel_rfl) (by kernel_rfl) (by kernel_rfl) (fun _ _ _ h => h) (by rfl) (by intro w hSw; (try dsimp only at hSw); go_simp; first | done | with_reducible rfl) hS ?_
      simp only [Act.put, List.setIfInBounds_toArray, List.set_cons_zero, List.set_cons_succ]
      refine reg_take 6 (v := ?_) rfl (by kernel_rfl) (by kernel_rfl) (by kernel_rfl) (fun _ _ _ h => h) (by rfl) (by intro w hSw; (try dsimp only at hSw); go_simp; first | done | with_reducible rfl) hS ?_
      simp only [Act.put, List.setIfInBounds_toArray, List.set_cons_zero, List.set_cons_succ]
      refine reg_skip 7 rfl (by kernel_rfl) (by kernel_rfl) (by kernel_rfl) (fun _ _ _ h => h) (by rfl) hS ?_
      simp only [Act.put, List.setIfInBounds_toArray, List.set_cons_zero, List.set_cons_succ]
      refine reg_skip 8 rfl (by kernel_rfl) (by kernel_rfl) (by kernel_rfl) (fun _ _ _ h => h) (by rfl) hS ?_
      simp only [Act.put, List.setIfInBounds_toArray, List.set_cons_zero, List.set_cons_succ]
      refine reg_skip 9 rfl (by kernel_rfl) (by kernel_rfl) (by kernel_rfl) (fun _ _ _ h => h) (by rfl) hS ?_
      simp only [Act.put, List.setIfInBounds_toArray, List.set_cons_zero, List.set_cons_succ]
      refine reg_skip 10 rfl (by kernel_rfl) (by kernel_rfl) (by kernel_rfl) (fun _ _ _ h => h) (by rfl) hS ?_
      simp only [Act.put, List.setIfInBounds_toArray, List.set_cons_zero, List.set_cons_succ]
      refine reg_skip 11 rfl (by kernel_rfl) (by kernel_rfl) (by kernel_rfl) (fun _ _ _ h => h) (by rfl) hS ?_
      simp only [Act.put, List.setIfInBounds_toArray, List.set_cons_zero, List.set_cons_succ]
      refine reg_skip 12 rfl (by kernel_rfl) (by kernel_rfl) (by kernel_rfl) (fun _ _ _ h => h) (by rfl) hS ?_
      simp only [Act.put, List.setIfInBounds_toArray, List.set_cons_zero, List.set_cons_succ]
      refine reg_skip 13 rfl (by kernel_rfl) (by kernel_rfl) (by kernel_rfl) (fun _ _ _ h => h) (by rfl) hS ?_
      simp only [Act.put, List.setIfInBounds_toArray, List.set_cons_zero, List.set_cons_succ]
      refine reg_take 14 (v := ?_) rfl (by kernel_rfl) (by kernel_rfl) (by kernel_rfl) (fun _ _ _ h => h) (by rfl) (by intro w hSw; (try dsimp only at hSw); go_simp; first | done | with_reducible rfl) hS ?_
      simp only [Act.put, List.setIfInBounds_toArray, List.set_cons_zero, List.set_cons_succ]
      refine reg_take 15 (v := ?_) rfl (by kernel_rfl) (by kernel_rfl) (by kernel_rfl) (fun _ _ _ h => h) (by rfl) (by intro w hSw; (try dsimp only at hSw); go_simp; first | done | with_reducible rfl) hS ?_
      simp only [Act.put, List.setIfInBounds_toArray, List.set_cons_zero, List.set_cons_succ]
      refine wpAnyH_done (by kernel_rfl) ?_ _
      all_goals
        have HY := HW.out y hS
        go_wp2_with fail
        go_ret
        exact ⟨rfl, HY⟩
  · have K1 := Lib.hid (fun (u : World) (h : u.cell? ⟨w.heap.size, 0, none⟩ = some (.int .i64 n) ∧ u.cell? ⟨w.heap.size, 1, none⟩ = some (.slice a xs.length cap) ∧ u.cell? ⟨w.heap.size + 1, 0, none⟩ = some (.int .i64 m) ∧ u.cell? ⟨w.heap.size + 1, 1, none⟩ = some (.slice a2 ys.length cap2) ∧ Below G.heap.size G u) => ImplOkY lo hi n _ xs false u (HC1.out u h).1 (HC1.out u h).2 (blk_no h1).symm)
    have hans : areF n m xs ys = false := by unfold areF; rw [← blk_no h1]; rfl
    rw [hans]
    clear hans h1 HC1 HC2
    go_enter Tryz.func36, Tryz.ntmps36
    go_upto_region 1 with fail
    rw [← hG]
    clear hG
    try simp only [List.append_eq, List.cons_append, List.nil_append]
    have hS : G.drew.cell? ⟨w.heap.size, 0, none⟩ = some (.int .i64 n) ∧ G.drew.cell? ⟨w.heap.size, 1, none⟩ = some (.slice a xs.length cap) ∧ G.drew.cell? ⟨w.heap.size + 1, 0, none⟩ = some (.int .i64 m) ∧ G.drew.cell? ⟨w.heap.size + 1, 1, none⟩ = some (.slice a2 ys.length cap2) ∧ Below G.heap.size G G.drew := S0
    refine reg_begin (fun w' => w'.cell? ⟨w.heap.size, 0, none⟩ = some (.int .i64 n) ∧ w'.cell? ⟨w.heap.size, 1, none⟩ = some (.slice a xs.length cap) ∧ w'.cell? ⟨w.heap.size + 1, 0, none⟩ = some (.int .i64 m) ∧ w'.cell? ⟨w.heap.size + 1, 1, none⟩ = some (.slice a2 ys.length cap2) ∧ Below G.heap.size G w') (by kernel_rfl) hS ?_
    refine reg_take 0 (v := ?_) rfl (by kernel_rfl) (by kernel_rfl) (by kernel_rfl) (fun _ _ _ h => h) (by rfl) (by intro w hSw; (try dsimp only at hSw); go_simp; first | done | with_reducible rfl) hS ?_
    simp only [Act.put, List.setIfInBounds_toArray, List.set_cons_zero, List.set_cons_succ]
    refine reg_call 1 rfl (by kernel_rfl) (by rfl) (fun K hK => ?_)
    go_simp
    go_at_call 32
    refine (args_eq (K1.out _ hS) (by with_reducible rfl)).mono ?_
    rintro e y ⟨rfl, hb⟩
    refine hK.out _ _ (KP _ _ hb hS) (fun hS' => ?_)
    clear hK K
    replace hS := hS'
    clear hS'
    try simp only [Act.put, List.setIfInBounds_toArray, List.set_cons_zero, List.set_cons_succ]
    refine reg_take 2 (v := ?_) rfl (by kernel_rfl) (by kernel_rfl) (by kernel_rfl) (fun _ _ _ h => h) (by rfl) (by intro w hSw; (try dsimp only at hSw); go_simp; first | done | with_reducible rfl) hS ?_
    simp only [Act.put, List.setIfInBounds_toArray, List.set_cons_zero, List.set_cons_succ]
    refine reg_skip 3 rfl (by kernel_rfl) (by kernel_rfl) (by kernel_rfl) (fun _ _ _ h => h) (by rfl) hS ?_
    simp only [Act.put, List.setIfInBounds_toArray, List.set_cons_zero, List.set_cons_succ]
    refine reg_skip 4 rfl (by kernel_rfl) (by kernel_rfl) (by kernel_rfl) (fun _ _ _ h => h) (by rfl) hS ?_
    simp only [Act.put, List.setIfInBounds_toArray, List.set_cons_zero, List.set_cons_succ]
    refine reg_take 5 (v := ?_) rfl (by kernel_rfl) (by kernel_rfl) (by kernel_rfl) (fun _ _ _ h => h) (by rfl) (by intro w hSw; (try dsimp only at hSw); go_simp; first | done | with_reducible rfl) hS ?_
    simp only [Act.put, List.setIfInBounds_toArray, List.set_cons_zero, List.set_cons_succ]
    refine reg_take 6 (v := ?_) rfl (by kernel_rfl) (by kernel_rfl) (by kernel_rfl) (fun _ _ _ h => h) (by rfl) (by intro w hSw; (try dsimp only at hSw); go_simp; first | done | with_reducible rfl) hS ?_
    simp only [Act.put, List.setIfInBounds_toArray, List.set_cons_zero, List.set_cons_succ]
    refine reg_skip 7 rfl (by kernel_rfl) (by kernel_rfl) (by kernel_rfl) (fun _ _ _ h => h) (by rfl) hS ?_
    simp only [Act.put, List.setIfInBounds_toArray, List.set_cons_zero, List.set_cons_succ]
    refine reg_skip 8 rfl (by kernel_rfl) (by kernel_rfl) (by kernel_rfl) (fun _ _ _ h => h) (by rfl) hS ?_
    simp only [Act.put, List.setIfInBounds_toArray, List.set_cons_zero, List.set_cons_succ]
    refine reg_skip 9 rfl (by kernel_rfl) (by kernel_rfl) (by kernel_rfl) (fun _ _ _ h => h) (by rfl) hS ?_
    simp only [Act.put, List.setIfInBounds_toArray, List.set_cons_zero, List.set_cons_succ]
    refine reg_skip 10 rfl (by kernel_rfl) (by kernel_rfl) (by kernel_rfl) (fun _ _ _ h => h) (by rfl) hS ?_
    simp only [Act.put, List.setIfInBounds_toArray, List.set_cons_zero, List.set_cons_succ]
    refine reg_skip 11 rfl (by kernel_rfl) (by kernel_rfl) (by kernel_rfl) (fun _ _ _ h => h) (by rfl) hS ?_
    simp only [Act.put, List.setIfInBounds_toArray, List.set_cons_zero, List.set_cons_succ]
    refine reg_skip 12 rfl (by kernel_rfl) (by kernel_rfl) (by kernel_rfl) (fun _ _ _ h => h) (by rfl) hS ?_
    simp only [Act.put, List.setIfInBounds_toArray, List.set_cons_zero, List.set_cons_succ]
    refine reg_skip 13 rfl (by kernel_rfl) (by kernel_rfl) (by kernel_rfl) (fun _ _ _ h => h) (by rfl) hS ?_
    simp only [Act.put, List.setIfInBounds_toArray, List.set_cons_zero, List.set_cons_succ]
    refine reg_take 14 (v := ?_) rfl (by kernel_rfl) (by kernel_rfl) (by kernel_rfl) (fun _ _ _ h => h) (by rfl) (by intro w hSw; (try dsimp only at hSw); go_simp; first | done | with_reducible rfl) hS ?_
    simp only [Act.put, List.setIfInBounds_toArray, List.set_cons_zero, List.set_cons_succ]
    refine reg_take 15 (v := ?_) rfl (by kernel_rfl) (by kernel_rfl) (by kernel_rfl) (fun _ _ _ h => h) (by rfl) (by intro w hSw; (try dsimp only at hSw); go_simp; first | done | with_reducible rfl) hS ?_
    simp only [Act.put, List.setIfInBounds_toArray, List.set_cons_zero, List.set_cons_succ]
    refine wpAnyH_done (by kernel_rfl) ?_ _
    all_goals
      have HY := HW.out y hS
      go_wp2_with fail
      go_ret
      exact ⟨rfl, HY⟩
set_option maxRecDepth 100000 in
set_option maxHeartbeats 8000000 in
theorem HaveArePatternsSame_any (lo hi lo2 hi2 : Nat) (n m : Int) (v v2 : Value) (xs ys : List C3) (w : World) (r : CellIn lo hi w v xs) (hhi : hi ≤ w.heap.size) (r2 : CellIn lo2 hi2 w v2 ys) (hhi2 : hi2 ≤ w.heap.size) :
    Calls Tryz.prog 36 #[.func (.func 9) #[] #[], .agg #[.int .i64 n, v], .agg #[.int .i64 m, v2]] w fun e w' => e = .returned (.bool (areP n m xs ys)) ∧ Below w.heap.size w w' := by
  obtain ⟨a, cap, rfl⟩ := r.form
  obtain ⟨a2, cap2, rfl⟩ := r2.form
  have HR := Lib.hid (fun W (hb : Below w.heap.size w W) => r.below (hb.mono hhi))
  have HR2 := Lib.hid (fun W (hb : Below w.heap.size w W) => r2.below (hb.mono hhi2))
  clear r r2
  obtain ⟨G, hG⟩ : ∃ G, G = (w.alloc (.cells #[.int .i64 n, .slice a xs.length cap] 26)).alloc (.cells #[.int .i64 m, .slice a2 ys.length cap2] 26) := ⟨_, rfl⟩
  have HBG : Hid (Below w.heap.size w G) := Lib.hid (by rw [hG]; exact bel_n (bel0 _ _) (Nat.le_refl _) _)
  have D0 : Below G.heap.size G G.drew := ⟨rfl, rfl, rfl, Nat.le_refl _, fun _ _ => rfl⟩
  have S0 : G.drew.cell? ⟨w.heap.size, 0, none⟩ = some (.int .i64 n) ∧ G.drew.cell? ⟨w.heap.size, 1, none⟩ = some (.slice a xs.length cap) ∧ G.drew.cell? ⟨w.heap.size + 1, 0, none⟩ = some (.int .i64 m) ∧ G.drew.cell? ⟨w.heap.size + 1, 1, none⟩ = some (.slice a2 ys.length cap2) ∧ Below G.heap.size G G.drew := by
    have e0 : G.cell? ⟨w.heap.size, 0, none⟩ = some (.int .i64 n) := by rw [hG]; go_simp
    have e1 : G.cell? ⟨w.heap.size, 1, none⟩ = some (.slice a xs.length cap) := by rw [hG]; go_simp
    have e2 : G.cell? ⟨w.heap.size + 1, 0, none⟩ = some (.int .i64 m) := by rw [hG]; go_simp
    have e3 : G.cell? ⟨w.heap.size + 1, 1, none⟩ = some (.slice a2 ys.length cap2) := by rw [hG]; go_simp
    exact ⟨kept D0 e0, kept D0 e1, kept D0 e2, kept D0 e3, D0⟩
  have KP : ∀ u v, Below u.heap.size u v → (u.cell? ⟨w.heap.size, 0, none⟩ = some (.int .i64 n) ∧ u.cell? ⟨w.heap.size, 1, none⟩ = some (.slice a xs.length cap) ∧ u.cell? ⟨w.heap.size + 1, 0, none⟩ = some (.int .i64 m) ∧ u.cell? ⟨w.heap.size + 1, 1, none⟩ = some (.slice a2 ys.length cap2) ∧ Below G.heap.size G u) → (v.cell? ⟨w.heap.size, 0, none⟩ = some (.int .i64 n) ∧ v.cell? ⟨w.heap.size, 1, none⟩ = some (.slice a xs.length cap) ∧ v.cell? ⟨w.heap.size + 1, 0, none⟩ = some (.int .i64 m) ∧ v.cell? ⟨w.heap.size + 1, 1, none⟩ = some (.slice a2 ys.length cap2) ∧ Below G.heap.size G v) := fun u v hb h => ⟨kept hb h.1, kept hb h.2.1, kept hb h.2.2.1, kept hb h.2.2.2.1, bel_c h.2.2.2.2 (Nat.le_refl _) hb⟩
  have HW : Hid (∀ u, (u.cell? ⟨w.heap.size, 0, none⟩ = some (.int .i64 n) ∧ u.cell? ⟨w.heap.size, 1, none⟩ = some (.slice a xs.length cap) ∧ u.cell? ⟨w.heap.size + 1, 0, none⟩ = some (.int .i64 m) ∧ u.cell? ⟨w.heap.size + 1, 1, none⟩ = some (.slice a2 ys.length cap2) ∧ Below G.heap.size G u) → Below w.heap.size w u) := Lib.hid (fun u h => bel_c HBG.out (Nat.le_refl _) h.2.2.2.2)
  have HC1 : Hid (∀ u, (u.cell? ⟨w.heap.size, 0, none⟩ = some (.int .i64 n) ∧ u.cell? ⟨w.heap.size, 1, none⟩ = some (.slice a xs.length cap) ∧ u.cell? ⟨w.heap.size + 1, 0, none⟩ = some (.int .i64 m) ∧ u.cell? ⟨w.heap.size + 1, 1, none⟩ = some (.slice a2 ys.length cap2) ∧ Below G.heap.size G u) → CellIn lo hi u (.slice a xs.length cap) xs ∧ hi ≤ u.heap.size) := Lib.hid (fun u h => ⟨HR.out _ (HW.out _ h), Nat.le_trans hhi (HW.out _ h).size⟩)
  have HC2 : Hid (∀ u, (u.cell? ⟨w.heap.size, 0, none⟩ = some (.int .i64 n) ∧ u.cell? ⟨w.heap.size, 1, none⟩ = some (.slice a xs.length cap) ∧ u.cell? ⟨w.heap.size + 1, 0, none⟩ = some (.int .i64 m) ∧ u.cell? ⟨w.heap.size + 1, 1, none⟩ = some (.slice a2 ys.length cap2) ∧ Below G.heap.size G u) → CellIn lo2 hi2 u (.slice a2 ys.length cap2) ys ∧ hi2 ≤ u.heap.size) := Lib.hid (fun u h => ⟨HR2.out _ (HW.out _ h), Nat.le_trans hhi2 (HW.out _ h).size⟩)
  by_cases h1 : BlkOk n xs
  · have K1 := Lib.hid (fun (u : World) (h : u.cell? ⟨w.heap.size, 0, none⟩ = some (.int .i64 n) ∧ u.cell? ⟨w.heap.size, 1, none⟩ = some (.slice a xs.length cap) ∧ u.cell? ⟨w.heap.size + 1, 0, none⟩ = some (.int .i64 m) ∧ u.cell? ⟨w.heap.size + 1, 1, none⟩ = some (.slice a2 ys.length cap2) ∧ Below G.heap.size G u) => ImplOkY lo hi n _ xs true u (HC1.out u h).1 (HC1.out u h).2 (blk_yes h1).symm)
    by_cases h2 : BlkOk m ys
    · have K2 := Lib.hid (fun (u : World) (h : u.cell? ⟨w.heap.size, 0, none⟩ = some (.int .i64 n) ∧ u.cell? ⟨w.heap.size, 1, none⟩ = some (.slice a xs.length cap) ∧ u.cell? ⟨w.heap.size + 1, 0, none⟩ = some (.int .i64 m) ∧ u.cell? ⟨w.heap.size + 1, 1, none⟩ = some (.slice a2 ys.length cap2) ∧ Below G.heap.size G u) => ImplOkY lo2 hi2 m _ ys true u (HC2.out u h).1 (HC2.out u h).2 (blk_yes h2).symm)
      obtain ⟨fs, hfs⟩ : ∃ fs, lpL n xs = fs := ⟨_, rfl⟩
      obtain ⟨gs, hgs⟩ : ∃ gs, lpL m ys = gs := ⟨_, rfl⟩
      have L1 := Lib.hid (fun (u : World) (h : u.cell? ⟨w.heap.size, 0, none⟩ = some (.int .i64 n) ∧ u.cell? ⟨w.heap.size, 1, none⟩ = some (.slice a xs.length cap) ∧ u.cell? ⟨w.heap.size + 1, 0, none⟩ = some (.int .i64 m) ∧ u.cell? ⟨w.heap.size + 1, 1, none⟩ = some (.slice a2 ys.length cap2) ∧ Below G.heap.size G u) => ImplLeastPatternY lo hi n _ xs fs u (HC1.out u h).1 (HC1.out u h).2 h1 hfs)
      have L2 := Lib.hid (fun (u : World) (h : u.cell? ⟨w.heap.size, 0, none⟩ = some (.int .i64 n) ∧ u.cell? ⟨w.heap.size, 1, none⟩ = some (.slice a xs.length cap) ∧ u.cell? ⟨w.heap.size + 1, 0, none⟩ = some (.int .i64 m) ∧ u.cell? ⟨w.heap.size + 1, 1, none⟩ = some (.slice a2 ys.length cap2) ∧ Below G.heap.size G u) => ImplLeastPatternY lo2 hi2 m _ ys gs u (HC2.out u h).1 (HC2.out u h).2 h2 hgs)
      obtain ⟨b, hb⟩ : ∃ b, sameB n m fs gs = b := ⟨_, rfl⟩
      have hans : areP n m xs ys = b := by unfold areP; rw [← blk_yes h1, ← blk_yes h2, hfs, hgs, hb]; rfl
      have HSB := Lib.hid hb
      rw [hans]
      clear hans hfs hgs hb h1 h2 HC1 HC2
      go_enter Tryz.func36, Tryz.ntmps36
      go_upto_region 1 with fail
      rw [← hG]
      clear hG
      go_region_held3 (fun w' => w'.cell? ⟨w.heap.size, 0, none⟩ = some (.int .i64 n) ∧ w'.cell? ⟨w.heap.size, 1, none⟩ = some (.slice a xs.length cap) ∧ w'.cell? ⟨w.heap.size + 1, 0, none⟩ = some (.int .i64 m) ∧ w'.cell? ⟨w.heap.size + 1, 1, none⟩ = some (.slice a2 ys.length cap2) ∧ Below G.heap.size G w') (first | assumption | (refine KP _ _ (by assumption) ?_; assumption))
        ((first
          | (go_at_call 32; refine (args_eq (K1.out _ (by assumption)) (by with_reducible rfl)).mono ?_; rintro e y ⟨rfl, hb⟩)
          | (go_at_call 32; refine (args_eq (K2.out _ (by assumption)) (by with_reducible rfl)).mono ?_; rintro e y ⟨rfl, hb⟩)
          | (go_at_call 9; refine (args_eq (L1.out _ (by assumption)) (by with_reducible rfl)).mono ?_; rintro e yA ⟨vA, rfl, RA, hbA⟩; obtain ⟨aA, cA, rfl⟩ := RA.form; have HRA := Lib.hid (fun v (hv : Below yA.heap.size yA v) => RA.below (hv.mono (Nat.le_refl _))); clear RA)
          | (go_at_call 9; refine (args_eq (L2.out _ (by assumption)) (by with_reducible rfl)).mono ?_; rintro e yB ⟨vB, rfl, RB, hbB⟩; obtain ⟨aB, cB, rfl⟩ := RB.form; have HRB := Lib.hid (fun v (hv : Below yB.heap.size yB v) => RB.below (hv.mono (Nat.le_refl _))); clear RB)
          | (go_at_call 13; refine (args_eq (ImplSameY _ _ _ _ n m _ _ fs gs b yB (HRA.out _ hbB) (HRB.out _ (Below.refl _ _)) hbB.size (Nat.le_refl _) HSB.out) (by with_reducible rfl)).mono ?_; rintro e y ⟨rfl, hb⟩)
          | (go_at_call 13; refine (args_eq (ImplSameY _ _ _ _ n m _ _ fs gs b yA (HRA.out _ (Below.refl _ _)) (HRB.out _ hbA) (Nat.le_refl _) hbA.size HSB.out) (by with_reducible rfl)).mono ?_; rintro e y ⟨rfl, hb⟩)))
      all_goals
        have HY := HW.out y (by assumption)
        go_wp2_with fail
        go_ret
        exact ⟨rfl, HY⟩
    · have K2 := Lib.hid (fun (u : World) (h : u.cell? ⟨w.heap.size, 0, none⟩ = some (.int .i64 n) ∧ u.cell? ⟨w.heap.size, 1, none⟩ = some (.slice a xs.length cap) ∧ u.cell? ⟨w.heap.size + 1, 0, none⟩ = some (.int .i64 m) ∧ u.cell? ⟨w.heap.size + 1, 1, none⟩ = some (.slice a2 ys.length cap2) ∧ Below G.heap.size G u) => ImplOkY lo2 hi2 m _ ys false u (HC2.out u h).1 (HC2.out u h).2 (blk_no h2).symm)
      have hans : areP n m xs ys = false := by unfold areP; rw [← blk_yes h1, ← blk_no h2]; rfl
      rw [hans]
      clear hans h1 h2 HC1 HC2
      go_enter Tryz.func36, Tryz.ntmps36
      go_upto_region 1 with fail
      rw [← hG]
      clear hG
      try simp only [List.append_eq, List.cons_append, List.nil_append]
      have hS : G.drew.cell? ⟨w.heap.size, 0, none⟩ = some (.int .i64 n) ∧ G.drew.cell? ⟨w.heap.size, 1, none⟩ = some (.slice a xs.length cap) ∧ G.drew.cell? ⟨w.heap.size + 1, 0, none⟩ = some (.int .i64 m) ∧ G.drew.cell? ⟨w.heap.size + 1, 1, none⟩ = some (.slice a2 ys.length cap2) ∧ Below G.heap.size G G.drew := S0
      refine reg_begin (fun w' => w'.cell? ⟨w.heap.size, 0, none⟩ = some (.int .i64 n) ∧ w'.cell? ⟨w.heap.size, 1, none⟩ = some (.slice a xs.length cap) ∧ w'.cell? ⟨w.heap.size + 1, 0, none⟩ = some (.int .i64 m) ∧ w'.cell? ⟨w.heap.size + 1, 1, none⟩ = some (.slice a2 ys.length cap2) ∧ Below G.heap.size G w') (by kernel_rfl) hS ?_
      refine reg_take 0 (v := ?_) rfl (by kernel_rfl) (by kernel_rfl) (by kernel_rfl) (fun _ _ _ h => h) (by rfl) (by intro w hSw; (try dsimp only at hSw); go_simp; first | done | with_reducible rfl) hS ?_
      simp only [Act.put, List.setIfInBounds_toArray, List.set_cons_zero, List.set_cons_succ]
      refine reg_call 1 rfl (by kernel_rfl) (by rfl) (fun K hK => ?_)
      go_simp
      go_at_call 32
      refine (args_eq (K1.out _ hS) (by with_reducible rfl)).mono ?_
      rintro e y ⟨rfl, hb⟩
      refine hK.out _ _ (KP _ _ hb hS) (fun hS' => ?_)
      clear hK K
      replace hS := hS'
      clear hS'
      try simp only [Act.put, List.setIfInBounds_toArray, List.set_cons_zero, List.set_cons_succ]
      refine reg_take 2 (v := ?_) rfl (by kernel_rfl) (by kernel_rfl) (by kernel_rfl) (fun _ _ _ h => h) (by rfl) (by intro w hSw; (try dsimp only at hSw); go_simp; first | done | with_reducible rfl) hS ?_
      simp only [Act.put, List.setIfInBounds_toArray, List.set_cons_zero, List.set_cons_succ]
      refine reg_take 3 (v := ?_) rfl (by kernel_rfl) (by kernel_rfl) (by kernel_rfl) (fun _ _ _ h => h) (by rfl) (by intro w hSw; (try dsimp only at hSw); go_simp; first | done | with_reducible rfl) hS ?_
      simp only [Act.put, List.setIfInBounds_toArray, List.set_cons_zero, List.set_cons_succ]
      refine reg_call 4 rfl (by kernel_rfl) (by rfl) (fun K hK => ?_)
      go_simp
      go_at_call 32
      refine (args_eq (K2.out _ hS) (by with_reducible rfl)).mono ?_
      rintro e y ⟨rfl, hb⟩
      refine hK.out _ _ (KP _ _ hb hS) (fun hS' => ?_)
      clear hK K
      replace hS := hS'
      clear hS'
      try simp only [Act.put, List.setIfInBounds_toArray, List.set_cons_zero, List.set_cons_succ]
      refine reg_take 5 (v := ?_) rfl (by kernel_rfl) (by kernel_rfl) (by kernel_rfl) (fun _ _ _ h => h) (by rfl) (by intro w hSw; (try dsimp only at hSw); go_simp; first | done | with_reducible rfl) hS ?_
      simp only [Act.put, List.setIfInBounds_toArray, List.set_cons_zero, List.set_cons_succ]
      refine reg_take 6 (v := ?_) rfl (by kernel_rfl) (by kernel_rfl) (by kernel_rfl) (fun _ _ _ h => h) (by rfl) (by intro w hSw; (try dsimp only at hSw); go_simp; first | done | with_reducible rfl) hS ?_
      simp only [Act.put, List.setIfInBounds_toArray, List.set_cons_zero, List.set_cons_succ]
      refine reg_skip 7 rfl (by kernel_rfl) (by kernel_rfl) (by kernel_rfl) (fun _ _ _ h => h) (by rfl) hS ?_
      simp only [Act.put, List.setIfInBounds_toArray, List.set_cons_zero, List.set_cons_succ]
      refine reg_skip 8 rfl (by kernel_rfl) (by kernel_rfl) (by kernel_rfl) (fun _ _ _ h => h) (by rfl) hS ?_
      simp only [Act.put, List.setIfInBounds_toArray, List.set_cons_zero, List.set_cons_succ]
      refine reg_skip 9 rfl (by kernel_rfl) (by kernel_rfl) (by kernel_rfl) (fun _ _ _ h => h) (by rfl) hS ?_
      simp only [Act.put, List.setIfInBounds_toArray, List.set_cons_zero, List.set_cons_succ]
      refine reg_skip 10 rfl (by kernel_rfl) (by kernel_rfl) (by kernel_rfl) (fun _ _ _ h => h) (by rfl) hS ?_
      simp only [Act.put, List.setIfInBounds_toArray, List.set_cons_zero, List.set_cons_succ]
      refine reg_skip 11 rfl (by kernel_rfl) (by kernel_rfl) (by kernel_rfl) (fun _ _ _ h => h) (by rfl) hS ?_
      simp only [Act.put, List.setIfInBounds_toArray, List.set_cons_zero, List.set_cons_succ]
      refine reg_skip 12 rfl (by kernel_rfl) (by kernel_rfl) (by kernel_rfl) (fun _ _ _ h => h) (by rfl) hS ?_
      simp only [Act.put, List.setIfInBounds_toArray, List.set_cons_zero, List.set_cons_succ]
      refine reg_skip 13 rfl (by kernel_rfl) (by kernel_rfl) (by kernel_rfl) (fun _ _ _ h => h) (by rfl) hS ?_
      simp only [Act.put, List.setIfInBounds_toArray, List.set_cons_zero, List.set_cons_succ]
      refine reg_take 14 (v := ?_) rfl (by kernel_rfl) (by kernel_rfl) (by kernel_rfl) (fun _ _ _ h => h) (by rfl) (by intro w hSw; (try dsimp only at hSw); go_simp; first | done | with_reducible rfl) hS ?_
      simp only [Act.put, List.setIfInBounds_toArray, List.set_cons_zero, List.set_cons_succ]
      refine reg_take 15 (v := ?_) rfl (by kernel_rfl) (by kernel_rfl) (by kernel_rfl) (fun _ _ _ h => h) (by rfl) (by intro w hSw; (try dsimp only at hSw); go_simp; first | done | with_reducible rfl) hS ?_
      simp only [Act.put, List.setIfInBounds_toArray, List.set_cons_zero, List.set_cons_succ]
      refine wpAnyH_done (by kernel_rfl) ?_ _
      all_goals
        have HY := HW.out y hS
        go_wp2_with fail
        go_ret
        exact ⟨rfl, HY⟩
  · have K1 := Lib.hid (fun (u : World) (h : u.cell? ⟨w.heap.size, 0, none⟩ = some (.int .i64 n) ∧ u.cell? ⟨w.heap.size, 1, none⟩ = some (.slice a xs.length cap) ∧ u.cell? ⟨w.heap.size + 1, 0, none⟩ = some (.int .i64 m) ∧ u.cell? ⟨w.heap.size + 1, 1, none⟩ = some (.slice a2 ys.length cap2) ∧ Below G.heap.size G u) => ImplOkY lo hi n _ xs false u (HC1.out u h).1 (HC1.out u h).2 (blk_no h1).symm)
    have hans : areP n m xs ys = false := by unfold areP; rw [← blk_no h1]; rfl
    rw [hans]
    clear hans h1 HC1 HC2
    go_enter Tryz.func36, Tryz.ntmps36
    go_upto_region 1 with fail
    rw [← hG]
    clear hG
    try simp only [List.append_eq, List.cons_append, List.nil_append]
    have hS : G.drew.cell? ⟨w.heap.size, 0, none⟩ = some (.int .i64 n) ∧ G.drew.cell? ⟨w.heap.size, 1, none⟩ = some (.slice a xs.length cap) ∧ G.drew.cell? ⟨w.heap.size + 1, 0, none⟩ = some (.int .i64 m) ∧ G.drew.cell? ⟨w.heap.size + 1, 1, none⟩ = some (.slice a2 ys.length cap2) ∧ Below G.heap.size G G.drew := S0
    refine reg_begin (fun w' => w'.cell? ⟨w.heap.size, 0, none⟩ = some (.int .i64 n) ∧ w'.cell? ⟨w.heap.size, 1, none⟩ = some (.slice a xs.length cap) ∧ w'.cell? ⟨w.heap.size + 1, 0, none⟩ = some (.int .i64 m) ∧ w'.cell? ⟨w.heap.size + 1, 1, none⟩ = some (.slice a2 ys.length cap2) ∧ Below G.heap.size G w') (by kernel_rfl) hS ?_
    refine reg_take 0 (v := ?_) rfl (by kernel_rfl) (by kernel_rfl) (by kernel_rfl) (fun _ _ _ h => h) (by rfl) (by intro w hSw; (try dsimp only at hSw); go_simp; first | done | with_reducible rfl) hS ?_
    simp only [Act.put, List.setIfInBounds_toArray, List.set_cons_zero, List.set_cons_succ]
    refine reg_call 1 rfl (by kernel_rfl) (by rfl) (fun K hK => ?_)
    go_simp
    go_at_call 32
    refine (args_eq (K1.out _ hS) (by with_reducible rfl)).mono ?_
    rintro e y ⟨rfl, hb⟩
    refine hK.out _ _ (KP _ _ hb hS) (fun hS' => ?_)
    clear hK K
    replace hS := hS'
    clear hS'
    try simp only [Act.put, List.setIfInBounds_toArray, List.set_cons_zero, List.set_cons_succ]
    refine reg_take 2 (v := ?_) rfl (by kernel_rfl) (by kernel_rfl) (by kernel_rfl) (fun _ _ _ h => h) (by rfl) (by intro w hSw; (try dsimp only at hSw); go_simp; first | done | with_reducible rfl) hS ?_
    simp only [Act.put, List.setIfInBounds_toArray, List.set_cons_zero, List.set_cons_succ]
    refine reg_skip 3 rfl (by kernel_rfl) (by kernel_rfl) (by kernel_rfl) (fun _ _ _ h => h) (by rfl) hS ?_
    simp only [Act.put, List.setIfInBounds_toArray, List.set_cons_zero, List.set_cons_succ]
    refine reg_skip 4 rfl (by kernel_rfl) (by kernel_rfl) (by kernel_rfl) (fun _ _ _ h => h) (by rfl) hS ?_
    simp only [Act.put, List.setIfInBounds_toArray, List.set_cons_zero, List.set_cons_succ]
    refine reg_take 5 (v := ?_) rfl (by kernel_rfl) (by kernel_rfl) (by kernel_rfl) (fun _ _ _ h => h) (by rfl) (by intro w hSw; (try dsimp only at hSw); go_simp; first | done | with_reducible rfl) hS ?_
    simp only [Act.put, List.setIfInBounds_toArray, List.set_cons_zero, List.set_cons_succ]
    refine reg_take 6 (v := ?_) rfl (by kernel_rfl) (by kernel_rfl) (by kernel_rfl) (fun _ _ _ h => h) (by rfl) (by intro w hSw; (try dsimp only at hSw); go_simp; first | done | with_reducible rfl) hS ?_
    simp only [Act.put, List.setIfInBounds_toArray, List.set_cons_zero, List.set_cons_succ]
    refine reg_skip 7 rfl (by kernel_rfl) (by kernel_rfl) (by kernel_rfl) (fun _ _ _ h => h) (by rfl) hS ?_
    simp only [Act.put, List.setIfInBounds_toArray, List.set_cons_zero, List.set_cons_succ]
    refine reg_skip 8 rfl (by kernel_rfl) (by kernel_rfl) (by kernel_rfl) (fun _ _ _ h => h) (by rfl) hS ?_
    simp only [Act.put, List.setIfInBounds_toArray, List.set_cons_zero, List.set_cons_succ]
    refine reg_skip 9 rfl (by kernel_rfl) (by kernel_rfl) (by kernel_rfl) (fun _ _ _ h => h) (by rfl) hS ?_
    simp only [Act.put, List.setIfInBounds_toArray, List.set_cons_zero, List.set_cons_succ]
    refine reg_skip 10 rfl (by kernel_rfl) (by kernel_rfl) (by kernel_rfl) (fun _ _ _ h => h) (by rfl) hS ?_
    simp only [Act.put, List.setIfInBounds_toArray, List.set_cons_zero, List.set_cons_succ]
    refine reg_skip 11 rfl (by kernel_rfl) (by kernel_rfl) (by kernel_rfl) (fun _ _ _ h => h) (by rfl) hS ?_
    simp only [Act.put, List.setIfInBounds_toArray, List.set_cons_zero, List.set_cons_succ]
    refine reg_skip 12 rfl (by kernel_rfl) (by kernel_rfl) (by kernel_rfl) (fun _ _ _ h => h) (by rfl) hS ?_
    simp only [Act.put, List.setIfInBounds_toArray, List.set_cons_zero, List.set_cons_succ]
    refine reg_skip 13 rfl (by kernel_rfl) (by kernel_rfl) (by kernel_rfl) (fun _ _ _ h => h) (by rfl) hS ?_
    simp only [Act.put, List.setIfInBounds_toArray, List.set_cons_zero, List.set_cons_succ]
    refine reg_take 14 (v := ?_) rfl (by kernel_rfl) (by kernel_rfl) (by kernel_rfl) (fun _ _ _ h => h) (by rfl) (by intro w hSw; (try dsimp only at hSw); go_simp; first | done | with_reducible rfl) hS ?_
    simp only [Act.put, List.setIfInBounds_toArray, List.set_cons_zero, List.set_cons_succ]
    refine reg_take 15 (v := ?_) rfl (by kernel_rfl) (by kernel_rfl) (by kernel_rfl) (fun _ _ _ h => h) (by rfl) (by intro w hSw; (try dsimp only at hSw); go_simp; first | done | with_reducible rfl) hS ?_
    simp only [Act.put, List.setIfInBounds_toArray, List.set_cons_zero, List.set_cons_succ]
    refine wpAnyH_done (by kernel_rfl) ?_ _
    all_goals
      have HY := HW.out y hS
      go_wp2_with fail
      go_ret
      exact ⟨rfl, HY⟩

theorem ImplAreSame_any (lo hi lo2 hi2 : Nat) (n m : Int) (v v2 : Value) (xs ys : List C3) (w : World) (r : CellIn lo hi w v xs) (hhi : hi ≤ w.heap.size) (r2 : CellIn lo2 hi2 w v2 ys) (hhi2 : hi2 ≤ w.heap.size) :
    Calls Tryz.prog 14 #[.agg #[.int .i64 n, v], .agg #[.int .i64 m, v2]] w fun e w' => e = .returned (.bool (areF n m xs ys)) ∧ Below w.heap.size w w' := by
  obtain ⟨a, cap, rfl⟩ := r.form
  obtain ⟨a2, cap2, rfl⟩ := r2.form
  have CV := Lib.hid (HaveAreSame_any lo hi lo2 hi2 n m _ _ xs ys ((w.alloc (.cells #[.int .i64 n, .slice a xs.length cap] 26)).alloc (.cells #[.int .i64 m, .slice a2 ys.length cap2] 26)) (r.below ((bel_n (bel0 w _) (Nat.le_refl _) _).mono hhi)) (by simp; omega) (r2.below ((bel_n (bel0 w _) (Nat.le_refl _) _).mono hhi2)) (by simp; omega))
  clear r r2
  generalize areF n m xs ys = b at CV ⊢
  go_enter Tryz.func14, Tryz.ntmps14
  go_wp2_with fail
  refine CV.out.mono ?_
  rintro e w3 ⟨rfl, hb3⟩
  have HB := Lib.hid (bel_c (bel_n (bel0 w (.cells #[.int .i64 n, .slice a xs.length cap] 26)) (Nat.le_refl _) (.cells #[.int .i64 m, .slice a2 ys.length cap2] 26)) (Nat.le_refl _) hb3)
  clear hb3 CV
  go_wp2_with fail
  go_ret
  exact ⟨rfl, HB.out⟩
theorem ImplArePatternsSame_any (lo hi lo2 hi2 : Nat) (n m : Int) (v v2 : Value) (xs ys : List C3) (w : World) (r : CellIn lo hi w v xs) (hhi : hi ≤ w.heap.size) (r2 : CellIn lo2 hi2 w v2 ys) (hhi2 : hi2 ≤ w.heap.size) :
    Calls Tryz.prog 15 #[.agg #[.int .i64 n, v], .agg #[.int .i64 m, v2]] w fun e w' => e = .returned (.bool (areP n m xs ys)) ∧ Below w.heap.size w w' := by
  obtain ⟨a, cap, rfl⟩ := r.form
  obtain ⟨a2, cap2, rfl⟩ := r2.form
  have CV := Lib.hid (HaveArePatternsSame_any lo hi lo2 hi2 n m _ _ xs ys ((w.alloc (.cells #[.int .i64 n, .slice a xs.length cap] 26)).alloc (.cells #[.int .i64 m, .slice a2 ys.length cap2] 26)) (r.below ((bel_n (bel0 w _) (Nat.le_refl _) _).mono hhi)) (by simp; omega) (r2.below ((bel_n (bel0 w _) (Nat.le_refl _) _).mono hhi2)) (by simp; omega))
  clear r r2
  generalize areP n m xs ys = b at CV ⊢
  go_enter Tryz.func15, Tryz.ntmps15
  go_wp2_with fail
  refine CV.out.mono ?_
  rintro e w3 ⟨rfl, hb3⟩
  have HB := Lib.hid (bel_c (bel_n (bel0 w (.cells #[.int .i64 n, .slice a xs.length cap] 26)) (Nat.le_refl _) (.cells #[.int .i64 m, .slice a2 ys.length cap2] 26)) (Nat.le_refl _) hb3)
  clear hb3 CV
  go_wp2_with fail
  go_ret
  exact ⟨rfl, HB.out⟩

end Go.Proofs.YtfidnhhlcdbaeaaGreatDoor

namespace Go.Proofs.YtfidnhhlcdbaeaaGreatDoor
open Go.ChangeShapes Go.WideShapes Go.ChangeAt Go.RowKit

set_option maxRecDepth 100000 in
set_option maxHeartbeats 4000000 in
theorem ImplCountForms_any (lo hi : Nat) (n : Int) (v : Value) (xs : List C3) (w : World) (r : CellIn lo hi w v xs) (hhi : hi ≤ w.heap.size) : Calls Tryz.prog 12 #[.agg #[.int .i64 n, v]] w fun e w' => e = .returned (.int .i64 (forms n xs)) ∧ Below w.heap.size w w' := by
  obtain ⟨a, cap, rfl⟩ := r.form
  have HR := Lib.hid (fun W (hb : Below w.heap.size w W) => r.below (hb.mono hhi))
  clear r
  by_cases hb : BlkOk n xs
  · have HB := Lib.hid hb
    have HF : Hid (∀ l, Views n (fun k => seeL n k xs) l → (hd (srt 7 l) 8 : Int) = forms n xs) := Lib.hid (fun l hv => forms_hd hb hv)
    have HVV : Hid (turnN n xs = n ∧ fV n xs = fun k => seeL n k xs) := Lib.hid ⟨(turnB_yes hb).1, funext (fun k => fV_yes hb k)⟩
    clear hb
    generalize forms n xs = ans at HF ⊢
    go_enter Tryz.func12, Tryz.ntmps12
    go_wp2_with fail
    refine (ImplBlockOk_yes lo hi n _ xs _ (HR.out _ (bel0 w _)) (by simp; omega) HB.out).mono ?_
    rintro e w1 ⟨rfl, hb1⟩
    have p0 := kept (p := ⟨w.heap.size, 0, none⟩) (x := .int .i64 n) hb1 (by go_simp)
    have p1 := kept (p := ⟨w.heap.size, 1, none⟩) (x := .slice a xs.length cap) hb1 (by go_simp)
    have B1 := Lib.hid (bel_c (bel0 w (.cells #[.int .i64 n, .slice a xs.length cap] 26)) (Nat.le_refl _) hb1)
    clear hb1
    have CV := FromAllV_any lo hi n _ xs w1 (HR.out _ B1.out) (Nat.le_trans hhi B1.out.size)
    rw [HVV.out.1, HVV.out.2] at CV
    have CV := Lib.hid CV
    go_wp2_with fail
    refine CV.out.mono ?_
    rintro e w2 ⟨g, l, rfl, hg, hv, hrow, hb2⟩
    have HA := Lib.hid (HF.out l hv)
    have hlen := hv.1
    have hgw : w.heap.size ≤ g := Nat.le_trans B1.out.size hg
    have B2 := Lib.hid (bel_c B1.out (Nat.le_refl _) hb2)
    have CS := Lib.hid (SortFunc_any g l w2 hrow hlen)
    clear p0 p1 hb2 hv hg hrow CV HF
    go_wp2_with fail
    refine CS.out.mono ?_
    rintro e w3 ⟨rfl, hrow3, hbut3⟩
    have CC := Lib.hid (Compact_any g (srt 7 l) w3 hrow3 (by rw [srt_len]; exact hlen))
    have B3 := Lib.hid (B2.out.trans (hbut3.below hgw B2.out.size))
    clear hrow3 hbut3 CS B1 B2 hlen
    go_wp2_with fail
    refine CC.out.mono ?_
    rintro e w4 ⟨rfl, hbut4⟩
    have B4 := Lib.hid (B3.out.trans (hbut4.below hgw B3.out.size))
    clear hbut4 CC B3
    generalize hd (srt 7 l) 8 = z at HA ⊢
    go_wp2_with fail
    go_ret
    exact ⟨by rw [← HA.out]; rfl, B4.out⟩
  · rw [forms_no hb]
    have HB := Lib.hid hb
    clear hb
    go_enter Tryz.func12, Tryz.ntmps12
    go_wp2_with fail
    refine (ImplBlockOk_no lo hi n _ xs _ (HR.out _ (bel0 w _)) (by simp; omega) HB.out).mono ?_
    rintro e w1 ⟨rfl, hb1⟩
    go_wp2_with fail
    go_ret
    exact ⟨rfl, bel_c (bel0 w _) (Nat.le_refl _) hb1⟩

end Go.Proofs.YtfidnhhlcdbaeaaGreatDoor

namespace Go.Proofs.YtfidnhhlcdbaeaaGreatDoor
open Go.ChangeShapes Go.WideShapes Go.ChangeAt Go.RowKit

theorem areF_yes {n m : Int} {xs ys : List C3} (hx : BlkOk n xs) (hy : BlkOk m ys) : areF n m xs ys = sameB n m (lfL n xs) (lfL m ys) := by
  unfold areF; rw [← blk_yes hx, ← blk_yes hy]; rfl
theorem areP_yes {n m : Int} {xs ys : List C3} (hx : BlkOk n xs) (hy : BlkOk m ys) : areP n m xs ys = sameB n m (lpL n xs) (lpL m ys) := by
  unfold areP; rw [← blk_yes hx, ← blk_yes hy]; rfl
theorem areF_view {n : Int} {xs : List C3} (h : BlkOk n xs) {k : Nat} (hk : k < 8) : areF n n xs (seeL n k xs) = true ∧ areF n n (seeL n k xs) xs = true := by
  rw [areF_yes h (seeL_ok h), areF_yes (seeL_ok h) h, lf_view h hk]
  exact ⟨sameB_iff.2 ⟨rfl, rfl⟩, sameB_iff.2 ⟨rfl, rfl⟩⟩
theorem areP_view {l : List Int} (hl : Exch l) {n : Int} {xs : List C3} (h : BlkOk n xs) {k : Nat} (hk : k < 8) : areP n n xs (exL l (seeL n k xs)) = true := by
  rw [areP_yes h (exL_ok hl.1 (seeL_ok h)), lp_ex hl (seeL_ok h), lp_view h hk]
  exact sameB_iff.2 ⟨rfl, rfl⟩
theorem areF_lf {n : Int} {xs : List C3} (h : BlkOk n xs) : areF n n xs (lfL n xs) = true := by
  obtain ⟨k, hk, e⟩ := lf_mem n xs
  rw [e]; exact (areF_view h hk).1
theorem txt_least {n : Int} (xs : List C3) : (Op.bytesLess (txtB (lfL n xs)).toList (txtB xs).toList || (txtB (lfL n xs)).toList == (txtB xs).toList) = true := by
  rw [Lib.toList_data, Lib.toList_data, txtB_list, txtB_list, Bool.or_eq_true]
  by_cases c : Op.bytesLess (txtL (lfL n xs)) (txtL xs) = true
  · exact .inl c
  · simp only [Bool.not_eq_true] at c
    rw [bl_tri _ _ c (lf_least xs)]
    exact .inr (by simp)
theorem forms_four {n : Int} {xs : List C3} (h : BlkOk n xs) : cntE (eqV n xs) 8 = 1 ∨ cntE (eqV n xs) 8 = 2 ∨ cntE (eqV n xs) 8 = 4 ∨ cntE (eqV n xs) 8 = 8 := by
  obtain ⟨h1, h2⟩ := forms_div h
  have h3 := cntE_le (eqV n xs) 8
  generalize cntE (eqV n xs) 8 = c at h1 h2 h3 ⊢
  have : c = 1 ∨ c = 2 ∨ c = 3 ∨ c = 4 ∨ c = 5 ∨ c = 6 ∨ c = 7 ∨ c = 8 := by omega
  rcases this with rfl | rfl | rfl | rfl | rfl | rfl | rfl | rfl <;> simp at h2 ⊢
theorem areF_symm (n m : Int) (xs ys : List C3) : areF n m xs ys = areF m n ys xs := by
  unfold areF
  rw [sameB_symm n m]
  cases blkB n xs <;> cases blkB m ys <;> rfl
/-- The same block: the same pattern. -/
theorem areF_P {n m : Int} {xs ys : List C3} (hx : BlkOk n xs) (hy : BlkOk m ys) (h : areF n m xs ys = true) : areP n m xs ys = true := by
  rw [areF_yes hx hy, sameB_iff] at h
  rw [areP_yes hx hy, sameB_iff]
  obtain ⟨rfl, e⟩ := h
  exact ⟨rfl, lf_lp hx hy e⟩
theorem txt_size {n : Int} {xs : List C3} (h : BlkOk n xs) : 2 * xs.length ≤ (txtB xs).size ∧ (txtB xs).size ≤ 64 := by
  have h1 := txtL_len h.2.2
  have h2 := (blk_len h).2
  have h3 : (txtB xs).size = (txtL xs).length := by simp [txtB, ByteArray.size]
  omega

end Go.Proofs.YtfidnhhlcdbaeaaGreatDoor
