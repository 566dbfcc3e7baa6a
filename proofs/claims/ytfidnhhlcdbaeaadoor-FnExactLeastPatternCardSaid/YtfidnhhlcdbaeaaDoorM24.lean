/- Sameness: the program's AreSame and ArePatternsSame. Sameness: the program's CountForms; with it all of chapter 7. Sameness: the model's plain form of a block. -/
import Derived.Test.YtfidnhhlcdbaeaaDoorM23
import Derived.Test.YtfidnhhlcdbaeaaDoorM22
import Derived.Test.YtfidnhhlcdbaeaaDoorM08
import Derived.Deep.DeepCutAuto
import Derived.Deep.RegionHeld3
import Derived.Test.YtfidnhhlcdbaeaaDoorM16
import Derived.Test.YtfidnhhlcdbaeaaDoorM15
import Derived.Test.YtfidnhhlcdbaeaaDoorM12
import Derived.Test.YtfidnhhlcdbaeaaDoorM10
import Derived.Test.YtfidnhhlcdbaeaaDoorM06

namespace Go.Proofs.YtfidnhhlcdbaeaaDoor
open Go.ChangeShapes Go.WideShapes Go.ChangeAt Go.RowKit

theorem ImplOkY (lo hi : Nat) (n : Int) (v : Value) (xs : List C3) (b : Bool) (u : World) (r : CellIn lo hi u v xs) (h : hi ≤ u.heap.size) (e : blkB n xs = b) :
    Calls Tryd.prog 40 #[.agg #[.int .i64 n, v]] u fun e w' => e = .returned (.bool b) ∧ Below u.heap.size u w' := by
  have := ImplBlockOk_any lo hi n v xs u r h
  rw [e] at this
  exact this
theorem ImplSameY (l1 h1 l2 h2 : Nat) (n m : Int) (v1 v2 : Value) (xs ys : List C3) (b : Bool) (u : World) (r1 : CellIn l1 h1 u v1 xs) (r2 : CellIn l2 h2 u v2 ys) (hh1 : h1 ≤ u.heap.size) (hh2 : h2 ≤ u.heap.size) (e : sameB n m xs ys = b) :
    Calls Tryd.prog 43 #[.agg #[.int .i64 n, v1], .agg #[.int .i64 m, v2]] u fun e w' => e = .returned (.bool b) ∧ Below u.heap.size u w' := by
  have := ImplSame_any l1 h1 l2 h2 n m v1 v2 xs ys u r1 r2 hh1 hh2
  rw [e] at this
  exact this
theorem ImplLeastFormY (lo hi : Nat) (n : Int) (v : Value) (xs ys : List C3) (u : World) (r : CellIn lo hi u v xs) (h : hi ≤ u.heap.size) (hb : BlkOk n xs) (e : lfL n xs = ys) :
    Calls Tryd.prog 11 #[.agg #[.int .i64 n, v]] u (FreshB n ys u) := by
  have := ImplLeastForm_any lo hi n v xs u r h
  rw [(turnB_yes hb).1, (sam_yes hb).2.1, e] at this
  exact this
theorem ImplLeastPatternY (lo hi : Nat) (n : Int) (v : Value) (xs ys : List C3) (u : World) (r : CellIn lo hi u v xs) (h : hi ≤ u.heap.size) (hb : BlkOk n xs) (e : lpL n xs = ys) :
    Calls Tryd.prog 16 #[.agg #[.int .i64 n, v]] u (FreshB n ys u) := by
  have := ImplLeastPattern_any lo hi n v xs u r h
  rw [(turnB_yes hb).1, (sam_yes hb).2.2, e] at this
  exact this
set_option maxRecDepth 100000 in
set_option maxHeartbeats 8000000 in
theorem HaveAreSame_any (lo hi lo2 hi2 : Nat) (n m : Int) (v v2 : Value) (xs ys : List C3) (w : World) (r : CellIn lo hi w v xs) (hhi : hi ≤ w.heap.size) (r2 : CellIn lo2 hi2 w v2 ys) (hhi2 : hi2 ≤ w.heap.size) :
    Calls Tryd.prog 39 #[.func (.func 11) #[] #[], .agg #[.int .i64 n, v], .agg #[.int .i64 m, v2]] w fun e w' => e = .returned (.bool (areF n m xs ys)) ∧ Below w.heap.size w w' := by
  obtain ⟨a, cap, rfl⟩ := r.form
  obtain ⟨a2, cap2, rfl⟩ := r2.form
  have HR := Lib.hid (fun W (hb : Below w.heap.size w W) => r.below (hb.mono hhi))
  have HR2 := Lib.hid (fun W (hb : Below w.heap.size w W) => r2.below (hb.mono hhi2))
  clear r r2
  obtain ⟨G, hG⟩ : ∃ G, G = (w.alloc (.cells #[.int .i64 n, .slice a xs.length cap] 28)).alloc (.cells #[.int .i64 m, .slice a2 ys.length cap2] 28) := ⟨_, rfl⟩
  have HBG : Hid (Below w.heap.size w G) := Lib.hid (by rw [hG]; exact bel_n (bel0 _ _) (Nat.le_refl _) _)
  have D0 : Below G.heap.size G G.drew := ⟨rfl, rfl, rfl, Nat.le_refl _, fun _ _ => rfl⟩
  have S0 : G.drew.cell? ⟨w.heap.size, 0, none⟩ = some (.int .i64 n) ∧ G.drew.cell? ⟨w.heap.size, 1, none⟩ = some (.slice a xs.length cap) ∧ G.drew.cell? ⟨w.heap.size + 1, 0, none⟩ = some (.int .i64 m) ∧ G.drew.cell? ⟨w.heap.size + 1, 1, none⟩ = some (.slice a2 ys.length cap2) ∧ Below G.heap.size G G.drew := by
    have e0 : G.cell? ⟨w.heap.size, 0, none⟩ = some (.int .i64 n) := by rw [hG]; go_simp
    have e1 : G.cell? ⟨w.heap.size, 1, none⟩ = some (.slice a xs.length cap) := by rw [hG]; go_simp
    have e2 : G.cell? ⟨w.heap.size + 1, 0, none⟩ = some (.int .i64 m) := by rw [hG]; go_simp
    have e3 : G.cell? ⟨w.heap.size + 1, 1, none⟩ = some (.slice a2 ys.length cap2) := by rw [hG]; go_simp
    exact ⟨kept D0 e0, kept D0 e1, kept D0 e2, kept D0 e3, D0⟩
  have KP : ∀ u v, Below u.heap.size u v → (u.cell? ⟨w.heap.size, 0, none⟩ = some (.int .i64 n) ∧ u.cell? ⟨w.heap.size, 1, none⟩ = some (.slice a xs.length cap) ∧ u.cell? ⟨w.heap.size + 1, 0, none⟩ = some (.int .i64 m) ∧ u.cell? ⟨w.heap.size + 1, 1, none⟩ = some (.slice a2 ys.length cap2) ∧ Below G.heap.size G u) → (v.cell? ⟨w.heap.size, 0, none⟩ = some (.int .i64 n) ∧ v.cell? ⟨w.heap.size, 1, none⟩ = some (.slice a xs.length cap) ∧ v.cell? ⟨w.heap.size + 1, 0, none⟩ = some (.int .i64 m) ∧ v.cell? ⟨w.heap.size + 1, 1, none⟩ = some (.slice a2 ys.length cap2) ∧ Below G.heap.size G v) := fun u v hb h => ⟨kept hb h.1, kept hb h.2.1, kept hb h.2.2.1, kept hb h.2.2.2.1, bel_c h.2.2.2.2 (Nat.le_refl _) hb⟩
  have HW : Hid (∀ u, (u.cell? ⟨w.heap.size, 0, none⟩ = some (.int .i64 n) ∧ u.cell? ⟨w.heap.size, 1, none⟩ = some (.slice a xs.length cap) ∧ u.cell? ⟨w.heap.size + 1, 0, none⟩ = some (.int .i64 m) ∧ u.cell? ⟨w.heap.size + 1, 1, none⟩ = some (.slice a2 ys.length cap2) ∧ Below G.heap.size G u) → Below w.heap.size w u) := Lib.hid (fun u h => bel_c HBG.out (Nat.le_refl _) h.2.2.2.2)
  have HC1 : Hid (∀ u, (u.cell? ⟨w.heap.size, 0, none⟩ = some (.int .i64 n) ∧ u.cell? ⟨w.heap.size, 1, none⟩ = some (.slice a xs.length cap) ∧ u.cell? ⟨w.heap.size + 1, 0, none⟩ = some (.int .i64 m) ∧ u.cell? ⟨w.heap.size + 1, 1, none⟩ = some (.slice a2 ys.length cap2) ∧ Below G.heap.size G u) → CellIn lo hi u (.slice a xs.length cap) xs ∧ hi ≤ u.heap.size) := Lib.hid (fun u h => ⟨HR.out _ (HW.out _ h), Nat.le_trans hhi (HW.out _ h).size⟩)
  have HC2 : Hid (∀ u, (u.cell? ⟨w.heap.size, 0, none⟩ = some (.int .i64 n) ∧ u.cell? ⟨w.heap.size, 1, none⟩ = some (.slice a xs.length cap) ∧ u.cell? ⟨w.heap.size + 1, 0, none⟩ = some (.int .i64 m) ∧ u.cell? ⟨w.heap.size + 1, 1, none⟩ = some (.slice a2 ys.length cap2) ∧ Below G.heap.size G u) → CellIn lo2 hi2 u (.slice a2 ys.length cap2) ys ∧ hi2 ≤ u.heap.size) := Lib.hid (fun u h => ⟨HR2.out _ (HW.out _ h), Nat.le_trans hhi2 (HW.out _ h).size⟩)
  by_cases h1 : BlkOk n xs
  · have K1 := Lib.hid (fun (u : World) (h : u.cell? ⟨w.heap.size, 0, none⟩ = some (.int .i64 n) ∧ u.cell? ⟨w.heap.size, 1, none⟩ = some (.slice a xs.length cap) ∧ u.cell? ⟨w.heap.size + 1, 0, none⟩ = some (.int .i64 m) ∧ u.cell? ⟨w.heap.size + 1, 1, none⟩ = some (.slice a2 ys.length cap2) ∧ Below G.heap.size G u) => ImplOkY lo hi n _ xs true u (HC1.out u h).1 (HC1.out u h).2 (blk_yes h1).symm)
    by_cases h2 : BlkOk m ys
    · have K2 := Lib.hid (fun (u : World) (h : u.cell? ⟨w.heap.size, 0, none⟩ = some (.int .i64 n) ∧ u.cell? ⟨w.heap.size, 1, none⟩ = some (.slice a xs.length cap) ∧ u.cell? ⟨w.heap.size + 1, 0, none⟩ = some (.int .i64 m) ∧ u.cell? ⟨w.heap.size + 1, 1, none⟩ = some (.slice a2 ys.length cap2) ∧ Below G.heap.size G u) => ImplOkY lo2 hi2 m _ ys true u (HC2.out u h).1 (HC2.out u h).2 (blk_yes h2).symm)
      obtain ⟨fs, hfs⟩ : ∃ fs, lfL n xs = fs := ⟨_, rfl⟩
      obtain ⟨gs, hgs⟩ : ∃ gs, lfL m ys = gs := ⟨_, rfl⟩
      have L1 := Lib.hid (fun (u : World) (h : u.cell? ⟨w.heap.size, 0, none⟩ = some (.int .i64 n) ∧ u.cell? ⟨w.heap.size, 1, none⟩ = some (.slice a xs.length cap) ∧ u.cell? ⟨w.heap.size + 1, 0, none⟩ = some (.int .i64 m) ∧ u.cell? ⟨w.heap.size + 1, 1, none⟩ = some (.slice a2 ys.length cap2) ∧ Below G.heap.size G u) => ImplLeastFormY lo hi n _ xs fs u (HC1.out u h).1 (HC1.out u h).2 h1 hfs)
      have L2 := Lib.hid (fun (u : World) (h : u.cell? ⟨w.heap.size, 0, none⟩ = some (.int .i64 n) ∧ u.cell? ⟨w.heap.size, 1, none⟩ = some (.slice a xs.length cap) ∧ u.cell? ⟨w.heap.size + 1, 0, none⟩ = some (.int .i64 m) ∧ u.cell? ⟨w.heap.size + 1, 1, none⟩ = some (.slice a2 ys.length cap2) ∧ Below G.heap.size G u) => ImplLeastFormY lo2 hi2 m _ ys gs u (HC2.out u h).1 (HC2.out u h).2 h2 hgs)
      obtain ⟨b, hb⟩ : ∃ b, sameB n m fs gs = b := ⟨_, rfl⟩
      have hans : areF n m xs ys = b := by unfold areF; rw [← blk_yes h1, ← blk_yes h2, hfs, hgs, hb]; rfl
      have HSB := Lib.hid hb
      rw [hans]
      clear hans hfs hgs hb h1 h2 HC1 HC2
      go_enter Tryd.func39, Tryd.ntmps39
      go_upto_region 1 with fail
      rw [← hG]
      clear hG
      go_region_held3 (fun w' => w'.cell? ⟨w.heap.size, 0, none⟩ = some (.int .i64 n) ∧ w'.cell? ⟨w.heap.size, 1, none⟩ = some (.slice a xs.length cap) ∧ w'.cell? ⟨w.heap.size + 1, 0, none⟩ = some (.int .i64 m) ∧ w'.cell? ⟨w.heap.size + 1, 1, none⟩ = some (.slice a2 ys.length cap2) ∧ Below G.heap.size G w') (first | assumption | (refine KP _ _ (by assumption) ?_; assumption))
        ((first
          | (go_at_call 40; refine (args_eq (K1.out _ (by assumption)) (by with_reducible rfl)).mono ?_; rintro e y ⟨rfl, hb⟩)
          | (go_at_call 40; refine (args_eq (K2.out _ (by assumption)) (by with_reducible rfl)).mono ?_; rintro e y ⟨rfl, hb⟩)
          | (go_at_call 11; refine (args_eq (L1.out _ (by assumption)) (by with_reducible rfl)).mono ?_; rintro e yA ⟨vA, rfl, RA, hbA⟩; obtain ⟨aA, cA, rfl⟩ := RA.form; have HRA := Lib.hid (fun v (hv : Below yA.heap.size yA v) => RA.below (hv.mono (Nat.le_refl _))); clear RA)
          | (go_at_call 11; refine (args_eq (L2.out _ (by assumption)) (by with_reducible rfl)).mono ?_; rintro e yB ⟨vB, rfl, RB, hbB⟩; obtain ⟨aB, cB, rfl⟩ := RB.form; have HRB := Lib.hid (fun v (hv : Below yB.heap.size yB v) => RB.below (hv.mono (Nat.le_refl _))); clear RB)
          | (go_at_call 43; refine (args_eq (ImplSameY _ _ _ _ n m _ _ fs gs b yB (HRA.out _ hbB) (HRB.out _ (Below.refl _ _)) hbB.size (Nat.le_refl _) HSB.out) (by with_reducible rfl)).mono ?_; rintro e y ⟨rfl, hb⟩)
          | (go_at_call 43; refine (args_eq (ImplSameY _ _ _ _ n m _ _ fs gs b yA (HRA.out _ (Below.refl _ _)) (HRB.out _ hbA) (Nat.le_refl _) hbA.size HSB.out) (by with_reducible rfl)).mono ?_; rintro e y ⟨rfl, hb⟩)))
      all_goals
        have HY := HW.out y (by assumption)
        go_wp2_with fail
        go_ret
        exact ⟨rfl, HY⟩
    · have K2 := Lib.hid (fun (u : World) (h : u.cell? ⟨w.heap.size, 0, none⟩ = some (.int .i64 n) ∧ u.cell? ⟨w.heap.size, 1, none⟩ = some (.slice a xs.length cap) ∧ u.cell? ⟨w.heap.size + 1, 0, none⟩ = some (.int .i64 m) ∧ u.cell? ⟨w.heap.size + 1, 1, none⟩ = some (.slice a2 ys.length cap2) ∧ Below G.heap.size G u) => ImplOkY lo2 hi2 m _ ys false u (HC2.out u h).1 (HC2.out u h).2 (blk_no h2).symm)
      have hans : areF n m xs ys = false := by unfold areF; rw [← blk_yes h1, ← blk_no h2]; rfl
      rw [hans]
      clear hans h1 h2 HC1 HC2
      go_enter Tryd.func39, Tryd.ntmps39
      go_upto_region 1 with fail
      rw [← hG]
      clear hG
      try simp only [List.append_eq, List.cons_append, List.nil_append]
      have hS : G.drew.cell? ⟨w.heap.size, 0, none⟩ = some (.int .i64 n) ∧ G.drew.cell? ⟨w.heap.size, 1, none⟩ = some (.slice a xs.length cap) ∧ G.drew.cell? ⟨w.heap.size + 1, 0, none⟩ = some (.int .i64 m) ∧ G.drew.cell? ⟨w.heap.size + 1, 1, none⟩ = some (.slice a2 ys.length cap2) ∧ Below G.heap.size G G.drew := S0
      refine reg_begin (fun w' => w'.cell? ⟨w.heap.size, 0, none⟩ = some (.int .i64 n) ∧ w'.cell? ⟨w.heap.size, 1, none⟩ = some (.slice a xs.length cap) ∧ w'.cell? ⟨w.heap.size + 1, 0, none⟩ = some (.int .i64 m) ∧ w'.cell? ⟨w.heap.size + 1, 1, none⟩ = some (.slice a2 ys.length cap2) ∧ Below G.heap.size G w') (by kernel_rfl) hS ?_
      refine reg_take 0 (v := ?_) rfl (by kernel_rfl) (by kernel_rfl) (by kernel_rfl) (fun _ _ _ h => h) (by rfl) (by intro w hSw; (try dsimp only at hSw); go_simp; first | done | with_reducible rfl) hS ?_
      simp only [Act.put, List.setIfInBounds_toArray, List.set_cons_zero, List.set_cons_succ]
      refine reg_call 1 rfl (by kernel_rfl) (by rfl) (fun K hK => ?_)
      go_simp
      go_at_call 40
      refine (args_eq (K1.out _ hS) (by with_reducible rfl)).mono ?_
      rintro e y ⟨rfl, hb⟩
      refine hK.out _ _ (KP _ _ hb hS) (fun hS' => ?_)
      clear hK K
      replace hS := hS'
      clear hS'
      try simp only [Act.put, List.setIfInBounds_toArray, List.set_cons_zero, List.set_cons_succ]
      refine reg_take 2 (v := ?_) rfl (by kernel_rfl) (by kernel_rfl) (by kernel_rfl) (fun _ _ _ h => h) (by rfl) (by intro w hSw; (try dsimp only at hSw); go_simp; first | done | with_reducible rfl) hS ?_
      simp only [Act.put, List.setIfInBounds_toArray, List.set_cons_zero, List.set_cons_succ]
      refine reg_take 3 (v := ?_) rfl (by kernel_rfl) (by kernel_rfl) (by kernel_rfl) (fun _ _ _ h => h) (by rfl) (by intro w hSw; (try dsimp only at hSw); go_simp; first | done | with_reducible rfl) hS ?_
      simp only [Act.put, List.setIfInBounds_toArray, List.set_cons_zero, List.set_cons_succ]
      refine reg_call 4 rfl (by kernel_rfl) (by rfl) (fun K hK => ?_)
      go_simp
      go_at_call 40
      refine (args_eq (K2.out _ hS) (by with_reducible rfl)).mono ?_
      rintro e y ⟨rfl, hb⟩
      refine hK.out _ _ (KP _ _ hb hS) (fun hS' => ?_)
      clear hK K
      replace hS := hS'
      clear hS'
      try simp only [Act.put, List.setIfInBounds_toArray, List.set_cons_zero, List.set_cons_succ]
      refine reg_take 5 (v := ?_) rfl (by kernel_rfl) (by kernel_rfl) (by kernel_rfl) (fun _ _ _ h => h) (by rfl) (by intro w hSw; (try dsimp only at hSw); go_simp; first | done | with_reducible rfl) hS ?_
      simp only [Act.put, List.setIfInBounds_toArray, List.set_cons_zero, List.set_cons_succ]
      refine reg_take 6 (v := ?_) rfl (by kernel_rfl) (by kernel_rfl) (by kernel_rfl) (fun _ _ _ h => h) (by rfl) (by intro w hSw; (try dsimp only at hSw); go_simp; first | done | with_reducible rfl) hS ?_
      simp only [Act.put, List.setIfInBounds_toArray, List.set_cons_zero, List.set_cons_succ]
      refine reg_skip 7 rfl (by kernel_rfl) (by kernel_rfl) (by kernel_rfl) (fun _ _ _ h => h) (by rfl) hS ?_
      simp only [Act.put, List.setIfInBounds_toArray, List.set_cons_zero, List.set_cons_succ]
      refine reg_skip 8 rfl (by kernel_rfl) (by kernel_rfl) (by kernel_rfl) (fun _ _ _ h => h) (by rfl) hS ?_
      simp only [Act.put, List.setIfInBounds_toArray, List.set_cons_zero, List.set_cons_succ]
      refine reg_skip 9 rfl (by kernel_rfl) (by kernel_rfl) (by kernel_rfl) (fun _ _ _ h => h) (by rfl) hS ?_
      simp only [Act.put, List.setIfInBounds_toArray, List.set_cons_zero, List.set_cons_succ]
      refine reg_skip 10 rfl (by kernel_rfl) (by kernel_rfl) (by kernel_rfl) (fun _ _ _ h => h) (by rfl) hS ?_
      simp only [Act.put, List.setIfInBounds_toArray, List.set_cons_zero, List.set_cons_succ]
      refine reg_skip 11 rfl (by kernel_rfl) (by kernel_rfl) (by kernel_rfl) (fun _ _ _ h => h) (by rfl) hS ?_
      simp only [Act.put, List.setIfInBounds_toArray, List.set_cons_zero, List.set_cons_succ]
      refine reg_skip 12 rfl (by kernel_rfl) (by kernel_rfl) (by kernel_rfl) (fun _ _ _ h => h) (by rfl) hS ?_
      simp only [Act.put, List.setIfInBounds_toArray, List.set_cons_zero, List.set_cons_succ]
      refine reg_skip 13 rfl (by kernel_rfl) (by kernel_rfl) (by kernel_rfl) (fun _ _ _ h => h) (by rfl) hS ?_
      simp only [Act.put, List.setIfInBounds_toArray, List.set_cons_zero, List.set_cons_succ]
      refine reg_take 14 (v := ?_) rfl (by kernel_rfl) (by kernel_rfl) (by kernel_rfl) (fun _ _ _ h => h) (by rfl) (by intro w hSw; (try dsimp only at hSw); go_simp; first | done | with_reducible rfl) hS ?_
      simp only [Act.put, List.setIfInBounds_toArray, List.set_cons_zero, List.set_cons_succ]
      refine reg_take 15 (v := ?_) rfl (by kernel_rfl) (by kernel_rfl) (by kernel_rfl) (fun _ _ _ h => h) (by rfl) (by intro w hSw; (try dsimp only at hSw); go_simp; first | done | with_reducible rfl) hS ?_
      simp only [Act.put, List.setIfInBounds_toArray, List.set_cons_zero, List.set_cons_succ]
      refine wpAnyH_done (by kernel_rfl) ?_ _
      all_goals
        have HY := HW.out y hS
        go_wp2_with fail
        go_ret
        exact ⟨rfl, HY⟩
  · have K1 := Lib.hid (fun (u : World) (h : u.cell? ⟨w.heap.size, 0, none⟩ = some (.int .i64 n) ∧ u.cell? ⟨w.heap.size, 1, none⟩ = some (.slice a xs.length cap) ∧ u.cell? ⟨w.heap.size + 1, 0, none⟩ = some (.int .i64 m) ∧ u.cell? ⟨w.heap.size + 1, 1, none⟩ = some (.slice a2 ys.length cap2) ∧ Below G.heap.size G u) => ImplOkY lo hi n _ xs false u (HC1.out u h).1 (HC1.out u h).2 (blk_no h1).symm)
    have hans : areF n m xs ys = false := by unfold areF; rw [← blk_no h1]; rfl
    rw [hans]
    clear hans h1 HC1 HC2
    go_enter Tryd.func39, Tryd.ntmps39
    go_upto_region 1 with fail
    rw [← hG]
    clear hG
    try simp only [List.append_eq, List.cons_append, List.nil_append]
    have hS : G.drew.cell? ⟨w.heap.size, 0, none⟩ = some (.int .i64 n) ∧ G.drew.cell? ⟨w.heap.size, 1, none⟩ = some (.slice a xs.length cap) ∧ G.drew.cell? ⟨w.heap.size + 1, 0, none⟩ = some (.int .i64 m) ∧ G.drew.cell? ⟨w.heap.size + 1, 1, none⟩ = some (.slice a2 ys.length cap2) ∧ Below G.heap.size G G.drew := S0
    refine reg_begin (fun w' => w'.cell? ⟨w.heap.size, 0, none⟩ = some (.int .i64 n) ∧ w'.cell? ⟨w.heap.size, 1, none⟩ = some (.slice a xs.length cap) ∧ w'.cell? ⟨w.heap.size + 1, 0, none⟩ = some (.int .i64 m) ∧ w'.cell? ⟨w.heap.size + 1, 1, none⟩ = some (.slice a2 ys.length cap2) ∧ Below G.heap.size G w') (by kernel_rfl) hS ?_
    refine reg_take 0 (v := ?_) rfl (by kernel_rfl) (by kernel_rfl) (by kernel_rfl) (fun _ _ _ h => h) (by rfl) (by intro w hSw; (try dsimp only at hSw); go_simp; first | done | with_reducible rfl) hS ?_
    simp only [Act.put, List.setIfInBounds_toArray, List.set_cons_zero, List.set_cons_succ]
    refine reg_call 1 rfl (by kernel_rfl) (by rfl) (fun K hK => ?_)
    go_simp
    go_at_call 40
    refine (args_eq (K1.out _ hS) (by with_reducible rfl)).mono ?_
    rintro e y ⟨rfl, hb⟩
    refine hK.out _ _ (KP _ _ hb hS) (fun hS' => ?_)
    clear hK K
    replace hS := hS'
    clear hS'
    try simp only [Act.put, List.setIfInBounds_toArray, List.set_cons_zero, List.set_cons_succ]
    refine reg_take 2 (v := ?_) rfl (by kernel_rfl) (by kernel_rfl) (by kernel_rfl) (fun _ _ _ h => h) (by rfl) (by intro w hSw; (try dsimp only at hSw); go_simp; first | done | with_reducible rfl) hS ?_
    simp only [Act.put, List.setIfInBounds_toArray, List.set_cons_zero, List.set_cons_succ]
    refine reg_skip 3 rfl (by kernel_rfl) (by kernel_rfl) (by kernel_rfl) (fun _ _ _ h => h) (by rfl) hS ?_
    simp only [Act.put, List.setIfInBounds_toArray, List.set_cons_zero, List.set_cons_succ]
    refine reg_skip 4 rfl (by kernel_rfl) (by kernel_rfl) (by kernel_rfl) (fun _ _ _ h => h) (by rfl) hS ?_
    simp only [Act.put, List.setIfInBounds_toArray, List.set_cons_zero, List.set_cons_succ]
    refine reg_take 5 (v := ?_) rfl (by kernel_rfl) (by kernel_rfl) (by kernel_rfl) (fun _ _ _ h => h) (by rfl) (by intro w hSw; (try dsimp only at hSw); go_simp; first | done | with_reducible rfl) hS ?_
    simp only [Act.put, List.setIfInBounds_toArray, List.set_cons_zero, List.set_cons_succ]
    refine reg_take 6 (v := ?_) rfl (by kernel_rfl) (by kernel_rfl) (by kernel_rfl) (fun _ _ _ h => h) (by rfl) (by intro w hSw; (try dsimp only at hSw); go_simp; first | done | with_reducible rfl) hS ?_
    simp only [Act.put, List.setIfInBounds_toArray, List.set_cons_zero, List.set_cons_succ]
    refine reg_skip 7 rfl (by kernel_rfl) (by kernel_rfl) (by kernel_rfl) (fun _ _ _ h => h) (by rfl) hS ?_
    simp only [Act.put, List.setIfInBounds_toArray, List.set_cons_zero, List.set_cons_succ]
    refine reg_skip 8 rfl (by kernel_rfl) (by kernel_rfl) (by kernel_rfl) (fun _ _ _ h => h) (by rfl) hS ?_
    simp only [Act.put, List.setIfInBounds_toArray, List.set_cons_zero, List.set_cons_succ]
    refine reg_skip 9 rfl (by kernel_rfl) (by kernel_rfl) (by kernel_rfl) (fun _ _ _ h => h) (by rfl) hS ?_
    simp only [Act.put, List.setIfInBounds_toArray, List.set_cons_zero, List.set_cons_succ]
    refine reg_skip 10 rfl (by kernel_rfl) (by kernel_rfl) (by kernel_rfl) (fun _ _ _ h => h) (by rfl) hS ?_
    simp only [Act.put, List.setIfInBounds_toArray, List.set_cons_zero, List.set_cons_succ]
    refine reg_skip 11 rfl (by kernel_rfl) (by kernel_rfl) (by kernel_rfl) (fun _ _ _ h => h) (by rfl) hS ?_
    simp only [Act.put, List.setIfInBounds_toArray, List.set_cons_zero, List.set_cons_succ]
    refine reg_skip 12 rfl (by kernel_rfl) (by kernel_rfl) (by kernel_rfl) (fun _ _ _ h => h) (by rfl) hS ?_
    simp only [Act.put, List.setIfInBounds_toArray, List.set_cons_zero, List.set_cons_succ]
    refine reg_skip 13 rfl (by kernel_rfl) (by kernel_rfl) (by kernel_rfl) (fun _ _ _ h => h) (by rfl) hS ?_
    simp only [Act.put, List.setIfInBounds_toArray, List.set_cons_zero, List.set_cons_succ]
    refine reg_take 14 (v := ?_) rfl (by kernel_rfl) (by kernel_rfl) (by kernel_rfl) (fun _ _ _ h => h) (by rfl) (by intro w hSw; (try dsimp only at hSw); go_simp; first | done | with_reducible rfl) hS ?_
    simp only [Act.put, List.setIfInBounds_toArray, List.set_cons_zero, List.set_cons_succ]
    refine reg_take 15 (v := ?_) rfl (by kernel_rfl) (by kernel_rfl) (by kernel_rfl) (fun _ _ _ h => h) (by rfl) (by intro w hSw; (try dsimp only at hSw); go_simp; first | done | with_reducible rfl) hS ?_
    simp only [Act.put, List.setIfInBounds_toArray, List.set_cons_zero, List.set_cons_succ]
    refine wpAnyH_done (by kernel_rfl) ?_ _
    all_goals
      have HY := HW.out y hS
      go_wp2_with fail
      go_ret
      exact ⟨rfl, HY⟩
set_option maxRecDepth 100000 in
set_option maxHeartbeats 8000000 in
theorem HaveArePatternsSame_any (lo hi lo2 hi2 : Nat) (n m : Int) (v v2 : Value) (xs ys : List C3) (w : World) (r : CellIn lo hi w v xs) (hhi : hi ≤ w.heap.size) (r2 : CellIn lo2 hi2 w v2 ys) (hhi2 : hi2 ≤ w.heap.size) :
    Calls Tryd.prog 39 #[.func (.func 16) #[] #[], .agg #[.int .i64 n, v], .agg #[.int .i64 m, v2]] w fun e w' => e = .returned (.bool (areP n m xs ys)) ∧ Below w.heap.size w w' := by
  obtain ⟨a, cap, rfl⟩ := r.form
  obtain ⟨a2, cap2, rfl⟩ := r2.form
  have HR := Lib.hid (fun W (hb : Below w.heap.size w W) => r.below (hb.mono hhi))
  have HR2 := Lib.hid (fun W (hb : Below w.heap.size w W) => r2.below (hb.mono hhi2))
  clear r r2
  obtain ⟨G, hG⟩ : ∃ G, G = (w.alloc (.cells #[.int .i64 n, .slice a xs.length cap] 28)).alloc (.cells #[.int .i64 m, .slice a2 ys.length cap2] 28) := ⟨_, rfl⟩
  have HBG : Hid (Below w.heap.size w G) := Lib.hid (by rw [hG]; exact bel_n (bel0 _ _) (Nat.le_refl _) _)
  have D0 : Below G.heap.size G G.drew := ⟨rfl, rfl, rfl, Nat.le_refl _, fun _ _ => rfl⟩
  have S0 : G.drew.cell? ⟨w.heap.size, 0, none⟩ = some (.int .i64 n) ∧ G.drew.cell? ⟨w.heap.size, 1, none⟩ = some (.slice a xs.length cap) ∧ G.drew.cell? ⟨w.heap.size + 1, 0, none⟩ = some (.int .i64 m) ∧ G.drew.cell? ⟨w.heap.size + 1, 1, none⟩ = some (.slice a2 ys.length cap2) ∧ Below G.heap.size G G.drew := by
    have e0 : G.cell? ⟨w.heap.size, 0, none⟩ = some (.int .i64 n) := by rw [hG]; go_simp
    have e1 : G.cell? ⟨w.heap.size, 1, none⟩ = some (.slice a xs.length cap) := by rw [hG]; go_simp
    have e2 : G.cell? ⟨w.heap.size + 1, 0, none⟩ = some (.int .i64 m) := by rw [hG]; go_simp
    have e3 : G.cell? ⟨w.heap.size + 1, 1, none⟩ = some (.slice a2 ys.length cap2) := by rw [hG]; go_simp
    exact ⟨kept D0 e0, kept D0 e1, kept D0 e2, kept D0 e3, D0⟩
  have KP : ∀ u v, Below u.heap.size u v → (u.cell? ⟨w.heap.size, 0, none⟩ = some (.int .i64 n) ∧ u.cell? ⟨w.heap.size, 1, none⟩ = some (.slice a xs.length cap) ∧ u.cell? ⟨w.heap.size + 1, 0, none⟩ = some (.int .i64 m) ∧ u.cell? ⟨w.heap.size + 1, 1, none⟩ = some (.slice a2 ys.length cap2) ∧ Below G.heap.size G u) → (v.cell? ⟨w.heap.size, 0, none⟩ = some (.int .i64 n) ∧ v.cell? ⟨w.heap.size, 1, none⟩ = some (.slice a xs.length cap) ∧ v.cell? ⟨w.heap.size + 1, 0, none⟩ = some (.int .i64 m) ∧ v.cell? ⟨w.heap.size + 1, 1, none⟩ = some (.slice a2 ys.length cap2) ∧ Below G.heap.size G v) := fun u v hb h => ⟨kept hb h.1, kept hb h.2.1, kept hb h.2.2.1, kept hb h.2.2.2.1, bel_c h.2.2.2.2 (Nat.le_refl _) hb⟩
  have HW : Hid (∀ u, (u.cell? ⟨w.heap.size, 0, none⟩ = some (.int .i64 n) ∧ u.cell? ⟨w.heap.size, 1, none⟩ = some (.slice a xs.length cap) ∧ u.cell? ⟨w.heap.size + 1, 0, none⟩ = some (.int .i64 m) ∧ u.cell? ⟨w.heap.size + 1, 1, none⟩ = some (.slice a2 ys.length cap2) ∧ Below G.heap.size G u) → Below w.heap.size w u) := Lib.hid (fun u h => bel_c HBG.out (Nat.le_refl _) h.2.2.2.2)
  have HC1 : Hid (∀ u, (u.cell? ⟨w.heap.size, 0, none⟩ = some (.int .i64 n) ∧ u.cell? ⟨w.heap.size, 1, none⟩ = some (.slice a xs.length cap) ∧ u.cell? ⟨w.heap.size + 1, 0, none⟩ = some (.int .i64 m) ∧ u.cell? ⟨w.heap.size + 1, 1, none⟩ = some (.slice a2 ys.length cap2) ∧ Below G.heap.size G u) → CellIn lo hi u (.slice a xs.length cap) xs ∧ hi ≤ u.heap.size) := Lib.hid (fun u h => ⟨HR.out _ (HW.out _ h), Nat.le_trans hhi (HW.out _ h).size⟩)
  have HC2 : Hid (∀ u, (u.cell? ⟨w.heap.size, 0, none⟩ = some (.int .i64 n) ∧ u.cell? ⟨w.heap.size, 1, none⟩ = some (.slice a xs.length cap) ∧ u.cell? ⟨w.heap.size + 1, 0, none⟩ = some (.int .i64 m) ∧ u.cell? ⟨w.heap.size + 1, 1, none⟩ = some (.slice a2 ys.length cap2) ∧ Below G.heap.size G u) → CellIn lo2 hi2 u (.slice a2 ys.length cap2) ys ∧ hi2 ≤ u.heap.size) := Lib.hid (fun u h => ⟨HR2.out _ (HW.out _ h), Nat.le_trans hhi2 (HW.out _ h).size⟩)
  by_cases h1 : BlkOk n xs
  · have K1 := Lib.hid (fun (u : World) (h : u.cell? ⟨w.heap.size, 0, none⟩ = some (.int .i64 n) ∧ u.cell? ⟨w.heap.size, 1, none⟩ = some (.slice a xs.length cap) ∧ u.cell? ⟨w.heap.size + 1, 0, none⟩ = some (.int .i64 m) ∧ u.cell? ⟨w.heap.size + 1, 1, none⟩ = some (.slice a2 ys.length cap2) ∧ Below G.heap.size G u) => ImplOkY lo hi n _ xs true u (HC1.out u h).1 (HC1.out u h).2 (blk_yes h1).symm)
    by_cases h2 : BlkOk m ys
    · have K2 := Lib.hid (fun (u : World) (h : u.cell? ⟨w.heap.size, 0, none⟩ = some (.int .i64 n) ∧ u.cell? ⟨w.heap.size, 1, none⟩ = some (.slice a xs.length cap) ∧ u.cell? ⟨w.heap.size + 1, 0, none⟩ = some (.int .i64 m) ∧ u.cell? ⟨w.heap.size + 1, 1, none⟩ = some (.slice a2 ys.length cap2) ∧ Below G.heap.size G u) => ImplOkY lo2 hi2 m _ ys true u (HC2.out u h).1 (HC2.out u h).2 (blk_yes h2).symm)
      obtain ⟨fs, hfs⟩ : ∃ fs, lpL n xs = fs := ⟨_, rfl⟩
      obtain ⟨gs, hgs⟩ : ∃ gs, lpL m ys = gs := ⟨_, rfl⟩
      have L1 := Lib.hid (fun (u : World) (h : u.cell? ⟨w.heap.size, 0, none⟩ = some (.int .i64 n) ∧ u.cell? ⟨w.heap.size, 1, none⟩ = some (.slice a xs.length cap) ∧ u.cell? ⟨w.heap.size + 1, 0, none⟩ = some (.int .i64 m) ∧ u.cell? ⟨w.heap.size + 1, 1, none⟩ = some (.slice a2 ys.length cap2) ∧ Below G.heap.size G u) => ImplLeastPatternY lo hi n _ xs fs u (HC1.out u h).1 (HC1.out u h).2 h1 hfs)
      have L2 := Lib.hid (fun (u : World) (h : u.cell? ⟨w.heap.size, 0, none⟩ = some (.int .i64 n) ∧ u.cell? ⟨w.heap.size, 1, none⟩ = some (.slice a xs.length cap) ∧ u.cell? ⟨w.heap.size + 1, 0, none⟩ = some (.int .i64 m) ∧ u.cell? ⟨w.heap.size + 1, 1, none⟩ = some (.slice a2 ys.length cap2) ∧ Below G.heap.size G u) => ImplLeastPatternY lo2 hi2 m _ ys gs u (HC2.out u h).1 (HC2.out u h).2 h2 hgs)
      obtain ⟨b, hb⟩ : ∃ b, sameB n m fs gs = b := ⟨_, rfl⟩
      have hans : areP n m xs ys = b := by unfold areP; rw [← blk_yes h1, ← blk_yes h2, hfs, hgs, hb]; rfl
      have HSB := Lib.hid hb
      rw [hans]
      clear hans hfs hgs hb h1 h2 HC1 HC2
      go_enter Tryd.func39, Tryd.ntmps39
      go_upto_region 1 with fail
      rw [← hG]
      clear hG
      go_region_held3 (fun w' => w'.cell? ⟨w.heap.size, 0, none⟩ = some (.int .i64 n) ∧ w'.cell? ⟨w.heap.size, 1, none⟩ = some (.slice a xs.length cap) ∧ w'.cell? ⟨w.heap.size + 1, 0, none⟩ = some (.int .i64 m) ∧ w'.cell? ⟨w.heap.size + 1, 1, none⟩ = some (.slice a2 ys.length cap2) ∧ Below G.heap.size G w') (first | assumption | (refine KP _ _ (by assumption) ?_; assumption))
        ((first
          | (go_at_call 40; refine (args_eq (K1.out _ (by assumption)) (by with_reducible rfl)).mono ?_; rintro e y ⟨rfl, hb⟩)
          | (go_at_call 40; refine (args_eq (K2.out _ (by assumption)) (by with_reducible rfl)).mono ?_; rintro e y ⟨rfl, hb⟩)
          | (go_at_call 16; refine (args_eq (L1.out _ (by assumption)) (by with_reducible rfl)).mono ?_; rintro e yA ⟨vA, rfl, RA, hbA⟩; obtain ⟨aA, cA, rfl⟩ := RA.form; have HRA := Lib.hid (fun v (hv : Below yA.heap.size yA v) => RA.below (hv.mono (Nat.le_refl _))); clear RA)
          | (go_at_call 16; refine (args_eq (L2.out _ (by assumption)) (by with_reducible rfl)).mono ?_; rintro e yB ⟨vB, rfl, RB, hbB⟩; obtain ⟨aB, cB, rfl⟩ := RB.form; have HRB := Lib.hid (fun v (hv : Below yB.heap.size yB v) => RB.below (hv.mono (Nat.le_refl _))); clear RB)
          | (go_at_call 43; refine (args_eq (ImplSameY _ _ _ _ n m _ _ fs gs b yB (HRA.out _ hbB) (HRB.out _ (Below.refl _ _)) hbB.size (Nat.le_refl _) HSB.out) (by with_reducible rfl)).mono ?_; rintro e y ⟨rfl, hb⟩)
          | (go_at_call 43; refine (args_eq (ImplSameY _ _ _ _ n m _ _ fs gs b yA (HRA.out _ (Below.refl _ _)) (HRB.out _ hbA) (Nat.le_refl _) hbA.size HSB.out) (by with_reducible rfl)).mono ?_; rintro e y ⟨rfl, hb⟩)))
      all_goals
        have HY := HW.out y (by assumption)
        go_wp2_with fail
        go_ret
        exact ⟨rfl, HY⟩
    · have K2 := Lib.hid (fun (u : World) (h : u.cell? ⟨w.heap.size, 0, none⟩ = some (.int .i64 n) ∧ u.cell? ⟨w.heap.size, 1, none⟩ = some (.slice a xs.length cap) ∧ u.cell? ⟨w.heap.size + 1, 0, none⟩ = some (.int .i64 m) ∧ u.cell? ⟨w.heap.size + 1, 1, none⟩ = some (.slice a2 ys.length cap2) ∧ Below G.heap.size G u) => ImplOkY lo2 hi2 m _ ys false u (HC2.out u h).1 (HC2.out u h).2 (blk_no h2).symm)
      have hans : areP n m xs ys = false := by unfold areP; rw [← blk_yes h1, ← blk_no h2]; rfl
      rw [hans]
      clear hans h1 h2 HC1 HC2
      go_enter Tryd.func39, Tryd.ntmps39
      go_upto_region 1 with fail
      rw [← hG]
      clear hG
      try simp only [List.append_eq, List.cons_append, List.nil_append]
      have hS : G.drew.cell? ⟨w.heap.size, 0, none⟩ = some (.int .i64 n) ∧ G.drew.cell? ⟨w.heap.size, 1, none⟩ = some (.slice a xs.length cap) ∧ G.drew.cell? ⟨w.heap.size + 1, 0, none⟩ = some (.int .i64 m) ∧ G.drew.cell? ⟨w.heap.size + 1, 1, none⟩ = some (.slice a2 ys.length cap2) ∧ Below G.heap.size G G.drew := S0
      refine reg_begin (fun w' => w'.cell? ⟨w.heap.size, 0, none⟩ = some (.int .i64 n) ∧ w'.cell? ⟨w.heap.size, 1, none⟩ = some (.slice a xs.length cap) ∧ w'.cell? ⟨w.heap.size + 1, 0, none⟩ = some (.int .i64 m) ∧ w'.cell? ⟨w.heap.size + 1, 1, none⟩ = some (.slice a2 ys.length cap2) ∧ Below G.heap.size G w') (by kernel_rfl) hS ?_
      refine reg_take 0 (v := ?_) rfl (by kernel_rfl) (by kernel_rfl) (by kernel_rfl) (fun _ _ _ h => h) (by rfl) (by intro w hSw; (try dsimp only at hSw); go_simp; first | done | with_reducible rfl) hS ?_
      simp only [Act.put, List.setIfInBounds_toArray, List.set_cons_zero, List.set_cons_succ]
      refine reg_call 1 rfl (by kernel_rfl) (by rfl) (fun K hK => ?_)
      go_simp
      go_at_call 40
      refine (args_eq (K1.out _ hS) (by with_reducible rfl)).mono ?_
      rintro e y ⟨rfl, hb⟩
      refine hK.out _ _ (KP _ _ hb hS) (fun hS' => ?_)
      clear hK K
      replace hS := hS'
      clear hS'
      try simp only [Act.put, List.setIfInBounds_toArray, List.set_cons_zero, List.set_cons_succ]
      refine reg_take 2 (v := ?_) rfl (by kernel_rfl) (by kernel_rfl) (by kernel_rfl) (fun _ _ _ h => h) (by rfl) (by intro w hSw; (try dsimp only at hSw); go_simp; first | done | with_reducible rfl) hS ?_
      simp only [Act.put, List.setIfInBounds_toArray, List.set_cons_zero, List.set_cons_succ]
      refine reg_take 3 (v := ?_) rfl (by kernel_rfl) (by kernel_rfl) (by kernel_rfl) (fun _ _ _ h => h) (by rfl) (by intro w hSw; (try dsimp only at hSw); go_simp; first | done | with_reducible rfl) hS ?_
      simp only [Act.put, List.setIfInBounds_toArray, List.set_cons_zero, List.set_cons_succ]
      refine reg_call 4 rfl (by kernel_rfl) (by rfl) (fun K hK => ?_)
      go_simp
      go_at_call 40
      refine (args_eq (K2.out _ hS) (by with_reducible rfl)).mono ?_
      rintro e y ⟨rfl, hb⟩
      refine hK.out _ _ (KP _ _ hb hS) (fun hS' => ?_)
      clear hK K
      replace hS := hS'
      clear hS'
      try simp only [Act.put, List.setIfInBounds_toArray, List.set_cons_zero, List.set_cons_succ]
      refine reg_take 5 (v := ?_) rfl (by kernel_rfl) (by kernel_rfl) (by kernel_rfl) (fun _ _ _ h => h) (by rfl) (by intro w hSw; (try dsimp only at hSw); go_simp; first | done | with_reducible rfl) hS ?_
      simp only [Act.put, List.setIfInBounds_toArray, List.set_cons_zero, List.set_cons_succ]
      refine reg_take 6 (v := ?_) rfl (by kernel_rfl) (by kernel_rfl) (by kernel_rfl) (fun _ _ _ h => h) (by rfl) (by intro w hSw; (try dsimp only at hSw); go_simp; first | done | with_reducible rfl) hS ?_
      simp only [Act.put, List.setIfInBounds_toArray, List.set_cons_zero, List.set_cons_succ]
      refine reg_skip 7 rfl (by kernel_rfl) (by kernel_rfl) (by kernel_rfl) (fun _ _ _ h => h) (by rfl) hS ?_
      simp only [Act.put, List.setIfInBounds_toArray, List.set_cons_zero, List.set_cons_succ]
      refine reg_skip 8 rfl (by kernel_rfl) (by kernel_rfl) (by kernel_rfl) (fun _ _ _ h => h) (by rfl) hS ?_
      simp only [Act.put, List.setIfInBounds_toArray, List.set_cons_zero, List.set_cons_succ]
      refine reg_skip 9 rfl (by kernel_rfl) (by kernel_rfl) (by kernel_rfl) (fun _ _ _ h => h) (by rfl) hS ?_
      simp only [Act.put, List.setIfInBounds_toArray, List.set_cons_zero, List.set_cons_succ]
      refine reg_skip 10 rfl (by kernel_rfl) (by kernel_rfl) (by kernel_rfl) (fun _ _ _ h => h) (by rfl) hS ?_
      simp only [Act.put, List.setIfInBounds_toArray, List.set_cons_zero, List.set_cons_succ]
      refine reg_skip 11 rfl (by kernel_rfl) (by kernel_rfl) (by kernel_rfl) (fun _ _ _ h => h) (by rfl) hS ?_
      simp only [Act.put, List.setIfInBounds_toArray, List.set_cons_zero, List.set_cons_succ]
      refine reg_skip 12 rfl (by kernel_rfl) (by kernel_rfl) (by kernel_rfl) (fun _ _ _ h => h) (by rfl) hS ?_
      simp only [Act.put, List.setIfInBounds_toArray, List.set_cons_zero, List.set_cons_succ]
      refine reg_skip 13 rfl (by kernel_rfl) (by kernel_rfl) (by kernel_rfl) (fun _ _ _ h => h) (by rfl) hS ?_
      simp only [Act.put, List.setIfInBounds_toArray, List.set_cons_zero, List.set_cons_succ]
      refine reg_take 14 (v := ?_) rfl (by kernel_rfl) (by kernel_rfl) (by kernel_rfl) (fun _ _ _ h => h) (by rfl) (by intro w hSw; (try dsimp only at hSw); go_simp; first | done | with_reducible rfl) hS ?_
      simp only [Act.put, List.setIfInBounds_toArray, List.set_cons_zero, List.set_cons_succ]
      refine reg_take 15 (v := ?_) rfl (by kernel_rfl) (by kernel_rfl) (by kernel_rfl) (fun _ _ _ h => h) (by rfl) (by intro w hSw; (try dsimp only at hSw); go_simp; first | done | with_reducible rfl) hS ?_
      simp only [Act.put, List.setIfInBounds_toArray, List.set_cons_zero, List.set_cons_succ]
      refine wpAnyH_done (by kernel_rfl) ?_ _
      all_goals
        have HY := HW.out y hS
        go_wp2_with fail
        go_ret
        exact ⟨rfl, HY⟩
  · have K1 := Lib.hid (fun (u : World) (h : u.cell? ⟨w.heap.size, 0, none⟩ = some (.int .i64 n) ∧ u.cell? ⟨w.heap.size, 1, none⟩ = some (.slice a xs.length cap) ∧ u.cell? ⟨w.heap.size + 1, 0, none⟩ = some (.int .i64 m) ∧ u.cell? ⟨w.heap.size + 1, 1, none⟩ = some (.slice a2 ys.length cap2) ∧ Below G.heap.size G u) => ImplOkY lo hi n _ xs false u (HC1.out u h).1 (HC1.out u h).2 (blk_no h1).symm)
    have hans : areP n m xs ys = false := by unfold areP; rw [← blk_no h1]; rfl
    rw [hans]
    clear hans h1 HC1 HC2
    go_enter Tryd.func39, Tryd.ntmps39
    go_upto_region 1 with fail
    rw [← hG]
    clear hG
    try simp only [List.append_eq, List.cons_append, List.nil_append]
    have hS : G.drew.cell? ⟨w.heap.size, 0, none⟩ = some (.int .i64 n) ∧ G.drew.cell? ⟨w.heap.size, 1, none⟩ = some (.slice a xs.length cap) ∧ G.drew.cell? ⟨w.heap.size + 1, 0, none⟩ = some (.int .i64 m) ∧ G.drew.cell? ⟨w.heap.size + 1, 1, none⟩ = some (.slice a2 ys.length cap2) ∧ Below G.heap.size G G.drew := S0
    refine reg_begin (fun w' => w'.cell? ⟨w.heap.size, 0, none⟩ = some (.int .i64 n) ∧ w'.cell? ⟨w.heap.size, 1, none⟩ = some (.slice a xs.length cap) ∧ w'.cell? ⟨w.heap.size + 1, 0, none⟩ = some (.int .i64 m) ∧ w'.cell? ⟨w.heap.size + 1, 1, none⟩ = some (.slice a2 ys.length cap2) ∧ Below G.heap.size G w') (by kernel_rfl) hS ?_
    refine reg_take 0 (v := ?_) rfl (by kernel_rfl) (by kernel_rfl) (by kernel_rfl) (fun _ _ _ h => h) (by rfl) (by intro w hSw; (try dsimp only at hSw); go_simp; first | done | with_reducible rfl) hS ?_
    simp only [Act.put, List.setIfInBounds_toArray, List.set_cons_zero, List.set_cons_succ]
    refine reg_call 1 rfl (by kernel_rfl) (by rfl) (fun K hK => ?_)
    go_simp
    go_at_call 40
    refine (args_eq (K1.out _ hS) (by with_reducible rfl)).mono ?_
    rintro e y ⟨rfl, hb⟩
    refine hK.out _ _ (KP _ _ hb hS) (fun hS' => ?_)
    clear hK K
    replace hS := hS'
    clear hS'
    try simp only [Act.put, List.setIfInBounds_toArray, List.set_cons_zero, List.set_cons_succ]
    refine reg_take 2 (v := ?_) rfl (by kernel_rfl) (by kernel_rfl) (by kernel_rfl) (fun _ _ _ h => h) (by rfl) (by intro w hSw; (try dsimp only at hSw); go_simp; first | done | with_reducible rfl) hS ?_
    simp only [Act.put, List.setIfInBounds_toArray, List.set_cons_zero, List.set_cons_succ]
    refine reg_skip 3 rfl (by kernel_rfl) (by kernel_rfl) (by kernel_rfl) (fun _ _ _ h => h) (by rfl) hS ?_
    simp only [Act.put, List.setIfInBounds_toArray, List.set_cons_zero, List.set_cons_succ]
    refine reg_skip 4 rfl (by kernel_rfl) (by kernel_rfl) (by kernel_rfl) (fun _ _ _ h => h) (by rfl) hS ?_
    simp only [Act.put, List.setIfInBounds_toArray, List.set_cons_zero, List.set_cons_succ]
    refine reg_take 5 (v := ?_) rfl (by kernel_rfl) (by kernel_rfl) (by kernel_rfl) (fun _ _ _ h => h) (by rfl) (by intro w hSw; (try dsimp only at hSw); go_simp; first | done | with_reducible rfl) hS ?_
    simp only [Act.put, List.setIfInBounds_toArray, List.set_cons_zero, List.set_cons_succ]
    refine reg_take 6 (v := ?_) rfl (by kernel_rfl) (by kernel_rfl) (by kernel_rfl) (fun _ _ _ h => h) (by rfl) (by intro w hSw; (try dsimp only at hSw); go_simp; first | done | with_reducible rfl) hS ?_
    simp only [Act.put, List.setIfInBounds_toArray, List.set_cons_zero, List.set_cons_succ]
    refine reg_skip 7 rfl (by kernel_rfl) (by kernel_rfl) (by kernel_rfl) (fun _ _ _ h => h) (by rfl) hS ?_
    simp only [Act.put, List.setIfInBounds_toArray, List.set_cons_zero, List.set_cons_succ]
    refine reg_skip 8 rfl (by kernel_rfl) (by kernel_rfl) (by kernel_rfl) (fun _ _ _ h => h) (by rfl) hS ?_
    simp only [Act.put, List.setIfInBounds_toArray, List.set_cons_zero, List.set_cons_succ]
    refine reg_skip 9 rfl (by kernel_rfl) (by kernel_rfl) (by kernel_rfl) (fun _ _ _ h => h) (by rfl) hS ?_
    simp only [Act.put, List.setIfInBounds_toArray, List.set_cons_zero, List.set_cons_succ]
    refine reg_skip 10 rfl (by kernel_rfl) (by kernel_rfl) (by kernel_rfl) (fun _ _ _ h => h) (by rfl) hS ?_
    simp only [Act.put, List.setIfInBounds_toArray, List.set_cons_zero, List.set_cons_succ]
    refine reg_skip 11 rfl (by kernel_rfl) (by kernel_rfl) (by kernel_rfl) (fun _ _ _ h => h) (by rfl) hS ?_
    simp only [Act.put, List.setIfInBounds_toArray, List.set_cons_zero, List.set_cons_succ]
    refine reg_skip 12 rfl (by kernel_rfl) (by kernel_rfl) (by kernel_rfl) (fun _ _ _ h => h) (by rfl) hS ?_
    simp only [Act.put, List.setIfInBounds_toArray, List.set_cons_zero, List.set_cons_succ]
    refine reg_skip 13 rfl (by kernel_rfl) (by kernel_rfl) (by kernel_rfl) (fun _ _ _ h => h) (by rfl) hS ?_
    simp only [Act.put, List.setIfInBounds_toArray, List.set_cons_zero, List.set_cons_succ]
    refine reg_take 14 (v := ?_) rfl (by kernel_rfl) (by kernel_rfl) (by kernel_rfl) (fun _ _ _ h => h) (by rfl) (by intro w hSw; (try dsimp only at hSw); go_simp; first | done | with_reducible rfl) hS ?_
    simp only [Act.put, List.setIfInBounds_toArray, List.set_cons_zero, List.set_cons_succ]
    refine reg_take 15 (v := ?_) rfl (by kernel_rfl) (by kernel_rfl) (by kernel_rfl) (fun _ _ _ h => h) (by rfl) (by intro w hSw; (try dsimp only at hSw); go_simp; first | done | with_reducible rfl) hS ?_
    simp only [Act.put, List.setIfInBounds_toArray, List.set_cons_zero, List.set_cons_succ]
    refine wpAnyH_done (by kernel_rfl) ?_ _
    all_goals
      have HY := HW.out y hS
      go_wp2_with fail
      go_ret
      exact ⟨rfl, HY⟩

theorem ImplAreSame_any (lo hi lo2 hi2 : Nat) (n m : Int) (v v2 : Value) (xs ys : List C3) (w : World) (r : CellIn lo hi w v xs) (hhi : hi ≤ w.heap.size) (r2 : CellIn lo2 hi2 w v2 ys) (hhi2 : hi2 ≤ w.heap.size) :
    Calls Tryd.prog 18 #[.agg #[.int .i64 n, v], .agg #[.int .i64 m, v2]] w fun e w' => e = .returned (.bool (areF n m xs ys)) ∧ Below w.heap.size w w' := by
  obtain ⟨a, cap, rfl⟩ := r.form
  obtain ⟨a2, cap2, rfl⟩ := r2.form
  have CV := Lib.hid (HaveAreSame_any lo hi lo2 hi2 n m _ _ xs ys ((w.alloc (.cells #[.int .i64 n, .slice a xs.length cap] 28)).alloc (.cells #[.int .i64 m, .slice a2 ys.length cap2] 28)) (r.below ((bel_n (bel0 w _) (Nat.le_refl _) _).mono hhi)) (by simp; omega) (r2.below ((bel_n (bel0 w _) (Nat.le_refl _) _).mono hhi2)) (by simp; omega))
  clear r r2
  generalize areF n m xs ys = b at CV ⊢
  go_enter Tryd.func18, Tryd.ntmps18
  go_wp2_with fail
  refine CV.out.mono ?_
  rintro e w3 ⟨rfl, hb3⟩
  have HB := Lib.hid (bel_c (bel_n (bel0 w (.cells #[.int .i64 n, .slice a xs.length cap] 28)) (Nat.le_refl _) (.cells #[.int .i64 m, .slice a2 ys.length cap2] 28)) (Nat.le_refl _) hb3)
  clear hb3 CV
  go_wp2_with fail
  go_ret
  exact ⟨rfl, HB.out⟩
theorem ImplArePatternsSame_any (lo hi lo2 hi2 : Nat) (n m : Int) (v v2 : Value) (xs ys : List C3) (w : World) (r : CellIn lo hi w v xs) (hhi : hi ≤ w.heap.size) (r2 : CellIn lo2 hi2 w v2 ys) (hhi2 : hi2 ≤ w.heap.size) :
    Calls Tryd.prog 20 #[.agg #[.int .i64 n, v], .agg #[.int .i64 m, v2]] w fun e w' => e = .returned (.bool (areP n m xs ys)) ∧ Below w.heap.size w w' := by
  obtain ⟨a, cap, rfl⟩ := r.form
  obtain ⟨a2, cap2, rfl⟩ := r2.form
  have CV := Lib.hid (HaveArePatternsSame_any lo hi lo2 hi2 n m _ _ xs ys ((w.alloc (.cells #[.int .i64 n, .slice a xs.length cap] 28)).alloc (.cells #[.int .i64 m, .slice a2 ys.length cap2] 28)) (r.below ((bel_n (bel0 w _) (Nat.le_refl _) _).mono hhi)) (by simp; omega) (r2.below ((bel_n (bel0 w _) (Nat.le_refl _) _).mono hhi2)) (by simp; omega))
  clear r r2
  generalize areP n m xs ys = b at CV ⊢
  go_enter Tryd.func20, Tryd.ntmps20
  go_wp2_with fail
  refine CV.out.mono ?_
  rintro e w3 ⟨rfl, hb3⟩
  have HB := Lib.hid (bel_c (bel_n (bel0 w (.cells #[.int .i64 n, .slice a xs.length cap] 28)) (Nat.le_refl _) (.cells #[.int .i64 m, .slice a2 ys.length cap2] 28)) (Nat.le_refl _) hb3)
  clear hb3 CV
  go_wp2_with fail
  go_ret
  exact ⟨rfl, HB.out⟩

end Go.Proofs.YtfidnhhlcdbaeaaDoor

namespace Go.Proofs.YtfidnhhlcdbaeaaDoor
open Go.ChangeShapes Go.WideShapes Go.ChangeAt Go.RowKit

set_option maxRecDepth 100000 in
set_option maxHeartbeats 4000000 in
theorem ImplCountForms_any (lo hi : Nat) (n : Int) (v : Value) (xs : List C3) (w : World) (r : CellIn lo hi w v xs) (hhi : hi ≤ w.heap.size) : Calls Tryd.prog 22 #[.agg #[.int .i64 n, v]] w fun e w' => e = .returned (.int .i64 (forms n xs)) ∧ Below w.heap.size w w' := by
  obtain ⟨a, cap, rfl⟩ := r.form
  have HR := Lib.hid (fun W (hb : Below w.heap.size w W) => r.below (hb.mono hhi))
  clear r
  by_cases hb : BlkOk n xs
  · have HB := Lib.hid hb
    have HF : Hid (∀ l, Views n (fun k => seeL n k xs) l → (hd (srt 7 l) 8 : Int) = forms n xs) := Lib.hid (fun l hv => forms_hd hb hv)
    have HVV : Hid (turnN n xs = n ∧ fV n xs = fun k => seeL n k xs) := Lib.hid ⟨(turnB_yes hb).1, funext (fun k => fV_yes hb k)⟩
    clear hb
    generalize forms n xs = ans at HF ⊢
    go_enter Tryd.func22, Tryd.ntmps22
    go_wp2_with fail
    refine (ImplBlockOk_yes lo hi n _ xs _ (HR.out _ (bel0 w _)) (by simp; omega) HB.out).mono ?_
    rintro e w1 ⟨rfl, hb1⟩
    have p0 := kept (p := ⟨w.heap.size, 0, none⟩) (x := .int .i64 n) hb1 (by go_simp)
    have p1 := kept (p := ⟨w.heap.size, 1, none⟩) (x := .slice a xs.length cap) hb1 (by go_simp)
    have B1 := Lib.hid (bel_c (bel0 w (.cells #[.int .i64 n, .slice a xs.length cap] 28)) (Nat.le_refl _) hb1)
    clear hb1
    have CV := FromAllV_any lo hi n _ xs w1 (HR.out _ B1.out) (Nat.le_trans hhi B1.out.size)
    rw [HVV.out.1, HVV.out.2] at CV
    have CV := Lib.hid CV
    go_wp2_with fail
    refine CV.out.mono ?_
    rintro e w2 ⟨g, l, rfl, hg, hv, hrow, hb2⟩
    have HA := Lib.hid (HF.out l hv)
    have hlen := hv.1
    have hgw : w.heap.size ≤ g := Nat.le_trans B1.out.size hg
    have B2 := Lib.hid (bel_c B1.out (Nat.le_refl _) hb2)
    have CS := Lib.hid (SortFunc_any g l w2 hrow hlen)
    clear p0 p1 hb2 hv hg hrow CV HF
    go_wp2_with fail
    refine CS.out.mono ?_
    rintro e w3 ⟨rfl, hrow3, hbut3⟩
    have CC := Lib.hid (Compact_any g (srt 7 l) w3 hrow3 (by rw [srt_len]; exact hlen))
    have B3 := Lib.hid (B2.out.trans (hbut3.below hgw B2.out.size))
    clear hrow3 hbut3 CS B1 B2 hlen
    go_wp2_with fail
    refine CC.out.mono ?_
    rintro e w4 ⟨rfl, hbut4⟩
    have B4 := Lib.hid (B3.out.trans (hbut4.below hgw B3.out.size))
    clear hbut4 CC B3
    generalize hd (srt 7 l) 8 = z at HA ⊢
    go_wp2_with fail
    go_ret
    exact ⟨by rw [← HA.out]; rfl, B4.out⟩
  · rw [forms_no hb]
    have HB := Lib.hid hb
    clear hb
    go_enter Tryd.func22, Tryd.ntmps22
    go_wp2_with fail
    refine (ImplBlockOk_no lo hi n _ xs _ (HR.out _ (bel0 w _)) (by simp; omega) HB.out).mono ?_
    rintro e w1 ⟨rfl, hb1⟩
    go_wp2_with fail
    go_ret
    exact ⟨rfl, bel_c (bel0 w _) (Nat.le_refl _) hb1⟩

end Go.Proofs.YtfidnhhlcdbaeaaDoor

namespace Go.Proofs.YtfidnhhlcdbaeaaDoor
open Go.ChangeShapes Go.WideShapes Go.ChangeAt Go.RowKit

theorem SpecFirstY (lo hi : Nat) (n : Int) (v : Value) (xs : List C3) (fs : List Int) (u : World) (r : CellIn lo hi u v xs) (h : hi ≤ u.heap.size) (hb : BlkOk n xs) (e : fuL xs = fs) :
    Calls Tryd.prog 59 #[.agg #[.int .i64 n, v]] u (FreshI fs u) := by
  have := SpecFirstUse_any lo hi n v xs u r h
  rw [fu_yes hb, e] at this
  exact this
theorem SpecExBlockY (lo hi lo2 hi2 : Nat) (n : Int) (v vl : Value) (xs ys : List C3) (zs : List Int) (u : World) (r : CellIn lo hi u v xs) (h : hi ≤ u.heap.size) (rl : IntO lo2 hi2 u vl zs) (h2 : hi2 ≤ u.heap.size) (hb : BlkOk n xs) (hz : LstOk zs) (e : exL zs xs = ys) :
    Calls Tryd.prog 58 #[.agg #[.int .i64 n, v], vl] u (FreshBB n ys true u) := by
  have := SpecExchangeBlock_any lo hi lo2 hi2 n v vl xs zs u r h rl h2
  rw [(exA_yes ⟨hb, hz⟩).1, (exA_yes ⟨hb, hz⟩).2, e] at this
  exact this
set_option maxRecDepth 100000 in
set_option maxHeartbeats 8000000 in
theorem SpecPlain_yes (lo hi : Nat) (n : Int) (v : Value) (xs : List C3) (w : World) (r : CellIn lo hi w v xs) (hhi : hi ≤ w.heap.size) (hok : BlkOk n xs) :
    Calls Tryd.prog 36 #[.agg #[.int .i64 n, v]] w (FreshB n (plainL xs) w) := by
  obtain ⟨a, cap, rfl⟩ := r.form
  have hl := r.1
  have HR := Lib.hid (fun W (hb : Below w.heap.size w W) => r.below (hb.mono hhi))
  clear r
  obtain ⟨fs, hfs⟩ : ∃ fs, fuL xs = fs := ⟨_, rfl⟩
  have HFS := Lib.hid hfs
  have HFO : Hid (LstOk fs) := Lib.hid (hfs ▸ (fuL_exch hok).1)
  obtain ⟨ps, hps⟩ : ∃ ps, exL fs xs = ps := ⟨_, rfl⟩
  have HPS := Lib.hid hps
  have hpl : plainL xs = ps := by unfold plainL; rw [hfs, hps]
  rw [hpl]
  have HK := Lib.hid hok
  clear hfs hps hpl hok
  obtain ⟨G, hG⟩ : ∃ G, G = (w.alloc (.cells #[.int .i64 n, .slice a xs.length cap] 28)).alloc (.cells #[.int .i64 0, .slice none 0 0] 28) := ⟨_, rfl⟩
  have HZG : Hid (G.heap.size = w.heap.size + 1 + 1) := Lib.hid (by rw [hG]; simp)
  have HBG : Hid (Below w.heap.size w G) := Lib.hid (by rw [hG]; exact bel_n (bel0 _ _) (Nat.le_refl _) _)
  have HX : Hid (BoxB w.heap.size (.int .i64 n) (.slice a xs.length cap) G ∧ BoxB (w.heap.size + 1) (.int .i64 0) (.slice none 0 0) G) := Lib.hid (by
    rw [hG]
    refine ⟨(BoxB.new w _ _ _).below (bel0 _ _) (by simp), ?_⟩
    have h := BoxB.new (w.alloc (.cells #[.int .i64 n, .slice a xs.length cap] 28)) (.int .i64 0) (.slice none 0 0) 28
    simpa using h)
  have pX : w.heap.size < G.heap.size := by have := HZG.out; omega
  go_enter Tryd.func36, Tryd.ntmps36
  go_upto_region 1 with fail
  rw [← hG]
  clear hG
  have D0 : Below G.heap.size G G.drew := ⟨rfl, rfl, rfl, Nat.le_refl _, fun _ _ => rfl⟩
  have KP : ∀ u v, Below u.heap.size u v → (u.cell? ⟨w.heap.size, 0, none⟩ = some (.int .i64 n) ∧ u.cell? ⟨w.heap.size, 1, none⟩ = some (.slice a xs.length cap) ∧ Below G.heap.size G u) → (v.cell? ⟨w.heap.size, 0, none⟩ = some (.int .i64 n) ∧ v.cell? ⟨w.heap.size, 1, none⟩ = some (.slice a xs.length cap) ∧ Below G.heap.size G v) := fun u v hb h => ⟨kept hb h.1, kept hb h.2.1, bel_c h.2.2 (Nat.le_refl _) hb⟩
  have KS : ∀ (u : World) (p : Nat) (v0 v1 : Value), G.heap.size ≤ p → (u.cell? ⟨w.heap.size, 0, none⟩ = some (.int .i64 n) ∧ u.cell? ⟨w.heap.size, 1, none⟩ = some (.slice a xs.length cap) ∧ Below G.heap.size G u) → (((u.setCell ⟨p, 0, none⟩ v0).setCell ⟨p, 1, none⟩ v1).cell? ⟨w.heap.size, 0, none⟩ = some (.int .i64 n) ∧ ((u.setCell ⟨p, 0, none⟩ v0).setCell ⟨p, 1, none⟩ v1).cell? ⟨w.heap.size, 1, none⟩ = some (.slice a xs.length cap) ∧ Below G.heap.size G ((u.setCell ⟨p, 0, none⟩ v0).setCell ⟨p, 1, none⟩ v1)) := by
    intro u p v0 v1 hp h
    have h1 : p ≠ w.heap.size := by omega
    have f : ∀ (q o : Nat), p ≠ q → ((u.setCell ⟨p, 0, none⟩ v0).setCell ⟨p, 1, none⟩ v1).cell? ⟨q, o, none⟩ = u.cell? ⟨q, o, none⟩ := fun q o hq => by
      rw [World.cell?_setCell_other _ _ _ _ (by simp), World.cell?_setCell_other _ _ _ _ (by simp)]
    exact ⟨(f _ _ h1).trans h.1, (f _ _ h1).trans h.2.1, (h.2.2.setCell (p := ⟨p, 0, none⟩) hp _).setCell (p := ⟨p, 1, none⟩) hp _⟩
  have HSZ : Hid (∀ u, (u.cell? ⟨w.heap.size, 0, none⟩ = some (.int .i64 n) ∧ u.cell? ⟨w.heap.size, 1, none⟩ = some (.slice a xs.length cap) ∧ Below G.heap.size G u) → G.heap.size ≤ u.heap.size) := Lib.hid (fun u h => h.2.2.size)
  have CF := Lib.hid (fun (u : World) (h : u.cell? ⟨w.heap.size, 0, none⟩ = some (.int .i64 n) ∧ u.cell? ⟨w.heap.size, 1, none⟩ = some (.slice a xs.length cap) ∧ Below G.heap.size G u) => SpecFirstY lo hi n _ xs fs u (HR.out _ (bel_c HBG.out (Nat.le_refl _) h.2.2)) (Nat.le_trans hhi (bel_c HBG.out (Nat.le_refl _) h.2.2).size) HK.out HFS.out)
  have CE := Lib.hid (fun (u : World) (h : u.cell? ⟨w.heap.size, 0, none⟩ = some (.int .i64 n) ∧ u.cell? ⟨w.heap.size, 1, none⟩ = some (.slice a xs.length cap) ∧ Below G.heap.size G u) (l2 h2 : Nat) (vl : Value) (rl : IntO l2 h2 u vl fs) (hh : h2 ≤ u.heap.size) => SpecExBlockY lo hi l2 h2 n _ vl xs ps fs u (HR.out _ (bel_c HBG.out (Nat.le_refl _) h.2.2)) (Nat.le_trans hhi (bel_c HBG.out (Nat.le_refl _) h.2.2).size) rl hh HK.out HFO.out HPS.out)
  have S0 : G.drew.cell? ⟨w.heap.size, 0, none⟩ = some (.int .i64 n) ∧ G.drew.cell? ⟨w.heap.size, 1, none⟩ = some (.slice a xs.length cap) ∧ Below G.heap.size G G.drew := ⟨kept D0 HX.out.1.1, kept D0 HX.out.1.2.1, D0⟩
  go_cut [3, 4] (fun q t wx => WR n true ps G q t wx)
  case first =>
    go_region_held3 (fun w' => w'.cell? ⟨w.heap.size, 0, none⟩ = some (.int .i64 n) ∧ w'.cell? ⟨w.heap.size, 1, none⟩ = some (.slice a xs.length cap) ∧ Below G.heap.size G w') (first | assumption | exact KP _ _ (bel0 _ _) (by assumption) | exact KS _ _ _ _ (by first | omega | (simp; omega)) (by assumption) | (refine KP _ _ (by assumption) ?_; assumption))
      ((first
        | (go_at_call 59; refine (args_eq (CF.out G.drew S0) (by with_reducible rfl)).mono ?_; rintro e yf ⟨vf, rfl, RF, hbf⟩; obtain ⟨af, cf, rfl⟩ := RF.form; have HRF := Lib.hid (fun v (hv : Below yf.heap.size yf v) => RF.below (hv.mono (Nat.le_refl _))); clear RF; have S4 := KP _ _ hbf S0; have zf := HSZ.out _ S4; clear hbf)
        | (go_at_call 59; refine (args_eq (CF.out (G.drew.alloc (.cells #[.int .i64 0, .slice none 0 0] 28)) (KP _ _ (bel0 _ _) S0)) (by with_reducible rfl)).mono ?_; rintro e yf ⟨vf, rfl, RF, hbf⟩; obtain ⟨af, cf, rfl⟩ := RF.form; have HRF := Lib.hid (fun v (hv : Below yf.heap.size yf v) => RF.below (hv.mono (Nat.le_refl _))); clear RF; have bz3 := Lib.hid (show BoxB G.heap.size (.int .i64 0) (.slice none 0 0) yf from (BoxB.new G.drew (.int .i64 0) (.slice none 0 0) 28).below hbf (by simp)); have S4 := KP _ _ hbf (KP _ _ (bel0 _ _) S0); have zf := HSZ.out _ S4; clear hbf)
        | (go_at_call 58; refine (args_eq (CE.out (yf.alloc (.cells #[.int .i64 0, .slice none 0 0] 28)) (KP _ _ (bel0 _ _) S4) _ _ _ (HRF.out _ (bel0 _ _)).o (bel0 _ _).size) (by with_reducible rfl)).mono ?_; rintro e ye ⟨ve, rfl, RE, hbe⟩; obtain ⟨ae, ce, rfl⟩ := RE.form; have RE := Lib.hid RE; have bz3 := Lib.hid ((BoxB.new yf (.int .i64 0) (.slice none 0 0) 28).below hbe (bel0_lt _ _)); have S5 := KP _ _ hbe (KP _ _ (bel0 _ _) S4); have ze := HSZ.out _ S5; have hpz : yf.heap.size < (yf.alloc (.cells #[.int .i64 0, .slice none 0 0] 28)).heap.size := bel0_lt _ _; obtain ⟨j0, j1, j2, j3⟩ := bz3.out)
        | (go_at_call 58; have bz4 := bz3; refine (args_eq (CE.out yf S4 _ _ _ (HRF.out _ (Below.refl _ _)).o (Nat.le_refl _)) (by with_reducible rfl)).mono ?_; rintro e ye ⟨ve, rfl, RE, hbe⟩; obtain ⟨ae, ce, rfl⟩ := RE.form; have RE := Lib.hid RE; have hpz := bz4.out.lt; have bz3 := Lib.hid (bz4.out.below hbe bz4.out.lt); have S5 := KP _ _ hbe S4; have ze := HSZ.out _ S5; obtain ⟨j0, j1, j2, j3⟩ := bz3.out)
        | (go_at_call 58; refine (args_eq (CE.out yf S4 _ _ _ (HRF.out _ (Below.refl _ _)).o (Nat.le_refl _)) (by with_reducible rfl)).mono ?_; rintro e ye ⟨ve, rfl, RE, hbe⟩; obtain ⟨ae, ce, rfl⟩ := RE.form; have RE := Lib.hid RE; have S5 := KP _ _ hbe S4; have ze := HSZ.out _ S5)))
    all_goals
      have hsz := HSZ.out _ S4
      first
      | (have hez := bz3.out; go_wp2_with fail; go_meet; exact WR.old RE.out bz3.out S5.2.2 (by omega) (by omega) (.inl (by omega)))
      | (go_wp2_with fail; go_meet; exact WR.new RE.out S5.2.2 (by omega))
  case rest =>
    obtain ⟨p2, a2, c2, l2, h2, rfl, rfl, bx2, R2, -, zl2, zp2, zh2, hb⟩ := hcut
    have HX2 := HX.out.2.below hb (by have := HZG.out; omega)
    obtain ⟨d0, d1, g0, g1⟩ := HX2
    obtain ⟨q0, q1, _, _⟩ := bx2
    have HB := Lib.hid (bel_c HBG.out (Nat.le_refl _) hb)
    have hz := HZG.out
    clear hb S0 D0 KP KS CF CE HSZ
    go_wp2_with fail
    refine bodyPost_ret (v := .agg #[.int .i64 n, .slice a2 ps.length c2]) (by simp [results, Tryd.results36, go_sem, d0, d1]) rfl ⟨_, rfl, ?_, ?_⟩
    · refine CellIn.wide (lo := l2) (hi := h2) ?_ (by omega) (by simp [World.setCell]; omega)
      refine CellIn.set_far (CellIn.set_far R2 ?_ _) ?_ _ <;> (simp <;> omega)
    · refine Below.setCell (Below.setCell HB.out ?_ _) ?_ _ <;> (simp <;> omega)

end Go.Proofs.YtfidnhhlcdbaeaaDoor
